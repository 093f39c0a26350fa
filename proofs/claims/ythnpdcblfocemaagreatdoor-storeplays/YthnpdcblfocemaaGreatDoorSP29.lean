/-
  Texts of this proof, joined: SqJ.
-/
import Derived.Test.YthnpdcblfocemaaGreatDoorSP24
import Derived.Test.YthnpdcblfocemaaGreatDoorSP25
import Derived.Test.YthnpdcblfocemaaGreatDoorSP28
import Derived.Laws.Cover3
set_option linter.unusedVariables false
set_option linter.unusedSimpArgs false
namespace Go.Proofs.YthnpdcblfocemaaGreatDoor
open Go.RowKit

def txC (q0 : Option Addr) (q1 q2 q3 q4 : Int) (v : Value) : List Value := [.pointer q0, .int .i64 q1, .int .i64 q2, .int .i64 q3, .int .i64 q4, v]
def tz16 : List Value := txC none 0 0 0 0 (.slice none 0 0)
theorem txC_one (q0 : Option Addr) (q1 q2 q3 q4 : Int) (ad : Option Addr) (n c : Nat) : ∀ u ∈ txC q0 q1 q2 q3 q4 (.slice ad n c), u.oneCell' = true := by
  intro u hu
  simp only [txC, List.mem_cons, List.not_mem_nil, or_false] at hu
  rcases hu with rfl | rfl | rfl | rfl | rfl | rfl <;> rfl
theorem info_tx16 : (Tryz.prog.info? 128).map (fun i => (i.zero, i.size)) = some (some (.agg tz16.toArray), 6) := by kernel_rfl
theorem sz_tx16 : (Tryz.prog.info? 128).map (·.size) = some 6 := by kernel_rfl
theorem zero_tx16 (w : World) : (zeroValue 128).run Tryz.prog w = .ok (.agg tz16.toArray) w := by
  have h := info_tx16
  cases hq : Tryz.prog.info? 128 with
  | none => rw [hq] at h; simp at h
  | some i =>
    rw [hq] at h
    simp only [Option.map_some, Option.some.injEq, Prod.mk.injEq] at h
    simp [zeroValue, typeInfo, hq, h.1]
theorem built_tx16 : Tryz.prog.built 128 [] = some tz16.toArray := by kernel_rfl
theorem bdT0 {ops : Array Oper} {rest : List Oper} {o : Oper} {a : Act} {w : World} {Q : Exit → Act → World → Prop} (hgd : o.guard = none) (ho : o.op = .build 128 #[])
    (h : wpList Tryz.prog ops Q rest (a.put o.dst (.agg tz16.toArray)) w) : wpList Tryz.prog ops Q (o :: rest) a w :=
  wpList_plain hgd fun K hK => by
    have hrun : (Instr.build 128 #[]).run Tryz.prog w = .ok (.agg tz16.toArray) w := run_build w _ _ _ built_tx16
    unfold Oper.wp
    simp [execOp, ho, hrun, Result.andThen]
    exact hK _ _ h
theorem ldSl {ops : Array Oper} {rest : List Oper} {o : Oper} {a : Act} {w : World} {Q : Exit → Act → World → Prop} (hgd : o.guard = none) (x : Operand) (ho : o.op = .load 153 x)
    (g : Nat) (xs : List Value) (hx : a.eval x = .pointer (some ⟨g, 0, none⟩)) (hr : Vb w g 153 xs) (hb : xs.length = 132)
    (h : wpList Tryz.prog ops Q rest (a.put o.dst (.agg xs.toArray)) w) : wpList Tryz.prog ops Q (o :: rest) a w := by
  have hu : (match Tryz.prog.underlying 153 with | some (.struct _) => true | _ => false) = true := by kernel_rfl
  cases hq : Tryz.prog.underlying 153 with
  | none => rw [hq] at hu; cases hu
  | some d =>
    rw [hq] at hu
    cases d <;> try (cases hu; done)
    case struct fs => exact wpList_load_mid hgd 153 x ho g 0 hx xs _ hr.all hq rfl (by rw [hb]; exact sz_sl16) h
theorem yields_bdSl {ops : Array Oper} {S : World → Prop} {o : Oper} {a : Act} (hw : Region.wanted o (yielded ops a.tmps) = true) (x y : Operand) (ho : o.op = .build 153 #[(0, x), (1, y)])
    (g which at_ room : Nat) (hd : List Nat) (hh : hd.length = 128) (hx : a.eval x = .agg (plC g which at_ room).toArray) (hy : a.eval y = bkV hd) : YieldsIf Tryz.prog ops S o (.agg (slC g which at_ room hd).toArray) a :=
  .inl ⟨hw, fun w _ => by
    have hrun : (Instr.build 153 #[(0, .agg (plC g which at_ room).toArray), (1, bkV hd)]).run Tryz.prog w = .ok (.agg (slC g which at_ room hd).toArray) w := run_build w _ _ _ (built_sl16 g which at_ room hd hh)
    simp [execOp, ho, hx, hy, hrun]⟩
theorem alS16 {ops : Array Oper} {o : Oper} {a : Act} {w : World} {K : Act → World → Prop} {Q : Exit → Act → World → Prop} {E : Prop} (hgd : o.guard = none) (T : TypeId) (xs : List Value)
    (hz : ∀ w, (zeroValue T).run Tryz.prog w = .ok (.agg xs.toArray) w) (ho : o.op = .alloc T)
    (h : ∀ w', Vb w' w.heap.size T xs → Below w.heap.size w w' → w'.heap.size = w.heap.size + 1 → K (a.put o.dst (.pointer (some ⟨w.heap.size, 0, none⟩))) w') : if Region.wanted o (yielded ops a.tmps) = true then Oper.wp Tryz.prog o a w K Q else E := by
  have hw : Region.wanted o (yielded ops a.tmps) = true := by simp [Region.wanted, hgd]
  rw [if_pos hw]
  exact alO T xs hz ho h
structure Hv16 (w : World) (B B1 g which a room : Nat) (X : World) : Prop where
  x0 : X.cell? ⟨B, 0, none⟩ = some (.pointer (some ⟨g, 0, none⟩))
  x1 : X.cell? ⟨B, 1, none⟩ = some (.int .i64 (which : Int))
  x2 : X.cell? ⟨B, 2, none⟩ = some (.int .i64 (a : Int))
  x3 : X.cell? ⟨B, 3, none⟩ = some (.int .i64 (room : Int))
  r : Vb X B1 128 tz16
  k : Below w.heap.size w X
  t : TbAt X
theorem Hv16.later {w : World} {B B1 g which a room : Nat} {X X' : World} (H : Hv16 w B B1 g which a room X) (k : Below X.heap.size X X') : Hv16 w B B1 g which a room X' :=
  ⟨cell_later k H.x0, cell_later k H.x1, cell_later k H.x2, cell_later k H.x3, H.r.later k, bchain H.k k, H.t.later k⟩
def HdR (w : World) (n er : Nat) (l : List Nat) (e : Ending) (w' : World) : Prop :=
  ∃ (q0 : Option Addr) (q1 q2 q3 : Int) (v : Value), e = .returned (.tuple #[.agg #[.pointer q0, .int .i64 q1, .int .i64 q2, .int .i64 q3, .int .i64 (n : Int), v], .int .i64 (er : Int)]) ∧ Bs w' v l ∧ Ow w.heap.size v ∧ Below w.heap.size w w'
theorem hv_new (w : World) (g which a room : Nat) (hT : TbAt w) : ∃ w1, w1 = w.alloc (.cells #[.pointer (some ⟨g, 0, none⟩), .int .i64 (which : Int), .int .i64 (a : Int), .int .i64 (room : Int)] 126) ∧ w1.heap.size = w.heap.size + 1 ∧ Below w.heap.size w w1 ∧
    ∀ w2, Vb w2 w1.heap.size 128 tz16 → Below w1.heap.size w1 w2 → Hv16 w w.heap.size w1.heap.size g which a room w2 := by
  refine ⟨_, rfl, by simp, bel1 _ _, fun w2 hV hB => ?_⟩
  have hb := bchain (bel1 w _) hB
  exact ⟨cell_later hB (by simp [go_sem]), cell_later hB (by simp [go_sem]), cell_later hB (by simp [go_sem]), cell_later hB (by simp [go_sem]), hV, hb, hT.later hb⟩
set_option maxRecDepth 100000 in
set_option maxHeartbeats 8000000 in
theorem heldD16 (V : Disk1) (w : World) (g : Nat) (F : Nat → Prop) (s : Dsk) (which a room : Nat) (hD : V.Dt w (.pointer (some ⟨g, 0, none⟩)) F s) (hT : TbAt w) (hd : s.dn = true) :
    Calls Tryz.prog 83 #[.agg #[.pointer (some ⟨g, 0, none⟩), .int .i64 (which : Int), .int .i64 (a : Int), .int .i64 (room : Int)]] w (HdR w 0 150 []) := by
  have hz := zero_tx16
  obtain ⟨w1, hw1, hs1, hb1, hnew⟩ := hv_new w g which a room hT
  have HD : Hid (V.Dt w (.pointer (some ⟨g, 0, none⟩)) F s ∧ dAsk s (a : Int) = 150 ∧ Below w.heap.size w w1) := ⟨hD, by unfold dAsk; rw [if_pos hd], hb1⟩
  clear hD hT hd hb1
  go_enter Tryz.func83, Tryz.ntmps83
  go_upto_region 1 with (rw [← hw1]; refine alV rfl 128 tz16 hz rfl ?_; intro w2 hV2 hB2 hS2)
  obtain ⟨B1, hB1⟩ : ∃ B1, w.heap.size + 1 = B1 := ⟨_, rfl⟩
  have HB1 : Hid (w.heap.size < B1) := by show _ < _; omega
  have HV : Hid (Hv16 w w.heap.size B1 g which a room w2) := by rw [← hB1, ← hs1]; exact hnew w2 hV2 hB2
  have hbw := bchain HD.out.2.2 hB2
  have C := V.read w2 _ F s (a : Int) (V.dtK HD.out.1 (fun i hi => hbw.block i (V.dtB HD.out.1 i hi)) hbw.size)
  rw [HD.out.2.1] at C
  have x0 := HV.out.x0
  have x2 := HV.out.x2
  rw [hB1]
  clear hw1 hs1 hnew hV2 hB2 hS2 hB1 hbw hz
  go_upto_region 2 with (go_at_call 87; refine C.mono ?_; rintro e w3 ⟨v7, rfl, hL7, -, hB7⟩; clear C)
  have HV3 : Hid (Hv16 w w.heap.size B1 g which a room w3) := HV.out.later hB7
  clear hL7 hB7 x0 x2 HV
  go_wp2_with (first
    | (refine bdT0 rfl rfl ?_)
    | (refine stV rfl 128 _ _ rfl B1 tz16 tz16 rfl rfl HV3.out.r rfl sz_tx16 (txC_one _ _ _ _ _ _ _ _) ?_; intro w4 hV4 hK4 hS4))
  have c0 := hV4.cell 0 _ rfl
  have c1 := hV4.cell 1 _ rfl
  have c2 := hV4.cell 2 _ rfl
  have c3 := hV4.cell 3 _ rfl
  have c4 := hV4.cell 4 _ rfl
  have c5 := hV4.cell 5 _ rfl
  exact bodyPost_ret (v := .tuple #[.agg #[.pointer none, .int .i64 0, .int .i64 0, .int .i64 0, .int .i64 0, .slice none 0 0], .int .i64 150]) (by simp [results, Tryz.results83, go_sem, c0, c1, c2, c3, c4, c5]) rfl ⟨none, 0, 0, 0, .slice none 0 0, rfl, bs_nilS _, ow_nilS _, hK4.next HV3.out.k (fun i hi => by have := HB1.out; omega) HV3.out.k.size⟩
end Go.Proofs.YthnpdcblfocemaaGreatDoor
