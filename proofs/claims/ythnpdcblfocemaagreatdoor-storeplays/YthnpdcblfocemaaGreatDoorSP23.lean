/-
  Texts of this proof, joined: SqB SqE SqF.
-/
import Derived.Test.YthnpdcblfocemaaGreatDoorSP20
import Derived.Test.YthnpdcblfocemaaGreatDoorSP22
import Derived.Deep.RegionHeld
import Derived.Great.FillDense
set_option linter.unusedVariables false
set_option linter.unusedSimpArgs false
namespace Go.Proofs.YthnpdcblfocemaaGreatDoor
open Go.RowKit

set_option maxRecDepth 100000 in
set_option maxHeartbeats 4000000 in
theorem number16 (h : List Nat) (hh : okb h) (p k : Nat) (hp : p + k ≤ 128) (hk : k ≤ 8) (w : World) :
    Calls Tryz.prog 94 #[bkV h, .int .i64 (p : Int), .int .i64 (k : Int)] w fun e w' => e = .returned (.int .u64 ((gt h p k : Nat) : Int)) ∧ Below w.heap.size w w' := by
  have HH : Hid (okb h) := hh
  have HG : Hid (∀ j, p + j < 128 → gt h p (j + 1) = gt h p j + h.getD (p + j) 0 * 2 ^ (8 * j)) := fun j hj => gt_succ h p j (by rw [hh.1]; exact hj)
  have HLt : Hid (∀ j, gt h p j < 2 ^ (8 * j)) := gt_lt hh.2 p
  have hV := Vb.new w 150 (b8 h)
  have HC : Hid (∀ j, j < 128 → (w.alloc (.cells (b8 h).toArray 150)).cell? ⟨w.heap.size, j, none⟩ = some (.int .u8 ((h.getD j 0 : Nat) : Int))) := fun j hj => hV.cell j _ (b8_cell h j (by rw [hh.1]; exact hj))
  have HB : Hid (Below w.heap.size w (w.alloc (.cells (b8 h).toArray 150))) := bel1 _ _
  unfold bkV
  clear hh hV
  go_enter Tryz.func94, Tryz.ntmps94
  go_upto_region 3 with fail
  generalize w.alloc (.cells (b8 h).toArray 150) = w1 at *
  go_loopw [7, 10] (fun s7 s10 wr => ∃ j : Nat, j ≤ k ∧ s10 = .int .i64 (j : Int) ∧ s7 = .int .u64 ((gt h p j : Nat) : Int) ∧ wr = w1) (fun _ s10 _ => k - (intOf s10).toNat)
  case atStart => exact ⟨0, by omega, rfl, rfl, rfl⟩
  case round =>
    obtain ⟨j, hj, rfl, rfl, hwr⟩ := hrel
    have hwr2 := hwr.symm
    subst hwr2
    clear hwr
    by_cases hlt : j < k
    · have hjI : (j : Int) < (k : Int) := by omega
      have HS : Hid (gt h p (j + 1) = gt h p j + h.getD (p + j) 0 * 2 ^ (8 * j)) := HG.out j (by omega)
      have hc := HC.out (p + j) (by omega)
      have hx := getD_byte HH.out.2 (p + j)
      have ha := HLt.out j
      obtain ⟨q, hq⟩ : ∃ q, p + j = q := ⟨_, rfl⟩
      obtain ⟨e8, he8⟩ : ∃ e8, 8 * j = e8 := ⟨_, rfl⟩
      rw [hq] at hc hx HS
      rw [he8] at ha HS
      have hqw : IntKind.i64.wrap ((p : Int) + (j : Int)) = (q : Int) := by rw [IntKind.wrap_i64]; omega
      have hew : IntKind.i64.wrap (8 * (j : Int)) = (e8 : Int) := by rw [IntKind.wrap_i64]; omega
      have hq2 : (q : Int) < 128 := by omega
      have he2 : e8 ≤ 56 := by omega
      have hpw : 2 ^ e8 ≤ 2 ^ 56 := Nat.pow_le_pow_right (by omega) he2
      have hor := or_plusq ha (h.getD q 0)
      have hy1 : h.getD q 0 * 2 ^ e8 < 18446744073709551616 := by
        have := Nat.mul_le_mul (show h.getD q 0 ≤ 255 by omega) hpw
        omega
      have ha1 : gt h p j < 18446744073709551616 := by omega
      have hor2 := or64q _ _ ha1 hy1
      rw [hor] at hor2
      have hw0 : IntKind.u64.wrap ((h.getD q 0 : Nat) : Int) = ((h.getD q 0 : Nat) : Int) := by rw [IntKind.wrap_u64]; omega
      have hw1 : IntKind.u64.wrap (((h.getD q 0 : Nat) : Int) * 2 ^ e8) = ((h.getD q 0 * 2 ^ e8 : Nat) : Int) := by
        rw [IntKind.wrap_u64, show (((h.getD q 0 : Nat) : Int) * 2 ^ e8) = ((h.getD q 0 * 2 ^ e8 : Nat) : Int) by simp]
        omega
      clear hq he8 ha hpw hor HG HLt HC hy1 ha1
      generalize gt h p j = A at *
      generalize h.getD q 0 = x at *
      go_wp2
      go_roundw
      case rel => exact ⟨j + 1, by omega, by go_num, by rw [HS.out, ← hor2, Int.natCast_mul, Int.natCast_pow]; rfl, trivial⟩
      case measure => simp [intOf]; omega
    · obtain rfl : j = k := by omega
      have hjI : ¬ (j : Int) < (j : Int) := by omega
      go_wp2
      go_ret
      exact ⟨rfl, HB.out⟩
theorem und_hd16 : Tryz.prog.underlying 150 = some (.array 128 5) := by kernel_rfl
theorem sz_hd16 : (Tryz.prog.info? 150).map (·.size) = some 128 := by kernel_rfl
theorem info_hd16 : (Tryz.prog.info? 150).map (fun i => (i.zero, i.size)) = some (some (bkV zr15), 128) := by kernel_rfl
theorem zero_hd16 (w : World) : (zeroValue 150).run Tryz.prog w = .ok (bkV zr15) w := by
  have h := info_hd16
  cases hq : Tryz.prog.info? 150 with
  | none => rw [hq] at h; simp at h
  | some i =>
    rw [hq] at h
    simp only [Option.map_some, Option.some.injEq, Prod.mk.injEq] at h
    simp [zeroValue, typeInfo, hq, h.1]
theorem ldH {ops : Array Oper} {rest : List Oper} {o : Oper} {a : Act} {w : World} {Q : Exit → Act → World → Prop} (hgd : o.guard = none) (x : Operand) (ho : o.op = .load 150 x)
    (g q : Nat) (b : List Nat) (hx : a.eval x = .pointer (some ⟨g, q, none⟩)) (hr : w.rangeAt g q (b8 b)) (hb : b.length = 128)
    (h : wpList Tryz.prog ops Q rest (a.put o.dst (bkV b)) w) : wpList Tryz.prog ops Q (o :: rest) a w :=
  wpList_load_mid hgd 150 x ho g q hx (b8 b) _ hr und_hd16 rfl (by rw [b8_len, hb]; exact sz_hd16) h
theorem res_hd16 {fn : Func} {p : Tmp} (hr : fn.results = #[.cell p 150]) (tmps : Array Value) {w : World} {g : Nat} {b : List Nat} (h : Vb w g 150 (b8 b)) (hb : b.length = 128) (hp : tmps.getD p undef = .pointer (some ⟨g, 0, none⟩)) :
    (results fn tmps).run Tryz.prog w = .ok (bkV b) w :=
  results_cell_row hr tmps w g 150 (b8 b).toArray (0, 0) _ hp h und_hd16 rfl (by
    have e : (b8 b).toArray.size = 128 := by rw [List.size_toArray, b8_len, hb]
    rw [e]; exact sz_hd16)
set_option maxRecDepth 100000 in
set_option maxHeartbeats 4000000 in
theorem with16 (h : List Nat) (hh : okb h) (p k x : Nat) (hp : p + k ≤ 128) (hk : k ≤ 8) (hx : x < 18446744073709551616) (w : World) :
    Calls Tryz.prog 97 #[bkV h, .int .i64 (p : Int), .int .i64 (k : Int), .int .u64 (x : Int)] w fun e w' => e = .returned (bkV (ptN h p k x)) ∧ Below w.heap.size w w' := by
  have HH : Hid (okb h) := hh
  have HS : Hid (∀ j, p + j < 128 → (ptN h p j x).set (p + j) (x / 2 ^ (8 * j) % 256) = ptN h p (j + 1) x) := fun j hj => ptN_succ h p j x (by rw [hh.1]; exact hj)
  have HO : Hid (∀ j, p + j ≤ 128 → okb (ptN h p j x)) := fun j hj => ptN_ok hh p j x hj
  have HZ : Hid (ptN h p 0 x = h) := ptN_zero h p x
  have HX : Hid (x < 18446744073709551616) := hx
  have hz := zero_hd16
  obtain ⟨wA, hwA⟩ : ∃ wA, wA = w.alloc (.cells (b8 h).toArray 150) := ⟨_, rfl⟩
  have hsA : wA.heap.size = w.heap.size + 1 := by rw [hwA]; simp
  have HA : Hid (Vb wA w.heap.size 150 (b8 h) ∧ Below w.heap.size w wA) := by rw [hwA]; exact ⟨Vb.new _ _ _, bel1 _ _⟩
  unfold bkV
  clear hh hx
  go_enter Tryz.func97, Tryz.ntmps97
  go_upto_region 2 with (refine alV rfl 150 (b8 zr15) hz rfl ?_; rw [← hwA]; intro wB hV3 hB3 hS3; rw [hsA] at hV3 hB3 hS3; rw [hsA])
  clear hwA
  have HB : Hid (Vb wB w.heap.size 150 (b8 (ptN h p 0 x)) ∧ Vb wB (w.heap.size + 1) 150 (b8 zr15) ∧ Below w.heap.size w wB) := ⟨by rw [HZ.out]; exact HA.out.1.kept (hB3.block _ (by omega)), hV3, HA.out.2.trans ⟨hB3.os, hB3.tape, hB3.output, hB3.size, fun q hq => hB3.block q (by omega)⟩⟩
  clear hV3 hB3 hS3 hsA HA hz
  go_loopw [11] (fun s11 wr => ∃ j : Nat, j ≤ k ∧ s11 = .int .i64 (j : Int) ∧ Hid (Vb wr w.heap.size 150 (b8 (ptN h p j x)) ∧ Vb wr (w.heap.size + 1) 150 (b8 zr15) ∧ Below w.heap.size w wr)) (fun s11 _ => k - (intOf s11).toNat)
  case atStart => exact ⟨0, by omega, rfl, HB.out⟩
  case round =>
    obtain ⟨j, hj, rfl, HW⟩ := hrel
    clear HB
    by_cases hlt : j < k
    · have hjI : (j : Int) < (k : Int) := by omega
      have HSj := HS.out j (by omega)
      have HOj := HO.out j (by omega)
      obtain ⟨q, hq⟩ : ∃ q, p + j = q := ⟨_, rfl⟩
      obtain ⟨e8, he8⟩ : ∃ e8, 8 * j = e8 := ⟨_, rfl⟩
      rw [hq, he8] at HSj
      have hc := HW.out.1.cell q _ (b8_cell _ q (by rw [HOj.1]; omega))
      have hf := HW.out.1.fro q
      have hqw : IntKind.i64.wrap ((p : Int) + (j : Int)) = (q : Int) := by rw [IntKind.wrap_i64]; omega
      have hew : IntKind.i64.wrap (8 * (j : Int)) = (e8 : Int) := by rw [IntKind.wrap_i64]; omega
      have hq2 : (q : Int) < 128 := by omega
      have hZ : (x : Int) / 2 ^ min e8 64 % 256 = ((x / 2 ^ e8 % 256 : Nat) : Int) := by
        rw [Nat.min_eq_left (by omega)]
        simp
      have HV2 : Hid (Vb (wr.setCell ⟨w.heap.size, q, none⟩ (.int .u8 ((x : Int) / 2 ^ min e8 64 % 256))) w.heap.size 150 (b8 (ptN h p (j + 1) x)) ∧ Vb (wr.setCell ⟨w.heap.size, q, none⟩ (.int .u8 ((x : Int) / 2 ^ min e8 64 % 256))) (w.heap.size + 1) 150 (b8 zr15) ∧ Below w.heap.size w (wr.setCell ⟨w.heap.size, q, none⟩ (.int .u8 ((x : Int) / 2 ^ min e8 64 % 256)))) :=
        ⟨by rw [hZ, ← HSj]; exact HW.out.1.setB q _, HW.out.2.1.kept (Below.heap_setCell _ _ _ _ (by simp)), HW.out.2.2.setCell (Nat.le_refl _) _⟩
      clear hq he8 hZ HSj HOj HS HO HW
      go_wp2
      go_roundw
      case rel => exact ⟨j + 1, by omega, by go_num, HV2⟩
      case measure => simp [intOf]; omega
    · obtain rfl : j = k := by omega
      have hjI : ¬ (j : Int) < (j : Int) := by omega
      have HOj : Hid ((ptN h p j x).length = 128) := (HO.out j (by omega)).1
      go_wp2_with (first
        | (refine ldH rfl _ rfl w.heap.size 0 (ptN h p j x) rfl HW.out.1.all HOj.out ?_)
        | (refine stV rfl 150 _ _ rfl (w.heap.size + 1) (b8 zr15) (b8 (ptN h p j x)) rfl rfl HW.out.2.1 (by rw [b8_len, b8_len, HOj.out, zr_len]) (by rw [b8_len, HOj.out]; exact sz_hd16) (b8_one _) ?_; intro wC hVC hKC hSC))
      exact bodyPost_ret (res_hd16 rfl _ hVC HOj.out rfl) rfl ⟨rfl, hKC.next HW.out.2.2 (fun i hi => by omega) HW.out.2.2.size⟩
theorem ofOne16 (w : World) (ad : Option Addr) (n cap : Nat) (l : List Nat) (t : TypeId) (h : Bs w (.slice ad n cap) l) (hn : l.length = n) (hb : ∀ c ∈ l, c < 256) (hl : l.length ≤ 100000) (hT : TbAt w) :
    Calls Tryz.prog 95 #[.slice (some ⟨w.heap.size, 0, none⟩) 1 1] (w.alloc (.cells #[.slice ad n cap] t)) fun e w' => e = .returned (.int .u32 ((sm l : Nat) : Int)) ∧ Below w.heap.size w w' := by
  subst hn
  exact (of11 _ 1 _ _ _ (by omega) (fun _ => hl) (fun _ k => getD_byte hb k) (hT.later (bel1 _ _)) (lb_one w ad l.length cap (fun k => l.getD k 0) t h)).mono fun e w' h => ⟨h.1, bchain (bel1 _ _) h.2⟩
set_option maxRecDepth 100000 in
set_option maxHeartbeats 4000000 in
theorem sum16 (h : List Nat) (hh : okb h) (w : World) (hT : TbAt w) :
    Calls Tryz.prog 98 #[bkV h] w fun e w' => e = .returned (.int .u64 ((sm (h.take 20) : Nat) : Int)) ∧ Below w.heap.size w w' := by
  have hV := Vb.new w 150 (b8 h)
  have hl : (h.take 20).length = 20 := by rw [List.length_take, hh.1]; omega
  have hbs : Bs (w.alloc (.cells (b8 h).toArray 150)) (.slice (some ⟨w.heap.size, 0, none⟩) 20 128) (h.take 20) := by
    have q := hV.bs 0 (h.take 20) (fun j hj => by
      rw [hl] at hj
      rw [Nat.zero_add, b8_cell h j (by rw [hh.1]; omega)]
      simp [List.getD, List.getElem?_take, hj]) 128 (by omega) (by unfold maxLen; omega)
    rw [hl] at q
    exact q
  have C := ofOne16 _ _ 20 128 _ 30 hbs hl (fun c hc => hh.2 c (List.mem_of_mem_take hc)) (by omega) (hT.later (bel1 _ _))
  have HB : Hid (Below w.heap.size w (w.alloc (.cells (b8 h).toArray 150))) := bel1 _ _
  have hs := sm_lt (h.take 20)
  unfold bkV
  clear hV hbs hh hT hl
  go_enter Tryz.func98, Tryz.ntmps98
  go_upto_region 1 with fail
  generalize w.alloc (.cells (b8 h).toArray 150) = w1 at *
  obtain ⟨S, hS⟩ : ∃ S, sm (h.take 20) = S := ⟨_, rfl⟩
  have HS : Hid (sm (h.take 20) = S) := hS
  rw [hS] at C hs
  clear hS
  have hw : IntKind.u64.wrap (S : Int) = (S : Int) := by rw [IntKind.wrap_u64]; omega
  go_wp2_with fail
  refine C.mono ?_
  rintro e w2 ⟨rfl, hB⟩
  have HB2 : Hid (Below w.heap.size w w2) := bchain HB.out hB
  clear hB C
  go_wp2
  go_ret
  exact ⟨by rw [HS.out]; rfl, HB2.out⟩
end Go.Proofs.YthnpdcblfocemaaGreatDoor
set_option linter.unusedVariables false
set_option linter.unusedSimpArgs false
namespace Go.Proofs.YthnpdcblfocemaaGreatDoor
open Go.RowKit

theorem built_hd16 : Tryz.prog.built 150 [] = some (b8 zr15).toArray := by kernel_rfl
theorem bdH {ops : Array Oper} {rest : List Oper} {o : Oper} {a : Act} {w : World} {Q : Exit → Act → World → Prop} (hgd : o.guard = none) (ho : o.op = .build 150 #[])
    (h : wpList Tryz.prog ops Q rest (a.put o.dst (bkV zr15)) w) : wpList Tryz.prog ops Q (o :: rest) a w :=
  wpList_plain hgd fun K hK => by
    have hrun : (Instr.build 150 #[]).run Tryz.prog w = .ok (bkV zr15) w := run_build w _ _ _ built_hd16
    unfold Oper.wp
    simp [execOp, ho, hrun, Result.andThen]
    exact hK _ _ h
theorem stS {ops : Array Oper} {o : Oper} {a : Act} {w : World} {K : Act → World → Prop} {Q : Exit → Act → World → Prop} {E : Prop} (hgd : o.guard = none) (T : TypeId) (x y : Operand) (ho : o.op = .store T x y)
    (g : Nat) (xs ys : List Value) (hx : a.eval x = .pointer (some ⟨g, 0, none⟩)) (hy : a.eval y = .agg ys.toArray) (hV : Vb w g T xs) (hn : ys.length = xs.length) (hi : (Tryz.prog.info? T).map (·.size) = some ys.length) (h1 : ∀ v ∈ ys, v.oneCell' = true)
    (h : ∀ w', Vb w' g T ys → Kp (fun k => k = g) w w' → w'.heap.size = w.heap.size → K (a.put o.dst undef) w') : if Region.wanted o (yielded ops a.tmps) = true then Oper.wp Tryz.prog o a w K Q else E := by
  have hw : Region.wanted o (yielded ops a.tmps) = true := by simp [Region.wanted, hgd]
  rw [if_pos hw]
  exact wp_store_row T x y ho g ys.toArray hx hy T xs.toArray hV (by simpa using hi) (by simpa using hn.symm) (all_oneCell_toArray h1)
    (h _ (setRow_heap _ _ _ _ _ _ hV) ⟨rfl, rfl, rfl, by simp [World.setRow], fun k _ hk => setRow_other _ _ _ _ hk⟩ (by simp [World.setRow]))
theorem ldS {ops : Array Oper} {o : Oper} {a : Act} {w : World} {K : Act → World → Prop} {Q : Exit → Act → World → Prop} {E : Prop} (hgd : o.guard = none) (x : Operand) (ho : o.op = .load 150 x)
    (g q : Nat) (b : List Nat) (hx : a.eval x = .pointer (some ⟨g, q, none⟩)) (hr : w.rangeAt g q (b8 b)) (hb : b.length = 128)
    (h : K (a.put o.dst (bkV b)) w) : if Region.wanted o (yielded ops a.tmps) = true then Oper.wp Tryz.prog o a w K Q else E := by
  have hw : Region.wanted o (yielded ops a.tmps) = true := by simp [Region.wanted, hgd]
  rw [if_pos hw]
  exact wp_load_mid 150 x ho g q hx (b8 b) _ hr und_hd16 rfl (by rw [b8_len, hb]; exact sz_hd16) h
structure H2 (w : World) (b5 : Nat) (h : List Nat) (X : World) : Prop where
  r : Vb X w.heap.size 150 (b8 zr15)
  v : Vb X b5 150 (b8 h)
  k : Below w.heap.size w X
  lt : w.heap.size < b5
theorem H2.later {w : World} {b5 : Nat} {h : List Nat} {X X' : World} (H : H2 w b5 h X) (k : Below X.heap.size X X') : H2 w b5 h X' := ⟨H.r.later k, H.v.later k, bchain H.k k, H.lt⟩
theorem H2.set {w : World} {b5 : Nat} {h h' : List Nat} {X X' : World} (H : H2 w b5 h X) (hV : Vb X' b5 150 (b8 h')) (k : Kp (fun k => k = b5) X X') : H2 w b5 h' X' :=
  ⟨H.r.kept (k.block _ H.r.lt (by have := H.lt; omega)), hV, k.next H.k (fun i hi => by have := H.lt; omega) H.k.size, H.lt⟩
set_option maxRecDepth 100000 in
set_option maxHeartbeats 8000000 in
theorem headOf16 (n : Nat) (hn : n ≤ 4611686018427387904) (v : Value) (d : List Nat) (hb : ∀ c ∈ d, c < 256) (hl : d.length ≤ 100000) (w : World) (hT : TbAt w) (hv : Bs w v d) :
    Calls Tryz.prog 85 #[.int .i64 (n : Int), v] w fun e w' => e = .returned (bkV (hdB n d)) ∧ Below w.heap.size w w' := by
  obtain ⟨ad, cap, rfl, -, -⟩ := hv.len
  have HD : Hid (Bs w (.slice ad d.length cap) d ∧ (∀ c ∈ d, c < 256) ∧ TbAt w ∧ ∃ u, d = u ∧ u.length ≤ 100000) := ⟨hv, hb, hT, _, rfl, hl⟩
  obtain ⟨h1, e1⟩ : ∃ h1, ptN zr15 0 8 n = h1 := ⟨_, rfl⟩
  obtain ⟨h2, e2⟩ : ∃ h2, ptN h1 120 8 n = h2 := ⟨_, rfl⟩
  obtain ⟨h3, e3⟩ : ∃ h3, ptN h2 8 8 d.length = h3 := ⟨_, rfl⟩
  have o1 : okb h1 := by rw [← e1]; exact ptN_ok zr_ok16 0 8 n (by omega)
  have o2 : okb h2 := by rw [← e2]; exact ptN_ok o1 120 8 n (by omega)
  have o3 : okb h3 := by rw [← e3]; exact ptN_ok o2 8 8 _ (by omega)
  have e4 : ptN h3 16 4 (sm d) = hd0 n d := by rw [← e3, ← e2, ← e1]; rfl
  have HE : Hid (ptN zr15 0 8 n = h1 ∧ ptN h1 120 8 n = h2 ∧ ptN h2 8 8 d.length = h3 ∧ ptN h3 16 4 (sm d) = hd0 n d ∧ ptN (hd0 n d) 20 4 (sm ((hd0 n d).take 20)) = hdB n d) := ⟨e1, e2, e3, e4, hd0_hdB n d⟩
  have HO : Hid (okb zr15 ∧ okb h1 ∧ okb h2 ∧ okb h3 ∧ okb (hd0 n d) ∧ okb (hdB n d)) := ⟨zr_ok16, o1, o2, o3, hd0_ok n d, hdB_ok n d⟩
  have HSm : Hid (sm d < 4294967296 ∧ sm ((hd0 n d).take 20) < 4294967296) := ⟨sm_lt _, sm_lt _⟩
  obtain ⟨h4, e4'⟩ : ∃ h4, hd0 n d = h4 := ⟨_, rfl⟩
  obtain ⟨h5, e5'⟩ : ∃ h5, hdB n d = h5 := ⟨_, rfl⟩
  rw [e4', e5'] at HE HO
  rw [e4'] at HSm
  rw [e5']
  obtain ⟨m, hm⟩ : ∃ m, d.length = m := ⟨_, rfl⟩
  have HM : Hid (d.length = m) := hm
  rw [hm] at HD HE hl ⊢
  have hw1 : IntKind.u64.wrap (n : Int) = (n : Int) := by rw [IntKind.wrap_u64]; omega
  have hw2 : IntKind.u64.wrap (m : Int) = (m : Int) := by rw [IntKind.wrap_u64]; omega
  have hz := zero_hd16
  obtain ⟨S1, hS1⟩ : ∃ S1, sm d = S1 := ⟨_, rfl⟩
  obtain ⟨S2, hS2⟩ : ∃ S2, sm (h4.take 20) = S2 := ⟨_, rfl⟩
  have HQ : Hid (sm d = S1 ∧ sm (h4.take 20) = S2) := ⟨hS1, hS2⟩
  rw [hS1, hS2] at HSm
  rw [hS1, hS2] at HE
  have hw3 : IntKind.u64.wrap (S1 : Int) = (S1 : Int) := by rw [IntKind.wrap_u64]; have := HSm.out; omega
  clear hv hb hT e1 e2 e3 o1 o2 o3 e4 e4' e5' hm hS1 hS2
  go_enter Tryz.func85, Tryz.ntmps85
  go_upto_region 1 with (refine alV rfl 150 (b8 zr15) hz rfl ?_; intro wB hV0 hB0 hS0)
  have HA : Hid (Vb wB w.heap.size 150 (b8 zr15) ∧ Below w.heap.size w wB) := ⟨hV0, hB0⟩
  clear hV0 hB0 hS0
  go_wp2_with (refine bdH rfl rfl ?_)
  refine (with16 zr15 HO.out.1 0 8 n (by omega) (by omega) (by omega) wB).mono ?_
  rintro e w1 ⟨rfl, hB1⟩
  rw [HE.out.1]
  have HA1 : Hid (Vb w1 w.heap.size 150 (b8 zr15) ∧ Below w.heap.size w w1) := ⟨HA.out.1.later hB1, bchain HA.out.2 hB1⟩
  clear hB1 HA
  go_wp2_with fail
  refine (with16 h1 HO.out.2.1 120 8 n (by omega) (by omega) (by omega) w1).mono ?_
  rintro e w2 ⟨rfl, hB2⟩
  rw [HE.out.2.1]
  have HA2 : Hid (Vb w2 w.heap.size 150 (b8 zr15) ∧ Below w.heap.size w w2) := ⟨HA1.out.1.later hB2, bchain HA1.out.2 hB2⟩
  clear hB2 HA1
  go_upto_region 2 with (first
    | (refine alV rfl 150 (b8 zr15) hz rfl ?_; intro wC hV0 hB0 hS0)
    | (refine stV rfl 150 _ _ rfl w2.heap.size (b8 zr15) (b8 h2) rfl rfl hV0 (by rw [b8_len, b8_len, HO.out.2.2.1.1, zr_len]) (by rw [b8_len, HO.out.2.2.1.1]; exact sz_hd16) (b8_one _) ?_; intro w3 hV3 hK3 hS3))
  obtain ⟨b5, hb5⟩ : ∃ b5, w2.heap.size = b5 := ⟨_, rfl⟩
  have HW : Hid (H2 w b5 h2 w3) := by
    rw [hb5] at hV0 hV3 hK3 
    have hlt := HA2.out.1.lt
    rw [hb5] at hlt
    exact H2.set ⟨HA2.out.1.later hB0, hV0, bchain HA2.out.2 hB0, hlt⟩ hV3 hK3
  rw [hb5]
  clear hb5 hV0 hB0 hS0 hV3 hK3 hS3 HA2
  go_wp2_with (refine ldH rfl _ rfl b5 0 h2 rfl HW.out.v.all HO.out.2.2.1.1 ?_)
  refine (with16 h2 HO.out.2.2.1 8 8 m (by omega) (by omega) (by omega) w3).mono ?_
  rintro e w4 ⟨rfl, hB4⟩
  rw [HE.out.2.2.1]
  have HW4 : Hid (H2 w b5 h2 w4) := HW.out.later hB4
  clear hB4 HW
  go_upto_region 3 with (refine stV rfl 150 _ _ rfl b5 (b8 h2) (b8 h3) rfl rfl HW4.out.v (by rw [b8_len, b8_len, HO.out.2.2.2.1.1, HO.out.2.2.1.1]) (by rw [b8_len, HO.out.2.2.2.1.1]; exact sz_hd16) (b8_one _) ?_; intro w5 hV5 hK5 hS5)
  have HW5 : Hid (H2 w b5 h3 w5) := HW4.out.set hV5 hK5
  clear hV5 hK5 hS5 HW4
  refine wp_region_held_drew (S := fun _ => True) (by kernel_rfl) trivial (fun HS => ?_)
  have HD5 : Hid (H2 w b5 h3 w5.drew ∧ Bs w5.drew (.slice ad m cap) d) := ⟨⟨HW5.out.r, HW5.out.v, HW5.out.k.drew, HW5.out.lt⟩, (HD.out.1.later HW5.out.k.drew)⟩
  generalize w5.drew = q0 at *
  have HB0 : Hid (H2 w b5 h3 (q0.alloc (.cells #[.slice ad m cap] 30))) := HD5.out.1.later (bel1 _ _)
  have hof := ofOne16 q0 ad m cap d 30 HD5.out.2 HM.out HD.out.2.1 (by rw [HM.out]; omega) (HD.out.2.2.1.later HD5.out.1.k)
  rw [HQ.out.1] at hof
  refine wpAnyH_take (i := 1) (v := ?v1) rfl (by kernel_rfl) (by kernel_rfl) (by kernel_rfl) (fun _ _ _ h => h) (Or.inl ⟨by kernel_rfl, ?h1⟩) HS ?r1
  case h1 => (rintro w _; go_simp) <;> with_reducible rfl
  try simp only [Act.put, List.getElem_toArray, List.getElem_cons_succ, List.getElem_cons_zero, List.setIfInBounds_toArray, List.set_cons_zero, List.set_cons_succ]
  refine wpAnyH_ready (rs := [0, 2]) (by kernel_rfl) (by simp) ?_
  refine AllReadyH.cons rfl (fun K hK => ?xa) (AllReadyH.cons rfl (fun K hK => ?xb) AllReadyH.nil)
  case' xa =>
    have HBw : Hid (H2 w b5 h3 q0) := HD5.out.1
    refine ldS rfl _ rfl b5 0 h3 rfl (HBw.out.v.all) HO.out.2.2.2.1.1 ?_
    refine hK.out _ _ trivial (fun HS => ?_)
    clear hK K
    try simp only [Act.put, List.getElem_toArray, List.getElem_cons_succ, List.getElem_cons_zero, List.setIfInBounds_toArray, List.set_cons_zero, List.set_cons_succ]
    refine wpAnyH_ready (rs := [2]) (by kernel_rfl) (by simp) ?_
    refine AllReadyH.cons rfl (fun K hK => ?_) AllReadyH.nil
    go_simp
    refine hK.out _ _ trivial (fun HS => ?_)
    clear hK K
    try simp only [Act.put, List.getElem_toArray, List.getElem_cons_succ, List.getElem_cons_zero, List.setIfInBounds_toArray, List.set_cons_zero, List.set_cons_succ]
    refine wpAnyH_ready (rs := [3]) (by kernel_rfl) (by simp) ?_
    refine AllReadyH.cons rfl (fun K hK => ?_) AllReadyH.nil
    go_simp
    refine hof.mono ?_
    rintro e q1 ⟨rfl, hBq⟩
    have HB1 : Hid (H2 w b5 h3 q1) := HD5.out.1.later hBq
    refine hK.out _ _ trivial (fun HS => ?_)
    clear hK K hBq
    try simp only [Act.put, List.getElem_toArray, List.getElem_cons_succ, List.getElem_cons_zero, List.setIfInBounds_toArray, List.set_cons_zero, List.set_cons_succ]
    refine wpAnyH_take (i := 4) (v := ?_) rfl (by kernel_rfl) (by kernel_rfl) (by kernel_rfl) (fun _ _ _ h => h) (Or.inl ⟨by kernel_rfl, ?_⟩) HS ?_
    rotate_left
    · (rintro w _; go_simp) <;> with_reducible rfl
    try simp only [Act.put, List.getElem_toArray, List.getElem_cons_succ, List.getElem_cons_zero, List.setIfInBounds_toArray, List.set_cons_zero, List.set_cons_succ]
  case' xb =>
    go_simp
    refine hK.out _ _ trivial (fun HS => ?_)
    clear hK K
    try simp only [Act.put, List.getElem_toArray, List.getElem_cons_succ, List.getElem_cons_zero, List.setIfInBounds_toArray, List.set_cons_zero, List.set_cons_succ]
    refine wpAnyH_ready (rs := [0, 3]) (by kernel_rfl) (by simp) ?_
    refine AllReadyH.cons rfl (fun K hK => ?ya) (AllReadyH.cons rfl (fun K hK => ?yb) AllReadyH.nil)
    case' ya =>
      have HBw : Hid (H2 w b5 h3 (q0.alloc (.cells #[.slice ad m cap] 30))) := HB0.out
      refine ldS rfl _ rfl b5 0 h3 rfl (HBw.out.v.all) HO.out.2.2.2.1.1 ?_
      refine hK.out _ _ trivial (fun HS => ?_)
      clear hK K
      try simp only [Act.put, List.getElem_toArray, List.getElem_cons_succ, List.getElem_cons_zero, List.setIfInBounds_toArray, List.set_cons_zero, List.set_cons_succ]
      refine wpAnyH_ready (rs := [3]) (by kernel_rfl) (by simp) ?_
      refine AllReadyH.cons rfl (fun K hK => ?_) AllReadyH.nil
      go_simp
      refine hof.mono ?_
      rintro e q1 ⟨rfl, hBq⟩
      have HB1 : Hid (H2 w b5 h3 q1) := HD5.out.1.later hBq
      refine hK.out _ _ trivial (fun HS => ?_)
      clear hK K hBq
      try simp only [Act.put, List.getElem_toArray, List.getElem_cons_succ, List.getElem_cons_zero, List.setIfInBounds_toArray, List.set_cons_zero, List.set_cons_succ]
      refine wpAnyH_take (i := 4) (v := ?_) rfl (by kernel_rfl) (by kernel_rfl) (by kernel_rfl) (fun _ _ _ h => h) (Or.inl ⟨by kernel_rfl, ?_⟩) HS ?_
      rotate_left
      · (rintro w _; go_simp) <;> with_reducible rfl
      try simp only [Act.put, List.getElem_toArray, List.getElem_cons_succ, List.getElem_cons_zero, List.setIfInBounds_toArray, List.set_cons_zero, List.set_cons_succ]
    case' yb =>
      go_simp
      refine hof.mono ?_
      rintro e q1 ⟨rfl, hBq⟩
      have HB1 : Hid (H2 w b5 h3 q1) := HD5.out.1.later hBq
      refine hK.out _ _ trivial (fun HS => ?_)
      clear hK K hBq
      try simp only [Act.put, List.getElem_toArray, List.getElem_cons_succ, List.getElem_cons_zero, List.setIfInBounds_toArray, List.set_cons_zero, List.set_cons_succ]
      refine wpAnyH_take (i := 4) (v := ?_) rfl (by kernel_rfl) (by kernel_rfl) (by kernel_rfl) (fun _ _ _ h => h) (Or.inl ⟨by kernel_rfl, ?_⟩) HS ?_
      rotate_left
      · (rintro w _; go_simp) <;> with_reducible rfl
      try simp only [Act.put, List.getElem_toArray, List.getElem_cons_succ, List.getElem_cons_zero, List.setIfInBounds_toArray, List.set_cons_zero, List.set_cons_succ]
      have HBw : Hid (H2 w b5 h3 q1) := HB1.out
      refine wpAnyH_ready (rs := [0]) (by kernel_rfl) (by simp) ?_
      refine AllReadyH.cons rfl (fun K hK => ?_) AllReadyH.nil
      refine ldS rfl _ rfl b5 0 h3 rfl (HBw.out.v.all) HO.out.2.2.2.1.1 ?_
      refine hK.out _ _ trivial (fun HS => ?_)
      clear hK K
      try simp only [Act.put, List.getElem_toArray, List.getElem_cons_succ, List.getElem_cons_zero, List.setIfInBounds_toArray, List.set_cons_zero, List.set_cons_succ]
  all_goals
    clear HS hof HB0 HD5 HBw
    refine wpAnyH_ready (rs := [5]) (by kernel_rfl) (by simp) ?_
    refine AllReadyH.cons rfl (fun K hK => ?_) AllReadyH.nil
    go_simp
    refine (with16 h3 HO.out.2.2.2.1 16 4 S1 (by omega) (by omega) (by have := HSm.out; omega) q1).mono ?_
    rintro e q2 ⟨rfl, hBq⟩
    rw [HE.out.2.2.2.1]
    have HB2 : Hid (H2 w b5 h3 q2) := HB1.out.later hBq
    refine hK.out _ _ trivial (fun HS => ?_)
    clear hK K hBq HB1
    try simp only [Act.put, List.getElem_toArray, List.getElem_cons_succ, List.getElem_cons_zero, List.setIfInBounds_toArray, List.set_cons_zero, List.set_cons_succ]
    refine wpAnyH_ready (rs := [6]) (by kernel_rfl) (by simp) ?_
    refine AllReadyH.cons rfl (fun K hK => ?_) AllReadyH.nil
    refine stS rfl 150 _ _ rfl b5 (b8 h3) (b8 h4) rfl rfl HB2.out.v (by rw [b8_len, b8_len, HO.out.2.2.2.2.1.1, HO.out.2.2.2.1.1]) (by rw [b8_len, HO.out.2.2.2.2.1.1]; exact sz_hd16) (b8_one _) ?_
    intro q3 hV3 hK3 hS3
    have HB3 : Hid (H2 w b5 h4 q3) := HB2.out.set hV3 hK3
    refine hK.out _ _ trivial (fun HS => ?_)
    clear hK K hV3 hK3 hS3 HB2 HS
    try simp only [Act.put, List.getElem_toArray, List.getElem_cons_succ, List.getElem_cons_zero, List.setIfInBounds_toArray, List.set_cons_zero, List.set_cons_succ]
    refine wpAnyH_done (by kernel_rfl) ?_ _
    go_upto_region 4 with fail
    refine wp_region_held_drew (S := fun W => Vb W b5 150 (b8 h4)) (by kernel_rfl) HB3.out.v (fun HS => ?_)
    have HB4 : Hid (H2 w b5 h4 q3.drew) := ⟨HB3.out.r, HB3.out.v, HB3.out.k.drew, HB3.out.lt⟩
    clear HB3
    generalize q3.drew = q4 at *
    refine wpAnyH_take (i := 0) (v := bkV h4) rfl (by kernel_rfl) (by kernel_rfl) (by kernel_rfl) (fun _ _ _ h => h) (yieldsIf_load_mid (by kernel_rfl) 150 _ rfl b5 0 rfl (b8 h4) _ (fun W hW => Vb.all hW) und_hd16 rfl (by rw [b8_len, HO.out.2.2.2.2.1.1]; exact sz_hd16)) HS ?_
    try simp only [Act.put, List.getElem_toArray, List.getElem_cons_succ, List.getElem_cons_zero, List.setIfInBounds_toArray, List.set_cons_zero, List.set_cons_succ]
    refine wpAnyH_take (i := 1) (v := bkV h4) rfl (by kernel_rfl) (by kernel_rfl) (by kernel_rfl) (fun _ _ _ h => h) (yieldsIf_load_mid (by kernel_rfl) 150 _ rfl b5 0 rfl (b8 h4) _ (fun W hW => Vb.all hW) und_hd16 rfl (by rw [b8_len, HO.out.2.2.2.2.1.1]; exact sz_hd16)) HS ?_
    try simp only [Act.put, List.getElem_toArray, List.getElem_cons_succ, List.getElem_cons_zero, List.setIfInBounds_toArray, List.set_cons_zero, List.set_cons_succ]
    refine wpAnyH_ready (rs := [2]) (by kernel_rfl) (by simp) ?_
    refine AllReadyH.cons rfl (fun K hK => ?_) AllReadyH.nil
    go_simp
    refine (sum16 h4 HO.out.2.2.2.2.1 q4 (HD.out.2.2.1.later HB4.out.k)).mono ?_
    rintro e q5 ⟨rfl, hBq⟩
    rw [HQ.out.2]
    have HB5 : Hid (H2 w b5 h4 q5) := HB4.out.later hBq
    refine hK.out _ _ HB5.out.v (fun HS => ?_)
    clear hK K hBq HB4
    try simp only [Act.put, List.getElem_toArray, List.getElem_cons_succ, List.getElem_cons_zero, List.setIfInBounds_toArray, List.set_cons_zero, List.set_cons_succ]
    refine wpAnyH_ready (rs := [3]) (by kernel_rfl) (by simp) ?_
    refine AllReadyH.cons rfl (fun K hK => ?_) AllReadyH.nil
    go_simp
    refine (with16 h4 HO.out.2.2.2.2.1 20 4 S2 (by omega) (by omega) (by have := HSm.out; omega) q5).mono ?_
    rintro e q6 ⟨rfl, hBq⟩
    rw [HE.out.2.2.2.2]
    have HB6 : Hid (H2 w b5 h4 q6) := HB5.out.later hBq
    refine hK.out _ _ HB6.out.v (fun HS => ?_)
    clear hK K hBq HB5
    try simp only [Act.put, List.getElem_toArray, List.getElem_cons_succ, List.getElem_cons_zero, List.setIfInBounds_toArray, List.set_cons_zero, List.set_cons_succ]
    refine wpAnyH_ready (rs := [4]) (by kernel_rfl) (by simp) ?_
    refine AllReadyH.cons rfl (fun K hK => ?_) AllReadyH.nil
    refine stS rfl 150 _ _ rfl w.heap.size (b8 zr15) (b8 h5) rfl rfl HB6.out.r (by rw [b8_len, b8_len, HO.out.2.2.2.2.2.1, zr_len]) (by rw [b8_len, HO.out.2.2.2.2.2.1]; exact sz_hd16) (b8_one _) ?_
    intro q7 hV7 hK7 hS7
    have HF : Hid (Vb q7 w.heap.size 150 (b8 h5) ∧ Below w.heap.size w q7) := ⟨hV7, hK7.next HB6.out.k (fun i hi => by omega) HB6.out.k.size⟩
    refine hK.out _ _ (HB6.out.v.kept (hK7.block _ HB6.out.v.lt (by have := HB6.out.lt; omega))) (fun HS => ?_)
    clear hK K hV7 hK7 hS7 HB6 HS
    try simp only [Act.put, List.getElem_toArray, List.getElem_cons_succ, List.getElem_cons_zero, List.setIfInBounds_toArray, List.set_cons_zero, List.set_cons_succ]
    refine wpAnyH_done (by kernel_rfl) ?_ _
    go_wp2_with fail
    exact bodyPost_ret (res_hd16 rfl _ HF.out.1 HO.out.2.2.2.2.2.1 rfl) rfl ⟨rfl, HF.out.2⟩
end Go.Proofs.YthnpdcblfocemaaGreatDoor
set_option linter.unusedVariables false
set_option linter.unusedSimpArgs false
namespace Go.Proofs.YthnpdcblfocemaaGreatDoor
open Go.RowKit

def slC (g which a room : Nat) (h : List Nat) : List Value := .pointer (some ⟨g, 0, none⟩) :: .int .i64 (which : Int) :: .int .i64 (a : Int) :: .int .i64 (room : Int) :: b8 h
def plC (g which a room : Nat) : List Value := [.pointer (some ⟨g, 0, none⟩), .int .i64 (which : Int), .int .i64 (a : Int), .int .i64 (room : Int)]
def slZ : List Value := .pointer none :: .int .i64 0 :: .int .i64 0 :: .int .i64 0 :: b8 zr15
theorem slC_len (g which a room : Nat) {h : List Nat} (hh : h.length = 128) : (slC g which a room h).length = 132 := by
  simp [slC, b8_len, hh]
theorem slC_head (g which a room : Nat) (h : List Nat) (j : Nat) (hj : j < h.length) : (slC g which a room h)[4 + j]? = some (.int .u8 ((h.getD j 0 : Nat) : Int)) := by
  have e : 4 + j = j + 1 + 1 + 1 + 1 := by omega
  rw [e]
  unfold slC
  rw [List.getElem?_cons_succ, List.getElem?_cons_succ, List.getElem?_cons_succ, List.getElem?_cons_succ]
  exact b8_cell h j hj
theorem fill2_16 (va vb : Value) (A B : List Value) (ha : va.cells = A.toArray) (hb : vb.cells = B.toArray) (hA : A.length = 4) (hB : B.length = 128) (z : Array Value) (hz : z.size = 132) (pl : Nat → Option (Nat × Nat)) (h0 : pl 0 = some (0, 4)) (h1 : pl 1 = some (4, 128)) :
    Instr.fill pl z [(0, va), (1, vb)] = some (A ++ B).toArray := by
  obtain ⟨g1, g2⟩ := Great.foldl_set 0 A 0 z
  obtain ⟨k1, k2⟩ := Great.foldl_set 4 B 0 ((A.zipIdx 0).foldl (fun cs (x : Value × Nat) => cs.setIfInBounds (0 + x.2) x.1) z)
  unfold Instr.fill
  rw [h0]
  dsimp only
  rw [if_neg (by rw [ha]; simp [hA, hz])]
  unfold Instr.fill
  rw [h1]
  dsimp only
  have e1 : (va.cells.zipIdx.foldl (fun cs (x : Value × Nat) => cs.setIfInBounds (0 + x.2) x.1) z) = ((A.zipIdx 0).foldl (fun cs (x : Value × Nat) => cs.setIfInBounds (0 + x.2) x.1) z) := by
    rw [ha, ← Array.foldl_toList, Array.toList_zipIdx]
  rw [if_neg (by rw [hb, e1, g1]; simp [hB, hz])]
  unfold Instr.fill
  congr 1
  have e2 : (vb.cells.zipIdx.foldl (fun cs (x : Value × Nat) => cs.setIfInBounds (4 + x.2) x.1) (va.cells.zipIdx.foldl (fun cs (x : Value × Nat) => cs.setIfInBounds (0 + x.2) x.1) z)) = ((B.zipIdx 0).foldl (fun cs (x : Value × Nat) => cs.setIfInBounds (4 + x.2) x.1) ((A.zipIdx 0).foldl (fun cs (x : Value × Nat) => cs.setIfInBounds (0 + x.2) x.1) z)) := by
    rw [e1, hb, ← Array.foldl_toList, Array.toList_zipIdx]
  refine e2.trans ?_
  apply Array.ext_getElem?
  intro k
  rw [k2 k, g1, g2 k, hz]
  simp only [List.getElem?_toArray, List.getElem?_append]
  by_cases q : k < 4
  · rw [if_neg (by omega), if_pos (by omega), if_pos (by omega)]
    simp
  · rw [if_neg (show ¬ k < A.length by omega)]
    by_cases q2 : k < 132
    · rw [if_pos (by omega)]
      congr 1
      omega
    · rw [if_neg (by omega), if_neg (by omega), Array.getElem?_eq_none (by omega), List.getElem?_eq_none (by omega)]
theorem info_sl16 : (Tryz.prog.info? 153).map (fun i => (i.zero, i.size)) = some (some (.agg slZ.toArray), 132) := by kernel_rfl
theorem sz_sl16 : (Tryz.prog.info? 153).map (·.size) = some 132 := by kernel_rfl
theorem places_sl16 : (match Tryz.prog.underlying 153 with | some (.struct fields) => fields.toList.mapM (fun f => (Tryz.prog.info? f.type).map fun i => (f.offset, i.size)) | _ => none) = some [(0, 4), (4, 128)] := by kernel_rfl
theorem zero_sl16 (w : World) : (zeroValue 153).run Tryz.prog w = .ok (.agg slZ.toArray) w := by
  have h := info_sl16
  cases hq : Tryz.prog.info? 153 with
  | none => rw [hq] at h; simp at h
  | some i =>
    rw [hq] at h
    simp only [Option.map_some, Option.some.injEq, Prod.mk.injEq] at h
    simp [zeroValue, typeInfo, hq, h.1]
theorem built_sl16 (g which a room : Nat) (h : List Nat) (hh : h.length = 128) : Tryz.prog.built 153 [(0, .agg (plC g which a room).toArray), (1, bkV h)] = some (slC g which a room h).toArray := by
  have hi := info_sl16
  have hp := places_sl16
  unfold Program.built
  cases hq : Tryz.prog.info? 153 with
  | none => rw [hq] at hi; simp at hi
  | some it =>
    rw [hq] at hi
    simp only [Option.map_some, Option.some.injEq, Prod.mk.injEq] at hi
    cases hu : Tryz.prog.underlying 153 with
    | none => rw [hu] at hp; simp at hp
    | some d =>
      rw [hu] at hp
      cases d <;> try (simp at hp; done)
      case struct fields =>
        dsimp only at hp ⊢
        rw [hi.1, hp]
        dsimp only
        rw [fill2_16 (.agg (plC g which a room).toArray) (bkV h) (plC g which a room) (b8 h) rfl rfl rfl (by rw [b8_len, hh]) _ (by show slZ.toArray.size = 132; rw [List.size_toArray]; simp [slZ, b8_len, zr_len]) _ rfl rfl]
        rfl
theorem bdSl {ops : Array Oper} {o : Oper} {a : Act} {w : World} {K : Act → World → Prop} {Q : Exit → Act → World → Prop} {E : Prop} (hgd : o.guard = none) (x y : Operand) (ho : o.op = .build 153 #[(0, x), (1, y)])
    (g which at_ room : Nat) (hd : List Nat) (hh : hd.length = 128) (hx : a.eval x = .agg (plC g which at_ room).toArray) (hy : a.eval y = bkV hd) (h : K (a.put o.dst (.agg (slC g which at_ room hd).toArray)) w) : if Region.wanted o (yielded ops a.tmps) = true then Oper.wp Tryz.prog o a w K Q else E := by
  have hw : Region.wanted o (yielded ops a.tmps) = true := by simp [Region.wanted, hgd]
  rw [if_pos hw]
  have hrun : (Instr.build 153 #[(0, .agg (plC g which at_ room).toArray), (1, bkV hd)]).run Tryz.prog w = .ok (.agg (slC g which at_ room hd).toArray) w := run_build w _ _ _ (built_sl16 g which at_ room hd hh)
  unfold Oper.wp
  simp [execOp, ho, hx, hy, hrun, Result.andThen]
  exact h
def swE (a : Nat) (h : List Nat) (s : Dsk) : Nat := if wrE s (a : Int) h ≠ 0 then wrE s (a : Int) h else flE (wrS s (a : Int) h)
def swS (a : Nat) (h : List Nat) (s : Dsk) : Dsk := if wrE s (a : Int) h ≠ 0 then wrS s (a : Int) h else flS (wrS s (a : Int) h)
set_option maxRecDepth 100000 in
set_option maxHeartbeats 8000000 in
theorem swrite16 (V : Disk1) (w : World) (g : Nat) (F : Nat → Prop) (s : Dsk) (which a room : Nat) (h : List Nat) (hh : okb h) (hD : V.Dt w (.pointer (some ⟨g, 0, none⟩)) F s) (hu : s.un.length ≤ 900) :
    Calls Tryz.prog 86 #[.agg (slC g which a room h).toArray] w fun e w' => e = .returned (.int .i64 ((swE a h s : Nat) : Int)) ∧ Ad V.Dt (.pointer (some ⟨g, 0, none⟩)) F (swS a h s) w w' := by
  obtain ⟨xs, hxs⟩ : ∃ xs, slC g which a room h = xs := ⟨_, rfl⟩
  obtain ⟨w1, hw1⟩ : ∃ w1, w1 = w.alloc (.cells xs.toArray 153) := ⟨_, rfl⟩
  have hV1 : Vb w1.drew w.heap.size 153 xs := by rw [hw1]; exact Vb.new _ _ _
  have hb1 : Below w.heap.size w w1.drew := by rw [hw1]; exact (bel1 _ _).drew
  have x0 : w1.drew.cell? ⟨w.heap.size, 0, none⟩ = some (.pointer (some ⟨g, 0, none⟩)) := hV1.cell 0 _ (by rw [← hxs]; rfl)
  have x2 : w1.drew.cell? ⟨w.heap.size, 2, none⟩ = some (.int .i64 (a : Int)) := hV1.cell 2 _ (by rw [← hxs]; rfl)
  have hbs : Bs w1.drew (.slice (some ⟨w.heap.size, 4, none⟩) 128 128) h := by
    have q := hV1.bs 4 h (fun j hj => by rw [← hxs]; exact slC_head g which a room h j hj) 128 (by rw [hh.1]; omega) (by unfold maxLen; omega)
    rw [hh.1] at q
    exact q
  have hnF : ¬ F w.heap.size := fun hf => by have := V.dtB hD _ hf; omega
  have C := V.write w1.drew _ F s (a : Int) _ h (V.dtK hD (fun i hi => hb1.block i (V.dtB hD i hi)) hb1.size) hbs (fun ad n c e hn hf => by cases e; exact hnF hf) hh.2 (by rw [hh.1]; omega) (by omega)
  have HS : Hid ((wrS s (a : Int) h).un.length ≤ 1000) := by have := (wrS_unS s (a : Int) h).1; show _ ≤ _; omega
  obtain ⟨E, hE⟩ : ∃ E, wrE s (a : Int) h = E := ⟨_, rfl⟩
  have HE : Hid (swE a h s = (if E ≠ 0 then E else flE (wrS s (a : Int) h)) ∧ swS a h s = (if E ≠ 0 then wrS s (a : Int) h else flS (wrS s (a : Int) h))) := by rw [← hE]; exact ⟨rfl, rfl⟩
  rw [hE] at C
  have HB : Hid (Below w.heap.size w w1.drew ∧ ¬ F w.heap.size) := ⟨hb1, hnF⟩
  rw [hxs]
  clear hE hV1 hbs hh hD hu hxs hb1 hnF
  go_enter Tryz.func86, Tryz.ntmps86
  go_upto_region 1 with fail
  rw [← hw1]
  clear hw1
  go_region_held3 (fun W => W.cell? ⟨w.heap.size, 0, none⟩ = some (.pointer (some ⟨g, 0, none⟩)) ∧ W.cell? ⟨w.heap.size, 2, none⟩ = some (.int .i64 (a : Int)))
    (exact ⟨x0, x2⟩)
    (first | (go_at_call 77; refine C.mono ?_; rintro e X ⟨rfl, F1, q1, q2, q3⟩; replace x0 := q3.cell HB.out.2 x0; replace x2 := q3.cell HB.out.2 x2; clear C))
  have C2 := V.flush X _ F1 (wrS s (a : Int) h) q1 HS.out
  have HX : Hid (V.Dt X (.pointer (some ⟨g, 0, none⟩)) F1 (wrS s (a : Int) h) ∧ Gr F F1 w ∧ Kp F w X) :=
    ⟨q1, fun k hk => by rcases q2 k hk with q | q; exact Or.inl q; have := HB.out.1.size; exact Or.inr (by omega), (Kp.of (F := F) HB.out.1).trans q3 (fun _ h => Or.inl h)⟩
  clear q1 q2 q3 x2
  by_cases hE0 : E = 0
  · subst hE0
    have HE2 : Hid (swE a h s = flE (wrS s (a : Int) h) ∧ swS a h s = flS (wrS s (a : Int) h)) := by have := HE.out; rw [if_neg (by omega), if_neg (by omega)] at this; exact this
    clear HE
    go_wp2_with (go_at_call 78; refine C2.mono ?_; rintro e Y ⟨rfl, hA⟩; clear C2)
    go_ret
    exact ⟨by rw [HE2.out.1]; rfl, by rw [HE2.out.2]; exact ad_tr HX.out.2.1 HX.out.2.2 hA⟩
  · have hEI : ¬ (E : Int) = 0 := by omega
    have HE2 : Hid (swE a h s = E ∧ swS a h s = wrS s (a : Int) h) := by have := HE.out; rw [if_pos hE0, if_pos hE0] at this; exact this
    clear HE C2
    go_wp2_with fail
    go_ret
    exact ⟨by rw [HE2.out.1]; rfl, by rw [HE2.out.2]; exact ⟨F1, HX.out⟩⟩
end Go.Proofs.YthnpdcblfocemaaGreatDoor
