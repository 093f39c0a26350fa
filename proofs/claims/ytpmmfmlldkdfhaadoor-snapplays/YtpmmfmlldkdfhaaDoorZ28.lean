/-
  The program's snap: number, with, sum of a head.
-/
import Derived.Test.YtpmmfmlldkdfhaaDoorZ24

set_option linter.unusedVariables false
set_option linter.unusedSimpArgs false
namespace Go.Proofs.YtpmmfmlldkdfhaaDoor
open Go.RowKit

set_option maxRecDepth 100000 in
set_option maxHeartbeats 4000000 in
theorem number16 (h : List Nat) (hh : okb h) (p k : Nat) (hp : p + k ≤ 128) (hk : k ≤ 8) (w : World) :
    Calls Tryd.prog 58 #[bkV h, .int .i64 (p : Int), .int .i64 (k : Int)] w fun e w' => e = .returned (.int .u64 ((gt h p k : Nat) : Int)) ∧ Below w.heap.size w w' := by
  have HH : Hid (okb h) := hh
  have HG : Hid (∀ j, p + j < 128 → gt h p (j + 1) = gt h p j + h.getD (p + j) 0 * 2 ^ (8 * j)) := fun j hj => gt_succ h p j (by rw [hh.1]; exact hj)
  have HLt : Hid (∀ j, gt h p j < 2 ^ (8 * j)) := gt_lt hh.2 p
  have hV := Vb.new w 107 (b8 h)
  have HC : Hid (∀ j, j < 128 → (w.alloc (.cells (b8 h).toArray 107)).cell? ⟨w.heap.size, j, none⟩ = some (.int .u8 ((h.getD j 0 : Nat) : Int))) := fun j hj => hV.cell j _ (b8_cell h j (by rw [hh.1]; exact hj))
  have HB : Hid (Below w.heap.size w (w.alloc (.cells (b8 h).toArray 107))) := bel1 _ _
  unfold bkV
  clear hh hV
  go_enter Tryd.func58, Tryd.ntmps58
  go_upto_region 3 with fail
  generalize w.alloc (.cells (b8 h).toArray 107) = w1 at *
  go_loopw [7, 10] (fun s7 s10 wr => ∃ j : Nat, j ≤ k ∧ s10 = .int .i64 (j : Int) ∧ s7 = .int .u64 ((gt h p j : Nat) : Int) ∧ wr = w1) (fun _ s10 _ => k - (intOf s10).toNat)
  case atStart => exact ⟨0, by omega, rfl, rfl, rfl⟩
  case round =>
    obtain ⟨j, hj, rfl, rfl, hwr⟩ := hrel
    have hwr2 := hwr.symm
    subst hwr2
    clear hwr
    by_cases hlt : j < k
    · have hjI : (j : Int) < (k : Int) := by omega
      have HS : Hid (gt h p (j + 1) = gt h p j + h.getD (p + j) 0 * 2 ^ (8 * j)) := HG.out j (by omega)
      have hc := HC.out (p + j) (by omega)
      have hx := getD_byte HH.out.2 (p + j)
      have ha := HLt.out j
      obtain ⟨q, hq⟩ : ∃ q, p + j = q := ⟨_, rfl⟩
      obtain ⟨e8, he8⟩ : ∃ e8, 8 * j = e8 := ⟨_, rfl⟩
      rw [hq] at hc hx HS
      rw [he8] at ha HS
      have hqw : IntKind.i64.wrap ((p : Int) + (j : Int)) = (q : Int) := by rw [IntKind.wrap_i64]; omega
      have hew : IntKind.i64.wrap (8 * (j : Int)) = (e8 : Int) := by rw [IntKind.wrap_i64]; omega
      have hq2 : (q : Int) < 128 := by omega
      have he2 : e8 ≤ 56 := by omega
      have hpw : 2 ^ e8 ≤ 2 ^ 56 := Nat.pow_le_pow_right (by omega) he2
      have hor := or_plusq ha (h.getD q 0)
      have hy1 : h.getD q 0 * 2 ^ e8 < 18446744073709551616 := by
        have := Nat.mul_le_mul (show h.getD q 0 ≤ 255 by omega) hpw
        omega
      have ha1 : gt h p j < 18446744073709551616 := by omega
      have hor2 := or64q _ _ ha1 hy1
      rw [hor] at hor2
      have hw0 : IntKind.u64.wrap ((h.getD q 0 : Nat) : Int) = ((h.getD q 0 : Nat) : Int) := by rw [IntKind.wrap_u64]; omega
      have hw1 : IntKind.u64.wrap (((h.getD q 0 : Nat) : Int) * 2 ^ e8) = ((h.getD q 0 * 2 ^ e8 : Nat) : Int) := by
        rw [IntKind.wrap_u64, show (((h.getD q 0 : Nat) : Int) * 2 ^ e8) = ((h.getD q 0 * 2 ^ e8 : Nat) : Int) by simp]
        omega
      clear hq he8 ha hpw hor HG HLt HC hy1 ha1
      generalize gt h p j = A at *
      generalize h.getD q 0 = x at *
      go_wp2
      go_roundw
      case rel => exact ⟨j + 1, by omega, by go_num, by rw [HS.out, ← hor2, Int.natCast_mul, Int.natCast_pow]; rfl, trivial⟩
      case measure => simp [intOf]; omega
    · obtain rfl : j = k := by omega
      have hjI : ¬ (j : Int) < (j : Int) := by omega
      go_wp2
      go_ret
      exact ⟨rfl, HB.out⟩
theorem und_hd16 : Tryd.prog.underlying 107 = some (.array 128 5) := by kernel_rfl
theorem sz_hd16 : (Tryd.prog.info? 107).map (·.size) = some 128 := by kernel_rfl
theorem info_hd16 : (Tryd.prog.info? 107).map (fun i => (i.zero, i.size)) = some (some (bkV zr15), 128) := by kernel_rfl
theorem zero_hd16 (w : World) : (zeroValue 107).run Tryd.prog w = .ok (bkV zr15) w := by
  have h := info_hd16
  cases hq : Tryd.prog.info? 107 with
  | none => rw [hq] at h; simp at h
  | some i =>
    rw [hq] at h
    simp only [Option.map_some, Option.some.injEq, Prod.mk.injEq] at h
    simp [zeroValue, typeInfo, hq, h.1]
/-- A head is read. -/
theorem ldH {ops : Array Oper} {rest : List Oper} {o : Oper} {a : Act} {w : World} {Q : Exit → Act → World → Prop} (hgd : o.guard = none) (x : Operand) (ho : o.op = .load 107 x)
    (g q : Nat) (b : List Nat) (hx : a.eval x = .pointer (some ⟨g, q, none⟩)) (hr : w.rangeAt g q (b8 b)) (hb : b.length = 128)
    (h : wpList Tryd.prog ops Q rest (a.put o.dst (bkV b)) w) : wpList Tryd.prog ops Q (o :: rest) a w :=
  wpList_load_mid hgd 107 x ho g q hx (b8 b) _ hr und_hd16 rfl (by rw [b8_len, hb]; exact sz_hd16) h
theorem res_hd16 {fn : Func} {p : Tmp} (hr : fn.results = #[.cell p 107]) (tmps : Array Value) {w : World} {g : Nat} {b : List Nat} (h : Vb w g 107 (b8 b)) (hb : b.length = 128) (hp : tmps.getD p undef = .pointer (some ⟨g, 0, none⟩)) :
    (results fn tmps).run Tryd.prog w = .ok (bkV b) w :=
  results_cell_row hr tmps w g 107 (b8 b).toArray (0, 0) _ hp h und_hd16 rfl (by
    have e : (b8 b).toArray.size = 128 := by rw [List.size_toArray, b8_len, hb]
    rw [e]; exact sz_hd16)
set_option maxRecDepth 100000 in
set_option maxHeartbeats 4000000 in
theorem with16 (h : List Nat) (hh : okb h) (p k x : Nat) (hp : p + k ≤ 128) (hk : k ≤ 8) (hx : x < 18446744073709551616) (w : World) :
    Calls Tryd.prog 61 #[bkV h, .int .i64 (p : Int), .int .i64 (k : Int), .int .u64 (x : Int)] w fun e w' => e = .returned (bkV (ptN h p k x)) ∧ Below w.heap.size w w' := by
  have HH : Hid (okb h) := hh
  have HS : Hid (∀ j, p + j < 128 → (ptN h p j x).set (p + j) (x / 2 ^ (8 * j) % 256) = ptN h p (j + 1) x) := fun j hj => ptN_succ h p j x (by rw [hh.1]; exact hj)
  have HO : Hid (∀ j, p + j ≤ 128 → okb (ptN h p j x)) := fun j hj => ptN_ok hh p j x hj
  have HZ : Hid (ptN h p 0 x = h) := ptN_zero h p x
  have HX : Hid (x < 18446744073709551616) := hx
  have hz := zero_hd16
  obtain ⟨wA, hwA⟩ : ∃ wA, wA = w.alloc (.cells (b8 h).toArray 107) := ⟨_, rfl⟩
  have hsA : wA.heap.size = w.heap.size + 1 := by rw [hwA]; simp
  have HA : Hid (Vb wA w.heap.size 107 (b8 h) ∧ Below w.heap.size w wA) := by rw [hwA]; exact ⟨Vb.new _ _ _, bel1 _ _⟩
  unfold bkV
  clear hh hx
  go_enter Tryd.func61, Tryd.ntmps61
  go_upto_region 2 with (refine alV rfl 107 (b8 zr15) hz rfl ?_; rw [← hwA]; intro wB hV3 hB3 hS3; rw [hsA] at hV3 hB3 hS3; rw [hsA])
  clear hwA
  have HB : Hid (Vb wB w.heap.size 107 (b8 (ptN h p 0 x)) ∧ Vb wB (w.heap.size + 1) 107 (b8 zr15) ∧ Below w.heap.size w wB) := ⟨by rw [HZ.out]; exact HA.out.1.kept (hB3.block _ (by omega)), hV3, HA.out.2.trans ⟨hB3.os, hB3.tape, hB3.output, hB3.size, fun q hq => hB3.block q (by omega)⟩⟩
  clear hV3 hB3 hS3 hsA HA hz
  go_loopw [11] (fun s11 wr => ∃ j : Nat, j ≤ k ∧ s11 = .int .i64 (j : Int) ∧ Hid (Vb wr w.heap.size 107 (b8 (ptN h p j x)) ∧ Vb wr (w.heap.size + 1) 107 (b8 zr15) ∧ Below w.heap.size w wr)) (fun s11 _ => k - (intOf s11).toNat)
  case atStart => exact ⟨0, by omega, rfl, HB.out⟩
  case round =>
    obtain ⟨j, hj, rfl, HW⟩ := hrel
    clear HB
    by_cases hlt : j < k
    · have hjI : (j : Int) < (k : Int) := by omega
      have HSj := HS.out j (by omega)
      have HOj := HO.out j (by omega)
      obtain ⟨q, hq⟩ : ∃ q, p + j = q := ⟨_, rfl⟩
      obtain ⟨e8, he8⟩ : ∃ e8, 8 * j = e8 := ⟨_, rfl⟩
      rw [hq, he8] at HSj
      have hc := HW.out.1.cell q _ (b8_cell _ q (by rw [HOj.1]; omega))
      have hf := HW.out.1.fro q
      have hqw : IntKind.i64.wrap ((p : Int) + (j : Int)) = (q : Int) := by rw [IntKind.wrap_i64]; omega
      have hew : IntKind.i64.wrap (8 * (j : Int)) = (e8 : Int) := by rw [IntKind.wrap_i64]; omega
      have hq2 : (q : Int) < 128 := by omega
      have hZ : (x : Int) / 2 ^ min e8 64 % 256 = ((x / 2 ^ e8 % 256 : Nat) : Int) := by
        rw [Nat.min_eq_left (by omega)]
        simp
      have HV2 : Hid (Vb (wr.setCell ⟨w.heap.size, q, none⟩ (.int .u8 ((x : Int) / 2 ^ min e8 64 % 256))) w.heap.size 107 (b8 (ptN h p (j + 1) x)) ∧ Vb (wr.setCell ⟨w.heap.size, q, none⟩ (.int .u8 ((x : Int) / 2 ^ min e8 64 % 256))) (w.heap.size + 1) 107 (b8 zr15) ∧ Below w.heap.size w (wr.setCell ⟨w.heap.size, q, none⟩ (.int .u8 ((x : Int) / 2 ^ min e8 64 % 256)))) :=
        ⟨by rw [hZ, ← HSj]; exact HW.out.1.setB q _, HW.out.2.1.kept (Below.heap_setCell _ _ _ _ (by simp)), HW.out.2.2.setCell (Nat.le_refl _) _⟩
      clear hq he8 hZ HSj HOj HS HO HW
      go_wp2
      go_roundw
      case rel => exact ⟨j + 1, by omega, by go_num, HV2⟩
      case measure => simp [intOf]; omega
    · obtain rfl : j = k := by omega
      have hjI : ¬ (j : Int) < (j : Int) := by omega
      have HOj : Hid ((ptN h p j x).length = 128) := (HO.out j (by omega)).1
      go_wp2_with (first
        | (refine ldH rfl _ rfl w.heap.size 0 (ptN h p j x) rfl HW.out.1.all HOj.out ?_)
        | (refine stV rfl 107 _ _ rfl (w.heap.size + 1) (b8 zr15) (b8 (ptN h p j x)) rfl rfl HW.out.2.1 (by rw [b8_len, b8_len, HOj.out, zr_len]) (by rw [b8_len, HOj.out]; exact sz_hd16) (b8_one _) ?_; intro wC hVC hKC hSC))
      exact bodyPost_ret (res_hd16 rfl _ hVC HOj.out rfl) rfl ⟨rfl, hKC.next HW.out.2.2 (fun i hi => by omega) HW.out.2.2.size⟩
/-- The sum of one text. -/
theorem ofOne16 (w : World) (ad : Option Addr) (n cap : Nat) (l : List Nat) (t : TypeId) (h : Bs w (.slice ad n cap) l) (hn : l.length = n) (hb : ∀ c ∈ l, c < 256) (hl : l.length ≤ 100000) (hT : TbAt w) :
    Calls Tryd.prog 59 #[.slice (some ⟨w.heap.size, 0, none⟩) 1 1] (w.alloc (.cells #[.slice ad n cap] t)) fun e w' => e = .returned (.int .u32 ((sm l : Nat) : Int)) ∧ Below w.heap.size w w' := by
  subst hn
  exact (of11 _ 1 _ _ _ (by omega) (fun _ => hl) (fun _ k => getD_byte hb k) (hT.later (bel1 _ _)) (lb_one w ad l.length cap (fun k => l.getD k 0) t h)).mono fun e w' h => ⟨h.1, bchain (bel1 _ _) h.2⟩
set_option maxRecDepth 100000 in
set_option maxHeartbeats 4000000 in
theorem sum16 (h : List Nat) (hh : okb h) (w : World) (hT : TbAt w) :
    Calls Tryd.prog 62 #[bkV h] w fun e w' => e = .returned (.int .u64 ((sm (h.take 20) : Nat) : Int)) ∧ Below w.heap.size w w' := by
  have hV := Vb.new w 107 (b8 h)
  have hl : (h.take 20).length = 20 := by rw [List.length_take, hh.1]; omega
  have hbs : Bs (w.alloc (.cells (b8 h).toArray 107)) (.slice (some ⟨w.heap.size, 0, none⟩) 20 128) (h.take 20) := by
    have q := hV.bs 0 (h.take 20) (fun j hj => by
      rw [hl] at hj
      rw [Nat.zero_add, b8_cell h j (by rw [hh.1]; omega)]
      simp [List.getD, List.getElem?_take, hj]) 128 (by omega) (by unfold maxLen; omega)
    rw [hl] at q
    exact q
  have C := ofOne16 _ _ 20 128 _ 39 hbs hl (fun c hc => hh.2 c (List.mem_of_mem_take hc)) (by omega) (hT.later (bel1 _ _))
  have HB : Hid (Below w.heap.size w (w.alloc (.cells (b8 h).toArray 107))) := bel1 _ _
  have hs := sm_lt (h.take 20)
  unfold bkV
  clear hV hbs hh hT hl
  go_enter Tryd.func62, Tryd.ntmps62
  go_upto_region 1 with fail
  generalize w.alloc (.cells (b8 h).toArray 107) = w1 at *
  obtain ⟨S, hS⟩ : ∃ S, sm (h.take 20) = S := ⟨_, rfl⟩
  have HS : Hid (sm (h.take 20) = S) := hS
  rw [hS] at C hs
  clear hS
  have hw : IntKind.u64.wrap (S : Int) = (S : Int) := by rw [IntKind.wrap_u64]; omega
  go_wp2_with fail
  refine C.mono ?_
  rintro e w2 ⟨rfl, hB⟩
  have HB2 : Hid (Below w.heap.size w w2) := bchain HB.out hB
  clear hB C
  go_wp2
  go_ret
  exact ⟨by rw [HS.out]; rfl, HB2.out⟩
end Go.Proofs.YtpmmfmlldkdfhaaDoor
