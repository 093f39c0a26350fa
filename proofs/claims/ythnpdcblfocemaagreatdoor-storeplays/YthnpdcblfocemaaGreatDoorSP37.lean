/-
  Texts of this proof, joined: JqD.
-/
import Derived.Test.YthnpdcblfocemaaGreatDoorSP36
set_option linter.unusedVariables false
set_option linter.unusedSimpArgs false
namespace Go.Proofs.YthnpdcblfocemaaGreatDoor
open Go.RowKit

theorem Vb.setC {w : World} {g : Nat} {t : TypeId} {xs : List Value} (hV : Vb w g t xs) (q : Nat) (v : Value) : Vb (w.setCell ⟨g, q, none⟩ v) g t (xs.set q v) := by
  have hlt := hV.lt
  unfold Vb at hV ⊢
  have e : w.heap[g] = Obj.cells xs.toArray t := by
    rw [Array.getElem?_eq_getElem hlt] at hV
    exact Option.some.inj hV
  simp [World.setCell, hlt, Array.getElem_modify, e]
structure Bt (w : World) (h : List Nat) (xs : List Value) (X : World) : Prop where
  v : Vb X w.heap.size 134 (b8 h)
  r : Vb X (w.heap.size + 1) 139 (tgL 0 0 0 0 0)
  t : Vb X (w.heap.size + 2) 139 xs
  k : Below w.heap.size w X
theorem Bt.drew {w : World} {h : List Nat} {xs : List Value} {X : World} (H : Bt w h xs X) : Bt w h xs X.drew := ⟨H.v, H.r, H.t, H.k.drew⟩
theorem Bt.set {w : World} {h : List Nat} {xs : List Value} {X : World} (H : Bt w h xs X) (q : Nat) (v : Value) : Bt w h (xs.set q v) (X.setCell ⟨w.heap.size + 2, q, none⟩ v) :=
  ⟨H.v.kept (Below.heap_setCell _ _ _ _ (by dsimp only; omega)), H.r.kept (Below.heap_setCell _ _ _ _ (by dsimp only; omega)), H.t.setC q v, H.k.setCell (by dsimp only; omega) _⟩
def btg (h : List Nat) : Value := tgV (gt h 104 4) (gt h 108 2) (gt h 110 2) (gt h 112 8) (gt h 120 8)
theorem und_tg17 : Tryz.prog.underlying 139 = some (.array 5 137) := by kernel_rfl
set_option maxRecDepth 100000 in
set_option maxHeartbeats 8000000 in
theorem btag17 (h : List Nat) (hh : okb h) (w : World) (hT : JT w) :
    Calls Tryz.prog 70 #[bkV h] w fun r w' => r = .returned (btg h) ∧ Below w.heap.size w w' := by
  have HH : Hid (okb h) := hh
  have hz := zero_tg17
  have HG : Hid (∀ p j, p + j < 128 → gt h p (j + 1) = gt h p j + h.getD (p + j) 0 * 2 ^ (8 * j)) := fun p j hj => gt_succ h p j (by rw [hh.1]; exact hj)
  have HLt : Hid (∀ p j, gt h p j < 2 ^ (8 * j)) := fun p j => gt_lt hh.2 p j
  have HZ : Hid (∀ p, gt h p 0 = 0) := fun p => by have := gt_lt hh.2 p 0; simp at this; exact this
  have HJ : Hid (JT w) := hT
  obtain ⟨wA, hwA⟩ : ∃ wA, wA = w.alloc (.cells (b8 h).toArray 134) := ⟨_, rfl⟩
  have hsA : wA.heap.size = w.heap.size + 1 := by rw [hwA]; simp
  have HA : Hid (Vb wA w.heap.size 134 (b8 h) ∧ Below w.heap.size w wA ∧ wA.heap.size = w.heap.size + 1) := ⟨by rw [hwA]; exact Vb.new _ _ _, by rw [hwA]; exact bel1 _ _, hsA⟩
  unfold bkV
  clear hh hT
  go_enter Tryz.func70, Tryz.ntmps70
  go_upto_region 1 with (refine alV rfl 139 (tgL 0 0 0 0 0) hz rfl ?_; rw [← hwA]; intro wB hVB hBB hSB; rw [hsA] at hVB hSB; rw [hsA])
  clear hwA
  have HB : Hid (Vb wB w.heap.size 134 (b8 h) ∧ Vb wB (w.heap.size + 1) 139 (tgL 0 0 0 0 0) ∧ Below w.heap.size w wB ∧ wB.heap.size = w.heap.size + 2) := ⟨HA.out.1.later hBB, hVB, bchain HA.out.2.1 hBB, hSB⟩
  clear hVB hBB hSB hsA HA
  go_upto_region 2 with (refine alV rfl 139 (tgL 0 0 0 0 0) hz rfl ?_; intro wC hVC hBC hSC; rw [HB.out.2.2.2] at hVC hSC; rw [HB.out.2.2.2])
  have HW0 : Hid (Bt w h (tgL 0 0 0 0 0) wC) := ⟨HB.out.1.later hBC, HB.out.2.1.later hBC, hVC, bchain HB.out.2.2.1 hBC⟩
  clear hVC hBC hSC HB hz
  obtain ⟨t0, t1, t2, t3, t4⟩ := HJ.out.later HW0.out.k
  go_upto_region 4 with fail
  clear t0 t1 t2 t3 t4
  go_loopw [4, 9] (fun s4 s9 wr => (s4 = .int .i64 104 ∧ s9 = .int .i64 0 ∧ Hid (Bt w h (tgL 0 0 0 0 0) wr)) ∨ (s4 = .int .i64 108 ∧ s9 = .int .i64 1 ∧ Hid (Bt w h (tgL (gt h 104 4) 0 0 0 0) wr)) ∨ (s4 = .int .i64 110 ∧ s9 = .int .i64 2 ∧ Hid (Bt w h (tgL (gt h 104 4) (gt h 108 2) 0 0 0) wr)) ∨ (s4 = .int .i64 112 ∧ s9 = .int .i64 3 ∧ Hid (Bt w h (tgL (gt h 104 4) (gt h 108 2) (gt h 110 2) 0 0) wr)) ∨ (s4 = .int .i64 120 ∧ s9 = .int .i64 4 ∧ Hid (Bt w h (tgL (gt h 104 4) (gt h 108 2) (gt h 110 2) (gt h 112 8) 0) wr)) ∨ (s4 = .int .i64 128 ∧ s9 = .int .i64 5 ∧ Hid (Bt w h (tgL (gt h 104 4) (gt h 108 2) (gt h 110 2) (gt h 112 8) (gt h 120 8)) wr))) (fun _ s9 _ => 5 - (intOf s9).toNat)
  case atStart => exact Or.inl ⟨rfl, rfl, HW0.out⟩
  case round =>
    rcases hrel with ⟨rfl, rfl, HW⟩ | ⟨rfl, rfl, HW⟩ | ⟨rfl, rfl, HW⟩ | ⟨rfl, rfl, HW⟩ | ⟨rfl, rfl, HW⟩ | ⟨rfl, rfl, HW⟩
    · clear HW0
      have HWi : Hid (Bt w h (tgL (gt h 104 0) 0 0 0 0) wr) := by rw [HZ.out 104]; exact HW.out
      clear HW
      have xi : (Instr.index 154 (.agg #[.int .i64 4, .int .i64 2, .int .i64 2, .int .i64 8, .int .i64 8]) (.int .i64 0)).run Tryz.prog wr = .ok (.int .i64 4) wr := idxW _ _ 0 (by omega) rfl wr
      go_upto_region 7 with fail
      clear xi
      go_loopw [14] (fun s14 wr => ∃ j : Nat, j ≤ 4 ∧ s14 = .int .i64 (j : Int) ∧ Hid (Bt w h (tgL (gt h 104 j) 0 0 0 0) wr)) (fun s14 _ => 4 - (intOf s14).toNat)
      case atStart => exact ⟨0, by omega, rfl, HWi.out⟩
      case round =>
        obtain ⟨j, hj, rfl, HW⟩ := hrel
        clear HWi
        by_cases hlt : j < 4
        · have hjI : (j : Int) < 4 := by omega
          have hS := HG.out 104 j (by omega)
          have ha := HLt.out 104 j
          have hx := getD_byte HH.out.2 (104 + j)
          obtain ⟨q, hq⟩ : ∃ q, 104 + j = q := ⟨_, rfl⟩
          obtain ⟨e8, he8⟩ : ∃ e8, 8 * j = e8 := ⟨_, rfl⟩
          rw [hq, he8] at hS
          rw [hq] at hx
          rw [he8] at ha
          have hqw : IntKind.i64.wrap (104 + (j : Int)) = (q : Int) := by rw [IntKind.wrap_i64]; omega
          have hew : IntKind.i64.wrap (8 * (j : Int)) = (e8 : Int) := by rw [IntKind.wrap_i64]; omega
          have hq2 : (q : Int) < 128 := by omega
          have hc2 : wr.drew.cell? ⟨w.heap.size, q, none⟩ = some (.int .u8 ((h.getD q 0 : Nat) : Int)) := HW.out.v.cell q _ (b8_cell _ q (by rw [HH.out.1]; omega))
          have he2 : e8 ≤ 56 := by omega
          have hpw : 2 ^ e8 ≤ 2 ^ 56 := Nat.pow_le_pow_right (by omega) he2
          have hor := or_plusq ha (h.getD q 0)
          have hy1 : h.getD q 0 * 2 ^ e8 < 18446744073709551616 := by
            have := Nat.mul_le_mul (show h.getD q 0 ≤ 255 by omega) hpw
            omega
          have ha1 : gt h 104 j < 18446744073709551616 := by omega
          have hor2 := or64q _ _ ha1 hy1
          rw [hor, ← hS] at hor2
          have hw0 : IntKind.u64.wrap ((h.getD q 0 : Nat) : Int) = ((h.getD q 0 : Nat) : Int) := by rw [IntKind.wrap_u64]; omega
          have hw1 : IntKind.u64.wrap (((h.getD q 0 : Nat) : Int) * 2 ^ e8) = ((h.getD q 0 * 2 ^ e8 : Nat) : Int) := by
            rw [IntKind.wrap_u64, show (((h.getD q 0 : Nat) : Int) * 2 ^ e8) = ((h.getD q 0 * 2 ^ e8 : Nat) : Int) by simp]
            omega
          have HR : Hid (Bt w h (tgL (gt h 104 (j + 1)) 0 0 0 0) (wr.setCell ⟨w.heap.size + 2, 0, none⟩ (.int .u64 ((gt h 104 (j + 1) : Nat) : Int))).drew) := (HW.out.set 0 _).drew
          obtain ⟨A1, hA1⟩ : ∃ A1, gt h 104 (j + 1) = A1 := ⟨_, rfl⟩
          obtain ⟨A0, hA0⟩ : ∃ A0, gt h 104 j = A0 := ⟨_, rfl⟩
          obtain ⟨x, hx0⟩ : ∃ x, h.getD q 0 = x := ⟨_, rfl⟩
          have hc1 : wr.drew.cell? ⟨w.heap.size + 2, 0, none⟩ = some (.int .u64 ((gt h 104 j : Nat) : Int)) := HW.out.t.cell 0 _ rfl
          have hf : wr.drew.frozen? ⟨w.heap.size + 2, 0, none⟩ = false := HW.out.drew.t.fro 0
          have HA1 : Hid (gt h 104 (j + 1) = A1) := hA1
          rw [hA1] at hor2 HR
          rw [hA0, hx0] at hor2
          rw [hx0] at hw0 hw1 hc2
          rw [hA0] at hc1
          have hor3 : bits BinOp.or IntKind.u64 (A0 : Int) ((x : Int) * 2 ^ e8) = (A1 : Int) := by rw [← hor2, Int.natCast_mul, Int.natCast_pow]; rfl
          clear hS ha hx hq he8 hpw hor hy1 ha1 hA1 hA0 hx0 hor2
          go_upto_region 9 with fail
          go_region
          clear hc1 hc2 hf hor3 hw0 hw1 hqw hew HW
          go_wp2
          go_roundw
          case rel => exact ⟨j + 1, by omega, by go_num, by rw [HA1.out]; exact HR.out⟩
          case measure => simp [intOf]; omega
        · obtain rfl : j = 4 := by omega
          have HW2 : Hid (Bt w h (tgL (gt h 104 4) 0 0 0 0) wr) := HW.out
          clear HW hj hlt
          go_wp2
          go_roundw
          case rel => exact Or.inr (Or.inl ⟨rfl, rfl, HW2.out⟩)
          case measure => simp [intOf]
    · clear HW0
      have HWi : Hid (Bt w h (tgL (gt h 104 4) (gt h 108 0) 0 0 0) wr) := by rw [HZ.out 108]; exact HW.out
      clear HW
      have xi : (Instr.index 154 (.agg #[.int .i64 4, .int .i64 2, .int .i64 2, .int .i64 8, .int .i64 8]) (.int .i64 1)).run Tryz.prog wr = .ok (.int .i64 2) wr := idxW _ _ 1 (by omega) rfl wr
      go_upto_region 7 with fail
      clear xi
      go_loopw [14] (fun s14 wr => ∃ j : Nat, j ≤ 2 ∧ s14 = .int .i64 (j : Int) ∧ Hid (Bt w h (tgL (gt h 104 4) (gt h 108 j) 0 0 0) wr)) (fun s14 _ => 2 - (intOf s14).toNat)
      case atStart => exact ⟨0, by omega, rfl, HWi.out⟩
      case round =>
        obtain ⟨j, hj, rfl, HW⟩ := hrel
        clear HWi
        by_cases hlt : j < 2
        · have hjI : (j : Int) < 2 := by omega
          have hS := HG.out 108 j (by omega)
          have ha := HLt.out 108 j
          have hx := getD_byte HH.out.2 (108 + j)
          obtain ⟨q, hq⟩ : ∃ q, 108 + j = q := ⟨_, rfl⟩
          obtain ⟨e8, he8⟩ : ∃ e8, 8 * j = e8 := ⟨_, rfl⟩
          rw [hq, he8] at hS
          rw [hq] at hx
          rw [he8] at ha
          have hqw : IntKind.i64.wrap (108 + (j : Int)) = (q : Int) := by rw [IntKind.wrap_i64]; omega
          have hew : IntKind.i64.wrap (8 * (j : Int)) = (e8 : Int) := by rw [IntKind.wrap_i64]; omega
          have hq2 : (q : Int) < 128 := by omega
          have hc2 : wr.drew.cell? ⟨w.heap.size, q, none⟩ = some (.int .u8 ((h.getD q 0 : Nat) : Int)) := HW.out.v.cell q _ (b8_cell _ q (by rw [HH.out.1]; omega))
          have he2 : e8 ≤ 56 := by omega
          have hpw : 2 ^ e8 ≤ 2 ^ 56 := Nat.pow_le_pow_right (by omega) he2
          have hor := or_plusq ha (h.getD q 0)
          have hy1 : h.getD q 0 * 2 ^ e8 < 18446744073709551616 := by
            have := Nat.mul_le_mul (show h.getD q 0 ≤ 255 by omega) hpw
            omega
          have ha1 : gt h 108 j < 18446744073709551616 := by omega
          have hor2 := or64q _ _ ha1 hy1
          rw [hor, ← hS] at hor2
          have hw0 : IntKind.u64.wrap ((h.getD q 0 : Nat) : Int) = ((h.getD q 0 : Nat) : Int) := by rw [IntKind.wrap_u64]; omega
          have hw1 : IntKind.u64.wrap (((h.getD q 0 : Nat) : Int) * 2 ^ e8) = ((h.getD q 0 * 2 ^ e8 : Nat) : Int) := by
            rw [IntKind.wrap_u64, show (((h.getD q 0 : Nat) : Int) * 2 ^ e8) = ((h.getD q 0 * 2 ^ e8 : Nat) : Int) by simp]
            omega
          have HR : Hid (Bt w h (tgL (gt h 104 4) (gt h 108 (j + 1)) 0 0 0) (wr.setCell ⟨w.heap.size + 2, 1, none⟩ (.int .u64 ((gt h 108 (j + 1) : Nat) : Int))).drew) := (HW.out.set 1 _).drew
          obtain ⟨A1, hA1⟩ : ∃ A1, gt h 108 (j + 1) = A1 := ⟨_, rfl⟩
          obtain ⟨A0, hA0⟩ : ∃ A0, gt h 108 j = A0 := ⟨_, rfl⟩
          obtain ⟨x, hx0⟩ : ∃ x, h.getD q 0 = x := ⟨_, rfl⟩
          have hc1 : wr.drew.cell? ⟨w.heap.size + 2, 1, none⟩ = some (.int .u64 ((gt h 108 j : Nat) : Int)) := HW.out.t.cell 1 _ rfl
          have hf : wr.drew.frozen? ⟨w.heap.size + 2, 1, none⟩ = false := HW.out.drew.t.fro 1
          have HA1 : Hid (gt h 108 (j + 1) = A1) := hA1
          rw [hA1] at hor2 HR
          rw [hA0, hx0] at hor2
          rw [hx0] at hw0 hw1 hc2
          rw [hA0] at hc1
          have hor3 : bits BinOp.or IntKind.u64 (A0 : Int) ((x : Int) * 2 ^ e8) = (A1 : Int) := by rw [← hor2, Int.natCast_mul, Int.natCast_pow]; rfl
          clear hS ha hx hq he8 hpw hor hy1 ha1 hA1 hA0 hx0 hor2
          go_upto_region 9 with fail
          go_region
          clear hc1 hc2 hf hor3 hw0 hw1 hqw hew HW
          go_wp2
          go_roundw
          case rel => exact ⟨j + 1, by omega, by go_num, by rw [HA1.out]; exact HR.out⟩
          case measure => simp [intOf]; omega
        · obtain rfl : j = 2 := by omega
          have HW2 : Hid (Bt w h (tgL (gt h 104 4) (gt h 108 2) 0 0 0) wr) := HW.out
          clear HW hj hlt
          go_wp2
          go_roundw
          case rel => exact Or.inr (Or.inr (Or.inl ⟨rfl, rfl, HW2.out⟩))
          case measure => simp [intOf]
    · clear HW0
      have HWi : Hid (Bt w h (tgL (gt h 104 4) (gt h 108 2) (gt h 110 0) 0 0) wr) := by rw [HZ.out 110]; exact HW.out
      clear HW
      have xi : (Instr.index 154 (.agg #[.int .i64 4, .int .i64 2, .int .i64 2, .int .i64 8, .int .i64 8]) (.int .i64 2)).run Tryz.prog wr = .ok (.int .i64 2) wr := idxW _ _ 2 (by omega) rfl wr
      go_upto_region 7 with fail
      clear xi
      go_loopw [14] (fun s14 wr => ∃ j : Nat, j ≤ 2 ∧ s14 = .int .i64 (j : Int) ∧ Hid (Bt w h (tgL (gt h 104 4) (gt h 108 2) (gt h 110 j) 0 0) wr)) (fun s14 _ => 2 - (intOf s14).toNat)
      case atStart => exact ⟨0, by omega, rfl, HWi.out⟩
      case round =>
        obtain ⟨j, hj, rfl, HW⟩ := hrel
        clear HWi
        by_cases hlt : j < 2
        · have hjI : (j : Int) < 2 := by omega
          have hS := HG.out 110 j (by omega)
          have ha := HLt.out 110 j
          have hx := getD_byte HH.out.2 (110 + j)
          obtain ⟨q, hq⟩ : ∃ q, 110 + j = q := ⟨_, rfl⟩
          obtain ⟨e8, he8⟩ : ∃ e8, 8 * j = e8 := ⟨_, rfl⟩
          rw [hq, he8] at hS
          rw [hq] at hx
          rw [he8] at ha
          have hqw : IntKind.i64.wrap (110 + (j : Int)) = (q : Int) := by rw [IntKind.wrap_i64]; omega
          have hew : IntKind.i64.wrap (8 * (j : Int)) = (e8 : Int) := by rw [IntKind.wrap_i64]; omega
          have hq2 : (q : Int) < 128 := by omega
          have hc2 : wr.drew.cell? ⟨w.heap.size, q, none⟩ = some (.int .u8 ((h.getD q 0 : Nat) : Int)) := HW.out.v.cell q _ (b8_cell _ q (by rw [HH.out.1]; omega))
          have he2 : e8 ≤ 56 := by omega
          have hpw : 2 ^ e8 ≤ 2 ^ 56 := Nat.pow_le_pow_right (by omega) he2
          have hor := or_plusq ha (h.getD q 0)
          have hy1 : h.getD q 0 * 2 ^ e8 < 18446744073709551616 := by
            have := Nat.mul_le_mul (show h.getD q 0 ≤ 255 by omega) hpw
            omega
          have ha1 : gt h 110 j < 18446744073709551616 := by omega
          have hor2 := or64q _ _ ha1 hy1
          rw [hor, ← hS] at hor2
          have hw0 : IntKind.u64.wrap ((h.getD q 0 : Nat) : Int) = ((h.getD q 0 : Nat) : Int) := by rw [IntKind.wrap_u64]; omega
          have hw1 : IntKind.u64.wrap (((h.getD q 0 : Nat) : Int) * 2 ^ e8) = ((h.getD q 0 * 2 ^ e8 : Nat) : Int) := by
            rw [IntKind.wrap_u64, show (((h.getD q 0 : Nat) : Int) * 2 ^ e8) = ((h.getD q 0 * 2 ^ e8 : Nat) : Int) by simp]
            omega
          have HR : Hid (Bt w h (tgL (gt h 104 4) (gt h 108 2) (gt h 110 (j + 1)) 0 0) (wr.setCell ⟨w.heap.size + 2, 2, none⟩ (.int .u64 ((gt h 110 (j + 1) : Nat) : Int))).drew) := (HW.out.set 2 _).drew
          obtain ⟨A1, hA1⟩ : ∃ A1, gt h 110 (j + 1) = A1 := ⟨_, rfl⟩
          obtain ⟨A0, hA0⟩ : ∃ A0, gt h 110 j = A0 := ⟨_, rfl⟩
          obtain ⟨x, hx0⟩ : ∃ x, h.getD q 0 = x := ⟨_, rfl⟩
          have hc1 : wr.drew.cell? ⟨w.heap.size + 2, 2, none⟩ = some (.int .u64 ((gt h 110 j : Nat) : Int)) := HW.out.t.cell 2 _ rfl
          have hf : wr.drew.frozen? ⟨w.heap.size + 2, 2, none⟩ = false := HW.out.drew.t.fro 2
          have HA1 : Hid (gt h 110 (j + 1) = A1) := hA1
          rw [hA1] at hor2 HR
          rw [hA0, hx0] at hor2
          rw [hx0] at hw0 hw1 hc2
          rw [hA0] at hc1
          have hor3 : bits BinOp.or IntKind.u64 (A0 : Int) ((x : Int) * 2 ^ e8) = (A1 : Int) := by rw [← hor2, Int.natCast_mul, Int.natCast_pow]; rfl
          clear hS ha hx hq he8 hpw hor hy1 ha1 hA1 hA0 hx0 hor2
          go_upto_region 9 with fail
          go_region
          clear hc1 hc2 hf hor3 hw0 hw1 hqw hew HW
          go_wp2
          go_roundw
          case rel => exact ⟨j + 1, by omega, by go_num, by rw [HA1.out]; exact HR.out⟩
          case measure => simp [intOf]; omega
        · obtain rfl : j = 2 := by omega
          have HW2 : Hid (Bt w h (tgL (gt h 104 4) (gt h 108 2) (gt h 110 2) 0 0) wr) := HW.out
          clear HW hj hlt
          go_wp2
          go_roundw
          case rel => exact Or.inr (Or.inr (Or.inr (Or.inl ⟨rfl, rfl, HW2.out⟩)))
          case measure => simp [intOf]
    · clear HW0
      have HWi : Hid (Bt w h (tgL (gt h 104 4) (gt h 108 2) (gt h 110 2) (gt h 112 0) 0) wr) := by rw [HZ.out 112]; exact HW.out
      clear HW
      have xi : (Instr.index 154 (.agg #[.int .i64 4, .int .i64 2, .int .i64 2, .int .i64 8, .int .i64 8]) (.int .i64 3)).run Tryz.prog wr = .ok (.int .i64 8) wr := idxW _ _ 3 (by omega) rfl wr
      go_upto_region 7 with fail
      clear xi
      go_loopw [14] (fun s14 wr => ∃ j : Nat, j ≤ 8 ∧ s14 = .int .i64 (j : Int) ∧ Hid (Bt w h (tgL (gt h 104 4) (gt h 108 2) (gt h 110 2) (gt h 112 j) 0) wr)) (fun s14 _ => 8 - (intOf s14).toNat)
      case atStart => exact ⟨0, by omega, rfl, HWi.out⟩
      case round =>
        obtain ⟨j, hj, rfl, HW⟩ := hrel
        clear HWi
        by_cases hlt : j < 8
        · have hjI : (j : Int) < 8 := by omega
          have hS := HG.out 112 j (by omega)
          have ha := HLt.out 112 j
          have hx := getD_byte HH.out.2 (112 + j)
          obtain ⟨q, hq⟩ : ∃ q, 112 + j = q := ⟨_, rfl⟩
          obtain ⟨e8, he8⟩ : ∃ e8, 8 * j = e8 := ⟨_, rfl⟩
          rw [hq, he8] at hS
          rw [hq] at hx
          rw [he8] at ha
          have hqw : IntKind.i64.wrap (112 + (j : Int)) = (q : Int) := by rw [IntKind.wrap_i64]; omega
          have hew : IntKind.i64.wrap (8 * (j : Int)) = (e8 : Int) := by rw [IntKind.wrap_i64]; omega
          have hq2 : (q : Int) < 128 := by omega
          have hc2 : wr.drew.cell? ⟨w.heap.size, q, none⟩ = some (.int .u8 ((h.getD q 0 : Nat) : Int)) := HW.out.v.cell q _ (b8_cell _ q (by rw [HH.out.1]; omega))
          have he2 : e8 ≤ 56 := by omega
          have hpw : 2 ^ e8 ≤ 2 ^ 56 := Nat.pow_le_pow_right (by omega) he2
          have hor := or_plusq ha (h.getD q 0)
          have hy1 : h.getD q 0 * 2 ^ e8 < 18446744073709551616 := by
            have := Nat.mul_le_mul (show h.getD q 0 ≤ 255 by omega) hpw
            omega
          have ha1 : gt h 112 j < 18446744073709551616 := by omega
          have hor2 := or64q _ _ ha1 hy1
          rw [hor, ← hS] at hor2
          have hw0 : IntKind.u64.wrap ((h.getD q 0 : Nat) : Int) = ((h.getD q 0 : Nat) : Int) := by rw [IntKind.wrap_u64]; omega
          have hw1 : IntKind.u64.wrap (((h.getD q 0 : Nat) : Int) * 2 ^ e8) = ((h.getD q 0 * 2 ^ e8 : Nat) : Int) := by
            rw [IntKind.wrap_u64, show (((h.getD q 0 : Nat) : Int) * 2 ^ e8) = ((h.getD q 0 * 2 ^ e8 : Nat) : Int) by simp]
            omega
          have HR : Hid (Bt w h (tgL (gt h 104 4) (gt h 108 2) (gt h 110 2) (gt h 112 (j + 1)) 0) (wr.setCell ⟨w.heap.size + 2, 3, none⟩ (.int .u64 ((gt h 112 (j + 1) : Nat) : Int))).drew) := (HW.out.set 3 _).drew
          obtain ⟨A1, hA1⟩ : ∃ A1, gt h 112 (j + 1) = A1 := ⟨_, rfl⟩
          obtain ⟨A0, hA0⟩ : ∃ A0, gt h 112 j = A0 := ⟨_, rfl⟩
          obtain ⟨x, hx0⟩ : ∃ x, h.getD q 0 = x := ⟨_, rfl⟩
          have hc1 : wr.drew.cell? ⟨w.heap.size + 2, 3, none⟩ = some (.int .u64 ((gt h 112 j : Nat) : Int)) := HW.out.t.cell 3 _ rfl
          have hf : wr.drew.frozen? ⟨w.heap.size + 2, 3, none⟩ = false := HW.out.drew.t.fro 3
          have HA1 : Hid (gt h 112 (j + 1) = A1) := hA1
          rw [hA1] at hor2 HR
          rw [hA0, hx0] at hor2
          rw [hx0] at hw0 hw1 hc2
          rw [hA0] at hc1
          have hor3 : bits BinOp.or IntKind.u64 (A0 : Int) ((x : Int) * 2 ^ e8) = (A1 : Int) := by rw [← hor2, Int.natCast_mul, Int.natCast_pow]; rfl
          clear hS ha hx hq he8 hpw hor hy1 ha1 hA1 hA0 hx0 hor2
          go_upto_region 9 with fail
          go_region
          clear hc1 hc2 hf hor3 hw0 hw1 hqw hew HW
          go_wp2
          go_roundw
          case rel => exact ⟨j + 1, by omega, by go_num, by rw [HA1.out]; exact HR.out⟩
          case measure => simp [intOf]; omega
        · obtain rfl : j = 8 := by omega
          have HW2 : Hid (Bt w h (tgL (gt h 104 4) (gt h 108 2) (gt h 110 2) (gt h 112 8) 0) wr) := HW.out
          clear HW hj hlt
          go_wp2
          go_roundw
          case rel => exact Or.inr (Or.inr (Or.inr (Or.inr (Or.inl ⟨rfl, rfl, HW2.out⟩))))
          case measure => simp [intOf]
    · clear HW0
      have HWi : Hid (Bt w h (tgL (gt h 104 4) (gt h 108 2) (gt h 110 2) (gt h 112 8) (gt h 120 0)) wr) := by rw [HZ.out 120]; exact HW.out
      clear HW
      have xi : (Instr.index 154 (.agg #[.int .i64 4, .int .i64 2, .int .i64 2, .int .i64 8, .int .i64 8]) (.int .i64 4)).run Tryz.prog wr = .ok (.int .i64 8) wr := idxW _ _ 4 (by omega) rfl wr
      go_upto_region 7 with fail
      clear xi
      go_loopw [14] (fun s14 wr => ∃ j : Nat, j ≤ 8 ∧ s14 = .int .i64 (j : Int) ∧ Hid (Bt w h (tgL (gt h 104 4) (gt h 108 2) (gt h 110 2) (gt h 112 8) (gt h 120 j)) wr)) (fun s14 _ => 8 - (intOf s14).toNat)
      case atStart => exact ⟨0, by omega, rfl, HWi.out⟩
      case round =>
        obtain ⟨j, hj, rfl, HW⟩ := hrel
        clear HWi
        by_cases hlt : j < 8
        · have hjI : (j : Int) < 8 := by omega
          have hS := HG.out 120 j (by omega)
          have ha := HLt.out 120 j
          have hx := getD_byte HH.out.2 (120 + j)
          obtain ⟨q, hq⟩ : ∃ q, 120 + j = q := ⟨_, rfl⟩
          obtain ⟨e8, he8⟩ : ∃ e8, 8 * j = e8 := ⟨_, rfl⟩
          rw [hq, he8] at hS
          rw [hq] at hx
          rw [he8] at ha
          have hqw : IntKind.i64.wrap (120 + (j : Int)) = (q : Int) := by rw [IntKind.wrap_i64]; omega
          have hew : IntKind.i64.wrap (8 * (j : Int)) = (e8 : Int) := by rw [IntKind.wrap_i64]; omega
          have hq2 : (q : Int) < 128 := by omega
          have hc2 : wr.drew.cell? ⟨w.heap.size, q, none⟩ = some (.int .u8 ((h.getD q 0 : Nat) : Int)) := HW.out.v.cell q _ (b8_cell _ q (by rw [HH.out.1]; omega))
          have he2 : e8 ≤ 56 := by omega
          have hpw : 2 ^ e8 ≤ 2 ^ 56 := Nat.pow_le_pow_right (by omega) he2
          have hor := or_plusq ha (h.getD q 0)
          have hy1 : h.getD q 0 * 2 ^ e8 < 18446744073709551616 := by
            have := Nat.mul_le_mul (show h.getD q 0 ≤ 255 by omega) hpw
            omega
          have ha1 : gt h 120 j < 18446744073709551616 := by omega
          have hor2 := or64q _ _ ha1 hy1
          rw [hor, ← hS] at hor2
          have hw0 : IntKind.u64.wrap ((h.getD q 0 : Nat) : Int) = ((h.getD q 0 : Nat) : Int) := by rw [IntKind.wrap_u64]; omega
          have hw1 : IntKind.u64.wrap (((h.getD q 0 : Nat) : Int) * 2 ^ e8) = ((h.getD q 0 * 2 ^ e8 : Nat) : Int) := by
            rw [IntKind.wrap_u64, show (((h.getD q 0 : Nat) : Int) * 2 ^ e8) = ((h.getD q 0 * 2 ^ e8 : Nat) : Int) by simp]
            omega
          have HR : Hid (Bt w h (tgL (gt h 104 4) (gt h 108 2) (gt h 110 2) (gt h 112 8) (gt h 120 (j + 1))) (wr.setCell ⟨w.heap.size + 2, 4, none⟩ (.int .u64 ((gt h 120 (j + 1) : Nat) : Int))).drew) := (HW.out.set 4 _).drew
          obtain ⟨A1, hA1⟩ : ∃ A1, gt h 120 (j + 1) = A1 := ⟨_, rfl⟩
          obtain ⟨A0, hA0⟩ : ∃ A0, gt h 120 j = A0 := ⟨_, rfl⟩
          obtain ⟨x, hx0⟩ : ∃ x, h.getD q 0 = x := ⟨_, rfl⟩
          have hc1 : wr.drew.cell? ⟨w.heap.size + 2, 4, none⟩ = some (.int .u64 ((gt h 120 j : Nat) : Int)) := HW.out.t.cell 4 _ rfl
          have hf : wr.drew.frozen? ⟨w.heap.size + 2, 4, none⟩ = false := HW.out.drew.t.fro 4
          have HA1 : Hid (gt h 120 (j + 1) = A1) := hA1
          rw [hA1] at hor2 HR
          rw [hA0, hx0] at hor2
          rw [hx0] at hw0 hw1 hc2
          rw [hA0] at hc1
          have hor3 : bits BinOp.or IntKind.u64 (A0 : Int) ((x : Int) * 2 ^ e8) = (A1 : Int) := by rw [← hor2, Int.natCast_mul, Int.natCast_pow]; rfl
          clear hS ha hx hq he8 hpw hor hy1 ha1 hA1 hA0 hx0 hor2
          go_upto_region 9 with fail
          go_region
          clear hc1 hc2 hf hor3 hw0 hw1 hqw hew HW
          go_wp2
          go_roundw
          case rel => exact ⟨j + 1, by omega, by go_num, by rw [HA1.out]; exact HR.out⟩
          case measure => simp [intOf]; omega
        · obtain rfl : j = 8 := by omega
          have HW2 : Hid (Bt w h (tgL (gt h 104 4) (gt h 108 2) (gt h 110 2) (gt h 112 8) (gt h 120 8)) wr) := HW.out
          clear HW hj hlt
          go_wp2
          go_roundw
          case rel => exact Or.inr (Or.inr (Or.inr (Or.inr (Or.inr (⟨rfl, rfl, HW2.out⟩)))))
          case measure => simp [intOf]
    · clear HW0
      have t0 := HW.out.t.cell 0 _ rfl
      have t1 := HW.out.t.cell 1 _ rfl
      have t2 := HW.out.t.cell 2 _ rfl
      have t3 := HW.out.t.cell 3 _ rfl
      have t4 := HW.out.t.cell 4 _ rfl
      go_wp2_with (refine stV rfl 139 _ _ rfl (w.heap.size + 1) (tgL 0 0 0 0 0) (tgL (gt h 104 4) (gt h 108 2) (gt h 110 2) (gt h 112 8) (gt h 120 8)) rfl rfl HW.out.r rfl sz_tg17 (tgL_one _ _ _ _ _) ?_; intro wE hVE hKE hSE)
      have c0 := hVE.cell 0 _ rfl
      have c1 := hVE.cell 1 _ rfl
      have c2 := hVE.cell 2 _ rfl
      have c3 := hVE.cell 3 _ rfl
      have c4 := hVE.cell 4 _ rfl
      exact bodyPost_ret (v := btg h) (by simp [results, Tryz.results70, go_sem, btg, tgV, c0, c1, c2, c3, c4]) rfl ⟨rfl, hKE.next HW.out.k (fun i hi => by omega) HW.out.k.size⟩
end Go.Proofs.YthnpdcblfocemaaGreatDoor
