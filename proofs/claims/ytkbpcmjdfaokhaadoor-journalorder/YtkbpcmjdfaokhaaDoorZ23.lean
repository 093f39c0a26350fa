/-
  Layer 17: the law's texts.
-/
import Derived.Test.YtkbpcmjdfaokhaaDoorZ22
import Derived.Test.YtkbpcmjdfaokhaaDoorZ04

set_option linter.unusedVariables false
set_option linter.unusedSimpArgs false
namespace Go.Proofs.YtkbpcmjdfaokhaaDoor
open Go.RowKit

/-- A place that is right. -/
def Rgh17 (n a r : Int) : Prop := 1 ≤ r ∧ 0 ≤ a ∧ a + r ≤ n
instance (n a r : Int) : Decidable (Rgh17 n a r) := by unfold Rgh17; infer_instance
set_option maxRecDepth 100000 in
set_option maxHeartbeats 2000000 in
theorem refRight17 (n a r : Int) (hn : 1 ≤ n ∧ n ≤ 16384) (ha : Bd64 a) (hr : Bd64 r) (w : World) :
    Calls Tryd.prog 11 #[.int .i64 n, .int .i64 a, .int .i64 r] w fun e w' => e = .returned (.bool (decide (Rgh17 n a r))) ∧ w' = w := by
  have HV : Hid (∀ B : Bool, (B = true ↔ Rgh17 n a r) → decide (Rgh17 n a r) = B) := fun B hB => by
    cases B with
    | true => exact decide_eq_true (hB.1 rfl)
    | false => exact decide_eq_false (fun q => by have := hB.2 q; cases this)
  obtain ⟨a1, a2⟩ := ha
  obtain ⟨r1, r2⟩ := hr
  obtain ⟨n1, n2⟩ := hn
  by_cases c1 : 1 ≤ r
  · by_cases c3 : 0 ≤ a
    · by_cases c4 : a ≤ n
      · have k1 : IntKind.i64.wrap (n - a) = n - a := by rw [IntKind.wrap_i64]; omega
        by_cases c5 : r ≤ n - a
        · have HE : Hid (decide (Rgh17 n a r) = true) := HV.out true ⟨fun _ => ⟨c1, c3, by omega⟩, fun _ => rfl⟩
          go_enter Tryd.func11, Tryd.ntmps11
          go_wp2
          go_ret
          rw [HE.out]
          exact ⟨rfl, rfl⟩
        · have HE : Hid (decide (Rgh17 n a r) = false) := HV.out false ⟨fun q => (by cases q), fun q => (by have := q.2.2; omega)⟩
          go_enter Tryd.func11, Tryd.ntmps11
          go_wp2
          go_ret
          rw [HE.out]
          exact ⟨rfl, rfl⟩
      · have HE : Hid (decide (Rgh17 n a r) = false) := HV.out false ⟨fun q => (by cases q), fun q => (by have := q.2.2; have := q.1; omega)⟩
        go_enter Tryd.func11, Tryd.ntmps11
        go_wp2
        go_ret
        rw [HE.out]
        exact ⟨rfl, rfl⟩
    · have HE : Hid (decide (Rgh17 n a r) = false) := HV.out false ⟨fun q => (by cases q), fun q => absurd q.2.1 c3⟩
      go_enter Tryd.func11, Tryd.ntmps11
      go_wp2
      go_ret
      rw [HE.out]
      exact ⟨rfl, rfl⟩
  · have HE : Hid (decide (Rgh17 n a r) = false) := HV.out false ⟨fun q => (by cases q), fun q => absurd q.1 c1⟩
    go_enter Tryd.func11, Tryd.ntmps11
    go_wp2
    go_ret
    rw [HE.out]
    exact ⟨rfl, rfl⟩
set_option maxRecDepth 100000 in
set_option maxHeartbeats 8000000 in
theorem texts17 (va vb : Value) (xs ys : List (List Nat)) (w : World) (ha : Txs w va xs) (hb : Txs w vb ys) :
    Calls Tryd.prog 21 #[va, vb] w fun e w' => e = .returned (.bool (decide (xs = ys))) ∧ Below w.heap.size w w' := by
  have HA : Hid (Txs w va xs ∧ Txs w vb ys) := ⟨ha, hb⟩
  obtain ⟨aa, ca, rfl, a1, a2⟩ := ha.len
  obtain ⟨ab, cb, rfl, b1, b2⟩ := hb.len
  unfold maxLen at a2 b2
  obtain ⟨n, hn⟩ : ∃ n, xs.length = n := ⟨_, rfl⟩
  obtain ⟨m, hm⟩ : ∃ m, ys.length = m := ⟨_, rfl⟩
  have HN : Hid (xs.length = n ∧ ys.length = m) := ⟨hn, hm⟩
  rw [hn, hm] at HA
  rw [hn] at a1 ⊢
  rw [hm] at b1 ⊢
  clear ha hb hn hm
  go_enter Tryd.func21, Tryd.ntmps21
  by_cases q1 : n = m
  · subst q1
    have q1I : (n : Int) = (n : Int) := rfl
    go_upto_region 4 with fail
    go_loopw [14] (fun s14 wr => ∃ j : Nat, j ≤ n ∧ s14 = .int .i64 (j : Int) ∧ Hid (Below w.heap.size w wr ∧ ∀ k, k < j → xs.getD k [] = ys.getD k [])) (fun s14 _ => n - (intOf s14).toNat)
    case atStart => exact ⟨0, by omega, rfl, Below.refl _ _, fun k hk => by omega⟩
    case round =>
      obtain ⟨j, hj, rfl, HB⟩ := hrel
      by_cases hlt : j < n
      · have hjI : (j : Int) < (n : Int) := by omega
        have hj0 : (0 : Int) ≤ (j : Int) := by omega
        obtain ⟨b1, o1, x, rfl, c1, hx⟩ := HA.out.1.cel j (by have := HN.out.1; omega)
        obtain ⟨b2, o2, y, rfl, c2, hy⟩ := HA.out.2.cel j (by have := HN.out.2; omega)
        have z1 := cell_later HB.out.1 c1
        have z2 := cell_later HB.out.1 c2
        have HXY : Hid (Bs wr x (xs.getD j []) ∧ Bs wr y (ys.getD j [])) := ⟨hx.later HB.out.1, hy.later HB.out.1⟩
        obtain ⟨ax, px, ex, -, -⟩ := hx.len
        obtain ⟨ay, py, ey, -, -⟩ := hy.len
        subst ex ey
        clear hx hy c1 c2
        have HS : Hid (∀ k, k < j → xs.getD k [] = ys.getD k []) := HB.out.2
        obtain ⟨X, hX⟩ : ∃ X, xs.getD j [] = X := ⟨_, rfl⟩
        obtain ⟨Y, hY⟩ : ∃ Y, ys.getD j [] = Y := ⟨_, rfl⟩
        rw [hX, hY] at HXY
        rw [hX] at z1
        rw [hY] at z2
        have HXe : Hid (xs.getD j [] = X ∧ ys.getD j [] = Y) := ⟨hX, hY⟩
        clear hX hY
        generalize X.length = L1 at *
        generalize Y.length = L2 at *
        go_wp2_with fail
        refine (sameB _ _ _ _ wr HXY.out.1 HXY.out.2).mono ?_
        rintro e w2 ⟨rfl, hW2⟩
        have HB2 : Hid (Below w.heap.size w w2) := bchain HB.out.1 hW2
        clear hW2 z1 z2
        by_cases he : X = Y
        · rw [decide_eq_true he]
          have HS2 : Hid (Below w.heap.size w w2 ∧ ∀ k, k < j + 1 → xs.getD k [] = ys.getD k []) := ⟨HB2.out, fun k hk => by
            by_cases e : k = j
            · subst e; rw [HXe.out.1, HXe.out.2, he]
            · exact HS.out k (by omega)⟩
          go_wp2_with fail
          go_roundw
          case rel => exact ⟨j + 1, by omega, by first | rfl | go_num, HS2⟩
          case measure => simp only [intOf]; omega
        · rw [decide_eq_false he]
          have HF : Hid (decide (xs = ys) = false) := decide_eq_false (fun e => he (by rw [← HXe.out.1, ← HXe.out.2, e]))
          go_wp2_with fail
          go_ret
          rw [HF.out]
          exact ⟨rfl, HB2.out⟩
      · obtain rfl : j = n := by omega
        have hjI : ¬ (j : Int) < (j : Int) := by omega
        have HF : Hid (decide (xs = ys) = true) := by
          refine decide_eq_true (List.ext_getElem (by have := HN.out; omega) (fun k h1 h2 => ?_))
          have := HB.out.2 k (by have := HN.out.1; omega)
          simpa [List.getD, h1, h2] using this
        go_wp2_with fail
        go_ret
        rw [HF.out]
        exact ⟨rfl, HB.out.1⟩
  · have q1I : ¬ (n : Int) = (m : Int) := by omega
    have HF : Hid (decide (xs = ys) = false) := by
      show _ = _
      refine decide_eq_false (fun e => q1 ?_)
      have := HN.out
      rw [e] at this
      omega
    go_wp2_with fail
    go_ret
    rw [HF.out]
    exact ⟨rfl, Below.refl _ _⟩
end Go.Proofs.YtkbpcmjdfaokhaaDoor
