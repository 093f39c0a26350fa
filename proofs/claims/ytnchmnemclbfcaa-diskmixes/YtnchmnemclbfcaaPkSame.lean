/-
  Two texts, and two lists of numbers, held against each other (regattaref11.Same, regattaref04.Same); numbers copied (regattalaw12.wide, plain).
-/
import Derived.Test.YtnchmnemclbfcaaPkBase
set_option linter.unusedVariables false
set_option linter.unusedSimpArgs false
namespace Go.Proofs.Ytnchmnemclbfcaa
open Go.RowKit

theorem below_drewP {B : Nat} {a w : World} (h : Below B a w) (k : Nat) : Below B a (w.drewN k) := ⟨h.os, h.tape, h.output, h.size, h.block⟩
theorem neF {x y : Int} (h : x = y) : (x != y) = false := by simp [h]
theorem neT {x y : Int} (h : ¬ x = y) : (x != y) = true := by simp [h]
theorem ext0 {α : Type} (d : α) {l m : List α} (h1 : l.length = m.length) (h2 : ∀ k, k < l.length → l.getD k d = m.getD k d) : l = m := by
  apply List.ext_getElem h1
  intro k q1 q2
  have := h2 k q1
  simpa [List.getD, q1, q2] using this
set_option maxRecDepth 100000 in
set_option maxHeartbeats 4000000 in
theorem sameB (va vb : Value) (l m : List Nat) (w : World) (hA : Bs w va l) (hB : Bs w vb m) :
    Calls Try.prog 16 #[va, vb] w fun e w' => e = .returned (.bool (decide (l = m))) ∧ Below w.heap.size w w' := by
  have HA : Hid (Bs w va l) := hA
  have HB : Hid (Bs w vb m) := hB
  obtain ⟨ad, cap, rfl, k1, k2⟩ := hA.len
  obtain ⟨bd, bap, rfl, q1, q2⟩ := hB.len
  unfold maxLen at k2 q2
  clear hA hB
  by_cases hlen : l.length = m.length
  · have HE : Hid (l.length = m.length) := hlen
    have hne : ((l.length : Int) != (m.length : Int)) = false := by simp [hlen]
    have hnI : (l.length : Int) = (m.length : Int) := by omega
    obtain ⟨n, hn⟩ : ∃ n, l.length = n := ⟨_, rfl⟩
    obtain ⟨n2, hn2⟩ : ∃ n2, m.length = n2 := ⟨_, rfl⟩
    have HN : Hid (l.length = n ∧ m.length = n) := ⟨hn, by omega⟩
    rw [hn, hn2] at hlen
    rw [hn] at k1 HA ⊢
    rw [hn2] at q1 HB ⊢
    subst hlen
    clear hn hn2 hnI HE hne
    go_enter Try.func16, Try.ntmps16
    go_upto_region 4 with fail
    go_loopw [5] (fun s5 wr => ∃ j : Nat, j ≤ n ∧ s5 = .int .i64 (j : Int) ∧ Hid (∀ k, k < j → l.getD k 0 = m.getD k 0) ∧ Hid (Below w.heap.size w wr)) (fun s5 _ => n - (intOf s5).toNat)
    case atStart => exact ⟨0, by omega, rfl, fun k hk => by omega, Below.refl _ _⟩
    case round =>
      obtain ⟨j, hj, rfl, HS, HW⟩ := hrel
      by_cases hlt : j < n
      · have hjI : (j : Int) < (n : Int) := by omega
        have hN := HN.out
        obtain ⟨b, o, rfl, ca⟩ := HA.out.cel j (by omega)
        obtain ⟨b2, o2, rfl, cb⟩ := HB.out.cel j (by omega)
        have cA := cell_later HW.out ca
        have cB := cell_later HW.out cb
        by_cases heq : l.getD j 0 = m.getD j 0
        · have HS2 : Hid (∀ k, k < j + 1 → l.getD k 0 = m.getD k 0) := fun k hk => by
            by_cases e : k = j
            · subst e; exact heq
            · exact HS.out k (by omega)
          have hne : (((l.getD j 0 : Nat) : Int) != ((m.getD j 0 : Nat) : Int)) = false := neF (by rw [heq])
          have heq2 : ((l.getD j 0 : Nat) : Int) = ((m.getD j 0 : Nat) : Int) := by rw [heq]
          clear ca cb HS hN heq
          generalize l.getD j 0 = x at *
          generalize m.getD j 0 = y at *
          go_wp2
          go_quiet (fail)
          go_wp2
          go_roundw
          case rel => exact ⟨j + 1, by omega, by go_num, HS2, below_drewP HW.out _⟩
          case measure => simp [intOf]; omega
        · have HF : Hid (decide (l = m) = false) := by
            show _ = _
            simp only [decide_eq_false_iff_not]
            intro e
            exact heq (by rw [e])
          have hne : (((l.getD j 0 : Nat) : Int) != ((m.getD j 0 : Nat) : Int)) = true := neT (by omega)
          have heq2 : ¬ ((l.getD j 0 : Nat) : Int) = ((m.getD j 0 : Nat) : Int) := by omega
          clear ca cb HS hN heq
          generalize l.getD j 0 = x at *
          generalize m.getD j 0 = y at *
          go_wp2
          go_quiet (fail)
          go_wp2
          go_ret
          exact ⟨by rw [HF.out]; rfl, below_drewP HW.out _⟩
      · obtain rfl : j = n := by omega
        have hjI : ¬ (j : Int) < (j : Int) := by omega
        have HF : Hid (decide (l = m) = true) := by
          show _ = _
          simp only [decide_eq_true_eq]
          have hN := HN.out
          exact ext0 0 (by omega) (fun k hk => HS.out k (by omega))
        go_wp2
        go_ret
        exact ⟨by rw [HF.out]; rfl, HW.out⟩
  · have hne : ((l.length : Int) != (m.length : Int)) = true := neT (by omega)
    have hnI : ¬ (l.length : Int) = (m.length : Int) := by omega
    have HF : Hid (decide (l = m) = false) := by
      show _ = _
      simp only [decide_eq_false_iff_not]
      intro e
      exact hlen (by rw [e])
    rw [HF.out]
    clear HA HB
    go_enter Try.func16, Try.ntmps16
    go_wp2
    go_ret
    exact ⟨rfl, Below.refl _ _⟩
theorem is_take_succ {l : List Int} {j : Nat} (h : j < l.length) : l.take (j + 1) = l.take j ++ [l.getD j 0] := by
  rw [List.take_add_one]
  simp [List.getD, h]
theorem oi_made (n : Nat) (hn : n ≤ 1000000) (w : World) : Oi w.heap.size (w.alloc (.cells (madeCells #[.int .i64 0] n) 2)) (.slice (some ⟨w.heap.size, 0, none⟩) 0 n) [] :=
  World.ownsRow_made w _ n (Nat.le_refl _) (by unfold maxLen; omega) (by rw [size_madeCells, Nat.mul_one])
end Go.Proofs.Ytnchmnemclbfcaa
