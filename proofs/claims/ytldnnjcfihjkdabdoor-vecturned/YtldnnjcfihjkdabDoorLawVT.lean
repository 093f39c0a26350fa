/-
  VecTurned: in whatever order the parts stand, sums, dots and means are the same.
-/
import Derived.Test.YtldnnjcfihjkdabDoorLawVD
import Derived.Test.YtldnnjcfihjkdabDoorPWalkC
import Derived.Test.YtldnnjcfihjkdabDoorPWalkD
import Derived.Test.YtldnnjcfihjkdabDoorPWalkH
import Derived.Deep.DrawnRows
import Derived.Deep.QuietTactic
import Derived.BigQuiet
set_option linter.unusedVariables false
set_option linter.unusedSimpArgs false
namespace Go.Proofs.YtldnnjcfihjkdabDoor
open Go.RowKit
attribute [local go_sem ↓] Go.wp_at_zero Go.wp_at_succ

theorem sumV_congr (f g : Nat → Int) (n : Nat) (h : ∀ k, k < n → f k = g k) : sumV f n = sumV g n := by
  induction n with
  | zero => rfl
  | succ n ih => show sumV f n + f n = sumV g n + g n; rw [ih (fun k hk => h k (by omega)), h n (by omega)]
theorem sumV_add (f : Nat → Int) (a b : Nat) : sumV f (a + b) = sumV f a + sumV (fun i => f (a + i)) b := by
  induction b with
  | zero => show sumV f a = sumV f a + 0; omega
  | succ b ih => show sumV f (a + b) + f (a + b) = sumV f a + (sumV (fun i => f (a + i)) b + f (a + b)); rw [ih]; omega
theorem dotV_sum (f g : Nat → Int) (n : Nat) : dotV f g n = sumV (fun i => f i * g i) n := by
  induction n with
  | zero => rfl
  | succ n ih => show dotV f g n + f n * g n = sumV (fun i => f i * g i) n + f n * g n; rw [ih]
/-- A list turned about: from a place on, then what was ahead of it. -/
def tnF (f : Nat → Int) (n k i : Nat) : Int := if i < n - k then f (k + i) else f (i - (n - k))
theorem tn_sum (f : Nat → Int) (n k : Nat) (hk : k ≤ n) : sumV (tnF f n k) n = sumV f n := by
  have e1 : sumV (tnF f n k) n = sumV (fun i => f (k + i)) (n - k) + sumV f k := by
    have h := sumV_add (tnF f n k) (n - k) k
    rw [show n - k + k = n by omega] at h
    rw [h]
    congr 1
    · exact sumV_congr _ _ _ (fun i hi => by unfold tnF; rw [if_pos hi])
    · exact sumV_congr _ _ _ (fun i hi => by unfold tnF; rw [if_neg (by omega)]; congr 1; omega)
  have e2 := sumV_add f k (n - k)
  rw [show k + (n - k) = n by omega] at e2
  rw [e1, e2]
  omega
theorem tn_dot (f g : Nat → Int) (n k : Nat) (hk : k ≤ n) : dotV (tnF g n k) (tnF f n k) n = dotV f g n := by
  rw [dotV_sum, dotV_sum, ← tn_sum (fun i => f i * g i) n k hk]
  refine sumV_congr _ _ _ (fun i hi => ?_)
  unfold tnF
  split <;> exact Int.mul_comm _ _
theorem tn_il (f : Nat → Int) (n k : Nat) (hk : k ≤ n) : il (fun i => f (k + i)) (n - k) ++ il f k = il (tnF f n k) n := by
  unfold il
  conv => rhs; rw [show n = n - k + k by omega, List.range_add, List.map_append, List.map_map]
  congr 1
  · apply List.map_congr_left
    intro i hi
    have hi := List.mem_range.1 hi
    unfold tnF
    rw [show n - k + k - k = n - k by omega, if_pos hi]
  · apply List.map_congr_left
    intro i hi
    have hi := List.mem_range.1 hi
    show _ = Value.int .i64 (tnF f (n - k + k) k (n - k + i))
    unfold tnF
    rw [show n - k + k - k = n - k by omega, if_neg (by omega), show n - k + i - (n - k) = i by omega]
theorem ar_part {w : World} {b o n cap : Nat} {f : Nat → Int} (h : Ar w (.slice (some ⟨b, o, none⟩) n cap) n f) (k m : Nat) (hkm : k + m ≤ n) : ∀ (j : Nat) (u : Value), (il (fun i => f (k + i)) m)[j]? = some u → w.cell? ((⟨b, o + k, none⟩ : Addr).add j) = some u := by
  intro j u hj
  have hjm : j < m := by
    have := (List.getElem?_eq_some_iff.1 hj).1
    rw [il_len] at this
    exact this
  rw [il_get _ m j hjm] at hj
  obtain ⟨b', o', e, c, -, -⟩ := h.at (k + j) (by omega)
  cases e
  rw [Addr.add_lit, ← hj, Nat.add_assoc]
  exact c
theorem ar_part0 {w : World} {b o n cap : Nat} {f : Nat → Int} (h : Ar w (.slice (some ⟨b, o, none⟩) n cap) n f) (m : Nat) (hm : m ≤ n) : ∀ (j : Nat) (u : Value), (il f m)[j]? = some u → w.cell? ((⟨b, o, none⟩ : Addr).add j) = some u := by
  intro j u hj
  have hjm : j < m := by
    have := (List.getElem?_eq_some_iff.1 hj).1
    rw [il_len] at this
    exact this
  rw [il_get _ m j hjm] at hj
  obtain ⟨b', o', e, c, -, -⟩ := h.at j (by omega)
  cases e
  rw [Addr.add_lit, ← hj]
  exact c
theorem tn_fit {w : World} {v : Value} {n : Nat} {f : Nat → Int} (h : Ar w v n f) (k : Nat) (hk : k ≤ n) : ∀ i, i < n → -9223372036854775808 ≤ tnF f n k i ∧ tnF f n k i ≤ 9223372036854775807 := by
  intro i hi
  obtain ⟨_, _, _, _, _, _, _, _, hx⟩ := h
  unfold tnF
  split
  · exact (hx _ (by omega)).2
  · exact (hx _ (by omega)).2
theorem own_slice' {w : World} {B : Nat} {e : TypeId} {s : Nat} {v : Value} {n : Nat} {xs : List Value} (h : w.ownsRow B e s v n xs) : ∃ a l k, v = .slice a l k := by
  rcases h.2 with ⟨h0, _⟩ | ⟨g, cap, cur, hv, _⟩
  · exact ⟨_, _, _, h0⟩
  · exact ⟨_, _, _, hv⟩
/-- The state of the law. -/
structure S4 (w : World) (va vb : Value) (n : Nat) (f g : Nat → Int) (wz : World) : Prop where
  B : Below w.heap.size w wz
  V : VT wz
  a : Ar wz va n f
  b : Ar wz vb n g
theorem S4.later {w : World} {va vb : Value} {n : Nat} {f g : Nat → Int} {wz wy : World} (h : S4 w va vb n f g wz) (hb : Below wz.heap.size wz wy) : S4 w va vb n f g wy := ⟨bchain h.B hb, h.V.later hb, h.a.later hb, h.b.later hb⟩
set_option maxRecDepth 100000 in
set_option maxHeartbeats 8000000 in
theorem vecTurned_any (va vb : Value) (n m : Nat) (f g : Nat → Int) (p : Int) (p0 : -9223372036854775808 ≤ p) (p1 : p ≤ 9223372036854775807) (w : World) (hV : VT w) (hA : Ar w va n f) (hB : Ar w vb m g) :
    Calls Tryd.prog 4 #[va, vb, .int .i64 p] w fun e w' => e = .returned (.bool true) ∧ Below w.heap.size w w' := by
  obtain ⟨i0, hi, hz0, hz1, hz2⟩ := info_parts dinfo_fx
  have HAB : Hid (Ar w va n f ∧ Ar w vb m g) := ⟨hA, hB⟩
  have HV : Hid (VT w) := hV
  obtain ⟨ada, ca, ba, oa, rfl, k1, k2, k3, -⟩ := hA
  obtain ⟨adb, cb, bb, ob, rfl, q1, q2, q3, -⟩ := hB
  have HK : Hid ((0 < n → ada = some ⟨ba, oa, none⟩) ∧ (0 < m → adb = some ⟨bb, ob, none⟩)) := ⟨k3, q3⟩
  unfold maxLen at k2 q2
  clear k3 q3
  go_enter Tryd.func4, Tryd.ntmps4
  go_wp2_with fail
  refine (vawake_any vec1 _ hV).mono ?_
  rintro e w1 ⟨rfl, W1⟩
  have HW1 : Hid (Below w.heap.size w w1) := W1
  have HF : Hid (Calls Tryd.prog 18 #[.slice (some ⟨w1.heap.size, 0, none⟩) 2 2] (w1.alloc (.cells #[.slice ada n ca, .slice adb m cb] 23)) fun e w' => e = .returned (.bool (decide (n ≤ 200) && decide (m ≤ 200))) ∧ w' = (w1.alloc (.cells #[.slice ada n ca, .slice adb m cb] 23))) := by
    show Calls _ _ _ _ _
    rw [← few_tn]
    refine few_any w1.heap.size 2 2 (tn n m) (by omega) (by omega) _ (fun k hk => ?_)
    have : k = 0 ∨ k = 1 := by omega
    rcases this with rfl | rfl
    · exact ⟨by simp [tn]; unfold maxLen; omega, ada, ca, by simp [go_sem, tn]⟩
    · exact ⟨by simp [tn]; unfold maxLen; omega, adb, cb, by simp [go_sem, tn]⟩
  clear W1 hV
  go_wp2_with fail
  refine HF.out.mono ?_
  rintro e w2 ⟨rfl, hw2⟩
  have hW2 : Hid (Below w.heap.size w w2) := by show Below _ _ _; rw [hw2]; exact bchain HW1.out (bel1' _ _)
  clear HF hw2 HW1
  obtain ⟨R, hR⟩ : ∃ R, (decide (n ≤ 200) && decide (m ≤ 200)) = R := ⟨_, rfl⟩
  rw [hR]
  cases R
  · clear hR
    go_wp2
    go_ret
    exact ⟨rfl, hW2.out⟩
  have hnm : n ≤ 200 ∧ m ≤ 200 := by simpa using hR
  obtain ⟨hn, hm⟩ := hnm
  clear hR
  rcases (show n = 0 ∨ (0 < n ∧ n ≠ m) ∨ (0 < n ∧ n = m ∧ p < 0) ∨ (0 < n ∧ n = m ∧ 0 ≤ p) by omega) with h0 | ⟨h0, h1⟩ | ⟨h0, h1, h2⟩ | ⟨h0, h1, h2⟩
  · subst h0
    go_wp2
    go_ret
    exact ⟨rfl, hW2.out⟩
  · have hq1 : ((n : Int) == 0) = false := beq_eq_false_iff_ne.2 (by omega)
    have hq2 : ((n : Int) == (m : Int)) = false := beq_eq_false_iff_ne.2 (by omega)
    have hq3 : ¬ (n : Int) = (m : Int) := by omega
    have hq4 : ¬ n = 0 := by omega
    go_wp2
    go_ret
    exact ⟨by first | rfl | simp [h1], hW2.out⟩
  · subst h1
    have hq1 : ((n : Int) == 0) = false := beq_eq_false_iff_ne.2 (by omega)
    have hq4 : ¬ n = 0 := by omega
    go_wp2
    go_ret
    exact ⟨by first | rfl | simp [h2], hW2.out⟩
  · subst h1
    have hq1 : ((n : Int) == 0) = false := beq_eq_false_iff_ne.2 (by omega)
    have hq4 : ¬ n = 0 := by omega
    have hq5 : ¬ p < 0 := by omega
    have e1 := HK.out.1 h0
    have e2 := HK.out.2 h0
    subst e1 e2
    clear HK
    have HS : Hid (S4 w (.slice (some ⟨ba, oa, none⟩) n ca) (.slice (some ⟨bb, ob, none⟩) n cb) n f g w2) := ⟨hW2.out, HV.out.later hW2.out, HAB.out.1.later hW2.out, HAB.out.2.later hW2.out⟩
    clear hW2 HV HAB
    go_upto_region 6 with fail
    obtain ⟨k, hk⟩ : ∃ k : Nat, p % (n : Int) = (k : Int) := ⟨(p % (n : Int)).toNat, by have := Int.emod_nonneg p (show (n : Int) ≠ 0 by omega); omega⟩
    have hkn : k < n := by have := Int.emod_lt_of_pos p (show 0 < (n : Int) by omega); omega
    rw [hk]
    clear hk p0 p1 h2 hq5
    have hkI : (k : Int) ≤ (n : Int) := by omega
    have hkn' : k ≤ n := by omega
    have hka : k ≤ ca := by omega
    have hka' : ¬ ca = k := by omega
    have hkb : k ≤ cb := by omega
    have hkb' : ¬ cb = k := by omega
    refine wp_region_any (by kernel_rfl) ?_
    change wpAny _ _ _ _ _ _ _ (World.drew _)
    refine wpAny_take (i := 1) (v := ?v1) rfl (by kernel_rfl) (by kernel_rfl) (by kernel_rfl) (fun _ _ _ h => h) (Or.inl ⟨by kernel_rfl, ?h1⟩) ?r1
    case h1 => (intro w; go_simp) <;> with_reducible rfl
    refine wpAny_take (i := 2) (v := ?v2) rfl (by kernel_rfl) (by kernel_rfl) (by kernel_rfl) (fun _ _ _ h => h) (Or.inl ⟨by kernel_rfl, ?h2⟩) ?r2
    case h2 => (intro w; go_simp) <;> with_reducible rfl
    refine wpAny_take (i := 5) (v := ?v3) rfl (by kernel_rfl) (by kernel_rfl) (by kernel_rfl) (fun _ _ _ h => h) (Or.inl ⟨by kernel_rfl, ?h3⟩) ?r3
    case h3 => (intro w; go_simp) <;> with_reducible rfl
    refine wpAny_take (i := 6) (v := ?v4) rfl (by kernel_rfl) (by kernel_rfl) (by kernel_rfl) (fun _ _ _ h => h) (Or.inl ⟨by kernel_rfl, ?h4⟩) ?r4
    case h4 => (intro w; go_simp) <;> with_reducible rfl
    refine wpAny_take (i := 3) (v := ?v5) rfl (by kernel_rfl) (by kernel_rfl) (by kernel_rfl) (fun _ _ _ h => h) (Or.inl ⟨by kernel_rfl, ?h5⟩) ?r5
    case h5 => (intro w; go_simp) <;> with_reducible rfl
    refine wpAny_take (i := 7) (v := ?v6) rfl (by kernel_rfl) (by kernel_rfl) (by kernel_rfl) (fun _ _ _ h => h) (Or.inl ⟨by kernel_rfl, ?h6⟩) ?r6
    case h6 => (intro w; go_simp) <;> with_reducible rfl
    refine wpAny_ready (rs := [0]) (by kernel_rfl) (by simp) ?_
    refine AllReady.cons rfl (fun K hK => ?_) AllReady.nil
    go_simp
    refine hK _ _ ?_
    clear hK K
    have HO : Hid ((w2.alloc (.cells #[] 25)).drew.ownsRow w2.heap.size 25 1 (.slice (some ⟨w2.heap.size, 0, none⟩) 0 0) 0 []) := (World.ownsRow_made w2 #[] 0 (Nat.le_refl _) (Nat.zero_le _) (by simp)).drew
    have HB0 : Hid (Below w2.heap.size w2 (w2.alloc (.cells #[] 25)).drew) := (bel1' w2 _).drew
    refine wpAny_ready (rs := [4]) (by kernel_rfl) (by simp) ?_
    refine AllReady.cons rfl (fun K hK => ?_) AllReady.nil
    refine wp_append_own _ _ _ 23 rfl w2.heap.size 25 i0 (.int .i64 0) 1 8 Tryd.underlying23 hi hz0 hz1 hz2 rfl (by decide) (.slice (some ⟨w2.heap.size, 0, none⟩) 0 0) 0 [] rfl HO.out ⟨ba, oa + k, none⟩ (n - k) (ca - k) (il (fun i => f (k + i)) (n - k)) rfl (by rw [il_len]; omega) (ar_part (HS.out.a.later HB0.out) k (n - k) (by omega)) (il_one1 _ _) (by unfold maxLen; omega) (by omega) HB0.out.size (fun v' wq hown' hgrow hnil => hK _ _ ?_)
    obtain ⟨aq, lq, kq, hvq⟩ := own_slice' hown'
    subst hvq
    have HB1 : Hid (Below w2.heap.size w2 wq) := HB0.out.grown hgrow HB0.out.size (fun k' hk' => by cases hk'; exact Nat.le_refl _)
    have HO1 : Hid (wq.ownsRow w2.heap.size 25 1 (.slice aq lq kq) (n - k) (il (fun i => f (k + i)) (n - k))) := by show World.ownsRow _ _ _ _ _ _ _; rw [Nat.zero_add, List.nil_append] at hown'; exact hown'
    clear hown' hgrow hnil HO HB0 hK K
    refine wpAny_ready (rs := [8]) (by kernel_rfl) (by simp) ?_
    refine AllReady.cons rfl (fun K hK => ?_) AllReady.nil
    refine wp_append_own _ _ _ 23 rfl w2.heap.size 25 i0 (.int .i64 0) 1 8 Tryd.underlying23 hi hz0 hz1 hz2 rfl (by decide) (.slice aq lq kq) (n - k) (il (fun i => f (k + i)) (n - k)) rfl HO1.out ⟨ba, oa, none⟩ k ca (il f k) rfl (by rw [il_len]; omega) (ar_part0 (HS.out.a.later HB1.out) k (by omega)) (il_one1 _ _) (by unfold maxLen; omega) (by omega) HB1.out.size (fun v' wy hown' hgrow hnil => hK _ _ ?_)
    have HB2 : Hid (Below w2.heap.size w2 wy) := HB1.out.grown hgrow HB1.out.size (fun k' hk' => (HO1.out.lt k' hk').1)
    have HX6 : Hid (Ar wy v' n (tnF f n k)) := by show Ar _ _ _ _; rw [tn_il f n k hkn', show n - k + k = n by omega] at hown'; exact (ar_of_own hown' (tn_fit HS.out.a k hkn')).1
    obtain ⟨a6, c6, b6, o6, hv6, -, -, -, -⟩ := id HX6.out
    subst hv6
    clear hown' hgrow hnil HO1 HB1 hK K
    refine wpAny_take (i := 9) (v := ?v7) rfl (by kernel_rfl) (by kernel_rfl) (by kernel_rfl) (fun _ _ _ h => h) (Or.inl ⟨by kernel_rfl, ?h7⟩) ?r7
    case h7 => (intro w; go_simp) <;> with_reducible rfl
    refine wpAny_done (by kernel_rfl) ?_ _
    have HS' : Hid (S4 w (.slice (some ⟨ba, oa, none⟩) n ca) (.slice (some ⟨bb, ob, none⟩) n cb) n f g wy) := HS.out.later HB2.out
    clear HS HB2
    have HS := HS'
    clear HS'
    rename World => w6y
    go_upto_region 7 with fail
    refine wp_region_any (by kernel_rfl) ?_
    change wpAny _ _ _ _ _ _ _ (World.drew _)
    refine wpAny_take (i := 1) (v := ?v8) rfl (by kernel_rfl) (by kernel_rfl) (by kernel_rfl) (fun _ _ _ h => h) (Or.inl ⟨by kernel_rfl, ?h8⟩) ?r8
    case h8 => (intro w; go_simp) <;> with_reducible rfl
    refine wpAny_take (i := 2) (v := ?v9) rfl (by kernel_rfl) (by kernel_rfl) (by kernel_rfl) (fun _ _ _ h => h) (Or.inl ⟨by kernel_rfl, ?h9⟩) ?r9
    case h9 => (intro w; go_simp) <;> with_reducible rfl
    refine wpAny_take (i := 5) (v := ?v10) rfl (by kernel_rfl) (by kernel_rfl) (by kernel_rfl) (fun _ _ _ h => h) (Or.inl ⟨by kernel_rfl, ?h10⟩) ?r10
    case h10 => (intro w; go_simp) <;> with_reducible rfl
    refine wpAny_take (i := 6) (v := ?v11) rfl (by kernel_rfl) (by kernel_rfl) (by kernel_rfl) (fun _ _ _ h => h) (Or.inl ⟨by kernel_rfl, ?h11⟩) ?r11
    case h11 => (intro w; go_simp) <;> with_reducible rfl
    refine wpAny_take (i := 3) (v := ?v12) rfl (by kernel_rfl) (by kernel_rfl) (by kernel_rfl) (fun _ _ _ h => h) (Or.inl ⟨by kernel_rfl, ?h12⟩) ?r12
    case h12 => (intro w; go_simp) <;> with_reducible rfl
    refine wpAny_take (i := 7) (v := ?v13) rfl (by kernel_rfl) (by kernel_rfl) (by kernel_rfl) (fun _ _ _ h => h) (Or.inl ⟨by kernel_rfl, ?h13⟩) ?r13
    case h13 => (intro w; go_simp) <;> with_reducible rfl
    refine wpAny_ready (rs := [0]) (by kernel_rfl) (by simp) ?_
    refine AllReady.cons rfl (fun K hK => ?_) AllReady.nil
    go_simp
    refine hK _ _ ?_
    clear hK K
    have HO : Hid ((w6y.alloc (.cells #[] 25)).drew.ownsRow w6y.heap.size 25 1 (.slice (some ⟨w6y.heap.size, 0, none⟩) 0 0) 0 []) := (World.ownsRow_made w6y #[] 0 (Nat.le_refl _) (Nat.zero_le _) (by simp)).drew
    have HB0 : Hid (Below w6y.heap.size w6y (w6y.alloc (.cells #[] 25)).drew) := (bel1' w6y _).drew
    refine wpAny_ready (rs := [4]) (by kernel_rfl) (by simp) ?_
    refine AllReady.cons rfl (fun K hK => ?_) AllReady.nil
    refine wp_append_own _ _ _ 23 rfl w6y.heap.size 25 i0 (.int .i64 0) 1 8 Tryd.underlying23 hi hz0 hz1 hz2 rfl (by decide) (.slice (some ⟨w6y.heap.size, 0, none⟩) 0 0) 0 [] rfl HO.out ⟨bb, ob + k, none⟩ (n - k) (cb - k) (il (fun i => g (k + i)) (n - k)) rfl (by rw [il_len]; omega) (ar_part (HS.out.b.later HB0.out) k (n - k) (by omega)) (il_one1 _ _) (by unfold maxLen; omega) (by omega) HB0.out.size (fun v' wq hown' hgrow hnil => hK _ _ ?_)
    obtain ⟨aq, lq, kq, hvq⟩ := own_slice' hown'
    subst hvq
    have HB1 : Hid (Below w6y.heap.size w6y wq) := HB0.out.grown hgrow HB0.out.size (fun k' hk' => by cases hk'; exact Nat.le_refl _)
    have HO1 : Hid (wq.ownsRow w6y.heap.size 25 1 (.slice aq lq kq) (n - k) (il (fun i => g (k + i)) (n - k))) := by show World.ownsRow _ _ _ _ _ _ _; rw [Nat.zero_add, List.nil_append] at hown'; exact hown'
    clear hown' hgrow hnil HO HB0 hK K
    refine wpAny_ready (rs := [8]) (by kernel_rfl) (by simp) ?_
    refine AllReady.cons rfl (fun K hK => ?_) AllReady.nil
    refine wp_append_own _ _ _ 23 rfl w6y.heap.size 25 i0 (.int .i64 0) 1 8 Tryd.underlying23 hi hz0 hz1 hz2 rfl (by decide) (.slice aq lq kq) (n - k) (il (fun i => g (k + i)) (n - k)) rfl HO1.out ⟨bb, ob, none⟩ k cb (il g k) rfl (by rw [il_len]; omega) (ar_part0 (HS.out.b.later HB1.out) k (by omega)) (il_one1 _ _) (by unfold maxLen; omega) (by omega) HB1.out.size (fun v' wy hown' hgrow hnil => hK _ _ ?_)
    have HB2 : Hid (Below w6y.heap.size w6y wy) := HB1.out.grown hgrow HB1.out.size (fun k' hk' => (HO1.out.lt k' hk').1)
    have HX7 : Hid (Ar wy v' n (tnF g n k)) := by show Ar _ _ _ _; rw [tn_il g n k hkn', show n - k + k = n by omega] at hown'; exact (ar_of_own hown' (tn_fit HS.out.b k hkn')).1
    obtain ⟨a7, c7, b7, o7, hv7, -, -, -, -⟩ := id HX7.out
    subst hv7
    clear hown' hgrow hnil HO1 HB1 hK K
    refine wpAny_take (i := 9) (v := ?v14) rfl (by kernel_rfl) (by kernel_rfl) (by kernel_rfl) (fun _ _ _ h => h) (Or.inl ⟨by kernel_rfl, ?h14⟩) ?r14
    case h14 => (intro w; go_simp) <;> with_reducible rfl
    refine wpAny_done (by kernel_rfl) ?_ _
    have HS' : Hid (S4 w (.slice (some ⟨ba, oa, none⟩) n ca) (.slice (some ⟨bb, ob, none⟩) n cb) n f g wy) := HS.out.later HB2.out
    have HX6' : Hid (Ar _ _ n (tnF f n k)) := Ar.later HX6.out HB2.out
    clear HX6
    have HX6 := HX6'
    clear HX6'
    clear HS HB2
    have HS := HS'
    clear HS'
    rename World => w7y
    have HD1 : Hid (dX n n f g = clv (rr (dotV f g n) 32) ∧ dE n n = 0) := by
      have e : dE n n = 0 := by unfold dE; rw [if_neg (by omega), if_pos rfl]
      exact ⟨by unfold dX; rw [if_pos e], e⟩
    have HD2 : Hid (dX n n (tnF g n k) (tnF f n k) = clv (rr (dotV f g n) 32)) := by
      show _ = _
      unfold dX
      rw [if_pos HD1.out.2, tn_dot f g n k hkn']
    have HE1 : Hid (sX n f = clv (sumV f n) ∧ sE n = 0) := by
      have e : sE n = 0 := by unfold sE; rw [if_neg (by omega)]
      exact ⟨by unfold sX; rw [if_pos e], e⟩
    have HE2 : Hid (sX n (tnF f n k) = clv (sumV f n)) := by
      show _ = _
      unfold sX
      rw [if_pos HE1.out.2, tn_sum f n k hkn']
    have HM1 : Hid (mX n f = clv (quo (sumV f n) (n : Int)) ∧ mE n = 0) := by
      have e : mE n = 0 := by unfold mE; rw [if_neg (by omega), if_neg (by omega)]
      exact ⟨by unfold mX; rw [if_pos e], e⟩
    have HM2 : Hid (mX n (tnF f n k) = clv (quo (sumV f n) (n : Int))) := by
      show _ = _
      unfold mX
      rw [if_pos HM1.out.2, tn_sum f n k hkn']
    obtain ⟨X, hX⟩ : ∃ X, clv (rr (dotV f g n) 32) = X := ⟨_, rfl⟩
    obtain ⟨Y, hY⟩ : ∃ Y, clv (sumV f n) = Y := ⟨_, rfl⟩
    obtain ⟨Z, hZ⟩ : ∃ Z, clv (quo (sumV f n) (n : Int)) = Z := ⟨_, rfl⟩
    rw [hX] at HD1 HD2
    rw [hY] at HE1 HE2
    rw [hZ] at HM1 HM2
    clear hX hY hZ
    have C7 : Hid (Calls Tryd.prog 14 #[.pointer none, .slice (some ⟨ba, oa, none⟩) n ca, .slice (some ⟨bb, ob, none⟩) n cb] w7y fun e w' => e = .returned (.tuple #[.int .i64 X, .int .i64 0]) ∧ Below w7y.heap.size w7y w') := by
      have h := Dot_nil _ _ n n f g _ (by omega) (by omega) HS.out.V HS.out.a HS.out.b
      rw [HD1.out.1, HD1.out.2] at h
      exact h
    go_wp2_with fail
    refine C7.out.mono ?_
    rintro e w8y ⟨rfl, hb⟩
    have HS' : Hid (S4 w (.slice (some ⟨ba, oa, none⟩) n ca) (.slice (some ⟨bb, ob, none⟩) n cb) n f g w8y) := HS.out.later hb
    have HX6' : Hid (Ar _ _ n (tnF f n k)) := Ar.later HX6.out hb
    clear HX6
    have HX6 := HX6'
    clear HX6'
    have HX7' : Hid (Ar _ _ n (tnF g n k)) := Ar.later HX7.out hb
    clear HX7
    have HX7 := HX7'
    clear HX7'
    clear hb C7 HS
    have HS := HS'
    clear HS'
    have C8 : Hid (Calls Tryd.prog 14 #[.pointer none, .slice a7 n c7, .slice a6 n c6] w8y fun e w' => e = .returned (.tuple #[.int .i64 X, .int .i64 0]) ∧ Below w8y.heap.size w8y w') := by
      have h := Dot_nil _ _ n n (tnF g n k) (tnF f n k) _ (by omega) (by omega) HS.out.V HX7.out HX6.out
      rw [HD2.out, HD1.out.2] at h
      exact h
    go_wp2_with fail
    refine C8.out.mono ?_
    rintro e w9y ⟨rfl, hb⟩
    have HS' : Hid (S4 w (.slice (some ⟨ba, oa, none⟩) n ca) (.slice (some ⟨bb, ob, none⟩) n cb) n f g w9y) := HS.out.later hb
    have HX6' : Hid (Ar _ _ n (tnF f n k)) := Ar.later HX6.out hb
    clear HX6
    have HX6 := HX6'
    clear HX6'
    clear hb C8 HS
    have HS := HS'
    clear HS'
    have C9 : Hid (Calls Tryd.prog 9 #[.pointer none, .slice (some ⟨ba, oa, none⟩) n ca] w9y fun e w' => e = .returned (.tuple #[.int .i64 Y, .int .i64 0]) ∧ Below w9y.heap.size w9y w') := by
      have h := Sum_nil _ n f _ (by omega) HS.out.V HS.out.a
      rw [HE1.out.1, HE1.out.2] at h
      exact h
    go_wp2_with fail
    refine C9.out.mono ?_
    rintro e w10y ⟨rfl, hb⟩
    have HS' : Hid (S4 w (.slice (some ⟨ba, oa, none⟩) n ca) (.slice (some ⟨bb, ob, none⟩) n cb) n f g w10y) := HS.out.later hb
    have HX6' : Hid (Ar _ _ n (tnF f n k)) := Ar.later HX6.out hb
    clear HX6
    have HX6 := HX6'
    clear HX6'
    clear hb C9 HS
    have HS := HS'
    clear HS'
    have C10 : Hid (Calls Tryd.prog 9 #[.pointer none, .slice a6 n c6] w10y fun e w' => e = .returned (.tuple #[.int .i64 Y, .int .i64 0]) ∧ Below w10y.heap.size w10y w') := by
      have h := Sum_nil _ n (tnF f n k) _ (by omega) HS.out.V HX6.out
      rw [HE2.out, HE1.out.2] at h
      exact h
    go_wp2_with fail
    refine C10.out.mono ?_
    rintro e w11y ⟨rfl, hb⟩
    have HS' : Hid (S4 w (.slice (some ⟨ba, oa, none⟩) n ca) (.slice (some ⟨bb, ob, none⟩) n cb) n f g w11y) := HS.out.later hb
    have HX6' : Hid (Ar _ _ n (tnF f n k)) := Ar.later HX6.out hb
    clear HX6
    have HX6 := HX6'
    clear HX6'
    clear hb C10 HS
    have HS := HS'
    clear HS'
    have C11 : Hid (Calls Tryd.prog 13 #[.pointer none, .slice (some ⟨ba, oa, none⟩) n ca] w11y fun e w' => e = .returned (.tuple #[.int .i64 Z, .int .i64 0]) ∧ Below w11y.heap.size w11y w') := by
      have h := Mean_nil _ n f _ (by omega) HS.out.V HS.out.a
      rw [HM1.out.1, HM1.out.2] at h
      exact h
    go_wp2_with fail
    refine C11.out.mono ?_
    rintro e w12y ⟨rfl, hb⟩
    have HS' : Hid (S4 w (.slice (some ⟨ba, oa, none⟩) n ca) (.slice (some ⟨bb, ob, none⟩) n cb) n f g w12y) := HS.out.later hb
    have HX6' : Hid (Ar _ _ n (tnF f n k)) := Ar.later HX6.out hb
    clear HX6
    have HX6 := HX6'
    clear HX6'
    clear hb C11 HS
    have HS := HS'
    clear HS'
    have C12 : Hid (Calls Tryd.prog 13 #[.pointer none, .slice a6 n c6] w12y fun e w' => e = .returned (.tuple #[.int .i64 Z, .int .i64 0]) ∧ Below w12y.heap.size w12y w') := by
      have h := Mean_nil _ n (tnF f n k) _ (by omega) HS.out.V HX6.out
      rw [HM2.out, HM1.out.2] at h
      exact h
    go_wp2_with fail
    refine C12.out.mono ?_
    rintro e w13y ⟨rfl, hb⟩
    have HS' : Hid (S4 w (.slice (some ⟨ba, oa, none⟩) n ca) (.slice (some ⟨bb, ob, none⟩) n cb) n f g w13y) := HS.out.later hb
    have HX6' : Hid (Ar _ _ n (tnF f n k)) := Ar.later HX6.out hb
    clear HX6
    have HX6 := HX6'
    clear HX6'
    clear hb C12 HS
    have HS := HS'
    clear HS'
    go_wp2
    go_ret
    exact ⟨by first | rfl | simp, HS.out.B⟩
end Go.Proofs.YtldnnjcfihjkdabDoor
