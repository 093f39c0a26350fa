/-
  The contract of rand's backwards.
-/
import Derived.Test.YtaifihfiompgaaaHWalkG
set_option linter.unusedVariables false
set_option linter.unusedSimpArgs false
namespace Go.Proofs.Ytaifihfiompgaaa
open Go.RowKit

/-- The rounds of the trip back. -/
def bkV (Bb Bk : Nat) (T : Nat → Nat) (i : Nat) : Value := if i = 0 then sv else if i = 5 then sv else rv Bb Bk (T (4 - i))
theorem own_some {w : World} {base : Nat} {e : TypeId} {v : Value} {n : Nat} {xs : List Value} (h : w.ownsRow base e 1 v n xs) (hn : 0 < n) : ∃ g cap, v = .slice (some ⟨g, 0, none⟩) n cap ∧ base ≤ g ∧ n ≤ cap ∧ cap ≤ maxLen := by
  rcases h.2 with ⟨_, h0⟩ | ⟨g, cap, cur, rfl, hg, hh, hc1, hc2, hsz, htk⟩
  · omega
  · exact ⟨g, cap, rfl, hg, hc1, hc2⟩
theorem own_one (w : World) (x : Value) (t : TypeId) : (w.alloc (.cells #[x] t)).ownsRow w.heap.size t 1 (.slice (some ⟨w.heap.size, 0, none⟩) 1 1) 1 [x] :=
  ⟨rfl, Or.inr ⟨w.heap.size, 1, #[x], rfl, Nat.le_refl _, heap_alloc_new w _, Nat.le_refl _, by unfold maxLen; omega, rfl, rfl⟩⟩
theorem four_news (w : World) (g : Nat) (h : Nat → Value) (hR : Rw g 4 h w) : ∀ j u, [h 0, h 1, h 2, h 3][j]? = some u → w.cell? ((⟨g, 0, none⟩ : Addr).add j) = some u := by
  intro j u hj
  have hj4 : j < 4 := by have := (List.getElem?_eq_some_iff.1 hj).1; simpa using this
  have e : (⟨g, 0, none⟩ : Addr).add j = ⟨g, j, none⟩ := by simp [Addr.add]; try omega
  rw [e, hR.c j hj4]
  match j, hj4, hj with
  | 0, _, hj => simpa using hj
  | 1, _, hj => simpa using hj
  | 2, _, hj => simpa using hj
  | 3, _, hj => simpa using hj
set_option maxRecDepth 100000 in
set_option maxHeartbeats 4000000 in
theorem backwards_any (g cap Bb Bk : Nat) (T : Nat → Nat) (w : World) (hR : Rw g 4 (fun i => rv Bb Bk (T i)) w) :
    Calls Try.prog 30 #[.slice (some ⟨g, 0, none⟩) 4 cap] w fun e w' => ∃ g2 cap2, e = .returned (.slice (some ⟨g2, 0, none⟩) 6 cap2) ∧ 6 ≤ cap2 ∧ cap2 ≤ maxLen ∧ Rw g2 6 (bkV Bb Bk T) w' ∧ Below w.heap.size w w' := by
  obtain ⟨i0, hi, hz0, hz1, hz2⟩ := info_parts dinfo_rd
  have HO1 := own_one w sv 71
  have hB1 : Hid (Below w.heap.size w (w.alloc (.cells #[sv] 71))) := bel1 w _
  have hN := four_news _ g _ (hR.later hB1.out)
  have hs1 : Hid ((w.alloc (.cells #[sv] 71)).heap.size = w.heap.size + 1) := by show _ = _; rw [World.size_alloc]
  have HRV : Hid (∀ (W : World) (g1 cap1 : Nat), w.heap.size ≤ g1 → W.ownsRow w.heap.size 71 1 (.slice (some ⟨g1, 0, none⟩) 5 cap1) 5 [sv, rv Bb Bk (T 0), rv Bb Bk (T 1), rv Bb Bk (T 2), rv Bb Bk (T 3)] → Calls Try.prog 36 #[.slice (some ⟨g1, 1, none⟩) 4 (cap1 - 1)] W fun e w' => e = .returned (.tuple #[]) ∧ w'.ownsRow w.heap.size 71 1 (.slice (some ⟨g1, 0, none⟩) 5 cap1) 5 [sv, rv Bb Bk (T 3), rv Bb Bk (T 2), rv Bb Bk (T 1), rv Bb Bk (T 0)] ∧ Below w.heap.size W w') := fun W g1 cap1 h1 h2 => reverse_any g1 cap1 (cap1 - 1) w.heap.size sv _ _ _ _ _ _ _ _ _ _ _ _ W h1 h2
  unfold sv at HO1 hN hB1 hs1
  clear hR
  go_enter Try.func30, Try.ntmps30
  go_wp2_with (at_builtin; refine wpList_append_own _ rfl _ _ 62 rfl w.heap.size 71 i0 .nilFunc 1 8 Try.underlying62 hi hz0 hz1 hz2 rfl (by decide) _ _ _ rfl HO1 ⟨g, 0, none⟩ 4 cap [rv Bb Bk (T 0), rv Bb Bk (T 1), rv Bb Bk (T 2), rv Bb Bk (T 3)] rfl rfl hN (by simp [rv, Value.oneCell']) (by unfold maxLen; omega) (by omega) (by have := hs1.out; omega) ?_; intro v' w3 hown' hgrow hnil; have HW3 : Hid (Below w.heap.size w w3) := hB1.out.grown hgrow (by have := hs1.out; omega) (fun k hk => (HO1.lt k hk).1); obtain ⟨g1, cap1, rfl, hg1, hc1, hc2⟩ := own_some hown' (by omega); have HO3 : Hid (w3.ownsRow w.heap.size 71 1 (.slice (some ⟨g1, 0, none⟩) 5 cap1) 5 [sv, rv Bb Bk (T 0), rv Bb Bk (T 1), rv Bb Bk (T 2), rv Bb Bk (T 3)]) := hown'; clear hown' hgrow hnil HO1 hN hB1 hs1; unfold maxLen at hc2)
  refine (HRV.out w3 g1 cap1 hg1 HO3.out).mono ?_
  rintro e w4 ⟨rfl, hO4, hb4⟩
  have HW4 : Hid (Below w.heap.size w w4) := HW3.out.trans hb4
  have hsz4 : w.heap.size ≤ w4.heap.size := HW4.out.size
  unfold sv at hO4
  clear HO3 HW3 HRV hb4
  go_wp2_with (at_builtin; refine wpList_append_own _ rfl _ _ 62 rfl w.heap.size 71 i0 .nilFunc 1 8 Try.underlying62 hi hz0 hz1 hz2 rfl (by decide) _ _ _ rfl (hO4.alloc _) ⟨w4.heap.size, 0, none⟩ 1 1 [.func (.func 35) #[] #[]] rfl rfl (cell_one_new _ _ _) (by simp [Value.oneCell']) (by unfold maxLen; omega) (by omega) (by rw [World.size_alloc]; omega) ?_; intro v2 w5 hown5 hgrow5 hnil5; have HW5 : Hid (Below w.heap.size w w5) := (HW4.out.alloc hsz4 _).grown hgrow5 (by rw [World.size_alloc]; omega) (fun k hk => (hO4.lt k hk).1); obtain ⟨g2, cap2, rfl, hg2, hd1, hd2⟩ := own_some hown5 (by omega); have HO5 : Hid (w5.ownsRow w.heap.size 71 1 (.slice (some ⟨g2, 0, none⟩) 6 cap2) 6 [sv, rv Bb Bk (T 3), rv Bb Bk (T 2), rv Bb Bk (T 1), rv Bb Bk (T 0), sv]) := hown5; clear hown5 hgrow5 hnil5 hO4 HW4)
  have HR2 : Hid (Rw g2 6 (bkV Bb Bk T) w5) := ⟨fun q hq => by
    rw [HO5.out.cellAt q (by omega)]
    match q, hq with
    | 0, _ => rfl
    | 1, _ => rfl
    | 2, _ => rfl
    | 3, _ => rfl
    | 4, _ => rfl
    | 5, _ => rfl, fun q hq => HO5.out.frozenAt q⟩
  clear HO5
  go_ret
  exact ⟨g2, cap2, rfl, hd1, hd2, HR2.out, HW5.out⟩
end Go.Proofs.Ytaifihfiompgaaa
