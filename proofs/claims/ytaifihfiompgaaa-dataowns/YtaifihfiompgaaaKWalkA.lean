/-
  The contracts of data's fit, shareable, firstPlace, placeOwner, shareKey, passKey.
-/
import Derived.Test.YtaifihfiompgaaaJBase
set_option linter.unusedVariables false
set_option linter.unusedSimpArgs false
namespace Go.Proofs.Ytaifihfiompgaaa
open Go.RowKit

/-- A row of bounds. -/
structure Bds (b m : Nat) (N L M : Nat → Int) (w : World) : Prop where
  c0 : ∀ j, j < m → w.cell? ⟨b, j * 3, none⟩ = some (.int .i64 (N j))
  c1 : ∀ j, j < m → w.cell? ⟨b, j * 3 + 1, none⟩ = some (.int .i64 (L j))
  c2 : ∀ j, j < m → w.cell? ⟨b, j * 3 + 2, none⟩ = some (.int .i64 (M j))
theorem Bds.later {b m : Nat} {N L M : Nat → Int} {w w' : World} (r : Bds b m N L M w) (hb : Below w.heap.size w w') : Bds b m N L M w' :=
  ⟨fun k hk => cell_later hb (r.c0 k hk), fun k hk => cell_later hb (r.c1 k hk), fun k hk => cell_later hb (r.c2 k hk)⟩
/-- Is a number within its bounds? -/
def Wn (N L M : Int) : Prop := max L (min N M) = N
/-- A yes or no. -/
def Says (e : Ending) (p : Prop) : Prop := ∃ B : Bool, e = .returned (.bool B) ∧ (B = true ↔ p)
theorem says_yes {p : Prop} (h : p) : Says (.returned (.bool true)) p := ⟨true, rfl, by simp [h]⟩
theorem says_no {p : Prop} (h : ¬ p) : Says (.returned (.bool false)) p := ⟨false, rfl, by simp [h]⟩
theorem Says.yes {e : Ending} {p : Prop} (h : Says e p) (hp : p) : e = .returned (.bool true) := by
  obtain ⟨B, rfl, hB⟩ := h
  rw [hB.2 hp]
theorem Says.no {e : Ending} {p : Prop} (h : Says e p) (hp : ¬ p) : e = .returned (.bool false) := by
  obtain ⟨B, rfl, hB⟩ := h
  cases B
  · rfl
  · exact absurd (hB.1 rfl) hp
set_option maxRecDepth 100000 in
set_option maxHeartbeats 4000000 in
theorem fit_any (b m cap : Nat) (N L M : Nat → Int) (hm : m ≤ 5) (h1 : m ≤ cap) (h2 : cap ≤ 100) (w : World) (hB : Bds b m N L M w) :
    Calls Try.prog 18 #[.slice (some ⟨b, 0, none⟩) m cap] w fun e w' => Says e (∀ j, j < m → Wn (N j) (L j) (M j)) ∧ Below w.heap.size w w' := by
  have HB : Hid (Bds b m N L M w) := hB
  clear hB
  go_enter Try.func18, Try.ntmps18
  go_upto_region 2 with fail
  go_loopw [7] (fun si wr => ∃ j : Nat, j ≤ m ∧ si = .int .i64 (j : Int) ∧ Hid (Below w.heap.size w wr) ∧ Hid (∀ i, i < j → Wn (N i) (L i) (M i))) (fun si _ => m - (intOf si).toNat)
  case atStart => exact ⟨0, by omega, rfl, Below.refl _ _, fun i hi => absurd hi (Nat.not_lt_zero _)⟩
  case round =>
    obtain ⟨j, hj, rfl, HW, HG⟩ := hrel
    by_cases hlt : j < m
    · have hjI : (j : Int) < (m : Int) := by omega
      have c0 := (HB.out.later HW.out).c0 j hlt
      have c1 := (HB.out.later HW.out).c1 j hlt
      have c2 := (HB.out.later HW.out).c2 j hlt
      have W1 : Hid (Below w.heap.size w (wr.alloc (.cells #[.int .i64 (N j), .int .i64 (L j), .int .i64 (M j)] 47))) := bchain HW.out (bel1 _ _)
      obtain ⟨X, hX⟩ : ∃ X, max (L j) (min (N j) (M j)) = X := ⟨_, rfl⟩
      by_cases hc : X = N j
      · have HG2 : Hid (∀ i, i < j + 1 → Wn (N i) (L i) (M i)) := fun i hi => by
          rcases Nat.lt_or_ge i j with h | h
          · exact HG.out i h
          · obtain rfl : i = j := by omega
            exact hX.trans hc
        have hc2 : (X != N j) = false := by simp [hc]
        go_wp2
        go_roundw
        case rel => exact ⟨j + 1, by omega, by go_num, W1, HG2⟩
        case measure => simp [intOf]; omega
      · have HN : Hid (¬ ∀ i, i < m → Wn (N i) (L i) (M i)) := fun h => hc (hX.symm.trans (h j hlt))
        have hc2 : (X != N j) = true := by simp [hc]
        go_wp2
        go_ret
        exact ⟨says_no HN.out, W1.out⟩
    · obtain rfl : j = m := by omega
      have hjI : ¬ (j : Int) < (j : Int) := by omega
      go_wp2
      go_ret
      exact ⟨says_yes HG.out, HW.out⟩
theorem bds1 (w : World) (a b c : Int) (t : TypeId) : Bds w.heap.size 1 (fun _ => a) (fun _ => b) (fun _ => c) (w.alloc (.cells #[.int .i64 a, .int .i64 b, .int .i64 c] t)) := by
  refine ⟨fun j hj => ?_, fun j hj => ?_, fun j hj => ?_⟩ <;>
  · match j, hj with
    | 0, _ => simp [go_sem]
theorem bds2 (w : World) (a b c a' b' c' : Int) (t : TypeId) : Bds w.heap.size 2 (fun j => if j = 0 then a else a') (fun j => if j = 0 then b else b') (fun j => if j = 0 then c else c') (w.alloc (.cells #[.int .i64 a, .int .i64 b, .int .i64 c, .int .i64 a', .int .i64 b', .int .i64 c'] t)) := by
  refine ⟨fun j hj => ?_, fun j hj => ?_, fun j hj => ?_⟩ <;>
  · match j, hj with
    | 0, _ => simp [go_sem]
    | 1, _ => simp [go_sem]
theorem fit_one (a b c : Int) (w : World) : Calls Try.prog 18 #[.slice (some ⟨w.heap.size, 0, none⟩) 1 1] (w.alloc (.cells #[.int .i64 a, .int .i64 b, .int .i64 c] 47)) fun e w' => Says e (Wn a b c) ∧ Below w.heap.size w w' := by
  refine (fit_any w.heap.size 1 1 _ _ _ (by omega) (by omega) (by omega) _ (bds1 w a b c 47)).mono ?_
  rintro e w' ⟨⟨B, rfl, hB⟩, hb⟩
  refine ⟨⟨B, rfl, hB.trans ⟨fun h => h 0 (by omega), fun h j hj => h⟩⟩, bchain (bel1 _ _) hb⟩
theorem shareable_any (W n : Int) (w : World) : Calls Try.prog 17 #[.int .i64 W, .int .i64 n] w fun e w' => Says e (Rgt W n) ∧ Below w.heap.size w w' := by
  have HF : Hid (Calls Try.prog 18 #[.slice (some ⟨w.heap.size, 0, none⟩) 2 2] (w.alloc (.cells #[.int .i64 W, .int .i64 1, .int .i64 64, .int .i64 n, .int .i64 W, .int .i64 4096] 47)) fun e w' => Says e (Rgt W n) ∧ Below w.heap.size w w') := by
    refine (fit_any w.heap.size 2 2 _ _ _ (by omega) (by omega) (by omega) _ (bds2 w W 1 64 n W 4096 47)).mono ?_
    rintro e w' ⟨⟨B, rfl, hB⟩, hb⟩
    refine ⟨⟨B, rfl, hB.trans ⟨fun h => ?_, fun h j hj => ?_⟩⟩, bchain (bel1 _ _) hb⟩
    · have h0 := h 0 (by omega)
      have h1 := h 1 (by omega)
      simp only [Wn] at h0 h1
      simp at h0 h1
      unfold Rgt
      omega
    · unfold Rgt at h
      match j, hj with
      | 0, _ => simp only [Wn]; simp; omega
      | 1, _ => simp only [Wn]; simp; omega
  go_enter Try.func17, Try.ntmps17
  go_wp2_with fail
  refine HF.out.mono ?_
  rintro e w1 ⟨⟨B, rfl, hB⟩, hb⟩
  have HB : Hid ((B = true ↔ Rgt W n) ∧ Below w.heap.size w w1) := ⟨hB, hb⟩
  clear hB hb HF
  go_wp2
  go_ret
  exact ⟨⟨B, rfl, HB.out.1⟩, HB.out.2⟩
theorem firstPlace_any (W x n : Nat) (h1 : 1 ≤ W) (h2 : W ≤ 64) (h3 : x ≤ 64) (h4 : n ≤ 4096) (w : World) : Calls Try.prog 19 #[.int .i64 (W : Int), .int .i64 (x : Int), .int .i64 (n : Int)] w fun e w' => e = .returned (.int .i64 ((dlo W n x : Nat) : Int)) ∧ w' = w := by
  obtain ⟨P, hP⟩ : ∃ P, x * n = P := ⟨_, rfl⟩
  have hP1 : P ≤ 64 * 4096 := by rw [← hP]; exact Nat.mul_le_mul h3 h4
  have eP : (x : Int) * (n : Int) = (P : Int) := by rw [← hP, Int.natCast_mul]
  obtain ⟨D, hD⟩ : ∃ D, dlo W n x = D := ⟨_, rfl⟩
  rw [hD]
  have eq1 : ((P : Nat) : Int).tdiv (W : Int) = (D : Int) := by rw [← hD, Int.tdiv_eq_ediv_of_nonneg (by omega)]; unfold dlo; rw [hP, Int.natCast_ediv]
  have eq3 : (P : Int) / (W : Int) = (D : Int) := by rw [← hD]; unfold dlo; rw [hP, Int.natCast_ediv]
  have hD1 : D ≤ P := by rw [← hD]; unfold dlo; rw [hP]; exact Nat.div_le_self _ _
  have hw0 : ¬ (W : Int) = 0 := by omega
  clear hP hD
  go_enter Try.func19, Try.ntmps19
  go_wp2
  go_ret
  exact ⟨rfl, rfl⟩
theorem own_of (W n p : Nat) (hW : 1 ≤ W) (hn : 1 ≤ n) (hp : p < n) : ((p + 1) * W - 1) / n < W ∧ dlo W n (((p + 1) * W - 1) / n) ≤ p ∧ p < dlo W n (((p + 1) * W - 1) / n + 1) := by
  have h0 : W ≤ (p + 1) * W := Nat.le_mul_of_pos_left W (by omega)
  obtain ⟨q, hq⟩ : ∃ q, ((p + 1) * W - 1) / n = q := ⟨_, rfl⟩
  have h1 := Nat.div_add_mod ((p + 1) * W - 1) n
  have h2 := Nat.mod_lt ((p + 1) * W - 1) hn
  rw [hq] at *
  have h3 : q * n ≤ (p + 1) * W - 1 := by rw [Nat.mul_comm]; omega
  have h4 : (p + 1) * W - 1 < (q + 1) * n := by
    have e : (q + 1) * n = n * q + n := by rw [Nat.succ_mul, Nat.mul_comm q n]
    omega
  have e1 : (p + 1) * W ≤ n * W := Nat.mul_le_mul_right W (by omega)
  refine ⟨?_, ?_, ?_⟩
  · rcases Nat.lt_or_ge q W with h | h
    · exact h
    · have := Nat.mul_le_mul_right n h
      rw [Nat.mul_comm W n] at this
      omega
  · unfold dlo
    rw [← Nat.lt_succ_iff, Nat.div_lt_iff_lt_mul (by omega)]
    show q * n < (p + 1) * W
    omega
  · unfold dlo
    show p + 1 ≤ _
    rw [Nat.le_div_iff_mul_le (by omega)]
    omega
theorem placeOwner_any (W n p : Nat) (h1 : 1 ≤ W) (h2 : W ≤ 64) (h3 : p < n) (h4 : n ≤ 4096) (w : World) : Calls Try.prog 26 #[.int .i64 (W : Int), .int .i64 (n : Int), .int .i64 (p : Int)] w fun e w' => e = .returned (.int .i64 ((((p + 1) * W - 1) / n : Nat) : Int)) ∧ w' = w := by
  obtain ⟨P, hP⟩ : ∃ P, (p + 1) * W = P := ⟨_, rfl⟩
  have hP1 : P ≤ 4096 * 64 := by rw [← hP]; exact Nat.mul_le_mul (by omega) h2
  have hP2 : 1 ≤ P := by rw [← hP]; exact Nat.le_trans h1 (Nat.le_mul_of_pos_left W (by omega))
  have eP : ((p : Int) + 1) * (W : Int) = (P : Int) := by rw [← hP, Int.natCast_mul]; rfl
  rw [hP]
  obtain ⟨D, hD⟩ : ∃ D, (P - 1) / n = D := ⟨_, rfl⟩
  rw [hD]
  have eq1 : ((P : Int) - 1).tdiv (n : Int) = (D : Int) := by rw [← hD, Int.tdiv_eq_ediv_of_nonneg (by omega), Int.natCast_ediv]; congr 1; omega
  have eq3 : ((P : Int) - 1) / (n : Int) = (D : Int) := by rw [← hD, Int.natCast_ediv]; congr 1; omega
  have hD1 : D ≤ P := by rw [← hD]; exact Nat.le_trans (Nat.div_le_self _ _) (by omega)
  have hw0 : ¬ (n : Int) = 0 := by omega
  clear hP hD
  go_enter Try.func26, Try.ntmps26
  go_wp2
  go_ret
  exact ⟨rfl, rfl⟩
theorem shareKey_any (s : Nat) (w : World) : Calls Try.prog 21 #[.int .u64 (s : Int)] w fun e w' => e = .returned (.agg #[.int .u64 (s : Int), .int .i64 1, .int .i64 0, .int .i64 0]) ∧ Below w.heap.size w w' := by
  go_enter Try.func21, Try.ntmps21
  go_wp2
  refine bodyPost_ret (v := .agg #[.int .u64 (s : Int), .int .i64 1, .int .i64 0, .int .i64 0]) (by simp [results, Try.results21, go_sem]; try omega) rfl ⟨rfl, ?_⟩
  exact bel1 _ _
theorem passKey_any (s x r p : Nat) (h1 : r ≤ 256) (h2 : p ≤ 5000) (w : World) : Calls Try.prog 24 #[.int .u64 (s : Int), .int .i64 (x : Int), .int .i64 (r : Int), .int .i64 (p : Int)] w fun e w' => e = .returned (.agg #[.int .u64 (s : Int), .int .i64 2, .int .i64 (x : Int), .int .i64 (65536 * (r : Int) + (p : Int))]) ∧ Below w.heap.size w w' := by
  go_enter Try.func24, Try.ntmps24
  go_wp2
  refine bodyPost_ret (v := .agg #[.int .u64 (s : Int), .int .i64 2, .int .i64 (x : Int), .int .i64 (65536 * (r : Int) + (p : Int))]) (by simp [results, Try.results24, go_sem]; try omega) rfl ⟨rfl, ?_⟩
  exact bel1 _ _
end Go.Proofs.Ytaifihfiompgaaa
