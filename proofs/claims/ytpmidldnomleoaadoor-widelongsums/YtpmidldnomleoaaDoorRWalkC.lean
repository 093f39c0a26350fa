/-
  Contracts of regattaref01's Words and of regattalaw01's bits and wides: lists of bits as words, and back.
-/
import Derived.Test.YtpmidldnomleoaaDoorRWalkB
set_option linter.unusedVariables false
set_option linter.unusedSimpArgs false
namespace Go.Proofs.YtpmidldnomleoaaDoor
open Go.RowKit

def wl (n : Nat) (N : Int) : List Int := (List.range n).map (fun i => N / 2 ^ (64 * i) % 18446744073709551616)
theorem wl_succ (n : Nat) (N : Int) : wl (n + 1) N = wl n N ++ [N / 2 ^ (64 * n) % 18446744073709551616] := by
  unfold wl; rw [List.range_succ, List.map_append]; rfl
theorem wl_get (n : Nat) (N : Int) (i : Nat) (h : i < n) : (wl n N)[i]? = some (N / 2 ^ (64 * i) % 18446744073709551616) := by
  unfold wl; rw [List.getElem?_map, List.getElem?_range h]; rfl
theorem snoc_words (n : Nat) (N z : Int) (hz : z = N / 2 ^ (64 * n) % 18446744073709551616) : (wl n N).map (Value.int .u64) ++ [.int .u64 z] = (wl (n + 1) N).map (Value.int .u64) := by
  rw [wl_succ, List.map_append, hz]; rfl
theorem info_u64 : (Tryd.prog.info? 23).map (fun i => (i.zero, i.size, i.bytes)) = some (some (.int .u64 0), 1, 8) := by kernel_rfl

theorem mod_two (M : Int) (p : Nat) : (M / 2 % 2 ^ p) * 2 + M % 2 = M % 2 ^ (p + 1) := by
  have hp := pow_pos' p
  have h1 := Int.mul_ediv_add_emod (M / 2) (2 ^ p)
  have m0 := Int.emod_nonneg (M / 2) (show (2 : Int) ^ p ≠ 0 by omega)
  have m1 := Int.emod_lt_of_pos (M / 2) (show (0 : Int) < 2 ^ p by omega)
  have e2 := pow_two p
  have e3 : M = (M / 2 % 2 ^ p * 2 + M % 2) + 2 ^ (p + 1) * (M / 2 / 2 ^ p) := by
    rw [e2, ← Int.two_mul, Int.mul_assoc]
    generalize 2 ^ p * (M / 2 / 2 ^ p) = X at *
    omega
  have e4 : (M / 2 % 2 ^ p * 2 + M % 2) % 2 ^ (p + 1) = M / 2 % 2 ^ p * 2 + M % 2 := Int.emod_eq_of_lt (by omega) (by omega)
  have e5 : M % 2 ^ (p + 1) = ((M / 2 % 2 ^ p * 2 + M % 2) + 2 ^ (p + 1) * (M / 2 / 2 ^ p)) % 2 ^ (p + 1) := congrArg (· % 2 ^ (p + 1)) e3
  rw [e5, Int.add_mul_emod_self_left, e4]
theorem half_at (N : Int) (a : Nat) : N / 2 ^ (a + 1) = N / 2 ^ a / 2 := by
  rw [Int.ediv_ediv_of_nonneg (by have := pow_pos' a; omega), Int.pow_succ]
/-- One bit more at the low end of a word. -/
theorem word_step (N : Int) (a p : Nat) (hp : p ≤ 63) : 0 ≤ N / 2 ^ (a + 1) % 2 ^ p ∧ N / 2 ^ (a + 1) % 2 ^ p ≤ 9223372036854775807 ∧ bits .or .u64 (N / 2 ^ (a + 1) % 2 ^ p * 2) (N / 2 ^ a % 2) = N / 2 ^ a % 2 ^ (p + 1) := by
  have hp0 := pow_pos' p
  have hp1 := pow_le_63 p hp
  have m0 := Int.emod_nonneg (N / 2 ^ (a + 1)) (show (2 : Int) ^ p ≠ 0 by omega)
  have m1 := Int.emod_lt_of_pos (N / 2 ^ (a + 1)) (show (0 : Int) < 2 ^ p by omega)
  refine ⟨m0, by omega, ?_⟩
  rw [or_u64' _ _ 1 (by omega) (by show _ * 2 % 2 = 0; omega) (by omega) (by omega) (by omega) (by show _ % 2 < 2; omega) (by omega), half_at, mod_two]

set_option maxHeartbeats 1000000 in
theorem words_any (v : Value) (n : Nat) (N : Int) (n0 : 1 ≤ n) (hn : n ≤ 10) (w : World) (hB : Bt w v (64 * n) N) :
    Calls Tryd.prog 15 #[v] w fun e w' => ∃ v', e = .returned v' ∧ w'.ownsRow w.heap.size 23 1 v' n ((wl n N).map (Value.int .u64)) ∧ Below w.heap.size w w' := by
  obtain ⟨i0, hi, hz0, hz1, hz2⟩ := info_parts info_u64
  obtain ⟨g, cap, rfl, c1, c2, hc⟩ := hB
  unfold maxLen at c2
  have HC : Hid (∀ k, k < 64 * n → w.cell? ⟨g, k, none⟩ = some (.int .i64 (N / 2 ^ k % 2))) := hc
  clear hc
  obtain ⟨M, hM⟩ : ∃ M, 64 * n = M := ⟨_, rfl⟩
  rw [hM] at c1 HC ⊢
  have HM : Hid (64 * n = M) := hM
  have M1 : M ≤ 640 := by omega
  clear hM
  go_enter Tryd.func15, Tryd.ntmps15
  go_wp2
  go_loopw [3, 4] (fun v i wr => ∃ j J : Nat, Hid (64 * j = J) ∧ j ≤ n ∧ i = .int .i64 (J : Int) ∧ wr.ownsRow w.heap.size 23 1 v j ((wl j N).map (Value.int .u64)) ∧ Below w.heap.size w wr) (fun _ i _ => M - (intOf i).toNat)
  case atStart => exact ⟨0, 0, rfl, Nat.zero_le _, rfl, World.ownsRow_nil _ _ _ _, Below.refl _ _⟩
  case round =>
    obtain ⟨j, J, HJ, hj, rfl, hown, hW⟩ := hrel
    have hJM : j < n → J + 64 ≤ M := by have := HJ.out; have := HM.out; omega
    have hJe : ¬ j < n → J = M := by have := HJ.out; have := HM.out; omega
    by_cases hlt : j < n
    · have hJ1 := hJM hlt
      clear hJM hJe
      have hltI : (J : Int) + 64 ≤ (M : Int) := by omega
      have hdd : decide ((J : Int) + 64 ≤ (M : Int)) = true := decide_eq_true hltI
      have HC2 : Hid (∀ k, k < M → wr.cell? ⟨g, k, none⟩ = some (.int .i64 (N / 2 ^ k % 2))) := fun k hk => (hW.cell (World.block_lt_of_cell? _ _ (HC.out k hk))).trans (HC.out k hk)
      go_wp2_with fail
      go_loop [5, 6] (fun x k => (∃ s : Nat, s ≤ 63 ∧ k = .int .i64 (s : Int) ∧ x = .int .u64 (N / 2 ^ (J + s + 1) % 2 ^ (63 - s))) ∨ (k = .int .i64 (-1) ∧ x = .int .u64 (N / 2 ^ J % 2 ^ 64))) (fun _ k => (intOf k + 1).toNat)
      case atStart => exact .inl ⟨63, by omega, rfl, by rw [show 63 - 63 = 0 from rfl, Int.pow_zero, Int.emod_one]⟩
      case round =>
        rcases hrel with ⟨s, hs, rfl, rfl⟩ | ⟨rfl, rfl⟩
        · obtain ⟨b0, b1, b2⟩ := word_step N (J + s) (63 - s) (by omega)
          have hcs := HC2.out (J + s) (by omega)
          rw [show 63 - s + 1 = 64 - s by omega] at b2
          have zb : 0 ≤ N / 2 ^ (J + s) % 2 ∧ N / 2 ^ (J + s) % 2 ≤ 1 := by omega
          obtain ⟨z0, z1⟩ := zb
          obtain ⟨x, hx⟩ : ∃ x, N / 2 ^ (J + s + 1) % 2 ^ (63 - s) = x := ⟨_, rfl⟩
          obtain ⟨z, hz⟩ : ∃ z, N / 2 ^ (J + s) % 2 = z := ⟨_, rfl⟩
          obtain ⟨y, hy⟩ : ∃ y, N / 2 ^ (J + s) % 2 ^ (64 - s) = y := ⟨_, rfl⟩
          rw [hx] at b0 b1 b2
          rw [hz] at b2 z0 z1 hcs
          rw [hy] at b2
          rw [hx]
          have HY : Hid (N / 2 ^ (J + s) % 2 ^ (64 - s) = y) := hy
          have hsi : (s : Int) ≤ 63 := by omega
          clear hx hz hy
          go_wp2
          go_round
          case rel =>
            by_cases hs0 : s = 0
            · subst hs0
              exact .inr ⟨rfl, by rw [← HY.out]; rfl⟩
            · refine .inl ⟨s - 1, by omega, ?_, ?_⟩
              · rw [show ((s - 1 : Nat) : Int) = (s : Int) - 1 by omega]
              · rw [← HY.out, show J + (s - 1) + 1 = J + s by omega, show 63 - (s - 1) = 64 - s by omega]
          case measure => first | (simp [intOf]; done) | (simp [intOf]; omega)
        · obtain ⟨z, hz⟩ : ∃ z, N / 2 ^ J % 2 ^ 64 = z := ⟨_, rfl⟩
          have HZ : Hid (z = N / 2 ^ (64 * j) % 18446744073709551616) := by show z = _; rw [HJ.out, ← hz]; rfl
          rw [hz]
          clear hz
          go_wp2_with (at_builtin; refine wpList_append_own _ rfl _ _ 40 rfl w.heap.size 23 i0 (.int .u64 0) 1 8 Tryd.underlying40 hi hz0 hz1 hz2 rfl (by decide) _ _ _ rfl (hown.alloc _) ⟨wr.heap.size, 0, none⟩ 1 1 [.int .u64 z] rfl rfl (cell_one_new _ _ _) (ints_oneCell .u64 [z]) (by unfold maxLen; omega) (by omega) (by have := hW.size; simp; omega) ?_; intro v' w1 hown' hgrow hnil)
          have hown3 : w1.ownsRow w.heap.size 23 1 v' (j + 1) ((wl (j + 1) N).map (Value.int .u64)) := by rw [← snoc_words _ N z HZ.out]; exact hown'
          have hW3 : Below w.heap.size w w1 := below_grown hown hW hgrow
          clear hown' hgrow hnil hown hW
          go_wp2
          go_roundw
          case rel => exact ⟨j + 1, J + 64, by show 64 * (j + 1) = J + 64; have := HJ.out; omega, by omega, by go_num, hown3, hW3⟩
          case measure => simp [intOf]; omega
    · have hJ1 := hJe hlt
      clear hJM hJe
      have ek : j = n := by omega
      subst ek
      have hltI : ¬ (J : Int) + 64 ≤ (M : Int) := by omega
      go_wp2
      go_ret
      exact ⟨_, rfl, hown, hW⟩

/-- What a row of words holds, cell by cell. -/
theorem words_form {w : World} {base : Nat} {v : Value} {n : Nat} {N : Int} (h : w.ownsRow base 23 1 v n ((wl n N).map (Value.int .u64))) (hn : 0 < n) :
    ∃ g cap : Nat, v = .slice (some ⟨g, 0, none⟩) n cap ∧ n ≤ cap ∧ cap ≤ maxLen ∧ ∀ k, k < n → w.cell? ⟨g, k, none⟩ = some (.int .u64 (N / 2 ^ (64 * k) % 18446744073709551616)) := by
  rcases h.2 with hz | ⟨g, cap, cur, hv, hbs, hg, h1, h2, h3⟩
  · omega
  · refine ⟨g, cap, hv, h1, h2, fun k hk => ?_⟩
    subst hv
    rw [h.cellAt k (by omega), List.getElem?_map, wl_get n N k hk]
    rfl

set_option maxHeartbeats 400000 in
theorem bits_any (x : Int) (w : World) :
    Calls Tryd.prog 10 #[.agg #[.int .i64 (hi x), .int .u64 (lo x)]] w fun e w' => ∃ v, e = .returned v ∧ w'.ownsRow w.heap.size 3 1 v 128 ((bl 128 x).map (Value.int .i64)) ∧ Below w.heap.size w w' := by
  go_enter Tryd.func10, Tryd.ntmps10
  go_wp2_with fail
  refine (word_any (w.heap.size + 1) 2 x (by omega) _ ?_).mono ?_
  · intro i hi2
    rcases (show i = 0 ∨ i = 1 by omega) with rfl | rfl
    · rw [show x / 2 ^ (64 * 0) = x by rw [Nat.mul_zero, Int.pow_zero, Int.ediv_one]]
      simp [go_sem, u64_wrap]
    · simp [go_sem]
      rw [IntKind.wrap_u64, IntKind.wrap_u64]
      unfold hi
      show _ = x / 18446744073709551616 % 18446744073709551616
      omega
  · rintro e w1 ⟨v, rfl, hown, hb⟩
    have W1 : Below w.heap.size w w1 := (bel2 w _ _).trans (hb.mono (by simp; omega))
    have O1 := own_base hown (base' := w.heap.size) (by simp; omega)
    clear hown hb
    go_wp2
    go_ret
    exact ⟨_, rfl, O1, W1⟩

end Go.Proofs.YtpmidldnomleoaaDoor
