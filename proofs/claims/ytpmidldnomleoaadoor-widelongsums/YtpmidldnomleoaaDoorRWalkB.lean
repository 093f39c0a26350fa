/-
  Contracts of regattaref01's Word: words as lists of bits.
-/
import Derived.Test.YtpmidldnomleoaaDoorRWalkA
set_option linter.unusedVariables false
set_option linter.unusedSimpArgs false
namespace Go.Proofs.YtpmidldnomleoaaDoor
open Go.RowKit

/-- A slice in memory that holds the m lowest bits of a. -/
def Bt (w : World) (v : Value) (m : Nat) (a : Int) : Prop :=
  ∃ g cap : Nat, v = .slice (some ⟨g, 0, none⟩) m cap ∧ m ≤ cap ∧ cap ≤ maxLen ∧ ∀ k, k < m → w.cell? ⟨g, k, none⟩ = some (.int .i64 (a / 2 ^ k % 2))
theorem Bt.later {w w' : World} {v : Value} {m : Nat} {a : Int} (h : Bt w v m a) (hb : Below w.heap.size w w') : Bt w' v m a := by
  obtain ⟨g, cap, hv, h1, h2, hc⟩ := h
  exact ⟨g, cap, hv, h1, h2, fun k hk => cell_later hb (hc k hk)⟩
theorem Bt.of_own {w : World} {base : Nat} {v : Value} {m : Nat} {a : Int} (h : w.ownsRow base 3 1 v m ((bl m a).map (Value.int .i64))) (hm : 0 < m) : Bt w v m a := by
  rcases h.2 with hn | ⟨g, cap, cur, hv, hbs, hg, h1, h2, h3⟩
  · omega
  · refine ⟨g, cap, hv, h1, h2, fun k hk => ?_⟩
    subst hv
    rw [h.cellAt k (by omega), List.getElem?_map, bl_get m a k hk]
    rfl

theorem bit_at (N : Int) (a k : Nat) : N / 2 ^ a / 2 ^ k % 2 = N / 2 ^ (a + k) % 2 := by
  rw [Int.ediv_ediv_of_nonneg (by have := pow_pos' a; omega), Int.pow_add]

set_option maxHeartbeats 1000000 in
theorem word_any (g n : Nat) (N : Int) (hn : n ≤ 10) (w : World) (hc : ∀ i, i < n → w.cell? ⟨g, i, none⟩ = some (.int .u64 (IntKind.u64.wrap (N / 2 ^ (64 * i))))) :
    Calls Tryd.prog 20 #[.slice (some ⟨g, 0, none⟩) n n] w fun e w' => ∃ v, e = .returned v ∧ w'.ownsRow w.heap.size 3 1 v (64 * n) ((bl (64 * n) N).map (Value.int .i64)) ∧ Below w.heap.size w w' := by
  obtain ⟨i0, hi, hz0, hz1, hz2⟩ := info_parts info_int
  have HC : Hid (∀ i, i < n → w.cell? ⟨g, i, none⟩ = some (.int .u64 (IntKind.u64.wrap (N / 2 ^ (64 * i))))) := hc
  clear hc
  go_enter Tryd.func20, Tryd.ntmps20
  go_wp2
  go_loopw [3, 4] (fun v i wr => ∃ j : Nat, j ≤ n ∧ i = .int .i64 j ∧ wr.ownsRow w.heap.size 3 1 v (64 * j) ((bl (64 * j) N).map (Value.int .i64)) ∧ Below w.heap.size w wr) (fun _ i _ => n - (intOf i).toNat)
  case atStart => exact ⟨0, Nat.zero_le _, rfl, World.ownsRow_nil _ _ _ _, Below.refl _ _⟩
  case round =>
    obtain ⟨j, hj, rfl, hown, hW⟩ := hrel
    by_cases hlt : j < n
    · have hltI : (j : Int) < n := by omega
      have hcj := HC.out j hlt
      go_wp2_with fail
      go_loopw [3, 5] (fun v i ws => ∃ k : Nat, k ≤ 64 ∧ i = .int .i64 k ∧ ws.ownsRow w.heap.size 3 1 v (64 * j + k) ((bl (64 * j + k) N).map (Value.int .i64)) ∧ Below w.heap.size w ws) (fun _ i _ => 64 - (intOf i).toNat)
      case atStart => exact ⟨0, Nat.zero_le _, rfl, hown, hW⟩
      case round =>
        obtain ⟨k, hk, rfl, hown2, hW2⟩ := hrel
        by_cases hk64 : k < 64
        · have hmn : min k 64 = k := by omega
          have hb := word_bit (N / 2 ^ (64 * j)) k hk64
          rw [bit_at] at hb
          obtain ⟨z, hz⟩ : ∃ z, N / 2 ^ (64 * j + k) % 2 = z := ⟨_, rfl⟩
          rw [hz] at hb
          have HZ : Hid (z = N / 2 ^ (64 * j + k) % 2) := hz.symm
          have hcs := hW2.cell (p := ⟨g, j, none⟩) (World.block_lt_of_cell? _ _ hcj)
          rw [hcj] at hcs
          clear hz hown hW
          go_wp2_with (at_builtin; refine wpList_append_own _ rfl _ _ 27 rfl w.heap.size 3 i0 (.int .i64 0) 1 8 Tryd.underlying27 hi hz0 hz1 hz2 rfl (by decide) _ _ _ rfl (hown2.alloc _) ⟨wr.heap.size, 0, none⟩ 1 1 [.int .i64 z] rfl rfl (cell_one_new _ _ _) (ints_oneCell .i64 [z]) (by unfold maxLen; omega) (by omega) (by have := hW2.size; simp; omega) ?_; intro v' w1 hown' hgrow hnil)
          have hown3 : w1.ownsRow w.heap.size 3 1 v' (64 * j + (k + 1)) ((bl (64 * j + (k + 1)) N).map (Value.int .i64)) := by rw [← Nat.add_assoc, ← snoc_bits _ N z HZ.out]; exact hown'
          have hW3 : Below w.heap.size w w1 := below_grown hown2 hW2 hgrow
          clear hown' hgrow hnil hown2 hW2
          go_wp2
          go_roundw
          case rel => exact ⟨k + 1, by omega, by go_num, hown3, hW3⟩
          case measure => simp [intOf]; omega
        · have ek : k = 64 := by omega
          subst ek
          clear hown hW
          go_wp2
          go_roundw
          case rel => exact ⟨j + 1, by omega, by go_num, by rw [Nat.mul_add]; exact hown2, hW2⟩
          case measure => simp [intOf]; omega
    · have ek : j = n := by omega
      subst ek
      go_wp2
      go_ret
      exact ⟨_, rfl, hown, hW⟩
end Go.Proofs.YtpmidldnomleoaaDoor
