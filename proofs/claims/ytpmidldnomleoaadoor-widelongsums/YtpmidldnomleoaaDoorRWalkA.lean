/-
  Contracts of regattaref01's Int: the document's lists of bits.
-/
import Derived.Test.YtpmidldnomleoaaDoorWalkL
import Derived.Test.YtpmidldnomleoaaDoorRMath
set_option linter.unusedVariables false
set_option linter.unusedSimpArgs false
namespace Go.Proofs.YtpmidldnomleoaaDoor
open Go.RowKit

theorem own_later {w w' : World} {base : Nat} {e : TypeId} {size : Nat} {v : Value} {n : Nat} {xs : List Value} (h : w.ownsRow base e size v n xs) (hb : Below w.heap.size w w') : w'.ownsRow base e size v n xs := by
  refine ⟨h.1, ?_⟩
  rcases h.2 with hn | ⟨g, cap, cur, hv, hbs, hg, rest⟩
  · exact .inl hn
  · have hlt : g < w.heap.size := by
      by_cases hh : g < w.heap.size
      · exact hh
      · rw [Array.getElem?_eq_none (by omega)] at hg; cases hg
    exact .inr ⟨g, cap, cur, hv, hbs, (hb.block g hlt).trans hg, rest⟩
theorem own_base {w : World} {base base' : Nat} {e : TypeId} {size : Nat} {v : Value} {n : Nat} {xs : List Value} (h : w.ownsRow base e size v n xs) (hb : base' ≤ base) : w.ownsRow base' e size v n xs := by
  refine ⟨h.1, ?_⟩
  rcases h.2 with hn | ⟨g, cap, cur, hv, hbs, hg, rest⟩
  · exact .inl hn
  · exact .inr ⟨g, cap, cur, hv, by omega, hg, rest⟩
/-- A loop that appends to a row of its own: behind the append all that was there ahead of the function is as it was. -/
theorem below_grown {w wr w1 : World} {e : TypeId} {size : Nat} {v : Value} {n : Nat} {xs : List Value} {o : Obj} (h : wr.ownsRow w.heap.size e size v n xs) (hW : Below w.heap.size w wr) (hg : (wr.alloc o).grownBy w1 v.ownBlock) : Below w.heap.size w w1 := by
  refine (hW.alloc hW.size o).grown hg ?_ ?_
  · have := hW.size; simp; omega
  · intro k hk
    exact (h.lt k hk).1

theorem info_int : (Tryd.prog.info? 3).map (fun i => (i.zero, i.size, i.bytes)) = some (some (.int .i64 0), 1, 8) := by kernel_rfl
theorem and1 (z : Int) (h0 : 0 ≤ z) (h1 : z < 18446744073709551616) : bits .and .u64 z 1 = z % 2 := by
  obtain ⟨Z, rfl⟩ := Int.eq_ofNat_of_zero_le h0
  have h := bits_and_u64_nat Z 1 (by omega) (by omega)
  rw [Nat.and_one_is_mod] at h
  have e : ((Z % 2 : Nat) : Int) = (Z : Int) % 2 := by omega
  rw [← e]
  exact h
theorem word_bit (x : Int) (k : Nat) (hk : k < 64) : wrap64 (bits .and .u64 (IntKind.u64.wrap x / 2 ^ k) 1) = x / 2 ^ k % 2 := by
  have hp := pow_pos' k
  have u0 : 0 ≤ IntKind.u64.wrap x := by rw [IntKind.wrap_u64]; omega
  have u1 : IntKind.u64.wrap x ≤ 18446744073709551615 := by rw [IntKind.wrap_u64]; omega
  have d0 : 0 ≤ IntKind.u64.wrap x / 2 ^ k := Int.ediv_nonneg u0 (by omega)
  have d1 : IntKind.u64.wrap x / 2 ^ k ≤ IntKind.u64.wrap x := Int.ediv_le_self _ u0
  rw [and1 _ d0 (by omega), w64, sg_id _ (by omega) (by omega)]
  exact bit_congr _ _ 64 k hk (by rw [IntKind.wrap_u64]; show _ % 18446744073709551616 = 0; omega)
theorem snoc_bits (m : Nat) (x z : Int) (hz : z = x / 2 ^ m % 2) : (bl m x).map (Value.int .i64) ++ [.int .i64 z] = (bl (m + 1) x).map (Value.int .i64) := by
  rw [bl_succ, List.map_append, hz]; rfl

set_option maxHeartbeats 1000000 in
theorem int_any (x : Int) (n : Nat) (x0 : -9223372036854775808 ≤ x) (x1 : x ≤ 9223372036854775807) (hn : n ≤ 1000) (w : World) :
    Calls Tryd.prog 27 #[.int .i64 x, .int .i64 n] w fun e w' => ∃ v, e = .returned v ∧ w'.ownsRow w.heap.size 3 1 v n ((bl n x).map (Value.int .i64)) ∧ Below w.heap.size w w' := by
  obtain ⟨i0, hi, hz0, hz1, hz2⟩ := info_parts info_int
  go_enter Tryd.func27, Tryd.ntmps27
  go_wp2
  go_loopw [5, 6] (fun v i wr => ∃ k : Nat, k ≤ n ∧ i = .int .i64 k ∧ wr.ownsRow w.heap.size 3 1 v k ((bl k x).map (Value.int .i64)) ∧ Below w.heap.size w wr) (fun _ i _ => n - (intOf i).toNat)
  case atStart => exact ⟨0, Nat.zero_le _, rfl, World.ownsRow_nil _ _ _ _, Below.refl _ _⟩
  case round =>
    obtain ⟨k, hk, rfl, hown, hW⟩ := hrel
    by_cases hlt : k < n
    · by_cases h64 : k < 64
      · have hmn : min k 64 = k := by omega
        have hb := word_bit x k h64
        obtain ⟨z, hz⟩ : ∃ z, x / 2 ^ k % 2 = z := ⟨_, rfl⟩
        rw [hz] at hb
        have HZ : Hid (z = x / 2 ^ k % 2) := hz.symm
        clear hz
        go_wp2_with (at_builtin; refine wpList_append_own _ rfl _ _ 27 rfl w.heap.size 3 i0 (.int .i64 0) 1 8 Tryd.underlying27 hi hz0 hz1 hz2 rfl (by decide) _ _ _ rfl (hown.alloc _) ⟨wr.heap.size, 0, none⟩ 1 1 [.int .i64 z] rfl rfl (cell_one_new _ _ _) (ints_oneCell .i64 [z]) (by unfold maxLen; omega) (by omega) (by have := hW.size; simp; omega) ?_; intro v' w1 hown' hgrow hnil)
        have hown2 : w1.ownsRow w.heap.size 3 1 v' (k + 1) ((bl (k + 1) x).map (Value.int .i64)) := by rw [← snoc_bits k x z HZ.out]; exact hown'
        have hW2 : Below w.heap.size w w1 := below_grown hown hW hgrow
        clear hown' hgrow hnil hown hW
        go_wp2
        go_roundw
        case rel => exact ⟨k + 1, by omega, by go_num, hown2, hW2⟩
        case measure => simp [intOf]; omega
      · by_cases hneg : x < 0
        · have HZ : Hid ((1 : Int) = x / 2 ^ k % 2) := by show (1 : Int) = x / 2 ^ k % 2; rw [bit_top x k (by omega) x0 x1, if_pos hneg]
          go_wp2_with (at_builtin; refine wpList_append_own _ rfl _ _ 27 rfl w.heap.size 3 i0 (.int .i64 0) 1 8 Tryd.underlying27 hi hz0 hz1 hz2 rfl (by decide) _ _ _ rfl (hown.alloc _) ⟨wr.heap.size, 0, none⟩ 1 1 [.int .i64 1] rfl rfl (cell_one_new _ _ _) (ints_oneCell .i64 [1]) (by unfold maxLen; omega) (by omega) (by have := hW.size; simp; omega) ?_; intro v' w1 hown' hgrow hnil)
          have hown2 : w1.ownsRow w.heap.size 3 1 v' (k + 1) ((bl (k + 1) x).map (Value.int .i64)) := by rw [← snoc_bits k x 1 HZ.out]; exact hown'
          have hW2 : Below w.heap.size w w1 := below_grown hown hW hgrow
          clear hown' hgrow hnil hown hW
          go_wp2
          go_roundw
          case rel => exact ⟨k + 1, by omega, by go_num, hown2, hW2⟩
          case measure => simp [intOf]; omega
        · have HZ : Hid ((0 : Int) = x / 2 ^ k % 2) := by show (0 : Int) = x / 2 ^ k % 2; rw [bit_top x k (by omega) x0 x1, if_neg hneg]
          go_wp2_with (at_builtin; refine wpList_append_own _ rfl _ _ 27 rfl w.heap.size 3 i0 (.int .i64 0) 1 8 Tryd.underlying27 hi hz0 hz1 hz2 rfl (by decide) _ _ _ rfl (hown.alloc _) ⟨wr.heap.size, 0, none⟩ 1 1 [.int .i64 0] rfl rfl (cell_one_new _ _ _) (ints_oneCell .i64 [0]) (by unfold maxLen; omega) (by omega) (by have := hW.size; simp; omega) ?_; intro v' w1 hown' hgrow hnil)
          have hown2 : w1.ownsRow w.heap.size 3 1 v' (k + 1) ((bl (k + 1) x).map (Value.int .i64)) := by rw [← snoc_bits k x 0 HZ.out]; exact hown'
          have hW2 : Below w.heap.size w w1 := below_grown hown hW hgrow
          clear hown' hgrow hnil hown hW
          go_wp2
          go_roundw
          case rel => exact ⟨k + 1, by omega, by go_num, hown2, hW2⟩
          case measure => simp [intOf]; omega
    · have ek : k = n := by omega
      subst ek
      go_wp2
      go_ret
      exact ⟨_, rfl, hown, hW⟩
end Go.Proofs.YtpmidldnomleoaaDoor
