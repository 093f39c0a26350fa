/-
  The contract of regattaref03's times: lists of decimal digits, the lowest first.
-/
import Derived.Test.YtekdpeiemfppiaaDoorDWalkD
set_option linter.unusedVariables false
set_option linter.unusedSimpArgs false
namespace Go.Proofs.YtekdpeiemfppiaaDoor
open Go.RowKit

theorem dbelow_grown {w wr w1 : World} {e : TypeId} {size : Nat} {v : Value} {n : Nat} {xs : List Value} {o : Obj} (h : wr.ownsRow w.heap.size e size v n xs) (hW : Below w.heap.size w wr) (hg : (wr.alloc o).grownBy w1 v.ownBlock) : Below w.heap.size w w1 := by
  refine (hW.alloc hW.size o).grown hg ?_ ?_
  · have := hW.size; simp; omega
  · intro k hk
    exact (h.lt k hk).1
/-- A digit of a number. -/
def dd (M i : Nat) : Nat := M / 10 ^ i % 10
theorem dd_lt (M i : Nat) : dd M i < 10 := Nat.mod_lt _ (by omega)
/-- So many digits. -/
def ol (m M : Nat) : List Int := (List.range m).map (fun i => ((dd M i : Nat) : Int))
theorem ol_succ (m M : Nat) : ol (m + 1) M = ol m M ++ [((dd M m : Nat) : Int)] := by unfold ol; rw [List.range_succ, List.map_append]; rfl
theorem ol_get (m M i : Nat) (h : i < m) : (ol m M)[i]? = some ((dd M i : Nat) : Int) := by unfold ol; rw [List.getElem?_map, List.getElem?_range h]; rfl
theorem snoc_dig (m M : Nat) (z : Int) (hz : z = ((dd M m : Nat) : Int)) : (ol m M).map (Value.int .u64) ++ [.int .u64 z] = (ol (m + 1) M).map (Value.int .u64) := by
  rw [ol_succ, List.map_append, hz]; rfl
theorem dinfo_u64 : (Tryd.prog.info? 43).map (fun i => (i.zero, i.size, i.bytes)) = some (some (.int .u64 0), 1, 8) := by kernel_rfl
/-- A slice in memory that holds the m lowest digits of M. -/
def Dw (w : World) (v : Value) (m M : Nat) : Prop :=
  ∃ g cap : Nat, v = .slice (some ⟨g, 0, none⟩) m cap ∧ m ≤ cap ∧ cap ≤ maxLen ∧ ∀ k, k < m → w.cell? ⟨g, k, none⟩ = some (.int .u64 ((dd M k : Nat) : Int))
theorem Dw.later {w w' : World} {v : Value} {m M : Nat} (h : Dw w v m M) (hb : Below w.heap.size w w') : Dw w' v m M := by
  obtain ⟨g, cap, hv, h1, h2, hc⟩ := h
  exact ⟨g, cap, hv, h1, h2, fun k hk => cell_later hb (hc k hk)⟩
theorem Dw.of_own {w : World} {base : Nat} {v : Value} {m M : Nat} (h : w.ownsRow base 43 1 v m ((ol m M).map (Value.int .u64))) (hm : 0 < m) : Dw w v m M := by
  rcases h.2 with hn | ⟨g, cap, cur, hv, hbs, hg, h1, h2, h3⟩
  · omega
  · refine ⟨g, cap, hv, h1, h2, fun k hk => ?_⟩
    subst hv
    rw [h.cellAt k (by omega), List.getElem?_map, ol_get m M k hk]
    rfl

/-- What is carried. -/
def cy (M n i : Nat) : Nat := (M % 10 ^ i) * n / 10 ^ i
theorem dmod_up (M i : Nat) : M % 10 ^ (i + 1) = dd M i * 10 ^ i + M % 10 ^ i := by
  unfold dd
  rw [Nat.pow_succ, Nat.mod_mul, Nat.mul_comm (M / 10 ^ i % 10)]
  omega
theorem ten_pos (i : Nat) : 0 < 10 ^ i := Nat.pow_pos (by omega)
theorem cy_zero (M n : Nat) : cy M n 0 = 0 := by unfold cy; rw [Nat.pow_zero, Nat.mod_one]; simp
theorem cy_lt (M n i : Nat) (hn : 0 < n) : cy M n i < n := by
  unfold cy
  have hp := ten_pos i
  rw [Nat.div_lt_iff_lt_mul hp, Nat.mul_comm n]
  exact Nat.mul_lt_mul_of_pos_right (Nat.mod_lt _ hp) hn
theorem cy_step (M n i : Nat) : cy M n i + dd M i * n = (M % 10 ^ (i + 1)) * n / 10 ^ i := by
  have hp := ten_pos i
  unfold cy
  have e : (dd M i * 10 ^ i + M % 10 ^ i) * n = 10 ^ i * (dd M i * n) + M % 10 ^ i * n := by rw [Nat.add_mul, Nat.mul_comm (dd M i) (10 ^ i), Nat.mul_assoc]
  rw [dmod_up, e, Nat.mul_add_div hp, Nat.add_comm]
theorem dig_prod (M n i : Nat) : (cy M n i + dd M i * n) % 10 = dd (M * n) i := by
  rw [cy_step]
  unfold dd
  have h1 : M * n / 10 ^ i % 10 = (M * n % 10 ^ (i + 1)) / 10 ^ i := by
    rw [Nat.pow_succ, Nat.mod_mul_right_div_self]
  have h2 : (M % 10 ^ (i + 1)) * n / 10 ^ i % 10 = ((M % 10 ^ (i + 1)) * n % 10 ^ (i + 1)) / 10 ^ i := by
    rw [Nat.pow_succ, Nat.mod_mul_right_div_self]
  rw [h1, h2, Nat.mod_mul_mod]
theorem cy_next (M n i : Nat) : (cy M n i + dd M i * n) / 10 = cy M n (i + 1) := by
  rw [cy_step]
  unfold cy
  rw [Nat.div_div_eq_div_mul, Nat.pow_succ]
theorem dd_none (M m i : Nat) (hM : M < 10 ^ m) (h : m ≤ i) : dd M i = 0 := by
  unfold dd
  rw [Nat.div_eq_of_lt (Nat.lt_of_lt_of_le hM (Nat.pow_le_pow_right (by omega) h))]
theorem cy_end (M n m i : Nat) (hM : M < 10 ^ m) (h : m ≤ i) (hc : cy M n i = 0) : M * n < 10 ^ i := by
  have hp := ten_pos i
  unfold cy at hc
  rw [Nat.mod_eq_of_lt (Nat.lt_of_lt_of_le hM (Nat.pow_le_pow_right (by omega) h))] at hc
  exact (Nat.div_eq_zero_iff_lt hp).1 hc
theorem cy_far (M m i : Nat) (hM : M < 10 ^ m) (h : m + 10 ≤ i) : cy M 4294967296 i = 0 := by
  have hp := ten_pos i
  unfold cy
  rw [Nat.mod_eq_of_lt (Nat.lt_of_lt_of_le hM (Nat.pow_le_pow_right (by omega) (by omega)))]
  refine Nat.div_eq_of_lt ?_
  have h1 : M * 4294967296 < 10 ^ m * 10 ^ 10 := by
    exact Nat.lt_of_le_of_lt (Nat.mul_le_mul_right 4294967296 (Nat.le_of_lt hM)) (Nat.mul_lt_mul_of_pos_left (by decide) (ten_pos m))
  rw [← Nat.pow_add] at h1
  exact Nat.lt_of_lt_of_le h1 (Nat.pow_le_pow_right (by omega) h)

set_option maxRecDepth 100000 in
set_option maxHeartbeats 2000000 in
theorem stimes_any (v : Value) (m M : Nat) (m0 : 1 ≤ m) (hm : m ≤ 60) (hM : M < 10 ^ m) (w : World) (hD : Dw w v m M) :
    Calls Tryd.prog 34 #[v, .int .u64 4294967296] w fun e w' => ∃ (v' : Value) (m' : Nat), e = .returned v' ∧ m ≤ m' ∧ m' ≤ 71 ∧ M * 4294967296 < 10 ^ m' ∧ w'.ownsRow w.heap.size 43 1 v' m' ((ol m' (M * 4294967296)).map (Value.int .u64)) ∧ Below w.heap.size w w' := by
  obtain ⟨i0, hi, hz0, hz1, hz2⟩ := info_parts dinfo_u64
  obtain ⟨g, cap, rfl, c1, c2, hc⟩ := hD
  unfold maxLen at c2
  have HC : Hid (∀ k, k < m → w.cell? ⟨g, k, none⟩ = some (.int .u64 ((dd M k : Nat) : Int))) := hc
  have HM : Hid (M < 10 ^ m) := hM
  clear hc hM
  go_enter Tryd.func34, Tryd.ntmps34
  go_wp2
  go_loopw [5, 6, 7] (fun s5 s6 s7 wr => ∃ i : Nat, i ≤ 71 ∧ s6 = .int .u64 ((cy M 4294967296 i : Nat) : Int) ∧ s7 = .int .i64 (i : Int) ∧ wr.ownsRow w.heap.size 43 1 s5 i ((ol i (M * 4294967296)).map (Value.int .u64)) ∧ Below w.heap.size w wr) (fun _ _ s7 _ => 200 - (intOf s7).toNat)
  case atStart => exact ⟨0, by omega, by rw [cy_zero]; rfl, rfl, World.ownsRow_nil _ _ _ _, Below.refl _ _⟩
  case round =>
    obtain ⟨i, hi71, rfl, rfl, hown, hW⟩ := hrel
    have hcl := cy_lt M 4294967296 i (by omega)
    have HE : Hid (m ≤ i → cy M 4294967296 i = 0 → M * 4294967296 < 10 ^ i) := fun h1 h2 => cy_end M _ m i HM.out h1 h2
    have HF : Hid (m + 10 ≤ i → cy M 4294967296 i = 0) := fun h => cy_far M m i HM.out h
    have HN : Hid ((cy M 4294967296 i + dd M i * 4294967296) / 10 = cy M 4294967296 (i + 1)) := cy_next M _ i
    have HG : Hid ((cy M 4294967296 i + dd M i * 4294967296) % 10 = dd (M * 4294967296) i) := dig_prod M _ i
    have HZ : Hid (m ≤ i → dd M i = 0) := fun h => dd_none M m i HM.out h
    have hdl := dd_lt M i
    have HC2 : Hid (i < m → wr.cell? ⟨g, i, none⟩ = some (.int .u64 ((dd M i : Nat) : Int))) := fun h => (hW.cell (World.block_lt_of_cell? _ _ (HC.out i h))).trans (HC.out i h)
    by_cases hlt : i < m
    · have hcell := HC2.out hlt
      have hltI : (i : Int) < (m : Int) := by omega
      have hi0 : (0 : Int) ≤ (i : Int) := by omega
      obtain ⟨c, hc⟩ : ∃ c, cy M 4294967296 i = c := ⟨_, rfl⟩
      obtain ⟨d, hd⟩ : ∃ d, dd M i = d := ⟨_, rfl⟩
      rw [hc] at hcl
      rw [hd] at hdl hcell
      have HK : Hid (((c : Int) + (d : Int) * 4294967296) / 10 = ((cy M 4294967296 (i + 1) : Nat) : Int)) := by show _ = _; rw [← HN.out, hc, hd]; omega
      obtain ⟨z, hz⟩ : ∃ z : Int, ((c : Int) + (d : Int) * 4294967296) % 10 = z := ⟨_, rfl⟩
      have HZ2 : Hid (z = ((dd (M * 4294967296) i : Nat) : Int)) := by show _ = _; rw [← HG.out, ← hz, hc, hd]; omega
      rw [hc]
      have x0 : (0 : Int) ≤ (c : Int) + (d : Int) * 4294967296 := by omega
      have u1 := Int.tmod_eq_emod_of_nonneg (b := 10) x0
      have u2 := Int.tdiv_eq_ediv_of_nonneg (b := 10) x0
      rw [hz] at u1
      have z0 : 0 ≤ z := by omega
      have z1 : z ≤ 9 := by omega
      have v0 := wrap_small ((d : Int) * 4294967296) (by omega) (by omega)
      have v1 := wrap_small ((c : Int) + (d : Int) * 4294967296) (by omega) (by omega)
      have v2 := wrap_small (((c : Int) + (d : Int) * 4294967296) / 10) (by omega) (by omega)
      have v3 := wrap_small z (by omega) (by omega)
      clear HE HF HN HG HZ HC2 hc hd hz
      go_wp2_with (at_builtin; refine wpList_append_own _ rfl _ _ 67 rfl w.heap.size 43 i0 (.int .u64 0) 1 8 Tryd.underlying67 hi hz0 hz1 hz2 rfl (by decide) _ _ _ rfl (hown.alloc _) ⟨wr.heap.size, 0, none⟩ 1 1 [.int .u64 z] rfl rfl (cell_one_new _ _ _) (ints_oneCell .u64 [z]) (by unfold maxLen; omega) (by omega) (by have := hW.size; simp; omega) ?_; intro v' w1 hown' hgrow hnil)
      have hown3 : w1.ownsRow w.heap.size 43 1 v' (i + 1) ((ol (i + 1) (M * 4294967296)).map (Value.int .u64)) := by rw [← snoc_dig _ _ z HZ2.out]; exact hown'
      have hW3 : Below w.heap.size w w1 := dbelow_grown hown hW hgrow
      clear hown' hgrow hnil hown hW
      go_wp2
      go_roundw
      case rel => exact ⟨i + 1, by omega, by rw [HK.out], by go_num, hown3, hW3⟩
      case measure => simp [intOf]; omega
    · have hltI : ¬ (i : Int) < (m : Int) := by omega
      have hd := HZ.out (by omega)
      obtain ⟨c, hc⟩ : ∃ c, cy M 4294967296 i = c := ⟨_, rfl⟩
      rw [hc] at hcl
      by_cases hc0 : c = 0
      · have HE2 : Hid (M * 4294967296 < 10 ^ i) := HE.out (by omega) (by rw [hc]; exact hc0)
        rw [hc]
        have hc1 : (c : Int) = 0 := by omega
        clear HE HF HN HG HZ HC2 hd
        go_wp2
        go_ret
        exact ⟨_, rfl, i, by omega, by omega, HE2.out, hown, hW⟩
      · have hc1 : 0 < (c : Int) := by omega
        have hi69 : i ≤ 69 := by
          rcases Nat.lt_or_ge i 70 with h | h
          · omega
          · exact absurd (hc.symm.trans (HF.out (by omega))) hc0
        have HK : Hid ((c : Int) / 10 = ((cy M 4294967296 (i + 1) : Nat) : Int)) := by show _ = _; rw [← HN.out, hc, hd]; omega
        obtain ⟨z, hz⟩ : ∃ z : Int, (c : Int) % 10 = z := ⟨_, rfl⟩
        have HZ2 : Hid (z = ((dd (M * 4294967296) i : Nat) : Int)) := by show _ = _; rw [← HG.out, ← hz, hc, hd]; omega
        rw [hc]
        have x0 : (0 : Int) ≤ (c : Int) := by omega
        have u1 := Int.tmod_eq_emod_of_nonneg (b := 10) x0
        have u2 := Int.tdiv_eq_ediv_of_nonneg (b := 10) x0
        rw [hz] at u1
        have z0 : 0 ≤ z := by omega
        have z1 : z ≤ 9 := by omega
        have v2 := wrap_small ((c : Int) / 10) (by omega) (by omega)
        have v3 := wrap_small z (by omega) (by omega)
        clear HE HF HN HG HZ HC2 hc hd hz
        go_wp2_with (at_builtin; refine wpList_append_own _ rfl _ _ 67 rfl w.heap.size 43 i0 (.int .u64 0) 1 8 Tryd.underlying67 hi hz0 hz1 hz2 rfl (by decide) _ _ _ rfl (hown.alloc _) ⟨wr.heap.size, 0, none⟩ 1 1 [.int .u64 z] rfl rfl (cell_one_new _ _ _) (ints_oneCell .u64 [z]) (by unfold maxLen; omega) (by omega) (by have := hW.size; simp; omega) ?_; intro v' w1 hown' hgrow hnil)
        have hown3 : w1.ownsRow w.heap.size 43 1 v' (i + 1) ((ol (i + 1) (M * 4294967296)).map (Value.int .u64)) := by rw [← snoc_dig _ _ z HZ2.out]; exact hown'
        have hW3 : Below w.heap.size w w1 := dbelow_grown hown hW hgrow
        clear hown' hgrow hnil hown hW
        go_wp2
        go_roundw
        case rel => exact ⟨i + 1, by omega, by rw [HK.out], by go_num, hown3, hW3⟩
        case measure => simp [intOf]; omega
end Go.Proofs.YtekdpeiemfppiaaDoor
