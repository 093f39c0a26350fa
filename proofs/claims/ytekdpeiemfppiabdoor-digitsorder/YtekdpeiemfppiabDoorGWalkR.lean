/-
  The contract of digits' bits: the first 34 bits behind the point, the last one set if there are more.
-/
import Derived.Test.YtekdpeiemfppiabDoorGWalkQ
import Derived.Test.YtekdpeiemfppiabDoorWalkD
import Derived.ChangeKeysEq
set_option linter.unusedVariables false
set_option linter.unusedSimpArgs false
namespace Go.Proofs.YtekdpeiemfppiabDoor
open Go.RowKit

theorem digs_zero (X : Nat) : ∀ n, (∀ i, i < n → dd X i = 0) ↔ X % 10 ^ n = 0 := by
  intro n
  induction n with
  | zero => rw [Nat.pow_zero, Nat.mod_one]; simp
  | succ n ih =>
    have hp := ten_pos n
    rw [dmod_up]
    constructor
    · intro h
      rw [h n (by omega), ih.1 (fun i hi => h i (by omega))]
      omega
    · intro h
      have h1 : X % 10 ^ n = 0 := by omega
      have h2 : dd X n * 10 ^ n = 0 := by omega
      have h3 : dd X n = 0 := by
        rcases Nat.mul_eq_zero.1 h2 with h | h
        · exact h
        · omega
      intro i hi
      rcases Nat.lt_or_ge i n with h | h
      · exact ih.2 h1 i h
      · obtain rfl : i = n := by omega
        exact h3
theorem all_zero (X : Nat) : (List.range 40).all (fun i => dd X (39 - i) == 0) = decide (X % 10 ^ 40 = 0) := by
  rw [Bool.eq_iff_iff, List.all_eq_true, decide_eq_true_iff, ← digs_zero X 40]
  constructor
  · intro h i hi
    have := h (39 - i) (List.mem_range.2 (by omega))
    rw [show 39 - (39 - i) = i by omega] at this
    simpa using this
  · intro h i hi
    have := h (39 - i) (by omega)
    simpa using this
theorem plainU8 : Tryd.prog.plainKey 5 = true := by kernel_rfl
theorem cellsU8' : Tryd.prog.cellsOf 5 = 1 := by kernel_rfl
theorem eq_items (f : Nat → Nat) (W : World) : ∀ is : List Nat, (∀ i ∈ is, i < 40) → (Op.eqItems 9999 5 1 (row f) (row (fun _ => 0)) is).run Tryd.prog W = .ok (is.all (fun i => f i == 0)) W := by
  intro is
  induction is with
  | nil => intro _; rfl
  | cons j is ih =>
    intro h
    have hj := h j (by simp)
    have p1 : (part 5 (row f) (j * 1)).run Tryd.prog W = .ok (.int .u8 ((f j : Nat) : Int)) W := run_part_plain W plainU8 (by rw [Nat.mul_one]; exact row_get f j hj)
    have p2 : (part 5 (row (fun _ => 0)) (j * 1)).run Tryd.prog W = .ok (.int .u8 0) W := run_part_plain W plainU8 (by rw [Nat.mul_one]; exact row_get _ j hj)
    have p3 : (Op.equalIn 9999 5 (.int .u8 ((f j : Nat) : Int)) (.int .u8 0)).run Tryd.prog W = .ok (((f j : Nat) : Int) == 0) W := run_equalIn_int W 9998 5 .u8 .u8 _ _ Tryd.underlying5
    have ih2 := ih (fun i hi => h i (by simp [hi]))
    have e : (((f j : Nat) : Int) == 0) = (f j == 0) := by
      rw [Bool.eq_iff_iff, beq_iff_eq, beq_iff_eq]; omega
    simp only [Op.eqItems, Sem.run_bind, p1, p2, p3, Result.andThen_ok, List.all_cons, e]
    cases hz : (f j == 0)
    · rfl
    · simpa using ih2
theorem eq_zero (f : Nat → Nat) (W : World) : (Op.equalIn 10000 44 (.agg (row f)) (.agg #[.int .u8 0, .int .u8 0, .int .u8 0, .int .u8 0, .int .u8 0, .int .u8 0, .int .u8 0, .int .u8 0, .int .u8 0, .int .u8 0, .int .u8 0, .int .u8 0, .int .u8 0, .int .u8 0, .int .u8 0, .int .u8 0, .int .u8 0, .int .u8 0, .int .u8 0, .int .u8 0, .int .u8 0, .int .u8 0, .int .u8 0, .int .u8 0, .int .u8 0, .int .u8 0, .int .u8 0, .int .u8 0, .int .u8 0, .int .u8 0, .int .u8 0, .int .u8 0, .int .u8 0, .int .u8 0, .int .u8 0, .int .u8 0, .int .u8 0, .int .u8 0, .int .u8 0, .int .u8 0])).run Tryd.prog W = .ok ((List.range 40).all (fun i => f i == 0)) W := by
  obtain ⟨i0, hi⟩ : ∃ i, Tryd.prog.info? 5 = some i := by
    have h : (Tryd.prog.info? 5).isSome = true := by kernel_rfl
    exact Option.isSome_iff_exists.1 h
  have h := run_equalIn_array W 9999 (row f) #[.int .u8 0, .int .u8 0, .int .u8 0, .int .u8 0, .int .u8 0, .int .u8 0, .int .u8 0, .int .u8 0, .int .u8 0, .int .u8 0, .int .u8 0, .int .u8 0, .int .u8 0, .int .u8 0, .int .u8 0, .int .u8 0, .int .u8 0, .int .u8 0, .int .u8 0, .int .u8 0, .int .u8 0, .int .u8 0, .int .u8 0, .int .u8 0, .int .u8 0, .int .u8 0, .int .u8 0, .int .u8 0, .int .u8 0, .int .u8 0, .int .u8 0, .int .u8 0, .int .u8 0, .int .u8 0, .int .u8 0, .int .u8 0, .int .u8 0, .int .u8 0, .int .u8 0, .int .u8 0] plUnd hi
  rw [cellsU8', ← row_zero, eq_items f W _ (fun i hi => List.mem_range.1 hi)] at h
  rw [← row_zero]
  exact h
theorem out_lt (M j : Nat) (hM : M < 10 ^ 40) (hj : j ≤ 34) : M * 2 ^ j / 10 ^ 40 < 17179869184 := by
  have h1 : (2 : Nat) ^ j ≤ 2 ^ 34 := Nat.pow_le_pow_right (by omega) hj
  have h2 : (0 : Nat) < 2 ^ j := Nat.pow_pos (by omega)
  have h3 : M * 2 ^ j / 10 ^ 40 < 2 ^ j := (Nat.div_lt_iff_lt_mul (ten_pos 40)).2 (by rw [Nat.mul_comm (2 ^ j)]; exact Nat.mul_lt_mul_of_pos_right hM h2)
  have h4 : (2 : Nat) ^ 34 = 17179869184 := by decide
  omega
theorem or_low (q b : Nat) (hq : q < 17179869184) (hb : b < 2) : bits .or .i64 ((q : Int) * 2) (b : Int) = ((2 * q + b : Nat) : Int) := by
  rw [or_i64 _ _ 1 (by omega) (by omega) (by omega) (by omega), sg_id _ (by omega) (by omega)]
  omega
theorem or_one (q : Nat) (hq : q < 17179869184) : bits .or .i64 (q : Int) 1 = ((if q % 2 = 0 then q + 1 else q : Nat) : Int) := by
  by_cases h : q % 2 = 0
  · rw [if_pos h, or_i64 _ _ 1 (by omega) (by omega) (by omega) (by omega), sg_id _ (by omega) (by omega)]
    omega
  · rw [if_neg h]
    have e1 : q = 2 * (q / 2) ||| 1 := by rw [nat_or_add (2 * (q / 2)) 1 1 (by omega) (by omega)]; omega
    have e2 : q ||| 1 = q := by
      have h2 : (2 * (q / 2) ||| 1) ||| 1 = 2 * (q / 2) ||| 1 := by rw [Nat.or_assoc, Nat.or_self]
      rw [← e1] at h2
      exact h2
    show IntKind.i64.wrap (((BitVec.ofInt 64 (q : Int) ||| BitVec.ofInt 64 1).toNat : Nat) : Int) = _
    rw [BitVec.toNat_or, BitVec.toNat_ofInt, BitVec.toNat_ofInt]
    have e3 : ((q : Int) % ((2 ^ 64 : Nat) : Int)).toNat = q := by omega
    have e4 : ((1 : Int) % ((2 ^ 64 : Nat) : Int)).toNat = 1 := by decide
    rw [e3, e4, e2, IntKind.wrap_i64]
    omega
set_option maxRecDepth 100000 in
set_option maxHeartbeats 2000000 in
theorem gbits_any (M : Nat) (hM : M < 10 ^ 40) (w : World) :
    Calls Tryd.prog 15 #[.agg (row (fun i => dd M (39 - i))), .int .i64 34] w fun e w' => e = .returned (.int .i64 ((stk (M * 17179869184 / 10 ^ 40) (M * 17179869184 % 10 ^ 40) : Nat) : Int)) ∧ Below w.heap.size w w' := by
  have hs := row_size (fun i => dd M (39 - i))
  have HM : Hid (M < 10 ^ 40) := hM
  clear hM
  obtain ⟨L, hL⟩ : ∃ L, M * 17179869184 = L := ⟨_, rfl⟩
  have HL : Hid (M * 17179869184 = L) := hL
  rw [hL]
  clear hL
  obtain ⟨S, hS⟩ : ∃ S, stk (L / 10 ^ 40) (L % 10 ^ 40) = S := ⟨_, rfl⟩
  have HS : Hid (stk (L / 10 ^ 40) (L % 10 ^ 40) = S) := hS
  rw [hS]
  clear hS
  go_enter Tryd.func15, Tryd.ntmps15
  go_wp2
  go_loopw [5, 6, 8] (fun s5 s6 s8 wr => ∃ j : Nat, j ≤ 34 ∧ s5 = .int .i64 ((M * 2 ^ j / 10 ^ 40 : Nat) : Int) ∧ s8 = .int .i64 (j : Int) ∧ Pl wr w.heap.size (fun i => dd (M * 2 ^ j) (39 - i)) ∧ Below w.heap.size w wr) (fun _ _ s8 _ => 34 - (intOf s8).toNat)
  case atStart =>
    refine ⟨0, by omega, ?_, rfl, (Pl.new w _).to (fun i hi => by rw [Nat.pow_zero, Nat.mul_one]), bel1 _ _⟩
    rw [Nat.pow_zero, Nat.mul_one, Nat.div_eq_of_lt HM.out]
    rfl
  case round =>
    obtain ⟨j, hj, rfl, rfl, hP, hW⟩ := hrel
    have hq := out_lt M j HM.out hj
    by_cases hlt : (j : Int) < 34
    · have HB := bit_more M (10 ^ 40) j (ten_pos 40)
      have hcl := cy_lt (M * 2 ^ j) 2 40 (by omega)
      have HE : Hid (2 * (M * 2 ^ j / 10 ^ 40) + cy (M * 2 ^ j) 2 40 = M * 2 ^ (j + 1) / 10 ^ 40) := by
        show _ = _
        unfold cy
        rw [Nat.mul_comm (M * 2 ^ j % 10 ^ 40) 2]
        exact HB.1
      have PD : Hid (∀ W : World, Calls Tryd.prog 27 #[.agg (row (fun i => dd (M * 2 ^ j) (39 - i)))] W fun e w' => e = .returned (.tuple #[.agg (row (fun i => dd (M * 2 ^ (j + 1)) (39 - i))), .int .i64 ((cy (M * 2 ^ j) 2 40 : Nat) : Int)]) ∧ Below W.heap.size W w') := by
        intro W
        have h := gdoubled_any (M * 2 ^ j) W
        rw [show M * 2 ^ j * 2 = M * 2 ^ (j + 1) by rw [Nat.pow_succ, Nat.mul_assoc]] at h
        exact h
      have HA : Hid (Pl wr w.heap.size (fun i => dd (M * 2 ^ j) (39 - i)) ∧ Below w.heap.size w wr) := ⟨hP, hW⟩
      clear hP hW HB
      obtain ⟨X, hX⟩ : ∃ X, M * 2 ^ (j + 1) / 10 ^ 40 = X := ⟨_, rfl⟩
      have HX : Hid (M * 2 ^ (j + 1) / 10 ^ 40 = X) := hX
      rw [hX] at HE
      clear hX
      generalize M * 2 ^ j / 10 ^ 40 = q at *
      go_wp2_with (refine HA.out.1.wload rfl _ rfl rfl ?_)
      refine (PD.out _).mono ?_
      rintro e w1 ⟨rfl, hb⟩
      have HA2 : Hid (Pl w1 w.heap.size (fun i => dd (M * 2 ^ j) (39 - i)) ∧ Below w.heap.size w w1) := ⟨HA.out.1.later hb, bchain HA.out.2 hb⟩
      clear HA hb PD
      generalize cy (M * 2 ^ j) 2 40 = b at *
      have ho := or_low q b hq hcl
      have o1 : (0 : Int) ≤ (q : Int) * 2 := by omega
      have o2 : (q : Int) * 2 ≤ 9223372036854775807 := by omega
      rw [HE.out] at ho
      go_wp2_with (refine HA2.out.1.wstore rfl _ _ (fun i => dd (M * 2 ^ (j + 1)) (39 - i)) rfl rfl rfl ?_)
      go_roundw
      case rel => exact ⟨j + 1, by omega, by rw [HX.out], by go_num, HA2.out.1.put _, below_setRow HA2.out.2 (Nat.le_refl _) _⟩
      case measure => simp [intOf]; omega
    · obtain rfl : j = 34 := by omega
      have e34 : M * 2 ^ 34 = L := by rw [show (2 : Nat) ^ 34 = 17179869184 by decide]; exact HL.out
      rw [e34] at hP hq ⊢
      clear e34 HL
      have hE := fun W => eq_zero (fun i => dd (L) (39 - i)) W
      rw [all_zero] at hE
      have hg : Tryd.prog.eqGuardType Tryd.prog.depth 44 = false := by kernel_rfl
      have HA : Hid (Pl wr w.heap.size (fun i => dd (L) (39 - i)) ∧ Below w.heap.size w wr) := ⟨hP, hW⟩
      clear hP hW
      have HS2 := HS.out
      unfold stk at HS2
      generalize L / 10 ^ 40 = q at *
      clear HS
      by_cases hr : L % 10 ^ 40 = 0
      · rw [if_pos hr] at HS2
        rw [decide_eq_true hr] at hE
        subst HS2
        clear hr
        go_wp2_with (refine HA.out.1.wload rfl _ rfl rfl ?_)
        go_ret
        exact ⟨rfl, HA.out.2⟩
      · rw [if_neg hr] at HS2
        rw [decide_eq_false hr] at hE
        have ho := or_one q hq
        rw [HS2] at ho
        clear hr HS2
        go_wp2_with (refine HA.out.1.wload rfl _ rfl rfl ?_)
        go_ret
        exact ⟨rfl, HA.out.2⟩
end Go.Proofs.YtekdpeiemfppiabDoor
