/-
  Plain arithmetic of digits: rounding by two bits more, the digits behind a point and their end.
-/
import Derived.Test.YtekdpeiemfppiabDoorDWalkF
import Derived.Test.YtekdpeiemfppiabDoorMath2
import Derived.Test.YtekdpeiemfppiabDoorDWalkB
import Derived.Lib.ItoaNum
import Derived.Lib.TrimByte
import Derived.Lib.Bytealg
import Derived.Lib.Strings
set_option linter.unusedVariables false
set_option linter.unusedSimpArgs false
namespace Go.Proofs.YtekdpeiemfppiabDoor
open Go.RowKit

/-- The last bit is set if something is left. -/
def stk (q r : Nat) : Nat := if r = 0 then q else if q % 2 = 0 then q + 1 else q
theorem stk_low (P Q r : Nat) (hP : 0 < P) (hr : r < P) : stk (4 * Q + 4 * r / P) (4 * r % P) = 4 * Q + (if r = 0 then 0 else if 2 * r < P then 1 else if 2 * r = P then 2 else 3) := by
  have h := Nat.div_add_mod (4 * r) P
  have h2 := Nat.mod_lt (4 * r) hP
  have h3 : 4 * r / P < 4 := (Nat.div_lt_iff_lt_mul hP).2 (by omega)
  unfold stk
  generalize 4 * r / P = t at *
  generalize 4 * r % P = m at *
  rcases (show t = 0 ∨ t = 1 ∨ t = 2 ∨ t = 3 by omega) with h | h | h | h <;> subst h
  all_goals
    repeat' split
    all_goals omega
theorem stk_gen (A E P c : Nat) (hP : 0 < P) : A * (4 * c) + stk (E * (4 * c) / P) (E * (4 * c) % P) = 4 * ((A * P + E) * c / P) + (if (A * P + E) * c % P = 0 then (0 : Int) else if 2 * ((A * P + E) * c % P) < P then 1 else if 2 * ((A * P + E) * c % P) = P then 2 else 3).toNat := by
  have e0 : (A * P + E) * c = P * (A * c) + E * c := by
    rw [Nat.add_mul, Nat.mul_comm A P, Nat.mul_assoc]
  rw [e0, Nat.mul_add_div hP, Nat.mul_add_mod, Nat.mul_left_comm E 4 c, Nat.mul_left_comm A 4 c]
  clear e0
  generalize E * c = e
  generalize A * c = a
  have e1 : 4 * e = P * (4 * (e / P)) + 4 * (e % P) := by
    have h := Nat.div_add_mod e P
    have h2 : P * (4 * (e / P)) = 4 * (P * (e / P)) := Nat.mul_left_comm _ _ _
    omega
  have hr : e % P < P := Nat.mod_lt _ hP
  rw [e1]
  generalize e / P = Q at *
  generalize e % P = r at *
  rw [Nat.mul_add_div hP, Nat.mul_add_mod, stk_low P Q r hP hr]
  clear e1
  by_cases c0 : r = 0
  · rw [if_pos c0, if_pos c0, show (0 : Int).toNat = 0 from rfl]; omega
  · rw [if_neg c0, if_neg c0]
    by_cases c1 : 2 * r < P
    · rw [if_pos c1, if_pos c1, show (1 : Int).toNat = 1 from rfl]; omega
    · rw [if_neg c1, if_neg c1]
      by_cases c2 : 2 * r = P
      · rw [if_pos c2, if_pos c2, show (2 : Int).toNat = 2 from rfl]; omega
      · rw [if_neg c2, if_neg c2, show (3 : Int).toNat = 3 from rfl]; omega
theorem stk_rs (A E k : Nat) : A * 17179869184 + stk (E * 17179869184 / 10 ^ k) (E * 17179869184 % 10 ^ k) = 4 * ((A * 10 ^ k + E) * 4294967296 / 10 ^ k) + (rs ((A * 10 ^ k + E) * 4294967296) k).toNat :=
  stk_gen A E (10 ^ k) 4294967296 (ten_pos k)
theorem rs_nat (L k : Nat) : 0 ≤ rs L k ∧ rs L k ≤ 3 := by
  unfold rs
  repeat' split
  all_goals omega
theorem rnd_pos (L k : Nat) : rnd ((4 * (L / 10 ^ k) + (rs L k).toNat : Nat) : Int) 2 = (rq L k : Nat) ∧ rnd (-((4 * (L / 10 ^ k) + (rs L k).toNat : Nat) : Int)) 2 = -((rq L k : Nat) : Int) := by
  have h := rs_nat L k
  unfold rq
  generalize rs L k = s at *
  generalize L / 10 ^ k = q
  rcases (show s = 0 ∨ s = 1 ∨ s = 2 ∨ s = 3 by omega) with h | h | h | h <;> subst h
  · unfold rnd gu c3 lo
    have h1 : ((4 * q + Int.toNat 0 : Nat) : Int) = 4 * q := by simp
    rw [h1]
    have a1 : (4 * (q : Int)) % 2 ^ 2 = 0 := by omega
    have a2 : (4 * (q : Int)) / 2 ^ 2 = q := by omega
    have a3 : (-(4 * (q : Int))) % 2 ^ 2 = 0 := by omega
    have a4 : (-(4 * (q : Int))) / 2 ^ 2 = -q := by omega
    rw [a1, a2, a3, a4]
    simp
  · unfold rnd gu c3 lo
    have h1 : ((4 * q + Int.toNat 1 : Nat) : Int) = 4 * q + 1 := by simp
    rw [h1]
    have a1 : (4 * (q : Int) + 1) % 2 ^ 2 = 1 := by omega
    have a2 : (4 * (q : Int) + 1) / 2 ^ 2 = q := by omega
    have a3 : (-(4 * (q : Int) + 1)) % 2 ^ 2 = 3 := by omega
    have a4 : (-(4 * (q : Int) + 1)) / 2 ^ 2 = -q - 1 := by omega
    rw [a1, a2, a3, a4]
    simp
  · unfold rnd gu c3 lo
    have h1 : ((4 * q + Int.toNat 2 : Nat) : Int) = 4 * q + 2 := by simp
    rw [h1]
    have a1 : (4 * (q : Int) + 2) % 2 ^ 2 = 2 := by omega
    have a2 : (4 * (q : Int) + 2) / 2 ^ 2 = q := by omega
    have a3 : (-(4 * (q : Int) + 2)) % 2 ^ 2 = 2 := by omega
    have a4 : (-(4 * (q : Int) + 2)) / 2 ^ 2 = -q - 1 := by omega
    rw [a1, a2, a3, a4]
    simp
    constructor <;> repeat' split
    all_goals omega
  · unfold rnd gu c3 lo
    have h1 : ((4 * q + Int.toNat 3 : Nat) : Int) = 4 * q + 3 := by simp
    rw [h1]
    have a1 : (4 * (q : Int) + 3) % 2 ^ 2 = 3 := by omega
    have a2 : (4 * (q : Int) + 3) / 2 ^ 2 = q := by omega
    have a3 : (-(4 * (q : Int) + 3)) % 2 ^ 2 = 1 := by omega
    have a4 : (-(4 * (q : Int) + 3)) / 2 ^ 2 = -q - 1 := by omega
    rw [a1, a2, a3, a4]
    simp
    omega
/-- Noughts behind change nothing. -/
theorem pad_div (E k m : Nat) : E * 10 ^ m * 17179869184 / 10 ^ (k + m) = E * 17179869184 / 10 ^ k ∧ (E * 10 ^ m * 17179869184 % 10 ^ (k + m) = 0 ↔ E * 17179869184 % 10 ^ k = 0) := by
  have hm := ten_pos m
  rw [Nat.pow_add, Nat.mul_right_comm, Nat.mul_div_mul_right _ _ hm, Nat.mul_mod_mul_right]
  refine ⟨rfl, ?_⟩
  constructor
  · intro h
    rcases Nat.mul_eq_zero.1 h with h | h
    · exact h
    · omega
  · intro h; rw [h, Nat.zero_mul]
theorem stk_pad (E k m : Nat) : stk (E * 10 ^ m * 17179869184 / 10 ^ (k + m)) (E * 10 ^ m * 17179869184 % 10 ^ (k + m)) = stk (E * 17179869184 / 10 ^ k) (E * 17179869184 % 10 ^ k) := by
  obtain ⟨h1, h2⟩ := pad_div E k m
  unfold stk
  rw [h1]
  by_cases h : E * 17179869184 % 10 ^ k = 0
  · rw [if_pos h, if_pos (h2.2 h)]
  · rw [if_neg h, if_neg (fun h' => h (h2.1 h'))]
/-- One bit more. -/
theorem bit_more (M P j : Nat) (hP : 0 < P) : 2 * (M * 2 ^ j / P) + 2 * (M * 2 ^ j % P) / P = M * 2 ^ (j + 1) / P ∧ 2 * (M * 2 ^ j % P) % P = M * 2 ^ (j + 1) % P := by
  have h := Nat.div_add_mod (M * 2 ^ j) P
  have e : M * 2 ^ (j + 1) = P * (2 * (M * 2 ^ j / P)) + 2 * (M * 2 ^ j % P) := by
    rw [Nat.pow_succ, ← Nat.mul_assoc, Nat.mul_left_comm P 2, ← Nat.mul_add, h]
    omega
  rw [e, Nat.mul_add_div hP, Nat.mul_add_mod]
  exact ⟨rfl, rfl⟩
/-- The digits behind the point, so many. -/
def fl : Nat → Nat → List UInt8
  | 0, _ => []
  | k + 1, r => UInt8.ofNat (48 + 10 * r / 4294967296) :: fl k (10 * r % 4294967296)
/-- One digit behind the point. -/
def dgt (r j : Nat) : Nat := 10 * (r * 10 ^ j % 4294967296) / 4294967296
theorem dgt_lt (r j : Nat) : dgt r j < 10 := by
  unfold dgt
  have h : r * 10 ^ j % 4294967296 < 4294967296 := Nat.mod_lt _ (by omega)
  omega
theorem dgt_zero (r : Nat) (h : r < 4294967296) : dgt r 0 = 10 * r / 4294967296 := by unfold dgt; rw [Nat.pow_zero, Nat.mul_one, Nat.mod_eq_of_lt h]
theorem ten_shift (r j m : Nat) : 10 * r % m * 10 ^ j % m = r * 10 ^ (j + 1) % m := by
  rw [Nat.mod_mul_mod, Nat.pow_succ, Nat.mul_comm 10 r, Nat.mul_assoc, Nat.mul_comm 10]
theorem dgt_succ (r j : Nat) : dgt (10 * r % 4294967296) j = dgt r (j + 1) := by
  unfold dgt
  rw [ten_shift]
theorem fl_map (k : Nat) : ∀ r, r < 4294967296 → (List.range k).map (fun j => UInt8.ofNat (48 + dgt r j)) = fl k r := by
  induction k with
  | zero => intro r _; rfl
  | succ k ih =>
    intro r h
    rw [List.range_succ_eq_map, List.map_cons, List.map_map, dgt_zero r h]
    unfold fl
    rw [← ih _ (Nat.mod_lt _ (by omega))]
    congr 1
    apply List.map_congr_left
    intro j _
    show UInt8.ofNat (48 + dgt r (j + 1)) = _
    rw [dgt_succ]
theorem trim_cons (x : UInt8) (t : List UInt8) (c : UInt8) : Lib.trimRightB (x :: t) c = if Lib.trimRightB t c = [] then (if x = c then [] else [x]) else x :: Lib.trimRightB t c := by
  unfold Lib.trimRightB
  rw [List.reverse_cons, List.dropWhile_append]
  by_cases h : (t.reverse.dropWhile (· == c)) = []
  · simp [h]
    by_cases hx : x = c <;> simp [hx]
  · simp [h]
theorem trim_zero (k : Nat) : Lib.trimRightB (fl k 0) 48 = [] := by
  induction k with
  | zero => rfl
  | succ k ih =>
    unfold fl
    rw [trim_cons]
    simp [ih]
theorem flf_nil (n r : Nat) (h : flf n r = []) (h1 : r * 10 ^ n % 4294967296 = 0) (hr : r < 4294967296) : r = 0 := by
  cases n with
  | zero => rw [Nat.pow_zero, Nat.mul_one, Nat.mod_eq_of_lt hr] at h1; exact h1
  | succ n =>
    by_cases h0 : r = 0
    · exact h0
    · rw [flf_succ _ _ h0, dl_lt _ (by omega)] at h
      simp at h
theorem u8_48 (d : Nat) (h : d < 10) : UInt8.ofNat (48 + d) = 48 ↔ d = 0 := by
  constructor
  · intro e
    have := congrArg UInt8.toNat e
    simp at this
    omega
  · intro e; subst e; rfl
theorem d_ten (r : Nat) (hr : r < 4294967296) : 10 * r / 4294967296 < 10 := by omega
theorem d_key (r : Nat) (h0 : r ≠ 0) : 10 * r % 4294967296 = 0 → 10 * r / 4294967296 ≠ 0 := by
  intro h h2
  have e := Nat.div_add_mod (10 * r) 4294967296
  rw [h, h2, Nat.mul_zero, Nat.zero_add] at e
  rcases Nat.mul_eq_zero.1 e.symm with e | e
  · cases e
  · exact h0 e
theorem trim_fl (k : Nat) : ∀ n r, r < 4294967296 → n ≤ k → r * 10 ^ n % 4294967296 = 0 → Lib.trimRightB (fl k r) 48 = flf n r := by
  induction k with
  | zero =>
    intro n r hr hn h
    obtain rfl : n = 0 := by omega
    rfl
  | succ k ih =>
    intro n r hr hn h
    by_cases h0 : r = 0
    · subst h0; rw [trim_zero, flf_zero]
    · cases n with
      | zero => rw [Nat.pow_zero, Nat.mul_one, Nat.mod_eq_of_lt hr] at h; exact absurd h h0
      | succ n =>
        have hd := d_ten r hr
        have hr' : 10 * r % 4294967296 < 4294967296 := Nat.mod_lt _ (by omega)
        have h' : 10 * r % 4294967296 * 10 ^ n % 4294967296 = 0 := by rw [ten_shift]; exact h
        have key := d_key r h0
        rw [flf_succ _ _ h0, dl_lt _ hd]
        unfold fl
        rw [trim_cons, ih n _ hr' (Nat.le_of_succ_le_succ hn) h']
        generalize 10 * r / 4294967296 = d at *
        generalize 10 * r % 4294967296 = r' at *
        by_cases hf : flf n r' = []
        · have hz := flf_nil _ _ hf h' hr'
          have h2 : ¬ UInt8.ofNat (48 + d) = 48 := by
            rw [u8_48 _ hd]; exact key hz
          rw [if_pos hf, hf, if_neg h2]
          rfl
        · rw [if_neg hf]
          rfl
theorem dl_dec (n : Nat) : Lib.decDigits n = dl n := by
  induction n using Nat.strongRecOn with
  | _ n ih =>
    by_cases h : n < 10
    · rw [Lib.decDigits, dif_pos h, dl_lt n h]
    · rw [Lib.decDigits, dif_neg h, dl_ge n h, ih (n / 10) (by omega)]
theorem text_end (r : Nat) (h : r < 4294967296) : Lib.trimRightB ((List.range 40).map (fun j => UInt8.ofNat (48 + dgt r j))) 48 = flf 33 r := by
  rw [fl_map 40 r h]
  refine trim_fl 40 33 r h (by omega) ?_
  rw [← rest_next, rest_end]
end Go.Proofs.YtekdpeiemfppiabDoor
