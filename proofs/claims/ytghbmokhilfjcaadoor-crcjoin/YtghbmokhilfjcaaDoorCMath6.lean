/-
  Plain numbers: the product of two polynomials by Horner's way, the first's lowest bit first.
-/
import Derived.Test.YtghbmokhilfjcaaDoorCMath5
set_option linter.unusedVariables false
namespace Go.Proofs.YtghbmokhilfjcaaDoor

/-- The product's first so many steps. -/
def cH (a b : Nat) : Nat → Nat
  | 0 => 0
  | k + 1 => cZ (cH a b k) ^^^ (if a.testBit k = true then b else 0)
theorem cH_succ (a b k : Nat) : cH a b (k + 1) = cZ (cH a b k) ^^^ (if a.testBit k = true then b else 0) := rfl
theorem cH_xor (a c b k : Nat) : cH (a ^^^ c) b k = cH a b k ^^^ cH c b k := by
  induction k with
  | zero => simp [cH]
  | succ k ih =>
    unfold cH
    rw [ih, Nat.testBit_xor, cZ_xor]
    generalize cZ (cH a b k) = x
    generalize cZ (cH c b k) = y
    cases a.testBit k <;> cases c.testBit k <;> simp
    · rw [Nat.xor_assoc]
    · rw [Nat.xor_assoc, Nat.xor_comm y b, ← Nat.xor_assoc]
    · rw [Nat.xor_assoc x b, ← Nat.xor_assoc b y b, Nat.xor_comm b y, Nat.xor_assoc y b b, Nat.xor_self, Nat.xor_zero]
theorem cZ_lt32 (a : Nat) (ha : a < 4294967296) : cZ a < 4294967296 := by
  have := cZs_lt 1 a ha
  rwa [cZs_succ] at this
theorem cH_lt (a b : Nat) (hb : b < 4294967296) (k : Nat) : cH a b k < 4294967296 := by
  induction k with
  | zero => unfold cH; omega
  | succ k ih =>
    unfold cH
    refine Nat.xor_lt_two_pow (n := 32) (cZ_lt32 _ ih) ?_
    split
    · exact hb
    · omega
theorem cH_pow (j b : Nat) : ∀ k, cH (2 ^ j) b k = if k ≤ j then 0 else cZs (k - 1 - j) b := by
  intro k
  induction k with
  | zero => simp [cH]
  | succ k ih =>
    rw [cH_succ, ih, Nat.testBit_two_pow]
    by_cases h1 : k < j
    · rw [if_pos (by omega), if_neg (by simp; omega), if_pos (by omega), cZ_zero, Nat.xor_zero]
    · by_cases h2 : k = j
      · subst h2
        rw [if_pos (by omega), if_pos (by simp), if_neg (by omega), cZ_zero, Nat.zero_xor, show k + 1 - 1 - k = 0 by omega]
        rfl
      · rw [if_neg (by omega), if_neg (by simp; omega), if_neg (by omega), Nat.xor_zero, ← cZs_succ, show k - 1 - j + 1 = k + 1 - 1 - j by omega]
theorem pow_shift : ∀ j, j < 32 → cZs (31 - j) 2147483648 = 2 ^ j := by decide +kernel
/-- The product with a power of the unknown is so many steps. -/
theorem cH_zs (n a : Nat) (ha : a < 4294967296) : cH a (cZs n 2147483648) 32 = cZs n a :=
  lin_eq (fun a => cH a (cZs n 2147483648) 32) (fun a => cZs n a) (fun a c => cH_xor a c _ 32) (fun a c => cZs_xor n a c) 32 (fun j hj => by
    show cH (2 ^ j) (cZs n 2147483648) 32 = cZs n (2 ^ j)
    rw [cH_pow, if_neg (by omega), ← pow_shift j hj, ← cZs_add, ← cZs_add]
    congr 1
    omega) a ha
theorem cH_powers (i : Nat) : cH (cZs i 2147483648) (cZs i 2147483648) 32 = cZs (2 * i) 2147483648 := by
  rw [cH_zs i _ (cZs_lt i _ (by omega)), ← cZs_add, Nat.two_mul]
end Go.Proofs.YtghbmokhilfjcaaDoor
