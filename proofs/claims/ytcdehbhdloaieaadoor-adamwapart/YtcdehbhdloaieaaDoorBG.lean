/-
  SWalkG, SWalkH, SWalkI, SWalkK, SWalkJ, SWalkL.
-/
import Derived.Test.YtcdehbhdloaieaaDoorBF
import Derived.Test.YtcdehbhdloaieaaDoorBA
import Derived.Test.YtcdehbhdloaieaaDoorBH
/-
  The contract of regattaref02's Product.
-/
set_option linter.unusedVariables false
set_option linter.unusedSimpArgs false
namespace Go.Proofs.YtcdehbhdloaieaaDoor
open Go.RowKit

theorem B6.farA {b d : Nat} {x : Nat → Int} {w : World} (h : B6 b x w) (hd : d ≠ b) (z : Nat → Int) : B6 b x ((((((w.setCell ⟨d, 0, none⟩ (.int .u64 (z 0))).setCell ⟨d, 1, none⟩ (.int .u64 (z 1))).setCell ⟨d, 2, none⟩ (.int .u64 (z 2))).setCell ⟨d, 3, none⟩ (.int .u64 (z 3))).setCell ⟨d, 4, none⟩ (.int .u64 (z 4))).setCell ⟨d, 5, none⟩ (.int .u64 (z 5))) :=
  (((((h.far _ hd).far _ hd).far _ hd).far _ hd).far _ hd).far _ hd
theorem small_mul (x y : Int) (x0 : 0 ≤ x) (x1 : x ≤ 4294967295) (y0 : 0 ≤ y) (y1 : y ≤ 4294967295) : 0 ≤ x * y ∧ x * y ≤ 18446744073709551615 := by
  have h1 := Int.mul_nonneg x0 y0
  have h2 := Int.mul_le_mul x1 y1 y0 (by omega)
  omega
theorem prod_split (a b : Int) : a % 4294967296 * (b % 4294967296) + a / 4294967296 * (b % 4294967296) * 4294967296 + a % 4294967296 * (b / 4294967296) * 4294967296 + a / 4294967296 * (b / 4294967296) * 18446744073709551616 = a * b := by
  have ea : a = a / 4294967296 * 4294967296 + a % 4294967296 := by omega
  have eb : b = b / 4294967296 * 4294967296 + b % 4294967296 := by omega
  generalize a % 4294967296 = l at *
  generalize a / 4294967296 = h at *
  generalize b % 4294967296 = m at *
  generalize b / 4294967296 = k at *
  subst ea eb
  rw [Int.add_mul, Int.mul_add, Int.mul_add]
  rw [show h * 4294967296 * (k * 4294967296) = h * k * 18446744073709551616 by rw [Int.mul_assoc, Int.mul_left_comm 4294967296 k, ← Int.mul_assoc]; rfl]
  rw [show h * 4294967296 * m = h * m * 4294967296 by rw [Int.mul_right_comm], show l * (k * 4294967296) = l * k * 4294967296 by rw [Int.mul_assoc]]
  omega

end Go.Proofs.YtcdehbhdloaieaaDoor
/-
  The contracts of regattaref02's sums' Mul, and of its Add, Sub, Mul.
-/
set_option linter.unusedVariables false
set_option linter.unusedSimpArgs false
namespace Go.Proofs.YtcdehbhdloaieaaDoor
open Go.RowKit

/-- What a sum stands for, and how great its sides are. -/
structure Sm (p q : Int) (V B : Int) : Prop where
  p0 : 0 ≤ p
  q0 : 0 ≤ q
  p1 : p ≤ B
  q1 : q ≤ B
  v : p - q = V

theorem dg_zero (k : Nat) : dg 0 k = 0 := by unfold dg; rw [Int.zero_ediv]; rfl
theorem ab_mul_le (a b : Int) (a0 : -9223372036854775808 ≤ a) (a1 : a ≤ 9223372036854775807) (b0 : -9223372036854775808 ≤ b) (b1 : b ≤ 9223372036854775807) : 0 ≤ ab a * ab b ∧ ab a * ab b ≤ 85070591730234615865843651857942052864 := by
  obtain ⟨s0, s1⟩ := ab_rng' a a0 a1
  obtain ⟨s2, s3⟩ := ab_rng' b b0 b1
  have h1 := Int.mul_nonneg s0 s2
  have h2 := Int.mul_le_mul s1 s3 s2 (by omega)
  omega
end Go.Proofs.YtcdehbhdloaieaaDoor
/-
  The contract of regattaref02's Sub.
-/
set_option linter.unusedVariables false
set_option linter.unusedSimpArgs false
namespace Go.Proofs.YtcdehbhdloaieaaDoor
open Go.RowKit

theorem Sm.turn {p q V B : Int} (h : Sm p q V B) : Sm q p (-V) B := by
  obtain ⟨h1, h2, h3, h4, h5⟩ := h
  exact ⟨h2, h1, h4, h3, by omega⟩

end Go.Proofs.YtcdehbhdloaieaaDoor
/-
  The contract of regattaref02's Quo.
-/
set_option linter.unusedVariables false
set_option linter.unusedSimpArgs false
namespace Go.Proofs.YtcdehbhdloaieaaDoor
open Go.RowKit

end Go.Proofs.YtcdehbhdloaieaaDoor
/-
  The contract of regattaref02's Root.
-/
set_option linter.unusedVariables false
set_option linter.unusedSimpArgs false
namespace Go.Proofs.YtcdehbhdloaieaaDoor
open Go.RowKit

theorem root_digits (m : Int) (m0 : 0 ≤ m) (m1 : m < 6277101735386680763835789423207666416102355444464034512896) :
    (m < 85070591730234615865843651857942052864 → dg m 4 = 0 ∧ dg m 5 = 0 ∧ dg m 3 < 1073741824) ∧ (85070591730234615865843651857942052864 ≤ m → ¬ dg m 4 = 0 ∨ (dg m 4 = 0 ∧ ¬ dg m 5 = 0) ∨ (dg m 4 = 0 ∧ dg m 5 = 0 ∧ 1073741824 ≤ dg m 3)) := by
  have e3 : dg m 3 = m / 79228162514264337593543950336 % 4294967296 := rfl
  have e4 : dg m 4 = m / 340282366920938463463374607431768211456 % 4294967296 := rfl
  have e5 : dg m 5 = m / 1461501637330902918203684832716283019655932542976 % 4294967296 := rfl
  rw [e3, e4, e5]
  have x1 : m / 340282366920938463463374607431768211456 = m / 79228162514264337593543950336 / 4294967296 := by omega
  have x2 : m / 1461501637330902918203684832716283019655932542976 = m / 79228162514264337593543950336 / 4294967296 / 4294967296 := by omega
  rw [x1, x2]
  have y0 : 0 ≤ m / 79228162514264337593543950336 := by omega
  have y1 : m / 79228162514264337593543950336 < 79228162514264337593543950336 := by omega
  have y2 : m < 85070591730234615865843651857942052864 → m / 79228162514264337593543950336 < 1073741824 := by omega
  have y3 : 85070591730234615865843651857942052864 ≤ m → 1073741824 ≤ m / 79228162514264337593543950336 := by omega
  generalize m / 79228162514264337593543950336 = z at *
  constructor
  · intro h
    have := y2 h
    omega
  · intro h
    have := y3 h
    omega

end Go.Proofs.YtcdehbhdloaieaaDoor
/-
  The contracts of regattaref02's Zero, Ratio, Div, Sqrt.
-/
set_option linter.unusedVariables false
set_option linter.unusedSimpArgs false
namespace Go.Proofs.YtcdehbhdloaieaaDoor
open Go.RowKit


end Go.Proofs.YtcdehbhdloaieaaDoor
