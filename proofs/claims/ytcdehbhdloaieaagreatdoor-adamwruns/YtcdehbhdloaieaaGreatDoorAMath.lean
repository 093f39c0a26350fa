/-
  Plain numbers of layer 9: one parameter's way in a step.
-/
import Derived.Test.YtcdehbhdloaieaaGreatDoorQMath
import Derived.Test.YtcdehbhdloaieaaGreatDoorBI
set_option linter.unusedVariables false
namespace Go.Proofs.YtcdehbhdloaieaaGreatDoor

/-- What goes into a step beside the parameter's own numbers: the two betas, eps, decay, the rate, and what the powers lack. -/
structure Stp where
  b1 : Int
  b2 : Int
  ep : Int
  dc : Int
  r : Int
  o1 : Int
  o2 : Int
/-- A running mean, exact, then rounded. -/
def meV (b old now : Int) : Int := rnd (b * old + (4294967296 - b) * now) 32
def aM (k : Stp) (M g : Int) : Int := clv (meV k.b1 M g)
def aQ (g : Int) : Int := clv (rnd (g * g) 32)
def aV (k : Stp) (V g : Int) : Int := clv (meV k.b2 V (aQ g))
def aA (k : Stp) (M g : Int) : Int := qv (aM k M g * 4294967296) k.o1
def aD (k : Stp) (V g : Int) : Int := qv (aV k V g * 4294967296) k.o2
def aB (k : Stp) (V g : Int) : Int := sv (aD k V g)
def aE (k : Stp) (V g : Int) : Int := clv (aB k V g + k.ep)
def aF (k : Stp) (M V g : Int) : Int := qv (aA k M g * 4294967296) (aE k V g)
def aG (k : Stp) (p : Int) : Int := clv (rnd (k.dc * p) 32)
def aW (k : Stp) (M V p g : Int) : Int := clv (aF k M V g + aG k p)
def aR (k : Stp) (M V p g : Int) : Int := clv (rnd (k.r * aW k M V p g) 32)
def aY (k : Stp) (M V p g : Int) : Int := clv (p - aR k M V p g)
/-- How many results are held. -/
def aC (k : Stp) (M V p g : Int) : Int :=
  bi (ovv (meV k.b1 M g)) + bi (ovv (rnd (g * g) 32)) + bi (ovv (meV k.b2 V (aQ g))) + bi (qo (aM k M g * 4294967296) k.o1) + bi (qo (aV k V g * 4294967296) k.o2) + bi (decide (aD k V g < 0)) + bi (ovv (aB k V g + k.ep)) + bi (qo (aA k M g * 4294967296) (aE k V g)) + bi (ovv (rnd (k.dc * p) 32)) + bi (ovv (aF k M V g + aG k p)) + bi (ovv (rnd (k.r * aW k M V p g) 32)) + bi (ovv (p - aR k M V p g))
theorem aC_rng (k : Stp) (M V p g : Int) : 0 ≤ aC k M V p g ∧ aC k M V p g ≤ 12 := by
  unfold aC
  have h1 := bi_rng (ovv (meV k.b1 M g))
  have h2 := bi_rng (ovv (rnd (g * g) 32))
  have h3 := bi_rng (ovv (meV k.b2 V (aQ g)))
  have h4 := bi_rng (qo (aM k M g * 4294967296) k.o1)
  have h5 := bi_rng (qo (aV k V g * 4294967296) k.o2)
  have h6 := bi_rng (decide (aD k V g < 0))
  have h7 := bi_rng (ovv (aB k V g + k.ep))
  have h8 := bi_rng (qo (aA k M g * 4294967296) (aE k V g))
  have h9 := bi_rng (ovv (rnd (k.dc * p) 32))
  have h10 := bi_rng (ovv (aF k M V g + aG k p))
  have h11 := bi_rng (ovv (rnd (k.r * aW k M V p g) 32))
  have h12 := bi_rng (ovv (p - aR k M V p g))
  omega
/-- Of the first parameters together. -/
def aS (k : Stp) (M V p g : Nat → Int) : Nat → Int
  | 0 => 0
  | n + 1 => aS k M V p g n + aC k (M n) (V n) (p n) (g n)
theorem aS_rng (k : Stp) (M V p g : Nat → Int) (n : Nat) : 0 ≤ aS k M V p g n ∧ aS k M V p g n ≤ 12 * (n : Int) := by
  induction n with
  | zero => exact ⟨by show (0 : Int) ≤ 0; omega, by show (0 : Int) ≤ 12 * ((0 : Nat) : Int); omega⟩
  | succ n ih =>
    have h := aC_rng k (M n) (V n) (p n) (g n)
    show 0 ≤ aS k M V p g n + aC k (M n) (V n) (p n) (g n) ∧ aS k M V p g n + aC k (M n) (V n) (p n) (g n) ≤ 12 * ((n + 1 : Nat) : Int)
    omega
theorem qv_in9 (v d : Int) : -9223372036854775808 ≤ qv v d ∧ qv v d ≤ 9223372036854775807 := qv_rng v d
theorem sv_in9 (a : Int) (h : a ≤ 9223372036854775807) : 0 ≤ sv a ∧ sv a ≤ 9223372036854775807 := by
  unfold sv
  split
  · omega
  · obtain ⟨a0, a1, -, -⟩ := rt_spec (a * 4294967296) (by omega) (by omega)
    exact ⟨a0, a1⟩
/-- The settings of the step t. -/
def stpV (B W : Int) (n : Nat) (at' fa : Nat → Int) (b1 b2 ep dc : Int) (t : Int) : Stp := ⟨b1, b2, ep, dc, rtV B W n at' fa t, 4294967296 - pwN b1 t.toNat, 4294967296 - pwN b2 t.toNat⟩
end Go.Proofs.YtcdehbhdloaieaaGreatDoor
