/-
  Plain numbers of layer 9: a gradient of nought moves nothing; the first step goes against the gradient.
-/
import Derived.Test.YtcdehbhdloaieaaGreatDoorAMath
import Derived.Test.YtcdehbhdloaieaaGreatDoorMath6
set_option linter.unusedVariables false
namespace Go.Proofs.YtcdehbhdloaieaaGreatDoor

theorem pw_lt9 (b : Int) (b0 : 0 ≤ b) (b1 : b < 4294967296) (t : Nat) : 0 ≤ pwN b (t + 1) ∧ pwN b (t + 1) < 4294967296 := by
  refine ⟨(pwN_in b b0 b1 _).1, ?_⟩
  induction t with
  | zero =>
    show fmV 4294967296 b < 4294967296
    unfold fmV
    rw [Int.mul_comm, rnd_up8, (clv_in _ (by omega) (by omega)).1]
    exact b1
  | succ t ih =>
    have := pwN_fall b b0 b1 (t + 1)
    omega
theorem me_nought9 (b : Int) : meV b 0 0 = 0 := by
  unfold meV
  rw [Int.mul_zero, Int.mul_zero]
  rfl
theorem clv_nought9 : clv 0 = 0 := (clv_in 0 (by omega) (by omega)).1
theorem aQ_nought9 : aQ 0 = 0 := by
  show clv (rnd 0 32) = 0
  rw [show rnd 0 32 = 0 from rfl, clv_nought9]
theorem qv_nought9 (d : Int) (hd : 1 ≤ d) : qv (0 * 4294967296) d = 0 := by
  have h := quo_mul 0 d (by omega)
  rw [Int.zero_mul] at h
  unfold qv
  rw [if_neg (by omega), Int.zero_mul, h, clv_nought9]
theorem sv_nought9 : sv 0 = 0 := by
  have h : sv 0 = rt (0 * 4294967296) := by unfold sv; rw [if_neg (by omega)]
  rw [h]
  obtain ⟨h0, h1, h2, h3⟩ := rt_spec (0 * 4294967296) (by omega) (by omega)
  rcases Int.lt_or_le 0 (rt (0 * 4294967296)) with h4 | h4
  · have := Int.mul_pos h4 h4
    omega
  · omega
/-- From noughts, by a nought, without decay: nothing moves. -/
theorem still9 (k : Stp) (hd : k.dc = 0) (h1 : 1 ≤ k.o1) (h2 : 1 ≤ k.o2) (he : 1 ≤ k.ep) (he1 : k.ep ≤ 9223372036854775807) (p : Int) (p0 : -9223372036854775808 ≤ p) (p1 : p ≤ 9223372036854775807) : aM k 0 0 = 0 ∧ aV k 0 0 = 0 ∧ aY k 0 0 p 0 = p := by
  have eM : aM k 0 0 = 0 := by unfold aM; rw [me_nought9, clv_nought9]
  have eV : aV k 0 0 = 0 := by unfold aV; rw [aQ_nought9, me_nought9, clv_nought9]
  have eA : aA k 0 0 = 0 := by unfold aA; rw [eM, qv_nought9 _ h1]
  have eD : aD k 0 0 = 0 := by unfold aD; rw [eV, qv_nought9 _ h2]
  have eB : aB k 0 0 = 0 := by unfold aB; rw [eD, sv_nought9]
  have eE : aE k 0 0 = k.ep := by unfold aE; rw [eB, Int.zero_add, (clv_in _ (by omega) he1).1]
  have eF : aF k 0 0 0 = 0 := by unfold aF; rw [eA, eE, qv_nought9 _ he]
  have eG : aG k p = 0 := by unfold aG; rw [hd, Int.zero_mul, show rnd 0 32 = 0 from rfl, clv_nought9]
  have eW : aW k 0 0 p 0 = 0 := by unfold aW; rw [eF, eG, Int.zero_add, clv_nought9]
  have eR : aR k 0 0 p 0 = 0 := by unfold aR; rw [eW, Int.mul_zero, show rnd 0 32 = 0 from rfl, clv_nought9]
  refine ⟨eM, eV, ?_⟩
  unfold aY
  rw [eR, Int.sub_zero, (clv_in _ p0 p1).1]
theorem dot_nought9 (n : Nat) : dotV (fun _ => 0) (fun _ => 0) n = 0 := by
  induction n with
  | zero => rfl
  | succ n ih => show dotV (fun _ => 0) (fun _ => 0) n + 0 * 0 = 0; rw [ih]; rfl
theorem clip_nought9 (cl : Int) (n : Nat) : cpF cl n (fun _ => 0) = fun _ => 0 := by
  funext i
  unfold cpF
  split
  · rw [Int.mul_zero, show rnd 0 32 = 0 from rfl, clv_nought9]
  · rfl
theorem rnd_near9 (v : Int) : v - 2147483648 ≤ rnd v 32 * 4294967296 ∧ rnd v 32 * 4294967296 ≤ v + 2147483648 := by
  have e1 : (2 : Int) ^ 32 = 4294967296 := rfl
  have e2 : (2 : Int) ^ (32 - 1) = 2147483648 := rfl
  unfold rnd
  rw [e1, e2]
  rcases (show v % 4294967296 < 2147483648 ∨ v % 4294967296 = 2147483648 ∨ 2147483648 < v % 4294967296 by omega) with h | h | h
  · have g1 : ∀ l, ¬ gu (-1) l = true := by intro l; unfold gu; simp
    rw [c3_lt _ _ h, if_neg (g1 _)]
    omega
  · split <;> omega
  · have g2 : ∀ l, gu 1 l = true := by intro l; unfold gu; simp
    rw [c3_gt _ _ h, if_pos (g2 _)]
    omega
theorem sq_root9 (a s r : Int) (a0 : 4294967296 ≤ a) (hs0 : a * a - 2147483648 ≤ s) (hs1 : s ≤ a * a + 2147483648) (r0 : 0 ≤ r) (h0 : r * r ≤ s) (h1 : s < (r + 1) * (r + 1)) : a - 1 ≤ r ∧ r ≤ a := by
  constructor
  · by_cases h : a - 1 ≤ r
    · exact h
    · exfalso
      have h2 := Int.mul_le_mul (show r + 1 ≤ a - 1 by omega) (show r + 1 ≤ a - 1 by omega) (show 0 ≤ r + 1 by omega) (by omega)
      rw [Int.sub_mul, Int.mul_sub, Int.mul_one, Int.one_mul] at h2
      omega
  · by_cases h : r ≤ a
    · exact h
    · exfalso
      have h2 := Int.mul_le_mul (show a + 1 ≤ r by omega) (show a + 1 ≤ r by omega) (by omega) (by omega)
      rw [Int.add_mul, Int.mul_add, Int.mul_one, Int.one_mul] at h2
      omega
/-- The quotient that the first step takes. -/
theorem far_quo9 (G D f : Int) (hG : 4294967296 ≤ G) (h0 : G ≤ D) (h1 : D ≤ G + 1) (hn : 2 * ab (G * 4294967296 - f * D) ≤ D) : 4294967295 ≤ f ∧ f ≤ 4294967296 := by
  have ha : G * 4294967296 - f * D ≤ ab (G * 4294967296 - f * D) ∧ -(G * 4294967296 - f * D) ≤ ab (G * 4294967296 - f * D) := by unfold ab; split <;> omega
  constructor
  · by_cases h : 4294967295 ≤ f
    · exact h
    · exfalso
      have h2 := Int.mul_le_mul_of_nonneg_right (show f ≤ 4294967294 by omega) (show 0 ≤ D by omega)
      omega
  · by_cases h : f ≤ 4294967296
    · exact h
    · exfalso
      have h2 := Int.mul_le_mul_of_nonneg_right (show 4294967297 ≤ f by omega) (show 0 ≤ D by omega)
      omega
/-- The first step's settings, where nothing but the rate is set. -/
def stp1 (rate : Int) : Stp := ⟨0, 0, 1, 0, rate, 4294967296, 4294967296⟩
theorem first_m9 (g : Int) : meV 0 0 g = g := by
  unfold meV
  rw [Int.mul_zero, Int.zero_add, Int.sub_zero, Int.mul_comm, rnd_up8]
theorem qv_one9 (g : Int) (g0 : -9223372036854775808 ≤ g) (g1 : g ≤ 9223372036854775807) : qv (g * 4294967296) 4294967296 = g := by
  unfold qv
  rw [if_neg (by omega), quo_mul g 4294967296 (by omega), (clv_in _ g0 g1).1]
theorem signs9 (rate g G : Int) (r0 : 1 ≤ rate) (r1 : rate ≤ 4294967296) (G0 : 4294967296 ≤ G) (G1 : G ≤ 4294967296000) (hg : g = G ∨ g = -G) :
    (g = G → -rate ≤ aY (stp1 rate) 0 0 0 g ∧ aY (stp1 rate) 0 0 0 g ≤ 1 - rate) ∧ (g = -G → rate - 1 ≤ aY (stp1 rate) 0 0 0 g ∧ aY (stp1 rate) 0 0 0 g ≤ rate) := by
  have hgg : g * g = G * G := by
    rcases hg with h | h
    · rw [h]
    · rw [h, Int.neg_mul_neg]
  have hb := Int.mul_le_mul G1 G1 (by omega) (by omega)
  have hb0 := Int.mul_le_mul G0 G0 (by omega) (by omega)
  have eM : aM (stp1 rate) 0 g = g := by
    unfold aM
    rw [show meV (stp1 rate).b1 0 g = g from first_m9 g, (clv_in _ (by omega) (by omega)).1]
  have hn := rnd_near9 (G * G)
  have eQ : aQ g = rnd (G * G) 32 := by
    unfold aQ
    rw [hgg, (clv_in _ (by omega) (by omega)).1]
  generalize hq : rnd (G * G) 32 = q at *
  have eV : aV (stp1 rate) 0 g = q := by
    unfold aV
    rw [eQ, show meV (stp1 rate).b2 0 q = q from first_m9 q, (clv_in _ (by omega) (by omega)).1]
  have eA : aA (stp1 rate) 0 g = g := by
    unfold aA
    rw [eM]
    exact qv_one9 g (by omega) (by omega)
  have eD : aD (stp1 rate) 0 g = q := by
    unfold aD
    rw [eV]
    exact qv_one9 q (by omega) (by omega)
  have eB : aB (stp1 rate) 0 g = rt (q * 4294967296) := by
    unfold aB
    rw [eD]
    unfold sv
    rw [if_neg (by omega)]
  obtain ⟨b0, b1, b2, b3⟩ := rt_spec (q * 4294967296) (by omega) (by omega)
  obtain ⟨c0, c1⟩ := sq_root9 G (q * 4294967296) (rt (q * 4294967296)) G0 (by omega) (by omega) b0 b2 b3
  generalize rt (q * 4294967296) = b at *
  have eE : aE (stp1 rate) 0 g = b + 1 := by
    unfold aE
    rw [eB]
    exact (clv_in (b + 1) (by omega) (by omega)).1
  have eF0 : aF (stp1 rate) 0 0 g = qv (g * 4294967296) (b + 1) := by unfold aF; rw [eA, eE]
  have hq2 := (quo_near (g * 4294967296) (b + 1) (by omega)).1
  have hab : ab (b + 1) = b + 1 := ab_pos _ (by omega)
  rw [hab] at hq2
  have hf : (g = G → 4294967295 ≤ quo (g * 4294967296) (b + 1) ∧ quo (g * 4294967296) (b + 1) ≤ 4294967296) ∧ (g = -G → -4294967296 ≤ quo (g * 4294967296) (b + 1) ∧ quo (g * 4294967296) (b + 1) ≤ -4294967295) := by
    generalize quo (g * 4294967296) (b + 1) = f at *
    constructor
    · rintro rfl
      exact far_quo9 g (b + 1) f G0 (by omega) (by omega) hq2
    · rintro rfl
      have h := far_quo9 G (b + 1) (-f) G0 (by omega) (by omega) (by
        have e : G * 4294967296 - -f * (b + 1) = -(-G * 4294967296 - f * (b + 1)) := by rw [Int.neg_mul, Int.neg_mul]; omega
        rw [e]
        have e2 : ∀ x : Int, ab (-x) = ab x := fun x => by unfold ab; split <;> split <;> omega
        rw [e2]
        exact hq2)
      omega
  have hfr : -9223372036854775808 ≤ quo (g * 4294967296) (b + 1) ∧ quo (g * 4294967296) (b + 1) ≤ 9223372036854775807 := by
    rcases hg with h | h
    · have := hf.1 h; omega
    · have := hf.2 h; omega
  have eF : aF (stp1 rate) 0 0 g = quo (g * 4294967296) (b + 1) := by
    rw [eF0]
    unfold qv
    rw [if_neg (by omega), (clv_in _ hfr.1 hfr.2).1]
  have eG : aG (stp1 rate) 0 = 0 := by
    unfold aG
    rw [show (stp1 rate).dc * 0 = 0 from Int.mul_zero _, show rnd 0 32 = 0 from rfl, clv_nought9]
  generalize quo (g * 4294967296) (b + 1) = f at *
  have eW : aW (stp1 rate) 0 0 0 g = f := by unfold aW; rw [eF, eG, Int.add_zero, (clv_in _ hfr.1 hfr.2).1]
  have hr : (g = G → rate - 1 ≤ rnd (rate * f) 32 ∧ rnd (rate * f) 32 ≤ rate) ∧ (g = -G → -rate ≤ rnd (rate * f) 32 ∧ rnd (rate * f) 32 ≤ 1 - rate) := by
    constructor
    · intro h
      obtain ⟨f0, f1⟩ := hf.1 h
      have m0 := Int.mul_le_mul_of_nonneg_left f0 (show 0 ≤ rate by omega)
      have m1 := Int.mul_le_mul_of_nonneg_left f1 (show 0 ≤ rate by omega)
      have k0 := rnd_rise8 ((rate - 1) * 4294967296) (rate * f) (by omega)
      have k1 := rnd_rise8 (rate * f) (rate * 4294967296) (by omega)
      rw [rnd_up8] at k0 k1
      exact ⟨k0, k1⟩
    · intro h
      obtain ⟨f0, f1⟩ := hf.2 h
      have m0 := Int.mul_le_mul_of_nonneg_left f0 (show 0 ≤ rate by omega)
      have m1 := Int.mul_le_mul_of_nonneg_left f1 (show 0 ≤ rate by omega)
      have k0 := rnd_rise8 ((-rate) * 4294967296) (rate * f) (by omega)
      have k1 := rnd_rise8 (rate * f) ((1 - rate) * 4294967296) (by omega)
      rw [rnd_up8] at k0 k1
      exact ⟨k0, k1⟩
  have eR : aR (stp1 rate) 0 0 0 g = rnd (rate * f) 32 := by
    unfold aR
    rw [eW]
    refine (clv_in _ ?_ ?_).1
    · rcases hg with h | h
      · have := hr.1 h; show _ ≤ rnd (rate * f) 32; omega
      · have := hr.2 h; show _ ≤ rnd (rate * f) 32; omega
    · rcases hg with h | h
      · have := hr.1 h; show rnd (rate * f) 32 ≤ _; omega
      · have := hr.2 h; show rnd (rate * f) 32 ≤ _; omega
  have eY : aY (stp1 rate) 0 0 0 g = -rnd (rate * f) 32 := by
    unfold aY
    rw [eR, Int.zero_sub]
    refine (clv_in _ ?_ ?_).1
    · rcases hg with h | h
      · have := hr.1 h; omega
      · have := hr.2 h; omega
    · rcases hg with h | h
      · have := hr.1 h; omega
      · have := hr.2 h; omega
  rw [eY]
  exact ⟨fun h => by have := hr.1 h; omega, fun h => by have := hr.2 h; omega⟩
end Go.Proofs.YtcdehbhdloaieaaGreatDoor
