/-
  Trips of four rounds, there and back; walking till one is below a bound; no seat's facts.
-/
import Derived.Test.YtaifihfiompgaaaProg
set_option linter.unusedVariables false
set_option linter.unusedSimpArgs false
namespace Go.Proofs.Ytaifihfiompgaaa

/-- One of two equal among so many that lie below fewer. -/
theorem pigeon (N : Nat) : ∀ f : Nat → Nat, (∀ k, k ≤ N → f k < N) → ∃ a b, a < b ∧ b ≤ N ∧ f a = f b := by
  induction N with
  | zero => intro f h; exact absurd (h 0 (Nat.le_refl _)) (by omega)
  | succ N ih =>
    intro f h
    by_cases hv : ∃ k, k ≤ N ∧ f k = f (N + 1)
    · obtain ⟨k, hk, e⟩ := hv
      exact ⟨k, N + 1, by omega, Nat.le_refl _, e⟩
    · have hne : ∀ k, k ≤ N → f k ≠ f (N + 1) := fun k hk e => hv ⟨k, hk, e⟩
      obtain ⟨a, b, hab, hb, e⟩ := ih (fun k => if f k = N then f (N + 1) else f k) (fun k hk => by
        have h1 := h k (by omega)
        have h2 := h (N + 1) (Nat.le_refl _)
        have h3 := hne k hk
        split
        · omega
        · omega)
      refine ⟨a, b, hab, by omega, ?_⟩
      have n1 := hne a (by omega)
      have n2 := hne b (by omega)
      split at e <;> split at e <;> omega
/-- So many steps. -/
def itr (g : Nat → Nat) : Nat → Nat → Nat
  | 0, x => x
  | m + 1, x => g (itr g m x)
theorem itr_add (g : Nat → Nat) (a b x : Nat) : itr g (a + b) x = itr g a (itr g b x) := by
  induction a with
  | zero => simp [itr]
  | succ a ih => rw [Nat.succ_add]; show g (itr g (a + b) x) = g (itr g a (itr g b x)); rw [ih]
theorem itr_lt (g : Nat → Nat) (N : Nat) (hg : ∀ x, x < N → g x < N) (x : Nat) (hx : x < N) (m : Nat) : itr g m x < N := by
  induction m with
  | zero => exact hx
  | succ m ih => exact hg _ ih
/-- Steps back undo steps. -/
theorem itr_back (g u : Nat → Nat) (N : Nat) (hg : ∀ x, x < N → g x < N) (hu : ∀ x, x < N → u (g x) = x) (x : Nat) (hx : x < N) (m k : Nat) (hk : k ≤ m) : itr u k (itr g m x) = itr g (m - k) x := by
  induction k with
  | zero => simp [itr]
  | succ k ih =>
    show u (itr u k (itr g m x)) = _
    rw [ih (by omega), show m - k = (m - (k + 1)) + 1 by omega]
    exact hu _ (itr_lt g N hg x hx _)
theorem least (P : Nat → Prop) [DecidablePred P] (m : Nat) (h : P m) : ∃ q, P q ∧ q ≤ m ∧ ∀ k, k < q → ¬ P k := by
  induction m using Nat.strongRecOn with
  | _ m ih =>
    by_cases hk : ∃ k, k < m ∧ P k
    · obtain ⟨k, hk, hp⟩ := hk
      obtain ⟨q, h1, h2, h3⟩ := ih k hk hp
      exact ⟨q, h1, by omega, h3⟩
    · exact ⟨m, h, Nat.le_refl _, fun k hk' hp => hk ⟨k, hk', hp⟩⟩
/-- x is where i comes to first below n. -/
def Gets (g : Nat → Nat) (n i x : Nat) : Prop := ∃ m, 1 ≤ m ∧ itr g m i = x ∧ x < n ∧ ∀ k, 1 ≤ k → k < m → n ≤ itr g k i
theorem Gets.one {g : Nat → Nat} {n i x y : Nat} (h : Gets g n i x) (h' : Gets g n i y) : x = y := by
  obtain ⟨m, a1, a2, a3, a4⟩ := h
  obtain ⟨q, b1, b2, b3, b4⟩ := h'
  rcases Nat.lt_trichotomy m q with hl | rfl | hl
  · have := b4 m a1 hl; omega
  · omega
  · have := a4 q b1 hl; omega
theorem Gets.back {g u : Nat → Nat} {n i x N : Nat} (hg : ∀ x, x < N → g x < N) (hu : ∀ x, x < N → u (g x) = x) (hn : n ≤ N) (hi : i < n) (h : Gets g n i x) : Gets u n x i := by
  obtain ⟨m, a1, a2, a3, a4⟩ := h
  subst a2
  refine ⟨m, a1, ?_, hi, fun k k1 k2 => ?_⟩
  · rw [itr_back g u N hg hu i (by omega) m m (Nat.le_refl _), Nat.sub_self]; rfl
  · rw [itr_back g u N hg hu i (by omega) m k (by omega)]
    exact a4 (m - k) (by omega) (by omega)
/-- Each comes below n again, within N steps. -/
theorem gets_all (g u : Nat → Nat) (n N i : Nat) (hg : ∀ x, x < N → g x < N) (hu : ∀ x, x < N → u (g x) = x) (hn : n ≤ N) (hi : i < n) : ∃ m, 1 ≤ m ∧ m ≤ N ∧ itr g m i < n ∧ ∀ k, 1 ≤ k → k < m → n ≤ itr g k i := by
  obtain ⟨a, b, hab, hb, e⟩ := pigeon N (fun k => itr g k i) (fun k _ => itr_lt g N hg i (by omega) k)
  have e2 : itr g (b - a) i = i := by
    have h1 := itr_back g u N hg hu i (by omega) b a (by omega)
    have h2 := itr_back g u N hg hu i (by omega) a a (Nat.le_refl _)
    rw [← h1, ← e, h2, Nat.sub_self]
    rfl
  obtain ⟨q, ⟨q1, q2⟩, q3, q4⟩ := least (fun m => 1 ≤ m ∧ itr g m i < n) (b - a) ⟨by omega, by rw [e2]; exact hi⟩
  exact ⟨q, q1, by omega, q2, fun k k1 k2 => by
    rcases Nat.lt_or_ge (itr g k i) n with h | h
    · exact absurd ⟨k1, h⟩ (q4 k k2)
    · exact h⟩

/-- A round: t's number of r to l. -/
def rnd1 (f : Nat → Nat → Nat) (t : Nat) (p : Nat × Nat) : Nat × Nat := (p.2, p.1 ^^^ f t p.2)
def dnr1 (f : Nat → Nat → Nat) (t : Nat) (p : Nat × Nat) : Nat × Nat := (p.2 ^^^ f t p.1, p.1)
theorem dnr_rnd (f : Nat → Nat → Nat) (t : Nat) (p : Nat × Nat) : dnr1 f t (rnd1 f t p) = p := by
  unfold dnr1 rnd1
  simp [Nat.xor_assoc, Nat.xor_self]
theorem rnd_dnr (f : Nat → Nat → Nat) (t : Nat) (p : Nat × Nat) : rnd1 f t (dnr1 f t p) = p := by
  unfold dnr1 rnd1
  simp [Nat.xor_assoc, Nat.xor_self]
/-- So many rounds, from 0 on. -/
def rnds (f : Nat → Nat → Nat) : Nat → Nat × Nat → Nat × Nat
  | 0, p => p
  | t + 1, p => rnd1 f t (rnds f t p)
/-- So many rounds back, down to 0. -/
def dnrs (f : Nat → Nat → Nat) : Nat → Nat × Nat → Nat × Nat
  | 0, p => p
  | t + 1, p => dnrs f t (dnr1 f t p)
theorem dnrs_rnds (f : Nat → Nat → Nat) (t : Nat) (p : Nat × Nat) : dnrs f t (rnds f t p) = p := by
  induction t with
  | zero => rfl
  | succ t ih => show dnrs f t (dnr1 f t (rnd1 f t (rnds f t p))) = p; rw [dnr_rnd, ih]
theorem rnds_dnrs (f : Nat → Nat → Nat) (t : Nat) (p : Nat × Nat) : rnds f t (dnrs f t p) = p := by
  induction t generalizing p with
  | zero => rfl
  | succ t ih => show rnd1 f t (rnds f t (dnrs f t (dnr1 f t p))) = p; rw [ih, rnd_dnr]
theorem rnds_lt (f : Nat → Nat → Nat) (b : Nat) (hf : ∀ t r, f t r < 2 ^ b) (t : Nat) (p : Nat × Nat) (h : p.1 < 2 ^ b ∧ p.2 < 2 ^ b) : (rnds f t p).1 < 2 ^ b ∧ (rnds f t p).2 < 2 ^ b := by
  induction t with
  | zero => exact h
  | succ t ih => exact ⟨ih.2, Nat.xor_lt_two_pow ih.1 (hf _ _)⟩
theorem dnrs_lt (f : Nat → Nat → Nat) (b : Nat) (hf : ∀ t r, f t r < 2 ^ b) (t : Nat) (p : Nat × Nat) (h : p.1 < 2 ^ b ∧ p.2 < 2 ^ b) : (dnrs f t p).1 < 2 ^ b ∧ (dnrs f t p).2 < 2 ^ b := by
  induction t generalizing p with
  | zero => exact h
  | succ t ih => exact ih _ ⟨Nat.xor_lt_two_pow h.2 (hf _ _), h.1⟩
/-- A trip, and one back. -/
def trp (f : Nat → Nat → Nat) (S x : Nat) : Nat := (rnds f 4 (x / S, x % S)).1 * S + (rnds f 4 (x / S, x % S)).2
def prt (f : Nat → Nat → Nat) (S x : Nat) : Nat := (dnrs f 4 (x / S, x % S)).1 * S + (dnrs f 4 (x / S, x % S)).2
theorem joined (S : Nat) (p : Nat × Nat) (h : p.2 < S) : ((p.1 * S + p.2) / S, (p.1 * S + p.2) % S) = p := by
  have h1 : (p.1 * S + p.2) / S = p.1 := by
    rw [Nat.mul_comm, Nat.mul_add_div (by omega), Nat.div_eq_of_lt h, Nat.add_zero]
  have h2 : (p.1 * S + p.2) % S = p.2 := by rw [Nat.mul_comm, Nat.mul_add_mod, Nat.mod_eq_of_lt h]
  rw [h1, h2]
theorem parts_lt (b x : Nat) (hx : x < 2 ^ b * 2 ^ b) : x / 2 ^ b < 2 ^ b ∧ x % 2 ^ b < 2 ^ b :=
  ⟨Nat.div_lt_of_lt_mul hx, Nat.mod_lt _ (Nat.two_pow_pos b)⟩
theorem join_lt (S l r : Nat) (hl : l < S) (hr : r < S) : l * S + r < S * S := by
  have := Nat.mul_le_mul_right S (show l + 1 ≤ S by omega)
  rw [Nat.succ_mul] at this
  omega
theorem trp_lt (f : Nat → Nat → Nat) (b : Nat) (hf : ∀ t r, f t r < 2 ^ b) (x : Nat) (hx : x < 2 ^ b * 2 ^ b) : trp f (2 ^ b) x < 2 ^ b * 2 ^ b := by
  obtain ⟨h1, h2⟩ := rnds_lt f b hf 4 (x / 2 ^ b, x % 2 ^ b) (parts_lt b x hx)
  exact join_lt _ _ _ h1 h2
theorem prt_lt (f : Nat → Nat → Nat) (b : Nat) (hf : ∀ t r, f t r < 2 ^ b) (x : Nat) (hx : x < 2 ^ b * 2 ^ b) : prt f (2 ^ b) x < 2 ^ b * 2 ^ b := by
  obtain ⟨h1, h2⟩ := dnrs_lt f b hf 4 (x / 2 ^ b, x % 2 ^ b) (parts_lt b x hx)
  exact join_lt _ _ _ h1 h2
theorem prt_trp (f : Nat → Nat → Nat) (b : Nat) (hf : ∀ t r, f t r < 2 ^ b) (x : Nat) (hx : x < 2 ^ b * 2 ^ b) : prt f (2 ^ b) (trp f (2 ^ b) x) = x := by
  obtain ⟨h1, h2⟩ := rnds_lt f b hf 4 (x / 2 ^ b, x % 2 ^ b) (parts_lt b x hx)
  unfold prt trp
  rw [joined _ _ h2, dnrs_rnds]
  dsimp only
  rw [Nat.mul_comm]
  exact Nat.div_add_mod x (2 ^ b)
theorem trp_prt (f : Nat → Nat → Nat) (b : Nat) (hf : ∀ t r, f t r < 2 ^ b) (x : Nat) (hx : x < 2 ^ b * 2 ^ b) : trp f (2 ^ b) (prt f (2 ^ b) x) = x := by
  obtain ⟨h1, h2⟩ := dnrs_lt f b hf 4 (x / 2 ^ b, x % 2 ^ b) (parts_lt b x hx)
  unfold prt trp
  rw [joined _ _ h2, rnds_dnrs]
  dsimp only
  rw [Nat.mul_comm]
  exact Nat.div_add_mod x (2 ^ b)
end Go.Proofs.Ytaifihfiompgaaa
