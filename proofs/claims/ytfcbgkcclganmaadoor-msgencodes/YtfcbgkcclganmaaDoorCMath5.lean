/-
  Plain numbers: a step of any width by a table; maps that keep xor; the product of two polynomials.
-/
import Derived.Test.YtfcbgkcclganmaaDoorCMath3
set_option linter.unusedVariables false
namespace Go.Proofs.YtfcbgkcclganmaaDoor

theorem part_eq (k r : Nat) : cZs k r = r / 2 ^ k ^^^ cZs k (r % 2 ^ k) := by
  have hb : r % 2 ^ k < 2 ^ k := Nat.mod_lt _ (Nat.two_pow_pos k)
  have e : r = 2 ^ k * (r / 2 ^ k) ^^^ r % 2 ^ k := by
    rw [← low_xor k (r / 2 ^ k) (r % 2 ^ k) hb]
    exact (Nat.div_add_mod r (2 ^ k)).symm
  have h : cZs k r = cZs k (2 ^ k * (r / 2 ^ k) ^^^ r % 2 ^ k) := congrArg (cZs k) e
  rw [h, cZs_xor, cZs_pow]
/-- A byte's step by a table of 256 sums. -/
theorem byte_eq (r : Nat) : cZs 8 r = r / 256 ^^^ cZs 8 (r % 256) := part_eq 8 r
/-- Two maps that keep xor and agree on the powers of two agree. -/
theorem lin_eq (F G : Nat → Nat) (hF : ∀ a b, F (a ^^^ b) = F a ^^^ F b) (hG : ∀ a b, G (a ^^^ b) = G a ^^^ G b) (n : Nat) (h : ∀ j, j < n → F (2 ^ j) = G (2 ^ j)) : ∀ b, b < 2 ^ n → F b = G b := by
  have z : ∀ K : Nat → Nat, (∀ a b, K (a ^^^ b) = K a ^^^ K b) → K 0 = 0 := fun K hK => by
    have := hK 0 0
    simpa using this
  induction n with
  | zero =>
    intro b hb
    obtain rfl : b = 0 := by simpa using hb
    rw [z F hF, z G hG]
  | succ n ih =>
    intro b hb
    have ih' := ih (fun j hj => h j (by omega))
    have hm : b % 2 ^ n < 2 ^ n := Nat.mod_lt _ (Nat.two_pow_pos n)
    have he : b / 2 ^ n < 2 := Nat.div_lt_of_lt_mul (by rw [Nat.pow_succ] at hb; omega)
    have e : b = b % 2 ^ n ^^^ b / 2 ^ n * 2 ^ n := by
      rw [← top_xor (b % 2 ^ n) (b / 2 ^ n) n hm he]
      have := Nat.div_add_mod b (2 ^ n)
      rw [Nat.mul_comm] at this
      omega
    have t : b / 2 ^ n = 0 ∨ b / 2 ^ n = 1 := by
      generalize b / 2 ^ n = d at he
      omega
    rw [e, hF, hG, ih' _ hm]
    rcases t with q | q
    · rw [q, Nat.zero_mul, z F hF, z G hG]
    · rw [q, Nat.one_mul, h n (by omega)]
/-- The product of two polynomials, its first so many steps: the first's highest bit is 1. -/
def cM (a b : Nat) : Nat → Nat
  | 0 => 0
  | k + 1 => cM a b k ^^^ (if a.testBit (31 - k) = true then cZs k b else 0)
theorem cM_succ (a b k : Nat) : cM a b (k + 1) = cM a b k ^^^ (if a.testBit (31 - k) = true then cZs k b else 0) := rfl
theorem cM_xor1 (a c b k : Nat) : cM (a ^^^ c) b k = cM a b k ^^^ cM c b k := by
  induction k with
  | zero => simp [cM]
  | succ k ih =>
    unfold cM
    rw [ih, Nat.testBit_xor]
    generalize cM a b k = x
    generalize cM c b k = y
    generalize cZs k b = z
    cases a.testBit (31 - k) <;> cases c.testBit (31 - k) <;> simp
    · rw [Nat.xor_assoc]
    · rw [Nat.xor_assoc, Nat.xor_comm y z, ← Nat.xor_assoc]
    · rw [Nat.xor_assoc x z, ← Nat.xor_assoc z y z, Nat.xor_comm z y, Nat.xor_assoc y z z, Nat.xor_self, Nat.xor_zero]
theorem cZs_zero (k : Nat) : cZs k 0 = 0 := by
  have := cZs_xor k 0 0
  simpa using this
theorem cM_xor2 (a b c k : Nat) : cM a (b ^^^ c) k = cM a b k ^^^ cM a c k := by
  induction k with
  | zero => simp [cM]
  | succ k ih =>
    unfold cM
    rw [ih, cZs_xor]
    generalize cM a b k = x
    generalize cM a c k = y
    generalize cZs k b = z
    generalize cZs k c = u
    cases a.testBit (31 - k) <;> simp
    rw [Nat.xor_assoc x y, ← Nat.xor_assoc y z u, Nat.xor_comm y z, Nat.xor_assoc z y u, ← Nat.xor_assoc x z]
theorem cM_lt (a b : Nat) (hb : b < 4294967296) (k : Nat) : cM a b k < 4294967296 := by
  induction k with
  | zero => unfold cM; omega
  | succ k ih =>
    unfold cM
    refine Nat.xor_lt_two_pow (n := 32) ih ?_
    split
    · exact cZs_lt k b hb
    · omega
theorem cM_half (u b k : Nat) (hu : u < 4294967296) (hk : k ≤ 31) : cM (u / 2) b (k + 1) = cZ (cM u b k) := by
  induction k with
  | zero =>
    have e : (u / 2).testBit 31 = false := Nat.testBit_lt_two_pow (by omega)
    simp [cM, e, cZ_zero]
  | succ k ih =>
    have e : (u / 2).testBit (31 - (k + 1)) = u.testBit (31 - k) := by
      rw [← tb_succ, show 31 - (k + 1) + 1 = 31 - k by omega]
    have h1 : cM (u / 2) b (k + 1 + 1) = cM (u / 2) b (k + 1) ^^^ (if (u / 2).testBit (31 - (k + 1)) = true then cZs (k + 1) b else 0) := rfl
    have h2 : cM u b (k + 1) = cM u b k ^^^ (if u.testBit (31 - k) = true then cZs k b else 0) := rfl
    rw [h1, h2, ih (by omega), e, cZ_xor]
    congr 1
    split
    · rw [cZs_succ]
    · rfl
theorem cM_poly (b : Nat) (hb : b < 4294967296) : cM cP b 32 = cZs 32 b :=
  lin_eq (fun b => cM cP b 32) (fun b => cZs 32 b) (fun a c => cM_xor2 cP a c 32) (fun a c => cZs_xor 32 a c) 32 (by decide +kernel) b hb
theorem cM_one (b : Nat) (hb : b < 4294967296) : cM 2147483648 b 32 = b :=
  lin_eq (fun b => cM 2147483648 b 32) (fun b => b) (fun a c => cM_xor2 2147483648 a c 32) (fun a c => rfl) 32 (by decide +kernel) b hb
theorem cM_next (u b : Nat) (hu : u < 4294967296) (hb : b < 4294967296) : cM (cZ u) b 32 = cZ (cM u b 32) := by
  have h1 := cM_succ u b 31
  have h2 := cM_half u b 31 hu (by omega)
  have h3 := cZs_succ 31 b
  rw [Nat.sub_self, tb_zero] at h1
  by_cases e : u % 2 = 1
  · have hz : cZ u = u / 2 ^^^ cP := by unfold cZ; rw [if_pos e]
    rw [if_pos (by simpa using e)] at h1
    rw [hz, cM_xor1, cM_poly b hb, h1, cZ_xor, ← h2, ← h3]
  · have hz : cZ u = u / 2 := by unfold cZ; rw [if_neg e]
    rw [if_neg (by simpa using e), Nat.xor_zero] at h1
    rw [hz, h1, ← h2]
/-- The product with a power of the unknown is so many steps. -/
theorem cM_zs (n b : Nat) (hb : b < 4294967296) : cM (cZs n 2147483648) b 32 = cZs n b := by
  induction n with
  | zero => exact cM_one b hb
  | succ n ih => rw [cZs_succ, cM_next _ b (cZs_lt n _ (by omega)) hb, ih, ← cZs_succ]
theorem cM_powers (i j : Nat) : cM (cZs i 2147483648) (cZs j 2147483648) 32 = cZs (i + j) 2147483648 := by
  rw [cM_zs i _ (cZs_lt j _ (by omega)), Nat.add_comm, cZs_add]
end Go.Proofs.YtfcbgkcclganmaaDoor
