/-
Plain numbers: a step of any width by a table; maps that keep xor; the product of two polynomials.
The program's contracts: More, Of.
The program's snap: numbers in a head, read and written.
-/
import Derived.Test.YtpmmfmlldkdfhaaDoorZ01
import Derived.Test.YtpmmfmlldkdfhaaDoorZ18
import Derived.Test.YtpmmfmlldkdfhaaDoorZ07
import Derived.Test.YtpmmfmlldkdfhaaDoorZ23

set_option linter.unusedVariables false
namespace Go.Proofs.YtpmmfmlldkdfhaaDoor

theorem part_eq (k r : Nat) : cZs k r = r / 2 ^ k ^^^ cZs k (r % 2 ^ k) := by
  have hb : r % 2 ^ k < 2 ^ k := Nat.mod_lt _ (Nat.two_pow_pos k)
  have e : r = 2 ^ k * (r / 2 ^ k) ^^^ r % 2 ^ k := by
    rw [← low_xor k (r / 2 ^ k) (r % 2 ^ k) hb]
    exact (Nat.div_add_mod r (2 ^ k)).symm
  have h : cZs k r = cZs k (2 ^ k * (r / 2 ^ k) ^^^ r % 2 ^ k) := congrArg (cZs k) e
  rw [h, cZs_xor, cZs_pow]
/-- A byte's step by a table of 256 sums. -/
theorem byte_eq (r : Nat) : cZs 8 r = r / 256 ^^^ cZs 8 (r % 256) := part_eq 8 r
/-- Two maps that keep xor and agree on the powers of two agree. -/
theorem lin_eq (F G : Nat → Nat) (hF : ∀ a b, F (a ^^^ b) = F a ^^^ F b) (hG : ∀ a b, G (a ^^^ b) = G a ^^^ G b) (n : Nat) (h : ∀ j, j < n → F (2 ^ j) = G (2 ^ j)) : ∀ b, b < 2 ^ n → F b = G b := by
  have z : ∀ K : Nat → Nat, (∀ a b, K (a ^^^ b) = K a ^^^ K b) → K 0 = 0 := fun K hK => by
    have := hK 0 0
    simpa using this
  induction n with
  | zero =>
    intro b hb
    obtain rfl : b = 0 := by simpa using hb
    rw [z F hF, z G hG]
  | succ n ih =>
    intro b hb
    have ih' := ih (fun j hj => h j (by omega))
    have hm : b % 2 ^ n < 2 ^ n := Nat.mod_lt _ (Nat.two_pow_pos n)
    have he : b / 2 ^ n < 2 := Nat.div_lt_of_lt_mul (by rw [Nat.pow_succ] at hb; omega)
    have e : b = b % 2 ^ n ^^^ b / 2 ^ n * 2 ^ n := by
      rw [← top_xor (b % 2 ^ n) (b / 2 ^ n) n hm he]
      have := Nat.div_add_mod b (2 ^ n)
      rw [Nat.mul_comm] at this
      omega
    have t : b / 2 ^ n = 0 ∨ b / 2 ^ n = 1 := by
      generalize b / 2 ^ n = d at he
      omega
    rw [e, hF, hG, ih' _ hm]
    rcases t with q | q
    · rw [q, Nat.zero_mul, z F hF, z G hG]
    · rw [q, Nat.one_mul, h n (by omega)]
/-- The product of two polynomials, its first so many steps: the first's highest bit is 1. -/
def cM (a b : Nat) : Nat → Nat
  | 0 => 0
  | k + 1 => cM a b k ^^^ (if a.testBit (31 - k) = true then cZs k b else 0)
theorem cM_succ (a b k : Nat) : cM a b (k + 1) = cM a b k ^^^ (if a.testBit (31 - k) = true then cZs k b else 0) := rfl
theorem cM_xor1 (a c b k : Nat) : cM (a ^^^ c) b k = cM a b k ^^^ cM c b k := by
  induction k with
  | zero => simp [cM]
  | succ k ih =>
    unfold cM
    rw [ih, Nat.testBit_xor]
    generalize cM a b k = x
    generalize cM c b k = y
    generalize cZs k b = z
    cases a.testBit (31 - k) <;> cases c.testBit (31 - k) <;> simp
    · rw [Nat.xor_assoc]
    · rw [Nat.xor_assoc, Nat.xor_comm y z, ← Nat.xor_assoc]
    · rw [Nat.xor_assoc x z, ← Nat.xor_assoc z y z, Nat.xor_comm z y, Nat.xor_assoc y z z, Nat.xor_self, Nat.xor_zero]
theorem cZs_zero (k : Nat) : cZs k 0 = 0 := by
  have := cZs_xor k 0 0
  simpa using this
theorem cM_xor2 (a b c k : Nat) : cM a (b ^^^ c) k = cM a b k ^^^ cM a c k := by
  induction k with
  | zero => simp [cM]
  | succ k ih =>
    unfold cM
    rw [ih, cZs_xor]
    generalize cM a b k = x
    generalize cM a c k = y
    generalize cZs k b = z
    generalize cZs k c = u
    cases a.testBit (31 - k) <;> simp
    rw [Nat.xor_assoc x y, ← Nat.xor_assoc y z u, Nat.xor_comm y z, Nat.xor_assoc z y u, ← Nat.xor_assoc x z]
theorem cM_lt (a b : Nat) (hb : b < 4294967296) (k : Nat) : cM a b k < 4294967296 := by
  induction k with
  | zero => unfold cM; omega
  | succ k ih =>
    unfold cM
    refine Nat.xor_lt_two_pow (n := 32) ih ?_
    split
    · exact cZs_lt k b hb
    · omega
theorem cM_half (u b k : Nat) (hu : u < 4294967296) (hk : k ≤ 31) : cM (u / 2) b (k + 1) = cZ (cM u b k) := by
  induction k with
  | zero =>
    have e : (u / 2).testBit 31 = false := Nat.testBit_lt_two_pow (by omega)
    simp [cM, e, cZ_zero]
  | succ k ih =>
    have e : (u / 2).testBit (31 - (k + 1)) = u.testBit (31 - k) := by
      rw [← tb_succ, show 31 - (k + 1) + 1 = 31 - k by omega]
    have h1 : cM (u / 2) b (k + 1 + 1) = cM (u / 2) b (k + 1) ^^^ (if (u / 2).testBit (31 - (k + 1)) = true then cZs (k + 1) b else 0) := rfl
    have h2 : cM u b (k + 1) = cM u b k ^^^ (if u.testBit (31 - k) = true then cZs k b else 0) := rfl
    rw [h1, h2, ih (by omega), e, cZ_xor]
    congr 1
    split
    · rw [cZs_succ]
    · rfl
theorem cM_poly (b : Nat) (hb : b < 4294967296) : cM cP b 32 = cZs 32 b :=
  lin_eq (fun b => cM cP b 32) (fun b => cZs 32 b) (fun a c => cM_xor2 cP a c 32) (fun a c => cZs_xor 32 a c) 32 (by decide +kernel) b hb
theorem cM_one (b : Nat) (hb : b < 4294967296) : cM 2147483648 b 32 = b :=
  lin_eq (fun b => cM 2147483648 b 32) (fun b => b) (fun a c => cM_xor2 2147483648 a c 32) (fun a c => rfl) 32 (by decide +kernel) b hb
theorem cM_next (u b : Nat) (hu : u < 4294967296) (hb : b < 4294967296) : cM (cZ u) b 32 = cZ (cM u b 32) := by
  have h1 := cM_succ u b 31
  have h2 := cM_half u b 31 hu (by omega)
  have h3 := cZs_succ 31 b
  rw [Nat.sub_self, tb_zero] at h1
  by_cases e : u % 2 = 1
  · have hz : cZ u = u / 2 ^^^ cP := by unfold cZ; rw [if_pos e]
    rw [if_pos (by simpa using e)] at h1
    rw [hz, cM_xor1, cM_poly b hb, h1, cZ_xor, ← h2, ← h3]
  · have hz : cZ u = u / 2 := by unfold cZ; rw [if_neg e]
    rw [if_neg (by simpa using e), Nat.xor_zero] at h1
    rw [hz, h1, ← h2]
/-- The product with a power of the unknown is so many steps. -/
theorem cM_zs (n b : Nat) (hb : b < 4294967296) : cM (cZs n 2147483648) b 32 = cZs n b := by
  induction n with
  | zero => exact cM_one b hb
  | succ n ih => rw [cZs_succ, cM_next _ b (cZs_lt n _ (by omega)) hb, ih, ← cZs_succ]
theorem cM_powers (i j : Nat) : cM (cZs i 2147483648) (cZs j 2147483648) 32 = cZs (i + j) 2147483648 := by
  rw [cM_zs i _ (cZs_lt j _ (by omega)), Nat.add_comm, cZs_add]
end Go.Proofs.YtpmmfmlldkdfhaaDoor
set_option linter.unusedVariables false
set_option linter.unusedSimpArgs false
namespace Go.Proofs.YtpmmfmlldkdfhaaDoor
open Go.RowKit

/-- A half byte's step, as its operations reckon it. -/
theorem half_facts (r : Nat) (hr : r < 4294967296) (w : World) (hT : TbAt w) : ∃ q d z : Nat, q < 16 ∧ bits .and .u32 (r : Int) 15 = (q : Int) ∧ (r : Int) / 16 = (d : Int) ∧ w.cell? ⟨0, q, none⟩ = some (.int .u32 (z : Int)) ∧ bits .xor .u32 (d : Int) (z : Int) = ((cZs 4 r : Nat) : Int) := by
  refine ⟨r % 16, r / 16, cZs 4 (r % 16), by omega, ?_, by omega, hT _ (by omega), ?_⟩
  · have h := and32 r 15 hr (by omega)
    rw [show r &&& 15 = r % 16 from Nat.and_two_pow_sub_one_eq_mod r 4] at h
    exact h
  · rw [xor32 _ _ (by omega) (cZs_lt 4 _ (by omega)), half_eq r]
set_option maxRecDepth 100000 in
set_option maxHeartbeats 4000000 in
theorem more11 (s : Nat) (v : Value) (n : Nat) (f : Nat → Nat) (w : World) (hs : s < 4294967296) (hn : n ≤ 100000) (hf : ∀ k, f k < 256) (hT : TbAt w) (hl : Ls w v n (by8 f)) :
    Calls Tryd.prog 65 #[.int .u32 (s : Int), v] w fun e w' => e = .returned (.int .u32 ((4294967295 - cR (cBt f) (4294967295 - s) (8 * n) : Nat) : Int)) ∧ Below w.heap.size w w' := by
  obtain ⟨ad, cap, rfl, l1, l2⟩ := hl.len
  unfold maxLen at l2
  have HL : Hid (Ls w (.slice ad n cap) n (by8 f)) := hl
  have CH : Hid (∀ r : Nat, r < 4294967296 → ∃ q d z : Nat, q < 16 ∧ bits .and .u32 (r : Int) 15 = (q : Int) ∧ (r : Int) / 16 = (d : Int) ∧ w.cell? ⟨0, q, none⟩ = some (.int .u32 (z : Int)) ∧ bits .xor .u32 (d : Int) (z : Int) = ((cZs 4 r : Nat) : Int)) := fun r hr => half_facts r hr w hT
  have hnot := not32 s hs
  obtain ⟨r0, hr0⟩ : ∃ r0, 4294967295 - s = r0 := ⟨_, rfl⟩
  have hrt := cR_lt (cBt f) r0 (by omega) (cBt_lt f)
  rw [hr0] at hnot ⊢
  clear hl hT hr0
  go_enter Tryd.func65, Tryd.ntmps65
  go_upto_region 3 with fail
  go_loopw [5, 12] (fun s5 s12 wr => ∃ j : Nat, j ≤ n ∧ s12 = .int .i64 (j : Int) ∧ s5 = .int .u32 ((cR (cBt f) r0 (8 * j) : Nat) : Int) ∧ wr = w) (fun _ s12 _ => n - (intOf s12).toNat)
  case atStart => exact ⟨0, by omega, rfl, by first | rfl | (rw [← hnot]; rfl), rfl⟩
  case round =>
    obtain ⟨j, hj, rfl, rfl, rfl⟩ := hrel
    have hr := hrt (8 * j)
    by_cases hlt : j < n
    · have hjI : (j : Int) < (n : Int) := by omega
      obtain ⟨b, o, cp, e1, hc⟩ := HL.out.spot j hlt
      cases e1
      unfold by8 at hc
      have hfj := hf j
      have HS : Hid (cR (cBt f) r0 (8 * (j + 1)) = cZs 4 (cZs 4 (cR (cBt f) r0 (8 * j) ^^^ f j))) := by
        show _ = _
        rw [cR_byte f r0 j hfj, ← cZs_add]
      have hw : IntKind.u32.wrap ((f j : Nat) : Int) = ((f j : Nat) : Int) := by rw [IntKind.wrap_u32]; omega
      have hx := xor32 (cR (cBt f) r0 (8 * j)) (f j) hr (by omega)
      have hy : cR (cBt f) r0 (8 * j) ^^^ f j < 4294967296 := Nat.xor_lt_two_pow (n := 32) hr (by omega)
      have hy2 := cZs_lt 4 _ hy
      obtain ⟨q1, d1, z1, a1, a2, a3, a4, a5⟩ := CH.out _ hy
      obtain ⟨q2, d2, z2, b1, b2, b3, b4, b5⟩ := CH.out _ hy2
      have a1I : (q1 : Int) < 16 := by omega
      have b1I : (q2 : Int) < 16 := by omega
      generalize cR (cBt f) r0 (8 * j) = r at *
      generalize f j = x at *
      generalize r ^^^ x = y at *
      generalize cZs 4 y = y2 at *
      generalize cZs 4 y2 = y3 at *
      clear hrt CH
      go_wp2
      go_roundw
      case rel => exact ⟨j + 1, by omega, by go_num, by rw [HS.out], trivial⟩
      case measure => simp [intOf]; omega
    · obtain rfl : j = n := by omega
      have hjI : ¬ (j : Int) < (j : Int) := by omega
      have hnot2 := not32 (cR (cBt f) r0 (8 * j)) hr
      go_wp2
      go_ret
      exact ⟨by first | rfl | rw [← hnot2], Below.refl _ _⟩
theorem cF_zero (ns : Nat → Nat) (fs : Nat → Nat → Nat) (r : Nat) : cF ns fs r 0 = r := rfl
theorem cF_succ (ns : Nat → Nat) (fs : Nat → Nat → Nat) (r j : Nat) : cF ns fs r (j + 1) = cR (cBt (fs j)) (cF ns fs r j) (8 * ns j) := rfl
set_option maxRecDepth 100000 in
set_option maxHeartbeats 4000000 in
theorem of11 (v : Value) (K : Nat) (ns : Nat → Nat) (fs : Nat → Nat → Nat) (w : World) (hK : K ≤ 1000) (hn : ∀ j, ns j ≤ 100000) (hf : ∀ j k, fs j k < 256) (hT : TbAt w) (hl : Lb w v K ns fs) :
    Calls Tryd.prog 59 #[v] w fun e w' => e = .returned (.int .u32 ((4294967295 - cF ns fs 4294967295 K : Nat) : Int)) ∧ Below w.heap.size w w' := by
  obtain ⟨ad, cap, rfl, l1, l2⟩ := hl.len
  unfold maxLen at l2
  have HL : Hid (Lb w (.slice ad K cap) K ns fs) := hl
  have CM : Hid (∀ (W : World) (s j : Nat) (u : Value), Below w.heap.size w W → s < 4294967296 → Ls w u (ns j) (by8 (fs j)) → Calls Tryd.prog 65 #[.int .u32 (s : Int), u] W fun e w' => e = .returned (.int .u32 ((4294967295 - cR (cBt (fs j)) (4294967295 - s) (8 * ns j) : Nat) : Int)) ∧ Below W.heap.size W w') := fun W s j u hb h1 h2 => more11 s u (ns j) (fs j) W h1 (hn j) (hf j) (hT.later hb) (h2.later hb)
  have hlt := cF_lt ns fs 4294967295 (by omega)
  clear hl hT
  go_enter Tryd.func59, Tryd.ntmps59
  go_upto_region 3 with fail
  go_loopw [3, 8] (fun s3 s8 wr => ∃ j : Nat, j ≤ K ∧ s8 = .int .i64 (j : Int) ∧ s3 = .int .u32 ((4294967295 - cF ns fs 4294967295 j : Nat) : Int) ∧ Hid (Below w.heap.size w wr)) (fun _ s8 _ => K - (intOf s8).toNat)
  case atStart => exact ⟨0, by omega, rfl, by rw [cF_zero, Nat.sub_self]; rfl, Below.refl _ _⟩
  case round =>
    obtain ⟨j, hj, rfl, rfl, HB⟩ := hrel
    have hr := hlt j
    by_cases hjK : j < K
    · have hjI : (j : Int) < (K : Int) := by omega
      obtain ⟨b, o, cp, ad2, ca2, e1, hc, hls⟩ := HL.out.spot j hjK
      cases e1
      have hc2 := cell_later HB.out hc
      have C1 := CM.out wr (4294967295 - cF ns fs 4294967295 j) j _ HB.out (by omega) hls
      rw [show 4294967295 - (4294967295 - cF ns fs 4294967295 j) = cF ns fs 4294967295 j by omega] at C1
      have HS : Hid (cF ns fs 4294967295 (j + 1) = cR (cBt (fs j)) (cF ns fs 4294967295 j) (8 * ns j)) := cF_succ ns fs _ j
      clear hc hls CM
      generalize cF ns fs 4294967295 j = r at *
      go_wp2_with fail
      refine C1.mono ?_
      rintro e w1 ⟨rfl, hb⟩
      have HB1 : Hid (Below w.heap.size w w1) := bchain HB.out hb
      clear hb C1
      go_wp2
      go_roundw
      case rel => exact ⟨j + 1, by omega, by go_num, by rw [HS.out], HB1⟩
      case measure => simp [intOf]; omega
    · obtain rfl : j = K := by omega
      have hjI : ¬ (j : Int) < (j : Int) := by omega
      go_wp2
      go_ret
      exact ⟨rfl, HB.out⟩
end Go.Proofs.YtpmmfmlldkdfhaaDoor
set_option linter.unusedVariables false
set_option linter.unusedSimpArgs false
namespace Go.Proofs.YtpmmfmlldkdfhaaDoor
open Go.RowKit

theorem bn64q (a : Nat) (ha : a < 18446744073709551616) : (BitVec.ofInt 64 (a : Int)).toNat = a := by
  rw [BitVec.ofInt_natCast, BitVec.toNat_ofNat]; exact Nat.mod_eq_of_lt (by omega)
theorem or64q (a b : Nat) (ha : a < 18446744073709551616) (hb : b < 18446744073709551616) : bits .or .u64 (a : Int) (b : Int) = ((a ||| b : Nat) : Int) := by
  have hx : a ||| b < 2 ^ 64 := Nat.or_lt_two_pow (by omega) (by omega)
  show IntKind.u64.wrap ((BitVec.ofInt 64 (a : Int) ||| BitVec.ofInt 64 (b : Int)).toNat : Int) = _
  rw [BitVec.toNat_or, bn64q a ha, bn64q b hb, IntKind.wrap_u64]
  omega
theorem or_plusq {a k : Nat} (h : a < 2 ^ k) (x : Nat) : a ||| x * 2 ^ k = a + x * 2 ^ k := by
  rw [Nat.or_comm, Nat.mul_comm x, ← Nat.two_pow_add_eq_or_of_lt h, Nat.add_comm]
theorem pow8 (j : Nat) : (256 : Nat) ^ j = 2 ^ (8 * j) := by rw [show (256 : Nat) = 2 ^ 8 by rfl, ← Nat.pow_mul]
theorem deN_snoc : ∀ (l : List Nat) (x : Nat), deN (l ++ [x]) = deN l + x * 256 ^ l.length := by
  intro l
  induction l with
  | nil => intro x; simp [deN]
  | cons c l ih =>
    intro x
    show c + 256 * deN (l ++ [x]) = c + 256 * deN l + x * 256 ^ (l.length + 1)
    rw [ih, Nat.mul_add, Nat.pow_succ, ← Nat.add_assoc, Nat.mul_comm (256 ^ l.length) 256, Nat.mul_left_comm]
theorem enN_snoc : ∀ (j n : Nat), enN n (j + 1) = enN n j ++ [n / 256 ^ j % 256] := by
  intro j
  induction j with
  | zero => intro n; simp [enN]
  | succ j ih =>
    intro n
    show n % 256 :: enN (n / 256) (j + 1) = n % 256 :: (enN (n / 256) j ++ [n / 256 ^ (j + 1) % 256])
    rw [ih, Nat.div_div_eq_div_mul, Nat.pow_succ, Nat.mul_comm 256]
/-- One byte more of a number. -/
theorem gt_succ (h : List Nat) (p j : Nat) (hl : p + j < h.length) : gt h p (j + 1) = gt h p j + h.getD (p + j) 0 * 2 ^ (8 * j) := by
  unfold gt
  have e : (h.drop p).take (j + 1) = (h.drop p).take j ++ [h.getD (p + j) 0] := by
    rw [List.take_add_one, List.getElem?_drop]
    simp [List.getD, hl]
  rw [e, deN_snoc, pow8, List.length_take, List.length_drop, Nat.min_eq_left (by omega)]
theorem gt_lt {h : List Nat} (hh : ∀ c ∈ h, c < 256) (p j : Nat) : gt h p j < 2 ^ (8 * j) := by
  have h1 := deN_lt ((h.drop p).take j) (fun c hc => hh c (List.mem_of_mem_drop (List.mem_of_mem_take hc)))
  refine Nat.lt_of_lt_of_le h1 ?_
  rw [pow8]
  exact Nat.pow_le_pow_right (by omega) (Nat.mul_le_mul_left 8 (by rw [List.length_take]; omega))
/-- A head with a number in it. -/
def ptN (h : List Nat) (p k x : Nat) : List Nat := h.take p ++ (enN x k ++ h.drop (p + k))
theorem ptN_zero (h : List Nat) (p x : Nat) : ptN h p 0 x = h := by
  unfold ptN
  rw [Nat.add_zero]
  show h.take p ++ ([] ++ h.drop p) = h
  rw [List.nil_append, List.take_append_drop]
theorem ptN_len (h : List Nat) (p k x : Nat) (hl : p + k ≤ h.length) : (ptN h p k x).length = h.length := by
  unfold ptN
  rw [List.length_append, List.length_append, List.length_take, List.length_drop, enN_len]
  omega
theorem ptN_succ (h : List Nat) (p k x : Nat) (hl : p + k < h.length) : (ptN h p k x).set (p + k) (x / 2 ^ (8 * k) % 256) = ptN h p (k + 1) x := by
  have e1 : h.drop (p + k) = h.getD (p + k) 0 :: h.drop (p + k + 1) := by
    rw [List.drop_eq_getElem_cons hl]
    simp [List.getD, hl]
  have e2 : (h.take p ++ enN x k).length = p + k := by rw [List.length_append, List.length_take, enN_len]; omega
  unfold ptN
  rw [enN_snoc, e1, pow8, ← List.append_assoc, List.set_append_right _ _ (by omega), e2, Nat.sub_self, List.append_assoc, List.append_assoc]
  rfl
theorem ptN_ok {h : List Nat} (hh : okb h) (p k x : Nat) (hp : p + k ≤ 128) : okb (ptN h p k x) := by
  refine ⟨by rw [ptN_len _ _ _ _ (by rw [hh.1]; omega)]; exact hh.1, fun c hc => ?_⟩
  unfold ptN at hc
  simp only [List.mem_append] at hc
  rcases hc with hc | hc | hc
  · exact hh.2 c (List.mem_of_mem_take hc)
  · exact enN_byte _ _ c hc
  · exact hh.2 c (List.mem_of_mem_drop hc)
theorem zr_ok16 : okb zr15 := ⟨zr_len, fun c hc => by unfold zr15 at hc; rw [(List.mem_replicate.1 hc).2]; omega⟩
/-- What the program writes is a head. -/
def hd0 (n : Nat) (d : List Nat) : List Nat := ptN (ptN (ptN (ptN zr15 0 8 n) 120 8 n) 8 8 d.length) 16 4 (sm d)
theorem hd0_is (n : Nat) (d : List Nat) : hd0 n d = hd20 n d ++ (List.replicate 100 0 ++ enN n 8) := by
  unfold hd0 hd20
  have z : zr15 = List.replicate 128 0 := rfl
  have l8 := enN_len n 8
  have l8' := enN_len d.length 8
  have e1 : ptN zr15 0 8 n = enN n 8 ++ List.replicate 120 0 := by
    unfold ptN
    rw [z, List.take_zero, List.nil_append, List.drop_replicate]
  have e2 : ptN (enN n 8 ++ List.replicate 120 0) 120 8 n = enN n 8 ++ (List.replicate 112 0 ++ enN n 8) := by
    unfold ptN
    rw [List.take_append, List.drop_of_length_le (by simp [l8]), l8, List.take_of_length_le (by omega), List.take_replicate, List.append_nil, List.append_assoc]
    rfl
  have e3 : ptN (enN n 8 ++ (List.replicate 112 0 ++ enN n 8)) 8 8 d.length = enN n 8 ++ (enN d.length 8 ++ (List.replicate 104 0 ++ enN n 8)) := by
    unfold ptN
    rw [List.take_append, List.take_of_length_le (by omega), l8, Nat.sub_self, List.take_zero, List.append_nil, List.drop_append, l8, List.drop_of_length_le (by omega), List.nil_append, List.drop_append, List.drop_replicate, List.length_replicate]
    rfl
  have e4 : ptN (enN n 8 ++ (enN d.length 8 ++ (List.replicate 104 0 ++ enN n 8))) 16 4 (sm d) = enN n 8 ++ (enN d.length 8 ++ (enN (sm d) 4 ++ (List.replicate 100 0 ++ enN n 8))) := by
    unfold ptN
    rw [List.take_append, List.take_of_length_le (by omega), l8, List.take_append, List.take_of_length_le (by omega), l8', Nat.sub_self, List.take_zero, List.append_nil, List.drop_append, l8, List.drop_of_length_le (by omega), List.nil_append, List.drop_append, l8', List.drop_of_length_le (by omega), List.nil_append, List.drop_append, List.drop_replicate, List.length_replicate]
    simp
  rw [e1, e2, e3, e4]
  simp
theorem hd0_top (n : Nat) (d : List Nat) : (hd0 n d).take 20 = hd20 n d := by
  rw [hd0_is, ← hd20_len n d, List.take_left]
theorem hd0_hdB (n : Nat) (d : List Nat) : ptN (hd0 n d) 20 4 (sm ((hd0 n d).take 20)) = hdB n d := by
  rw [hd0_top]
  unfold ptN
  rw [hd0_top, hd0_is, List.drop_append, hd20_len, List.drop_of_length_le (by rw [hd20_len]; omega), List.nil_append, List.drop_append, List.drop_replicate, List.length_replicate]
  unfold hdB
  rfl
theorem hd0_ok (n : Nat) (d : List Nat) : okb (hd0 n d) := ptN_ok (ptN_ok (ptN_ok (ptN_ok zr_ok16 0 8 n (by omega)) 120 8 n (by omega)) 8 8 _ (by omega)) 16 4 _ (by omega)
theorem b8_set (h : List Nat) (q x : Nat) : (b8 h).set q (.int .u8 (x : Int)) = b8 (h.set q x) := by
  unfold b8
  rw [List.map_set]
theorem Vb.setB {w : World} {g : Nat} {t : TypeId} {h : List Nat} (hV : Vb w g t (b8 h)) (q x : Nat) : Vb (w.setCell ⟨g, q, none⟩ (.int .u8 (x : Int))) g t (b8 (h.set q x)) := by
  have hlt := hV.lt
  unfold Vb at hV ⊢
  rw [← b8_set]
  have e : w.heap[g] = Obj.cells (b8 h).toArray t := by
    rw [Array.getElem?_eq_getElem hlt] at hV
    exact Option.some.inj hV
  simp [World.setCell, hlt, Array.getElem_modify, e]
end Go.Proofs.YtpmmfmlldkdfhaaDoor
