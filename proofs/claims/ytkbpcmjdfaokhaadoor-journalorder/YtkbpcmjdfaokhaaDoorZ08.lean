/-
Plain numbers of layer 11: bits of a text that are turned one by one.
Layer 13's plain numbers: frames as lists of bytes.
Layer 16's plain numbers: a number's bytes, torn; a slot's head.
-/
import Derived.Test.YtkbpcmjdfaokhaaDoorZ01
import Derived.Test.YtkbpcmjdfaokhaaDoorZ04
import Derived.Test.YtkbpcmjdfaokhaaDoorZ00

set_option linter.unusedVariables false
namespace Go.Proofs.YtkbpcmjdfaokhaaDoor

/-- The text, so many of the run's bits turned. -/
def bF (f : Nat → Nat) (p x : Nat) : Nat → Nat → Nat
  | 0 => f
  | j + 1 => if x.testBit j = true then (fun q => if q = (p + j) / 8 then bF f p x j q ^^^ 2 ^ ((p + j) % 8) else bF f p x j q) else bF f p x j
theorem bF_lt (f : Nat → Nat) (p x : Nat) (hf : ∀ k, f k < 256) (j : Nat) : ∀ k, bF f p x j k < 256 := by
  induction j with
  | zero => exact hf
  | succ j ih =>
    intro k
    show (if x.testBit j = true then (fun q => if q = (p + j) / 8 then bF f p x j q ^^^ 2 ^ ((p + j) % 8) else bF f p x j q) else bF f p x j) k < 256
    split
    · dsimp only
      split
      · refine Nat.xor_lt_two_pow (n := 8) (ih k) (Nat.pow_lt_pow_right (by omega) (by omega))
      · exact ih k
    · exact ih k
theorem pow_bit (e i : Nat) (he : e < 8) (hi : i < 8) : 2 ^ e / 2 ^ i % 2 = if i = e then 1 else 0 := by
  have : ∀ e i : Fin 8, 2 ^ e.1 / 2 ^ i.1 % 2 = if i.1 = e.1 then 1 else 0 := by decide
  exact this ⟨e, he⟩ ⟨i, hi⟩
theorem bF_bits (f : Nat → Nat) (p x j q : Nat) : cBt (bF f p x j) q = cBt f q ^^^ (if p ≤ q ∧ q < p + j then (x.testBit (q - p)).toNat else 0) := by
  induction j with
  | zero =>
    rw [if_neg (by omega), Nat.xor_zero]
    rfl
  | succ j ih =>
    by_cases hb : x.testBit j = true
    · have e : bF f p x (j + 1) = fun i => bF f p x j i ^^^ (if i = (p + j) / 8 then 2 ^ ((p + j) % 8) else 0) := by
        show (if x.testBit j = true then _ else _) = _
        rw [if_pos hb]
        funext i
        by_cases hi : i = (p + j) / 8
        · rw [if_pos hi, if_pos hi]
        · rw [if_neg hi, if_neg hi, Nat.xor_zero]
      rw [e, cBt_xor, ih]
      have h : cBt (fun i => if i = (p + j) / 8 then 2 ^ ((p + j) % 8) else 0) q = if q = p + j then 1 else 0 := by
        show (if q / 8 = (p + j) / 8 then 2 ^ ((p + j) % 8) else 0) / 2 ^ (q % 8) % 2 = _
        by_cases h8 : q / 8 = (p + j) / 8
        · rw [if_pos h8, pow_bit _ _ (by omega) (by omega)]
          by_cases hq : q = p + j
          · rw [if_pos (by omega), if_pos hq]
          · rw [if_neg (by omega), if_neg hq]
        · rw [if_neg h8, if_neg (by intro e; exact h8 (by rw [e]))]
          simp
      rw [h, Nat.xor_assoc]
      congr 1
      by_cases hq : q = p + j
      · rw [if_neg (by omega), if_pos hq, if_pos (by omega), Nat.zero_xor, hq, show p + j - p = j by omega, hb]
        rfl
      · rw [if_neg hq, Nat.xor_zero]
        by_cases h1 : p ≤ q ∧ q < p + j
        · rw [if_pos h1, if_pos (by omega)]
        · rw [if_neg h1, if_neg (by omega)]
    · have e : bF f p x (j + 1) = bF f p x j := by
        show (if x.testBit j = true then _ else _) = _
        rw [if_neg hb]
      rw [e, ih]
      congr 1
      by_cases hq : q = p + j
      · rw [if_neg (by omega), if_pos (by omega), hq, show p + j - p = j by omega]
        rw [Bool.not_eq_true] at hb
        rw [hb]
        rfl
      · by_cases h1 : p ≤ q ∧ q < p + j
        · rw [if_pos h1, if_pos (by omega)]
        · rw [if_neg h1, if_neg (by omega)]
theorem bF_step (f : Nat → Nat) (p x j k : Nat) (hb : x.testBit j = true) : (if k = (p + j) / 8 then bF f p x j ((p + j) / 8) ^^^ 2 ^ ((p + j) % 8) else bF f p x j k) = bF f p x (j + 1) k := by
  show _ = (if x.testBit j = true then (fun q => if q = (p + j) / 8 then bF f p x j q ^^^ 2 ^ ((p + j) % 8) else bF f p x j q) else bF f p x j) k
  rw [if_pos hb]
  by_cases h : k = (p + j) / 8
  · rw [if_pos h, if_pos h, h]
  · rw [if_neg h, if_neg h]
theorem bF_same (f : Nat → Nat) (p x j k : Nat) (hb : ¬ x.testBit j = true) : bF f p x (j + 1) k = bF f p x j k := by
  show (if x.testBit j = true then (fun q => if q = (p + j) / 8 then bF f p x j q ^^^ 2 ^ ((p + j) % 8) else bF f p x j q) else bF f p x j) k = _
  rw [if_neg hb]
end Go.Proofs.YtkbpcmjdfaokhaaDoor
set_option linter.unusedVariables false
set_option linter.unusedSimpArgs false
namespace Go.Proofs.YtkbpcmjdfaokhaaDoor

/-- A text's sum. -/
def sm (l : List Nat) : Nat := cS (fun k => l.getD k 0) l.length
theorem sm_lt (l : List Nat) : sm l < 4294967296 := cS_lt _ _
/-- Four bytes of a number, the lowest first. -/
def four (n : Nat) : List Nat := [n % 256, n / 256 % 256, n / 65536 % 256, n / 16777216]
theorem four_len (n : Nat) : (four n).length = 4 := rfl
theorem four_byte {n : Nat} (h : n < 4294967296) : ∀ c ∈ four n, c < 256 := by
  intro c hc
  simp only [four, List.mem_cons, List.not_mem_nil, or_false] at hc
  rcases hc with rfl | rfl | rfl | rfl <;> omega
theorem four_eq {n m : Nat} (h : four n = four m) : n = m := by
  simp only [four, List.cons.injEq, and_true] at h
  omega
/-- What stands ahead of the sum, and the frame. -/
def hd (k : Nat) (l : List Nat) : List Nat := 82 :: 71 :: 1 :: k :: (four l.length ++ l)
def fsl (k : Nat) (l : List Nat) : List Nat := hd k l ++ four (sm (hd k l))
theorem hd_len (k : Nat) (l : List Nat) : (hd k l).length = l.length + 8 := by simp [hd, four]
theorem seal_len (k : Nat) (l : List Nat) : (fsl k l).length = l.length + 12 := by simp [fsl, hd_len, four]
theorem hd_byte {k : Nat} {l : List Nat} (hk : k < 256) (hl : ∀ c ∈ l, c < 256) (hn : l.length < 4294967296) : ∀ c ∈ hd k l, c < 256 := by
  intro c hc
  simp only [hd, List.mem_cons, List.mem_append] at hc
  rcases hc with rfl | rfl | rfl | rfl | hc | hc
  · omega
  · omega
  · omega
  · exact hk
  · exact four_byte hn c hc
  · exact hl c hc
theorem seal_byte {k : Nat} {l : List Nat} (hk : k < 256) (hl : ∀ c ∈ l, c < 256) (hn : l.length < 4294967296) : ∀ c ∈ fsl k l, c < 256 := by
  intro c hc
  unfold fsl at hc
  rcases List.mem_append.1 hc with q | q
  · exact hd_byte hk hl hn c q
  · exact four_byte (sm_lt _) c q
/-- How many bytes a frame says that its payload has. -/
def nn (b : List Nat) : Nat := b.getD 4 0 + 256 * b.getD 5 0 + 65536 * b.getD 6 0 + 16777216 * b.getD 7 0
/-- The first error of the frame at the beginning, or 0. -/
def opE (b : List Nat) : Nat :=
  if b.length = 0 then 130 else if b.getD 0 0 ≠ 82 then 131 else if b.length ≤ 1 then 130 else if b.getD 1 0 ≠ 71 then 131 else if b.length ≤ 2 then 130 else if b.getD 2 0 ≠ 1 then 132 else if b.length ≤ 3 then 130 else if b.getD 3 0 = 0 then 133 else if b.length < 8 then 130 else if 65536 < nn b then 134 else if b.length < nn b + 12 then 130 else if four (sm (b.take (nn b + 8))) ≠ (b.drop (nn b + 8)).take 4 then 135 else 0
def opK (b : List Nat) : Nat := if opE b = 0 then b.getD 3 0 else 0
def opP (b : List Nat) : List Nat := if opE b = 0 then (b.drop 8).take (nn b) else []
def opN (b : List Nat) : Nat := if opE b = 0 then nn b + 12 else 0
/-- The four bytes ahead are right. -/
structure Hd4 (b : List Nat) : Prop where
  l : 3 < b.length
  b0 : b.getD 0 0 = 82
  b1 : b.getD 1 0 = 71
  b2 : b.getD 2 0 = 1
  b3 : b.getD 3 0 ≠ 0
theorem opE_l0 {b : List Nat} (h : b.length = 0) : opE b = 130 := by unfold opE; rw [if_pos h]
theorem opE_b0 {b : List Nat} (h : 0 < b.length) (h2 : b.getD 0 0 ≠ 82) : opE b = 131 := by unfold opE; rw [if_neg (by omega), if_pos h2]
theorem opE_l1 {b : List Nat} (h : b.length = 1) (h2 : b.getD 0 0 = 82) : opE b = 130 := by unfold opE; rw [if_neg (by omega), if_neg (by omega), if_pos (by omega)]
theorem opE_b1 {b : List Nat} (h : 1 < b.length) (h2 : b.getD 0 0 = 82) (h3 : b.getD 1 0 ≠ 71) : opE b = 131 := by unfold opE; rw [if_neg (by omega), if_neg (by omega), if_neg (by omega), if_pos h3]
theorem opE_l2 {b : List Nat} (h : b.length = 2) (h2 : b.getD 0 0 = 82) (h3 : b.getD 1 0 = 71) : opE b = 130 := by unfold opE; rw [if_neg (by omega), if_neg (by omega), if_neg (by omega), if_neg (by omega), if_pos (by omega)]
theorem opE_b2 {b : List Nat} (h : 2 < b.length) (h2 : b.getD 0 0 = 82) (h3 : b.getD 1 0 = 71) (h4 : b.getD 2 0 ≠ 1) : opE b = 132 := by unfold opE; rw [if_neg (by omega), if_neg (by omega), if_neg (by omega), if_neg (by omega), if_neg (by omega), if_pos h4]
theorem opE_l3 {b : List Nat} (h : b.length = 3) (h2 : b.getD 0 0 = 82) (h3 : b.getD 1 0 = 71) (h4 : b.getD 2 0 = 1) : opE b = 130 := by unfold opE; rw [if_neg (by omega), if_neg (by omega), if_neg (by omega), if_neg (by omega), if_neg (by omega), if_neg (by omega), if_pos (by omega)]
theorem opE_b3 {b : List Nat} (h : 3 < b.length) (h2 : b.getD 0 0 = 82) (h3 : b.getD 1 0 = 71) (h4 : b.getD 2 0 = 1) (h5 : b.getD 3 0 = 0) : opE b = 133 := by unfold opE; rw [if_neg (by omega), if_neg (by omega), if_neg (by omega), if_neg (by omega), if_neg (by omega), if_neg (by omega), if_neg (by omega), if_pos h5]
theorem opE_four {b : List Nat} (h : Hd4 b) : opE b = if b.length < 8 then 130 else if 65536 < nn b then 134 else if b.length < nn b + 12 then 130 else if four (sm (b.take (nn b + 8))) ≠ (b.drop (nn b + 8)).take 4 then 135 else 0 := by
  have h1 := h.l
  have h2 := h.b0
  have h3 := h.b1
  have h4 := h.b2
  have h5 := h.b3
  conv => lhs; unfold opE
  rw [if_neg (by omega), if_neg (by omega), if_neg (by omega), if_neg (by omega), if_neg (by omega), if_neg (by omega), if_neg (by omega), if_neg (by omega)]
theorem opE_l8 {b : List Nat} (h : Hd4 b) (h2 : b.length < 8) : opE b = 130 := by rw [opE_four h, if_pos h2]
theorem opE_n {b : List Nat} (h : Hd4 b) (h2 : 8 ≤ b.length) (h3 : 65536 < nn b) : opE b = 134 := by rw [opE_four h, if_neg (by omega), if_pos h3]
theorem opE_ln {b : List Nat} (h : Hd4 b) (h2 : 8 ≤ b.length) (h3 : nn b ≤ 65536) (h4 : b.length < nn b + 12) : opE b = 130 := by rw [opE_four h, if_neg (by omega), if_neg (by omega), if_pos h4]
theorem opE_s {b : List Nat} (h : Hd4 b) (h3 : nn b ≤ 65536) (h4 : nn b + 12 ≤ b.length) (h5 : four (sm (b.take (nn b + 8))) ≠ (b.drop (nn b + 8)).take 4) : opE b = 135 := by rw [opE_four h, if_neg (by omega), if_neg (by omega), if_neg (by omega), if_pos h5]
theorem opE_ok {b : List Nat} (h : Hd4 b) (h3 : nn b ≤ 65536) (h4 : nn b + 12 ≤ b.length) (h5 : four (sm (b.take (nn b + 8))) = (b.drop (nn b + 8)).take 4) : opE b = 0 := by rw [opE_four h, if_neg (by omega), if_neg (by omega), if_neg (by omega), if_neg (fun q => q h5)]
theorem op_no {b : List Nat} {e : Nat} (h : opE b = e) (he : e ≠ 0) : opK b = 0 ∧ opP b = [] ∧ opN b = 0 := by
  unfold opK opP opN
  rw [if_neg (by omega), if_neg (by omega), if_neg (by omega)]
  exact ⟨rfl, rfl, rfl⟩
theorem op_yes {b : List Nat} (h : opE b = 0) : opK b = b.getD 3 0 ∧ opP b = (b.drop 8).take (nn b) ∧ opN b = nn b + 12 := by
  unfold opK opP opN
  rw [if_pos h, if_pos h, if_pos h]
  exact ⟨rfl, rfl, rfl⟩
/-- A frame, and anything behind it. -/
theorem seal_eight (k : Nat) (l t : List Nat) : fsl k l ++ t = 82 :: 71 :: 1 :: k :: (l.length % 256) :: (l.length / 256 % 256) :: (l.length / 65536 % 256) :: (l.length / 16777216) :: (l ++ (four (sm (hd k l)) ++ t)) := by
  simp [fsl, hd, four]
theorem nn_eight (a b c d e f g h : Nat) (t : List Nat) : nn (a :: b :: c :: d :: e :: f :: g :: h :: t) = e + 256 * f + 65536 * g + 16777216 * h := rfl
theorem nn_seal (k : Nat) (l t : List Nat) : nn (fsl k l ++ t) = l.length := by
  rw [seal_eight, nn_eight]
  omega
theorem hd4_seal {k : Nat} (hk : k ≠ 0) (l t : List Nat) : Hd4 (fsl k l ++ t) := by
  rw [seal_eight]
  exact ⟨by simp, rfl, rfl, rfl, hk⟩
theorem take_hd (k : Nat) (l t : List Nat) : (fsl k l ++ t).take (l.length + 8) = hd k l := by
  unfold fsl
  rw [List.append_assoc, ← hd_len k l]
  exact List.take_left' rfl
theorem drop_hd (k : Nat) (l t : List Nat) : (fsl k l ++ t).drop (l.length + 8) = four (sm (hd k l)) ++ t := by
  unfold fsl
  rw [List.append_assoc, ← hd_len k l]
  exact List.drop_left' rfl
theorem opE_seal {k : Nat} (hk : k ≠ 0) (l t : List Nat) (hl : l.length ≤ 65536) : opE (fsl k l ++ t) = 0 := by
  refine opE_ok (hd4_seal hk l t) (by rw [nn_seal]; exact hl) ?_ ?_
  · rw [nn_seal, List.length_append, seal_len]; omega
  · rw [nn_seal, take_hd, drop_hd]
    rfl
theorem op_seal {k : Nat} (hk : k ≠ 0) (l t : List Nat) (hl : l.length ≤ 65536) : opK (fsl k l ++ t) = k ∧ opP (fsl k l ++ t) = l ∧ opN (fsl k l ++ t) = l.length + 12 := by
  obtain ⟨h1, h2, h3⟩ := op_yes (opE_seal hk l t hl)
  rw [h1, h2, h3, nn_seal]
  refine ⟨by rw [seal_eight]; rfl, ?_, rfl⟩
  rw [seal_eight]
  show List.take l.length (l ++ _) = l
  exact List.take_left' rfl
theorem prefix_get {q b : List Nat} (h : q <+: b) {i : Nat} (hi : i < q.length) : q.getD i 0 = b.getD i 0 := by
  obtain ⟨t, rfl⟩ := h
  simp [List.getD, List.getElem?_append, hi]
/-- Cut off it is short. -/
theorem opE_cut {k : Nat} (hk : k ≠ 0) (l q : List Nat) (hl : l.length ≤ 65536) (h1 : q <+: fsl k l) (h2 : q.length < (fsl k l).length) : opE q = 130 := by
  have hs := hd4_seal hk l []
  rw [List.append_nil] at hs
  have hn := nn_seal k l []
  rw [List.append_nil] at hn
  have g : ∀ i, i < q.length → q.getD i 0 = (fsl k l).getD i 0 := fun i hi => prefix_get h1 hi
  rw [seal_len] at h2
  by_cases a0 : q.length = 0
  · exact opE_l0 a0
  by_cases a1 : q.length = 1
  · exact opE_l1 a1 (by rw [g 0 (by omega)]; exact hs.b0)
  by_cases a2 : q.length = 2
  · exact opE_l2 a2 (by rw [g 0 (by omega)]; exact hs.b0) (by rw [g 1 (by omega)]; exact hs.b1)
  by_cases a3 : q.length = 3
  · exact opE_l3 a3 (by rw [g 0 (by omega)]; exact hs.b0) (by rw [g 1 (by omega)]; exact hs.b1) (by rw [g 2 (by omega)]; exact hs.b2)
  have hq : Hd4 q := ⟨by omega, by rw [g 0 (by omega)]; exact hs.b0, by rw [g 1 (by omega)]; exact hs.b1, by rw [g 2 (by omega)]; exact hs.b2, by rw [g 3 (by omega)]; exact hs.b3⟩
  by_cases a8 : q.length < 8
  · exact opE_l8 hq a8
  · have hnq : nn q = l.length := by
      rw [← hn]
      unfold nn
      rw [g 4 (by omega), g 5 (by omega), g 6 (by omega), g 7 (by omega)]
    exact opE_ln hq (by omega) (by omega) (by omega)
/-- A run of turned bits changes no byte but those that it lies in. -/
theorem bF_far (f : Nat → Nat) (p x k : Nat) : ∀ j, (∀ i, i < j → x.testBit i = true → (p + i) / 8 ≠ k) → bF f p x j k = f k := by
  intro j
  induction j with
  | zero => intro _; rfl
  | succ j ih =>
    intro h
    have hi := ih (fun i hi => h i (by omega))
    by_cases hb : x.testBit j = true
    · rw [← bF_step f p x j k hb, if_neg (fun e => h j (by omega) hb e.symm), hi]
    · rw [bF_same f p x j k hb, hi]
/-- Turned bits in a payload are told by the sum. -/
theorem opE_flip {k : Nat} (hk : k ≠ 0) (l : List Nat) (hl : l.length ≤ 65536) (b : List Nat) (hb : b.length = l.length + 12) (p x : Nat) (hx : x < 4294967296) (hx0 : x ≠ 0) (hp : p < 8 * l.length) (hin : ∀ i, i < 32 → x.testBit i = true → p + i < 8 * l.length)
    (hg : ∀ i, i < l.length + 12 → b.getD i 0 = bF (fun i => (fsl k l).getD i 0) (64 + p) x 32 i) : opE b = 135 := by
  have hs := hd4_seal hk l []
  rw [List.append_nil] at hs
  have hn := nn_seal k l []
  rw [List.append_nil] at hn
  have far : ∀ i, i < 8 ∨ l.length + 8 ≤ i → bF (fun i => (fsl k l).getD i 0) (64 + p) x 32 i = (fsl k l).getD i 0 := fun i hi => bF_far _ _ _ _ 32 (fun j hj hj2 => by have := hin j hj hj2; omega)
  have g : ∀ i, i < l.length + 12 → (i < 8 ∨ l.length + 8 ≤ i) → b.getD i 0 = (fsl k l).getD i 0 := fun i hi h => by rw [hg i hi, far i h]
  have hq : Hd4 b := ⟨by omega, by rw [g 0 (by omega) (by omega)]; exact hs.b0, by rw [g 1 (by omega) (by omega)]; exact hs.b1, by rw [g 2 (by omega) (by omega)]; exact hs.b2, by rw [g 3 (by omega) (by omega)]; exact hs.b3⟩
  have hnb : nn b = l.length := by
    rw [← hn]
    unfold nn
    rw [g 4 (by omega) (by omega), g 5 (by omega) (by omega), g 6 (by omega) (by omega), g 7 (by omega) (by omega)]
  refine opE_s hq (by omega) (by omega) ?_
  rw [hnb]
  have hd2 : (b.drop (l.length + 8)).take 4 = four (sm (hd k l)) := by
    have e := drop_hd k l []
    rw [List.append_nil, List.append_nil] at e
    rw [← e]
    apply List.ext_getElem
    · rw [List.length_take, List.length_drop, List.length_drop, seal_len]; omega
    · intro i h1 h2
      rw [List.length_take, List.length_drop] at h1
      have := g (l.length + 8 + i) (by omega) (by omega)
      simp only [List.getElem_take, List.getElem_drop]
      simpa [List.getD, show l.length + 8 + i < b.length by omega, show l.length + 8 + i < (fsl k l).length by rw [seal_len]; omega] using this
  rw [hd2]
  intro e
  have e2 := four_eq e
  have htl : (b.take (l.length + 8)).length = l.length + 8 := by rw [List.length_take]; omega
  have hne := burst_text (fun i => (hd k l).getD i 0) (fun i => (b.take (l.length + 8)).getD i 0) (l.length + 8) (64 + p) x hx hx0 (by omega) (fun q hq => ?_) (fun i hi hi2 => by have := hin i hi hi2; omega)
  · unfold sm at e2
    rw [htl, hd_len] at e2
    exact hne e2.symm
  · have hq8 : q / 8 < l.length + 8 := by omega
    rw [← bF_bits]
    unfold cBt
    have a1 : (b.take (l.length + 8)).getD (q / 8) 0 = b.getD (q / 8) 0 := by simp [List.getD, List.getElem?_take, hq8]
    show (b.take (l.length + 8)).getD (q / 8) 0 / 2 ^ (q % 8) % 2 = _
    rw [a1, hg (q / 8) (by omega)]
    have a2 : ∀ j i, i < l.length + 8 → bF (fun i => (fsl k l).getD i 0) (64 + p) x j i = bF (fun i => (hd k l).getD i 0) (64 + p) x j i := by
      intro j
      induction j with
      | zero =>
        intro i hi
        show (fsl k l).getD i 0 = (hd k l).getD i 0
        unfold fsl
        simp [List.getD, List.getElem?_append, hd_len, hi]
      | succ j ih =>
        intro i hi
        by_cases hb : x.testBit j = true
        · rw [← bF_step _ _ _ _ _ hb, ← bF_step _ _ _ _ _ hb]
          by_cases e : i = (64 + p + j) / 8
          · rw [if_pos e, if_pos e, ih _ (by omega)]
          · rw [if_neg e, if_neg e, ih _ hi]
        · rw [bF_same _ _ _ _ _ hb, bF_same _ _ _ _ _ hb, ih _ hi]
    rw [a2 32 _ hq8]
end Go.Proofs.YtkbpcmjdfaokhaaDoor
set_option linter.unusedVariables false
set_option linter.unusedSimpArgs false
namespace Go.Proofs.YtkbpcmjdfaokhaaDoor

/-- The low bytes of one number over another. -/
def mix (t a m : Nat) : Nat := a % 256 ^ t + m / 256 ^ t * 256 ^ t
theorem mix_zero (a m : Nat) : mix 0 a m = m := by
  unfold mix
  rw [Nat.pow_zero, Nat.mod_one, Nat.div_one, Nat.mul_one, Nat.zero_add]
theorem deN_mix : ∀ (t : Nat) (A B : List Nat), A.length = B.length → (∀ c ∈ A, c < 256) → (∀ c ∈ B, c < 256) → deN (A.take t ++ B.drop t) = mix t (deN A) (deN B) := by
  intro t
  induction t with
  | zero => intro A B _ _ _; rw [mix_zero]; rfl
  | succ t ih =>
    intro A B hl hA hB
    cases A with
    | nil =>
      have e : B = [] := List.eq_nil_of_length_eq_zero hl.symm
      subst e
      unfold mix
      simp [deN]
    | cons c A =>
      cases B with
      | nil => simp at hl
      | cons d B =>
        have hc := hA c (by simp)
        have hd := hB d (by simp)
        have h := ih A B (by simpa using hl) (fun x hx => hA x (by simp [hx])) (fun x hx => hB x (by simp [hx]))
        have e1 : deN ((c :: A).take (t + 1) ++ (d :: B).drop (t + 1)) = c + 256 * deN (A.take t ++ B.drop t) := rfl
        rw [e1, h]
        show c + 256 * mix t (deN A) (deN B) = mix (t + 1) (c + 256 * deN A) (d + 256 * deN B)
        unfold mix
        rw [show (256 : Nat) ^ (t + 1) = 256 * 256 ^ t by rw [Nat.pow_succ, Nat.mul_comm]]
        rw [Nat.mod_mul, ← Nat.div_div_eq_div_mul]
        rw [show (c + 256 * deN A) % 256 = c by omega, show (c + 256 * deN A) / 256 = deN A by omega, show (d + 256 * deN B) / 256 = deN B by omega]
        rw [Nat.mul_add, ← Nat.add_assoc]
        congr 1
        rw [Nat.mul_left_comm]
theorem mix_mix (t t' a m : Nat) : mix t' a (mix t a m) = mix (max t t') a m := by
  by_cases h : t' ≤ t
  · rw [Nat.max_eq_left h]
    obtain ⟨l, rfl⟩ : ∃ l, t = t' + l := ⟨t - t', by omega⟩
    have hd : (256 : Nat) ^ t' ∣ 256 ^ (t' + l) := ⟨256 ^ l, by rw [Nat.pow_add]⟩
    have e : mix (t' + l) a m % 256 ^ t' = a % 256 ^ t' := by
      unfold mix
      obtain ⟨q, hq⟩ := hd
      rw [Nat.add_mod, Nat.mod_mod_of_dvd _ ⟨q, hq⟩]
      have : m / 256 ^ (t' + l) * 256 ^ (t' + l) % 256 ^ t' = 0 := by
        rw [hq, Nat.mul_left_comm, Nat.mul_mod_right]
      rw [this, Nat.add_zero, Nat.mod_mod]
    have e2 := Nat.mod_add_div (mix (t' + l) a m) (256 ^ t')
    rw [e, Nat.mul_comm] at e2
    conv => lhs; unfold mix
    exact e2
  · obtain ⟨l, rfl⟩ : ∃ l, t' = t + l := ⟨t' - t, by omega⟩
    rw [Nat.max_eq_right (by omega)]
    have hp : 0 < (256 : Nat) ^ t := Nat.pow_pos (by omega)
    have e : mix t a m / 256 ^ (t + l) = m / 256 ^ (t + l) := by
      rw [Nat.pow_add, ← Nat.div_div_eq_div_mul, ← Nat.div_div_eq_div_mul]
      congr 1
      unfold mix
      rw [Nat.add_mul_div_right _ _ hp, Nat.div_eq_of_lt (Nat.mod_lt _ hp), Nat.zero_add]
    unfold mix at e ⊢
    rw [e]
theorem mix_le (t a m : Nat) (h : a = m + 2 ∨ (m = 0 ∧ 1 ≤ a ∧ a ≤ 2)) : mix t a m = a ∨ mix t a m ≤ m := by
  cases t with
  | zero => exact Or.inr (by rw [mix_zero]; exact Nat.le_refl _)
  | succ t =>
    have hp : 0 < (256 : Nat) ^ t := Nat.pow_pos (by omega)
    have hK : 256 ≤ (256 : Nat) ^ (t + 1) := by rw [Nat.pow_succ]; omega
    unfold mix
    generalize (256 : Nat) ^ (t + 1) = K at *
    rcases h with h | ⟨h1, h2, h3⟩
    · subst h
      have ea := Nat.mod_add_div (m + 2) K
      have em := Nat.mod_add_div m K
      have la := Nat.mod_lt (m + 2) (show 0 < K by omega)
      have lm := Nat.mod_lt m (show 0 < K by omega)
      by_cases q : (m + 2) / K = m / K
      · left
        rw [← q, Nat.mul_comm]
        exact ea
      · have q1 : m / K ≤ (m + 2) / K := Nat.div_le_div_right (by omega)
        have q2 : m / K + 1 ≤ (m + 2) / K := by omega
        have q3 : K * (m / K + 1) ≤ K * ((m + 2) / K) := Nat.mul_le_mul_left K q2
        rw [Nat.mul_add, Nat.mul_one] at q3
        right
        rw [Nat.mul_comm (m / K) K]
        omega
    · subst h1
      left
      rw [Nat.mod_eq_of_lt (by omega), Nat.zero_div, Nat.zero_mul, Nat.add_zero]
/-- A number in a text. -/
def gt (h : List Nat) (p k : Nat) : Nat := deN ((h.drop p).take k)
/-- What the head's sum is of, and the head. -/
def hd20 (n : Nat) (d : List Nat) : List Nat := enN n 8 ++ (enN d.length 8 ++ enN (sm d) 4)
def hdB (n : Nat) (d : List Nat) : List Nat := hd20 n d ++ (enN (sm (hd20 n d)) 4 ++ (List.replicate 96 0 ++ enN n 8))
theorem hd20_len (n : Nat) (d : List Nat) : (hd20 n d).length = 20 := by simp [hd20, enN_len]
theorem hdB_len (n : Nat) (d : List Nat) : (hdB n d).length = 128 := by simp [hdB, hd20_len, enN_len]
theorem hdB_ok (n : Nat) (d : List Nat) : okb (hdB n d) := by
  refine ⟨hdB_len n d, fun c hc => ?_⟩
  simp only [hdB, hd20, List.mem_append] at hc
  rcases hc with (hc | hc | hc) | hc | hc | hc
  · exact enN_byte _ _ c hc
  · exact enN_byte _ _ c hc
  · exact enN_byte _ _ c hc
  · exact enN_byte _ _ c hc
  · rw [(List.mem_replicate.1 hc).2]; omega
  · exact enN_byte _ _ c hc
theorem part_mid {A B C : List Nat} {p k : Nat} (hp : A.length = p) (hk : B.length = k) : ((A ++ (B ++ C)).drop p).take k = B := by
  rw [← hp, List.drop_left, ← hk, List.take_left]
theorem part_end {A B : List Nat} {p k : Nat} (hp : A.length = p) (hk : B.length = k) : ((A ++ B).drop p).take k = B := by
  rw [← hp, List.drop_left, ← hk, List.take_length]
theorem hdB_n {n : Nat} (d : List Nat) (hn : n < 256 ^ 8) : gt (hdB n d) 0 8 = n := by
  have e : hdB n d = [] ++ (enN n 8 ++ ((enN d.length 8 ++ enN (sm d) 4) ++ (enN (sm (hd20 n d)) 4 ++ (List.replicate 96 0 ++ enN n 8)))) := by simp [hdB, hd20]
  unfold gt
  rw [e, part_mid (A := []) (p := 0) rfl (enN_len n 8), de_en 8 n hn]
theorem hdB_size (n : Nat) {d : List Nat} (hd : d.length < 256 ^ 8) : gt (hdB n d) 8 8 = d.length := by
  have e : hdB n d = enN n 8 ++ (enN d.length 8 ++ (enN (sm d) 4 ++ (enN (sm (hd20 n d)) 4 ++ (List.replicate 96 0 ++ enN n 8)))) := by simp [hdB, hd20]
  unfold gt
  rw [e, part_mid (enN_len n 8) (enN_len _ 8), de_en 8 _ hd]
theorem hdB_sum (n : Nat) (d : List Nat) : gt (hdB n d) 16 4 = sm d := by
  have e : hdB n d = (enN n 8 ++ enN d.length 8) ++ (enN (sm d) 4 ++ (enN (sm (hd20 n d)) 4 ++ (List.replicate 96 0 ++ enN n 8))) := by simp [hdB, hd20]
  unfold gt
  rw [e, part_mid (by simp [enN_len]) (enN_len _ 4), de_en 4 _ (sm_lt d)]
theorem hdB_top (n : Nat) (d : List Nat) : (hdB n d).take 20 = hd20 n d := by
  unfold hdB
  rw [← hd20_len n d, List.take_left]
theorem hdB_hs (n : Nat) (d : List Nat) : gt (hdB n d) 20 4 = sm ((hdB n d).take 20) := by
  rw [hdB_top]
  unfold gt hdB
  rw [part_mid (hd20_len n d) (enN_len _ 4), de_en 4 _ (sm_lt _)]
theorem hdB_last {n : Nat} (d : List Nat) (hn : n < 256 ^ 8) : gt (hdB n d) 120 8 = n := by
  have e : hdB n d = (hd20 n d ++ (enN (sm (hd20 n d)) 4 ++ List.replicate 96 0)) ++ enN n 8 := by simp [hdB]
  unfold gt
  rw [e, part_end (by simp [hd20_len, enN_len]) (enN_len n 8), de_en 8 n hn]
/-! What a torn head says. -/
theorem torn_low {k p l : Nat} {H X : List Nat} (hH : H.length = 128) (hk : k ≤ 128) (h : p + l ≤ k) : ((torn k H X).drop p).take l = (H.drop p).take l := by
  unfold torn
  rw [List.drop_append_of_le_length (by rw [List.length_take]; omega), List.take_append_of_le_length (by rw [List.length_drop, List.length_take]; omega), List.drop_take, List.take_take, Nat.min_eq_left (by omega)]
theorem torn_high {k p l : Nat} {H X : List Nat} (hH : H.length = 128) (hk : k ≤ p) (hp : p ≤ 128) : ((torn k H X).drop p).take l = (X.drop p).take l := by
  unfold torn
  have e : (List.take k H).length = k := by rw [List.length_take]; omega
  rw [List.drop_append, e, List.drop_of_length_le (by omega), List.nil_append, List.drop_drop, show k + (p - k) = p by omega]
theorem torn_last {k : Nat} {H X : List Nat} (hH : okb H) (hX : okb X) (h1 : 120 ≤ k) (h2 : k ≤ 128) : gt (torn k H X) 120 8 = mix (k - 120) (gt H 120 8) (gt X 120 8) := by
  unfold gt
  have lH : (H.drop 120).length = 8 := by rw [List.length_drop, hH.1]
  have lX : (X.drop 120).length = 8 := by rw [List.length_drop, hX.1]
  rw [List.take_of_length_le (l := H.drop 120) (by omega), List.take_of_length_le (l := X.drop 120) (by omega)]
  rw [← deN_mix (k - 120) (H.drop 120) (X.drop 120) (by omega) (fun c hc => hH.2 c (List.mem_of_mem_drop hc)) (fun c hc => hX.2 c (List.mem_of_mem_drop hc))]
  congr 1
  unfold torn
  rw [List.drop_append_of_le_length (by rw [List.length_take, hH.1]; omega), List.take_of_length_le (by simp [hH.1, hX.1]; omega), List.drop_take, List.drop_drop, show 120 + (k - 120) = k by omega]
end Go.Proofs.YtkbpcmjdfaokhaaDoor
