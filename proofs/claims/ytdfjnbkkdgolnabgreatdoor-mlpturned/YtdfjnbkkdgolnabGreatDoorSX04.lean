/-
  Texts of this proof, joined: LMath2 LRow LWalkH LWalkE2 LWalkF2 LMath3 LWalkI LMath4 BK BJ EMathB EWalkA LBase LBase2 LAwake LLaw0 PWalkA.
-/
import Derived.Test.YtdfjnbkkdgolnabGreatDoorSX00
import Derived.Test.YtdfjnbkkdgolnabGreatDoorSX01
import Derived.Test.YtdfjnbkkdgolnabGreatDoorSX02
import Derived.Test.YtdfjnbkkdgolnabGreatDoorSX03
import Derived.Maps.AppendAt
import Derived.Deep.RegionHeld3
import Derived.Deep.DrawnRows
import Derived.Deep.Cut
import Derived.Deep.DeepCutAuto
import Derived.Laws.Bits64
set_option linter.unusedVariables false
set_option linter.unusedSimpArgs false
namespace Go.Proofs.YtdfjnbkkdgolnabGreatDoor

/-- The exact sum of a layer's output. -/
def linN (z : Nat → Nat) (p v : Nat → Int) (l u : Nat) : Int := p (ofN z l u) * 4294967296 + dotV (fun i => p (wtN z l u i)) v (z l)
/-- What is below 0 becomes 0 where it is hidden. -/
def hidV (h : Bool) (v : Int) : Int := if h = true then (if v < 0 then 0 else v) else v
/-- The values of a net: the input first. -/
def vN (z : Nat → Nat) (m : Nat) (p x : Nat → Int) : Nat → Nat → Int
  | 0 => x
  | l + 1 => fun u => hidV (decide (l + 2 < m)) (clv (rr (linN z p (vN z m p x l) l u) 32))
/-- Is a layer's output held? -/
def vO (z : Nat → Nat) (m : Nat) (p x : Nat → Int) (l u : Nat) : Bool := ovv (rr (linN z p (vN z m p x l) l u) 32)
/-- How many are held ahead of a layer. -/
def vC (z : Nat → Nat) (m : Nat) (p x : Nat → Int) : Nat → Int
  | 0 => 0
  | l + 1 => vC z m p x l + cntV (vO z m p x l) (z (l + 1))
/-- Squared: the distance, and whether it is held. -/
def dsX (y t : Nat → Int) (i : Nat) : Int := clv (y i - t i)
def dsO (y t : Nat → Int) (i : Nat) : Bool := ovv (y i - t i)
/-- Hinge: the product, what lacks, and whether they are held. -/
def mpX (y t : Nat → Int) (i : Nat) : Int := clv (rr (t i * y i) 32)
def mpO (y t : Nat → Int) (i : Nat) : Bool := ovv (rr (t i * y i) 32)
def hgX (y t : Nat → Int) (i : Nat) : Int := clv (4294967296 - mpX y t i)
def hgO (y t : Nat → Int) (i : Nat) : Bool := ovv (4294967296 - mpX y t i)
/-- What is above 0, else 0. -/
def posV (f : Nat → Int) (i : Nat) : Int := if 0 < f i then f i else 0
/-- The loss, exact; rounded; how many are held of it and ahead of it. s: squared. -/
def lsS (s : Bool) (y t : Nat → Int) (n : Nat) : Int := if s = true then rr (dotV (dsX y t) (dsX y t) n) 33 else sumV (posV (hgX y t)) n
def lsX (s : Bool) (y t : Nat → Int) (n : Nat) : Int := clv (lsS s y t n)
def lsP (s : Bool) (y t : Nat → Int) (n : Nat) : Int := if s = true then cntV (dsO y t) n else cntV (mpO y t) n + cntV (hgO y t) n
def lsC (s : Bool) (y t : Nat → Int) (n : Nat) : Int := lsP s y t n + bi (ovv (lsS s y t n))
/-- The slope, and how many are held of it. -/
def slX (s : Bool) (y t : Nat → Int) (i : Nat) : Int := if s = true then dsX y t i else if 0 < hgX y t i then clv (0 - t i) else 0
def slO (y t : Nat → Int) (i : Nat) : Bool := if 0 < hgX y t i then ovv (0 - t i) else false
def slC (s : Bool) (y t : Nat → Int) (n : Nat) : Int := if s = true then cntV (dsO y t) n else cntV (mpO y t) n + cntV (hgO y t) n + cntV (slO y t) n
/-- The slope ahead of a layer. -/
def ahS (z : Nat → Nat) (p s : Nat → Int) (l i : Nat) : Int := dotV s (fun u => p (wtN z l u i)) (z (l + 1))
def ahX (z : Nat → Nat) (p s v : Nat → Int) (l i : Nat) : Int := if 0 < v i then clv (rr (ahS z p s l i) 32) else 0
def ahO (z : Nat → Nat) (p s v : Nat → Int) (l i : Nat) : Bool := if 0 < v i then ovv (rr (ahS z p s l i) 32) else false
/-- The slopes, k layers back from the last one's outputs: V the values. -/
def sB (z : Nat → Nat) (m : Nat) (p : Nat → Int) (V : Nat → Nat → Int) (s0 : Nat → Int) : Nat → Nat → Int
  | 0 => s0
  | k + 1 => ahX z p (sB z m p V s0 k) (V (m - 2 - k)) (m - 2 - k)
/-- The slope at the outputs of layer l. -/
def sL (z : Nat → Nat) (m : Nat) (p : Nat → Int) (V : Nat → Nat → Int) (s0 : Nat → Int) (l : Nat) : Nat → Int := sB z m p V s0 (m - 2 - l)
/-- A weight's part of the gradient. -/
def gwX (s v : Nat → Int) (u i : Nat) : Int := clv (rr (s u * v i) 32)
def gwO (s v : Nat → Int) (u i : Nat) : Bool := ovv (rr (s u * v i) 32)
/-- The gradient is told by its parts. -/
def Grd (z : Nat → Nat) (m : Nat) (V S : Nat → Nat → Int) (G : Nat → Int) : Prop := ∀ l, l + 1 < m → ∀ u, u < z (l + 1) → (∀ i, i < z l → G (wtN z l u i) = gwX (S l) (V l) u i) ∧ G (ofN z l u) = S l u
/-- How many are held of a layer's weights' parts: row by row. -/
def grC (s v : Nat → Int) (n : Nat) : Nat → Int
  | 0 => 0
  | u + 1 => grC s v n u + cntV (gwO s v u) n
/-- How many are held in going back: k layers done. -/
def bkC (z : Nat → Nat) (m : Nat) (p : Nat → Int) (V S : Nat → Nat → Int) : Nat → Int
  | 0 => 0
  | k + 1 => bkC z m p V S k + grC (S (m - 2 - k)) (V (m - 2 - k)) (z (m - 2 - k)) (z (m - 1 - k)) + (if m - 2 - k = 0 then 0 else cntV (ahO z p (S (m - 2 - k)) (V (m - 2 - k)) (m - 2 - k)) (z (m - 2 - k)))
/-- Each place of the parameters is a weight's or an offset's, of one layer. -/
theorem place_of (z : Nat → Nat) (m j : Nat) (hz : ∀ i, i < m → 1 ≤ z i) (hj : j < fsN z (m - 1)) : ∃ l, l + 1 < m ∧ ((∃ u i, u < z (l + 1) ∧ i < z l ∧ j = wtN z l u i) ∨ ∃ u, u < z (l + 1) ∧ j = ofN z l u) := by
  have key : ∀ k, k < m → j < fsN z k → ∃ l, l + 1 < m ∧ ((∃ u i, u < z (l + 1) ∧ i < z l ∧ j = wtN z l u i) ∨ ∃ u, u < z (l + 1) ∧ j = ofN z l u) := fun k => by
    induction k with
    | zero => intro _ h; exact absurd h (Nat.not_lt_zero _)
    | succ k ih =>
      intro hk hlt
      rcases Nat.lt_or_ge j (fsN z k) with h | h
      · exact ih (by omega) h
      · refine ⟨k, hk, ?_⟩
        have hlt2 : j < fsN z k + (z k * z (k + 1) + z (k + 1)) := hlt
        have hzk := hz k (by omega)
        rcases Nat.lt_or_ge j (fsN z k + z k * z (k + 1)) with h1 | h1
        · left
          refine ⟨(j - fsN z k) / z k, (j - fsN z k) % z k, ?_, Nat.mod_lt _ (by omega), ?_⟩
          · rw [Nat.div_lt_iff_lt_mul (by omega), Nat.mul_comm]; omega
          · unfold wtN
            have := Nat.div_add_mod (j - fsN z k) (z k)
            rw [Nat.mul_comm] at this
            omega
        · right
          exact ⟨j - (fsN z k + z k * z (k + 1)), by omega, by unfold ofN; omega⟩
  rcases Nat.eq_zero_or_pos m with h0 | h0
  · subst h0
    exact absurd hj (Nat.not_lt_zero _)
  · exact key (m - 1) (by omega) hj
/-- The gradient is one. -/
theorem Grd.one {z : Nat → Nat} {m : Nat} {V S : Nat → Nat → Int} {G H : Nat → Int} (hz : ∀ i, i < m → 1 ≤ z i) (g : Grd z m V S G) (h : Grd z m V S H) (j : Nat) (hj : j < fsN z (m - 1)) : G j = H j := by
  obtain ⟨l, hl, ⟨u, i, hu, hi, rfl⟩ | ⟨u, hu, rfl⟩⟩ := place_of z m j hz hj
  · rw [(g l hl u hu).1 i hi, (h l hl u hu).1 i hi]
  · rw [(g l hl u hu).2, (h l hl u hu).2]
theorem sL_last (z : Nat → Nat) (m : Nat) (p : Nat → Int) (V : Nat → Nat → Int) (s0 : Nat → Int) : sL z m p V s0 (m - 2) = s0 := by
  unfold sL
  rw [Nat.sub_self]
  rfl
theorem sL_step (z : Nat → Nat) (m : Nat) (p : Nat → Int) (V : Nat → Nat → Int) (s0 : Nat → Int) (l : Nat) (hl : l + 2 < m) : sL z m p V s0 l = ahX z p (sL z m p V s0 (l + 1)) (V (l + 1)) (l + 1) := by
  unfold sL
  obtain ⟨k, hk⟩ : ∃ k, m - 2 - l = k + 1 := ⟨m - 2 - l - 1, by omega⟩
  have e : m - 2 - (l + 1) = k := by omega
  have e2 : m - 2 - k = l + 1 := by omega
  rw [hk, e]
  show ahX z p (sB z m p V s0 k) (V (m - 2 - k)) (m - 2 - k) = _
  rw [e2]
theorem hidV_rng (h : Bool) (v : Int) (hv : -9223372036854775808 ≤ v ∧ v ≤ 9223372036854775807) : -9223372036854775808 ≤ hidV h v ∧ hidV h v ≤ 9223372036854775807 := by
  unfold hidV
  split
  · split <;> omega
  · exact hv
theorem vN_rng (z : Nat → Nat) (m : Nat) (p x : Nat → Int) (l u : Nat) (hx : ∀ i, i < z 0 → -9223372036854775808 ≤ x i ∧ x i ≤ 9223372036854775807) (hu : u < z l) : -9223372036854775808 ≤ vN z m p x l u ∧ vN z m p x l u ≤ 9223372036854775807 := by
  cases l with
  | zero => exact hx u hu
  | succ l => exact hidV_rng _ _ (clv_rng _)
theorem slX_rng (s : Bool) (y t : Nat → Int) (i : Nat) : -9223372036854775808 ≤ slX s y t i ∧ slX s y t i ≤ 9223372036854775807 := by
  unfold slX
  split
  · exact clv_rng _
  · split
    · exact clv_rng _
    · omega
theorem ahX_rng (z : Nat → Nat) (p s v : Nat → Int) (l i : Nat) : -9223372036854775808 ≤ ahX z p s v l i ∧ ahX z p s v l i ≤ 9223372036854775807 := by
  unfold ahX
  split
  · exact clv_rng _
  · omega
theorem vC_rng (z : Nat → Nat) (m : Nat) (p x : Nat → Int) (l : Nat) (hz : ∀ i, i < m → z i ≤ 64) (hl : l < m) : 0 ≤ vC z m p x l ∧ vC z m p x l ≤ 64 * (l : Int) := by
  induction l with
  | zero => exact ⟨Int.le_refl _, Int.le_refl _⟩
  | succ l ih =>
    have h1 := ih (by omega)
    have h2 := cnt_rng (vO z m p x l) (z (l + 1))
    have h3 := hz (l + 1) hl
    show 0 ≤ vC z m p x l + cntV (vO z m p x l) (z (l + 1)) ∧ vC z m p x l + cntV (vO z m p x l) (z (l + 1)) ≤ _
    omega
theorem slX_sq (y t : Nat → Int) (i : Nat) : slX true y t i = clv (y i - t i) := by unfold slX dsX; rw [if_pos rfl]
theorem slX_hg (y t : Nat → Int) (i : Nat) : slX false y t i = if 0 < hgX y t i then clv (0 - t i) else 0 := by unfold slX; rw [if_neg (by simp)]
theorem slC_sq (y t : Nat → Int) (n : Nat) : slC true y t n = cntV (dsO y t) n := by unfold slC; rw [if_pos rfl]
theorem slC_hg (y t : Nat → Int) (n : Nat) : slC false y t n = cntV (mpO y t) n + cntV (hgO y t) n + cntV (slO y t) n := by unfold slC; rw [if_neg (by simp)]
theorem slO_hg (y t : Nat → Int) (i : Nat) : slO y t i = if 0 < hgX y t i then ovv (0 - t i) else false := by unfold slO; rfl
theorem lsS_sq (y t : Nat → Int) (n : Nat) : lsS true y t n = rr (dotV (dsX y t) (dsX y t) n) 33 := by unfold lsS; rw [if_pos rfl]
theorem lsS_hg (y t : Nat → Int) (n : Nat) : lsS false y t n = sumV (posV (hgX y t)) n := by unfold lsS; rw [if_neg (by simp)]
theorem lsP_sq (y t : Nat → Int) (n : Nat) : lsP true y t n = cntV (dsO y t) n := by unfold lsP; rw [if_pos rfl]
theorem lsP_hg (y t : Nat → Int) (n : Nat) : lsP false y t n = cntV (mpO y t) n + cntV (hgO y t) n := by unfold lsP; rw [if_neg (by simp)]
end Go.Proofs.YtdfjnbkkdgolnabGreatDoor
set_option linter.unusedVariables false
set_option linter.unusedSimpArgs false
namespace Go.Proofs.YtdfjnbkkdgolnabGreatDoor
open Go.RowKit
theorem B12.block {b : Nat} {x y : Nat → Int} {w w' : World} (h : B12 b x y w) (e : w'.heap[b]? = w.heap[b]?) : B12 b x y w' :=
  ⟨fun k hk => (World.cell?_of_block (w := w) e).trans (h.c k hk), fun k hk => (World.cell?_of_block (w := w) e).trans (h.d k hk), fun k hk => (World.frozen?_of_block (w := w) e).trans (h.f k hk), fun k hk => (World.frozen?_of_block (w := w) e).trans (h.g k hk)⟩
theorem B12.un {b : Nat} {x y : Nat → Int} {w w' : World} {d : Nat} {c : Int} (h : B12 b x y w) (hU : Un d c w w') (hb : b ≠ d) : B12 b x y w' := h.block (hU.k b h.lt hb)
/-- A list's number at a place, with its address. -/
theorem Ar.spot {w : World} {v : Value} {n : Nat} {f : Nat → Int} (h : Ar w v n f) (j : Nat) (hj : j < n) : ∃ (b o cap : Nat), v = .slice (some ⟨b, o, none⟩) n cap ∧ cap ≤ maxLen ∧ n ≤ cap ∧ (∀ k, k < n → w.cell? ⟨b, o + k, none⟩ = some (.int .i64 (f k))) ∧ ∀ k, k < n → -9223372036854775808 ≤ f k ∧ f k ≤ 9223372036854775807 := by
  obtain ⟨adr, cap, b, o, h1, h2, h3, h4, h5⟩ := h
  have e := h4 (by omega)
  subst e
  exact ⟨b, o, cap, h1, h3, h2, fun k hk => (h5 k hk).1, fun k hk => (h5 k hk).2⟩
theorem Ar.spare {w : World} {v : Value} {n : Nat} {f : Nat → Int} (h : Ar w v n f) {d : Nat} (hd : w.heap.size ≤ d) : Nb v d := by
  intro a n' cap e hn
  obtain ⟨adr, ca, b, o, e2, h2, h3, h4, h5⟩ := h
  rw [e] at e2
  cases e2
  have e3 := h4 (by omega)
  cases e3
  have := World.block_lt_of_cell? _ _ (h5 0 (by omega)).1
  dsimp only at *
  omega
theorem Ar.stay {w w' : World} {v : Value} {n : Nat} {f : Nat → Int} (h : Ar w v n f) (hk : ∀ (a : Addr) (n' cap : Nat), v = .slice (some a) n' cap → 0 < n' → w'.heap[a.block]? = w.heap[a.block]?) : Ar w' v n f := by
  obtain ⟨adr, cap, b, o, e, h1, h2, h3, h4⟩ := h
  refine ⟨adr, cap, b, o, e, h1, h2, h3, fun k hk' => ⟨?_, (h4 k hk').2⟩⟩
  have e2 := h3 (by omega)
  subst e2
  exact (World.cell?_of_block (w := w) (a := ⟨b, o + k, none⟩) (hk ⟨b, o, none⟩ n cap e (by omega))).trans (h4 k hk').1
/-- A list of lists, apart from a unit. -/
def Ls (w : World) (d : Nat) (v : Value) (m : Nat) (ns : Nat → Nat) (fs : Nat → Nat → Int) : Prop :=
  ∃ (g cap : Nat), v = .slice (some ⟨g, 0, none⟩) m cap ∧ m ≤ cap ∧ cap ≤ maxLen ∧ g ≠ d ∧ ∀ k, k < m → ∃ va : Value, w.cell? ⟨g, k, none⟩ = some va ∧ Ar w va (ns k) (fs k) ∧ Nb va d
theorem Ls.later {w w' : World} {d : Nat} {v : Value} {m : Nat} {ns : Nat → Nat} {fs : Nat → Nat → Int} (h : Ls w d v m ns fs) (hb : Below w.heap.size w w') : Ls w' d v m ns fs := by
  obtain ⟨g, cap, e, h1, h2, h3, h4⟩ := h
  exact ⟨g, cap, e, h1, h2, h3, fun k hk => by obtain ⟨va, c, a, x⟩ := h4 k hk; exact ⟨va, cell_later hb c, a.later hb, x⟩⟩
theorem Ls.un {w w' : World} {d : Nat} {v : Value} {m : Nat} {ns : Nat → Nat} {fs : Nat → Nat → Int} {c : Int} (h : Ls w d v m ns fs) (hU : Un d c w w') : Ls w' d v m ns fs := by
  obtain ⟨g, cap, e, h1, h2, h3, h4⟩ := h
  exact ⟨g, cap, e, h1, h2, h3, fun k hk => by obtain ⟨va, cc, a, x⟩ := h4 k hk; exact ⟨va, hU.o _ _ h3 cc, a.un x hU, x⟩⟩
theorem Bx.un {b : Nat} {x y : Value} {w w' : World} {d : Nat} {c : Int} (h : Bx b x y w) (hU : Un d c w w') (hb : b ≠ d) : Bx b x y w' := by
  have e := hU.k b (World.block_lt_of_cell? _ _ h.c0) hb
  exact ⟨(World.cell?_of_block (w := w) e).trans h.c0, (World.cell?_of_block (w := w) e).trans h.c1, (World.frozen?_of_block (w := w) e).trans h.f0, (World.frozen?_of_block (w := w) e).trans h.f1⟩
end Go.Proofs.YtdfjnbkkdgolnabGreatDoor
set_option linter.unusedVariables false
set_option linter.unusedSimpArgs false
namespace Go.Proofs.YtdfjnbkkdgolnabGreatDoor
open Go.RowKit

theorem Rw.un {b n : Nat} {h : Nat → Value} {w w' : World} {d : Nat} {c : Int} (r : Rw b n h w) (hU : Un d c w w') (hb : b ≠ d) (hl : b < w.heap.size) : Rw b n h w' := r.block (hU.k b hl hb)
end Go.Proofs.YtdfjnbkkdgolnabGreatDoor
set_option linter.unusedVariables false
set_option linter.unusedSimpArgs false
namespace Go.Proofs.YtdfjnbkkdgolnabGreatDoor
open Go.RowKit

/-- How many are held of the first j of a hinge's slope. -/
def hsC (f g : Nat → Int) (j : Nat) : Int := cntV (mpO f g) j + cntV (hgO f g) j + cntV (slO f g) j
end Go.Proofs.YtdfjnbkkdgolnabGreatDoor
set_option linter.unusedVariables false
set_option linter.unusedSimpArgs false
namespace Go.Proofs.YtdfjnbkkdgolnabGreatDoor
open Go.RowKit

/-- How many are held of the first j of a hinge's loss. -/
def hlC (f g : Nat → Int) (j : Nat) : Int := cntV (mpO f g) j + cntV (hgO f g) j
end Go.Proofs.YtdfjnbkkdgolnabGreatDoor
set_option linter.unusedVariables false
set_option linter.unusedSimpArgs false
namespace Go.Proofs.YtdfjnbkkdgolnabGreatDoor
open Go.RowKit

theorem wt_rng (z : Nat → Nat) (l u i : Nat) (hu : u < z (l + 1)) (hi : i < z l) : fsN z l ≤ wtN z l u i ∧ wtN z l u i < fsN z l + z l * z (l + 1) := by
  have h : (u + 1) * z l ≤ z (l + 1) * z l := Nat.mul_le_mul_right _ hu
  rw [Nat.succ_mul, Nat.mul_comm (z (l + 1))] at h
  unfold wtN
  omega
theorem of_rng (z : Nat → Nat) (l u : Nat) (hu : u < z (l + 1)) : fsN z l + z l * z (l + 1) ≤ ofN z l u ∧ ofN z l u < fsN z (l + 1) := ⟨by unfold ofN; omega, ofN_lt z l u hu⟩
/-- The layers from l on are filled in. -/
def GrL (z : Nat → Nat) (m : Nat) (V S : Nat → Nat → Int) (l : Nat) (F : Nat → Int) : Prop := ∀ l', l ≤ l' → l' + 1 < m → ∀ u, u < z (l' + 1) → (∀ i, i < z l' → F (wtN z l' u i) = gwX (S l') (V l') u i) ∧ F (ofN z l' u) = S l' u
theorem grL_all {z : Nat → Nat} {m : Nat} {V S : Nat → Nat → Int} {F : Nat → Int} (h : GrL z m V S 0 F) : Grd z m V S F := fun l hl u hu => h l (Nat.zero_le _) hl u hu
theorem grL_none (z : Nat → Nat) (m : Nat) (V S : Nat → Nat → Int) (F : Nat → Int) (l : Nat) (hl : m ≤ l + 1) : GrL z m V S l F := fun l' h1 h2 => by omega
theorem grC_rng (s v : Nat → Int) (n u : Nat) (hn : n ≤ 64) : 0 ≤ grC s v n u ∧ grC s v n u ≤ 64 * (u : Int) := by
  induction u with
  | zero => exact ⟨Int.le_refl _, Int.le_refl _⟩
  | succ u ih =>
    have h := cnt_rng (gwO s v u) n
    show 0 ≤ grC s v n u + cntV (gwO s v u) n ∧ grC s v n u + cntV (gwO s v u) n ≤ _
    omega
theorem bkC_rng (z : Nat → Nat) (m : Nat) (p : Nat → Int) (V S : Nat → Nat → Int) (k : Nat) (hz : ∀ i, i < m → z i ≤ 64) (hk : k + 1 ≤ m) : 0 ≤ bkC z m p V S k ∧ bkC z m p V S k ≤ 4160 * (k : Int) := by
  induction k with
  | zero => exact ⟨Int.le_refl _, Int.le_refl _⟩
  | succ k ih =>
    have h0 := ih (by omega)
    have hz1 := hz (m - 2 - k) (by omega)
    have hz2 := hz (m - 1 - k) (by omega)
    have h1 := grC_rng (S (m - 2 - k)) (V (m - 2 - k)) (z (m - 2 - k)) (z (m - 1 - k)) hz1
    have h2 := cnt_rng (ahO z p (S (m - 2 - k)) (V (m - 2 - k)) (m - 2 - k)) (z (m - 2 - k))
    show 0 ≤ bkC z m p V S k + grC (S (m - 2 - k)) (V (m - 2 - k)) (z (m - 2 - k)) (z (m - 1 - k)) + (if m - 2 - k = 0 then 0 else cntV (ahO z p (S (m - 2 - k)) (V (m - 2 - k)) (m - 2 - k)) (z (m - 2 - k))) ∧ _ + _ + _ ≤ _
    split <;> omega
theorem lsC_rng (s : Bool) (y t : Nat → Int) (n : Nat) : 0 ≤ lsC s y t n ∧ lsC s y t n ≤ 2 * (n : Int) + 1 := by
  have h1 := cnt_rng (dsO y t) n
  have h2 := cnt_rng (mpO y t) n
  have h3 := cnt_rng (hgO y t) n
  have h4 := bi_rng (ovv (lsS s y t n))
  unfold lsC lsP
  split <;> omega
theorem slC_rng (s : Bool) (y t : Nat → Int) (n : Nat) : 0 ≤ slC s y t n ∧ slC s y t n ≤ 3 * (n : Int) := by
  have h1 := cnt_rng (dsO y t) n
  have h2 := cnt_rng (mpO y t) n
  have h3 := cnt_rng (hgO y t) n
  have h4 := cnt_rng (slO y t) n
  unfold slC
  split <;> omega
/-- The kind of a loss, by its number. -/
def lsK (s : Bool) : Int := if s = true then 1 else 2
theorem Ar.put {w : World} {v : Value} {n : Nat} {f : Nat → Int} (h : Ar w v n f) {p : Addr} (hN : Nb v p.block) (u : Value) : Ar (w.setCell p u) v n f := by
  refine h.stay (fun a n' cap e hn => Below.heap_setCell _ _ _ _ ?_)
  exact hN a n' cap e hn
end Go.Proofs.YtdfjnbkkdgolnabGreatDoor
set_option linter.unusedVariables false
set_option linter.unusedSimpArgs false
namespace Go.Proofs.YtdfjnbkkdgolnabGreatDoor
open Go.RowKit

/-- How many are held of a gradient. -/
def gdC (s : Bool) (z : Nat → Nat) (m : Nat) (P x t : Nat → Int) : Int :=
  vC z m P x (m - 1) + lsC s (vN z m P x (m - 1)) t (z (m - 1)) + slC s (vN z m P x (m - 1)) t (z (m - 1)) + bkC z m P (vN z m P x) (sL z m P (vN z m P x) (slX s (vN z m P x (m - 1)) t)) (m - 1)
/-- The slopes of a net, layer by layer. -/
def gdS (s : Bool) (z : Nat → Nat) (m : Nat) (P x t : Nat → Int) : Nat → Nat → Int := sL z m P (vN z m P x) (slX s (vN z m P x (m - 1)) t)
theorem sL_rng (z : Nat → Nat) (m : Nat) (p : Nat → Int) (V : Nat → Nat → Int) (s0 : Nat → Int) (h0 : ∀ i, -9223372036854775808 ≤ s0 i ∧ s0 i ≤ 9223372036854775807) (l i : Nat) : -9223372036854775808 ≤ sL z m p V s0 l i ∧ sL z m p V s0 l i ≤ 9223372036854775807 := by
  unfold sL
  generalize m - 2 - l = k
  cases k with
  | zero => exact h0 i
  | succ k => exact ahX_rng _ _ _ _ _ _
end Go.Proofs.YtdfjnbkkdgolnabGreatDoor
set_option linter.unusedVariables false
set_option linter.unusedSimpArgs false
namespace Go.Proofs.YtdfjnbkkdgolnabGreatDoor
open Go.RowKit

/-- The part of the gradient at a place of layer l. -/
def gLay (z : Nat → Nat) (V S : Nat → Nat → Int) (l j : Nat) : Int :=
  if j < fsN z l + z l * z (l + 1) then gwX (S l) (V l) ((j - fsN z l) / z l) ((j - fsN z l) % z l) else S l (j - (fsN z l + z l * z (l + 1)))
/-- The gradient of the first n layers. -/
def gAll (z : Nat → Nat) (V S : Nat → Nat → Int) : Nat → Nat → Int
  | 0, _ => 0
  | n + 1, j => if j < fsN z n then gAll z V S n j else gLay z V S n j
theorem gAll_at (z : Nat → Nat) (V S : Nat → Nat → Int) (n l j : Nat) (hl : l < n) (h1 : fsN z l ≤ j) (h2 : j < fsN z (l + 1)) : gAll z V S n j = gLay z V S l j := by
  induction n with
  | zero => omega
  | succ n ih =>
    show (if j < fsN z n then gAll z V S n j else gLay z V S n j) = _
    rcases Nat.lt_or_ge l n with h | h
    · have hm := fsN_mono z (show l + 1 ≤ n from h)
      rw [if_pos (by omega)]
      exact ih h
    · obtain rfl : l = n := by omega
      rw [if_neg (by omega)]
theorem grd_all (z : Nat → Nat) (m : Nat) (V S : Nat → Nat → Int) : Grd z m V S (gAll z V S (m - 1)) := fun l hl u hu => by
  refine ⟨fun i hi => ?_, ?_⟩
  · have h := wt_rng z l u i hu hi
    have h3 := wtN_lt z l u i hu hi
    rw [gAll_at z V S (m - 1) l _ (by omega) h.1 h3]
    unfold gLay
    rw [if_pos h.2]
    have e : wtN z l u i - fsN z l = z l * u + i := by unfold wtN; rw [Nat.mul_comm]; omega
    rw [e, Nat.mul_add_div (by omega), Nat.div_eq_of_lt hi, Nat.add_zero, Nat.mul_add_mod, Nat.mod_eq_of_lt hi]
  · have h := of_rng z l u hu
    have h4 : fsN z l ≤ ofN z l u := by omega
    rw [gAll_at z V S (m - 1) l _ (by omega) h4 h.2]
    unfold gLay
    rw [if_neg (by omega)]
    have e : ofN z l u - (fsN z l + z l * z (l + 1)) = u := by unfold ofN; omega
    rw [e]
/-- The gradient of a net at an example. -/
def gdG (s : Bool) (z : Nat → Nat) (m : Nat) (P x t : Nat → Int) : Nat → Int := gAll z (vN z m P x) (gdS s z m P x t) (m - 1)
/-- The loss of a net at an example. -/
def gdX (s : Bool) (z : Nat → Nat) (m : Nat) (P x t : Nat → Int) : Int := lsX s (vN z m P x (m - 1)) t (z (m - 1))
theorem Ar.congr {w : World} {v : Value} {n : Nat} {f g : Nat → Int} (h : Ar w v n f) (e : ∀ k, k < n → f k = g k) : Ar w v n g := by
  obtain ⟨adr, cap, b, o, h1, h2, h3, h4, h5⟩ := h
  exact ⟨adr, cap, b, o, h1, h2, h3, h4, fun k hk => by rw [← e k hk]; exact h5 k hk⟩
/-- Examples: an input and targets each, apart from a unit. -/
def Exs (w : World) (d b o K : Nat) (nx nt : Nat → Nat) (xs ts : Nat → Nat → Int) : Prop :=
  b ≠ d ∧ ∀ k, k < K → ∃ vx vt : Value, w.cell? ⟨b, o + k * 2, none⟩ = some vx ∧ w.cell? ⟨b, o + k * 2 + 1, none⟩ = some vt ∧ Ar w vx (nx k) (xs k) ∧ Ar w vt (nt k) (ts k) ∧ Nb vx d ∧ Nb vt d
theorem Exs.later {w w' : World} {d b o K : Nat} {nx nt : Nat → Nat} {xs ts : Nat → Nat → Int} (h : Exs w d b o K nx nt xs ts) (hb : Below w.heap.size w w') : Exs w' d b o K nx nt xs ts :=
  ⟨h.1, fun k hk => by obtain ⟨vx, vt, h1, h2, h3, h4, h5, h6⟩ := h.2 k hk; exact ⟨vx, vt, cell_later hb h1, cell_later hb h2, h3.later hb, h4.later hb, h5, h6⟩⟩
theorem Exs.un {w w' : World} {d b o K : Nat} {nx nt : Nat → Nat} {xs ts : Nat → Nat → Int} {c : Int} (h : Exs w d b o K nx nt xs ts) (hU : Un d c w w') : Exs w' d b o K nx nt xs ts :=
  ⟨h.1, fun k hk => by obtain ⟨vx, vt, h1, h2, h3, h4, h5, h6⟩ := h.2 k hk; exact ⟨vx, vt, hU.o _ _ h.1 h1, hU.o _ _ h.1 h2, h3.un h5 hU, h4.un h6 hU, h5, h6⟩⟩
end Go.Proofs.YtdfjnbkkdgolnabGreatDoor
set_option linter.unusedVariables false
set_option linter.unusedSimpArgs false
namespace Go.Proofs.YtdfjnbkkdgolnabGreatDoor
open Go.RowKit

/-- What the program's functions ask of the world (a table that they read). -/
def VT (w : World) : Prop := TabAt w
theorem VT.later {w w' : World} (h : VT w) (hb : Below w.heap.size w w') : VT w' := TabAt.later h hb
/-- A unit's cell. -/
def Uc (w : World) (d : Nat) (c : Int) : Prop := w.cell? ⟨d, 0, none⟩ = some (.int .i64 c) ∧ w.frozen? ⟨d, 0, none⟩ = false
def dE (n m : Nat) : Int := if 65536 < n ∨ 65536 < m then 3 else if n = m then 0 else 40
def dX (n m : Nat) (f g : Nat → Int) : Int := if dE n m = 0 then clv (rr (dotV f g n) 32) else 0
def dO (n m : Nat) (f g : Nat → Int) : Bool := if dE n m = 0 then ovv (rr (dotV f g n) 32) else false
def sE (n : Nat) : Int := if 65536 < n then 3 else 0
def sX (n : Nat) (f : Nat → Int) : Int := if sE n = 0 then clv (sumV f n) else 0
def sO (n : Nat) (f : Nat → Int) : Bool := if sE n = 0 then ovv (sumV f n) else false
def nX (n : Nat) (f : Nat → Int) : Int := if sE n = 0 then rtX (dotV f f n) else 0
/-- The state of a law: two units, and whatever was there is there. -/
structure L2 (w : World) (du dv : Nat) (cu cv : Int) (wz : World) : Prop where
  B : Below w.heap.size w wz
  u : Uc wz du cu
  v : Uc wz dv cv
theorem Uc.later {w w' : World} {d : Nat} {c : Int} (h : Uc w d c) (hb : Below w.heap.size w w') : Uc w' d c := ⟨cell_later hb h.1, frozen_later hb h.1 h.2⟩
theorem Uc.un {w w' : World} {d d' : Nat} {c c' : Int} (h : Uc w d c) (hU : Un d' c' w w') (hd : d ≠ d') : Uc w' d c := by
  have hb := World.block_lt_of_cell? _ _ h.1
  have e := hU.k d hb hd
  exact ⟨(World.cell?_of_block (w := w) e).trans h.1, (World.frozen?_of_block (w := w) e).trans h.2⟩
theorem L2.later {w : World} {du dv : Nat} {cu cv : Int} {wz wy : World} (h : L2 w du dv cu cv wz) (hb : Below wz.heap.size wz wy) : L2 w du dv cu cv wy := ⟨bchain h.B hb, h.u.later hb, h.v.later hb⟩
theorem Ar.nb {w : World} {v : Value} {n : Nat} {f : Nat → Int} (h : Ar w v n f) {d : Nat} (hd : w.heap.size ≤ d) : Nb v d := by
  obtain ⟨adr, cap, b, o, rfl, h2, h3, h4, h5⟩ := h
  intro a n' cap' e hn
  have e2 := h4 (by cases e; exact hn)
  subst e2
  cases e
  have h6 : b < w.heap.size := World.block_lt_of_cell? _ _ (h5 0 hn).1
  show b ≠ d
  omega
end Go.Proofs.YtdfjnbkkdgolnabGreatDoor
set_option linter.unusedVariables false
set_option linter.unusedSimpArgs false
namespace Go.Proofs.YtdfjnbkkdgolnabGreatDoor
open Go.RowKit
attribute [local go_sem ↓] Go.wp_at_zero Go.wp_at_succ

def two (a b : Int) (k : Nat) : Int := if k = 0 then a else b
end Go.Proofs.YtdfjnbkkdgolnabGreatDoor
set_option linter.unusedVariables false
set_option linter.unusedSimpArgs false
namespace Go.Proofs.YtdfjnbkkdgolnabGreatDoor
open Go.RowKit

def cE (E c : Int) : Int := if E = 0 then c else 0
/-- A list that is answered: so many numbers in memory of its own, or none beside an error. -/
def LL (w w' : World) (v' : Value) (n : Nat) (F : Nat → Int) (E : Int) : Prop :=
  (E = 0 → Ar w' v' n F) ∧ (E ≠ 0 → ∃ ad cap, v' = .slice ad 0 cap) ∧ Ow w.heap.size v'
/-- A list that lies apart from both units. -/
structure An (du dv : Nat) (v : Value) (n : Nat) (f : Nat → Int) (wz : World) : Prop where
  a : Ar wz v n f
  u : Nb v du
  v : Nb v dv
theorem An.later {du dv : Nat} {v : Value} {n : Nat} {f : Nat → Int} {wz wy : World} (h : An du dv v n f wz) (hb : Below wz.heap.size wz wy) : An du dv v n f wy := ⟨h.a.later hb, h.u, h.v⟩
theorem An.new {w : World} {du dv : Nat} {cu cv : Int} {wz wy : World} {v : Value} {n : Nat} {f : Nat → Int} (L : L2 w du dv cu cv wz) (hA : Ar wy v n f) (hO : Ow wz.heap.size v) : An du dv v n f wy :=
  ⟨hA, hO.nb (World.block_lt_of_cell? _ _ L.u.1), hO.nb (World.block_lt_of_cell? _ _ L.v.1)⟩
end Go.Proofs.YtdfjnbkkdgolnabGreatDoor
set_option linter.unusedVariables false
set_option linter.unusedSimpArgs false
namespace Go.Proofs.YtdfjnbkkdgolnabGreatDoor
open Go.RowKit
theorem Un.from {d : Nat} {n : Int} {w w1 w2 : World} (hb : Below w.heap.size w w1) (h : Un d n w1 w2) : Un d n w w2 := Un.after hb h
end Go.Proofs.YtdfjnbkkdgolnabGreatDoor
set_option linter.unusedVariables false
set_option linter.unusedSimpArgs false
namespace Go.Proofs.YtdfjnbkkdgolnabGreatDoor
open Go.RowKit
theorem below_own {B : Nat} {w wr w1 : World} {e : TypeId} {s : Nat} {v : Value} {n : Nat} {xs : List Value} {o : Obj} (hW : Below B w wr) (hB : B ≤ wr.heap.size) (hown : wr.ownsRow B e s v n xs) (hg : (wr.alloc o).grownBy w1 v.ownBlock) : Below B w w1 :=
  (hW.alloc hB o).grown hg (by rw [World.size_alloc]; omega) (fun k hk => (hown.lt k hk).1)
end Go.Proofs.YtdfjnbkkdgolnabGreatDoor
set_option linter.unusedVariables false
set_option linter.unusedSimpArgs false
namespace Go.Proofs.YtdfjnbkkdgolnabGreatDoor
open Go.RowKit

/-- A list of lists, apart from a block. -/
structure As (w : World) (d b o K n : Nat) (fs : Nat → Nat → Int) : Prop where
  c : ∀ k, k < K → ∃ va : Value, w.cell? ⟨b, o + k, none⟩ = some va ∧ Ar w va n (fs k) ∧ Nb va d
  a : b ≠ d
theorem As.un {w w' : World} {d b o K n : Nat} {fs : Nat → Nat → Int} {c : Int} (h : As w d b o K n fs) (hU : Un d c w w') : As w' d b o K n fs :=
  ⟨fun k hk => by obtain ⟨va, h1, h2, h3⟩ := h.c k hk; exact ⟨va, hU.o _ _ h.a h1, h2.un h3 hU, h3⟩, h.a⟩
theorem As.later {w w' : World} {d b o K n : Nat} {fs : Nat → Nat → Int} (h : As w d b o K n fs) (hb : Below w.heap.size w w') : As w' d b o K n fs :=
  ⟨fun k hk => by obtain ⟨va, h1, h2, h3⟩ := h.c k hk; exact ⟨va, cell_later hb h1, h2.later hb, h3⟩, h.a⟩
end Go.Proofs.YtdfjnbkkdgolnabGreatDoor
set_option linter.unusedVariables false
set_option linter.unusedSimpArgs false
namespace Go.Proofs.YtdfjnbkkdgolnabGreatDoor
open Go.RowKit

/-- A matrix's block: three cells. -/
structure M3 (b : Nat) (x y z : Value) (w : World) : Prop where
  c0 : w.cell? ⟨b, 0, none⟩ = some x
  c1 : w.cell? ⟨b, 1, none⟩ = some y
  c2 : w.cell? ⟨b, 2, none⟩ = some z
  f0 : w.frozen? ⟨b, 0, none⟩ = false
  f1 : w.frozen? ⟨b, 1, none⟩ = false
  f2 : w.frozen? ⟨b, 2, none⟩ = false
theorem M3.later {b : Nat} {x y z : Value} {w w' : World} (h : M3 b x y z w) (hb : Below w.heap.size w w') : M3 b x y z w' :=
  ⟨cell_later hb h.c0, cell_later hb h.c1, cell_later hb h.c2, frozen_later hb h.c0 h.f0, frozen_later hb h.c1 h.f1, frozen_later hb h.c2 h.f2⟩
theorem M3.lt {b : Nat} {x y z : Value} {w : World} (h : M3 b x y z w) : b < w.heap.size := World.block_lt_of_cell? _ _ h.c0
theorem M3.new (w : World) (x y z : Value) (t : TypeId) : M3 w.heap.size x y z (w.alloc (.cells #[x, y, z] t)) :=
  ⟨by simp [go_sem], by simp [go_sem], by simp [go_sem], by simp [go_sem], by simp [go_sem], by simp [go_sem]⟩
theorem M3.far {b : Nat} {x y z : Value} {w : World} {p : Addr} (h : M3 b x y z w) (u : Value) (hp : p.block ≠ b) : M3 b x y z (w.setCell p u) :=
  ⟨cell_set hp h.c0, cell_set hp h.c1, cell_set hp h.c2, by rw [World.frozen?_setCell]; exact h.f0, by rw [World.frozen?_setCell]; exact h.f1, by rw [World.frozen?_setCell]; exact h.f2⟩
theorem M3.all {b : Nat} {x y z : Value} {w : World} (h : M3 b x y z w) (x' y' z' : Value) : M3 b x' y' z' (((w.setCell ⟨b, 0, none⟩ x').setCell ⟨b, 1, none⟩ y').setCell ⟨b, 2, none⟩ z') := by
  have c0 := h.c0
  have c1 := h.c1
  have c2 := h.c2
  have f0 := h.f0
  have f1 := h.f1
  have f2 := h.f2
  refine ⟨?_, ?_, ?_, ?_, ?_, ?_⟩ <;> simp [go_sem, c0, c1, c2, f0, f1, f2]
theorem Ar.set {w : World} {v : Value} {n : Nat} {f : Nat → Int} {p : Addr} (h : Ar w v n f) (hd : Nb v p.block) (u : Value) : Ar (w.setCell p u) v n f := by
  obtain ⟨adr, cap, b, o, h1, h2, h3, h4, h5⟩ := h
  refine ⟨adr, cap, b, o, h1, h2, h3, h4, fun k hk => ⟨?_, (h5 k hk).2⟩⟩
  have e := h4 (by omega)
  subst e
  subst h1
  exact cell_set (fun e => hd _ _ _ rfl (by omega) e.symm) (h5 k hk).1
end Go.Proofs.YtdfjnbkkdgolnabGreatDoor
set_option linter.unusedVariables false
set_option linter.unusedSimpArgs false
namespace Go.Proofs.YtdfjnbkkdgolnabGreatDoor
open Go.RowKit

def otX (f g : Nat → Int) (m : Nat) (k : Nat) : Int := clv (rnd (f (k / m) * g (k % m)) 32)
def otN (f g : Nat → Int) (m : Nat) : Nat → Int
  | 0 => 0
  | i + 1 => otN f g m i + cntV (fun k => ovv (rnd (f i * g k) 32)) m
theorem ot_rng (f g : Nat → Int) (m : Nat) (i : Nat) : 0 ≤ otN f g m i ∧ otN f g m i ≤ ((i * m : Nat) : Int) := by
  induction i with
  | zero => simp [otN]
  | succ i ih =>
    have h := cnt_rng (fun k => ovv (rnd (f i * g k) 32)) m
    rw [Nat.add_mul, Nat.one_mul]
    show 0 ≤ otN f g m i + cntV _ m ∧ otN f g m i + cntV _ m ≤ _
    rw [Int.natCast_add]
    omega
theorem il_one (f : Nat → Int) (n : Nat) : ∀ u ∈ il f n, u.oneCell' = true := by
  intro u hu
  unfold il at hu
  obtain ⟨k, _, rfl⟩ := List.mem_map.1 hu
  rfl
theorem M3.block {b : Nat} {x y z : Value} {w w' : World} (h : M3 b x y z w) (e : w'.heap[b]? = w.heap[b]?) : M3 b x y z w' :=
  ⟨(World.cell?_of_block (w := w) e).trans h.c0, (World.cell?_of_block (w := w) e).trans h.c1, (World.cell?_of_block (w := w) e).trans h.c2, (World.frozen?_of_block (w := w) e).trans h.f0, (World.frozen?_of_block (w := w) e).trans h.f1, (World.frozen?_of_block (w := w) e).trans h.f2⟩
theorem M3.un {b : Nat} {x y z : Value} {w w' : World} {d : Nat} {c : Int} (h : M3 b x y z w) (hU : Un d c w w') (hb : b ≠ d) : M3 b x y z w' := h.block (hU.k b h.lt hb)
end Go.Proofs.YtdfjnbkkdgolnabGreatDoor
set_option linter.unusedVariables false
set_option linter.unusedSimpArgs false
namespace Go.Proofs.YtdfjnbkkdgolnabGreatDoor
open Go.RowKit
attribute [local go_sem ↓] Go.wp_at_zero Go.wp_at_succ

end Go.Proofs.YtdfjnbkkdgolnabGreatDoor
set_option linter.unusedVariables false
set_option linter.unusedSimpArgs false
namespace Go.Proofs.YtdfjnbkkdgolnabGreatDoor

/-- The stir. -/
def stY (x : Nat) : Nat := (x ^^^ x / 4294967296) * 11400714819323198549 % 18446744073709551616
def stZ (y : Nat) : Nat := (y ^^^ y / 536870912) * 15241094284759029579 % 18446744073709551616
def stN (x : Nat) : Nat := stZ (stY x) ^^^ stZ (stY x) / 4294967296
/-- A number as 64 bits without a sign. -/
def u6 (n : Int) : Nat := (n % 18446744073709551616).toNat
/-- One number more stirred in. -/
def mxN (w : Nat) (n : Int) : Nat := stN (((w ^^^ u6 n) + 14029467366897019727) % 18446744073709551616)
/-- A key's root. -/
def rtN (s : Nat) (a b c : Int) : Nat := mxN (mxN (mxN (stN ((s + 7046029254386353131) % 18446744073709551616)) a) b) c
/-- A word. -/
def wdN (s : Nat) (a b c i : Int) : Nat := stN (rtN s a b c ^^^ (u6 i * 11400714819323198485 % 18446744073709551616))
/-- What a round of a trip stirs in: the lowest bits of a word. -/
def rfN (s : Nat) (a b c : Int) (S t r : Nat) : Nat := wdN s a b c (1024 * (t : Int) + (r : Int)) % S
theorem rfN_lt (s : Nat) (a b c : Int) (S t r : Nat) (hS : 0 < S) : rfN s a b c S t r < S := Nat.mod_lt _ hS
/-- How wide a half is: the least power of two, 2 at least, whose square isn't below n. -/
def Hf (n b : Nat) : Prop := 1 ≤ b ∧ n ≤ 2 ^ b * 2 ^ b ∧ (b = 1 ∨ 2 ^ (b - 1) * 2 ^ (b - 1) < n)
theorem Hf.one {n b c : Nat} (h : Hf n b) (h' : Hf n c) : b = c := by
  have key : ∀ p q : Nat, Hf n p → Hf n q → ¬ p < q := fun p q hp hq hlt => by
    rcases hq.2.2 with h1 | h1
    · have := hp.1; omega
    · have h2 : 2 ^ p ≤ 2 ^ (q - 1) := Nat.pow_le_pow_right (by omega) (by omega)
      have h3 := Nat.mul_le_mul h2 h2
      have h4 := hp.2.1
      omega
  rcases Nat.lt_trichotomy b c with h1 | h1 | h1
  · exact absurd h1 (key b c h h')
  · exact h1
  · exact absurd h1 (key c b h' h)
/-- Where i goes. -/
def Goes (s : Nat) (a b c : Int) (n i x : Nat) : Prop := ∃ k, Hf n k ∧ Gets (trp (rfN s a b c (2 ^ k)) (2 ^ k)) n i x
def Comes (s : Nat) (a b c : Int) (n j x : Nat) : Prop := ∃ k, Hf n k ∧ Gets (prt (rfN s a b c (2 ^ k)) (2 ^ k)) n j x
theorem Goes.one {s : Nat} {a b c : Int} {n i x y : Nat} (h : Goes s a b c n i x) (h' : Goes s a b c n i y) : x = y := by
  obtain ⟨k, h1, h2⟩ := h
  obtain ⟨q, h3, h4⟩ := h'
  obtain rfl := h1.one h3
  exact h2.one h4
theorem Comes.one {s : Nat} {a b c : Int} {n i x y : Nat} (h : Comes s a b c n i x) (h' : Comes s a b c n i y) : x = y := by
  obtain ⟨k, h1, h2⟩ := h
  obtain ⟨q, h3, h4⟩ := h'
  obtain rfl := h1.one h3
  exact h2.one h4
theorem Goes.comes {s : Nat} {a b c : Int} {n i x : Nat} (hi : i < n) (h : Goes s a b c n i x) : Comes s a b c n x i := by
  obtain ⟨k, h1, h2⟩ := h
  have hf : ∀ t r, rfN s a b c (2 ^ k) t r < 2 ^ k := fun t r => rfN_lt _ _ _ _ _ _ _ (Nat.two_pow_pos k)
  exact ⟨k, h1, h2.back (fun y hy => trp_lt _ k hf y hy) (fun y hy => prt_trp _ k hf y hy) h1.2.1 hi⟩
theorem Comes.goes {s : Nat} {a b c : Int} {n i x : Nat} (hi : i < n) (h : Comes s a b c n i x) : Goes s a b c n x i := by
  obtain ⟨k, h1, h2⟩ := h
  have hf : ∀ t r, rfN s a b c (2 ^ k) t r < 2 ^ k := fun t r => rfN_lt _ _ _ _ _ _ _ (Nat.two_pow_pos k)
  exact ⟨k, h1, h2.back (fun y hy => prt_lt _ k hf y hy) (fun y hy => trp_prt _ k hf y hy) h1.2.1 hi⟩
theorem Goes.lt {s : Nat} {a b c : Int} {n i x : Nat} (h : Goes s a b c n i x) : x < n := by
  obtain ⟨k, -, m, -, -, h3, -⟩ := h
  exact h3
theorem Comes.lt {s : Nat} {a b c : Int} {n i x : Nat} (h : Comes s a b c n i x) : x < n := by
  obtain ⟨k, -, m, -, -, h3, -⟩ := h
  exact h3
end Go.Proofs.YtdfjnbkkdgolnabGreatDoor
set_option linter.unusedVariables false
set_option linter.unusedSimpArgs false
namespace Go.Proofs.YtdfjnbkkdgolnabGreatDoor
open Go.RowKit

/-- A block of four cells. -/
structure K4 (b : Nat) (x y z u : Value) (w : World) : Prop where
  c0 : w.cell? ⟨b, 0, none⟩ = some x
  c1 : w.cell? ⟨b, 1, none⟩ = some y
  c2 : w.cell? ⟨b, 2, none⟩ = some z
  c3 : w.cell? ⟨b, 3, none⟩ = some u
theorem K4.later {b : Nat} {x y z u : Value} {w w' : World} (h : K4 b x y z u w) (hb : Below w.heap.size w w') : K4 b x y z u w' :=
  ⟨(hb.cell (World.block_lt_of_cell? _ _ h.c0)).trans h.c0, (hb.cell (World.block_lt_of_cell? _ _ h.c1)).trans h.c1, (hb.cell (World.block_lt_of_cell? _ _ h.c2)).trans h.c2, (hb.cell (World.block_lt_of_cell? _ _ h.c3)).trans h.c3⟩
end Go.Proofs.YtdfjnbkkdgolnabGreatDoor
set_option linter.unusedVariables false
set_option linter.unusedSimpArgs false
namespace Go.Proofs.YtdfjnbkkdgolnabGreatDoor
open Go.RowKit

/-- What mlp asks of the world. -/
def MT (w : World) : Prop := TabAt w
theorem MT.later {w w' : World} (h : MT w) (hb : Below w.heap.size w w') : MT w' := TabAt.later h hb
/-- Are sizes right? -/
def Rt (f : Nat → Int) (m : Nat) : Prop := 2 ≤ m ∧ m ≤ 6 ∧ szB f m
theorem Rt.szs {f : Nat → Int} {m : Nat} (h : Rt f m) : ∃ z : Nat → Nat, Szs z m ∧ ∀ i, i < m → f i = ((z i : Nat) : Int) := by
  obtain ⟨h1, h2, h3⟩ := h
  refine ⟨fun i => (f i).toNat, ⟨h1, h2, fun i hi => ?_⟩, fun i hi => ?_⟩
  · have := h3 i hi
    show 1 ≤ (f i).toNat ∧ (f i).toNat ≤ 64
    omega
  · have := h3 i hi
    show f i = (((f i).toNat : Nat) : Int)
    omega
/-- An empty answer. -/
def Emp (v : Value) : Prop := ∃ (ad : Option Addr) (cap : Nat), v = .slice ad 0 cap
/-- The first error of a net, a loss and an example; 0: none. -/
def rfE (f : Nat → Int) (m lp lx lt : Nat) (L : Int) (cp z0 zl : Nat) (E : Int) : Prop := (¬ Rt f m → E = 70) ∧ (Rt f m → ¬ (L = 1 ∨ L = 2) → E = 71) ∧ (Rt f m → (L = 1 ∨ L = 2) → ¬ (lp = cp ∧ lx = z0 ∧ lt = zl) → E = 40) ∧ (Rt f m → (L = 1 ∨ L = 2) → (lp = cp ∧ lx = z0 ∧ lt = zl) → E = 0)
structure Mlp4 : Prop where
  gradU : ∀ (s : Bool) (vs vp vx vt : Value) (m cp : Nat) (z : Nat → Nat) (P x t : Nat → Int) (d : Nat) (c : Int) (w : World), 0 ≤ c → c ≤ 100000 → Ar w vs m (fun i => ((z i : Nat) : Int)) → Ar w vp cp P → Ar w vx (z 0) x → Ar w vt (z (m - 1)) t → Szs z m → cp = fsN z (m - 1) → Nb vs d → Nb vp d → Nb vx d → Nb vt d → Uc w d c → MT w →
    Calls Tryz.prog 12 #[.pointer (some ⟨d, 0, none⟩), .int .i64 (lsK s), vs, vp, .agg #[vx, vt]] w fun e w' => ∃ v', e = .returned (.tuple #[v', .int .i64 (gdX s z m P x t), .int .i64 0]) ∧ Ar w' v' cp (gdG s z m P x t) ∧ Ow w.heap.size v' ∧ Un d (c + gdC s z m P x t) w w'
  gradN : ∀ (s : Bool) (vs vp vx vt : Value) (m cp : Nat) (z : Nat → Nat) (P x t : Nat → Int) (w : World), Ar w vs m (fun i => ((z i : Nat) : Int)) → Ar w vp cp P → Ar w vx (z 0) x → Ar w vt (z (m - 1)) t → Szs z m → cp = fsN z (m - 1) → MT w →
    Calls Tryz.prog 12 #[.pointer none, .int .i64 (lsK s), vs, vp, .agg #[vx, vt]] w fun e w' => ∃ v', e = .returned (.tuple #[v', .int .i64 (gdX s z m P x t), .int .i64 0]) ∧ Ar w' v' cp (gdG s z m P x t) ∧ Ow w.heap.size v' ∧ Below w.heap.size w w'
  gradE : ∀ (L : Int) (vs vp vx vt : Value) (m lp lx lt : Nat) (f P x t : Nat → Int) (z : Nat → Nat) (E : Int) (d : Nat) (c : Int) (w : World), m ≤ 100000 → Ar w vs m f → Ar w vp lp P → Ar w vx lx x → Ar w vt lt t → (∀ i, i < m → Rt f m → f i = ((z i : Nat) : Int)) → rfE f m lp lx lt L (fsN z (m - 1)) (z 0) (z (m - 1)) E → E ≠ 0 → Uc w d c → MT w →
    Calls Tryz.prog 12 #[.pointer (some ⟨d, 0, none⟩), .int .i64 L, vs, vp, .agg #[vx, vt]] w fun e w' => ∃ v', e = .returned (.tuple #[v', .int .i64 0, .int .i64 E]) ∧ Emp v' ∧ Un d c w w'
/-- Are lists short? -/
def shB (ns : Nat → Nat) (m : Nat) : Bool := (List.range m).all (fun k => decide (ns k ≤ 100))
theorem shB_no (ns : Nat → Nat) (m k : Nat) (hk : k < m) (h : 100 < ns k) : shB ns m = false := by
  cases hb : shB ns m with
  | false => rfl
  | true =>
    have := of_decide_eq_true (List.all_eq_true.1 hb k (List.mem_range.2 hk))
    omega
theorem shB_yes (ns : Nat → Nat) (m : Nat) (h : ∀ k, k < m → ns k ≤ 100) : shB ns m = true := List.all_eq_true.2 fun k hk => decide_eq_true (h k (List.mem_range.1 hk))
set_option maxHeartbeats 1000000 in
theorem short_any (g m cap : Nat) (ns : Nat → Nat) (hm : m ≤ 5) (h1 : m ≤ cap) (h2 : cap ≤ 100) (w : World) (hc : ∀ k, k < m → ns k ≤ maxLen ∧ ∃ (ad : Option Addr) (ca : Nat), w.cell? ⟨g, k, none⟩ = some (.slice ad (ns k) ca)) :
    Calls Tryz.prog 9 #[.slice (some ⟨g, 0, none⟩) m cap] w fun e w' => e = .returned (.bool (shB ns m)) ∧ w' = w := by
  have HC : Hid (∀ k, k < m → ns k ≤ maxLen ∧ ∃ (ad : Option Addr) (ca : Nat), w.cell? ⟨g, k, none⟩ = some (.slice ad (ns k) ca)) := hc
  clear hc
  obtain ⟨R, hR⟩ : ∃ R, shB ns m = R := ⟨_, rfl⟩
  have HR : Hid (shB ns m = R) := hR
  rw [hR]
  clear hR
  go_enter Tryz.func9, Tryz.ntmps9
  go_wp2
  go_loopw [7] (fun s7 wr => ∃ j : Nat, j ≤ m ∧ s7 = .int .i64 (j : Int) ∧ Hid (∀ k, k < j → ns k ≤ 100) ∧ wr = w) (fun s7 _ => m - (intOf s7).toNat)
  case atStart => exact ⟨0, by omega, rfl, fun k hk => by omega, rfl⟩
  case round =>
    obtain ⟨j, hj, rfl, hA, rfl⟩ := hrel
    by_cases hlt : j < m
    · have hjI : (j : Int) < (m : Int) := by omega
      obtain ⟨hl, ad, ca, hcell⟩ := HC.out j hlt
      unfold maxLen at hl
      by_cases h100 : ns j ≤ 100
      · have h2 : ¬ (100 : Int) < ((ns j : Nat) : Int) := by omega
        have HA2 : Hid (∀ k, k < j + 1 → ns k ≤ 100) := fun k hk => by
          rcases Nat.lt_or_ge k j with h | h
          · exact hA.out k h
          · obtain rfl : k = j := by omega
            exact h100
        clear hA h100
        go_wp2
        go_roundw
        case rel => exact ⟨j + 1, by omega, by go_num, HA2, trivial⟩
        case measure => simp [intOf]; omega
      · have h2 : (100 : Int) < ((ns j : Nat) : Int) := by omega
        have HF : Hid (R = false) := by show _ = _; rw [← HR.out]; exact shB_no ns m j hlt (by omega)
        clear hA h100 HR
        go_wp2
        go_ret
        exact ⟨by rw [HF.out]; rfl, rfl⟩
    · have HF : Hid (R = true) := by show _ = _; rw [← HR.out]; exact shB_yes ns m (fun k hk => hA.out k (by omega))
      have hjI : ¬ (j : Int) < (m : Int) := by omega
      clear hA HR
      go_wp2
      go_ret
      exact ⟨by rw [HF.out]; rfl, rfl⟩
end Go.Proofs.YtdfjnbkkdgolnabGreatDoor
set_option linter.unusedVariables false
set_option linter.unusedSimpArgs false
namespace Go.Proofs.YtdfjnbkkdgolnabGreatDoor
open Go.RowKit

/-- A yes or no. -/
def Tells (e : Ending) (p : Prop) : Prop := ∃ B : Bool, e = .returned (.bool B) ∧ (B = true ↔ p)
theorem tells_yes {p : Prop} (h : p) : Tells (.returned (.bool true)) p := ⟨true, rfl, by simp [h]⟩
theorem tells_no {p : Prop} (h : ¬ p) : Tells (.returned (.bool false)) p := ⟨false, rfl, by simp [h]⟩
theorem Tells.yes {e : Ending} {p : Prop} (h : Tells e p) (hp : p) : e = .returned (.bool true) := by
  obtain ⟨B, rfl, hB⟩ := h
  rw [hB.2 hp]
theorem Tells.no {e : Ending} {p : Prop} (h : Tells e p) (hp : ¬ p) : e = .returned (.bool false) := by
  obtain ⟨B, rfl, hB⟩ := h
  cases B
  · rfl
  · exact absurd (hB.1 rfl) hp
/-- Sizes as whole numbers from 0 on, where they are right. -/
def Zs (f : Nat → Int) (m : Nat) (z : Nat → Nat) : Prop := Rt f m → Szs z m ∧ ∀ i, i < m → f i = ((z i : Nat) : Int)
theorem zs_ex (f : Nat → Int) (m : Nat) : ∃ z, Zs f m z := by
  by_cases h : Rt f m
  · obtain ⟨z, h1, h2⟩ := h.szs
    exact ⟨z, fun _ => ⟨h1, h2⟩⟩
  · exact ⟨fun _ => 0, fun h' => absurd h' h⟩
/-- The count of parameters; -1 where sizes aren't right. -/
def ctN (f : Nat → Int) (m : Nat) (z : Nat → Nat) (C : Int) : Prop := (Rt f m → C = ((fsN z (m - 1) : Nat) : Int)) ∧ (¬ Rt f m → C = -1)
theorem count7_any (vs : Value) (m : Nat) (f : Nat → Int) (z : Nat → Nat) (hz : Zs f m z) (w : World) (hA : Ar w vs m f) : Calls Tryz.prog 15 #[vs] w fun e w' => ∃ C : Int, e = .returned (.int .i64 C) ∧ ctN f m z C ∧ Below w.heap.size w w' := by
  by_cases h : Rt f m
  · obtain ⟨h1, h2⟩ := hz h
    refine (count_yes vs m z w (hA.congr h2) h1).mono ?_
    rintro e w' ⟨rfl, hb⟩
    exact ⟨_, rfl, ⟨fun _ => rfl, fun h' => absurd h h'⟩, hb⟩
  · refine (count_no vs m f w hA h).mono ?_
    rintro e w' ⟨rfl, hb⟩
    exact ⟨_, rfl, ⟨fun h' => absurd h' h, fun _ => rfl⟩, hb⟩
/-- May a play go through with a net? -/
def fwP (f : Nat → Int) (m lp : Nat) (z : Nat → Nat) : Prop := m ≤ 10 ∧ lp ≤ 400 ∧ (Rt f m → fsN z (m - 1) ≤ 400)
set_option maxHeartbeats 2000000 in
theorem few7_any (vs vp : Value) (m lp : Nat) (f P : Nat → Int) (z : Nat → Nat) (hz : Zs f m z) (w : World) (hA : Ar w vs m f) (hP : Ar w vp lp P) : Calls Tryz.prog 8 #[.agg #[vs, vp]] w fun e w' => Tells e (fwP f m lp z) ∧ Below w.heap.size w w' := by
  have HC : Hid (∀ W : World, Below w.heap.size w W → Calls Tryz.prog 15 #[vs] W fun e w' => ∃ C : Int, e = .returned (.int .i64 C) ∧ ctN f m z C ∧ Below W.heap.size W w') := fun W hb => count7_any vs m f z hz W (hA.later hb)
  obtain ⟨adr, cap, b, o, rfl, k1, k2, -, -⟩ := hA
  obtain ⟨adp, cpp, bp, op, rfl, j1, j2, -, -⟩ := hP
  unfold maxLen at k2 j2
  have B0 : Hid (Below w.heap.size w (w.alloc (.cells #[.slice adr m cap, .slice adp lp cpp] 25))) := bel1 _ _
  have B1 : Hid (Bx w.heap.size (.slice adr m cap) (.slice adp lp cpp) (w.alloc (.cells #[.slice adr m cap, .slice adp lp cpp] 25))) := Bx.new w _ _ _
  by_cases hm : m ≤ 10
  · have hmI : ¬ (10 : Int) < (m : Int) := by omega
    by_cases hl : lp ≤ 400
    · have hlI : ¬ (400 : Int) < (lp : Int) := by omega
      have x0 := B1.out.c0
      have x1 := B1.out.c1
      go_enter Tryz.func8, Tryz.ntmps8
      go_upto_region 1 with fail
      generalize w.alloc (.cells #[.slice adr m cap, .slice adp lp cpp] 25) = w1 at *
      go_wp2_with fail
      refine (HC.out _ B0.out).mono ?_
      rintro e w2 ⟨C, rfl, hC, hb⟩
      have HW : Hid (Below w.heap.size w w2 ∧ ctN f m z C) := ⟨bchain B0.out hb, hC⟩
      clear hb hC HC x0 x1
      by_cases hq : C ≤ 400
      · have HT : Hid (fwP f m lp z) := ⟨hm, hl, fun hr => by have := HW.out.2.1 hr; omega⟩
        go_wp2
        go_ret
        exact ⟨tells_yes HT.out, HW.out.1⟩
      · have hqd : decide (C ≤ 400) = false := decide_eq_false hq
        have HT : Hid (¬ fwP f m lp z) := fun h => by
          by_cases hr : Rt f m
          · have h1 := HW.out.2.1 hr
            have h2 := h.2.2 hr
            omega
          · have := HW.out.2.2 hr
            omega
        go_wp2
        go_ret
        exact ⟨tells_no HT.out, HW.out.1⟩
    · have hlI : (400 : Int) < (lp : Int) := by omega
      have HT : Hid (¬ fwP f m lp z) := fun h => hl h.2.1
      have x0 := B1.out.c0
      have x1 := B1.out.c1
      go_enter Tryz.func8, Tryz.ntmps8
      go_upto_region 1 with fail
      generalize w.alloc (.cells #[.slice adr m cap, .slice adp lp cpp] 25) = w1 at *
      go_wp2
      go_ret
      exact ⟨tells_no HT.out, B0.out⟩
  · have hmI : (10 : Int) < (m : Int) := by omega
    have HT : Hid (¬ fwP f m lp z) := fun h => hm h.1
    have x0 := B1.out.c0
    go_enter Tryz.func8, Tryz.ntmps8
    go_upto_region 1 with fail
    generalize w.alloc (.cells #[.slice adr m cap, .slice adp lp cpp] 25) = w1 at *
    go_wp2
    go_ret
    exact ⟨tells_no HT.out, B0.out⟩
/-- Has a net as many parameters as it must? -/
def rtP (f : Nat → Int) (m lp : Nat) (z : Nat → Nat) : Prop := Rt f m ∧ lp = fsN z (m - 1)
set_option maxHeartbeats 2000000 in
theorem right7_any (vs vp : Value) (m lp : Nat) (f P : Nat → Int) (z : Nat → Nat) (hz : Zs f m z) (hlp : lp ≤ 1000000) (w : World) (hA : Ar w vs m f) (hP : Ar w vp lp P) : Calls Tryz.prog 10 #[.agg #[vs, vp]] w fun e w' => Tells e (rtP f m lp z) ∧ Below w.heap.size w w' := by
  have HC : Hid (∀ W : World, Below w.heap.size w W → Calls Tryz.prog 15 #[vs] W fun e w' => ∃ C : Int, e = .returned (.int .i64 C) ∧ ctN f m z C ∧ Below W.heap.size W w') := fun W hb => count7_any vs m f z hz W (hA.later hb)
  obtain ⟨adr, cap, b, o, rfl, k1, k2, -, -⟩ := hA
  obtain ⟨adp, cpp, bp, op, rfl, j1, j2, -, -⟩ := hP
  unfold maxLen at k2 j2
  have B0 : Hid (Below w.heap.size w (w.alloc (.cells #[.slice adr m cap, .slice adp lp cpp] 25))) := bel1 _ _
  have B1 : Hid (Bx w.heap.size (.slice adr m cap) (.slice adp lp cpp) (w.alloc (.cells #[.slice adr m cap, .slice adp lp cpp] 25))) := Bx.new w _ _ _
  have x0 := B1.out.c0
  go_enter Tryz.func10, Tryz.ntmps10
  go_upto_region 1 with fail
  generalize w.alloc (.cells #[.slice adr m cap, .slice adp lp cpp] 25) = w1 at *
  go_wp2_with fail
  refine (HC.out _ B0.out).mono ?_
  rintro e w2 ⟨C, rfl, hC, hb⟩
  have HW : Hid (Below w.heap.size w w2 ∧ ctN f m z C) := ⟨bchain B0.out hb, hC⟩
  have x1 := cell_later hb B1.out.c1
  clear hb hC HC x0
  by_cases hr : Rt f m
  · have eC := HW.out.2.1 hr
    have hC0 : (0 : Int) ≤ C := by omega
    by_cases hq : lp = fsN z (m - 1)
    · have hcq : C = (lp : Int) := by omega
      have HT : Hid (rtP f m lp z) := ⟨hr, hq⟩
      clear eC hq
      subst hcq
      go_wp2
      go_ret
      exact ⟨tells_yes HT.out, HW.out.1⟩
    · have HT : Hid (¬ rtP f m lp z) := fun h => hq h.2
      have hcq : ¬ C = (lp : Int) := by omega
      have hcq1 : decide (C = (lp : Int)) = false := decide_eq_false hcq
      have hcq2 : (C == (lp : Int)) = false := by simp [hcq]
      clear eC hq
      go_wp2
      go_ret
      exact ⟨tells_no HT.out, HW.out.1⟩
  · have eC := HW.out.2.2 hr
    subst eC
    have HT : Hid (¬ rtP f m lp z) := fun h => hr h.1
    go_wp2
    go_ret
    exact ⟨tells_no HT.out, HW.out.1⟩
end Go.Proofs.YtdfjnbkkdgolnabGreatDoor
set_option linter.unusedVariables false
set_option linter.unusedSimpArgs false
namespace Go.Proofs.YtdfjnbkkdgolnabGreatDoor
open Go.RowKit

def zA (i : Nat) : Nat := if i = 0 then 2 else 1
def pA (_ : Nat) : Int := 4294967296
def xA (i : Nat) : Int := if i = 0 then 8589934592 else 12884901888
def tA (_ : Nat) : Int := 17179869184
theorem aw7 : gdX true zA 2 pA xA tA = 8589934592 ∧ gdG true zA 2 pA xA tA 0 = 17179869184 ∧ gdG true zA 2 pA xA tA 1 = 25769803776 ∧ gdG true zA 2 pA xA tA 2 = 8589934592 := by decide +kernel
theorem awz : Szs zA 2 := ⟨by omega, by omega, fun i hi => by unfold zA; split <;> omega⟩
theorem ar_c3 (w : World) (x : Int) (h0 : -9223372036854775808 ≤ x) (h1 : x ≤ 9223372036854775807) (t : TypeId) : Ar (w.alloc (.cells #[.int .i64 x, .int .i64 x, .int .i64 x] t)) (.slice (some ⟨w.heap.size, 0, none⟩) 3 3) 3 (fun _ => x) :=
  ⟨_, 3, w.heap.size, 0, rfl, Nat.le_refl _, by unfold maxLen; omega, fun _ => rfl, fun k hk => ⟨by
    match k, hk with
    | 0, _ => simp [go_sem]
    | 1, _ => simp [go_sem]
    | 2, _ => simp [go_sem], h0, h1⟩⟩
theorem ar_c1 (w : World) (x : Int) (h0 : -9223372036854775808 ≤ x) (h1 : x ≤ 9223372036854775807) (t : TypeId) : Ar (w.alloc (.cells #[.int .i64 x] t)) (.slice (some ⟨w.heap.size, 0, none⟩) 1 1) 1 (fun _ => x) :=
  ⟨_, 1, w.heap.size, 0, rfl, Nat.le_refl _, by unfold maxLen; omega, fun _ => rfl, fun k hk => ⟨by
    match k, hk with
    | 0, _ => simp [go_sem], h0, h1⟩⟩
theorem ar_c2 (w : World) (x y : Int) (hx : -9223372036854775808 ≤ x ∧ x ≤ 9223372036854775807) (hy : -9223372036854775808 ≤ y ∧ y ≤ 9223372036854775807) (t : TypeId) : Ar (w.alloc (.cells #[.int .i64 x, .int .i64 y] t)) (.slice (some ⟨w.heap.size, 0, none⟩) 2 2) 2 (fun i => if i = 0 then x else y) :=
  ⟨_, 2, w.heap.size, 0, rfl, Nat.le_refl _, by unfold maxLen; omega, fun _ => rfl, fun k hk => by
    match k, hk with
    | 0, _ => exact ⟨by simp [go_sem], by simpa using hx⟩
    | 1, _ => exact ⟨by simp [go_sem], by simpa using hy⟩⟩
set_option maxRecDepth 100000 in
set_option maxHeartbeats 4000000 in
theorem awake7_any (V4 : Mlp4) (w : World) (hV : MT w) : Calls Tryz.prog 7 #[] w fun e w' => e = .returned (.bool true) ∧ Below w.heap.size w w' := by
  obtain ⟨w1, hw1⟩ : ∃ w1, w1 = w.alloc (.cells #[.int .i64 4294967296, .int .i64 4294967296, .int .i64 4294967296] 32) := ⟨_, rfl⟩
  obtain ⟨w2, hw2⟩ : ∃ w2, w2 = w1.alloc (.cells #[.int .i64 2, .int .i64 1] 3) := ⟨_, rfl⟩
  obtain ⟨w3, hw3⟩ : ∃ w3, w3 = w2.alloc (.cells #[.int .i64 8589934592, .int .i64 12884901888] 32) := ⟨_, rfl⟩
  obtain ⟨w4, hw4⟩ : ∃ w4, w4 = w3.alloc (.cells #[.int .i64 17179869184] 32) := ⟨_, rfl⟩
  have b1 : Below w.heap.size w w1 := by rw [hw1]; exact bel1 _ _
  have b2 : Below w1.heap.size w1 w2 := by rw [hw2]; exact bel1 _ _
  have b3 : Below w2.heap.size w2 w3 := by rw [hw3]; exact bel1 _ _
  have b4 : Below w3.heap.size w3 w4 := by rw [hw4]; exact bel1 _ _
  have s1 : w1.heap.size = w.heap.size + 1 := by rw [hw1, World.size_alloc]
  have s2 : w2.heap.size = w.heap.size + 1 + 1 := by rw [hw2, World.size_alloc, s1]
  have s3 : w3.heap.size = w.heap.size + 1 + 1 + 1 := by rw [hw3, World.size_alloc, s2]
  have a1 : Ar w4 (.slice (some ⟨w.heap.size, 0, none⟩) 3 3) 3 pA := by
    have h := ar_c3 w 4294967296 (by omega) (by omega) 32
    rw [← hw1] at h
    exact ((h.later b2).later b3).later b4
  have a2 : Ar w4 (.slice (some ⟨w.heap.size + 1, 0, none⟩) 2 2) 2 (fun i => ((zA i : Nat) : Int)) := by
    have h := ar_c2 w1 2 1 (by omega) (by omega) 3
    rw [← hw2, s1] at h
    exact ((h.later b3).later b4).congr (fun k hk => by unfold zA; split <;> rfl)
  have a3 : Ar w4 (.slice (some ⟨w.heap.size + 1 + 1, 0, none⟩) 2 2) 2 xA := by
    have h := ar_c2 w2 8589934592 12884901888 (by omega) (by omega) 32
    rw [← hw3, s2] at h
    exact h.later b4
  have a4 : Ar w4 (.slice (some ⟨w.heap.size + 1 + 1 + 1, 0, none⟩) 1 1) 1 tA := by
    have h := ar_c1 w3 17179869184 (by omega) (by omega) 32
    rw [← hw4, s3] at h
    exact h
  have HB : Hid (Below w.heap.size w w4) := bchain (bchain (bchain b1 b2) b3) b4
  have CG : Hid (Calls Tryz.prog 12 #[.pointer none, .int .i64 1, .slice (some ⟨w.heap.size + 1, 0, none⟩) 2 2, .slice (some ⟨w.heap.size, 0, none⟩) 3 3, .agg #[.slice (some ⟨w.heap.size + 1 + 1, 0, none⟩) 2 2, .slice (some ⟨w.heap.size + 1 + 1 + 1, 0, none⟩) 1 1]] w4 fun e w' => ∃ v', e = .returned (.tuple #[v', .int .i64 8589934592, .int .i64 0]) ∧ Ar w' v' 3 (gdG true zA 2 pA xA tA) ∧ Below w4.heap.size w4 w') := by
    refine (V4.gradN true _ _ _ _ 2 3 zA pA xA tA w4 a2 a1 a3 a4 awz rfl (hV.later HB.out)).mono ?_
    rintro e w' ⟨v', rfl, hA, -, hb⟩
    rw [aw7.1]
    exact ⟨v', rfl, hA, hb⟩
  have Hw : Hid (w4 = (((w.alloc (.cells #[.int .i64 4294967296, .int .i64 4294967296, .int .i64 4294967296] 32)).alloc (.cells #[.int .i64 2, .int .i64 1] 3)).alloc (.cells #[.int .i64 8589934592, .int .i64 12884901888] 32)).alloc (.cells #[.int .i64 17179869184] 32)) := by show _ = _; rw [hw4, hw3, hw2, hw1]
  clear hw1 hw2 hw3 hw4 b1 b2 b3 b4 s1 s2 s3 a1 a2 a3 a4
  go_enter Tryz.func7, Tryz.ntmps7
  go_wp2_with fail
  rw [← Hw.out]
  refine CG.out.mono ?_
  rintro e w5 ⟨v', rfl, hA, hb⟩
  obtain ⟨b, o, cap, rfl, k1, k2, k3, k4⟩ := hA.spot 0 (by omega)
  unfold maxLen at k1
  have c0 := k3 0 (by omega)
  have c1 := k3 1 (by omega)
  have c2 := k3 2 (by omega)
  rw [aw7.2.1] at c0
  rw [aw7.2.2.1] at c1
  rw [aw7.2.2.2] at c2
  rw [Nat.add_zero] at c0
  have HB5 : Hid (Below w.heap.size w w5) := bchain HB.out hb
  clear CG Hw hA k3 k4 hb HB
  go_wp2
  go_ret
  exact ⟨by first | rfl | simp, HB5.out⟩
end Go.Proofs.YtdfjnbkkdgolnabGreatDoor
set_option linter.unusedVariables false
set_option linter.unusedSimpArgs false
namespace Go.Proofs.YtdfjnbkkdgolnabGreatDoor
open Go.RowKit
theorem Ls.spot {w : World} {d : Nat} {v : Value} {m : Nat} {ns : Nat → Nat} {fs : Nat → Nat → Int} (h : Ls w d v m ns fs) : ∃ (g cap : Nat), v = .slice (some ⟨g, 0, none⟩) m cap ∧ m ≤ cap ∧ cap ≤ maxLen ∧ ∀ k, k < m → ∃ (ad : Option Addr) (ca : Nat), w.cell? ⟨g, k, none⟩ = some (.slice ad (ns k) ca) ∧ Ar w (.slice ad (ns k) ca) (ns k) (fs k) := by
  obtain ⟨g, cap, e, h1, h2, -, h4⟩ := h
  refine ⟨g, cap, e, h1, h2, fun k hk => ?_⟩
  obtain ⟨va, c, a, -⟩ := h4 k hk
  obtain ⟨adr, ca, b, o, rfl, r⟩ := id a
  exact ⟨adr, ca, c, a⟩
end Go.Proofs.YtdfjnbkkdgolnabGreatDoor
set_option linter.unusedVariables false
set_option linter.unusedSimpArgs false
namespace Go.Proofs.YtdfjnbkkdgolnabGreatDoor
open Go.RowKit

set_option maxHeartbeats 1000000 in
theorem tooLong_any (a : Option Addr) (n c : Nat) (hn : n ≤ maxLen) (w : World) :
    Calls Tryz.prog 56 #[.slice a n c] w fun e w' => e = .returned (.bool (decide (65536 < n))) ∧ w' = w := by
  unfold maxLen at hn
  by_cases h : 65536 < n
  · have h1 : (65536 : Int) < (n : Int) := by omega
    rw [decide_eq_true h]
    clear h
    go_enter Tryz.func56, Tryz.ntmps56
    go_wp2
    go_ret
    exact ⟨rfl, rfl⟩
  · have h1 : ¬ (65536 : Int) < (n : Int) := by omega
    rw [decide_eq_false h]
    clear h
    go_enter Tryz.func56, Tryz.ntmps56
    go_wp2
    go_ret
    exact ⟨rfl, rfl⟩
/-- Whether one of so many vectors is too long. -/
def longB (ns : Nat → Nat) (m : Nat) : Bool := (List.range m).any (fun k => decide (65536 < ns k))
theorem longB_yes (ns : Nat → Nat) (m k : Nat) (hk : k < m) (h : 65536 < ns k) : longB ns m = true :=
  List.any_eq_true.2 ⟨k, List.mem_range.2 hk, decide_eq_true h⟩
theorem longB_no (ns : Nat → Nat) (m : Nat) (h : ∀ k, k < m → ¬ 65536 < ns k) : longB ns m = false := by
  rw [Bool.eq_false_iff]
  intro e
  obtain ⟨k, hk, h2⟩ := List.any_eq_true.1 e
  exact h k (List.mem_range.1 hk) (of_decide_eq_true h2)
/-- A list of lists: where each is, and how long. -/
def Hs (w : World) (v : Value) (m : Nat) (ns : Nat → Nat) : Prop :=
  ∃ (adr : Option Addr) (cap g o : Nat), v = .slice adr m cap ∧ m ≤ cap ∧ cap ≤ maxLen ∧ (0 < m → adr = some ⟨g, o, none⟩) ∧ ∀ k, k < m → ns k ≤ maxLen ∧ ∃ (ad : Option Addr) (ca : Nat), w.cell? ⟨g, o + k, none⟩ = some (.slice ad (ns k) ca)
set_option maxRecDepth 100000 in
set_option maxHeartbeats 2000000 in
theorem index_any (v : Value) (m : Nat) (ns : Nat → Nat) (w : World) (hH : Hs w v m ns) :
    Calls Tryz.prog 73 #[v, .func (.func 56) #[] #[]] w fun e w' => ∃ i : Int, e = .returned (.int .i64 i) ∧ (longB ns m = true → 0 ≤ i) ∧ (longB ns m = false → i < 0) ∧ w' = w := by
  obtain ⟨adr, cap, g, o, rfl, k1, k2, k3, k4⟩ := hH
  unfold maxLen at k2
  have HC : Hid (∀ k, k < m → ns k ≤ maxLen ∧ ∃ (ad : Option Addr) (ca : Nat), w.cell? ⟨g, o + k, none⟩ = some (.slice ad (ns k) ca)) := k4
  have HK : Hid (0 < m → adr = some ⟨g, o, none⟩) := k3
  clear k3 k4
  go_enter Tryz.func73, Tryz.ntmps73
  go_wp2
  go_loopw [8] (fun s8 wr => ∃ j : Nat, j ≤ m ∧ s8 = .int .i64 (j : Int) ∧ Hid (∀ k, k < j → ¬ 65536 < ns k) ∧ wr = w) (fun s8 _ => m - (intOf s8).toNat)
  case atStart => exact ⟨0, by omega, rfl, fun k hk => by omega, rfl⟩
  case round =>
    obtain ⟨j, hj, rfl, hA, rfl⟩ := hrel
    by_cases hlt : j < m
    · have hjI : (j : Int) < (m : Int) := by omega
      have ea := HK.out (by omega)
      subst ea
      obtain ⟨hl, ad, ca, hcell⟩ := HC.out j hlt
      have CT : Hid (∀ W : World, Calls Tryz.prog 56 #[.slice ad (ns j) ca] W fun e w' => e = .returned (.bool (decide (65536 < ns j))) ∧ w' = W) := fun W => tooLong_any ad (ns j) ca hl W
      clear hl
      by_cases hlong : 65536 < ns j
      · rw [decide_eq_true hlong] at CT
        have HF : Hid (longB ns m = true) := longB_yes ns m j hlt hlong
        clear hlong hA
        go_wp2_with (go_at_call 56; refine (CT.out _).mono ?_; rintro e wz ⟨rfl, hz⟩; subst hz)
        go_ret
        exact ⟨_, rfl, fun _ => by omega, fun h => (by rw [HF.out] at h; cases h), rfl⟩
      · rw [decide_eq_false hlong] at CT
        have HA2 : Hid (∀ k, k < j + 1 → ¬ 65536 < ns k) := fun k hk => by
          rcases Nat.lt_or_ge k j with h | h
          · exact hA.out k h
          · obtain rfl : k = j := by omega
            exact hlong
        clear hlong hA
        go_wp2_with (go_at_call 56; refine (CT.out _).mono ?_; rintro e wz ⟨rfl, hz⟩; subst hz)
        go_roundw
        case rel => exact ⟨j + 1, by omega, by go_num, HA2, trivial⟩
        case measure => simp [intOf]; omega
    · have HF : Hid (longB ns m = false) := longB_no ns m (fun k hk => hA.out k (by omega))
      have hjI : ¬ (j : Int) < (m : Int) := by omega
      clear hA
      go_wp2
      go_ret
      exact ⟨_, rfl, fun h => (by rw [HF.out] at h; cases h), fun _ => by omega, rfl⟩
set_option maxHeartbeats 1000000 in
theorem contains_any (v : Value) (m : Nat) (ns : Nat → Nat) (w : World) (hH : Hs w v m ns) :
    Calls Tryz.prog 55 #[v, .func (.func 56) #[] #[]] w fun e w' => e = .returned (.bool (longB ns m)) ∧ w' = w := by
  have CI : Hid (Calls Tryz.prog 73 #[v, .func (.func 56) #[] #[]] w fun e w' => ∃ i : Int, e = .returned (.int .i64 i) ∧ (longB ns m = true → 0 ≤ i) ∧ (longB ns m = false → i < 0) ∧ w' = w) := index_any v m ns w hH
  obtain ⟨adr, cap, g, o, rfl, -, -, -, -⟩ := hH
  generalize longB ns m = B at *
  cases B
  · go_enter Tryz.func55, Tryz.ntmps55
    go_wp2_with fail
    refine CI.out.mono ?_
    rintro e wz ⟨i, rfl, -, h1, hz⟩
    subst hz
    have h2 : ¬ (0 : Int) ≤ i := by have := h1 (by trivial); omega
    clear CI h1
    go_wp2
    go_ret
    exact ⟨by simp [h2], rfl⟩
  · go_enter Tryz.func55, Tryz.ntmps55
    go_wp2_with fail
    refine CI.out.mono ?_
    rintro e wz ⟨i, rfl, h1, -, hz⟩
    subst hz
    have h2 : (0 : Int) ≤ i := h1 (by trivial)
    clear CI h1
    go_wp2
    go_ret
    exact ⟨by simp [h2], rfl⟩
/-- check's answer. -/
def ckE (b : Bool) (ns : Nat → Nat) (m : Nat) : Int := if longB ns m = true then 3 else if b = true then 0 else 40
set_option maxHeartbeats 1000000 in
theorem check_any (b : Bool) (v : Value) (m : Nat) (ns : Nat → Nat) (w : World) (hH : Hs w v m ns) :
    Calls Tryz.prog 32 #[.bool b, v] w fun e w' => e = .returned (.int .i64 (ckE b ns m)) ∧ w' = w := by
  have CI : Hid (Calls Tryz.prog 55 #[v, .func (.func 56) #[] #[]] w fun e w' => e = .returned (.bool (longB ns m)) ∧ w' = w) := contains_any v m ns w hH
  obtain ⟨adr, cap, g, o, rfl, -, -, -, -⟩ := hH
  unfold ckE
  generalize longB ns m = B at *
  cases B <;> cases b
  all_goals
    first
      | rw [if_pos rfl]
      | rw [if_neg (by decide), if_pos rfl]
      | rw [if_neg (by decide), if_neg (by decide)]
    go_enter Tryz.func32, Tryz.ntmps32
    go_wp2_with fail
    refine CI.out.mono ?_
    rintro e wz ⟨rfl, hz⟩
    subst hz
    clear CI
    go_wp2
    go_ret
    exact ⟨rfl, rfl⟩
theorem hs1 (w1 : World) (ada : Option Addr) (n ca : Nat) (k : n ≤ maxLen) : Hs (w1.alloc (.cells #[.slice ada n ca] 23)) (.slice (some ⟨w1.heap.size, 0, none⟩) 1 1) 1 (fun _ => n) := by
  refine ⟨some ⟨w1.heap.size, 0, none⟩, 1, w1.heap.size, 0, rfl, Nat.le_refl _, by unfold maxLen; omega, fun _ => rfl, fun k hk => ?_⟩
  obtain rfl : k = 0 := by omega
  exact ⟨k, ada, ca, by simp [go_sem]⟩
theorem hs2 (w1 : World) (ada adb : Option Addr) (n ca m cb : Nat) (k : n ≤ maxLen) (q : m ≤ maxLen) : Hs (w1.alloc (.cells #[.slice ada n ca, .slice adb m cb] 23)) (.slice (some ⟨w1.heap.size, 0, none⟩) 2 2) 2 (fun k => if k = 0 then n else m) := by
  refine ⟨some ⟨w1.heap.size, 0, none⟩, 2, w1.heap.size, 0, rfl, Nat.le_refl _, by unfold maxLen; omega, fun _ => rfl, fun k hk => ?_⟩
  rcases (show k = 0 ∨ k = 1 by omega) with rfl | rfl
  · exact ⟨k, ada, ca, by simp [go_sem]⟩
  · exact ⟨q, adb, cb, by simp [go_sem]⟩
theorem ckE1 (b : Bool) (n : Nat) : ckE b (fun _ => n) 1 = if 65536 < n then 3 else if b = true then 0 else 40 := by
  unfold ckE longB
  by_cases h : 65536 < n <;> simp [h, List.range_succ]
theorem ckE2 (b : Bool) (n m : Nat) : ckE b (fun k => if k = 0 then n else m) 2 = if 65536 < n ∨ 65536 < m then 3 else if b = true then 0 else 40 := by
  unfold ckE longB
  by_cases h : 65536 < n <;> by_cases h' : 65536 < m <;> simp [h, h', List.range_succ]
theorem check1_any (b : Bool) (w1 : World) (ada : Option Addr) (n ca : Nat) (k : n ≤ maxLen) :
    Calls Tryz.prog 32 #[.bool b, .slice (some ⟨w1.heap.size, 0, none⟩) 1 1] (w1.alloc (.cells #[.slice ada n ca] 23)) fun e w' => e = .returned (.int .i64 (if 65536 < n then 3 else if b = true then 0 else 40)) ∧ w' = w1.alloc (.cells #[.slice ada n ca] 23) := by
  have h := check_any b _ 1 _ _ (hs1 w1 ada n ca k)
  rw [ckE1] at h
  exact h
theorem check2_any (b : Bool) (w1 : World) (ada adb : Option Addr) (n ca m cb : Nat) (k : n ≤ maxLen) (q : m ≤ maxLen) :
    Calls Tryz.prog 32 #[.bool b, .slice (some ⟨w1.heap.size, 0, none⟩) 2 2] (w1.alloc (.cells #[.slice ada n ca, .slice adb m cb] 23)) fun e w' => e = .returned (.int .i64 (if 65536 < n ∨ 65536 < m then 3 else if b = true then 0 else 40)) ∧ w' = w1.alloc (.cells #[.slice ada n ca, .slice adb m cb] 23) := by
  have h := check_any b _ 2 _ _ (hs2 w1 ada adb n ca m cb k q)
  rw [ckE2] at h
  exact h
end Go.Proofs.YtdfjnbkkdgolnabGreatDoor
