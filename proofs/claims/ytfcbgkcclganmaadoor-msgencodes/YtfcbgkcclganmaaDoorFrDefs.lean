/-
  What layer 13 must give (frame): Seal, Open, Split; and the chapter's examples.
-/
import Derived.Test.YtfcbgkcclganmaaDoorFrRefB
import Derived.Test.YtfcbgkcclganmaaDoorCDefs
import Derived.Laws.BytesArg
import Derived.Lib.SlBytesConst
import Derived.Lib.SmallJoins
set_option linter.unusedVariables false
set_option linter.unusedSimpArgs false
namespace Go.Proofs.YtfcbgkcclganmaaDoor
open Go.RowKit

/-- What frame asks of the world: crc's table, and the bytes that each frame begins with. -/
def ahd : List Nat := [82, 71, 1]
def AhAt (w : World) : Prop := ∀ i, i < 3 → w.cell? ⟨0, i, none⟩ = some (.int .u8 ((ahd.getD i 0 : Nat) : Int))
theorem AhAt.later {w w' : World} (h : AhAt w) (hb : Below w.heap.size w w') : AhAt w' := fun m hm => cell_later hb (h m hm)
structure FT (w : World) : Prop where
  tb : TbAt w
  ah : AhAt w
theorem FT.later {w w' : World} (h : FT w) (k : Below w.heap.size w w') : FT w' := ⟨TbAt.later h.tb k, AhAt.later h.ah k⟩
/-- Neither table is one of these blocks. -/
def NT (F : Nat → Prop) : Prop := ¬ F 1 ∧ ¬ F 0
theorem FT.low {w : World} (h : FT w) : 1 < w.heap.size ∧ 0 < w.heap.size := ⟨World.block_lt_of_cell? _ _ (h.tb 0 (by omega)), World.block_lt_of_cell? _ _ (h.ah 0 (by omega))⟩
/-- The contracts of frame. -/
structure Fr1 : Prop where
  sealOk : ∀ (w : World) (k : Nat) (v : Value) (l : List Nat), 1 ≤ k → k ≤ 255 → Bs w v l → (∀ c ∈ l, c < 256) → l.length ≤ 65536 → FT w →
    Calls Tryd.prog 18 #[.int .i64 (k : Int), v] w fun e w' => ∃ v', e = .returned (.tuple #[v', .int .i64 0]) ∧ Ob w.heap.size w' v' (fsl k l) ∧ Below w.heap.size w w'
  sealKind : ∀ (w : World) (k : Int) (v : Value) (l : List Nat), k < 1 ∨ 255 < k → Bs w v l → FT w →
    Calls Tryd.prog 18 #[.int .i64 k, v] w fun e w' => ∃ v', e = .returned (.tuple #[v', .int .i64 133]) ∧ Bs w' v' [] ∧ Below w.heap.size w w'
  sealSize : ∀ (w : World) (k : Nat) (v : Value) (l : List Nat), 1 ≤ k → k ≤ 255 → Bs w v l → 65536 < l.length → FT w →
    Calls Tryd.prog 18 #[.int .i64 (k : Int), v] w fun e w' => ∃ v', e = .returned (.tuple #[v', .int .i64 134]) ∧ Bs w' v' [] ∧ Below w.heap.size w w'
  opn : ∀ (w : World) (v : Value) (l : List Nat), Bs w v l → (∀ c ∈ l, c < 256) → l.length ≤ 90000 → FT w →
    Calls Tryd.prog 30 #[v] w fun e w' => ∃ vp, e = .returned (.tuple #[.agg #[.int .i64 ((opK l : Nat) : Int), vp], .int .i64 ((opN l : Nat) : Int), .int .i64 ((opE l : Nat) : Int)]) ∧ Bs w' vp (opP l) ∧ Ow w.heap.size vp ∧ Below w.heap.size w w'
theorem bs_const (w : World) (x : Nat) (t : TypeId) (fr : Nat × Nat) : Bs (w.alloc (.cells #[.int .u8 (x : Int)] t fr)) (.slice (some ⟨w.heap.size, 0, none⟩) 1 1) [x] :=
  ⟨_, 1, w.heap.size, 0, rfl, Nat.le_refl _, ⟨by unfold maxLen; omega, fun e => by cases e⟩, fun _ => rfl, fun k hk => by
    have hk0 : k < 1 := hk
    obtain rfl : k = 0 := by omega
    rw [Nat.zero_add, World.cell?_alloc_mark]
    rfl⟩
theorem bs_two (w : World) (x y : Nat) (t : TypeId) : Bs (w.alloc (.cells #[.int .u8 (x : Int), .int .u8 (y : Int)] t)) (.slice (some ⟨w.heap.size, 0, none⟩) 2 2) [x, y] :=
  ⟨_, 2, w.heap.size, 0, rfl, Nat.le_refl _, ⟨by unfold maxLen; omega, fun e => by cases e⟩, fun _ => rfl, fun k hk => by
    have hk0 : k < 2 := hk
    have : k = 0 ∨ k = 1 := by omega
    rcases this with rfl | rfl <;> simp [go_sem, b8f]⟩
theorem fsl_nil (k : Nat) (l : List Nat) : fsl k l = fsl k l ++ [] := (List.append_nil _).symm
theorem op_seal0 {k : Nat} (hk : k ≠ 0) (l : List Nat) (hl : l.length ≤ 65536) : opE (fsl k l) = 0 ∧ opK (fsl k l) = k ∧ opP (fsl k l) = l ∧ opN (fsl k l) = l.length + 12 := by
  have h1 := opE_seal hk l [] hl
  have h2 := op_seal hk l [] hl
  rw [List.append_nil] at h1 h2
  exact ⟨h1, h2⟩
theorem fsl_at8 (k : Nat) (x : Nat) : (fsl k [x]).getD 8 0 = x := by
  rw [fsl_nil, seal_eight]
  rfl
theorem aw_magic : opE [82, 72] = 131 := opE_b1 (by decide) rfl (by decide)
end Go.Proofs.YtfcbgkcclganmaaDoor
