/-
  What layer 13 must give (frame): Seal, Open, Split; and the chapter's examples.
-/
import Derived.Test.YtploeheklekjjabDoorFrRefB
import Derived.Test.YtploeheklekjjabDoorCDefs
import Derived.Laws.BytesArg
import Derived.Lib.SlBytesConst
import Derived.Lib.SmallJoins
set_option linter.unusedVariables false
set_option linter.unusedSimpArgs false
namespace Go.Proofs.YtploeheklekjjabDoor
open Go.RowKit

/-- What frame asks of the world: crc's table, and the bytes that each frame begins with. -/
def ahd : List Nat := [82, 71, 1]
def AhAt (w : World) : Prop := ∀ i, i < 3 → w.cell? ⟨0, i, none⟩ = some (.int .u8 ((ahd.getD i 0 : Nat) : Int))
theorem AhAt.later {w w' : World} (h : AhAt w) (hb : Below w.heap.size w w') : AhAt w' := fun m hm => cell_later hb (h m hm)
structure FT (w : World) : Prop where
  tb : TbAt w
  ah : AhAt w
theorem FT.later {w w' : World} (h : FT w) (k : Below w.heap.size w w') : FT w' := ⟨TbAt.later h.tb k, AhAt.later h.ah k⟩
/-- Neither table is one of these blocks. -/
def NT (F : Nat → Prop) : Prop := ¬ F 1 ∧ ¬ F 0
theorem FT.low {w : World} (h : FT w) : 1 < w.heap.size ∧ 0 < w.heap.size := ⟨World.block_lt_of_cell? _ _ (h.tb 0 (by omega)), World.block_lt_of_cell? _ _ (h.ah 0 (by omega))⟩
/-- The contracts of frame. -/
structure Fr1 : Prop where
  sealOk : ∀ (w : World) (k : Nat) (v : Value) (l : List Nat), 1 ≤ k → k ≤ 255 → Bs w v l → (∀ c ∈ l, c < 256) → l.length ≤ 65536 → FT w →
    Calls Tryd.prog 6 #[.int .i64 (k : Int), v] w fun e w' => ∃ v', e = .returned (.tuple #[v', .int .i64 0]) ∧ Ob w.heap.size w' v' (fsl k l) ∧ Below w.heap.size w w'
  sealKind : ∀ (w : World) (k : Int) (v : Value) (l : List Nat), k < 1 ∨ 255 < k → Bs w v l → FT w →
    Calls Tryd.prog 6 #[.int .i64 k, v] w fun e w' => ∃ v', e = .returned (.tuple #[v', .int .i64 133]) ∧ Bs w' v' [] ∧ Below w.heap.size w w'
  sealSize : ∀ (w : World) (k : Nat) (v : Value) (l : List Nat), 1 ≤ k → k ≤ 255 → Bs w v l → 65536 < l.length → FT w →
    Calls Tryd.prog 6 #[.int .i64 (k : Int), v] w fun e w' => ∃ v', e = .returned (.tuple #[v', .int .i64 134]) ∧ Bs w' v' [] ∧ Below w.heap.size w w'
  opn : ∀ (w : World) (v : Value) (l : List Nat), Bs w v l → (∀ c ∈ l, c < 256) → l.length ≤ 90000 → FT w →
    Calls Tryd.prog 7 #[v] w fun e w' => ∃ vp, e = .returned (.tuple #[.agg #[.int .i64 ((opK l : Nat) : Int), vp], .int .i64 ((opN l : Nat) : Int), .int .i64 ((opE l : Nat) : Int)]) ∧ Bs w' vp (opP l) ∧ Ow w.heap.size vp ∧ Below w.heap.size w w'
theorem bs_const (w : World) (x : Nat) (t : TypeId) (fr : Nat × Nat) : Bs (w.alloc (.cells #[.int .u8 (x : Int)] t fr)) (.slice (some ⟨w.heap.size, 0, none⟩) 1 1) [x] :=
  ⟨_, 1, w.heap.size, 0, rfl, Nat.le_refl _, ⟨by unfold maxLen; omega, fun e => by cases e⟩, fun _ => rfl, fun k hk => by
    have hk0 : k < 1 := hk
    obtain rfl : k = 0 := by omega
    rw [Nat.zero_add, World.cell?_alloc_mark]
    rfl⟩
theorem bs_two (w : World) (x y : Nat) (t : TypeId) : Bs (w.alloc (.cells #[.int .u8 (x : Int), .int .u8 (y : Int)] t)) (.slice (some ⟨w.heap.size, 0, none⟩) 2 2) [x, y] :=
  ⟨_, 2, w.heap.size, 0, rfl, Nat.le_refl _, ⟨by unfold maxLen; omega, fun e => by cases e⟩, fun _ => rfl, fun k hk => by
    have hk0 : k < 2 := hk
    have : k = 0 ∨ k = 1 := by omega
    rcases this with rfl | rfl <;> simp [go_sem, b8f]⟩
theorem fsl_nil (k : Nat) (l : List Nat) : fsl k l = fsl k l ++ [] := (List.append_nil _).symm
theorem op_seal0 {k : Nat} (hk : k ≠ 0) (l : List Nat) (hl : l.length ≤ 65536) : opE (fsl k l) = 0 ∧ opK (fsl k l) = k ∧ opP (fsl k l) = l ∧ opN (fsl k l) = l.length + 12 := by
  have h1 := opE_seal hk l [] hl
  have h2 := op_seal hk l [] hl
  rw [List.append_nil] at h1 h2
  exact ⟨h1, h2⟩
theorem fsl_at8 (k : Nat) (x : Nat) : (fsl k [x]).getD 8 0 = x := by
  rw [fsl_nil, seal_eight]
  rfl
theorem aw_magic : opE [82, 72] = 131 := opE_b1 (by decide) rfl (by decide)
set_option maxRecDepth 100000 in
set_option maxHeartbeats 8000000 in
theorem awake13 (V : Fr1) (w : World) (hT : FT w) :
    Calls Tryd.prog 5 #[] w fun e w' => e = .returned (.bool true) ∧ Below w.heap.size w w' := by
  have HT : Hid (FT w) := hT
  have kc := Lib.run_convert_bytes_const (P := Tryd.prog) w 22 5 #[.int .u8 97] 1 1 Tryd.underlying22 Tryd.underlying5
  have HB0 : Hid (∀ o : Obj, Below w.heap.size w (w.alloc o)) := fun o => bel1 w o
  have HF : Hid (opE (fsl 1 [97]) = 0 ∧ opK (fsl 1 [97]) = 1 ∧ opP (fsl 1 [97]) = [97] ∧ opN (fsl 1 [97]) = 13) := op_seal0 (by omega) [97] (by decide)
  have HFl : Hid ((fsl 1 [97]).length = 13 ∧ (fsl 1 [97]).getD 8 0 = 97 ∧ ∀ c ∈ fsl 1 [97], c < 256) := ⟨seal_len 1 [97], fsl_at8 1 97, seal_byte (by omega) (by decide) (by decide)⟩
  clear hT
  go_enter Tryd.func5, Tryd.ntmps5
  go_wp2_with fail
  refine (V.sealOk _ 1 _ [97] (by omega) (by omega) (bs_const w 97 _ _) (by decide) (by decide) (HT.out.later (HB0.out _))).mono ?_
  rintro e w1 ⟨v1, rfl, hO1, hB1⟩
  have hb1 := bchain (HB0.out _) hB1
  have HB1 : Hid (Below w.heap.size w w1) := hb1
  have HL1 : Hid (Bs w1 v1 (fsl 1 [97])) := hO1.bs.1
  obtain ⟨ad1, cap1, rfl⟩ := hO1.sl
  generalize fsl 1 [97] = S at *
  have hSl := HFl.out.1
  rw [hSl] at HL1 ⊢
  clear hO1 hB1 hb1 hSl kc HB0
  go_wp2_with fail
  refine (V.opn _ _ S HL1.out HFl.out.2.2 (by have := HFl.out.1; omega) (HT.out.later HB1.out)).mono ?_
  rintro e w2 ⟨v2, rfl, hL2, hO2, hB2⟩
  rw [HF.out.1, HF.out.2.1, HF.out.2.2.2]
  rw [HF.out.2.2.1] at hL2
  have HB2 : Hid (Below w.heap.size w w2) := bchain HB1.out hB2
  have HL2 : Hid (Bs w2 (.slice ad1 13 cap1) S ∧ Bs w2 v2 [97]) := ⟨HL1.out.later hB2, hL2⟩
  obtain ⟨ad2, cap2, rfl, -, -⟩ := hL2.len
  clear hL2 hO2 hB2 HL1 HB1
  have HB3 : Hid (Below w.heap.size w (w2.alloc (.cells #[.int .i64 1, .slice ad2 1 cap2] 24))) := HB2.out.alloc HB2.out.size _
  have HL3 : Hid (Bs (w2.alloc (.cells #[.int .i64 1, .slice ad2 1 cap2] 24)) (.slice ad1 13 cap1) S ∧ Bs (w2.alloc (.cells #[.int .i64 1, .slice ad2 1 cap2] 24)) (.slice ad2 1 cap2) [97] ∧ Bx2 w2.heap.size (.int .i64 1) (.slice ad2 1 cap2) (w2.alloc (.cells #[.int .i64 1, .slice ad2 1 cap2] 24))) := ⟨HL2.out.1.later (bel1 _ _), HL2.out.2.later (bel1 _ _), Bx2.new _ _ _ _⟩
  clear HL2
  go_upto_region 3 with fail
  generalize w2.alloc (.cells #[.int .i64 1, .slice ad2 1 cap2] 24) = w3 at *
  go_wp2_with fail
  refine (V.opn _ _ [82, 72] (bs_two w3 82 72 _) (by decide) (by decide) (HT.out.later (bchain HB3.out (bel1 _ _)))).mono ?_
  rintro e w4 ⟨v4, rfl, hL4, hO4, hB4⟩
  rw [aw_magic]
  obtain ⟨ad4, cap4, rfl, -, -⟩ := hL4.len
  have hb4 := bchain (bel1 w3 _) hB4
  have HB4 : Hid (Below w.heap.size w w4) := bchain HB3.out hb4
  have hX := HL3.out.2.2.later hb4
  have hS := HL3.out.1.later hb4
  have hP := HL3.out.2.1.later hb4
  have x0 := hX.c0
  have x1 := hX.c1
  obtain ⟨g, o, e1, ca⟩ := hS.cel 8 (by have := HFl.out.1; omega)
  rw [HFl.out.2.1] at ca
  obtain ⟨g2, o2, e2, cb⟩ := hP.cel 0 (by decide)
  subst e1 e2
  have kv : ∀ ob : Obj, (convert 22 9 (.slice (some ⟨g2, o2, none⟩) 1 cap2)).run Tryd.prog (w4.alloc ob) = .ok (.string (strOfNums [97])) (w4.alloc ob) := fun ob => run_convert_bytes_arg (P := Tryd.prog) (w4.alloc ob) 22 5 Tryd.underlying22 Tryd.underlying5 g2 o2 1 cap2 [97] rfl (fun i hi => by
    obtain rfl : i = 0 := by omega
    exact cell_later (bel1 _ _) cb) 9 Tryd.underlying9
  have y0 : ∀ ob : Obj, (w4.alloc ob).cell? ⟨w2.heap.size, 0, none⟩ = some (.int .i64 1) := fun ob => cell_later (bel1 _ _) x0
  have y1 : ∀ ob : Obj, (w4.alloc ob).cell? ⟨w2.heap.size, 1, none⟩ = some (.slice (some ⟨g2, o2, none⟩) 1 cap2) := fun ob => cell_later (bel1 _ _) x1
  have y2 : ∀ ob : Obj, (w4.alloc ob).cell? ⟨g, o + 8, none⟩ = some (.int .u8 97) := fun ob => cell_later (bel1 _ _) ca
  have HB5 : Hid (∀ ob : Obj, Below w.heap.size w (w4.alloc ob)) := fun ob => HB4.out.alloc HB4.out.size _
  clear hL4 hO4 hB4 hb4 hX hS hP x0 x1 ca cb HL3 HB3 HB4
  have hst : strOfNums [97] = ⟨#[97]⟩ := rfl
  rw [hst] at kv
  clear hst
  go_wp2
  go_ret
  exact ⟨rfl, HB5.out _⟩
end Go.Proofs.YtploeheklekjjabDoor
