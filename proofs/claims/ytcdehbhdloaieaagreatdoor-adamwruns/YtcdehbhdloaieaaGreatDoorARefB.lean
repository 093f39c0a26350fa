/-
  The document's inner (regattaref09): when it is right; three rows that grow side by side.
-/
import Derived.Test.YtcdehbhdloaieaaGreatDoorARefA
import Derived.Test.YtcdehbhdloaieaaGreatDoorQRefC
import Derived.Test.YtcdehbhdloaieaaGreatDoorBI
set_option linter.unusedVariables false
set_option linter.unusedSimpArgs false
namespace Go.Proofs.YtcdehbhdloaieaaGreatDoor
open Go.RowKit

/-- An inner that is right. -/
def InR9 (B W : Int) (n : Nat) (at' fa : Nat → Int) (b1 b2 ep dc cl : Int) : Prop := RO B W n at' fa ∧ (0 ≤ b1 ∧ b1 < 4294967296) ∧ (0 ≤ b2 ∧ b2 < 4294967296) ∧ 1 ≤ ep ∧ 0 ≤ dc ∧ 0 ≤ cl
/-- Eight cells of a struct. -/
structure Q8 (b : Nat) (x0 x1 x2 x3 x4 x5 x6 x7 : Value) (w : World) : Prop where
  c0 : w.cell? ⟨b, 0, none⟩ = some x0
  c1 : w.cell? ⟨b, 1, none⟩ = some x1
  c2 : w.cell? ⟨b, 2, none⟩ = some x2
  c3 : w.cell? ⟨b, 3, none⟩ = some x3
  c4 : w.cell? ⟨b, 4, none⟩ = some x4
  c5 : w.cell? ⟨b, 5, none⟩ = some x5
  c6 : w.cell? ⟨b, 6, none⟩ = some x6
  c7 : w.cell? ⟨b, 7, none⟩ = some x7
theorem Q8.blk {b : Nat} {x0 x1 x2 x3 x4 x5 x6 x7 : Value} {w w' : World} (h : Q8 b x0 x1 x2 x3 x4 x5 x6 x7 w) (e : w'.heap[b]? = w.heap[b]?) : Q8 b x0 x1 x2 x3 x4 x5 x6 x7 w' :=
  ⟨(World.cell?_of_block (w := w) e).trans h.c0, (World.cell?_of_block (w := w) e).trans h.c1, (World.cell?_of_block (w := w) e).trans h.c2, (World.cell?_of_block (w := w) e).trans h.c3, (World.cell?_of_block (w := w) e).trans h.c4, (World.cell?_of_block (w := w) e).trans h.c5, (World.cell?_of_block (w := w) e).trans h.c6, (World.cell?_of_block (w := w) e).trans h.c7⟩
theorem Q8.lt {b : Nat} {x0 x1 x2 x3 x4 x5 x6 x7 : Value} {w : World} (h : Q8 b x0 x1 x2 x3 x4 x5 x6 x7 w) : b < w.heap.size := World.block_lt_of_cell? _ _ h.c0
theorem Q8.later {b : Nat} {x0 x1 x2 x3 x4 x5 x6 x7 : Value} {w w' : World} (h : Q8 b x0 x1 x2 x3 x4 x5 x6 x7 w) (hb : Below w.heap.size w w') : Q8 b x0 x1 x2 x3 x4 x5 x6 x7 w' := h.blk (hb.block b h.lt)
theorem Q8.new (w : World) (x0 x1 x2 x3 x4 x5 x6 x7 : Value) (t : TypeId) : Q8 w.heap.size x0 x1 x2 x3 x4 x5 x6 x7 (w.alloc (.cells #[x0, x1, x2, x3, x4, x5, x6, x7] t)) := ⟨by simp [go_sem], by simp [go_sem], by simp [go_sem], by simp [go_sem], by simp [go_sem], by simp [go_sem], by simp [go_sem], by simp [go_sem]⟩
set_option maxRecDepth 100000 in
set_option maxHeartbeats 4000000 in
theorem refInner_any (B W : Int) (v : Value) (n : Nat) (at' fa : Nat → Int) (b1 b2 ep dc cl : Int) (w : World) (hA : Drp w v n at' fa) :
    Calls Tryz.prog 9 #[.agg #[.int .i64 B, .int .i64 W, v, .int .i64 b1, .int .i64 b2, .int .i64 ep, .int .i64 dc, .int .i64 cl]] w fun e w' => Tel e (InR9 B W n at' fa b1 b2 ep dc cl) ∧ Below w.heap.size w w' := by
  have CR : Hid (∀ W' : World, Below w.heap.size w W' → Calls Tryz.prog 23 #[.agg #[.int .i64 B, .int .i64 W, v]] W' fun e w' => Tel e (RO B W n at' fa) ∧ Below W'.heap.size W' w') := fun W' hb => refRight_any B W v n at' fa W' (hA.later hb)
  obtain ⟨adr, cap, b, o, rfl, k1, k2, -, -⟩ := hA
  obtain ⟨w1, hw1⟩ : ∃ w1, w1 = w.alloc (.cells #[.int .i64 B, .int .i64 W, .slice adr n cap, .int .i64 b1, .int .i64 b2, .int .i64 ep, .int .i64 dc, .int .i64 cl] 49) := ⟨_, rfl⟩
  have HB1 : Hid (Below w.heap.size w w1) := by rw [hw1]; exact bel1 _ _
  have HQ := Q8.new w (.int .i64 B) (.int .i64 W) (.slice adr n cap) (.int .i64 b1) (.int .i64 b2) (.int .i64 ep) (.int .i64 dc) (.int .i64 cl) 49
  rw [← hw1] at HQ
  have HD : Hid (InR9 B W n at' fa b1 b2 ep dc cl ↔ RO B W n at' fa ∧ (0 ≤ b1 ∧ b1 < 4294967296) ∧ (0 ≤ b2 ∧ b2 < 4294967296) ∧ 1 ≤ ep ∧ 0 ≤ dc ∧ 0 ≤ cl) := Iff.rfl
  go_enter Tryz.func9, Tryz.ntmps9
  go_upto_region 1 with fail
  rw [← hw1]
  clear hw1
  have x0 := HQ.c0
  have x1 := HQ.c1
  have x2 := HQ.c2
  go_wp2_with fail
  refine (CR.out _ HB1.out).mono ?_
  rintro e w2 ⟨hT, hb⟩
  have HB2 : Hid (Below w.heap.size w w2) := bchain HB1.out hb
  replace HQ := HQ.later hb
  clear hb x0 x1 x2 CR HB1
  have x3 := HQ.c3
  have x4 := HQ.c4
  have x5 := HQ.c5
  have x6 := HQ.c6
  have x7 := HQ.c7
  by_cases hr : RO B W n at' fa
  · have e0 := hT.yes hr
    subst e0
    have HR : Hid (RO B W n at' fa) := hr
    clear hT hr
    by_cases q1 : b1 < 0
    · go_wp2
      go_ret
      exact ⟨tel_no (fun h => by have := (HD.out.1 h).2; omega), HB2.out⟩
    by_cases q2 : 4294967296 ≤ b1
    · go_wp2
      go_ret
      exact ⟨tel_no (fun h => by have := (HD.out.1 h).2; omega), HB2.out⟩
    by_cases q3 : b2 < 0
    · go_wp2
      go_ret
      exact ⟨tel_no (fun h => by have := (HD.out.1 h).2; omega), HB2.out⟩
    by_cases q4 : 4294967296 ≤ b2
    · go_wp2
      go_ret
      exact ⟨tel_no (fun h => by have := (HD.out.1 h).2; omega), HB2.out⟩
    by_cases q5 : 1 ≤ ep
    · by_cases q6 : 0 ≤ dc
      · by_cases q7 : 0 ≤ cl
        · have HY : Hid (InR9 B W n at' fa b1 b2 ep dc cl) := ⟨HR.out, by omega, by omega, q5, q6, q7⟩
          clear HD
          go_wp2
          go_ret
          exact ⟨tel_yes HY.out, HB2.out⟩
        · go_wp2
          go_ret
          refine ⟨?_, HB2.out⟩
          show Tel (.returned (.bool (decide (0 ≤ cl)))) _
          rw [decide_eq_false (show ¬ 0 ≤ cl by omega)]
          exact tel_no (fun h => by have := (HD.out.1 h).2; omega)
      · go_wp2
        go_ret
        exact ⟨tel_no (fun h => by have := (HD.out.1 h).2; omega), HB2.out⟩
    · go_wp2
      go_ret
      exact ⟨tel_no (fun h => by have := (HD.out.1 h).2; omega), HB2.out⟩
  · have e0 := hT.no hr
    subst e0
    have HR : Hid (¬ RO B W n at' fa) := hr
    clear hT hr
    go_wp2
    go_ret
    exact ⟨tel_no (fun h => HR.out (HD.out.1 h).1), HB2.out⟩
/-- Two rows that have no block in common. -/
def Ap (u v : Value) : Prop := ∀ g, u.ownBlock = some g → ¬ v.ownBlock = some g
theorem Ap.symm {u v : Value} (h : Ap u v) : Ap v u := fun g h1 h2 => h g h2 h1
theorem ap_nil (v : Value) : Ap (.slice none 0 0) v := fun g h => by simp [Value.ownBlock] at h
/-- A row stays where another one grows. -/
theorem own_beside {w w3 : World} {B : Nat} {e : TypeId} {s : Nat} {u v : Value} {n : Nat} {xs : List Value} {o : Obj} (h : w.ownsRow B e s u n xs) (hgrow : (w.alloc o).grownBy w3 v.ownBlock) (ha : Ap u v) : w3.ownsRow B e s u n xs := by
  refine (h.alloc o).kept hgrow ?_
  cases hu : u.ownBlock with
  | none => exact Or.inl rfl
  | some g => exact Or.inr (fun e => ha g hu e.symm)
/-- And they have none in common behind it. -/
theorem ap_grow {w : World} {B : Nat} {e : TypeId} {s : Nat} {u v v' : Value} {n : Nat} {xs : List Value} {o : Obj} (h : w.ownsRow B e s u n xs) (hat : v'.ownBlock = v.ownBlock ∨ v'.ownBlock = some (w.alloc o).heap.size) (ha : Ap u v) : Ap u v' := fun g h1 h2 => by
  rcases hat with h3 | h3
  · exact ha g h1 (h3.symm.trans h2)
  · rw [h3] at h2
    obtain rfl := Option.some.inj h2
    have := (h.lt _ h1).2
    rw [World.size_alloc] at this
    omega
theorem cpN_in (most : Int) (n : Nat) (f : Nat → Int) : 0 ≤ cpN most n f ∧ cpN most n f ≤ (n : Int) + 2 := by
  have h1 := bi_rng (rtO (dotV f f n))
  have h2 := bi_rng (cpO most n f)
  have h3 := cnt_rng (fun i => ovv (rnd (cpK most n f * f i) 32)) n
  unfold cpN
  split
  · split <;> omega
  · omega
theorem cpF_in (most : Int) (n : Nat) (f : Nat → Int) (h : ∀ i, i < n → -9223372036854775808 ≤ f i ∧ f i ≤ 9223372036854775807) (i : Nat) (hi : i < n) : -9223372036854775808 ≤ cpF most n f i ∧ cpF most n f i ≤ 9223372036854775807 := by
  unfold cpF
  split
  · exact clv_rng _
  · exact h i hi
end Go.Proofs.YtcdehbhdloaieaaGreatDoor
