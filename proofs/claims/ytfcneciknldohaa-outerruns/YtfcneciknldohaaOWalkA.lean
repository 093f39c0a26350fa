/-
  The contracts of outer's check, Begin and Delta.
-/
import Derived.Test.YtfcneciknldohaaOUnit
import Derived.Test.YtfcneciknldohaaOMath
import Derived.Deep.RegionHeld3
set_option linter.unusedVariables false
set_option linter.unusedSimpArgs false
namespace Go.Proofs.Ytfcneciknldohaa
open Go.RowKit

set_option maxRecDepth 100000 in
set_option maxHeartbeats 4000000 in
theorem check10_any (r m : Int) (aP aB aG : Option Addr) (nP nB nG cP cB cG : Nat) (w : World) (E : Int) (hE : ocE r m nP nB nG E) :
    Calls Try.prog 20 #[.int .i64 r, .int .i64 m, .agg #[.slice aP nP cP, .slice aB nB cB], .slice aG nG cG] w fun e w' => e = .returned (.int .i64 E) ∧ Below w.heap.size w w' := by
  obtain ⟨w1, hw1⟩ : ∃ w1, w1 = w.alloc (.cells #[.slice aP nP cP, .slice aB nB cB] 27) := ⟨_, rfl⟩
  have HB1 : Hid (Below w.heap.size w w1) := by rw [hw1]; exact bel1 _ _
  have HQ : Y2 w.heap.size (.slice aP nP cP) (.slice aB nB cB) w1 := by rw [hw1]; exact Y2.new _ _ _ _
  have HE : Hid (ocE r m nP nB nG E) := hE
  clear hE
  go_enter Try.func20, Try.ntmps20
  go_upto_region 1 with fail
  rw [← hw1]
  clear hw1
  have hbD : Below w1.heap.size w1 w1.drew := (Below.refl _ _).drew
  have HB2 : Hid (Below w.heap.size w w1.drew) := bchain HB1.out hbD
  refine wp_region_held_drew (S := Y2 w.heap.size (.slice aP nP cP) (.slice aB nB cB)) (by kernel_rfl) (HQ.later hbD) (fun HS => ?_)
  clear hbD HB1 HQ
  generalize w1.drew = q0 at *
  refine wpAnyH_take (i := 0) (v := ?v1) rfl (by kernel_rfl) (by kernel_rfl) (by kernel_rfl) (fun _ _ _ h => h) (Or.inl ⟨by kernel_rfl, ?h1⟩) HS ?r1
  case h1 => (rintro w ⟨y0, y1, -, -⟩; go_simp) <;> with_reducible rfl
  try simp only [Act.put, List.getElem_toArray, List.getElem_cons_succ, List.getElem_cons_zero, List.setIfInBounds_toArray, List.set_cons_zero, List.set_cons_succ]
  refine wpAnyH_take (i := 1) (v := ?v2) rfl (by kernel_rfl) (by kernel_rfl) (by kernel_rfl) (fun _ _ _ h => h) (Or.inl ⟨by kernel_rfl, ?h2⟩) HS ?r2
  case h2 => (rintro w ⟨y0, y1, -, -⟩; go_simp) <;> with_reducible rfl
  try simp only [Act.put, List.getElem_toArray, List.getElem_cons_succ, List.getElem_cons_zero, List.setIfInBounds_toArray, List.set_cons_zero, List.set_cons_succ]
  refine wpAnyH_take (i := 2) (v := ?v3) rfl (by kernel_rfl) (by kernel_rfl) (by kernel_rfl) (fun _ _ _ h => h) (Or.inl ⟨by kernel_rfl, ?h3⟩) HS ?r3
  case h3 => (rintro w ⟨y0, y1, -, -⟩; go_simp) <;> with_reducible rfl
  try simp only [Act.put, List.getElem_toArray, List.getElem_cons_succ, List.getElem_cons_zero, List.setIfInBounds_toArray, List.set_cons_zero, List.set_cons_succ]
  refine wpAnyH_take (i := 3) (v := ?v4) rfl (by kernel_rfl) (by kernel_rfl) (by kernel_rfl) (fun _ _ _ h => h) (Or.inl ⟨by kernel_rfl, ?h4⟩) HS ?r4
  case h4 => (rintro w ⟨y0, y1, -, -⟩; go_simp) <;> with_reducible rfl
  try simp only [Act.put, List.getElem_toArray, List.getElem_cons_succ, List.getElem_cons_zero, List.setIfInBounds_toArray, List.set_cons_zero, List.set_cons_succ]
  refine wpAnyH_take (i := 4) (v := ?v5) rfl (by kernel_rfl) (by kernel_rfl) (by kernel_rfl) (fun _ _ _ h => h) (Or.inl ⟨by kernel_rfl, ?h5⟩) HS ?r5
  case h5 => (rintro w ⟨y0, y1, -, -⟩; go_simp) <;> with_reducible rfl
  try simp only [Act.put, List.getElem_toArray, List.getElem_cons_succ, List.getElem_cons_zero, List.setIfInBounds_toArray, List.set_cons_zero, List.set_cons_succ]
  refine wpAnyH_take (i := 5) (v := ?v6) rfl (by kernel_rfl) (by kernel_rfl) (by kernel_rfl) (fun _ _ _ h => h) (Or.inl ⟨by kernel_rfl, ?h6⟩) HS ?r6
  case h6 => (rintro w ⟨y0, y1, -, -⟩; go_simp) <;> with_reducible rfl
  try simp only [Act.put, List.getElem_toArray, List.getElem_cons_succ, List.getElem_cons_zero, List.setIfInBounds_toArray, List.set_cons_zero, List.set_cons_succ]
  refine wpAnyH_take (i := 6) (v := ?v7) rfl (by kernel_rfl) (by kernel_rfl) (by kernel_rfl) (fun _ _ _ h => h) (Or.inl ⟨by kernel_rfl, ?h7⟩) HS ?r7
  case h7 => (rintro w ⟨y0, y1, -, -⟩; go_simp) <;> with_reducible rfl
  try simp only [Act.put, List.getElem_toArray, List.getElem_cons_succ, List.getElem_cons_zero, List.setIfInBounds_toArray, List.set_cons_zero, List.set_cons_succ]
  refine wpAnyH_take (i := 7) (v := ?v8) rfl (by kernel_rfl) (by kernel_rfl) (by kernel_rfl) (fun _ _ _ h => h) (Or.inl ⟨by kernel_rfl, ?h8⟩) HS ?r8
  case h8 => (rintro w ⟨y0, y1, -, -⟩; go_simp) <;> with_reducible rfl
  try simp only [Act.put, List.getElem_toArray, List.getElem_cons_succ, List.getElem_cons_zero, List.setIfInBounds_toArray, List.set_cons_zero, List.set_cons_succ]
  refine wpAnyH_take (i := 8) (v := ?v9) rfl (by kernel_rfl) (by kernel_rfl) (by kernel_rfl) (fun _ _ _ h => h) (Or.inl ⟨by kernel_rfl, ?h9⟩) HS ?r9
  case h9 => (rintro w ⟨y0, y1, -, -⟩; go_simp) <;> with_reducible rfl
  try simp only [Act.put, List.getElem_toArray, List.getElem_cons_succ, List.getElem_cons_zero, List.setIfInBounds_toArray, List.set_cons_zero, List.set_cons_succ]
  refine wpAnyH_take (i := 9) (v := ?v10) rfl (by kernel_rfl) (by kernel_rfl) (by kernel_rfl) (fun _ _ _ h => h) (Or.inl ⟨by kernel_rfl, ?h10⟩) HS ?r10
  case h10 => (rintro w ⟨y0, y1, -, -⟩; go_simp) <;> with_reducible rfl
  try simp only [Act.put, List.getElem_toArray, List.getElem_cons_succ, List.getElem_cons_zero, List.setIfInBounds_toArray, List.set_cons_zero, List.set_cons_succ]
  refine wpAnyH_take (i := 10) (v := ?v11) rfl (by kernel_rfl) (by kernel_rfl) (by kernel_rfl) (fun _ _ _ h => h) (Or.inl ⟨by kernel_rfl, ?h11⟩) HS ?r11
  case h11 => (rintro w ⟨y0, y1, -, -⟩; go_simp) <;> with_reducible rfl
  try simp only [Act.put, List.getElem_toArray, List.getElem_cons_succ, List.getElem_cons_zero, List.setIfInBounds_toArray, List.set_cons_zero, List.set_cons_succ]
  refine wpAnyH_take (i := 11) (v := ?v12) rfl (by kernel_rfl) (by kernel_rfl) (by kernel_rfl) (fun _ _ _ h => h) (Or.inl ⟨by kernel_rfl, ?h12⟩) HS ?r12
  case h12 => (rintro w ⟨y0, y1, -, -⟩; go_simp) <;> with_reducible rfl
  try simp only [Act.put, List.getElem_toArray, List.getElem_cons_succ, List.getElem_cons_zero, List.setIfInBounds_toArray, List.set_cons_zero, List.set_cons_succ]
  refine wpAnyH_take (i := 12) (v := ?v13) rfl (by kernel_rfl) (by kernel_rfl) (by kernel_rfl) (fun _ _ _ h => h) (Or.inl ⟨by kernel_rfl, ?h13⟩) HS ?r13
  case h13 => (rintro w ⟨y0, y1, -, -⟩; go_simp) <;> with_reducible rfl
  try simp only [Act.put, List.getElem_toArray, List.getElem_cons_succ, List.getElem_cons_zero, List.setIfInBounds_toArray, List.set_cons_zero, List.set_cons_succ]
  refine wpAnyH_take (i := 13) (v := ?v14) rfl (by kernel_rfl) (by kernel_rfl) (by kernel_rfl) (fun _ _ _ h => h) (Or.inl ⟨by kernel_rfl, ?h14⟩) HS ?r14
  case h14 => (rintro w ⟨y0, y1, -, -⟩; go_simp) <;> with_reducible rfl
  try simp only [Act.put, List.getElem_toArray, List.getElem_cons_succ, List.getElem_cons_zero, List.setIfInBounds_toArray, List.set_cons_zero, List.set_cons_succ]
  refine wpAnyH_take (i := 14) (v := ?v15) rfl (by kernel_rfl) (by kernel_rfl) (by kernel_rfl) (fun _ _ _ h => h) (Or.inl ⟨by kernel_rfl, ?h15⟩) HS ?r15
  case h15 => (rintro w ⟨y0, y1, -, -⟩; go_simp) <;> with_reducible rfl
  try simp only [Act.put, List.getElem_toArray, List.getElem_cons_succ, List.getElem_cons_zero, List.setIfInBounds_toArray, List.set_cons_zero, List.set_cons_succ]
  refine wpAnyH_take (i := 15) (v := ?v16) rfl (by kernel_rfl) (by kernel_rfl) (by kernel_rfl) (fun _ _ _ h => h) (Or.inl ⟨by kernel_rfl, ?h16⟩) HS ?r16
  case h16 => (rintro w ⟨y0, y1, -, -⟩; go_simp) <;> with_reducible rfl
  try simp only [Act.put, List.getElem_toArray, List.getElem_cons_succ, List.getElem_cons_zero, List.setIfInBounds_toArray, List.set_cons_zero, List.set_cons_succ]
  refine wpAnyH_take (i := 16) (v := ?v17) rfl (by kernel_rfl) (by kernel_rfl) (by kernel_rfl) (fun _ _ _ h => h) (Or.inl ⟨by kernel_rfl, ?h17⟩) HS ?r17
  case h17 => (rintro w ⟨y0, y1, -, -⟩; go_simp) <;> with_reducible rfl
  try simp only [Act.put, List.getElem_toArray, List.getElem_cons_succ, List.getElem_cons_zero, List.setIfInBounds_toArray, List.set_cons_zero, List.set_cons_succ]
  refine wpAnyH_take (i := 17) (v := ?v18) rfl (by kernel_rfl) (by kernel_rfl) (by kernel_rfl) (fun _ _ _ h => h) (Or.inl ⟨by kernel_rfl, ?h18⟩) HS ?r18
  case h18 => (rintro w ⟨y0, y1, -, -⟩; go_simp) <;> with_reducible rfl
  try simp only [Act.put, List.getElem_toArray, List.getElem_cons_succ, List.getElem_cons_zero, List.setIfInBounds_toArray, List.set_cons_zero, List.set_cons_succ]
  refine wpAnyH_take (i := 18) (v := ?v19) rfl (by kernel_rfl) (by kernel_rfl) (by kernel_rfl) (fun _ _ _ h => h) (Or.inl ⟨by kernel_rfl, ?h19⟩) HS ?r19
  case h19 => (rintro w ⟨y0, y1, -, -⟩; go_simp) <;> with_reducible rfl
  try simp only [Act.put, List.getElem_toArray, List.getElem_cons_succ, List.getElem_cons_zero, List.setIfInBounds_toArray, List.set_cons_zero, List.set_cons_succ]
  refine wpAnyH_take (i := 19) (v := ?v20) rfl (by kernel_rfl) (by kernel_rfl) (by kernel_rfl) (fun _ _ _ h => h) (Or.inl ⟨by kernel_rfl, ?h20⟩) HS ?r20
  case h20 => (rintro w ⟨y0, y1, -, -⟩; go_simp) <;> with_reducible rfl
  try simp only [Act.put, List.getElem_toArray, List.getElem_cons_succ, List.getElem_cons_zero, List.setIfInBounds_toArray, List.set_cons_zero, List.set_cons_succ]
  refine wpAnyH_done (by kernel_rfl) ?_ _
  clear HS
  go_upto_region 2 with fail
  generalize hmx : (if (if nP < nB then (nB : Int) else (nP : Int)) < (nG : Int) then (nG : Int) else if nP < nB then (nB : Int) else (nP : Int)) = mx
  generalize hmn : (if (nG : Int) < (if nB < nP then (nB : Int) else (nP : Int)) then (nG : Int) else if nB < nP then (nB : Int) else (nP : Int)) = mn
  replace hmx : max (max (nP : Int) (nB : Int)) (nG : Int) = mx := by rw [← hmx]; split <;> split at * <;> omega
  replace hmn : min (min (nP : Int) (nB : Int)) (nG : Int) = mn := by rw [← hmn]; split <;> split at * <;> omega
  have HX : Hid ((lnO nP nB nG ↔ mx ≤ 65536) ∧ (smO nP nB nG ↔ mx = mn)) := by
    refine ⟨?_, ?_⟩
    · unfold lnO; constructor
      · rintro ⟨h1, h2, h3⟩; omega
      · intro h; omega
    · unfold smO; constructor
      · rintro ⟨h1, h2⟩; omega
      · intro h; omega
  clear hmx hmn
  by_cases q1 : r < 0
  · have e : E = 80 := HE.out.1 (fun h => by have := h.1; omega)
    subst e
    go_wp2
    go_ret
    exact ⟨rfl, HB2.out⟩
  by_cases q2 : m < 0
  · have e : E = 80 := HE.out.1 (fun h => by have := h.2.1; omega)
    subst e
    go_wp2
    go_ret
    exact ⟨rfl, HB2.out⟩
  by_cases q3 : 4294967296 ≤ m
  · have e : E = 80 := HE.out.1 (fun h => by have := h.2.2; omega)
    subst e
    go_wp2
    go_ret
    exact ⟨rfl, HB2.out⟩
  have hR : ruO r m := ⟨by omega, by omega, by omega⟩
  by_cases q4 : 65536 < mx
  · have e : E = 3 := HE.out.2.1 hR (fun h => by have := HX.out.1.1 h; omega)
    subst e
    clear hR
    go_wp2
    go_ret
    exact ⟨rfl, HB2.out⟩
  by_cases q5 : mx = mn
  · have e : E = 0 := HE.out.2.2.2 hR (HX.out.1.2 (by omega)) (HX.out.2.2 q5)
    subst e
    subst q5
    clear hR
    go_wp2
    go_ret
    exact ⟨rfl, HB2.out⟩
  · have e : E = 40 := HE.out.2.2.1 hR (HX.out.1.2 (by omega)) (fun h => q5 (HX.out.2.1 h))
    subst e
    have q5' : (mx != mn) = true := by simpa using q5
    clear hR
    go_wp2
    go_ret
    exact ⟨rfl, HB2.out⟩
/-- An outer that a step may begin with. -/
def Bg10 (w : World) (vP vB : Value) (n : Nat) (P : Nat → Int) (w' : World) : Prop := Ar w' vP n P ∧ Ar w' vB n (fun _ => 0) ∧ (Ow w.heap.size vP ∧ Ow w.heap.size vB) ∧ Below w.heap.size w w'
theorem made_ar (w : World) (n : Nat) (hn : n ≤ 1000000) (t : TypeId) : Ar (w.alloc (.cells (madeCells #[.int .i64 0] n) t)) (.slice (some ⟨w.heap.size, 0, none⟩) n n) n (fun _ => 0) := Rw.ar (Rw.made w (.int .i64 0) n t) (by omega) (fun _ _ => by omega)
theorem ow_made {B b n : Nat} (h : B ≤ b) : Ow B (.slice (some ⟨b, 0, none⟩) n n) := fun a m c e _ => by cases e; exact h
theorem Ow.low {B B' : Nat} {v : Value} (h : Ow B v) (hl : B' ≤ B) : Ow B' v := fun a n cap e hn => Nat.le_trans hl (h a n cap e hn)
theorem ow_apart {B d : Nat} {v : Value} (h : Ow B v) (hd : d < B) : Nb v d := fun a n cap e hn e2 => by have := h a n cap e hn; omega
set_option maxRecDepth 100000 in
set_option maxHeartbeats 4000000 in
theorem begin10_ok (va : Value) (n : Nat) (P : Nat → Int) (hn : n ≤ 65536) (w : World) (hA : Ar w va n P) :
    Calls Try.prog 16 #[va] w fun e w' => ∃ (a1 a2 : Option Addr) (c1 c2 : Nat), e = .returned (.tuple #[.agg #[.slice a1 n c1, .slice a2 n c2], .int .i64 0]) ∧ Bg10 w (.slice a1 n c1) (.slice a2 n c2) n P w' := by
  have CC : Hid (∀ W : World, Below w.heap.size w W → Calls Try.prog 28 #[va] W fun e w' => ∃ (ad : Option Addr) (cap : Nat), e = .returned (.slice ad n cap) ∧ Ar w' (.slice ad n cap) n P ∧ Ow W.heap.size (.slice ad n cap) ∧ Below W.heap.size W w') := fun W hb => clone_any va n P (by omega) W (hA.later hb)
  obtain ⟨ad0, ca0, b0, o0, rfl, h1, h2, -, -⟩ := hA
  have hmk := make_fx n (by omega)
  have q1 : ¬ (65536 : Int) < (n : Int) := by omega
  obtain ⟨w1, hw1⟩ : ∃ w1, w1 = w.alloc (.cells #[.slice none 0 0, .slice none 0 0] 27) := ⟨_, rfl⟩
  have hb1 : Below w.heap.size w w1 := by rw [hw1]; exact bel1 _ _
  have hY1 : Y2 w.heap.size (.slice none 0 0) (.slice none 0 0) w1 := by rw [hw1]; exact Y2.new _ _ _ _
  go_enter Try.func16, Try.ntmps16
  go_upto_region 1 with fail
  rw [← hw1]
  clear hw1 h1 h2
  go_upto_region 3 with fail
  have hbD : Below w1.heap.size w1 w1.drew := (Below.refl _ _).drew
  have HB : Hid (Below w.heap.size w w1.drew) := bchain hb1 hbD
  have HY : Hid (Y2 w.heap.size (.slice none 0 0) (.slice none 0 0) w1.drew) := hY1.later hbD
  refine wp_region_held_drew (S := fun _ => True) (by kernel_rfl) trivial (fun HS => ?_)
  clear hbD hb1 hY1
  generalize w1.drew = q0 at *
  refine wpAnyH_take (i := 0) (v := ?_) rfl (by kernel_rfl) (by kernel_rfl) (by kernel_rfl) (fun _ _ _ h => h) (Or.inl ⟨by kernel_rfl, ?_⟩) HS ?_
  rotate_left
  · (rintro w -; go_simp) <;> with_reducible rfl
  try simp only [Act.put, List.getElem_toArray, List.getElem_cons_succ, List.getElem_cons_zero, List.setIfInBounds_toArray, List.set_cons_zero, List.set_cons_succ]
  refine wpAnyH_take (i := 2) (v := ?_) rfl (by kernel_rfl) (by kernel_rfl) (by kernel_rfl) (fun _ _ _ h => h) (Or.inl ⟨by kernel_rfl, ?_⟩) HS ?_
  rotate_left
  · (rintro w -; go_simp) <;> with_reducible rfl
  try simp only [Act.put, List.getElem_toArray, List.getElem_cons_succ, List.getElem_cons_zero, List.setIfInBounds_toArray, List.set_cons_zero, List.set_cons_succ]
  refine wpAnyH_take (i := 3) (v := ?_) rfl (by kernel_rfl) (by kernel_rfl) (by kernel_rfl) (fun _ _ _ h => h) (Or.inl ⟨by kernel_rfl, ?_⟩) HS ?_
  rotate_left
  · (rintro w -; go_simp) <;> with_reducible rfl
  try simp only [Act.put, List.getElem_toArray, List.getElem_cons_succ, List.getElem_cons_zero, List.setIfInBounds_toArray, List.set_cons_zero, List.set_cons_succ]
  have fin : ∀ (q2 : World) (a1 : Option Addr) (c1 g2 : Nat), Hid (Y2 w.heap.size (.slice none 0 0) (.slice none 0 0) q2) → Hid (Below w.heap.size w q2) → Hid (Ar q2 (.slice a1 n c1) n P ∧ Ar q2 (.slice (some ⟨g2, 0, none⟩) n n) n (fun _ => 0) ∧ Ow (w.heap.size + 1) (.slice a1 n c1) ∧ Ow (w.heap.size + 1) (.slice (some ⟨g2, 0, none⟩) n n)) → Hid (Y2 w.heap.size (.slice a1 n c1) (.slice (some ⟨g2, 0, none⟩) n n) ((q2.setCell ⟨w.heap.size, 0, none⟩ (.slice a1 n c1)).setCell ⟨w.heap.size, 1, none⟩ (.slice (some ⟨g2, 0, none⟩) n n))) ∧ Hid (Bg10 w (.slice a1 n c1) (.slice (some ⟨g2, 0, none⟩) n n) n P ((q2.setCell ⟨w.heap.size, 0, none⟩ (.slice a1 n c1)).setCell ⟨w.heap.size, 1, none⟩ (.slice (some ⟨g2, 0, none⟩) n n))) := by
    intro q2 a1 c1 g2 HY HB HA
    obtain ⟨p1, p2, p3, p4⟩ := HA.out
    have n1 := ow_apart p3 (Nat.lt_succ_self w.heap.size)
    have n2 := ow_apart p4 (Nat.lt_succ_self w.heap.size)
    exact ⟨(HY.out.set0 _).set1 _, (p1.set10 _ _ n1).set10 _ _ n1, (p2.set10 _ _ n2).set10 _ _ n2, ⟨p3.low (by omega), p4.low (by omega)⟩, (HB.out.setCell (by dsimp only; omega) _).setCell (by dsimp only; omega) _⟩
  refine wpAnyH_ready (rs := [1, 4]) (by kernel_rfl) (by simp) ?_
  refine AllReadyH.cons rfl (fun K hK => ?_) (AllReadyH.cons rfl (fun K hK => ?_) AllReadyH.nil)
  · go_simp
    refine (CC.out _ HB.out).mono ?_
    rintro e qa ⟨a1, c1, rfl, hA1, hO1, hb⟩
    refine hK.out _ _ trivial (fun HS => ?_)
    clear hK K
    have hs0 : w.heap.size + 1 ≤ q0.heap.size := HY.out.lt
    have HA1 : Hid (Ar qa (.slice a1 n c1) n P ∧ Ow (w.heap.size + 1) (.slice a1 n c1)) := ⟨hA1, hO1.low hs0⟩
    replace HB : Hid (Below w.heap.size w qa) := bchain HB.out hb
    replace HY : Hid (Y2 w.heap.size (.slice none 0 0) (.slice none 0 0) qa) := HY.out.later hb
    clear hA1 hO1 hb CC hs0
    refine wpAnyH_ready (rs := [4]) (by kernel_rfl) (by simp) ?_
    refine AllReadyH.cons rfl (fun K hK => ?_) AllReadyH.nil
    go_simp
    refine hK.out _ _ trivial (fun HS => ?_)
    clear hK K
    have hs1 : w.heap.size + 1 ≤ qa.heap.size := HY.out.lt
    have HA : Hid (Ar (qa.alloc (.cells (madeCells #[.int .i64 0] n) 22)) (.slice a1 n c1) n P ∧ Ar (qa.alloc (.cells (madeCells #[.int .i64 0] n) 22)) (.slice (some ⟨qa.heap.size, 0, none⟩) n n) n (fun _ => 0) ∧ Ow (w.heap.size + 1) (.slice a1 n c1) ∧ Ow (w.heap.size + 1) (.slice (some ⟨qa.heap.size, 0, none⟩) n n)) := ⟨HA1.out.1.later (bel1 _ _), made_ar qa n (by omega) _, HA1.out.2, ow_made hs1⟩
    replace HB : Hid (Below w.heap.size w (qa.alloc (.cells (madeCells #[.int .i64 0] n) 22))) := bchain HB.out (bel1 _ _)
    replace HY : Hid (Y2 w.heap.size (.slice none 0 0) (.slice none 0 0) (qa.alloc (.cells (madeCells #[.int .i64 0] n) 22))) := HY.out.later (bel1 _ _)
    clear HA1 hs1
    generalize qa.alloc (.cells (madeCells #[.int .i64 0] n) 22) = q2 at *
    generalize qa.heap.size = g2 at *
    refine wpAnyH_take (i := 5) (v := ?_) rfl (by kernel_rfl) (by kernel_rfl) (by kernel_rfl) (fun _ _ _ h => h) (Or.inl ⟨by kernel_rfl, ?_⟩) HS ?_
    rotate_left
    · (rintro w -; go_simp) <;> with_reducible rfl
    try simp only [Act.put, List.getElem_toArray, List.getElem_cons_succ, List.getElem_cons_zero, List.setIfInBounds_toArray, List.set_cons_zero, List.set_cons_succ]
    have y0 := HY.out.c0
    have y1 := HY.out.c1
    have f0 := HY.out.f0
    have f1 := HY.out.f1
    obtain ⟨HZ, HN⟩ := fin q2 a1 c1 g2 HY HB HA
    clear fin HY HB HA hmk
    refine wpAnyH_ready (rs := [6]) (by kernel_rfl) (by simp) ?_
    refine AllReadyH.cons rfl (fun K hK => ?_) AllReadyH.nil
    go_simp
    refine hK.out _ _ trivial (fun HS => ?_)
    clear hK K y0 y1 f0 f1
    refine wpAnyH_take (i := 7) (v := ?_) rfl (by kernel_rfl) (by kernel_rfl) (by kernel_rfl) (fun _ _ _ h => h) (Or.inl ⟨by kernel_rfl, ?_⟩) HS ?_
    rotate_left
    · (rintro w -; go_simp) <;> with_reducible rfl
    try simp only [Act.put, List.getElem_toArray, List.getElem_cons_succ, List.getElem_cons_zero, List.setIfInBounds_toArray, List.set_cons_zero, List.set_cons_succ]
    refine wpAnyH_done (by kernel_rfl) ?_ _
    clear HS
    generalize ((q2.setCell ⟨w.heap.size, 0, none⟩ (.slice a1 n c1)).setCell ⟨w.heap.size, 1, none⟩ (.slice (some ⟨g2, 0, none⟩) n n)) = wE at *
    have z0 := HZ.out.c0
    have z1 := HZ.out.c1
    go_wp2
    exact bodyPost_ret (v := .tuple #[.agg #[.slice a1 n c1, .slice (some ⟨g2, 0, none⟩) n n], .int .i64 0]) (by simp [results, Try.results16, go_sem, z0, z1]) rfl ⟨_, _, _, _, rfl, HN.out⟩
  · go_simp
    refine hK.out _ _ trivial (fun HS => ?_)
    clear hK K
    have hs1 : w.heap.size + 1 ≤ q0.heap.size := HY.out.lt
    have HA1 : Hid (Ar (q0.alloc (.cells (madeCells #[.int .i64 0] n) 22)) (.slice (some ⟨q0.heap.size, 0, none⟩) n n) n (fun _ => 0) ∧ Ow (w.heap.size + 1) (.slice (some ⟨q0.heap.size, 0, none⟩) n n)) := ⟨made_ar q0 n (by omega) _, ow_made hs1⟩
    replace HB : Hid (Below w.heap.size w (q0.alloc (.cells (madeCells #[.int .i64 0] n) 22))) := bchain HB.out (bel1 _ _)
    replace HY : Hid (Y2 w.heap.size (.slice none 0 0) (.slice none 0 0) (q0.alloc (.cells (madeCells #[.int .i64 0] n) 22))) := HY.out.later (bel1 _ _)
    clear hs1
    generalize q0.alloc (.cells (madeCells #[.int .i64 0] n) 22) = qa at *
    generalize q0.heap.size = g2 at *
    refine wpAnyH_ready (rs := [1]) (by kernel_rfl) (by simp) ?_
    refine AllReadyH.cons rfl (fun K hK => ?_) AllReadyH.nil
    go_simp
    refine (CC.out _ HB.out).mono ?_
    rintro e q2 ⟨a1, c1, rfl, hA1, hO1, hb⟩
    refine hK.out _ _ trivial (fun HS => ?_)
    clear hK K
    have hs1 : w.heap.size + 1 ≤ qa.heap.size := HY.out.lt
    have HA : Hid (Ar q2 (.slice a1 n c1) n P ∧ Ar q2 (.slice (some ⟨g2, 0, none⟩) n n) n (fun _ => 0) ∧ Ow (w.heap.size + 1) (.slice a1 n c1) ∧ Ow (w.heap.size + 1) (.slice (some ⟨g2, 0, none⟩) n n)) := ⟨hA1, HA1.out.1.later hb, hO1.low hs1, HA1.out.2⟩
    replace HB : Hid (Below w.heap.size w q2) := bchain HB.out hb
    replace HY : Hid (Y2 w.heap.size (.slice none 0 0) (.slice none 0 0) q2) := HY.out.later hb
    clear HA1 hs1 hA1 hO1 hb CC
    refine wpAnyH_take (i := 5) (v := ?_) rfl (by kernel_rfl) (by kernel_rfl) (by kernel_rfl) (fun _ _ _ h => h) (Or.inl ⟨by kernel_rfl, ?_⟩) HS ?_
    rotate_left
    · (rintro w -; go_simp) <;> with_reducible rfl
    try simp only [Act.put, List.getElem_toArray, List.getElem_cons_succ, List.getElem_cons_zero, List.setIfInBounds_toArray, List.set_cons_zero, List.set_cons_succ]
    have y0 := HY.out.c0
    have y1 := HY.out.c1
    have f0 := HY.out.f0
    have f1 := HY.out.f1
    obtain ⟨HZ, HN⟩ := fin q2 a1 c1 g2 HY HB HA
    clear fin HY HB HA hmk
    refine wpAnyH_ready (rs := [6]) (by kernel_rfl) (by simp) ?_
    refine AllReadyH.cons rfl (fun K hK => ?_) AllReadyH.nil
    go_simp
    refine hK.out _ _ trivial (fun HS => ?_)
    clear hK K y0 y1 f0 f1
    refine wpAnyH_take (i := 7) (v := ?_) rfl (by kernel_rfl) (by kernel_rfl) (by kernel_rfl) (fun _ _ _ h => h) (Or.inl ⟨by kernel_rfl, ?_⟩) HS ?_
    rotate_left
    · (rintro w -; go_simp) <;> with_reducible rfl
    try simp only [Act.put, List.getElem_toArray, List.getElem_cons_succ, List.getElem_cons_zero, List.setIfInBounds_toArray, List.set_cons_zero, List.set_cons_succ]
    refine wpAnyH_done (by kernel_rfl) ?_ _
    clear HS
    generalize ((q2.setCell ⟨w.heap.size, 0, none⟩ (.slice a1 n c1)).setCell ⟨w.heap.size, 1, none⟩ (.slice (some ⟨g2, 0, none⟩) n n)) = wE at *
    have z0 := HZ.out.c0
    have z1 := HZ.out.c1
    go_wp2
    exact bodyPost_ret (v := .tuple #[.agg #[.slice a1 n c1, .slice (some ⟨g2, 0, none⟩) n n], .int .i64 0]) (by simp [results, Try.results16, go_sem, z0, z1]) rfl ⟨_, _, _, _, rfl, HN.out⟩
set_option maxRecDepth 100000 in
set_option maxHeartbeats 4000000 in
theorem delta10_ux (va vb : Value) (n m : Nat) (f g : Nat → Int) (hn : n ≤ 70000) (hm : m ≤ 70000) (p : Option Addr) (c : Int) (c0 : 0 ≤ c) (c1 : c ≤ 800000000) (w : World) (hA : Ar w va n f) (hB : Ar w vb m g) (ha : Nv va p) (hb : Nv vb p) (hp : Up p c w) :
    Calls Try.prog 17 #[.pointer p, va, vb] w fun e w' => (∃ v', e = .returned (.tuple #[v', .int .i64 (dE n m)]) ∧ LL w w' v' n (fun i => clv (f i - g i)) (dE n m)) ∧ Ux p (c + cE (dE n m) (cntV (fun i => ovv (f i - g i)) n)) w w' := by
  have CS := sub10_ux va vb n m f g hn hm p c c0 c1 w hA hB ha hb hp
  obtain ⟨ad0, ca0, b0, o0, rfl, -, -, -, -⟩ := hA
  obtain ⟨ad1, ca1, b1, o1, rfl, -, -, -, -⟩ := hB
  obtain ⟨E, hE⟩ : ∃ E, dE n m = E := ⟨_, rfl⟩
  rw [hE] at CS ⊢
  clear ha hb hp hE
  go_enter Try.func17, Try.ntmps17
  go_wp2_with fail
  refine CS.mono ?_
  rintro e w1 ⟨⟨v', rfl, hL⟩, hU⟩
  have HL : Hid (LL w w1 v' n (fun i => clv (f i - g i)) E ∧ Ux p (c + cE E (cntV (fun i => ovv (f i - g i)) n)) w w1) := ⟨hL, hU⟩
  clear CS hL hU
  go_wp2
  go_ret2
  exact ⟨⟨_, rfl, HL.out.1⟩, HL.out.2⟩
end Go.Proofs.Ytfcneciknldohaa
