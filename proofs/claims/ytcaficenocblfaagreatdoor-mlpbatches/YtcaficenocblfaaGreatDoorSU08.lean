/-
  Texts of this proof, joined: PWalkR BK PWalkA PWalkE BJ PWalkS PWalkQ.
-/
import Derived.Test.YtcaficenocblfaaGreatDoorSU01
import Derived.Test.YtcaficenocblfaaGreatDoorSU04
import Derived.Test.YtcaficenocblfaaGreatDoorSU07
import Derived.Deep.DrawnRows
import Derived.Deep.Cut
import Derived.Deep.DeepCutAuto
import Derived.Deep.QuietTactic
import Derived.BigQuiet
import Derived.Deep.RegionHeld3
set_option linter.unusedVariables false
set_option linter.unusedSimpArgs false
namespace Go.Proofs.YtcaficenocblfaaGreatDoor
open Go.RowKit

structure Wd (b n : Nat) (F : Nat → Int) (w : World) : Prop where
  c0 : ∀ k, k < n → w.cell? ⟨b, k * 2, none⟩ = some (.int .i64 (hi (F k)))
  c1 : ∀ k, k < n → w.cell? ⟨b, k * 2 + 1, none⟩ = some (.int .u64 (lo (F k)))
  f0 : ∀ k, k < n → w.frozen? ⟨b, k * 2, none⟩ = false
  f1 : ∀ k, k < n → w.frozen? ⟨b, k * 2 + 1, none⟩ = false
theorem Wd.later {b n : Nat} {F : Nat → Int} {w w' : World} (r : Wd b n F w) (hb : Below w.heap.size w w') : Wd b n F w' :=
  ⟨fun k hk => cell_later hb (r.c0 k hk), fun k hk => cell_later hb (r.c1 k hk), fun k hk => frozen_later hb (r.c0 k hk) (r.f0 k hk), fun k hk => frozen_later hb (r.c1 k hk) (r.f1 k hk)⟩
theorem Wd.block {b n : Nat} {F : Nat → Int} {w w' : World} (r : Wd b n F w) (hb : w'.heap[b]? = w.heap[b]?) : Wd b n F w' :=
  ⟨fun k hk => (World.cell?_of_block (w := w) hb).trans (r.c0 k hk), fun k hk => (World.cell?_of_block (w := w) hb).trans (r.c1 k hk), fun k hk => (World.frozen?_of_block (w := w) hb).trans (r.f0 k hk), fun k hk => (World.frozen?_of_block (w := w) hb).trans (r.f1 k hk)⟩
theorem Wd.congr {b n : Nat} {F G : Nat → Int} {w : World} (r : Wd b n F w) (e : ∀ k, k < n → F k = G k) : Wd b n G w :=
  ⟨fun k hk => by rw [r.c0 k hk, e k hk], fun k hk => by rw [r.c1 k hk, e k hk], r.f0, r.f1⟩
theorem Wd.set {b n : Nat} {F : Nat → Int} {w : World} (r : Wd b n F w) (j : Nat) (X : Int) : Wd b n (fun k => if k = j then X else F k) ((w.setCell ⟨b, j * 2, none⟩ (.int .i64 (hi X))).setCell ⟨b, j * 2 + 1, none⟩ (.int .u64 (lo X))) := by
  refine ⟨fun k hk => ?_, fun k hk => ?_, fun k hk => by rw [World.frozen?_setCell, World.frozen?_setCell]; exact r.f0 k hk, fun k hk => by rw [World.frozen?_setCell, World.frozen?_setCell]; exact r.f1 k hk⟩
  · refine (World.cell?_setCell_other _ _ _ _ (by first | (simp; done) | (simp; omega))).trans ?_
    by_cases e : k = j
    · subst e
      rw [if_pos rfl]
      exact World.cell?_setCell_same' _ _ _ (by rw [r.c0 k hk]; rfl)
    · rw [if_neg e]
      exact (World.cell?_setCell_other _ _ _ _ (by first | (simp; done) | (simp; omega))).trans (r.c0 k hk)
  · by_cases e : k = j
    · subst e
      rw [if_pos rfl]
      exact World.cell?_setCell_same' _ _ _ (by rw [World.cell?_setCell_other _ _ _ _ (by first | (simp; done) | (simp; omega)), r.c1 k hk]; rfl)
    · rw [if_neg e]
      refine (World.cell?_setCell_other _ _ _ _ (by first | (simp; done) | (simp; omega))).trans ?_
      exact (World.cell?_setCell_other _ _ _ _ (by first | (simp; done) | (simp; omega))).trans (r.c1 k hk)
theorem made_get2 (y z : Value) (n k : Nat) (hk : k < n) : (madeCells #[y, z] n)[k]? = some (if k % 2 = 0 then y else z) := by
  unfold madeCells
  rw [Array.getElem?_map, Array.getElem?_eq_getElem (by simpa using hk)]
  rcases Nat.mod_two_eq_zero_or_one k with h | h <;> simp [h]
theorem hi_nought : hi 0 = 0 := by decide +kernel
theorem lo_nought : lo 0 = 0 := by decide +kernel
theorem Wd.made (w : World) (n : Nat) (t : TypeId) : Wd w.heap.size n (fun _ => 0) (w.alloc (.cells (madeCells #[.int .i64 0, .int .u64 0] (n * 2)) t)) := by
  refine ⟨fun k hk => ?_, fun k hk => ?_, fun k hk => by simp [go_sem], fun k hk => by simp [go_sem]⟩
  · have := made_get2 (.int .i64 0) (.int .u64 0) (n * 2) (k * 2) (by omega)
    rw [if_pos (by omega)] at this
    simp [go_sem, this, hi_nought]
  · have := made_get2 (.int .i64 0) (.int .u64 0) (n * 2) (k * 2 + 1) (by omega)
    rw [if_neg (by omega)] at this
    simp [go_sem, this, lo_nought]
theorem dinfo_wd : (Tryz.prog.info? 99).map (fun i => (i.zero, i.size, i.bytes)) = some (some (.agg #[.int .i64 0, .int .u64 0]), 2, 16) := by kernel_rfl
theorem make_wd (n : Nat) (hn : n ≤ 1000000) (w : World) : (Instr.makeSlice 94 (.int .i64 (n : Int)) (.int .i64 (n : Int))).run Tryz.prog w = .ok (.slice (some ⟨w.heap.size, 0, none⟩) n n) (w.alloc (.cells (madeCells #[.int .i64 0, .int .u64 0] (n * 2)) 99)) := by
  obtain ⟨i0, hi, hz0, hz1, hz2⟩ := info_parts dinfo_wd
  have h := run_make (P := Tryz.prog) w 94 99 i0 (.agg #[.int .i64 0, .int .u64 0]) Tryz.underlying94 hi hz0 .i64 .i64 (n : Int) (n : Int) (by omega) (by omega) (by rw [hz2]; omega) (by omega)
  rw [hz1] at h
  exact h

set_option maxRecDepth 100000 in
set_option maxHeartbeats 8000000 in
theorem pairs_plus (ba : Nat) (vb : Value) (n : Nat) (F g : Nat → Int) (w : World) (hn : n ≤ 70000) (hA : Wd ba n F w) (hB : Ar w vb n g) :
    Calls Tryz.prog 36 #[.slice (some ⟨ba, 0, none⟩) n n, vb, .func (.func 37) #[] #[]] w fun e w' => e = .returned (.slice (some ⟨w.heap.size, 0, none⟩) n n) ∧ Wd w.heap.size n (fun k => F k + g k) w' ∧ Below w.heap.size w w' := by
  obtain ⟨adq, caq, bq, oq, rfl, q1, q2, -, -⟩ := id hB
  unfold maxLen at *
  have hmk := make_wd n (by omega)
  have hR0 := Wd.made w n 99
  have hS0 : Hid (Below w.heap.size w (w.alloc (.cells (madeCells #[.int .i64 0, .int .u64 0] (n * 2)) 99))) := bel1 _ _
  have hz0 : w.heap.size < (w.alloc (.cells (madeCells #[.int .i64 0, .int .u64 0] (n * 2)) 99)).heap.size := by rw [World.size_alloc]; omega
  have HAB : Hid (Wd ba n F w ∧ Ar w (.slice adq n caq) n g) := ⟨hA, hB⟩
  clear hA hB
  go_enter Tryz.func36, Tryz.ntmps36
  go_upto_region 3 with fail
  generalize w.alloc (.cells (madeCells #[.int .i64 0, .int .u64 0] (n * 2)) 99) = w0 at *
  clear hmk
  go_loopw [15] (fun si wr => ∃ j : Nat, j ≤ n ∧ si = .int .i64 (j : Int) ∧ Hid (Below w.heap.size w wr) ∧ Hid (Wd w.heap.size n (fun k => if k < j then F k + g k else 0) wr) ∧ w.heap.size < wr.heap.size) (fun si _ => n - (intOf si).toNat)
  case atStart =>
    exact ⟨0, by omega, rfl, hS0, hR0.congr (fun k hk => by simp), hz0⟩
  case round =>
    obtain ⟨j, hj, rfl, hS, hR, hz⟩ := hrel
    by_cases hlt : j < n
    · have hjI : (j : Int) < (n : Int) := by omega
      obtain ⟨b, o, rfl, cB, y0, y1⟩ := (HAB.out.2.later hS.out).at j hlt
      have cA0 := (HAB.out.1.later hS.out).c0 j hlt
      have cA1 := (HAB.out.1.later hS.out).c1 j hlt
      have CM : Hid (∀ W : World, Calls Tryz.prog 37 #[.agg #[.int .i64 (hi (F j)), .int .u64 (lo (F j))], .int .i64 (g j)] W fun e w' => e = .returned (.agg #[.int .i64 (hi (F j + g j)), .int .u64 (lo (F j + g j))]) ∧ Below W.heap.size W w') := fun W => plus1_any (F j) (g j) y0 y1 W
      clear y0 y1
      obtain ⟨th, hth⟩ : ∃ x, hi (F j) = x := ⟨_, rfl⟩
      obtain ⟨tl, htl⟩ : ∃ x, lo (F j) = x := ⟨_, rfl⟩
      rw [hth] at cA0 CM
      rw [htl] at cA1 CM
      obtain ⟨rh, hrh⟩ : ∃ x, hi (F j + g j) = x := ⟨_, rfl⟩
      obtain ⟨rl, hrl⟩ : ∃ x, lo (F j + g j) = x := ⟨_, rfl⟩
      rw [hrh, hrl] at CM
      have HE : Hid (hi (F j + g j) = rh ∧ lo (F j + g j) = rl) := ⟨hrh, hrl⟩
      clear hth htl hrh hrl
      have A0 := B2.new wr (.int .i64 th) (.int .u64 tl) 99
      have hb1 := bel1 wr (.cells #[.int .i64 th, .int .u64 tl] 99)
      have cB1 := cell_later hb1 cB
      have D1 : Hid (Wd w.heap.size n (fun k => if k < j then F k + g k else 0) (wr.alloc (.cells #[.int .i64 th, .int .u64 tl] 99))) := hR.out.later hb1
      have S1 : Hid (Below w.heap.size w (wr.alloc (.cells #[.int .i64 th, .int .u64 tl] 99))) := bchain hS.out hb1
      have hz1 : w.heap.size < (wr.alloc (.cells #[.int .i64 th, .int .u64 tl] 99)).heap.size := by rw [World.size_alloc]; omega
      clear hb1 hR hS
      go_upto_region 5 with fail
      clear cB cA0 cA1
      generalize wr.alloc (.cells #[.int .i64 th, .int .u64 tl] 99) = w1 at *
      have hd1 : Below w1.heap.size w1 w1.drew := (Below.refl _ _).drew
      have A := A0.later hd1
      have V := cell_later hd1 cB1
      have D : Hid (Wd w.heap.size n (fun k => if k < j then F k + g k else 0) w1.drew) := D1.out.later hd1
      have CW : Hid (Below w.heap.size w w1.drew) := bchain S1.out hd1
      have CC0 : w1.drew.cell? ⟨w.heap.size, j * 2, none⟩ = some (.int .i64 0) := by have h := D.out.c0 j hlt; rw [if_neg (by omega), hi_nought] at h; exact h
      have CC1 : w1.drew.cell? ⟨w.heap.size, j * 2 + 1, none⟩ = some (.int .u64 0) := by have h := D.out.c1 j hlt; rw [if_neg (by omega), lo_nought] at h; exact h
      have CF0 := D.out.f0 j hlt
      have CF1 := D.out.f1 j hlt
      have hbw : b < w.heap.size := by
        obtain ⟨b', o', e', c', -, -⟩ := HAB.out.2.at j hlt
        cases e'
        exact World.block_lt_of_cell? _ _ c'
      clear hd1 A0 cB1 D1 S1
      go_region_held3 (fun w' => w'.cell? ⟨wr.heap.size, 0, none⟩ = some (.int .i64 th) ∧ w'.cell? ⟨wr.heap.size, 1, none⟩ = some (.int .u64 tl) ∧ w'.cell? ⟨b, o + j, none⟩ = some (.int .i64 (g j)))
        (first | exact ⟨A.c0, A.c1, V⟩ | (have A' := (A.far (p := ⟨w.heap.size, j * 2, none⟩) (.int .i64 rh) (by dsimp only; omega)).far (p := ⟨w.heap.size, j * 2 + 1, none⟩) (.int .u64 rl) (by dsimp only; omega); exact ⟨A'.c0, A'.c1, cell_set (by dsimp only; omega) (cell_set (by dsimp only; omega) V)⟩))
        (first | (go_at_call 37; refine (CM.out _).mono ?_; rintro e wz ⟨rfl, hb⟩; replace A := A.later hb; replace V := cell_later hb V; replace CC0 := cell_later hb CC0; replace CC1 := cell_later hb CC1; replace CF0 := (Wd.later D.out hb).f0 j hlt; replace CF1 := (Wd.later D.out hb).f1 j hlt; replace D : Hid (Wd w.heap.size n (fun k => if k < j then F k + g k else 0) wz) := D.out.later hb; replace CW : Hid (Below w.heap.size w wz) := bchain CW.out hb; clear hb))
      have D5 : Hid (Wd w.heap.size n (fun k => if k < j + 1 then F k + g k else 0) ((wz.setCell ⟨w.heap.size, j * 2, none⟩ (.int .i64 rh)).setCell ⟨w.heap.size, j * 2 + 1, none⟩ (.int .u64 rl))) := by
        have h := D.out.set j (F j + g j)
        rw [HE.out.1, HE.out.2] at h
        exact h.congr (fun k hk => by
          by_cases e : k = j
          · subst e; simp
          · rw [if_neg e]
            by_cases e2 : k < j
            · rw [if_pos e2, if_pos (by omega)]
            · rw [if_neg e2, if_neg (by omega)])
      have W5 : Hid (Below w.heap.size w ((wz.setCell ⟨w.heap.size, j * 2, none⟩ (.int .i64 rh)).setCell ⟨w.heap.size, j * 2 + 1, none⟩ (.int .u64 rl))) := (CW.out.setCell (Nat.le_refl _) _).setCell (Nat.le_refl _) _
      have hz5 : w.heap.size < ((wz.setCell ⟨w.heap.size, j * 2, none⟩ (.int .i64 rh)).setCell ⟨w.heap.size, j * 2 + 1, none⟩ (.int .u64 rl)).heap.size := by
        have h := World.block_lt_of_cell? _ _ CC0
        dsimp only at h
        rw [World.size_setCell, World.size_setCell]
        exact h
      clear D CW A V CC0 CC1 CF0 CF1 CM HE
      go_wp2
      go_roundw
      case rel => exact ⟨j + 1, by omega, by go_num, W5, D5, hz5⟩
      case measure => simp [intOf]; omega
    · obtain rfl : j = n := by omega
      have hjI : ¬ (j : Int) < (j : Int) := by omega
      have hAr : Hid (Wd w.heap.size j (fun k => F k + g k) wr) := hR.out.congr (fun k hk => by rw [if_pos hk])
      clear hR
      go_wp2
      go_ret
      exact ⟨rfl, hAr.out, hS.out⟩
end Go.Proofs.YtcaficenocblfaaGreatDoor
set_option linter.unusedVariables false
set_option linter.unusedSimpArgs false
namespace Go.Proofs.YtcaficenocblfaaGreatDoor
open Go.RowKit

def VT (w : World) : Prop := TabAt w
theorem VT.later {w w' : World} (h : VT w) (hb : Below w.heap.size w w') : VT w' := TabAt.later h hb
def Uc (w : World) (d : Nat) (c : Int) : Prop := w.cell? ⟨d, 0, none⟩ = some (.int .i64 c) ∧ w.frozen? ⟨d, 0, none⟩ = false
def dE (n m : Nat) : Int := if 65536 < n ∨ 65536 < m then 3 else if n = m then 0 else 40
def dX (n m : Nat) (f g : Nat → Int) : Int := if dE n m = 0 then clv (rr (dotV f g n) 32) else 0
def dO (n m : Nat) (f g : Nat → Int) : Bool := if dE n m = 0 then ovv (rr (dotV f g n) 32) else false
def sE (n : Nat) : Int := if 65536 < n then 3 else 0
def sX (n : Nat) (f : Nat → Int) : Int := if sE n = 0 then clv (sumV f n) else 0
def sO (n : Nat) (f : Nat → Int) : Bool := if sE n = 0 then ovv (sumV f n) else false
def mE (n : Nat) : Int := if 65536 < n then 3 else if n = 0 then 40 else 0
def mX (n : Nat) (f : Nat → Int) : Int := if mE n = 0 then clv (quo (sumV f n) (n : Int)) else 0
def mO (n : Nat) (f : Nat → Int) : Bool := if mE n = 0 then ovv (quo (sumV f n) (n : Int)) else false
def nX (n : Nat) (f : Nat → Int) : Int := if sE n = 0 then rtX (dotV f f n) else 0
structure L2 (w : World) (du dv : Nat) (cu cv : Int) (wz : World) : Prop where
  B : Below w.heap.size w wz
  u : Uc wz du cu
  v : Uc wz dv cv
theorem Uc.later {w w' : World} {d : Nat} {c : Int} (h : Uc w d c) (hb : Below w.heap.size w w') : Uc w' d c := ⟨cell_later hb h.1, frozen_later hb h.1 h.2⟩
theorem Uc.un {w w' : World} {d d' : Nat} {c c' : Int} (h : Uc w d c) (hU : Un d' c' w w') (hd : d ≠ d') : Uc w' d c := by
  have hb := World.block_lt_of_cell? _ _ h.1
  have e := hU.k d hb hd
  exact ⟨(World.cell?_of_block (w := w) e).trans h.1, (World.frozen?_of_block (w := w) e).trans h.2⟩
theorem L2.later {w : World} {du dv : Nat} {cu cv : Int} {wz wy : World} (h : L2 w du dv cu cv wz) (hb : Below wz.heap.size wz wy) : L2 w du dv cu cv wy := ⟨bchain h.B hb, h.u.later hb, h.v.later hb⟩
theorem L2.unu {w : World} {du dv : Nat} {cu cv c : Int} {wz wy : World} (h : L2 w du dv cu cv wz) (hU : Un du c wz wy) (hu : w.heap.size ≤ du) (hne : du ≠ dv) : L2 w du dv c cv wy :=
  ⟨hU.b _ _ hu h.B.size h.B, ⟨hU.c, hU.f⟩, h.v.un hU (fun e => hne e.symm)⟩
theorem L2.unv {w : World} {du dv : Nat} {cu cv c : Int} {wz wy : World} (h : L2 w du dv cu cv wz) (hU : Un dv c wz wy) (hv : w.heap.size ≤ dv) (hne : du ≠ dv) : L2 w du dv cu c wy :=
  ⟨hU.b _ _ hv h.B.size h.B, h.u.un hU hne, ⟨hU.c, hU.f⟩⟩
theorem Ar.nb {w : World} {v : Value} {n : Nat} {f : Nat → Int} (h : Ar w v n f) {d : Nat} (hd : w.heap.size ≤ d) : Nb v d := by
  obtain ⟨adr, cap, b, o, rfl, h2, h3, h4, h5⟩ := h
  intro a n' cap' e hn
  have e2 := h4 (by cases e; exact hn)
  subst e2
  cases e
  have h6 : b < w.heap.size := World.block_lt_of_cell? _ _ (h5 0 hn).1
  show b ≠ d
  omega
end Go.Proofs.YtcaficenocblfaaGreatDoor
set_option linter.unusedVariables false
set_option linter.unusedSimpArgs false
namespace Go.Proofs.YtcaficenocblfaaGreatDoor
open Go.RowKit
attribute [local go_sem ↓] Go.wp_at_zero Go.wp_at_succ

def two (a b : Int) (k : Nat) : Int := if k = 0 then a else b
end Go.Proofs.YtcaficenocblfaaGreatDoor
set_option linter.unusedVariables false
set_option linter.unusedSimpArgs false
namespace Go.Proofs.YtcaficenocblfaaGreatDoor
open Go.RowKit

def cE (E c : Int) : Int := if E = 0 then c else 0
def LL (w w' : World) (v' : Value) (n : Nat) (F : Nat → Int) (E : Int) : Prop :=
  (E = 0 → Ar w' v' n F) ∧ (E ≠ 0 → ∃ ad cap, v' = .slice ad 0 cap) ∧ Ow w.heap.size v'
structure An (du dv : Nat) (v : Value) (n : Nat) (f : Nat → Int) (wz : World) : Prop where
  a : Ar wz v n f
  u : Nb v du
  v : Nb v dv
end Go.Proofs.YtcaficenocblfaaGreatDoor
set_option linter.unusedVariables false
set_option linter.unusedSimpArgs false
namespace Go.Proofs.YtcaficenocblfaaGreatDoor
open Go.RowKit

set_option maxHeartbeats 1000000 in
theorem tooLong_any (a : Option Addr) (n c : Nat) (hn : n ≤ maxLen) (w : World) :
    Calls Tryz.prog 62 #[.slice a n c] w fun e w' => e = .returned (.bool (decide (65536 < n))) ∧ w' = w := by
  unfold maxLen at hn
  by_cases h : 65536 < n
  · have h1 : (65536 : Int) < (n : Int) := by omega
    rw [decide_eq_true h]
    clear h
    go_enter Tryz.func62, Tryz.ntmps62
    go_wp2
    go_ret
    exact ⟨rfl, rfl⟩
  · have h1 : ¬ (65536 : Int) < (n : Int) := by omega
    rw [decide_eq_false h]
    clear h
    go_enter Tryz.func62, Tryz.ntmps62
    go_wp2
    go_ret
    exact ⟨rfl, rfl⟩
def longB (ns : Nat → Nat) (m : Nat) : Bool := (List.range m).any (fun k => decide (65536 < ns k))
theorem longB_yes (ns : Nat → Nat) (m k : Nat) (hk : k < m) (h : 65536 < ns k) : longB ns m = true :=
  List.any_eq_true.2 ⟨k, List.mem_range.2 hk, decide_eq_true h⟩
theorem longB_no (ns : Nat → Nat) (m : Nat) (h : ∀ k, k < m → ¬ 65536 < ns k) : longB ns m = false := by
  rw [Bool.eq_false_iff]
  intro e
  obtain ⟨k, hk, h2⟩ := List.any_eq_true.1 e
  exact h k (List.mem_range.1 hk) (of_decide_eq_true h2)
def Hs (w : World) (v : Value) (m : Nat) (ns : Nat → Nat) : Prop :=
  ∃ (adr : Option Addr) (cap g o : Nat), v = .slice adr m cap ∧ m ≤ cap ∧ cap ≤ maxLen ∧ (0 < m → adr = some ⟨g, o, none⟩) ∧ ∀ k, k < m → ns k ≤ maxLen ∧ ∃ (ad : Option Addr) (ca : Nat), w.cell? ⟨g, o + k, none⟩ = some (.slice ad (ns k) ca)
set_option maxRecDepth 100000 in
set_option maxHeartbeats 2000000 in
theorem index_any (v : Value) (m : Nat) (ns : Nat → Nat) (w : World) (hH : Hs w v m ns) :
    Calls Tryz.prog 92 #[v, .func (.func 62) #[] #[]] w fun e w' => ∃ i : Int, e = .returned (.int .i64 i) ∧ (longB ns m = true → 0 ≤ i) ∧ (longB ns m = false → i < 0) ∧ w' = w := by
  obtain ⟨adr, cap, g, o, rfl, k1, k2, k3, k4⟩ := hH
  unfold maxLen at k2
  have HC : Hid (∀ k, k < m → ns k ≤ maxLen ∧ ∃ (ad : Option Addr) (ca : Nat), w.cell? ⟨g, o + k, none⟩ = some (.slice ad (ns k) ca)) := k4
  have HK : Hid (0 < m → adr = some ⟨g, o, none⟩) := k3
  clear k3 k4
  go_enter Tryz.func92, Tryz.ntmps92
  go_wp2
  go_loopw [8] (fun s8 wr => ∃ j : Nat, j ≤ m ∧ s8 = .int .i64 (j : Int) ∧ Hid (∀ k, k < j → ¬ 65536 < ns k) ∧ wr = w) (fun s8 _ => m - (intOf s8).toNat)
  case atStart => exact ⟨0, by omega, rfl, fun k hk => by omega, rfl⟩
  case round =>
    obtain ⟨j, hj, rfl, hA, rfl⟩ := hrel
    by_cases hlt : j < m
    · have hjI : (j : Int) < (m : Int) := by omega
      have ea := HK.out (by omega)
      subst ea
      obtain ⟨hl, ad, ca, hcell⟩ := HC.out j hlt
      have CT : Hid (∀ W : World, Calls Tryz.prog 62 #[.slice ad (ns j) ca] W fun e w' => e = .returned (.bool (decide (65536 < ns j))) ∧ w' = W) := fun W => tooLong_any ad (ns j) ca hl W
      clear hl
      by_cases hlong : 65536 < ns j
      · rw [decide_eq_true hlong] at CT
        have HF : Hid (longB ns m = true) := longB_yes ns m j hlt hlong
        clear hlong hA
        go_wp2_with (go_at_call 62; refine (CT.out _).mono ?_; rintro e wz ⟨rfl, hz⟩; subst hz)
        go_ret
        exact ⟨_, rfl, fun _ => by omega, fun h => (by rw [HF.out] at h; cases h), rfl⟩
      · rw [decide_eq_false hlong] at CT
        have HA2 : Hid (∀ k, k < j + 1 → ¬ 65536 < ns k) := fun k hk => by
          rcases Nat.lt_or_ge k j with h | h
          · exact hA.out k h
          · obtain rfl : k = j := by omega
            exact hlong
        clear hlong hA
        go_wp2_with (go_at_call 62; refine (CT.out _).mono ?_; rintro e wz ⟨rfl, hz⟩; subst hz)
        go_roundw
        case rel => exact ⟨j + 1, by omega, by go_num, HA2, trivial⟩
        case measure => simp [intOf]; omega
    · have HF : Hid (longB ns m = false) := longB_no ns m (fun k hk => hA.out k (by omega))
      have hjI : ¬ (j : Int) < (m : Int) := by omega
      clear hA
      go_wp2
      go_ret
      exact ⟨_, rfl, fun h => (by rw [HF.out] at h; cases h), fun _ => by omega, rfl⟩
set_option maxHeartbeats 1000000 in
theorem contains_any (v : Value) (m : Nat) (ns : Nat → Nat) (w : World) (hH : Hs w v m ns) :
    Calls Tryz.prog 61 #[v, .func (.func 62) #[] #[]] w fun e w' => e = .returned (.bool (longB ns m)) ∧ w' = w := by
  have CI : Hid (Calls Tryz.prog 92 #[v, .func (.func 62) #[] #[]] w fun e w' => ∃ i : Int, e = .returned (.int .i64 i) ∧ (longB ns m = true → 0 ≤ i) ∧ (longB ns m = false → i < 0) ∧ w' = w) := index_any v m ns w hH
  obtain ⟨adr, cap, g, o, rfl, -, -, -, -⟩ := hH
  generalize longB ns m = B at *
  cases B
  · go_enter Tryz.func61, Tryz.ntmps61
    go_wp2_with fail
    refine CI.out.mono ?_
    rintro e wz ⟨i, rfl, -, h1, hz⟩
    subst hz
    have h2 : ¬ (0 : Int) ≤ i := by have := h1 (by trivial); omega
    clear CI h1
    go_wp2
    go_ret
    exact ⟨by simp [h2], rfl⟩
  · go_enter Tryz.func61, Tryz.ntmps61
    go_wp2_with fail
    refine CI.out.mono ?_
    rintro e wz ⟨i, rfl, h1, -, hz⟩
    subst hz
    have h2 : (0 : Int) ≤ i := h1 (by trivial)
    clear CI h1
    go_wp2
    go_ret
    exact ⟨by simp [h2], rfl⟩
def ckE (b : Bool) (ns : Nat → Nat) (m : Nat) : Int := if longB ns m = true then 3 else if b = true then 0 else 40
set_option maxHeartbeats 1000000 in
theorem check_any (b : Bool) (v : Value) (m : Nat) (ns : Nat → Nat) (w : World) (hH : Hs w v m ns) :
    Calls Tryz.prog 32 #[.bool b, v] w fun e w' => e = .returned (.int .i64 (ckE b ns m)) ∧ w' = w := by
  have CI : Hid (Calls Tryz.prog 61 #[v, .func (.func 62) #[] #[]] w fun e w' => e = .returned (.bool (longB ns m)) ∧ w' = w) := contains_any v m ns w hH
  obtain ⟨adr, cap, g, o, rfl, -, -, -, -⟩ := hH
  unfold ckE
  generalize longB ns m = B at *
  cases B <;> cases b
  all_goals
    first
      | rw [if_pos rfl]
      | rw [if_neg (by decide), if_pos rfl]
      | rw [if_neg (by decide), if_neg (by decide)]
    go_enter Tryz.func32, Tryz.ntmps32
    go_wp2_with fail
    refine CI.out.mono ?_
    rintro e wz ⟨rfl, hz⟩
    subst hz
    clear CI
    go_wp2
    go_ret
    exact ⟨rfl, rfl⟩
theorem hs1 (w1 : World) (ada : Option Addr) (n ca : Nat) (k : n ≤ maxLen) : Hs (w1.alloc (.cells #[.slice ada n ca] 23)) (.slice (some ⟨w1.heap.size, 0, none⟩) 1 1) 1 (fun _ => n) := by
  refine ⟨some ⟨w1.heap.size, 0, none⟩, 1, w1.heap.size, 0, rfl, Nat.le_refl _, by unfold maxLen; omega, fun _ => rfl, fun k hk => ?_⟩
  obtain rfl : k = 0 := by omega
  exact ⟨k, ada, ca, by simp [go_sem]⟩
theorem hs2 (w1 : World) (ada adb : Option Addr) (n ca m cb : Nat) (k : n ≤ maxLen) (q : m ≤ maxLen) : Hs (w1.alloc (.cells #[.slice ada n ca, .slice adb m cb] 23)) (.slice (some ⟨w1.heap.size, 0, none⟩) 2 2) 2 (fun k => if k = 0 then n else m) := by
  refine ⟨some ⟨w1.heap.size, 0, none⟩, 2, w1.heap.size, 0, rfl, Nat.le_refl _, by unfold maxLen; omega, fun _ => rfl, fun k hk => ?_⟩
  rcases (show k = 0 ∨ k = 1 by omega) with rfl | rfl
  · exact ⟨k, ada, ca, by simp [go_sem]⟩
  · exact ⟨q, adb, cb, by simp [go_sem]⟩
theorem ckE1 (b : Bool) (n : Nat) : ckE b (fun _ => n) 1 = if 65536 < n then 3 else if b = true then 0 else 40 := by
  unfold ckE longB
  by_cases h : 65536 < n <;> simp [h, List.range_succ]
theorem ckE2 (b : Bool) (n m : Nat) : ckE b (fun k => if k = 0 then n else m) 2 = if 65536 < n ∨ 65536 < m then 3 else if b = true then 0 else 40 := by
  unfold ckE longB
  by_cases h : 65536 < n <;> by_cases h' : 65536 < m <;> simp [h, h', List.range_succ]
theorem check1_any (b : Bool) (w1 : World) (ada : Option Addr) (n ca : Nat) (k : n ≤ maxLen) :
    Calls Tryz.prog 32 #[.bool b, .slice (some ⟨w1.heap.size, 0, none⟩) 1 1] (w1.alloc (.cells #[.slice ada n ca] 23)) fun e w' => e = .returned (.int .i64 (if 65536 < n then 3 else if b = true then 0 else 40)) ∧ w' = w1.alloc (.cells #[.slice ada n ca] 23) := by
  have h := check_any b _ 1 _ _ (hs1 w1 ada n ca k)
  rw [ckE1] at h
  exact h
theorem check2_any (b : Bool) (w1 : World) (ada adb : Option Addr) (n ca m cb : Nat) (k : n ≤ maxLen) (q : m ≤ maxLen) :
    Calls Tryz.prog 32 #[.bool b, .slice (some ⟨w1.heap.size, 0, none⟩) 2 2] (w1.alloc (.cells #[.slice ada n ca, .slice adb m cb] 23)) fun e w' => e = .returned (.int .i64 (if 65536 < n ∨ 65536 < m then 3 else if b = true then 0 else 40)) ∧ w' = w1.alloc (.cells #[.slice ada n ca, .slice adb m cb] 23) := by
  have h := check_any b _ 2 _ _ (hs2 w1 ada adb n ca m cb k q)
  rw [ckE2] at h
  exact h
end Go.Proofs.YtcaficenocblfaaGreatDoor
set_option linter.unusedVariables false
set_option linter.unusedSimpArgs false
namespace Go.Proofs.YtcaficenocblfaaGreatDoor
open Go.RowKit

theorem Un.setnew {d : Nat} {c : Int} {w w1 : World} (h : Un d c w w1) (a : Addr) (u : Value) (hd : d < w.heap.size) (ha : w.heap.size ≤ a.block) : Un d c w (w1.setCell a u) where
  c := cell_set (by dsimp only; omega) h.c
  f := by rw [World.frozen?_setCell]; exact h.f
  b := fun base w0 h1 h2 h3 => (h.b base w0 h1 h2 h3).setCell (by omega) _
  o := fun b v hb hc => cell_set (by have := World.block_lt_of_cell? _ _ hc; omega) (h.o b v hb hc)
  s := by rw [World.size_setCell]; exact h.s
  k := fun i hi hn => (Below.heap_setCell _ _ _ _ (by omega)).trans (h.k i hi hn)
theorem hmf_any : ∀ (fn : Fn) (first cap : Array Value) (w : World), (Instr.makeFunc fn first cap).run Tryz.prog w = .ok (.func fn first cap) w := fun _ _ _ _ => rfl
theorem cell_new1 (w : World) (x : Value) (t : TypeId) (h : x.oneCell' = true := by rfl) : (w.alloc (.cells #[x] t)).cell? ⟨w.heap.size, 0, none⟩ = some x := by simp [go_sem]

set_option maxHeartbeats 1000000 in
theorem sc1_un (k x : Int) (k0 : -9223372036854775808 ≤ k) (k1 : k ≤ 9223372036854775807) (x0 : -9223372036854775808 ≤ x) (x1 : x ≤ 9223372036854775807) (bu bk : Nat) (d : Nat) (c : Int) (c0 : 0 ≤ c) (c1 : c ≤ 1000000000) (w : World) (hc : w.cell? ⟨d, 0, none⟩ = some (.int .i64 c)) (hf : w.frozen? ⟨d, 0, none⟩ = false) (cu : w.cell? ⟨bu, 0, none⟩ = some (.pointer (some ⟨d, 0, none⟩))) (ck : w.cell? ⟨bk, 0, none⟩ = some (.int .i64 k)) :
    Calls Tryz.prog 109 #[.int .i64 x, .pointer (some ⟨bu, 0, none⟩), .pointer (some ⟨bk, 0, none⟩)] w fun e w' => e = .returned (.int .i64 (clv (rnd (k * x) 32))) ∧ Un d (c + bi (ovv (rnd (k * x) 32))) w w' := by
  have CM : Hid (Calls Tryz.prog 110 #[.pointer (some ⟨d, 0, none⟩), .int .i64 k, .int .i64 x] w fun e w' => e = .returned (.int .i64 (clv (rnd (k * x) 32))) ∧ Un d (c + bi (ovv (rnd (k * x) 32))) w w') := uMul_un k x k0 k1 x0 x1 d c c0 c1 w hc hf
  obtain ⟨r0, r1⟩ := clv_fit (rnd (k * x) 32)
  generalize clv (rnd (k * x) 32) = X at *
  clear hc hf
  go_enter Tryz.func109, Tryz.ntmps109
  go_wp2_with fail
  refine CM.out.mono ?_
  rintro e w1 ⟨rfl, hb⟩
  clear CM cu ck
  go_wp2
  go_ret
  exact ⟨rfl, hb⟩

set_option maxHeartbeats 1000000 in
theorem sc1_nil (k x : Int) (k0 : -9223372036854775808 ≤ k) (k1 : k ≤ 9223372036854775807) (x0 : -9223372036854775808 ≤ x) (x1 : x ≤ 9223372036854775807) (bu bk : Nat) (w : World) (cu : w.cell? ⟨bu, 0, none⟩ = some (.pointer none)) (ck : w.cell? ⟨bk, 0, none⟩ = some (.int .i64 k)) :
    Calls Tryz.prog 109 #[.int .i64 x, .pointer (some ⟨bu, 0, none⟩), .pointer (some ⟨bk, 0, none⟩)] w fun e w' => e = .returned (.int .i64 (clv (rnd (k * x) 32))) ∧ Below w.heap.size w w' := by
  have CM : Hid (Calls Tryz.prog 110 #[.pointer none, .int .i64 k, .int .i64 x] w fun e w' => e = .returned (.int .i64 (clv (rnd (k * x) 32))) ∧ Below w.heap.size w w') := uMul_nil k x k0 k1 x0 x1 w
  obtain ⟨r0, r1⟩ := clv_fit (rnd (k * x) 32)
  generalize clv (rnd (k * x) 32) = X at *
  skip
  go_enter Tryz.func109, Tryz.ntmps109
  go_wp2_with fail
  refine CM.out.mono ?_
  rintro e w1 ⟨rfl, hb⟩
  clear CM cu ck
  go_wp2
  go_ret
  exact ⟨rfl, hb⟩

set_option maxHeartbeats 2000000 in
theorem scaled_un (k : Int) (k0 : -9223372036854775808 ≤ k) (k1 : k ≤ 9223372036854775807) (va : Value) (n : Nat) (f : Nat → Int) (hn : n ≤ 70000) (d : Nat) (c : Int) (c0 : 0 ≤ c) (c1 : c ≤ 900000000) (w : World) (hA : Ar w va n f) (ha : Nb va d) (hc : w.cell? ⟨d, 0, none⟩ = some (.int .i64 c)) (hf : w.frozen? ⟨d, 0, none⟩ = false) :
    Calls Tryz.prog 89 #[.pointer (some ⟨d, 0, none⟩), .int .i64 k, va] w fun e w' => e = .returned (.slice (some ⟨w.heap.size + 2, 0, none⟩) n n) ∧ Ar w' (.slice (some ⟨w.heap.size + 2, 0, none⟩) n n) n (fun i => clv (rnd (k * f i) 32)) ∧ Un d (c + cntV (fun i => ovv (rnd (k * f i) 32)) n) w w' := by
  have hmf := hmf_any
  have hb0 := bel2 w (.cells #[.pointer (some ⟨d, 0, none⟩)] 28) (.cells #[.int .i64 k] 36)
  have cu : ((w.alloc (.cells #[.pointer (some ⟨d, 0, none⟩)] 28)).alloc (.cells #[.int .i64 k] 36)).cell? ⟨w.heap.size, 0, none⟩ = some (.pointer (some ⟨d, 0, none⟩)) := cell_later (bel1 _ _) (cell_new1 w _ _)
  have ck : ((w.alloc (.cells #[.pointer (some ⟨d, 0, none⟩)] 28)).alloc (.cells #[.int .i64 k] 36)).cell? ⟨w.heap.size + 1, 0, none⟩ = some (.int .i64 k) := by have h := cell_new1 (w.alloc (.cells #[.pointer (some ⟨d, 0, none⟩)] 28)) (.int .i64 k) 36; rw [World.size_alloc] at h; exact h
  have hsz : ((w.alloc (.cells #[.pointer (some ⟨d, 0, none⟩)] 28)).alloc (.cells #[.int .i64 k] 36)).heap.size = w.heap.size + 2 := by simp
  have CE : Hid (Calls Tryz.prog 108 #[va, .func (.func 109) #[] #[.pointer (some ⟨w.heap.size, 0, none⟩), .pointer (some ⟨w.heap.size + 1, 0, none⟩)]] ((w.alloc (.cells #[.pointer (some ⟨d, 0, none⟩)] 28)).alloc (.cells #[.int .i64 k] 36)) fun e w' => e = .returned (.slice (some ⟨w.heap.size + 2, 0, none⟩) n n) ∧ Ar w' (.slice (some ⟨w.heap.size + 2, 0, none⟩) n n) n (fun i => clv (rnd (k * f i) 32)) ∧ Un d (c + cntV (fun i => ovv (rnd (k * f i) 32)) n) w w') := by
    have hd := World.block_lt_of_cell? _ _ hc
    dsimp only at hd
    have hc2 := cell_later hb0 hc
    have hf2 := frozen_later hb0 hc hf
    have h := each_scaled (.pointer (some ⟨w.heap.size, 0, none⟩)) (.pointer (some ⟨w.heap.size + 1, 0, none⟩)) (fun j W => Un d (c + cntV (fun i => ovv (rnd (k * f i) 32)) j) ((w.alloc (.cells #[.pointer (some ⟨d, 0, none⟩)] 28)).alloc (.cells #[.int .i64 k] 36)) W) va n f (fun i => clv (rnd (k * f i) 32)) ((w.alloc (.cells #[.pointer (some ⟨d, 0, none⟩)] 28)).alloc (.cells #[.int .i64 k] 36)) hn (hA.later hb0) (by simpa [cntV] using Un.same hc2 hf2) (fun j W W' h hb => h.ahead hb) (fun j W a x hx h => h.setnew a x (by rw [hsz]; omega) hx) (fun j W h => (hA.later hb0).un ha h) (fun j _ => clv_fit _) (fun j W hj hW h => by
      have r := cnt_rng (fun i => ovv (rnd (k * f i) 32)) j
      obtain ⟨_, _, _, _, _, _, _, _, hx⟩ := hA
      have hx := (hx j hj).2
      refine (sc1_un k (f j) k0 k1 hx.1 hx.2 w.heap.size (w.heap.size + 1) d _ (by omega) (by omega) W h.c h.f (h.o _ _ (by dsimp only; omega) cu) (h.o _ _ (by dsimp only; omega) ck)).mono ?_
      rintro e w' ⟨rfl, hU⟩
      refine ⟨rfl, ?_, hU.k _ (by omega) (by rw [hsz]; omega), hU.s⟩
      have e1 : c + cntV (fun i => ovv (rnd (k * f i) 32)) (j + 1) = c + cntV (fun i => ovv (rnd (k * f i) 32)) j + bi (ovv (rnd (k * f j) 32)) := by rw [Int.add_assoc]; rfl
      show Un d (c + cntV (fun i => ovv (rnd (k * f i) 32)) (j + 1)) _ w'
      rw [e1]
      exact h.chain hU)
    refine h.mono ?_
    rintro e w' ⟨rfl, hS, hX⟩
    rw [hsz] at hX ⊢
    exact ⟨rfl, hX, Un.after hb0 hS⟩
  obtain ⟨adr, cap, b, o, rfl, -, -, -, -⟩ := hA
  clear cu ck hb0 hsz ha hc hf
  go_enter Tryz.func89, Tryz.ntmps89
  go_wp2_with fail
  refine CE.out.mono ?_
  rintro e w' ⟨rfl, hX, hU⟩
  have HX : Hid (Ar w' (.slice (some ⟨w.heap.size + 2, 0, none⟩) n n) n (fun i => clv (rnd (k * f i) 32))) := hX
  clear CE hX
  go_wp2
  go_ret
  exact ⟨rfl, HX.out, hU⟩

set_option maxHeartbeats 2000000 in
theorem scaled_nil (k : Int) (k0 : -9223372036854775808 ≤ k) (k1 : k ≤ 9223372036854775807) (va : Value) (n : Nat) (f : Nat → Int) (hn : n ≤ 70000) (w : World) (hA : Ar w va n f) :
    Calls Tryz.prog 89 #[.pointer none, .int .i64 k, va] w fun e w' => e = .returned (.slice (some ⟨w.heap.size + 2, 0, none⟩) n n) ∧ Ar w' (.slice (some ⟨w.heap.size + 2, 0, none⟩) n n) n (fun i => clv (rnd (k * f i) 32)) ∧ Below w.heap.size w w' := by
  have hmf := hmf_any
  have hb0 := bel2 w (.cells #[.pointer none] 28) (.cells #[.int .i64 k] 36)
  have cu : ((w.alloc (.cells #[.pointer none] 28)).alloc (.cells #[.int .i64 k] 36)).cell? ⟨w.heap.size, 0, none⟩ = some (.pointer none) := cell_later (bel1 _ _) (cell_new1 w _ _)
  have ck : ((w.alloc (.cells #[.pointer none] 28)).alloc (.cells #[.int .i64 k] 36)).cell? ⟨w.heap.size + 1, 0, none⟩ = some (.int .i64 k) := by have h := cell_new1 (w.alloc (.cells #[.pointer none] 28)) (.int .i64 k) 36; rw [World.size_alloc] at h; exact h
  have hsz : ((w.alloc (.cells #[.pointer none] 28)).alloc (.cells #[.int .i64 k] 36)).heap.size = w.heap.size + 2 := by simp
  have CE : Hid (Calls Tryz.prog 108 #[va, .func (.func 109) #[] #[.pointer (some ⟨w.heap.size, 0, none⟩), .pointer (some ⟨w.heap.size + 1, 0, none⟩)]] ((w.alloc (.cells #[.pointer none] 28)).alloc (.cells #[.int .i64 k] 36)) fun e w' => e = .returned (.slice (some ⟨w.heap.size + 2, 0, none⟩) n n) ∧ Ar w' (.slice (some ⟨w.heap.size + 2, 0, none⟩) n n) n (fun i => clv (rnd (k * f i) 32)) ∧ Below w.heap.size w w') := by
    have h := each_scaled (.pointer (some ⟨w.heap.size, 0, none⟩)) (.pointer (some ⟨w.heap.size + 1, 0, none⟩)) (fun _ W => Below ((w.alloc (.cells #[.pointer none] 28)).alloc (.cells #[.int .i64 k] 36)).heap.size ((w.alloc (.cells #[.pointer none] 28)).alloc (.cells #[.int .i64 k] 36)) W) va n f (fun i => clv (rnd (k * f i) 32)) ((w.alloc (.cells #[.pointer none] 28)).alloc (.cells #[.int .i64 k] 36)) hn (hA.later hb0) (Below.refl _ _) (fun j W W' h hb => bchain h hb) (fun j W a x hx h => h.setCell hx _) (fun j W h => (hA.later hb0).later h) (fun j _ => clv_fit _) (fun j W hj hW h => by
      obtain ⟨_, _, _, _, _, _, _, _, hx⟩ := hA
      have hx := (hx j hj).2
      refine (sc1_nil k (f j) k0 k1 hx.1 hx.2 w.heap.size (w.heap.size + 1) W (cell_later h cu) (cell_later h ck)).mono ?_
      rintro e w' ⟨rfl, hb⟩
      exact ⟨rfl, bchain h hb, hb.block _ hW, hb.size⟩)
    refine h.mono ?_
    rintro e w' ⟨rfl, hS, hX⟩
    rw [hsz] at hX ⊢
    exact ⟨rfl, hX, bchain hb0 hS⟩
  obtain ⟨adr, cap, b, o, rfl, -, -, -, -⟩ := hA
  clear cu ck hb0 hsz
  go_enter Tryz.func89, Tryz.ntmps89
  go_wp2_with fail
  refine CE.out.mono ?_
  rintro e w' ⟨rfl, hX, hU⟩
  have HX : Hid (Ar w' (.slice (some ⟨w.heap.size + 2, 0, none⟩) n n) n (fun i => clv (rnd (k * f i) 32))) := hX
  clear CE hX
  go_wp2
  go_ret
  exact ⟨rfl, HX.out, hU⟩

set_option maxHeartbeats 2000000 in
theorem paired_of (fv : Value) (ada adb : Option Addr) (n m ca cb : Nat) (hn : n ≤ 70000) (hm : m ≤ 70000) (w : World) (Q : Value → World → Prop)
    (CP : n = m → n ≤ 65536 → Calls Tryz.prog 165 #[.slice ada n ca, .slice adb m cb, fv] (w.alloc (.cells #[.slice ada n ca, .slice adb m cb] 23)) fun e w' => ∃ b, e = .returned (.slice (some ⟨b, 0, none⟩) n n) ∧ Q (.slice (some ⟨b, 0, none⟩) n n) w') :
    Calls Tryz.prog 163 #[.slice ada n ca, .slice adb m cb, fv] w fun e w' => ∃ (ad : Option Addr) (l cp : Nat), e = .returned (.tuple #[.slice ad l cp, .int .i64 (dE n m)]) ∧ (dE n m = 0 → Q (.slice ad l cp) w') ∧ (dE n m ≠ 0 → ad = none ∧ l = 0 ∧ cp = 0 ∧ w' = (w.alloc (.cells #[.slice ada n ca, .slice adb m cb] 23))) := by
  rcases (show (n = m ∧ n ≤ 65536) ∨ (n = m ∧ 65536 < n) ∨ n ≠ m by omega) with ⟨hnm, hl⟩ | ⟨hnm, hl⟩ | hnm
  · subst hnm
    have hE : dE n n = 0 := by unfold dE; rw [if_neg (by omega), if_pos rfl]
    have CK : Hid (Calls Tryz.prog 32 #[.bool true, .slice (some ⟨w.heap.size, 0, none⟩) 2 2] (w.alloc (.cells #[.slice ada n ca, .slice adb n cb] 23)) fun e w' => e = .returned (.int .i64 0) ∧ w' = (w.alloc (.cells #[.slice ada n ca, .slice adb n cb] 23))) := by
      have h := check2_any true w ada adb n ca n cb (by unfold maxLen; omega) (by unfold maxLen; omega)
      rw [if_neg (by omega), if_pos rfl] at h
      exact h
    have HP : Hid (Calls Tryz.prog 165 #[.slice ada n ca, .slice adb n cb, fv] (w.alloc (.cells #[.slice ada n ca, .slice adb n cb] 23)) fun e w' => ∃ b, e = .returned (.slice (some ⟨b, 0, none⟩) n n) ∧ Q (.slice (some ⟨b, 0, none⟩) n n) w') := CP rfl hl
    rw [hE]
    clear CP hE
    go_enter Tryz.func163, Tryz.ntmps163
    go_wp2_with fail
    refine CK.out.mono ?_
    rintro e w1 ⟨rfl, hz⟩
    subst hz
    clear CK
    go_wp2_with fail
    refine HP.out.mono ?_
    rintro e w3 ⟨b, rfl, hQ⟩
    have HQ : Hid (Q (.slice (some ⟨b, 0, none⟩) n n) w3) := hQ
    clear HP hQ
    go_wp2
    go_ret2
    exact ⟨_, _, _, rfl, fun _ => HQ.out, fun h => absurd rfl h⟩
  · subst hnm
    have hE : dE n n = 3 := by unfold dE; rw [if_pos (by omega)]
    have CK : Hid (Calls Tryz.prog 32 #[.bool true, .slice (some ⟨w.heap.size, 0, none⟩) 2 2] (w.alloc (.cells #[.slice ada n ca, .slice adb n cb] 23)) fun e w' => e = .returned (.int .i64 3) ∧ w' = (w.alloc (.cells #[.slice ada n ca, .slice adb n cb] 23))) := by
      have h := check2_any true w ada adb n ca n cb (by unfold maxLen; omega) (by unfold maxLen; omega)
      rw [if_pos (by omega)] at h
      exact h
    rw [hE]
    clear CP hE
    go_enter Tryz.func163, Tryz.ntmps163
    go_wp2_with fail
    refine CK.out.mono ?_
    rintro e w1 ⟨rfl, hz⟩
    subst hz
    clear CK
    go_wp2
    go_ret2
    exact ⟨_, _, _, rfl, fun h => (by cases h), fun _ => ⟨rfl, rfl, rfl, rfl⟩⟩
  · have hnI : ((n : Int) == (m : Int)) = false := beq_eq_false_iff_ne.2 (by omega)
    obtain ⟨E, hE⟩ : ∃ E, dE n m = E := ⟨_, rfl⟩
    have hne : ¬ E = 0 := by rw [← hE]; unfold dE; split <;> simp [hnm]
    have CK : Hid (Calls Tryz.prog 32 #[.bool false, .slice (some ⟨w.heap.size, 0, none⟩) 2 2] (w.alloc (.cells #[.slice ada n ca, .slice adb m cb] 23)) fun e w' => e = .returned (.int .i64 E) ∧ w' = (w.alloc (.cells #[.slice ada n ca, .slice adb m cb] 23))) := by
      have h := check2_any false w ada adb n ca m cb (by unfold maxLen; omega) (by unfold maxLen; omega)
      rw [show (if 65536 < n ∨ 65536 < m then (3 : Int) else if false = true then 0 else 40) = E by rw [← hE]; unfold dE; rw [if_neg (show ¬ false = true by decide), if_neg hnm]] at h
      exact h
    rw [hE]
    clear CP hE
    go_enter Tryz.func163, Tryz.ntmps163
    go_wp2_with fail
    refine CK.out.mono ?_
    rintro e w1 ⟨rfl, hz⟩
    subst hz
    clear CK
    go_wp2
    go_ret2
    exact ⟨_, _, _, rfl, fun h => absurd h hne, fun _ => ⟨rfl, rfl, rfl, rfl⟩⟩

set_option maxHeartbeats 2000000 in
theorem Sub_un (va vb : Value) (n m : Nat) (f g : Nat → Int) (d : Nat) (c : Int) (w : World) (hn : n ≤ 70000) (hm : m ≤ 70000) (c0 : 0 ≤ c) (c1 : c ≤ 800000000) (hA : Ar w va n f) (hB : Ar w vb m g) (ha : Nb va d) (hb : Nb vb d) (hU : Uc w d c) :
    Calls Tryz.prog 162 #[.pointer (some ⟨d, 0, none⟩), va, vb] w fun e w' => ∃ v', e = .returned (.tuple #[v', .int .i64 (dE n m)]) ∧ LL w w' v' n (fun i => clv (f i - g i)) (dE n m) ∧ Un d (c + cE (dE n m) (cntV (fun i => ovv (f i - g i)) n)) w w' := by
  obtain ⟨ada, ca, ba, oa, rfl, x1, x2, -, -⟩ := id hA
  obtain ⟨adb, cb, bb, ob, rfl, y1, y2, -, -⟩ := id hB
  have hb0 := bel1 w (.cells #[.slice ada n ca, .slice adb m cb] 23)
  have hmf := hmf_any
  obtain ⟨hc, hf⟩ := hU
  have hd := World.block_lt_of_cell? _ _ hc
  dsimp only at hd
  have hc' := cell_later hb0 hc
  have hf' := frozen_later hb0 hc hf
  have CP : Hid (Calls Tryz.prog 163 #[.slice ada n ca, .slice adb m cb, .func (.func 164) #[.pointer (some ⟨d, 0, none⟩)] #[]] w fun e w' => ∃ (ad : Option Addr) (l cp : Nat), e = .returned (.tuple #[.slice ad l cp, .int .i64 (dE n m)]) ∧ (dE n m = 0 → (fun v' w' => LL w w' v' n (fun i => clv (f i - g i)) 0 ∧ Un d (c + (cntV (fun i => ovv (f i - g i)) n)) w w') (.slice ad l cp) w') ∧ (dE n m ≠ 0 → ad = none ∧ l = 0 ∧ cp = 0 ∧ w' = (w.alloc (.cells #[.slice ada n ca, .slice adb m cb] 23)))) := by
    refine paired_of _ ada adb n m ca cb hn hm w (fun v' w' => LL w w' v' n (fun i => clv (f i - g i)) 0 ∧ Un d (c + (cntV (fun i => ovv (f i - g i)) n)) w w') ?_
    intro hnm hl
    subst hnm
    have hsz : (w.alloc (.cells #[.slice ada n ca, .slice adb n cb] 23)).heap.size = w.heap.size + 1 := by simp
    have h := pairs_Sub (.pointer (some ⟨d, 0, none⟩)) (fun j W => Un d (c + cntV (fun i => ovv (f i - g i)) j) (w.alloc (.cells #[.slice ada n ca, .slice adb n cb] 23)) W) _ _ n f g (fun i => clv (f i - g i)) (w.alloc (.cells #[.slice ada n ca, .slice adb n cb] 23)) hn (hA.later hb0) (hB.later hb0) (by simpa [cntV] using Un.same hc' hf') (fun j W W' h hb => h.ahead hb) (fun j W a x hx h => h.setnew a x (by rw [hsz]; omega) hx) (fun j W h => ⟨(hA.later hb0).un ha h, (hB.later hb0).un hb h⟩) (fun j _ => clv_fit _) (fun j W hj hW h => by
      have r := cnt_rng (fun i => ovv (f i - g i)) j
      obtain ⟨_, _, _, _, _, _, _, _, hx⟩ := hA
      obtain ⟨_, _, _, _, _, _, _, _, hy⟩ := hB
      have hx := (hx j hj).2
      have hy := (hy j hj).2
      refine (uSub_un (f j) (g j) hx.1 hx.2 hy.1 hy.2 d _ (by omega) (by omega) W h.c h.f).mono ?_
      rintro e w' ⟨rfl, hU⟩
      refine ⟨rfl, ?_, hU.k _ (by omega) (by rw [hsz]; omega), hU.s⟩
      have e1 : c + cntV (fun i => ovv (f i - g i)) (j + 1) = c + cntV (fun i => ovv (f i - g i)) j + bi (ovv (f j - g j)) := by rw [Int.add_assoc]; rfl
      show Un d (c + cntV (fun i => ovv (f i - g i)) (j + 1)) _ w'
      rw [e1]
      exact h.chain hU)
    refine h.mono ?_
    rintro e w' ⟨rfl, hS, hX⟩
    exact ⟨_, rfl, ⟨fun _ => hX, fun h => absurd rfl h, fun a n' cap' e _ => (by cases e; simp)⟩, Un.after hb0 hS⟩
  have HU : Hid (Un d c w (w.alloc (.cells #[.slice ada n ca, .slice adb m cb] 23))) := Un.after hb0 (Un.same hc' hf')
  clear hA hB ha hb hc hf hc' hf' hb0
  go_enter Tryz.func162, Tryz.ntmps162
  go_wp2_with fail
  refine CP.out.mono ?_
  rintro e w1 ⟨ad, l, cp, rfl, hQ, hN⟩
  have HQN : Hid ((dE n m = 0 → (fun v' w' => LL w w' v' n (fun i => clv (f i - g i)) 0 ∧ Un d (c + (cntV (fun i => ovv (f i - g i)) n)) w w') (.slice ad l cp) w1) ∧ (dE n m ≠ 0 → ad = none ∧ l = 0 ∧ cp = 0 ∧ w1 = (w.alloc (.cells #[.slice ada n ca, .slice adb m cb] 23)))) := ⟨hQ, hN⟩
  clear CP hQ hN
  go_wp2
  go_ret2
  by_cases hE : dE n m = 0
  · obtain ⟨h1, h2⟩ := HQN.out.1 hE
    rw [hE]
    exact ⟨_, rfl, h1, (by unfold cE; rw [if_pos rfl]; exact h2)⟩
  · obtain ⟨rfl, rfl, rfl, rfl⟩ := HQN.out.2 hE
    exact ⟨_, rfl, ⟨fun h => absurd h hE, fun _ => ⟨none, 0, rfl⟩, fun a n' cap' e => (by cases e)⟩, (by unfold cE; rw [if_neg hE, Int.add_zero]; exact HU.out)⟩

set_option maxHeartbeats 2000000 in
theorem Sub_nil (va vb : Value) (n m : Nat) (f g : Nat → Int) (w : World) (hn : n ≤ 70000) (hm : m ≤ 70000) (hA : Ar w va n f) (hB : Ar w vb m g) :
    Calls Tryz.prog 162 #[.pointer none, va, vb] w fun e w' => ∃ v', e = .returned (.tuple #[v', .int .i64 (dE n m)]) ∧ LL w w' v' n (fun i => clv (f i - g i)) (dE n m) ∧ Below w.heap.size w w' := by
  obtain ⟨ada, ca, ba, oa, rfl, x1, x2, -, -⟩ := id hA
  obtain ⟨adb, cb, bb, ob, rfl, y1, y2, -, -⟩ := id hB
  have hb0 := bel1 w (.cells #[.slice ada n ca, .slice adb m cb] 23)
  have hmf := hmf_any
  have CP : Hid (Calls Tryz.prog 163 #[.slice ada n ca, .slice adb m cb, .func (.func 164) #[.pointer none] #[]] w fun e w' => ∃ (ad : Option Addr) (l cp : Nat), e = .returned (.tuple #[.slice ad l cp, .int .i64 (dE n m)]) ∧ (dE n m = 0 → (fun v' w' => LL w w' v' n (fun i => clv (f i - g i)) 0 ∧ Below w.heap.size w w') (.slice ad l cp) w') ∧ (dE n m ≠ 0 → ad = none ∧ l = 0 ∧ cp = 0 ∧ w' = (w.alloc (.cells #[.slice ada n ca, .slice adb m cb] 23)))) := by
    refine paired_of _ ada adb n m ca cb hn hm w (fun v' w' => LL w w' v' n (fun i => clv (f i - g i)) 0 ∧ Below w.heap.size w w') ?_
    intro hnm hl
    subst hnm
    have hsz : (w.alloc (.cells #[.slice ada n ca, .slice adb n cb] 23)).heap.size = w.heap.size + 1 := by simp
    have h := pairs_Sub (.pointer none) (fun j W => Below (w.alloc (.cells #[.slice ada n ca, .slice adb n cb] 23)).heap.size (w.alloc (.cells #[.slice ada n ca, .slice adb n cb] 23)) W) _ _ n f g (fun i => clv (f i - g i)) (w.alloc (.cells #[.slice ada n ca, .slice adb n cb] 23)) hn (hA.later hb0) (hB.later hb0) (Below.refl _ _) (fun j W W' h hb => bchain h hb) (fun j W a x hx h => h.setCell hx _) (fun j W h => ⟨(hA.later hb0).later h, (hB.later hb0).later h⟩) (fun j _ => clv_fit _) (fun j W hj hW h => by
      obtain ⟨_, _, _, _, _, _, _, _, hx⟩ := hA
      obtain ⟨_, _, _, _, _, _, _, _, hy⟩ := hB
      have hx := (hx j hj).2
      have hy := (hy j hj).2
      refine (uSub_nil (f j) (g j) hx.1 hx.2 hy.1 hy.2 W).mono ?_
      rintro e w' ⟨rfl, hb⟩
      exact ⟨rfl, bchain h hb, hb.block _ hW, hb.size⟩)
    refine h.mono ?_
    rintro e w' ⟨rfl, hS, hX⟩
    exact ⟨_, rfl, ⟨fun _ => hX, fun h => absurd rfl h, fun a n' cap' e _ => (by cases e; simp)⟩, bchain hb0 hS⟩
  have HU : Hid (Below w.heap.size w (w.alloc (.cells #[.slice ada n ca, .slice adb m cb] 23))) := hb0
  clear hA hB hb0
  go_enter Tryz.func162, Tryz.ntmps162
  go_wp2_with fail
  refine CP.out.mono ?_
  rintro e w1 ⟨ad, l, cp, rfl, hQ, hN⟩
  have HQN : Hid ((dE n m = 0 → (fun v' w' => LL w w' v' n (fun i => clv (f i - g i)) 0 ∧ Below w.heap.size w w') (.slice ad l cp) w1) ∧ (dE n m ≠ 0 → ad = none ∧ l = 0 ∧ cp = 0 ∧ w1 = (w.alloc (.cells #[.slice ada n ca, .slice adb m cb] 23)))) := ⟨hQ, hN⟩
  clear CP hQ hN
  go_wp2
  go_ret2
  by_cases hE : dE n m = 0
  · obtain ⟨h1, h2⟩ := HQN.out.1 hE
    rw [hE]
    exact ⟨_, rfl, h1, h2⟩
  · obtain ⟨rfl, rfl, rfl, rfl⟩ := HQN.out.2 hE
    exact ⟨_, rfl, ⟨fun h => absurd h hE, fun _ => ⟨none, 0, rfl⟩, fun a n' cap' e => (by cases e)⟩, HU.out⟩

end Go.Proofs.YtcaficenocblfaaGreatDoor
set_option linter.unusedVariables false
set_option linter.unusedSimpArgs false
namespace Go.Proofs.YtcaficenocblfaaGreatDoor
open Go.RowKit
theorem below_own {B : Nat} {w wr w1 : World} {e : TypeId} {s : Nat} {v : Value} {n : Nat} {xs : List Value} {o : Obj} (hW : Below B w wr) (hB : B ≤ wr.heap.size) (hown : wr.ownsRow B e s v n xs) (hg : (wr.alloc o).grownBy w1 v.ownBlock) : Below B w w1 :=
  (hW.alloc hB o).grown hg (by rw [World.size_alloc]; omega) (fun k hk => (hown.lt k hk).1)
end Go.Proofs.YtcaficenocblfaaGreatDoor
set_option linter.unusedVariables false
set_option linter.unusedSimpArgs false
namespace Go.Proofs.YtcaficenocblfaaGreatDoor
open Go.RowKit

structure As (w : World) (d b o K n : Nat) (fs : Nat → Nat → Int) : Prop where
  c : ∀ k, k < K → ∃ va : Value, w.cell? ⟨b, o + k, none⟩ = some va ∧ Ar w va n (fs k) ∧ Nb va d
  a : b ≠ d
theorem As.un {w w' : World} {d b o K n : Nat} {fs : Nat → Nat → Int} {c : Int} (h : As w d b o K n fs) (hU : Un d c w w') : As w' d b o K n fs :=
  ⟨fun k hk => by obtain ⟨va, h1, h2, h3⟩ := h.c k hk; exact ⟨va, hU.o _ _ h.a h1, h2.un h3 hU, h3⟩, h.a⟩
def msX (fs : Nat → Nat → Int) (K : Nat) (i : Nat) : Int := clv (quo (sumV (fun k => fs k i) K) (K : Int))
def msO (fs : Nat → Nat → Int) (K : Nat) (i : Nat) : Bool := ovv (quo (sumV (fun k => fs k i) K) (K : Int))
set_option maxRecDepth 100000 in
set_option maxHeartbeats 8000000 in
theorem umeans_any (b o cap K n : Nat) (fs : Nat → Nat → Int) (d : Nat) (c : Int) (hK : 1 ≤ K) (hK2 : K ≤ 1000) (hn : n ≤ 70000) (hcap : K ≤ cap) (hcap2 : cap ≤ maxLen) (c0 : 0 ≤ c) (c1 : c ≤ 900000000) (w : World) (hA : As w d b o K n fs) (hc : w.cell? ⟨d, 0, none⟩ = some (.int .i64 c)) (hf : w.frozen? ⟨d, 0, none⟩ = false) :
    Calls Tryz.prog 23 #[.pointer (some ⟨d, 0, none⟩), .slice (some ⟨b, o, none⟩) K cap] w fun e w' => ∃ v', e = .returned v' ∧ Ar w' v' n (msX fs K) ∧ Ow w.heap.size v' ∧ Un d (c + cntV (msO fs K) n) w w' := by
  obtain ⟨i0, hi, hz0, hz1, hz2⟩ := info_parts dinfo_i64
  have hd := World.block_lt_of_cell? _ _ hc
  have HA : Hid (As w d b o K n fs) := hA
  have U0 : Hid (Un d c w w) := Un.same hc hf
  clear hA hc hf
  have HG : Hid (∀ i, -9223372036854775808 ≤ msX fs K i ∧ msX fs K i ≤ 9223372036854775807) := fun i => by unfold msX; exact clv_rng _
  obtain ⟨RX, hRX⟩ : ∃ x, msX fs K = x := ⟨_, rfl⟩
  obtain ⟨RO, hRO⟩ : ∃ x, msO fs K = x := ⟨_, rfl⟩
  have HR : Hid (∀ i, clv (quo (sumV (fun k => fs k i) K) (K : Int)) = RX i ∧ ovv (quo (sumV (fun k => fs k i) K) (K : Int)) = RO i) := fun i => by rw [← hRX, ← hRO]; exact ⟨rfl, rfl⟩
  rw [hRX] at HG
  rw [hRX, hRO]
  clear hRX hRO
  unfold maxLen at hcap2
  have hKI : (0 : Int) < (K : Int) := by omega
  go_enter Tryz.func23, Tryz.ntmps23
  go_wp2
  go_loopw [5, 6] (fun so si wr => ∃ j : Nat, j ≤ n ∧ si = .int .i64 (j : Int) ∧ wr.ownsRow w.heap.size 2 1 so j (il RX j) ∧ Hid (Un d (c + cntV RO j) w wr)) (fun _ si _ => n - (intOf si).toNat)
  case atStart => exact ⟨0, by omega, rfl, World.ownsRow_nil _ _ _ _, by show Un d (c + 0) w w; rw [Int.add_zero]; exact U0.out⟩
  case round =>
    rename World => wo
    obtain ⟨j, hj, rfl, hown, hU⟩ := hrel
    have HAo : Hid (As wo d b o K n fs) := HA.out.un hU.out
    obtain ⟨va0, cF, aF, _⟩ := HAo.out.c 0 (by omega)
    rw [Nat.add_zero] at cF
    obtain ⟨ad0, cp0, _, _, rfl, _, _, _, _⟩ := aF
    by_cases hlt : j < n
    · have hjI : (j : Int) < (n : Int) := by omega
      have hcr := cnt_rng RO j
      have HC : Hid (Un d (c + cntV RO j) w wo ∧ wo.ownsRow w.heap.size 2 1 u5 j (il RX j)) := ⟨hU.out, hown⟩
      have hsr : w.heap.size ≤ wo.heap.size := hU.out.s
      have hdr : d < wo.heap.size := by omega
      obtain ⟨F, hF⟩ : ∃ F : Nat → Int, F = fun k => fs k j := ⟨_, rfl⟩
      have HFc : Hid (∀ (k : Nat) (W : World), k < K → Below wo.heap.size wo W → ∃ (bk ok ck : Nat), W.cell? ⟨b, o + k, none⟩ = some (.slice (some ⟨bk, ok, none⟩) n ck) ∧ W.cell? ⟨bk, ok + j, none⟩ = some (.int .i64 (F k))) := by
        intro k W h1 hb
        obtain ⟨va, h2, h3, _⟩ := HAo.out.c k h1
        obtain ⟨adr, cap', bk, ok, e1, _, _, e4, e5⟩ := h3
        have e6 := e4 (by omega)
        subst e6
        subst e1
        exact ⟨bk, ok, cap', cell_later hb h2, by rw [hF]; exact cell_later hb (e5 j hlt).1⟩
      have HFR : Hid (∀ k, k < K → -9223372036854775808 ≤ F k ∧ F k ≤ 9223372036854775807) := by
        intro k hk
        obtain ⟨va, h2, h3, _⟩ := HAo.out.c k hk
        obtain ⟨adr, cap', bk, ok, e1, _, _, e4, e5⟩ := h3
        rw [hF]
        exact (e5 j hlt).2
      have CM : Hid (∀ (W : World) (vc : Value), Below wo.heap.size wo W → Ar W vc K F → Calls Tryz.prog 24 #[.pointer (some ⟨d, 0, none⟩), vc] W fun e w' => e = .returned (.int .i64 (RX j)) ∧ Un d (c + cntV RO j + bi (RO j)) W w') := by
        intro W vc hb hA
        obtain ⟨rx, ro⟩ := HR.out j
        rw [← rx, ← ro, ← hF]
        exact umean_any vc K F d (c + cntV RO j) (by omega) (by omega) (by omega) (by omega) W hA (cell_later hb HC.out.1.c) (frozen_later hb HC.out.1.c HC.out.1.f)
      clear hF hU hown
      go_wp2
      clear cF
      go_loopw [7, 8] (fun sc si wi => ∃ i : Nat, i ≤ K ∧ si = .int .i64 (i : Int) ∧ wi.ownsRow wo.heap.size 2 1 sc i (il F i) ∧ Hid (Below wo.heap.size wo wi)) (fun _ si _ => K - (intOf si).toNat)
      case atStart => exact ⟨0, by omega, rfl, World.ownsRow_nil _ _ _ _, Below.refl _ _⟩
      case round =>
        obtain ⟨i, hi2, rfl, hcol, hWi⟩ := hrel
        by_cases hil : i < K
        · have hiI : (i : Int) < (K : Int) := by omega
          obtain ⟨bk, ok, ck, cK, cE'⟩ := HFc.out i wr hil hWi.out
          have hsz : wo.heap.size ≤ wr.heap.size := hWi.out.size
          go_wp2_with (at_builtin; refine wpList_append_own _ rfl _ _ 45 rfl wo.heap.size 2 i0 (.int .i64 0) 1 8 Tryz.underlying45 hi hz0 hz1 hz2 rfl (by decide) _ _ _ rfl (hcol.alloc _) ⟨wr.heap.size, 0, none⟩ 1 1 [.int .i64 (F i)] rfl rfl (cell_one_new _ _ _) (ints_oneCell .i64 [F i]) (by unfold maxLen; omega) (by omega) (by simp; omega) ?_; intro v' w3 hown' hgrow hnil)
          have hcol3 : w3.ownsRow wo.heap.size 2 1 v' (i + 1) (il F (i + 1)) := by rw [il_succ]; exact hown'
          have HW3 : Hid (Below wo.heap.size wo w3) := below_own hWi.out hsz hcol hgrow
          clear hown' hgrow hnil hcol hWi cK cE'
          go_wp2
          go_roundw
          case rel => exact ⟨i + 1, by omega, by go_num, hcol3, HW3⟩
          case measure => simp [intOf]; omega
        · obtain rfl : i = K := by omega
          have HQ : Hid (Ar wr u7 i F) := (ar_of_own hcol (fun k hk => HFR.out k hk)).1
          have hii : ¬ (i : Int) < (i : Int) := by omega
          clear hcol
          go_wp2_with fail
          refine (CM.out _ _ hWi.out HQ.out).mono ?_
          rintro e w2 ⟨rfl, hU2⟩
          have HU1 : Hid (Un d (c + cntV RO j) w wr) := HC.out.1.ahead hWi.out
          have hown2 : w2.ownsRow w.heap.size 2 1 u5 j (il RX j) := own_un (own_later HC.out.2 hWi.out) hU2 (by omega)
          have HU2 : Hid (Un d (c + cntV RO (j + 1)) w w2) := by
            have e : c + cntV RO (j + 1) = c + cntV RO j + bi (RO j) := by show c + (cntV RO j + bi (RO j)) = _; omega
            show Un _ _ _ _
            rw [e]
            exact HU1.out.chain hU2
          have hsz : w.heap.size ≤ w2.heap.size := HU2.out.s
          clear hU2 HC CM HU1 HQ
          go_wp2_with (at_builtin; refine wpList_append_own _ rfl _ _ 45 rfl w.heap.size 2 i0 (.int .i64 0) 1 8 Tryz.underlying45 hi hz0 hz1 hz2 rfl (by decide) _ _ _ rfl (hown2.alloc _) ⟨w2.heap.size, 0, none⟩ 1 1 [.int .i64 (RX j)] rfl rfl (cell_one_new _ _ _) (ints_oneCell .i64 [RX j]) (by unfold maxLen; omega) (by omega) (by simp; omega) ?_; intro v' w3 hown' hgrow hnil)
          have hown3 : w3.ownsRow w.heap.size 2 1 v' (j + 1) (il RX (j + 1)) := by rw [il_succ]; exact hown'
          have HU3 : Hid (Un d (c + cntV RO (j + 1)) w w3) := HU2.out.grow (by omega) hgrow (fun k hk => (hown2.lt k hk).1)
          clear hown' hgrow hnil hown2 HU2
          go_wp2
          go_roundw
          case rel => exact ⟨j + 1, by omega, by go_num, hown3, HU3⟩
          case measure => simp [intOf]; omega
    · obtain rfl : j = n := by omega
      have HQ : Hid (Ar wo u5 j RX ∧ Ow w.heap.size u5) := ar_of_own hown (fun k hk => HG.out k)
      have hjj : ¬ (j : Int) < (j : Int) := by omega
      clear hown
      go_wp2
      go_ret
      exact ⟨_, rfl, HQ.out.1, HQ.out.2, hU.out⟩
end Go.Proofs.YtcaficenocblfaaGreatDoor
set_option linter.unusedVariables false
set_option linter.unusedSimpArgs false
namespace Go.Proofs.YtcaficenocblfaaGreatDoor
open Go.RowKit

def otX (f g : Nat → Int) (m : Nat) (k : Nat) : Int := clv (rnd (f (k / m) * g (k % m)) 32)
def otN (f g : Nat → Int) (m : Nat) : Nat → Int
  | 0 => 0
  | i + 1 => otN f g m i + cntV (fun k => ovv (rnd (f i * g k) 32)) m
theorem ot_rng (f g : Nat → Int) (m : Nat) (i : Nat) : 0 ≤ otN f g m i ∧ otN f g m i ≤ ((i * m : Nat) : Int) := by
  induction i with
  | zero => simp [otN]
  | succ i ih =>
    have h := cnt_rng (fun k => ovv (rnd (f i * g k) 32)) m
    rw [Nat.add_mul, Nat.one_mul]
    show 0 ≤ otN f g m i + cntV _ m ∧ otN f g m i + cntV _ m ≤ _
    rw [Int.natCast_add]
    omega
theorem il_one (f : Nat → Int) (n : Nat) : ∀ u ∈ il f n, u.oneCell' = true := by
  intro u hu
  unfold il at hu
  obtain ⟨k, _, rfl⟩ := List.mem_map.1 hu
  rfl
end Go.Proofs.YtcaficenocblfaaGreatDoor
set_option linter.unusedVariables false
set_option linter.unusedSimpArgs false
namespace Go.Proofs.YtcaficenocblfaaGreatDoor
open Go.RowKit
attribute [local go_sem ↓] Go.wp_at_zero Go.wp_at_succ

end Go.Proofs.YtcaficenocblfaaGreatDoor
set_option linter.unusedVariables false
set_option linter.unusedSimpArgs false
namespace Go.Proofs.YtcaficenocblfaaGreatDoor
open Go.RowKit

set_option maxHeartbeats 1000000 in
theorem means1_any (ba : Nat) (vb : Value) (n : Nat) (F g : Nat → Int) (w : World) (hn : n ≤ 70000) (hA : Wd ba n F w) (hB : Ar w vb n g) :
    Calls Tryz.prog 35 #[.slice (some ⟨ba, 0, none⟩) n n, vb] w fun e w' => e = .returned (.slice (some ⟨w.heap.size, 0, none⟩) n n) ∧ Wd w.heap.size n (fun k => F k + g k) w' ∧ Below w.heap.size w w' := by
  have CP : Hid (Calls Tryz.prog 36 #[.slice (some ⟨ba, 0, none⟩) n n, vb, .func (.func 37) #[] #[]] w fun e w' => e = .returned (.slice (some ⟨w.heap.size, 0, none⟩) n n) ∧ Wd w.heap.size n (fun k => F k + g k) w' ∧ Below w.heap.size w w') := pairs_plus ba vb n F g w hn hA hB
  obtain ⟨adq, caq, bq, oq, rfl, q1, q2, -, -⟩ := hB
  clear hA
  go_enter Tryz.func35, Tryz.ntmps35
  go_wp2_with fail
  refine CP.out.mono ?_
  rintro e w1 ⟨rfl, hD, hb⟩
  have HD : Hid (Wd w.heap.size n (fun k => F k + g k) w1) := hD
  clear CP hD
  go_wp2
  go_ret
  exact ⟨rfl, HD.out, hb⟩
structure Vs (w : World) (g o K n : Nat) (fs : Nat → Nat → Int) : Prop where
  c : ∀ k, k < K → ∃ (ad : Option Addr) (ca : Nat), w.cell? ⟨g, o + k, none⟩ = some (.slice ad n ca) ∧ Ar w (.slice ad n ca) n (fs k)
theorem Vs.later {w w' : World} {g o K n : Nat} {fs : Nat → Nat → Int} (h : Vs w g o K n fs) (hb : Below w.heap.size w w') : Vs w' g o K n fs :=
  ⟨fun k hk => by obtain ⟨ad, ca, h1, h2⟩ := h.c k hk; exact ⟨ad, ca, cell_later hb h1, h2.later hb⟩⟩
set_option maxRecDepth 100000 in
set_option maxHeartbeats 4000000 in
theorem gather_wide (g o cap K bs n : Nat) (fs : Nat → Nat → Int) (hn : n ≤ 70000) (hcap : K ≤ cap) (hcap2 : cap ≤ maxLen) (w : World) (hL : Vs w g o K n fs) (hZ : Wd bs n (fun _ => 0) w) :
    Calls Tryz.prog 34 #[.slice (some ⟨g, o, none⟩) K cap, .slice (some ⟨bs, 0, none⟩) n n, .func (.func 35) #[] #[]] w fun e w' => ∃ b', e = .returned (.slice (some ⟨b', 0, none⟩) n n) ∧ Wd b' n (fun i => sumV (fun k => fs k i) K) w' ∧ (b' = bs ∨ w.heap.size ≤ b') ∧ Below w.heap.size w w' := by
  unfold maxLen at hcap2
  have HL : Hid (Vs w g o K n fs) := hL
  clear hL
  go_enter Tryz.func34, Tryz.ntmps34
  go_wp2
  go_loopw [1, 11] (fun s1 si wr => ∃ (j b' : Nat), j ≤ K ∧ s1 = .slice (some ⟨b', 0, none⟩) n n ∧ si = .int .i64 (j : Int) ∧ Hid (Wd b' n (fun i => sumV (fun k => fs k i) j) wr) ∧ Hid (b' = bs ∨ w.heap.size ≤ b') ∧ Hid (Below w.heap.size w wr)) (fun _ si _ => K - (intOf si).toNat)
  case atStart =>
    exact ⟨0, bs, by omega, rfl, rfl, hZ.congr (fun k hk => rfl), Or.inl rfl, Below.refl _ _⟩
  case round =>
    obtain ⟨j, b', hj, rfl, rfl, hD, hB, hS⟩ := hrel
    by_cases hlt : j < K
    · have hjI : (j : Int) < (K : Int) := by omega
      obtain ⟨ad, ca, c1, hA⟩ := (HL.out.later hS.out).c j hlt
      have CM : Hid (Calls Tryz.prog 35 #[.slice (some ⟨b', 0, none⟩) n n, .slice ad n ca] wr fun e w' => e = .returned (.slice (some ⟨wr.heap.size, 0, none⟩) n n) ∧ Wd wr.heap.size n (fun i => sumV (fun k => fs k i) (j + 1)) w' ∧ Below wr.heap.size wr w') := means1_any b' _ n _ (fs j) wr hn hD.out hA
      have HB : Hid (wr.heap.size = bs ∨ w.heap.size ≤ wr.heap.size) := Or.inr hS.out.size
      clear hA hD hB
      go_wp2_with (go_at_call 35; refine CM.out.mono ?_; rintro e wz ⟨rfl, hDz, hbz⟩; have HDz : Hid (Wd wr.heap.size n (fun i => sumV (fun k => fs k i) (j + 1)) wz) := hDz; have HSz : Hid (Below w.heap.size w wz) := bchain hS.out hbz; clear hDz hbz c1)
      go_roundw
      case rel => exact ⟨j + 1, _, by omega, rfl, by go_num, HDz, HB, HSz⟩
      case measure => simp [intOf]; omega
    · obtain rfl : j = K := by omega
      have hjI : ¬ (j : Int) < (j : Int) := by omega
      go_wp2
      go_ret
      exact ⟨_, rfl, hD.out, hB.out, hS.out⟩

set_option maxRecDepth 100000 in
set_option maxHeartbeats 4000000 in
theorem each_means (p q : Value) (S : Nat → World → Prop) (ba n : Nat) (G F : Nat → Int) (w : World) (hn : n ≤ 70000)
    (S0 : S 0 w) (SL : ∀ j W W', S j W → Below W.heap.size W W' → S j W') (SS : ∀ j W (a : Addr) u, w.heap.size ≤ a.block → S j W → S j (W.setCell a u)) (SA : ∀ j W, S j W → Wd ba n G W) (hF : ∀ k, k < n → -9223372036854775808 ≤ F k ∧ F k ≤ 9223372036854775807)
    (HS : ∀ j W, j < n → w.heap.size < W.heap.size → S j W → Calls Tryz.prog 39 #[.agg #[.int .i64 (hi (G j)), .int .u64 (lo (G j))], p, q] W fun e w' => e = .returned (.int .i64 (F j)) ∧ S (j + 1) w' ∧ w'.heap[w.heap.size]? = W.heap[w.heap.size]? ∧ W.heap.size ≤ w'.heap.size) :
    Calls Tryz.prog 38 #[.slice (some ⟨ba, 0, none⟩) n n, .func (.func 39) #[] #[p, q]] w fun e w' => e = .returned (.slice (some ⟨w.heap.size, 0, none⟩) n n) ∧ S n w' ∧ Ar w' (.slice (some ⟨w.heap.size, 0, none⟩) n n) n F := by
  have hmk := make_fx n (by omega)
  have hR0 := Rw.made w (.int .i64 0) n 36
  have hS0 : Hid (S 0 (w.alloc (.cells (madeCells #[.int .i64 0] n) 36))) := SL 0 _ _ S0 (bel1 _ _)
  have hz0 : w.heap.size < (w.alloc (.cells (madeCells #[.int .i64 0] n) 36)).heap.size := by rw [World.size_alloc]; omega
  have HSA : Hid (∀ j W, S j W → Wd ba n G W) := SA
  have HSL : Hid (∀ j W W', S j W → Below W.heap.size W W' → S j W') := SL
  have HHS : Hid (∀ j W, j < n → w.heap.size < W.heap.size → S j W → Calls Tryz.prog 39 #[.agg #[.int .i64 (hi (G j)), .int .u64 (lo (G j))], p, q] W fun e w' => e = .returned (.int .i64 (F j)) ∧ S (j + 1) w' ∧ w'.heap[w.heap.size]? = W.heap[w.heap.size]? ∧ W.heap.size ≤ w'.heap.size) := HS
  have HSS : Hid (∀ j W (a : Addr) u, w.heap.size ≤ a.block → S j W → S j (W.setCell a u)) := SS
  have HF : Hid (∀ k, k < n → -9223372036854775808 ≤ F k ∧ F k ≤ 9223372036854775807) := hF
  clear SA HS SS SL S0 hF
  go_enter Tryz.func38, Tryz.ntmps38
  go_upto_region 3 with fail
  generalize w.alloc (.cells (madeCells #[.int .i64 0] n) 36) = w0 at *
  clear hmk
  go_loopw [13] (fun si wr => ∃ j : Nat, j ≤ n ∧ si = .int .i64 (j : Int) ∧ Hid (S j wr) ∧ Hid (Rw w.heap.size n (fun k => if k < j then .int .i64 (F k) else .int .i64 0) wr) ∧ w.heap.size < wr.heap.size) (fun si _ => n - (intOf si).toNat)
  case atStart =>
    exact ⟨0, by omega, rfl, hS0, hR0.congr (fun k hk => by simp), hz0⟩
  case round =>
    obtain ⟨j, hj, rfl, hS, hR, hz⟩ := hrel
    by_cases hlt : j < n
    · have hjI : (j : Int) < (n : Int) := by omega
      have cA0 := (HSA.out j wr hS.out).c0 j hlt
      have cA1 := (HSA.out j wr hS.out).c1 j hlt
      have HC : Hid (∀ W, Below wr.heap.size wr W → Calls Tryz.prog 39 #[.agg #[.int .i64 (hi (G j)), .int .u64 (lo (G j))], p, q] W fun e w' => e = .returned (.int .i64 (F j)) ∧ S (j + 1) w' ∧ w'.heap[w.heap.size]? = W.heap[w.heap.size]? ∧ W.heap.size ≤ w'.heap.size) := fun W hb => HHS.out j W hlt (Nat.lt_of_lt_of_le hz hb.size) (HSL.out j _ _ hS.out hb)
      generalize hi (G j) = th at *
      generalize lo (G j) = tl at *
      have A0 := B2.new wr (.int .i64 th) (.int .u64 tl) 99
      have hb1 := bel1 wr (.cells #[.int .i64 th, .int .u64 tl] 99)
      have CM : Hid (Calls Tryz.prog 39 #[.agg #[.int .i64 th, .int .u64 tl], p, q] (wr.alloc (.cells #[.int .i64 th, .int .u64 tl] 99)) fun e w' => e = .returned (.int .i64 (F j)) ∧ S (j + 1) w' ∧ w'.heap[w.heap.size]? = (wr.alloc (.cells #[.int .i64 th, .int .u64 tl] 99)).heap[w.heap.size]? ∧ (wr.alloc (.cells #[.int .i64 th, .int .u64 tl] 99)).heap.size ≤ w'.heap.size) := HC.out _ hb1
      have R1 : Hid (Rw w.heap.size n (fun k => if k < j then .int .i64 (F k) else .int .i64 0) (wr.alloc (.cells #[.int .i64 th, .int .u64 tl] 99))) := hR.out.later hb1
      have hz1 : w.heap.size < (wr.alloc (.cells #[.int .i64 th, .int .u64 tl] 99)).heap.size := by rw [World.size_alloc]; omega
      clear hb1 hR hS HC
      go_upto_region 5 with fail
      clear cA0 cA1
      generalize wr.alloc (.cells #[.int .i64 th, .int .u64 tl] 99) = w1 at *
      have a0 := A0.c0
      have a1 := A0.c1
      clear A0
      go_wp2_with (go_at_call 39; refine CM.out.mono ?_; rintro e wz ⟨rfl, hSz, hbz, hsz⟩; have HSz : Hid (S (j + 1) wz) := hSz; have HRz := R1.out.block hbz; have cz : wz.cell? ⟨w.heap.size, j, none⟩ = some (.int .i64 0) := (by have := HRz.c j hlt; rw [if_neg (by omega)] at this; exact this); have fz := HRz.f j hlt; replace HRz : Hid (Rw _ _ _ _) := HRz; clear hSz hbz R1 a0 a1)
      have hS2 : Hid (S (j + 1) (wz.setCell ⟨w.heap.size, j, none⟩ (.int .i64 (F j)))) := HSS.out _ _ _ _ (Nat.le_refl _) HSz.out
      have hR2 : Hid (Rw w.heap.size n (fun k => if k < j + 1 then .int .i64 (F k) else .int .i64 0) (wz.setCell ⟨w.heap.size, j, none⟩ (.int .i64 (F j)))) := (HRz.out.set j (.int .i64 (F j))).congr (fun k hk => by
        by_cases e : k = j
        · subst e; simp
        · rw [if_neg e]
          by_cases e2 : k < j
          · rw [if_pos e2, if_pos (by omega)]
          · rw [if_neg e2, if_neg (by omega)])
      have hz2 : w.heap.size < (wz.setCell ⟨w.heap.size, j, none⟩ (.int .i64 (F j))).heap.size := by rw [World.size_setCell]; omega
      go_roundw
      case rel => exact ⟨j + 1, by omega, by go_num, hS2, hR2, hz2⟩
      case measure => simp [intOf]; omega
    · obtain rfl : j = n := by omega
      have hjI : ¬ (j : Int) < (j : Int) := by omega
      have hAr : Hid (Ar wr (.slice (some ⟨w.heap.size, 0, none⟩) j j) j F) := (hR.out.congr (fun k hk => by rw [if_pos hk])).ar (by omega) HF.out
      clear hR
      go_wp2
      go_ret
      exact ⟨rfl, hS.out, hAr.out⟩
theorem sumV_bnd (f : Nat → Int) (n : Nat) (h : ∀ k, k < n → -9223372036854775808 ≤ f k ∧ f k ≤ 9223372036854775807) : -((n : Int) * 9223372036854775808) ≤ sumV f n ∧ sumV f n ≤ (n : Int) * 9223372036854775808 := by
  induction n with
  | zero => exact ⟨by simp [sumV], by simp [sumV]⟩
  | succ m ih =>
    obtain ⟨h1, h2⟩ := ih (fun k hk => h k (by omega))
    obtain ⟨h3, h4⟩ := h m (by omega)
    show _ ≤ sumV f m + f m ∧ sumV f m + f m ≤ _
    omega
end Go.Proofs.YtcaficenocblfaaGreatDoor
set_option linter.unusedVariables false
set_option linter.unusedSimpArgs false
namespace Go.Proofs.YtcaficenocblfaaGreatDoor
open Go.RowKit

set_option maxHeartbeats 1000000 in
theorem alike1_any (a : Option Addr) (n c n0 : Nat) (hn : n ≤ maxLen) (hn0 : n0 ≤ maxLen) (B g o K cap c0 : Nat) (a0 : Option Addr) (hK : 0 < K) (w : World) (cb : w.cell? ⟨B, 0, none⟩ = some (.slice (some ⟨g, o, none⟩) K cap)) (ce : w.cell? ⟨g, o, none⟩ = some (.slice a0 n0 c0)) :
    Calls Tryz.prog 63 #[.slice a n c, .pointer (some ⟨B, 0, none⟩)] w fun e w' => e = .returned (.bool (decide (n ≠ n0))) ∧ w' = w := by
  unfold maxLen at hn hn0
  have hKI : (0 : Int) < (K : Int) := by omega
  by_cases h : n = n0
  · subst h
    rw [decide_eq_false (fun h => h rfl)]
    go_enter Tryz.func63, Tryz.ntmps63
    go_wp2
    go_ret
    exact ⟨by simp, rfl⟩
  · have h1 : ¬ (n : Int) = (n0 : Int) := by omega
    rw [decide_eq_true h]
    clear h
    go_enter Tryz.func63, Tryz.ntmps63
    go_wp2
    go_ret
    exact ⟨by simp [h1], rfl⟩
def unlB (ns : Nat → Nat) (m : Nat) : Bool := (List.range m).any (fun k => decide (ns k ≠ ns 0))
theorem unlB_yes (ns : Nat → Nat) (m k : Nat) (hk : k < m) (h : ns k ≠ ns 0) : unlB ns m = true :=
  List.any_eq_true.2 ⟨k, List.mem_range.2 hk, decide_eq_true h⟩
theorem unlB_no (ns : Nat → Nat) (m : Nat) (h : ∀ k, k < m → ns k = ns 0) : unlB ns m = false := by
  rw [Bool.eq_false_iff]
  intro e
  obtain ⟨k, hk, h2⟩ := List.any_eq_true.1 e
  exact of_decide_eq_true h2 (h k (List.mem_range.1 hk))
set_option maxRecDepth 100000 in
set_option maxHeartbeats 2000000 in
theorem index2_any (v : Value) (m : Nat) (ns : Nat → Nat) (B : Nat) (w : World) (hH : Hs w v m ns) (cB : w.cell? ⟨B, 0, none⟩ = some v) :
    Calls Tryz.prog 92 #[v, .func (.func 63) #[] #[.pointer (some ⟨B, 0, none⟩)]] w fun e w' => ∃ i : Int, e = .returned (.int .i64 i) ∧ (unlB ns m = true → 0 ≤ i) ∧ (unlB ns m = false → i < 0) ∧ w' = w := by
  obtain ⟨adr, cap, g, o, rfl, k1, k2, k3, k4⟩ := hH
  have HC : Hid (∀ k, k < m → ns k ≤ maxLen ∧ ∃ (ad : Option Addr) (ca : Nat), w.cell? ⟨g, o + k, none⟩ = some (.slice ad (ns k) ca)) := k4
  have HK : Hid (0 < m → adr = some ⟨g, o, none⟩) := k3
  have HB : Hid (w.cell? ⟨B, 0, none⟩ = some (.slice adr m cap)) := cB
  unfold maxLen at k2
  clear k3 k4 cB
  go_enter Tryz.func92, Tryz.ntmps92
  go_wp2
  go_loopw [8] (fun s8 wr => ∃ j : Nat, j ≤ m ∧ s8 = .int .i64 (j : Int) ∧ Hid (∀ k, k < j → ns k = ns 0) ∧ wr = w) (fun s8 _ => m - (intOf s8).toNat)
  case atStart => exact ⟨0, by omega, rfl, fun k hk => by omega, rfl⟩
  case round =>
    obtain ⟨j, hj, rfl, hA, rfl⟩ := hrel
    by_cases hlt : j < m
    · have hjI : (j : Int) < (m : Int) := by omega
      have ea := HK.out (by omega)
      subst ea
      obtain ⟨hl, ad, ca, hcell⟩ := HC.out j hlt
      have CT : Hid (Calls Tryz.prog 63 #[.slice ad (ns j) ca, .pointer (some ⟨B, 0, none⟩)] wr fun e w' => e = .returned (.bool (decide (ns j ≠ ns 0))) ∧ w' = wr) := by
        obtain ⟨hl0, ad0, ca0, hc0⟩ := HC.out 0 (by omega)
        exact alike1_any ad (ns j) ca (ns 0) hl hl0 B g o m cap ca0 ad0 (by omega) wr HB.out (by rw [Nat.add_zero] at hc0; exact hc0)
      clear hl
      by_cases hlong : ns j ≠ ns 0
      · rw [decide_eq_true hlong] at CT
        have HF : Hid (unlB ns m = true) := unlB_yes ns m j hlt hlong
        clear hlong hA
        go_wp2_with (go_at_call 63; refine CT.out.mono ?_; rintro e wz ⟨rfl, hz⟩; subst hz)
        go_ret
        exact ⟨_, rfl, fun _ => by omega, fun h => (by rw [HF.out] at h; cases h), rfl⟩
      · rw [decide_eq_false hlong] at CT
        have HA2 : Hid (∀ k, k < j + 1 → ns k = ns 0) := fun k hk => by
          rcases Nat.lt_or_ge k j with h | h
          · exact hA.out k h
          · obtain rfl : k = j := by omega
            exact Decidable.not_not.1 hlong
        clear hlong hA
        go_wp2_with (go_at_call 63; refine CT.out.mono ?_; rintro e wz ⟨rfl, hz⟩; subst hz)
        go_roundw
        case rel => exact ⟨j + 1, by omega, by go_num, HA2, trivial⟩
        case measure => simp [intOf]; omega
    · have HF : Hid (unlB ns m = false) := unlB_no ns m (fun k hk => hA.out k (by omega))
      have hjI : ¬ (j : Int) < (m : Int) := by omega
      clear hA
      go_wp2
      go_ret
      exact ⟨_, rfl, fun h => (by rw [HF.out] at h; cases h), fun _ => by omega, rfl⟩
set_option maxHeartbeats 1000000 in
theorem contains2_any (v : Value) (m : Nat) (ns : Nat → Nat) (B : Nat) (w : World) (hH : Hs w v m ns) (cB : w.cell? ⟨B, 0, none⟩ = some v) :
    Calls Tryz.prog 61 #[v, .func (.func 63) #[] #[.pointer (some ⟨B, 0, none⟩)]] w fun e w' => e = .returned (.bool (unlB ns m)) ∧ w' = w := by
  have CI : Hid (Calls Tryz.prog 92 #[v, .func (.func 63) #[] #[.pointer (some ⟨B, 0, none⟩)]] w fun e w' => ∃ i : Int, e = .returned (.int .i64 i) ∧ (unlB ns m = true → 0 ≤ i) ∧ (unlB ns m = false → i < 0) ∧ w' = w) := index2_any v m ns B w hH cB
  obtain ⟨adr, cap, g, o, rfl, -, -, -, -⟩ := hH
  clear cB
  generalize unlB ns m = Q at *
  cases Q
  · go_enter Tryz.func61, Tryz.ntmps61
    go_wp2_with fail
    refine CI.out.mono ?_
    rintro e wz ⟨i, rfl, -, h1, hz⟩
    subst hz
    have h2 : ¬ (0 : Int) ≤ i := by have := h1 (by trivial); omega
    clear CI h1
    go_wp2
    go_ret
    exact ⟨by simp [h2], rfl⟩
  · go_enter Tryz.func61, Tryz.ntmps61
    go_wp2_with fail
    refine CI.out.mono ?_
    rintro e wz ⟨i, rfl, h1, -, hz⟩
    subst hz
    have h2 : (0 : Int) ≤ i := h1 (by trivial)
    clear CI h1
    go_wp2
    go_ret
    exact ⟨by simp [h2], rfl⟩
theorem Hs.later {w w' : World} {v : Value} {m : Nat} {ns : Nat → Nat} (h : Hs w v m ns) (hb : Below w.heap.size w w') : Hs w' v m ns := by
  obtain ⟨adr, cap, g, o, e, k1, k2, k3, k4⟩ := h
  exact ⟨adr, cap, g, o, e, k1, k2, k3, fun k hk => by obtain ⟨h1, ad, ca, h2⟩ := k4 k hk; exact ⟨h1, ad, ca, cell_later hb h2⟩⟩
set_option maxHeartbeats 1000000 in
theorem alike_any (v : Value) (m : Nat) (ns : Nat → Nat) (w : World) (hH : Hs w v m ns) :
    Calls Tryz.prog 33 #[v] w fun e w' => e = .returned (.bool (!(unlB ns m))) ∧ Below w.heap.size w w' := by
  have hb0 := bel1 w (.cells #[v] 60)
  have cB : (w.alloc (.cells #[v] 60)).cell? ⟨w.heap.size, 0, none⟩ = some v := by obtain ⟨adr, cap, g, o, rfl, -, -, -, -⟩ := hH; simp [go_sem]
  have CI : Hid (Calls Tryz.prog 61 #[v, .func (.func 63) #[] #[.pointer (some ⟨w.heap.size, 0, none⟩)]] (w.alloc (.cells #[v] 60)) fun e w' => e = .returned (.bool (unlB ns m)) ∧ w' = w.alloc (.cells #[v] 60)) := contains2_any v m ns w.heap.size _ (hH.later hb0) cB
  obtain ⟨adr, cap, g, o, rfl, -, -, -, -⟩ := hH
  clear cB
  generalize unlB ns m = Q at *
  go_enter Tryz.func33, Tryz.ntmps33
  go_wp2_with fail
  refine CI.out.mono ?_
  rintro e wz ⟨rfl, hz⟩
  have hb1 : Below w.heap.size w wz := by rw [hz]; exact hb0
  clear CI hz hb0
  cases Q <;> (go_wp2; go_ret; exact ⟨rfl, hb1⟩)
end Go.Proofs.YtcaficenocblfaaGreatDoor
