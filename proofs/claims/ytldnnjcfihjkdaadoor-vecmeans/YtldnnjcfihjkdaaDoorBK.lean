/-
  VBase, VAwake, VBase2.
-/
import Derived.Test.YtldnnjcfihjkdaaDoorBI
import Derived.Test.YtldnnjcfihjkdaaDoorBD
import Derived.Deep.DrawnRows
import Derived.Deep.Cut
import Derived.Deep.DeepCutAuto
/-
  What the laws of layer 4 ask of the program's functions, and the state that they carry.
-/
set_option linter.unusedVariables false
set_option linter.unusedSimpArgs false
namespace Go.Proofs.YtldnnjcfihjkdaaDoor
open Go.RowKit

/-- What the program's functions ask of the world (a table that they read). -/
def VT (w : World) : Prop := TabAt w
theorem VT.later {w w' : World} (h : VT w) (hb : Below w.heap.size w w') : VT w' := TabAt.later h hb
/-- A unit's cell. -/
def Uc (w : World) (d : Nat) (c : Int) : Prop := w.cell? ⟨d, 0, none⟩ = some (.int .i64 c) ∧ w.frozen? ⟨d, 0, none⟩ = false
def dE (n m : Nat) : Int := if 65536 < n ∨ 65536 < m then 3 else if n = m then 0 else 40
def dX (n m : Nat) (f g : Nat → Int) : Int := if dE n m = 0 then clv (rr (dotV f g n) 32) else 0
def dO (n m : Nat) (f g : Nat → Int) : Bool := if dE n m = 0 then ovv (rr (dotV f g n) 32) else false
def sE (n : Nat) : Int := if 65536 < n then 3 else 0
def sX (n : Nat) (f : Nat → Int) : Int := if sE n = 0 then clv (sumV f n) else 0
def sO (n : Nat) (f : Nat → Int) : Bool := if sE n = 0 then ovv (sumV f n) else false
def mE (n : Nat) : Int := if 65536 < n then 3 else if n = 0 then 40 else 0
def mX (n : Nat) (f : Nat → Int) : Int := if mE n = 0 then clv (quo (sumV f n) (n : Int)) else 0
def mO (n : Nat) (f : Nat → Int) : Bool := if mE n = 0 then ovv (quo (sumV f n) (n : Int)) else false
def nX (n : Nat) (f : Nat → Int) : Int := if sE n = 0 then rtX (dotV f f n) else 0
def nO (n : Nat) (f : Nat → Int) : Bool := if sE n = 0 then rtO (dotV f f n) else false
/-- The contracts of vec's functions that answer one number. -/
structure Vec1 : Prop where
  dotU : ∀ (va vb : Value) (n m : Nat) (f g : Nat → Int) (d : Nat) (c : Int) (w : World), n ≤ 70000 → m ≤ 70000 → 0 ≤ c → c ≤ 900000000 → VT w → Ar w va n f → Ar w vb m g → Nb va d → Nb vb d → Uc w d c →
    Calls Tryd.prog 11 #[.pointer (some ⟨d, 0, none⟩), va, vb] w fun e w' => e = .returned (.tuple #[.int .i64 (dX n m f g), .int .i64 (dE n m)]) ∧ Un d (c + bi (dO n m f g)) w w'
  dotN : ∀ (va vb : Value) (n m : Nat) (f g : Nat → Int) (w : World), n ≤ 70000 → m ≤ 70000 → VT w → Ar w va n f → Ar w vb m g →
    Calls Tryd.prog 11 #[.pointer none, va, vb] w fun e w' => e = .returned (.tuple #[.int .i64 (dX n m f g), .int .i64 (dE n m)]) ∧ Below w.heap.size w w'
  sumU : ∀ (va : Value) (n : Nat) (f : Nat → Int) (d : Nat) (c : Int) (w : World), n ≤ 70000 → 0 ≤ c → c ≤ 900000000 → VT w → Ar w va n f → Nb va d → Uc w d c →
    Calls Tryd.prog 16 #[.pointer (some ⟨d, 0, none⟩), va] w fun e w' => e = .returned (.tuple #[.int .i64 (sX n f), .int .i64 (sE n)]) ∧ Un d (c + bi (sO n f)) w w'
  meanU : ∀ (va : Value) (n : Nat) (f : Nat → Int) (d : Nat) (c : Int) (w : World), n ≤ 70000 → 0 ≤ c → c ≤ 900000000 → VT w → Ar w va n f → Nb va d → Uc w d c →
    Calls Tryd.prog 18 #[.pointer (some ⟨d, 0, none⟩), va] w fun e w' => e = .returned (.tuple #[.int .i64 (mX n f), .int .i64 (mE n)]) ∧ Un d (c + bi (mO n f)) w w'
  normU : ∀ (va : Value) (n : Nat) (f : Nat → Int) (d : Nat) (c : Int) (w : World), n ≤ 70000 → 0 ≤ c → c ≤ 900000000 → VT w → Ar w va n f → Nb va d → Uc w d c →
    Calls Tryd.prog 40 #[.pointer (some ⟨d, 0, none⟩), va] w fun e w' => e = .returned (.tuple #[.int .i64 (nX n f), .int .i64 (sE n)]) ∧ Un d (c + bi (nO n f)) w w'
  normN : ∀ (va : Value) (n : Nat) (f : Nat → Int) (w : World), n ≤ 70000 → VT w → Ar w va n f →
    Calls Tryd.prog 40 #[.pointer none, va] w fun e w' => e = .returned (.tuple #[.int .i64 (nX n f), .int .i64 (sE n)]) ∧ Below w.heap.size w w'
/-- The state of a law: two units, and whatever was there is there. -/
structure L2 (w : World) (du dv : Nat) (cu cv : Int) (wz : World) : Prop where
  B : Below w.heap.size w wz
  u : Uc wz du cu
  v : Uc wz dv cv
theorem Uc.later {w w' : World} {d : Nat} {c : Int} (h : Uc w d c) (hb : Below w.heap.size w w') : Uc w' d c := ⟨cell_later hb h.1, frozen_later hb h.1 h.2⟩
theorem Uc.un {w w' : World} {d d' : Nat} {c c' : Int} (h : Uc w d c) (hU : Un d' c' w w') (hd : d ≠ d') : Uc w' d c := by
  have hb := World.block_lt_of_cell? _ _ h.1
  have e := hU.k d hb hd
  exact ⟨(World.cell?_of_block (w := w) e).trans h.1, (World.frozen?_of_block (w := w) e).trans h.2⟩
theorem L2.later {w : World} {du dv : Nat} {cu cv : Int} {wz wy : World} (h : L2 w du dv cu cv wz) (hb : Below wz.heap.size wz wy) : L2 w du dv cu cv wy := ⟨bchain h.B hb, h.u.later hb, h.v.later hb⟩
theorem L2.unu {w : World} {du dv : Nat} {cu cv c : Int} {wz wy : World} (h : L2 w du dv cu cv wz) (hU : Un du c wz wy) (hu : w.heap.size ≤ du) (hne : du ≠ dv) : L2 w du dv c cv wy :=
  ⟨hU.b _ _ hu h.B.size h.B, ⟨hU.c, hU.f⟩, h.v.un hU (fun e => hne e.symm)⟩
theorem L2.unv {w : World} {du dv : Nat} {cu cv c : Int} {wz wy : World} (h : L2 w du dv cu cv wz) (hU : Un dv c wz wy) (hv : w.heap.size ≤ dv) (hne : du ≠ dv) : L2 w du dv cu c wy :=
  ⟨hU.b _ _ hv h.B.size h.B, h.u.un hU hne, ⟨hU.c, hU.f⟩⟩
theorem Ar.nb {w : World} {v : Value} {n : Nat} {f : Nat → Int} (h : Ar w v n f) {d : Nat} (hd : w.heap.size ≤ d) : Nb v d := by
  obtain ⟨adr, cap, b, o, rfl, h2, h3, h4, h5⟩ := h
  intro a n' cap' e hn
  have e2 := h4 (by cases e; exact hn)
  subst e2
  cases e
  have h6 : b < w.heap.size := World.block_lt_of_cell? _ _ (h5 0 hn).1
  show b ≠ d
  omega
theorem vt_below {w w' : World} (h : VT w) (hb : Below w.heap.size w w') : VT w' := h.later hb
/-- few, of a list of so many vectors. -/
def fewB (ns : Nat → Nat) (m : Nat) : Bool := (List.range m).all (fun k => decide (ns k ≤ 200))
theorem few_no (ns : Nat → Nat) (m k : Nat) (hk : k < m) (h : 200 < ns k) : fewB ns m = false := by
  rw [Bool.eq_false_iff]
  intro e
  have := List.all_eq_true.1 e k (List.mem_range.2 hk)
  rw [decide_eq_true_iff] at this
  omega
set_option maxRecDepth 100000 in
set_option maxHeartbeats 2000000 in
theorem few_any (g : Nat) (m cap : Nat) (ns : Nat → Nat) (hm : m ≤ 1000000) (hmc : m ≤ cap) (w : World) (hc : ∀ k, k < m → ns k ≤ maxLen ∧ ∃ (ad : Option Addr) (ca : Nat), w.cell? ⟨g, k, none⟩ = some (.slice ad (ns k) ca)) :
    Calls Tryd.prog 10 #[.slice (some ⟨g, 0, none⟩) m cap] w fun e w' => e = .returned (.bool (fewB ns m)) ∧ w' = w := by
  have HC : Hid (∀ k, k < m → ns k ≤ maxLen ∧ ∃ (ad : Option Addr) (ca : Nat), w.cell? ⟨g, k, none⟩ = some (.slice ad (ns k) ca)) := hc
  clear hc
  obtain ⟨R, hR⟩ : ∃ R, fewB ns m = R := ⟨_, rfl⟩
  have HR : Hid (fewB ns m = R) := hR
  rw [hR]
  clear hR
  go_enter Tryd.func10, Tryd.ntmps10
  go_wp2
  go_loopw [7] (fun s7 wr => ∃ j : Nat, j ≤ m ∧ s7 = .int .i64 (j : Int) ∧ Hid (∀ k, k < j → ns k ≤ 200) ∧ wr = w) (fun s7 _ => m - (intOf s7).toNat)
  case atStart => exact ⟨0, by omega, rfl, fun k hk => by omega, rfl⟩
  case round =>
    obtain ⟨j, hj, rfl, hA, rfl⟩ := hrel
    by_cases hlt : j < m
    · have hjI : (j : Int) < (m : Int) := by omega
      obtain ⟨hl, ad, ca, hcell⟩ := HC.out j hlt
      unfold maxLen at hl
      by_cases h200 : ns j ≤ 200
      · have h2 : ((ns j : Nat) : Int) ≤ 200 := by omega
        have HA2 : Hid (∀ k, k < j + 1 → ns k ≤ 200) := fun k hk => by
          rcases Nat.lt_or_ge k j with h | h
          · exact hA.out k h
          · obtain rfl : k = j := by omega
            exact h200
        clear hA h200
        go_wp2
        go_roundw
        case rel => exact ⟨j + 1, by omega, by go_num, HA2, trivial⟩
        case measure => simp [intOf]; omega
      · have h2 : (200 : Int) < ((ns j : Nat) : Int) := by omega
        have HF : Hid (R = false) := by show _ = _; rw [← HR.out]; exact few_no ns m j hlt (by omega)
        clear hA h200 HR
        go_wp2
        go_ret
        exact ⟨by rw [HF.out]; rfl, rfl⟩
    · have HF : Hid (R = true) := by
        show _ = _
        rw [← HR.out]
        unfold fewB
        rw [List.all_eq_true]
        intro k hk
        rw [decide_eq_true_iff]
        exact hA.out k (by have := List.mem_range.1 hk; omega)
      have hjI : ¬ (j : Int) < (m : Int) := by omega
      clear hA HR
      go_wp2
      go_ret
      exact ⟨by rw [HF.out]; rfl, rfl⟩
end Go.Proofs.YtldnnjcfihjkdaaDoor
/-
  The chapter's examples: regattalaw04's awake; like, refused.
-/
set_option linter.unusedVariables false
set_option linter.unusedSimpArgs false
namespace Go.Proofs.YtldnnjcfihjkdaaDoor
open Go.RowKit
attribute [local go_sem ↓] Go.wp_at_zero Go.wp_at_succ

def two (a b : Int) (k : Nat) : Int := if k = 0 then a else b
theorem ar_two (W : World) (a b : Int) (t : TypeId) (ha : -9223372036854775808 ≤ a ∧ a ≤ 9223372036854775807) (hb : -9223372036854775808 ≤ b ∧ b ≤ 9223372036854775807) :
    Ar (W.alloc (.cells #[.int .i64 a, .int .i64 b] t)) (.slice (some ⟨W.heap.size, 0, none⟩) 2 2) 2 (two a b) := by
  refine ⟨_, 2, W.heap.size, 0, rfl, by omega, by unfold maxLen; omega, fun _ => rfl, fun k hk => ?_⟩
  have : k = 0 ∨ k = 1 := by omega
  rcases this with rfl | rfl
  · exact ⟨by simp [go_sem, two], ha⟩
  · exact ⟨by simp [go_sem, two], hb⟩
theorem aw_dot : dX 2 2 (two 1 1) (two 2147483648 2147483648) = 1 ∧ dE 2 2 = 0 := by decide +kernel
theorem aw_norm : nX 2 (two 12884901888 17179869184) = 21474836480 ∧ sE 2 = 0 := by decide +kernel
theorem alloc_size_eq (w : World) (o : Obj) : (w.alloc o).heap.size = w.heap.size + 1 := by simp
theorem bel1' (w : World) (o : Obj) : Below w.heap.size w (w.alloc o) := (Below.refl _ w).alloc (Nat.le_refl _) o
set_option maxHeartbeats 1000000 in
theorem vawake_any (V : Vec1) (w : World) (hV : VT w) : Calls Tryd.prog 9 #[] w fun e w' => e = .returned (.bool true) ∧ Below w.heap.size w w' := by
  have P1 : Hid (∀ (va vb : Value) (W : World), VT W → Ar W va 2 (two 1 1) → Ar W vb 2 (two 2147483648 2147483648) → Calls Tryd.prog 11 #[.pointer none, va, vb] W fun e w' => e = .returned (.tuple #[.int .i64 1, .int .i64 0]) ∧ Below W.heap.size W w') := by
    intro va vb W h1 h2 h3
    have h := V.dotN va vb 2 2 _ _ W (by omega) (by omega) h1 h2 h3
    rw [aw_dot.1, aw_dot.2] at h
    exact h
  have P2 : Hid (∀ (va : Value) (W : World), VT W → Ar W va 2 (two 12884901888 17179869184) → Calls Tryd.prog 40 #[.pointer none, va] W fun e w' => e = .returned (.tuple #[.int .i64 21474836480, .int .i64 0]) ∧ Below W.heap.size W w') := by
    intro va W h1 h2
    have h := V.normN va 2 _ W (by omega) h1 h2
    rw [aw_norm.1, aw_norm.2] at h
    exact h
  clear V
  have B1 := bel1' w (.cells #[.int .i64 1, .int .i64 1] 33)
  have A1 := ar_two w 1 1 33 (by omega) (by omega)
  have B2 := bel1' (w.alloc (.cells #[.int .i64 1, .int .i64 1] 33)) (.cells #[.int .i64 2147483648, .int .i64 2147483648] 33)
  have A2 := ar_two (w.alloc (.cells #[.int .i64 1, .int .i64 1] 33)) 2147483648 2147483648 33 (by omega) (by omega)
  have A3 := A1.later B2
  have V2 := (hV.later B1).later B2
  have W2 : Hid (Below w.heap.size w _) := bchain B1 B2
  have HA : Hid (Ar ((w.alloc (.cells #[.int .i64 1, .int .i64 1] 33)).alloc (.cells #[.int .i64 2147483648, .int .i64 2147483648] 33)) (.slice (some ⟨w.heap.size, 0, none⟩) 2 2) 2 (two 1 1) ∧ Ar ((w.alloc (.cells #[.int .i64 1, .int .i64 1] 33)).alloc (.cells #[.int .i64 2147483648, .int .i64 2147483648] 33)) (.slice (some ⟨w.heap.size + 1, 0, none⟩) 2 2) 2 (two 2147483648 2147483648)) := ⟨A3, alloc_size_eq w _ ▸ A2⟩
  have HV : Hid (VT ((w.alloc (.cells #[.int .i64 1, .int .i64 1] 33)).alloc (.cells #[.int .i64 2147483648, .int .i64 2147483648] 33))) := V2
  clear B1 A1 B2 A2 A3 V2
  go_enter Tryd.func9, Tryd.ntmps9
  go_wp2_with fail
  refine (P1.out _ _ _ HV.out HA.out.1 HA.out.2).mono ?_
  rintro e w1 ⟨rfl, hb⟩
  have V1 : Hid (VT w1) := VT.later HV.out hb
  have W1 : Hid (Below w.heap.size w w1) := bchain W2.out hb
  clear P1 HV HA W2 hb
  have B3 : Hid (Below w1.heap.size w1 _) := bel1' w1 (.cells #[.int .i64 12884901888, .int .i64 17179869184] 33)
  have A4 : Hid (Ar _ _ 2 _) := ar_two w1 12884901888 17179869184 33 (by omega) (by omega)
  go_wp2_with fail
  refine (P2.out _ _ (VT.later V1.out B3.out) A4.out).mono ?_
  rintro e w3 ⟨rfl, hb⟩
  have W3 : Hid (Below w.heap.size w w3) := bchain (bchain W1.out B3.out) hb
  clear P2 V1 W1 B3 A4 hb
  go_wp2
  go_ret
  exact ⟨rfl, W3.out⟩
set_option maxHeartbeats 2000000 in
theorem like_yes (va vb : Value) (n : Nat) (f : Nat → Int) (hn : n ≤ 70000) (du dv : Nat) (c : Int) (w : World) (hA : Ar w va n f) (hB : Ar w vb n f) (hu : Uc w du c) (hv : Uc w dv c) :
    Calls Tryd.prog 21 #[va, .int .i64 0, vb, .pointer (some ⟨du, 0, none⟩), .pointer (some ⟨dv, 0, none⟩)] w fun e w' => e = .returned (.bool true) ∧ Below w.heap.size w w' := by
  have hd : Below w.heap.size w w.drew := (Below.refl _ _).drew
  have A1 : Hid (Ar w.drew va n f ∧ Ar w.drew vb n f) := ⟨hA.later hd, hB.later hd⟩
  have U1 : Hid (Uc w.drew du c) := hu.later hd
  have V1 : Hid (Uc w.drew dv c) := hv.later hd
  have W1 : Hid (Below w.heap.size w w.drew) := hd
  have xV := V1.out.1
  have xU := U1.out.1
  clear hA hB hu hv hd
  go_enter Tryd.func21, Tryd.ntmps21
  go_wp2_with fail
  go_region_with (first
    | (go_at_call 13; refine (plain_any va n f hn _ A1.out.1).mono ?_; rintro e wz ⟨vz, rfl, AZ, _, hb⟩; have A2 : Hid (Ar wz vz n f ∧ Ar wz vb n f) := ⟨AZ, A1.out.2.later hb⟩; replace xU := cell_later hb xU; replace xV := cell_later hb xV; replace W1 := hidD' W1 hb; clear hb AZ A1 U1 V1)
    | (go_at_call 57; refine (same_yes _ vb n f hn _ A2.out.1 A2.out.2).mono ?_; rintro e wy ⟨rfl, hb⟩; replace xU := cell_later hb xU; replace xV := cell_later hb xV; replace W1 := hidD' W1 hb; clear hb A2)
    | (go_at_call 14; refine (count_any du c _ xU).mono ?_; rintro e wy ⟨rfl, rfl⟩))
  all_goals
    go_wp2
    go_ret
    exact ⟨by first | (simp; done) | (simp; rfl), W1.out⟩
set_option maxHeartbeats 1000000 in
theorem refused_yes (va : Value) (ad : Option Addr) (cap : Nat) (e : Int) (du : Nat) (w : World) (hva : va = .slice ad 0 cap) (hu : Uc w du 0) :
    Calls Tryd.prog 27 #[va, .int .i64 e, .int .i64 e, .pointer (some ⟨du, 0, none⟩)] w fun e w' => e = .returned (.bool true) ∧ w' = w := by
  subst hva
  have hee : (e == e) = true := by simp
  have xU := hu.1
  clear hu
  have HC : Hid (∀ W : World, W.cell? ⟨du, 0, none⟩ = some (.int .i64 0) → Calls Tryd.prog 14 #[.pointer (some ⟨du, 0, none⟩)] W fun e w' => e = .returned (.int .i64 0) ∧ w' = W) := fun W h => count_any du 0 W h
  go_enter Tryd.func27, Tryd.ntmps27
  go_wp2_with (go_at_call 14; refine (HC.out _ xU).mono ?_; rintro e wy ⟨rfl, rfl⟩)
  go_wp2
  go_ret
  exact ⟨rfl, rfl⟩
end Go.Proofs.YtldnnjcfihjkdaaDoor
/-
  What the laws of layer 4 ask of vec's functions that answer lists, and the state of a law with two units and two lists.
-/
set_option linter.unusedVariables false
set_option linter.unusedSimpArgs false
namespace Go.Proofs.YtldnnjcfihjkdaaDoor
open Go.RowKit

def cE (E c : Int) : Int := if E = 0 then c else 0
/-- A list that is answered: so many numbers in memory of its own, or none beside an error. -/
def LL (w w' : World) (v' : Value) (n : Nat) (F : Nat → Int) (E : Int) : Prop :=
  (E = 0 → Ar w' v' n F) ∧ (E ≠ 0 → ∃ ad cap, v' = .slice ad 0 cap) ∧ Ow w.heap.size v'
/-- The contracts of vec's functions that answer lists. -/
structure Vec2 : Prop where
  scaleU : ∀ (k : Int) (va : Value) (n : Nat) (f : Nat → Int) (d : Nat) (c : Int) (w : World), -9223372036854775808 ≤ k → k ≤ 9223372036854775807 → n ≤ 70000 → 0 ≤ c → c ≤ 800000000 → VT w → Ar w va n f → Nb va d → Uc w d c →
    Calls Tryd.prog 20 #[.pointer (some ⟨d, 0, none⟩), .int .i64 k, va] w fun e w' => ∃ v', e = .returned (.tuple #[v', .int .i64 (sE n)]) ∧ LL w w' v' n (fun i => clv (rnd (k * f i) 32)) (sE n) ∧ Un d (c + cE (sE n) (cntV (fun i => ovv (rnd (k * f i) 32)) n)) w w'
  addU : ∀ (va vb : Value) (n m : Nat) (f g : Nat → Int) (d : Nat) (c : Int) (w : World), n ≤ 70000 → m ≤ 70000 → 0 ≤ c → c ≤ 800000000 → VT w → Ar w va n f → Ar w vb m g → Nb va d → Nb vb d → Uc w d c →
    Calls Tryd.prog 24 #[.pointer (some ⟨d, 0, none⟩), va, vb] w fun e w' => ∃ v', e = .returned (.tuple #[v', .int .i64 (dE n m)]) ∧ LL w w' v' n (fun i => clv (f i + g i)) (dE n m) ∧ Un d (c + cE (dE n m) (cntV (fun i => ovv (f i + g i)) n)) w w'
  subU : ∀ (va vb : Value) (n m : Nat) (f g : Nat → Int) (d : Nat) (c : Int) (w : World), n ≤ 70000 → m ≤ 70000 → 0 ≤ c → c ≤ 800000000 → VT w → Ar w va n f → Ar w vb m g → Nb va d → Nb vb d → Uc w d c →
    Calls Tryd.prog 25 #[.pointer (some ⟨d, 0, none⟩), va, vb] w fun e w' => ∃ v', e = .returned (.tuple #[v', .int .i64 (dE n m)]) ∧ LL w w' v' n (fun i => clv (f i - g i)) (dE n m) ∧ Un d (c + cE (dE n m) (cntV (fun i => ovv (f i - g i)) n)) w w'
  axpyU : ∀ (k : Int) (va vb : Value) (n m : Nat) (f g : Nat → Int) (d : Nat) (c : Int) (w : World), -9223372036854775808 ≤ k → k ≤ 9223372036854775807 → n ≤ 70000 → m ≤ 70000 → 0 ≤ c → c ≤ 800000000 → VT w → Ar w va n f → Ar w vb m g → Nb va d → Nb vb d → Uc w d c →
    Calls Tryd.prog 26 #[.pointer (some ⟨d, 0, none⟩), .int .i64 k, va, vb] w fun e w' => ∃ v', e = .returned (.tuple #[v', .int .i64 (dE n m)]) ∧ LL w w' v' n (fun i => clv (rr (k * f i + g i * 4294967296) 32)) (dE n m) ∧ Un d (c + cE (dE n m) (cntV (fun i => ovv (rr (k * f i + g i * 4294967296) 32)) n)) w w'
/-- A list that lies apart from both units. -/
structure An (du dv : Nat) (v : Value) (n : Nat) (f : Nat → Int) (wz : World) : Prop where
  a : Ar wz v n f
  u : Nb v du
  v : Nb v dv
theorem An.later {du dv : Nat} {v : Value} {n : Nat} {f : Nat → Int} {wz wy : World} (h : An du dv v n f wz) (hb : Below wz.heap.size wz wy) : An du dv v n f wy := ⟨h.a.later hb, h.u, h.v⟩
theorem An.unu {du dv : Nat} {v : Value} {n : Nat} {f : Nat → Int} {c : Int} {wz wy : World} (h : An du dv v n f wz) (hU : Un du c wz wy) : An du dv v n f wy := ⟨h.a.un h.u hU, h.u, h.v⟩
theorem An.unv {du dv : Nat} {v : Value} {n : Nat} {f : Nat → Int} {c : Int} {wz wy : World} (h : An du dv v n f wz) (hU : Un dv c wz wy) : An du dv v n f wy := ⟨h.a.un h.v hU, h.u, h.v⟩
theorem An.new {w : World} {du dv : Nat} {cu cv : Int} {wz wy : World} {v : Value} {n : Nat} {f : Nat → Int} (L : L2 w du dv cu cv wz) (hA : Ar wy v n f) (hO : Ow wz.heap.size v) : An du dv v n f wy :=
  ⟨hA, hO.nb (World.block_lt_of_cell? _ _ L.u.1), hO.nb (World.block_lt_of_cell? _ _ L.v.1)⟩
theorem An.arg {w wz : World} {du dv : Nat} {v : Value} {n : Nat} {f : Nat → Int} (hA : Ar w v n f) (hB : Below w.heap.size w wz) (h0 : w.heap.size ≤ du) (h1 : w.heap.size ≤ dv) : An du dv v n f wz := ⟨hA.later hB, hA.nb h0, hA.nb h1⟩
theorem few_tn' (n m : Nat) (hn : n ≤ 200) (hm : m ≤ 200) : dE n m = (if n = m then 0 else 40) := by unfold dE; rw [if_neg (by omega)]
theorem sE_few (n : Nat) (hn : n ≤ 200) : sE n = 0 := by unfold sE; rw [if_neg (by omega)]
end Go.Proofs.YtldnnjcfihjkdaaDoor
