/-
  Texts of this proof, joined: BH BI VFrame VDoor LFrame EMathA LMath PWalkD LWalkA LWalkC.
-/
import Derived.Test.YtdfjnbkkdgolnabGreatDoorProg
import Derived.Test.YtdfjnbkkdgolnabGreatDoorSX00
import Derived.Test.YtdfjnbkkdgolnabGreatDoorSX01
import Derived.Test.YtdfjnbkkdgolnabGreatDoorSX02
import Derived.Test.YtdfjnbkkdgolnabGreatDoorTie
import Derived.WalkLawsBesides
import Derived.Laws.MathBits
import Derived.Deep.CutBlock
import Derived.Deep.DeepCutAuto
import Derived.OwnWalk
import Derived.Deep.RegionHeld3
import Derived.Deep.SlicePairs
import Derived.Carry
import Derived.Lib.LaidTab
import Derived.LaidMore
import Derived.Stop.Joined
import Derived.ChangeSame
import Derived.Laws.MakeOwn
import Derived.Deep.QuietTactic
import Derived.BigQuiet
set_option linter.unusedVariables false
set_option linter.unusedSimpArgs false
namespace Go.Proofs.YtdfjnbkkdgolnabGreatDoor
open Go.RowKit
theorem clv_fit (v : Int) : -9223372036854775808 ≤ clv v ∧ clv v ≤ 9223372036854775807 := by
  unfold clv
  split
  · omega
  · split <;> omega
set_option maxHeartbeats 1000000 in
theorem steps_any (a : Int) (a0 : -9223372036854775808 ≤ a) (a1 : a ≤ 9223372036854775807) (w : World) :
    Calls Tryz.prog 140 #[.int .i64 a] w fun e w' => e = .returned (.agg #[.int .i64 (hi a), .int .u64 (lo a)]) ∧ Below w.heap.size w w' := by
  go_enter Tryz.func140, Tryz.ntmps140
  go_wp2_with fail
  refine (of_any a a0 a1 _).mono ?_
  rintro e w1 ⟨rfl, hb⟩
  obtain ⟨hc, hf⟩ := bcell hb
  have hz := hb.size
  simp at hc hf hz
  go_wp2_with fail
  exact bodyPost_ret (v := .agg #[.int .i64 (hi a), .int .u64 (lo a)]) (by simp [results, Tryz.results140, go_sem, hc]) rfl ⟨rfl, ((((bel1 w _).trans (hb.mono (by simp))).setCell (by simp) _).setCell (by simp) _)⟩
set_option maxHeartbeats 1000000 in
theorem hold_any (v : Int) (h0 : -170141183460469231731687303715884105728 ≤ v) (h1 : v ≤ 170141183460469231731687303715884105727) (w : World) :
    Calls Tryz.prog 107 #[.agg #[.int .i64 (hi v), .int .u64 (lo v)]] w fun e w' => e = .returned (.tuple #[.int .i64 (clv v), .bool (ovv v)]) ∧ Below w.heap.size w w' := by
  obtain ⟨c0, c1⟩ := clv_fit v
  go_enter Tryz.func107, Tryz.ntmps107
  go_wp2_with fail
  refine (clamp_any v h0 h1 _).mono ?_
  rintro e w1 ⟨rfl, hb⟩
  have W1 := bchain (bel1 w _) hb
  clear hb
  go_wp2
  go_ret2
  exact ⟨rfl, W1⟩
set_option maxHeartbeats 1000000 in
theorem fsub_any (a b : Int) (a0 : -9223372036854775808 ≤ a) (a1 : a ≤ 9223372036854775807) (b0 : -9223372036854775808 ≤ b) (b1 : b ≤ 9223372036854775807) (w : World) :
    Calls Tryz.prog 139 #[.int .i64 a, .int .i64 b] w fun e w' => e = .returned (.tuple #[.int .i64 (clv (a - b)), .bool (ovv (a - b))]) ∧ Below w.heap.size w w' := by
  go_enter Tryz.func139, Tryz.ntmps139
  go_wp2_with fail
  refine (steps_any a a0 a1 _).mono ?_
  rintro e w1 ⟨rfl, W1⟩
  go_wp2_with fail
  refine (steps_any b b0 b1 _).mono ?_
  rintro e w2 ⟨rfl, hb⟩
  have W2 := bchain W1 hb
  clear hb W1
  go_wp2_with fail
  refine (sub_any a b _).mono ?_
  rintro e w3 ⟨rfl, hb⟩
  have W3 := bchain W2 hb
  clear hb W2
  go_wp2_with fail
  refine (hold_any (a - b) (by omega) (by omega) _).mono ?_
  rintro e w4 ⟨rfl, hb⟩
  have W4 := bchain W3 hb
  clear hb W3
  go_wp2
  go_ret2
  exact ⟨rfl, W4⟩
set_option maxHeartbeats 1000000 in
theorem fneg_any (a : Int) (a0 : -9223372036854775808 ≤ a) (a1 : a ≤ 9223372036854775807) (w : World) :
    Calls Tryz.prog 145 #[.int .i64 a] w fun e w' => e = .returned (.tuple #[.int .i64 (clv (-a)), .bool (ovv (-a))]) ∧ Below w.heap.size w w' := by
  go_enter Tryz.func145, Tryz.ntmps145
  go_wp2_with fail
  have h := fsub_any 0 a (by omega) (by omega) a0 a1 w
  rw [Int.zero_sub] at h
  refine h.mono ?_
  clear h
  rintro e w1 ⟨rfl, W1⟩
  go_wp2
  go_ret2
  exact ⟨rfl, W1⟩
theorem mul_in (a b : Int) (a0 : -9223372036854775808 ≤ a) (a1 : a ≤ 9223372036854775807) (b0 : -9223372036854775808 ≤ b) (b1 : b ≤ 9223372036854775807) : -85070591730234615865843651857942052864 ≤ a * b ∧ a * b ≤ 85070591730234615865843651857942052864 := by
  by_cases ha : a < 0
  · have h1 := Int.mul_le_mul_of_nonneg_left b0 (show 0 ≤ -a by omega)
    have h2 := Int.mul_le_mul_of_nonneg_left b1 (show 0 ≤ -a by omega)
    rw [Int.neg_mul a b] at h1 h2
    omega
  · have h1 := Int.mul_le_mul_of_nonneg_left b0 (show 0 ≤ a by omega)
    have h2 := Int.mul_le_mul_of_nonneg_left b1 (show 0 ≤ a by omega)
    omega
theorem rnd_in (v : Int) (k : Nat) (B : Int) (B0 : 1 ≤ B) (v0 : -B ≤ v) (v1 : v ≤ B) : -B - 1 ≤ rnd v k ∧ rnd v k ≤ B + 1 := by
  have hp := pow_pos' k
  have h1 : -B ≤ v / 2 ^ k := by
    rw [Int.le_ediv_iff_mul_le (by omega)]
    have := Int.mul_le_mul_of_nonneg_left (show (1 : Int) ≤ 2 ^ k by omega) (show 0 ≤ B by omega)
    rw [Int.neg_mul]; omega
  have h2 : v / 2 ^ k ≤ B := by
    by_cases h : 0 ≤ v
    · have := Int.ediv_le_self (2 ^ k) h; omega
    · have := Int.ediv_neg_of_neg_of_pos (show v < 0 by omega) (show (0 : Int) < 2 ^ k by omega); omega
  unfold rnd
  split <;> omega
set_option maxHeartbeats 1000000 in
theorem fmul_any (a b : Int) (a0 : -9223372036854775808 ≤ a) (a1 : a ≤ 9223372036854775807) (b0 : -9223372036854775808 ≤ b) (b1 : b ≤ 9223372036854775807) (w : World) :
    Calls Tryz.prog 99 #[.int .i64 a, .int .i64 b] w fun e w' => e = .returned (.tuple #[.int .i64 (clv (rnd (a * b) 32)), .bool (ovv (rnd (a * b) 32))]) ∧ Below w.heap.size w w' := by
  obtain ⟨m0, m1⟩ := mul_in a b a0 a1 b0 b1
  obtain ⟨r0, r1⟩ := rnd_in (a * b) 32 85070591730234615865843651857942052864 (by omega) m0 m1
  have MU : Hid (∀ W : World, Calls Tryz.prog 66 #[.int .i64 a, .int .i64 b] W fun e w' => e = .returned (.agg #[.int .i64 (hi (a * b)), .int .u64 (lo (a * b))]) ∧ Below W.heap.size W w') := fun W => mul_any a b a0 a1 b0 b1 W
  generalize a * b = p at *
  go_enter Tryz.func99, Tryz.ntmps99
  go_wp2_with fail
  refine (MU.out _).mono ?_
  rintro e w1 ⟨rfl, W1⟩
  clear MU
  go_wp2_with fail
  refine (round_mid p 32 (by omega) (by omega) (by omega) (by omega) _).mono ?_
  rintro e w2 ⟨rfl, hb⟩
  have W2 := bchain W1 hb
  clear hb W1
  go_wp2_with fail
  refine (hold_any (rnd p 32) (by omega) (by omega) _).mono ?_
  rintro e w3 ⟨rfl, hb⟩
  have W3 := bchain W2 hb
  clear hb W2
  go_wp2
  go_ret2
  exact ⟨rfl, W3⟩
end Go.Proofs.YtdfjnbkkdgolnabGreatDoor
set_option linter.unusedVariables false
set_option linter.unusedSimpArgs false
namespace Go.Proofs.YtdfjnbkkdgolnabGreatDoor
open Go.RowKit
/-- The digits without the sign, with it, and the power. -/
def fD (b : Int) : Int := if 0 < fE b then fF b + 4503599627370496 else fF b
def fS (b : Int) : Int := if b / 9223372036854775808 = 1 then -(fD b) else fD b
end Go.Proofs.YtdfjnbkkdgolnabGreatDoor
set_option linter.unusedVariables false
set_option linter.unusedSimpArgs false
namespace Go.Proofs.YtdfjnbkkdgolnabGreatDoor
open Go.RowKit

/-- From a world to one in which a unit's count is n, and whatever lay elsewhere is as it was. -/
structure Un (d : Nat) (n : Int) (w w' : World) : Prop where
  c : w'.cell? ⟨d, 0, none⟩ = some (.int .i64 n)
  f : w'.frozen? ⟨d, 0, none⟩ = false
  b : ∀ (base : Nat) (w0 : World), base ≤ d → base ≤ w.heap.size → Below base w0 w → Below base w0 w'
  o : ∀ (a : Addr) (v : Value), a.block ≠ d → w.cell? a = some v → w'.cell? a = some v
  s : w.heap.size ≤ w'.heap.size
  k : ∀ i : Nat, i < w.heap.size → i ≠ d → w'.heap[i]? = w.heap[i]?
theorem Un.same {d : Nat} {n : Int} {w : World} (c : w.cell? ⟨d, 0, none⟩ = some (.int .i64 n)) (f : w.frozen? ⟨d, 0, none⟩ = false) : Un d n w w :=
  ⟨c, f, fun _ _ _ _ h => h, fun _ _ _ h => h, Nat.le_refl _, fun _ _ _ => rfl⟩
theorem Un.set {d : Nat} {n m : Int} {w : World} (c : w.cell? ⟨d, 0, none⟩ = some (.int .i64 n)) (f : w.frozen? ⟨d, 0, none⟩ = false) : Un d m w (w.setCell ⟨d, 0, none⟩ (.int .i64 m)) where
  c := by simp [go_sem, c, f]
  f := by rw [World.frozen?_setCell]; exact f
  b := fun base w0 hd _ h => h.setCell (by dsimp only; omega) _
  o := fun a v ha h => cell_set (fun he => ha he.symm) h
  s := by simp
  k := fun i _ hn => Below.heap_setCell _ _ _ _ hn
/-- Behind whatever changes nothing that was there. -/
theorem Un.after {d : Nat} {n : Int} {w w1 w2 : World} (hb : Below w.heap.size w w1) (h : Un d n w1 w2) : Un d n w w2 where
  c := h.c
  f := h.f
  b := fun base w0 hd hs h0 => h.b base w0 hd (Nat.le_trans hs hb.size) (h0.trans (hb.mono hs))
  o := fun a v ha hc => h.o a v ha (cell_later hb hc)
  s := Nat.le_trans hb.size h.s
  k := fun i hi hn => (h.k i (Nat.lt_of_lt_of_le hi hb.size) hn).trans (hb.block i hi)
/-- Ahead of it. -/
theorem Un.ahead {d : Nat} {n : Int} {w w1 w2 : World} (h : Un d n w w1) (hb : Below w1.heap.size w1 w2) : Un d n w w2 where
  c := cell_later hb h.c
  f := frozen_later hb h.c h.f
  b := fun base w0 hd hs h0 => (h.b base w0 hd hs h0).trans (hb.mono (Nat.le_trans hs h.s))
  o := fun a v ha hc => cell_later hb (h.o a v ha hc)
  s := Nat.le_trans h.s hb.size
  k := fun i hi hn => (hb.block i (Nat.lt_of_lt_of_le hi h.s)).trans (h.k i hi hn)

/-- A result that was held counts for one. -/
def bi (o : Bool) : Int := if o = true then 1 else 0

set_option maxHeartbeats 1000000 in
theorem take_nil (a : Int) (o : Bool) (w : World) :
    Calls Tryz.prog 64 #[.pointer none, .int .i64 a, .bool o] w fun e w' => e = .returned (.int .i64 a) ∧ w' = w := by
  cases o
  · go_enter Tryz.func64, Tryz.ntmps64
    go_wp2
    go_ret
    exact ⟨rfl, rfl⟩
  · go_enter Tryz.func64, Tryz.ntmps64
    go_wp2
    go_ret
    exact ⟨rfl, rfl⟩
set_option maxHeartbeats 1000000 in
theorem more_any (d : Nat) (n : Int) (n0 : 0 ≤ n) (n1 : n ≤ 1000000000) (w : World) (c : w.cell? ⟨d, 0, none⟩ = some (.int .i64 n)) (f : w.frozen? ⟨d, 0, none⟩ = false) :
    Calls Tryz.prog 85 #[.pointer (some ⟨d, 0, none⟩)] w fun e w' => e = .returned (.tuple #[]) ∧ w' = w.setCell ⟨d, 0, none⟩ (.int .i64 (n + 1)) := by
  go_enter Tryz.func85, Tryz.ntmps85
  go_wp2
  go_end0
  exact ⟨rfl, rfl⟩
set_option maxHeartbeats 1000000 in
theorem take_un (d : Nat) (n a : Int) (o : Bool) (n0 : 0 ≤ n) (n1 : n ≤ 1000000000) (w : World) (c : w.cell? ⟨d, 0, none⟩ = some (.int .i64 n)) (f : w.frozen? ⟨d, 0, none⟩ = false) :
    Calls Tryz.prog 64 #[.pointer (some ⟨d, 0, none⟩), .int .i64 a, .bool o] w fun e w' => e = .returned (.int .i64 a) ∧ Un d (n + bi o) w w' := by
  have U0 : Hid (Un d n w w) := Un.same c f
  have U1 : Hid (Un d (n + 1) w (w.setCell ⟨d, 0, none⟩ (.int .i64 (n + 1)))) := Un.set c f
  cases o
  · have e0 : n + bi false = n := by unfold bi; simp
    rw [e0]
    go_enter Tryz.func64, Tryz.ntmps64
    go_wp2
    go_ret
    exact ⟨rfl, U0.out⟩
  · have e0 : n + bi true = n + 1 := by unfold bi; simp
    rw [e0]
    go_enter Tryz.func64, Tryz.ntmps64
    go_wp2_with fail
    refine (more_any d n n0 n1 _ c f).mono ?_
    rintro e w1 ⟨rfl, hw⟩
    subst hw
    go_wp2
    go_ret
    exact ⟨rfl, U1.out⟩
end Go.Proofs.YtdfjnbkkdgolnabGreatDoor
set_option linter.unusedVariables false
set_option linter.unusedSimpArgs false
namespace Go.Proofs.YtdfjnbkkdgolnabGreatDoor
open Go.RowKit

set_option maxHeartbeats 1000000 in
theorem tkSub_nil (a b : Int) (a0 : -9223372036854775808 ≤ a) (a1 : a ≤ 9223372036854775807) (b0 : -9223372036854775808 ≤ b) (b1 : b ≤ 9223372036854775807) (w : World) :
    Calls Tryz.prog 98 #[.func (.func 64) #[.pointer none] #[], .func (.func 139) #[] #[], .int .i64 a, .int .i64 b] w fun e w' => e = .returned (.int .i64 (clv (a - b))) ∧ Below w.heap.size w w' := by
  have P : Hid (∀ W : World, Calls Tryz.prog 139 #[.int .i64 a, .int .i64 b] W fun e w' => e = .returned (.tuple #[.int .i64 (clv (a - b)), .bool (ovv (a - b))]) ∧ Below W.heap.size W w') := fun W => fsub_any a b a0 a1 b0 b1 W
  go_enter Tryz.func98, Tryz.ntmps98
  go_wp2_with fail
  refine (P.out _).mono ?_
  rintro e w1 ⟨rfl, W1⟩
  clear P
  go_wp2_with fail
  refine (take_nil _ _ _).mono ?_
  rintro e wz ⟨rfl, hz⟩
  subst hz
  go_wp2
  go_ret
  exact ⟨rfl, W1⟩
set_option maxHeartbeats 1000000 in
theorem tkSub_un (a b : Int) (a0 : -9223372036854775808 ≤ a) (a1 : a ≤ 9223372036854775807) (b0 : -9223372036854775808 ≤ b) (b1 : b ≤ 9223372036854775807) (d : Nat) (n : Int) (n0 : 0 ≤ n) (n1 : n ≤ 1000000000) (w : World) (c : w.cell? ⟨d, 0, none⟩ = some (.int .i64 n)) (f : w.frozen? ⟨d, 0, none⟩ = false) :
    Calls Tryz.prog 98 #[.func (.func 64) #[.pointer (some ⟨d, 0, none⟩)] #[], .func (.func 139) #[] #[], .int .i64 a, .int .i64 b] w fun e w' => e = .returned (.int .i64 (clv (a - b))) ∧ Un d (n + bi (ovv (a - b))) w w' := by
  have P : Hid (∀ W : World, Calls Tryz.prog 139 #[.int .i64 a, .int .i64 b] W fun e w' => e = .returned (.tuple #[.int .i64 (clv (a - b)), .bool (ovv (a - b))]) ∧ Below W.heap.size W w') := fun W => fsub_any a b a0 a1 b0 b1 W
  go_enter Tryz.func98, Tryz.ntmps98
  go_wp2_with fail
  refine (P.out _).mono ?_
  rintro e w1 ⟨rfl, W1⟩
  clear P
  have c1 := cell_later W1 c
  have f1 := frozen_later W1 c f
  go_wp2_with fail
  refine (take_un d n _ _ n0 n1 _ c1 f1).mono ?_
  rintro e w2 ⟨rfl, hU⟩
  have hV := Un.after W1 hU
  clear hU W1 c1 f1 c f
  go_wp2
  go_ret
  exact ⟨rfl, hV⟩
set_option maxHeartbeats 1000000 in
theorem uSub_nil (a b : Int) (a0 : -9223372036854775808 ≤ a) (a1 : a ≤ 9223372036854775807) (b0 : -9223372036854775808 ≤ b) (b1 : b ≤ 9223372036854775807) (w : World) :
    Calls Tryz.prog 137 #[.pointer none, .int .i64 a, .int .i64 b] w fun e w' => e = .returned (.int .i64 (clv (a - b))) ∧ Below w.heap.size w w' := by
  have hmf : ∀ (fn : Fn) (first cap : Array Value) (w : World), (Instr.makeFunc fn first cap).run Tryz.prog w = .ok (.func fn first cap) w := fun _ _ _ _ => rfl
  go_enter Tryz.func137, Tryz.ntmps137
  go_wp2_with fail
  refine (tkSub_nil a b a0 a1 b0 b1 _).mono ?_
  rintro e w1 ⟨rfl, W1⟩
  go_wp2
  go_ret
  exact ⟨rfl, W1⟩
set_option maxHeartbeats 1000000 in
theorem uSub_un (a b : Int) (a0 : -9223372036854775808 ≤ a) (a1 : a ≤ 9223372036854775807) (b0 : -9223372036854775808 ≤ b) (b1 : b ≤ 9223372036854775807) (d : Nat) (n : Int) (n0 : 0 ≤ n) (n1 : n ≤ 1000000000) (w : World) (c : w.cell? ⟨d, 0, none⟩ = some (.int .i64 n)) (f : w.frozen? ⟨d, 0, none⟩ = false) :
    Calls Tryz.prog 137 #[.pointer (some ⟨d, 0, none⟩), .int .i64 a, .int .i64 b] w fun e w' => e = .returned (.int .i64 (clv (a - b))) ∧ Un d (n + bi (ovv (a - b))) w w' := by
  have hmf : ∀ (fn : Fn) (first cap : Array Value) (w : World), (Instr.makeFunc fn first cap).run Tryz.prog w = .ok (.func fn first cap) w := fun _ _ _ _ => rfl
  go_enter Tryz.func137, Tryz.ntmps137
  go_wp2_with fail
  refine (tkSub_un a b a0 a1 b0 b1 d n n0 n1 _ c f).mono ?_
  rintro e w1 ⟨rfl, W1⟩
  clear c f
  go_wp2
  go_ret
  exact ⟨rfl, W1⟩
set_option maxHeartbeats 1000000 in
theorem tkMul_nil (a b : Int) (a0 : -9223372036854775808 ≤ a) (a1 : a ≤ 9223372036854775807) (b0 : -9223372036854775808 ≤ b) (b1 : b ≤ 9223372036854775807) (w : World) :
    Calls Tryz.prog 98 #[.func (.func 64) #[.pointer none] #[], .func (.func 99) #[] #[], .int .i64 a, .int .i64 b] w fun e w' => e = .returned (.int .i64 (clv (rnd (a * b) 32))) ∧ Below w.heap.size w w' := by
  have P : Hid (∀ W : World, Calls Tryz.prog 99 #[.int .i64 a, .int .i64 b] W fun e w' => e = .returned (.tuple #[.int .i64 (clv (rnd (a * b) 32)), .bool (ovv (rnd (a * b) 32))]) ∧ Below W.heap.size W w') := fun W => fmul_any a b a0 a1 b0 b1 W
  go_enter Tryz.func98, Tryz.ntmps98
  go_wp2_with fail
  refine (P.out _).mono ?_
  rintro e w1 ⟨rfl, W1⟩
  clear P
  go_wp2_with fail
  refine (take_nil _ _ _).mono ?_
  rintro e wz ⟨rfl, hz⟩
  subst hz
  go_wp2
  go_ret
  exact ⟨rfl, W1⟩
set_option maxHeartbeats 1000000 in
theorem tkMul_un (a b : Int) (a0 : -9223372036854775808 ≤ a) (a1 : a ≤ 9223372036854775807) (b0 : -9223372036854775808 ≤ b) (b1 : b ≤ 9223372036854775807) (d : Nat) (n : Int) (n0 : 0 ≤ n) (n1 : n ≤ 1000000000) (w : World) (c : w.cell? ⟨d, 0, none⟩ = some (.int .i64 n)) (f : w.frozen? ⟨d, 0, none⟩ = false) :
    Calls Tryz.prog 98 #[.func (.func 64) #[.pointer (some ⟨d, 0, none⟩)] #[], .func (.func 99) #[] #[], .int .i64 a, .int .i64 b] w fun e w' => e = .returned (.int .i64 (clv (rnd (a * b) 32))) ∧ Un d (n + bi (ovv (rnd (a * b) 32))) w w' := by
  have P : Hid (∀ W : World, Calls Tryz.prog 99 #[.int .i64 a, .int .i64 b] W fun e w' => e = .returned (.tuple #[.int .i64 (clv (rnd (a * b) 32)), .bool (ovv (rnd (a * b) 32))]) ∧ Below W.heap.size W w') := fun W => fmul_any a b a0 a1 b0 b1 W
  go_enter Tryz.func98, Tryz.ntmps98
  go_wp2_with fail
  refine (P.out _).mono ?_
  rintro e w1 ⟨rfl, W1⟩
  clear P
  have c1 := cell_later W1 c
  have f1 := frozen_later W1 c f
  go_wp2_with fail
  refine (take_un d n _ _ n0 n1 _ c1 f1).mono ?_
  rintro e w2 ⟨rfl, hU⟩
  have hV := Un.after W1 hU
  clear hU W1 c1 f1 c f
  go_wp2
  go_ret
  exact ⟨rfl, hV⟩
set_option maxHeartbeats 1000000 in
theorem uMul_nil (a b : Int) (a0 : -9223372036854775808 ≤ a) (a1 : a ≤ 9223372036854775807) (b0 : -9223372036854775808 ≤ b) (b1 : b ≤ 9223372036854775807) (w : World) :
    Calls Tryz.prog 90 #[.pointer none, .int .i64 a, .int .i64 b] w fun e w' => e = .returned (.int .i64 (clv (rnd (a * b) 32))) ∧ Below w.heap.size w w' := by
  have hmf : ∀ (fn : Fn) (first cap : Array Value) (w : World), (Instr.makeFunc fn first cap).run Tryz.prog w = .ok (.func fn first cap) w := fun _ _ _ _ => rfl
  go_enter Tryz.func90, Tryz.ntmps90
  go_wp2_with fail
  refine (tkMul_nil a b a0 a1 b0 b1 _).mono ?_
  rintro e w1 ⟨rfl, W1⟩
  go_wp2
  go_ret
  exact ⟨rfl, W1⟩
set_option maxHeartbeats 1000000 in
theorem uMul_un (a b : Int) (a0 : -9223372036854775808 ≤ a) (a1 : a ≤ 9223372036854775807) (b0 : -9223372036854775808 ≤ b) (b1 : b ≤ 9223372036854775807) (d : Nat) (n : Int) (n0 : 0 ≤ n) (n1 : n ≤ 1000000000) (w : World) (c : w.cell? ⟨d, 0, none⟩ = some (.int .i64 n)) (f : w.frozen? ⟨d, 0, none⟩ = false) :
    Calls Tryz.prog 90 #[.pointer (some ⟨d, 0, none⟩), .int .i64 a, .int .i64 b] w fun e w' => e = .returned (.int .i64 (clv (rnd (a * b) 32))) ∧ Un d (n + bi (ovv (rnd (a * b) 32))) w w' := by
  have hmf : ∀ (fn : Fn) (first cap : Array Value) (w : World), (Instr.makeFunc fn first cap).run Tryz.prog w = .ok (.func fn first cap) w := fun _ _ _ _ => rfl
  go_enter Tryz.func90, Tryz.ntmps90
  go_wp2_with fail
  refine (tkMul_un a b a0 a1 b0 b1 d n n0 n1 _ c f).mono ?_
  rintro e w1 ⟨rfl, W1⟩
  clear c f
  go_wp2
  go_ret
  exact ⟨rfl, W1⟩
set_option maxHeartbeats 1000000 in
theorem uNear_nil (v : Int) (h0 : -3138550867693340381917894711603833208051177722232017256448 ≤ v) (h1 : v ≤ 3138550867693340381917894711603833208051177722232017256447) (w : World) (hT : TabAt w) :
    Calls Tryz.prog 47 #[.pointer none, .agg #[.int .i64 (t3 v), .int .u64 (m3 v), .int .u64 (lo v)], .int .i64 32] w fun e w' => e = .returned (.int .i64 (clv (rnd v 32))) ∧ Below w.heap.size w w' := by
  have P : Hid (∀ W : World, TabAt W → Calls Tryz.prog 63 #[.agg #[.int .i64 (t3 v), .int .u64 (m3 v), .int .u64 (lo v)], .int .i64 32] W fun e w' => e = .returned (.tuple #[.int .i64 (clv (rnd v 32)), .bool (ovv (rnd v 32))]) ∧ Below W.heap.size W w') := by
    intro W hT
    have h := near_mid v 32 32 rfl (by omega) (by omega) (by omega) W hT
    rw [rl_pos v 32 (by omega)] at h
    exact h
  obtain ⟨k0, k1⟩ := clv_fit (rnd v 32)
  have HT : Hid (TabAt (w.alloc (.cells #[.int .i64 (t3 v), .int .u64 (m3 v), .int .u64 (lo v)] 95))) := hT.later (bel1 w _)
  clear hT
  go_enter Tryz.func47, Tryz.ntmps47
  go_wp2_with fail
  refine (P.out _ HT.out).mono ?_
  rintro e w1 ⟨rfl, hb⟩
  have W1 := bchain (bel1 w _) hb
  clear P HT hb
  go_wp2_with fail
  refine (take_nil _ _ _).mono ?_
  rintro e wz ⟨rfl, hz⟩
  subst hz
  go_wp2
  go_ret
  exact ⟨rfl, W1⟩
set_option maxHeartbeats 1000000 in
theorem uNear_un (v : Int) (h0 : -3138550867693340381917894711603833208051177722232017256448 ≤ v) (h1 : v ≤ 3138550867693340381917894711603833208051177722232017256447) (d : Nat) (n : Int) (n0 : 0 ≤ n) (n1 : n ≤ 1000000000) (w : World) (hT : TabAt w) (c : w.cell? ⟨d, 0, none⟩ = some (.int .i64 n)) (f : w.frozen? ⟨d, 0, none⟩ = false) :
    Calls Tryz.prog 47 #[.pointer (some ⟨d, 0, none⟩), .agg #[.int .i64 (t3 v), .int .u64 (m3 v), .int .u64 (lo v)], .int .i64 32] w fun e w' => e = .returned (.int .i64 (clv (rnd v 32))) ∧ Un d (n + bi (ovv (rnd v 32))) w w' := by
  have P : Hid (∀ W : World, TabAt W → Calls Tryz.prog 63 #[.agg #[.int .i64 (t3 v), .int .u64 (m3 v), .int .u64 (lo v)], .int .i64 32] W fun e w' => e = .returned (.tuple #[.int .i64 (clv (rnd v 32)), .bool (ovv (rnd v 32))]) ∧ Below W.heap.size W w') := by
    intro W hT
    have h := near_mid v 32 32 rfl (by omega) (by omega) (by omega) W hT
    rw [rl_pos v 32 (by omega)] at h
    exact h
  obtain ⟨k0, k1⟩ := clv_fit (rnd v 32)
  have HT : Hid (TabAt (w.alloc (.cells #[.int .i64 (t3 v), .int .u64 (m3 v), .int .u64 (lo v)] 95))) := hT.later (bel1 w _)
  clear hT
  go_enter Tryz.func47, Tryz.ntmps47
  go_wp2_with fail
  refine (P.out _ HT.out).mono ?_
  rintro e w1 ⟨rfl, hb⟩
  have W1 := bchain (bel1 w _) hb
  clear P HT hb
  have c1 := cell_later W1 c
  have f1 := frozen_later W1 c f
  go_wp2_with fail
  refine (take_un d n _ _ n0 n1 _ c1 f1).mono ?_
  rintro e w2 ⟨rfl, hU⟩
  have hV := Un.after W1 hU
  clear hU W1 c1 f1 c f
  go_wp2
  go_ret
  exact ⟨rfl, hV⟩
end Go.Proofs.YtdfjnbkkdgolnabGreatDoor
set_option linter.unusedVariables false
set_option linter.unusedSimpArgs false
namespace Go.Proofs.YtdfjnbkkdgolnabGreatDoor
open Go.RowKit

/-- A list of whole numbers in memory. -/
def Ar (w : World) (v : Value) (n : Nat) (f : Nat → Int) : Prop :=
  ∃ (adr : Option Addr) (cap b o : Nat), v = .slice adr n cap ∧ n ≤ cap ∧ cap ≤ maxLen ∧ (0 < n → adr = some ⟨b, o, none⟩) ∧ ∀ k, k < n → w.cell? ⟨b, o + k, none⟩ = some (.int .i64 (f k)) ∧ -9223372036854775808 ≤ f k ∧ f k ≤ 9223372036854775807
theorem Ar.later {w w' : World} {v : Value} {n : Nat} {f : Nat → Int} (h : Ar w v n f) (hb : Below w.heap.size w w') : Ar w' v n f := by
  obtain ⟨adr, cap, b, o, h1, h2, h3, h4, h5⟩ := h
  exact ⟨adr, cap, b, o, h1, h2, h3, h4, fun k hk => ⟨cell_later hb (h5 k hk).1, (h5 k hk).2⟩⟩
/-- Whatever it holds lies apart from a block. -/
def Nb (v : Value) (d : Nat) : Prop := ∀ (a : Addr) (n cap : Nat), v = .slice (some a) n cap → 0 < n → a.block ≠ d
theorem Ar.un {w w' : World} {v : Value} {n : Nat} {f : Nat → Int} {d : Nat} {c : Int} (h : Ar w v n f) (hd : Nb v d) (hU : Un d c w w') : Ar w' v n f := by
  obtain ⟨adr, cap, b, o, h1, h2, h3, h4, h5⟩ := h
  refine ⟨adr, cap, b, o, h1, h2, h3, h4, fun k hk => ⟨hU.o _ _ ?_ (h5 k hk).1, (h5 k hk).2⟩⟩
  have e := h4 (by omega)
  subst e
  exact hd ⟨b, o, none⟩ n cap h1 (by omega)
/-- A sum of products. -/
def dotV (f g : Nat → Int) : Nat → Int
  | 0 => 0
  | n + 1 => dotV f g n + f n * g n
/-- A sum of parts. -/
def sumV (f : Nat → Int) : Nat → Int
  | 0 => 0
  | n + 1 => sumV f n + f n
/-- A root, held. -/
def rtX (V : Int) : Int := if V < 0 then 0 else if 85070591730234615865843651857942052864 ≤ V then 9223372036854775807 else rt V
end Go.Proofs.YtdfjnbkkdgolnabGreatDoor
set_option linter.unusedVariables false
set_option linter.unusedSimpArgs false
namespace Go.Proofs.YtdfjnbkkdgolnabGreatDoor
open Go.RowKit

/-- So many cells. -/
def il (f : Nat → Int) (n : Nat) : List Value := (List.range n).map (fun k => Value.int .i64 (f k))
theorem il_get (f : Nat → Int) (n k : Nat) (h : k < n) : (il f n)[k]? = some (.int .i64 (f k)) := by unfold il; rw [List.getElem?_map, List.getElem?_range h]; rfl
theorem il_len (f : Nat → Int) (n : Nat) : (il f n).length = n := by unfold il; simp
/-- A list that the call has made, from a block on. -/
def Ow (base : Nat) (v : Value) : Prop := ∀ (a : Addr) (n cap : Nat), v = .slice (some a) n cap → 0 < n → base ≤ a.block
theorem ar_of_own {w : World} {base : Nat} {v : Value} {n : Nat} {f : Nat → Int} {e : TypeId} (h : w.ownsRow base e 1 v n (il f n)) (hr : ∀ k, k < n → -9223372036854775808 ≤ f k ∧ f k ≤ 9223372036854775807) : Ar w v n f ∧ Ow base v := by
  rcases h.2 with ⟨hn, h0⟩ | ⟨g, cap, cur, hv, hbs, hg, h1, h2, h3⟩
  · subst hn h0
    exact ⟨⟨none, 0, 0, 0, rfl, by omega, by unfold maxLen; omega, fun h => by omega, fun k hk => by omega⟩, fun a n cap e => by cases e⟩
  · subst hv
    refine ⟨⟨some ⟨g, 0, none⟩, cap, g, 0, rfl, h1, h2, fun _ => rfl, fun k hk => ⟨?_, hr k hk⟩⟩, fun a n' cap' e _ => ?_⟩
    · rw [Nat.zero_add, h.cellAt k (by omega), il_get f n k hk]
    · cases e; exact hbs
theorem Ow.nb {base d : Nat} {v : Value} (h : Ow base v) (hd : d < base) : Nb v d := fun a n cap e hn => by have := h a n cap e hn; omega
theorem Ow.mono {base base' : Nat} {v : Value} (h : Ow base v) (hb : base' ≤ base) : Ow base' v := fun a n cap e hn => Nat.le_trans hb (h a n cap e hn)
theorem below_drewN {B : Nat} {w w' : World} (h : Below B w w') (k : Nat) : Below B w (w'.drewN k) := ⟨h.os, h.tape, h.output, h.size, h.block⟩
end Go.Proofs.YtdfjnbkkdgolnabGreatDoor
set_option linter.unusedVariables false
set_option linter.unusedSimpArgs false
namespace Go.Proofs.YtdfjnbkkdgolnabGreatDoor
open Go.RowKit

/-- How many were held. -/
def cntV (O : Nat → Bool) : Nat → Int
  | 0 => 0
  | n + 1 => cntV O n + bi (O n)
theorem bi_rng (o : Bool) : 0 ≤ bi o ∧ bi o ≤ 1 := by unfold bi; split <;> omega
theorem cnt_rng (O : Nat → Bool) (n : Nat) : 0 ≤ cntV O n ∧ cntV O n ≤ n := by
  induction n with
  | zero => exact ⟨Int.le_refl _, Int.le_refl _⟩
  | succ n ih =>
    have := bi_rng (O n)
    have e : cntV O (n + 1) = cntV O n + bi (O n) := rfl
    rw [e]
    omega
theorem own_later {wr w1 : World} {B : Nat} {e : TypeId} {s : Nat} {v : Value} {n : Nat} {xs : List Value} (h : wr.ownsRow B e s v n xs) (hb : Below wr.heap.size wr w1) : w1.ownsRow B e s v n xs := by
  refine ⟨h.1, ?_⟩
  rcases h.2 with h0 | ⟨g, cap, cur, hv, hg, hh, r⟩
  · exact Or.inl h0
  · exact Or.inr ⟨g, cap, cur, hv, hg, (hb.block g (Array.getElem?_eq_some_iff.1 hh).1).trans hh, r⟩
theorem Un.grow {d : Nat} {c : Int} {w wr w1 : World} {o : Obj} {r : Option Nat} (hU : Un d c w wr) (hd : d < w.heap.size) (hg : (wr.alloc o).grownBy w1 r) (hr : ∀ k, r = some k → w.heap.size ≤ k) : Un d c w w1 := by
  have hs := hU.s
  have blk : ∀ i, i < w.heap.size → w1.heap[i]? = wr.heap[i]? := fun i hi => by
    rw [hg.block i (by rw [World.size_alloc]; omega) (fun e => by have := hr i e.symm; omega), Below.heap_alloc _ _ _ (by omega)]
  refine ⟨(World.cell?_of_block (w := wr) (blk d hd)).trans hU.c, (World.frozen?_of_block (w := wr) (blk d hd)).trans hU.f, ?_, ?_, ?_, ?_⟩
  · intro base w0 h1 h2 h3
    exact ((hU.b base w0 h1 h2 h3).alloc (by omega) o).grown hg (by rw [World.size_alloc]; omega) (fun k hk => by have := hr k hk; omega)
  · intro a v ha hc
    have hb := World.block_lt_of_cell? _ _ hc
    exact (World.cell?_of_block (w := wr) (blk a.block hb)).trans (hU.o a v ha hc)
  · have := hg.size
    rw [World.size_alloc] at this
    omega
  · intro i hi hn
    exact (blk i hi).trans (hU.k i hi hn)
theorem clv_rng (x : Int) : -9223372036854775808 ≤ clv x ∧ clv x ≤ 9223372036854775807 := by
  unfold clv
  repeat' split
  all_goals omega

theorem Un.chain {d : Nat} {c c' : Int} {w w1 w2 : World} (h : Un d c w w1) (k : Un d c' w1 w2) : Un d c' w w2 where
  c := k.c
  f := k.f
  b := fun base w0 h1 h2 h3 => k.b base w0 h1 (Nat.le_trans h2 h.s) (h.b base w0 h1 h2 h3)
  o := fun a v ha hc => k.o a v ha (h.o a v ha hc)
  s := Nat.le_trans h.s k.s
  k := fun i hi hn => (k.k i (Nat.lt_of_lt_of_le hi h.s) hn).trans (h.k i hi hn)

end Go.Proofs.YtdfjnbkkdgolnabGreatDoor
set_option linter.unusedVariables false
namespace Go.Proofs.YtdfjnbkkdgolnabGreatDoor
open Go.ChangeShapes Go.WideShapes Go.ChangeAt Go.RowKit Go.Joins

theorem laidOutV : laidOutB Tryz.prog = true := by kernel_rfl
theorem cellsFx : Tryz.prog.cellsOf 32 = 1 := by kernel_rfl
theorem add_noneV (b o n : Nat) : (⟨b, o, none⟩ : Addr).add n = ⟨b, o + n, none⟩ := by
  unfold Addr.add
  split
  · subst n; rfl
  · rfl
set_option maxRecDepth 100000 in
/-- A list of numbers, opened. -/
theorem open_fixes {H : Type} {enc : TypeId × Value → H} {w : World} {r : Reach} {b0 : Nat} {v : Value} {d : DataW H} {p : List MemPlace}
    (hv : Value.okWide Tryz.prog w r b0 23 v) (h : DataW.Trod enc Tryz.prog w 0 (fun _ => true) true 23 v d p) : ∃ (n : Nat) (f : Nat → Int), Ar w v n f := by
  obtain ⟨adr, len, cap, rfl⟩ := okWide_slice Tryz.underlying23 hv
  obtain ⟨fuel, h⟩ := h
  rcases Go.Deep.open_slice Tryz.underlying23 h with h0 | ⟨a, len', cap', m, n, D, Pl, hc, hb, hl, hm, hmm, -, hx⟩
  · have hc := h0.1
    simp [Value.cells] at hc
    obtain ⟨rfl, rfl, rfl⟩ := hc
    exact ⟨0, fun _ => 0, none, 0, 0, 0, rfl, Nat.le_refl _, Nat.zero_le _, fun h => by omega, fun j hj => by omega⟩
  · simp [Value.cells] at hc
    obtain ⟨rfl, rfl, rfl⟩ := hc
    simp only [if_true] at hmm
    subst hmm
    obtain ⟨ab, ao, spot⟩ := a
    have hint : ∀ i, i < len → ∃ q : Int, w.cell? ((⟨ab, ao, spot⟩ : Addr).add i) = some (.int .i64 q) ∧ (Lit.int .i64 q).wf = true := fun i hi => by
      obtain ⟨cs', h1, h2⟩ := hx i (by omega)
      rw [cellsFx] at h1
      obtain ⟨_, hlen, hcell⟩ := World.cells?_some h1
      obtain ⟨x, e0, _, wx⟩ := DataW.trod_int Tryz.underlying32 h2
      subst e0
      have e1 := hcell 0 (by omega)
      rw [Go.Deep.add_add] at e1
      exact ⟨x, by simpa using e1, wx⟩
    obtain ⟨q, hq⟩ := Go.Deep.choose_lt hint
    refine ⟨len, q, some ⟨ab, ao, spot⟩, m, ab, ao, rfl, hl, hm, ?_, ?_⟩
    · intro h0
      have hspot : spot = none := by simpa [Addr.add] using World.cell?_spot (hq 0 h0).1
      rw [hspot]
    · intro j hj
      have hspot : spot = none := by simpa [Addr.add] using World.cell?_spot (hq 0 (by omega)).1
      subst hspot
      obtain ⟨d0, d1⟩ := hq j hj
      rw [add_noneV] at d0
      exact ⟨d0, bounds_i64 d1⟩
end Go.Proofs.YtdfjnbkkdgolnabGreatDoor
set_option linter.unusedVariables false
namespace Go.Proofs.YtdfjnbkkdgolnabGreatDoor
open Go.ChangeShapes Go.WideShapes Go.ChangeAt Go.RowKit Go.Joins

def laidTab : List (String × DataW Unit) := [("math/bits.deBruijn64tab", Rows.laid_math_bits_deBruijn64tab)]
theorem gTab : Tryz.prog.globalNamed "math/bits.deBruijn64tab" = some 2 := by kernel_rfl
theorem tTab : (Tryz.prog.globals[2]?).map (·.type) = some 166 := by kernel_rfl
theorem cellsTab : Tryz.prog.cellsOf 166 = 64 := by kernel_rfl
theorem cellsU8 : Tryz.prog.cellsOf 5 = 1 := by kernel_rfl

/-- The door's own heap meets the condition. -/
theorem door_met (os : Os) (args : Array Value) : laidMetH Tryz.prog laidTab ((World.doorLaid Tryz.prog 400 os).forCall (fun _ _ => 0) ⟨#[], args, []⟩).memory :=
  laidMetH_of_parts3 (fuel := 8) (laidMet_of_run' 8 (by kernel_rfl) (by kernel_rfl)) (by kernel_rfl) (by kernel_rfl)

theorem tab_of_laid {W : World} (h : laidMetH Tryz.prog laidTab W) : TabAt W := by
  rw [MakeChecks.laidMetH_plain _ _ _ (by kernel_rfl)] at h
  have h2 : laidMet Tryz.prog [("math/bits.deBruijn64tab", Lib.tabData .u8 (Lib.deBruijn64tab.map (fun n : Nat => (n : Int))))] W := h
  have hT := Lib.tabIs_of_head gTab tTab Tryz.underlying166 Tryz.underlying5 cellsU8 cellsTab h2
  intro j hj
  have hc := hT.cell gTab j (by rw [List.length_map]; exact hj)
  rw [hc]
  have hj2 : j < Lib.deBruijn64tab.length := hj
  simp [List.getD, hj2]
end Go.Proofs.YtdfjnbkkdgolnabGreatDoor
set_option linter.unusedVariables false
namespace Go.Proofs.YtdfjnbkkdgolnabGreatDoor
open Go.ChangeShapes Go.WideShapes Go.ChangeAt Go.RowKit Go.Joins

theorem cellsInt : Tryz.prog.cellsOf 3 = 1 := by kernel_rfl
set_option maxRecDepth 100000 in
theorem fixes_raw {H : Type} {enc : TypeId × Value → H} {w : World} {fuel : Nat} {v : Value} {x : DataW H × List MemPlace}
    (h : DataW.trod enc Tryz.prog w 0 (fun _ => true) true fuel 23 [v] = some x) : ∃ (n : Nat) (f : Nat → Int), Ar w v n f := by
  rcases Go.Deep.open_slice Tryz.underlying23 h with h0 | ⟨a, len, cap, m, n, D, Pl, hc, hb, hl, hm, hmm, -, hx⟩
  · have hc := h0.1
    simp at hc
    subst hc
    exact ⟨0, fun _ => 0, none, 0, 0, 0, rfl, Nat.le_refl _, Nat.zero_le _, fun h => by omega, fun j hj => by omega⟩
  · simp at hc
    subst hc
    simp only [if_true] at hmm
    subst hmm
    obtain ⟨ab, ao, spot⟩ := a
    have hint : ∀ i, i < len → ∃ q : Int, w.cell? ((⟨ab, ao, spot⟩ : Addr).add i) = some (.int .i64 q) ∧ (Lit.int .i64 q).wf = true := fun i hi => by
      obtain ⟨cs', h1, h2⟩ := hx i (by omega)
      rw [cellsFx] at h1
      obtain ⟨_, hlen, hcell⟩ := World.cells?_some h1
      obtain ⟨x, e0, _, wx⟩ := DataW.trod_int Tryz.underlying32 h2
      subst e0
      have e1 := hcell 0 (by omega)
      rw [Go.Deep.add_add] at e1
      exact ⟨x, by simpa using e1, wx⟩
    obtain ⟨q, hq⟩ := Go.Deep.choose_lt hint
    refine ⟨len, q, some ⟨ab, ao, spot⟩, m, ab, ao, rfl, hl, hm, ?_, ?_⟩
    · intro h0
      have hspot : spot = none := by simpa [Addr.add] using World.cell?_spot (hq 0 h0).1
      rw [hspot]
    · intro j hj
      have hspot : spot = none := by simpa [Addr.add] using World.cell?_spot (hq 0 (by omega)).1
      subst hspot
      obtain ⟨d0, d1⟩ := hq j hj
      rw [add_noneV] at d0
      exact ⟨d0, bounds_i64 d1⟩
set_option maxRecDepth 100000 in
theorem ints_raw {H : Type} {enc : TypeId × Value → H} {w : World} {fuel : Nat} {v : Value} {x : DataW H × List MemPlace}
    (h : DataW.trod enc Tryz.prog w 0 (fun _ => true) true fuel 22 [v] = some x) : ∃ (n : Nat) (f : Nat → Int), Ar w v n f := by
  rcases Go.Deep.open_slice Tryz.underlying22 h with h0 | ⟨a, len, cap, m, n, D, Pl, hc, hb, hl, hm, hmm, -, hx⟩
  · have hc := h0.1
    simp at hc
    subst hc
    exact ⟨0, fun _ => 0, none, 0, 0, 0, rfl, Nat.le_refl _, Nat.zero_le _, fun h => by omega, fun j hj => by omega⟩
  · simp at hc
    subst hc
    simp only [if_true] at hmm
    subst hmm
    obtain ⟨ab, ao, spot⟩ := a
    have hint : ∀ i, i < len → ∃ q : Int, w.cell? ((⟨ab, ao, spot⟩ : Addr).add i) = some (.int .i64 q) ∧ (Lit.int .i64 q).wf = true := fun i hi => by
      obtain ⟨cs', h1, h2⟩ := hx i (by omega)
      rw [cellsInt] at h1
      obtain ⟨_, hlen, hcell⟩ := World.cells?_some h1
      obtain ⟨x, e0, _, wx⟩ := DataW.trod_int Tryz.underlying3 h2
      subst e0
      have e1 := hcell 0 (by omega)
      rw [Go.Deep.add_add] at e1
      exact ⟨x, by simpa using e1, wx⟩
    obtain ⟨q, hq⟩ := Go.Deep.choose_lt hint
    refine ⟨len, q, some ⟨ab, ao, spot⟩, m, ab, ao, rfl, hl, hm, ?_, ?_⟩
    · intro h0
      have hspot : spot = none := by simpa [Addr.add] using World.cell?_spot (hq 0 h0).1
      rw [hspot]
    · intro j hj
      have hspot : spot = none := by simpa [Addr.add] using World.cell?_spot (hq 0 (by omega)).1
      subst hspot
      obtain ⟨d0, d1⟩ := hq j hj
      rw [add_noneV] at d0
      exact ⟨d0, bounds_i64 d1⟩
theorem cellsNl : Tryz.prog.cellsOf 25 = 2 := by kernel_rfl
set_option maxRecDepth 100000 in
theorem open_net {H : Type} {enc : TypeId × Value → H} {w : World} {r : Reach} {b0 : Nat} {v : Value} {d : DataW H} {p : List MemPlace}
    (hv : Value.okWide Tryz.prog w r b0 25 v) (h : DataW.Trod enc Tryz.prog w 0 (fun _ => true) true 25 v d p) :
    ∃ (u0 u1 : Value) (m lp : Nat) (f P : Nat → Int), v = .agg #[u0, u1] ∧ Ar w u0 m f ∧ Ar w u1 lp P := by
  obtain ⟨c0, c1, y0, y1, m, rfl, rfl, rfl, hy0, hy1⟩ := open_agg2 Tryz.underlying25 (by kernel_rfl) cellsNl hv h
  obtain ⟨n0, f0, h0⟩ := ints_raw hy0
  obtain ⟨n1, f1, h1⟩ := fixes_raw hy1
  exact ⟨c0, c1, n0, n1, f0, f1, rfl, h0, h1⟩
end Go.Proofs.YtdfjnbkkdgolnabGreatDoor
set_option linter.unusedVariables false
set_option linter.unusedSimpArgs false
namespace Go.Proofs.YtdfjnbkkdgolnabGreatDoor
/-- So many steps. -/
def itr (g : Nat → Nat) : Nat → Nat → Nat
  | 0, x => x
  | m + 1, x => g (itr g m x)
theorem itr_lt (g : Nat → Nat) (N : Nat) (hg : ∀ x, x < N → g x < N) (x : Nat) (hx : x < N) (m : Nat) : itr g m x < N := by
  induction m with
  | zero => exact hx
  | succ m ih => exact hg _ ih
/-- Steps back undo steps. -/
theorem itr_back (g u : Nat → Nat) (N : Nat) (hg : ∀ x, x < N → g x < N) (hu : ∀ x, x < N → u (g x) = x) (x : Nat) (hx : x < N) (m k : Nat) (hk : k ≤ m) : itr u k (itr g m x) = itr g (m - k) x := by
  induction k with
  | zero => simp [itr]
  | succ k ih =>
    show u (itr u k (itr g m x)) = _
    rw [ih (by omega), show m - k = (m - (k + 1)) + 1 by omega]
    exact hu _ (itr_lt g N hg x hx _)
theorem least (P : Nat → Prop) [DecidablePred P] (m : Nat) (h : P m) : ∃ q, P q ∧ q ≤ m ∧ ∀ k, k < q → ¬ P k := by
  induction m using Nat.strongRecOn with
  | _ m ih =>
    by_cases hk : ∃ k, k < m ∧ P k
    · obtain ⟨k, hk, hp⟩ := hk
      obtain ⟨q, h1, h2, h3⟩ := ih k hk hp
      exact ⟨q, h1, by omega, h3⟩
    · exact ⟨m, h, Nat.le_refl _, fun k hk' hp => hk ⟨k, hk', hp⟩⟩
/-- x is where i comes to first below n. -/
def Gets (g : Nat → Nat) (n i x : Nat) : Prop := ∃ m, 1 ≤ m ∧ itr g m i = x ∧ x < n ∧ ∀ k, 1 ≤ k → k < m → n ≤ itr g k i
theorem Gets.one {g : Nat → Nat} {n i x y : Nat} (h : Gets g n i x) (h' : Gets g n i y) : x = y := by
  obtain ⟨m, a1, a2, a3, a4⟩ := h
  obtain ⟨q, b1, b2, b3, b4⟩ := h'
  rcases Nat.lt_trichotomy m q with hl | rfl | hl
  · have := b4 m a1 hl; omega
  · omega
  · have := a4 q b1 hl; omega
theorem Gets.back {g u : Nat → Nat} {n i x N : Nat} (hg : ∀ x, x < N → g x < N) (hu : ∀ x, x < N → u (g x) = x) (hn : n ≤ N) (hi : i < n) (h : Gets g n i x) : Gets u n x i := by
  obtain ⟨m, a1, a2, a3, a4⟩ := h
  subst a2
  refine ⟨m, a1, ?_, hi, fun k k1 k2 => ?_⟩
  · rw [itr_back g u N hg hu i (by omega) m m (Nat.le_refl _), Nat.sub_self]; rfl
  · rw [itr_back g u N hg hu i (by omega) m k (by omega)]
    exact a4 (m - k) (by omega) (by omega)
/-- A round: t's number of r to l. -/
def rnd1 (f : Nat → Nat → Nat) (t : Nat) (p : Nat × Nat) : Nat × Nat := (p.2, p.1 ^^^ f t p.2)
def dnr1 (f : Nat → Nat → Nat) (t : Nat) (p : Nat × Nat) : Nat × Nat := (p.2 ^^^ f t p.1, p.1)
theorem dnr_rnd (f : Nat → Nat → Nat) (t : Nat) (p : Nat × Nat) : dnr1 f t (rnd1 f t p) = p := by
  unfold dnr1 rnd1
  simp [Nat.xor_assoc, Nat.xor_self]
theorem rnd_dnr (f : Nat → Nat → Nat) (t : Nat) (p : Nat × Nat) : rnd1 f t (dnr1 f t p) = p := by
  unfold dnr1 rnd1
  simp [Nat.xor_assoc, Nat.xor_self]
/-- So many rounds, from 0 on. -/
def rnds (f : Nat → Nat → Nat) : Nat → Nat × Nat → Nat × Nat
  | 0, p => p
  | t + 1, p => rnd1 f t (rnds f t p)
/-- So many rounds back, down to 0. -/
def dnrs (f : Nat → Nat → Nat) : Nat → Nat × Nat → Nat × Nat
  | 0, p => p
  | t + 1, p => dnrs f t (dnr1 f t p)
theorem dnrs_rnds (f : Nat → Nat → Nat) (t : Nat) (p : Nat × Nat) : dnrs f t (rnds f t p) = p := by
  induction t with
  | zero => rfl
  | succ t ih => show dnrs f t (dnr1 f t (rnd1 f t (rnds f t p))) = p; rw [dnr_rnd, ih]
theorem rnds_dnrs (f : Nat → Nat → Nat) (t : Nat) (p : Nat × Nat) : rnds f t (dnrs f t p) = p := by
  induction t generalizing p with
  | zero => rfl
  | succ t ih => show rnd1 f t (rnds f t (dnrs f t (dnr1 f t p))) = p; rw [ih, rnd_dnr]
theorem rnds_lt (f : Nat → Nat → Nat) (b : Nat) (hf : ∀ t r, f t r < 2 ^ b) (t : Nat) (p : Nat × Nat) (h : p.1 < 2 ^ b ∧ p.2 < 2 ^ b) : (rnds f t p).1 < 2 ^ b ∧ (rnds f t p).2 < 2 ^ b := by
  induction t with
  | zero => exact h
  | succ t ih => exact ⟨ih.2, Nat.xor_lt_two_pow ih.1 (hf _ _)⟩
theorem dnrs_lt (f : Nat → Nat → Nat) (b : Nat) (hf : ∀ t r, f t r < 2 ^ b) (t : Nat) (p : Nat × Nat) (h : p.1 < 2 ^ b ∧ p.2 < 2 ^ b) : (dnrs f t p).1 < 2 ^ b ∧ (dnrs f t p).2 < 2 ^ b := by
  induction t generalizing p with
  | zero => exact h
  | succ t ih => exact ih _ ⟨Nat.xor_lt_two_pow h.2 (hf _ _), h.1⟩
/-- A trip, and one back. -/
def trp (f : Nat → Nat → Nat) (S x : Nat) : Nat := (rnds f 4 (x / S, x % S)).1 * S + (rnds f 4 (x / S, x % S)).2
def prt (f : Nat → Nat → Nat) (S x : Nat) : Nat := (dnrs f 4 (x / S, x % S)).1 * S + (dnrs f 4 (x / S, x % S)).2
theorem joined (S : Nat) (p : Nat × Nat) (h : p.2 < S) : ((p.1 * S + p.2) / S, (p.1 * S + p.2) % S) = p := by
  have h1 : (p.1 * S + p.2) / S = p.1 := by
    rw [Nat.mul_comm, Nat.mul_add_div (by omega), Nat.div_eq_of_lt h, Nat.add_zero]
  have h2 : (p.1 * S + p.2) % S = p.2 := by rw [Nat.mul_comm, Nat.mul_add_mod, Nat.mod_eq_of_lt h]
  rw [h1, h2]
theorem parts_lt (b x : Nat) (hx : x < 2 ^ b * 2 ^ b) : x / 2 ^ b < 2 ^ b ∧ x % 2 ^ b < 2 ^ b :=
  ⟨Nat.div_lt_of_lt_mul hx, Nat.mod_lt _ (Nat.two_pow_pos b)⟩
theorem join_lt (S l r : Nat) (hl : l < S) (hr : r < S) : l * S + r < S * S := by
  have := Nat.mul_le_mul_right S (show l + 1 ≤ S by omega)
  rw [Nat.succ_mul] at this
  omega
theorem trp_lt (f : Nat → Nat → Nat) (b : Nat) (hf : ∀ t r, f t r < 2 ^ b) (x : Nat) (hx : x < 2 ^ b * 2 ^ b) : trp f (2 ^ b) x < 2 ^ b * 2 ^ b := by
  obtain ⟨h1, h2⟩ := rnds_lt f b hf 4 (x / 2 ^ b, x % 2 ^ b) (parts_lt b x hx)
  exact join_lt _ _ _ h1 h2
theorem prt_lt (f : Nat → Nat → Nat) (b : Nat) (hf : ∀ t r, f t r < 2 ^ b) (x : Nat) (hx : x < 2 ^ b * 2 ^ b) : prt f (2 ^ b) x < 2 ^ b * 2 ^ b := by
  obtain ⟨h1, h2⟩ := dnrs_lt f b hf 4 (x / 2 ^ b, x % 2 ^ b) (parts_lt b x hx)
  exact join_lt _ _ _ h1 h2
theorem prt_trp (f : Nat → Nat → Nat) (b : Nat) (hf : ∀ t r, f t r < 2 ^ b) (x : Nat) (hx : x < 2 ^ b * 2 ^ b) : prt f (2 ^ b) (trp f (2 ^ b) x) = x := by
  obtain ⟨h1, h2⟩ := rnds_lt f b hf 4 (x / 2 ^ b, x % 2 ^ b) (parts_lt b x hx)
  unfold prt trp
  rw [joined _ _ h2, dnrs_rnds]
  dsimp only
  rw [Nat.mul_comm]
  exact Nat.div_add_mod x (2 ^ b)
theorem trp_prt (f : Nat → Nat → Nat) (b : Nat) (hf : ∀ t r, f t r < 2 ^ b) (x : Nat) (hx : x < 2 ^ b * 2 ^ b) : trp f (2 ^ b) (prt f (2 ^ b) x) = x := by
  obtain ⟨h1, h2⟩ := dnrs_lt f b hf 4 (x / 2 ^ b, x % 2 ^ b) (parts_lt b x hx)
  unfold prt trp
  rw [joined _ _ h2, rnds_dnrs]
  dsimp only
  rw [Nat.mul_comm]
  exact Nat.div_add_mod x (2 ^ b)
end Go.Proofs.YtdfjnbkkdgolnabGreatDoor
set_option linter.unusedVariables false
set_option linter.unusedSimpArgs false
namespace Go.Proofs.YtdfjnbkkdgolnabGreatDoor

/-- How many parameters a layer has. -/
def lyN (z : Nat → Nat) (l : Nat) : Nat := z l * z (l + 1) + z (l + 1)
/-- Where a layer's parameters begin. -/
def fsN (z : Nat → Nat) : Nat → Nat
  | 0 => 0
  | l + 1 => fsN z l + lyN z l
/-- Sizes that are right. -/
def Szs (z : Nat → Nat) (m : Nat) : Prop := 2 ≤ m ∧ m ≤ 6 ∧ ∀ i, i < m → 1 ≤ z i ∧ z i ≤ 64
theorem lyN_le (z : Nat → Nat) (m l : Nat) (h : ∀ i, i < m → 1 ≤ z i ∧ z i ≤ 64) (hl : l + 1 < m) : lyN z l ≤ 4160 ∧ 2 ≤ lyN z l := by
  have h1 := h l (by omega)
  have h2 := h (l + 1) hl
  have h3 : z l * z (l + 1) ≤ 64 * 64 := Nat.mul_le_mul h1.2 h2.2
  have h4 : 1 * 1 ≤ z l * z (l + 1) := Nat.mul_le_mul h1.1 h2.1
  unfold lyN
  omega
theorem fsN_le (z : Nat → Nat) (m l : Nat) (h : ∀ i, i < m → 1 ≤ z i ∧ z i ≤ 64) (hl : l < m) : fsN z l ≤ 4160 * l := by
  induction l with
  | zero => exact Nat.le_refl _
  | succ l ih =>
    have h1 := ih (by omega)
    have h2 := (lyN_le z m l h hl).1
    show fsN z l + lyN z l ≤ _
    omega
theorem fsN_mono (z : Nat → Nat) {a b : Nat} (h : a ≤ b) : fsN z a ≤ fsN z b := by
  induction b with
  | zero => obtain rfl : a = 0 := by omega
            exact Nat.le_refl _
  | succ b ih =>
    rcases Nat.lt_or_ge a (b + 1) with h1 | h1
    · have := ih (by omega)
      show _ ≤ fsN z b + lyN z b
      omega
    · obtain rfl : a = b + 1 := by omega
      exact Nat.le_refl _
end Go.Proofs.YtdfjnbkkdgolnabGreatDoor
set_option linter.unusedVariables false
set_option linter.unusedSimpArgs false
namespace Go.Proofs.YtdfjnbkkdgolnabGreatDoor
open Go.RowKit

/-- A row of so many cells. -/
structure Rw (b n : Nat) (h : Nat → Value) (w : World) : Prop where
  c : ∀ k, k < n → w.cell? ⟨b, k, none⟩ = some (h k)
  f : ∀ k, k < n → w.frozen? ⟨b, k, none⟩ = false
theorem Rw.later {b n : Nat} {h : Nat → Value} {w w' : World} (r : Rw b n h w) (hb : Below w.heap.size w w') : Rw b n h w' :=
  ⟨fun k hk => cell_later hb (r.c k hk), fun k hk => frozen_later hb (r.c k hk) (r.f k hk)⟩
theorem Rw.block {b n : Nat} {h : Nat → Value} {w w' : World} (r : Rw b n h w) (hb : w'.heap[b]? = w.heap[b]?) : Rw b n h w' :=
  ⟨fun k hk => (World.cell?_of_block (w := w) hb).trans (r.c k hk), fun k hk => (World.frozen?_of_block (w := w) hb).trans (r.f k hk)⟩
theorem Rw.far {b n : Nat} {h : Nat → Value} {w : World} {p : Addr} (r : Rw b n h w) (u : Value) (hp : p.block ≠ b) : Rw b n h (w.setCell p u) :=
  ⟨fun k hk => cell_set hp (r.c k hk), fun k hk => by rw [World.frozen?_setCell]; exact r.f k hk⟩
theorem Rw.set {b n : Nat} {h : Nat → Value} {w : World} (r : Rw b n h w) (j : Nat) (u : Value) : Rw b n (fun k => if k = j then u else h k) (w.setCell ⟨b, j, none⟩ u) := by
  refine ⟨fun k hk => ?_, fun k hk => by rw [World.frozen?_setCell]; exact r.f k hk⟩
  by_cases e : k = j
  · subst e
    simp only [if_true]
    exact World.cell?_setCell_same' _ _ _ (by rw [r.c k hk]; rfl)
  · simp only [if_neg e]
    exact (World.cell?_setCell_other _ _ _ _ (by first | (simp; done) | (simp; omega))).trans (r.c k hk)
theorem Rw.congr {b n : Nat} {h g : Nat → Value} {w : World} (r : Rw b n h w) (e : ∀ k, k < n → h k = g k) : Rw b n g w :=
  ⟨fun k hk => by rw [r.c k hk, e k hk], r.f⟩
theorem made_get (z : Value) (n k : Nat) (hk : k < n) : (madeCells #[z] n)[k]? = some z := by
  unfold madeCells
  rw [Array.getElem?_map, Array.getElem?_eq_getElem (by simpa using hk)]
  simp [Nat.mod_one]
theorem Rw.made (w : World) (z : Value) (n : Nat) (t : TypeId) : Rw w.heap.size n (fun _ => z) (w.alloc (.cells (madeCells #[z] n) t)) := by
  refine ⟨fun k hk => ?_, fun k hk => ?_⟩
  · have := made_get z n k hk
    simp [go_sem, this]
  · simp [go_sem]
theorem dinfo_fx : (Tryz.prog.info? 32).map (fun i => (i.zero, i.size, i.bytes)) = some (some (.int .i64 0), 1, 8) := by kernel_rfl
theorem make_fx (n : Nat) (hn : n ≤ 1000000) (w : World) : (Instr.makeSlice 23 (.int .i64 (n : Int)) (.int .i64 (n : Int))).run Tryz.prog w = .ok (.slice (some ⟨w.heap.size, 0, none⟩) n n) (w.alloc (.cells (madeCells #[.int .i64 0] n) 32)) := by
  obtain ⟨i0, hi, hz0, hz1, hz2⟩ := info_parts dinfo_fx
  have h := run_make (P := Tryz.prog) w 23 32 i0 (.int .i64 0) Tryz.underlying23 hi hz0 .i64 .i64 (n : Int) (n : Int) (by omega) (by omega) (by rw [hz2]; omega) (by omega)
  rw [hz1, Nat.mul_one] at h
  exact h
theorem Ar.at {w : World} {adr : Option Addr} {n cap : Nat} {f : Nat → Int} (h : Ar w (.slice adr n cap) n f) (j : Nat) (hj : j < n) : ∃ b o, adr = some ⟨b, o, none⟩ ∧ w.cell? ⟨b, o + j, none⟩ = some (.int .i64 (f j)) ∧ -9223372036854775808 ≤ f j ∧ f j ≤ 9223372036854775807 := by
  obtain ⟨ad, ca, b, o, e, -, -, h3, h4⟩ := h
  cases e
  exact ⟨b, o, h3 (by omega), (h4 j hj).1, (h4 j hj).2⟩
theorem Rw.ar {b n : Nat} {F : Nat → Int} {w : World} (r : Rw b n (fun k => .int .i64 (F k)) w) (hn : n ≤ 1000000) (hF : ∀ k, k < n → -9223372036854775808 ≤ F k ∧ F k ≤ 9223372036854775807) : Ar w (.slice (some ⟨b, 0, none⟩) n n) n F :=
  ⟨some ⟨b, 0, none⟩, n, b, 0, rfl, Nat.le_refl _, by unfold maxLen; omega, fun _ => rfl, fun k hk => ⟨by rw [Nat.zero_add]; exact r.c k hk, hF k hk⟩⟩

set_option maxRecDepth 100000 in
set_option maxHeartbeats 4000000 in
theorem each_scaled (p q : Value) (S : Nat → World → Prop) (va : Value) (n : Nat) (f F : Nat → Int) (w : World) (hn : n ≤ 70000) (hA : Ar w va n f)
    (S0 : S 0 w) (SL : ∀ j W W', S j W → Below W.heap.size W W' → S j W') (SS : ∀ j W (a : Addr) u, w.heap.size ≤ a.block → S j W → S j (W.setCell a u)) (SA : ∀ j W, S j W → Ar W va n f) (hF : ∀ k, k < n → -9223372036854775808 ≤ F k ∧ F k ≤ 9223372036854775807)
    (HS : ∀ j W, j < n → w.heap.size < W.heap.size → S j W → Calls Tryz.prog 89 #[.int .i64 (f j), p, q] W fun e w' => e = .returned (.int .i64 (F j)) ∧ S (j + 1) w' ∧ w'.heap[w.heap.size]? = W.heap[w.heap.size]? ∧ W.heap.size ≤ w'.heap.size) :
    Calls Tryz.prog 88 #[va, .func (.func 89) #[] #[p, q]] w fun e w' => e = .returned (.slice (some ⟨w.heap.size, 0, none⟩) n n) ∧ S n w' ∧ Ar w' (.slice (some ⟨w.heap.size, 0, none⟩) n n) n F := by
  obtain ⟨adr, cap, b, o, rfl, k1, k2, -, -⟩ := id hA
  unfold maxLen at *
  have hmk := make_fx n (by omega)
  have hR0 := Rw.made w (.int .i64 0) n 32
  have hS0 : Hid (S 0 (w.alloc (.cells (madeCells #[.int .i64 0] n) 32))) := SL 0 _ _ S0 (bel1 _ _)
  have hz0 : w.heap.size < (w.alloc (.cells (madeCells #[.int .i64 0] n) 32)).heap.size := by rw [World.size_alloc]; omega
  have HSA : Hid (∀ j W, S j W → Ar W (.slice adr n cap) n f) := SA
  have HHS : Hid (∀ j W, j < n → w.heap.size < W.heap.size → S j W → Calls Tryz.prog 89 #[.int .i64 (f j), p, q] W fun e w' => e = .returned (.int .i64 (F j)) ∧ S (j + 1) w' ∧ w'.heap[w.heap.size]? = W.heap[w.heap.size]? ∧ W.heap.size ≤ w'.heap.size) := HS
  have HSS : Hid (∀ j W (a : Addr) u, w.heap.size ≤ a.block → S j W → S j (W.setCell a u)) := SS
  have HF : Hid (∀ k, k < n → -9223372036854775808 ≤ F k ∧ F k ≤ 9223372036854775807) := hF
  clear SA HS SS SL S0 hF hA
  go_enter Tryz.func88, Tryz.ntmps88
  go_upto_region 3 with fail
  generalize w.alloc (.cells (madeCells #[.int .i64 0] n) 32) = w0 at *
  clear hmk
  go_loopw [13] (fun si wr => ∃ j : Nat, j ≤ n ∧ si = .int .i64 (j : Int) ∧ Hid (S j wr) ∧ Hid (Rw w.heap.size n (fun k => if k < j then .int .i64 (F k) else .int .i64 0) wr) ∧ w.heap.size < wr.heap.size) (fun si _ => n - (intOf si).toNat)
  case atStart =>
    exact ⟨0, by omega, rfl, hS0, hR0.congr (fun k hk => by simp), hz0⟩
  case round =>
    obtain ⟨j, hj, rfl, hS, hR, hz⟩ := hrel
    by_cases hlt : j < n
    · have hjI : (j : Int) < (n : Int) := by omega
      obtain ⟨b, o, rfl, cA, -, -⟩ := (HSA.out j wr hS.out).at j hlt
      have CM : Hid (Calls Tryz.prog 89 #[.int .i64 (f j), p, q] wr fun e w' => e = .returned (.int .i64 (F j)) ∧ S (j + 1) w' ∧ w'.heap[w.heap.size]? = wr.heap[w.heap.size]? ∧ wr.heap.size ≤ w'.heap.size) := HHS.out j wr hlt hz hS.out
      clear hS
      go_wp2_with (go_at_call 89; refine CM.out.mono ?_; rintro e wz ⟨rfl, hSz, hbz, hsz⟩; have HSz : Hid (S (j + 1) wz) := hSz; have HRz := hR.out.block hbz; have cz : wz.cell? ⟨w.heap.size, j, none⟩ = some (.int .i64 0) := (by have := HRz.c j hlt; rw [if_neg (by omega)] at this; exact this); have fz := HRz.f j hlt; replace HRz : Hid _ := HRz; clear hSz hbz hR cA)
      have hS2 : Hid (S (j + 1) (wz.setCell ⟨w.heap.size, j, none⟩ (.int .i64 (F j)))) := HSS.out _ _ _ _ (Nat.le_refl _) HSz.out
      have hR2 : Hid (Rw w.heap.size n (fun k => if k < j + 1 then .int .i64 (F k) else .int .i64 0) (wz.setCell ⟨w.heap.size, j, none⟩ (.int .i64 (F j)))) := (HRz.out.set j (.int .i64 (F j))).congr (fun k hk => by
        by_cases e : k = j
        · subst e; simp
        · rw [if_neg e]
          by_cases e2 : k < j
          · rw [if_pos e2, if_pos (by omega)]
          · rw [if_neg e2, if_neg (by omega)])
      have hz2 : w.heap.size < (wz.setCell ⟨w.heap.size, j, none⟩ (.int .i64 (F j))).heap.size := by rw [World.size_setCell]; omega
      go_roundw
      case rel => exact ⟨j + 1, by omega, by go_num, hS2, hR2, hz2⟩
      case measure => simp [intOf]; omega
    · obtain rfl : j = n := by omega
      have hjI : ¬ (j : Int) < (j : Int) := by omega
      have hAr : Hid (Ar wr (.slice (some ⟨w.heap.size, 0, none⟩) j j) j F) := (hR.out.congr (fun k hk => by rw [if_pos hk])).ar (by omega) HF.out
      clear hR
      go_wp2
      go_ret
      exact ⟨rfl, hS.out, hAr.out⟩

set_option maxRecDepth 100000 in
set_option maxHeartbeats 4000000 in
theorem pairs_Sub (p : Value) (S : Nat → World → Prop) (va vb : Value) (n : Nat) (f g F : Nat → Int) (w : World) (hn : n ≤ 70000) (hA : Ar w va n f) (hB : Ar w vb n g)
    (S0 : S 0 w) (SL : ∀ j W W', S j W → Below W.heap.size W W' → S j W') (SS : ∀ j W (a : Addr) u, w.heap.size ≤ a.block → S j W → S j (W.setCell a u)) (SA : ∀ j W, S j W → Ar W va n f ∧ Ar W vb n g) (hF : ∀ k, k < n → -9223372036854775808 ≤ F k ∧ F k ≤ 9223372036854775807)
    (HS : ∀ j W, j < n → w.heap.size < W.heap.size → S j W → Calls Tryz.prog 137 #[p, .int .i64 (f j), .int .i64 (g j)] W fun e w' => e = .returned (.int .i64 (F j)) ∧ S (j + 1) w' ∧ w'.heap[w.heap.size]? = W.heap[w.heap.size]? ∧ W.heap.size ≤ w'.heap.size) :
    Calls Tryz.prog 138 #[va, vb, .func (.func 137) #[p] #[]] w fun e w' => e = .returned (.slice (some ⟨w.heap.size, 0, none⟩) n n) ∧ S n w' ∧ Ar w' (.slice (some ⟨w.heap.size, 0, none⟩) n n) n F := by
  obtain ⟨adr, cap, b, o, rfl, k1, k2, -, -⟩ := id hA
  obtain ⟨adq, caq, bq, oq, rfl, q1, q2, -, -⟩ := id hB
  unfold maxLen at *
  have hmk := make_fx n (by omega)
  have hR0 := Rw.made w (.int .i64 0) n 32
  have hS0 : Hid (S 0 (w.alloc (.cells (madeCells #[.int .i64 0] n) 32))) := SL 0 _ _ S0 (bel1 _ _)
  have hz0 : w.heap.size < (w.alloc (.cells (madeCells #[.int .i64 0] n) 32)).heap.size := by rw [World.size_alloc]; omega
  have HSA : Hid (∀ j W, S j W → Ar W (.slice adr n cap) n f ∧ Ar W (.slice adq n caq) n g) := SA
  have HHS : Hid (∀ j W, j < n → w.heap.size < W.heap.size → S j W → Calls Tryz.prog 137 #[p, .int .i64 (f j), .int .i64 (g j)] W fun e w' => e = .returned (.int .i64 (F j)) ∧ S (j + 1) w' ∧ w'.heap[w.heap.size]? = W.heap[w.heap.size]? ∧ W.heap.size ≤ w'.heap.size) := HS
  have HSS : Hid (∀ j W (a : Addr) u, w.heap.size ≤ a.block → S j W → S j (W.setCell a u)) := SS
  have HF : Hid (∀ k, k < n → -9223372036854775808 ≤ F k ∧ F k ≤ 9223372036854775807) := hF
  clear SA HS SS SL S0 hF hA hB
  go_enter Tryz.func138, Tryz.ntmps138
  go_upto_region 3 with fail
  generalize w.alloc (.cells (madeCells #[.int .i64 0] n) 32) = w0 at *
  clear hmk
  go_loopw [15] (fun si wr => ∃ j : Nat, j ≤ n ∧ si = .int .i64 (j : Int) ∧ Hid (S j wr) ∧ Hid (Rw w.heap.size n (fun k => if k < j then .int .i64 (F k) else .int .i64 0) wr) ∧ w.heap.size < wr.heap.size) (fun si _ => n - (intOf si).toNat)
  case atStart =>
    exact ⟨0, by omega, rfl, hS0, hR0.congr (fun k hk => by simp), hz0⟩
  case round =>
    obtain ⟨j, hj, rfl, hS, hR, hz⟩ := hrel
    by_cases hlt : j < n
    · have hjI : (j : Int) < (n : Int) := by omega
      obtain ⟨b, o, rfl, cA, -, -⟩ := (HSA.out j wr hS.out).1.at j hlt
      obtain ⟨bq, oq, rfl, cB, -, -⟩ := (HSA.out j wr hS.out).2.at j hlt
      have CM : Hid (Calls Tryz.prog 137 #[p, .int .i64 (f j), .int .i64 (g j)] wr fun e w' => e = .returned (.int .i64 (F j)) ∧ S (j + 1) w' ∧ w'.heap[w.heap.size]? = wr.heap[w.heap.size]? ∧ wr.heap.size ≤ w'.heap.size) := HHS.out j wr hlt hz hS.out
      clear hS
      go_wp2_with (go_at_call 137; refine CM.out.mono ?_; rintro e wz ⟨rfl, hSz, hbz, hsz⟩; have HSz : Hid (S (j + 1) wz) := hSz; have HRz := hR.out.block hbz; have cz : wz.cell? ⟨w.heap.size, j, none⟩ = some (.int .i64 0) := (by have := HRz.c j hlt; rw [if_neg (by omega)] at this; exact this); have fz := HRz.f j hlt; replace HRz : Hid _ := HRz; clear hSz hbz hR cA cB)
      have hS2 : Hid (S (j + 1) (wz.setCell ⟨w.heap.size, j, none⟩ (.int .i64 (F j)))) := HSS.out _ _ _ _ (Nat.le_refl _) HSz.out
      have hR2 : Hid (Rw w.heap.size n (fun k => if k < j + 1 then .int .i64 (F k) else .int .i64 0) (wz.setCell ⟨w.heap.size, j, none⟩ (.int .i64 (F j)))) := (HRz.out.set j (.int .i64 (F j))).congr (fun k hk => by
        by_cases e : k = j
        · subst e; simp
        · rw [if_neg e]
          by_cases e2 : k < j
          · rw [if_pos e2, if_pos (by omega)]
          · rw [if_neg e2, if_neg (by omega)])
      have hz2 : w.heap.size < (wz.setCell ⟨w.heap.size, j, none⟩ (.int .i64 (F j))).heap.size := by rw [World.size_setCell]; omega
      go_roundw
      case rel => exact ⟨j + 1, by omega, by go_num, hS2, hR2, hz2⟩
      case measure => simp [intOf]; omega
    · obtain rfl : j = n := by omega
      have hjI : ¬ (j : Int) < (j : Int) := by omega
      have hAr : Hid (Ar wr (.slice (some ⟨w.heap.size, 0, none⟩) j j) j F) := (hR.out.congr (fun k hk => by rw [if_pos hk])).ar (by omega) HF.out
      clear hR
      go_wp2
      go_ret
      exact ⟨rfl, hS.out, hAr.out⟩

end Go.Proofs.YtdfjnbkkdgolnabGreatDoor
set_option linter.unusedVariables false
set_option linter.unusedSimpArgs false
namespace Go.Proofs.YtdfjnbkkdgolnabGreatDoor
open Go.RowKit

/-- How far sizes are right. -/
def szB (f : Nat → Int) (m : Nat) : Prop := ∀ i, i < m → 1 ≤ f i ∧ f i ≤ 64
set_option maxRecDepth 100000 in
set_option maxHeartbeats 4000000 in
theorem count_yes (va : Value) (m : Nat) (z : Nat → Nat) (w : World) (hA : Ar w va m (fun i => ((z i : Nat) : Int))) (hz : Szs z m) :
    Calls Tryz.prog 15 #[va] w fun e w' => e = .returned (.int .i64 ((fsN z (m - 1) : Nat) : Int)) ∧ Below w.heap.size w w' := by
  obtain ⟨adr, cap, b, o, rfl, k1, k2, k3, k4⟩ := hA
  unfold maxLen at k2
  obtain ⟨m2, m6, hz⟩ := hz
  have ha := k3 (by omega)
  subst ha
  have HX : Hid (∀ i, i < m → w.cell? ⟨b, o + i, none⟩ = some (.int .i64 ((z i : Nat) : Int))) := fun i hi => (k4 i hi).1
  have HZ : Hid (∀ i, i < m → 1 ≤ z i ∧ z i ≤ 64) := hz
  clear k3 k4 hz
  have q1 : ¬ (m : Int) < 2 := by omega
  have q2 : ¬ (6 : Int) < (m : Int) := by omega
  go_enter Tryz.func15, Tryz.ntmps15
  go_upto_region 5 with fail
  go_loopw [3, 4] (fun s3 si wr => ∃ i v : Nat, i ≤ m ∧ si = .int .i64 (i : Int) ∧ s3 = .int .i64 (v : Int) ∧ Hid (v = fsN z (i - 1)) ∧ Hid (Below w.heap.size w wr)) (fun _ si _ => m - (intOf si).toNat)
  case atStart => exact ⟨0, 0, by omega, rfl, rfl, rfl, Below.refl _ _⟩
  case round =>
    obtain ⟨i, v, hi, rfl, rfl, HV, HW⟩ := hrel
    by_cases hlt : i < m
    · have hiI : (i : Int) < (m : Int) := by omega
      have cA : wr.cell? ⟨b, o + i, none⟩ = some (.int .i64 ((z i : Nat) : Int)) := cell_later HW.out (HX.out i hlt)
      obtain ⟨z1, z2⟩ := HZ.out i hlt
      have zI1 : ¬ ((z i : Nat) : Int) < 1 := by omega
      have zI2 : ¬ (64 : Int) < ((z i : Nat) : Int) := by omega
      by_cases h0 : 0 < i
      · have h0I : (0 : Int) < (i : Int) := by omega
        have cB : wr.cell? ⟨b, o + (i - 1), none⟩ = some (.int .i64 ((z (i - 1) : Nat) : Int)) := cell_later HW.out (HX.out (i - 1) (by omega))
        obtain ⟨y1, y2⟩ := HZ.out (i - 1) (by omega)
        have hvb : v ≤ 4160 * 6 := by
          have h := fsN_le z m (i - 1) HZ.out (by omega)
          rw [HV.out]; omega
        have HV2 : Hid (v + (z (i - 1) * z i + z i) = fsN z (i + 1 - 1)) := by
          show _ = _
          obtain ⟨j, rfl⟩ : ∃ j, i = j + 1 := ⟨i - 1, by omega⟩
          have h := HV.out
          simp only [Nat.add_sub_cancel] at h ⊢
          rw [h]
          rfl
        have hpb : z (i - 1) * z i ≤ 64 * 64 := Nat.mul_le_mul y2 z2
        have epr : ((z (i - 1) : Nat) : Int) * ((z i : Nat) : Int) = ((z (i - 1) * z i : Nat) : Int) := by rw [Int.natCast_mul]
        have ei : (i : Int) - 1 = ((i - 1 : Nat) : Int) := by omega
        have hi1 : ((i - 1 : Nat) : Int) < (m : Int) := by omega
        generalize z (i - 1) * z i = pr at *
        generalize z (i - 1) = za at *
        generalize z i = zb at *
        have Ei : Hid ((i : Int) - 1 = ((i - 1 : Nat) : Int)) := ei
        have w1 : IntKind.i64.wrap ((i : Int) - 1) = ((i - 1 : Nat) : Int) := by rw [IntKind.wrap_i64]; omega
        have w2 : IntKind.i64.wrap ((pr : Nat) : Int) = (pr : Int) := by rw [IntKind.wrap_i64]; omega
        have w3 : IntKind.i64.wrap ((pr : Int) + (zb : Int)) = ((pr + zb : Nat) : Int) := by rw [IntKind.wrap_i64]; omega
        have w4 : IntKind.i64.wrap ((v : Int) + ((pr + zb : Nat) : Int)) = ((v + (pr + zb) : Nat) : Int) := by rw [IntKind.wrap_i64]; omega
        clear ei
        generalize i - 1 = ip at *
        generalize v + (pr + zb) = vv at *
        generalize pr + zb = pz at *
        go_upto_region 10 with fail
        go_quiet (fail)
        go_wp2
        go_roundw
        case rel => exact ⟨i + 1, vv, by omega, by go_num, rfl, HV2, below_drewN HW.out _⟩
        case measure => simp [intOf]; omega
      · obtain rfl : i = 0 := by omega
        rw [Nat.add_zero] at cA
        go_wp2
        go_roundw
        case rel => exact ⟨1, v, by omega, by go_num, rfl, HV, HW⟩
        case measure => simp [intOf]; omega
    · obtain rfl : i = m := by omega
      have hiI : ¬ (i : Int) < (i : Int) := by omega
      have HV' : Hid (fsN z (i - 1) = v) := HV.out.symm
      go_wp2
      go_ret
      exact ⟨by show Ending.returned (Value.int .i64 (v : Int)) = _; rw [HV'.out], HW.out⟩
set_option maxRecDepth 100000 in
set_option maxHeartbeats 4000000 in
theorem count_no (va : Value) (m : Nat) (f : Nat → Int) (w : World) (hA : Ar w va m f) (hz : ¬ (2 ≤ m ∧ m ≤ 6 ∧ szB f m)) :
    Calls Tryz.prog 15 #[va] w fun e w' => e = .returned (.int .i64 (-1)) ∧ Below w.heap.size w w' := by
  have hB0 : Hid (Below w.heap.size w w) := Below.refl _ _
  by_cases h2 : m < 2
  · obtain ⟨adr, cap, b, o, rfl, k1, k2, k3, k4⟩ := hA
    have q1 : (m : Int) < 2 := by omega
    clear k3 k4 hz
    go_enter Tryz.func15, Tryz.ntmps15
    go_wp2
    go_ret
    exact ⟨rfl, hB0.out⟩
  by_cases h6 : 6 < m
  · obtain ⟨adr, cap, b, o, rfl, k1, k2, k3, k4⟩ := hA
    have q1 : ¬ (m : Int) < 2 := by omega
    have q2 : (6 : Int) < (m : Int) := by omega
    clear k3 k4 hz
    go_enter Tryz.func15, Tryz.ntmps15
    go_wp2
    go_ret
    exact ⟨rfl, hB0.out⟩
  have hex : ∃ k, k < m ∧ ¬ (1 ≤ f k ∧ f k ≤ 64) := by
    by_cases h : ∃ k, k < m ∧ ¬ (1 ≤ f k ∧ f k ≤ 64)
    · exact h
    · exact absurd ⟨by omega, by omega, fun i hi => Classical.byContradiction fun hc => h ⟨i, hi, hc⟩⟩ hz
  obtain ⟨k, ⟨hkm, hkb⟩, -, hkl⟩ : ∃ q, (q < m ∧ ¬ (1 ≤ f q ∧ f q ≤ 64)) ∧ q ≤ m ∧ ∀ j, j < q → ¬ (j < m ∧ ¬ (1 ≤ f j ∧ f j ≤ 64)) := by
    classical
    obtain ⟨k0, hk0⟩ := hex
    obtain ⟨q, a1, a2, a3⟩ := least (fun q => q < m ∧ ¬ (1 ≤ f q ∧ f q ≤ 64)) k0 hk0
    exact ⟨q, a1, by omega, a3⟩
  obtain ⟨adr, cap, b, o, rfl, k1, k2, k3, k4⟩ := hA
  unfold maxLen at k2
  have ha := k3 (by omega)
  subst ha
  have HX : Hid (∀ i, i < m → w.cell? ⟨b, o + i, none⟩ = some (.int .i64 (f i))) := fun i hi => (k4 i hi).1
  have HZ : Hid (∀ i, i < k → 1 ≤ f i ∧ f i ≤ 64) := fun i hi => Classical.byContradiction fun hc => hkl i hi ⟨by omega, hc⟩
  have HK : Hid (¬ (1 ≤ f k ∧ f k ≤ 64)) := hkb
  clear k3 k4 hz hkb hkl hex
  have q1 : ¬ (m : Int) < 2 := by omega
  have q2 : ¬ (6 : Int) < (m : Int) := by omega
  go_enter Tryz.func15, Tryz.ntmps15
  go_upto_region 5 with fail
  go_loopw [3, 4] (fun s3 si wr => ∃ i v : Nat, i ≤ k ∧ si = .int .i64 (i : Int) ∧ s3 = .int .i64 (v : Int) ∧ v ≤ 4160 * i ∧ Hid (Below w.heap.size w wr)) (fun _ si _ => m - (intOf si).toNat)
  case atStart => exact ⟨0, 0, by omega, rfl, rfl, by omega, Below.refl _ _⟩
  case round =>
    obtain ⟨i, v, hi, rfl, rfl, hvb, HW⟩ := hrel
    have hlt : i < m := by omega
    have hiI : (i : Int) < (m : Int) := by omega
    have cA : wr.cell? ⟨b, o + i, none⟩ = some (.int .i64 (f i)) := cell_later HW.out (HX.out i hlt)
    by_cases hik : i = k
    · have hb := HK.out
      rw [← hik] at hb
      generalize f i = x at *
      clear hik
      by_cases hx : x < 1
      · by_cases h0 : i = 0
        · subst h0
          rw [Nat.add_zero] at cA
          go_wp2
          go_ret
          exact ⟨rfl, HW.out⟩
        · go_wp2
          go_ret
          exact ⟨rfl, HW.out⟩
      · have hx2 : 64 < x := by omega
        by_cases h0 : i = 0
        · subst h0
          rw [Nat.add_zero] at cA
          go_wp2
          go_ret
          exact ⟨rfl, HW.out⟩
        · go_wp2
          go_ret
          exact ⟨rfl, HW.out⟩
    · obtain ⟨z1, z2⟩ := HZ.out i (by omega)
      have zI1 : ¬ f i < 1 := by omega
      have zI2 : ¬ 64 < f i := by omega
      by_cases h0 : 0 < i
      · have h0I : (0 : Int) < (i : Int) := by omega
        have cB : wr.cell? ⟨b, o + (i - 1), none⟩ = some (.int .i64 (f (i - 1))) := cell_later HW.out (HX.out (i - 1) (by omega))
        obtain ⟨y1, y2⟩ := HZ.out (i - 1) (by omega)
        obtain ⟨za, hza⟩ : ∃ y : Nat, f (i - 1) = (y : Int) := ⟨(f (i - 1)).toNat, by omega⟩
        obtain ⟨zb, hzb⟩ : ∃ y : Nat, f i = (y : Int) := ⟨(f i).toNat, by omega⟩
        rw [hza] at cB y1 y2
        rw [hzb] at cA z1 z2 zI1 zI2
        obtain ⟨pr, hpr⟩ : ∃ p, za * zb = p := ⟨_, rfl⟩
        have hpb : pr ≤ 64 * 64 := by rw [← hpr]; exact Nat.mul_le_mul (by omega) (by omega)
        have epr : (za : Int) * (zb : Int) = (pr : Int) := by rw [← hpr, Int.natCast_mul]
        have hi1 : ((i - 1 : Nat) : Int) < (m : Int) := by omega
        have w1 : IntKind.i64.wrap ((i : Int) - 1) = ((i - 1 : Nat) : Int) := by rw [IntKind.wrap_i64]; omega
        have w2 : IntKind.i64.wrap (pr : Int) = (pr : Int) := by rw [IntKind.wrap_i64]; omega
        have w3 : IntKind.i64.wrap ((pr : Int) + (zb : Int)) = ((pr + zb : Nat) : Int) := by rw [IntKind.wrap_i64]; omega
        have w4 : IntKind.i64.wrap ((v : Int) + ((pr + zb : Nat) : Int)) = ((v + (pr + zb) : Nat) : Int) := by rw [IntKind.wrap_i64]; omega
        have hv2 : v + (pr + zb) ≤ 4160 * (i + 1) := by omega
        have hik2 : i + 1 ≤ k := by omega
        clear hza hzb hpr hik
        generalize i - 1 = ip at *
        generalize v + (pr + zb) = vv at *
        generalize pr + zb = pz at *
        go_upto_region 10 with fail
        go_quiet (fail)
        go_wp2
        go_roundw
        case rel => exact ⟨i + 1, vv, hik2, by go_num, rfl, hv2, below_drewN HW.out _⟩
        case measure => simp [intOf]; omega
      · obtain rfl : i = 0 := by omega
        rw [Nat.add_zero] at cA
        go_wp2
        go_roundw
        case rel => exact ⟨1, v, by omega, by go_num, rfl, by omega, HW⟩
        case measure => simp [intOf]; omega
end Go.Proofs.YtdfjnbkkdgolnabGreatDoor
set_option linter.unusedVariables false
set_option linter.unusedSimpArgs false
namespace Go.Proofs.YtdfjnbkkdgolnabGreatDoor
open Go.RowKit

/-- Where a weight stands, and an offset. -/
def wtN (z : Nat → Nat) (l u i : Nat) : Nat := fsN z l + u * z l + i
def ofN (z : Nat → Nat) (l u : Nat) : Nat := fsN z l + z l * z (l + 1) + u
theorem wtN_lt (z : Nat → Nat) (l u i : Nat) (hu : u < z (l + 1)) (hi : i < z l) : wtN z l u i < fsN z (l + 1) := by
  have h : (u + 1) * z l ≤ z (l + 1) * z l := Nat.mul_le_mul_right _ hu
  rw [Nat.succ_mul, Nat.mul_comm (z (l + 1))] at h
  show fsN z l + u * z l + i < fsN z l + (z l * z (l + 1) + z (l + 1))
  omega
theorem ofN_lt (z : Nat → Nat) (l u : Nat) (hu : u < z (l + 1)) : ofN z l u < fsN z (l + 1) := by
  show fsN z l + z l * z (l + 1) + u < fsN z l + (z l * z (l + 1) + z (l + 1))
  omega
end Go.Proofs.YtdfjnbkkdgolnabGreatDoor
