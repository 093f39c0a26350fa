/-
  Texts of this proof, joined: BH BG BI VFrame VDoor.
-/
import Derived.Test.YtdfjnbkkdgolnaaGreatDoorSL00
import Derived.Test.YtdfjnbkkdgolnaaGreatDoorSL01
import Derived.Test.YtdfjnbkkdgolnaaGreatDoorSL02
import Derived.Test.YtdfjnbkkdgolnaaGreatDoorTie
import Derived.WalkLawsBesides
import Derived.Laws.MathBits
import Derived.Deep.CutBlock
import Derived.Deep.DeepCutAuto
import Derived.OwnWalk
import Derived.Deep.RegionHeld3
import Derived.Deep.SlicePairs
import Derived.Carry
import Derived.Lib.LaidTab
import Derived.LaidMore
import Derived.Stop.Joined
set_option linter.unusedVariables false
set_option linter.unusedSimpArgs false
namespace Go.Proofs.YtdfjnbkkdgolnaaGreatDoor
open Go.RowKit
theorem clv_fit (v : Int) : -9223372036854775808 ≤ clv v ∧ clv v ≤ 9223372036854775807 := by
  unfold clv
  split
  · omega
  · split <;> omega
set_option maxHeartbeats 1000000 in
theorem steps_any (a : Int) (a0 : -9223372036854775808 ≤ a) (a1 : a ≤ 9223372036854775807) (w : World) :
    Calls Tryz.prog 196 #[.int .i64 a] w fun e w' => e = .returned (.agg #[.int .i64 (hi a), .int .u64 (lo a)]) ∧ Below w.heap.size w w' := by
  go_enter Tryz.func196, Tryz.ntmps196
  go_wp2_with fail
  refine (of_any a a0 a1 _).mono ?_
  rintro e w1 ⟨rfl, hb⟩
  obtain ⟨hc, hf⟩ := bcell hb
  have hz := hb.size
  simp at hc hf hz
  go_wp2_with fail
  exact bodyPost_ret (v := .agg #[.int .i64 (hi a), .int .u64 (lo a)]) (by simp [results, Tryz.results196, go_sem, hc]) rfl ⟨rfl, ((((bel1 w _).trans (hb.mono (by simp))).setCell (by simp) _).setCell (by simp) _)⟩
set_option maxHeartbeats 1000000 in
theorem hold_any (v : Int) (h0 : -170141183460469231731687303715884105728 ≤ v) (h1 : v ≤ 170141183460469231731687303715884105727) (w : World) :
    Calls Tryz.prog 119 #[.agg #[.int .i64 (hi v), .int .u64 (lo v)]] w fun e w' => e = .returned (.tuple #[.int .i64 (clv v), .bool (ovv v)]) ∧ Below w.heap.size w w' := by
  obtain ⟨c0, c1⟩ := clv_fit v
  go_enter Tryz.func119, Tryz.ntmps119
  go_wp2_with fail
  refine (clamp_any v h0 h1 _).mono ?_
  rintro e w1 ⟨rfl, hb⟩
  have W1 := bchain (bel1 w _) hb
  clear hb
  go_wp2
  go_ret2
  exact ⟨rfl, W1⟩
set_option maxHeartbeats 1000000 in
theorem fsub_any (a b : Int) (a0 : -9223372036854775808 ≤ a) (a1 : a ≤ 9223372036854775807) (b0 : -9223372036854775808 ≤ b) (b1 : b ≤ 9223372036854775807) (w : World) :
    Calls Tryz.prog 195 #[.int .i64 a, .int .i64 b] w fun e w' => e = .returned (.tuple #[.int .i64 (clv (a - b)), .bool (ovv (a - b))]) ∧ Below w.heap.size w w' := by
  go_enter Tryz.func195, Tryz.ntmps195
  go_wp2_with fail
  refine (steps_any a a0 a1 _).mono ?_
  rintro e w1 ⟨rfl, W1⟩
  go_wp2_with fail
  refine (steps_any b b0 b1 _).mono ?_
  rintro e w2 ⟨rfl, hb⟩
  have W2 := bchain W1 hb
  clear hb W1
  go_wp2_with fail
  refine (sub_any a b _).mono ?_
  rintro e w3 ⟨rfl, hb⟩
  have W3 := bchain W2 hb
  clear hb W2
  go_wp2_with fail
  refine (hold_any (a - b) (by omega) (by omega) _).mono ?_
  rintro e w4 ⟨rfl, hb⟩
  have W4 := bchain W3 hb
  clear hb W3
  go_wp2
  go_ret2
  exact ⟨rfl, W4⟩
set_option maxHeartbeats 1000000 in
theorem fneg_any (a : Int) (a0 : -9223372036854775808 ≤ a) (a1 : a ≤ 9223372036854775807) (w : World) :
    Calls Tryz.prog 201 #[.int .i64 a] w fun e w' => e = .returned (.tuple #[.int .i64 (clv (-a)), .bool (ovv (-a))]) ∧ Below w.heap.size w w' := by
  go_enter Tryz.func201, Tryz.ntmps201
  go_wp2_with fail
  have h := fsub_any 0 a (by omega) (by omega) a0 a1 w
  rw [Int.zero_sub] at h
  refine h.mono ?_
  clear h
  rintro e w1 ⟨rfl, W1⟩
  go_wp2
  go_ret2
  exact ⟨rfl, W1⟩
theorem mul_in (a b : Int) (a0 : -9223372036854775808 ≤ a) (a1 : a ≤ 9223372036854775807) (b0 : -9223372036854775808 ≤ b) (b1 : b ≤ 9223372036854775807) : -85070591730234615865843651857942052864 ≤ a * b ∧ a * b ≤ 85070591730234615865843651857942052864 := by
  by_cases ha : a < 0
  · have h1 := Int.mul_le_mul_of_nonneg_left b0 (show 0 ≤ -a by omega)
    have h2 := Int.mul_le_mul_of_nonneg_left b1 (show 0 ≤ -a by omega)
    rw [Int.neg_mul a b] at h1 h2
    omega
  · have h1 := Int.mul_le_mul_of_nonneg_left b0 (show 0 ≤ a by omega)
    have h2 := Int.mul_le_mul_of_nonneg_left b1 (show 0 ≤ a by omega)
    omega
theorem rnd_in (v : Int) (k : Nat) (B : Int) (B0 : 1 ≤ B) (v0 : -B ≤ v) (v1 : v ≤ B) : -B - 1 ≤ rnd v k ∧ rnd v k ≤ B + 1 := by
  have hp := pow_pos' k
  have h1 : -B ≤ v / 2 ^ k := by
    rw [Int.le_ediv_iff_mul_le (by omega)]
    have := Int.mul_le_mul_of_nonneg_left (show (1 : Int) ≤ 2 ^ k by omega) (show 0 ≤ B by omega)
    rw [Int.neg_mul]; omega
  have h2 : v / 2 ^ k ≤ B := by
    by_cases h : 0 ≤ v
    · have := Int.ediv_le_self (2 ^ k) h; omega
    · have := Int.ediv_neg_of_neg_of_pos (show v < 0 by omega) (show (0 : Int) < 2 ^ k by omega); omega
  unfold rnd
  split <;> omega
set_option maxHeartbeats 1000000 in
theorem fmul_any (a b : Int) (a0 : -9223372036854775808 ≤ a) (a1 : a ≤ 9223372036854775807) (b0 : -9223372036854775808 ≤ b) (b1 : b ≤ 9223372036854775807) (w : World) :
    Calls Tryz.prog 162 #[.int .i64 a, .int .i64 b] w fun e w' => e = .returned (.tuple #[.int .i64 (clv (rnd (a * b) 32)), .bool (ovv (rnd (a * b) 32))]) ∧ Below w.heap.size w w' := by
  obtain ⟨m0, m1⟩ := mul_in a b a0 a1 b0 b1
  obtain ⟨r0, r1⟩ := rnd_in (a * b) 32 85070591730234615865843651857942052864 (by omega) m0 m1
  have MU : Hid (∀ W : World, Calls Tryz.prog 95 #[.int .i64 a, .int .i64 b] W fun e w' => e = .returned (.agg #[.int .i64 (hi (a * b)), .int .u64 (lo (a * b))]) ∧ Below W.heap.size W w') := fun W => mul_any a b a0 a1 b0 b1 W
  generalize a * b = p at *
  go_enter Tryz.func162, Tryz.ntmps162
  go_wp2_with fail
  refine (MU.out _).mono ?_
  rintro e w1 ⟨rfl, W1⟩
  clear MU
  go_wp2_with fail
  refine (round_mid p 32 (by omega) (by omega) (by omega) (by omega) _).mono ?_
  rintro e w2 ⟨rfl, hb⟩
  have W2 := bchain W1 hb
  clear hb W1
  go_wp2_with fail
  refine (hold_any (rnd p 32) (by omega) (by omega) _).mono ?_
  rintro e w3 ⟨rfl, hb⟩
  have W3 := bchain W2 hb
  clear hb W2
  go_wp2
  go_ret2
  exact ⟨rfl, W3⟩
end Go.Proofs.YtdfjnbkkdgolnaaGreatDoor
set_option linter.unusedVariables false
set_option linter.unusedSimpArgs false
namespace Go.Proofs.YtdfjnbkkdgolnaaGreatDoor
open Go.RowKit

/-- From a world to one in which a unit's count is n, and whatever lay elsewhere is as it was. -/
structure Un (d : Nat) (n : Int) (w w' : World) : Prop where
  c : w'.cell? ⟨d, 0, none⟩ = some (.int .i64 n)
  f : w'.frozen? ⟨d, 0, none⟩ = false
  b : ∀ (base : Nat) (w0 : World), base ≤ d → base ≤ w.heap.size → Below base w0 w → Below base w0 w'
  o : ∀ (a : Addr) (v : Value), a.block ≠ d → w.cell? a = some v → w'.cell? a = some v
  s : w.heap.size ≤ w'.heap.size
  k : ∀ i : Nat, i < w.heap.size → i ≠ d → w'.heap[i]? = w.heap[i]?
theorem Un.same {d : Nat} {n : Int} {w : World} (c : w.cell? ⟨d, 0, none⟩ = some (.int .i64 n)) (f : w.frozen? ⟨d, 0, none⟩ = false) : Un d n w w :=
  ⟨c, f, fun _ _ _ _ h => h, fun _ _ _ h => h, Nat.le_refl _, fun _ _ _ => rfl⟩
theorem Un.set {d : Nat} {n m : Int} {w : World} (c : w.cell? ⟨d, 0, none⟩ = some (.int .i64 n)) (f : w.frozen? ⟨d, 0, none⟩ = false) : Un d m w (w.setCell ⟨d, 0, none⟩ (.int .i64 m)) where
  c := by simp [go_sem, c, f]
  f := by rw [World.frozen?_setCell]; exact f
  b := fun base w0 hd _ h => h.setCell (by dsimp only; omega) _
  o := fun a v ha h => cell_set (fun he => ha he.symm) h
  s := by simp
  k := fun i _ hn => Below.heap_setCell _ _ _ _ hn
/-- Behind whatever changes nothing that was there. -/
theorem Un.after {d : Nat} {n : Int} {w w1 w2 : World} (hb : Below w.heap.size w w1) (h : Un d n w1 w2) : Un d n w w2 where
  c := h.c
  f := h.f
  b := fun base w0 hd hs h0 => h.b base w0 hd (Nat.le_trans hs hb.size) (h0.trans (hb.mono hs))
  o := fun a v ha hc => h.o a v ha (cell_later hb hc)
  s := Nat.le_trans hb.size h.s
  k := fun i hi hn => (h.k i (Nat.lt_of_lt_of_le hi hb.size) hn).trans (hb.block i hi)
/-- Ahead of it. -/
theorem Un.ahead {d : Nat} {n : Int} {w w1 w2 : World} (h : Un d n w w1) (hb : Below w1.heap.size w1 w2) : Un d n w w2 where
  c := cell_later hb h.c
  f := frozen_later hb h.c h.f
  b := fun base w0 hd hs h0 => (h.b base w0 hd hs h0).trans (hb.mono (Nat.le_trans hs h.s))
  o := fun a v ha hc => cell_later hb (h.o a v ha hc)
  s := Nat.le_trans h.s hb.size
  k := fun i hi hn => (hb.block i (Nat.lt_of_lt_of_le hi h.s)).trans (h.k i hi hn)

/-- A result that was held counts for one. -/
def bi (o : Bool) : Int := if o = true then 1 else 0

set_option maxHeartbeats 1000000 in
theorem take_nil (a : Int) (o : Bool) (w : World) :
    Calls Tryz.prog 128 #[.pointer none, .int .i64 a, .bool o] w fun e w' => e = .returned (.int .i64 a) ∧ w' = w := by
  cases o
  · go_enter Tryz.func128, Tryz.ntmps128
    go_wp2
    go_ret
    exact ⟨rfl, rfl⟩
  · go_enter Tryz.func128, Tryz.ntmps128
    go_wp2
    go_ret
    exact ⟨rfl, rfl⟩
set_option maxHeartbeats 1000000 in
theorem more_any (d : Nat) (n : Int) (n0 : 0 ≤ n) (n1 : n ≤ 1000000000) (w : World) (c : w.cell? ⟨d, 0, none⟩ = some (.int .i64 n)) (f : w.frozen? ⟨d, 0, none⟩ = false) :
    Calls Tryz.prog 149 #[.pointer (some ⟨d, 0, none⟩)] w fun e w' => e = .returned (.tuple #[]) ∧ w' = w.setCell ⟨d, 0, none⟩ (.int .i64 (n + 1)) := by
  go_enter Tryz.func149, Tryz.ntmps149
  go_wp2
  go_end0
  exact ⟨rfl, rfl⟩
set_option maxHeartbeats 1000000 in
theorem take_un (d : Nat) (n a : Int) (o : Bool) (n0 : 0 ≤ n) (n1 : n ≤ 1000000000) (w : World) (c : w.cell? ⟨d, 0, none⟩ = some (.int .i64 n)) (f : w.frozen? ⟨d, 0, none⟩ = false) :
    Calls Tryz.prog 128 #[.pointer (some ⟨d, 0, none⟩), .int .i64 a, .bool o] w fun e w' => e = .returned (.int .i64 a) ∧ Un d (n + bi o) w w' := by
  have U0 : Hid (Un d n w w) := Un.same c f
  have U1 : Hid (Un d (n + 1) w (w.setCell ⟨d, 0, none⟩ (.int .i64 (n + 1)))) := Un.set c f
  cases o
  · have e0 : n + bi false = n := by unfold bi; simp
    rw [e0]
    go_enter Tryz.func128, Tryz.ntmps128
    go_wp2
    go_ret
    exact ⟨rfl, U0.out⟩
  · have e0 : n + bi true = n + 1 := by unfold bi; simp
    rw [e0]
    go_enter Tryz.func128, Tryz.ntmps128
    go_wp2_with fail
    refine (more_any d n n0 n1 _ c f).mono ?_
    rintro e w1 ⟨rfl, hw⟩
    subst hw
    go_wp2
    go_ret
    exact ⟨rfl, U1.out⟩
set_option maxHeartbeats 1000000 in
theorem count_any (d : Nat) (n : Int) (w : World) (c : w.cell? ⟨d, 0, none⟩ = some (.int .i64 n)) :
    Calls Tryz.prog 23 #[.pointer (some ⟨d, 0, none⟩)] w fun e w' => e = .returned (.int .i64 n) ∧ w' = w := by
  go_enter Tryz.func23, Tryz.ntmps23
  go_wp2
  go_ret
  exact ⟨rfl, rfl⟩
end Go.Proofs.YtdfjnbkkdgolnaaGreatDoor
set_option linter.unusedVariables false
set_option linter.unusedSimpArgs false
namespace Go.Proofs.YtdfjnbkkdgolnaaGreatDoor
open Go.RowKit

set_option maxHeartbeats 1000000 in
theorem tkSub_nil (a b : Int) (a0 : -9223372036854775808 ≤ a) (a1 : a ≤ 9223372036854775807) (b0 : -9223372036854775808 ≤ b) (b1 : b ≤ 9223372036854775807) (w : World) :
    Calls Tryz.prog 161 #[.func (.func 128) #[.pointer none] #[], .func (.func 195) #[] #[], .int .i64 a, .int .i64 b] w fun e w' => e = .returned (.int .i64 (clv (a - b))) ∧ Below w.heap.size w w' := by
  have P : Hid (∀ W : World, Calls Tryz.prog 195 #[.int .i64 a, .int .i64 b] W fun e w' => e = .returned (.tuple #[.int .i64 (clv (a - b)), .bool (ovv (a - b))]) ∧ Below W.heap.size W w') := fun W => fsub_any a b a0 a1 b0 b1 W
  go_enter Tryz.func161, Tryz.ntmps161
  go_wp2_with fail
  refine (P.out _).mono ?_
  rintro e w1 ⟨rfl, W1⟩
  clear P
  go_wp2_with fail
  refine (take_nil _ _ _).mono ?_
  rintro e wz ⟨rfl, hz⟩
  subst hz
  go_wp2
  go_ret
  exact ⟨rfl, W1⟩
set_option maxHeartbeats 1000000 in
theorem tkSub_un (a b : Int) (a0 : -9223372036854775808 ≤ a) (a1 : a ≤ 9223372036854775807) (b0 : -9223372036854775808 ≤ b) (b1 : b ≤ 9223372036854775807) (d : Nat) (n : Int) (n0 : 0 ≤ n) (n1 : n ≤ 1000000000) (w : World) (c : w.cell? ⟨d, 0, none⟩ = some (.int .i64 n)) (f : w.frozen? ⟨d, 0, none⟩ = false) :
    Calls Tryz.prog 161 #[.func (.func 128) #[.pointer (some ⟨d, 0, none⟩)] #[], .func (.func 195) #[] #[], .int .i64 a, .int .i64 b] w fun e w' => e = .returned (.int .i64 (clv (a - b))) ∧ Un d (n + bi (ovv (a - b))) w w' := by
  have P : Hid (∀ W : World, Calls Tryz.prog 195 #[.int .i64 a, .int .i64 b] W fun e w' => e = .returned (.tuple #[.int .i64 (clv (a - b)), .bool (ovv (a - b))]) ∧ Below W.heap.size W w') := fun W => fsub_any a b a0 a1 b0 b1 W
  go_enter Tryz.func161, Tryz.ntmps161
  go_wp2_with fail
  refine (P.out _).mono ?_
  rintro e w1 ⟨rfl, W1⟩
  clear P
  have c1 := cell_later W1 c
  have f1 := frozen_later W1 c f
  go_wp2_with fail
  refine (take_un d n _ _ n0 n1 _ c1 f1).mono ?_
  rintro e w2 ⟨rfl, hU⟩
  have hV := Un.after W1 hU
  clear hU W1 c1 f1 c f
  go_wp2
  go_ret
  exact ⟨rfl, hV⟩
set_option maxHeartbeats 1000000 in
theorem uSub_nil (a b : Int) (a0 : -9223372036854775808 ≤ a) (a1 : a ≤ 9223372036854775807) (b0 : -9223372036854775808 ≤ b) (b1 : b ≤ 9223372036854775807) (w : World) :
    Calls Tryz.prog 193 #[.pointer none, .int .i64 a, .int .i64 b] w fun e w' => e = .returned (.int .i64 (clv (a - b))) ∧ Below w.heap.size w w' := by
  have hmf : ∀ (fn : Fn) (first cap : Array Value) (w : World), (Instr.makeFunc fn first cap).run Tryz.prog w = .ok (.func fn first cap) w := fun _ _ _ _ => rfl
  go_enter Tryz.func193, Tryz.ntmps193
  go_wp2_with fail
  refine (tkSub_nil a b a0 a1 b0 b1 _).mono ?_
  rintro e w1 ⟨rfl, W1⟩
  go_wp2
  go_ret
  exact ⟨rfl, W1⟩
set_option maxHeartbeats 1000000 in
theorem uSub_un (a b : Int) (a0 : -9223372036854775808 ≤ a) (a1 : a ≤ 9223372036854775807) (b0 : -9223372036854775808 ≤ b) (b1 : b ≤ 9223372036854775807) (d : Nat) (n : Int) (n0 : 0 ≤ n) (n1 : n ≤ 1000000000) (w : World) (c : w.cell? ⟨d, 0, none⟩ = some (.int .i64 n)) (f : w.frozen? ⟨d, 0, none⟩ = false) :
    Calls Tryz.prog 193 #[.pointer (some ⟨d, 0, none⟩), .int .i64 a, .int .i64 b] w fun e w' => e = .returned (.int .i64 (clv (a - b))) ∧ Un d (n + bi (ovv (a - b))) w w' := by
  have hmf : ∀ (fn : Fn) (first cap : Array Value) (w : World), (Instr.makeFunc fn first cap).run Tryz.prog w = .ok (.func fn first cap) w := fun _ _ _ _ => rfl
  go_enter Tryz.func193, Tryz.ntmps193
  go_wp2_with fail
  refine (tkSub_un a b a0 a1 b0 b1 d n n0 n1 _ c f).mono ?_
  rintro e w1 ⟨rfl, W1⟩
  clear c f
  go_wp2
  go_ret
  exact ⟨rfl, W1⟩
set_option maxHeartbeats 1000000 in
theorem tkMul_nil (a b : Int) (a0 : -9223372036854775808 ≤ a) (a1 : a ≤ 9223372036854775807) (b0 : -9223372036854775808 ≤ b) (b1 : b ≤ 9223372036854775807) (w : World) :
    Calls Tryz.prog 161 #[.func (.func 128) #[.pointer none] #[], .func (.func 162) #[] #[], .int .i64 a, .int .i64 b] w fun e w' => e = .returned (.int .i64 (clv (rnd (a * b) 32))) ∧ Below w.heap.size w w' := by
  have P : Hid (∀ W : World, Calls Tryz.prog 162 #[.int .i64 a, .int .i64 b] W fun e w' => e = .returned (.tuple #[.int .i64 (clv (rnd (a * b) 32)), .bool (ovv (rnd (a * b) 32))]) ∧ Below W.heap.size W w') := fun W => fmul_any a b a0 a1 b0 b1 W
  go_enter Tryz.func161, Tryz.ntmps161
  go_wp2_with fail
  refine (P.out _).mono ?_
  rintro e w1 ⟨rfl, W1⟩
  clear P
  go_wp2_with fail
  refine (take_nil _ _ _).mono ?_
  rintro e wz ⟨rfl, hz⟩
  subst hz
  go_wp2
  go_ret
  exact ⟨rfl, W1⟩
set_option maxHeartbeats 1000000 in
theorem tkMul_un (a b : Int) (a0 : -9223372036854775808 ≤ a) (a1 : a ≤ 9223372036854775807) (b0 : -9223372036854775808 ≤ b) (b1 : b ≤ 9223372036854775807) (d : Nat) (n : Int) (n0 : 0 ≤ n) (n1 : n ≤ 1000000000) (w : World) (c : w.cell? ⟨d, 0, none⟩ = some (.int .i64 n)) (f : w.frozen? ⟨d, 0, none⟩ = false) :
    Calls Tryz.prog 161 #[.func (.func 128) #[.pointer (some ⟨d, 0, none⟩)] #[], .func (.func 162) #[] #[], .int .i64 a, .int .i64 b] w fun e w' => e = .returned (.int .i64 (clv (rnd (a * b) 32))) ∧ Un d (n + bi (ovv (rnd (a * b) 32))) w w' := by
  have P : Hid (∀ W : World, Calls Tryz.prog 162 #[.int .i64 a, .int .i64 b] W fun e w' => e = .returned (.tuple #[.int .i64 (clv (rnd (a * b) 32)), .bool (ovv (rnd (a * b) 32))]) ∧ Below W.heap.size W w') := fun W => fmul_any a b a0 a1 b0 b1 W
  go_enter Tryz.func161, Tryz.ntmps161
  go_wp2_with fail
  refine (P.out _).mono ?_
  rintro e w1 ⟨rfl, W1⟩
  clear P
  have c1 := cell_later W1 c
  have f1 := frozen_later W1 c f
  go_wp2_with fail
  refine (take_un d n _ _ n0 n1 _ c1 f1).mono ?_
  rintro e w2 ⟨rfl, hU⟩
  have hV := Un.after W1 hU
  clear hU W1 c1 f1 c f
  go_wp2
  go_ret
  exact ⟨rfl, hV⟩
set_option maxHeartbeats 1000000 in
theorem uMul_nil (a b : Int) (a0 : -9223372036854775808 ≤ a) (a1 : a ≤ 9223372036854775807) (b0 : -9223372036854775808 ≤ b) (b1 : b ≤ 9223372036854775807) (w : World) :
    Calls Tryz.prog 153 #[.pointer none, .int .i64 a, .int .i64 b] w fun e w' => e = .returned (.int .i64 (clv (rnd (a * b) 32))) ∧ Below w.heap.size w w' := by
  have hmf : ∀ (fn : Fn) (first cap : Array Value) (w : World), (Instr.makeFunc fn first cap).run Tryz.prog w = .ok (.func fn first cap) w := fun _ _ _ _ => rfl
  go_enter Tryz.func153, Tryz.ntmps153
  go_wp2_with fail
  refine (tkMul_nil a b a0 a1 b0 b1 _).mono ?_
  rintro e w1 ⟨rfl, W1⟩
  go_wp2
  go_ret
  exact ⟨rfl, W1⟩
set_option maxHeartbeats 1000000 in
theorem uMul_un (a b : Int) (a0 : -9223372036854775808 ≤ a) (a1 : a ≤ 9223372036854775807) (b0 : -9223372036854775808 ≤ b) (b1 : b ≤ 9223372036854775807) (d : Nat) (n : Int) (n0 : 0 ≤ n) (n1 : n ≤ 1000000000) (w : World) (c : w.cell? ⟨d, 0, none⟩ = some (.int .i64 n)) (f : w.frozen? ⟨d, 0, none⟩ = false) :
    Calls Tryz.prog 153 #[.pointer (some ⟨d, 0, none⟩), .int .i64 a, .int .i64 b] w fun e w' => e = .returned (.int .i64 (clv (rnd (a * b) 32))) ∧ Un d (n + bi (ovv (rnd (a * b) 32))) w w' := by
  have hmf : ∀ (fn : Fn) (first cap : Array Value) (w : World), (Instr.makeFunc fn first cap).run Tryz.prog w = .ok (.func fn first cap) w := fun _ _ _ _ => rfl
  go_enter Tryz.func153, Tryz.ntmps153
  go_wp2_with fail
  refine (tkMul_un a b a0 a1 b0 b1 d n n0 n1 _ c f).mono ?_
  rintro e w1 ⟨rfl, W1⟩
  clear c f
  go_wp2
  go_ret
  exact ⟨rfl, W1⟩
set_option maxHeartbeats 1000000 in
theorem uNear_nil (v : Int) (h0 : -3138550867693340381917894711603833208051177722232017256448 ≤ v) (h1 : v ≤ 3138550867693340381917894711603833208051177722232017256447) (w : World) (hT : TabAt w) :
    Calls Tryz.prog 103 #[.pointer none, .agg #[.int .i64 (t3 v), .int .u64 (m3 v), .int .u64 (lo v)], .int .i64 32] w fun e w' => e = .returned (.int .i64 (clv (rnd v 32))) ∧ Below w.heap.size w w' := by
  have P : Hid (∀ W : World, TabAt W → Calls Tryz.prog 127 #[.agg #[.int .i64 (t3 v), .int .u64 (m3 v), .int .u64 (lo v)], .int .i64 32] W fun e w' => e = .returned (.tuple #[.int .i64 (clv (rnd v 32)), .bool (ovv (rnd v 32))]) ∧ Below W.heap.size W w') := by
    intro W hT
    have h := near_mid v 32 32 rfl (by omega) (by omega) (by omega) W hT
    rw [rl_pos v 32 (by omega)] at h
    exact h
  obtain ⟨k0, k1⟩ := clv_fit (rnd v 32)
  have HT : Hid (TabAt (w.alloc (.cells #[.int .i64 (t3 v), .int .u64 (m3 v), .int .u64 (lo v)] 175))) := hT.later (bel1 w _)
  clear hT
  go_enter Tryz.func103, Tryz.ntmps103
  go_wp2_with fail
  refine (P.out _ HT.out).mono ?_
  rintro e w1 ⟨rfl, hb⟩
  have W1 := bchain (bel1 w _) hb
  clear P HT hb
  go_wp2_with fail
  refine (take_nil _ _ _).mono ?_
  rintro e wz ⟨rfl, hz⟩
  subst hz
  go_wp2
  go_ret
  exact ⟨rfl, W1⟩
set_option maxHeartbeats 1000000 in
theorem uNear_un (v : Int) (h0 : -3138550867693340381917894711603833208051177722232017256448 ≤ v) (h1 : v ≤ 3138550867693340381917894711603833208051177722232017256447) (d : Nat) (n : Int) (n0 : 0 ≤ n) (n1 : n ≤ 1000000000) (w : World) (hT : TabAt w) (c : w.cell? ⟨d, 0, none⟩ = some (.int .i64 n)) (f : w.frozen? ⟨d, 0, none⟩ = false) :
    Calls Tryz.prog 103 #[.pointer (some ⟨d, 0, none⟩), .agg #[.int .i64 (t3 v), .int .u64 (m3 v), .int .u64 (lo v)], .int .i64 32] w fun e w' => e = .returned (.int .i64 (clv (rnd v 32))) ∧ Un d (n + bi (ovv (rnd v 32))) w w' := by
  have P : Hid (∀ W : World, TabAt W → Calls Tryz.prog 127 #[.agg #[.int .i64 (t3 v), .int .u64 (m3 v), .int .u64 (lo v)], .int .i64 32] W fun e w' => e = .returned (.tuple #[.int .i64 (clv (rnd v 32)), .bool (ovv (rnd v 32))]) ∧ Below W.heap.size W w') := by
    intro W hT
    have h := near_mid v 32 32 rfl (by omega) (by omega) (by omega) W hT
    rw [rl_pos v 32 (by omega)] at h
    exact h
  obtain ⟨k0, k1⟩ := clv_fit (rnd v 32)
  have HT : Hid (TabAt (w.alloc (.cells #[.int .i64 (t3 v), .int .u64 (m3 v), .int .u64 (lo v)] 175))) := hT.later (bel1 w _)
  clear hT
  go_enter Tryz.func103, Tryz.ntmps103
  go_wp2_with fail
  refine (P.out _ HT.out).mono ?_
  rintro e w1 ⟨rfl, hb⟩
  have W1 := bchain (bel1 w _) hb
  clear P HT hb
  have c1 := cell_later W1 c
  have f1 := frozen_later W1 c f
  go_wp2_with fail
  refine (take_un d n _ _ n0 n1 _ c1 f1).mono ?_
  rintro e w2 ⟨rfl, hU⟩
  have hV := Un.after W1 hU
  clear hU W1 c1 f1 c f
  go_wp2
  go_ret
  exact ⟨rfl, hV⟩
end Go.Proofs.YtdfjnbkkdgolnaaGreatDoor
set_option linter.unusedVariables false
set_option linter.unusedSimpArgs false
namespace Go.Proofs.YtdfjnbkkdgolnaaGreatDoor
open Go.RowKit

theorem sone_0 (x : Int) (x0 : 0 ≤ x) (x1 : x ≤ 18446744073709551615) (w : World) : Calls Tryz.prog 72 #[.int .u64 x, .int .i64 0] w fun e w' => e = .returned (.agg #[.int .u64 (dg (x) 0), .int .u64 (dg (x) 1), .int .u64 (dg (x) 2), .int .u64 (dg (x) 3), .int .u64 (dg (x) 4), .int .u64 (dg (x) 5)]) ∧ Below w.heap.size w w' := by
  have h := sone_any x 0 (by omega) x0 x1 w
  rw [show x * 2 ^ (32 * 0) = x by rw [Nat.mul_zero, Int.pow_zero, Int.mul_one]] at h
  exact h
theorem sone_1 (x : Int) (x0 : 0 ≤ x) (x1 : x ≤ 18446744073709551615) (w : World) : Calls Tryz.prog 72 #[.int .u64 x, .int .i64 1] w fun e w' => e = .returned (.agg #[.int .u64 (dg (x * 4294967296) 0), .int .u64 (dg (x * 4294967296) 1), .int .u64 (dg (x * 4294967296) 2), .int .u64 (dg (x * 4294967296) 3), .int .u64 (dg (x * 4294967296) 4), .int .u64 (dg (x * 4294967296) 5)]) ∧ Below w.heap.size w w' := by
  have h := sone_any x 1 (by omega) x0 x1 w
  rw [show (2 : Int) ^ (32 * 1) = 4294967296 from rfl] at h
  exact h
theorem sone_2 (x : Int) (x0 : 0 ≤ x) (x1 : x ≤ 18446744073709551615) (w : World) : Calls Tryz.prog 72 #[.int .u64 x, .int .i64 2] w fun e w' => e = .returned (.agg #[.int .u64 (dg (x * 18446744073709551616) 0), .int .u64 (dg (x * 18446744073709551616) 1), .int .u64 (dg (x * 18446744073709551616) 2), .int .u64 (dg (x * 18446744073709551616) 3), .int .u64 (dg (x * 18446744073709551616) 4), .int .u64 (dg (x * 18446744073709551616) 5)]) ∧ Below w.heap.size w w' := by
  have h := sone_any x 2 (by omega) x0 x1 w
  rw [show (2 : Int) ^ (32 * 2) = 18446744073709551616 from rfl] at h
  exact h
theorem B6.farA {b d : Nat} {x : Nat → Int} {w : World} (h : B6 b x w) (hd : d ≠ b) (z : Nat → Int) : B6 b x ((((((w.setCell ⟨d, 0, none⟩ (.int .u64 (z 0))).setCell ⟨d, 1, none⟩ (.int .u64 (z 1))).setCell ⟨d, 2, none⟩ (.int .u64 (z 2))).setCell ⟨d, 3, none⟩ (.int .u64 (z 3))).setCell ⟨d, 4, none⟩ (.int .u64 (z 4))).setCell ⟨d, 5, none⟩ (.int .u64 (z 5))) :=
  (((((h.far _ hd).far _ hd).far _ hd).far _ hd).far _ hd).far _ hd
theorem small_mul (x y : Int) (x0 : 0 ≤ x) (x1 : x ≤ 4294967295) (y0 : 0 ≤ y) (y1 : y ≤ 4294967295) : 0 ≤ x * y ∧ x * y ≤ 18446744073709551615 := by
  have h1 := Int.mul_nonneg x0 y0
  have h2 := Int.mul_le_mul x1 y1 y0 (by omega)
  omega
theorem prod_split (a b : Int) : a % 4294967296 * (b % 4294967296) + a / 4294967296 * (b % 4294967296) * 4294967296 + a % 4294967296 * (b / 4294967296) * 4294967296 + a / 4294967296 * (b / 4294967296) * 18446744073709551616 = a * b := by
  have ea : a = a / 4294967296 * 4294967296 + a % 4294967296 := by omega
  have eb : b = b / 4294967296 * 4294967296 + b % 4294967296 := by omega
  generalize a % 4294967296 = l at *
  generalize a / 4294967296 = h at *
  generalize b % 4294967296 = m at *
  generalize b / 4294967296 = k at *
  subst ea eb
  rw [Int.add_mul, Int.mul_add, Int.mul_add]
  rw [show h * 4294967296 * (k * 4294967296) = h * k * 18446744073709551616 by rw [Int.mul_assoc, Int.mul_left_comm 4294967296 k, ← Int.mul_assoc]; rfl]
  rw [show h * 4294967296 * m = h * m * 4294967296 by rw [Int.mul_right_comm], show l * (k * 4294967296) = l * k * 4294967296 by rw [Int.mul_assoc]]
  omega

set_option maxHeartbeats 2000000 in
theorem sproduct_any (a b : Int) (a0 : 0 ≤ a) (a1 : a ≤ 18446744073709551615) (b0 : 0 ≤ b) (b1 : b ≤ 18446744073709551615) (w : World) :
    Calls Tryz.prog 67 #[.int .u64 a, .int .u64 b] w fun e w' => e = .returned (.agg #[.int .u64 (dg (a * b) 0), .int .u64 (dg (a * b) 1), .int .u64 (dg (a * b) 2), .int .u64 (dg (a * b) 3), .int .u64 (dg (a * b) 4), .int .u64 (dg (a * b) 5)]) ∧ Below w.heap.size w w' := by
  have HP : Hid (a % 4294967296 * (b % 4294967296) + a / 4294967296 * (b % 4294967296) * 4294967296 + a % 4294967296 * (b / 4294967296) * 4294967296 + a / 4294967296 * (b / 4294967296) * 18446744073709551616 = a * b) := prod_split a b
  have t1 := Int.tmod_eq_emod_of_nonneg (b := 4294967296) a0
  have t2 := Int.tdiv_eq_ediv_of_nonneg (b := 4294967296) a0
  have t3' := Int.tmod_eq_emod_of_nonneg (b := 4294967296) b0
  have t4 := Int.tdiv_eq_ediv_of_nonneg (b := 4294967296) b0
  have l0 : 0 ≤ a % 4294967296 := by omega
  have l1 : a % 4294967296 ≤ 4294967295 := by omega
  have h0 : 0 ≤ a / 4294967296 := by omega
  have h1 : a / 4294967296 ≤ 4294967295 := by omega
  have m0 : 0 ≤ b % 4294967296 := by omega
  have m1 : b % 4294967296 ≤ 4294967295 := by omega
  have k0 : 0 ≤ b / 4294967296 := by omega
  have k1 : b / 4294967296 ≤ 4294967295 := by omega
  generalize a % 4294967296 = l at *
  generalize a / 4294967296 = h at *
  generalize b % 4294967296 = m at *
  generalize b / 4294967296 = k at *
  obtain ⟨p1, p2⟩ := small_mul l m l0 l1 m0 m1
  obtain ⟨p3, p4⟩ := small_mul h m h0 h1 m0 m1
  obtain ⟨p5, p6⟩ := small_mul l k l0 l1 k0 k1
  obtain ⟨p7, p8⟩ := small_mul h k h0 h1 k0 k1
  have w1' := wrap_small l l0 (by omega)
  have w2' := wrap_small h h0 (by omega)
  have w3' := wrap_small m m0 (by omega)
  have w4' := wrap_small k k0 (by omega)
  have w5' := wrap_small (l * m) p1 p2
  have w6' := wrap_small (h * m) p3 p4
  have w7' := wrap_small (l * k) p5 p6
  have w8' := wrap_small (h * k) p7 p8
  have R0 := B6.new w (fun _ => 0) 106
  have W0 := bel1 w (.cells #[.int .u64 0, .int .u64 0, .int .u64 0, .int .u64 0, .int .u64 0, .int .u64 0] 106)
  go_enter Tryz.func67, Tryz.ntmps67
  go_wp2_with fail
  refine (sone_0 (l * m) p1 p2 _).mono ?_
  rintro e w1 ⟨rfl, hb⟩
  have R1 := R0.later hb
  have W1 := bchain W0 hb
  clear hb R0 W0
  go_wp2_with fail
  refine (sone_1 (h * m) p3 p4 _).mono ?_
  rintro e w2 ⟨rfl, hb⟩
  have R2 := R1.later hb
  have W2 := bchain W1 hb
  clear hb R1 W1
  go_wp2_with fail
  refine (splus_any (l * m) (h * m * 4294967296) _).mono ?_
  rintro e w3 ⟨rfl, hb⟩
  have R3 := R2.later hb
  have W3 := bchain W2 hb
  clear hb R2 W2
  generalize l * m + h * m * 4294967296 = X at *
  have hsz := R3.lt
  have D4 := B6.new w3 (dg X) 106
  have R4 := R3.later (bel1 w3 (.cells #[.int .u64 (dg (X) 0), .int .u64 (dg (X) 1), .int .u64 (dg (X) 2), .int .u64 (dg (X) 3), .int .u64 (dg (X) 4), .int .u64 (dg (X) 5)] 106))
  have W4 := bchain W3 (bel1 w3 (.cells #[.int .u64 (dg (X) 0), .int .u64 (dg (X) 1), .int .u64 (dg (X) 2), .int .u64 (dg (X) 3), .int .u64 (dg (X) 4), .int .u64 (dg (X) 5)] 106))
  clear R3 W3
  go_upto_region 4 with fail
  generalize w3.alloc (.cells #[.int .u64 (dg (X) 0), .int .u64 (dg (X) 1), .int .u64 (dg (X) 2), .int .u64 (dg (X) 3), .int .u64 (dg (X) 4), .int .u64 (dg (X) 5)] 106) = w4 at *
  generalize w3.heap.size = d at *
  have hd1 : Below w4.heap.size w4 w4.drew := (Below.refl _ _).drew
  have CD := D4.later hd1
  have CR := R4.later hd1
  have CW : Hid (Below w.heap.size w w4.drew) := W4.drew
  clear hd1 D4 R4 W4
  have x0 := CD.c 0 (by omega); have x1 := CD.c 1 (by omega); have x2 := CD.c 2 (by omega); have x3 := CD.c 3 (by omega); have x4 := CD.c 4 (by omega); have x5 := CD.c 5 (by omega); have xf0 := CD.f 0 (by omega); have xf1 := CD.f 1 (by omega); have xf2 := CD.f 2 (by omega); have xf3 := CD.f 3 (by omega); have xf4 := CD.f 4 (by omega); have xf5 := CD.f 5 (by omega)
  go_region_with (first
    | (go_at_call 72; refine (sone_1 (l * k) p5 p6 _).mono ?_; rintro e wz ⟨rfl, hb⟩; clear x0 x1 x2 x3 x4 x5 xf0 xf1 xf2 xf3 xf4 xf5; replace CD := CD.later hb; replace CR := CR.later hb; replace CW := hidD' CW hb; clear hb; have x0 := CD.c 0 (by omega); have x1 := CD.c 1 (by omega); have x2 := CD.c 2 (by omega); have x3 := CD.c 3 (by omega); have x4 := CD.c 4 (by omega); have x5 := CD.c 5 (by omega); have xf0 := CD.f 0 (by omega); have xf1 := CD.f 1 (by omega); have xf2 := CD.f 2 (by omega); have xf3 := CD.f 3 (by omega); have xf4 := CD.f 4 (by omega); have xf5 := CD.f 5 (by omega))
    | (go_at_call 71; refine (splus_any X (l * k * 4294967296) _).mono ?_; rintro e wz ⟨rfl, hb⟩; clear x0 x1 x2 x3 x4 x5 xf0 xf1 xf2 xf3 xf4 xf5; replace CD := CD.later hb; replace CR := CR.later hb; replace CW := hidD' CW hb; clear hb; have x0 := CD.c 0 (by omega); have x1 := CD.c 1 (by omega); have x2 := CD.c 2 (by omega); have x3 := CD.c 3 (by omega); have x4 := CD.c 4 (by omega); have x5 := CD.c 5 (by omega); have xf0 := CD.f 0 (by omega); have xf1 := CD.f 1 (by omega); have xf2 := CD.f 2 (by omega); have xf3 := CD.f 3 (by omega); have xf4 := CD.f 4 (by omega); have xf5 := CD.f 5 (by omega)))
  all_goals
    have D5 := CD.all (dg (X + l * k * 4294967296))
    have R5 := CR.farA (d := d) (by omega) (dg (X + l * k * 4294967296))
    have W5 := bel6 CW.out (b := d) (by omega) (dg (X + l * k * 4294967296))
    clear x0 x1 x2 x3 x4 x5 xf0 xf1 xf2 xf3 xf4 xf5
    clear CD CR CW
    generalize ((((((wz.setCell ⟨d, 0, none⟩ (.int .u64 (dg (X + l * k * 4294967296) 0))).setCell ⟨d, 1, none⟩ (.int .u64 (dg (X + l * k * 4294967296) 1))).setCell ⟨d, 2, none⟩ (.int .u64 (dg (X + l * k * 4294967296) 2))).setCell ⟨d, 3, none⟩ (.int .u64 (dg (X + l * k * 4294967296) 3))).setCell ⟨d, 4, none⟩ (.int .u64 (dg (X + l * k * 4294967296) 4))).setCell ⟨d, 5, none⟩ (.int .u64 (dg (X + l * k * 4294967296) 5))) = w5 at *
    generalize X + l * k * 4294967296 = Y at *
    go_upto_region 5 with fail
    have hd1 : Below w5.heap.size w5 w5.drew := (Below.refl _ _).drew
    have CD := D5.later hd1
    have CR := R5.later hd1
    have CW : Hid (Below w.heap.size w w5.drew) := W5.drew
    clear hd1 D5 R5 W5
    have x0 := CD.c 0 (by omega); have x1 := CD.c 1 (by omega); have x2 := CD.c 2 (by omega); have x3 := CD.c 3 (by omega); have x4 := CD.c 4 (by omega); have x5 := CD.c 5 (by omega); have xf0 := CD.f 0 (by omega); have xf1 := CD.f 1 (by omega); have xf2 := CD.f 2 (by omega); have xf3 := CD.f 3 (by omega); have xf4 := CD.f 4 (by omega); have xf5 := CD.f 5 (by omega)
    have r0 := CR.c 0 (by omega); have r1 := CR.c 1 (by omega); have r2 := CR.c 2 (by omega); have r3 := CR.c 3 (by omega); have r4 := CR.c 4 (by omega); have r5 := CR.c 5 (by omega); have rf0 := CR.f 0 (by omega); have rf1 := CR.f 1 (by omega); have rf2 := CR.f 2 (by omega); have rf3 := CR.f 3 (by omega); have rf4 := CR.f 4 (by omega); have rf5 := CR.f 5 (by omega)
    go_region_with (first
      | (go_at_call 72; refine (sone_2 (h * k) p7 p8 _).mono ?_; rintro e wy ⟨rfl, hb⟩; clear x0 x1 x2 x3 x4 x5 xf0 xf1 xf2 xf3 xf4 xf5; clear r0 r1 r2 r3 r4 r5 rf0 rf1 rf2 rf3 rf4 rf5; replace CD := CD.later hb; replace CR := CR.later hb; replace CW := hidD' CW hb; clear hb; have x0 := CD.c 0 (by omega); have x1 := CD.c 1 (by omega); have x2 := CD.c 2 (by omega); have x3 := CD.c 3 (by omega); have x4 := CD.c 4 (by omega); have x5 := CD.c 5 (by omega); have xf0 := CD.f 0 (by omega); have xf1 := CD.f 1 (by omega); have xf2 := CD.f 2 (by omega); have xf3 := CD.f 3 (by omega); have xf4 := CD.f 4 (by omega); have xf5 := CD.f 5 (by omega); have r0 := CR.c 0 (by omega); have r1 := CR.c 1 (by omega); have r2 := CR.c 2 (by omega); have r3 := CR.c 3 (by omega); have r4 := CR.c 4 (by omega); have r5 := CR.c 5 (by omega); have rf0 := CR.f 0 (by omega); have rf1 := CR.f 1 (by omega); have rf2 := CR.f 2 (by omega); have rf3 := CR.f 3 (by omega); have rf4 := CR.f 4 (by omega); have rf5 := CR.f 5 (by omega))
      | (go_at_call 71; refine (splus_any Y (h * k * 18446744073709551616) _).mono ?_; rintro e wy ⟨rfl, hb⟩; clear x0 x1 x2 x3 x4 x5 xf0 xf1 xf2 xf3 xf4 xf5; clear r0 r1 r2 r3 r4 r5 rf0 rf1 rf2 rf3 rf4 rf5; replace CD := CD.later hb; replace CR := CR.later hb; replace CW := hidD' CW hb; clear hb; have x0 := CD.c 0 (by omega); have x1 := CD.c 1 (by omega); have x2 := CD.c 2 (by omega); have x3 := CD.c 3 (by omega); have x4 := CD.c 4 (by omega); have x5 := CD.c 5 (by omega); have xf0 := CD.f 0 (by omega); have xf1 := CD.f 1 (by omega); have xf2 := CD.f 2 (by omega); have xf3 := CD.f 3 (by omega); have xf4 := CD.f 4 (by omega); have xf5 := CD.f 5 (by omega); have r0 := CR.c 0 (by omega); have r1 := CR.c 1 (by omega); have r2 := CR.c 2 (by omega); have r3 := CR.c 3 (by omega); have r4 := CR.c 4 (by omega); have r5 := CR.c 5 (by omega); have rf0 := CR.f 0 (by omega); have rf1 := CR.f 1 (by omega); have rf2 := CR.f 2 (by omega); have rf3 := CR.f 3 (by omega); have rf4 := CR.f 4 (by omega); have rf5 := CR.f 5 (by omega)))
    all_goals
      have W6 := bel6 CW.out (b := w.heap.size) (Nat.le_refl _) (dg (Y + h * k * 18446744073709551616))
      have S6 := CR.all (dg (Y + h * k * 18446744073709551616))
      clear x0 x1 x2 x3 x4 x5 xf0 xf1 xf2 xf3 xf4 xf5
      clear r0 r1 r2 r3 r4 r5 rf0 rf1 rf2 rf3 rf4 rf5
      clear CD CR CW
      generalize ((((((wy.setCell ⟨w.heap.size, 0, none⟩ (.int .u64 (dg (Y + h * k * 18446744073709551616) 0))).setCell ⟨w.heap.size, 1, none⟩ (.int .u64 (dg (Y + h * k * 18446744073709551616) 1))).setCell ⟨w.heap.size, 2, none⟩ (.int .u64 (dg (Y + h * k * 18446744073709551616) 2))).setCell ⟨w.heap.size, 3, none⟩ (.int .u64 (dg (Y + h * k * 18446744073709551616) 3))).setCell ⟨w.heap.size, 4, none⟩ (.int .u64 (dg (Y + h * k * 18446744073709551616) 4))).setCell ⟨w.heap.size, 5, none⟩ (.int .u64 (dg (Y + h * k * 18446744073709551616) 5))) = w6 at *
      rw [HP.out] at S6
      have r0 := S6.c 0 (by omega); have r1 := S6.c 1 (by omega); have r2 := S6.c 2 (by omega); have r3 := S6.c 3 (by omega); have r4 := S6.c 4 (by omega); have r5 := S6.c 5 (by omega); have rf0 := S6.f 0 (by omega); have rf1 := S6.f 1 (by omega); have rf2 := S6.f 2 (by omega); have rf3 := S6.f 3 (by omega); have rf4 := S6.f 4 (by omega); have rf5 := S6.f 5 (by omega)
      clear S6
      go_wp2
      exact bodyPost_ret (v := .agg #[.int .u64 (dg (a * b) 0), .int .u64 (dg (a * b) 1), .int .u64 (dg (a * b) 2), .int .u64 (dg (a * b) 3), .int .u64 (dg (a * b) 4), .int .u64 (dg (a * b) 5)]) (by simp [results, Tryz.results67, go_sem, r0, r1, r2, r3, r4, r5]) rfl ⟨rfl, W6⟩
end Go.Proofs.YtdfjnbkkdgolnaaGreatDoor
set_option linter.unusedVariables false
set_option linter.unusedSimpArgs false
namespace Go.Proofs.YtdfjnbkkdgolnaaGreatDoor
open Go.RowKit

/-- What a sum stands for, and how great its sides are. -/
structure Sm (p q : Int) (V B : Int) : Prop where
  p0 : 0 ≤ p
  q0 : 0 ≤ q
  p1 : p ≤ B
  q1 : q ≤ B
  v : p - q = V

theorem sadd_any (p q V B a : Int) (k : Nat) (hk : k ≤ 4) (hS : Sm p q V B) (a0 : -9223372036854775808 ≤ a) (a1 : a ≤ 9223372036854775807) (w : World) :
    Calls Tryz.prog 46 #[.agg #[.int .u64 (dg (p) 0), .int .u64 (dg (p) 1), .int .u64 (dg (p) 2), .int .u64 (dg (p) 3), .int .u64 (dg (p) 4), .int .u64 (dg (p) 5), .int .u64 (dg (q) 0), .int .u64 (dg (q) 1), .int .u64 (dg (q) 2), .int .u64 (dg (q) 3), .int .u64 (dg (q) 4), .int .u64 (dg (q) 5)], .int .i64 a, .int .i64 (k : Int)] w fun e w' => ∃ p' q', e = .returned (.agg #[.int .u64 (dg (p') 0), .int .u64 (dg (p') 1), .int .u64 (dg (p') 2), .int .u64 (dg (p') 3), .int .u64 (dg (p') 4), .int .u64 (dg (p') 5), .int .u64 (dg (q') 0), .int .u64 (dg (q') 1), .int .u64 (dg (q') 2), .int .u64 (dg (q') 3), .int .u64 (dg (q') 4), .int .u64 (dg (q') 5)]) ∧ Sm p' q' (V + a * 2 ^ (32 * k)) (B + 9223372036854775808 * 2 ^ (32 * k)) ∧ Below w.heap.size w w' := by
  have hp := pow_pos' (32 * k)
  obtain ⟨s0, s1⟩ := ab_rng' a a0 a1
  have g0 := Int.mul_nonneg s0 (show (0 : Int) ≤ 2 ^ (32 * k) by omega)
  have g1 := Int.mul_le_mul_of_nonneg_right s1 (show (0 : Int) ≤ 2 ^ (32 * k) by omega)
  obtain ⟨h1, h2, h3, h4, h5⟩ := hS
  by_cases hn : a < 0
  · refine (sadd_neg p q a k hk a0 hn w).mono ?_
    rintro e w' ⟨rfl, hb⟩
    have e1 : ab a = -a := by unfold ab; rw [if_pos hn]
    refine ⟨_, _, rfl, ⟨h1, by omega, by omega, by omega, ?_⟩, hb⟩
    rw [e1, Int.neg_mul]
    omega
  · refine (sadd_pos p q a k hk (by omega) a1 w).mono ?_
    rintro e w' ⟨rfl, hb⟩
    have e1 : ab a = a := by unfold ab; rw [if_neg hn]
    refine ⟨_, _, rfl, ⟨by omega, h2, by omega, by omega, ?_⟩, hb⟩
    rw [e1]
    omega
theorem dg_zero (k : Nat) : dg 0 k = 0 := by unfold dg; rw [Int.zero_ediv]; rfl
theorem sadd_zero (a : Int) (k : Nat) (hk : k ≤ 4) (a0 : -9223372036854775808 ≤ a) (a1 : a ≤ 9223372036854775807) (w : World) :
    Calls Tryz.prog 46 #[.agg #[.int .u64 0, .int .u64 0, .int .u64 0, .int .u64 0, .int .u64 0, .int .u64 0, .int .u64 0, .int .u64 0, .int .u64 0, .int .u64 0, .int .u64 0, .int .u64 0], .int .i64 a, .int .i64 (k : Int)] w fun e w' => ∃ p' q', e = .returned (.agg #[.int .u64 (dg (p') 0), .int .u64 (dg (p') 1), .int .u64 (dg (p') 2), .int .u64 (dg (p') 3), .int .u64 (dg (p') 4), .int .u64 (dg (p') 5), .int .u64 (dg (q') 0), .int .u64 (dg (q') 1), .int .u64 (dg (q') 2), .int .u64 (dg (q') 3), .int .u64 (dg (q') 4), .int .u64 (dg (q') 5)]) ∧ Sm p' q' (a * 2 ^ (32 * k)) (9223372036854775808 * 2 ^ (32 * k)) ∧ Below w.heap.size w w' := by
  have h := sadd_any 0 0 0 0 a k hk ⟨by omega, by omega, by omega, by omega, by omega⟩ a0 a1 w
  rw [Int.zero_add, Int.zero_add] at h
  simp only [dg_zero] at h
  exact h

set_option maxHeartbeats 2000000 in
theorem smul_neg (p q a b : Int) (a0 : -9223372036854775808 ≤ a) (a1 : a ≤ 9223372036854775807) (b0 : -9223372036854775808 ≤ b) (b1 : b ≤ 9223372036854775807) (hs : (decide (a < 0) == decide (b < 0)) = false) (w : World) :
    Calls Tryz.prog 47 #[.agg #[.int .u64 (dg (p) 0), .int .u64 (dg (p) 1), .int .u64 (dg (p) 2), .int .u64 (dg (p) 3), .int .u64 (dg (p) 4), .int .u64 (dg (p) 5), .int .u64 (dg (q) 0), .int .u64 (dg (q) 1), .int .u64 (dg (q) 2), .int .u64 (dg (q) 3), .int .u64 (dg (q) 4), .int .u64 (dg (q) 5)], .int .i64 a, .int .i64 b] w fun e w' => e = .returned (.agg #[.int .u64 (dg (p) 0), .int .u64 (dg (p) 1), .int .u64 (dg (p) 2), .int .u64 (dg (p) 3), .int .u64 (dg (p) 4), .int .u64 (dg (p) 5), .int .u64 (dg (q + ab a * ab b) 0), .int .u64 (dg (q + ab a * ab b) 1), .int .u64 (dg (q + ab a * ab b) 2), .int .u64 (dg (q + ab a * ab b) 3), .int .u64 (dg (q + ab a * ab b) 4), .int .u64 (dg (q + ab a * ab b) 5)]) ∧ Below w.heap.size w w' := by
  have A0 := (B12.new w (dg p) (dg q) 108).later (bel1 _ (.cells #[.int .u64 0, .int .u64 0, .int .u64 0, .int .u64 0, .int .u64 0, .int .u64 0, .int .u64 0, .int .u64 0, .int .u64 0, .int .u64 0, .int .u64 0, .int .u64 0] 108))
  have R0 := B12.new (w.alloc (.cells #[.int .u64 (dg (p) 0), .int .u64 (dg (p) 1), .int .u64 (dg (p) 2), .int .u64 (dg (p) 3), .int .u64 (dg (p) 4), .int .u64 (dg (p) 5), .int .u64 (dg (q) 0), .int .u64 (dg (q) 1), .int .u64 (dg (q) 2), .int .u64 (dg (q) 3), .int .u64 (dg (q) 4), .int .u64 (dg (q) 5)] 108)) (fun _ => 0) (fun _ => 0) 108
  have W0 := bel2 w (.cells #[.int .u64 (dg (p) 0), .int .u64 (dg (p) 1), .int .u64 (dg (p) 2), .int .u64 (dg (p) 3), .int .u64 (dg (p) 4), .int .u64 (dg (p) 5), .int .u64 (dg (q) 0), .int .u64 (dg (q) 1), .int .u64 (dg (q) 2), .int .u64 (dg (q) 3), .int .u64 (dg (q) 4), .int .u64 (dg (q) 5)] 108) (.cells #[.int .u64 0, .int .u64 0, .int .u64 0, .int .u64 0, .int .u64 0, .int .u64 0, .int .u64 0, .int .u64 0, .int .u64 0, .int .u64 0, .int .u64 0, .int .u64 0] 108)
  simp only [World.size_alloc] at R0
  obtain ⟨s0, s1⟩ := ab_rng' a a0 a1
  obtain ⟨s2, s3⟩ := ab_rng' b b0 b1
  have SA : Hid (∀ W : World, Calls Tryz.prog 73 #[.int .i64 a] W fun e w' => e = .returned (.int .u64 (ab a)) ∧ w' = W) := fun W => ssize_any a a0 a1 W
  have SB : Hid (∀ W : World, Calls Tryz.prog 73 #[.int .i64 b] W fun e w' => e = .returned (.int .u64 (ab b)) ∧ w' = W) := fun W => ssize_any b b0 b1 W
  go_enter Tryz.func47, Tryz.ntmps47
  go_wp2_with fail
  refine (SA.out _).mono ?_
  rintro e w0 ⟨rfl, hw⟩
  subst hw
  go_wp2_with fail
  refine (SB.out _).mono ?_
  rintro e w0 ⟨rfl, hw⟩
  subst hw
  generalize (w.alloc (.cells #[.int .u64 (dg (p) 0), .int .u64 (dg (p) 1), .int .u64 (dg (p) 2), .int .u64 (dg (p) 3), .int .u64 (dg (p) 4), .int .u64 (dg (p) 5), .int .u64 (dg (q) 0), .int .u64 (dg (q) 1), .int .u64 (dg (q) 2), .int .u64 (dg (q) 3), .int .u64 (dg (q) 4), .int .u64 (dg (q) 5)] 108)).alloc (.cells #[.int .u64 0, .int .u64 0, .int .u64 0, .int .u64 0, .int .u64 0, .int .u64 0, .int .u64 0, .int .u64 0, .int .u64 0, .int .u64 0, .int .u64 0, .int .u64 0] 108) = w1 at *
  go_wp2_with fail
  refine (sproduct_any (ab a) (ab b) s0 (by omega) s2 (by omega) _).mono ?_
  rintro e w2 ⟨rfl, hb⟩
  have A2 := A0.later hb
  have R2 := R0.later hb
  have W2 := bchain W0 hb
  clear hb A0 R0 W0 SA SB
  have A3 := A2.later (bel1 w2 (.cells #[.int .u64 (dg (ab a * ab b) 0), .int .u64 (dg (ab a * ab b) 1), .int .u64 (dg (ab a * ab b) 2), .int .u64 (dg (ab a * ab b) 3), .int .u64 (dg (ab a * ab b) 4), .int .u64 (dg (ab a * ab b) 5)] 106))
  have R3 := R2.later (bel1 w2 (.cells #[.int .u64 (dg (ab a * ab b) 0), .int .u64 (dg (ab a * ab b) 1), .int .u64 (dg (ab a * ab b) 2), .int .u64 (dg (ab a * ab b) 3), .int .u64 (dg (ab a * ab b) 4), .int .u64 (dg (ab a * ab b) 5)] 106))
  have D3 := B6.new w2 (dg (ab a * ab b)) 106
  have W3 := bchain W2 (bel1 w2 (.cells #[.int .u64 (dg (ab a * ab b) 0), .int .u64 (dg (ab a * ab b) 1), .int .u64 (dg (ab a * ab b) 2), .int .u64 (dg (ab a * ab b) 3), .int .u64 (dg (ab a * ab b) 4), .int .u64 (dg (ab a * ab b) 5)] 106))
  clear A2 R2 W2
  go_upto_region 2 with fail
  generalize w2.alloc (.cells #[.int .u64 (dg (ab a * ab b) 0), .int .u64 (dg (ab a * ab b) 1), .int .u64 (dg (ab a * ab b) 2), .int .u64 (dg (ab a * ab b) 3), .int .u64 (dg (ab a * ab b) 4), .int .u64 (dg (ab a * ab b) 5)] 106) = w3 at *
  generalize w2.heap.size = d at *
  have x6 : w3.cell? ⟨w.heap.size, 6, none⟩ = some (.int .u64 (dg q 0)) := A3.d 0 (by omega); have x7 : w3.cell? ⟨w.heap.size, 7, none⟩ = some (.int .u64 (dg q 1)) := A3.d 1 (by omega); have x8 : w3.cell? ⟨w.heap.size, 8, none⟩ = some (.int .u64 (dg q 2)) := A3.d 2 (by omega); have x9 : w3.cell? ⟨w.heap.size, 9, none⟩ = some (.int .u64 (dg q 3)) := A3.d 3 (by omega); have x10 : w3.cell? ⟨w.heap.size, 10, none⟩ = some (.int .u64 (dg q 4)) := A3.d 4 (by omega); have x11 : w3.cell? ⟨w.heap.size, 11, none⟩ = some (.int .u64 (dg q 5)) := A3.d 5 (by omega); have xf6 : w3.frozen? ⟨w.heap.size, 6, none⟩ = false := A3.g 0 (by omega); have xf7 : w3.frozen? ⟨w.heap.size, 7, none⟩ = false := A3.g 1 (by omega); have xf8 : w3.frozen? ⟨w.heap.size, 8, none⟩ = false := A3.g 2 (by omega); have xf9 : w3.frozen? ⟨w.heap.size, 9, none⟩ = false := A3.g 3 (by omega); have xf10 : w3.frozen? ⟨w.heap.size, 10, none⟩ = false := A3.g 4 (by omega); have xf11 : w3.frozen? ⟨w.heap.size, 11, none⟩ = false := A3.g 5 (by omega)
  have y0 := D3.c 0 (by omega); have y1 := D3.c 1 (by omega); have y2 := D3.c 2 (by omega); have y3 := D3.c 3 (by omega); have y4 := D3.c 4 (by omega); have y5 := D3.c 5 (by omega); have yf0 := D3.f 0 (by omega); have yf1 := D3.f 1 (by omega); have yf2 := D3.f 2 (by omega); have yf3 := D3.f 3 (by omega); have yf4 := D3.f 4 (by omega); have yf5 := D3.f 5 (by omega)
  go_wp2_with fail
  refine (splus_any q (ab a * ab b) _).mono ?_
  rintro e w4 ⟨rfl, hb⟩
  have A4 := A3.later hb
  have R4 := R3.later hb
  have W4 := bchain W3 hb
  clear x6 x7 x8 x9 x10 x11 xf6 xf7 xf8 xf9 xf10 xf11
  clear y0 y1 y2 y3 y4 y5 yf0 yf1 yf2 yf3 yf4 yf5
  clear hb A3 R3 D3 W3
  have x6 : w4.cell? ⟨w.heap.size, 6, none⟩ = some (.int .u64 (dg q 0)) := A4.d 0 (by omega); have x7 : w4.cell? ⟨w.heap.size, 7, none⟩ = some (.int .u64 (dg q 1)) := A4.d 1 (by omega); have x8 : w4.cell? ⟨w.heap.size, 8, none⟩ = some (.int .u64 (dg q 2)) := A4.d 2 (by omega); have x9 : w4.cell? ⟨w.heap.size, 9, none⟩ = some (.int .u64 (dg q 3)) := A4.d 3 (by omega); have x10 : w4.cell? ⟨w.heap.size, 10, none⟩ = some (.int .u64 (dg q 4)) := A4.d 4 (by omega); have x11 : w4.cell? ⟨w.heap.size, 11, none⟩ = some (.int .u64 (dg q 5)) := A4.d 5 (by omega); have xf6 : w4.frozen? ⟨w.heap.size, 6, none⟩ = false := A4.g 0 (by omega); have xf7 : w4.frozen? ⟨w.heap.size, 7, none⟩ = false := A4.g 1 (by omega); have xf8 : w4.frozen? ⟨w.heap.size, 8, none⟩ = false := A4.g 2 (by omega); have xf9 : w4.frozen? ⟨w.heap.size, 9, none⟩ = false := A4.g 3 (by omega); have xf10 : w4.frozen? ⟨w.heap.size, 10, none⟩ = false := A4.g 4 (by omega); have xf11 : w4.frozen? ⟨w.heap.size, 11, none⟩ = false := A4.g 5 (by omega)
  go_upto_region 5 with fail
  have A5 := A4.allN (dg (q + ab a * ab b))
  have R5 := R4.farN (d := w.heap.size) (by omega) (dg (q + ab a * ab b))
  have W5 := bel6N W4 (b := w.heap.size) (Nat.le_refl _) (dg (q + ab a * ab b))
  clear x6 x7 x8 x9 x10 x11 xf6 xf7 xf8 xf9 xf10 xf11
  clear A4 R4 W4
  generalize ((((((w4.setCell ⟨w.heap.size, 6, none⟩ (.int .u64 (dg (q + ab a * ab b) 0))).setCell ⟨w.heap.size, 7, none⟩ (.int .u64 (dg (q + ab a * ab b) 1))).setCell ⟨w.heap.size, 8, none⟩ (.int .u64 (dg (q + ab a * ab b) 2))).setCell ⟨w.heap.size, 9, none⟩ (.int .u64 (dg (q + ab a * ab b) 3))).setCell ⟨w.heap.size, 10, none⟩ (.int .u64 (dg (q + ab a * ab b) 4))).setCell ⟨w.heap.size, 11, none⟩ (.int .u64 (dg (q + ab a * ab b) 5))) = w5 at *
  have x0 : w5.cell? ⟨w.heap.size, 0, none⟩ = some (.int .u64 (dg p 0)) := A5.c 0 (by omega); have x1 : w5.cell? ⟨w.heap.size, 1, none⟩ = some (.int .u64 (dg p 1)) := A5.c 1 (by omega); have x2 : w5.cell? ⟨w.heap.size, 2, none⟩ = some (.int .u64 (dg p 2)) := A5.c 2 (by omega); have x3 : w5.cell? ⟨w.heap.size, 3, none⟩ = some (.int .u64 (dg p 3)) := A5.c 3 (by omega); have x4 : w5.cell? ⟨w.heap.size, 4, none⟩ = some (.int .u64 (dg p 4)) := A5.c 4 (by omega); have x5 : w5.cell? ⟨w.heap.size, 5, none⟩ = some (.int .u64 (dg p 5)) := A5.c 5 (by omega); have x6 : w5.cell? ⟨w.heap.size, 6, none⟩ = some (.int .u64 (dg (q + ab a * ab b) 0)) := A5.d 0 (by omega); have x7 : w5.cell? ⟨w.heap.size, 7, none⟩ = some (.int .u64 (dg (q + ab a * ab b) 1)) := A5.d 1 (by omega); have x8 : w5.cell? ⟨w.heap.size, 8, none⟩ = some (.int .u64 (dg (q + ab a * ab b) 2)) := A5.d 2 (by omega); have x9 : w5.cell? ⟨w.heap.size, 9, none⟩ = some (.int .u64 (dg (q + ab a * ab b) 3)) := A5.d 3 (by omega); have x10 : w5.cell? ⟨w.heap.size, 10, none⟩ = some (.int .u64 (dg (q + ab a * ab b) 4)) := A5.d 4 (by omega); have x11 : w5.cell? ⟨w.heap.size, 11, none⟩ = some (.int .u64 (dg (q + ab a * ab b) 5)) := A5.d 5 (by omega); have xf0 : w5.frozen? ⟨w.heap.size, 0, none⟩ = false := A5.f 0 (by omega); have xf1 : w5.frozen? ⟨w.heap.size, 1, none⟩ = false := A5.f 1 (by omega); have xf2 : w5.frozen? ⟨w.heap.size, 2, none⟩ = false := A5.f 2 (by omega); have xf3 : w5.frozen? ⟨w.heap.size, 3, none⟩ = false := A5.f 3 (by omega); have xf4 : w5.frozen? ⟨w.heap.size, 4, none⟩ = false := A5.f 4 (by omega); have xf5 : w5.frozen? ⟨w.heap.size, 5, none⟩ = false := A5.f 5 (by omega); have xf6 : w5.frozen? ⟨w.heap.size, 6, none⟩ = false := A5.g 0 (by omega); have xf7 : w5.frozen? ⟨w.heap.size, 7, none⟩ = false := A5.g 1 (by omega); have xf8 : w5.frozen? ⟨w.heap.size, 8, none⟩ = false := A5.g 2 (by omega); have xf9 : w5.frozen? ⟨w.heap.size, 9, none⟩ = false := A5.g 3 (by omega); have xf10 : w5.frozen? ⟨w.heap.size, 10, none⟩ = false := A5.g 4 (by omega); have xf11 : w5.frozen? ⟨w.heap.size, 11, none⟩ = false := A5.g 5 (by omega)
  have r0 : w5.cell? ⟨w.heap.size + 1, 0, none⟩ = some (.int .u64 ((fun _ => 0) 0)) := R5.c 0 (by omega); have r1 : w5.cell? ⟨w.heap.size + 1, 1, none⟩ = some (.int .u64 ((fun _ => 0) 1)) := R5.c 1 (by omega); have r2 : w5.cell? ⟨w.heap.size + 1, 2, none⟩ = some (.int .u64 ((fun _ => 0) 2)) := R5.c 2 (by omega); have r3 : w5.cell? ⟨w.heap.size + 1, 3, none⟩ = some (.int .u64 ((fun _ => 0) 3)) := R5.c 3 (by omega); have r4 : w5.cell? ⟨w.heap.size + 1, 4, none⟩ = some (.int .u64 ((fun _ => 0) 4)) := R5.c 4 (by omega); have r5 : w5.cell? ⟨w.heap.size + 1, 5, none⟩ = some (.int .u64 ((fun _ => 0) 5)) := R5.c 5 (by omega); have r6 : w5.cell? ⟨w.heap.size + 1, 6, none⟩ = some (.int .u64 ((fun _ => 0) 0)) := R5.d 0 (by omega); have r7 : w5.cell? ⟨w.heap.size + 1, 7, none⟩ = some (.int .u64 ((fun _ => 0) 1)) := R5.d 1 (by omega); have r8 : w5.cell? ⟨w.heap.size + 1, 8, none⟩ = some (.int .u64 ((fun _ => 0) 2)) := R5.d 2 (by omega); have r9 : w5.cell? ⟨w.heap.size + 1, 9, none⟩ = some (.int .u64 ((fun _ => 0) 3)) := R5.d 3 (by omega); have r10 : w5.cell? ⟨w.heap.size + 1, 10, none⟩ = some (.int .u64 ((fun _ => 0) 4)) := R5.d 4 (by omega); have r11 : w5.cell? ⟨w.heap.size + 1, 11, none⟩ = some (.int .u64 ((fun _ => 0) 5)) := R5.d 5 (by omega); have rf0 : w5.frozen? ⟨w.heap.size + 1, 0, none⟩ = false := R5.f 0 (by omega); have rf1 : w5.frozen? ⟨w.heap.size + 1, 1, none⟩ = false := R5.f 1 (by omega); have rf2 : w5.frozen? ⟨w.heap.size + 1, 2, none⟩ = false := R5.f 2 (by omega); have rf3 : w5.frozen? ⟨w.heap.size + 1, 3, none⟩ = false := R5.f 3 (by omega); have rf4 : w5.frozen? ⟨w.heap.size + 1, 4, none⟩ = false := R5.f 4 (by omega); have rf5 : w5.frozen? ⟨w.heap.size + 1, 5, none⟩ = false := R5.f 5 (by omega); have rf6 : w5.frozen? ⟨w.heap.size + 1, 6, none⟩ = false := R5.g 0 (by omega); have rf7 : w5.frozen? ⟨w.heap.size + 1, 7, none⟩ = false := R5.g 1 (by omega); have rf8 : w5.frozen? ⟨w.heap.size + 1, 8, none⟩ = false := R5.g 2 (by omega); have rf9 : w5.frozen? ⟨w.heap.size + 1, 9, none⟩ = false := R5.g 3 (by omega); have rf10 : w5.frozen? ⟨w.heap.size + 1, 10, none⟩ = false := R5.g 4 (by omega); have rf11 : w5.frozen? ⟨w.heap.size + 1, 11, none⟩ = false := R5.g 5 (by omega)
  clear A5 R5
  go_wp2
  exact bodyPost_ret (v := .agg #[.int .u64 (dg (p) 0), .int .u64 (dg (p) 1), .int .u64 (dg (p) 2), .int .u64 (dg (p) 3), .int .u64 (dg (p) 4), .int .u64 (dg (p) 5), .int .u64 (dg (q + ab a * ab b) 0), .int .u64 (dg (q + ab a * ab b) 1), .int .u64 (dg (q + ab a * ab b) 2), .int .u64 (dg (q + ab a * ab b) 3), .int .u64 (dg (q + ab a * ab b) 4), .int .u64 (dg (q + ab a * ab b) 5)]) (by simp [results, Tryz.results47, go_sem, r0, r1, r2, r3, r4, r5, r6, r7, r8, r9, r10, r11]) rfl ⟨rfl, ((((((((((((W5).setCell (by dsimp only; omega) _).setCell (by dsimp only; omega) _).setCell (by dsimp only; omega) _).setCell (by dsimp only; omega) _).setCell (by dsimp only; omega) _).setCell (by dsimp only; omega) _).setCell (by dsimp only; omega) _).setCell (by dsimp only; omega) _).setCell (by dsimp only; omega) _).setCell (by dsimp only; omega) _).setCell (by dsimp only; omega) _).setCell (by dsimp only; omega) _⟩
set_option maxHeartbeats 2000000 in
theorem smul_pos (p q a b : Int) (a0 : -9223372036854775808 ≤ a) (a1 : a ≤ 9223372036854775807) (b0 : -9223372036854775808 ≤ b) (b1 : b ≤ 9223372036854775807) (hs : (decide (a < 0) == decide (b < 0)) = true) (w : World) :
    Calls Tryz.prog 47 #[.agg #[.int .u64 (dg (p) 0), .int .u64 (dg (p) 1), .int .u64 (dg (p) 2), .int .u64 (dg (p) 3), .int .u64 (dg (p) 4), .int .u64 (dg (p) 5), .int .u64 (dg (q) 0), .int .u64 (dg (q) 1), .int .u64 (dg (q) 2), .int .u64 (dg (q) 3), .int .u64 (dg (q) 4), .int .u64 (dg (q) 5)], .int .i64 a, .int .i64 b] w fun e w' => e = .returned (.agg #[.int .u64 (dg (p + ab a * ab b) 0), .int .u64 (dg (p + ab a * ab b) 1), .int .u64 (dg (p + ab a * ab b) 2), .int .u64 (dg (p + ab a * ab b) 3), .int .u64 (dg (p + ab a * ab b) 4), .int .u64 (dg (p + ab a * ab b) 5), .int .u64 (dg (q) 0), .int .u64 (dg (q) 1), .int .u64 (dg (q) 2), .int .u64 (dg (q) 3), .int .u64 (dg (q) 4), .int .u64 (dg (q) 5)]) ∧ Below w.heap.size w w' := by
  have A0 := (B12.new w (dg p) (dg q) 108).later (bel1 _ (.cells #[.int .u64 0, .int .u64 0, .int .u64 0, .int .u64 0, .int .u64 0, .int .u64 0, .int .u64 0, .int .u64 0, .int .u64 0, .int .u64 0, .int .u64 0, .int .u64 0] 108))
  have R0 := B12.new (w.alloc (.cells #[.int .u64 (dg (p) 0), .int .u64 (dg (p) 1), .int .u64 (dg (p) 2), .int .u64 (dg (p) 3), .int .u64 (dg (p) 4), .int .u64 (dg (p) 5), .int .u64 (dg (q) 0), .int .u64 (dg (q) 1), .int .u64 (dg (q) 2), .int .u64 (dg (q) 3), .int .u64 (dg (q) 4), .int .u64 (dg (q) 5)] 108)) (fun _ => 0) (fun _ => 0) 108
  have W0 := bel2 w (.cells #[.int .u64 (dg (p) 0), .int .u64 (dg (p) 1), .int .u64 (dg (p) 2), .int .u64 (dg (p) 3), .int .u64 (dg (p) 4), .int .u64 (dg (p) 5), .int .u64 (dg (q) 0), .int .u64 (dg (q) 1), .int .u64 (dg (q) 2), .int .u64 (dg (q) 3), .int .u64 (dg (q) 4), .int .u64 (dg (q) 5)] 108) (.cells #[.int .u64 0, .int .u64 0, .int .u64 0, .int .u64 0, .int .u64 0, .int .u64 0, .int .u64 0, .int .u64 0, .int .u64 0, .int .u64 0, .int .u64 0, .int .u64 0] 108)
  simp only [World.size_alloc] at R0
  obtain ⟨s0, s1⟩ := ab_rng' a a0 a1
  obtain ⟨s2, s3⟩ := ab_rng' b b0 b1
  have SA : Hid (∀ W : World, Calls Tryz.prog 73 #[.int .i64 a] W fun e w' => e = .returned (.int .u64 (ab a)) ∧ w' = W) := fun W => ssize_any a a0 a1 W
  have SB : Hid (∀ W : World, Calls Tryz.prog 73 #[.int .i64 b] W fun e w' => e = .returned (.int .u64 (ab b)) ∧ w' = W) := fun W => ssize_any b b0 b1 W
  go_enter Tryz.func47, Tryz.ntmps47
  go_wp2_with fail
  refine (SA.out _).mono ?_
  rintro e w0 ⟨rfl, hw⟩
  subst hw
  go_wp2_with fail
  refine (SB.out _).mono ?_
  rintro e w0 ⟨rfl, hw⟩
  subst hw
  generalize (w.alloc (.cells #[.int .u64 (dg (p) 0), .int .u64 (dg (p) 1), .int .u64 (dg (p) 2), .int .u64 (dg (p) 3), .int .u64 (dg (p) 4), .int .u64 (dg (p) 5), .int .u64 (dg (q) 0), .int .u64 (dg (q) 1), .int .u64 (dg (q) 2), .int .u64 (dg (q) 3), .int .u64 (dg (q) 4), .int .u64 (dg (q) 5)] 108)).alloc (.cells #[.int .u64 0, .int .u64 0, .int .u64 0, .int .u64 0, .int .u64 0, .int .u64 0, .int .u64 0, .int .u64 0, .int .u64 0, .int .u64 0, .int .u64 0, .int .u64 0] 108) = w1 at *
  go_wp2_with fail
  refine (sproduct_any (ab a) (ab b) s0 (by omega) s2 (by omega) _).mono ?_
  rintro e w2 ⟨rfl, hb⟩
  have A2 := A0.later hb
  have R2 := R0.later hb
  have W2 := bchain W0 hb
  clear hb A0 R0 W0 SA SB
  have A3 := A2.later (bel1 w2 (.cells #[.int .u64 (dg (ab a * ab b) 0), .int .u64 (dg (ab a * ab b) 1), .int .u64 (dg (ab a * ab b) 2), .int .u64 (dg (ab a * ab b) 3), .int .u64 (dg (ab a * ab b) 4), .int .u64 (dg (ab a * ab b) 5)] 106))
  have R3 := R2.later (bel1 w2 (.cells #[.int .u64 (dg (ab a * ab b) 0), .int .u64 (dg (ab a * ab b) 1), .int .u64 (dg (ab a * ab b) 2), .int .u64 (dg (ab a * ab b) 3), .int .u64 (dg (ab a * ab b) 4), .int .u64 (dg (ab a * ab b) 5)] 106))
  have D3 := B6.new w2 (dg (ab a * ab b)) 106
  have W3 := bchain W2 (bel1 w2 (.cells #[.int .u64 (dg (ab a * ab b) 0), .int .u64 (dg (ab a * ab b) 1), .int .u64 (dg (ab a * ab b) 2), .int .u64 (dg (ab a * ab b) 3), .int .u64 (dg (ab a * ab b) 4), .int .u64 (dg (ab a * ab b) 5)] 106))
  clear A2 R2 W2
  go_upto_region 2 with fail
  generalize w2.alloc (.cells #[.int .u64 (dg (ab a * ab b) 0), .int .u64 (dg (ab a * ab b) 1), .int .u64 (dg (ab a * ab b) 2), .int .u64 (dg (ab a * ab b) 3), .int .u64 (dg (ab a * ab b) 4), .int .u64 (dg (ab a * ab b) 5)] 106) = w3 at *
  generalize w2.heap.size = d at *
  have x0 : w3.cell? ⟨w.heap.size, 0, none⟩ = some (.int .u64 (dg p 0)) := A3.c 0 (by omega); have x1 : w3.cell? ⟨w.heap.size, 1, none⟩ = some (.int .u64 (dg p 1)) := A3.c 1 (by omega); have x2 : w3.cell? ⟨w.heap.size, 2, none⟩ = some (.int .u64 (dg p 2)) := A3.c 2 (by omega); have x3 : w3.cell? ⟨w.heap.size, 3, none⟩ = some (.int .u64 (dg p 3)) := A3.c 3 (by omega); have x4 : w3.cell? ⟨w.heap.size, 4, none⟩ = some (.int .u64 (dg p 4)) := A3.c 4 (by omega); have x5 : w3.cell? ⟨w.heap.size, 5, none⟩ = some (.int .u64 (dg p 5)) := A3.c 5 (by omega); have xf0 : w3.frozen? ⟨w.heap.size, 0, none⟩ = false := A3.f 0 (by omega); have xf1 : w3.frozen? ⟨w.heap.size, 1, none⟩ = false := A3.f 1 (by omega); have xf2 : w3.frozen? ⟨w.heap.size, 2, none⟩ = false := A3.f 2 (by omega); have xf3 : w3.frozen? ⟨w.heap.size, 3, none⟩ = false := A3.f 3 (by omega); have xf4 : w3.frozen? ⟨w.heap.size, 4, none⟩ = false := A3.f 4 (by omega); have xf5 : w3.frozen? ⟨w.heap.size, 5, none⟩ = false := A3.f 5 (by omega)
  have y0 := D3.c 0 (by omega); have y1 := D3.c 1 (by omega); have y2 := D3.c 2 (by omega); have y3 := D3.c 3 (by omega); have y4 := D3.c 4 (by omega); have y5 := D3.c 5 (by omega); have yf0 := D3.f 0 (by omega); have yf1 := D3.f 1 (by omega); have yf2 := D3.f 2 (by omega); have yf3 := D3.f 3 (by omega); have yf4 := D3.f 4 (by omega); have yf5 := D3.f 5 (by omega)
  go_wp2_with fail
  refine (splus_any p (ab a * ab b) _).mono ?_
  rintro e w4 ⟨rfl, hb⟩
  have A4 := A3.later hb
  have R4 := R3.later hb
  have W4 := bchain W3 hb
  clear x0 x1 x2 x3 x4 x5 xf0 xf1 xf2 xf3 xf4 xf5
  clear y0 y1 y2 y3 y4 y5 yf0 yf1 yf2 yf3 yf4 yf5
  clear hb A3 R3 D3 W3
  have x0 : w4.cell? ⟨w.heap.size, 0, none⟩ = some (.int .u64 (dg p 0)) := A4.c 0 (by omega); have x1 : w4.cell? ⟨w.heap.size, 1, none⟩ = some (.int .u64 (dg p 1)) := A4.c 1 (by omega); have x2 : w4.cell? ⟨w.heap.size, 2, none⟩ = some (.int .u64 (dg p 2)) := A4.c 2 (by omega); have x3 : w4.cell? ⟨w.heap.size, 3, none⟩ = some (.int .u64 (dg p 3)) := A4.c 3 (by omega); have x4 : w4.cell? ⟨w.heap.size, 4, none⟩ = some (.int .u64 (dg p 4)) := A4.c 4 (by omega); have x5 : w4.cell? ⟨w.heap.size, 5, none⟩ = some (.int .u64 (dg p 5)) := A4.c 5 (by omega); have xf0 : w4.frozen? ⟨w.heap.size, 0, none⟩ = false := A4.f 0 (by omega); have xf1 : w4.frozen? ⟨w.heap.size, 1, none⟩ = false := A4.f 1 (by omega); have xf2 : w4.frozen? ⟨w.heap.size, 2, none⟩ = false := A4.f 2 (by omega); have xf3 : w4.frozen? ⟨w.heap.size, 3, none⟩ = false := A4.f 3 (by omega); have xf4 : w4.frozen? ⟨w.heap.size, 4, none⟩ = false := A4.f 4 (by omega); have xf5 : w4.frozen? ⟨w.heap.size, 5, none⟩ = false := A4.f 5 (by omega)
  go_upto_region 5 with fail
  have A5 := A4.allP (dg (p + ab a * ab b))
  have R5 := R4.farP (d := w.heap.size) (by omega) (dg (p + ab a * ab b))
  have W5 := bel6 W4 (b := w.heap.size) (Nat.le_refl _) (dg (p + ab a * ab b))
  clear x0 x1 x2 x3 x4 x5 xf0 xf1 xf2 xf3 xf4 xf5
  clear A4 R4 W4
  generalize ((((((w4.setCell ⟨w.heap.size, 0, none⟩ (.int .u64 (dg (p + ab a * ab b) 0))).setCell ⟨w.heap.size, 1, none⟩ (.int .u64 (dg (p + ab a * ab b) 1))).setCell ⟨w.heap.size, 2, none⟩ (.int .u64 (dg (p + ab a * ab b) 2))).setCell ⟨w.heap.size, 3, none⟩ (.int .u64 (dg (p + ab a * ab b) 3))).setCell ⟨w.heap.size, 4, none⟩ (.int .u64 (dg (p + ab a * ab b) 4))).setCell ⟨w.heap.size, 5, none⟩ (.int .u64 (dg (p + ab a * ab b) 5))) = w5 at *
  have x0 : w5.cell? ⟨w.heap.size, 0, none⟩ = some (.int .u64 (dg (p + ab a * ab b) 0)) := A5.c 0 (by omega); have x1 : w5.cell? ⟨w.heap.size, 1, none⟩ = some (.int .u64 (dg (p + ab a * ab b) 1)) := A5.c 1 (by omega); have x2 : w5.cell? ⟨w.heap.size, 2, none⟩ = some (.int .u64 (dg (p + ab a * ab b) 2)) := A5.c 2 (by omega); have x3 : w5.cell? ⟨w.heap.size, 3, none⟩ = some (.int .u64 (dg (p + ab a * ab b) 3)) := A5.c 3 (by omega); have x4 : w5.cell? ⟨w.heap.size, 4, none⟩ = some (.int .u64 (dg (p + ab a * ab b) 4)) := A5.c 4 (by omega); have x5 : w5.cell? ⟨w.heap.size, 5, none⟩ = some (.int .u64 (dg (p + ab a * ab b) 5)) := A5.c 5 (by omega); have x6 : w5.cell? ⟨w.heap.size, 6, none⟩ = some (.int .u64 (dg q 0)) := A5.d 0 (by omega); have x7 : w5.cell? ⟨w.heap.size, 7, none⟩ = some (.int .u64 (dg q 1)) := A5.d 1 (by omega); have x8 : w5.cell? ⟨w.heap.size, 8, none⟩ = some (.int .u64 (dg q 2)) := A5.d 2 (by omega); have x9 : w5.cell? ⟨w.heap.size, 9, none⟩ = some (.int .u64 (dg q 3)) := A5.d 3 (by omega); have x10 : w5.cell? ⟨w.heap.size, 10, none⟩ = some (.int .u64 (dg q 4)) := A5.d 4 (by omega); have x11 : w5.cell? ⟨w.heap.size, 11, none⟩ = some (.int .u64 (dg q 5)) := A5.d 5 (by omega); have xf0 : w5.frozen? ⟨w.heap.size, 0, none⟩ = false := A5.f 0 (by omega); have xf1 : w5.frozen? ⟨w.heap.size, 1, none⟩ = false := A5.f 1 (by omega); have xf2 : w5.frozen? ⟨w.heap.size, 2, none⟩ = false := A5.f 2 (by omega); have xf3 : w5.frozen? ⟨w.heap.size, 3, none⟩ = false := A5.f 3 (by omega); have xf4 : w5.frozen? ⟨w.heap.size, 4, none⟩ = false := A5.f 4 (by omega); have xf5 : w5.frozen? ⟨w.heap.size, 5, none⟩ = false := A5.f 5 (by omega); have xf6 : w5.frozen? ⟨w.heap.size, 6, none⟩ = false := A5.g 0 (by omega); have xf7 : w5.frozen? ⟨w.heap.size, 7, none⟩ = false := A5.g 1 (by omega); have xf8 : w5.frozen? ⟨w.heap.size, 8, none⟩ = false := A5.g 2 (by omega); have xf9 : w5.frozen? ⟨w.heap.size, 9, none⟩ = false := A5.g 3 (by omega); have xf10 : w5.frozen? ⟨w.heap.size, 10, none⟩ = false := A5.g 4 (by omega); have xf11 : w5.frozen? ⟨w.heap.size, 11, none⟩ = false := A5.g 5 (by omega)
  have r0 : w5.cell? ⟨w.heap.size + 1, 0, none⟩ = some (.int .u64 ((fun _ => 0) 0)) := R5.c 0 (by omega); have r1 : w5.cell? ⟨w.heap.size + 1, 1, none⟩ = some (.int .u64 ((fun _ => 0) 1)) := R5.c 1 (by omega); have r2 : w5.cell? ⟨w.heap.size + 1, 2, none⟩ = some (.int .u64 ((fun _ => 0) 2)) := R5.c 2 (by omega); have r3 : w5.cell? ⟨w.heap.size + 1, 3, none⟩ = some (.int .u64 ((fun _ => 0) 3)) := R5.c 3 (by omega); have r4 : w5.cell? ⟨w.heap.size + 1, 4, none⟩ = some (.int .u64 ((fun _ => 0) 4)) := R5.c 4 (by omega); have r5 : w5.cell? ⟨w.heap.size + 1, 5, none⟩ = some (.int .u64 ((fun _ => 0) 5)) := R5.c 5 (by omega); have r6 : w5.cell? ⟨w.heap.size + 1, 6, none⟩ = some (.int .u64 ((fun _ => 0) 0)) := R5.d 0 (by omega); have r7 : w5.cell? ⟨w.heap.size + 1, 7, none⟩ = some (.int .u64 ((fun _ => 0) 1)) := R5.d 1 (by omega); have r8 : w5.cell? ⟨w.heap.size + 1, 8, none⟩ = some (.int .u64 ((fun _ => 0) 2)) := R5.d 2 (by omega); have r9 : w5.cell? ⟨w.heap.size + 1, 9, none⟩ = some (.int .u64 ((fun _ => 0) 3)) := R5.d 3 (by omega); have r10 : w5.cell? ⟨w.heap.size + 1, 10, none⟩ = some (.int .u64 ((fun _ => 0) 4)) := R5.d 4 (by omega); have r11 : w5.cell? ⟨w.heap.size + 1, 11, none⟩ = some (.int .u64 ((fun _ => 0) 5)) := R5.d 5 (by omega); have rf0 : w5.frozen? ⟨w.heap.size + 1, 0, none⟩ = false := R5.f 0 (by omega); have rf1 : w5.frozen? ⟨w.heap.size + 1, 1, none⟩ = false := R5.f 1 (by omega); have rf2 : w5.frozen? ⟨w.heap.size + 1, 2, none⟩ = false := R5.f 2 (by omega); have rf3 : w5.frozen? ⟨w.heap.size + 1, 3, none⟩ = false := R5.f 3 (by omega); have rf4 : w5.frozen? ⟨w.heap.size + 1, 4, none⟩ = false := R5.f 4 (by omega); have rf5 : w5.frozen? ⟨w.heap.size + 1, 5, none⟩ = false := R5.f 5 (by omega); have rf6 : w5.frozen? ⟨w.heap.size + 1, 6, none⟩ = false := R5.g 0 (by omega); have rf7 : w5.frozen? ⟨w.heap.size + 1, 7, none⟩ = false := R5.g 1 (by omega); have rf8 : w5.frozen? ⟨w.heap.size + 1, 8, none⟩ = false := R5.g 2 (by omega); have rf9 : w5.frozen? ⟨w.heap.size + 1, 9, none⟩ = false := R5.g 3 (by omega); have rf10 : w5.frozen? ⟨w.heap.size + 1, 10, none⟩ = false := R5.g 4 (by omega); have rf11 : w5.frozen? ⟨w.heap.size + 1, 11, none⟩ = false := R5.g 5 (by omega)
  clear A5 R5
  go_wp2
  exact bodyPost_ret (v := .agg #[.int .u64 (dg (p + ab a * ab b) 0), .int .u64 (dg (p + ab a * ab b) 1), .int .u64 (dg (p + ab a * ab b) 2), .int .u64 (dg (p + ab a * ab b) 3), .int .u64 (dg (p + ab a * ab b) 4), .int .u64 (dg (p + ab a * ab b) 5), .int .u64 (dg (q) 0), .int .u64 (dg (q) 1), .int .u64 (dg (q) 2), .int .u64 (dg (q) 3), .int .u64 (dg (q) 4), .int .u64 (dg (q) 5)]) (by simp [results, Tryz.results47, go_sem, r0, r1, r2, r3, r4, r5, r6, r7, r8, r9, r10, r11]) rfl ⟨rfl, ((((((((((((W5).setCell (by dsimp only; omega) _).setCell (by dsimp only; omega) _).setCell (by dsimp only; omega) _).setCell (by dsimp only; omega) _).setCell (by dsimp only; omega) _).setCell (by dsimp only; omega) _).setCell (by dsimp only; omega) _).setCell (by dsimp only; omega) _).setCell (by dsimp only; omega) _).setCell (by dsimp only; omega) _).setCell (by dsimp only; omega) _).setCell (by dsimp only; omega) _⟩

theorem ab_mul_le (a b : Int) (a0 : -9223372036854775808 ≤ a) (a1 : a ≤ 9223372036854775807) (b0 : -9223372036854775808 ≤ b) (b1 : b ≤ 9223372036854775807) : 0 ≤ ab a * ab b ∧ ab a * ab b ≤ 85070591730234615865843651857942052864 := by
  obtain ⟨s0, s1⟩ := ab_rng' a a0 a1
  obtain ⟨s2, s3⟩ := ab_rng' b b0 b1
  have h1 := Int.mul_nonneg s0 s2
  have h2 := Int.mul_le_mul s1 s3 s2 (by omega)
  omega
theorem smul_any (p q V B a b : Int) (hS : Sm p q V B) (a0 : -9223372036854775808 ≤ a) (a1 : a ≤ 9223372036854775807) (b0 : -9223372036854775808 ≤ b) (b1 : b ≤ 9223372036854775807) (w : World) :
    Calls Tryz.prog 47 #[.agg #[.int .u64 (dg (p) 0), .int .u64 (dg (p) 1), .int .u64 (dg (p) 2), .int .u64 (dg (p) 3), .int .u64 (dg (p) 4), .int .u64 (dg (p) 5), .int .u64 (dg (q) 0), .int .u64 (dg (q) 1), .int .u64 (dg (q) 2), .int .u64 (dg (q) 3), .int .u64 (dg (q) 4), .int .u64 (dg (q) 5)], .int .i64 a, .int .i64 b] w fun e w' => ∃ p' q', e = .returned (.agg #[.int .u64 (dg (p') 0), .int .u64 (dg (p') 1), .int .u64 (dg (p') 2), .int .u64 (dg (p') 3), .int .u64 (dg (p') 4), .int .u64 (dg (p') 5), .int .u64 (dg (q') 0), .int .u64 (dg (q') 1), .int .u64 (dg (q') 2), .int .u64 (dg (q') 3), .int .u64 (dg (q') 4), .int .u64 (dg (q') 5)]) ∧ Sm p' q' (V + a * b) (B + 85070591730234615865843651857942052864) ∧ Below w.heap.size w w' := by
  obtain ⟨g0, g1⟩ := ab_mul_le a b a0 a1 b0 b1
  obtain ⟨h1, h2, h3, h4, h5⟩ := hS
  cases hs : (decide (a < 0) == decide (b < 0))
  · refine (smul_neg p q a b a0 a1 b0 b1 hs w).mono ?_
    rintro e w' ⟨rfl, hb⟩
    refine ⟨_, _, rfl, ⟨h1, by omega, by omega, by omega, ?_⟩, hb⟩
    have e1 : ab a * ab b = -(a * b) := by
      unfold ab
      by_cases ha : a < 0
      · by_cases hb' : b < 0
        · simp [ha, hb'] at hs
        · rw [if_pos ha, if_neg hb', Int.neg_mul]
      · by_cases hb' : b < 0
        · rw [if_neg ha, if_pos hb', Int.mul_neg]
        · simp [ha, hb'] at hs
    omega
  · refine (smul_pos p q a b a0 a1 b0 b1 hs w).mono ?_
    rintro e w' ⟨rfl, hb⟩
    refine ⟨_, _, rfl, ⟨by omega, h2, by omega, by omega, ?_⟩, hb⟩
    have e1 : ab a * ab b = a * b := by
      unfold ab
      by_cases ha : a < 0
      · by_cases hb' : b < 0
        · rw [if_pos ha, if_pos hb', Int.neg_mul_neg]
        · simp [ha, hb'] at hs
      · by_cases hb' : b < 0
        · simp [ha, hb'] at hs
        · rw [if_neg ha, if_neg hb']
    omega
theorem smul_zero (a b : Int) (a0 : -9223372036854775808 ≤ a) (a1 : a ≤ 9223372036854775807) (b0 : -9223372036854775808 ≤ b) (b1 : b ≤ 9223372036854775807) (w : World) :
    Calls Tryz.prog 47 #[.agg #[.int .u64 0, .int .u64 0, .int .u64 0, .int .u64 0, .int .u64 0, .int .u64 0, .int .u64 0, .int .u64 0, .int .u64 0, .int .u64 0, .int .u64 0, .int .u64 0], .int .i64 a, .int .i64 b] w fun e w' => ∃ p' q', e = .returned (.agg #[.int .u64 (dg (p') 0), .int .u64 (dg (p') 1), .int .u64 (dg (p') 2), .int .u64 (dg (p') 3), .int .u64 (dg (p') 4), .int .u64 (dg (p') 5), .int .u64 (dg (q') 0), .int .u64 (dg (q') 1), .int .u64 (dg (q') 2), .int .u64 (dg (q') 3), .int .u64 (dg (q') 4), .int .u64 (dg (q') 5)]) ∧ Sm p' q' (a * b) 85070591730234615865843651857942052864 ∧ Below w.heap.size w w' := by
  have h := smul_any 0 0 0 0 a b ⟨by omega, by omega, by omega, by omega, by omega⟩ a0 a1 b0 b1 w
  rw [Int.zero_add, Int.zero_add] at h
  simp only [dg_zero] at h
  exact h
theorem sround_of (p q V B : Int) (n : Nat) (hn : n ≤ 1000) (hS : Sm p q V B) (hB : B < 3138550867693340381917894711603833208051177722232017256448) (w : World) :
    Calls Tryz.prog 48 #[.agg #[.int .u64 (dg (p) 0), .int .u64 (dg (p) 1), .int .u64 (dg (p) 2), .int .u64 (dg (p) 3), .int .u64 (dg (p) 4), .int .u64 (dg (p) 5), .int .u64 (dg (q) 0), .int .u64 (dg (q) 1), .int .u64 (dg (q) 2), .int .u64 (dg (q) 3), .int .u64 (dg (q) 4), .int .u64 (dg (q) 5)], .int .i64 (n : Int)] w fun e w' => e = .returned (.tuple #[.int .i64 (clv (rr V n)), .bool (ovv (rr V n))]) ∧ Below w.heap.size w w' := by
  obtain ⟨h1, h2, h3, h4, h5⟩ := hS
  rw [← h5]
  exact sround_any p q n hn h1 (by omega) h2 (by omega) w

set_option maxHeartbeats 1000000 in
theorem rfmul_any (a b : Int) (a0 : -9223372036854775808 ≤ a) (a1 : a ≤ 9223372036854775807) (b0 : -9223372036854775808 ≤ b) (b1 : b ≤ 9223372036854775807) (w : World) :
    Calls Tryz.prog 56 #[.int .i64 a, .int .i64 b] w fun e w' => e = .returned (.tuple #[.int .i64 (clv (rnd (a * b) 32)), .bool (ovv (rnd (a * b) 32))]) ∧ Below w.heap.size w w' := by
  go_enter Tryz.func56, Tryz.ntmps56
  go_wp2_with fail
  refine (smul_zero a b a0 a1 b0 b1 _).mono ?_
  rintro e w1 ⟨p', q', rfl, hS, W1⟩
  go_wp2_with fail
  refine (sround_of p' q' _ _ 32 (by omega) hS (by omega) _).mono ?_
  rintro e w2 ⟨rfl, hb⟩
  have W2 := bchain W1 hb
  clear hb W1 hS
  go_wp2
  go_ret2
  exact ⟨rfl, W2⟩
end Go.Proofs.YtdfjnbkkdgolnaaGreatDoor
set_option linter.unusedVariables false
set_option linter.unusedSimpArgs false
namespace Go.Proofs.YtdfjnbkkdgolnaaGreatDoor
open Go.RowKit

theorem Sm.turn {p q V B : Int} (h : Sm p q V B) : Sm q p (-V) B := by
  obtain ⟨h1, h2, h3, h4, h5⟩ := h
  exact ⟨h2, h1, h4, h3, by omega⟩

set_option maxHeartbeats 1000000 in
theorem rfsub_any (a b : Int) (a0 : -9223372036854775808 ≤ a) (a1 : a ≤ 9223372036854775807) (b0 : -9223372036854775808 ≤ b) (b1 : b ≤ 9223372036854775807) (w : World) :
    Calls Tryz.prog 52 #[.int .i64 a, .int .i64 b] w fun e w' => e = .returned (.tuple #[.int .i64 (clv (a - b)), .bool (ovv (a - b))]) ∧ Below w.heap.size w w' := by
  go_enter Tryz.func52, Tryz.ntmps52
  go_wp2_with fail
  refine (sadd_zero b 0 (by omega) b0 b1 _).mono ?_
  rintro e w1 ⟨p', q', rfl, hS, W1⟩
  have hT := hS.turn
  rw [Nat.mul_zero, Int.pow_zero, Int.mul_one, Int.mul_one] at hT
  clear hS
  have W2 := bchain W1 (bel1 w1 (.cells #[.int .u64 (dg (q') 0), .int .u64 (dg (q') 1), .int .u64 (dg (q') 2), .int .u64 (dg (q') 3), .int .u64 (dg (q') 4), .int .u64 (dg (q') 5), .int .u64 (dg (p') 0), .int .u64 (dg (p') 1), .int .u64 (dg (p') 2), .int .u64 (dg (p') 3), .int .u64 (dg (p') 4), .int .u64 (dg (p') 5)] 108))
  clear W1
  go_wp2_with fail
  refine (sadd_any q' p' _ _ a 0 (by omega) hT a0 a1 _).mono ?_
  rintro e w2 ⟨p2, q2, rfl, hS2, hb⟩
  have W3 := bchain W2 hb
  clear hb W2 hT
  rw [Nat.mul_zero, Int.pow_zero, Int.mul_one, Int.mul_one, show -b + a = a - b by omega] at hS2
  go_wp2_with fail
  refine (sround_of p2 q2 _ _ 0 (by omega) hS2 (by omega) _).mono ?_
  rintro e w3 ⟨rfl, hb⟩
  have W4 := bchain W3 hb
  clear hb W3 hS2
  go_wp2
  go_ret2
  exact ⟨rfl, W4⟩
end Go.Proofs.YtdfjnbkkdgolnaaGreatDoor
set_option linter.unusedVariables false
set_option linter.unusedSimpArgs false
namespace Go.Proofs.YtdfjnbkkdgolnaaGreatDoor
open Go.RowKit

/-- A list of whole numbers in memory. -/
def Ar (w : World) (v : Value) (n : Nat) (f : Nat → Int) : Prop :=
  ∃ (adr : Option Addr) (cap b o : Nat), v = .slice adr n cap ∧ n ≤ cap ∧ cap ≤ maxLen ∧ (0 < n → adr = some ⟨b, o, none⟩) ∧ ∀ k, k < n → w.cell? ⟨b, o + k, none⟩ = some (.int .i64 (f k)) ∧ -9223372036854775808 ≤ f k ∧ f k ≤ 9223372036854775807
theorem Ar.later {w w' : World} {v : Value} {n : Nat} {f : Nat → Int} (h : Ar w v n f) (hb : Below w.heap.size w w') : Ar w' v n f := by
  obtain ⟨adr, cap, b, o, h1, h2, h3, h4, h5⟩ := h
  exact ⟨adr, cap, b, o, h1, h2, h3, h4, fun k hk => ⟨cell_later hb (h5 k hk).1, (h5 k hk).2⟩⟩
/-- Whatever it holds lies apart from a block. -/
def Nb (v : Value) (d : Nat) : Prop := ∀ (a : Addr) (n cap : Nat), v = .slice (some a) n cap → 0 < n → a.block ≠ d
theorem Ar.un {w w' : World} {v : Value} {n : Nat} {f : Nat → Int} {d : Nat} {c : Int} (h : Ar w v n f) (hd : Nb v d) (hU : Un d c w w') : Ar w' v n f := by
  obtain ⟨adr, cap, b, o, h1, h2, h3, h4, h5⟩ := h
  refine ⟨adr, cap, b, o, h1, h2, h3, h4, fun k hk => ⟨hU.o _ _ ?_ (h5 k hk).1, (h5 k hk).2⟩⟩
  have e := h4 (by omega)
  subst e
  exact hd ⟨b, o, none⟩ n cap h1 (by omega)
/-- A sum of products. -/
def dotV (f g : Nat → Int) : Nat → Int
  | 0 => 0
  | n + 1 => dotV f g n + f n * g n
/-- A sum of parts. -/
def sumV (f : Nat → Int) : Nat → Int
  | 0 => 0
  | n + 1 => sumV f n + f n
/-- A root, held. -/
def rtX (V : Int) : Int := if V < 0 then 0 else if 85070591730234615865843651857942052864 ≤ V then 9223372036854775807 else rt V
set_option maxHeartbeats 1000000 in
theorem utake_any (d : Nat) (n a : Int) (o : Bool) (n0 : 0 ≤ n) (n1 : n ≤ 1000000000) (w : World) (c : w.cell? ⟨d, 0, none⟩ = some (.int .i64 n)) (f : w.frozen? ⟨d, 0, none⟩ = false) :
    Calls Tryz.prog 49 #[.pointer (some ⟨d, 0, none⟩), .int .i64 a, .bool o] w fun e w' => e = .returned (.int .i64 a) ∧ Un d (n + bi o) w w' := by
  have U0 : Hid (Un d n w w) := Un.same c f
  have U1 : Hid (Un d (n + 1) w (w.setCell ⟨d, 0, none⟩ (.int .i64 (n + 1)))) := Un.set c f
  cases o
  · have e0 : n + bi false = n := by unfold bi; simp
    rw [e0]
    go_enter Tryz.func49, Tryz.ntmps49
    go_wp2
    go_ret
    exact ⟨rfl, U0.out⟩
  · have e0 : n + bi true = n + 1 := by unfold bi; simp
    rw [e0]
    go_enter Tryz.func49, Tryz.ntmps49
    go_wp2
    go_ret
    exact ⟨rfl, U1.out⟩

theorem B12.noughts {b : Nat} {x y : Nat → Int} {w : World} (h : B12 b x y (w.alloc (.cells #[.int .u64 0, .int .u64 0, .int .u64 0, .int .u64 0, .int .u64 0, .int .u64 0, .int .u64 0, .int .u64 0, .int .u64 0, .int .u64 0, .int .u64 0, .int .u64 0] 108))) : B12 b x y (w.alloc (.cells #[.int .u64 0, .int .u64 0, .int .u64 0, .int .u64 0, .int .u64 0, .int .u64 0, .int .u64 0, .int .u64 0, .int .u64 0, .int .u64 0, .int .u64 0, .int .u64 0] 108)) := h

end Go.Proofs.YtdfjnbkkdgolnaaGreatDoor
set_option linter.unusedVariables false
set_option linter.unusedSimpArgs false
namespace Go.Proofs.YtdfjnbkkdgolnaaGreatDoor
open Go.RowKit

/-- So many cells. -/
def il (f : Nat → Int) (n : Nat) : List Value := (List.range n).map (fun k => Value.int .i64 (f k))
theorem il_succ (f : Nat → Int) (n : Nat) : il f (n + 1) = il f n ++ [.int .i64 (f n)] := by unfold il; rw [List.range_succ, List.map_append]; rfl
theorem il_get (f : Nat → Int) (n k : Nat) (h : k < n) : (il f n)[k]? = some (.int .i64 (f k)) := by unfold il; rw [List.getElem?_map, List.getElem?_range h]; rfl
theorem il_len (f : Nat → Int) (n : Nat) : (il f n).length = n := by unfold il; simp
theorem dinfo_i64 : (Tryz.prog.info? 2).map (fun i => (i.zero, i.size, i.bytes)) = some (some (.int .i64 0), 1, 8) := by kernel_rfl
/-- A list that the call has made, from a block on. -/
def Ow (base : Nat) (v : Value) : Prop := ∀ (a : Addr) (n cap : Nat), v = .slice (some a) n cap → 0 < n → base ≤ a.block
theorem ar_of_own {w : World} {base : Nat} {v : Value} {n : Nat} {f : Nat → Int} {e : TypeId} (h : w.ownsRow base e 1 v n (il f n)) (hr : ∀ k, k < n → -9223372036854775808 ≤ f k ∧ f k ≤ 9223372036854775807) : Ar w v n f ∧ Ow base v := by
  rcases h.2 with ⟨hn, h0⟩ | ⟨g, cap, cur, hv, hbs, hg, h1, h2, h3⟩
  · subst hn h0
    exact ⟨⟨none, 0, 0, 0, rfl, by omega, by unfold maxLen; omega, fun h => by omega, fun k hk => by omega⟩, fun a n cap e => by cases e⟩
  · subst hv
    refine ⟨⟨some ⟨g, 0, none⟩, cap, g, 0, rfl, h1, h2, fun _ => rfl, fun k hk => ⟨?_, hr k hk⟩⟩, fun a n' cap' e _ => ?_⟩
    · rw [Nat.zero_add, h.cellAt k (by omega), il_get f n k hk]
    · cases e; exact hbs
theorem Ow.nb {base d : Nat} {v : Value} (h : Ow base v) (hd : d < base) : Nb v d := fun a n cap e hn => by have := h a n cap e hn; omega
theorem Ow.mono {base base' : Nat} {v : Value} (h : Ow base v) (hb : base' ≤ base) : Ow base' v := fun a n cap e hn => Nat.le_trans hb (h a n cap e hn)
theorem below_drewN {B : Nat} {w w' : World} (h : Below B w w') (k : Nat) : Below B w (w'.drewN k) := ⟨h.os, h.tape, h.output, h.size, h.block⟩
theorem dbelow_grown' {w wr w1 : World} {e : TypeId} {size : Nat} {v : Value} {n : Nat} {xs : List Value} {o : Obj} {r : Option Nat} (h : wr.ownsRow w.heap.size e size v n xs) (hW : Below w.heap.size w wr) (hg : (wr.alloc o).grownBy w1 r) (hr : r = some w.heap.size) : Below w.heap.size w w1 := by
  refine (hW.alloc hW.size o).grown hg ?_ ?_
  · have := hW.size; simp; omega
  · intro k hk
    rw [hr] at hk
    have := Option.some.inj hk
    omega
set_option maxRecDepth 100000 in
set_option maxHeartbeats 4000000 in
theorem same_yes (va vb : Value) (n : Nat) (f : Nat → Int) (hn : n ≤ 70000) (w : World) (hA : Ar w va n f) (hB : Ar w vb n f) :
    Calls Tryz.prog 18 #[va, vb] w fun e w' => e = .returned (.bool true) ∧ Below w.heap.size w w' := by
  obtain ⟨adr, cap, b, o, rfl, k1, k2, k3, k4⟩ := hA
  obtain ⟨adq, caq, bq, oq, rfl, q1, q2, q3, q4⟩ := hB
  have HA : Hid (∀ k, k < n → w.cell? ⟨b, o + k, none⟩ = some (.int .i64 (f k)) ∧ w.cell? ⟨bq, oq + k, none⟩ = some (.int .i64 (f k))) := fun k hk => ⟨(k4 k hk).1, (q4 k hk).1⟩
  have HK : Hid (0 < n → adr = some ⟨b, o, none⟩ ∧ adq = some ⟨bq, oq, none⟩) := fun h => ⟨k3 h, q3 h⟩
  clear k3 k4 q3 q4
  go_enter Tryz.func18, Tryz.ntmps18
  go_wp2
  go_loopw [5] (fun s5 wr => ∃ j : Nat, j ≤ n ∧ s5 = .int .i64 (j : Int) ∧ Below w.heap.size w wr) (fun s5 _ => n - (intOf s5).toNat)
  case atStart => exact ⟨0, by omega, rfl, Below.refl _ _⟩
  case round =>
    obtain ⟨j, hj, rfl, hW⟩ := hrel
    by_cases hlt : j < n
    · have hjI : (j : Int) < (n : Int) := by omega
      obtain ⟨ea, eb⟩ := HK.out (by omega)
      subst ea eb
      obtain ⟨ca, cb⟩ := HA.out j hlt
      have cA : wr.cell? ⟨b, o + j, none⟩ = some (.int .i64 (f j)) := (hW.cell (World.block_lt_of_cell? _ _ ca)).trans ca
      have cB : wr.cell? ⟨bq, oq + j, none⟩ = some (.int .i64 (f j)) := (hW.cell (World.block_lt_of_cell? _ _ cb)).trans cb
      have hne : ((f j) != (f j)) = false := by simp
      have HW : Hid (Below w.heap.size w wr) := hW
      clear ca cb hW
      go_wp2
      go_quiet (fail)
      go_wp2
      go_roundw
      case rel => exact ⟨j + 1, by omega, by go_num, below_drewN HW.out _⟩
      case measure => simp [intOf]; omega
    · have HW : Hid (Below w.heap.size w wr) := hW
      have hjI : ¬ (j : Int) < (n : Int) := by omega
      clear hW
      go_wp2
      go_ret
      exact ⟨rfl, HW.out⟩
end Go.Proofs.YtdfjnbkkdgolnaaGreatDoor
set_option linter.unusedVariables false
set_option linter.unusedSimpArgs false
namespace Go.Proofs.YtdfjnbkkdgolnaaGreatDoor
open Go.RowKit

/-- How many were held. -/
def cntV (O : Nat → Bool) : Nat → Int
  | 0 => 0
  | n + 1 => cntV O n + bi (O n)
theorem bi_rng (o : Bool) : 0 ≤ bi o ∧ bi o ≤ 1 := by unfold bi; split <;> omega
theorem cnt_rng (O : Nat → Bool) (n : Nat) : 0 ≤ cntV O n ∧ cntV O n ≤ n := by
  induction n with
  | zero => exact ⟨Int.le_refl _, Int.le_refl _⟩
  | succ n ih =>
    have := bi_rng (O n)
    have e : cntV O (n + 1) = cntV O n + bi (O n) := rfl
    rw [e]
    omega
theorem own_later {wr w1 : World} {B : Nat} {e : TypeId} {s : Nat} {v : Value} {n : Nat} {xs : List Value} (h : wr.ownsRow B e s v n xs) (hb : Below wr.heap.size wr w1) : w1.ownsRow B e s v n xs := by
  refine ⟨h.1, ?_⟩
  rcases h.2 with h0 | ⟨g, cap, cur, hv, hg, hh, r⟩
  · exact Or.inl h0
  · exact Or.inr ⟨g, cap, cur, hv, hg, (hb.block g (Array.getElem?_eq_some_iff.1 hh).1).trans hh, r⟩
theorem own_un {wr w1 : World} {B : Nat} {e : TypeId} {s : Nat} {v : Value} {n : Nat} {xs : List Value} {d : Nat} {c : Int} (h : wr.ownsRow B e s v n xs) (hU : Un d c wr w1) (hd : d < B) : w1.ownsRow B e s v n xs := by
  refine ⟨h.1, ?_⟩
  rcases h.2 with h0 | ⟨g, cap, cur, hv, hg, hh, r⟩
  · exact Or.inl h0
  · exact Or.inr ⟨g, cap, cur, hv, hg, (hU.k g (Array.getElem?_eq_some_iff.1 hh).1 (by omega)).trans hh, r⟩
theorem Un.grow {d : Nat} {c : Int} {w wr w1 : World} {o : Obj} {r : Option Nat} (hU : Un d c w wr) (hd : d < w.heap.size) (hg : (wr.alloc o).grownBy w1 r) (hr : ∀ k, r = some k → w.heap.size ≤ k) : Un d c w w1 := by
  have hs := hU.s
  have blk : ∀ i, i < w.heap.size → w1.heap[i]? = wr.heap[i]? := fun i hi => by
    rw [hg.block i (by rw [World.size_alloc]; omega) (fun e => by have := hr i e.symm; omega), Below.heap_alloc _ _ _ (by omega)]
  refine ⟨(World.cell?_of_block (w := wr) (blk d hd)).trans hU.c, (World.frozen?_of_block (w := wr) (blk d hd)).trans hU.f, ?_, ?_, ?_, ?_⟩
  · intro base w0 h1 h2 h3
    exact ((hU.b base w0 h1 h2 h3).alloc (by omega) o).grown hg (by rw [World.size_alloc]; omega) (fun k hk => by have := hr k hk; omega)
  · intro a v ha hc
    have hb := World.block_lt_of_cell? _ _ hc
    exact (World.cell?_of_block (w := wr) (blk a.block hb)).trans (hU.o a v ha hc)
  · have := hg.size
    rw [World.size_alloc] at this
    omega
  · intro i hi hn
    exact (blk i hi).trans (hU.k i hi hn)
theorem clv_rng (x : Int) : -9223372036854775808 ≤ clv x ∧ clv x ≤ 9223372036854775807 := by
  unfold clv
  repeat' split
  all_goals omega

theorem Un.chain {d : Nat} {c c' : Int} {w w1 w2 : World} (h : Un d c w w1) (k : Un d c' w1 w2) : Un d c' w w2 where
  c := k.c
  f := k.f
  b := fun base w0 h1 h2 h3 => k.b base w0 h1 (Nat.le_trans h2 h.s) (h.b base w0 h1 h2 h3)
  o := fun a v ha hc => k.o a v ha (h.o a v ha hc)
  s := Nat.le_trans h.s k.s
  k := fun i hi hn => (k.k i (Nat.lt_of_lt_of_le hi h.s) hn).trans (h.k i hi hn)

theorem cc_later {w w' : World} {a b : Addr} {x y : Value} (h : w.cell? a = some x ∧ w.cell? b = some y) (hb : Below w.heap.size w w') : w'.cell? a = some x ∧ w'.cell? b = some y := ⟨cell_later hb h.1, cell_later hb h.2⟩
theorem hidUO {d : Nat} {c : Int} {w a b : World} {B : Nat} {e : TypeId} {s : Nat} {v : Value} {n : Nat} {xs : List Value} (h : Hid (Un d c w a ∧ a.ownsRow B e s v n xs)) (hb : Below a.heap.size a b) : Hid (Un d c w b ∧ b.ownsRow B e s v n xs) := ⟨h.out.1.ahead hb, own_later h.out.2 hb⟩

end Go.Proofs.YtdfjnbkkdgolnaaGreatDoor
set_option linter.unusedVariables false
namespace Go.Proofs.YtdfjnbkkdgolnaaGreatDoor
open Go.ChangeShapes Go.WideShapes Go.ChangeAt Go.RowKit Go.Joins

theorem laidOutV : laidOutB Tryz.prog = true := by kernel_rfl
theorem cellsFx : Tryz.prog.cellsOf 41 = 1 := by kernel_rfl
theorem add_noneV (b o n : Nat) : (⟨b, o, none⟩ : Addr).add n = ⟨b, o + n, none⟩ := by
  unfold Addr.add
  split
  · subst n; rfl
  · rfl
set_option maxRecDepth 100000 in
/-- A list of numbers, opened. -/
theorem open_fixes {H : Type} {enc : TypeId × Value → H} {w : World} {r : Reach} {b0 : Nat} {v : Value} {d : DataW H} {p : List MemPlace}
    (hv : Value.okWide Tryz.prog w r b0 23 v) (h : DataW.Trod enc Tryz.prog w 0 (fun _ => true) true 23 v d p) : ∃ (n : Nat) (f : Nat → Int), Ar w v n f := by
  obtain ⟨adr, len, cap, rfl⟩ := okWide_slice Tryz.underlying23 hv
  obtain ⟨fuel, h⟩ := h
  rcases Go.Deep.open_slice Tryz.underlying23 h with h0 | ⟨a, len', cap', m, n, D, Pl, hc, hb, hl, hm, hmm, -, hx⟩
  · have hc := h0.1
    simp [Value.cells] at hc
    obtain ⟨rfl, rfl, rfl⟩ := hc
    exact ⟨0, fun _ => 0, none, 0, 0, 0, rfl, Nat.le_refl _, Nat.zero_le _, fun h => by omega, fun j hj => by omega⟩
  · simp [Value.cells] at hc
    obtain ⟨rfl, rfl, rfl⟩ := hc
    simp only [if_true] at hmm
    subst hmm
    obtain ⟨ab, ao, spot⟩ := a
    have hint : ∀ i, i < len → ∃ q : Int, w.cell? ((⟨ab, ao, spot⟩ : Addr).add i) = some (.int .i64 q) ∧ (Lit.int .i64 q).wf = true := fun i hi => by
      obtain ⟨cs', h1, h2⟩ := hx i (by omega)
      rw [cellsFx] at h1
      obtain ⟨_, hlen, hcell⟩ := World.cells?_some h1
      obtain ⟨x, e0, _, wx⟩ := DataW.trod_int Tryz.underlying41 h2
      subst e0
      have e1 := hcell 0 (by omega)
      rw [Go.Deep.add_add] at e1
      exact ⟨x, by simpa using e1, wx⟩
    obtain ⟨q, hq⟩ := Go.Deep.choose_lt hint
    refine ⟨len, q, some ⟨ab, ao, spot⟩, m, ab, ao, rfl, hl, hm, ?_, ?_⟩
    · intro h0
      have hspot : spot = none := by simpa [Addr.add] using World.cell?_spot (hq 0 h0).1
      rw [hspot]
    · intro j hj
      have hspot : spot = none := by simpa [Addr.add] using World.cell?_spot (hq 0 (by omega)).1
      subst hspot
      obtain ⟨d0, d1⟩ := hq j hj
      rw [add_noneV] at d0
      exact ⟨d0, bounds_i64 d1⟩
end Go.Proofs.YtdfjnbkkdgolnaaGreatDoor
set_option linter.unusedVariables false
namespace Go.Proofs.YtdfjnbkkdgolnaaGreatDoor
open Go.ChangeShapes Go.WideShapes Go.ChangeAt Go.RowKit Go.Joins

def laidTab : List (String × DataW Unit) := [("math/bits.deBruijn64tab", Rows.laid_math_bits_deBruijn64tab)]
theorem gTab : Tryz.prog.globalNamed "math/bits.deBruijn64tab" = some 2 := by kernel_rfl
theorem tTab : (Tryz.prog.globals[2]?).map (·.type) = some 240 := by kernel_rfl
theorem cellsTab : Tryz.prog.cellsOf 240 = 64 := by kernel_rfl
theorem cellsU8 : Tryz.prog.cellsOf 5 = 1 := by kernel_rfl

/-- The door's own heap meets the condition. -/
theorem door_met (os : Os) (args : Array Value) : laidMetH Tryz.prog laidTab ((World.doorLaid Tryz.prog 400 os).forCall (fun _ _ => 0) ⟨#[], args, []⟩).memory :=
  laidMetH_of_parts3 (fuel := 8) (laidMet_of_run' 8 (by kernel_rfl) (by kernel_rfl)) (by kernel_rfl) (by kernel_rfl)

theorem tab_of_laid {W : World} (h : laidMetH Tryz.prog laidTab W) : TabAt W := by
  rw [MakeChecks.laidMetH_plain _ _ _ (by kernel_rfl)] at h
  have h2 : laidMet Tryz.prog [("math/bits.deBruijn64tab", Lib.tabData .u8 (Lib.deBruijn64tab.map (fun n : Nat => (n : Int))))] W := h
  have hT := Lib.tabIs_of_head gTab tTab Tryz.underlying240 Tryz.underlying5 cellsU8 cellsTab h2
  intro j hj
  have hc := hT.cell gTab j (by rw [List.length_map]; exact hj)
  rw [hc]
  have hj2 : j < Lib.deBruijn64tab.length := hj
  simp [List.getD, hj2]
end Go.Proofs.YtdfjnbkkdgolnaaGreatDoor
