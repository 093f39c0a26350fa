/-
  Texts of this proof, joined: BH.
-/
import Derived.Test.YtcaficenocblfaaGreatDoorSU00
import Derived.Test.YtcaficenocblfaaGreatDoorSU01
import Derived.Test.YtcaficenocblfaaGreatDoorSU03
import Derived.Test.YtcaficenocblfaaGreatDoorSU04
import Derived.WalkLawsBesides
set_option linter.unusedVariables false
set_option linter.unusedSimpArgs false
namespace Go.Proofs.YtcaficenocblfaaGreatDoor
open Go.RowKit
theorem clv_fit (v : Int) : -9223372036854775808 ≤ clv v ∧ clv v ≤ 9223372036854775807 := by
  unfold clv
  split
  · omega
  · split <;> omega
set_option maxHeartbeats 1000000 in
theorem steps_any (a : Int) (a0 : -9223372036854775808 ≤ a) (a1 : a ≤ 9223372036854775807) (w : World) :
    Calls Tryz.prog 167 #[.int .i64 a] w fun e w' => e = .returned (.agg #[.int .i64 (hi a), .int .u64 (lo a)]) ∧ Below w.heap.size w w' := by
  go_enter Tryz.func167, Tryz.ntmps167
  go_wp2_with fail
  refine (of_any a a0 a1 _).mono ?_
  rintro e w1 ⟨rfl, hb⟩
  obtain ⟨hc, hf⟩ := bcell hb
  have hz := hb.size
  simp at hc hf hz
  go_wp2_with fail
  exact bodyPost_ret (v := .agg #[.int .i64 (hi a), .int .u64 (lo a)]) (by simp [results, Tryz.results167, go_sem, hc]) rfl ⟨rfl, ((((bel1 w _).trans (hb.mono (by simp))).setCell (by simp) _).setCell (by simp) _)⟩
set_option maxHeartbeats 1000000 in
theorem hold_any (v : Int) (h0 : -170141183460469231731687303715884105728 ≤ v) (h1 : v ≤ 170141183460469231731687303715884105727) (w : World) :
    Calls Tryz.prog 131 #[.agg #[.int .i64 (hi v), .int .u64 (lo v)]] w fun e w' => e = .returned (.tuple #[.int .i64 (clv v), .bool (ovv v)]) ∧ Below w.heap.size w w' := by
  obtain ⟨c0, c1⟩ := clv_fit v
  go_enter Tryz.func131, Tryz.ntmps131
  go_wp2_with fail
  refine (clamp_any v h0 h1 _).mono ?_
  rintro e w1 ⟨rfl, hb⟩
  have W1 := bchain (bel1 w _) hb
  clear hb
  go_wp2
  go_ret2
  exact ⟨rfl, W1⟩
set_option maxHeartbeats 1000000 in
theorem fsub_any (a b : Int) (a0 : -9223372036854775808 ≤ a) (a1 : a ≤ 9223372036854775807) (b0 : -9223372036854775808 ≤ b) (b1 : b ≤ 9223372036854775807) (w : World) :
    Calls Tryz.prog 166 #[.int .i64 a, .int .i64 b] w fun e w' => e = .returned (.tuple #[.int .i64 (clv (a - b)), .bool (ovv (a - b))]) ∧ Below w.heap.size w w' := by
  go_enter Tryz.func166, Tryz.ntmps166
  go_wp2_with fail
  refine (steps_any a a0 a1 _).mono ?_
  rintro e w1 ⟨rfl, W1⟩
  go_wp2_with fail
  refine (steps_any b b0 b1 _).mono ?_
  rintro e w2 ⟨rfl, hb⟩
  have W2 := bchain W1 hb
  clear hb W1
  go_wp2_with fail
  refine (sub_any a b _).mono ?_
  rintro e w3 ⟨rfl, hb⟩
  have W3 := bchain W2 hb
  clear hb W2
  go_wp2_with fail
  refine (hold_any (a - b) (by omega) (by omega) _).mono ?_
  rintro e w4 ⟨rfl, hb⟩
  have W4 := bchain W3 hb
  clear hb W3
  go_wp2
  go_ret2
  exact ⟨rfl, W4⟩
set_option maxHeartbeats 1000000 in
theorem fneg_any (a : Int) (a0 : -9223372036854775808 ≤ a) (a1 : a ≤ 9223372036854775807) (w : World) :
    Calls Tryz.prog 172 #[.int .i64 a] w fun e w' => e = .returned (.tuple #[.int .i64 (clv (-a)), .bool (ovv (-a))]) ∧ Below w.heap.size w w' := by
  go_enter Tryz.func172, Tryz.ntmps172
  go_wp2_with fail
  have h := fsub_any 0 a (by omega) (by omega) a0 a1 w
  rw [Int.zero_sub] at h
  refine h.mono ?_
  clear h
  rintro e w1 ⟨rfl, W1⟩
  go_wp2
  go_ret2
  exact ⟨rfl, W1⟩
theorem mul_in (a b : Int) (a0 : -9223372036854775808 ≤ a) (a1 : a ≤ 9223372036854775807) (b0 : -9223372036854775808 ≤ b) (b1 : b ≤ 9223372036854775807) : -85070591730234615865843651857942052864 ≤ a * b ∧ a * b ≤ 85070591730234615865843651857942052864 := by
  by_cases ha : a < 0
  · have h1 := Int.mul_le_mul_of_nonneg_left b0 (show 0 ≤ -a by omega)
    have h2 := Int.mul_le_mul_of_nonneg_left b1 (show 0 ≤ -a by omega)
    rw [Int.neg_mul a b] at h1 h2
    omega
  · have h1 := Int.mul_le_mul_of_nonneg_left b0 (show 0 ≤ a by omega)
    have h2 := Int.mul_le_mul_of_nonneg_left b1 (show 0 ≤ a by omega)
    omega
theorem rnd_in (v : Int) (k : Nat) (B : Int) (B0 : 1 ≤ B) (v0 : -B ≤ v) (v1 : v ≤ B) : -B - 1 ≤ rnd v k ∧ rnd v k ≤ B + 1 := by
  have hp := pow_pos' k
  have h1 : -B ≤ v / 2 ^ k := by
    rw [Int.le_ediv_iff_mul_le (by omega)]
    have := Int.mul_le_mul_of_nonneg_left (show (1 : Int) ≤ 2 ^ k by omega) (show 0 ≤ B by omega)
    rw [Int.neg_mul]; omega
  have h2 : v / 2 ^ k ≤ B := by
    by_cases h : 0 ≤ v
    · have := Int.ediv_le_self (2 ^ k) h; omega
    · have := Int.ediv_neg_of_neg_of_pos (show v < 0 by omega) (show (0 : Int) < 2 ^ k by omega); omega
  unfold rnd
  split <;> omega
set_option maxHeartbeats 1000000 in
theorem fmul_any (a b : Int) (a0 : -9223372036854775808 ≤ a) (a1 : a ≤ 9223372036854775807) (b0 : -9223372036854775808 ≤ b) (b1 : b ≤ 9223372036854775807) (w : World) :
    Calls Tryz.prog 124 #[.int .i64 a, .int .i64 b] w fun e w' => e = .returned (.tuple #[.int .i64 (clv (rnd (a * b) 32)), .bool (ovv (rnd (a * b) 32))]) ∧ Below w.heap.size w w' := by
  obtain ⟨m0, m1⟩ := mul_in a b a0 a1 b0 b1
  obtain ⟨r0, r1⟩ := rnd_in (a * b) 32 85070591730234615865843651857942052864 (by omega) m0 m1
  have MU : Hid (∀ W : World, Calls Tryz.prog 107 #[.int .i64 a, .int .i64 b] W fun e w' => e = .returned (.agg #[.int .i64 (hi (a * b)), .int .u64 (lo (a * b))]) ∧ Below W.heap.size W w') := fun W => mul_any a b a0 a1 b0 b1 W
  generalize a * b = p at *
  go_enter Tryz.func124, Tryz.ntmps124
  go_wp2_with fail
  refine (MU.out _).mono ?_
  rintro e w1 ⟨rfl, W1⟩
  clear MU
  go_wp2_with fail
  refine (round_mid p 32 (by omega) (by omega) (by omega) (by omega) _).mono ?_
  rintro e w2 ⟨rfl, hb⟩
  have W2 := bchain W1 hb
  clear hb W1
  go_wp2_with fail
  refine (hold_any (rnd p 32) (by omega) (by omega) _).mono ?_
  rintro e w3 ⟨rfl, hb⟩
  have W3 := bchain W2 hb
  clear hb W2
  go_wp2
  go_ret2
  exact ⟨rfl, W3⟩
end Go.Proofs.YtcaficenocblfaaGreatDoor
set_option linter.unusedVariables false
set_option linter.unusedSimpArgs false
namespace Go.Proofs.YtcaficenocblfaaGreatDoor
open Go.RowKit

theorem quo_in (v d : Int) (hd : d ≠ 0) (B : Int) (B0 : 1 ≤ B) (v0 : -B ≤ v) (v1 : v ≤ B) : -B - 1 ≤ quo v d ∧ quo v d ≤ B + 1 := by
  have h1 : 0 ≤ ab v ∧ ab v ≤ B := by unfold ab; split <;> omega
  have h2 : 1 ≤ ab d := by unfold ab; split <;> omega
  have h3 : 0 ≤ ab v / ab d := Int.ediv_nonneg h1.1 (by omega)
  have h4 : ab v / ab d ≤ ab v := Int.ediv_le_self _ h1.1
  have h5 : 0 ≤ quoA v d ∧ quoA v d ≤ B + 1 := by unfold quoA; split <;> omega
  unfold quo
  split <;> omega
end Go.Proofs.YtcaficenocblfaaGreatDoor
set_option linter.unusedVariables false
set_option linter.unusedSimpArgs false
namespace Go.Proofs.YtcaficenocblfaaGreatDoor
open Go.RowKit

structure Un (d : Nat) (n : Int) (w w' : World) : Prop where
  c : w'.cell? ⟨d, 0, none⟩ = some (.int .i64 n)
  f : w'.frozen? ⟨d, 0, none⟩ = false
  b : ∀ (base : Nat) (w0 : World), base ≤ d → base ≤ w.heap.size → Below base w0 w → Below base w0 w'
  o : ∀ (a : Addr) (v : Value), a.block ≠ d → w.cell? a = some v → w'.cell? a = some v
  s : w.heap.size ≤ w'.heap.size
  k : ∀ i : Nat, i < w.heap.size → i ≠ d → w'.heap[i]? = w.heap[i]?
theorem Un.same {d : Nat} {n : Int} {w : World} (c : w.cell? ⟨d, 0, none⟩ = some (.int .i64 n)) (f : w.frozen? ⟨d, 0, none⟩ = false) : Un d n w w :=
  ⟨c, f, fun _ _ _ _ h => h, fun _ _ _ h => h, Nat.le_refl _, fun _ _ _ => rfl⟩
theorem Un.set {d : Nat} {n m : Int} {w : World} (c : w.cell? ⟨d, 0, none⟩ = some (.int .i64 n)) (f : w.frozen? ⟨d, 0, none⟩ = false) : Un d m w (w.setCell ⟨d, 0, none⟩ (.int .i64 m)) where
  c := by simp [go_sem, c, f]
  f := by rw [World.frozen?_setCell]; exact f
  b := fun base w0 hd _ h => h.setCell (by dsimp only; omega) _
  o := fun a v ha h => cell_set (fun he => ha he.symm) h
  s := by simp
  k := fun i _ hn => Below.heap_setCell _ _ _ _ hn
theorem Un.after {d : Nat} {n : Int} {w w1 w2 : World} (hb : Below w.heap.size w w1) (h : Un d n w1 w2) : Un d n w w2 where
  c := h.c
  f := h.f
  b := fun base w0 hd hs h0 => h.b base w0 hd (Nat.le_trans hs hb.size) (h0.trans (hb.mono hs))
  o := fun a v ha hc => h.o a v ha (cell_later hb hc)
  s := Nat.le_trans hb.size h.s
  k := fun i hi hn => (h.k i (Nat.lt_of_lt_of_le hi hb.size) hn).trans (hb.block i hi)
theorem Un.ahead {d : Nat} {n : Int} {w w1 w2 : World} (h : Un d n w w1) (hb : Below w1.heap.size w1 w2) : Un d n w w2 where
  c := cell_later hb h.c
  f := frozen_later hb h.c h.f
  b := fun base w0 hd hs h0 => (h.b base w0 hd hs h0).trans (hb.mono (Nat.le_trans hs h.s))
  o := fun a v ha hc => cell_later hb (h.o a v ha hc)
  s := Nat.le_trans h.s hb.size
  k := fun i hi hn => (hb.block i (Nat.lt_of_lt_of_le hi h.s)).trans (h.k i hi hn)

def bi (o : Bool) : Int := if o = true then 1 else 0

set_option maxHeartbeats 1000000 in
theorem take_nil (a : Int) (o : Bool) (w : World) :
    Calls Tryz.prog 100 #[.pointer none, .int .i64 a, .bool o] w fun e w' => e = .returned (.int .i64 a) ∧ w' = w := by
  cases o
  · go_enter Tryz.func100, Tryz.ntmps100
    go_wp2
    go_ret
    exact ⟨rfl, rfl⟩
  · go_enter Tryz.func100, Tryz.ntmps100
    go_wp2
    go_ret
    exact ⟨rfl, rfl⟩
set_option maxHeartbeats 1000000 in
theorem more_any (d : Nat) (n : Int) (n0 : 0 ≤ n) (n1 : n ≤ 1000000000) (w : World) (c : w.cell? ⟨d, 0, none⟩ = some (.int .i64 n)) (f : w.frozen? ⟨d, 0, none⟩ = false) :
    Calls Tryz.prog 117 #[.pointer (some ⟨d, 0, none⟩)] w fun e w' => e = .returned (.tuple #[]) ∧ w' = w.setCell ⟨d, 0, none⟩ (.int .i64 (n + 1)) := by
  go_enter Tryz.func117, Tryz.ntmps117
  go_wp2
  go_end0
  exact ⟨rfl, rfl⟩
set_option maxHeartbeats 1000000 in
theorem take_un (d : Nat) (n a : Int) (o : Bool) (n0 : 0 ≤ n) (n1 : n ≤ 1000000000) (w : World) (c : w.cell? ⟨d, 0, none⟩ = some (.int .i64 n)) (f : w.frozen? ⟨d, 0, none⟩ = false) :
    Calls Tryz.prog 100 #[.pointer (some ⟨d, 0, none⟩), .int .i64 a, .bool o] w fun e w' => e = .returned (.int .i64 a) ∧ Un d (n + bi o) w w' := by
  have U0 : Hid (Un d n w w) := Un.same c f
  have U1 : Hid (Un d (n + 1) w (w.setCell ⟨d, 0, none⟩ (.int .i64 (n + 1)))) := Un.set c f
  cases o
  · have e0 : n + bi false = n := by unfold bi; simp
    rw [e0]
    go_enter Tryz.func100, Tryz.ntmps100
    go_wp2
    go_ret
    exact ⟨rfl, U0.out⟩
  · have e0 : n + bi true = n + 1 := by unfold bi; simp
    rw [e0]
    go_enter Tryz.func100, Tryz.ntmps100
    go_wp2_with fail
    refine (more_any d n n0 n1 _ c f).mono ?_
    rintro e w1 ⟨rfl, hw⟩
    subst hw
    go_wp2
    go_ret
    exact ⟨rfl, U1.out⟩
set_option maxHeartbeats 1000000 in
theorem count_any (d : Nat) (n : Int) (w : World) (c : w.cell? ⟨d, 0, none⟩ = some (.int .i64 n)) :
    Calls Tryz.prog 11 #[.pointer (some ⟨d, 0, none⟩)] w fun e w' => e = .returned (.int .i64 n) ∧ w' = w := by
  go_enter Tryz.func11, Tryz.ntmps11
  go_wp2
  go_ret
  exact ⟨rfl, rfl⟩
end Go.Proofs.YtcaficenocblfaaGreatDoor
set_option linter.unusedVariables false
set_option linter.unusedSimpArgs false
namespace Go.Proofs.YtcaficenocblfaaGreatDoor
open Go.RowKit

set_option maxHeartbeats 1000000 in
theorem tkSub_nil (a b : Int) (a0 : -9223372036854775808 ≤ a) (a1 : a ≤ 9223372036854775807) (b0 : -9223372036854775808 ≤ b) (b1 : b ≤ 9223372036854775807) (w : World) :
    Calls Tryz.prog 123 #[.func (.func 100) #[.pointer none] #[], .func (.func 166) #[] #[], .int .i64 a, .int .i64 b] w fun e w' => e = .returned (.int .i64 (clv (a - b))) ∧ Below w.heap.size w w' := by
  have P : Hid (∀ W : World, Calls Tryz.prog 166 #[.int .i64 a, .int .i64 b] W fun e w' => e = .returned (.tuple #[.int .i64 (clv (a - b)), .bool (ovv (a - b))]) ∧ Below W.heap.size W w') := fun W => fsub_any a b a0 a1 b0 b1 W
  go_enter Tryz.func123, Tryz.ntmps123
  go_wp2_with fail
  refine (P.out _).mono ?_
  rintro e w1 ⟨rfl, W1⟩
  clear P
  go_wp2_with fail
  refine (take_nil _ _ _).mono ?_
  rintro e wz ⟨rfl, hz⟩
  subst hz
  go_wp2
  go_ret
  exact ⟨rfl, W1⟩
set_option maxHeartbeats 1000000 in
theorem tkSub_un (a b : Int) (a0 : -9223372036854775808 ≤ a) (a1 : a ≤ 9223372036854775807) (b0 : -9223372036854775808 ≤ b) (b1 : b ≤ 9223372036854775807) (d : Nat) (n : Int) (n0 : 0 ≤ n) (n1 : n ≤ 1000000000) (w : World) (c : w.cell? ⟨d, 0, none⟩ = some (.int .i64 n)) (f : w.frozen? ⟨d, 0, none⟩ = false) :
    Calls Tryz.prog 123 #[.func (.func 100) #[.pointer (some ⟨d, 0, none⟩)] #[], .func (.func 166) #[] #[], .int .i64 a, .int .i64 b] w fun e w' => e = .returned (.int .i64 (clv (a - b))) ∧ Un d (n + bi (ovv (a - b))) w w' := by
  have P : Hid (∀ W : World, Calls Tryz.prog 166 #[.int .i64 a, .int .i64 b] W fun e w' => e = .returned (.tuple #[.int .i64 (clv (a - b)), .bool (ovv (a - b))]) ∧ Below W.heap.size W w') := fun W => fsub_any a b a0 a1 b0 b1 W
  go_enter Tryz.func123, Tryz.ntmps123
  go_wp2_with fail
  refine (P.out _).mono ?_
  rintro e w1 ⟨rfl, W1⟩
  clear P
  have c1 := cell_later W1 c
  have f1 := frozen_later W1 c f
  go_wp2_with fail
  refine (take_un d n _ _ n0 n1 _ c1 f1).mono ?_
  rintro e w2 ⟨rfl, hU⟩
  have hV := Un.after W1 hU
  clear hU W1 c1 f1 c f
  go_wp2
  go_ret
  exact ⟨rfl, hV⟩
set_option maxHeartbeats 1000000 in
theorem uSub_nil (a b : Int) (a0 : -9223372036854775808 ≤ a) (a1 : a ≤ 9223372036854775807) (b0 : -9223372036854775808 ≤ b) (b1 : b ≤ 9223372036854775807) (w : World) :
    Calls Tryz.prog 164 #[.pointer none, .int .i64 a, .int .i64 b] w fun e w' => e = .returned (.int .i64 (clv (a - b))) ∧ Below w.heap.size w w' := by
  have hmf : ∀ (fn : Fn) (first cap : Array Value) (w : World), (Instr.makeFunc fn first cap).run Tryz.prog w = .ok (.func fn first cap) w := fun _ _ _ _ => rfl
  go_enter Tryz.func164, Tryz.ntmps164
  go_wp2_with fail
  refine (tkSub_nil a b a0 a1 b0 b1 _).mono ?_
  rintro e w1 ⟨rfl, W1⟩
  go_wp2
  go_ret
  exact ⟨rfl, W1⟩
set_option maxHeartbeats 1000000 in
theorem uSub_un (a b : Int) (a0 : -9223372036854775808 ≤ a) (a1 : a ≤ 9223372036854775807) (b0 : -9223372036854775808 ≤ b) (b1 : b ≤ 9223372036854775807) (d : Nat) (n : Int) (n0 : 0 ≤ n) (n1 : n ≤ 1000000000) (w : World) (c : w.cell? ⟨d, 0, none⟩ = some (.int .i64 n)) (f : w.frozen? ⟨d, 0, none⟩ = false) :
    Calls Tryz.prog 164 #[.pointer (some ⟨d, 0, none⟩), .int .i64 a, .int .i64 b] w fun e w' => e = .returned (.int .i64 (clv (a - b))) ∧ Un d (n + bi (ovv (a - b))) w w' := by
  have hmf : ∀ (fn : Fn) (first cap : Array Value) (w : World), (Instr.makeFunc fn first cap).run Tryz.prog w = .ok (.func fn first cap) w := fun _ _ _ _ => rfl
  go_enter Tryz.func164, Tryz.ntmps164
  go_wp2_with fail
  refine (tkSub_un a b a0 a1 b0 b1 d n n0 n1 _ c f).mono ?_
  rintro e w1 ⟨rfl, W1⟩
  clear c f
  go_wp2
  go_ret
  exact ⟨rfl, W1⟩
set_option maxHeartbeats 1000000 in
theorem tkMul_nil (a b : Int) (a0 : -9223372036854775808 ≤ a) (a1 : a ≤ 9223372036854775807) (b0 : -9223372036854775808 ≤ b) (b1 : b ≤ 9223372036854775807) (w : World) :
    Calls Tryz.prog 123 #[.func (.func 100) #[.pointer none] #[], .func (.func 124) #[] #[], .int .i64 a, .int .i64 b] w fun e w' => e = .returned (.int .i64 (clv (rnd (a * b) 32))) ∧ Below w.heap.size w w' := by
  have P : Hid (∀ W : World, Calls Tryz.prog 124 #[.int .i64 a, .int .i64 b] W fun e w' => e = .returned (.tuple #[.int .i64 (clv (rnd (a * b) 32)), .bool (ovv (rnd (a * b) 32))]) ∧ Below W.heap.size W w') := fun W => fmul_any a b a0 a1 b0 b1 W
  go_enter Tryz.func123, Tryz.ntmps123
  go_wp2_with fail
  refine (P.out _).mono ?_
  rintro e w1 ⟨rfl, W1⟩
  clear P
  go_wp2_with fail
  refine (take_nil _ _ _).mono ?_
  rintro e wz ⟨rfl, hz⟩
  subst hz
  go_wp2
  go_ret
  exact ⟨rfl, W1⟩
set_option maxHeartbeats 1000000 in
theorem tkMul_un (a b : Int) (a0 : -9223372036854775808 ≤ a) (a1 : a ≤ 9223372036854775807) (b0 : -9223372036854775808 ≤ b) (b1 : b ≤ 9223372036854775807) (d : Nat) (n : Int) (n0 : 0 ≤ n) (n1 : n ≤ 1000000000) (w : World) (c : w.cell? ⟨d, 0, none⟩ = some (.int .i64 n)) (f : w.frozen? ⟨d, 0, none⟩ = false) :
    Calls Tryz.prog 123 #[.func (.func 100) #[.pointer (some ⟨d, 0, none⟩)] #[], .func (.func 124) #[] #[], .int .i64 a, .int .i64 b] w fun e w' => e = .returned (.int .i64 (clv (rnd (a * b) 32))) ∧ Un d (n + bi (ovv (rnd (a * b) 32))) w w' := by
  have P : Hid (∀ W : World, Calls Tryz.prog 124 #[.int .i64 a, .int .i64 b] W fun e w' => e = .returned (.tuple #[.int .i64 (clv (rnd (a * b) 32)), .bool (ovv (rnd (a * b) 32))]) ∧ Below W.heap.size W w') := fun W => fmul_any a b a0 a1 b0 b1 W
  go_enter Tryz.func123, Tryz.ntmps123
  go_wp2_with fail
  refine (P.out _).mono ?_
  rintro e w1 ⟨rfl, W1⟩
  clear P
  have c1 := cell_later W1 c
  have f1 := frozen_later W1 c f
  go_wp2_with fail
  refine (take_un d n _ _ n0 n1 _ c1 f1).mono ?_
  rintro e w2 ⟨rfl, hU⟩
  have hV := Un.after W1 hU
  clear hU W1 c1 f1 c f
  go_wp2
  go_ret
  exact ⟨rfl, hV⟩
set_option maxHeartbeats 1000000 in
theorem uMul_nil (a b : Int) (a0 : -9223372036854775808 ≤ a) (a1 : a ≤ 9223372036854775807) (b0 : -9223372036854775808 ≤ b) (b1 : b ≤ 9223372036854775807) (w : World) :
    Calls Tryz.prog 110 #[.pointer none, .int .i64 a, .int .i64 b] w fun e w' => e = .returned (.int .i64 (clv (rnd (a * b) 32))) ∧ Below w.heap.size w w' := by
  have hmf : ∀ (fn : Fn) (first cap : Array Value) (w : World), (Instr.makeFunc fn first cap).run Tryz.prog w = .ok (.func fn first cap) w := fun _ _ _ _ => rfl
  go_enter Tryz.func110, Tryz.ntmps110
  go_wp2_with fail
  refine (tkMul_nil a b a0 a1 b0 b1 _).mono ?_
  rintro e w1 ⟨rfl, W1⟩
  go_wp2
  go_ret
  exact ⟨rfl, W1⟩
set_option maxHeartbeats 1000000 in
theorem uMul_un (a b : Int) (a0 : -9223372036854775808 ≤ a) (a1 : a ≤ 9223372036854775807) (b0 : -9223372036854775808 ≤ b) (b1 : b ≤ 9223372036854775807) (d : Nat) (n : Int) (n0 : 0 ≤ n) (n1 : n ≤ 1000000000) (w : World) (c : w.cell? ⟨d, 0, none⟩ = some (.int .i64 n)) (f : w.frozen? ⟨d, 0, none⟩ = false) :
    Calls Tryz.prog 110 #[.pointer (some ⟨d, 0, none⟩), .int .i64 a, .int .i64 b] w fun e w' => e = .returned (.int .i64 (clv (rnd (a * b) 32))) ∧ Un d (n + bi (ovv (rnd (a * b) 32))) w w' := by
  have hmf : ∀ (fn : Fn) (first cap : Array Value) (w : World), (Instr.makeFunc fn first cap).run Tryz.prog w = .ok (.func fn first cap) w := fun _ _ _ _ => rfl
  go_enter Tryz.func110, Tryz.ntmps110
  go_wp2_with fail
  refine (tkMul_un a b a0 a1 b0 b1 d n n0 n1 _ c f).mono ?_
  rintro e w1 ⟨rfl, W1⟩
  clear c f
  go_wp2
  go_ret
  exact ⟨rfl, W1⟩
set_option maxHeartbeats 1000000 in
theorem uNear_nil (v : Int) (h0 : -3138550867693340381917894711603833208051177722232017256448 ≤ v) (h1 : v ≤ 3138550867693340381917894711603833208051177722232017256447) (w : World) (hT : TabAt w) :
    Calls Tryz.prog 83 #[.pointer none, .agg #[.int .i64 (t3 v), .int .u64 (m3 v), .int .u64 (lo v)], .int .i64 32] w fun e w' => e = .returned (.int .i64 (clv (rnd v 32))) ∧ Below w.heap.size w w' := by
  have P : Hid (∀ W : World, TabAt W → Calls Tryz.prog 105 #[.agg #[.int .i64 (t3 v), .int .u64 (m3 v), .int .u64 (lo v)], .int .i64 32] W fun e w' => e = .returned (.tuple #[.int .i64 (clv (rnd v 32)), .bool (ovv (rnd v 32))]) ∧ Below W.heap.size W w') := by
    intro W hT
    have h := near_mid v 32 32 rfl (by omega) (by omega) (by omega) W hT
    rw [rl_pos v 32 (by omega)] at h
    exact h
  obtain ⟨k0, k1⟩ := clv_fit (rnd v 32)
  have HT : Hid (TabAt (w.alloc (.cells #[.int .i64 (t3 v), .int .u64 (m3 v), .int .u64 (lo v)] 150))) := hT.later (bel1 w _)
  clear hT
  go_enter Tryz.func83, Tryz.ntmps83
  go_wp2_with fail
  refine (P.out _ HT.out).mono ?_
  rintro e w1 ⟨rfl, hb⟩
  have W1 := bchain (bel1 w _) hb
  clear P HT hb
  go_wp2_with fail
  refine (take_nil _ _ _).mono ?_
  rintro e wz ⟨rfl, hz⟩
  subst hz
  go_wp2
  go_ret
  exact ⟨rfl, W1⟩
set_option maxHeartbeats 1000000 in
theorem uNear_un (v : Int) (h0 : -3138550867693340381917894711603833208051177722232017256448 ≤ v) (h1 : v ≤ 3138550867693340381917894711603833208051177722232017256447) (d : Nat) (n : Int) (n0 : 0 ≤ n) (n1 : n ≤ 1000000000) (w : World) (hT : TabAt w) (c : w.cell? ⟨d, 0, none⟩ = some (.int .i64 n)) (f : w.frozen? ⟨d, 0, none⟩ = false) :
    Calls Tryz.prog 83 #[.pointer (some ⟨d, 0, none⟩), .agg #[.int .i64 (t3 v), .int .u64 (m3 v), .int .u64 (lo v)], .int .i64 32] w fun e w' => e = .returned (.int .i64 (clv (rnd v 32))) ∧ Un d (n + bi (ovv (rnd v 32))) w w' := by
  have P : Hid (∀ W : World, TabAt W → Calls Tryz.prog 105 #[.agg #[.int .i64 (t3 v), .int .u64 (m3 v), .int .u64 (lo v)], .int .i64 32] W fun e w' => e = .returned (.tuple #[.int .i64 (clv (rnd v 32)), .bool (ovv (rnd v 32))]) ∧ Below W.heap.size W w') := by
    intro W hT
    have h := near_mid v 32 32 rfl (by omega) (by omega) (by omega) W hT
    rw [rl_pos v 32 (by omega)] at h
    exact h
  obtain ⟨k0, k1⟩ := clv_fit (rnd v 32)
  have HT : Hid (TabAt (w.alloc (.cells #[.int .i64 (t3 v), .int .u64 (m3 v), .int .u64 (lo v)] 150))) := hT.later (bel1 w _)
  clear hT
  go_enter Tryz.func83, Tryz.ntmps83
  go_wp2_with fail
  refine (P.out _ HT.out).mono ?_
  rintro e w1 ⟨rfl, hb⟩
  have W1 := bchain (bel1 w _) hb
  clear P HT hb
  have c1 := cell_later W1 c
  have f1 := frozen_later W1 c f
  go_wp2_with fail
  refine (take_un d n _ _ n0 n1 _ c1 f1).mono ?_
  rintro e w2 ⟨rfl, hU⟩
  have hV := Un.after W1 hU
  clear hU W1 c1 f1 c f
  go_wp2
  go_ret
  exact ⟨rfl, hV⟩
end Go.Proofs.YtcaficenocblfaaGreatDoor
