/-
  The contracts of fix's Unit's reckoning methods.
-/
import Derived.Test.YtpmlpcejmndidabDoorFWalkU
import Derived.Test.YtpmlpcejmndidabDoorWalkR
import Derived.Test.YtpmlpcejmndidabDoorFWalkD
set_option linter.unusedVariables false
set_option linter.unusedSimpArgs false
namespace Go.Proofs.YtpmlpcejmndidabDoor
open Go.RowKit

set_option maxHeartbeats 1000000 in
theorem tkAdd_nil (a b : Int) (a0 : -9223372036854775808 ≤ a) (a1 : a ≤ 9223372036854775807) (b0 : -9223372036854775808 ≤ b) (b1 : b ≤ 9223372036854775807) (w : World) :
    Calls Tryd.prog 45 #[.func (.func 28) #[.pointer none] #[], .func (.func 9) #[] #[], .int .i64 a, .int .i64 b] w fun e w' => e = .returned (.int .i64 (clv (a + b))) ∧ Below w.heap.size w w' := by
  have P : Hid (∀ W : World, Calls Tryd.prog 9 #[.int .i64 a, .int .i64 b] W fun e w' => e = .returned (.tuple #[.int .i64 (clv (a + b)), .bool (ovv (a + b))]) ∧ Below W.heap.size W w') := fun W => fadd_any a b a0 a1 b0 b1 W
  go_enter Tryd.func45, Tryd.ntmps45
  go_wp2_with fail
  refine (P.out _).mono ?_
  rintro e w1 ⟨rfl, W1⟩
  clear P
  go_wp2_with fail
  refine (take_nil _ _ _).mono ?_
  rintro e wz ⟨rfl, hz⟩
  subst hz
  go_wp2
  go_ret
  exact ⟨rfl, W1⟩
set_option maxHeartbeats 1000000 in
theorem tkAdd_un (a b : Int) (a0 : -9223372036854775808 ≤ a) (a1 : a ≤ 9223372036854775807) (b0 : -9223372036854775808 ≤ b) (b1 : b ≤ 9223372036854775807) (d : Nat) (n : Int) (n0 : 0 ≤ n) (n1 : n ≤ 1000) (w : World) (c : w.cell? ⟨d, 0, none⟩ = some (.int .i64 n)) (f : w.frozen? ⟨d, 0, none⟩ = false) :
    Calls Tryd.prog 45 #[.func (.func 28) #[.pointer (some ⟨d, 0, none⟩)] #[], .func (.func 9) #[] #[], .int .i64 a, .int .i64 b] w fun e w' => e = .returned (.int .i64 (clv (a + b))) ∧ Un d (n + bi (ovv (a + b))) w w' := by
  have P : Hid (∀ W : World, Calls Tryd.prog 9 #[.int .i64 a, .int .i64 b] W fun e w' => e = .returned (.tuple #[.int .i64 (clv (a + b)), .bool (ovv (a + b))]) ∧ Below W.heap.size W w') := fun W => fadd_any a b a0 a1 b0 b1 W
  go_enter Tryd.func45, Tryd.ntmps45
  go_wp2_with fail
  refine (P.out _).mono ?_
  rintro e w1 ⟨rfl, W1⟩
  clear P
  have c1 := cell_later W1 c
  have f1 := frozen_later W1 c f
  go_wp2_with fail
  refine (take_un d n _ _ n0 n1 _ c1 f1).mono ?_
  rintro e w2 ⟨rfl, hU⟩
  have hV := Un.after W1 hU
  clear hU W1 c1 f1 c f
  go_wp2
  go_ret
  exact ⟨rfl, hV⟩
set_option maxHeartbeats 1000000 in
theorem uAdd_nil (a b : Int) (a0 : -9223372036854775808 ≤ a) (a1 : a ≤ 9223372036854775807) (b0 : -9223372036854775808 ≤ b) (b1 : b ≤ 9223372036854775807) (w : World) :
    Calls Tryd.prog 19 #[.pointer none, .int .i64 a, .int .i64 b] w fun e w' => e = .returned (.int .i64 (clv (a + b))) ∧ Below w.heap.size w w' := by
  have hmf : ∀ (fn : Fn) (first cap : Array Value) (w : World), (Instr.makeFunc fn first cap).run Tryd.prog w = .ok (.func fn first cap) w := fun _ _ _ _ => rfl
  go_enter Tryd.func19, Tryd.ntmps19
  go_wp2_with fail
  refine (tkAdd_nil a b a0 a1 b0 b1 _).mono ?_
  rintro e w1 ⟨rfl, W1⟩
  go_wp2
  go_ret
  exact ⟨rfl, W1⟩
set_option maxHeartbeats 1000000 in
theorem uAdd_un (a b : Int) (a0 : -9223372036854775808 ≤ a) (a1 : a ≤ 9223372036854775807) (b0 : -9223372036854775808 ≤ b) (b1 : b ≤ 9223372036854775807) (d : Nat) (n : Int) (n0 : 0 ≤ n) (n1 : n ≤ 1000) (w : World) (c : w.cell? ⟨d, 0, none⟩ = some (.int .i64 n)) (f : w.frozen? ⟨d, 0, none⟩ = false) :
    Calls Tryd.prog 19 #[.pointer (some ⟨d, 0, none⟩), .int .i64 a, .int .i64 b] w fun e w' => e = .returned (.int .i64 (clv (a + b))) ∧ Un d (n + bi (ovv (a + b))) w w' := by
  have hmf : ∀ (fn : Fn) (first cap : Array Value) (w : World), (Instr.makeFunc fn first cap).run Tryd.prog w = .ok (.func fn first cap) w := fun _ _ _ _ => rfl
  go_enter Tryd.func19, Tryd.ntmps19
  go_wp2_with fail
  refine (tkAdd_un a b a0 a1 b0 b1 d n n0 n1 _ c f).mono ?_
  rintro e w1 ⟨rfl, W1⟩
  clear c f
  go_wp2
  go_ret
  exact ⟨rfl, W1⟩
set_option maxHeartbeats 1000000 in
theorem tkSub_nil (a b : Int) (a0 : -9223372036854775808 ≤ a) (a1 : a ≤ 9223372036854775807) (b0 : -9223372036854775808 ≤ b) (b1 : b ≤ 9223372036854775807) (w : World) :
    Calls Tryd.prog 45 #[.func (.func 28) #[.pointer none] #[], .func (.func 46) #[] #[], .int .i64 a, .int .i64 b] w fun e w' => e = .returned (.int .i64 (clv (a - b))) ∧ Below w.heap.size w w' := by
  have P : Hid (∀ W : World, Calls Tryd.prog 46 #[.int .i64 a, .int .i64 b] W fun e w' => e = .returned (.tuple #[.int .i64 (clv (a - b)), .bool (ovv (a - b))]) ∧ Below W.heap.size W w') := fun W => fsub_any a b a0 a1 b0 b1 W
  go_enter Tryd.func45, Tryd.ntmps45
  go_wp2_with fail
  refine (P.out _).mono ?_
  rintro e w1 ⟨rfl, W1⟩
  clear P
  go_wp2_with fail
  refine (take_nil _ _ _).mono ?_
  rintro e wz ⟨rfl, hz⟩
  subst hz
  go_wp2
  go_ret
  exact ⟨rfl, W1⟩
set_option maxHeartbeats 1000000 in
theorem tkSub_un (a b : Int) (a0 : -9223372036854775808 ≤ a) (a1 : a ≤ 9223372036854775807) (b0 : -9223372036854775808 ≤ b) (b1 : b ≤ 9223372036854775807) (d : Nat) (n : Int) (n0 : 0 ≤ n) (n1 : n ≤ 1000) (w : World) (c : w.cell? ⟨d, 0, none⟩ = some (.int .i64 n)) (f : w.frozen? ⟨d, 0, none⟩ = false) :
    Calls Tryd.prog 45 #[.func (.func 28) #[.pointer (some ⟨d, 0, none⟩)] #[], .func (.func 46) #[] #[], .int .i64 a, .int .i64 b] w fun e w' => e = .returned (.int .i64 (clv (a - b))) ∧ Un d (n + bi (ovv (a - b))) w w' := by
  have P : Hid (∀ W : World, Calls Tryd.prog 46 #[.int .i64 a, .int .i64 b] W fun e w' => e = .returned (.tuple #[.int .i64 (clv (a - b)), .bool (ovv (a - b))]) ∧ Below W.heap.size W w') := fun W => fsub_any a b a0 a1 b0 b1 W
  go_enter Tryd.func45, Tryd.ntmps45
  go_wp2_with fail
  refine (P.out _).mono ?_
  rintro e w1 ⟨rfl, W1⟩
  clear P
  have c1 := cell_later W1 c
  have f1 := frozen_later W1 c f
  go_wp2_with fail
  refine (take_un d n _ _ n0 n1 _ c1 f1).mono ?_
  rintro e w2 ⟨rfl, hU⟩
  have hV := Un.after W1 hU
  clear hU W1 c1 f1 c f
  go_wp2
  go_ret
  exact ⟨rfl, hV⟩
set_option maxHeartbeats 1000000 in
theorem uSub_nil (a b : Int) (a0 : -9223372036854775808 ≤ a) (a1 : a ≤ 9223372036854775807) (b0 : -9223372036854775808 ≤ b) (b1 : b ≤ 9223372036854775807) (w : World) :
    Calls Tryd.prog 20 #[.pointer none, .int .i64 a, .int .i64 b] w fun e w' => e = .returned (.int .i64 (clv (a - b))) ∧ Below w.heap.size w w' := by
  have hmf : ∀ (fn : Fn) (first cap : Array Value) (w : World), (Instr.makeFunc fn first cap).run Tryd.prog w = .ok (.func fn first cap) w := fun _ _ _ _ => rfl
  go_enter Tryd.func20, Tryd.ntmps20
  go_wp2_with fail
  refine (tkSub_nil a b a0 a1 b0 b1 _).mono ?_
  rintro e w1 ⟨rfl, W1⟩
  go_wp2
  go_ret
  exact ⟨rfl, W1⟩
set_option maxHeartbeats 1000000 in
theorem uSub_un (a b : Int) (a0 : -9223372036854775808 ≤ a) (a1 : a ≤ 9223372036854775807) (b0 : -9223372036854775808 ≤ b) (b1 : b ≤ 9223372036854775807) (d : Nat) (n : Int) (n0 : 0 ≤ n) (n1 : n ≤ 1000) (w : World) (c : w.cell? ⟨d, 0, none⟩ = some (.int .i64 n)) (f : w.frozen? ⟨d, 0, none⟩ = false) :
    Calls Tryd.prog 20 #[.pointer (some ⟨d, 0, none⟩), .int .i64 a, .int .i64 b] w fun e w' => e = .returned (.int .i64 (clv (a - b))) ∧ Un d (n + bi (ovv (a - b))) w w' := by
  have hmf : ∀ (fn : Fn) (first cap : Array Value) (w : World), (Instr.makeFunc fn first cap).run Tryd.prog w = .ok (.func fn first cap) w := fun _ _ _ _ => rfl
  go_enter Tryd.func20, Tryd.ntmps20
  go_wp2_with fail
  refine (tkSub_un a b a0 a1 b0 b1 d n n0 n1 _ c f).mono ?_
  rintro e w1 ⟨rfl, W1⟩
  clear c f
  go_wp2
  go_ret
  exact ⟨rfl, W1⟩
set_option maxHeartbeats 1000000 in
theorem tkMul_nil (a b : Int) (a0 : -9223372036854775808 ≤ a) (a1 : a ≤ 9223372036854775807) (b0 : -9223372036854775808 ≤ b) (b1 : b ≤ 9223372036854775807) (w : World) :
    Calls Tryd.prog 45 #[.func (.func 28) #[.pointer none] #[], .func (.func 10) #[] #[], .int .i64 a, .int .i64 b] w fun e w' => e = .returned (.int .i64 (clv (rnd (a * b) 32))) ∧ Below w.heap.size w w' := by
  have P : Hid (∀ W : World, Calls Tryd.prog 10 #[.int .i64 a, .int .i64 b] W fun e w' => e = .returned (.tuple #[.int .i64 (clv (rnd (a * b) 32)), .bool (ovv (rnd (a * b) 32))]) ∧ Below W.heap.size W w') := fun W => fmul_any a b a0 a1 b0 b1 W
  go_enter Tryd.func45, Tryd.ntmps45
  go_wp2_with fail
  refine (P.out _).mono ?_
  rintro e w1 ⟨rfl, W1⟩
  clear P
  go_wp2_with fail
  refine (take_nil _ _ _).mono ?_
  rintro e wz ⟨rfl, hz⟩
  subst hz
  go_wp2
  go_ret
  exact ⟨rfl, W1⟩
set_option maxHeartbeats 1000000 in
theorem tkMul_un (a b : Int) (a0 : -9223372036854775808 ≤ a) (a1 : a ≤ 9223372036854775807) (b0 : -9223372036854775808 ≤ b) (b1 : b ≤ 9223372036854775807) (d : Nat) (n : Int) (n0 : 0 ≤ n) (n1 : n ≤ 1000) (w : World) (c : w.cell? ⟨d, 0, none⟩ = some (.int .i64 n)) (f : w.frozen? ⟨d, 0, none⟩ = false) :
    Calls Tryd.prog 45 #[.func (.func 28) #[.pointer (some ⟨d, 0, none⟩)] #[], .func (.func 10) #[] #[], .int .i64 a, .int .i64 b] w fun e w' => e = .returned (.int .i64 (clv (rnd (a * b) 32))) ∧ Un d (n + bi (ovv (rnd (a * b) 32))) w w' := by
  have P : Hid (∀ W : World, Calls Tryd.prog 10 #[.int .i64 a, .int .i64 b] W fun e w' => e = .returned (.tuple #[.int .i64 (clv (rnd (a * b) 32)), .bool (ovv (rnd (a * b) 32))]) ∧ Below W.heap.size W w') := fun W => fmul_any a b a0 a1 b0 b1 W
  go_enter Tryd.func45, Tryd.ntmps45
  go_wp2_with fail
  refine (P.out _).mono ?_
  rintro e w1 ⟨rfl, W1⟩
  clear P
  have c1 := cell_later W1 c
  have f1 := frozen_later W1 c f
  go_wp2_with fail
  refine (take_un d n _ _ n0 n1 _ c1 f1).mono ?_
  rintro e w2 ⟨rfl, hU⟩
  have hV := Un.after W1 hU
  clear hU W1 c1 f1 c f
  go_wp2
  go_ret
  exact ⟨rfl, hV⟩
set_option maxHeartbeats 1000000 in
theorem uMul_nil (a b : Int) (a0 : -9223372036854775808 ≤ a) (a1 : a ≤ 9223372036854775807) (b0 : -9223372036854775808 ≤ b) (b1 : b ≤ 9223372036854775807) (w : World) :
    Calls Tryd.prog 21 #[.pointer none, .int .i64 a, .int .i64 b] w fun e w' => e = .returned (.int .i64 (clv (rnd (a * b) 32))) ∧ Below w.heap.size w w' := by
  have hmf : ∀ (fn : Fn) (first cap : Array Value) (w : World), (Instr.makeFunc fn first cap).run Tryd.prog w = .ok (.func fn first cap) w := fun _ _ _ _ => rfl
  go_enter Tryd.func21, Tryd.ntmps21
  go_wp2_with fail
  refine (tkMul_nil a b a0 a1 b0 b1 _).mono ?_
  rintro e w1 ⟨rfl, W1⟩
  go_wp2
  go_ret
  exact ⟨rfl, W1⟩
set_option maxHeartbeats 1000000 in
theorem uMul_un (a b : Int) (a0 : -9223372036854775808 ≤ a) (a1 : a ≤ 9223372036854775807) (b0 : -9223372036854775808 ≤ b) (b1 : b ≤ 9223372036854775807) (d : Nat) (n : Int) (n0 : 0 ≤ n) (n1 : n ≤ 1000) (w : World) (c : w.cell? ⟨d, 0, none⟩ = some (.int .i64 n)) (f : w.frozen? ⟨d, 0, none⟩ = false) :
    Calls Tryd.prog 21 #[.pointer (some ⟨d, 0, none⟩), .int .i64 a, .int .i64 b] w fun e w' => e = .returned (.int .i64 (clv (rnd (a * b) 32))) ∧ Un d (n + bi (ovv (rnd (a * b) 32))) w w' := by
  have hmf : ∀ (fn : Fn) (first cap : Array Value) (w : World), (Instr.makeFunc fn first cap).run Tryd.prog w = .ok (.func fn first cap) w := fun _ _ _ _ => rfl
  go_enter Tryd.func21, Tryd.ntmps21
  go_wp2_with fail
  refine (tkMul_un a b a0 a1 b0 b1 d n n0 n1 _ c f).mono ?_
  rintro e w1 ⟨rfl, W1⟩
  clear c f
  go_wp2
  go_ret
  exact ⟨rfl, W1⟩
set_option maxHeartbeats 1000000 in
theorem tkDiv_nil (a b : Int) (a0 : -9223372036854775808 ≤ a) (a1 : a ≤ 9223372036854775807) (b0 : -9223372036854775808 ≤ b) (b1 : b ≤ 9223372036854775807) (w : World) :
    Calls Tryd.prog 45 #[.func (.func 28) #[.pointer none] #[], .func (.func 47) #[] #[], .int .i64 a, .int .i64 b] w fun e w' => e = .returned (.int .i64 (qv (a * 4294967296) b)) ∧ Below w.heap.size w w' := by
  have P : Hid (∀ W : World, Calls Tryd.prog 47 #[.int .i64 a, .int .i64 b] W fun e w' => e = .returned (.tuple #[.int .i64 (qv (a * 4294967296) b), .bool (qo (a * 4294967296) b)]) ∧ Below W.heap.size W w') := fun W => fdiv_any a b a0 a1 b0 b1 W
  go_enter Tryd.func45, Tryd.ntmps45
  go_wp2_with fail
  refine (P.out _).mono ?_
  rintro e w1 ⟨rfl, W1⟩
  clear P
  go_wp2_with fail
  refine (take_nil _ _ _).mono ?_
  rintro e wz ⟨rfl, hz⟩
  subst hz
  go_wp2
  go_ret
  exact ⟨rfl, W1⟩
set_option maxHeartbeats 1000000 in
theorem tkDiv_un (a b : Int) (a0 : -9223372036854775808 ≤ a) (a1 : a ≤ 9223372036854775807) (b0 : -9223372036854775808 ≤ b) (b1 : b ≤ 9223372036854775807) (d : Nat) (n : Int) (n0 : 0 ≤ n) (n1 : n ≤ 1000) (w : World) (c : w.cell? ⟨d, 0, none⟩ = some (.int .i64 n)) (f : w.frozen? ⟨d, 0, none⟩ = false) :
    Calls Tryd.prog 45 #[.func (.func 28) #[.pointer (some ⟨d, 0, none⟩)] #[], .func (.func 47) #[] #[], .int .i64 a, .int .i64 b] w fun e w' => e = .returned (.int .i64 (qv (a * 4294967296) b)) ∧ Un d (n + bi (qo (a * 4294967296) b)) w w' := by
  have P : Hid (∀ W : World, Calls Tryd.prog 47 #[.int .i64 a, .int .i64 b] W fun e w' => e = .returned (.tuple #[.int .i64 (qv (a * 4294967296) b), .bool (qo (a * 4294967296) b)]) ∧ Below W.heap.size W w') := fun W => fdiv_any a b a0 a1 b0 b1 W
  go_enter Tryd.func45, Tryd.ntmps45
  go_wp2_with fail
  refine (P.out _).mono ?_
  rintro e w1 ⟨rfl, W1⟩
  clear P
  have c1 := cell_later W1 c
  have f1 := frozen_later W1 c f
  go_wp2_with fail
  refine (take_un d n _ _ n0 n1 _ c1 f1).mono ?_
  rintro e w2 ⟨rfl, hU⟩
  have hV := Un.after W1 hU
  clear hU W1 c1 f1 c f
  go_wp2
  go_ret
  exact ⟨rfl, hV⟩
set_option maxHeartbeats 1000000 in
theorem uDiv_nil (a b : Int) (a0 : -9223372036854775808 ≤ a) (a1 : a ≤ 9223372036854775807) (b0 : -9223372036854775808 ≤ b) (b1 : b ≤ 9223372036854775807) (w : World) :
    Calls Tryd.prog 22 #[.pointer none, .int .i64 a, .int .i64 b] w fun e w' => e = .returned (.int .i64 (qv (a * 4294967296) b)) ∧ Below w.heap.size w w' := by
  have hmf : ∀ (fn : Fn) (first cap : Array Value) (w : World), (Instr.makeFunc fn first cap).run Tryd.prog w = .ok (.func fn first cap) w := fun _ _ _ _ => rfl
  go_enter Tryd.func22, Tryd.ntmps22
  go_wp2_with fail
  refine (tkDiv_nil a b a0 a1 b0 b1 _).mono ?_
  rintro e w1 ⟨rfl, W1⟩
  go_wp2
  go_ret
  exact ⟨rfl, W1⟩
set_option maxHeartbeats 1000000 in
theorem uDiv_un (a b : Int) (a0 : -9223372036854775808 ≤ a) (a1 : a ≤ 9223372036854775807) (b0 : -9223372036854775808 ≤ b) (b1 : b ≤ 9223372036854775807) (d : Nat) (n : Int) (n0 : 0 ≤ n) (n1 : n ≤ 1000) (w : World) (c : w.cell? ⟨d, 0, none⟩ = some (.int .i64 n)) (f : w.frozen? ⟨d, 0, none⟩ = false) :
    Calls Tryd.prog 22 #[.pointer (some ⟨d, 0, none⟩), .int .i64 a, .int .i64 b] w fun e w' => e = .returned (.int .i64 (qv (a * 4294967296) b)) ∧ Un d (n + bi (qo (a * 4294967296) b)) w w' := by
  have hmf : ∀ (fn : Fn) (first cap : Array Value) (w : World), (Instr.makeFunc fn first cap).run Tryd.prog w = .ok (.func fn first cap) w := fun _ _ _ _ => rfl
  go_enter Tryd.func22, Tryd.ntmps22
  go_wp2_with fail
  refine (tkDiv_un a b a0 a1 b0 b1 d n n0 n1 _ c f).mono ?_
  rintro e w1 ⟨rfl, W1⟩
  clear c f
  go_wp2
  go_ret
  exact ⟨rfl, W1⟩
set_option maxHeartbeats 1000000 in
theorem uBy_nil (a b : Int) (a0 : -9223372036854775808 ≤ a) (a1 : a ≤ 9223372036854775807) (b0 : -9223372036854775808 ≤ b) (b1 : b ≤ 9223372036854775807) (w : World) :
    Calls Tryd.prog 23 #[.pointer none, .int .i64 a, .int .i64 b] w fun e w' => e = .returned (.int .i64 (qv a b)) ∧ Below w.heap.size w w' := by
  have P : Hid (∀ W : World, Calls Tryd.prog 48 #[.int .i64 a, .int .i64 b] W fun e w' => e = .returned (.tuple #[.int .i64 (qv a b), .bool (qo a b)]) ∧ Below W.heap.size W w') := fun W => fby_any a b a0 a1 b0 b1 W
  go_enter Tryd.func23, Tryd.ntmps23
  go_wp2_with fail
  refine (P.out _).mono ?_
  rintro e w1 ⟨rfl, W1⟩
  clear P
  go_wp2_with fail
  refine (take_nil _ _ _).mono ?_
  rintro e wz ⟨rfl, hz⟩
  subst hz
  go_wp2
  go_ret
  exact ⟨rfl, W1⟩
set_option maxHeartbeats 1000000 in
theorem uBy_un (a b : Int) (a0 : -9223372036854775808 ≤ a) (a1 : a ≤ 9223372036854775807) (b0 : -9223372036854775808 ≤ b) (b1 : b ≤ 9223372036854775807) (d : Nat) (n : Int) (n0 : 0 ≤ n) (n1 : n ≤ 1000) (w : World) (c : w.cell? ⟨d, 0, none⟩ = some (.int .i64 n)) (f : w.frozen? ⟨d, 0, none⟩ = false) :
    Calls Tryd.prog 23 #[.pointer (some ⟨d, 0, none⟩), .int .i64 a, .int .i64 b] w fun e w' => e = .returned (.int .i64 (qv a b)) ∧ Un d (n + bi (qo a b)) w w' := by
  have P : Hid (∀ W : World, Calls Tryd.prog 48 #[.int .i64 a, .int .i64 b] W fun e w' => e = .returned (.tuple #[.int .i64 (qv a b), .bool (qo a b)]) ∧ Below W.heap.size W w') := fun W => fby_any a b a0 a1 b0 b1 W
  go_enter Tryd.func23, Tryd.ntmps23
  go_wp2_with fail
  refine (P.out _).mono ?_
  rintro e w1 ⟨rfl, W1⟩
  clear P
  have c1 := cell_later W1 c
  have f1 := frozen_later W1 c f
  go_wp2_with fail
  refine (take_un d n _ _ n0 n1 _ c1 f1).mono ?_
  rintro e w2 ⟨rfl, hU⟩
  have hV := Un.after W1 hU
  clear hU W1 c1 f1 c f
  go_wp2
  go_ret
  exact ⟨rfl, hV⟩
set_option maxHeartbeats 1000000 in
theorem uSqrt_nil (a : Int) (a0 : -9223372036854775808 ≤ a) (a1 : a ≤ 9223372036854775807) (w : World) :
    Calls Tryd.prog 24 #[.pointer none, .int .i64 a] w fun e w' => e = .returned (.int .i64 (sv a)) ∧ Below w.heap.size w w' := by
  have P : Hid (∀ W : World, Calls Tryd.prog 11 #[.int .i64 a] W fun e w' => e = .returned (.tuple #[.int .i64 (sv a), .bool (decide (a < 0))]) ∧ Below W.heap.size W w') := fun W => fsqrt_any a a0 a1 W
  go_enter Tryd.func24, Tryd.ntmps24
  go_wp2_with fail
  refine (P.out _).mono ?_
  rintro e w1 ⟨rfl, W1⟩
  clear P
  go_wp2_with fail
  refine (take_nil _ _ _).mono ?_
  rintro e wz ⟨rfl, hz⟩
  subst hz
  go_wp2
  go_ret
  exact ⟨rfl, W1⟩
set_option maxHeartbeats 1000000 in
theorem uSqrt_un (a : Int) (a0 : -9223372036854775808 ≤ a) (a1 : a ≤ 9223372036854775807) (d : Nat) (n : Int) (n0 : 0 ≤ n) (n1 : n ≤ 1000) (w : World) (c : w.cell? ⟨d, 0, none⟩ = some (.int .i64 n)) (f : w.frozen? ⟨d, 0, none⟩ = false) :
    Calls Tryd.prog 24 #[.pointer (some ⟨d, 0, none⟩), .int .i64 a] w fun e w' => e = .returned (.int .i64 (sv a)) ∧ Un d (n + bi (decide (a < 0))) w w' := by
  have P : Hid (∀ W : World, Calls Tryd.prog 11 #[.int .i64 a] W fun e w' => e = .returned (.tuple #[.int .i64 (sv a), .bool (decide (a < 0))]) ∧ Below W.heap.size W w') := fun W => fsqrt_any a a0 a1 W
  go_enter Tryd.func24, Tryd.ntmps24
  go_wp2_with fail
  refine (P.out _).mono ?_
  rintro e w1 ⟨rfl, W1⟩
  clear P
  have c1 := cell_later W1 c
  have f1 := frozen_later W1 c f
  go_wp2_with fail
  refine (take_un d n _ _ n0 n1 _ c1 f1).mono ?_
  rintro e w2 ⟨rfl, hU⟩
  have hV := Un.after W1 hU
  clear hU W1 c1 f1 c f
  go_wp2
  go_ret
  exact ⟨rfl, hV⟩
set_option maxHeartbeats 1000000 in
theorem uNear_nil (v : Int) (h0 : -170141183460469231731687303715884105728 ≤ v) (h1 : v ≤ 170141183460469231731687303715884105727) (w : World) (hT : TabAt w) :
    Calls Tryd.prog 25 #[.pointer none, .agg #[.int .i64 (t3 v), .int .u64 (m3 v), .int .u64 (lo v)], .int .i64 32] w fun e w' => e = .returned (.int .i64 (clv (rnd v 32))) ∧ Below w.heap.size w w' := by
  have P : Hid (∀ W : World, TabAt W → Calls Tryd.prog 49 #[.agg #[.int .i64 (t3 v), .int .u64 (m3 v), .int .u64 (lo v)], .int .i64 32] W fun e w' => e = .returned (.tuple #[.int .i64 (clv (rnd v 32)), .bool (ovv (rnd v 32))]) ∧ Below W.heap.size W w') := by
    intro W hT
    have h := near_mid v 32 32 rfl (by omega) (by omega) (by omega) W hT
    rw [rl_pos v 32 (by omega)] at h
    exact h
  obtain ⟨k0, k1⟩ := clv_fit (rnd v 32)
  have HT : Hid (TabAt (w.alloc (.cells #[.int .i64 (t3 v), .int .u64 (m3 v), .int .u64 (lo v)] 54))) := hT.later (bel1 w _)
  clear hT
  go_enter Tryd.func25, Tryd.ntmps25
  go_wp2_with fail
  refine (P.out _ HT.out).mono ?_
  rintro e w1 ⟨rfl, hb⟩
  have W1 := bchain (bel1 w _) hb
  clear P HT hb
  go_wp2_with fail
  refine (take_nil _ _ _).mono ?_
  rintro e wz ⟨rfl, hz⟩
  subst hz
  go_wp2
  go_ret
  exact ⟨rfl, W1⟩
set_option maxHeartbeats 1000000 in
theorem uNear_un (v : Int) (h0 : -170141183460469231731687303715884105728 ≤ v) (h1 : v ≤ 170141183460469231731687303715884105727) (d : Nat) (n : Int) (n0 : 0 ≤ n) (n1 : n ≤ 1000) (w : World) (hT : TabAt w) (c : w.cell? ⟨d, 0, none⟩ = some (.int .i64 n)) (f : w.frozen? ⟨d, 0, none⟩ = false) :
    Calls Tryd.prog 25 #[.pointer (some ⟨d, 0, none⟩), .agg #[.int .i64 (t3 v), .int .u64 (m3 v), .int .u64 (lo v)], .int .i64 32] w fun e w' => e = .returned (.int .i64 (clv (rnd v 32))) ∧ Un d (n + bi (ovv (rnd v 32))) w w' := by
  have P : Hid (∀ W : World, TabAt W → Calls Tryd.prog 49 #[.agg #[.int .i64 (t3 v), .int .u64 (m3 v), .int .u64 (lo v)], .int .i64 32] W fun e w' => e = .returned (.tuple #[.int .i64 (clv (rnd v 32)), .bool (ovv (rnd v 32))]) ∧ Below W.heap.size W w') := by
    intro W hT
    have h := near_mid v 32 32 rfl (by omega) (by omega) (by omega) W hT
    rw [rl_pos v 32 (by omega)] at h
    exact h
  obtain ⟨k0, k1⟩ := clv_fit (rnd v 32)
  have HT : Hid (TabAt (w.alloc (.cells #[.int .i64 (t3 v), .int .u64 (m3 v), .int .u64 (lo v)] 54))) := hT.later (bel1 w _)
  clear hT
  go_enter Tryd.func25, Tryd.ntmps25
  go_wp2_with fail
  refine (P.out _ HT.out).mono ?_
  rintro e w1 ⟨rfl, hb⟩
  have W1 := bchain (bel1 w _) hb
  clear P HT hb
  have c1 := cell_later W1 c
  have f1 := frozen_later W1 c f
  go_wp2_with fail
  refine (take_un d n _ _ n0 n1 _ c1 f1).mono ?_
  rintro e w2 ⟨rfl, hU⟩
  have hV := Un.after W1 hU
  clear hU W1 c1 f1 c f
  go_wp2
  go_ret
  exact ⟨rfl, hV⟩
end Go.Proofs.YtpmlpcejmndidabDoor
