/-
  WalkE, WalkF, WalkG, WalkH, WalkI, Tools.
-/
import Derived.Test.YtcdehbhdloaieaaGreatDoorBB
import Derived.Deep.DeepCutAuto
import Derived.Lib.QuietBelow
import Derived.BigQuiet
import Derived.Test.YtcdehbhdloaieaaGreatDoorBA
/-
  The contract of regatta/wide's Round.
-/
set_option linter.unusedVariables false
set_option linter.unusedSimpArgs false
namespace Go.Proofs.YtcdehbhdloaieaaGreatDoor
open Go.RowKit

theorem frozen_later {w wx : World} {a : Addr} {v : Value} (hb : Below w.heap.size w wx) (hc : w.cell? a = some v) (h : w.frozen? a = false) : wx.frozen? a = false :=
  (hb.frozen (World.block_lt_of_cell? _ _ hc)).trans h

theorem cell_alloc {W : World} {o : Obj} {a : Addr} {v : Value} (h : W.cell? a = some v) : (W.alloc o).cell? a = some v := cell_later (bel1 W o) h
theorem cell_drew {W : World} {a : Addr} {v : Value} (h : W.cell? a = some v) : W.drew.cell? a = some v := h

theorem cell_set {W : World} {p a : Addr} {x v : Value} (hp : p.block ≠ a.block) (h : W.cell? a = some v) : (W.setCell p x).cell? a = some v := by
  rw [World.cell?_setCell_far W p a x hp]; exact h

theorem frozen_alloc {W : World} {o : Obj} {a : Addr} {v : Value} (hc : W.cell? a = some v) (h : W.frozen? a = false) : (W.alloc o).frozen? a = false := frozen_later (bel1 W o) hc h
theorem Calls.regrown_same {P : Program} {f : FuncId} {args : Array Value} {w : World} {d : Nat} {os : Array Obj} {v : Value}
    (h : Calls P f args (Go.Sort.grow (redrawn w d) os) fun e w' => e = .returned v ∧ w' = Go.Sort.grow (redrawn w d) os) : Calls P f args (Go.Sort.grow (redrawn w d) os) fun e w'' => e = .returned v ∧ ∃ p : Regrown, w'' = Go.Sort.grow (redrawn w p.d) p.os :=
  h.mono fun _ _ ⟨he, hb⟩ => ⟨he, ⟨d, os⟩, hb⟩
theorem pow_126 (k : Nat) (hk : k ≤ 126) : (2 : Int) ^ k ≤ 85070591730234615865843651857942052864 := by
  have h : (2 : Nat) ^ k ≤ 2 ^ 126 := Nat.pow_le_pow_right (by omega) hk
  have h2 : (((2 : Nat) ^ k : Nat) : Int) ≤ (((2 : Nat) ^ 126 : Nat) : Int) := by omega
  rw [Int.natCast_pow] at h2
  exact h2

set_option maxHeartbeats 1000000 in
theorem round_mid (v : Int) (k : Nat) (k0 : 1 ≤ k) (k1 : k ≤ 127) (v0 : -170141183460469231731687303715884105728 ≤ v) (v1 : v ≤ 170141183460469231731687303715884105727) (w : World) :
    Calls Tryz.prog 107 #[.agg #[.int .i64 (hi v), .int .u64 (lo v)], .int .i64 k] w fun e w' => e = .returned (.agg #[.int .i64 (hi (rnd v k)), .int .u64 (lo (rnd v k))]) ∧ Below w.heap.size w w' := by
  have hk0 : ¬ (k : Int) ≤ 0 := by omega
  have hk1 : ¬ (127 : Int) < k := by omega
  go_enter Tryz.func107, Tryz.ntmps107
  go_wp2_with fail
  refine (shr_any v k (by omega) v0 v1 _).mono ?_
  rintro e w1 ⟨rfl, hb⟩
  rw [Int.toNat_natCast]
  obtain ⟨hc, hf⟩ := bcell hb
  have hz := hb.size
  simp at hz
  have ca0 : w1.cell? ⟨w.heap.size, 0, none⟩ = some (.int .i64 (hi v)) := by rw [hc _ _ (by simp <;> omega)]; simp [go_sem]
  have ca1 : w1.cell? ⟨w.heap.size, 1, none⟩ = some (.int .u64 (lo v)) := by rw [hc _ _ (by simp <;> omega)]; simp [go_sem]
  have cr0 : w1.cell? ⟨w.heap.size + 1, 0, none⟩ = some (.int .i64 0) := by rw [hc _ _ (by simp <;> omega)]; simp [go_sem]
  have cr1 : w1.cell? ⟨w.heap.size + 1, 1, none⟩ = some (.int .u64 0) := by rw [hc _ _ (by simp <;> omega)]; simp [go_sem]
  have fr0 : w1.frozen? ⟨w.heap.size + 1, 0, none⟩ = false := by rw [hf _ _ (by simp <;> omega)]; simp [go_sem]
  have fr1 : w1.frozen? ⟨w.heap.size + 1, 1, none⟩ = false := by rw [hf _ _ (by simp <;> omega)]; simp [go_sem]
  have hW : Below w.heap.size w w1 := (bel2 w _ _).trans (hb.mono (by simp; omega))
  clear hc hf hb
  generalize hdn : v / 2 ^ k = dn at *
  have Hdn : Hid (v / 2 ^ k = dn) := hdn
  clear hdn
  have cd0 : (w1.alloc (.cells #[.int .i64 (hi dn), .int .u64 (lo dn)] 131)).cell? ⟨w1.heap.size, 0, none⟩ = some (.int .i64 (hi dn)) := by simp [go_sem]
  have cd1 : (w1.alloc (.cells #[.int .i64 (hi dn), .int .u64 (lo dn)] 131)).cell? ⟨w1.heap.size, 1, none⟩ = some (.int .u64 (lo dn)) := by simp [go_sem]
  go_upto_region 6 with fail
  go_cut [6] (fun s6 wc => ∃ b6 : Nat, s6 = .pointer (some ⟨b6, 0, none⟩) ∧ wc.cell? ⟨b6, 0, none⟩ = some (.int .i64 (hi (v - dn * 2 ^ k))) ∧ wc.cell? ⟨b6, 1, none⟩ = some (.int .u64 (lo (v - dn * 2 ^ k))) ∧ Below (w1.heap.size + 1) (w1.alloc (.cells #[.int .i64 (hi dn), .int .u64 (lo dn)] 131)) wc)
  case first =>
    go_region_held3 (fun w' => w'.cell? ⟨w.heap.size, 0, none⟩ = some (.int .i64 (hi v)) ∧ w'.cell? ⟨w.heap.size, 1, none⟩ = some (.int .u64 (lo v)) ∧ w'.cell? ⟨w1.heap.size, 0, none⟩ = some (.int .i64 (hi dn)) ∧ w'.cell? ⟨w1.heap.size, 1, none⟩ = some (.int .u64 (lo dn))) (refine ⟨?_, ?_, ?_, ?_⟩ <;> (repeat (first | assumption | refine cell_later (by assumption) ?_ | refine cell_alloc ?_ | refine cell_drew ?_ | refine cell_set (by dsimp only; omega) ?_))) (first | (go_at_call 101; refine (shl_any dn k (by omega) _).mono ?_; rintro e w2 ⟨rfl, hb2⟩; obtain ⟨hc2, hf2⟩ := bcell hb2; (try simp at hc2 hf2); have hz2 := hb2.size; (try simp at hz2); (try have hy2 : w1.heap.size + 1 < w2.heap.size := (by omega))) | (go_at_call 108; refine (sub_any v (dn * 2 ^ (k : Int).toNat) _).mono ?_; rintro e w3 ⟨rfl, hb3⟩; obtain ⟨hc3, hf3⟩ := bcell hb3; (try simp at hc3 hf3); have hz3 := hb3.size; (try simp at hz3); (try have hy3 : w1.heap.size + 1 < w3.heap.size := (by omega))))
    all_goals (go_wp2_with fail)
    all_goals go_meet
    all_goals (refine ⟨_, rfl, ?_, ?_, ?_⟩)
    all_goals first | (simp [go_sem, *]; done) | (repeat (first | assumption | exact Below.refl _ _ | refine Below.setCell ?_ (by dsimp only; omega) _ | refine Below.alloc ?_ (by first | omega | (simp <;> omega)) _ | refine Below.drew ?_ | refine Below.trans ?_ (Below.mono (by assumption) (by first | omega | (simp <;> omega)))))
  case rest =>
    obtain ⟨b6, rfl, c60, c61, hB⟩ := hcut
    have hB' : Below (w1.alloc (.cells #[.int .i64 (hi dn), .int .u64 (lo dn)] 131)).heap.size (w1.alloc (.cells #[.int .i64 (hi dn), .int .u64 (lo dn)] 131)) wc := by simpa using hB
    have xr0 := cell_later hB' (cell_alloc cr0)
    have xr1 := cell_later hB' (cell_alloc cr1)
    have yr0 := frozen_later hB' (cell_alloc cr0) (frozen_alloc cr0 fr0)
    have yr1 := frozen_later hB' (cell_alloc cr1) (frozen_alloc cr1 fr1)
    have xd0 := cell_later hB' cd0
    have xd1 := cell_later hB' cd1
    have hWc : Below w.heap.size w wc := (hW.alloc (by omega) _).trans (hB.mono (by omega))
    have hNd : w.heap.size + 1 ≠ w1.heap.size := by omega
    clear cd0 cd1 hB hB' ca0 ca1 cr0 cr1 fr0 fr1 hz hW
    generalize w1.heap.size = d at *
    have q60 := fun x y => cell_regrown c60 x y
    have q61 := fun x y => cell_regrown c61 x y
    have qd1 := fun x y => cell_regrown xd1 x y
    have hlr : Hid (0 ≤ v - dn * 2 ^ k ∧ v - dn * 2 ^ k ≤ 170141183460469231731687303715884105727) := by
      show 0 ≤ v - dn * 2 ^ k ∧ v - dn * 2 ^ k ≤ 170141183460469231731687303715884105727
      rw [← Hdn.out, left_eq]; exact left_rng v k k1
    have hhr : Hid (1 ≤ (2 : Int) ^ (k - 1) ∧ (2 : Int) ^ (k - 1) ≤ 170141183460469231731687303715884105727) := by
      show 1 ≤ (2 : Int) ^ (k - 1) ∧ (2 : Int) ^ (k - 1) ≤ 170141183460469231731687303715884105727
      have := pow_126 (k - 1) (by omega)
      have := pow_pos' (k - 1)
      omega
    have hrn : Hid (rnd v k = if gu (c3 (v - dn * 2 ^ k) (2 ^ (k - 1))) (lo dn) = true then dn + 1 else dn) := by
      show rnd v k = if gu (c3 (v - dn * 2 ^ k) (2 ^ (k - 1))) (lo dn) = true then dn + 1 else dn
      rw [← Hdn.out, left_eq]
      rfl
    have hld := lo_ge dn
    have hwk : IntKind.i64.wrap ((k : Int) - 1) = (k : Int) - 1 := by rw [IntKind.wrap_i64]; omega
    by_cases hG : gu (c3 (v - dn * 2 ^ k) (2 ^ (k - 1))) (lo dn) = true
    · go_wp2_with fail
      refine wp_region_quiet_below (by kernel_rfl) (by kernel_rfl) ?_
      repeat (quiet_step (first | (go_at_call 112; exact Calls.regrown_of (of_any 1 (by omega) (by omega) _)) | (go_at_call 101; exact Calls.regrown_of (shl_any 1 ((k : Int) - 1) (by omega) _)) | (go_at_call 95; exact Calls.regrown_of (cmp_any (v - dn * 2 ^ k) (2 ^ (k - 1)) (by have := hlr.out; omega) (by have := hlr.out; omega) (by have := hhr.out; omega) (by have := hhr.out; omega) _)) | (go_at_call 114; exact Calls.regrown_same (goesUp_any _ _ hld _))))
      refine wpQuiet_nil ?_
      intro wd hw'
      have hB2 : Below wc.heap.size wc wd := by obtain ⟨⟨dq, osq⟩, rfl⟩ := hw'; exact below_regrown wc dq osq
      clear hw' q60 q61 qd1 hwk
      have zr0 := cell_later hB2 xr0
      have zr1 := cell_later hB2 xr1
      have ur0 := frozen_later hB2 xr0 yr0
      have ur1 := frozen_later hB2 xr1 yr1
      have zd0 := cell_later hB2 xd0
      have zd1 := cell_later hB2 xd1
      have hWd : Below w.heap.size w wd := hWc.trans (hB2.mono hWc.size)
      clear hB2 xr0 xr1 yr0 yr1 xd0 xd1 hWc c60 c61
      rw [hG]
      go_wp2_with fail
      go_region_held3 (fun w' => w'.cell? ⟨d, 0, none⟩ = some (.int .i64 (hi dn)) ∧ w'.cell? ⟨d, 1, none⟩ = some (.int .u64 (lo dn))) (refine ⟨?_, ?_⟩ <;> (repeat (first | assumption | refine cell_later (by assumption) ?_ | refine cell_alloc ?_ | refine cell_drew ?_ | refine cell_set (by dsimp only; omega) ?_))) (first | (go_at_call 112; refine (of_any 1 (by omega) (by omega) _).mono ?_; rintro e w2 ⟨rfl, hb2⟩; have x20 := cell_later hb2 (cell_drew zr0); have x21 := cell_later hb2 (cell_drew zr1); have x22 := frozen_later hb2 (cell_drew zr0) ur0; have x23 := frozen_later hb2 (cell_drew zr1) ur1) | (go_at_call 77; refine (add_any dn 1 _).mono ?_; rintro e w3 ⟨rfl, hb3⟩; have x30 := cell_later hb3 x20; have x31 := cell_later hb3 x21; have x32 := frozen_later hb3 x20 x22; have x33 := frozen_later hb3 x21 x23))
      have hz2 := hb2.size
      have hzd := hWd.size
      simp at hz2
      go_wp2
      exact bodyPost_ret (v := .agg #[.int .i64 (hi (rnd v k)), .int .u64 (lo (rnd v k))]) (by rw [hrn.out, if_pos hG]; simp [results, Tryz.results107, go_sem, x30, x31]) rfl ⟨rfl, ((((hWd.drew).trans (hb2.mono (by simp; omega))).trans (hb3.mono (by omega))).setCell (by dsimp only; omega) _).setCell (by dsimp only; omega) _⟩
    · have hG' : gu (c3 (v - dn * 2 ^ k) (2 ^ (k - 1))) (lo dn) = false := by simpa using hG
      go_wp2_with fail
      refine wp_region_quiet_below (by kernel_rfl) (by kernel_rfl) ?_
      repeat (quiet_step (first | (go_at_call 112; exact Calls.regrown_of (of_any 1 (by omega) (by omega) _)) | (go_at_call 101; exact Calls.regrown_of (shl_any 1 ((k : Int) - 1) (by omega) _)) | (go_at_call 95; exact Calls.regrown_of (cmp_any (v - dn * 2 ^ k) (2 ^ (k - 1)) (by have := hlr.out; omega) (by have := hlr.out; omega) (by have := hhr.out; omega) (by have := hhr.out; omega) _)) | (go_at_call 114; exact Calls.regrown_same (goesUp_any _ _ hld _))))
      refine wpQuiet_nil ?_
      intro wd hw'
      have hB2 : Below wc.heap.size wc wd := by obtain ⟨⟨dq, osq⟩, rfl⟩ := hw'; exact below_regrown wc dq osq
      clear hw' q60 q61 qd1 hwk
      have zr0 := cell_later hB2 xr0
      have zr1 := cell_later hB2 xr1
      have ur0 := frozen_later hB2 xr0 yr0
      have ur1 := frozen_later hB2 xr1 yr1
      have zd0 := cell_later hB2 xd0
      have zd1 := cell_later hB2 xd1
      have hWd : Below w.heap.size w wd := hWc.trans (hB2.mono hWc.size)
      clear hB2 xr0 xr1 yr0 yr1 xd0 xd1 hWc c60 c61
      try rw [hG']
      go_wp2
      exact bodyPost_ret (v := .agg #[.int .i64 (hi (rnd v k)), .int .u64 (lo (rnd v k))]) (by rw [hrn.out, if_neg hG]; simp [results, Tryz.results107, go_sem, zr0, zr1]) rfl ⟨rfl, (hWd.setCell (by dsimp only; omega) _).setCell (by dsimp only; omega) _⟩

set_option maxHeartbeats 400000 in
theorem round_none (a0 a1 n : Int) (n0 : n ≤ 0) (w : World) :
    Calls Tryz.prog 107 #[.agg #[.int .i64 a0, .int .u64 a1], .int .i64 n] w fun e w' => e = .returned (.agg #[.int .i64 a0, .int .u64 a1]) ∧ Below w.heap.size w w' := by
  go_enter Tryz.func107, Tryz.ntmps107
  go_wp2
  exact bodyPost_ret (v := .agg #[.int .i64 a0, .int .u64 a1]) (by simp [results, Tryz.results107, go_sem]) rfl ⟨rfl, bel2 _ _ _⟩
set_option maxHeartbeats 400000 in
theorem round_big (a0 a1 n : Int) (n0 : 127 < n) (w : World) :
    Calls Tryz.prog 107 #[.agg #[.int .i64 a0, .int .u64 a1], .int .i64 n] w fun e w' => e = .returned (.agg #[.int .i64 0, .int .u64 0]) ∧ Below w.heap.size w w' := by
  have n1 : ¬ n ≤ 0 := by omega
  go_enter Tryz.func107, Tryz.ntmps107
  go_wp2
  exact bodyPost_ret (v := .agg #[.int .i64 0, .int .u64 0]) (by simp [results, Tryz.results107, go_sem]) rfl ⟨rfl, bel2 _ _ _⟩

end Go.Proofs.YtcdehbhdloaieaaGreatDoor
/-
  Contracts of math/bits.Div64 where the high word is nought, and of regatta/wide's divide, over what Div64 gives at the two calls.
-/
set_option linter.unusedVariables false
set_option linter.unusedSimpArgs false
namespace Go.Proofs.YtcdehbhdloaieaaGreatDoor
open Go.RowKit

/-- What Div64 gives at one input. -/
def DivAt (h l y : Int) : Prop := ∀ w : World, Calls Tryz.prog 127 #[.int .u64 h, .int .u64 l, .int .u64 y] w fun e w' => e = .returned (.tuple #[.int .u64 ((h * 18446744073709551616 + l) / y), .int .u64 ((h * 18446744073709551616 + l) % y)]) ∧ Below w.heap.size w w'

set_option maxHeartbeats 400000 in
theorem div64_zero (l y : Int) (l0 : 0 ≤ l) (l1 : l ≤ 18446744073709551615) (y0 : 1 ≤ y) (y1 : y ≤ 18446744073709551615) : DivAt 0 l y := by
  intro w
  rw [Int.zero_mul, Int.zero_add]
  have hy : (y == 0) = false := beq_eq_false_iff_ne.2 (by omega)
  go_enter Tryz.func127, Tryz.ntmps127
  go_wp2
  go_quiet (fail)
  go_wp2
  go_ret2
  exact ⟨rfl, by simpa using below_drewN (Below.refl w.heap.size w) nq⟩

set_option maxHeartbeats 400000 in
theorem divide_of (v d : Int) (v0 : 0 ≤ v) (v1 : v ≤ 170141183460469231731687303715884105728) (d0 : 1 ≤ d) (d1 : d ≤ 18446744073709551615) (D1 : DivAt 0 (v / 18446744073709551616) d) (D2 : DivAt (v / 18446744073709551616 % d) (lo v) d) (w : World) :
    Calls Tryz.prog 113 #[.agg #[.int .i64 (hi v), .int .u64 (lo v)], .int .u64 d] w fun e w' => e = .returned (.tuple #[.agg #[.int .i64 (hi (v / d)), .int .u64 (lo (v / d))], .int .u64 (v % d)]) ∧ Below w.heap.size w w' := by
  obtain ⟨e1, e2, e3, e4⟩ := div_words v d d0 v0 v1
  have E1 : Hid (sg (v / 18446744073709551616 / d) = hi (v / d)) := e1
  have E2 : Hid ((v / 18446744073709551616 % d * 18446744073709551616 + lo v) / d = lo (v / d)) := e2
  have E3 : Hid ((v / 18446744073709551616 % d * 18446744073709551616 + lo v) % d = v % d) := (mod_step v d d0).symm
  have E4 : IntKind.u64.wrap (hi v) = v / 18446744073709551616 := by rw [IntKind.wrap_u64]; exact hi_u v v0 v1
  clear e1 e2
  go_enter Tryz.func113, Tryz.ntmps113
  go_wp2_with fail
  refine (D1 _).mono ?_
  rw [Int.zero_mul, Int.zero_add]
  rintro e w1 ⟨rfl, hb⟩
  have hz := hb.size
  simp at hz
  have ca1 : w1.cell? ⟨w.heap.size, 1, none⟩ = some (.int .u64 (lo v)) := cell_later hb (cell_alloc (by simp [go_sem]))
  have cr0 : w1.cell? ⟨w.heap.size + 1, 0, none⟩ = some (.int .i64 0) := cell_later hb (by simp [go_sem])
  have cr1 : w1.cell? ⟨w.heap.size + 1, 1, none⟩ = some (.int .u64 0) := cell_later hb (by simp [go_sem])
  have fr0 : w1.frozen? ⟨w.heap.size + 1, 0, none⟩ = false := frozen_later hb (v := .int .i64 0) (by simp [go_sem]) (by simp [go_sem])
  have fr1 : w1.frozen? ⟨w.heap.size + 1, 1, none⟩ = false := frozen_later hb (v := .int .u64 0) (by simp [go_sem]) (by simp [go_sem])
  have hW : Below w.heap.size w w1 := (bel2 w _ _).trans (hb.mono (by simp; omega))
  clear hb D1
  go_wp2_with fail
  refine (D2 _).mono ?_
  rw [E2.out, E3.out]
  rintro e w2 ⟨rfl, hb⟩
  have ds0 := cell_later hb cr0
  have ds1 := cell_later hb cr1
  have gs0 := frozen_later hb cr0 fr0
  have gs1 := frozen_later hb cr1 fr1
  have hW2 : Below w.heap.size w w2 := hW.trans (hb.mono (by omega))
  clear D2 hb hW cr0 cr1 fr0 fr1 ca1
  go_wp2_with fail
  exact bodyPost_ret (v := .tuple #[.agg #[.int .i64 (hi (v / d)), .int .u64 (lo (v / d))], .int .u64 (v % d)]) (by simp [results, Tryz.results113, go_sem, ds0, ds1]; rw [w64]; exact E1.out) rfl ⟨rfl, (hW2.setCell (by dsimp only; omega) _).setCell (by dsimp only; omega) _⟩
end Go.Proofs.YtcdehbhdloaieaaGreatDoor
/-
  The contract of regatta/wide's Quo, over what Div64 gives at the two calls.
-/
set_option linter.unusedVariables false
set_option linter.unusedSimpArgs false
namespace Go.Proofs.YtcdehbhdloaieaaGreatDoor
open Go.RowKit

/-- A function's first two blocks, the argument's box and the result's variable, are as they were laid. -/
structure Kp (w : World) (a0 a1 : Value) (w' : World) : Prop where
  bel : Below w.heap.size w w'
  ca0 : w'.cell? ⟨w.heap.size, 0, none⟩ = some a0
  ca1 : w'.cell? ⟨w.heap.size, 1, none⟩ = some a1
  cr0 : w'.cell? ⟨w.heap.size + 1, 0, none⟩ = some (.int .i64 0)
  cr1 : w'.cell? ⟨w.heap.size + 1, 1, none⟩ = some (.int .u64 0)
  fr0 : w'.frozen? ⟨w.heap.size + 1, 0, none⟩ = false
  fr1 : w'.frozen? ⟨w.heap.size + 1, 1, none⟩ = false
theorem Kp.start (w : World) (a0 a1 : Value) (t : TypeId) : Kp w a0 a1 ((w.alloc (.cells #[a0, a1] t)).alloc (.cells #[.int .i64 0, .int .u64 0] t)) where
  bel := bel2 _ _ _
  ca0 := cell_alloc (by simp [go_sem])
  ca1 := cell_alloc (by simp [go_sem])
  cr0 := by simp [go_sem]
  cr1 := by simp [go_sem]
  fr0 := by simp [go_sem]
  fr1 := by simp [go_sem]
theorem Kp.later {w w1 w2 : World} {a0 a1 : Value} (h : Kp w a0 a1 w1) (hb : Below w1.heap.size w1 w2) : Kp w a0 a1 w2 where
  bel := h.bel.trans (hb.mono h.bel.size)
  ca0 := cell_later hb h.ca0
  ca1 := cell_later hb h.ca1
  cr0 := cell_later hb h.cr0
  cr1 := cell_later hb h.cr1
  fr0 := frozen_later hb h.cr0 h.fr0
  fr1 := frozen_later hb h.cr1 h.fr1
theorem Kp.lt {w w1 : World} {a0 a1 : Value} (h : Kp w a0 a1 w1) : w.heap.size + 1 < w1.heap.size := World.block_lt_of_cell? _ _ h.cr0
theorem Kp.alloc {w w1 : World} {a0 a1 : Value} (h : Kp w a0 a1 w1) (o : Obj) : Kp w a0 a1 (w1.alloc o) := h.later (bel1 w1 o)

/-- A variable of two words. -/
structure Bx (b : Nat) (x y : Value) (w : World) : Prop where
  c0 : w.cell? ⟨b, 0, none⟩ = some x
  c1 : w.cell? ⟨b, 1, none⟩ = some y
  f0 : w.frozen? ⟨b, 0, none⟩ = false
  f1 : w.frozen? ⟨b, 1, none⟩ = false
theorem Bx.new (w : World) (x y : Value) (t : TypeId) : Bx w.heap.size x y (w.alloc (.cells #[x, y] t)) where
  c0 := by simp [go_sem]
  c1 := by simp [go_sem]
  f0 := by simp [go_sem]
  f1 := by simp [go_sem]
theorem Bx.later {b : Nat} {x y : Value} {w w' : World} (h : Bx b x y w) (hb : Below w.heap.size w w') : Bx b x y w' where
  c0 := cell_later hb h.c0
  c1 := cell_later hb h.c1
  f0 := frozen_later hb h.c0 h.f0
  f1 := frozen_later hb h.c1 h.f1
theorem Bx.set {b : Nat} {x y : Value} {w : World} (h : Bx b x y w) (x' y' : Value) : Bx b x' y' ((w.setCell ⟨b, 0, none⟩ x').setCell ⟨b, 1, none⟩ y') := by
  have c0 := h.c0
  have c1 := h.c1
  have f0 := h.f0
  have f1 := h.f1
  constructor <;> simp [go_sem, c0, c1, f0, f1]
theorem frozen_set {W : World} {p a : Addr} {x : Value} (h : W.frozen? a = false) : (W.setCell p x).frozen? a = false := by simpa [go_sem] using h
theorem Kp.set {w w1 : World} {a0 a1 : Value} (h : Kp w a0 a1 w1) {b : Nat} (hb : w.heap.size + 1 < b) (x y : Value) : Kp w a0 a1 ((w1.setCell ⟨b, 0, none⟩ x).setCell ⟨b, 1, none⟩ y) where
  bel := (h.bel.setCell (by dsimp only; omega) _).setCell (by dsimp only; omega) _
  ca0 := cell_set (by dsimp only; omega) (cell_set (by dsimp only; omega) h.ca0)
  ca1 := cell_set (by dsimp only; omega) (cell_set (by dsimp only; omega) h.ca1)
  cr0 := cell_set (by dsimp only; omega) (cell_set (by dsimp only; omega) h.cr0)
  cr1 := cell_set (by dsimp only; omega) (cell_set (by dsimp only; omega) h.cr1)
  fr0 := frozen_set (frozen_set h.fr0)
  fr1 := frozen_set (frozen_set h.fr1)

theorem run_field_lo (x y : Value) (w : World) : (Instr.field 131 (.agg #[x, y]) 1).run Tryz.prog w = .ok y w := by kernel_rfl

set_option maxHeartbeats 400000 in
theorem quo_zero (v0 v1 : Int) (w : World) :
    Calls Tryz.prog 92 #[.agg #[.int .i64 v0, .int .u64 v1], .int .i64 0] w fun e w' => e = .returned (.tuple #[.agg #[.int .i64 0, .int .u64 0], .bool false]) ∧ Below w.heap.size w w' := by
  go_enter Tryz.func92, Tryz.ntmps92
  go_wp2
  exact bodyPost_ret (v := .tuple #[.agg #[.int .i64 0, .int .u64 0], .bool false]) (by simp [results, Tryz.results92, go_sem]) rfl ⟨rfl, bel2 _ _ _⟩

set_option maxHeartbeats 1000000 in
theorem quo_of (v d : Int) (v0 : -170141183460469231731687303715884105728 ≤ v) (v1 : v ≤ 170141183460469231731687303715884105727) (d0 : -9223372036854775808 ≤ d) (d1 : d ≤ 9223372036854775807) (hd : d ≠ 0) (D1 : DivAt 0 (ab v / 18446744073709551616) (ab d)) (D2 : DivAt (ab v / 18446744073709551616 % ab d) (lo (ab v)) (ab d)) (w : World) :
    Calls Tryz.prog 92 #[.agg #[.int .i64 (hi v), .int .u64 (lo v)], .int .i64 d] w fun e w' => e = .returned (.tuple #[.agg #[.int .i64 (hi (quo v d)), .int .u64 (lo (quo v d))], .bool true]) ∧ Below w.heap.size w w' := by
  have hd' : (d == 0) = false := beq_eq_false_iff_ne.2 hd
  obtain ⟨b0, b1⟩ := ab_d d d0 d1 hd
  have hlo : lo (ab d) = ab d := lo_small _ (by omega) (by omega)
  have a0 := ab_ge v
  have a1 := ab_le v v0 v1
  have DD := divide_of (ab v) (ab d) a0 a1 b0 (by omega) D1 D2
  have r0 := Int.emod_nonneg (ab v) (show ab d ≠ 0 by omega)
  have r1 := Int.emod_lt_of_pos (ab v) (show 0 < ab d by omega)
  clear D1 D2 hd
  have HQ : Hid (quo v d = if (decide (v < 0) != decide (d < 0)) = true then -(if gu (c3 (2 * (ab v % ab d)) (ab d)) (lo (ab v / ab d)) = true then ab v / ab d + 1 else ab v / ab d) else (if gu (c3 (2 * (ab v % ab d)) (ab d)) (lo (ab v / ab d)) = true then ab v / ab d + 1 else ab v / ab d)) := by
    show quo v d = _
    rfl
  have hs : decide (hi v < 0) = decide (v < 0) := by
    by_cases h : v < 0
    · rw [decide_eq_true h, decide_eq_true (hi_neg v v0 h)]
    · rw [decide_eq_false h, decide_eq_false (hi_pos v (by omega) v1)]
  have HS : Hid (decide (hi v < 0) = decide (v < 0)) := hs
  clear hs
  have hfd := run_field_lo
  go_enter Tryz.func92, Tryz.ntmps92
  go_wp2_with fail
  refine (of_any d d0 d1 _).mono ?_
  rintro e w1 ⟨rfl, hb⟩
  have K1 := (Kp.start w _ _ _).later hb
  clear hb
  go_wp2_with fail
  refine (size_any d (by omega) (by omega) _).mono ?_
  rintro e w2 ⟨rfl, hb⟩
  have K2 := K1.later hb
  clear hb K1
  have ca0 := K2.ca0
  have ca1 := K2.ca1
  go_wp2_with fail
  refine (size_any v v0 v1 _).mono ?_
  rintro e w3 ⟨rfl, hb⟩
  have K3 := K2.later hb
  clear hb K2 ca0 ca1
  go_wp2_with fail
  refine (DD _).mono ?_
  rintro e w4 ⟨rfl, hb⟩
  have K4 := K3.later hb
  clear hb K3 DD hlo
  generalize ab v / ab d = Q at *
  generalize ab v % ab d = R at *
  generalize ab d = D at *
  have hw2 : IntKind.u64.wrap (2 * R) = 2 * R := by rw [IntKind.wrap_u64]; omega
  have hlq := lo_ge Q
  go_upto_region 5 with fail
  have B4 := Bx.new w4 (.int .i64 (hi Q)) (.int .u64 (lo Q)) 131
  have K5 := K4.alloc (.cells #[.int .i64 (hi Q), .int .u64 (lo Q)] 131)
  have hlt := K4.lt
  clear K4
  generalize w4.alloc (.cells #[.int .i64 (hi Q), .int .u64 (lo Q)] 131) = W5 at *
  generalize w4.heap.size = b7 at *
  have q1 := fun x y => cell_regrown B4.c1 x y
  refine wp_region_quiet_below (by kernel_rfl) (by kernel_rfl) ?_
  repeat (quiet_step (first | (go_at_call 115; exact Calls.regrown_same (cmpu_any (2 * R) D _)) | (go_at_call 114; exact Calls.regrown_same (goesUp_any _ _ hlq _))))
  refine wpQuiet_nil ?_
  intro wd hw'
  have hB2 : Below W5.heap.size W5 wd := by obtain ⟨⟨dq, osq⟩, rfl⟩ := hw'; exact below_regrown W5 dq osq
  have B5 := B4.later hB2
  have K6 := K5.later hB2
  clear hw' hB2 B4 K5 q1 hw2
  go_upto_if 29 with fail
  go_cut [] (fun wc => ∃ Q' : Int, Hid (Q' = if gu (c3 (2 * R) D) (lo Q) = true then Q + 1 else Q) ∧ Kp w (.int .i64 (hi v)) (.int .u64 (lo v)) wc ∧ Bx b7 (.int .i64 (hi Q')) (.int .u64 (lo Q')) wc)
  case first =>
    by_cases hG : gu (c3 (2 * R) D) (lo Q) = true
    · have x0 := B5.c0
      have x1 := B5.c1
      rw [hG]
      have B5d : Bx b7 (.int .i64 (hi Q)) (.int .u64 (lo Q)) wd.drew := ⟨x0, x1, B5.f0, B5.f1⟩
      go_wp2_with fail
      go_region_with (first | (go_at_call 112; refine (of_any 1 (by omega) (by omega) _).mono ?_; rintro e w2 ⟨rfl, hb2⟩; have B6 := B5d.later hb2; have y0 := B6.c0; have y1 := B6.c1; have y2 := B6.f0; have y3 := B6.f1) | (go_at_call 77; refine (add_any Q 1 _).mono ?_; rintro e w3 ⟨rfl, hb3⟩; have B7 := B6.later hb3; have z0 := B7.c0; have z1 := B7.c1; have z2 := B7.f0; have z3 := B7.f1))
      all_goals (go_wp2_with fail)
      all_goals go_meet
      all_goals exact ⟨Q + 1, by show Q + 1 = _; rw [if_pos hG], ((K6.later (w2 := wd.drew) ((Below.refl _ _).drew)).later hb2 |>.later hb3).set hlt _ _, B7.set _ _⟩
    · have hG' : gu (c3 (2 * R) D) (lo Q) = false := by simpa using hG
      rw [hG']
      go_wp2_with fail
      go_meet
      exact ⟨Q, by show Q = _; rw [if_neg hG], K6, B5⟩
  case rest =>
    obtain ⟨Q', HQ', K7, B7⟩ := hcut
    have ca0 := K7.ca0
    have x0 := B7.c0
    have x1 := B7.c1
    have cr0 := K7.cr0
    have cr1 := K7.cr1
    have fr0 := K7.fr0
    have fr1 := K7.fr1
    by_cases hT : (decide (v < 0) != decide (d < 0)) = true
    · have hT' : (decide (hi v < 0) == decide (d < 0)) = false := by rw [HS.out]; simpa using hT
      have HV : Hid (quo v d = -Q') := by show quo v d = -Q'; rw [HQ.out, if_pos hT, HQ'.out]
      clear HQ HQ' hT
      go_wp2_with fail
      refine (neg_any Q' _).mono ?_
      rintro e w8 ⟨rfl, hb⟩
      have K8 := K7.later hb
      have B8 := B7.later hb
      clear hb K7 B7 ca0 x0 x1 cr0 cr1 fr0 fr1
      have x0 := B8.c0
      have x1 := B8.c1
      have x2 := B8.f0
      have x3 := B8.f1
      have cr0 := K8.cr0
      have cr1 := K8.cr1
      have fr0 := K8.fr0
      have fr1 := K8.fr1
      have hne : w.heap.size + 1 ≠ b7 := by omega
      have hne' : b7 ≠ w.heap.size + 1 := by omega
      go_wp2_with fail
      exact bodyPost_ret (v := .tuple #[.agg #[.int .i64 (hi (quo v d)), .int .u64 (lo (quo v d))], .bool true]) (by rw [HV.out]; simp [results, Tryz.results92, go_sem, cr0, cr1]) rfl ⟨rfl, ((K8.set hlt _ _).bel.setCell (by dsimp only; omega) _).setCell (by dsimp only; omega) _⟩
    · have hT' : (decide (hi v < 0) == decide (d < 0)) = true := by rw [HS.out]; simpa using hT
      have HV : Hid (quo v d = Q') := by show quo v d = Q'; rw [HQ.out, if_neg hT, HQ'.out]
      clear HQ HQ' hT
      go_wp2_with fail
      exact bodyPost_ret (v := .tuple #[.agg #[.int .i64 (hi (quo v d)), .int .u64 (lo (quo v d))], .bool true]) (by rw [HV.out]; simp [results, Tryz.results92, go_sem, cr0, cr1]) rfl ⟨rfl, (K7.bel.setCell (by dsimp only; omega) _).setCell (by dsimp only; omega) _⟩

end Go.Proofs.YtcdehbhdloaieaaGreatDoor
/-
  The contract of regatta/wide's Root.
-/
set_option linter.unusedVariables false
set_option linter.unusedSimpArgs false
namespace Go.Proofs.YtcdehbhdloaieaaGreatDoor
open Go.RowKit

set_option maxHeartbeats 400000 in
theorem root_neg (t m l : Int) (h : t < 0) (w : World) :
    Calls Tryz.prog 67 #[.agg #[.int .i64 t, .int .u64 m, .int .u64 l]] w fun e w' => e = .returned (.tuple #[.int .i64 0, .bool true]) ∧ Below w.heap.size w w' := by
  go_enter Tryz.func67, Tryz.ntmps67
  go_wp2
  go_ret2
  exact ⟨rfl, bel1 _ _⟩
set_option maxHeartbeats 400000 in
theorem root_big (t m l : Int) (h0 : ¬ t < 0) (h : 0 < t ∨ (¬ 0 < t ∧ ¬ m < 4611686018427387904)) (w : World) :
    Calls Tryz.prog 67 #[.agg #[.int .i64 t, .int .u64 m, .int .u64 l]] w fun e w' => e = .returned (.tuple #[.int .i64 9223372036854775807, .bool true]) ∧ Below w.heap.size w w' := by
  rcases h with h | ⟨h, h'⟩
  · go_enter Tryz.func67, Tryz.ntmps67
    go_wp2
    go_ret2
    exact ⟨rfl, bel1 _ _⟩
  · have h2 : 4611686018427387904 ≤ m := by omega
    clear h'
    go_enter Tryz.func67, Tryz.ntmps67
    go_wp2
    go_ret2
    exact ⟨rfl, bel1 _ _⟩

theorem or_bit (r : Int) (k : Nat) (hk : k ≤ 62) (h0 : 0 ≤ r) (hm : r % 2 ^ (k + 1) = 0) (ht : r + 2 ^ (k + 1) ≤ 9223372036854775808) : bits .or .i64 r (2 ^ k) = r + 2 ^ k := by
  have hp := pow_pos' k
  have e2 := pow_two k
  rw [or_i64 r (2 ^ k) (k + 1) (by omega) hm (by omega) (by omega), sg_id _ (by omega) (by omega)]

set_option maxHeartbeats 1000000 in
theorem root_mid (v : Int) (v0 : 0 ≤ v) (v1 : v < 85070591730234615865843651857942052864) (w : World) :
    Calls Tryz.prog 67 #[.agg #[.int .i64 (t3 v), .int .u64 (m3 v), .int .u64 (lo v)]] w fun e w' => e = .returned (.tuple #[.int .i64 (rt v), .bool false]) ∧ Below w.heap.size w w' := by
  obtain ⟨h1, h2, h3, h4, h5⟩ := words_mid v v0 v1
  have hmh : IntKind.i64.wrap (m3 v) = hi v := by rw [IntKind.wrap_i64, h5]; have := hi_ge v; have := hi_le v; omega
  have h5' : wrap64 (m3 v) = hi v := by rw [w64, h5]; exact sg_id _ (hi_ge v) (hi_le v)
  have H5 : Hid (m3 v = hi v) := h5
  have hdm : decide (4611686018427387904 ≤ m3 v) = false := decide_eq_false (by omega)
  clear h5
  go_enter Tryz.func67, Tryz.ntmps67
  go_wp2
  have c0 : ((w.alloc (.cells #[.int .i64 (t3 v), .int .u64 (m3 v), .int .u64 (lo v)] 124)).alloc (.cells #[.int .i64 (hi v), .int .u64 (lo v)] 131)).cell? ⟨w.heap.size + 1, 0, none⟩ = some (.int .i64 (hi v)) := by simp [go_sem]
  have c1 : ((w.alloc (.cells #[.int .i64 (t3 v), .int .u64 (m3 v), .int .u64 (lo v)] 124)).alloc (.cells #[.int .i64 (hi v), .int .u64 (lo v)] 131)).cell? ⟨w.heap.size + 1, 1, none⟩ = some (.int .u64 (lo v)) := by simp [go_sem]
  clear h1 h2 h3 h4 hmh h5' hdm
  go_loopw [5, 25] (fun r i wr => ∃ (j : Nat) (x : Int), j ≤ 63 ∧ i = .int .i64 j ∧ r = .int .i64 x ∧ Hid (rt v = rtA v (63 - j) x) ∧ RtI v (63 - j) x ∧ Below w.heap.size w wr ∧ wr.cell? ⟨w.heap.size + 1, 0, none⟩ = some (.int .i64 (hi v)) ∧ wr.cell? ⟨w.heap.size + 1, 1, none⟩ = some (.int .u64 (lo v))) (fun _ i _ => 63 - (intOf i).toNat)
  case atStart => exact ⟨0, 0, by omega, rfl, rfl, rfl, RtI.start v v0 v1, bel2 _ _ _, c0, c1⟩
  case round =>
    obtain ⟨j, x, hj, rfl, rfl, hrt, hI, hW, e0, e1⟩ := hrel
    clear c0 c1
    by_cases hlt : j < 63
    · obtain ⟨k, hk⟩ : ∃ k, 63 - j = k + 1 := ⟨62 - j, by omega⟩
      have hk2 : (62 - (j : Int)).toNat = k := by omega
      rw [hk] at hrt hI
      have hk3 : k ≤ 62 := by omega
      have xo' := or_bit x k hk3 hI.low hI.mod hI.top
      have hp := pow_pos' k
      have hp2 := pow_two k
      have hx1 := hI.top
      have hx0 := hI.low
      obtain ⟨n, hn⟩ : ∃ n, x + 2 ^ k = n := ⟨_, rfl⟩
      have HN : Hid (x + 2 ^ k = n) := hn
      have n0 : 0 ≤ n := by omega
      have n1 : n ≤ 9223372036854775807 := by omega
      have xo : bits .or .i64 x (wrap64 (2 ^ k)) = n := by rw [w64, sg_id _ (by omega) (by omega), xo', hn]
      obtain ⟨s0, s1⟩ := sq_rng n n0 (by omega)
      clear xo' hp hp2 hx1 hx0 hn hk3
      by_cases hle : n * n ≤ v
      · have hc : decide (c3 (n * n) v ≤ 0) = true := by
          apply decide_eq_true
          unfold c3; split
          · omega
          · split <;> omega
        go_upto_region 11 with fail
        have q0 := fun a b => cell_regrown e0 a b
        have q1 := fun a b => cell_regrown e1 a b
        refine wp_region_quiet_below (by kernel_rfl) (by kernel_rfl) ?_
        repeat (quiet_step (first | (go_at_call 74; exact Calls.regrown_of (mul_any n n (by omega) (by omega) (by omega) (by omega) _)) | (go_at_call 95; exact Calls.regrown_of (cmp_any (n * n) v (by omega) (by omega) (by omega) (by omega) _))))
        refine wpQuiet_nil ?_
        intro wd hw'
        have hB2 : Below wr.heap.size wr wd := by obtain ⟨⟨dq, osq⟩, rfl⟩ := hw'; exact below_regrown wr dq osq
        have hW2 : Below w.heap.size w wd := hW.trans (hB2.mono hW.size)
        have g0 := cell_later hB2 e0
        have g1 := cell_later hB2 e1
        clear hw' hB2 q0 q1 e0 e1 hW xo
        try rw [hc]
        go_wp2
        go_roundw
        case rel =>
          have R : j + 1 ≤ 63 ∧ Value.int .i64 ((j : Int) + 1) = .int .i64 ((j + 1 : Nat) : Int) ∧ Value.int .i64 n = .int .i64 n ∧ Hid (rt v = rtA v (63 - (j + 1)) n) ∧ RtI v (63 - (j + 1)) n ∧ Below w.heap.size w wd ∧ wd.cell? ⟨w.heap.size + 1, 0, none⟩ = some (.int .i64 (hi v)) ∧ wd.cell? ⟨w.heap.size + 1, 1, none⟩ = some (.int .u64 (lo v)) := by
            refine ⟨by omega, by go_num, rfl, ?_, ?_, hW2, g0, g1⟩
            · show rt v = rtA v (63 - (j + 1)) n
              rw [show 63 - (j + 1) = k by omega, hrt.out]
              show rtA v k (if (x + 2 ^ k) * (x + 2 ^ k) ≤ v then x + 2 ^ k else x) = _
              rw [HN.out, if_pos hle]
            · have := hI.step
              rw [HN.out, if_pos hle] at this
              rw [show 63 - (j + 1) = k by omega]
              exact this
          first
            | exact ⟨j + 1, n, R⟩
            | ((repeat apply Exists.intro); exact ⟨⟨j + 1, n, R⟩, rfl⟩)
        case measure => simp [intOf]; omega
      · have hc : decide (c3 (n * n) v ≤ 0) = false := by
          apply decide_eq_false
          unfold c3; split
          · omega
          · split <;> omega
        go_upto_region 11 with fail
        have q0 := fun a b => cell_regrown e0 a b
        have q1 := fun a b => cell_regrown e1 a b
        refine wp_region_quiet_below (by kernel_rfl) (by kernel_rfl) ?_
        repeat (quiet_step (first | (go_at_call 74; exact Calls.regrown_of (mul_any n n (by omega) (by omega) (by omega) (by omega) _)) | (go_at_call 95; exact Calls.regrown_of (cmp_any (n * n) v (by omega) (by omega) (by omega) (by omega) _))))
        refine wpQuiet_nil ?_
        intro wd hw'
        have hB2 : Below wr.heap.size wr wd := by obtain ⟨⟨dq, osq⟩, rfl⟩ := hw'; exact below_regrown wr dq osq
        have hW2 : Below w.heap.size w wd := hW.trans (hB2.mono hW.size)
        have g0 := cell_later hB2 e0
        have g1 := cell_later hB2 e1
        clear hw' hB2 q0 q1 e0 e1 hW xo
        try rw [hc]
        go_wp2
        go_roundw
        case rel =>
          have R : j + 1 ≤ 63 ∧ Value.int .i64 ((j : Int) + 1) = .int .i64 ((j + 1 : Nat) : Int) ∧ Value.int .i64 x = .int .i64 x ∧ Hid (rt v = rtA v (63 - (j + 1)) x) ∧ RtI v (63 - (j + 1)) x ∧ Below w.heap.size w wd ∧ wd.cell? ⟨w.heap.size + 1, 0, none⟩ = some (.int .i64 (hi v)) ∧ wd.cell? ⟨w.heap.size + 1, 1, none⟩ = some (.int .u64 (lo v)) := by
            refine ⟨by omega, by go_num, rfl, ?_, ?_, hW2, g0, g1⟩
            · show rt v = rtA v (63 - (j + 1)) x
              rw [show 63 - (j + 1) = k by omega, hrt.out]
              show rtA v k (if (x + 2 ^ k) * (x + 2 ^ k) ≤ v then x + 2 ^ k else x) = _
              rw [HN.out, if_neg hle]
            · have := hI.step
              rw [HN.out, if_neg hle] at this
              rw [show 63 - (j + 1) = k by omega]
              exact this
          first
            | exact ⟨j + 1, x, R⟩
            | ((repeat apply Exists.intro); exact ⟨⟨j + 1, x, R⟩, rfl⟩)
        case measure => simp [intOf]; omega
    · have ej : j = 63 := by omega
      subst ej
      have HE : Hid (rt v = x) := hrt
      clear hrt hI e0 e1
      go_wp2
      go_ret2
      exact ⟨by rw [HE.out]; rfl, hW⟩
end Go.Proofs.YtcdehbhdloaieaaGreatDoor
/-
  The contract of regattalaw01's awake: the chapter's examples come out as they should.
-/
set_option linter.unusedVariables false
set_option linter.unusedSimpArgs false
namespace Go.Proofs.YtcdehbhdloaieaaGreatDoor
open Go.RowKit

theorem quo_5 (w : World) : Calls Tryz.prog 92 #[.agg #[.int .i64 (hi (-5)), .int .u64 (lo (-5))], .int .i64 2] w fun e w' => e = .returned (.tuple #[.agg #[.int .i64 (hi (-2)), .int .u64 (lo (-2))], .bool true]) ∧ Below w.heap.size w w' := by
  have D1 : DivAt 0 (ab (-5) / 18446744073709551616) (ab 2) := by
    rw [show ab (-5) / 18446744073709551616 = 0 from rfl, show ab 2 = 2 from rfl]
    exact div64_zero 0 2 (by omega) (by omega) (by omega) (by omega)
  have D2 : DivAt (ab (-5) / 18446744073709551616 % ab 2) (lo (ab (-5))) (ab 2) := by
    rw [show ab (-5) / 18446744073709551616 % ab 2 = 0 from rfl, show ab 2 = 2 from rfl, show lo (ab (-5)) = 5 from rfl]
    exact div64_zero 5 2 (by omega) (by omega) (by omega) (by omega)
  have h := quo_of (-5) 2 (by omega) (by omega) (by omega) (by omega) (by omega) D1 D2 w
  rw [show quo (-5) 2 = -2 from rfl] at h
  exact h
theorem root_17 (w : World) : Calls Tryz.prog 67 #[.agg #[.int .i64 (t3 17), .int .u64 (m3 17), .int .u64 (lo 17)]] w fun e w' => e = .returned (.tuple #[.int .i64 4, .bool false]) ∧ Below w.heap.size w w' := by
  have h := root_mid 17 (by omega) (by omega) w
  rw [show rt 17 = 4 by kernel_rfl] at h
  exact h
theorem round_7 (w : World) : Calls Tryz.prog 107 #[.agg #[.int .i64 (hi 7), .int .u64 (lo 7)], .int .i64 1] w fun e w' => e = .returned (.agg #[.int .i64 (hi 4), .int .u64 (lo 4)]) ∧ Below w.heap.size w w' := by
  have h := round_mid 7 1 (by omega) (by omega) (by omega) (by omega) w
  rw [show rnd 7 1 = 4 from rfl] at h
  exact h

end Go.Proofs.YtcdehbhdloaieaaGreatDoor
/-
  Small tools for the laws' walks.
-/
namespace Go.Proofs.YtcdehbhdloaieaaGreatDoor
open Go.RowKit
theorem bchain {a b c : World} (h : Below a.heap.size a b) (k : Below b.heap.size b c) : Below a.heap.size a c := h.trans (k.mono h.size)
theorem bdrew {a b : World} (h : Below a.heap.size a b) : Below a.heap.size a b.drew := h.drew
theorem ovv_out (v : Int) (h : ¬ (-9223372036854775808 ≤ v ∧ v ≤ 9223372036854775807)) : ovv v = true := by
  unfold ovv; simp; omega
end Go.Proofs.YtcdehbhdloaieaaGreatDoor
