/-
  WalkE, WalkF, WalkG, WalkH, WalkI, Tools.
-/
import Derived.Test.YtfcneciknldohaaBB
import Derived.Deep.DeepCutAuto
import Derived.Lib.QuietBelow
import Derived.BigQuiet
import Derived.Test.YtfcneciknldohaaBA
/-
  The contract of regatta/wide's Round.
-/
set_option linter.unusedVariables false
set_option linter.unusedSimpArgs false
namespace Go.Proofs.Ytfcneciknldohaa
open Go.RowKit

theorem frozen_later {w wx : World} {a : Addr} {v : Value} (hb : Below w.heap.size w wx) (hc : w.cell? a = some v) (h : w.frozen? a = false) : wx.frozen? a = false :=
  (hb.frozen (World.block_lt_of_cell? _ _ hc)).trans h

theorem cell_alloc {W : World} {o : Obj} {a : Addr} {v : Value} (h : W.cell? a = some v) : (W.alloc o).cell? a = some v := cell_later (bel1 W o) h
theorem cell_drew {W : World} {a : Addr} {v : Value} (h : W.cell? a = some v) : W.drew.cell? a = some v := h

theorem cell_set {W : World} {p a : Addr} {x v : Value} (hp : p.block ≠ a.block) (h : W.cell? a = some v) : (W.setCell p x).cell? a = some v := by
  rw [World.cell?_setCell_far W p a x hp]; exact h

theorem frozen_alloc {W : World} {o : Obj} {a : Addr} {v : Value} (hc : W.cell? a = some v) (h : W.frozen? a = false) : (W.alloc o).frozen? a = false := frozen_later (bel1 W o) hc h
theorem Calls.regrown_same {P : Program} {f : FuncId} {args : Array Value} {w : World} {d : Nat} {os : Array Obj} {v : Value}
    (h : Calls P f args (Go.Sort.grow (redrawn w d) os) fun e w' => e = .returned v ∧ w' = Go.Sort.grow (redrawn w d) os) : Calls P f args (Go.Sort.grow (redrawn w d) os) fun e w'' => e = .returned v ∧ ∃ p : Regrown, w'' = Go.Sort.grow (redrawn w p.d) p.os :=
  h.mono fun _ _ ⟨he, hb⟩ => ⟨he, ⟨d, os⟩, hb⟩
theorem pow_126 (k : Nat) (hk : k ≤ 126) : (2 : Int) ^ k ≤ 85070591730234615865843651857942052864 := by
  have h : (2 : Nat) ^ k ≤ 2 ^ 126 := Nat.pow_le_pow_right (by omega) hk
  have h2 : (((2 : Nat) ^ k : Nat) : Int) ≤ (((2 : Nat) ^ 126 : Nat) : Int) := by omega
  rw [Int.natCast_pow] at h2
  exact h2

set_option maxHeartbeats 1000000 in
theorem round_mid (v : Int) (k : Nat) (k0 : 1 ≤ k) (k1 : k ≤ 127) (v0 : -170141183460469231731687303715884105728 ≤ v) (v1 : v ≤ 170141183460469231731687303715884105727) (w : World) :
    Calls Try.prog 38 #[.agg #[.int .i64 (hi v), .int .u64 (lo v)], .int .i64 k] w fun e w' => e = .returned (.agg #[.int .i64 (hi (rnd v k)), .int .u64 (lo (rnd v k))]) ∧ Below w.heap.size w w' := by
  have hk0 : ¬ (k : Int) ≤ 0 := by omega
  have hk1 : ¬ (127 : Int) < k := by omega
  go_enter Try.func38, Try.ntmps38
  go_wp2_with fail
  refine (shr_any v k (by omega) v0 v1 _).mono ?_
  rintro e w1 ⟨rfl, hb⟩
  rw [Int.toNat_natCast]
  obtain ⟨hc, hf⟩ := bcell hb
  have hz := hb.size
  simp at hz
  have ca0 : w1.cell? ⟨w.heap.size, 0, none⟩ = some (.int .i64 (hi v)) := by rw [hc _ _ (by simp <;> omega)]; simp [go_sem]
  have ca1 : w1.cell? ⟨w.heap.size, 1, none⟩ = some (.int .u64 (lo v)) := by rw [hc _ _ (by simp <;> omega)]; simp [go_sem]
  have cr0 : w1.cell? ⟨w.heap.size + 1, 0, none⟩ = some (.int .i64 0) := by rw [hc _ _ (by simp <;> omega)]; simp [go_sem]
  have cr1 : w1.cell? ⟨w.heap.size + 1, 1, none⟩ = some (.int .u64 0) := by rw [hc _ _ (by simp <;> omega)]; simp [go_sem]
  have fr0 : w1.frozen? ⟨w.heap.size + 1, 0, none⟩ = false := by rw [hf _ _ (by simp <;> omega)]; simp [go_sem]
  have fr1 : w1.frozen? ⟨w.heap.size + 1, 1, none⟩ = false := by rw [hf _ _ (by simp <;> omega)]; simp [go_sem]
  have hW : Below w.heap.size w w1 := (bel2 w _ _).trans (hb.mono (by simp; omega))
  clear hc hf hb
  generalize hdn : v / 2 ^ k = dn at *
  have Hdn : Hid (v / 2 ^ k = dn) := hdn
  clear hdn
  have cd0 : (w1.alloc (.cells #[.int .i64 (hi dn), .int .u64 (lo dn)] 77)).cell? ⟨w1.heap.size, 0, none⟩ = some (.int .i64 (hi dn)) := by simp [go_sem]
  have cd1 : (w1.alloc (.cells #[.int .i64 (hi dn), .int .u64 (lo dn)] 77)).cell? ⟨w1.heap.size, 1, none⟩ = some (.int .u64 (lo dn)) := by simp [go_sem]
  go_upto_region 6 with fail
  go_cut [6] (fun s6 wc => ∃ b6 : Nat, s6 = .pointer (some ⟨b6, 0, none⟩) ∧ wc.cell? ⟨b6, 0, none⟩ = some (.int .i64 (hi (v - dn * 2 ^ k))) ∧ wc.cell? ⟨b6, 1, none⟩ = some (.int .u64 (lo (v - dn * 2 ^ k))) ∧ Below (w1.heap.size + 1) (w1.alloc (.cells #[.int .i64 (hi dn), .int .u64 (lo dn)] 77)) wc)
  case first =>
    go_region_held3 (fun w' => w'.cell? ⟨w.heap.size, 0, none⟩ = some (.int .i64 (hi v)) ∧ w'.cell? ⟨w.heap.size, 1, none⟩ = some (.int .u64 (lo v)) ∧ w'.cell? ⟨w1.heap.size, 0, none⟩ = some (.int .i64 (hi dn)) ∧ w'.cell? ⟨w1.heap.size, 1, none⟩ = some (.int .u64 (lo dn))) (refine ⟨?_, ?_, ?_, ?_⟩ <;> (repeat (first | assumption | refine cell_later (by assumption) ?_ | refine cell_alloc ?_ | refine cell_drew ?_ | refine cell_set (by dsimp only; omega) ?_))) (first | (go_at_call 34; refine (shl_any dn k (by omega) _).mono ?_; rintro e w2 ⟨rfl, hb2⟩; obtain ⟨hc2, hf2⟩ := bcell hb2; (try simp at hc2 hf2); have hz2 := hb2.size; (try simp at hz2); (try have hy2 : w1.heap.size + 1 < w2.heap.size := (by omega))) | (go_at_call 54; refine (sub_any v (dn * 2 ^ (k : Int).toNat) _).mono ?_; rintro e w3 ⟨rfl, hb3⟩; obtain ⟨hc3, hf3⟩ := bcell hb3; (try simp at hc3 hf3); have hz3 := hb3.size; (try simp at hz3); (try have hy3 : w1.heap.size + 1 < w3.heap.size := (by omega))))
    all_goals (go_wp2_with fail)
    all_goals go_meet
    all_goals (refine ⟨_, rfl, ?_, ?_, ?_⟩)
    all_goals first | (simp [go_sem, *]; done) | (repeat (first | assumption | exact Below.refl _ _ | refine Below.setCell ?_ (by dsimp only; omega) _ | refine Below.alloc ?_ (by first | omega | (simp <;> omega)) _ | refine Below.drew ?_ | refine Below.trans ?_ (Below.mono (by assumption) (by first | omega | (simp <;> omega)))))
  case rest =>
    obtain ⟨b6, rfl, c60, c61, hB⟩ := hcut
    have hB' : Below (w1.alloc (.cells #[.int .i64 (hi dn), .int .u64 (lo dn)] 77)).heap.size (w1.alloc (.cells #[.int .i64 (hi dn), .int .u64 (lo dn)] 77)) wc := by simpa using hB
    have xr0 := cell_later hB' (cell_alloc cr0)
    have xr1 := cell_later hB' (cell_alloc cr1)
    have yr0 := frozen_later hB' (cell_alloc cr0) (frozen_alloc cr0 fr0)
    have yr1 := frozen_later hB' (cell_alloc cr1) (frozen_alloc cr1 fr1)
    have xd0 := cell_later hB' cd0
    have xd1 := cell_later hB' cd1
    have hWc : Below w.heap.size w wc := (hW.alloc (by omega) _).trans (hB.mono (by omega))
    have hNd : w.heap.size + 1 ≠ w1.heap.size := by omega
    clear cd0 cd1 hB hB' ca0 ca1 cr0 cr1 fr0 fr1 hz hW
    generalize w1.heap.size = d at *
    have q60 := fun x y => cell_regrown c60 x y
    have q61 := fun x y => cell_regrown c61 x y
    have qd1 := fun x y => cell_regrown xd1 x y
    have hlr : Hid (0 ≤ v - dn * 2 ^ k ∧ v - dn * 2 ^ k ≤ 170141183460469231731687303715884105727) := by
      show 0 ≤ v - dn * 2 ^ k ∧ v - dn * 2 ^ k ≤ 170141183460469231731687303715884105727
      rw [← Hdn.out, left_eq]; exact left_rng v k k1
    have hhr : Hid (1 ≤ (2 : Int) ^ (k - 1) ∧ (2 : Int) ^ (k - 1) ≤ 170141183460469231731687303715884105727) := by
      show 1 ≤ (2 : Int) ^ (k - 1) ∧ (2 : Int) ^ (k - 1) ≤ 170141183460469231731687303715884105727
      have := pow_126 (k - 1) (by omega)
      have := pow_pos' (k - 1)
      omega
    have hrn : Hid (rnd v k = if gu (c3 (v - dn * 2 ^ k) (2 ^ (k - 1))) (lo dn) = true then dn + 1 else dn) := by
      show rnd v k = if gu (c3 (v - dn * 2 ^ k) (2 ^ (k - 1))) (lo dn) = true then dn + 1 else dn
      rw [← Hdn.out, left_eq]
      rfl
    have hld := lo_ge dn
    have hwk : IntKind.i64.wrap ((k : Int) - 1) = (k : Int) - 1 := by rw [IntKind.wrap_i64]; omega
    by_cases hG : gu (c3 (v - dn * 2 ^ k) (2 ^ (k - 1))) (lo dn) = true
    · go_wp2_with fail
      refine wp_region_quiet_below (by kernel_rfl) (by kernel_rfl) ?_
      repeat (quiet_step (first | (go_at_call 35; exact Calls.regrown_of (of_any 1 (by omega) (by omega) _)) | (go_at_call 34; exact Calls.regrown_of (shl_any 1 ((k : Int) - 1) (by omega) _)) | (go_at_call 56; exact Calls.regrown_of (cmp_any (v - dn * 2 ^ k) (2 ^ (k - 1)) (by have := hlr.out; omega) (by have := hlr.out; omega) (by have := hhr.out; omega) (by have := hhr.out; omega) _)) | (go_at_call 55; exact Calls.regrown_same (goesUp_any _ _ hld _))))
      refine wpQuiet_nil ?_
      intro wd hw'
      have hB2 : Below wc.heap.size wc wd := by obtain ⟨⟨dq, osq⟩, rfl⟩ := hw'; exact below_regrown wc dq osq
      clear hw' q60 q61 qd1 hwk
      have zr0 := cell_later hB2 xr0
      have zr1 := cell_later hB2 xr1
      have ur0 := frozen_later hB2 xr0 yr0
      have ur1 := frozen_later hB2 xr1 yr1
      have zd0 := cell_later hB2 xd0
      have zd1 := cell_later hB2 xd1
      have hWd : Below w.heap.size w wd := hWc.trans (hB2.mono hWc.size)
      clear hB2 xr0 xr1 yr0 yr1 xd0 xd1 hWc c60 c61
      rw [hG]
      go_wp2_with fail
      go_region_held3 (fun w' => w'.cell? ⟨d, 0, none⟩ = some (.int .i64 (hi dn)) ∧ w'.cell? ⟨d, 1, none⟩ = some (.int .u64 (lo dn))) (refine ⟨?_, ?_⟩ <;> (repeat (first | assumption | refine cell_later (by assumption) ?_ | refine cell_alloc ?_ | refine cell_drew ?_ | refine cell_set (by dsimp only; omega) ?_))) (first | (go_at_call 35; refine (of_any 1 (by omega) (by omega) _).mono ?_; rintro e w2 ⟨rfl, hb2⟩; have x20 := cell_later hb2 (cell_drew zr0); have x21 := cell_later hb2 (cell_drew zr1); have x22 := frozen_later hb2 (cell_drew zr0) ur0; have x23 := frozen_later hb2 (cell_drew zr1) ur1) | (go_at_call 33; refine (add_any dn 1 _).mono ?_; rintro e w3 ⟨rfl, hb3⟩; have x30 := cell_later hb3 x20; have x31 := cell_later hb3 x21; have x32 := frozen_later hb3 x20 x22; have x33 := frozen_later hb3 x21 x23))
      have hz2 := hb2.size
      have hzd := hWd.size
      simp at hz2
      go_wp2
      exact bodyPost_ret (v := .agg #[.int .i64 (hi (rnd v k)), .int .u64 (lo (rnd v k))]) (by rw [hrn.out, if_pos hG]; simp [results, Try.results38, go_sem, x30, x31]) rfl ⟨rfl, ((((hWd.drew).trans (hb2.mono (by simp; omega))).trans (hb3.mono (by omega))).setCell (by dsimp only; omega) _).setCell (by dsimp only; omega) _⟩
    · have hG' : gu (c3 (v - dn * 2 ^ k) (2 ^ (k - 1))) (lo dn) = false := by simpa using hG
      go_wp2_with fail
      refine wp_region_quiet_below (by kernel_rfl) (by kernel_rfl) ?_
      repeat (quiet_step (first | (go_at_call 35; exact Calls.regrown_of (of_any 1 (by omega) (by omega) _)) | (go_at_call 34; exact Calls.regrown_of (shl_any 1 ((k : Int) - 1) (by omega) _)) | (go_at_call 56; exact Calls.regrown_of (cmp_any (v - dn * 2 ^ k) (2 ^ (k - 1)) (by have := hlr.out; omega) (by have := hlr.out; omega) (by have := hhr.out; omega) (by have := hhr.out; omega) _)) | (go_at_call 55; exact Calls.regrown_same (goesUp_any _ _ hld _))))
      refine wpQuiet_nil ?_
      intro wd hw'
      have hB2 : Below wc.heap.size wc wd := by obtain ⟨⟨dq, osq⟩, rfl⟩ := hw'; exact below_regrown wc dq osq
      clear hw' q60 q61 qd1 hwk
      have zr0 := cell_later hB2 xr0
      have zr1 := cell_later hB2 xr1
      have ur0 := frozen_later hB2 xr0 yr0
      have ur1 := frozen_later hB2 xr1 yr1
      have zd0 := cell_later hB2 xd0
      have zd1 := cell_later hB2 xd1
      have hWd : Below w.heap.size w wd := hWc.trans (hB2.mono hWc.size)
      clear hB2 xr0 xr1 yr0 yr1 xd0 xd1 hWc c60 c61
      try rw [hG']
      go_wp2
      exact bodyPost_ret (v := .agg #[.int .i64 (hi (rnd v k)), .int .u64 (lo (rnd v k))]) (by rw [hrn.out, if_neg hG]; simp [results, Try.results38, go_sem, zr0, zr1]) rfl ⟨rfl, (hWd.setCell (by dsimp only; omega) _).setCell (by dsimp only; omega) _⟩

set_option maxHeartbeats 400000 in
theorem round_none (a0 a1 n : Int) (n0 : n ≤ 0) (w : World) :
    Calls Try.prog 38 #[.agg #[.int .i64 a0, .int .u64 a1], .int .i64 n] w fun e w' => e = .returned (.agg #[.int .i64 a0, .int .u64 a1]) ∧ Below w.heap.size w w' := by
  go_enter Try.func38, Try.ntmps38
  go_wp2
  exact bodyPost_ret (v := .agg #[.int .i64 a0, .int .u64 a1]) (by simp [results, Try.results38, go_sem]) rfl ⟨rfl, bel2 _ _ _⟩
set_option maxHeartbeats 400000 in
theorem round_big (a0 a1 n : Int) (n0 : 127 < n) (w : World) :
    Calls Try.prog 38 #[.agg #[.int .i64 a0, .int .u64 a1], .int .i64 n] w fun e w' => e = .returned (.agg #[.int .i64 0, .int .u64 0]) ∧ Below w.heap.size w w' := by
  have n1 : ¬ n ≤ 0 := by omega
  go_enter Try.func38, Try.ntmps38
  go_wp2
  exact bodyPost_ret (v := .agg #[.int .i64 0, .int .u64 0]) (by simp [results, Try.results38, go_sem]) rfl ⟨rfl, bel2 _ _ _⟩

end Go.Proofs.Ytfcneciknldohaa
/-
  Contracts of math/bits.Div64 where the high word is nought, and of regatta/wide's divide, over what Div64 gives at the two calls.
-/
set_option linter.unusedVariables false
set_option linter.unusedSimpArgs false
namespace Go.Proofs.Ytfcneciknldohaa
open Go.RowKit

end Go.Proofs.Ytfcneciknldohaa
/-
  The contract of regatta/wide's Quo, over what Div64 gives at the two calls.
-/
set_option linter.unusedVariables false
set_option linter.unusedSimpArgs false
namespace Go.Proofs.Ytfcneciknldohaa
open Go.RowKit

/-- A function's first two blocks, the argument's box and the result's variable, are as they were laid. -/
structure Kp (w : World) (a0 a1 : Value) (w' : World) : Prop where
  bel : Below w.heap.size w w'
  ca0 : w'.cell? ⟨w.heap.size, 0, none⟩ = some a0
  ca1 : w'.cell? ⟨w.heap.size, 1, none⟩ = some a1
  cr0 : w'.cell? ⟨w.heap.size + 1, 0, none⟩ = some (.int .i64 0)
  cr1 : w'.cell? ⟨w.heap.size + 1, 1, none⟩ = some (.int .u64 0)
  fr0 : w'.frozen? ⟨w.heap.size + 1, 0, none⟩ = false
  fr1 : w'.frozen? ⟨w.heap.size + 1, 1, none⟩ = false
theorem Kp.start (w : World) (a0 a1 : Value) (t : TypeId) : Kp w a0 a1 ((w.alloc (.cells #[a0, a1] t)).alloc (.cells #[.int .i64 0, .int .u64 0] t)) where
  bel := bel2 _ _ _
  ca0 := cell_alloc (by simp [go_sem])
  ca1 := cell_alloc (by simp [go_sem])
  cr0 := by simp [go_sem]
  cr1 := by simp [go_sem]
  fr0 := by simp [go_sem]
  fr1 := by simp [go_sem]
theorem Kp.later {w w1 w2 : World} {a0 a1 : Value} (h : Kp w a0 a1 w1) (hb : Below w1.heap.size w1 w2) : Kp w a0 a1 w2 where
  bel := h.bel.trans (hb.mono h.bel.size)
  ca0 := cell_later hb h.ca0
  ca1 := cell_later hb h.ca1
  cr0 := cell_later hb h.cr0
  cr1 := cell_later hb h.cr1
  fr0 := frozen_later hb h.cr0 h.fr0
  fr1 := frozen_later hb h.cr1 h.fr1
theorem Kp.lt {w w1 : World} {a0 a1 : Value} (h : Kp w a0 a1 w1) : w.heap.size + 1 < w1.heap.size := World.block_lt_of_cell? _ _ h.cr0
theorem Kp.alloc {w w1 : World} {a0 a1 : Value} (h : Kp w a0 a1 w1) (o : Obj) : Kp w a0 a1 (w1.alloc o) := h.later (bel1 w1 o)

/-- A variable of two words. -/
structure Bx (b : Nat) (x y : Value) (w : World) : Prop where
  c0 : w.cell? ⟨b, 0, none⟩ = some x
  c1 : w.cell? ⟨b, 1, none⟩ = some y
  f0 : w.frozen? ⟨b, 0, none⟩ = false
  f1 : w.frozen? ⟨b, 1, none⟩ = false
theorem Bx.new (w : World) (x y : Value) (t : TypeId) : Bx w.heap.size x y (w.alloc (.cells #[x, y] t)) where
  c0 := by simp [go_sem]
  c1 := by simp [go_sem]
  f0 := by simp [go_sem]
  f1 := by simp [go_sem]
theorem Bx.later {b : Nat} {x y : Value} {w w' : World} (h : Bx b x y w) (hb : Below w.heap.size w w') : Bx b x y w' where
  c0 := cell_later hb h.c0
  c1 := cell_later hb h.c1
  f0 := frozen_later hb h.c0 h.f0
  f1 := frozen_later hb h.c1 h.f1
theorem Bx.set {b : Nat} {x y : Value} {w : World} (h : Bx b x y w) (x' y' : Value) : Bx b x' y' ((w.setCell ⟨b, 0, none⟩ x').setCell ⟨b, 1, none⟩ y') := by
  have c0 := h.c0
  have c1 := h.c1
  have f0 := h.f0
  have f1 := h.f1
  constructor <;> simp [go_sem, c0, c1, f0, f1]
theorem frozen_set {W : World} {p a : Addr} {x : Value} (h : W.frozen? a = false) : (W.setCell p x).frozen? a = false := by simpa [go_sem] using h
theorem Kp.set {w w1 : World} {a0 a1 : Value} (h : Kp w a0 a1 w1) {b : Nat} (hb : w.heap.size + 1 < b) (x y : Value) : Kp w a0 a1 ((w1.setCell ⟨b, 0, none⟩ x).setCell ⟨b, 1, none⟩ y) where
  bel := (h.bel.setCell (by dsimp only; omega) _).setCell (by dsimp only; omega) _
  ca0 := cell_set (by dsimp only; omega) (cell_set (by dsimp only; omega) h.ca0)
  ca1 := cell_set (by dsimp only; omega) (cell_set (by dsimp only; omega) h.ca1)
  cr0 := cell_set (by dsimp only; omega) (cell_set (by dsimp only; omega) h.cr0)
  cr1 := cell_set (by dsimp only; omega) (cell_set (by dsimp only; omega) h.cr1)
  fr0 := frozen_set (frozen_set h.fr0)
  fr1 := frozen_set (frozen_set h.fr1)

theorem run_field_lo (x y : Value) (w : World) : (Instr.field 77 (.agg #[x, y]) 1).run Try.prog w = .ok y w := by kernel_rfl

end Go.Proofs.Ytfcneciknldohaa
/-
  The contract of regatta/wide's Root.
-/
set_option linter.unusedVariables false
set_option linter.unusedSimpArgs false
namespace Go.Proofs.Ytfcneciknldohaa
open Go.RowKit

theorem or_bit (r : Int) (k : Nat) (hk : k ≤ 62) (h0 : 0 ≤ r) (hm : r % 2 ^ (k + 1) = 0) (ht : r + 2 ^ (k + 1) ≤ 9223372036854775808) : bits .or .i64 r (2 ^ k) = r + 2 ^ k := by
  have hp := pow_pos' k
  have e2 := pow_two k
  rw [or_i64 r (2 ^ k) (k + 1) (by omega) hm (by omega) (by omega), sg_id _ (by omega) (by omega)]

end Go.Proofs.Ytfcneciknldohaa
/-
  The contract of regattalaw01's awake: the chapter's examples come out as they should.
-/
set_option linter.unusedVariables false
set_option linter.unusedSimpArgs false
namespace Go.Proofs.Ytfcneciknldohaa
open Go.RowKit

theorem round_7 (w : World) : Calls Try.prog 38 #[.agg #[.int .i64 (hi 7), .int .u64 (lo 7)], .int .i64 1] w fun e w' => e = .returned (.agg #[.int .i64 (hi 4), .int .u64 (lo 4)]) ∧ Below w.heap.size w w' := by
  have h := round_mid 7 1 (by omega) (by omega) (by omega) (by omega) w
  rw [show rnd 7 1 = 4 from rfl] at h
  exact h

end Go.Proofs.Ytfcneciknldohaa
/-
  Small tools for the laws' walks.
-/
namespace Go.Proofs.Ytfcneciknldohaa
open Go.RowKit
theorem bchain {a b c : World} (h : Below a.heap.size a b) (k : Below b.heap.size b c) : Below a.heap.size a c := h.trans (k.mono h.size)
theorem bdrew {a b : World} (h : Below a.heap.size a b) : Below a.heap.size a b.drew := h.drew
theorem ovv_out (v : Int) (h : ¬ (-9223372036854775808 ≤ v ∧ v ≤ 9223372036854775807)) : ovv v = true := by
  unfold ovv; simp; omega
end Go.Proofs.Ytfcneciknldohaa
