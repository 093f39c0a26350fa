/-
  Texts of this proof, joined: BC BF.
-/
import Derived.Test.YtdfjnbkkdgolnabGreatDoorSX00
import Derived.Deep.DeepCutAuto
import Derived.Lib.QuietBelow
import Derived.BigQuiet
set_option linter.unusedVariables false
set_option linter.unusedSimpArgs false
namespace Go.Proofs.YtdfjnbkkdgolnabGreatDoor
open Go.RowKit

theorem frozen_later {w wx : World} {a : Addr} {v : Value} (hb : Below w.heap.size w wx) (hc : w.cell? a = some v) (h : w.frozen? a = false) : wx.frozen? a = false :=
  (hb.frozen (World.block_lt_of_cell? _ _ hc)).trans h

theorem cell_alloc {W : World} {o : Obj} {a : Addr} {v : Value} (h : W.cell? a = some v) : (W.alloc o).cell? a = some v := cell_later (bel1 W o) h
theorem cell_drew {W : World} {a : Addr} {v : Value} (h : W.cell? a = some v) : W.drew.cell? a = some v := h

theorem cell_set {W : World} {p a : Addr} {x v : Value} (hp : p.block ≠ a.block) (h : W.cell? a = some v) : (W.setCell p x).cell? a = some v := by
  rw [World.cell?_setCell_far W p a x hp]; exact h

theorem frozen_alloc {W : World} {o : Obj} {a : Addr} {v : Value} (hc : W.cell? a = some v) (h : W.frozen? a = false) : (W.alloc o).frozen? a = false := frozen_later (bel1 W o) hc h
theorem Calls.regrown_same {P : Program} {f : FuncId} {args : Array Value} {w : World} {d : Nat} {os : Array Obj} {v : Value}
    (h : Calls P f args (Go.Sort.grow (redrawn w d) os) fun e w' => e = .returned v ∧ w' = Go.Sort.grow (redrawn w d) os) : Calls P f args (Go.Sort.grow (redrawn w d) os) fun e w'' => e = .returned v ∧ ∃ p : Regrown, w'' = Go.Sort.grow (redrawn w p.d) p.os :=
  h.mono fun _ _ ⟨he, hb⟩ => ⟨he, ⟨d, os⟩, hb⟩
theorem pow_126 (k : Nat) (hk : k ≤ 126) : (2 : Int) ^ k ≤ 85070591730234615865843651857942052864 := by
  have h : (2 : Nat) ^ k ≤ 2 ^ 126 := Nat.pow_le_pow_right (by omega) hk
  have h2 : (((2 : Nat) ^ k : Nat) : Int) ≤ (((2 : Nat) ^ 126 : Nat) : Int) := by omega
  rw [Int.natCast_pow] at h2
  exact h2

set_option maxHeartbeats 1000000 in
theorem round_mid (v : Int) (k : Nat) (k0 : 1 ≤ k) (k1 : k ≤ 127) (v0 : -170141183460469231731687303715884105728 ≤ v) (v1 : v ≤ 170141183460469231731687303715884105727) (w : World) :
    Calls Tryz.prog 108 #[.agg #[.int .i64 (hi v), .int .u64 (lo v)], .int .i64 k] w fun e w' => e = .returned (.agg #[.int .i64 (hi (rnd v k)), .int .u64 (lo (rnd v k))]) ∧ Below w.heap.size w w' := by
  have hk0 : ¬ (k : Int) ≤ 0 := by omega
  have hk1 : ¬ (127 : Int) < k := by omega
  go_enter Tryz.func108, Tryz.ntmps108
  go_wp2_with fail
  refine (shr_any v k (by omega) v0 v1 _).mono ?_
  rintro e w1 ⟨rfl, hb⟩
  rw [Int.toNat_natCast]
  obtain ⟨hc, hf⟩ := bcell hb
  have hz := hb.size
  simp at hz
  have ca0 : w1.cell? ⟨w.heap.size, 0, none⟩ = some (.int .i64 (hi v)) := by rw [hc _ _ (by simp <;> omega)]; simp [go_sem]
  have ca1 : w1.cell? ⟨w.heap.size, 1, none⟩ = some (.int .u64 (lo v)) := by rw [hc _ _ (by simp <;> omega)]; simp [go_sem]
  have cr0 : w1.cell? ⟨w.heap.size + 1, 0, none⟩ = some (.int .i64 0) := by rw [hc _ _ (by simp <;> omega)]; simp [go_sem]
  have cr1 : w1.cell? ⟨w.heap.size + 1, 1, none⟩ = some (.int .u64 0) := by rw [hc _ _ (by simp <;> omega)]; simp [go_sem]
  have fr0 : w1.frozen? ⟨w.heap.size + 1, 0, none⟩ = false := by rw [hf _ _ (by simp <;> omega)]; simp [go_sem]
  have fr1 : w1.frozen? ⟨w.heap.size + 1, 1, none⟩ = false := by rw [hf _ _ (by simp <;> omega)]; simp [go_sem]
  have hW : Below w.heap.size w w1 := (bel2 w _ _).trans (hb.mono (by simp; omega))
  clear hc hf hb
  generalize hdn : v / 2 ^ k = dn at *
  have Hdn : Hid (v / 2 ^ k = dn) := hdn
  clear hdn
  have cd0 : (w1.alloc (.cells #[.int .i64 (hi dn), .int .u64 (lo dn)] 85)).cell? ⟨w1.heap.size, 0, none⟩ = some (.int .i64 (hi dn)) := by simp [go_sem]
  have cd1 : (w1.alloc (.cells #[.int .i64 (hi dn), .int .u64 (lo dn)] 85)).cell? ⟨w1.heap.size, 1, none⟩ = some (.int .u64 (lo dn)) := by simp [go_sem]
  go_upto_region 6 with fail
  go_cut [6] (fun s6 wc => ∃ b6 : Nat, s6 = .pointer (some ⟨b6, 0, none⟩) ∧ wc.cell? ⟨b6, 0, none⟩ = some (.int .i64 (hi (v - dn * 2 ^ k))) ∧ wc.cell? ⟨b6, 1, none⟩ = some (.int .u64 (lo (v - dn * 2 ^ k))) ∧ Below (w1.heap.size + 1) (w1.alloc (.cells #[.int .i64 (hi dn), .int .u64 (lo dn)] 85)) wc)
  case first =>
    go_region_held3 (fun w' => w'.cell? ⟨w.heap.size, 0, none⟩ = some (.int .i64 (hi v)) ∧ w'.cell? ⟨w.heap.size, 1, none⟩ = some (.int .u64 (lo v)) ∧ w'.cell? ⟨w1.heap.size, 0, none⟩ = some (.int .i64 (hi dn)) ∧ w'.cell? ⟨w1.heap.size, 1, none⟩ = some (.int .u64 (lo dn))) (refine ⟨?_, ?_, ?_, ?_⟩ <;> (repeat (first | assumption | refine cell_later (by assumption) ?_ | refine cell_alloc ?_ | refine cell_drew ?_ | refine cell_set (by dsimp only; omega) ?_))) (first | (go_at_call 45; refine (shl_any dn k (by omega) _).mono ?_; rintro e w2 ⟨rfl, hb2⟩; obtain ⟨hc2, hf2⟩ := bcell hb2; (try simp at hc2 hf2); have hz2 := hb2.size; (try simp at hz2); (try have hy2 : w1.heap.size + 1 < w2.heap.size := (by omega))) | (go_at_call 95; refine (sub_any v (dn * 2 ^ (k : Int).toNat) _).mono ?_; rintro e w3 ⟨rfl, hb3⟩; obtain ⟨hc3, hf3⟩ := bcell hb3; (try simp at hc3 hf3); have hz3 := hb3.size; (try simp at hz3); (try have hy3 : w1.heap.size + 1 < w3.heap.size := (by omega))))
    all_goals (go_wp2_with fail)
    all_goals go_meet
    all_goals (refine ⟨_, rfl, ?_, ?_, ?_⟩)
    all_goals first | (simp [go_sem, *]; done) | (repeat (first | assumption | exact Below.refl _ _ | refine Below.setCell ?_ (by dsimp only; omega) _ | refine Below.alloc ?_ (by first | omega | (simp <;> omega)) _ | refine Below.drew ?_ | refine Below.trans ?_ (Below.mono (by assumption) (by first | omega | (simp <;> omega)))))
  case rest =>
    obtain ⟨b6, rfl, c60, c61, hB⟩ := hcut
    have hB' : Below (w1.alloc (.cells #[.int .i64 (hi dn), .int .u64 (lo dn)] 85)).heap.size (w1.alloc (.cells #[.int .i64 (hi dn), .int .u64 (lo dn)] 85)) wc := by simpa using hB
    have xr0 := cell_later hB' (cell_alloc cr0)
    have xr1 := cell_later hB' (cell_alloc cr1)
    have yr0 := frozen_later hB' (cell_alloc cr0) (frozen_alloc cr0 fr0)
    have yr1 := frozen_later hB' (cell_alloc cr1) (frozen_alloc cr1 fr1)
    have xd0 := cell_later hB' cd0
    have xd1 := cell_later hB' cd1
    have hWc : Below w.heap.size w wc := (hW.alloc (by omega) _).trans (hB.mono (by omega))
    have hNd : w.heap.size + 1 ≠ w1.heap.size := by omega
    clear cd0 cd1 hB hB' ca0 ca1 cr0 cr1 fr0 fr1 hz hW
    generalize w1.heap.size = d at *
    have q60 := fun x y => cell_regrown c60 x y
    have q61 := fun x y => cell_regrown c61 x y
    have qd1 := fun x y => cell_regrown xd1 x y
    have hlr : Hid (0 ≤ v - dn * 2 ^ k ∧ v - dn * 2 ^ k ≤ 170141183460469231731687303715884105727) := by
      show 0 ≤ v - dn * 2 ^ k ∧ v - dn * 2 ^ k ≤ 170141183460469231731687303715884105727
      rw [← Hdn.out, left_eq]; exact left_rng v k k1
    have hhr : Hid (1 ≤ (2 : Int) ^ (k - 1) ∧ (2 : Int) ^ (k - 1) ≤ 170141183460469231731687303715884105727) := by
      show 1 ≤ (2 : Int) ^ (k - 1) ∧ (2 : Int) ^ (k - 1) ≤ 170141183460469231731687303715884105727
      have := pow_126 (k - 1) (by omega)
      have := pow_pos' (k - 1)
      omega
    have hrn : Hid (rnd v k = if gu (c3 (v - dn * 2 ^ k) (2 ^ (k - 1))) (lo dn) = true then dn + 1 else dn) := by
      show rnd v k = if gu (c3 (v - dn * 2 ^ k) (2 ^ (k - 1))) (lo dn) = true then dn + 1 else dn
      rw [← Hdn.out, left_eq]
      rfl
    have hld := lo_ge dn
    have hwk : IntKind.i64.wrap ((k : Int) - 1) = (k : Int) - 1 := by rw [IntKind.wrap_i64]; omega
    by_cases hG : gu (c3 (v - dn * 2 ^ k) (2 ^ (k - 1))) (lo dn) = true
    · go_wp2_with fail
      refine wp_region_quiet_below (by kernel_rfl) (by kernel_rfl) ?_
      repeat (quiet_step (first | (go_at_call 46; exact Calls.regrown_of (of_any 1 (by omega) (by omega) _)) | (go_at_call 45; exact Calls.regrown_of (shl_any 1 ((k : Int) - 1) (by omega) _)) | (go_at_call 112; exact Calls.regrown_of (cmp_any (v - dn * 2 ^ k) (2 ^ (k - 1)) (by have := hlr.out; omega) (by have := hlr.out; omega) (by have := hhr.out; omega) (by have := hhr.out; omega) _)) | (go_at_call 77; exact Calls.regrown_same (goesUp_any _ _ hld _))))
      refine wpQuiet_nil ?_
      intro wd hw'
      have hB2 : Below wc.heap.size wc wd := by obtain ⟨⟨dq, osq⟩, rfl⟩ := hw'; exact below_regrown wc dq osq
      clear hw' q60 q61 qd1 hwk
      have zr0 := cell_later hB2 xr0
      have zr1 := cell_later hB2 xr1
      have ur0 := frozen_later hB2 xr0 yr0
      have ur1 := frozen_later hB2 xr1 yr1
      have zd0 := cell_later hB2 xd0
      have zd1 := cell_later hB2 xd1
      have hWd : Below w.heap.size w wd := hWc.trans (hB2.mono hWc.size)
      clear hB2 xr0 xr1 yr0 yr1 xd0 xd1 hWc c60 c61
      rw [hG]
      go_wp2_with fail
      go_region_held3 (fun w' => w'.cell? ⟨d, 0, none⟩ = some (.int .i64 (hi dn)) ∧ w'.cell? ⟨d, 1, none⟩ = some (.int .u64 (lo dn))) (refine ⟨?_, ?_⟩ <;> (repeat (first | assumption | refine cell_later (by assumption) ?_ | refine cell_alloc ?_ | refine cell_drew ?_ | refine cell_set (by dsimp only; omega) ?_))) (first | (go_at_call 46; refine (of_any 1 (by omega) (by omega) _).mono ?_; rintro e w2 ⟨rfl, hb2⟩; have x20 := cell_later hb2 (cell_drew zr0); have x21 := cell_later hb2 (cell_drew zr1); have x22 := frozen_later hb2 (cell_drew zr0) ur0; have x23 := frozen_later hb2 (cell_drew zr1) ur1) | (go_at_call 58; refine (add_any dn 1 _).mono ?_; rintro e w3 ⟨rfl, hb3⟩; have x30 := cell_later hb3 x20; have x31 := cell_later hb3 x21; have x32 := frozen_later hb3 x20 x22; have x33 := frozen_later hb3 x21 x23))
      have hz2 := hb2.size
      have hzd := hWd.size
      simp at hz2
      go_wp2
      exact bodyPost_ret (v := .agg #[.int .i64 (hi (rnd v k)), .int .u64 (lo (rnd v k))]) (by rw [hrn.out, if_pos hG]; simp [results, Tryz.results108, go_sem, x30, x31]) rfl ⟨rfl, ((((hWd.drew).trans (hb2.mono (by simp; omega))).trans (hb3.mono (by omega))).setCell (by dsimp only; omega) _).setCell (by dsimp only; omega) _⟩
    · have hG' : gu (c3 (v - dn * 2 ^ k) (2 ^ (k - 1))) (lo dn) = false := by simpa using hG
      go_wp2_with fail
      refine wp_region_quiet_below (by kernel_rfl) (by kernel_rfl) ?_
      repeat (quiet_step (first | (go_at_call 46; exact Calls.regrown_of (of_any 1 (by omega) (by omega) _)) | (go_at_call 45; exact Calls.regrown_of (shl_any 1 ((k : Int) - 1) (by omega) _)) | (go_at_call 112; exact Calls.regrown_of (cmp_any (v - dn * 2 ^ k) (2 ^ (k - 1)) (by have := hlr.out; omega) (by have := hlr.out; omega) (by have := hhr.out; omega) (by have := hhr.out; omega) _)) | (go_at_call 77; exact Calls.regrown_same (goesUp_any _ _ hld _))))
      refine wpQuiet_nil ?_
      intro wd hw'
      have hB2 : Below wc.heap.size wc wd := by obtain ⟨⟨dq, osq⟩, rfl⟩ := hw'; exact below_regrown wc dq osq
      clear hw' q60 q61 qd1 hwk
      have zr0 := cell_later hB2 xr0
      have zr1 := cell_later hB2 xr1
      have ur0 := frozen_later hB2 xr0 yr0
      have ur1 := frozen_later hB2 xr1 yr1
      have zd0 := cell_later hB2 xd0
      have zd1 := cell_later hB2 xd1
      have hWd : Below w.heap.size w wd := hWc.trans (hB2.mono hWc.size)
      clear hB2 xr0 xr1 yr0 yr1 xd0 xd1 hWc c60 c61
      try rw [hG']
      go_wp2
      exact bodyPost_ret (v := .agg #[.int .i64 (hi (rnd v k)), .int .u64 (lo (rnd v k))]) (by rw [hrn.out, if_neg hG]; simp [results, Tryz.results108, go_sem, zr0, zr1]) rfl ⟨rfl, (hWd.setCell (by dsimp only; omega) _).setCell (by dsimp only; omega) _⟩

end Go.Proofs.YtdfjnbkkdgolnabGreatDoor
set_option linter.unusedVariables false
set_option linter.unusedSimpArgs false
namespace Go.Proofs.YtdfjnbkkdgolnabGreatDoor
open Go.RowKit

/-- A function's first two blocks, the argument's box and the result's variable, are as they were laid. -/
structure Kp (w : World) (a0 a1 : Value) (w' : World) : Prop where
  bel : Below w.heap.size w w'
  ca0 : w'.cell? ⟨w.heap.size, 0, none⟩ = some a0
  ca1 : w'.cell? ⟨w.heap.size, 1, none⟩ = some a1
  cr0 : w'.cell? ⟨w.heap.size + 1, 0, none⟩ = some (.int .i64 0)
  cr1 : w'.cell? ⟨w.heap.size + 1, 1, none⟩ = some (.int .u64 0)
  fr0 : w'.frozen? ⟨w.heap.size + 1, 0, none⟩ = false
  fr1 : w'.frozen? ⟨w.heap.size + 1, 1, none⟩ = false
theorem Kp.later {w w1 w2 : World} {a0 a1 : Value} (h : Kp w a0 a1 w1) (hb : Below w1.heap.size w1 w2) : Kp w a0 a1 w2 where
  bel := h.bel.trans (hb.mono h.bel.size)
  ca0 := cell_later hb h.ca0
  ca1 := cell_later hb h.ca1
  cr0 := cell_later hb h.cr0
  cr1 := cell_later hb h.cr1
  fr0 := frozen_later hb h.cr0 h.fr0
  fr1 := frozen_later hb h.cr1 h.fr1
theorem Kp.lt {w w1 : World} {a0 a1 : Value} (h : Kp w a0 a1 w1) : w.heap.size + 1 < w1.heap.size := World.block_lt_of_cell? _ _ h.cr0
theorem Kp.alloc {w w1 : World} {a0 a1 : Value} (h : Kp w a0 a1 w1) (o : Obj) : Kp w a0 a1 (w1.alloc o) := h.later (bel1 w1 o)

/-- A variable of two words. -/
structure Bx (b : Nat) (x y : Value) (w : World) : Prop where
  c0 : w.cell? ⟨b, 0, none⟩ = some x
  c1 : w.cell? ⟨b, 1, none⟩ = some y
  f0 : w.frozen? ⟨b, 0, none⟩ = false
  f1 : w.frozen? ⟨b, 1, none⟩ = false
theorem Bx.new (w : World) (x y : Value) (t : TypeId) : Bx w.heap.size x y (w.alloc (.cells #[x, y] t)) where
  c0 := by simp [go_sem]
  c1 := by simp [go_sem]
  f0 := by simp [go_sem]
  f1 := by simp [go_sem]
theorem Bx.later {b : Nat} {x y : Value} {w w' : World} (h : Bx b x y w) (hb : Below w.heap.size w w') : Bx b x y w' where
  c0 := cell_later hb h.c0
  c1 := cell_later hb h.c1
  f0 := frozen_later hb h.c0 h.f0
  f1 := frozen_later hb h.c1 h.f1
theorem Bx.set {b : Nat} {x y : Value} {w : World} (h : Bx b x y w) (x' y' : Value) : Bx b x' y' ((w.setCell ⟨b, 0, none⟩ x').setCell ⟨b, 1, none⟩ y') := by
  have c0 := h.c0
  have c1 := h.c1
  have f0 := h.f0
  have f1 := h.f1
  constructor <;> simp [go_sem, c0, c1, f0, f1]
theorem frozen_set {W : World} {p a : Addr} {x : Value} (h : W.frozen? a = false) : (W.setCell p x).frozen? a = false := by simpa [go_sem] using h
theorem Kp.set {w w1 : World} {a0 a1 : Value} (h : Kp w a0 a1 w1) {b : Nat} (hb : w.heap.size + 1 < b) (x y : Value) : Kp w a0 a1 ((w1.setCell ⟨b, 0, none⟩ x).setCell ⟨b, 1, none⟩ y) where
  bel := (h.bel.setCell (by dsimp only; omega) _).setCell (by dsimp only; omega) _
  ca0 := cell_set (by dsimp only; omega) (cell_set (by dsimp only; omega) h.ca0)
  ca1 := cell_set (by dsimp only; omega) (cell_set (by dsimp only; omega) h.ca1)
  cr0 := cell_set (by dsimp only; omega) (cell_set (by dsimp only; omega) h.cr0)
  cr1 := cell_set (by dsimp only; omega) (cell_set (by dsimp only; omega) h.cr1)
  fr0 := frozen_set (frozen_set h.fr0)
  fr1 := frozen_set (frozen_set h.fr1)

end Go.Proofs.YtdfjnbkkdgolnabGreatDoor
namespace Go.Proofs.YtdfjnbkkdgolnabGreatDoor
open Go.RowKit
theorem bchain {a b c : World} (h : Below a.heap.size a b) (k : Below b.heap.size b c) : Below a.heap.size a c := h.trans (k.mono h.size)
end Go.Proofs.YtdfjnbkkdgolnabGreatDoor
set_option linter.unusedVariables false
set_option linter.unusedSimpArgs false
namespace Go.Proofs.YtdfjnbkkdgolnabGreatDoor
open Go.RowKit

/-- A block of six cells. -/
structure B6 (b : Nat) (x : Nat → Int) (w : World) : Prop where
  c : ∀ k, k < 6 → w.cell? ⟨b, k, none⟩ = some (.int .u64 (x k))
  f : ∀ k, k < 6 → w.frozen? ⟨b, k, none⟩ = false
theorem six {P : Nat → Prop} (h0 : P 0) (h1 : P 1) (h2 : P 2) (h3 : P 3) (h4 : P 4) (h5 : P 5) : ∀ k, k < 6 → P k := fun k hk => by
  match k, hk with
  | 0, _ => exact h0
  | 1, _ => exact h1
  | 2, _ => exact h2
  | 3, _ => exact h3
  | 4, _ => exact h4
  | 5, _ => exact h5
theorem B6.new (w : World) (x : Nat → Int) (t : TypeId) : B6 w.heap.size x (w.alloc (.cells #[.int .u64 (x 0), .int .u64 (x 1), .int .u64 (x 2), .int .u64 (x 3), .int .u64 (x 4), .int .u64 (x 5)] t)) :=
  ⟨six (by simp [go_sem]) (by simp [go_sem]) (by simp [go_sem]) (by simp [go_sem]) (by simp [go_sem]) (by simp [go_sem]), six (by simp [go_sem]) (by simp [go_sem]) (by simp [go_sem]) (by simp [go_sem]) (by simp [go_sem]) (by simp [go_sem])⟩
theorem B6.later {b : Nat} {x : Nat → Int} {w w' : World} (h : B6 b x w) (hb : Below w.heap.size w w') : B6 b x w' :=
  ⟨fun k hk => cell_later hb (h.c k hk), fun k hk => frozen_later hb (h.c k hk) (h.f k hk)⟩
theorem B6.lt {b : Nat} {x : Nat → Int} {w : World} (h : B6 b x w) : b < w.heap.size := World.block_lt_of_cell? _ _ (h.c 0 (by omega))
theorem B6.far {b : Nat} {x : Nat → Int} {w : World} {p : Addr} (h : B6 b x w) (u : Value) (hp : p.block ≠ b) : B6 b x (w.setCell p u) :=
  ⟨fun k hk => cell_set hp (h.c k hk), fun k hk => by rw [World.frozen?_setCell]; exact h.f k hk⟩
theorem B6.set {b : Nat} {x : Nat → Int} {w : World} (h : B6 b x w) (j : Nat) (hj : j < 6) (u : Int) : B6 b (fun k => if k = j then u else x k) (w.setCell ⟨b, j, none⟩ (.int .u64 u)) := by
  refine ⟨fun k hk => ?_, fun k hk => by rw [World.frozen?_setCell]; exact h.f k hk⟩
  by_cases hkj : k = j
  · subst hkj
    rw [if_pos rfl]
    have := h.c k hk
    simp [go_sem, this]
  · rw [if_neg hkj]
    have := h.c k hk
    simp [go_sem, this, hkj]
theorem B6.cong {b : Nat} {x y : Nat → Int} {w : World} (h : B6 b x w) (e : ∀ k, k < 6 → x k = y k) : B6 b y w :=
  ⟨fun k hk => by rw [h.c k hk, e k hk], h.f⟩

end Go.Proofs.YtdfjnbkkdgolnabGreatDoor
set_option linter.unusedVariables false
set_option linter.unusedSimpArgs false
namespace Go.Proofs.YtdfjnbkkdgolnabGreatDoor
open Go.RowKit

/-- A block of twelve cells. -/
structure B12 (b : Nat) (x y : Nat → Int) (w : World) : Prop where
  c : ∀ k, k < 6 → w.cell? ⟨b, k, none⟩ = some (.int .u64 (x k))
  d : ∀ k, k < 6 → w.cell? ⟨b, 6 + k, none⟩ = some (.int .u64 (y k))
  f : ∀ k, k < 6 → w.frozen? ⟨b, k, none⟩ = false
  g : ∀ k, k < 6 → w.frozen? ⟨b, 6 + k, none⟩ = false
theorem B12.new (w : World) (x y : Nat → Int) (t : TypeId) : B12 w.heap.size x y (w.alloc (.cells #[.int .u64 (x 0), .int .u64 (x 1), .int .u64 (x 2), .int .u64 (x 3), .int .u64 (x 4), .int .u64 (x 5), .int .u64 (y 0), .int .u64 (y 1), .int .u64 (y 2), .int .u64 (y 3), .int .u64 (y 4), .int .u64 (y 5)] t)) :=
  ⟨six (by simp [go_sem]) (by simp [go_sem]) (by simp [go_sem]) (by simp [go_sem]) (by simp [go_sem]) (by simp [go_sem]), six (by simp [go_sem]) (by simp [go_sem]) (by simp [go_sem]) (by simp [go_sem]) (by simp [go_sem]) (by simp [go_sem]), six (by simp [go_sem]) (by simp [go_sem]) (by simp [go_sem]) (by simp [go_sem]) (by simp [go_sem]) (by simp [go_sem]), six (by simp [go_sem]) (by simp [go_sem]) (by simp [go_sem]) (by simp [go_sem]) (by simp [go_sem]) (by simp [go_sem])⟩
theorem B12.later {b : Nat} {x y : Nat → Int} {w w' : World} (h : B12 b x y w) (hb : Below w.heap.size w w') : B12 b x y w' :=
  ⟨fun k hk => cell_later hb (h.c k hk), fun k hk => cell_later hb (h.d k hk), fun k hk => frozen_later hb (h.c k hk) (h.f k hk), fun k hk => frozen_later hb (h.d k hk) (h.g k hk)⟩
theorem B12.lt {b : Nat} {x y : Nat → Int} {w : World} (h : B12 b x y w) : b < w.heap.size := World.block_lt_of_cell? _ _ (h.c 0 (by omega))

end Go.Proofs.YtdfjnbkkdgolnabGreatDoor
set_option linter.unusedVariables false
set_option linter.unusedSimpArgs false
namespace Go.Proofs.YtdfjnbkkdgolnabGreatDoor
open Go.RowKit

theorem B6.all {b : Nat} {x : Nat → Int} {w : World} (h : B6 b x w) (y : Nat → Int) : B6 b y ((((((w.setCell ⟨b, 0, none⟩ (.int .u64 (y 0))).setCell ⟨b, 1, none⟩ (.int .u64 (y 1))).setCell ⟨b, 2, none⟩ (.int .u64 (y 2))).setCell ⟨b, 3, none⟩ (.int .u64 (y 3))).setCell ⟨b, 4, none⟩ (.int .u64 (y 4))).setCell ⟨b, 5, none⟩ (.int .u64 (y 5))) :=
  ((((((h.set 0 (by omega) (y 0)).set 1 (by omega) (y 1)).set 2 (by omega) (y 2)).set 3 (by omega) (y 3)).set 4 (by omega) (y 4)).set 5 (by omega) (y 5)).cong (six (by simp) (by simp) (by simp) (by simp) (by simp) (by simp))
theorem hidD' {a b c : World} (h : Hid (Below a.heap.size a b)) (k : Below b.heap.size b c) : Hid (Below a.heap.size a c) := bchain h.out k
end Go.Proofs.YtdfjnbkkdgolnabGreatDoor
set_option linter.unusedVariables false
set_option linter.unusedSimpArgs false
namespace Go.Proofs.YtdfjnbkkdgolnabGreatDoor
open Go.RowKit
theorem B12.far {b : Nat} {x y : Nat → Int} {w : World} {p : Addr} (h : B12 b x y w) (u : Value) (hp : p.block ≠ b) : B12 b x y (w.setCell p u) :=
  ⟨fun k hk => cell_set hp (h.c k hk), fun k hk => cell_set hp (h.d k hk), fun k hk => by rw [World.frozen?_setCell]; exact h.f k hk, fun k hk => by rw [World.frozen?_setCell]; exact h.g k hk⟩
end Go.Proofs.YtdfjnbkkdgolnabGreatDoor
