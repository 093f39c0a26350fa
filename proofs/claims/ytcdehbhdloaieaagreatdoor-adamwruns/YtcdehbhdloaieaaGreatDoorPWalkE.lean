/-
  The contracts of vec's Scale, Add, Sub and Axpy, with a unit and with none.
-/
import Derived.Test.YtcdehbhdloaieaaGreatDoorBK
import Derived.Test.YtcdehbhdloaieaaGreatDoorPWalkA
import Derived.Test.YtcdehbhdloaieaaGreatDoorPWalkB
import Derived.Test.YtcdehbhdloaieaaGreatDoorPWalkD
import Derived.Deep.QuietTactic
import Derived.BigQuiet
set_option linter.unusedVariables false
set_option linter.unusedSimpArgs false
namespace Go.Proofs.YtcdehbhdloaieaaGreatDoor
open Go.RowKit

theorem Un.setnew {d : Nat} {c : Int} {w w1 : World} (h : Un d c w w1) (a : Addr) (u : Value) (hd : d < w.heap.size) (ha : w.heap.size ≤ a.block) : Un d c w (w1.setCell a u) where
  c := cell_set (by dsimp only; omega) h.c
  f := by rw [World.frozen?_setCell]; exact h.f
  b := fun base w0 h1 h2 h3 => (h.b base w0 h1 h2 h3).setCell (by omega) _
  o := fun b v hb hc => cell_set (by have := World.block_lt_of_cell? _ _ hc; omega) (h.o b v hb hc)
  s := by rw [World.size_setCell]; exact h.s
  k := fun i hi hn => (Below.heap_setCell _ _ _ _ (by omega)).trans (h.k i hi hn)
theorem hmf_any : ∀ (fn : Fn) (first cap : Array Value) (w : World), (Instr.makeFunc fn first cap).run Tryz.prog w = .ok (.func fn first cap) w := fun _ _ _ _ => rfl
theorem cell_new1 (w : World) (x : Value) (t : TypeId) (h : x.oneCell' = true := by rfl) : (w.alloc (.cells #[x] t)).cell? ⟨w.heap.size, 0, none⟩ = some x := by simp [go_sem]

set_option maxHeartbeats 1000000 in
theorem sc1_un (k x : Int) (k0 : -9223372036854775808 ≤ k) (k1 : k ≤ 9223372036854775807) (x0 : -9223372036854775808 ≤ x) (x1 : x ≤ 9223372036854775807) (bu bk : Nat) (d : Nat) (c : Int) (c0 : 0 ≤ c) (c1 : c ≤ 1000000000) (w : World) (hc : w.cell? ⟨d, 0, none⟩ = some (.int .i64 c)) (hf : w.frozen? ⟨d, 0, none⟩ = false) (cu : w.cell? ⟨bu, 0, none⟩ = some (.pointer (some ⟨d, 0, none⟩))) (ck : w.cell? ⟨bk, 0, none⟩ = some (.int .i64 k)) :
    Calls Tryz.prog 71 #[.int .i64 x, .pointer (some ⟨bu, 0, none⟩), .pointer (some ⟨bk, 0, none⟩)] w fun e w' => e = .returned (.int .i64 (clv (rnd (k * x) 32))) ∧ Un d (c + bi (ovv (rnd (k * x) 32))) w w' := by
  have CM : Hid (Calls Tryz.prog 45 #[.pointer (some ⟨d, 0, none⟩), .int .i64 k, .int .i64 x] w fun e w' => e = .returned (.int .i64 (clv (rnd (k * x) 32))) ∧ Un d (c + bi (ovv (rnd (k * x) 32))) w w') := uMul_un k x k0 k1 x0 x1 d c c0 c1 w hc hf
  obtain ⟨r0, r1⟩ := clv_fit (rnd (k * x) 32)
  generalize clv (rnd (k * x) 32) = X at *
  clear hc hf
  go_enter Tryz.func71, Tryz.ntmps71
  go_wp2_with fail
  refine CM.out.mono ?_
  rintro e w1 ⟨rfl, hb⟩
  clear CM cu ck
  go_wp2
  go_ret
  exact ⟨rfl, hb⟩

set_option maxHeartbeats 1000000 in
theorem sc1_nil (k x : Int) (k0 : -9223372036854775808 ≤ k) (k1 : k ≤ 9223372036854775807) (x0 : -9223372036854775808 ≤ x) (x1 : x ≤ 9223372036854775807) (bu bk : Nat) (w : World) (cu : w.cell? ⟨bu, 0, none⟩ = some (.pointer none)) (ck : w.cell? ⟨bk, 0, none⟩ = some (.int .i64 k)) :
    Calls Tryz.prog 71 #[.int .i64 x, .pointer (some ⟨bu, 0, none⟩), .pointer (some ⟨bk, 0, none⟩)] w fun e w' => e = .returned (.int .i64 (clv (rnd (k * x) 32))) ∧ Below w.heap.size w w' := by
  have CM : Hid (Calls Tryz.prog 45 #[.pointer none, .int .i64 k, .int .i64 x] w fun e w' => e = .returned (.int .i64 (clv (rnd (k * x) 32))) ∧ Below w.heap.size w w') := uMul_nil k x k0 k1 x0 x1 w
  obtain ⟨r0, r1⟩ := clv_fit (rnd (k * x) 32)
  generalize clv (rnd (k * x) 32) = X at *
  skip
  go_enter Tryz.func71, Tryz.ntmps71
  go_wp2_with fail
  refine CM.out.mono ?_
  rintro e w1 ⟨rfl, hb⟩
  clear CM cu ck
  go_wp2
  go_ret
  exact ⟨rfl, hb⟩

set_option maxHeartbeats 2000000 in
theorem scaled_un (k : Int) (k0 : -9223372036854775808 ≤ k) (k1 : k ≤ 9223372036854775807) (va : Value) (n : Nat) (f : Nat → Int) (hn : n ≤ 70000) (d : Nat) (c : Int) (c0 : 0 ≤ c) (c1 : c ≤ 900000000) (w : World) (hA : Ar w va n f) (ha : Nb va d) (hc : w.cell? ⟨d, 0, none⟩ = some (.int .i64 c)) (hf : w.frozen? ⟨d, 0, none⟩ = false) :
    Calls Tryz.prog 42 #[.pointer (some ⟨d, 0, none⟩), .int .i64 k, va] w fun e w' => e = .returned (.slice (some ⟨w.heap.size + 2, 0, none⟩) n n) ∧ Ar w' (.slice (some ⟨w.heap.size + 2, 0, none⟩) n n) n (fun i => clv (rnd (k * f i) 32)) ∧ Un d (c + cntV (fun i => ovv (rnd (k * f i) 32)) n) w w' := by
  have hmf := hmf_any
  have hb0 := bel2 w (.cells #[.pointer (some ⟨d, 0, none⟩)] 34) (.cells #[.int .i64 k] 22)
  have cu : ((w.alloc (.cells #[.pointer (some ⟨d, 0, none⟩)] 34)).alloc (.cells #[.int .i64 k] 22)).cell? ⟨w.heap.size, 0, none⟩ = some (.pointer (some ⟨d, 0, none⟩)) := cell_later (bel1 _ _) (cell_new1 w _ _)
  have ck : ((w.alloc (.cells #[.pointer (some ⟨d, 0, none⟩)] 34)).alloc (.cells #[.int .i64 k] 22)).cell? ⟨w.heap.size + 1, 0, none⟩ = some (.int .i64 k) := by have h := cell_new1 (w.alloc (.cells #[.pointer (some ⟨d, 0, none⟩)] 34)) (.int .i64 k) 22; rw [World.size_alloc] at h; exact h
  have hsz : ((w.alloc (.cells #[.pointer (some ⟨d, 0, none⟩)] 34)).alloc (.cells #[.int .i64 k] 22)).heap.size = w.heap.size + 2 := by simp
  have CE : Hid (Calls Tryz.prog 70 #[va, .func (.func 71) #[] #[.pointer (some ⟨w.heap.size, 0, none⟩), .pointer (some ⟨w.heap.size + 1, 0, none⟩)]] ((w.alloc (.cells #[.pointer (some ⟨d, 0, none⟩)] 34)).alloc (.cells #[.int .i64 k] 22)) fun e w' => e = .returned (.slice (some ⟨w.heap.size + 2, 0, none⟩) n n) ∧ Ar w' (.slice (some ⟨w.heap.size + 2, 0, none⟩) n n) n (fun i => clv (rnd (k * f i) 32)) ∧ Un d (c + cntV (fun i => ovv (rnd (k * f i) 32)) n) w w') := by
    have hd := World.block_lt_of_cell? _ _ hc
    dsimp only at hd
    have hc2 := cell_later hb0 hc
    have hf2 := frozen_later hb0 hc hf
    have h := each_scaled (.pointer (some ⟨w.heap.size, 0, none⟩)) (.pointer (some ⟨w.heap.size + 1, 0, none⟩)) (fun j W => Un d (c + cntV (fun i => ovv (rnd (k * f i) 32)) j) ((w.alloc (.cells #[.pointer (some ⟨d, 0, none⟩)] 34)).alloc (.cells #[.int .i64 k] 22)) W) va n f (fun i => clv (rnd (k * f i) 32)) ((w.alloc (.cells #[.pointer (some ⟨d, 0, none⟩)] 34)).alloc (.cells #[.int .i64 k] 22)) hn (hA.later hb0) (by simpa [cntV] using Un.same hc2 hf2) (fun j W W' h hb => h.ahead hb) (fun j W a x hx h => h.setnew a x (by rw [hsz]; omega) hx) (fun j W h => (hA.later hb0).un ha h) (fun j _ => clv_fit _) (fun j W hj hW h => by
      have r := cnt_rng (fun i => ovv (rnd (k * f i) 32)) j
      obtain ⟨_, _, _, _, _, _, _, _, hx⟩ := hA
      have hx := (hx j hj).2
      refine (sc1_un k (f j) k0 k1 hx.1 hx.2 w.heap.size (w.heap.size + 1) d _ (by omega) (by omega) W h.c h.f (h.o _ _ (by dsimp only; omega) cu) (h.o _ _ (by dsimp only; omega) ck)).mono ?_
      rintro e w' ⟨rfl, hU⟩
      refine ⟨rfl, ?_, hU.k _ (by omega) (by rw [hsz]; omega), hU.s⟩
      have e1 : c + cntV (fun i => ovv (rnd (k * f i) 32)) (j + 1) = c + cntV (fun i => ovv (rnd (k * f i) 32)) j + bi (ovv (rnd (k * f j) 32)) := by rw [Int.add_assoc]; rfl
      show Un d (c + cntV (fun i => ovv (rnd (k * f i) 32)) (j + 1)) _ w'
      rw [e1]
      exact h.chain hU)
    refine h.mono ?_
    rintro e w' ⟨rfl, hS, hX⟩
    rw [hsz] at hX ⊢
    exact ⟨rfl, hX, Un.after hb0 hS⟩
  obtain ⟨adr, cap, b, o, rfl, -, -, -, -⟩ := hA
  clear cu ck hb0 hsz ha hc hf
  go_enter Tryz.func42, Tryz.ntmps42
  go_wp2_with fail
  refine CE.out.mono ?_
  rintro e w' ⟨rfl, hX, hU⟩
  have HX : Hid (Ar w' (.slice (some ⟨w.heap.size + 2, 0, none⟩) n n) n (fun i => clv (rnd (k * f i) 32))) := hX
  clear CE hX
  go_wp2
  go_ret
  exact ⟨rfl, HX.out, hU⟩

set_option maxHeartbeats 2000000 in
theorem scaled_nil (k : Int) (k0 : -9223372036854775808 ≤ k) (k1 : k ≤ 9223372036854775807) (va : Value) (n : Nat) (f : Nat → Int) (hn : n ≤ 70000) (w : World) (hA : Ar w va n f) :
    Calls Tryz.prog 42 #[.pointer none, .int .i64 k, va] w fun e w' => e = .returned (.slice (some ⟨w.heap.size + 2, 0, none⟩) n n) ∧ Ar w' (.slice (some ⟨w.heap.size + 2, 0, none⟩) n n) n (fun i => clv (rnd (k * f i) 32)) ∧ Below w.heap.size w w' := by
  have hmf := hmf_any
  have hb0 := bel2 w (.cells #[.pointer none] 34) (.cells #[.int .i64 k] 22)
  have cu : ((w.alloc (.cells #[.pointer none] 34)).alloc (.cells #[.int .i64 k] 22)).cell? ⟨w.heap.size, 0, none⟩ = some (.pointer none) := cell_later (bel1 _ _) (cell_new1 w _ _)
  have ck : ((w.alloc (.cells #[.pointer none] 34)).alloc (.cells #[.int .i64 k] 22)).cell? ⟨w.heap.size + 1, 0, none⟩ = some (.int .i64 k) := by have h := cell_new1 (w.alloc (.cells #[.pointer none] 34)) (.int .i64 k) 22; rw [World.size_alloc] at h; exact h
  have hsz : ((w.alloc (.cells #[.pointer none] 34)).alloc (.cells #[.int .i64 k] 22)).heap.size = w.heap.size + 2 := by simp
  have CE : Hid (Calls Tryz.prog 70 #[va, .func (.func 71) #[] #[.pointer (some ⟨w.heap.size, 0, none⟩), .pointer (some ⟨w.heap.size + 1, 0, none⟩)]] ((w.alloc (.cells #[.pointer none] 34)).alloc (.cells #[.int .i64 k] 22)) fun e w' => e = .returned (.slice (some ⟨w.heap.size + 2, 0, none⟩) n n) ∧ Ar w' (.slice (some ⟨w.heap.size + 2, 0, none⟩) n n) n (fun i => clv (rnd (k * f i) 32)) ∧ Below w.heap.size w w') := by
    have h := each_scaled (.pointer (some ⟨w.heap.size, 0, none⟩)) (.pointer (some ⟨w.heap.size + 1, 0, none⟩)) (fun _ W => Below ((w.alloc (.cells #[.pointer none] 34)).alloc (.cells #[.int .i64 k] 22)).heap.size ((w.alloc (.cells #[.pointer none] 34)).alloc (.cells #[.int .i64 k] 22)) W) va n f (fun i => clv (rnd (k * f i) 32)) ((w.alloc (.cells #[.pointer none] 34)).alloc (.cells #[.int .i64 k] 22)) hn (hA.later hb0) (Below.refl _ _) (fun j W W' h hb => bchain h hb) (fun j W a x hx h => h.setCell hx _) (fun j W h => (hA.later hb0).later h) (fun j _ => clv_fit _) (fun j W hj hW h => by
      obtain ⟨_, _, _, _, _, _, _, _, hx⟩ := hA
      have hx := (hx j hj).2
      refine (sc1_nil k (f j) k0 k1 hx.1 hx.2 w.heap.size (w.heap.size + 1) W (cell_later h cu) (cell_later h ck)).mono ?_
      rintro e w' ⟨rfl, hb⟩
      exact ⟨rfl, bchain h hb, hb.block _ hW, hb.size⟩)
    refine h.mono ?_
    rintro e w' ⟨rfl, hS, hX⟩
    rw [hsz] at hX ⊢
    exact ⟨rfl, hX, bchain hb0 hS⟩
  obtain ⟨adr, cap, b, o, rfl, -, -, -, -⟩ := hA
  clear cu ck hb0 hsz
  go_enter Tryz.func42, Tryz.ntmps42
  go_wp2_with fail
  refine CE.out.mono ?_
  rintro e w' ⟨rfl, hX, hU⟩
  have HX : Hid (Ar w' (.slice (some ⟨w.heap.size + 2, 0, none⟩) n n) n (fun i => clv (rnd (k * f i) 32))) := hX
  clear CE hX
  go_wp2
  go_ret
  exact ⟨rfl, HX.out, hU⟩

end Go.Proofs.YtcdehbhdloaieaaGreatDoor
