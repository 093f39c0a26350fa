/-
  A unit or none: what is counted, and what is left as it was; the contracts of fix and vec for both at once.
-/
import Derived.Test.YtcdehbhdloaieaaGreatDoorPWalkC
import Derived.Test.YtcdehbhdloaieaaGreatDoorPWalkE
import Derived.Test.YtcdehbhdloaieaaGreatDoorPWalkI
set_option linter.unusedVariables false
set_option linter.unusedSimpArgs false
namespace Go.Proofs.YtcdehbhdloaieaaGreatDoor
open Go.RowKit

/-- No unit, or one with that count. -/
def Up (p : Option Addr) (c : Int) (w : World) : Prop := p = none ∨ ∃ d, p = some ⟨d, 0, none⟩ ∧ Uc w d c
/-- What is left behind a call that counts. -/
def Ux (p : Option Addr) (c : Int) (w w' : World) : Prop := (p = none ∧ Below w.heap.size w w') ∨ ∃ d, p = some ⟨d, 0, none⟩ ∧ d < w.heap.size ∧ Un d c w w'
/-- A block is not the unit's. -/
def Nu (b : Nat) (p : Option Addr) : Prop := ∀ d, p = some ⟨d, 0, none⟩ → b ≠ d
/-- A list is apart from the unit. -/
def Nv (v : Value) (p : Option Addr) : Prop := ∀ d, p = some ⟨d, 0, none⟩ → Nb v d
theorem nv_none (v : Value) : Nv v none := fun d e => by cases e
theorem nv_some {v : Value} {d : Nat} (h : Nb v d) : Nv v (some ⟨d, 0, none⟩) := fun d' e => by cases e; exact h
theorem Nv.nu {p : Option Addr} {b o n cap : Nat} (h : Nv (.slice (some ⟨b, o, none⟩) n cap) p) (hn : 0 < n) : Nu b p := fun d e => h d e _ n cap rfl hn
theorem Nu.nv {p : Option Addr} {b : Nat} (h : Nu b p) (o n cap : Nat) : Nv (.slice (some ⟨b, o, none⟩) n cap) p := fun d e a n' cap' e2 hn => by cases e2; exact h d e
theorem Up.lt {p : Option Addr} {c : Int} {w : World} (h : Up p c w) {b : Nat} (hb : w.heap.size ≤ b) : Nu b p := fun d e => by
  rcases h with h | ⟨d', h, hc⟩
  · rw [h] at e; cases e
  · rw [h] at e
    cases e
    have := World.block_lt_of_cell? _ _ hc.1
    intro e2
    subst e2
    dsimp only at this
    omega
theorem Up.ow {p : Option Addr} {c : Int} {w : World} (h : Up p c w) {v : Value} (hv : Ow w.heap.size v) : Nv v p := fun d e a n cap e2 hn => (h.lt (hv a n cap e2 hn)) d e
theorem Ux.up {p : Option Addr} {c : Int} {w w' : World} (h : Ux p c w w') : Up p c w' := by
  rcases h with ⟨h, -⟩ | ⟨d, h, -, hU⟩
  · exact Or.inl h
  · exact Or.inr ⟨d, h, hU.c, hU.f⟩
theorem Up.later {p : Option Addr} {c : Int} {w w' : World} (h : Up p c w) (hb : Below w.heap.size w w') : Up p c w' := by
  rcases h with h | ⟨d, h, hc⟩
  · exact Or.inl h
  · exact Or.inr ⟨d, h, hc.later hb⟩
theorem Up.ux {p : Option Addr} {c : Int} {w w' : World} (h : Up p c w) (hb : Below w.heap.size w w') : Ux p c w w' := by
  rcases h with h | ⟨d, h, hc⟩
  · exact Or.inl ⟨h, hb⟩
  · exact Or.inr ⟨d, h, World.block_lt_of_cell? _ _ hc.1, (Un.same hc.1 hc.2).ahead hb⟩
theorem Up.same {p : Option Addr} {c : Int} {w : World} (h : Up p c w) : Ux p c w w := h.ux (Below.refl _ _)
theorem Ux.size {p : Option Addr} {c : Int} {w w' : World} (h : Ux p c w w') : w.heap.size ≤ w'.heap.size := by
  rcases h with ⟨-, hb⟩ | ⟨d, -, -, hU⟩
  · exact hb.size
  · exact hU.s
theorem Ux.chain {p : Option Addr} {c c' : Int} {w w1 w2 : World} (h : Ux p c w w1) (k : Ux p c' w1 w2) : Ux p c' w w2 := by
  rcases h with ⟨h, hb⟩ | ⟨d, h, hd, hU⟩
  · rcases k with ⟨k, kb⟩ | ⟨d, k, -, -⟩
    · exact Or.inl ⟨h, bchain hb kb⟩
    · rw [h] at k; cases k
  · rcases k with ⟨k, kb⟩ | ⟨d', k, -, kU⟩
    · rw [h] at k; cases k
    · rw [h] at k
      cases k
      exact Or.inr ⟨d, h, hd, hU.chain kU⟩
theorem Ux.later {p : Option Addr} {c : Int} {w w1 w2 : World} (h : Ux p c w w1) (hb : Below w1.heap.size w1 w2) : Ux p c w w2 := by
  rcases h with ⟨h, h1⟩ | ⟨d, h, hd, hU⟩
  · exact Or.inl ⟨h, bchain h1 hb⟩
  · exact Or.inr ⟨d, h, hd, hU.ahead hb⟩
theorem Ux.drew {p : Option Addr} {c : Int} {w w1 : World} (h : Ux p c w w1) : Ux p c w w1.drew := h.later (Below.refl _ _).drew
theorem Ux.far {p : Option Addr} {c : Int} {w w1 : World} (h : Ux p c w w1) {a : Addr} (u : Value) (ha : w.heap.size ≤ a.block) : Ux p c w (w1.setCell a u) := by
  rcases h with ⟨h, h1⟩ | ⟨d, h, hd, hU⟩
  · exact Or.inl ⟨h, h1.setCell ha u⟩
  · exact Or.inr ⟨d, h, hd, hU.setnew a u hd ha⟩
theorem Ux.grow {p : Option Addr} {c : Int} {w wr w1 : World} {o : Obj} {r : Option Nat} (h : Ux p c w wr) (hg : (wr.alloc o).grownBy w1 r) (hr : ∀ k, r = some k → w.heap.size ≤ k) : Ux p c w w1 := by
  rcases h with ⟨h, h1⟩ | ⟨d, h, hd, hU⟩
  · have hs := h1.size
    exact Or.inl ⟨h, (h1.alloc (by omega) o).grown hg (by rw [World.size_alloc]; omega) hr⟩
  · exact Or.inr ⟨d, h, hd, hU.grow hd hg hr⟩
theorem Ux.blk {p : Option Addr} {c : Int} {w w' : World} (h : Ux p c w w') {i : Nat} (hi : i < w.heap.size) (hn : Nu i p) : w'.heap[i]? = w.heap[i]? := by
  rcases h with ⟨h, h1⟩ | ⟨d, h, hd, hU⟩
  · exact h1.block i hi
  · exact hU.k i hi (hn d h)
theorem Ux.cell {p : Option Addr} {c : Int} {w w' : World} (h : Ux p c w w') {a : Addr} {v : Value} (hn : Nu a.block p) (hc : w.cell? a = some v) : w'.cell? a = some v :=
  (World.cell?_of_block (w := w) (h.blk (World.block_lt_of_cell? _ _ hc) hn)).trans hc
theorem Ux.frozen {p : Option Addr} {c : Int} {w w' : World} (h : Ux p c w w') {a : Addr} {v : Value} (hn : Nu a.block p) (hc : w.cell? a = some v) (hf : w.frozen? a = false) : w'.frozen? a = false :=
  (World.frozen?_of_block (w := w) (h.blk (World.block_lt_of_cell? _ _ hc) hn)).trans hf
theorem Ar.ux {w w' : World} {v : Value} {n : Nat} {f : Nat → Int} {p : Option Addr} {c : Int} (h : Ar w v n f) (hn : Nv v p) (hU : Ux p c w w') : Ar w' v n f := by
  obtain ⟨adr, cap, b, o, h1, h2, h3, h4, h5⟩ := h
  refine ⟨adr, cap, b, o, h1, h2, h3, h4, fun k hk => ⟨hU.cell ?_ (h5 k hk).1, (h5 k hk).2⟩⟩
  have e := h4 (by omega)
  subst e
  subst h1
  exact hn.nu (by omega)
theorem Rw.ux {b n : Nat} {h : Nat → Value} {w w' : World} {p : Option Addr} {c : Int} (r : Rw b n h w) (hn : Nu b p) (hU : Ux p c w w') : Rw b n h w' := by
  rcases Nat.eq_zero_or_pos n with h0 | h0
  · subst h0
    exact ⟨fun k hk => absurd hk (Nat.not_lt_zero _), fun k hk => absurd hk (Nat.not_lt_zero _)⟩
  · exact r.block (hU.blk (World.block_lt_of_cell? _ _ (r.c 0 h0)) hn)
theorem TabAt.ux {w w' : World} {p : Option Addr} {c c' : Int} (h : TabAt w) (hp : Up p c w) (hU : Ux p c' w w') : TabAt w' := fun j hj => hU.cell (fun d e => by
  rcases hp with hp | ⟨d', hp, hc⟩
  · rw [hp] at e; cases e
  · have e3 : d = d' := by rw [hp] at e; cases e; rfl
    intro e2
    have h0 := h 0 (by omega)
    dsimp only at e2
    rw [show (⟨2, 0, none⟩ : Addr) = ⟨d', 0, none⟩ by rw [e2, e3]] at h0
    rw [hc.1] at h0
    cases h0) (h j hj)
theorem own_ux {wr w1 : World} {B : Nat} {e : TypeId} {s : Nat} {v : Value} {n : Nat} {xs : List Value} {p : Option Addr} {c : Int} (h : wr.ownsRow B e s v n xs) (hU : Ux p c wr w1) (hn : ∀ g, B ≤ g → Nu g p) : w1.ownsRow B e s v n xs := by
  refine ⟨h.1, ?_⟩
  rcases h.2 with h0 | ⟨g, cap, cur, hv, hg, hh, r⟩
  · exact Or.inl h0
  · exact Or.inr ⟨g, cap, cur, hv, hg, (hU.blk (Array.getElem?_eq_some_iff.1 hh).1 (hn g hg)).trans hh, r⟩
/-- Both at once. -/
theorem ux_calls {f : Nat} {p : Option Addr} {c : Int} {w : World} {ags : Array Value} {P : Ending → World → Prop} {k : Int} (hp : Up p c w)
    (hN : p = none → Calls Tryz.prog f (#[.pointer none] ++ ags) w fun e w' => P e w' ∧ Below w.heap.size w w')
    (hU : ∀ d, p = some ⟨d, 0, none⟩ → Uc w d c → Calls Tryz.prog f (#[.pointer (some ⟨d, 0, none⟩)] ++ ags) w fun e w' => P e w' ∧ Un d (c + k) w w') :
    Calls Tryz.prog f (#[.pointer p] ++ ags) w fun e w' => P e w' ∧ Ux p (c + k) w w' := by
  rcases hp with rfl | ⟨d, rfl, hc⟩
  · exact (hN rfl).mono fun e w' h => ⟨h.1, Or.inl ⟨rfl, h.2⟩⟩
  · exact (hU d rfl hc).mono fun e w' h => ⟨h.1, Or.inr ⟨d, rfl, World.block_lt_of_cell? _ _ hc.1, h.2⟩⟩
theorem sub_ux (a b : Int) (a0 : -9223372036854775808 ≤ a) (a1 : a ≤ 9223372036854775807) (b0 : -9223372036854775808 ≤ b) (b1 : b ≤ 9223372036854775807) (p : Option Addr) (c : Int) (c0 : 0 ≤ c) (c1 : c ≤ 900000000) (w : World) (hp : Up p c w) :
    Calls Tryz.prog 48 #[.pointer p, .int .i64 a, .int .i64 b] w fun e w' => e = .returned (.int .i64 (clv (a - b))) ∧ Ux p (c + bi (ovv (a - b))) w w' :=
  ux_calls (ags := #[.int .i64 a, .int .i64 b]) hp (fun _ => uSub_nil a b a0 a1 b0 b1 w) (fun d _ hc => uSub_un a b a0 a1 b0 b1 d c c0 (by omega) w hc.1 hc.2)
theorem mul_ux (a b : Int) (a0 : -9223372036854775808 ≤ a) (a1 : a ≤ 9223372036854775807) (b0 : -9223372036854775808 ≤ b) (b1 : b ≤ 9223372036854775807) (p : Option Addr) (c : Int) (c0 : 0 ≤ c) (c1 : c ≤ 900000000) (w : World) (hp : Up p c w) :
    Calls Tryz.prog 45 #[.pointer p, .int .i64 a, .int .i64 b] w fun e w' => e = .returned (.int .i64 (clv (rr (a * b) 32))) ∧ Ux p (c + bi (ovv (rr (a * b) 32))) w w' :=
  ux_calls (ags := #[.int .i64 a, .int .i64 b]) hp (fun _ => uMul_nil a b a0 a1 b0 b1 w) (fun d _ hc => uMul_un a b a0 a1 b0 b1 d c c0 (by omega) w hc.1 hc.2)
theorem take_ux (a : Int) (o : Bool) (p : Option Addr) (c : Int) (c0 : 0 ≤ c) (c1 : c ≤ 900000000) (w : World) (hp : Up p c w) :
    Calls Tryz.prog 69 #[.pointer p, .int .i64 a, .bool o] w fun e w' => e = .returned (.int .i64 a) ∧ Ux p (c + bi o) w w' :=
  ux_calls (ags := #[.int .i64 a, .bool o]) hp (fun _ => (take_nil a o w).mono fun e w' h => ⟨h.1, by rw [h.2]; exact Below.refl _ _⟩) (fun d _ hc => take_un d c a o c0 (by omega) w hc.1 hc.2)
theorem near32_ux (v : Int) (h0 : -3138550867693340381917894711603833208051177722232017256448 ≤ v) (h1 : v ≤ 3138550867693340381917894711603833208051177722232017256447) (p : Option Addr) (c : Int) (c0 : 0 ≤ c) (c1 : c ≤ 900000000) (w : World) (hT : TabAt w) (hp : Up p c w) :
    Calls Tryz.prog 75 #[.pointer p, .agg #[.int .i64 (t3 v), .int .u64 (m3 v), .int .u64 (lo v)], .int .i64 32] w fun e w' => e = .returned (.int .i64 (clv (rr v 32))) ∧ Ux p (c + bi (ovv (rr v 32))) w w' :=
  ux_calls (ags := #[.agg #[.int .i64 (t3 v), .int .u64 (m3 v), .int .u64 (lo v)], .int .i64 32]) hp (fun _ => uNear_nil v h0 h1 w hT) (fun d _ hc => uNear_un v h0 h1 d c c0 (by omega) w hT hc.1 hc.2)
set_option maxHeartbeats 1000000 in
theorem uNear33_nil (v : Int) (h0 : -3138550867693340381917894711603833208051177722232017256448 ≤ v) (h1 : v ≤ 3138550867693340381917894711603833208051177722232017256447) (w : World) (hT : TabAt w) :
    Calls Tryz.prog 75 #[.pointer none, .agg #[.int .i64 (t3 v), .int .u64 (m3 v), .int .u64 (lo v)], .int .i64 33] w fun e w' => e = .returned (.int .i64 (clv (rnd v 33))) ∧ Below w.heap.size w w' := by
  have P : Hid (∀ W : World, TabAt W → Calls Tryz.prog 104 #[.agg #[.int .i64 (t3 v), .int .u64 (m3 v), .int .u64 (lo v)], .int .i64 33] W fun e w' => e = .returned (.tuple #[.int .i64 (clv (rnd v 33)), .bool (ovv (rnd v 33))]) ∧ Below W.heap.size W w') := by
    intro W hT
    have h := near_mid v 33 33 rfl (by omega) (by omega) (by omega) W hT
    rw [rl_pos v 33 (by omega)] at h
    exact h
  obtain ⟨k0, k1⟩ := clv_fit (rnd v 33)
  have HT : Hid (TabAt (w.alloc (.cells #[.int .i64 (t3 v), .int .u64 (m3 v), .int .u64 (lo v)] 124))) := hT.later (bel1 w _)
  clear hT
  go_enter Tryz.func75, Tryz.ntmps75
  go_wp2_with fail
  refine (P.out _ HT.out).mono ?_
  rintro e w1 ⟨rfl, hb⟩
  have W1 := bchain (bel1 w _) hb
  clear P HT hb
  go_wp2_with fail
  refine (take_nil _ _ _).mono ?_
  rintro e wz ⟨rfl, hz⟩
  subst hz
  go_wp2
  go_ret
  exact ⟨rfl, W1⟩
set_option maxHeartbeats 1000000 in
theorem uNear33_un (v : Int) (h0 : -3138550867693340381917894711603833208051177722232017256448 ≤ v) (h1 : v ≤ 3138550867693340381917894711603833208051177722232017256447) (d : Nat) (n : Int) (n0 : 0 ≤ n) (n1 : n ≤ 1000000000) (w : World) (hT : TabAt w) (c : w.cell? ⟨d, 0, none⟩ = some (.int .i64 n)) (f : w.frozen? ⟨d, 0, none⟩ = false) :
    Calls Tryz.prog 75 #[.pointer (some ⟨d, 0, none⟩), .agg #[.int .i64 (t3 v), .int .u64 (m3 v), .int .u64 (lo v)], .int .i64 33] w fun e w' => e = .returned (.int .i64 (clv (rnd v 33))) ∧ Un d (n + bi (ovv (rnd v 33))) w w' := by
  have P : Hid (∀ W : World, TabAt W → Calls Tryz.prog 104 #[.agg #[.int .i64 (t3 v), .int .u64 (m3 v), .int .u64 (lo v)], .int .i64 33] W fun e w' => e = .returned (.tuple #[.int .i64 (clv (rnd v 33)), .bool (ovv (rnd v 33))]) ∧ Below W.heap.size W w') := by
    intro W hT
    have h := near_mid v 33 33 rfl (by omega) (by omega) (by omega) W hT
    rw [rl_pos v 33 (by omega)] at h
    exact h
  obtain ⟨k0, k1⟩ := clv_fit (rnd v 33)
  have HT : Hid (TabAt (w.alloc (.cells #[.int .i64 (t3 v), .int .u64 (m3 v), .int .u64 (lo v)] 124))) := hT.later (bel1 w _)
  clear hT
  go_enter Tryz.func75, Tryz.ntmps75
  go_wp2_with fail
  refine (P.out _ HT.out).mono ?_
  rintro e w1 ⟨rfl, hb⟩
  have W1 := bchain (bel1 w _) hb
  clear P HT hb
  have c1 := cell_later W1 c
  have f1 := frozen_later W1 c f
  go_wp2_with fail
  refine (take_un d n _ _ n0 n1 _ c1 f1).mono ?_
  rintro e w2 ⟨rfl, hU⟩
  have hV := Un.after W1 hU
  clear hU W1 c1 f1 c f
  go_wp2
  go_ret
  exact ⟨rfl, hV⟩
theorem near33_ux (v : Int) (h0 : -3138550867693340381917894711603833208051177722232017256448 ≤ v) (h1 : v ≤ 3138550867693340381917894711603833208051177722232017256447) (p : Option Addr) (c : Int) (c0 : 0 ≤ c) (c1 : c ≤ 900000000) (w : World) (hT : TabAt w) (hp : Up p c w) :
    Calls Tryz.prog 75 #[.pointer p, .agg #[.int .i64 (t3 v), .int .u64 (m3 v), .int .u64 (lo v)], .int .i64 33] w fun e w' => e = .returned (.int .i64 (clv (rr v 33))) ∧ Ux p (c + bi (ovv (rr v 33))) w w' :=
  ux_calls (ags := #[.agg #[.int .i64 (t3 v), .int .u64 (m3 v), .int .u64 (lo v)], .int .i64 33]) hp (fun _ => uNear33_nil v h0 h1 w hT) (fun d _ hc => uNear33_un v h0 h1 d c c0 (by omega) w hT hc.1 hc.2)
end Go.Proofs.YtcdehbhdloaieaaGreatDoor
