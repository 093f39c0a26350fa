/-
  Texts of this proof, joined: MUnit MMeans NWalkD NWalkB NWalkE NWalkF.
-/
import Derived.Test.YtcaficenocblfaaGreatDoorSU07
import Derived.Test.YtcaficenocblfaaGreatDoorSU08
import Derived.Test.YtcaficenocblfaaGreatDoorSU09
set_option linter.unusedVariables false
set_option linter.unusedSimpArgs false
namespace Go.Proofs.YtcaficenocblfaaGreatDoor
open Go.RowKit

def Up (p : Option Addr) (c : Int) (w : World) : Prop := p = none ∨ ∃ d, p = some ⟨d, 0, none⟩ ∧ Uc w d c
def Ux (p : Option Addr) (c : Int) (w w' : World) : Prop := (p = none ∧ Below w.heap.size w w') ∨ ∃ d, p = some ⟨d, 0, none⟩ ∧ d < w.heap.size ∧ Un d c w w'
def Nu (b : Nat) (p : Option Addr) : Prop := ∀ d, p = some ⟨d, 0, none⟩ → b ≠ d
def Nv (v : Value) (p : Option Addr) : Prop := ∀ d, p = some ⟨d, 0, none⟩ → Nb v d
theorem nv_none (v : Value) : Nv v none := fun d e => by cases e
theorem nv_some {v : Value} {d : Nat} (h : Nb v d) : Nv v (some ⟨d, 0, none⟩) := fun d' e => by cases e; exact h
theorem Nv.nu {p : Option Addr} {b o n cap : Nat} (h : Nv (.slice (some ⟨b, o, none⟩) n cap) p) (hn : 0 < n) : Nu b p := fun d e => h d e _ n cap rfl hn
theorem Nu.nv {p : Option Addr} {b : Nat} (h : Nu b p) (o n cap : Nat) : Nv (.slice (some ⟨b, o, none⟩) n cap) p := fun d e a n' cap' e2 hn => by cases e2; exact h d e
theorem Up.lt {p : Option Addr} {c : Int} {w : World} (h : Up p c w) {b : Nat} (hb : w.heap.size ≤ b) : Nu b p := fun d e => by
  rcases h with h | ⟨d', h, hc⟩
  · rw [h] at e; cases e
  · rw [h] at e
    cases e
    have := World.block_lt_of_cell? _ _ hc.1
    intro e2
    subst e2
    dsimp only at this
    omega
theorem Up.ow {p : Option Addr} {c : Int} {w : World} (h : Up p c w) {v : Value} (hv : Ow w.heap.size v) : Nv v p := fun d e a n cap e2 hn => (h.lt (hv a n cap e2 hn)) d e
theorem Ux.up {p : Option Addr} {c : Int} {w w' : World} (h : Ux p c w w') : Up p c w' := by
  rcases h with ⟨h, -⟩ | ⟨d, h, -, hU⟩
  · exact Or.inl h
  · exact Or.inr ⟨d, h, hU.c, hU.f⟩
theorem Up.later {p : Option Addr} {c : Int} {w w' : World} (h : Up p c w) (hb : Below w.heap.size w w') : Up p c w' := by
  rcases h with h | ⟨d, h, hc⟩
  · exact Or.inl h
  · exact Or.inr ⟨d, h, hc.later hb⟩
theorem Up.ux {p : Option Addr} {c : Int} {w w' : World} (h : Up p c w) (hb : Below w.heap.size w w') : Ux p c w w' := by
  rcases h with h | ⟨d, h, hc⟩
  · exact Or.inl ⟨h, hb⟩
  · exact Or.inr ⟨d, h, World.block_lt_of_cell? _ _ hc.1, (Un.same hc.1 hc.2).ahead hb⟩
theorem Up.same {p : Option Addr} {c : Int} {w : World} (h : Up p c w) : Ux p c w w := h.ux (Below.refl _ _)
theorem Ux.size {p : Option Addr} {c : Int} {w w' : World} (h : Ux p c w w') : w.heap.size ≤ w'.heap.size := by
  rcases h with ⟨-, hb⟩ | ⟨d, -, -, hU⟩
  · exact hb.size
  · exact hU.s
theorem Ux.chain {p : Option Addr} {c c' : Int} {w w1 w2 : World} (h : Ux p c w w1) (k : Ux p c' w1 w2) : Ux p c' w w2 := by
  rcases h with ⟨h, hb⟩ | ⟨d, h, hd, hU⟩
  · rcases k with ⟨k, kb⟩ | ⟨d, k, -, -⟩
    · exact Or.inl ⟨h, bchain hb kb⟩
    · rw [h] at k; cases k
  · rcases k with ⟨k, kb⟩ | ⟨d', k, -, kU⟩
    · rw [h] at k; cases k
    · rw [h] at k
      cases k
      exact Or.inr ⟨d, h, hd, hU.chain kU⟩
theorem Ux.later {p : Option Addr} {c : Int} {w w1 w2 : World} (h : Ux p c w w1) (hb : Below w1.heap.size w1 w2) : Ux p c w w2 := by
  rcases h with ⟨h, h1⟩ | ⟨d, h, hd, hU⟩
  · exact Or.inl ⟨h, bchain h1 hb⟩
  · exact Or.inr ⟨d, h, hd, hU.ahead hb⟩
theorem Ux.drew {p : Option Addr} {c : Int} {w w1 : World} (h : Ux p c w w1) : Ux p c w w1.drew := h.later (Below.refl _ _).drew
theorem Ux.far {p : Option Addr} {c : Int} {w w1 : World} (h : Ux p c w w1) {a : Addr} (u : Value) (ha : w.heap.size ≤ a.block) : Ux p c w (w1.setCell a u) := by
  rcases h with ⟨h, h1⟩ | ⟨d, h, hd, hU⟩
  · exact Or.inl ⟨h, h1.setCell ha u⟩
  · exact Or.inr ⟨d, h, hd, hU.setnew a u hd ha⟩
theorem Ux.grow {p : Option Addr} {c : Int} {w wr w1 : World} {o : Obj} {r : Option Nat} (h : Ux p c w wr) (hg : (wr.alloc o).grownBy w1 r) (hr : ∀ k, r = some k → w.heap.size ≤ k) : Ux p c w w1 := by
  rcases h with ⟨h, h1⟩ | ⟨d, h, hd, hU⟩
  · have hs := h1.size
    exact Or.inl ⟨h, (h1.alloc (by omega) o).grown hg (by rw [World.size_alloc]; omega) hr⟩
  · exact Or.inr ⟨d, h, hd, hU.grow hd hg hr⟩
theorem Ux.blk {p : Option Addr} {c : Int} {w w' : World} (h : Ux p c w w') {i : Nat} (hi : i < w.heap.size) (hn : Nu i p) : w'.heap[i]? = w.heap[i]? := by
  rcases h with ⟨h, h1⟩ | ⟨d, h, hd, hU⟩
  · exact h1.block i hi
  · exact hU.k i hi (hn d h)
theorem Ux.cell {p : Option Addr} {c : Int} {w w' : World} (h : Ux p c w w') {a : Addr} {v : Value} (hn : Nu a.block p) (hc : w.cell? a = some v) : w'.cell? a = some v :=
  (World.cell?_of_block (w := w) (h.blk (World.block_lt_of_cell? _ _ hc) hn)).trans hc
theorem Ar.ux {w w' : World} {v : Value} {n : Nat} {f : Nat → Int} {p : Option Addr} {c : Int} (h : Ar w v n f) (hn : Nv v p) (hU : Ux p c w w') : Ar w' v n f := by
  obtain ⟨adr, cap, b, o, h1, h2, h3, h4, h5⟩ := h
  refine ⟨adr, cap, b, o, h1, h2, h3, h4, fun k hk => ⟨hU.cell ?_ (h5 k hk).1, (h5 k hk).2⟩⟩
  have e := h4 (by omega)
  subst e
  subst h1
  exact hn.nu (by omega)
theorem Rw.ux {b n : Nat} {h : Nat → Value} {w w' : World} {p : Option Addr} {c : Int} (r : Rw b n h w) (hn : Nu b p) (hU : Ux p c w w') : Rw b n h w' := by
  rcases Nat.eq_zero_or_pos n with h0 | h0
  · subst h0
    exact ⟨fun k hk => absurd hk (Nat.not_lt_zero _), fun k hk => absurd hk (Nat.not_lt_zero _)⟩
  · exact r.block (hU.blk (World.block_lt_of_cell? _ _ (r.c 0 h0)) hn)
theorem TabAt.ux {w w' : World} {p : Option Addr} {c c' : Int} (h : TabAt w) (hp : Up p c w) (hU : Ux p c' w w') : TabAt w' := fun j hj => hU.cell (fun d e => by
  rcases hp with hp | ⟨d', hp, hc⟩
  · rw [hp] at e; cases e
  · have e3 : d = d' := by rw [hp] at e; cases e; rfl
    intro e2
    have h0 := h 0 (by omega)
    dsimp only at e2
    rw [show (⟨2, 0, none⟩ : Addr) = ⟨d', 0, none⟩ by rw [e2, e3]] at h0
    rw [hc.1] at h0
    cases h0) (h j hj)
theorem own_ux {wr w1 : World} {B : Nat} {e : TypeId} {s : Nat} {v : Value} {n : Nat} {xs : List Value} {p : Option Addr} {c : Int} (h : wr.ownsRow B e s v n xs) (hU : Ux p c wr w1) (hn : ∀ g, B ≤ g → Nu g p) : w1.ownsRow B e s v n xs := by
  refine ⟨h.1, ?_⟩
  rcases h.2 with h0 | ⟨g, cap, cur, hv, hg, hh, r⟩
  · exact Or.inl h0
  · exact Or.inr ⟨g, cap, cur, hv, hg, (hU.blk (Array.getElem?_eq_some_iff.1 hh).1 (hn g hg)).trans hh, r⟩
theorem ux_calls {f : Nat} {p : Option Addr} {c : Int} {w : World} {ags : Array Value} {P : Ending → World → Prop} {k : Int} (hp : Up p c w)
    (hN : p = none → Calls Tryz.prog f (#[.pointer none] ++ ags) w fun e w' => P e w' ∧ Below w.heap.size w w')
    (hU : ∀ d, p = some ⟨d, 0, none⟩ → Uc w d c → Calls Tryz.prog f (#[.pointer (some ⟨d, 0, none⟩)] ++ ags) w fun e w' => P e w' ∧ Un d (c + k) w w') :
    Calls Tryz.prog f (#[.pointer p] ++ ags) w fun e w' => P e w' ∧ Ux p (c + k) w w' := by
  rcases hp with rfl | ⟨d, rfl, hc⟩
  · exact (hN rfl).mono fun e w' h => ⟨h.1, Or.inl ⟨rfl, h.2⟩⟩
  · exact (hU d rfl hc).mono fun e w' h => ⟨h.1, Or.inr ⟨d, rfl, World.block_lt_of_cell? _ _ hc.1, h.2⟩⟩
theorem sub_ux (a b : Int) (a0 : -9223372036854775808 ≤ a) (a1 : a ≤ 9223372036854775807) (b0 : -9223372036854775808 ≤ b) (b1 : b ≤ 9223372036854775807) (p : Option Addr) (c : Int) (c0 : 0 ≤ c) (c1 : c ≤ 900000000) (w : World) (hp : Up p c w) :
    Calls Tryz.prog 164 #[.pointer p, .int .i64 a, .int .i64 b] w fun e w' => e = .returned (.int .i64 (clv (a - b))) ∧ Ux p (c + bi (ovv (a - b))) w w' :=
  ux_calls (ags := #[.int .i64 a, .int .i64 b]) hp (fun _ => uSub_nil a b a0 a1 b0 b1 w) (fun d _ hc => uSub_un a b a0 a1 b0 b1 d c c0 (by omega) w hc.1 hc.2)
theorem mul_ux (a b : Int) (a0 : -9223372036854775808 ≤ a) (a1 : a ≤ 9223372036854775807) (b0 : -9223372036854775808 ≤ b) (b1 : b ≤ 9223372036854775807) (p : Option Addr) (c : Int) (c0 : 0 ≤ c) (c1 : c ≤ 900000000) (w : World) (hp : Up p c w) :
    Calls Tryz.prog 110 #[.pointer p, .int .i64 a, .int .i64 b] w fun e w' => e = .returned (.int .i64 (clv (rr (a * b) 32))) ∧ Ux p (c + bi (ovv (rr (a * b) 32))) w w' :=
  ux_calls (ags := #[.int .i64 a, .int .i64 b]) hp (fun _ => uMul_nil a b a0 a1 b0 b1 w) (fun d _ hc => uMul_un a b a0 a1 b0 b1 d c c0 (by omega) w hc.1 hc.2)
theorem take_ux (a : Int) (o : Bool) (p : Option Addr) (c : Int) (c0 : 0 ≤ c) (c1 : c ≤ 900000000) (w : World) (hp : Up p c w) :
    Calls Tryz.prog 100 #[.pointer p, .int .i64 a, .bool o] w fun e w' => e = .returned (.int .i64 a) ∧ Ux p (c + bi o) w w' :=
  ux_calls (ags := #[.int .i64 a, .bool o]) hp (fun _ => (take_nil a o w).mono fun e w' h => ⟨h.1, by rw [h.2]; exact Below.refl _ _⟩) (fun d _ hc => take_un d c a o c0 (by omega) w hc.1 hc.2)
theorem near32_ux (v : Int) (h0 : -3138550867693340381917894711603833208051177722232017256448 ≤ v) (h1 : v ≤ 3138550867693340381917894711603833208051177722232017256447) (p : Option Addr) (c : Int) (c0 : 0 ≤ c) (c1 : c ≤ 900000000) (w : World) (hT : TabAt w) (hp : Up p c w) :
    Calls Tryz.prog 83 #[.pointer p, .agg #[.int .i64 (t3 v), .int .u64 (m3 v), .int .u64 (lo v)], .int .i64 32] w fun e w' => e = .returned (.int .i64 (clv (rr v 32))) ∧ Ux p (c + bi (ovv (rr v 32))) w w' :=
  ux_calls (ags := #[.agg #[.int .i64 (t3 v), .int .u64 (m3 v), .int .u64 (lo v)], .int .i64 32]) hp (fun _ => uNear_nil v h0 h1 w hT) (fun d _ hc => uNear_un v h0 h1 d c c0 (by omega) w hT hc.1 hc.2)
set_option maxHeartbeats 1000000 in
theorem uNear33_nil (v : Int) (h0 : -3138550867693340381917894711603833208051177722232017256448 ≤ v) (h1 : v ≤ 3138550867693340381917894711603833208051177722232017256447) (w : World) (hT : TabAt w) :
    Calls Tryz.prog 83 #[.pointer none, .agg #[.int .i64 (t3 v), .int .u64 (m3 v), .int .u64 (lo v)], .int .i64 33] w fun e w' => e = .returned (.int .i64 (clv (rnd v 33))) ∧ Below w.heap.size w w' := by
  have P : Hid (∀ W : World, TabAt W → Calls Tryz.prog 105 #[.agg #[.int .i64 (t3 v), .int .u64 (m3 v), .int .u64 (lo v)], .int .i64 33] W fun e w' => e = .returned (.tuple #[.int .i64 (clv (rnd v 33)), .bool (ovv (rnd v 33))]) ∧ Below W.heap.size W w') := by
    intro W hT
    have h := near_mid v 33 33 rfl (by omega) (by omega) (by omega) W hT
    rw [rl_pos v 33 (by omega)] at h
    exact h
  obtain ⟨k0, k1⟩ := clv_fit (rnd v 33)
  have HT : Hid (TabAt (w.alloc (.cells #[.int .i64 (t3 v), .int .u64 (m3 v), .int .u64 (lo v)] 150))) := hT.later (bel1 w _)
  clear hT
  go_enter Tryz.func83, Tryz.ntmps83
  go_wp2_with fail
  refine (P.out _ HT.out).mono ?_
  rintro e w1 ⟨rfl, hb⟩
  have W1 := bchain (bel1 w _) hb
  clear P HT hb
  go_wp2_with fail
  refine (take_nil _ _ _).mono ?_
  rintro e wz ⟨rfl, hz⟩
  subst hz
  go_wp2
  go_ret
  exact ⟨rfl, W1⟩
set_option maxHeartbeats 1000000 in
theorem uNear33_un (v : Int) (h0 : -3138550867693340381917894711603833208051177722232017256448 ≤ v) (h1 : v ≤ 3138550867693340381917894711603833208051177722232017256447) (d : Nat) (n : Int) (n0 : 0 ≤ n) (n1 : n ≤ 1000000000) (w : World) (hT : TabAt w) (c : w.cell? ⟨d, 0, none⟩ = some (.int .i64 n)) (f : w.frozen? ⟨d, 0, none⟩ = false) :
    Calls Tryz.prog 83 #[.pointer (some ⟨d, 0, none⟩), .agg #[.int .i64 (t3 v), .int .u64 (m3 v), .int .u64 (lo v)], .int .i64 33] w fun e w' => e = .returned (.int .i64 (clv (rnd v 33))) ∧ Un d (n + bi (ovv (rnd v 33))) w w' := by
  have P : Hid (∀ W : World, TabAt W → Calls Tryz.prog 105 #[.agg #[.int .i64 (t3 v), .int .u64 (m3 v), .int .u64 (lo v)], .int .i64 33] W fun e w' => e = .returned (.tuple #[.int .i64 (clv (rnd v 33)), .bool (ovv (rnd v 33))]) ∧ Below W.heap.size W w') := by
    intro W hT
    have h := near_mid v 33 33 rfl (by omega) (by omega) (by omega) W hT
    rw [rl_pos v 33 (by omega)] at h
    exact h
  obtain ⟨k0, k1⟩ := clv_fit (rnd v 33)
  have HT : Hid (TabAt (w.alloc (.cells #[.int .i64 (t3 v), .int .u64 (m3 v), .int .u64 (lo v)] 150))) := hT.later (bel1 w _)
  clear hT
  go_enter Tryz.func83, Tryz.ntmps83
  go_wp2_with fail
  refine (P.out _ HT.out).mono ?_
  rintro e w1 ⟨rfl, hb⟩
  have W1 := bchain (bel1 w _) hb
  clear P HT hb
  have c1 := cell_later W1 c
  have f1 := frozen_later W1 c f
  go_wp2_with fail
  refine (take_un d n _ _ n0 n1 _ c1 f1).mono ?_
  rintro e w2 ⟨rfl, hU⟩
  have hV := Un.after W1 hU
  clear hU W1 c1 f1 c f
  go_wp2
  go_ret
  exact ⟨rfl, hV⟩
theorem near33_ux (v : Int) (h0 : -3138550867693340381917894711603833208051177722232017256448 ≤ v) (h1 : v ≤ 3138550867693340381917894711603833208051177722232017256447) (p : Option Addr) (c : Int) (c0 : 0 ≤ c) (c1 : c ≤ 900000000) (w : World) (hT : TabAt w) (hp : Up p c w) :
    Calls Tryz.prog 83 #[.pointer p, .agg #[.int .i64 (t3 v), .int .u64 (m3 v), .int .u64 (lo v)], .int .i64 33] w fun e w' => e = .returned (.int .i64 (clv (rr v 33))) ∧ Ux p (c + bi (ovv (rr v 33))) w w' :=
  ux_calls (ags := #[.agg #[.int .i64 (t3 v), .int .u64 (m3 v), .int .u64 (lo v)], .int .i64 33]) hp (fun _ => uNear33_nil v h0 h1 w hT) (fun d _ hc => uNear33_un v h0 h1 d c c0 (by omega) w hT hc.1 hc.2)
theorem dot_ux (va vb : Value) (n : Nat) (f g : Nat → Int) (hn : n ≤ 65536) (p : Option Addr) (c : Int) (c0 : 0 ≤ c) (c1 : c ≤ 800000000) (w : World) (hT : TabAt w) (hA : Ar w va n f) (hB : Ar w vb n g) (ha : Nv va p) (hb : Nv vb p) (hp : Up p c w) :
    Calls Tryz.prog 59 #[.pointer p, va, vb] w fun e w' => e = .returned (.tuple #[.int .i64 (clv (rr (dotV f g n) 32)), .int .i64 0]) ∧ Ux p (c + bi (ovv (rr (dotV f g n) 32))) w w' := by
  have e0 : dE n n = 0 := by unfold dE; rw [if_neg (by omega), if_pos rfl]
  have e1 : dX n n f g = clv (rr (dotV f g n) 32) := by unfold dX; rw [if_pos e0]
  have e2 : dO n n f g = ovv (rr (dotV f g n) 32) := by unfold dO; rw [if_pos e0]
  rw [← e1, ← e2, ← e0]
  exact ux_calls (ags := #[va, vb]) hp (fun _ => Dot_nil va vb n n f g w (by omega) (by omega) hT hA hB) (fun d e hc => Dot_un va vb n n f g d c w (by omega) (by omega) c0 (by omega) hT hA hB (ha d e) (hb d e) hc)
theorem sum_ux (va : Value) (n : Nat) (f : Nat → Int) (hn : n ≤ 65536) (p : Option Addr) (c : Int) (c0 : 0 ≤ c) (c1 : c ≤ 800000000) (w : World) (hT : TabAt w) (hA : Ar w va n f) (ha : Nv va p) (hp : Up p c w) :
    Calls Tryz.prog 171 #[.pointer p, va] w fun e w' => e = .returned (.tuple #[.int .i64 (clv (sumV f n)), .int .i64 0]) ∧ Ux p (c + bi (ovv (sumV f n))) w w' := by
  have e0 : sE n = 0 := by unfold sE; rw [if_neg (by omega)]
  have e1 : sX n f = clv (sumV f n) := by unfold sX; rw [if_pos e0]
  have e2 : sO n f = ovv (sumV f n) := by unfold sO; rw [if_pos e0]
  rw [← e1, ← e2, ← e0]
  exact ux_calls (ags := #[va]) hp (fun _ => Sum_nil va n f w (by omega) hT hA) (fun d e hc => Sum_un va n f d c w (by omega) c0 (by omega) hT hA (ha d e) hc)
theorem mean_ux (va : Value) (n : Nat) (f : Nat → Int) (hn : n ≤ 65536) (hn1 : 1 ≤ n) (p : Option Addr) (c : Int) (c0 : 0 ≤ c) (c1 : c ≤ 800000000) (w : World) (hT : TabAt w) (hA : Ar w va n f) (ha : Nv va p) (hp : Up p c w) :
    Calls Tryz.prog 20 #[.pointer p, va] w fun e w' => e = .returned (.tuple #[.int .i64 (clv (quo (sumV f n) (n : Int))), .int .i64 0]) ∧ Ux p (c + bi (ovv (quo (sumV f n) (n : Int)))) w w' := by
  have e0 : mE n = 0 := by unfold mE; rw [if_neg (by omega), if_neg (by omega)]
  have e1 : mX n f = clv (quo (sumV f n) (n : Int)) := by unfold mX; rw [if_pos e0]
  have e2 : mO n f = ovv (quo (sumV f n) (n : Int)) := by unfold mO; rw [if_pos e0]
  rw [← e1, ← e2, ← e0]
  exact ux_calls (ags := #[va]) hp (fun _ => Mean_nil va n f w (by omega) hT hA) (fun d e hc => Mean_un va n f d c w (by omega) c0 (by omega) hT hA (ha d e) hc)
theorem vsub_ux (va vb : Value) (n : Nat) (f g : Nat → Int) (hn : n ≤ 65536) (p : Option Addr) (c : Int) (c0 : 0 ≤ c) (c1 : c ≤ 800000000) (w : World) (hA : Ar w va n f) (hB : Ar w vb n g) (ha : Nv va p) (hb : Nv vb p) (hp : Up p c w) :
    Calls Tryz.prog 162 #[.pointer p, va, vb] w fun e w' => (∃ v', e = .returned (.tuple #[v', .int .i64 0]) ∧ LL w w' v' n (fun i => clv (f i - g i)) 0) ∧ Ux p (c + cntV (fun i => ovv (f i - g i)) n) w w' := by
  have e0 : dE n n = 0 := by unfold dE; rw [if_neg (by omega), if_pos rfl]
  have e1 : cE (dE n n) (cntV (fun i => ovv (f i - g i)) n) = cntV (fun i => ovv (f i - g i)) n := by rw [e0]; rfl
  rw [← e1, ← e0]
  refine ux_calls (ags := #[va, vb]) hp (fun _ => (Sub_nil va vb n n f g w (by omega) (by omega) hA hB).mono ?_) (fun d e hc => (Sub_un va vb n n f g d c w (by omega) (by omega) c0 c1 hA hB (ha d e) (hb d e) hc).mono ?_)
  · rintro e w' ⟨v', h1, h2, h3⟩; exact ⟨⟨v', h1, h2⟩, h3⟩
  · rintro e w' ⟨v', h1, h2, h3⟩; exact ⟨⟨v', h1, h2⟩, h3⟩
theorem outer_ux (va vb : Value) (n m : Nat) (f g : Nat → Int) (hn : n ≤ 64) (hm : m ≤ 64) (hn1 : 1 ≤ n) (hm1 : 1 ≤ m) (p : Option Addr) (c : Int) (c0 : 0 ≤ c) (c1 : c ≤ 800000000) (w : World) (hA : Ar w va n f) (hB : Ar w vb m g) (ha : Nv va p) (hb : Nv vb p) (hp : Up p c w) :
    Calls Tryz.prog 58 #[.pointer p, va, vb] w fun e w' => (∃ v', e = .returned (.tuple #[.agg #[.int .i64 (n : Int), .int .i64 (m : Int), v'], .int .i64 0]) ∧ LL w w' v' (n * m) (otX f g m) 0) ∧ Ux p (c + otN f g m n) w w' := by
  have hnm : n * m ≤ 64 * 64 := Nat.mul_le_mul hn hm
  have e0 : oE n m = 0 := by unfold oE; rw [if_neg (by omega), if_neg (by omega), if_neg (by omega)]
  have e1 : cE (oE n m) (otN f g m n) = otN f g m n := by rw [e0]; rfl
  rw [← e1]
  refine ux_calls (ags := #[va, vb]) hp (fun _ => (Outer_nil va vb n m f g w (by omega) (by omega) hA hB).mono ?_) (fun d e hc => (Outer_un va vb n m f g d c w (by omega) (by omega) c0 c1 hA hB (ha d e) (hb d e) hc).mono ?_)
  · rintro e w' ⟨r, k, v', h1, hr, hk, h2, h3⟩
    rw [e0] at h1 h2 hr hk
    refine ⟨⟨v', ?_, h2⟩, h3⟩
    rw [h1, hr, hk]
    rfl
  · rintro e w' ⟨r, k, v', h1, hr, hk, h2, h3⟩
    have h1' := h1
    rw [e0] at h1' h2 hr hk
    refine ⟨⟨v', ?_, h2⟩, h3⟩
    rw [h1', hr, hk]
    rfl
end Go.Proofs.YtcaficenocblfaaGreatDoor
set_option linter.unusedVariables false
set_option linter.unusedSimpArgs false
namespace Go.Proofs.YtcaficenocblfaaGreatDoor
open Go.RowKit

set_option maxHeartbeats 1000000 in
theorem means2_ux (f : Nat → Int) (K cap : Nat) (adr : Option Addr) (hK : 1 ≤ K) (hK2 : K ≤ 1000) (hf' : ∀ k, k < K → -9223372036854775808 ≤ f k ∧ f k ≤ 9223372036854775807) (bu bx : Nat) (p : Option Addr) (c : Int) (c0 : 0 ≤ c) (c1 : c ≤ 900000000) (w : World) (hp : Up p c w) (cu : w.cell? ⟨bu, 0, none⟩ = some (.pointer p)) (cx : w.cell? ⟨bx, 0, none⟩ = some (.slice adr K cap)) :
    Calls Tryz.prog 39 #[.agg #[.int .i64 (hi (sumV f K)), .int .u64 (lo (sumV f K))], .pointer (some ⟨bu, 0, none⟩), .pointer (some ⟨bx, 0, none⟩)] w fun e w' => e = .returned (.int .i64 (clv (quo (sumV f K) (K : Int)))) ∧ Ux p (c + bi (ovv (quo (sumV f K) (K : Int)))) w w' := by
  obtain ⟨g0, g1⟩ := sumV_bnd f K hf'
  obtain ⟨u0, u1⟩ := quo_in (sumV f K) (K : Int) (by omega) ((K : Int) * 9223372036854775808) (by omega) g0 g1
  have CD : Hid (∀ W : World, Up p c W → Calls Tryz.prog 40 #[.pointer p, .agg #[.int .i64 (hi (sumV f K)), .int .u64 (lo (sumV f K))], .int .i64 (K : Int)] W fun e w' => e = .returned (.int .i64 (clv (quo (sumV f K) (K : Int)))) ∧ Ux p (c + bi (ovv (quo (sumV f K) (K : Int)))) W w') := fun W hq => ux_calls (ags := #[.agg #[.int .i64 (hi (sumV f K)), .int .u64 (lo (sumV f K))], .int .i64 (K : Int)]) hq (fun _ => vmean_nil (sumV f K) (K : Int) (by omega) (by omega) (by omega) (by omega) (by omega) (by omega) W) (fun d _ hc => vmean_un (sumV f K) (K : Int) (by omega) (by omega) (by omega) (by omega) (by omega) (by omega) d c c0 (by omega) W hc.1 hc.2)
  clear g0 g1 u0 u1 hf'
  obtain ⟨z0, z1⟩ := clv_fit (quo (sumV f K) (K : Int))
  generalize clv (quo (sumV f K) (K : Int)) = x at *
  generalize bi (ovv (quo (sumV f K) (K : Int))) = z at *
  generalize hi (sumV f K) = sh at *
  generalize lo (sumV f K) = sl at *
  have hb0 := bel1 w (.cells #[.int .i64 sh, .int .u64 sl] 99)
  have A0 := B2.new w (.int .i64 sh) (.int .u64 sl) 99
  have HpL : Hid (Up p c (w.alloc (.cells #[.int .i64 sh, .int .u64 sl] 99))) := hp.later hb0
  have HpX : Hid (Ux p c w (w.alloc (.cells #[.int .i64 sh, .int .u64 sl] 99))) := hp.ux hb0
  have cuL := cell_later hb0 cu
  have cxL := cell_later hb0 cx
  clear hp cu cx
  go_enter Tryz.func39, Tryz.ntmps39
  go_upto_region 1 with fail
  generalize w.alloc (.cells #[.int .i64 sh, .int .u64 sl] 99) = w1 at *
  have a0 := A0.c0
  have a1 := A0.c1
  clear A0
  go_wp2_with fail
  refine (CD.out _ HpL.out).mono ?_
  rintro e w2 ⟨rfl, hU⟩
  have hX := HpX.out.chain hU
  clear hU CD HpL HpX cuL cxL a0 a1 hb0
  go_wp2
  go_ret
  exact ⟨rfl, hX⟩
theorem Vs.hs {w : World} {g o K cap n : Nat} {fs : Nat → Nat → Int} (h : Vs w g o K n fs) (hn : n ≤ 65536) (h1 : K ≤ cap) (h2 : cap ≤ maxLen) : Hs w (.slice (some ⟨g, o, none⟩) K cap) K (fun _ => n) :=
  ⟨_, _, g, o, rfl, h1, h2, fun _ => rfl, fun k hk => ⟨(by show n ≤ maxLen; unfold maxLen; omega), by obtain ⟨ad, ca, h3, -⟩ := h.c k hk; exact ⟨ad, ca, h3⟩⟩⟩
theorem Vs.rng {w : World} {g o K n : Nat} {fs : Nat → Nat → Int} (h : Vs w g o K n fs) (i : Nat) (hi : i < n) (k : Nat) (hk : k < K) : -9223372036854775808 ≤ fs k i ∧ fs k i ≤ 9223372036854775807 := by
  obtain ⟨ad, ca, -, hA⟩ := h.c k hk
  obtain ⟨_, _, _, _, h3⟩ := hA.at i hi
  exact h3
set_option maxHeartbeats 4000000 in
theorem Means_ux (g o cap K n : Nat) (fs : Nat → Nat → Int) (hK : 1 ≤ K) (hK2 : K ≤ 64) (hn : n ≤ 65536) (hcap : K ≤ cap) (hcap2 : cap ≤ maxLen) (p : Option Addr) (c : Int) (c0 : 0 ≤ c) (c1 : c ≤ 800000000) (w : World) (hL : Vs w g o K n fs) (hp : Up p c w) :
    Calls Tryz.prog 19 #[.pointer p, .slice (some ⟨g, o, none⟩) K cap] w fun e w' => ∃ g', e = .returned (.tuple #[.slice (some ⟨g', 0, none⟩) n n, .int .i64 0]) ∧ Ar w' (.slice (some ⟨g', 0, none⟩) n n) n (msX fs K) ∧ w.heap.size ≤ g' ∧ Ux p (c + cntV (msO fs K) n) w w' := by
  have hb0 := bel2 w (.cells #[.pointer p] 28) (.cells #[.slice (some ⟨g, o, none⟩) K cap] 60)
  have cx : ((w.alloc (.cells #[.pointer p] 28)).alloc (.cells #[.slice (some ⟨g, o, none⟩) K cap] 60)).cell? ⟨w.heap.size + 1, 0, none⟩ = some (.slice (some ⟨g, o, none⟩) K cap) := by have h := cell_new1 (w.alloc (.cells #[.pointer p] 28)) (.slice (some ⟨g, o, none⟩) K cap) 60; rw [World.size_alloc] at h; exact h
  have cu : ((w.alloc (.cells #[.pointer p] 28)).alloc (.cells #[.slice (some ⟨g, o, none⟩) K cap] 60)).cell? ⟨w.heap.size, 0, none⟩ = some (.pointer p) := cell_later (bel1 _ _) (cell_new1 w _ _)
  have hsz : ((w.alloc (.cells #[.pointer p] 28)).alloc (.cells #[.slice (some ⟨g, o, none⟩) K cap] 60)).heap.size = w.heap.size + 2 := by simp
  have HL2 : Hid (Vs ((w.alloc (.cells #[.pointer p] 28)).alloc (.cells #[.slice (some ⟨g, o, none⟩) K cap] 60)) g o K n fs) := hL.later hb0
  have Hp : Hid (Up p c w) := hp
  have HB0 : Hid (Below w.heap.size w ((w.alloc (.cells #[.pointer p] 28)).alloc (.cells #[.slice (some ⟨g, o, none⟩) K cap] 60))) := hb0
  have hH := hL.hs hn hcap hcap2
  have CA : Hid (∀ W : World, Below w.heap.size w W → Calls Tryz.prog 33 #[.slice (some ⟨g, o, none⟩) K cap] W fun e w' => e = .returned (.bool true) ∧ Below W.heap.size W w') := fun W hb => by
    have h := alike_any _ K (fun _ => n) W (hH.later hb)
    rw [unlB_no (fun _ => n) K (fun _ _ => rfl)] at h
    exact h
  have CK : Hid (∀ W : World, Below w.heap.size w W → Calls Tryz.prog 32 #[.bool true, .slice (some ⟨g, o, none⟩) K cap] W fun e w' => e = .returned (.int .i64 0) ∧ w' = W) := fun W hb => by
    have h := check_any true _ K (fun _ => n) W (hH.later hb)
    rw [show ckE true (fun _ => n) K = 0 by unfold ckE; rw [if_neg (by rw [longB_no (fun _ => n) K (fun _ _ => by omega)]; decide), if_pos rfl]] at h
    exact h
  clear hb0 hp hL hH
  unfold maxLen at hcap2
  have hKI : (0 : Int) < (K : Int) := by omega
  have hKJ : ¬ (64 : Int) < (K : Int) := by omega
  go_enter Tryz.func19, Tryz.ntmps19
  go_upto_region 3 with fail
  generalize (w.alloc (.cells #[.pointer p] 28)).alloc (.cells #[.slice (some ⟨g, o, none⟩) K cap] 60) = w2 at *
  have HB0w : Hid (∀ W : World, Below w2.heap.size w2 W → Below w.heap.size w W) := fun W hb => bchain HB0.out hb
  go_cut [6] (fun s6 wc => s6 = .int .i64 0 ∧ Hid (Below w2.heap.size w2 wc))
  case first =>
    have hd1 : Below w2.heap.size w2 w2.drew := (Below.refl _ _).drew
    have A := cell_later hd1 cx
    have CW : Hid (Below w2.heap.size w2 w2.drew) := hd1
    clear hd1 cu cx
    go_region_with
      (first
        | (go_at_call 33; refine (CA.out _ (HB0w.out _ CW.out)).mono ?_; rintro e wz ⟨rfl, hb⟩; replace A := cell_later hb A; replace CW := hidD CW hb; clear hb)
        | (go_at_call 32; refine (CK.out _ (HB0w.out _ CW.out)).mono ?_; rintro e wy ⟨rfl, hz⟩; subst hz))
    all_goals (go_wp2_with fail; go_meet; exact ⟨rfl, CW⟩)
  case rest =>
    obtain ⟨rfl, CW⟩ := hcut
    have cxC := cell_later CW.out cx
    obtain ⟨ad0, ca0, c00, hA0⟩ := (HL2.out.later CW.out).c 0 (by omega)
    rw [Nat.add_zero] at c00
    clear hA0 cx
    have hmk := make_wd n (by omega)
    have hb4 := bel1 wc (.cells (madeCells #[.int .i64 0, .int .u64 0] (n * 2)) 99)
    have HZ : Hid (Wd wc.heap.size n (fun _ => 0) (wc.alloc (.cells (madeCells #[.int .i64 0, .int .u64 0] (n * 2)) 99))) := Wd.made wc n 99
    have HB4 : Hid (Below w2.heap.size w2 (wc.alloc (.cells (madeCells #[.int .i64 0, .int .u64 0] (n * 2)) 99))) := bchain CW.out hb4
    have cx4 := cell_later hb4 cxC
    go_upto_region 7 with fail
    generalize wc.alloc (.cells (madeCells #[.int .i64 0, .int .u64 0] (n * 2)) 99) = w4 at *
    clear hmk hb4 cxC c00
    have CG : Hid (Calls Tryz.prog 34 #[.slice (some ⟨g, o, none⟩) K cap, .slice (some ⟨wc.heap.size, 0, none⟩) n n, .func (.func 35) #[] #[]] w4 fun e w' => ∃ b', e = .returned (.slice (some ⟨b', 0, none⟩) n n) ∧ Wd b' n (fun i => sumV (fun k => fs k i) K) w' ∧ (b' = wc.heap.size ∨ w4.heap.size ≤ b') ∧ Below w4.heap.size w4 w') := gather_wide g o cap K wc.heap.size n fs (by omega) hcap (by unfold maxLen; omega) w4 (HL2.out.later HB4.out) HZ.out
    go_wp2_with fail
    refine CG.out.mono ?_
    rintro e w5 ⟨b', rfl, hD, hb', hb5⟩
    have hsC : w2.heap.size ≤ wc.heap.size := CW.out.size
    have hs4 : w2.heap.size ≤ w4.heap.size := HB4.out.size
    have HB5 : Hid (Below w2.heap.size w2 w5) := bchain HB4.out hb5
    have hs5 : w2.heap.size ≤ w5.heap.size := HB5.out.size
    have CE : Hid (Calls Tryz.prog 38 #[.slice (some ⟨b', 0, none⟩) n n, .func (.func 39) #[] #[.pointer (some ⟨w.heap.size, 0, none⟩), .pointer (some ⟨w.heap.size + 1, 0, none⟩)]] w5 fun e w' => e = .returned (.slice (some ⟨w5.heap.size, 0, none⟩) n n) ∧ Ar w' (.slice (some ⟨w5.heap.size, 0, none⟩) n n) n (msX fs K) ∧ Ux p (c + cntV (msO fs K) n) w w') := by
      have hp5 : Up p c w5 := Hp.out.later (bchain HB0.out HB5.out)
      have cu5 := cell_later HB5.out cu
      have cx5 := cell_later hb5 cx4
      have hne : Nu b' p := Hp.out.lt (by omega)
      have HDk : ∀ (q : Int) (W : World), Ux p q w5 W → Wd b' n (fun i => sumV (fun k => fs k i) K) W := fun q W h => by
        rcases Nat.eq_zero_or_pos n with h0 | h0
        · exact ⟨fun k hk => by omega, fun k hk => by omega, fun k hk => by omega, fun k hk => by omega⟩
        · exact hD.block (h.blk (World.block_lt_of_cell? _ _ (hD.c0 0 h0)) hne)
      have h := each_means (.pointer (some ⟨w.heap.size, 0, none⟩)) (.pointer (some ⟨w.heap.size + 1, 0, none⟩)) (fun j W => Ux p (c + cntV (msO fs K) j) w5 W) b' n (fun i => sumV (fun k => fs k i) K) (msX fs K) w5 (by omega) (by simpa [cntV] using hp5.same) (fun j W W' h hb => h.later hb) (fun j W a x hx h => h.far x hx) (fun j W h => HDk _ W h) (fun j _ => clv_fit _) (fun j W hj hW h => by
        have r' := cnt_rng (msO fs K) j
        refine (means2_ux (fun k => fs k j) K cap (some ⟨g, o, none⟩) hK (by omega) (fun k hk => HL2.out.rng j hj k hk) w.heap.size (w.heap.size + 1) p _ (by omega) (by omega) W h.up (h.cell (Hp.out.lt (Nat.le_refl _)) cu5) (h.cell (Hp.out.lt (Nat.le_succ _)) cx5)).mono ?_
        rintro e w' ⟨rfl, hU⟩
        refine ⟨rfl, ?_, hU.blk hW (Hp.out.lt (by omega)), hU.size⟩
        have e1 : c + cntV (msO fs K) (j + 1) = c + cntV (msO fs K) j + bi (ovv (quo (sumV (fun k => fs k j) K) (K : Int))) := by rw [Int.add_assoc]; rfl
        show Ux p (c + cntV (msO fs K) (j + 1)) _ w'
        rw [e1]
        exact h.chain hU)
      refine h.mono ?_
      rintro e w' ⟨rfl, hS, hX'⟩
      exact ⟨rfl, hX', (Hp.out.ux (bchain HB0.out HB5.out)).chain hS⟩
    clear CG hD hb' hb5 CW cu cx4 Hp HL2 HZ HB4 HB5
    go_wp2_with fail
    refine CE.out.mono ?_
    rintro e w6 ⟨rfl, hX, hU⟩
    have HX : Hid (Ar w6 (.slice (some ⟨w5.heap.size, 0, none⟩) n n) n (msX fs K)) := hX
    have HU : Hid (Ux p (c + cntV (msO fs K) n) w w6) := hU
    clear CE hX hU
    go_wp2
    go_ret2
    exact ⟨_, rfl, HX.out, by omega, HU.out⟩
end Go.Proofs.YtcaficenocblfaaGreatDoor
set_option linter.unusedVariables false
set_option linter.unusedSimpArgs false
namespace Go.Proofs.YtcaficenocblfaaGreatDoor
open Go.RowKit
structure B4 (b : Nat) (x y u v : Value) (w : World) : Prop where
  c0 : w.cell? ⟨b, 0, none⟩ = some x
  c1 : w.cell? ⟨b, 1, none⟩ = some y
  c2 : w.cell? ⟨b, 2, none⟩ = some u
  c3 : w.cell? ⟨b, 3, none⟩ = some v
theorem B4.new (w : World) (x y u v : Value) (t : TypeId) : B4 w.heap.size x y u v (w.alloc (.cells #[x, y, u, v] t)) := ⟨by simp [go_sem], by simp [go_sem], by simp [go_sem], by simp [go_sem]⟩
theorem B4.later {b : Nat} {x y u v : Value} {w w' : World} (h : B4 b x y u v w) (hb : Below w.heap.size w w') : B4 b x y u v w' := ⟨cell_later hb h.c0, cell_later hb h.c1, cell_later hb h.c2, cell_later hb h.c3⟩
theorem B4.ux {b : Nat} {x y u v : Value} {w w' : World} {p : Option Addr} {c : Int} (h : B4 b x y u v w) (hn : Nu b p) (hU : Ux p c w w') : B4 b x y u v w' := ⟨hU.cell hn h.c0, hU.cell hn h.c1, hU.cell hn h.c2, hU.cell hn h.c3⟩
theorem B4.far {b : Nat} {x y u v : Value} {w : World} {a : Addr} (h : B4 b x y u v w) (q : Value) (hp : a.block ≠ b) : B4 b x y u v (w.setCell a q) := ⟨cell_set hp h.c0, cell_set hp h.c1, cell_set hp h.c2, cell_set hp h.c3⟩
set_option maxHeartbeats 2000000 in
theorem row_any (R C b q k1 u : Nat) (adB : Option Addr) (nB cB : Nat) (hR : R ≤ 64) (hC : C ≤ 64) (hC1 : 1 ≤ C) (hu : u < R) (hk : R * C ≤ k1) (hk2 : k1 ≤ maxLen) (w : World) :
    Calls Tryz.prog 85 #[.agg #[.int .i64 (R : Int), .int .i64 (C : Int), .slice (some ⟨b, q, none⟩) (R * C) k1, .slice adB nB cB], .int .i64 (u : Int)] w fun e w' => e = .returned (.slice (some ⟨b, q + u * C, none⟩) C (k1 - u * C)) ∧ Below w.heap.size w w' := by
  unfold maxLen at hk2
  have HB := B4.new w (.int .i64 (R : Int)) (.int .i64 (C : Int)) (.slice (some ⟨b, q, none⟩) (R * C) k1) (.slice adB nB cB) 87
  have HW : Hid (Below w.heap.size w (w.alloc (.cells #[.int .i64 (R : Int), .int .i64 (C : Int), .slice (some ⟨b, q, none⟩) (R * C) k1, .slice adB nB cB] 87))) := bel1 _ _
  have h1 : (u + 1) * C ≤ R * C := Nat.mul_le_mul_right _ hu
  have h2 : (u + 1) * C = u * C + C := Nat.succ_mul _ _
  have h3 : R * C ≤ 64 * 64 := Nat.mul_le_mul hR hC
  have e1 : (u : Int) * (C : Int) = ((u * C : Nat) : Int) := by rw [Int.natCast_mul]
  have e2 : ((u + 1 : Nat) : Int) * (C : Int) = (((u + 1) * C : Nat) : Int) := by rw [Int.natCast_mul]
  have w0 : IntKind.i64.wrap ((u : Int) + 1) = ((u + 1 : Nat) : Int) := by rw [IntKind.wrap_i64]; omega
  generalize R * C = RC at *
  obtain ⟨lo', hlo⟩ : ∃ x, u * C = x := ⟨_, rfl⟩
  obtain ⟨hi', hhi⟩ : ∃ x, (u + 1) * C = x := ⟨_, rfl⟩
  obtain ⟨u', hu'⟩ : ∃ x, u + 1 = x := ⟨_, rfl⟩
  rw [hlo] at e1 h2 ⊢
  rw [hhi] at e2 h1 h2
  rw [hu'] at e2 w0
  have w1 : IntKind.i64.wrap ((lo' : Nat) : Int) = (lo' : Int) := by rw [IntKind.wrap_i64]; omega
  have w2 : IntKind.i64.wrap ((hi' : Nat) : Int) = (hi' : Int) := by rw [IntKind.wrap_i64]; omega
  have v1 : (lo' : Int) ≤ (hi' : Int) := by omega
  have v2 : (hi' : Int) ≤ (k1 : Int) := by omega
  have v3 : ¬ k1 = lo' := by omega
  have HE : Hid (hi' - lo' = C) := by show _ = _; omega
  have x0 := HB.c0
  have x1 := HB.c1
  have x2 := HB.c2
  have x3 := HB.c3
  clear HB hlo hhi hu' h1 h2 h3
  go_enter Tryz.func85, Tryz.ntmps85
  go_wp2
  go_ret
  exact ⟨by show Ending.returned (Value.slice (some ⟨b, q + lo', none⟩) (hi' - lo') (k1 - lo')) = _; rw [HE.out], HW.out⟩
set_option maxRecDepth 100000 in
set_option maxHeartbeats 4000000 in
theorem column_any (R C b q k1 i : Nat) (f : Nat → Int) (adB : Option Addr) (nB cB : Nat) (hR : R ≤ 64) (hC : C ≤ 64) (hi : i < C) (w : World) (hA : Ar w (.slice (some ⟨b, q, none⟩) (R * C) k1) (R * C) f) :
    Calls Tryz.prog 60 #[.agg #[.int .i64 (R : Int), .int .i64 (C : Int), .slice (some ⟨b, q, none⟩) (R * C) k1, .slice adB nB cB], .int .i64 (i : Int)] w fun e w' => ∃ g, e = .returned (.slice (some ⟨g, 0, none⟩) R R) ∧ Ar w' (.slice (some ⟨g, 0, none⟩) R R) R (fun u => f (u * C + i)) ∧ w.heap.size ≤ g ∧ Below w.heap.size w w' := by
  obtain ⟨adr, cap, bb, oo, e, k2, k3, k4, k5⟩ := hA
  cases e
  have HC : Hid (∀ u, u < R → w.cell? ⟨b, q + u * C + i, none⟩ = some (.int .i64 (f (u * C + i)))) := fun u hu => by
    have h1 : (u + 1) * C ≤ R * C := Nat.mul_le_mul_right _ hu
    rw [Nat.succ_mul] at h1
    have e2 := k4 (by omega)
    cases e2
    rw [Nat.add_assoc]
    exact (k5 (u * C + i) (by omega)).1
  have HF : Hid (∀ u, u < R → -9223372036854775808 ≤ f (u * C + i) ∧ f (u * C + i) ≤ 9223372036854775807) := fun u hu => by
    have h1 : (u + 1) * C ≤ R * C := Nat.mul_le_mul_right _ hu
    rw [Nat.succ_mul] at h1
    exact (k5 (u * C + i) (by omega)).2
  have HRow : Hid (∀ (u : Nat) (W : World), u < R → Calls Tryz.prog 85 #[.agg #[.int .i64 (R : Int), .int .i64 (C : Int), .slice (some ⟨b, q, none⟩) (R * C) k1, .slice adB nB cB], .int .i64 (u : Int)] W fun e w' => e = .returned (.slice (some ⟨b, q + u * C, none⟩) C (k1 - u * C)) ∧ Below W.heap.size W w') := fun u W hu => row_any R C b q k1 u adB nB cB hR hC (by omega) hu k2 k3 W
  obtain ⟨w1, hw1⟩ : ∃ w1, w1 = w.alloc (.cells #[.int .i64 (R : Int), .int .i64 (C : Int), .slice (some ⟨b, q, none⟩) (R * C) k1, .slice adB nB cB] 87) := ⟨_, rfl⟩
  have HB1 : Hid (B4 w.heap.size (.int .i64 (R : Int)) (.int .i64 (C : Int)) (.slice (some ⟨b, q, none⟩) (R * C) k1) (.slice adB nB cB) w1) := by rw [hw1]; exact B4.new w _ _ _ _ _
  have HW1 : Hid (Below w.heap.size w w1) := by rw [hw1]; exact bel1 _ _
  have hs1 : w1.heap.size = w.heap.size + 1 := by rw [hw1, World.size_alloc]
  obtain ⟨w2, hw2⟩ : ∃ w2, w2 = w1.alloc (.cells (madeCells #[.int .i64 0] R) 36) := ⟨_, rfl⟩
  have HB2 : Hid (B4 w.heap.size (.int .i64 (R : Int)) (.int .i64 (C : Int)) (.slice (some ⟨b, q, none⟩) (R * C) k1) (.slice adB nB cB) w2) := by rw [hw2]; exact HB1.out.later (bel1 _ _)
  have HW2 : Hid (Below w.heap.size w w2) := by rw [hw2]; exact bchain HW1.out (bel1 _ _)
  have HR2 : Hid (Rw w1.heap.size R (fun _ => .int .i64 0) w2) := by rw [hw2]; exact Rw.made w1 (.int .i64 0) R 36
  have hmk := make_fx R (by omega)
  have x0 : (w.alloc (.cells #[.int .i64 (R : Int), .int .i64 (C : Int), .slice (some ⟨b, q, none⟩) (R * C) k1, .slice adB nB cB] 87)).cell? ⟨w.heap.size, 0, none⟩ = some (.int .i64 (R : Int)) := (B4.new w _ _ _ _ _).c0
  clear k4 k5
  generalize R * C = RC at *
  go_enter Tryz.func60, Tryz.ntmps60
  go_upto_region 3 with fail
  rw [← hw1, ← hw2]
  rw [hs1] at HR2
  clear hw1 hw2 hmk x0 HB1 HW1 hs1
  go_loopw [13] (fun si wr => ∃ j : Nat, j ≤ R ∧ si = .int .i64 (j : Int) ∧ Hid (Rw (w.heap.size + 1) R (fun k => if k < j then .int .i64 (f (k * C + i)) else .int .i64 0) wr) ∧ Hid (B4 w.heap.size (.int .i64 (R : Int)) (.int .i64 (C : Int)) (.slice (some ⟨b, q, none⟩) RC k1) (.slice adB nB cB) wr) ∧ Hid (Below w.heap.size w wr)) (fun si _ => R - (intOf si).toNat)
  case atStart => exact ⟨0, by omega, rfl, HR2.out.congr (fun k hk => by simp), HB2, HW2⟩
  case round =>
    obtain ⟨j, hj, rfl, HR, HB, HW⟩ := hrel
    by_cases hlt : j < R
    · have hjI : (j : Int) < (R : Int) := by omega
      have hiI : (i : Int) < (C : Int) := by omega
      have CR := HRow.out j wr hlt
      have x0 := HB.out.c0
      have x1 := HB.out.c1
      have x2 := HB.out.c2
      have x3 := HB.out.c3
      go_wp2_with (go_at_call 85; refine CR.mono ?_; rintro e wz ⟨rfl, hb⟩; have HRz : Hid (Rw (w.heap.size + 1) R (fun k => if k < j then .int .i64 (f (k * C + i)) else .int .i64 0) wz) := HR.out.later hb; have HBz : Hid (B4 w.heap.size (.int .i64 (R : Int)) (.int .i64 (C : Int)) (.slice (some ⟨b, q, none⟩) RC k1) (.slice adB nB cB) wz) := HB.out.later hb; have HWz : Hid (Below w.heap.size w wz) := bchain HW.out hb; clear x0 x1 x2 x3 CR hb HR HB HW; have cz : wz.cell? ⟨b, q + j * C + i, none⟩ = some (.int .i64 (f (j * C + i))) := cell_later HWz.out (HC.out j hlt); have rz : wz.cell? ⟨w.heap.size + 1, j, none⟩ = some (.int .i64 0) := (by have := HRz.out.c j hlt; rw [if_neg (by omega)] at this; exact this); have fz := HRz.out.f j hlt)
      have HR3 : Hid (Rw (w.heap.size + 1) R (fun k => if k < j + 1 then .int .i64 (f (k * C + i)) else .int .i64 0) (wz.setCell ⟨w.heap.size + 1, j, none⟩ (.int .i64 (f (j * C + i))))) := (HRz.out.set j (.int .i64 (f (j * C + i)))).congr (fun k hk => by
        by_cases e : k = j
        · subst e; simp
        · rw [if_neg e]
          by_cases e2 : k < j
          · rw [if_pos e2, if_pos (by omega)]
          · rw [if_neg e2, if_neg (by omega)])
      have HB3 : Hid (B4 w.heap.size (.int .i64 (R : Int)) (.int .i64 (C : Int)) (.slice (some ⟨b, q, none⟩) RC k1) (.slice adB nB cB) (wz.setCell ⟨w.heap.size + 1, j, none⟩ (.int .i64 (f (j * C + i))))) := HBz.out.far _ (by dsimp only; omega)
      have HW3 : Hid (Below w.heap.size w (wz.setCell ⟨w.heap.size + 1, j, none⟩ (.int .i64 (f (j * C + i))))) := HWz.out.setCell (by dsimp only; omega) _
      go_roundw
      case rel => exact ⟨j + 1, by omega, by go_num, HR3, HB3, HW3⟩
      case measure => simp [intOf]; omega
    · obtain rfl : j = R := by omega
      have hjI : ¬ (j : Int) < (j : Int) := by omega
      have hAr : Hid (Ar wr (.slice (some ⟨w.heap.size + 1, 0, none⟩) j j) j (fun u => f (u * C + i))) := (HR.out.congr (fun k hk => by rw [if_pos hk])).ar (by omega) HF.out
      clear HR
      go_wp2
      go_ret
      exact ⟨_, rfl, hAr.out, by omega, HW.out⟩
def raisV (v : Int) : Int := if v < 0 then 0 else v
set_option maxRecDepth 100000 in
set_option maxHeartbeats 4000000 in
theorem raise_any (g n : Nat) (F : Nat → Int) (hn : n ≤ 64) (w : World) (hR : Rw g n (fun k => .int .i64 (F k)) w) (p : Option Addr) (c : Int) (w0 : World) (hU : Ux p c w0 w) (hg : w0.heap.size ≤ g) :
    Calls Tryz.prog 57 #[.slice (some ⟨g, 0, none⟩) n n] w fun e w' => e = .returned (.tuple #[]) ∧ Rw g n (fun k => .int .i64 (raisV (F k))) w' ∧ Ux p c w0 w' ∧ (∀ i, i ≠ g → w'.heap[i]? = w.heap[i]?) ∧ w'.heap.size = w.heap.size := by
  have HR0 : Hid (Rw g n (fun k => .int .i64 (F k)) w) := hR
  have HU0 : Hid (Ux p c w0 w) := hU
  clear hR hU
  go_enter Tryz.func57, Tryz.ntmps57
  go_upto_region 1 with fail
  go_loopw [6] (fun si wr => ∃ j : Nat, j ≤ n ∧ si = .int .i64 (j : Int) ∧ Hid (Rw g n (fun k => if k < j then .int .i64 (raisV (F k)) else .int .i64 (F k)) wr) ∧ Hid (Ux p c w0 wr) ∧ Hid (∀ i, i ≠ g → wr.heap[i]? = w.heap[i]?) ∧ Hid (wr.heap.size = w.heap.size)) (fun si _ => n - (intOf si).toNat)
  case atStart => exact ⟨0, by omega, rfl, HR0.out.congr (fun k hk => by simp), HU0, fun _ _ => rfl, rfl⟩
  case round =>
    obtain ⟨j, hj, rfl, HR, HU, HK, HS⟩ := hrel
    by_cases hlt : j < n
    · have hjI : (j : Int) < (n : Int) := by omega
      have cz : wr.cell? ⟨g, j, none⟩ = some (.int .i64 (F j)) := by have := HR.out.c j hlt; rw [if_neg (by omega)] at this; exact this
      have fz := HR.out.f j hlt
      have hmx : max (F j) 0 = raisV (F j) := by unfold raisV; split <;> omega
      have HR3 : Hid (Rw g n (fun k => if k < j + 1 then .int .i64 (raisV (F k)) else .int .i64 (F k)) (wr.setCell ⟨g, j, none⟩ (.int .i64 (raisV (F j))))) := (HR.out.set j (.int .i64 (raisV (F j)))).congr (fun k hk => by
        by_cases e : k = j
        · subst e; simp
        · rw [if_neg e]
          by_cases e2 : k < j
          · rw [if_pos e2, if_pos (by omega)]
          · rw [if_neg e2, if_neg (by omega)])
      have HU3 : Hid (Ux p c w0 (wr.setCell ⟨g, j, none⟩ (.int .i64 (raisV (F j))))) := HU.out.far _ hg
      have HK3 : Hid (∀ i, i ≠ g → (wr.setCell ⟨g, j, none⟩ (.int .i64 (raisV (F j)))).heap[i]? = w.heap[i]?) := fun i hi => (Below.heap_setCell _ _ _ _ (fun e => hi e)).trans (HK.out i hi)
      have HS3 : Hid ((wr.setCell ⟨g, j, none⟩ (.int .i64 (raisV (F j)))).heap.size = w.heap.size) := by show _ = _; rw [World.size_setCell]; exact HS.out
      generalize raisV (F j) = rv at *
      clear HR HU HK HS
      by_cases h0 : F j < 0
      · have h0' : rv = 0 := by omega
        subst h0'
        go_wp2
        go_roundw
        case rel => exact ⟨j + 1, by omega, by go_num, HR3, HU3, HK3, HS3⟩
        case measure => simp [intOf]; omega
      · have h0' : rv = F j := by omega
        subst h0'
        go_wp2
        go_roundw
        case rel => exact ⟨j + 1, by omega, by go_num, HR3, HU3, HK3, HS3⟩
        case measure => simp [intOf]; omega
    · obtain rfl : j = n := by omega
      have hjI : ¬ (j : Int) < (j : Int) := by omega
      go_wp2
      go_end0
      exact ⟨rfl, HR.out.congr (fun k hk => by rw [if_pos hk]), HU.out, HK.out, HS.out⟩
end Go.Proofs.YtcaficenocblfaaGreatDoor
set_option linter.unusedVariables false
set_option linter.unusedSimpArgs false
namespace Go.Proofs.YtcaficenocblfaaGreatDoor
open Go.RowKit

set_option maxRecDepth 100000 in
set_option maxHeartbeats 4000000 in
theorem wProd_any (q0 : Int) (va vb : Value) (n : Nat) (f g : Nat → Int) (hn : n ≤ 70000) (w : World) (hA : Ar w va n f) (hB : Ar w vb n g) :
    Calls Tryz.prog 84 #[.agg #[.int .i64 (t3 q0), .int .u64 (m3 q0), .int .u64 (lo q0)], va, vb] w fun e w' => e = .returned (.agg #[.int .i64 (t3 (q0 + dotV f g n)), .int .u64 (m3 (q0 + dotV f g n)), .int .u64 (lo (q0 + dotV f g n))]) ∧ Below w.heap.size w w' := by
  obtain ⟨adr, cap, b, o, rfl, k1, k2, k3, k4⟩ := hA
  obtain ⟨adq, caq, bq, oq, rfl, q1, q2, q3, q4⟩ := hB
  unfold maxLen at *
  have HA : Hid (∀ k, k < n → w.cell? ⟨b, o + k, none⟩ = some (.int .i64 (f k)) ∧ -9223372036854775808 ≤ f k ∧ f k ≤ 9223372036854775807) := k4
  have HK : Hid (0 < n → adr = some ⟨b, o, none⟩) := k3
  have HB : Hid (∀ k, k < n → w.cell? ⟨bq, oq + k, none⟩ = some (.int .i64 (g k)) ∧ -9223372036854775808 ≤ g k ∧ g k ≤ 9223372036854775807) := q4
  have HL : Hid (0 < n → adq = some ⟨bq, oq, none⟩) := q3
  clear k3 k4 q3 q4
  go_enter Tryz.func84, Tryz.ntmps84
  go_wp2
  go_loopw [11] (fun si wr => ∃ j : Nat, j ≤ n ∧ si = .int .i64 (j : Int) ∧ B3 w.heap.size (.int .i64 (t3 (q0 + dotV f g j))) (.int .u64 (m3 (q0 + dotV f g j))) (.int .u64 (lo (q0 + dotV f g j))) wr ∧ B3 (w.heap.size + 1) (.int .i64 0) (.int .u64 0) (.int .u64 0) wr ∧ Below w.heap.size w wr) (fun si _ => n - (intOf si).toNat)
  case atStart =>
    have R0 := B3.new (w.alloc (.cells #[.int .i64 (t3 q0), .int .u64 (m3 q0), .int .u64 (lo q0)] 150)) (.int .i64 0) (.int .u64 0) (.int .u64 0) 150
    simp only [World.size_alloc] at R0
    have e0 : q0 + dotV f g 0 = q0 := Int.add_zero _
    exact ⟨0, by omega, rfl, by rw [e0]; exact (B3.new w (.int .i64 (t3 q0)) (.int .u64 (m3 q0)) (.int .u64 (lo q0)) 150).later (bel1 _ _), R0, bel2 w _ _⟩
  case round =>
    obtain ⟨j, hj, rfl, hS, hR, hW⟩ := hrel
    by_cases hlt : j < n
    · have hjI : (j : Int) < (n : Int) := by omega
      have ea := HK.out (by omega)
      subst ea
      obtain ⟨ca, a0, a1⟩ := HA.out j hlt
      have cA : wr.cell? ⟨b, o + j, none⟩ = some (.int .i64 (f j)) := (hW.cell (World.block_lt_of_cell? _ _ ca)).trans ca
      clear ca
      have eb := HL.out (by omega)
      subst eb
      obtain ⟨cb, b0, b1⟩ := HB.out j hlt
      have cB : wr.cell? ⟨bq, oq + j, none⟩ = some (.int .i64 (g j)) := (hW.cell (World.block_lt_of_cell? _ _ cb)).trans cb
      clear cb
      obtain ⟨p0, p1⟩ := mul_in (f j) (g j) a0 a1 b0 b1
      have CM : Hid (∀ W : World, Calls Tryz.prog 107 #[.int .i64 (f j), .int .i64 (g j)] W fun e w' => e = .returned (.agg #[.int .i64 (hi (f j * g j)), .int .u64 (lo (f j * g j))]) ∧ Below W.heap.size W w') := fun W => mul_any (f j) (g j) a0 a1 b0 b1 W
      have CE : Hid (∀ W : World, Calls Tryz.prog 81 #[.agg #[.int .i64 (hi (f j * g j)), .int .u64 (lo (f j * g j))]] W fun e w' => e = .returned (.agg #[.int .i64 (t3 (f j * g j)), .int .u64 (m3 (f j * g j)), .int .u64 (lo (f j * g j))]) ∧ Below W.heap.size W w') := fun W => extend_any (f j * g j) (by omega) (by omega) W
      have CP : Hid (∀ W : World, Calls Tryz.prog 106 #[.agg #[.int .i64 (t3 (q0 + dotV f g j)), .int .u64 (m3 (q0 + dotV f g j)), .int .u64 (lo (q0 + dotV f g j))], .agg #[.int .i64 (t3 (f j * g j)), .int .u64 (m3 (f j * g j)), .int .u64 (lo (f j * g j))]] W fun e w' => e = .returned (.agg #[.int .i64 (t3 (q0 + dotV f g (j + 1))), .int .u64 (m3 (q0 + dotV f g (j + 1))), .int .u64 (lo (q0 + dotV f g (j + 1)))]) ∧ Below W.heap.size W w') := fun W => by
        rw [show q0 + dotV f g (j + 1) = q0 + dotV f g j + f j * g j from (Int.add_assoc _ _ _).symm]
        exact plus_any (q0 + dotV f g j) (f j * g j) W
      clear p0 p1
      generalize t3 (f j * g j) = tq at *
      generalize m3 (f j * g j) = mq at *
      generalize lo (f j * g j) = lq at *
      generalize hi (f j * g j) = hq at *
      clear a0 a1 b0 b1
      generalize t3 (q0 + dotV f g j) = tj at *
      generalize m3 (q0 + dotV f g j) = mj at *
      generalize lo (q0 + dotV f g j) = lj at *
      obtain ⟨tk, htk⟩ : ∃ x, t3 (q0 + dotV f g (j + 1)) = x := ⟨_, rfl⟩
      obtain ⟨mk, hmk⟩ : ∃ x, m3 (q0 + dotV f g (j + 1)) = x := ⟨_, rfl⟩
      obtain ⟨lk, hlk⟩ : ∃ x, lo (q0 + dotV f g (j + 1)) = x := ⟨_, rfl⟩
      rw [htk, hmk, hlk] at CP
      have HE : Hid (t3 (q0 + dotV f g (j + 1)) = tk ∧ m3 (q0 + dotV f g (j + 1)) = mk ∧ lo (q0 + dotV f g (j + 1)) = lk) := ⟨htk, hmk, hlk⟩
      clear htk hmk hlk
      go_upto_region 4 with fail
      have CD := hS.drew
      have CR := hR.drew
      have CV : Hid (Below w.heap.size w wr.drew) := hW.drew
      have xB : wr.drew.cell? ⟨bq, oq + j, none⟩ = some (.int .i64 (g j)) := cB
      have y0 := CD.c0
      have y1 := CD.c1
      have y2 := CD.c2
      have z0 := CD.f0
      have z1 := CD.f1
      have z2 := CD.f2
      clear cA cB hS hR hW
      go_region_with (first
        | (go_at_call 107; refine (CM.out _).mono ?_; rintro e wz ⟨rfl, hb⟩; clear y0 y1 y2 z0 z1 z2; replace xB := cell_later hb xB; replace CD := CD.later hb; replace CR := CR.later hb; replace CV := hidD' CV hb; clear hb; have y0 := CD.c0; have y1 := CD.c1; have y2 := CD.c2; have z0 := CD.f0; have z1 := CD.f1; have z2 := CD.f2)
        | (go_at_call 81; refine (CE.out _).mono ?_; rintro e wz ⟨rfl, hb⟩; clear y0 y1 y2 z0 z1 z2; replace xB := cell_later hb xB; replace CD := CD.later hb; replace CR := CR.later hb; replace CV := hidD' CV hb; clear hb; have y0 := CD.c0; have y1 := CD.c1; have y2 := CD.c2; have z0 := CD.f0; have z1 := CD.f1; have z2 := CD.f2)
        | (go_at_call 106; refine (CP.out _).mono ?_; rintro e wz ⟨rfl, hb⟩; clear y0 y1 y2 z0 z1 z2; replace xB := cell_later hb xB; replace CD := CD.later hb; replace CR := CR.later hb; replace CV := hidD' CV hb; clear hb; have y0 := CD.c0; have y1 := CD.c1; have y2 := CD.c2; have z0 := CD.f0; have z1 := CD.f1; have z2 := CD.f2))
      all_goals
        have D5 := ((CD.set0 (.int .i64 tk)).set1 (.int .u64 mk)).set2 (.int .u64 lk)
        have R5 := ((CR.far (p := ⟨w.heap.size, 0, none⟩) (.int .i64 tk) (by dsimp only; omega)).far (p := ⟨w.heap.size, 1, none⟩) (.int .u64 mk) (by dsimp only; omega)).far (p := ⟨w.heap.size, 2, none⟩) (.int .u64 lk) (by dsimp only; omega)
        have W5 := ((CV.out.setCell (p := ⟨w.heap.size, 0, none⟩) (Nat.le_refl _) (.int .i64 tk)).setCell (p := ⟨w.heap.size, 1, none⟩) (Nat.le_refl _) (.int .u64 mk)).setCell (p := ⟨w.heap.size, 2, none⟩) (Nat.le_refl _) (.int .u64 lk)
        obtain ⟨rfl, rfl, rfl⟩ := HE.out
        clear CD CR CV CM CE CP xB y0 y1 y2 z0 z1 z2 HE
        go_wp2
        go_roundw
        case rel => exact ⟨j + 1, by omega, by go_num, D5, R5, W5⟩
        case measure => simp [intOf]; omega
    · obtain rfl : j = n := by omega
      have hjI : ¬ (j : Int) < (j : Int) := by omega
      have y0 := hS.c0
      have y1 := hS.c1
      have y2 := hS.c2
      have z0 := hR.c0
      have z1 := hR.c1
      have z2 := hR.c2
      have u0 := hR.f0
      have u1 := hR.f1
      have u2 := hR.f2
      have S0 := ((hR.set0 (.int .i64 (t3 (q0 + dotV f g j)))).set1 (.int .u64 (m3 (q0 + dotV f g j)))).set2 (.int .u64 (lo (q0 + dotV f g j)))
      have s0 := S0.c0
      have s1 := S0.c1
      have s2 := S0.c2
      have W5 := ((hW.setCell (p := ⟨w.heap.size + 1, 0, none⟩) (by dsimp only; omega) (.int .i64 (t3 (q0 + dotV f g j)))).setCell (p := ⟨w.heap.size + 1, 1, none⟩) (by dsimp only; omega) (.int .u64 (m3 (q0 + dotV f g j)))).setCell (p := ⟨w.heap.size + 1, 2, none⟩) (by dsimp only; omega) (.int .u64 (lo (q0 + dotV f g j)))
      clear hS hR hW S0 HA HB HK HL
      go_wp2
      exact bodyPost_ret (v := .agg #[.int .i64 (t3 (q0 + dotV f g j)), .int .u64 (m3 (q0 + dotV f g j)), .int .u64 (lo (q0 + dotV f g j))]) (by simp [results, Tryz.results84, go_sem, s0, s1, s2]) rfl ⟨rfl, W5⟩

end Go.Proofs.YtcaficenocblfaaGreatDoor
set_option linter.unusedVariables false
set_option linter.unusedSimpArgs false
namespace Go.Proofs.YtcaficenocblfaaGreatDoor
open Go.RowKit

def outS (C : Nat) (f h v : Nat → Int) (u : Nat) : Int := h u * 4294967296 + dotV (fun i => f (u * C + i)) v C
theorem dot_bnd (f g : Nat → Int) (n : Nat) (hf : ∀ k, k < n → -9223372036854775808 ≤ f k ∧ f k ≤ 9223372036854775807) (hg : ∀ k, k < n → -9223372036854775808 ≤ g k ∧ g k ≤ 9223372036854775807) : -(85070591730234615865843651857942052864 * (n : Int)) ≤ dotV f g n ∧ dotV f g n ≤ 85070591730234615865843651857942052864 * (n : Int) := by
  induction n with
  | zero => exact ⟨Int.le_refl _, Int.le_refl _⟩
  | succ n ih =>
    have h1 := ih (fun k hk => hf k (by omega)) (fun k hk => hg k (by omega))
    have h2 := hf n (by omega)
    have h3 := hg n (by omega)
    have h4 := mul_in (f n) (g n) h2.1 h2.2 h3.1 h3.2
    show _ ≤ dotV f g n + f n * g n ∧ dotV f g n + f n * g n ≤ _
    omega
theorem Ar.rng {w : World} {v : Value} {n : Nat} {f : Nat → Int} (h : Ar w v n f) : ∀ k, k < n → -9223372036854775808 ≤ f k ∧ f k ≤ 9223372036854775807 := by
  obtain ⟨_, _, _, _, _, _, _, _, h5⟩ := h
  exact fun k hk => (h5 k hk).2
theorem Ar.part {w : World} {b q n k1 : Nat} {f : Nat → Int} (h : Ar w (.slice (some ⟨b, q, none⟩) n k1) n f) (x y k2 : Nat) (hxy : x + y ≤ n) (hk : y ≤ k2) (hk2 : k2 ≤ maxLen) : Ar w (.slice (some ⟨b, q + x, none⟩) y k2) y (fun i => f (x + i)) := by
  obtain ⟨adr, cap, bb, oo, e, h2, h3, h4, h5⟩ := h
  cases e
  refine ⟨some ⟨b, q + x, none⟩, k2, b, q + x, rfl, hk, hk2, fun _ => rfl, fun i hi => ?_⟩
  have e2 := h4 (by omega)
  cases e2
  rw [Nat.add_assoc]
  exact h5 (x + i) (by omega)
set_option maxRecDepth 100000 in
set_option maxHeartbeats 8000000 in
theorem outputs_any (R C b q k1 : Nat) (f h v : Nat → Int) (adB : Option Addr) (cB : Nat) (va : Value) (p : Option Addr) (c : Int) (hR : R ≤ 64) (hC : C ≤ 64) (hC1 : 1 ≤ C) (c0 : 0 ≤ c) (c1 : c ≤ 800000000) (w : World) (hA : Ar w (.slice (some ⟨b, q, none⟩) (R * C) k1) (R * C) f) (hB : Ar w (.slice adB R cB) R h) (hv : Ar w va C v) (nA : Nv (.slice (some ⟨b, q, none⟩) (R * C) k1) p) (nB : Nv (.slice adB R cB) p) (nv : Nv va p) (hp : Up p c w) (hT : TabAt w) :
    Calls Tryz.prog 56 #[.agg #[.int .i64 (R : Int), .int .i64 (C : Int), .slice (some ⟨b, q, none⟩) (R * C) k1, .slice adB R cB], .pointer p, va] w fun e w' => ∃ g, e = .returned (.slice (some ⟨g, 0, none⟩) R R) ∧ Rw g R (fun k => .int .i64 (clv (rr (outS C f h v k) 32))) w' ∧ w.heap.size ≤ g ∧ Ux p (c + cntV (fun k => ovv (rr (outS C f h v k) 32)) R) w w' := by
  obtain ⟨adv, cv, bv, ov, rfl, v2, v3, v4, v5⟩ := id hv
  obtain ⟨adb', cb', bB, oB, eB, b2, b3, b4, b5⟩ := id hB
  cases eB
  obtain ⟨ada', ca', bA, oA, eA, a2, a3, a4, a5⟩ := id hA
  cases eA
  unfold maxLen at a3
  have HB5 : Hid (∀ k, k < R → adB = some ⟨bB, oB, none⟩ ∧ Nu bB p ∧ w.cell? ⟨bB, oB + k, none⟩ = some (.int .i64 (h k)) ∧ -9223372036854775808 ≤ h k ∧ h k ≤ 9223372036854775807) := fun k hk => by
    have e := b4 (by omega)
    subst e
    exact ⟨rfl, nB.nu (by omega), b5 k hk⟩
  have HUp : Hid (Up p c w) := hp
  have HAll : Hid (Ar w (.slice (some ⟨b, q, none⟩) (R * C) k1) (R * C) f ∧ Nv (.slice (some ⟨b, q, none⟩) (R * C) k1) p ∧ Ar w (.slice adv C cv) C v ∧ Nv (.slice adv C cv) p ∧ TabAt w) := ⟨hA, nA, hv, nv, hT⟩
  have HRow : Hid (∀ (u : Nat) (W : World), u < R → Calls Tryz.prog 85 #[.agg #[.int .i64 (R : Int), .int .i64 (C : Int), .slice (some ⟨b, q, none⟩) (R * C) k1, .slice adB R cB], .int .i64 (u : Int)] W fun e w' => e = .returned (.slice (some ⟨b, q + u * C, none⟩) C (k1 - u * C)) ∧ Below W.heap.size W w') := fun u W hu => row_any R C b q k1 u adB R cB hR hC hC1 hu a2 (by unfold maxLen; omega) W
  have HProd : Hid (∀ (u : Nat) (c2 s0 : Int) (W : World), u < R → Ux p c2 w W → Calls Tryz.prog 84 #[.agg #[.int .i64 (t3 s0), .int .u64 (m3 s0), .int .u64 (lo s0)], .slice (some ⟨b, q + u * C, none⟩) C (k1 - u * C), .slice adv C cv] W fun e w' => e = .returned (.agg #[.int .i64 (t3 (s0 + dotV (fun i => f (u * C + i)) v C)), .int .u64 (m3 (s0 + dotV (fun i => f (u * C + i)) v C)), .int .u64 (lo (s0 + dotV (fun i => f (u * C + i)) v C))]) ∧ Below W.heap.size W w') := fun u c2 s0 W hu hU => by
    have h1 : (u + 1) * C ≤ R * C := Nat.mul_le_mul_right _ hu
    rw [Nat.succ_mul] at h1
    exact wProd_any s0 _ _ C _ v (by omega) W ((hA.ux nA hU).part (u * C) C (k1 - u * C) (by omega) (by omega) (by unfold maxLen; omega)) (hv.ux nv hU)
  have HNear : Hid (∀ (u : Nat) (c2 : Int) (W : World), u < R → 0 ≤ c2 → c2 ≤ 900000000 → Ux p c2 w W → Calls Tryz.prog 83 #[.pointer p, .agg #[.int .i64 (t3 (outS C f h v u)), .int .u64 (m3 (outS C f h v u)), .int .u64 (lo (outS C f h v u))], .int .i64 32] W fun e w' => e = .returned (.int .i64 (clv (rr (outS C f h v u) 32))) ∧ Ux p (c2 + bi (ovv (rr (outS C f h v u) 32))) W w') := fun u c2 W hu h0 h1 hU => by
    have h2 : (u + 1) * C ≤ R * C := Nat.mul_le_mul_right _ hu
    rw [Nat.succ_mul] at h2
    have h3 := dot_bnd (fun i => f (u * C + i)) v C (fun k hk => hA.rng (u * C + k) (by omega)) hv.rng
    have h4 := hB.rng u hu
    have hb : -3138550867693340381917894711603833208051177722232017256448 ≤ outS C f h v u ∧ outS C f h v u ≤ 3138550867693340381917894711603833208051177722232017256447 := by unfold outS; omega
    exact near32_ux _ hb.1 hb.2 p c2 h0 h1 W (hT.ux hp hU) hU.up
  obtain ⟨w1, hw1⟩ : ∃ w1, w1 = w.alloc (.cells #[.int .i64 (R : Int), .int .i64 (C : Int), .slice (some ⟨b, q, none⟩) (R * C) k1, .slice adB R cB] 87) := ⟨_, rfl⟩
  have HB1 : Hid (B4 w.heap.size (.int .i64 (R : Int)) (.int .i64 (C : Int)) (.slice (some ⟨b, q, none⟩) (R * C) k1) (.slice adB R cB) w1) := by rw [hw1]; exact B4.new w _ _ _ _ _
  have hs1 : w1.heap.size = w.heap.size + 1 := by rw [hw1, World.size_alloc]
  obtain ⟨w2, hw2⟩ : ∃ w2, w2 = w1.alloc (.cells (madeCells #[.int .i64 0] R) 36) := ⟨_, rfl⟩
  have HB2 : Hid (B4 w.heap.size (.int .i64 (R : Int)) (.int .i64 (C : Int)) (.slice (some ⟨b, q, none⟩) (R * C) k1) (.slice adB R cB) w2) := by rw [hw2]; exact HB1.out.later (bel1 _ _)
  have HU2 : Hid (Ux p c w w2) := by rw [hw2, hw1]; exact HUp.out.ux (bel2 _ _ _)
  have HR2 : Hid (Rw w1.heap.size R (fun _ => .int .i64 0) w2) := by rw [hw2]; exact Rw.made w1 (.int .i64 0) R 36
  have HNs : Hid (Nu w.heap.size p ∧ Nu (w.heap.size + 1) p ∧ ∀ x, w.heap.size ≤ x → Nu x p) := ⟨HUp.out.lt (Nat.le_refl _), HUp.out.lt (by omega), fun x hx => HUp.out.lt hx⟩
  have hmk := make_fx R (by omega)
  have x3 : (w.alloc (.cells #[.int .i64 (R : Int), .int .i64 (C : Int), .slice (some ⟨b, q, none⟩) (R * C) k1, .slice adB R cB] 87)).cell? ⟨w.heap.size, 3, none⟩ = some (.slice adB R cB) := (B4.new w _ _ _ _ _).c3
  have x3' : w2.cell? ⟨w.heap.size, 3, none⟩ = some (.slice adB R cB) := HB2.out.c3
  rw [hw2, hw1] at x3'
  clear v4 v5 b4 b5 a4 a5 hA hB hv nA nB nv hp hT
  generalize R * C = RC at *
  go_enter Tryz.func56, Tryz.ntmps56
  go_upto_region 3 with fail
  rw [← hw1, ← hw2]
  rw [hs1] at HR2
  clear hw1 hw2 hmk x3 x3' HB1 hs1
  go_loopw [18] (fun si wr => ∃ j : Nat, j ≤ R ∧ si = .int .i64 (j : Int) ∧ Hid (Rw (w.heap.size + 1) R (fun k => if k < j then .int .i64 (clv (rr (outS C f h v k) 32)) else .int .i64 0) wr) ∧ Hid (B4 w.heap.size (.int .i64 (R : Int)) (.int .i64 (C : Int)) (.slice (some ⟨b, q, none⟩) RC k1) (.slice adB R cB) wr) ∧ Hid (Ux p (c + cntV (fun k => ovv (rr (outS C f h v k) 32)) j) w wr)) (fun si _ => R - (intOf si).toNat)
  case atStart => exact ⟨0, by omega, rfl, HR2.out.congr (fun k hk => by simp), HB2, by show Ux p (c + 0) w w2; rw [Int.add_zero]; exact HU2.out⟩
  case round =>
    obtain ⟨j, hj, rfl, HR, HB, HU⟩ := hrel
    by_cases hlt : j < R
    · have hjI : (j : Int) < (R : Int) := by omega
      obtain ⟨rfl, hnB, cO, o0, o1⟩ := HB5.out j hlt
      have cO2 : wr.cell? ⟨bB, oB + j, none⟩ = some (.int .i64 (h j)) := HU.out.cell hnB cO
      have hcn := cnt_rng (fun k => ovv (rr (outS C f h v k) 32)) j
      obtain ⟨cj, hcj⟩ : ∃ cj, c + cntV (fun k => ovv (rr (outS C f h v k) 32)) j = cj := ⟨_, rfl⟩
      have HU' : Hid (Ux p cj w wr) := by rw [← hcj]; exact HU.out
      have Hcj : Hid (cj + bi (ovv (rr (outS C f h v j) 32)) = c + cntV (fun k => ovv (rr (outS C f h v k) 32)) (j + 1)) := by
        show _ = c + (cntV (fun k => ovv (rr (outS C f h v k) 32)) j + _)
        rw [← hcj]
        first | exact (Int.add_assoc _ _ _) | rfl | omega
      have cj0 : 0 ≤ cj ∧ cj ≤ 800000100 := by omega
      have C1 : Hid (∀ W : World, Calls Tryz.prog 65 #[.int .i64 (h j)] W fun e w' => e = .returned (.agg #[.int .i64 (hi (h j)), .int .u64 (lo (h j))]) ∧ Below W.heap.size W w') := fun W => of_any (h j) o0 o1 W
      have C2 : Hid (∀ W : World, Calls Tryz.prog 82 #[.agg #[.int .i64 (hi (h j)), .int .u64 (lo (h j))], .int .i64 32] W fun e w' => e = .returned (.agg #[.int .i64 (hi (h j * 4294967296)), .int .u64 (lo (h j * 4294967296))]) ∧ Below W.heap.size W w') := fun W => shl_any (h j) 32 (by omega) W
      have C3 : Hid (∀ W : World, Calls Tryz.prog 81 #[.agg #[.int .i64 (hi (h j * 4294967296)), .int .u64 (lo (h j * 4294967296))]] W fun e w' => e = .returned (.agg #[.int .i64 (t3 (h j * 4294967296)), .int .u64 (m3 (h j * 4294967296)), .int .u64 (lo (h j * 4294967296))]) ∧ Below W.heap.size W w') := fun W => extend_any (h j * 4294967296) (by omega) (by omega) W
      have CRw := fun W => HRow.out j W hlt
      have CPr := fun W => HProd.out j cj (h j * 4294967296) W hlt
      have CNr := fun W => HNear.out j cj W hlt cj0.1 (by omega)
      have eS : h j * 4294967296 + dotV (fun i => f (j * C + i)) v C = outS C f h v j := rfl
      rw [eS] at CPr
      replace CRw : Hid _ := CRw
      replace CPr : Hid _ := CPr
      replace CNr : Hid _ := CNr
      clear cO hcn hcj HU eS o0 o1
      generalize hi (h j) = a1 at *
      generalize lo (h j) = a2 at *
      generalize hi (h j * 4294967296) = a3 at *
      generalize lo (h j * 4294967296) = a4 at *
      generalize t3 (h j * 4294967296) = a5 at *
      generalize m3 (h j * 4294967296) = a6 at *
      go_wp2_with fail
      refine (C1.out _).mono ?_
      rintro e w3 ⟨rfl, h3⟩
      go_wp2_with fail
      refine (C2.out _).mono ?_
      rintro e w4 ⟨rfl, h4⟩
      go_wp2_with fail
      refine (C3.out _).mono ?_
      rintro e w5 ⟨rfl, h5⟩
      have HW5 : Hid (Below wr.heap.size wr w5) := bchain (bchain h3 h4) h5
      clear h3 h4 h5 C1 C2 C3 cO2
      obtain ⟨w6, hw6⟩ : ∃ w6, w6 = w5.alloc (.cells #[.int .i64 a5, .int .u64 a6, .int .u64 a4] 150) := ⟨_, rfl⟩
      have hs5 : wr.heap.size ≤ w5.heap.size := HW5.out.size
      have hswr : w.heap.size + 1 < wr.heap.size := World.block_lt_of_cell? _ _ (HR.out.c j hlt)
      have HE : B3 w5.heap.size (.int .i64 a5) (.int .u64 a6) (.int .u64 a4) w6 := by rw [hw6]; exact B3.new w5 _ _ _ _
      have HW6 : Below wr.heap.size wr w6 := by rw [hw6]; exact bchain HW5.out (bel1 _ _)
      go_upto_region 6 with fail
      rw [← hw6]
      have hbD : Below w6.heap.size w6 w6.drew := (Below.refl _ _).drew
      replace HE := HE.later hbD
      have HBd := (HB.out.later HW6).later hbD
      have HRd : Hid (Rw (w.heap.size + 1) R (fun k => if k < j then .int .i64 (clv (rr (outS C f h v k) 32)) else .int .i64 0) w6.drew) := (HR.out.later HW6).later hbD
      have HUd : Hid (Ux p cj w w6.drew) := (HU'.out.later HW6).later hbD
      obtain ⟨g5, hg5⟩ : ∃ g, w5.heap.size = g := ⟨_, rfl⟩
      rw [hg5] at HE hs5 ⊢
      have hn5 : Nu g5 p := HNs.out.2.2 g5 (by omega)
      have hg5' : w.heap.size + 1 < g5 := by omega
      clear hw6 hg5 HW6 hbD HB HR HU' HW5
      refine wp_region_held_drew (S := fun W' => W'.cell? ⟨g5, 0, none⟩ = some (.int .i64 a5) ∧ W'.cell? ⟨g5, 1, none⟩ = some (.int .u64 a6) ∧ W'.cell? ⟨g5, 2, none⟩ = some (.int .u64 a4) ∧ W'.cell? ⟨w.heap.size, 0, none⟩ = some (.int .i64 (R : Int)) ∧ W'.cell? ⟨w.heap.size, 1, none⟩ = some (.int .i64 (C : Int)) ∧ W'.cell? ⟨w.heap.size, 2, none⟩ = some (.slice (some ⟨b, q, none⟩) RC k1) ∧ W'.cell? ⟨w.heap.size, 3, none⟩ = some (.slice (some ⟨bB, oB, none⟩) R cB)) (by kernel_rfl) ⟨HE.c0, HE.c1, HE.c2, HBd.c0, HBd.c1, HBd.c2, HBd.c3⟩ (fun HS => ?_)
      generalize w6.drew = wd at *
      refine wpAnyH_take (i := 0) (v := ?v1) rfl (by kernel_rfl) (by kernel_rfl) (by kernel_rfl) (fun _ _ _ h => h) (Or.inl ⟨by kernel_rfl, ?h1⟩) HS ?r1
      case h1 => (rintro w ⟨e0, e1, e2, x0, x1, x2, x3⟩; go_simp) <;> with_reducible rfl
      try simp only [Act.put, List.getElem_toArray, List.getElem_cons_succ, List.getElem_cons_zero, List.setIfInBounds_toArray, List.set_cons_zero, List.set_cons_succ]
      refine wpAnyH_take (i := 1) (v := ?v2) rfl (by kernel_rfl) (by kernel_rfl) (by kernel_rfl) (fun _ _ _ h => h) (Or.inl ⟨by kernel_rfl, ?h2⟩) HS ?r2
      case h2 => (rintro w ⟨e0, e1, e2, x0, x1, x2, x3⟩; go_simp) <;> with_reducible rfl
      try simp only [Act.put, List.getElem_toArray, List.getElem_cons_succ, List.getElem_cons_zero, List.setIfInBounds_toArray, List.set_cons_zero, List.set_cons_succ]
      refine wpAnyH_take (i := 2) (v := ?v3) rfl (by kernel_rfl) (by kernel_rfl) (by kernel_rfl) (fun _ _ _ h => h) (Or.inl ⟨by kernel_rfl, ?h3⟩) HS ?r3
      case h3 => (rintro w ⟨e0, e1, e2, x0, x1, x2, x3⟩; go_simp) <;> with_reducible rfl
      try simp only [Act.put, List.getElem_toArray, List.getElem_cons_succ, List.getElem_cons_zero, List.setIfInBounds_toArray, List.set_cons_zero, List.set_cons_succ]
      refine wpAnyH_take (i := 3) (v := ?v4) rfl (by kernel_rfl) (by kernel_rfl) (by kernel_rfl) (fun _ _ _ h => h) (Or.inl ⟨by kernel_rfl, ?h4⟩) HS ?r4
      case h4 => (rintro w ⟨e0, e1, e2, x0, x1, x2, x3⟩; go_simp) <;> with_reducible rfl
      try simp only [Act.put, List.getElem_toArray, List.getElem_cons_succ, List.getElem_cons_zero, List.setIfInBounds_toArray, List.set_cons_zero, List.set_cons_succ]
      refine wpAnyH_take (i := 4) (v := ?v5) rfl (by kernel_rfl) (by kernel_rfl) (by kernel_rfl) (fun _ _ _ h => h) (Or.inl ⟨by kernel_rfl, ?h5⟩) HS ?r5
      case h5 => (rintro w ⟨e0, e1, e2, x0, x1, x2, x3⟩; go_simp) <;> with_reducible rfl
      try simp only [Act.put, List.getElem_toArray, List.getElem_cons_succ, List.getElem_cons_zero, List.setIfInBounds_toArray, List.set_cons_zero, List.set_cons_succ]
      refine wpAnyH_take (i := 5) (v := ?v6) rfl (by kernel_rfl) (by kernel_rfl) (by kernel_rfl) (fun _ _ _ h => h) (Or.inl ⟨by kernel_rfl, ?h6⟩) HS ?r6
      case h6 => (rintro w ⟨e0, e1, e2, x0, x1, x2, x3⟩; go_simp) <;> with_reducible rfl
      try simp only [Act.put, List.getElem_toArray, List.getElem_cons_succ, List.getElem_cons_zero, List.setIfInBounds_toArray, List.set_cons_zero, List.set_cons_succ]
      refine wpAnyH_take (i := 7) (v := ?v7) rfl (by kernel_rfl) (by kernel_rfl) (by kernel_rfl) (fun _ _ _ h => h) (Or.inl ⟨by kernel_rfl, ?h7⟩) HS ?r7
      case h7 => (rintro w ⟨e0, e1, e2, x0, x1, x2, x3⟩; go_simp) <;> with_reducible rfl
      try simp only [Act.put, List.getElem_toArray, List.getElem_cons_succ, List.getElem_cons_zero, List.setIfInBounds_toArray, List.set_cons_zero, List.set_cons_succ]
      refine wpAnyH_ready (rs := [6]) (by kernel_rfl) (by simp) ?_
      refine AllReadyH.cons rfl (fun K hK => ?_) AllReadyH.nil
      go_simp
      refine (CRw.out _).mono ?_
      rintro e w7 ⟨rfl, h7⟩
      refine hK.out _ _ ⟨cell_later h7 HE.c0, cell_later h7 HE.c1, cell_later h7 HE.c2, cell_later h7 HBd.c0, cell_later h7 HBd.c1, cell_later h7 HBd.c2, cell_later h7 HBd.c3⟩ (fun HS => ?_)
      clear hK K
      replace HE := HE.later h7
      replace HBd := HBd.later h7
      have HR7 : Hid (Rw (w.heap.size + 1) R (fun k => if k < j then .int .i64 (clv (rr (outS C f h v k) 32)) else .int .i64 0) w7) := HRd.out.later h7
      have HU7 : Hid (Ux p cj w w7) := HUd.out.later h7
      clear h7 HRd HUd CRw
      refine wpAnyH_ready (rs := [8]) (by kernel_rfl) (by simp) ?_
      refine AllReadyH.cons rfl (fun K hK => ?_) AllReadyH.nil
      go_simp
      refine (CPr.out _ HU7.out).mono ?_
      rintro e w8 ⟨rfl, h8⟩
      refine hK.out _ _ ⟨cell_later h8 HE.c0, cell_later h8 HE.c1, cell_later h8 HE.c2, cell_later h8 HBd.c0, cell_later h8 HBd.c1, cell_later h8 HBd.c2, cell_later h8 HBd.c3⟩ (fun HS => ?_)
      clear hK K
      replace HE := HE.later h8
      replace HBd := HBd.later h8
      have HR8 : Hid (Rw (w.heap.size + 1) R (fun k => if k < j then .int .i64 (clv (rr (outS C f h v k) 32)) else .int .i64 0) w8) := HR7.out.later h8
      have HU8 : Hid (Ux p cj w w8) := HU7.out.later h8
      clear h8 HR7 HU7 CPr
      refine wpAnyH_ready (rs := [9]) (by kernel_rfl) (by simp) ?_
      refine AllReadyH.cons rfl (fun K hK => ?_) AllReadyH.nil
      go_simp
      refine (CNr.out _ HU8.out).mono ?_
      rintro e w9 ⟨rfl, h9⟩
      have HE9 := And.intro (h9.cell hn5 HE.c0) (And.intro (h9.cell hn5 HE.c1) (h9.cell hn5 HE.c2))
      have HB9 := HBd.ux HNs.out.1 h9
      refine hK.out _ _ ⟨HE9.1, HE9.2.1, HE9.2.2, HB9.c0, HB9.c1, HB9.c2, HB9.c3⟩ (fun HS => ?_)
      clear hK K HE HBd
      have HR9 : Hid (Rw (w.heap.size + 1) R (fun k => if k < j then .int .i64 (clv (rr (outS C f h v k) 32)) else .int .i64 0) w9) := HR8.out.ux HNs.out.2.1 h9
      have HU9 : Hid (Ux p (c + cntV (fun k => ovv (rr (outS C f h v k) 32)) (j + 1)) w w9) := by rw [← Hcj.out]; exact HU8.out.chain h9
      have cz : w9.cell? ⟨w.heap.size + 1, j, none⟩ = some (.int .i64 0) := by have := HR9.out.c j hlt; rw [if_neg (by omega)] at this; exact this
      have fz := HR9.out.f j hlt
      clear h9 HR8 HU8 CNr Hcj
      obtain ⟨RX, hRX⟩ : ∃ r, clv (rr (outS C f h v j) 32) = r := ⟨_, rfl⟩
      have HRX : Hid (clv (rr (outS C f h v j) 32) = RX) := hRX
      rw [hRX]
      clear hRX
      refine wpAnyH_take (i := 10) (v := ?v8) rfl (by kernel_rfl) (by kernel_rfl) (by kernel_rfl) (fun _ _ _ h => h) (Or.inl ⟨by kernel_rfl, ?h8⟩) HS ?r8
      case h8 => (rintro w ⟨e0, e1, e2, x0, x1, x2, x3⟩; go_simp) <;> with_reducible rfl
      try simp only [Act.put, List.getElem_toArray, List.getElem_cons_succ, List.getElem_cons_zero, List.setIfInBounds_toArray, List.set_cons_zero, List.set_cons_succ]
      refine wpAnyH_ready (rs := [11]) (by kernel_rfl) (by simp) ?_
      refine AllReadyH.cons rfl (fun K hK => ?_) AllReadyH.nil
      go_simp
      have HB10 := HB9.far (a := ⟨w.heap.size + 1, j, none⟩) (.int .i64 RX) (by dsimp only; omega)
      refine hK.out _ _ ⟨cell_set (by dsimp only; omega) HE9.1, cell_set (by dsimp only; omega) HE9.2.1, cell_set (by dsimp only; omega) HE9.2.2, HB10.c0, HB10.c1, HB10.c2, HB10.c3⟩ (fun HS => ?_)
      clear hK K HS HE9 HB9
      refine wpAnyH_done (by kernel_rfl) ?_ _
      have HR10 : Hid (Rw (w.heap.size + 1) R (fun k => if k < j + 1 then .int .i64 (clv (rr (outS C f h v k) 32)) else .int .i64 0) (w9.setCell ⟨w.heap.size + 1, j, none⟩ (.int .i64 RX))) := (HR9.out.set j (.int .i64 RX)).congr (fun k hk => by
        by_cases e : k = j
        · subst e; simp [HRX.out]
        · rw [if_neg e]
          by_cases e2 : k < j
          · rw [if_pos e2, if_pos (by omega)]
          · rw [if_neg e2, if_neg (by omega)])
      have HB11 : Hid (B4 w.heap.size (.int .i64 (R : Int)) (.int .i64 (C : Int)) (.slice (some ⟨b, q, none⟩) RC k1) (.slice (some ⟨bB, oB, none⟩) R cB) (w9.setCell ⟨w.heap.size + 1, j, none⟩ (.int .i64 RX))) := HB10
      have HU10 : Hid (Ux p (c + cntV (fun k => ovv (rr (outS C f h v k) 32)) (j + 1)) w (w9.setCell ⟨w.heap.size + 1, j, none⟩ (.int .i64 RX))) := HU9.out.far _ (by dsimp only; omega)
      clear HR9 HU9 HB10 cz fz
      generalize w9.setCell ⟨w.heap.size + 1, j, none⟩ (.int .i64 RX) = wf at *
      go_wp2
      go_roundw
      case rel => exact ⟨j + 1, by omega, by go_num, HR10, HB11, HU10⟩
      case measure => simp [intOf]; omega
    · obtain rfl : j = R := by omega
      have hjI : ¬ (j : Int) < (j : Int) := by omega
      have HRf : Hid (Rw (w.heap.size + 1) j (fun k => .int .i64 (clv (rr (outS C f h v k) 32))) wr) := HR.out.congr (fun k hk => by rw [if_pos hk])
      clear HR
      go_wp2
      go_ret
      exact ⟨_, rfl, HRf.out, by omega, HU.out⟩
end Go.Proofs.YtcaficenocblfaaGreatDoor
set_option linter.unusedVariables false
set_option linter.unusedSimpArgs false
namespace Go.Proofs.YtcaficenocblfaaGreatDoor
open Go.RowKit

def slaX (R C : Nat) (f s v : Nat → Int) (i : Nat) : Int := if 0 < v i then clv (rr (dotV s (fun u => f (u * C + i)) R) 32) else 0
def slaO (R C : Nat) (f s v : Nat → Int) (i : Nat) : Bool := if 0 < v i then ovv (rr (dotV s (fun u => f (u * C + i)) R) 32) else false
theorem slaX_rng (R C : Nat) (f s v : Nat → Int) (i : Nat) : -9223372036854775808 ≤ slaX R C f s v i ∧ slaX R C f s v i ≤ 9223372036854775807 := by
  unfold slaX
  split
  · exact clv_rng _
  · omega
set_option maxRecDepth 100000 in
set_option maxHeartbeats 8000000 in
theorem slopesAhead_any (R C b q k1 : Nat) (f s v : Nat → Int) (adB : Option Addr) (nB cB : Nat) (vs va : Value) (p : Option Addr) (c : Int) (hR : R ≤ 64) (hC : C ≤ 64) (c0 : 0 ≤ c) (c1 : c ≤ 700000000) (w : World) (hA : Ar w (.slice (some ⟨b, q, none⟩) (R * C) k1) (R * C) f) (hs : Ar w vs R s) (hv : Ar w va C v) (nA : Nv (.slice (some ⟨b, q, none⟩) (R * C) k1) p) (ns : Nv vs p) (nv : Nv va p) (hp : Up p c w) (hT : TabAt w) :
    Calls Tryz.prog 31 #[.agg #[.int .i64 (R : Int), .int .i64 (C : Int), .slice (some ⟨b, q, none⟩) (R * C) k1, .slice adB nB cB], .pointer p, vs, va] w fun e w' => ∃ g, e = .returned (.slice (some ⟨g, 0, none⟩) C C) ∧ Ar w' (.slice (some ⟨g, 0, none⟩) C C) C (slaX R C f s v) ∧ w.heap.size ≤ g ∧ Ux p (c + cntV (slaO R C f s v) C) w w' := by
  obtain ⟨adv, cv, bv, ov, rfl, v2, v3, v4, v5⟩ := id hv
  obtain ⟨ads, cs, bs, os, rfl, s2, s3, s4, s5⟩ := id hs
  have HV5 : Hid (∀ k, k < C → adv = some ⟨bv, ov, none⟩ ∧ Nu bv p ∧ w.cell? ⟨bv, ov + k, none⟩ = some (.int .i64 (v k))) := fun k hk => by
    have e := v4 (by omega)
    subst e
    exact ⟨rfl, nv.nu (by omega), (v5 k hk).1⟩
  have HUp : Hid (Up p c w) := hp
  have HCol : Hid (∀ (i : Nat) (c2 : Int) (W : World), i < C → Ux p c2 w W → Calls Tryz.prog 60 #[.agg #[.int .i64 (R : Int), .int .i64 (C : Int), .slice (some ⟨b, q, none⟩) (R * C) k1, .slice adB nB cB], .int .i64 (i : Int)] W fun e w' => ∃ g, e = .returned (.slice (some ⟨g, 0, none⟩) R R) ∧ Ar w' (.slice (some ⟨g, 0, none⟩) R R) R (fun u => f (u * C + i)) ∧ W.heap.size ≤ g ∧ Below W.heap.size W w') := fun i c2 W hi hU => column_any R C b q k1 i f adB nB cB hR hC hi W (hA.ux nA hU)
  have HDot : Hid (∀ (i g : Nat) (c2 : Int) (W : World), 0 ≤ c2 → c2 ≤ 800000000 → Ux p c2 w W → Ar W (.slice (some ⟨g, 0, none⟩) R R) R (fun u => f (u * C + i)) → w.heap.size ≤ g → Calls Tryz.prog 59 #[.pointer p, .slice ads R cs, .slice (some ⟨g, 0, none⟩) R R] W fun e w' => e = .returned (.tuple #[.int .i64 (clv (rr (dotV s (fun u => f (u * C + i)) R) 32)), .int .i64 0]) ∧ Ux p (c2 + bi (ovv (rr (dotV s (fun u => f (u * C + i)) R) 32))) W w') := fun i g c2 W h0 h1 hU hG hg => dot_ux _ _ R s _ (by omega) p c2 h0 h1 W (hT.ux hp hU) (hs.ux ns hU) hG ns ((hp.lt hg).nv _ _ _) hU.up
  obtain ⟨w1, hw1⟩ : ∃ w1, w1 = w.alloc (.cells #[.int .i64 (R : Int), .int .i64 (C : Int), .slice (some ⟨b, q, none⟩) (R * C) k1, .slice adB nB cB] 87) := ⟨_, rfl⟩
  have HB1 : Hid (B4 w.heap.size (.int .i64 (R : Int)) (.int .i64 (C : Int)) (.slice (some ⟨b, q, none⟩) (R * C) k1) (.slice adB nB cB) w1) := by rw [hw1]; exact B4.new w _ _ _ _ _
  have hs1 : w1.heap.size = w.heap.size + 1 := by rw [hw1, World.size_alloc]
  obtain ⟨w2, hw2⟩ : ∃ w2, w2 = w1.alloc (.cells (madeCells #[.int .i64 0] C) 36) := ⟨_, rfl⟩
  have HB2 : Hid (B4 w.heap.size (.int .i64 (R : Int)) (.int .i64 (C : Int)) (.slice (some ⟨b, q, none⟩) (R * C) k1) (.slice adB nB cB) w2) := by rw [hw2]; exact HB1.out.later (bel1 _ _)
  have HU2 : Hid (Ux p c w w2) := by rw [hw2, hw1]; exact HUp.out.ux (bel2 _ _ _)
  have HR2 : Hid (Rw w1.heap.size C (fun _ => .int .i64 0) w2) := by rw [hw2]; exact Rw.made w1 (.int .i64 0) C 36
  have HNs : Hid (Nu w.heap.size p ∧ Nu (w.heap.size + 1) p) := ⟨HUp.out.lt (Nat.le_refl _), HUp.out.lt (by omega)⟩
  have hmk := make_fx C (by omega)
  clear v4 v5 s4 s5 hA hs hv nA ns nv hp hT
  generalize R * C = RC at *
  go_enter Tryz.func31, Tryz.ntmps31
  go_upto_region 3 with fail
  rw [← hw1, ← hw2]
  rw [hs1] at HR2
  clear hw1 hw2 hmk HB1 hs1
  go_loopw [17] (fun si wr => ∃ j : Nat, j ≤ C ∧ si = .int .i64 (j : Int) ∧ Hid (Rw (w.heap.size + 1) C (fun k => if k < j then .int .i64 (slaX R C f s v k) else .int .i64 0) wr) ∧ Hid (B4 w.heap.size (.int .i64 (R : Int)) (.int .i64 (C : Int)) (.slice (some ⟨b, q, none⟩) RC k1) (.slice adB nB cB) wr) ∧ Hid (Ux p (c + cntV (slaO R C f s v) j) w wr)) (fun si _ => C - (intOf si).toNat)
  case atStart => exact ⟨0, by omega, rfl, HR2.out.congr (fun k hk => by simp), HB2, by show Ux p (c + 0) w w2; rw [Int.add_zero]; exact HU2.out⟩
  case round =>
    obtain ⟨j, hj, rfl, HR, HB, HU⟩ := hrel
    by_cases hlt : j < C
    · have hjI : (j : Int) < (C : Int) := by omega
      obtain ⟨rfl, hnv, cO⟩ := HV5.out j hlt
      have cO2 : wr.cell? ⟨bv, ov + j, none⟩ = some (.int .i64 (v j)) := HU.out.cell hnv cO
      have hcn := cnt_rng (slaO R C f s v) j
      obtain ⟨cj, hcj⟩ : ∃ cj, c + cntV (slaO R C f s v) j = cj := ⟨_, rfl⟩
      have HU' : Hid (Ux p cj w wr) := by rw [← hcj]; exact HU.out
      have Hcj : Hid (cj + bi (slaO R C f s v j) = c + cntV (slaO R C f s v) (j + 1)) := by
        show _ = c + (cntV (slaO R C f s v) j + _)
        rw [← hcj]
        first | exact (Int.add_assoc _ _ _) | rfl | omega
      have cj0 : 0 ≤ cj ∧ cj ≤ 800000000 := by omega
      clear cO hcn hcj HU
      by_cases hpos : 0 < v j
      · have eX : slaX R C f s v j = clv (rr (dotV s (fun u => f (u * C + j)) R) 32) := by unfold slaX; rw [if_pos hpos]
        have eO : slaO R C f s v j = ovv (rr (dotV s (fun u => f (u * C + j)) R) 32) := by unfold slaO; rw [if_pos hpos]
        have CC := HCol.out j cj wr hlt HU'.out
        have CD := fun g W => HDot.out j g cj W cj0.1 cj0.2
        rw [← eX, ← eO] at CD
        replace CD : Hid _ := CD
        have HEX : Hid (slaX R C f s v j = slaX R C f s v j) := rfl
        clear eX eO
        obtain ⟨RX, hRX⟩ : ∃ r, slaX R C f s v j = r := ⟨_, rfl⟩
        have HRX : Hid (slaX R C f s v j = RX) := hRX
        rw [hRX] at CD
        clear hRX HEX
        have x0 := HB.out.c0
        have x1 := HB.out.c1
        have x2 := HB.out.c2
        have x3 := HB.out.c3
        go_wp2_with fail
        refine CC.mono ?_
        rintro e w3 ⟨g3, rfl, hA3, hg3, h3⟩
        have HU3 : Hid (Ux p cj w w3) := HU'.out.later h3
        have CE := CD.out g3 w3 HU3.out hA3 (by have := HU'.out.size; omega)
        have HB3 : Hid (B4 w.heap.size (.int .i64 (R : Int)) (.int .i64 (C : Int)) (.slice (some ⟨b, q, none⟩) RC k1) (.slice adB nB cB) w3) := HB.out.later h3
        have HR3 : Hid (Rw (w.heap.size + 1) C (fun k => if k < j then .int .i64 (slaX R C f s v k) else .int .i64 0) w3) := HR.out.later h3
        clear CC CD x0 x1 x2 x3 h3 hA3 HB HR HU' cO2
        go_wp2_with fail
        refine CE.mono ?_
        rintro e w4 ⟨rfl, h4⟩
        have HB4 : Hid (B4 w.heap.size (.int .i64 (R : Int)) (.int .i64 (C : Int)) (.slice (some ⟨b, q, none⟩) RC k1) (.slice adB nB cB) w4) := HB3.out.ux HNs.out.1 h4
        have HR4 : Hid (Rw (w.heap.size + 1) C (fun k => if k < j then .int .i64 (slaX R C f s v k) else .int .i64 0) w4) := HR3.out.ux HNs.out.2 h4
        have HU4 : Hid (Ux p (c + cntV (slaO R C f s v) (j + 1)) w w4) := by rw [← Hcj.out]; exact HU3.out.chain h4
        have cz : w4.cell? ⟨w.heap.size + 1, j, none⟩ = some (.int .i64 0) := by have := HR4.out.c j hlt; rw [if_neg (by omega)] at this; exact this
        have fz := HR4.out.f j hlt
        have HR10 : Hid (Rw (w.heap.size + 1) C (fun k => if k < j + 1 then .int .i64 (slaX R C f s v k) else .int .i64 0) (w4.setCell ⟨w.heap.size + 1, j, none⟩ (.int .i64 RX))) := (HR4.out.set j (.int .i64 RX)).congr (fun k hk => by
          by_cases e : k = j
          · subst e; simp [HRX.out]
          · rw [if_neg e]
            by_cases e2 : k < j
            · rw [if_pos e2, if_pos (by omega)]
            · rw [if_neg e2, if_neg (by omega)])
        have HB11 : Hid (B4 w.heap.size (.int .i64 (R : Int)) (.int .i64 (C : Int)) (.slice (some ⟨b, q, none⟩) RC k1) (.slice adB nB cB) (w4.setCell ⟨w.heap.size + 1, j, none⟩ (.int .i64 RX))) := HB4.out.far _ (by dsimp only; omega)
        have HU10 : Hid (Ux p (c + cntV (slaO R C f s v) (j + 1)) w (w4.setCell ⟨w.heap.size + 1, j, none⟩ (.int .i64 RX))) := HU4.out.far _ (by dsimp only; omega)
        clear CE h4 HB3 HR3 HU3 HB4 HR4 HU4
        go_wp2
        go_roundw
        case rel => exact ⟨j + 1, by omega, by go_num, HR10, HB11, HU10⟩
        case measure => simp [intOf]; omega
      · have eX : slaX R C f s v j = 0 := by unfold slaX; rw [if_neg hpos]
        have eO : slaO R C f s v j = false := by unfold slaO; rw [if_neg hpos]
        have HR10 : Hid (Rw (w.heap.size + 1) C (fun k => if k < j + 1 then .int .i64 (slaX R C f s v k) else .int .i64 0) wr) := HR.out.congr (fun k hk => by
          by_cases e2 : k < j
          · rw [if_pos e2, if_pos (by omega)]
          · rw [if_neg e2]
            by_cases e : k = j
            · subst e; rw [if_pos (by omega), eX]
            · rw [if_neg (by omega)])
        have HU10 : Hid (Ux p (c + cntV (slaO R C f s v) (j + 1)) w wr) := by
          rw [← Hcj.out, eO]
          show Ux p (cj + 0) w wr
          rw [Int.add_zero]
          exact HU'.out
        clear HR eX eO HU' Hcj
        go_wp2
        go_roundw
        case rel => exact ⟨j + 1, by omega, by go_num, HR10, HB, HU10⟩
        case measure => simp [intOf]; omega
    · obtain rfl : j = C := by omega
      have hjI : ¬ (j : Int) < (j : Int) := by omega
      have hAr : Hid (Ar wr (.slice (some ⟨w.heap.size + 1, 0, none⟩) j j) j (slaX R j f s v)) := (HR.out.congr (fun k hk => by rw [if_pos hk])).ar (by omega) (fun k _ => slaX_rng _ _ _ _ _ _)
      clear HR
      go_wp2
      go_ret
      exact ⟨_, rfl, hAr.out, by omega, HU.out⟩
end Go.Proofs.YtcaficenocblfaaGreatDoor
