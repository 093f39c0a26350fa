/-
  Texts of this proof, joined: BI VFrame VDoor LFrame PWalkB PWalkD.
-/
import Derived.Test.YtcaficenocblfaaGreatDoorSU00
import Derived.Test.YtcaficenocblfaaGreatDoorSU04
import Derived.Test.YtcaficenocblfaaGreatDoorSU05
import Derived.Test.YtcaficenocblfaaGreatDoorSU06
import Derived.Test.YtcaficenocblfaaGreatDoorTie
import Derived.OwnWalk
import Derived.Deep.RegionHeld3
import Derived.Deep.SlicePairs
import Derived.Carry
import Derived.Lib.LaidTab
import Derived.LaidMore
import Derived.Stop.Joined
import Derived.ChangeSame
import Derived.Laws.MakeOwn
set_option linter.unusedVariables false
set_option linter.unusedSimpArgs false
namespace Go.Proofs.YtcaficenocblfaaGreatDoor
open Go.RowKit

def Ar (w : World) (v : Value) (n : Nat) (f : Nat → Int) : Prop :=
  ∃ (adr : Option Addr) (cap b o : Nat), v = .slice adr n cap ∧ n ≤ cap ∧ cap ≤ maxLen ∧ (0 < n → adr = some ⟨b, o, none⟩) ∧ ∀ k, k < n → w.cell? ⟨b, o + k, none⟩ = some (.int .i64 (f k)) ∧ -9223372036854775808 ≤ f k ∧ f k ≤ 9223372036854775807
theorem Ar.later {w w' : World} {v : Value} {n : Nat} {f : Nat → Int} (h : Ar w v n f) (hb : Below w.heap.size w w') : Ar w' v n f := by
  obtain ⟨adr, cap, b, o, h1, h2, h3, h4, h5⟩ := h
  exact ⟨adr, cap, b, o, h1, h2, h3, h4, fun k hk => ⟨cell_later hb (h5 k hk).1, (h5 k hk).2⟩⟩
def Nb (v : Value) (d : Nat) : Prop := ∀ (a : Addr) (n cap : Nat), v = .slice (some a) n cap → 0 < n → a.block ≠ d
theorem Ar.un {w w' : World} {v : Value} {n : Nat} {f : Nat → Int} {d : Nat} {c : Int} (h : Ar w v n f) (hd : Nb v d) (hU : Un d c w w') : Ar w' v n f := by
  obtain ⟨adr, cap, b, o, h1, h2, h3, h4, h5⟩ := h
  refine ⟨adr, cap, b, o, h1, h2, h3, h4, fun k hk => ⟨hU.o _ _ ?_ (h5 k hk).1, (h5 k hk).2⟩⟩
  have e := h4 (by omega)
  subst e
  exact hd ⟨b, o, none⟩ n cap h1 (by omega)
def dotV (f g : Nat → Int) : Nat → Int
  | 0 => 0
  | n + 1 => dotV f g n + f n * g n
def sumV (f : Nat → Int) : Nat → Int
  | 0 => 0
  | n + 1 => sumV f n + f n
def rtX (V : Int) : Int := if V < 0 then 0 else if 85070591730234615865843651857942052864 ≤ V then 9223372036854775807 else rt V
set_option maxHeartbeats 1000000 in
theorem utake_any (d : Nat) (n a : Int) (o : Bool) (n0 : 0 ≤ n) (n1 : n ≤ 1000000000) (w : World) (c : w.cell? ⟨d, 0, none⟩ = some (.int .i64 n)) (f : w.frozen? ⟨d, 0, none⟩ = false) :
    Calls Tryz.prog 47 #[.pointer (some ⟨d, 0, none⟩), .int .i64 a, .bool o] w fun e w' => e = .returned (.int .i64 a) ∧ Un d (n + bi o) w w' := by
  have U0 : Hid (Un d n w w) := Un.same c f
  have U1 : Hid (Un d (n + 1) w (w.setCell ⟨d, 0, none⟩ (.int .i64 (n + 1)))) := Un.set c f
  cases o
  · have e0 : n + bi false = n := by unfold bi; simp
    rw [e0]
    go_enter Tryz.func47, Tryz.ntmps47
    go_wp2
    go_ret
    exact ⟨rfl, U0.out⟩
  · have e0 : n + bi true = n + 1 := by unfold bi; simp
    rw [e0]
    go_enter Tryz.func47, Tryz.ntmps47
    go_wp2
    go_ret
    exact ⟨rfl, U1.out⟩

theorem B12.noughts {b : Nat} {x y : Nat → Int} {w : World} (h : B12 b x y (w.alloc (.cells #[.int .u64 0, .int .u64 0, .int .u64 0, .int .u64 0, .int .u64 0, .int .u64 0, .int .u64 0, .int .u64 0, .int .u64 0, .int .u64 0, .int .u64 0, .int .u64 0] 116))) : B12 b x y (w.alloc (.cells #[.int .u64 0, .int .u64 0, .int .u64 0, .int .u64 0, .int .u64 0, .int .u64 0, .int .u64 0, .int .u64 0, .int .u64 0, .int .u64 0, .int .u64 0, .int .u64 0] 116)) := h

end Go.Proofs.YtcaficenocblfaaGreatDoor
set_option linter.unusedVariables false
set_option linter.unusedSimpArgs false
namespace Go.Proofs.YtcaficenocblfaaGreatDoor
open Go.RowKit

def il (f : Nat → Int) (n : Nat) : List Value := (List.range n).map (fun k => Value.int .i64 (f k))
theorem il_succ (f : Nat → Int) (n : Nat) : il f (n + 1) = il f n ++ [.int .i64 (f n)] := by unfold il; rw [List.range_succ, List.map_append]; rfl
theorem il_get (f : Nat → Int) (n k : Nat) (h : k < n) : (il f n)[k]? = some (.int .i64 (f k)) := by unfold il; rw [List.getElem?_map, List.getElem?_range h]; rfl
theorem il_len (f : Nat → Int) (n : Nat) : (il f n).length = n := by unfold il; simp
theorem dinfo_i64 : (Tryz.prog.info? 2).map (fun i => (i.zero, i.size, i.bytes)) = some (some (.int .i64 0), 1, 8) := by kernel_rfl
def Ow (base : Nat) (v : Value) : Prop := ∀ (a : Addr) (n cap : Nat), v = .slice (some a) n cap → 0 < n → base ≤ a.block
theorem ar_of_own {w : World} {base : Nat} {v : Value} {n : Nat} {f : Nat → Int} {e : TypeId} (h : w.ownsRow base e 1 v n (il f n)) (hr : ∀ k, k < n → -9223372036854775808 ≤ f k ∧ f k ≤ 9223372036854775807) : Ar w v n f ∧ Ow base v := by
  rcases h.2 with ⟨hn, h0⟩ | ⟨g, cap, cur, hv, hbs, hg, h1, h2, h3⟩
  · subst hn h0
    exact ⟨⟨none, 0, 0, 0, rfl, by omega, by unfold maxLen; omega, fun h => by omega, fun k hk => by omega⟩, fun a n cap e => by cases e⟩
  · subst hv
    refine ⟨⟨some ⟨g, 0, none⟩, cap, g, 0, rfl, h1, h2, fun _ => rfl, fun k hk => ⟨?_, hr k hk⟩⟩, fun a n' cap' e _ => ?_⟩
    · rw [Nat.zero_add, h.cellAt k (by omega), il_get f n k hk]
    · cases e; exact hbs
theorem Ow.nb {base d : Nat} {v : Value} (h : Ow base v) (hd : d < base) : Nb v d := fun a n cap e hn => by have := h a n cap e hn; omega
theorem Ow.mono {base base' : Nat} {v : Value} (h : Ow base v) (hb : base' ≤ base) : Ow base' v := fun a n cap e hn => Nat.le_trans hb (h a n cap e hn)
theorem below_drewN {B : Nat} {w w' : World} (h : Below B w w') (k : Nat) : Below B w (w'.drewN k) := ⟨h.os, h.tape, h.output, h.size, h.block⟩
theorem dbelow_grown' {w wr w1 : World} {e : TypeId} {size : Nat} {v : Value} {n : Nat} {xs : List Value} {o : Obj} {r : Option Nat} (h : wr.ownsRow w.heap.size e size v n xs) (hW : Below w.heap.size w wr) (hg : (wr.alloc o).grownBy w1 r) (hr : r = some w.heap.size) : Below w.heap.size w w1 := by
  refine (hW.alloc hW.size o).grown hg ?_ ?_
  · have := hW.size; simp; omega
  · intro k hk
    rw [hr] at hk
    have := Option.some.inj hk
    omega
set_option maxRecDepth 100000 in
set_option maxHeartbeats 4000000 in
theorem same_yes (va vb : Value) (n : Nat) (f : Nat → Int) (hn : n ≤ 70000) (w : World) (hA : Ar w va n f) (hB : Ar w vb n f) :
    Calls Tryz.prog 14 #[va, vb] w fun e w' => e = .returned (.bool true) ∧ Below w.heap.size w w' := by
  obtain ⟨adr, cap, b, o, rfl, k1, k2, k3, k4⟩ := hA
  obtain ⟨adq, caq, bq, oq, rfl, q1, q2, q3, q4⟩ := hB
  have HA : Hid (∀ k, k < n → w.cell? ⟨b, o + k, none⟩ = some (.int .i64 (f k)) ∧ w.cell? ⟨bq, oq + k, none⟩ = some (.int .i64 (f k))) := fun k hk => ⟨(k4 k hk).1, (q4 k hk).1⟩
  have HK : Hid (0 < n → adr = some ⟨b, o, none⟩ ∧ adq = some ⟨bq, oq, none⟩) := fun h => ⟨k3 h, q3 h⟩
  clear k3 k4 q3 q4
  go_enter Tryz.func14, Tryz.ntmps14
  go_wp2
  go_loopw [5] (fun s5 wr => ∃ j : Nat, j ≤ n ∧ s5 = .int .i64 (j : Int) ∧ Below w.heap.size w wr) (fun s5 _ => n - (intOf s5).toNat)
  case atStart => exact ⟨0, by omega, rfl, Below.refl _ _⟩
  case round =>
    obtain ⟨j, hj, rfl, hW⟩ := hrel
    by_cases hlt : j < n
    · have hjI : (j : Int) < (n : Int) := by omega
      obtain ⟨ea, eb⟩ := HK.out (by omega)
      subst ea eb
      obtain ⟨ca, cb⟩ := HA.out j hlt
      have cA : wr.cell? ⟨b, o + j, none⟩ = some (.int .i64 (f j)) := (hW.cell (World.block_lt_of_cell? _ _ ca)).trans ca
      have cB : wr.cell? ⟨bq, oq + j, none⟩ = some (.int .i64 (f j)) := (hW.cell (World.block_lt_of_cell? _ _ cb)).trans cb
      have hne : ((f j) != (f j)) = false := by simp
      have HW : Hid (Below w.heap.size w wr) := hW
      clear ca cb hW
      go_wp2
      go_quiet (fail)
      go_wp2
      go_roundw
      case rel => exact ⟨j + 1, by omega, by go_num, below_drewN HW.out _⟩
      case measure => simp [intOf]; omega
    · have HW : Hid (Below w.heap.size w wr) := hW
      have hjI : ¬ (j : Int) < (n : Int) := by omega
      clear hW
      go_wp2
      go_ret
      exact ⟨rfl, HW.out⟩
end Go.Proofs.YtcaficenocblfaaGreatDoor
set_option linter.unusedVariables false
set_option linter.unusedSimpArgs false
namespace Go.Proofs.YtcaficenocblfaaGreatDoor
open Go.RowKit

def cntV (O : Nat → Bool) : Nat → Int
  | 0 => 0
  | n + 1 => cntV O n + bi (O n)
theorem bi_rng (o : Bool) : 0 ≤ bi o ∧ bi o ≤ 1 := by unfold bi; split <;> omega
theorem cnt_rng (O : Nat → Bool) (n : Nat) : 0 ≤ cntV O n ∧ cntV O n ≤ n := by
  induction n with
  | zero => exact ⟨Int.le_refl _, Int.le_refl _⟩
  | succ n ih =>
    have := bi_rng (O n)
    have e : cntV O (n + 1) = cntV O n + bi (O n) := rfl
    rw [e]
    omega
theorem own_later {wr w1 : World} {B : Nat} {e : TypeId} {s : Nat} {v : Value} {n : Nat} {xs : List Value} (h : wr.ownsRow B e s v n xs) (hb : Below wr.heap.size wr w1) : w1.ownsRow B e s v n xs := by
  refine ⟨h.1, ?_⟩
  rcases h.2 with h0 | ⟨g, cap, cur, hv, hg, hh, r⟩
  · exact Or.inl h0
  · exact Or.inr ⟨g, cap, cur, hv, hg, (hb.block g (Array.getElem?_eq_some_iff.1 hh).1).trans hh, r⟩
theorem own_un {wr w1 : World} {B : Nat} {e : TypeId} {s : Nat} {v : Value} {n : Nat} {xs : List Value} {d : Nat} {c : Int} (h : wr.ownsRow B e s v n xs) (hU : Un d c wr w1) (hd : d < B) : w1.ownsRow B e s v n xs := by
  refine ⟨h.1, ?_⟩
  rcases h.2 with h0 | ⟨g, cap, cur, hv, hg, hh, r⟩
  · exact Or.inl h0
  · exact Or.inr ⟨g, cap, cur, hv, hg, (hU.k g (Array.getElem?_eq_some_iff.1 hh).1 (by omega)).trans hh, r⟩
theorem Un.grow {d : Nat} {c : Int} {w wr w1 : World} {o : Obj} {r : Option Nat} (hU : Un d c w wr) (hd : d < w.heap.size) (hg : (wr.alloc o).grownBy w1 r) (hr : ∀ k, r = some k → w.heap.size ≤ k) : Un d c w w1 := by
  have hs := hU.s
  have blk : ∀ i, i < w.heap.size → w1.heap[i]? = wr.heap[i]? := fun i hi => by
    rw [hg.block i (by rw [World.size_alloc]; omega) (fun e => by have := hr i e.symm; omega), Below.heap_alloc _ _ _ (by omega)]
  refine ⟨(World.cell?_of_block (w := wr) (blk d hd)).trans hU.c, (World.frozen?_of_block (w := wr) (blk d hd)).trans hU.f, ?_, ?_, ?_, ?_⟩
  · intro base w0 h1 h2 h3
    exact ((hU.b base w0 h1 h2 h3).alloc (by omega) o).grown hg (by rw [World.size_alloc]; omega) (fun k hk => by have := hr k hk; omega)
  · intro a v ha hc
    have hb := World.block_lt_of_cell? _ _ hc
    exact (World.cell?_of_block (w := wr) (blk a.block hb)).trans (hU.o a v ha hc)
  · have := hg.size
    rw [World.size_alloc] at this
    omega
  · intro i hi hn
    exact (blk i hi).trans (hU.k i hi hn)
theorem clv_rng (x : Int) : -9223372036854775808 ≤ clv x ∧ clv x ≤ 9223372036854775807 := by
  unfold clv
  repeat' split
  all_goals omega

theorem Un.chain {d : Nat} {c c' : Int} {w w1 w2 : World} (h : Un d c w w1) (k : Un d c' w1 w2) : Un d c' w w2 where
  c := k.c
  f := k.f
  b := fun base w0 h1 h2 h3 => k.b base w0 h1 (Nat.le_trans h2 h.s) (h.b base w0 h1 h2 h3)
  o := fun a v ha hc => k.o a v ha (h.o a v ha hc)
  s := Nat.le_trans h.s k.s
  k := fun i hi hn => (k.k i (Nat.lt_of_lt_of_le hi h.s) hn).trans (h.k i hi hn)

theorem cc_later {w w' : World} {a b : Addr} {x y : Value} (h : w.cell? a = some x ∧ w.cell? b = some y) (hb : Below w.heap.size w w') : w'.cell? a = some x ∧ w'.cell? b = some y := ⟨cell_later hb h.1, cell_later hb h.2⟩
theorem hidUO {d : Nat} {c : Int} {w a b : World} {B : Nat} {e : TypeId} {s : Nat} {v : Value} {n : Nat} {xs : List Value} (h : Hid (Un d c w a ∧ a.ownsRow B e s v n xs)) (hb : Below a.heap.size a b) : Hid (Un d c w b ∧ b.ownsRow B e s v n xs) := ⟨h.out.1.ahead hb, own_later h.out.2 hb⟩

end Go.Proofs.YtcaficenocblfaaGreatDoor
set_option linter.unusedVariables false
set_option linter.unusedSimpArgs false
namespace Go.Proofs.YtcaficenocblfaaGreatDoor
open Go.RowKit

set_option maxRecDepth 100000 in
set_option maxHeartbeats 8000000 in
theorem umean_any (va : Value) (n : Nat) (f : Nat → Int) (d : Nat) (c : Int) (hn : n ≤ 70000) (hn0 : 0 < n) (c0 : 0 ≤ c) (c1 : c ≤ 1000000000) (w : World) (hA : Ar w va n f) (hc : w.cell? ⟨d, 0, none⟩ = some (.int .i64 c)) (hf : w.frozen? ⟨d, 0, none⟩ = false) :
    Calls Tryz.prog 24 #[.pointer (some ⟨d, 0, none⟩), va] w fun e w' => e = .returned (.int .i64 (clv (quo (sumV f n) (n : Int)))) ∧ Un d (c + bi (ovv (quo (sumV f n) (n : Int)))) w w' := by
  obtain ⟨adr, cap, b, o, rfl, k1, k2, k3, k4⟩ := hA
  unfold maxLen at *
  have HA : Hid (∀ k, k < n → w.cell? ⟨b, o + k, none⟩ = some (.int .i64 (f k)) ∧ -9223372036854775808 ≤ f k ∧ f k ≤ 9223372036854775807) := k4
  have HK : Hid (0 < n → adr = some ⟨b, o, none⟩) := k3
  have HC : Hid (w.cell? ⟨d, 0, none⟩ = some (.int .i64 c) ∧ w.frozen? ⟨d, 0, none⟩ = false) := ⟨hc, hf⟩
  clear k3 k4 hc hf
  obtain ⟨RX, hRX⟩ : ∃ x : Int, clv (quo (sumV f n) (n : Int)) = x := ⟨_, rfl⟩
  obtain ⟨RO, hRO⟩ : ∃ x : Bool, ovv (quo (sumV f n) (n : Int)) = x := ⟨_, rfl⟩
  have HR : Hid (clv (quo (sumV f n) (n : Int)) = RX ∧ ovv (quo (sumV f n) (n : Int)) = RO) := ⟨hRX, hRO⟩
  rw [hRX, hRO]
  clear hRX hRO
  go_enter Tryz.func24, Tryz.ntmps24
  go_wp2
  go_loopw [6] (fun si wr => ∃ (j : Nat) (p q : Int), j ≤ n ∧ si = .int .i64 (j : Int) ∧ B12 w.heap.size (dg p) (dg q) wr ∧ Hid (Sm p q (sumV f j) ((j : Int) * 9223372036854775808)) ∧ Below w.heap.size w wr) (fun si _ => n - (intOf si).toNat)
  case atStart =>
    refine ⟨0, 0, 0, by omega, rfl, ?_, ⟨by omega, by omega, by omega, by omega, rfl⟩, bel1 _ _⟩
    have h := B12.new w (dg 0) (dg 0) 116
    simp only [dg_zero] at h
    exact B12.noughts h
  case round =>
    obtain ⟨j, p, q, hj, rfl, hS, hSm, hW⟩ := hrel
    by_cases hlt : j < n
    · have hjI : (j : Int) < (n : Int) := by omega
      have ea := HK.out (by omega)
      subst ea
      obtain ⟨ca, a0, a1⟩ := HA.out j hlt
      have cA : wr.cell? ⟨b, o + j, none⟩ = some (.int .i64 (f j)) := (hW.cell (World.block_lt_of_cell? _ _ ca)).trans ca
      clear ca
      have CM : Hid (∀ W : World, Calls Tryz.prog 49 #[.agg #[.int .u64 (dg (p) 0), .int .u64 (dg (p) 1), .int .u64 (dg (p) 2), .int .u64 (dg (p) 3), .int .u64 (dg (p) 4), .int .u64 (dg (p) 5), .int .u64 (dg (q) 0), .int .u64 (dg (q) 1), .int .u64 (dg (q) 2), .int .u64 (dg (q) 3), .int .u64 (dg (q) 4), .int .u64 (dg (q) 5)], .int .i64 (f j), .int .i64 0] W fun e w' => ∃ p' q', e = .returned (.agg #[.int .u64 (dg (p') 0), .int .u64 (dg (p') 1), .int .u64 (dg (p') 2), .int .u64 (dg (p') 3), .int .u64 (dg (p') 4), .int .u64 (dg (p') 5), .int .u64 (dg (q') 0), .int .u64 (dg (q') 1), .int .u64 (dg (q') 2), .int .u64 (dg (q') 3), .int .u64 (dg (q') 4), .int .u64 (dg (q') 5)]) ∧ Sm p' q' (sumV f (j + 1)) (((j + 1 : Nat) : Int) * 9223372036854775808) ∧ Below W.heap.size W w') := by
        intro W
        refine (sadd_any p q _ _ (f j) 0 (by omega) hSm.out a0 a1 W).mono ?_
        rintro e w' ⟨p', q', rfl, h, hb⟩
        refine ⟨p', q', rfl, ?_, hb⟩
        have hv := h.v; have hp := h.p1; have hq := h.q1; rw [Nat.mul_zero, Int.pow_zero, Int.mul_one] at hv hp hq; exact ⟨h.p0, h.q0, by omega, by omega, hv⟩
      clear hSm
      go_upto_region 5 with fail
      have CD : B12 w.heap.size (dg p) (dg q) wr.drew := hS.later ((Below.refl _ _).drew)
      have CV : Hid (Below w.heap.size w wr.drew) := hW.drew
      have xA : wr.drew.cell? ⟨b, o + j, none⟩ = some (.int .i64 (f j)) := cA

      clear cA hS
      clear hW
      have x0 : wr.drew.cell? ⟨w.heap.size, 0, none⟩ = some (.int .u64 (dg p 0)) := CD.c 0 (by omega); have x1 : wr.drew.cell? ⟨w.heap.size, 1, none⟩ = some (.int .u64 (dg p 1)) := CD.c 1 (by omega); have x2 : wr.drew.cell? ⟨w.heap.size, 2, none⟩ = some (.int .u64 (dg p 2)) := CD.c 2 (by omega); have x3 : wr.drew.cell? ⟨w.heap.size, 3, none⟩ = some (.int .u64 (dg p 3)) := CD.c 3 (by omega); have x4 : wr.drew.cell? ⟨w.heap.size, 4, none⟩ = some (.int .u64 (dg p 4)) := CD.c 4 (by omega); have x5 : wr.drew.cell? ⟨w.heap.size, 5, none⟩ = some (.int .u64 (dg p 5)) := CD.c 5 (by omega); have x6 : wr.drew.cell? ⟨w.heap.size, 6, none⟩ = some (.int .u64 (dg q 0)) := CD.d 0 (by omega); have x7 : wr.drew.cell? ⟨w.heap.size, 7, none⟩ = some (.int .u64 (dg q 1)) := CD.d 1 (by omega); have x8 : wr.drew.cell? ⟨w.heap.size, 8, none⟩ = some (.int .u64 (dg q 2)) := CD.d 2 (by omega); have x9 : wr.drew.cell? ⟨w.heap.size, 9, none⟩ = some (.int .u64 (dg q 3)) := CD.d 3 (by omega); have x10 : wr.drew.cell? ⟨w.heap.size, 10, none⟩ = some (.int .u64 (dg q 4)) := CD.d 4 (by omega); have x11 : wr.drew.cell? ⟨w.heap.size, 11, none⟩ = some (.int .u64 (dg q 5)) := CD.d 5 (by omega); have xf0 : wr.drew.frozen? ⟨w.heap.size, 0, none⟩ = false := CD.f 0 (by omega); have xf1 : wr.drew.frozen? ⟨w.heap.size, 1, none⟩ = false := CD.f 1 (by omega); have xf2 : wr.drew.frozen? ⟨w.heap.size, 2, none⟩ = false := CD.f 2 (by omega); have xf3 : wr.drew.frozen? ⟨w.heap.size, 3, none⟩ = false := CD.f 3 (by omega); have xf4 : wr.drew.frozen? ⟨w.heap.size, 4, none⟩ = false := CD.f 4 (by omega); have xf5 : wr.drew.frozen? ⟨w.heap.size, 5, none⟩ = false := CD.f 5 (by omega); have xf6 : wr.drew.frozen? ⟨w.heap.size, 6, none⟩ = false := CD.g 0 (by omega); have xf7 : wr.drew.frozen? ⟨w.heap.size, 7, none⟩ = false := CD.g 1 (by omega); have xf8 : wr.drew.frozen? ⟨w.heap.size, 8, none⟩ = false := CD.g 2 (by omega); have xf9 : wr.drew.frozen? ⟨w.heap.size, 9, none⟩ = false := CD.g 3 (by omega); have xf10 : wr.drew.frozen? ⟨w.heap.size, 10, none⟩ = false := CD.g 4 (by omega); have xf11 : wr.drew.frozen? ⟨w.heap.size, 11, none⟩ = false := CD.g 5 (by omega)
      go_region_with (first
        | (go_at_call 49; refine (CM.out _).mono ?_; rintro e wz ⟨p', q', rfl, hSm, hb⟩; clear xA ; clear x0 x1 x2 x3 x4 x5 x6 x7 x8 x9 x10 x11 xf0 xf1 xf2 xf3 xf4 xf5 xf6 xf7 xf8 xf9 xf10 xf11; replace CD := CD.later hb; replace CV := hidD' CV hb; clear hb; have x0 : wz.cell? ⟨w.heap.size, 0, none⟩ = some (.int .u64 (dg p 0)) := CD.c 0 (by omega); have x1 : wz.cell? ⟨w.heap.size, 1, none⟩ = some (.int .u64 (dg p 1)) := CD.c 1 (by omega); have x2 : wz.cell? ⟨w.heap.size, 2, none⟩ = some (.int .u64 (dg p 2)) := CD.c 2 (by omega); have x3 : wz.cell? ⟨w.heap.size, 3, none⟩ = some (.int .u64 (dg p 3)) := CD.c 3 (by omega); have x4 : wz.cell? ⟨w.heap.size, 4, none⟩ = some (.int .u64 (dg p 4)) := CD.c 4 (by omega); have x5 : wz.cell? ⟨w.heap.size, 5, none⟩ = some (.int .u64 (dg p 5)) := CD.c 5 (by omega); have x6 : wz.cell? ⟨w.heap.size, 6, none⟩ = some (.int .u64 (dg q 0)) := CD.d 0 (by omega); have x7 : wz.cell? ⟨w.heap.size, 7, none⟩ = some (.int .u64 (dg q 1)) := CD.d 1 (by omega); have x8 : wz.cell? ⟨w.heap.size, 8, none⟩ = some (.int .u64 (dg q 2)) := CD.d 2 (by omega); have x9 : wz.cell? ⟨w.heap.size, 9, none⟩ = some (.int .u64 (dg q 3)) := CD.d 3 (by omega); have x10 : wz.cell? ⟨w.heap.size, 10, none⟩ = some (.int .u64 (dg q 4)) := CD.d 4 (by omega); have x11 : wz.cell? ⟨w.heap.size, 11, none⟩ = some (.int .u64 (dg q 5)) := CD.d 5 (by omega); have xf0 : wz.frozen? ⟨w.heap.size, 0, none⟩ = false := CD.f 0 (by omega); have xf1 : wz.frozen? ⟨w.heap.size, 1, none⟩ = false := CD.f 1 (by omega); have xf2 : wz.frozen? ⟨w.heap.size, 2, none⟩ = false := CD.f 2 (by omega); have xf3 : wz.frozen? ⟨w.heap.size, 3, none⟩ = false := CD.f 3 (by omega); have xf4 : wz.frozen? ⟨w.heap.size, 4, none⟩ = false := CD.f 4 (by omega); have xf5 : wz.frozen? ⟨w.heap.size, 5, none⟩ = false := CD.f 5 (by omega); have xf6 : wz.frozen? ⟨w.heap.size, 6, none⟩ = false := CD.g 0 (by omega); have xf7 : wz.frozen? ⟨w.heap.size, 7, none⟩ = false := CD.g 1 (by omega); have xf8 : wz.frozen? ⟨w.heap.size, 8, none⟩ = false := CD.g 2 (by omega); have xf9 : wz.frozen? ⟨w.heap.size, 9, none⟩ = false := CD.g 3 (by omega); have xf10 : wz.frozen? ⟨w.heap.size, 10, none⟩ = false := CD.g 4 (by omega); have xf11 : wz.frozen? ⟨w.heap.size, 11, none⟩ = false := CD.g 5 (by omega)))
      all_goals
        have D5 := (CD.allP (dg p')).allN (dg q')
        have W5 := bel6N (bel6 CV.out (Nat.le_refl _) (dg p')) (Nat.le_refl _) (dg q')
        have HA5 : Hid (Sm p' q' (sumV f (j + 1)) (((j + 1 : Nat) : Int) * 9223372036854775808)) := hSm
        clear x0 x1 x2 x3 x4 x5 x6 x7 x8 x9 x10 x11 xf0 xf1 xf2 xf3 xf4 xf5 xf6 xf7 xf8 xf9 xf10 xf11
        clear CD CV CM hSm
        go_wp2
        go_roundw
        case rel => exact ⟨j + 1, p', q', by omega, by go_num, D5, HA5, W5⟩
        case measure => simp [intOf]; omega
    · obtain rfl : j = n := by omega
      have CE : Hid (∀ W : World, Calls Tryz.prog 50 #[.agg #[.int .u64 (dg (p) 0), .int .u64 (dg (p) 1), .int .u64 (dg (p) 2), .int .u64 (dg (p) 3), .int .u64 (dg (p) 4), .int .u64 (dg (p) 5), .int .u64 (dg (q) 0), .int .u64 (dg (q) 1), .int .u64 (dg (q) 2), .int .u64 (dg (q) 3), .int .u64 (dg (q) 4), .int .u64 (dg (q) 5)], .int .i64 (j : Int)] W fun e w' => e = .returned (.tuple #[.int .i64 RX, .bool RO]) ∧ Below W.heap.size W w') := by
        intro W
        rw [← HR.out.1, ← HR.out.2]
        exact squo_any p q _ _ (j : Int) hSm.out (by omega) (by omega) (by omega) (by omega) W
      obtain ⟨cU, fU⟩ := HC.out
      have dl := World.block_lt_of_cell? _ _ cU
      have cR : wr.cell? ⟨d, 0, none⟩ = some (.int .i64 c) := (hW.cell dl).trans cU
      have fR : wr.frozen? ⟨d, 0, none⟩ = false := (hW.frozen dl).trans fU
      have HW : Hid (Below w.heap.size w wr) := hW
      clear hSm hW HR
      have x0 : wr.cell? ⟨w.heap.size, 0, none⟩ = some (.int .u64 (dg p 0)) := hS.c 0 (by omega); have x1 : wr.cell? ⟨w.heap.size, 1, none⟩ = some (.int .u64 (dg p 1)) := hS.c 1 (by omega); have x2 : wr.cell? ⟨w.heap.size, 2, none⟩ = some (.int .u64 (dg p 2)) := hS.c 2 (by omega); have x3 : wr.cell? ⟨w.heap.size, 3, none⟩ = some (.int .u64 (dg p 3)) := hS.c 3 (by omega); have x4 : wr.cell? ⟨w.heap.size, 4, none⟩ = some (.int .u64 (dg p 4)) := hS.c 4 (by omega); have x5 : wr.cell? ⟨w.heap.size, 5, none⟩ = some (.int .u64 (dg p 5)) := hS.c 5 (by omega); have x6 : wr.cell? ⟨w.heap.size, 6, none⟩ = some (.int .u64 (dg q 0)) := hS.d 0 (by omega); have x7 : wr.cell? ⟨w.heap.size, 7, none⟩ = some (.int .u64 (dg q 1)) := hS.d 1 (by omega); have x8 : wr.cell? ⟨w.heap.size, 8, none⟩ = some (.int .u64 (dg q 2)) := hS.d 2 (by omega); have x9 : wr.cell? ⟨w.heap.size, 9, none⟩ = some (.int .u64 (dg q 3)) := hS.d 3 (by omega); have x10 : wr.cell? ⟨w.heap.size, 10, none⟩ = some (.int .u64 (dg q 4)) := hS.d 4 (by omega); have x11 : wr.cell? ⟨w.heap.size, 11, none⟩ = some (.int .u64 (dg q 5)) := hS.d 5 (by omega); have xf0 : wr.frozen? ⟨w.heap.size, 0, none⟩ = false := hS.f 0 (by omega); have xf1 : wr.frozen? ⟨w.heap.size, 1, none⟩ = false := hS.f 1 (by omega); have xf2 : wr.frozen? ⟨w.heap.size, 2, none⟩ = false := hS.f 2 (by omega); have xf3 : wr.frozen? ⟨w.heap.size, 3, none⟩ = false := hS.f 3 (by omega); have xf4 : wr.frozen? ⟨w.heap.size, 4, none⟩ = false := hS.f 4 (by omega); have xf5 : wr.frozen? ⟨w.heap.size, 5, none⟩ = false := hS.f 5 (by omega); have xf6 : wr.frozen? ⟨w.heap.size, 6, none⟩ = false := hS.g 0 (by omega); have xf7 : wr.frozen? ⟨w.heap.size, 7, none⟩ = false := hS.g 1 (by omega); have xf8 : wr.frozen? ⟨w.heap.size, 8, none⟩ = false := hS.g 2 (by omega); have xf9 : wr.frozen? ⟨w.heap.size, 9, none⟩ = false := hS.g 3 (by omega); have xf10 : wr.frozen? ⟨w.heap.size, 10, none⟩ = false := hS.g 4 (by omega); have xf11 : wr.frozen? ⟨w.heap.size, 11, none⟩ = false := hS.g 5 (by omega)
      clear hS
      go_wp2_with fail
      refine (CE.out _).mono ?_
      rintro e w2 ⟨rfl, hb⟩
      clear x0 x1 x2 x3 x4 x5 x6 x7 x8 x9 x10 x11 xf0 xf1 xf2 xf3 xf4 xf5 xf6 xf7 xf8 xf9 xf10 xf11
      have c2 := cell_later hb cR
      have f2 := frozen_later hb cR fR
      have W2 : Hid (Below w.heap.size w w2) := bchain HW.out hb
      clear hb cR fR CE HW cU fU
      go_wp2_with fail
      refine (utake_any d c RX RO c0 c1 _ c2 f2).mono ?_
      rintro e w3 ⟨rfl, hU⟩
      have U3 : Hid (Un d (c + bi RO) w w3) := Un.after W2.out hU
      clear hU c2 f2 W2
      go_wp2
      go_ret
      exact ⟨rfl, U3.out⟩

end Go.Proofs.YtcaficenocblfaaGreatDoor
set_option linter.unusedVariables false
namespace Go.Proofs.YtcaficenocblfaaGreatDoor
open Go.ChangeShapes Go.WideShapes Go.ChangeAt Go.RowKit Go.Joins

theorem laidOutV : laidOutB Tryz.prog = true := by kernel_rfl
theorem cellsFx : Tryz.prog.cellsOf 36 = 1 := by kernel_rfl
theorem add_noneV (b o n : Nat) : (⟨b, o, none⟩ : Addr).add n = ⟨b, o + n, none⟩ := by
  unfold Addr.add
  split
  · subst n; rfl
  · rfl
end Go.Proofs.YtcaficenocblfaaGreatDoor
set_option linter.unusedVariables false
namespace Go.Proofs.YtcaficenocblfaaGreatDoor
open Go.ChangeShapes Go.WideShapes Go.ChangeAt Go.RowKit Go.Joins

def laidTab : List (String × DataW Unit) := [("math/bits.deBruijn64tab", Rows.laid_math_bits_deBruijn64tab)]
theorem gTab : Tryz.prog.globalNamed "math/bits.deBruijn64tab" = some 2 := by kernel_rfl
theorem tTab : (Tryz.prog.globals[2]?).map (·.type) = some 206 := by kernel_rfl
theorem cellsTab : Tryz.prog.cellsOf 206 = 64 := by kernel_rfl
theorem cellsU8 : Tryz.prog.cellsOf 5 = 1 := by kernel_rfl

theorem door_met (os : Os) (args : Array Value) : laidMetH Tryz.prog laidTab ((World.doorLaid Tryz.prog 400 os).forCall (fun _ _ => 0) ⟨#[], args, []⟩).memory :=
  laidMetH_of_parts3 (fuel := 8) (laidMet_of_run' 8 (by kernel_rfl) (by kernel_rfl)) (by kernel_rfl) (by kernel_rfl)

theorem tab_of_laid {W : World} (h : laidMetH Tryz.prog laidTab W) : TabAt W := by
  rw [MakeChecks.laidMetH_plain _ _ _ (by kernel_rfl)] at h
  have h2 : laidMet Tryz.prog [("math/bits.deBruijn64tab", Lib.tabData .u8 (Lib.deBruijn64tab.map (fun n : Nat => (n : Int))))] W := h
  have hT := Lib.tabIs_of_head gTab tTab Tryz.underlying206 Tryz.underlying5 cellsU8 cellsTab h2
  intro j hj
  have hc := hT.cell gTab j (by rw [List.length_map]; exact hj)
  rw [hc]
  have hj2 : j < Lib.deBruijn64tab.length := hj
  simp [List.getD, hj2]
end Go.Proofs.YtcaficenocblfaaGreatDoor
set_option linter.unusedVariables false
namespace Go.Proofs.YtcaficenocblfaaGreatDoor
open Go.ChangeShapes Go.WideShapes Go.ChangeAt Go.RowKit Go.Joins

theorem cellsInt : Tryz.prog.cellsOf 3 = 1 := by kernel_rfl
set_option maxRecDepth 100000 in
theorem fixes_raw {H : Type} {enc : TypeId × Value → H} {w : World} {fuel : Nat} {v : Value} {x : DataW H × List MemPlace}
    (h : DataW.trod enc Tryz.prog w 0 (fun _ => true) true fuel 23 [v] = some x) : ∃ (n : Nat) (f : Nat → Int), Ar w v n f := by
  rcases Go.Deep.open_slice Tryz.underlying23 h with h0 | ⟨a, len, cap, m, n, D, Pl, hc, hb, hl, hm, hmm, -, hx⟩
  · have hc := h0.1
    simp at hc
    subst hc
    exact ⟨0, fun _ => 0, none, 0, 0, 0, rfl, Nat.le_refl _, Nat.zero_le _, fun h => by omega, fun j hj => by omega⟩
  · simp at hc
    subst hc
    simp only [if_true] at hmm
    subst hmm
    obtain ⟨ab, ao, spot⟩ := a
    have hint : ∀ i, i < len → ∃ q : Int, w.cell? ((⟨ab, ao, spot⟩ : Addr).add i) = some (.int .i64 q) ∧ (Lit.int .i64 q).wf = true := fun i hi => by
      obtain ⟨cs', h1, h2⟩ := hx i (by omega)
      rw [cellsFx] at h1
      obtain ⟨_, hlen, hcell⟩ := World.cells?_some h1
      obtain ⟨x, e0, _, wx⟩ := DataW.trod_int Tryz.underlying36 h2
      subst e0
      have e1 := hcell 0 (by omega)
      rw [Go.Deep.add_add] at e1
      exact ⟨x, by simpa using e1, wx⟩
    obtain ⟨q, hq⟩ := Go.Deep.choose_lt hint
    refine ⟨len, q, some ⟨ab, ao, spot⟩, m, ab, ao, rfl, hl, hm, ?_, ?_⟩
    · intro h0
      have hspot : spot = none := by simpa [Addr.add] using World.cell?_spot (hq 0 h0).1
      rw [hspot]
    · intro j hj
      have hspot : spot = none := by simpa [Addr.add] using World.cell?_spot (hq 0 (by omega)).1
      subst hspot
      obtain ⟨d0, d1⟩ := hq j hj
      rw [add_noneV] at d0
      exact ⟨d0, bounds_i64 d1⟩
set_option maxRecDepth 100000 in
theorem ints_raw {H : Type} {enc : TypeId × Value → H} {w : World} {fuel : Nat} {v : Value} {x : DataW H × List MemPlace}
    (h : DataW.trod enc Tryz.prog w 0 (fun _ => true) true fuel 22 [v] = some x) : ∃ (n : Nat) (f : Nat → Int), Ar w v n f := by
  rcases Go.Deep.open_slice Tryz.underlying22 h with h0 | ⟨a, len, cap, m, n, D, Pl, hc, hb, hl, hm, hmm, -, hx⟩
  · have hc := h0.1
    simp at hc
    subst hc
    exact ⟨0, fun _ => 0, none, 0, 0, 0, rfl, Nat.le_refl _, Nat.zero_le _, fun h => by omega, fun j hj => by omega⟩
  · simp at hc
    subst hc
    simp only [if_true] at hmm
    subst hmm
    obtain ⟨ab, ao, spot⟩ := a
    have hint : ∀ i, i < len → ∃ q : Int, w.cell? ((⟨ab, ao, spot⟩ : Addr).add i) = some (.int .i64 q) ∧ (Lit.int .i64 q).wf = true := fun i hi => by
      obtain ⟨cs', h1, h2⟩ := hx i (by omega)
      rw [cellsInt] at h1
      obtain ⟨_, hlen, hcell⟩ := World.cells?_some h1
      obtain ⟨x, e0, _, wx⟩ := DataW.trod_int Tryz.underlying3 h2
      subst e0
      have e1 := hcell 0 (by omega)
      rw [Go.Deep.add_add] at e1
      exact ⟨x, by simpa using e1, wx⟩
    obtain ⟨q, hq⟩ := Go.Deep.choose_lt hint
    refine ⟨len, q, some ⟨ab, ao, spot⟩, m, ab, ao, rfl, hl, hm, ?_, ?_⟩
    · intro h0
      have hspot : spot = none := by simpa [Addr.add] using World.cell?_spot (hq 0 h0).1
      rw [hspot]
    · intro j hj
      have hspot : spot = none := by simpa [Addr.add] using World.cell?_spot (hq 0 (by omega)).1
      subst hspot
      obtain ⟨d0, d1⟩ := hq j hj
      rw [add_noneV] at d0
      exact ⟨d0, bounds_i64 d1⟩
theorem cellsNl : Tryz.prog.cellsOf 25 = 2 := by kernel_rfl
theorem cellsExa : Tryz.prog.cellsOf 42 = 2 := by kernel_rfl
set_option maxRecDepth 100000 in
theorem open_net {H : Type} {enc : TypeId × Value → H} {w : World} {r : Reach} {b0 : Nat} {v : Value} {d : DataW H} {p : List MemPlace}
    (hv : Value.okWide Tryz.prog w r b0 25 v) (h : DataW.Trod enc Tryz.prog w 0 (fun _ => true) true 25 v d p) :
    ∃ (u0 u1 : Value) (m lp : Nat) (f P : Nat → Int), v = .agg #[u0, u1] ∧ Ar w u0 m f ∧ Ar w u1 lp P := by
  obtain ⟨c0, c1, y0, y1, m, rfl, rfl, rfl, hy0, hy1⟩ := open_agg2 Tryz.underlying25 (by kernel_rfl) cellsNl hv h
  obtain ⟨n0, f0, h0⟩ := ints_raw hy0
  obtain ⟨n1, f1, h1⟩ := fixes_raw hy1
  exact ⟨c0, c1, n0, n1, f0, f1, rfl, h0, h1⟩
end Go.Proofs.YtcaficenocblfaaGreatDoor
set_option linter.unusedVariables false
set_option linter.unusedSimpArgs false
namespace Go.Proofs.YtcaficenocblfaaGreatDoor
open Go.RowKit

structure B2 (b : Nat) (x y : Value) (w : World) : Prop where
  c0 : w.cell? ⟨b, 0, none⟩ = some x
  c1 : w.cell? ⟨b, 1, none⟩ = some y
  f0 : w.frozen? ⟨b, 0, none⟩ = false
  f1 : w.frozen? ⟨b, 1, none⟩ = false
theorem B2.new (w : World) (x y : Value) (t : TypeId) : B2 w.heap.size x y (w.alloc (.cells #[x, y] t)) where
  c0 := by simp [go_sem]
  c1 := by simp [go_sem]
  f0 := by simp [go_sem]
  f1 := by simp [go_sem]
theorem B2.later {b : Nat} {x y : Value} {w w' : World} (h : B2 b x y w) (hb : Below w.heap.size w w') : B2 b x y w' where
  c0 := cell_later hb h.c0
  c1 := cell_later hb h.c1
  f0 := frozen_later hb h.c0 h.f0
  f1 := frozen_later hb h.c1 h.f1
theorem B2.far {b : Nat} {x y : Value} {w : World} {p : Addr} (h : B2 b x y w) (u : Value) (hp : p.block ≠ b) : B2 b x y (w.setCell p u) where
  c0 := cell_set hp h.c0
  c1 := cell_set hp h.c1
  f0 := by rw [World.frozen?_setCell]; exact h.f0
  f1 := by rw [World.frozen?_setCell]; exact h.f1
theorem B2.set0 {b : Nat} {x y : Value} {w : World} (h : B2 b x y w) (u : Value) : B2 b u y (w.setCell ⟨b, 0, none⟩ u) := by
  have c0 := h.c0
  have c1 := h.c1
  have f0 := h.f0
  have f1 := h.f1
  exact ⟨by simp [go_sem, c0], by simp [go_sem, c1], by simp [go_sem, f0], by simp [go_sem, f1]⟩
theorem B2.set1 {b : Nat} {x y : Value} {w : World} (h : B2 b x y w) (u : Value) : B2 b x u (w.setCell ⟨b, 1, none⟩ u) := by
  have c0 := h.c0
  have c1 := h.c1
  have f0 := h.f0
  have f1 := h.f1
  exact ⟨by simp [go_sem, c0], by simp [go_sem, c1], by simp [go_sem, f0], by simp [go_sem, f1]⟩

set_option maxHeartbeats 2000000 in
theorem prod1_of (ts ms ls x y hp lp tp mp lq tr mr lr : Int) (w : World)
    (CM : Hid (∀ W : World, Calls Tryz.prog 107 #[.int .i64 x, .int .i64 y] W fun e w' => e = .returned (.agg #[.int .i64 hp, .int .u64 lp]) ∧ Below W.heap.size W w'))
    (CE : Hid (∀ W : World, Calls Tryz.prog 81 #[.agg #[.int .i64 hp, .int .u64 lp]] W fun e w' => e = .returned (.agg #[.int .i64 tp, .int .u64 mp, .int .u64 lq]) ∧ Below W.heap.size W w'))
    (CP : Hid (∀ W : World, Calls Tryz.prog 106 #[.agg #[.int .i64 ts, .int .u64 ms, .int .u64 ls], .agg #[.int .i64 tp, .int .u64 mp, .int .u64 lq]] W fun e w' => e = .returned (.agg #[.int .i64 tr, .int .u64 mr, .int .u64 lr]) ∧ Below W.heap.size W w')) :
    Calls Tryz.prog 126 #[.agg #[.int .i64 ts, .int .u64 ms, .int .u64 ls], .int .i64 x, .int .i64 y] w fun e w' => e = .returned (.agg #[.int .i64 tr, .int .u64 mr, .int .u64 lr]) ∧ Below w.heap.size w w' := by
  have A0 := (B3.new w (.int .i64 ts) (.int .u64 ms) (.int .u64 ls) 150).later (bel1 _ (.cells #[.int .i64 0, .int .u64 0, .int .u64 0] 150))
  have R0 := B3.new (w.alloc (.cells #[.int .i64 ts, .int .u64 ms, .int .u64 ls] 150)) (.int .i64 0) (.int .u64 0) (.int .u64 0) 150
  have W0 := bel2 w (.cells #[.int .i64 ts, .int .u64 ms, .int .u64 ls] 150) (.cells #[.int .i64 0, .int .u64 0, .int .u64 0] 150)
  simp only [World.size_alloc] at R0
  go_enter Tryz.func126, Tryz.ntmps126
  go_upto_region 1 with fail
  generalize (w.alloc (.cells #[.int .i64 ts, .int .u64 ms, .int .u64 ls] 150)).alloc (.cells #[.int .i64 0, .int .u64 0, .int .u64 0] 150) = w1 at *
  have hd1 : Below w1.heap.size w1 w1.drew := (Below.refl _ _).drew
  have CO := R0.later hd1
  have A := A0.later hd1
  have CW : Hid (Below w.heap.size w w1.drew) := W0.drew
  have CC0 := CO.c0
  have CC1 := CO.c1
  have CC2 := CO.c2
  have CF0 := CO.f0
  have CF1 := CO.f1
  have CF2 := CO.f2
  clear hd1 A0 R0 W0
  go_region_held3 (fun w' => w'.cell? ⟨w.heap.size, 0, none⟩ = some (.int .i64 ts) ∧ w'.cell? ⟨w.heap.size, 1, none⟩ = some (.int .u64 ms) ∧ w'.cell? ⟨w.heap.size, 2, none⟩ = some (.int .u64 ls))
    (first | exact ⟨A.c0, A.c1, A.c2⟩ | (have A' := ((A.far (p := ⟨w.heap.size + 1, 0, none⟩) (.int .i64 tr) (by dsimp only; omega)).far (p := ⟨w.heap.size + 1, 1, none⟩) (.int .u64 mr) (by dsimp only; omega)).far (p := ⟨w.heap.size + 1, 2, none⟩) (.int .u64 lr) (by dsimp only; omega); exact ⟨A'.c0, A'.c1, A'.c2⟩))
    (first
      | (go_at_call 107; refine (CM.out _).mono ?_; rintro e wz ⟨rfl, hb⟩; replace A := A.later hb; replace CC0 := cell_later hb CC0; replace CC1 := cell_later hb CC1; replace CC2 := cell_later hb CC2; replace CF0 := frozen_later hb CO.c0 CF0; replace CF1 := frozen_later hb CO.c1 CF1; replace CF2 := frozen_later hb CO.c2 CF2; replace CO := CO.later hb; replace CW := hidD CW hb; clear hb)
      | (go_at_call 81; refine (CE.out _).mono ?_; rintro e wz ⟨rfl, hb⟩; replace A := A.later hb; replace CC0 := cell_later hb CC0; replace CC1 := cell_later hb CC1; replace CC2 := cell_later hb CC2; replace CF0 := frozen_later hb CO.c0 CF0; replace CF1 := frozen_later hb CO.c1 CF1; replace CF2 := frozen_later hb CO.c2 CF2; replace CO := CO.later hb; replace CW := hidD CW hb; clear hb)
      | (go_at_call 106; refine (CP.out _).mono ?_; rintro e wz ⟨rfl, hb⟩; replace A := A.later hb; replace CC0 := cell_later hb CC0; replace CC1 := cell_later hb CC1; replace CC2 := cell_later hb CC2; replace CF0 := frozen_later hb CO.c0 CF0; replace CF1 := frozen_later hb CO.c1 CF1; replace CF2 := frozen_later hb CO.c2 CF2; replace CO := CO.later hb; replace CW := hidD CW hb; clear hb))
  have W5 := CW.out
  have S0 := ((CO.set0 (.int .i64 tr)).set1 (.int .u64 mr)).set2 (.int .u64 lr)
  have s0 := S0.c0
  have s1 := S0.c1
  have s2 := S0.c2
  clear A CC0 CC1 CC2 CF0 CF1 CF2 CO CW CM CE CP S0
  go_wp2
  exact bodyPost_ret (v := .agg #[.int .i64 tr, .int .u64 mr, .int .u64 lr]) (by simp [results, Tryz.results126, go_sem, s0, s1, s2]) rfl ⟨rfl, ((W5.setCell (by dsimp only; omega) _).setCell (by dsimp only; omega) _).setCell (by dsimp only; omega) _⟩
theorem prod1_any (s x y : Int) (x0 : -9223372036854775808 ≤ x) (x1 : x ≤ 9223372036854775807) (y0 : -9223372036854775808 ≤ y) (y1 : y ≤ 9223372036854775807) (w : World) :
    Calls Tryz.prog 126 #[.agg #[.int .i64 (t3 (s)), .int .u64 (m3 (s)), .int .u64 (lo (s))], .int .i64 x, .int .i64 y] w fun e w' => e = .returned (.agg #[.int .i64 (t3 (s + x * y)), .int .u64 (m3 (s + x * y)), .int .u64 (lo (s + x * y))]) ∧ Below w.heap.size w w' := by
  obtain ⟨p0, p1⟩ := mul_in x y x0 x1 y0 y1
  exact prod1_of _ _ _ x y _ _ _ _ _ _ _ _ w (fun W => mul_any x y x0 x1 y0 y1 W) (fun W => extend_any (x * y) (by omega) (by omega) W) (fun W => plus_any s (x * y) W)

set_option maxRecDepth 100000 in
set_option maxHeartbeats 4000000 in
theorem gatherPairs_any (va vb : Value) (n : Nat) (f g : Nat → Int) (hn : n ≤ 70000) (w : World) (hA : Ar w va n f) (hB : Ar w vb n g) :
    Calls Tryz.prog 125 #[va, vb, .agg #[.int .i64 0, .int .u64 0, .int .u64 0], .func (.func 126) #[] #[]] w fun e w' => e = .returned (.agg #[.int .i64 (t3 (dotV f g n)), .int .u64 (m3 (dotV f g n)), .int .u64 (lo (dotV f g n))]) ∧ Below w.heap.size w w' := by
  obtain ⟨adr, cap, b, o, rfl, k1, k2, k3, k4⟩ := hA
  obtain ⟨adq, caq, bq, oq, rfl, q1, q2, q3, q4⟩ := hB
  unfold maxLen at *
  have HA : Hid (∀ k, k < n → w.cell? ⟨b, o + k, none⟩ = some (.int .i64 (f k)) ∧ -9223372036854775808 ≤ f k ∧ f k ≤ 9223372036854775807) := k4
  have HK : Hid (0 < n → adr = some ⟨b, o, none⟩) := k3
  have HB : Hid (∀ k, k < n → w.cell? ⟨bq, oq + k, none⟩ = some (.int .i64 (g k)) ∧ -9223372036854775808 ≤ g k ∧ g k ≤ 9223372036854775807) := q4
  have HL : Hid (0 < n → adq = some ⟨bq, oq, none⟩) := q3
  clear k3 k4 q3 q4
  go_enter Tryz.func125, Tryz.ntmps125
  go_wp2
  go_loopw [13] (fun si wr => ∃ j : Nat, j ≤ n ∧ si = .int .i64 (j : Int) ∧ B3 w.heap.size (.int .i64 (t3 (dotV f g j))) (.int .u64 (m3 (dotV f g j))) (.int .u64 (lo (dotV f g j))) wr ∧ B3 (w.heap.size + 1) (.int .i64 0) (.int .u64 0) (.int .u64 0) wr ∧ Below w.heap.size w wr) (fun si _ => n - (intOf si).toNat)
  case atStart =>
    have R0 := B3.new (w.alloc (.cells #[.int .i64 0, .int .u64 0, .int .u64 0] 150)) (.int .i64 0) (.int .u64 0) (.int .u64 0) 150
    simp only [World.size_alloc] at R0
    exact ⟨0, by omega, rfl, (B3.new w (.int .i64 0) (.int .u64 0) (.int .u64 0) 150).later (bel1 _ _), R0, bel2 w _ _⟩
  case round =>
    obtain ⟨j, hj, rfl, hS, hR, hW⟩ := hrel
    by_cases hlt : j < n
    · have hjI : (j : Int) < (n : Int) := by omega
      have ea := HK.out (by omega)
      subst ea
      obtain ⟨ca, a0, a1⟩ := HA.out j hlt
      have cA : wr.cell? ⟨b, o + j, none⟩ = some (.int .i64 (f j)) := (hW.cell (World.block_lt_of_cell? _ _ ca)).trans ca
      clear ca
      have eb := HL.out (by omega)
      subst eb
      obtain ⟨cb, b0, b1⟩ := HB.out j hlt
      have cB : wr.cell? ⟨bq, oq + j, none⟩ = some (.int .i64 (g j)) := (hW.cell (World.block_lt_of_cell? _ _ cb)).trans cb
      clear cb
      have CM : Hid (∀ W : World, Calls Tryz.prog 126 #[.agg #[.int .i64 (t3 (dotV f g j)), .int .u64 (m3 (dotV f g j)), .int .u64 (lo (dotV f g j))], .int .i64 (f j), .int .i64 (g j)] W fun e w' => e = .returned (.agg #[.int .i64 (t3 (dotV f g (j + 1))), .int .u64 (m3 (dotV f g (j + 1))), .int .u64 (lo (dotV f g (j + 1)))]) ∧ Below W.heap.size W w') := fun W => prod1_any (dotV f g j) (f j) (g j) a0 a1 b0 b1 W
      clear a0 a1 b0 b1
      generalize t3 (dotV f g j) = tj at *
      generalize m3 (dotV f g j) = mj at *
      generalize lo (dotV f g j) = lj at *
      obtain ⟨tk, htk⟩ : ∃ x, t3 (dotV f g (j + 1)) = x := ⟨_, rfl⟩
      obtain ⟨mk, hmk⟩ : ∃ x, m3 (dotV f g (j + 1)) = x := ⟨_, rfl⟩
      obtain ⟨lk, hlk⟩ : ∃ x, lo (dotV f g (j + 1)) = x := ⟨_, rfl⟩
      rw [htk, hmk, hlk] at CM
      have HE : Hid (t3 (dotV f g (j + 1)) = tk ∧ m3 (dotV f g (j + 1)) = mk ∧ lo (dotV f g (j + 1)) = lk) := ⟨htk, hmk, hlk⟩
      clear htk hmk hlk
      go_upto_region 4 with fail
      have CD := hS.drew
      have CR := hR.drew
      have CV : Hid (Below w.heap.size w wr.drew) := hW.drew
      have xB : wr.drew.cell? ⟨bq, oq + j, none⟩ = some (.int .i64 (g j)) := cB
      have y0 := CD.c0
      have y1 := CD.c1
      have y2 := CD.c2
      clear cA cB hS hR hW
      go_region_with (first
        | (go_at_call 126; refine (CM.out _).mono ?_; rintro e wz ⟨rfl, hb⟩; clear xB y0 y1 y2; replace CD := CD.later hb; replace CR := CR.later hb; replace CV := hidD' CV hb; clear hb; have y0 := CD.c0; have y1 := CD.c1; have y2 := CD.c2; have z0 := CD.f0; have z1 := CD.f1; have z2 := CD.f2))
      all_goals
        have D5 := ((CD.set0 (.int .i64 tk)).set1 (.int .u64 mk)).set2 (.int .u64 lk)
        have R5 := ((CR.far (p := ⟨w.heap.size, 0, none⟩) (.int .i64 tk) (by dsimp only; omega)).far (p := ⟨w.heap.size, 1, none⟩) (.int .u64 mk) (by dsimp only; omega)).far (p := ⟨w.heap.size, 2, none⟩) (.int .u64 lk) (by dsimp only; omega)
        have W5 := ((CV.out.setCell (p := ⟨w.heap.size, 0, none⟩) (Nat.le_refl _) (.int .i64 tk)).setCell (p := ⟨w.heap.size, 1, none⟩) (Nat.le_refl _) (.int .u64 mk)).setCell (p := ⟨w.heap.size, 2, none⟩) (Nat.le_refl _) (.int .u64 lk)
        obtain ⟨rfl, rfl, rfl⟩ := HE.out
        clear CD CR CV CM y0 y1 y2 z0 z1 z2 HE
        go_wp2
        go_roundw
        case rel => exact ⟨j + 1, by omega, by go_num, D5, R5, W5⟩
        case measure => simp [intOf]; omega
    · obtain rfl : j = n := by omega
      have hjI : ¬ (j : Int) < (j : Int) := by omega
      have y0 := hS.c0
      have y1 := hS.c1
      have y2 := hS.c2
      have z0 := hR.c0
      have z1 := hR.c1
      have z2 := hR.c2
      have u0 := hR.f0
      have u1 := hR.f1
      have u2 := hR.f2
      have S0 := ((hR.set0 (.int .i64 (t3 (dotV f g j)))).set1 (.int .u64 (m3 (dotV f g j)))).set2 (.int .u64 (lo (dotV f g j)))
      have s0 := S0.c0
      have s1 := S0.c1
      have s2 := S0.c2
      have W5 := ((hW.setCell (p := ⟨w.heap.size + 1, 0, none⟩) (by dsimp only; omega) (.int .i64 (t3 (dotV f g j)))).setCell (p := ⟨w.heap.size + 1, 1, none⟩) (by dsimp only; omega) (.int .u64 (m3 (dotV f g j)))).setCell (p := ⟨w.heap.size + 1, 2, none⟩) (by dsimp only; omega) (.int .u64 (lo (dotV f g j)))
      clear hS hR hW S0 HA HB HK HL
      go_wp2
      exact bodyPost_ret (v := .agg #[.int .i64 (t3 (dotV f g j)), .int .u64 (m3 (dotV f g j)), .int .u64 (lo (dotV f g j))]) (by simp [results, Tryz.results125, go_sem, s0, s1, s2]) rfl ⟨rfl, W5⟩

set_option maxHeartbeats 1000000 in
theorem products_any (va vb : Value) (n : Nat) (f g : Nat → Int) (hn : n ≤ 70000) (w : World) (hA : Ar w va n f) (hB : Ar w vb n g) :
    Calls Tryz.prog 112 #[va, vb] w fun e w' => e = .returned (.agg #[.int .i64 (t3 (dotV f g n)), .int .u64 (m3 (dotV f g n)), .int .u64 (lo (dotV f g n))]) ∧ Below w.heap.size w w' := by
  have hb0 := bel1 w (.cells #[.int .i64 0, .int .u64 0, .int .u64 0] 150)
  have CG : Hid (Calls Tryz.prog 125 #[va, vb, .agg #[.int .i64 0, .int .u64 0, .int .u64 0], .func (.func 126) #[] #[]] (w.alloc (.cells #[.int .i64 0, .int .u64 0, .int .u64 0] 150)) fun e w' => e = .returned (.agg #[.int .i64 (t3 (dotV f g n)), .int .u64 (m3 (dotV f g n)), .int .u64 (lo (dotV f g n))]) ∧ Below (w.alloc (.cells #[.int .i64 0, .int .u64 0, .int .u64 0] 150)).heap.size (w.alloc (.cells #[.int .i64 0, .int .u64 0, .int .u64 0] 150)) w') := gatherPairs_any va vb n f g hn _ (hA.later hb0) (hB.later hb0)
  have R0 := B3.new w (.int .i64 0) (.int .u64 0) (.int .u64 0) 150
  obtain ⟨adr, cap, b, o, rfl, -, -, -, -⟩ := hA
  obtain ⟨adq, caq, bq, oq, rfl, -, -, -, -⟩ := hB
  generalize t3 (dotV f g n) = tj at *
  generalize m3 (dotV f g n) = mj at *
  generalize lo (dotV f g n) = lj at *
  go_enter Tryz.func112, Tryz.ntmps112
  go_wp2_with fail
  refine CG.out.mono ?_
  rintro e w1 ⟨rfl, hb⟩
  have W1 := bchain hb0 hb
  have R1 := R0.later hb
  have z0 := R1.c0
  have z1 := R1.c1
  have z2 := R1.c2
  have u0 := R1.f0
  have u1 := R1.f1
  have u2 := R1.f2
  have S0 := ((R1.set0 (.int .i64 tj)).set1 (.int .u64 mj)).set2 (.int .u64 lj)
  have s0 := S0.c0
  have s1 := S0.c1
  have s2 := S0.c2
  have W5 := ((W1.setCell (p := ⟨w.heap.size, 0, none⟩) (Nat.le_refl _) (.int .i64 tj)).setCell (p := ⟨w.heap.size, 1, none⟩) (Nat.le_refl _) (.int .u64 mj)).setCell (p := ⟨w.heap.size, 2, none⟩) (Nat.le_refl _) (.int .u64 lj)
  clear R0 R1 S0 hb hb0 W1 CG
  go_wp2
  exact bodyPost_ret (v := .agg #[.int .i64 tj, .int .u64 mj, .int .u64 lj]) (by simp [results, Tryz.results112, go_sem, s0, s1, s2]) rfl ⟨rfl, W5⟩

set_option maxHeartbeats 2000000 in
theorem plus1_of (hs ls x hp lp hr lr : Int) (w : World)
    (CM : Hid (∀ W : World, Calls Tryz.prog 65 #[.int .i64 x] W fun e w' => e = .returned (.agg #[.int .i64 hp, .int .u64 lp]) ∧ Below W.heap.size W w'))
    (CP : Hid (∀ W : World, Calls Tryz.prog 64 #[.agg #[.int .i64 hs, .int .u64 ls], .agg #[.int .i64 hp, .int .u64 lp]] W fun e w' => e = .returned (.agg #[.int .i64 hr, .int .u64 lr]) ∧ Below W.heap.size W w')) :
    Calls Tryz.prog 37 #[.agg #[.int .i64 hs, .int .u64 ls], .int .i64 x] w fun e w' => e = .returned (.agg #[.int .i64 hr, .int .u64 lr]) ∧ Below w.heap.size w w' := by
  have A0 := (B2.new w (.int .i64 hs) (.int .u64 ls) 99).later (bel1 _ (.cells #[.int .i64 0, .int .u64 0] 99))
  have R0 := B2.new (w.alloc (.cells #[.int .i64 hs, .int .u64 ls] 99)) (.int .i64 0) (.int .u64 0) 99
  have W0 := bel2 w (.cells #[.int .i64 hs, .int .u64 ls] 99) (.cells #[.int .i64 0, .int .u64 0] 99)
  simp only [World.size_alloc] at R0
  go_enter Tryz.func37, Tryz.ntmps37
  go_upto_region 1 with fail
  generalize (w.alloc (.cells #[.int .i64 hs, .int .u64 ls] 99)).alloc (.cells #[.int .i64 0, .int .u64 0] 99) = w1 at *
  have hd1 : Below w1.heap.size w1 w1.drew := (Below.refl _ _).drew
  have CO := R0.later hd1
  have A := A0.later hd1
  have CW : Hid (Below w.heap.size w w1.drew) := W0.drew
  have CC0 := CO.c0
  have CC1 := CO.c1
  have CF0 := CO.f0
  have CF1 := CO.f1
  clear hd1 A0 R0 W0
  go_region_held3 (fun w' => w'.cell? ⟨w.heap.size, 0, none⟩ = some (.int .i64 hs) ∧ w'.cell? ⟨w.heap.size, 1, none⟩ = some (.int .u64 ls))
    (first | exact ⟨A.c0, A.c1⟩ | (have A' := (A.far (p := ⟨w.heap.size + 1, 0, none⟩) (.int .i64 hr) (by dsimp only; omega)).far (p := ⟨w.heap.size + 1, 1, none⟩) (.int .u64 lr) (by dsimp only; omega); exact ⟨A'.c0, A'.c1⟩))
    (first
      | (go_at_call 65; refine (CM.out _).mono ?_; rintro e wz ⟨rfl, hb⟩; replace A := A.later hb; replace CC0 := cell_later hb CC0; replace CC1 := cell_later hb CC1; replace CF0 := frozen_later hb CO.c0 CF0; replace CF1 := frozen_later hb CO.c1 CF1; replace CO := CO.later hb; replace CW := hidD CW hb; clear hb)
      | (go_at_call 64; refine (CP.out _).mono ?_; rintro e wz ⟨rfl, hb⟩; replace A := A.later hb; replace CC0 := cell_later hb CC0; replace CC1 := cell_later hb CC1; replace CF0 := frozen_later hb CO.c0 CF0; replace CF1 := frozen_later hb CO.c1 CF1; replace CO := CO.later hb; replace CW := hidD CW hb; clear hb))
  have W5 := CW.out
  have S0 := (CO.set0 (.int .i64 hr)).set1 (.int .u64 lr)
  have s0 := S0.c0
  have s1 := S0.c1
  clear A CC0 CC1 CF0 CF1 CO CW CM CP S0
  go_wp2
  exact bodyPost_ret (v := .agg #[.int .i64 hr, .int .u64 lr]) (by simp [results, Tryz.results37, go_sem, s0, s1]) rfl ⟨rfl, (W5.setCell (by dsimp only; omega) _).setCell (by dsimp only; omega) _⟩
theorem plus1_any (s x : Int) (x0 : -9223372036854775808 ≤ x) (x1 : x ≤ 9223372036854775807) (w : World) :
    Calls Tryz.prog 37 #[.agg #[.int .i64 (hi (s)), .int .u64 (lo (s))], .int .i64 x] w fun e w' => e = .returned (.agg #[.int .i64 (hi (s + x)), .int .u64 (lo (s + x))]) ∧ Below w.heap.size w w' :=
  plus1_of _ _ x _ _ _ _ w (fun W => of_any x x0 x1 W) (fun W => add_any s x W)

set_option maxRecDepth 100000 in
set_option maxHeartbeats 4000000 in
theorem gather_any (va : Value) (n : Nat) (f : Nat → Int) (w : World) (hA : Ar w va n f) :
    Calls Tryz.prog 68 #[va, .agg #[.int .i64 0, .int .u64 0], .func (.func 37) #[] #[]] w fun e w' => e = .returned (.agg #[.int .i64 (hi (sumV f n)), .int .u64 (lo (sumV f n))]) ∧ Below w.heap.size w w' := by
  obtain ⟨adr, cap, b, o, rfl, k1, k2, k3, k4⟩ := hA
  unfold maxLen at *
  have HA : Hid (∀ k, k < n → w.cell? ⟨b, o + k, none⟩ = some (.int .i64 (f k)) ∧ -9223372036854775808 ≤ f k ∧ f k ≤ 9223372036854775807) := k4
  have HK : Hid (0 < n → adr = some ⟨b, o, none⟩) := k3
  clear k3 k4
  go_enter Tryz.func68, Tryz.ntmps68
  go_wp2
  go_loopw [11] (fun si wr => ∃ j : Nat, j ≤ n ∧ si = .int .i64 (j : Int) ∧ B2 w.heap.size (.int .i64 (hi (sumV f j))) (.int .u64 (lo (sumV f j))) wr ∧ B2 (w.heap.size + 1) (.int .i64 0) (.int .u64 0) wr ∧ Below w.heap.size w wr) (fun si _ => n - (intOf si).toNat)
  case atStart =>
    have R0 := B2.new (w.alloc (.cells #[.int .i64 0, .int .u64 0] 99)) (.int .i64 0) (.int .u64 0) 99
    simp only [World.size_alloc] at R0
    exact ⟨0, by omega, rfl, (B2.new w (.int .i64 0) (.int .u64 0) 99).later (bel1 _ _), R0, bel2 w _ _⟩
  case round =>
    obtain ⟨j, hj, rfl, hS, hR, hW⟩ := hrel
    by_cases hlt : j < n
    · have hjI : (j : Int) < (n : Int) := by omega
      have ea := HK.out (by omega)
      subst ea
      obtain ⟨ca, a0, a1⟩ := HA.out j hlt
      have cA : wr.cell? ⟨b, o + j, none⟩ = some (.int .i64 (f j)) := (hW.cell (World.block_lt_of_cell? _ _ ca)).trans ca
      clear ca
      have CM : Hid (∀ W : World, Calls Tryz.prog 37 #[.agg #[.int .i64 (hi (sumV f j)), .int .u64 (lo (sumV f j))], .int .i64 (f j)] W fun e w' => e = .returned (.agg #[.int .i64 (hi (sumV f (j + 1))), .int .u64 (lo (sumV f (j + 1)))]) ∧ Below W.heap.size W w') := fun W => plus1_any (sumV f j) (f j) a0 a1 W
      clear a0 a1
      generalize hi (sumV f j) = tj at *
      generalize lo (sumV f j) = lj at *
      obtain ⟨tk, htk⟩ : ∃ x, hi (sumV f (j + 1)) = x := ⟨_, rfl⟩
      obtain ⟨lk, hlk⟩ : ∃ x, lo (sumV f (j + 1)) = x := ⟨_, rfl⟩
      rw [htk, hlk] at CM
      have HE : Hid (hi (sumV f (j + 1)) = tk ∧ lo (sumV f (j + 1)) = lk) := ⟨htk, hlk⟩
      clear htk hlk
      have y0 := hS.c0
      have y1 := hS.c1
      have HW : Hid (Below w.heap.size w wr) := hW
      clear hW
      go_wp2_with (go_at_call 37; refine (CM.out _).mono ?_; rintro e wz ⟨rfl, hb⟩; clear cA y0 y1; replace hS := hS.later hb; replace hR := hR.later hb; replace HW := hidD' HW hb; clear hb; have y0 := hS.c0; have y1 := hS.c1; have z0 := hS.f0; have z1 := hS.f1)
      have D5 := (hS.set0 (.int .i64 tk)).set1 (.int .u64 lk)
      have R5 := (hR.far (p := ⟨w.heap.size, 0, none⟩) (.int .i64 tk) (by dsimp only; omega)).far (p := ⟨w.heap.size, 1, none⟩) (.int .u64 lk) (by dsimp only; omega)
      have W5 := (HW.out.setCell (p := ⟨w.heap.size, 0, none⟩) (Nat.le_refl _) (.int .i64 tk)).setCell (p := ⟨w.heap.size, 1, none⟩) (Nat.le_refl _) (.int .u64 lk)
      obtain ⟨rfl, rfl⟩ := HE.out
      go_roundw
      case rel => exact ⟨j + 1, by omega, by go_num, D5, R5, W5⟩
      case measure => simp [intOf]; omega
    · obtain rfl : j = n := by omega
      have hjI : ¬ (j : Int) < (j : Int) := by omega
      have y0 := hS.c0
      have y1 := hS.c1
      have z0 := hR.c0
      have z1 := hR.c1
      have u0 := hR.f0
      have u1 := hR.f1
      have S0 := (hR.set0 (.int .i64 (hi (sumV f j)))).set1 (.int .u64 (lo (sumV f j)))
      have s0 := S0.c0
      have s1 := S0.c1
      have W5 := (hW.setCell (p := ⟨w.heap.size + 1, 0, none⟩) (by dsimp only; omega) (.int .i64 (hi (sumV f j)))).setCell (p := ⟨w.heap.size + 1, 1, none⟩) (by dsimp only; omega) (.int .u64 (lo (sumV f j)))
      clear hS hR hW S0 HA HK
      go_wp2
      exact bodyPost_ret (v := .agg #[.int .i64 (hi (sumV f j)), .int .u64 (lo (sumV f j))]) (by simp [results, Tryz.results68, go_sem, s0, s1]) rfl ⟨rfl, W5⟩

set_option maxHeartbeats 1000000 in
theorem total_any (va : Value) (n : Nat) (f : Nat → Int) (w : World) (hA : Ar w va n f) :
    Calls Tryz.prog 41 #[va] w fun e w' => e = .returned (.agg #[.int .i64 (hi (sumV f n)), .int .u64 (lo (sumV f n))]) ∧ Below w.heap.size w w' := by
  have hb0 := bel1 w (.cells #[.int .i64 0, .int .u64 0] 99)
  have CG : Hid (Calls Tryz.prog 68 #[va, .agg #[.int .i64 0, .int .u64 0], .func (.func 37) #[] #[]] (w.alloc (.cells #[.int .i64 0, .int .u64 0] 99)) fun e w' => e = .returned (.agg #[.int .i64 (hi (sumV f n)), .int .u64 (lo (sumV f n))]) ∧ Below (w.alloc (.cells #[.int .i64 0, .int .u64 0] 99)).heap.size (w.alloc (.cells #[.int .i64 0, .int .u64 0] 99)) w') := gather_any va n f _ (hA.later hb0)
  have R0 := B2.new w (.int .i64 0) (.int .u64 0) 99
  obtain ⟨adr, cap, b, o, rfl, -, -, -, -⟩ := hA
  generalize hi (sumV f n) = tj at *
  generalize lo (sumV f n) = lj at *
  go_enter Tryz.func41, Tryz.ntmps41
  go_wp2_with fail
  refine CG.out.mono ?_
  rintro e w1 ⟨rfl, hb⟩
  have W1 := bchain hb0 hb
  have R1 := R0.later hb
  have z0 := R1.c0
  have z1 := R1.c1
  have u0 := R1.f0
  have u1 := R1.f1
  have S0 := (R1.set0 (.int .i64 tj)).set1 (.int .u64 lj)
  have s0 := S0.c0
  have s1 := S0.c1
  have W5 := (W1.setCell (p := ⟨w.heap.size, 0, none⟩) (Nat.le_refl _) (.int .i64 tj)).setCell (p := ⟨w.heap.size, 1, none⟩) (Nat.le_refl _) (.int .u64 lj)
  clear R0 R1 S0 hb hb0 W1 CG
  go_wp2
  exact bodyPost_ret (v := .agg #[.int .i64 tj, .int .u64 lj]) (by simp [results, Tryz.results41, go_sem, s0, s1]) rfl ⟨rfl, W5⟩

set_option maxHeartbeats 1000000 in
theorem vhold_nil (v : Int) (h0 : -170141183460469231731687303715884105728 ≤ v) (h1 : v ≤ 170141183460469231731687303715884105727) (w : World) :
    Calls Tryz.prog 67 #[.pointer none, .agg #[.int .i64 (hi (v)), .int .u64 (lo (v))]] w fun e w' => e = .returned (.int .i64 (clv v)) ∧ Below w.heap.size w w' := by
  obtain ⟨k0, k1⟩ := clv_fit v
  have CC : Hid (∀ W : World, Calls Tryz.prog 99 #[.agg #[.int .i64 (hi (v)), .int .u64 (lo (v))]] W fun e w' => e = .returned (.tuple #[.int .i64 (clv v), .bool (ovv v)]) ∧ Below W.heap.size W w') := fun W => clamp_any v h0 h1 W
  generalize clv v = x at *
  generalize ovv v = y at *
  go_enter Tryz.func67, Tryz.ntmps67
  go_wp2_with fail
  refine (CC.out _).mono ?_
  rintro e w1 ⟨rfl, hb⟩
  have W1 := bchain (bel1 w _) hb
  clear hb
  go_wp2_with fail
  refine (take_nil _ _ _).mono ?_
  rintro e w2 ⟨rfl, hz⟩
  subst hz
  clear CC
  go_wp2
  go_ret
  exact ⟨rfl, W1⟩

set_option maxHeartbeats 1000000 in
theorem vhold_un (v : Int) (h0 : -170141183460469231731687303715884105728 ≤ v) (h1 : v ≤ 170141183460469231731687303715884105727) (d : Nat) (n : Int) (n0 : 0 ≤ n) (n1 : n ≤ 1000000000) (w : World) (c : w.cell? ⟨d, 0, none⟩ = some (.int .i64 n)) (f : w.frozen? ⟨d, 0, none⟩ = false) :
    Calls Tryz.prog 67 #[.pointer (some ⟨d, 0, none⟩), .agg #[.int .i64 (hi (v)), .int .u64 (lo (v))]] w fun e w' => e = .returned (.int .i64 (clv v)) ∧ Un d (n + bi (ovv v)) w w' := by
  obtain ⟨k0, k1⟩ := clv_fit v
  have CC : Hid (∀ W : World, Calls Tryz.prog 99 #[.agg #[.int .i64 (hi (v)), .int .u64 (lo (v))]] W fun e w' => e = .returned (.tuple #[.int .i64 (clv v), .bool (ovv v)]) ∧ Below W.heap.size W w') := fun W => clamp_any v h0 h1 W
  generalize clv v = x at *
  generalize ovv v = y at *
  go_enter Tryz.func67, Tryz.ntmps67
  go_wp2_with fail
  refine (CC.out _).mono ?_
  rintro e w1 ⟨rfl, hb⟩
  have W1 := bchain (bel1 w _) hb
  clear hb
  have c1 := cell_later W1 c
  have f1 := frozen_later W1 c f
  go_wp2_with fail
  refine (take_un d n _ _ n0 n1 _ c1 f1).mono ?_
  rintro e w2 ⟨rfl, hU⟩
  have hV := Un.after W1 hU
  clear hU c1 f1 c f CC
  go_wp2
  go_ret
  exact ⟨rfl, hV⟩

set_option maxHeartbeats 1000000 in
theorem vmean_nil (v m : Int) (h0 : -170141183460469231731687303715884105728 ≤ v) (h1 : v ≤ 170141183460469231731687303715884105727) (m0 : 0 < m) (m1 : m ≤ 9223372036854775807) (q0 : -170141183460469231731687303715884105728 ≤ quo v m) (q1 : quo v m ≤ 170141183460469231731687303715884105727) (w : World) :
    Calls Tryz.prog 40 #[.pointer none, .agg #[.int .i64 (hi (v)), .int .u64 (lo (v))], .int .i64 m] w fun e w' => e = .returned (.int .i64 (clv (quo v m))) ∧ Below w.heap.size w w' := by
  have CQ : Hid (∀ W : World, Calls Tryz.prog 66 #[.agg #[.int .i64 (hi (v)), .int .u64 (lo (v))], .int .i64 m] W fun e w' => e = .returned (.tuple #[.agg #[.int .i64 (hi (quo v m)), .int .u64 (lo (quo v m))], .bool true]) ∧ Below W.heap.size W w') := fun W => quo_any v m h0 h1 (by omega) m1 (by omega) W
  have HV : Hid (∀ W : World, Calls Tryz.prog 67 #[.pointer none, .agg #[.int .i64 (hi (quo v m)), .int .u64 (lo (quo v m))]] W fun e w' => e = .returned (.int .i64 (clv (quo v m))) ∧ Below W.heap.size W w') := fun W => vhold_nil (quo v m) q0 q1 W
  obtain ⟨k0, k1⟩ := clv_fit (quo v m)
  have hmI : wrap64 m = m := by rw [w64, sg_id m (by omega) (by omega)]
  generalize clv (quo v m) = x at *
  generalize hi (quo v m) = qh at *
  generalize lo (quo v m) = ql at *
  clear q0 q1
  go_enter Tryz.func40, Tryz.ntmps40
  go_wp2_with fail
  refine (CQ.out _).mono ?_
  rintro e w1 ⟨rfl, hb⟩
  have W1 := bchain (bel1 w _) hb
  have B1 := B2.new w1 (.int .i64 qh) (.int .u64 ql) 99
  have s0 := B1.c0
  have s1 := B1.c1
  have W1' := bchain W1 (bel1 w1 (.cells #[.int .i64 qh, .int .u64 ql] 99))
  clear hb CQ B1 W1
  go_wp2_with fail
  refine (HV.out _).mono ?_
  rintro e w2 ⟨rfl, hb⟩
  have W2 := bchain W1' hb
  clear hb HV
  go_wp2
  go_ret
  exact ⟨rfl, W2⟩

set_option maxHeartbeats 1000000 in
theorem vmean_un (v m : Int) (h0 : -170141183460469231731687303715884105728 ≤ v) (h1 : v ≤ 170141183460469231731687303715884105727) (m0 : 0 < m) (m1 : m ≤ 9223372036854775807) (q0 : -170141183460469231731687303715884105728 ≤ quo v m) (q1 : quo v m ≤ 170141183460469231731687303715884105727) (d : Nat) (n : Int) (n0 : 0 ≤ n) (n1 : n ≤ 1000000000) (w : World) (c : w.cell? ⟨d, 0, none⟩ = some (.int .i64 n)) (f : w.frozen? ⟨d, 0, none⟩ = false) :
    Calls Tryz.prog 40 #[.pointer (some ⟨d, 0, none⟩), .agg #[.int .i64 (hi (v)), .int .u64 (lo (v))], .int .i64 m] w fun e w' => e = .returned (.int .i64 (clv (quo v m))) ∧ Un d (n + bi (ovv (quo v m))) w w' := by
  have CQ : Hid (∀ W : World, Calls Tryz.prog 66 #[.agg #[.int .i64 (hi (v)), .int .u64 (lo (v))], .int .i64 m] W fun e w' => e = .returned (.tuple #[.agg #[.int .i64 (hi (quo v m)), .int .u64 (lo (quo v m))], .bool true]) ∧ Below W.heap.size W w') := fun W => quo_any v m h0 h1 (by omega) m1 (by omega) W
  have HV : Hid (∀ W : World, W.cell? ⟨d, 0, none⟩ = some (.int .i64 n) → W.frozen? ⟨d, 0, none⟩ = false → Calls Tryz.prog 67 #[.pointer (some ⟨d, 0, none⟩), .agg #[.int .i64 (hi (quo v m)), .int .u64 (lo (quo v m))]] W fun e w' => e = .returned (.int .i64 (clv (quo v m))) ∧ Un d (n + bi (ovv (quo v m))) W w') := fun W hc hf => vhold_un (quo v m) q0 q1 d n n0 n1 W hc hf
  obtain ⟨k0, k1⟩ := clv_fit (quo v m)
  have hmI : wrap64 m = m := by rw [w64, sg_id m (by omega) (by omega)]
  generalize clv (quo v m) = x at *
  generalize bi (ovv (quo v m)) = z at *
  generalize hi (quo v m) = qh at *
  generalize lo (quo v m) = ql at *
  clear q0 q1
  go_enter Tryz.func40, Tryz.ntmps40
  go_wp2_with fail
  refine (CQ.out _).mono ?_
  rintro e w1 ⟨rfl, hb⟩
  have W1 := bchain (bel1 w _) hb
  have B1 := B2.new w1 (.int .i64 qh) (.int .u64 ql) 99
  have s0 := B1.c0
  have s1 := B1.c1
  have W1' := bchain W1 (bel1 w1 (.cells #[.int .i64 qh, .int .u64 ql] 99))
  have c1 := cell_later W1' c
  have f1 := frozen_later W1' c f
  clear hb CQ B1 W1
  go_wp2_with fail
  refine (HV.out _ c1 f1).mono ?_
  rintro e w2 ⟨rfl, hU⟩
  have hV := Un.after W1' hU
  clear hU c1 f1 c f HV
  go_wp2
  go_ret
  exact ⟨rfl, hV⟩

theorem dotV_rng (va vb : Value) (n : Nat) (f g : Nat → Int) (hn : n ≤ 70000) (w : World) (hA : Ar w va n f) (hB : Ar w vb n g) : -3138550867693340381917894711603833208051177722232017256448 ≤ dotV f g n ∧ dotV f g n ≤ 3138550867693340381917894711603833208051177722232017256447 := by
  obtain ⟨_, _, _, _, _, _, _, _, h1⟩ := hA
  obtain ⟨_, _, _, _, _, _, _, _, h2⟩ := hB
  have key : ∀ k, k ≤ n → -((k : Int) * 85070591730234615865843651857942052864) ≤ dotV f g k ∧ dotV f g k ≤ (k : Int) * 85070591730234615865843651857942052864 := by
    intro k
    induction k with
    | zero => intro _; exact ⟨by simp [dotV], by simp [dotV]⟩
    | succ k ih =>
      intro hk
      obtain ⟨i0, i1⟩ := ih (by omega)
      obtain ⟨p0, p1⟩ := mul_in (f k) (g k) (h1 k (by omega)).2.1 (h1 k (by omega)).2.2 (h2 k (by omega)).2.1 (h2 k (by omega)).2.2
      have e : dotV f g (k + 1) = dotV f g k + f k * g k := rfl
      rw [e]
      generalize f k * g k = p at *
      constructor <;> omega
  obtain ⟨a, b⟩ := key n (Nat.le_refl _)
  constructor <;> omega
theorem sumV_small (va : Value) (n : Nat) (f : Nat → Int) (w : World) (hA : Ar w va n f) : -((n : Int) * 9223372036854775808) ≤ sumV f n ∧ sumV f n ≤ (n : Int) * 9223372036854775808 := by
  obtain ⟨_, _, _, _, _, _, _, _, h1⟩ := hA
  have key : ∀ k, k ≤ n → -((k : Int) * 9223372036854775808) ≤ sumV f k ∧ sumV f k ≤ (k : Int) * 9223372036854775808 := by
    intro k
    induction k with
    | zero => intro _; exact ⟨by simp [sumV], by simp [sumV]⟩
    | succ k ih =>
      intro hk
      obtain ⟨i0, i1⟩ := ih (by omega)
      have p0 := (h1 k (by omega)).2.1
      have p1 := (h1 k (by omega)).2.2
      have e : sumV f (k + 1) = sumV f k + f k := rfl
      rw [e]
      constructor <;> omega
  exact key n (Nat.le_refl _)
theorem sumV_rng (va : Value) (n : Nat) (f : Nat → Int) (hn : n ≤ 9223372036854775807) (w : World) (hA : Ar w va n f) : -170141183460469231731687303715884105728 ≤ sumV f n ∧ sumV f n ≤ 170141183460469231731687303715884105727 := by
  obtain ⟨a, b⟩ := sumV_small va n f w hA
  constructor <;> omega
set_option maxHeartbeats 1000000 in
theorem vdot_nil (va vb : Value) (n : Nat) (f g : Nat → Int) (hn : n ≤ 70000) (w : World) (hT : TabAt w) (hA : Ar w va n f) (hB : Ar w vb n g) :
    Calls Tryz.prog 91 #[.pointer none, va, vb] w fun e w' => e = .returned (.int .i64 (clv (rr (dotV f g n) 32))) ∧ Below w.heap.size w w' := by
  have CG : Hid (Calls Tryz.prog 112 #[va, vb] w fun e w' => e = .returned (.agg #[.int .i64 (t3 (dotV f g n)), .int .u64 (m3 (dotV f g n)), .int .u64 (lo (dotV f g n))]) ∧ Below w.heap.size w w') := products_any va vb n f g hn w hA hB
  obtain ⟨r0, r1⟩ := dotV_rng va vb n f g hn w hA hB
  have HN : Hid (∀ W : World, TabAt W → Calls Tryz.prog 83 #[.pointer none, .agg #[.int .i64 (t3 (dotV f g n)), .int .u64 (m3 (dotV f g n)), .int .u64 (lo (dotV f g n))], .int .i64 32] W fun e w' => e = .returned (.int .i64 (clv (rr (dotV f g n) 32))) ∧ Below W.heap.size W w') := fun W h => uNear_nil (dotV f g n) r0 r1 W h
  obtain ⟨k0, k1⟩ := clv_fit (rr (dotV f g n) 32)
  have HT : Hid (TabAt w) := hT
  obtain ⟨adr, cap, b, o, rfl, -, -, -, -⟩ := hA
  obtain ⟨adq, caq, bq, oq, rfl, -, -, -, -⟩ := hB
  clear hT r0 r1
  generalize clv (rr (dotV f g n) 32) = x at *
  generalize t3 (dotV f g n) = tj at *
  generalize m3 (dotV f g n) = mj at *
  generalize lo (dotV f g n) = lj at *
  go_enter Tryz.func91, Tryz.ntmps91
  go_wp2_with fail
  refine CG.out.mono ?_
  rintro e w1 ⟨rfl, W1⟩
  have T1 : Hid (TabAt w1) := HT.out.later W1
  clear CG HT
  go_wp2_with fail
  refine (HN.out _ T1.out).mono ?_
  rintro e w2 ⟨rfl, hb⟩
  have W2 := bchain W1 hb
  clear hb HN T1
  go_wp2
  go_ret
  exact ⟨rfl, W2⟩

set_option maxHeartbeats 1000000 in
theorem vdot_un (va vb : Value) (n : Nat) (f g : Nat → Int) (hn : n ≤ 70000) (d : Nat) (c : Int) (c0 : 0 ≤ c) (c1 : c ≤ 1000000000) (w : World) (hT : TabAt w) (hA : Ar w va n f) (hB : Ar w vb n g) (hc : w.cell? ⟨d, 0, none⟩ = some (.int .i64 c)) (hf : w.frozen? ⟨d, 0, none⟩ = false) :
    Calls Tryz.prog 91 #[.pointer (some ⟨d, 0, none⟩), va, vb] w fun e w' => e = .returned (.int .i64 (clv (rr (dotV f g n) 32))) ∧ Un d (c + bi (ovv (rr (dotV f g n) 32))) w w' := by
  have CG : Hid (Calls Tryz.prog 112 #[va, vb] w fun e w' => e = .returned (.agg #[.int .i64 (t3 (dotV f g n)), .int .u64 (m3 (dotV f g n)), .int .u64 (lo (dotV f g n))]) ∧ Below w.heap.size w w') := products_any va vb n f g hn w hA hB
  obtain ⟨r0, r1⟩ := dotV_rng va vb n f g hn w hA hB
  have HN : Hid (∀ W : World, TabAt W → W.cell? ⟨d, 0, none⟩ = some (.int .i64 c) → W.frozen? ⟨d, 0, none⟩ = false → Calls Tryz.prog 83 #[.pointer (some ⟨d, 0, none⟩), .agg #[.int .i64 (t3 (dotV f g n)), .int .u64 (m3 (dotV f g n)), .int .u64 (lo (dotV f g n))], .int .i64 32] W fun e w' => e = .returned (.int .i64 (clv (rr (dotV f g n) 32))) ∧ Un d (c + bi (ovv (rr (dotV f g n) 32))) W w') := fun W h hc hf => uNear_un (dotV f g n) r0 r1 d c c0 c1 W h hc hf
  obtain ⟨k0, k1⟩ := clv_fit (rr (dotV f g n) 32)
  have HT : Hid (TabAt w) := hT
  obtain ⟨adr, cap, b, o, rfl, -, -, -, -⟩ := hA
  obtain ⟨adq, caq, bq, oq, rfl, -, -, -, -⟩ := hB
  clear hT r0 r1
  generalize clv (rr (dotV f g n) 32) = x at *
  generalize bi (ovv (rr (dotV f g n) 32)) = z at *
  generalize t3 (dotV f g n) = tj at *
  generalize m3 (dotV f g n) = mj at *
  generalize lo (dotV f g n) = lj at *
  go_enter Tryz.func91, Tryz.ntmps91
  go_wp2_with fail
  refine CG.out.mono ?_
  rintro e w1 ⟨rfl, W1⟩
  have T1 : Hid (TabAt w1) := HT.out.later W1
  have x1 := cell_later W1 hc
  have y1 := frozen_later W1 hc hf
  clear CG HT
  go_wp2_with fail
  refine (HN.out _ T1.out x1 y1).mono ?_
  rintro e w2 ⟨rfl, hU⟩
  have hV := Un.after W1 hU
  clear hU HN T1 x1 y1 hc hf
  go_wp2
  go_ret
  exact ⟨rfl, hV⟩

end Go.Proofs.YtcaficenocblfaaGreatDoor
set_option linter.unusedVariables false
set_option linter.unusedSimpArgs false
namespace Go.Proofs.YtcaficenocblfaaGreatDoor
open Go.RowKit

structure Rw (b n : Nat) (h : Nat → Value) (w : World) : Prop where
  c : ∀ k, k < n → w.cell? ⟨b, k, none⟩ = some (h k)
  f : ∀ k, k < n → w.frozen? ⟨b, k, none⟩ = false
theorem Rw.later {b n : Nat} {h : Nat → Value} {w w' : World} (r : Rw b n h w) (hb : Below w.heap.size w w') : Rw b n h w' :=
  ⟨fun k hk => cell_later hb (r.c k hk), fun k hk => frozen_later hb (r.c k hk) (r.f k hk)⟩
theorem Rw.block {b n : Nat} {h : Nat → Value} {w w' : World} (r : Rw b n h w) (hb : w'.heap[b]? = w.heap[b]?) : Rw b n h w' :=
  ⟨fun k hk => (World.cell?_of_block (w := w) hb).trans (r.c k hk), fun k hk => (World.frozen?_of_block (w := w) hb).trans (r.f k hk)⟩
theorem Rw.far {b n : Nat} {h : Nat → Value} {w : World} {p : Addr} (r : Rw b n h w) (u : Value) (hp : p.block ≠ b) : Rw b n h (w.setCell p u) :=
  ⟨fun k hk => cell_set hp (r.c k hk), fun k hk => by rw [World.frozen?_setCell]; exact r.f k hk⟩
theorem Rw.set {b n : Nat} {h : Nat → Value} {w : World} (r : Rw b n h w) (j : Nat) (u : Value) : Rw b n (fun k => if k = j then u else h k) (w.setCell ⟨b, j, none⟩ u) := by
  refine ⟨fun k hk => ?_, fun k hk => by rw [World.frozen?_setCell]; exact r.f k hk⟩
  by_cases e : k = j
  · subst e
    simp only [if_true]
    exact World.cell?_setCell_same' _ _ _ (by rw [r.c k hk]; rfl)
  · simp only [if_neg e]
    exact (World.cell?_setCell_other _ _ _ _ (by first | (simp; done) | (simp; omega))).trans (r.c k hk)
theorem Rw.congr {b n : Nat} {h g : Nat → Value} {w : World} (r : Rw b n h w) (e : ∀ k, k < n → h k = g k) : Rw b n g w :=
  ⟨fun k hk => by rw [r.c k hk, e k hk], r.f⟩
theorem made_get (z : Value) (n k : Nat) (hk : k < n) : (madeCells #[z] n)[k]? = some z := by
  unfold madeCells
  rw [Array.getElem?_map, Array.getElem?_eq_getElem (by simpa using hk)]
  simp [Nat.mod_one]
theorem Rw.made (w : World) (z : Value) (n : Nat) (t : TypeId) : Rw w.heap.size n (fun _ => z) (w.alloc (.cells (madeCells #[z] n) t)) := by
  refine ⟨fun k hk => ?_, fun k hk => ?_⟩
  · have := made_get z n k hk
    simp [go_sem, this]
  · simp [go_sem]
theorem dinfo_fx : (Tryz.prog.info? 36).map (fun i => (i.zero, i.size, i.bytes)) = some (some (.int .i64 0), 1, 8) := by kernel_rfl
theorem make_fx (n : Nat) (hn : n ≤ 1000000) (w : World) : (Instr.makeSlice 23 (.int .i64 (n : Int)) (.int .i64 (n : Int))).run Tryz.prog w = .ok (.slice (some ⟨w.heap.size, 0, none⟩) n n) (w.alloc (.cells (madeCells #[.int .i64 0] n) 36)) := by
  obtain ⟨i0, hi, hz0, hz1, hz2⟩ := info_parts dinfo_fx
  have h := run_make (P := Tryz.prog) w 23 36 i0 (.int .i64 0) Tryz.underlying23 hi hz0 .i64 .i64 (n : Int) (n : Int) (by omega) (by omega) (by rw [hz2]; omega) (by omega)
  rw [hz1, Nat.mul_one] at h
  exact h
theorem Ar.at {w : World} {adr : Option Addr} {n cap : Nat} {f : Nat → Int} (h : Ar w (.slice adr n cap) n f) (j : Nat) (hj : j < n) : ∃ b o, adr = some ⟨b, o, none⟩ ∧ w.cell? ⟨b, o + j, none⟩ = some (.int .i64 (f j)) ∧ -9223372036854775808 ≤ f j ∧ f j ≤ 9223372036854775807 := by
  obtain ⟨ad, ca, b, o, e, -, -, h3, h4⟩ := h
  cases e
  exact ⟨b, o, h3 (by omega), (h4 j hj).1, (h4 j hj).2⟩
theorem Rw.ar {b n : Nat} {F : Nat → Int} {w : World} (r : Rw b n (fun k => .int .i64 (F k)) w) (hn : n ≤ 1000000) (hF : ∀ k, k < n → -9223372036854775808 ≤ F k ∧ F k ≤ 9223372036854775807) : Ar w (.slice (some ⟨b, 0, none⟩) n n) n F :=
  ⟨some ⟨b, 0, none⟩, n, b, 0, rfl, Nat.le_refl _, by unfold maxLen; omega, fun _ => rfl, fun k hk => ⟨by rw [Nat.zero_add]; exact r.c k hk, hF k hk⟩⟩

set_option maxRecDepth 100000 in
set_option maxHeartbeats 4000000 in
theorem each_scaled (p q : Value) (S : Nat → World → Prop) (va : Value) (n : Nat) (f F : Nat → Int) (w : World) (hn : n ≤ 70000) (hA : Ar w va n f)
    (S0 : S 0 w) (SL : ∀ j W W', S j W → Below W.heap.size W W' → S j W') (SS : ∀ j W (a : Addr) u, w.heap.size ≤ a.block → S j W → S j (W.setCell a u)) (SA : ∀ j W, S j W → Ar W va n f) (hF : ∀ k, k < n → -9223372036854775808 ≤ F k ∧ F k ≤ 9223372036854775807)
    (HS : ∀ j W, j < n → w.heap.size < W.heap.size → S j W → Calls Tryz.prog 109 #[.int .i64 (f j), p, q] W fun e w' => e = .returned (.int .i64 (F j)) ∧ S (j + 1) w' ∧ w'.heap[w.heap.size]? = W.heap[w.heap.size]? ∧ W.heap.size ≤ w'.heap.size) :
    Calls Tryz.prog 108 #[va, .func (.func 109) #[] #[p, q]] w fun e w' => e = .returned (.slice (some ⟨w.heap.size, 0, none⟩) n n) ∧ S n w' ∧ Ar w' (.slice (some ⟨w.heap.size, 0, none⟩) n n) n F := by
  obtain ⟨adr, cap, b, o, rfl, k1, k2, -, -⟩ := id hA
  unfold maxLen at *
  have hmk := make_fx n (by omega)
  have hR0 := Rw.made w (.int .i64 0) n 36
  have hS0 : Hid (S 0 (w.alloc (.cells (madeCells #[.int .i64 0] n) 36))) := SL 0 _ _ S0 (bel1 _ _)
  have hz0 : w.heap.size < (w.alloc (.cells (madeCells #[.int .i64 0] n) 36)).heap.size := by rw [World.size_alloc]; omega
  have HSA : Hid (∀ j W, S j W → Ar W (.slice adr n cap) n f) := SA
  have HHS : Hid (∀ j W, j < n → w.heap.size < W.heap.size → S j W → Calls Tryz.prog 109 #[.int .i64 (f j), p, q] W fun e w' => e = .returned (.int .i64 (F j)) ∧ S (j + 1) w' ∧ w'.heap[w.heap.size]? = W.heap[w.heap.size]? ∧ W.heap.size ≤ w'.heap.size) := HS
  have HSS : Hid (∀ j W (a : Addr) u, w.heap.size ≤ a.block → S j W → S j (W.setCell a u)) := SS
  have HF : Hid (∀ k, k < n → -9223372036854775808 ≤ F k ∧ F k ≤ 9223372036854775807) := hF
  clear SA HS SS SL S0 hF hA
  go_enter Tryz.func108, Tryz.ntmps108
  go_upto_region 3 with fail
  generalize w.alloc (.cells (madeCells #[.int .i64 0] n) 36) = w0 at *
  clear hmk
  go_loopw [13] (fun si wr => ∃ j : Nat, j ≤ n ∧ si = .int .i64 (j : Int) ∧ Hid (S j wr) ∧ Hid (Rw w.heap.size n (fun k => if k < j then .int .i64 (F k) else .int .i64 0) wr) ∧ w.heap.size < wr.heap.size) (fun si _ => n - (intOf si).toNat)
  case atStart =>
    exact ⟨0, by omega, rfl, hS0, hR0.congr (fun k hk => by simp), hz0⟩
  case round =>
    obtain ⟨j, hj, rfl, hS, hR, hz⟩ := hrel
    by_cases hlt : j < n
    · have hjI : (j : Int) < (n : Int) := by omega
      obtain ⟨b, o, rfl, cA, -, -⟩ := (HSA.out j wr hS.out).at j hlt
      have CM : Hid (Calls Tryz.prog 109 #[.int .i64 (f j), p, q] wr fun e w' => e = .returned (.int .i64 (F j)) ∧ S (j + 1) w' ∧ w'.heap[w.heap.size]? = wr.heap[w.heap.size]? ∧ wr.heap.size ≤ w'.heap.size) := HHS.out j wr hlt hz hS.out
      clear hS
      go_wp2_with (go_at_call 109; refine CM.out.mono ?_; rintro e wz ⟨rfl, hSz, hbz, hsz⟩; have HSz : Hid (S (j + 1) wz) := hSz; have HRz := hR.out.block hbz; have cz : wz.cell? ⟨w.heap.size, j, none⟩ = some (.int .i64 0) := (by have := HRz.c j hlt; rw [if_neg (by omega)] at this; exact this); have fz := HRz.f j hlt; replace HRz : Hid _ := HRz; clear hSz hbz hR cA)
      have hS2 : Hid (S (j + 1) (wz.setCell ⟨w.heap.size, j, none⟩ (.int .i64 (F j)))) := HSS.out _ _ _ _ (Nat.le_refl _) HSz.out
      have hR2 : Hid (Rw w.heap.size n (fun k => if k < j + 1 then .int .i64 (F k) else .int .i64 0) (wz.setCell ⟨w.heap.size, j, none⟩ (.int .i64 (F j)))) := (HRz.out.set j (.int .i64 (F j))).congr (fun k hk => by
        by_cases e : k = j
        · subst e; simp
        · rw [if_neg e]
          by_cases e2 : k < j
          · rw [if_pos e2, if_pos (by omega)]
          · rw [if_neg e2, if_neg (by omega)])
      have hz2 : w.heap.size < (wz.setCell ⟨w.heap.size, j, none⟩ (.int .i64 (F j))).heap.size := by rw [World.size_setCell]; omega
      go_roundw
      case rel => exact ⟨j + 1, by omega, by go_num, hS2, hR2, hz2⟩
      case measure => simp [intOf]; omega
    · obtain rfl : j = n := by omega
      have hjI : ¬ (j : Int) < (j : Int) := by omega
      have hAr : Hid (Ar wr (.slice (some ⟨w.heap.size, 0, none⟩) j j) j F) := (hR.out.congr (fun k hk => by rw [if_pos hk])).ar (by omega) HF.out
      clear hR
      go_wp2
      go_ret
      exact ⟨rfl, hS.out, hAr.out⟩

set_option maxRecDepth 100000 in
set_option maxHeartbeats 4000000 in
theorem pairs_Sub (p : Value) (S : Nat → World → Prop) (va vb : Value) (n : Nat) (f g F : Nat → Int) (w : World) (hn : n ≤ 70000) (hA : Ar w va n f) (hB : Ar w vb n g)
    (S0 : S 0 w) (SL : ∀ j W W', S j W → Below W.heap.size W W' → S j W') (SS : ∀ j W (a : Addr) u, w.heap.size ≤ a.block → S j W → S j (W.setCell a u)) (SA : ∀ j W, S j W → Ar W va n f ∧ Ar W vb n g) (hF : ∀ k, k < n → -9223372036854775808 ≤ F k ∧ F k ≤ 9223372036854775807)
    (HS : ∀ j W, j < n → w.heap.size < W.heap.size → S j W → Calls Tryz.prog 164 #[p, .int .i64 (f j), .int .i64 (g j)] W fun e w' => e = .returned (.int .i64 (F j)) ∧ S (j + 1) w' ∧ w'.heap[w.heap.size]? = W.heap[w.heap.size]? ∧ W.heap.size ≤ w'.heap.size) :
    Calls Tryz.prog 165 #[va, vb, .func (.func 164) #[p] #[]] w fun e w' => e = .returned (.slice (some ⟨w.heap.size, 0, none⟩) n n) ∧ S n w' ∧ Ar w' (.slice (some ⟨w.heap.size, 0, none⟩) n n) n F := by
  obtain ⟨adr, cap, b, o, rfl, k1, k2, -, -⟩ := id hA
  obtain ⟨adq, caq, bq, oq, rfl, q1, q2, -, -⟩ := id hB
  unfold maxLen at *
  have hmk := make_fx n (by omega)
  have hR0 := Rw.made w (.int .i64 0) n 36
  have hS0 : Hid (S 0 (w.alloc (.cells (madeCells #[.int .i64 0] n) 36))) := SL 0 _ _ S0 (bel1 _ _)
  have hz0 : w.heap.size < (w.alloc (.cells (madeCells #[.int .i64 0] n) 36)).heap.size := by rw [World.size_alloc]; omega
  have HSA : Hid (∀ j W, S j W → Ar W (.slice adr n cap) n f ∧ Ar W (.slice adq n caq) n g) := SA
  have HHS : Hid (∀ j W, j < n → w.heap.size < W.heap.size → S j W → Calls Tryz.prog 164 #[p, .int .i64 (f j), .int .i64 (g j)] W fun e w' => e = .returned (.int .i64 (F j)) ∧ S (j + 1) w' ∧ w'.heap[w.heap.size]? = W.heap[w.heap.size]? ∧ W.heap.size ≤ w'.heap.size) := HS
  have HSS : Hid (∀ j W (a : Addr) u, w.heap.size ≤ a.block → S j W → S j (W.setCell a u)) := SS
  have HF : Hid (∀ k, k < n → -9223372036854775808 ≤ F k ∧ F k ≤ 9223372036854775807) := hF
  clear SA HS SS SL S0 hF hA hB
  go_enter Tryz.func165, Tryz.ntmps165
  go_upto_region 3 with fail
  generalize w.alloc (.cells (madeCells #[.int .i64 0] n) 36) = w0 at *
  clear hmk
  go_loopw [15] (fun si wr => ∃ j : Nat, j ≤ n ∧ si = .int .i64 (j : Int) ∧ Hid (S j wr) ∧ Hid (Rw w.heap.size n (fun k => if k < j then .int .i64 (F k) else .int .i64 0) wr) ∧ w.heap.size < wr.heap.size) (fun si _ => n - (intOf si).toNat)
  case atStart =>
    exact ⟨0, by omega, rfl, hS0, hR0.congr (fun k hk => by simp), hz0⟩
  case round =>
    obtain ⟨j, hj, rfl, hS, hR, hz⟩ := hrel
    by_cases hlt : j < n
    · have hjI : (j : Int) < (n : Int) := by omega
      obtain ⟨b, o, rfl, cA, -, -⟩ := (HSA.out j wr hS.out).1.at j hlt
      obtain ⟨bq, oq, rfl, cB, -, -⟩ := (HSA.out j wr hS.out).2.at j hlt
      have CM : Hid (Calls Tryz.prog 164 #[p, .int .i64 (f j), .int .i64 (g j)] wr fun e w' => e = .returned (.int .i64 (F j)) ∧ S (j + 1) w' ∧ w'.heap[w.heap.size]? = wr.heap[w.heap.size]? ∧ wr.heap.size ≤ w'.heap.size) := HHS.out j wr hlt hz hS.out
      clear hS
      go_wp2_with (go_at_call 164; refine CM.out.mono ?_; rintro e wz ⟨rfl, hSz, hbz, hsz⟩; have HSz : Hid (S (j + 1) wz) := hSz; have HRz := hR.out.block hbz; have cz : wz.cell? ⟨w.heap.size, j, none⟩ = some (.int .i64 0) := (by have := HRz.c j hlt; rw [if_neg (by omega)] at this; exact this); have fz := HRz.f j hlt; replace HRz : Hid _ := HRz; clear hSz hbz hR cA cB)
      have hS2 : Hid (S (j + 1) (wz.setCell ⟨w.heap.size, j, none⟩ (.int .i64 (F j)))) := HSS.out _ _ _ _ (Nat.le_refl _) HSz.out
      have hR2 : Hid (Rw w.heap.size n (fun k => if k < j + 1 then .int .i64 (F k) else .int .i64 0) (wz.setCell ⟨w.heap.size, j, none⟩ (.int .i64 (F j)))) := (HRz.out.set j (.int .i64 (F j))).congr (fun k hk => by
        by_cases e : k = j
        · subst e; simp
        · rw [if_neg e]
          by_cases e2 : k < j
          · rw [if_pos e2, if_pos (by omega)]
          · rw [if_neg e2, if_neg (by omega)])
      have hz2 : w.heap.size < (wz.setCell ⟨w.heap.size, j, none⟩ (.int .i64 (F j))).heap.size := by rw [World.size_setCell]; omega
      go_roundw
      case rel => exact ⟨j + 1, by omega, by go_num, hS2, hR2, hz2⟩
      case measure => simp [intOf]; omega
    · obtain rfl : j = n := by omega
      have hjI : ¬ (j : Int) < (j : Int) := by omega
      have hAr : Hid (Ar wr (.slice (some ⟨w.heap.size, 0, none⟩) j j) j F) := (hR.out.congr (fun k hk => by rw [if_pos hk])).ar (by omega) HF.out
      clear hR
      go_wp2
      go_ret
      exact ⟨rfl, hS.out, hAr.out⟩

end Go.Proofs.YtcaficenocblfaaGreatDoor
