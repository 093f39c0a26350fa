/-
  VWalkA, VWalkC, VWalkD, VWalkE, VWalkB, VWalkF.
-/
import Derived.Test.YtfcneciknldohaaBG
import Derived.Test.YtfcneciknldohaaBH
import Derived.OwnWalk
import Derived.Deep.RegionHeld3
/-
  The contracts of regattaref04's Take, Dot, Sum, Mean and Norm.
-/
set_option linter.unusedVariables false
set_option linter.unusedSimpArgs false
namespace Go.Proofs.Ytfcneciknldohaa
open Go.RowKit

/-- A list of whole numbers in memory. -/
def Ar (w : World) (v : Value) (n : Nat) (f : Nat → Int) : Prop :=
  ∃ (adr : Option Addr) (cap b o : Nat), v = .slice adr n cap ∧ n ≤ cap ∧ cap ≤ maxLen ∧ (0 < n → adr = some ⟨b, o, none⟩) ∧ ∀ k, k < n → w.cell? ⟨b, o + k, none⟩ = some (.int .i64 (f k)) ∧ -9223372036854775808 ≤ f k ∧ f k ≤ 9223372036854775807
theorem Ar.later {w w' : World} {v : Value} {n : Nat} {f : Nat → Int} (h : Ar w v n f) (hb : Below w.heap.size w w') : Ar w' v n f := by
  obtain ⟨adr, cap, b, o, h1, h2, h3, h4, h5⟩ := h
  exact ⟨adr, cap, b, o, h1, h2, h3, h4, fun k hk => ⟨cell_later hb (h5 k hk).1, (h5 k hk).2⟩⟩
/-- Whatever it holds lies apart from a block. -/
def Nb (v : Value) (d : Nat) : Prop := ∀ (a : Addr) (n cap : Nat), v = .slice (some a) n cap → 0 < n → a.block ≠ d
theorem Ar.un {w w' : World} {v : Value} {n : Nat} {f : Nat → Int} {d : Nat} {c : Int} (h : Ar w v n f) (hd : Nb v d) (hU : Un d c w w') : Ar w' v n f := by
  obtain ⟨adr, cap, b, o, h1, h2, h3, h4, h5⟩ := h
  refine ⟨adr, cap, b, o, h1, h2, h3, h4, fun k hk => ⟨hU.o _ _ ?_ (h5 k hk).1, (h5 k hk).2⟩⟩
  have e := h4 (by omega)
  subst e
  exact hd ⟨b, o, none⟩ n cap h1 (by omega)
/-- A sum of products. -/
def dotV (f g : Nat → Int) : Nat → Int
  | 0 => 0
  | n + 1 => dotV f g n + f n * g n
/-- A sum of parts. -/
def sumV (f : Nat → Int) : Nat → Int
  | 0 => 0
  | n + 1 => sumV f n + f n
/-- A root, held. -/
def rtX (V : Int) : Int := if V < 0 then 0 else if 85070591730234615865843651857942052864 ≤ V then 9223372036854775807 else rt V
def rtO (V : Int) : Bool := if V < 0 then true else if 85070591730234615865843651857942052864 ≤ V then true else false
theorem Un.free {d : Nat} {c : Int} {w w1 w2 : World} (h : Un d c w w1) (hb : Below w1.heap.size w1 w2) : Un d c w w2 := h.ahead hb
set_option maxHeartbeats 1000000 in
theorem utake_any (d : Nat) (n a : Int) (o : Bool) (n0 : 0 ≤ n) (n1 : n ≤ 1000000000) (w : World) (c : w.cell? ⟨d, 0, none⟩ = some (.int .i64 n)) (f : w.frozen? ⟨d, 0, none⟩ = false) :
    Calls Try.prog 27 #[.pointer (some ⟨d, 0, none⟩), .int .i64 a, .bool o] w fun e w' => e = .returned (.int .i64 a) ∧ Un d (n + bi o) w w' := by
  have U0 : Hid (Un d n w w) := Un.same c f
  have U1 : Hid (Un d (n + 1) w (w.setCell ⟨d, 0, none⟩ (.int .i64 (n + 1)))) := Un.set c f
  cases o
  · have e0 : n + bi false = n := by unfold bi; simp
    rw [e0]
    go_enter Try.func27, Try.ntmps27
    go_wp2
    go_ret
    exact ⟨rfl, U0.out⟩
  · have e0 : n + bi true = n + 1 := by unfold bi; simp
    rw [e0]
    go_enter Try.func27, Try.ntmps27
    go_wp2
    go_ret
    exact ⟨rfl, U1.out⟩

theorem B12.noughts {b : Nat} {x y : Nat → Int} {w : World} (h : B12 b x y (w.alloc (.cells #[.int .u64 0, .int .u64 0, .int .u64 0, .int .u64 0, .int .u64 0, .int .u64 0, .int .u64 0, .int .u64 0, .int .u64 0, .int .u64 0, .int .u64 0, .int .u64 0] 68))) : B12 b x y (w.alloc (.cells #[.int .u64 0, .int .u64 0, .int .u64 0, .int .u64 0, .int .u64 0, .int .u64 0, .int .u64 0, .int .u64 0, .int .u64 0, .int .u64 0, .int .u64 0, .int .u64 0] 68)) := h

end Go.Proofs.Ytfcneciknldohaa
/-
  The contracts of the laws' own helpers over lists: plain, few, Pair, Same, refused, like.
-/
set_option linter.unusedVariables false
set_option linter.unusedSimpArgs false
namespace Go.Proofs.Ytfcneciknldohaa
open Go.RowKit

/-- So many cells. -/
def il (f : Nat → Int) (n : Nat) : List Value := (List.range n).map (fun k => Value.int .i64 (f k))
theorem il_succ (f : Nat → Int) (n : Nat) : il f (n + 1) = il f n ++ [.int .i64 (f n)] := by unfold il; rw [List.range_succ, List.map_append]; rfl
theorem il_get (f : Nat → Int) (n k : Nat) (h : k < n) : (il f n)[k]? = some (.int .i64 (f k)) := by unfold il; rw [List.getElem?_map, List.getElem?_range h]; rfl
theorem il_len (f : Nat → Int) (n : Nat) : (il f n).length = n := by unfold il; simp
theorem dinfo_i64 : (Try.prog.info? 2).map (fun i => (i.zero, i.size, i.bytes)) = some (some (.int .i64 0), 1, 8) := by kernel_rfl
/-- A list that the call has made, from a block on. -/
def Ow (base : Nat) (v : Value) : Prop := ∀ (a : Addr) (n cap : Nat), v = .slice (some a) n cap → 0 < n → base ≤ a.block
theorem ar_of_own {w : World} {base : Nat} {v : Value} {n : Nat} {f : Nat → Int} {e : TypeId} (h : w.ownsRow base e 1 v n (il f n)) (hr : ∀ k, k < n → -9223372036854775808 ≤ f k ∧ f k ≤ 9223372036854775807) : Ar w v n f ∧ Ow base v := by
  rcases h.2 with ⟨hn, h0⟩ | ⟨g, cap, cur, hv, hbs, hg, h1, h2, h3⟩
  · subst hn h0
    exact ⟨⟨none, 0, 0, 0, rfl, by omega, by unfold maxLen; omega, fun h => by omega, fun k hk => by omega⟩, fun a n cap e => by cases e⟩
  · subst hv
    refine ⟨⟨some ⟨g, 0, none⟩, cap, g, 0, rfl, h1, h2, fun _ => rfl, fun k hk => ⟨?_, hr k hk⟩⟩, fun a n' cap' e _ => ?_⟩
    · rw [Nat.zero_add, h.cellAt k (by omega), il_get f n k hk]
    · cases e; exact hbs
theorem Ow.nb {base d : Nat} {v : Value} (h : Ow base v) (hd : d < base) : Nb v d := fun a n cap e hn => by have := h a n cap e hn; omega
theorem Ow.mono {base base' : Nat} {v : Value} (h : Ow base v) (hb : base' ≤ base) : Ow base' v := fun a n cap e hn => Nat.le_trans hb (h a n cap e hn)
theorem below_drewN {B : Nat} {w w' : World} (h : Below B w w') (k : Nat) : Below B w (w'.drewN k) := ⟨h.os, h.tape, h.output, h.size, h.block⟩
theorem dbelow_grown' {w wr w1 : World} {e : TypeId} {size : Nat} {v : Value} {n : Nat} {xs : List Value} {o : Obj} {r : Option Nat} (h : wr.ownsRow w.heap.size e size v n xs) (hW : Below w.heap.size w wr) (hg : (wr.alloc o).grownBy w1 r) (hr : r = some w.heap.size) : Below w.heap.size w w1 := by
  refine (hW.alloc hW.size o).grown hg ?_ ?_
  · have := hW.size; simp; omega
  · intro k hk
    rw [hr] at hk
    have := Option.some.inj hk
    omega
set_option maxRecDepth 100000 in
set_option maxHeartbeats 4000000 in
theorem same_yes (va vb : Value) (n : Nat) (f : Nat → Int) (hn : n ≤ 70000) (w : World) (hA : Ar w va n f) (hB : Ar w vb n f) :
    Calls Try.prog 18 #[va, vb] w fun e w' => e = .returned (.bool true) ∧ Below w.heap.size w w' := by
  obtain ⟨adr, cap, b, o, rfl, k1, k2, k3, k4⟩ := hA
  obtain ⟨adq, caq, bq, oq, rfl, q1, q2, q3, q4⟩ := hB
  have HA : Hid (∀ k, k < n → w.cell? ⟨b, o + k, none⟩ = some (.int .i64 (f k)) ∧ w.cell? ⟨bq, oq + k, none⟩ = some (.int .i64 (f k))) := fun k hk => ⟨(k4 k hk).1, (q4 k hk).1⟩
  have HK : Hid (0 < n → adr = some ⟨b, o, none⟩ ∧ adq = some ⟨bq, oq, none⟩) := fun h => ⟨k3 h, q3 h⟩
  clear k3 k4 q3 q4
  go_enter Try.func18, Try.ntmps18
  go_wp2
  go_loopw [5] (fun s5 wr => ∃ j : Nat, j ≤ n ∧ s5 = .int .i64 (j : Int) ∧ Below w.heap.size w wr) (fun s5 _ => n - (intOf s5).toNat)
  case atStart => exact ⟨0, by omega, rfl, Below.refl _ _⟩
  case round =>
    obtain ⟨j, hj, rfl, hW⟩ := hrel
    by_cases hlt : j < n
    · have hjI : (j : Int) < (n : Int) := by omega
      obtain ⟨ea, eb⟩ := HK.out (by omega)
      subst ea eb
      obtain ⟨ca, cb⟩ := HA.out j hlt
      have cA : wr.cell? ⟨b, o + j, none⟩ = some (.int .i64 (f j)) := (hW.cell (World.block_lt_of_cell? _ _ ca)).trans ca
      have cB : wr.cell? ⟨bq, oq + j, none⟩ = some (.int .i64 (f j)) := (hW.cell (World.block_lt_of_cell? _ _ cb)).trans cb
      have hne : ((f j) != (f j)) = false := by simp
      have HW : Hid (Below w.heap.size w wr) := hW
      clear ca cb hW
      go_wp2
      go_quiet (fail)
      go_wp2
      go_roundw
      case rel => exact ⟨j + 1, by omega, by go_num, below_drewN HW.out _⟩
      case measure => simp [intOf]; omega
    · have HW : Hid (Below w.heap.size w wr) := hW
      have hjI : ¬ (j : Int) < (n : Int) := by omega
      clear hW
      go_wp2
      go_ret
      exact ⟨rfl, HW.out⟩
end Go.Proofs.Ytfcneciknldohaa
/-
  The contracts of regattaref04's Scale, Add, Sub and Axpy.
-/
set_option linter.unusedVariables false
set_option linter.unusedSimpArgs false
namespace Go.Proofs.Ytfcneciknldohaa
open Go.RowKit

/-- How many were held. -/
def cntV (O : Nat → Bool) : Nat → Int
  | 0 => 0
  | n + 1 => cntV O n + bi (O n)
theorem bi_rng (o : Bool) : 0 ≤ bi o ∧ bi o ≤ 1 := by unfold bi; split <;> omega
theorem cnt_rng (O : Nat → Bool) (n : Nat) : 0 ≤ cntV O n ∧ cntV O n ≤ n := by
  induction n with
  | zero => exact ⟨Int.le_refl _, Int.le_refl _⟩
  | succ n ih =>
    have := bi_rng (O n)
    have e : cntV O (n + 1) = cntV O n + bi (O n) := rfl
    rw [e]
    omega
theorem own_later {wr w1 : World} {B : Nat} {e : TypeId} {s : Nat} {v : Value} {n : Nat} {xs : List Value} (h : wr.ownsRow B e s v n xs) (hb : Below wr.heap.size wr w1) : w1.ownsRow B e s v n xs := by
  refine ⟨h.1, ?_⟩
  rcases h.2 with h0 | ⟨g, cap, cur, hv, hg, hh, r⟩
  · exact Or.inl h0
  · exact Or.inr ⟨g, cap, cur, hv, hg, (hb.block g (Array.getElem?_eq_some_iff.1 hh).1).trans hh, r⟩
theorem own_un {wr w1 : World} {B : Nat} {e : TypeId} {s : Nat} {v : Value} {n : Nat} {xs : List Value} {d : Nat} {c : Int} (h : wr.ownsRow B e s v n xs) (hU : Un d c wr w1) (hd : d < B) : w1.ownsRow B e s v n xs := by
  refine ⟨h.1, ?_⟩
  rcases h.2 with h0 | ⟨g, cap, cur, hv, hg, hh, r⟩
  · exact Or.inl h0
  · exact Or.inr ⟨g, cap, cur, hv, hg, (hU.k g (Array.getElem?_eq_some_iff.1 hh).1 (by omega)).trans hh, r⟩
theorem Un.grow {d : Nat} {c : Int} {w wr w1 : World} {o : Obj} {r : Option Nat} (hU : Un d c w wr) (hd : d < w.heap.size) (hg : (wr.alloc o).grownBy w1 r) (hr : ∀ k, r = some k → w.heap.size ≤ k) : Un d c w w1 := by
  have hs := hU.s
  have blk : ∀ i, i < w.heap.size → w1.heap[i]? = wr.heap[i]? := fun i hi => by
    rw [hg.block i (by rw [World.size_alloc]; omega) (fun e => by have := hr i e.symm; omega), Below.heap_alloc _ _ _ (by omega)]
  refine ⟨(World.cell?_of_block (w := wr) (blk d hd)).trans hU.c, (World.frozen?_of_block (w := wr) (blk d hd)).trans hU.f, ?_, ?_, ?_, ?_⟩
  · intro base w0 h1 h2 h3
    exact ((hU.b base w0 h1 h2 h3).alloc (by omega) o).grown hg (by rw [World.size_alloc]; omega) (fun k hk => by have := hr k hk; omega)
  · intro a v ha hc
    have hb := World.block_lt_of_cell? _ _ hc
    exact (World.cell?_of_block (w := wr) (blk a.block hb)).trans (hU.o a v ha hc)
  · have := hg.size
    rw [World.size_alloc] at this
    omega
  · intro i hi hn
    exact (blk i hi).trans (hU.k i hi hn)
theorem clv_rng (x : Int) : -9223372036854775808 ≤ clv x ∧ clv x ≤ 9223372036854775807 := by
  unfold clv
  repeat' split
  all_goals omega

theorem Un.chain {d : Nat} {c c' : Int} {w w1 w2 : World} (h : Un d c w w1) (k : Un d c' w1 w2) : Un d c' w w2 where
  c := k.c
  f := k.f
  b := fun base w0 h1 h2 h3 => k.b base w0 h1 (Nat.le_trans h2 h.s) (h.b base w0 h1 h2 h3)
  o := fun a v ha hc => k.o a v ha (h.o a v ha hc)
  s := Nat.le_trans h.s k.s
  k := fun i hi hn => (k.k i (Nat.lt_of_lt_of_le hi h.s) hn).trans (h.k i hi hn)

theorem cc_later {w w' : World} {a b : Addr} {x y : Value} (h : w.cell? a = some x ∧ w.cell? b = some y) (hb : Below w.heap.size w w') : w'.cell? a = some x ∧ w'.cell? b = some y := ⟨cell_later hb h.1, cell_later hb h.2⟩
theorem hidUO {d : Nat} {c : Int} {w a b : World} {B : Nat} {e : TypeId} {s : Nat} {v : Value} {n : Nat} {xs : List Value} (h : Hid (Un d c w a ∧ a.ownsRow B e s v n xs)) (hb : Below a.heap.size a b) : Hid (Un d c w b ∧ b.ownsRow B e s v n xs) := ⟨h.out.1.ahead hb, own_later h.out.2 hb⟩

end Go.Proofs.Ytfcneciknldohaa
/-
  The contracts of regattaref04's Sub and Axpy.
-/
set_option linter.unusedVariables false
set_option linter.unusedSimpArgs false
namespace Go.Proofs.Ytfcneciknldohaa
open Go.RowKit

set_option maxRecDepth 100000 in
set_option maxHeartbeats 8000000 in
theorem usub_any (va vb : Value) (n : Nat) (f g : Nat → Int) (d : Nat) (c : Int) (hn : n ≤ 70000) (c0 : 0 ≤ c) (c1 : c ≤ 900000000) (w : World) (hA : Ar w va n f) (hB : Ar w vb n g) (nA : Nb va d) (nB : Nb vb d) (hc : w.cell? ⟨d, 0, none⟩ = some (.int .i64 c)) (hf : w.frozen? ⟨d, 0, none⟩ = false) :
    Calls Try.prog 19 #[.pointer (some ⟨d, 0, none⟩), va, vb] w fun e w' => ∃ v', e = .returned v' ∧ Ar w' v' n (fun i => clv (f i - g i)) ∧ Ow w.heap.size v' ∧ Un d (c + cntV (fun i => ovv (f i - g i)) n) w w' := by
  obtain ⟨i0, hi, hz0, hz1, hz2⟩ := info_parts dinfo_i64
  have hd := World.block_lt_of_cell? _ _ hc
  obtain ⟨adr, cap, b, o, rfl, x1, x2, x3, x4⟩ := hA
  obtain ⟨adq, caq, bq, oq, rfl, y1, y2, y3, y4⟩ := hB
  unfold maxLen at *
  have HA : Hid (∀ j, j < n → adr = some ⟨b, o, none⟩ ∧ b ≠ d ∧ w.cell? ⟨b, o + j, none⟩ = some (.int .i64 (f j)) ∧ -9223372036854775808 ≤ f j ∧ f j ≤ 9223372036854775807) := fun j hj => by
    have e := x3 (by omega)
    refine ⟨e, ?_, x4 j hj⟩
    subst e
    exact nA _ _ _ rfl (by omega)
  have HB : Hid (∀ j, j < n → adq = some ⟨bq, oq, none⟩ ∧ bq ≠ d ∧ w.cell? ⟨bq, oq + j, none⟩ = some (.int .i64 (g j)) ∧ -9223372036854775808 ≤ g j ∧ g j ≤ 9223372036854775807) := fun j hj => by
    have e := y3 (by omega)
    refine ⟨e, ?_, y4 j hj⟩
    subst e
    exact nB _ _ _ rfl (by omega)
  have U0 : Hid (Un d c w w) := Un.same hc hf
  clear x3 x4 nA hc hf y3 y4 nB
  obtain ⟨RX, hRX⟩ : ∃ r : Nat → Int, r = fun i => clv (f i - g i) := ⟨_, rfl⟩
  obtain ⟨RO, hRO⟩ : ∃ r : Nat → Bool, r = fun i => ovv (f i - g i) := ⟨_, rfl⟩
  have HR : Hid (∀ i, clv (f i - g i) = RX i ∧ ovv (f i - g i) = RO i) := fun i => by rw [hRX, hRO]; exact ⟨rfl, rfl⟩
  have HG : Hid (∀ i, -9223372036854775808 ≤ RX i ∧ RX i ≤ 9223372036854775807) := fun i => by rw [hRX]; exact clv_rng _
  rw [← hRX, ← hRO]
  clear hRX hRO
  go_enter Try.func19, Try.ntmps19
  go_wp2
  go_loopw [7, 8] (fun so si wr => ∃ j : Nat, j ≤ n ∧ si = .int .i64 (j : Int) ∧ wr.ownsRow w.heap.size 2 1 so j (il RX j) ∧ Hid (Un d (c + cntV RO j) w wr)) (fun _ si _ => n - (intOf si).toNat)
  case atStart => exact ⟨0, by omega, rfl, World.ownsRow_nil _ _ _ _, by show Un d (c + 0) w w; rw [Int.add_zero]; exact U0.out⟩
  case round =>
    obtain ⟨j, hj, rfl, hown, hU⟩ := hrel
    by_cases hlt : j < n
    · have hjI : (j : Int) < (n : Int) := by omega
      obtain ⟨ea, na, ca, a0, a1⟩ := HA.out j hlt
      subst ea
      have cA : wr.cell? ⟨b, o + j, none⟩ = some (.int .i64 (f j)) := hU.out.o _ _ na ca
      obtain ⟨eb, nb, cb, b0, b1⟩ := HB.out j hlt
      subst eb
      have cB : wr.cell? ⟨bq, oq + j, none⟩ = some (.int .i64 (g j)) := hU.out.o _ _ nb cb
      have hcr := cnt_rng RO j
      obtain ⟨rx, ro⟩ := HR.out j
      have HC : Hid (Un d (c + cntV RO j) w wr ∧ wr.ownsRow w.heap.size 2 1 u7 j (il RX j)) := ⟨hU.out, hown⟩
      have CM : Hid (∀ W : World, Calls Try.prog 30 #[.int .i64 (f j), .int .i64 (g j)] W fun e w' => e = .returned (.tuple #[.int .i64 (RX j), .bool (RO j)]) ∧ Below W.heap.size W w') := by
        intro W
        rw [← rx, ← ro]
        exact rfsub_any (f j) (g j) a0 a1 b0 b1 W
      clear rx ro ca cb hU hown
      go_upto_region 5 with fail
      have CC : wr.drew.cell? ⟨b, o + j, none⟩ = some (.int .i64 (f j)) ∧ wr.drew.cell? ⟨bq, oq + j, none⟩ = some (.int .i64 (g j)) := ⟨cA, cB⟩
      have HD : Hid (Un d (c + cntV RO j) w wr.drew ∧ wr.drew.ownsRow w.heap.size 2 1 u7 j (il RX j)) := ⟨HC.out.1.ahead ((Below.refl _ _).drew), own_later HC.out.2 ((Below.refl _ _).drew)⟩
      clear HC cA cB
      go_region_held3 (fun w' => w'.cell? ⟨b, o + j, none⟩ = some (.int .i64 (f j)) ∧ w'.cell? ⟨bq, oq + j, none⟩ = some (.int .i64 (g j))) (exact CC) (first
        | (go_at_call 30; refine (CM.out _).mono ?_; rintro e wz ⟨rfl, hb⟩; replace CC := cc_later CC hb; replace HD := hidUO HD hb; clear hb))
      clear CC
      have ct := HD.out.1.c
      have ft := HD.out.1.f
      go_wp2_with fail
      refine (utake_any d (c + cntV RO j) (RX j) (RO j) (by omega) (by omega) _ ct ft).mono ?_
      rintro e w2 ⟨rfl, hU2⟩
      have hown2 : w2.ownsRow w.heap.size 2 1 u7 j (il RX j) := own_un HD.out.2 hU2 hd
      have HU2 : Hid (Un d (c + cntV RO (j + 1)) w w2) := by
        have e : c + cntV RO (j + 1) = c + cntV RO j + bi (RO j) := by show c + (cntV RO j + bi (RO j)) = _; omega
        show Un _ _ _ _
        rw [e]
        exact HD.out.1.chain hU2
      have hsz : w.heap.size ≤ w2.heap.size := HU2.out.s
      clear ct ft hU2 HD
      go_wp2_with (at_builtin; refine wpList_append_own _ rfl _ _ 43 rfl w.heap.size 2 i0 (.int .i64 0) 1 8 Try.underlying43 hi hz0 hz1 hz2 rfl (by decide) _ _ _ rfl (hown2.alloc _) ⟨w2.heap.size, 0, none⟩ 1 1 [.int .i64 (RX j)] rfl rfl (cell_one_new _ _ _) (ints_oneCell .i64 [RX j]) (by unfold maxLen; omega) (by omega) (by simp; omega) ?_; intro v' w3 hown' hgrow hnil)
      have hown3 : w3.ownsRow w.heap.size 2 1 v' (j + 1) (il RX (j + 1)) := by rw [il_succ]; exact hown'
      have HU3 : Hid (Un d (c + cntV RO (j + 1)) w w3) := HU2.out.grow hd hgrow (fun k hk => (hown2.lt k hk).1)
      clear hown' hgrow hnil hown2 HU2
      go_wp2
      go_roundw
      case rel => exact ⟨j + 1, by omega, by go_num, hown3, HU3⟩
      case measure => simp [intOf]; omega
    · obtain rfl : j = n := by omega
      have HQ : Hid (Ar wr u7 j RX ∧ Ow w.heap.size u7) := ar_of_own hown (fun k hk => HG.out k)
      clear hown
      go_wp2
      go_ret
      exact ⟨_, rfl, HQ.out.1, HQ.out.2, hU.out⟩

end Go.Proofs.Ytfcneciknldohaa
/-
  The contracts of regattaref04's Sum, Mean and Norm.
-/
set_option linter.unusedVariables false
set_option linter.unusedSimpArgs false
namespace Go.Proofs.Ytfcneciknldohaa
open Go.RowKit

end Go.Proofs.Ytfcneciknldohaa
/-
  The contract of regattaref04's Clip.
-/
set_option linter.unusedVariables false
set_option linter.unusedSimpArgs false
namespace Go.Proofs.Ytfcneciknldohaa
open Go.RowKit

/-- Whether a vector is clipped. -/
def cpB (most : Int) (n : Nat) (f : Nat → Int) : Bool := decide (0 < most) && decide (most < rtX (dotV f f n))
/-- By what it is scaled. -/
def cpK (most : Int) (n : Nat) (f : Nat → Int) : Int := qv (most * 4294967296) (rtX (dotV f f n))
def cpO (most : Int) (n : Nat) (f : Nat → Int) : Bool := qo (most * 4294967296) (rtX (dotV f f n))
def cpF (most : Int) (n : Nat) (f : Nat → Int) (i : Nat) : Int := if cpB most n f = true then clv (rnd (cpK most n f * f i) 32) else f i
/-- How often something was held. -/
def cpN (most : Int) (n : Nat) (f : Nat → Int) : Int := if 0 < most then (if cpB most n f = true then bi (rtO (dotV f f n)) + bi (cpO most n f) + cntV (fun i => ovv (rnd (cpK most n f * f i) 32)) n else bi (rtO (dotV f f n))) else 0
theorem rtX_rng (v : Int) : 0 ≤ rtX v ∧ rtX v ≤ 9223372036854775807 := by
  unfold rtX
  split
  · omega
  · split
    · omega
    · have := rt_spec v (by omega) (by omega)
      omega
theorem qv_rng (v d : Int) : -9223372036854775808 ≤ qv v d ∧ qv v d ≤ 9223372036854775807 := by
  unfold qv
  split
  · unfold zv
    repeat' split
    all_goals omega
  · exact clv_rng _
end Go.Proofs.Ytfcneciknldohaa
