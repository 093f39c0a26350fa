/-
  The law FrameHunts: frames told by a range over a function.
-/
import Derived.Test.YtploeheklekjjaaDoorFrRefD
import Derived.Test.YtploeheklekjjaaDoorFrLawA
import Derived.Test.YtploeheklekjjaaDoorFrDefs3
import Derived.TacticsInMore
import Derived.OrdersIn
import Derived.Shelf.Abstract
set_option linter.unusedVariables false
set_option linter.unusedSimpArgs false
namespace Go.Proofs.YtploeheklekjjaaDoor
open Go.RowKit Go.Shelf
attribute [local go_sem] Oper.semAt_some

/-- What the region of FrameHunts reads. -/
structure Rd8 (b5 b6 b7 bx : Nat) (v5 v6 v7 : Value) (g4 o4 : Nat) (pl : Value) (k q : Value) (g5 o5 : Nat) (k' q' : Value) (w : World) : Prop where
  c5 : w.cell? ⟨b5, 0, none⟩ = some v5
  c6 : w.cell? ⟨b6, 0, none⟩ = some v6
  c7 : w.cell? ⟨b7, 0, none⟩ = some v7
  cp : w.cell? ⟨g4, o4, none⟩ = some pl
  x0 : w.cell? ⟨bx, 0, none⟩ = some k
  x1 : w.cell? ⟨bx, 1, none⟩ = some q
  y0 : w.cell? ⟨g5, o5, none⟩ = some k'
  y1 : w.cell? ⟨g5, o5 + 1, none⟩ = some q'
theorem Rd8.later {b5 b6 b7 bx : Nat} {v5 v6 v7 : Value} {g4 o4 : Nat} {pl k q : Value} {g5 o5 : Nat} {k' q' : Value} {w w' : World} (h : Rd8 b5 b6 b7 bx v5 v6 v7 g4 o4 pl k q g5 o5 k' q' w) (hb : Below w.heap.size w w') : Rd8 b5 b6 b7 bx v5 v6 v7 g4 o4 pl k q g5 o5 k' q' w' :=
  ⟨cell_later hb h.c5, cell_later hb h.c6, cell_later hb h.c7, cell_later hb h.cp, cell_later hb h.x0, cell_later hb h.x1, cell_later hb h.y0, cell_later hb h.y1⟩
set_option maxRecDepth 100000 in
set_option maxHeartbeats 8000000 in
theorem frameHunts_any (V : Fr1) (V3 : Fr3) (v : Value) (l : List Nat) (hb : ∀ c ∈ l, c < 256) (m : Int) (w : World) (h : Bs w v l) (hT : FT w) :
    Calls Tryd.prog 6 #[v, .int .i64 m] w fun e w' => e = .returned (.bool true) ∧ Below w.heap.size w w' := by
  have HL : Hid (Bs w v l) := h
  have HY : Hid (∀ c ∈ l, c < 256) := hb
  have HT : Hid (FT w) := hT
  obtain ⟨ad, cap, rfl, k1, k2⟩ := h.len
  unfold maxLen at k2
  obtain ⟨n, hn⟩ : ∃ n, l.length = n := ⟨_, rfl⟩
  have HN : Hid (l.length = n) := hn
  rw [hn] at k1 HL ⊢
  clear h hn hb hT
  refine (callsIn_wide (n := 10)).1 ?_
  refine callsIn_of_wp_marks Tryd.func6 rfl trivial ?_ rfl
  refine wpIn_wide.2 ?_
  simp only [Tryd.ntmps6, List.size_toArray, List.length_cons, List.length_nil, Nat.reduceAdd, Nat.reduceSub, Array.replicate_succ, Array.replicate_zero, List.push_toArray, List.append_toArray, List.nil_append, List.cons_append]
  have HA : Hid (Below w.heap.size w ((w.alloc (.cells #[.int .i64 m] 3)).alloc (.cells #[.bool false] 4)) ∧ ((w.alloc (.cells #[.int .i64 m] 3)).alloc (.cells #[.bool false] 4)).cell? ⟨w.heap.size, 0, none⟩ = some (.int .i64 m) ∧ ((w.alloc (.cells #[.int .i64 m] 3)).alloc (.cells #[.bool false] 4)).cell? ⟨w.heap.size + 1, 0, none⟩ = some (.bool false) ∧ ((w.alloc (.cells #[.int .i64 m] 3)).alloc (.cells #[.bool false] 4)).frozen? ⟨w.heap.size + 1, 0, none⟩ = false) := ⟨bel2 _ _ _, by simp [go_sem], by simp [go_sem], by simp [go_sem]⟩
  obtain ⟨b3, hb3⟩ : ∃ b3, w.heap.size = b3 := ⟨_, rfl⟩
  have HB3 : Hid (w.heap.size = b3) := hb3
  go_upto_region 1 with fail
  generalize (w.alloc (.cells #[.int .i64 m] 3)).alloc (.cells #[.bool false] 4) = wA at *
  rw [hb3] at HA
  clear hb3
  obtain ⟨b4, hb4⟩ : ∃ b4, b3 + 1 = b4 := ⟨_, rfl⟩
  have HB4 : Hid (b3 + 1 = b4) := hb4
  rw [hb4] at HA ⊢
  clear hb4
  go_wp2_with fail
  refine (awake13 V wA (HT.out.later (by rw [HB3.out]; exact HA.out.1))).mono ?_
  rintro e w1 ⟨rfl, hb1⟩
  have HA1 : Hid (Below b3 w w1 ∧ w1.cell? ⟨b3, 0, none⟩ = some (.int .i64 m) ∧ w1.cell? ⟨b4, 0, none⟩ = some (.bool false) ∧ w1.frozen? ⟨b4, 0, none⟩ = false) := ⟨by have h1 := HA.out.1; rw [← HB3.out] at h1 ⊢; exact bchain h1 hb1, cell_later hb1 HA.out.2.1, cell_later hb1 HA.out.2.2.1, frozen_later hb1 HA.out.2.2.1 HA.out.2.2.2⟩
  clear hb1 HA
  have c4 := HA1.out.2.2.1
  have f4 := HA1.out.2.2.2
  by_cases q1 : 1000 < n
  · have q1I : (1000 : Int) < (n : Int) := by omega
    go_wp2
    have z := World.cell?_setCell_same' w1 ⟨b4, 0, none⟩ (.bool true) (by rw [c4]; rfl)
    refine ⟨.bool true, by simp [results, Tryd.results6, go_sem, z], rfl, ?_⟩
    rw [HB3.out]
    exact HA1.out.1.setCell (by have := HB4.out; dsimp only; omega) _
  have q1I : ¬ (1000 : Int) < (n : Int) := by omega
  clear c4 f4
  go_wp2_with fail
  refine (refHunt _ l HY.out (by have := HN.out; omega) w1 (HL.out.later (by rw [HB3.out]; exact HA1.out.1))).mono ?_
  rintro e w2 ⟨v4, v5, rfl, hi2, hf2, hb2⟩
  have HI2 : Hid (Is w2 v4 (hpl (hnt l 0)) ∧ Frs w2 v5 (hfr (hnt l 0)) ∧ Below w1.heap.size w1 w2) := ⟨hi2, hf2, hb2⟩
  have HK4 : Hid ((hpl (hnt l 0)).length = (hnt l 0).length ∧ (hfr (hnt l 0)).length = (hnt l 0).length) := ⟨by simp [hpl], by simp [hfr]⟩
  obtain ⟨a4, p4, rfl, -, -⟩ := hi2.len
  obtain ⟨a5, p5, rfl, -, -⟩ := hf2.len
  rw [HK4.out.1, HK4.out.2] at HI2
  clear hi2 hf2 hb2
  simp only [HK4.out.1, HK4.out.2]
  obtain ⟨K, hK⟩ : ∃ K, (hnt l 0).length = K := ⟨_, rfl⟩
  have HK : Hid ((hnt l 0).length = K) := hK
  simp only [hK] at HI2 HK4 ⊢
  clear hK
  obtain ⟨w5, hw5⟩ : ∃ w5, w5 = (((w2.alloc (.cells #[.slice a4 K p4] 45)).alloc (.cells #[.slice a5 K p5] 42)).alloc (.cells #[.int .i64 0] 3)) := ⟨_, rfl⟩
  have hB25 : Below w2.heap.size w2 w5 := by rw [hw5]; exact bchain (bel2 _ _ _) (bel1 _ _)
  have HC5 : Hid (w5.cell? ⟨w2.heap.size, 0, none⟩ = some (.slice a4 K p4) ∧ w5.cell? ⟨w2.heap.size + 1, 0, none⟩ = some (.slice a5 K p5) ∧ w5.cell? ⟨w2.heap.size + 1 + 1, 0, none⟩ = some (.int .i64 0) ∧ w5.frozen? ⟨w2.heap.size + 1 + 1, 0, none⟩ = false ∧ w5.heap.size = w2.heap.size + 1 + 1 + 1) := by rw [hw5]; exact ⟨by simp [go_sem], by simp [go_sem], by simp [go_sem], by simp [go_sem], by simp⟩
  have hB15 := bchain HI2.out.2.2 hB25
  have HI5 : Hid (Is w5 (.slice a4 K p4) (hpl (hnt l 0)) ∧ Frs w5 (.slice a5 K p5) (hfr (hnt l 0)) ∧ Below b3 w w5) := ⟨HI2.out.1.later hB25, HI2.out.2.1.later hB25, by have h1 := HA1.out.1; rw [← HB3.out] at h1 ⊢; exact bchain h1 hB15⟩
  have HA5 : Hid (w5.cell? ⟨b3, 0, none⟩ = some (.int .i64 m) ∧ w5.cell? ⟨b4, 0, none⟩ = some (.bool false) ∧ w5.frozen? ⟨b4, 0, none⟩ = false ∧ b4 < w2.heap.size) := ⟨cell_later hB15 HA1.out.2.1, cell_later hB15 HA1.out.2.2.1, frozen_later hB15 HA1.out.2.2.1 HA1.out.2.2.2, Nat.lt_of_lt_of_le (World.block_lt_of_cell? _ _ HA1.out.2.2.1) HI2.out.2.2.size⟩
  have HI2b : Hid (Is w2 (.slice a4 K p4) (hpl (hnt l 0)) ∧ Frs w2 (.slice a5 K p5) (hfr (hnt l 0)) ∧ Below w2.heap.size w2 w5) := ⟨HI2.out.1, HI2.out.2.1, hB25⟩
  clear hB25 hB15 HI2 HA1
  go_upto_region 7 with fail
  rw [← hw5]
  clear hw5
  obtain ⟨b5, hb5⟩ : ∃ b5, w2.heap.size = b5 := ⟨_, rfl⟩
  have HB5 : Hid (w2.heap.size = b5) := hb5
  rw [hb5] at HC5 HA5 ⊢
  clear hb5
  obtain ⟨b6, hb6⟩ : ∃ b6, b5 + 1 = b6 := ⟨_, rfl⟩
  have HB6 : Hid (b5 + 1 = b6) := hb6
  rw [hb6] at HC5 ⊢
  clear hb6
  obtain ⟨b7, hb7⟩ : ∃ b7, b6 + 1 = b7 := ⟨_, rfl⟩
  have HB7 : Hid (b6 + 1 = b7) := hb7
  rw [hb7] at HC5 ⊢
  clear hb7
  go_wp2_with fail
  refine (V3.hunt w5 _ l (HL.out.later (by rw [HB3.out]; exact HI5.out.2.2)) HY.out (by have := HN.out; omega) (HT.out.later (by rw [HB3.out]; exact HI5.out.2.2))).mono ?_
  rintro e w6 ⟨gf, lb, rfl, hB6, heg, hTl⟩
  have HX6 : Hid ((∀ args W, (callFunc gf args).run Tryd.prog W = .ok (.enter gf args) W) ∧ ∀ (FB : Nat → Prop) (W : World), (∀ k, FB k → k < w5.heap.size) → Nf FB (.slice ad n cap) → NT FB → Kp FB w6 W → Tells Fence.wide 9 Tryd.prog gf lb (hnt l 0) EH FB W) := ⟨heg, hTl⟩
  have HB56 : Hid (Below w5.heap.size w5 w6) := hB6
  clear hB6 heg hTl
  go_wp2_with fail
  have HZ : Hid (Below w2.heap.size w2 w6 ∧ w6.cell? ⟨b7, 0, none⟩ = some (.int .i64 0) ∧ w6.frozen? ⟨b7, 0, none⟩ = false ∧ Below b3 w w6 ∧ w6.cell? ⟨b3, 0, none⟩ = some (.int .i64 m) ∧ w6.cell? ⟨b4, 0, none⟩ = some (.bool false) ∧ w6.frozen? ⟨b4, 0, none⟩ = false ∧ w6.cell? ⟨b5, 0, none⟩ = some (.slice a4 K p4) ∧ w6.cell? ⟨b6, 0, none⟩ = some (.slice a5 K p5)) :=
    ⟨bchain HI2b.out.2.2 HB56.out, cell_later HB56.out HC5.out.2.2.1, frozen_later HB56.out HC5.out.2.2.1 HC5.out.2.2.2.1, HI5.out.2.2.trans (HB56.out.mono (by have h1 := HI5.out.2.2.size; have := HB3.out; omega)), cell_later HB56.out HA5.out.1, cell_later HB56.out HA5.out.2.1, frozen_later HB56.out HA5.out.2.1 HA5.out.2.2.1, cell_later HB56.out HC5.out.1, cell_later HB56.out HC5.out.2.1⟩
  have HSZ : Hid (b3 < b4 ∧ b4 < b5 ∧ b5 < b6 ∧ b6 < b7 ∧ b7 < w6.heap.size ∧ w5.heap.size = b7 + 1 ∧ 1 < b3 ∧ 0 < b3) := by
    have h1 := HB4.out
    have h2 := HA5.out.2.2.2
    have h3 := HB6.out
    have h4 := HB7.out
    have h5 := HC5.out.2.2.2.2
    have h6 := HB56.out.size
    have h7 := HT.out.low
    have h8 := HB3.out
    refine ⟨by omega, by omega, by omega, by omega, by omega, by omega, ?_⟩
    rw [← h8]
    exact h7
  refine (wpIn_wide (n := 10)).1 ?_
  refine range_told (FB := fun k => k = b7) rfl (by omega) (gf := gf) (lb := lb) rfl trivial HX6.out.1 (HX6.out.2 _ w6 ?f1 ?f2 ?f3 (Kp.refl _ _)) ?f4 ?f5 (fun k => k = b7 ∨ k = b4) ?f6
    (fun i X => Hb w6 b7 i X) (fun c i X => c = .ret ∧ Below b3 w X ∧ X.cell? ⟨b4, 0, none⟩ = some (.bool true))
    (fun i a' X => ∃ (y : Nat × Nat × List Nat) (ap : Option Addr) (np cp bx : Nat), (hnt l 0)[i]? = some y ∧ a' = { tmps := #[Value.slice ad n cap, Value.int IntKind.i64 m, undef, Value.pointer (some ⟨b3, 0, none⟩), Value.pointer (some ⟨b4, 0, none⟩), Value.pointer (some ⟨b5, 0, none⟩), Value.pointer (some ⟨b6, 0, none⟩), Value.pointer (some ⟨b7, 0, none⟩), Value.int IntKind.i64 (y.1 : Int), Value.pointer (some ⟨bx, 0, none⟩), Value.bool true, Value.bool false, Value.slice ad n cap, Value.int IntKind.i64 (n : Int), Value.bool (decide ((1000 : Int) < (n : Int))), Value.tuple #[Value.slice a4 K p4, Value.slice a5 K p5], Value.slice ad n cap, Value.tuple #[Value.slice a4 K p4, Value.slice a5 K p5], Value.slice a4 K p4, Value.slice a5 K p5, Value.slice ad n cap, Value.func (Fn.func gf) #[] lb, Value.int IntKind.i64 (y.1 : Int), Value.agg #[Value.int IntKind.i64 (y.2.1 : Int), Value.slice ap np cp], undef, undef, undef, undef, undef, undef, undef, undef, undef, undef, undef, undef, undef, undef, undef, undef, undef, undef, undef, undef, undef, undef, undef, undef, undef, undef, undef, undef, undef, undef, undef, undef, undef, undef], defers := [] } ∧ Hb w6 b7 i X ∧ Hx bx y.2.1 (.slice ap np cp) y.2.2 X ∧ w6.heap.size + 2 ≤ bx ∧ Nb (.slice ap np cp) (w6.heap.size + 1)) ?f7 ?f8 ?f9 ?f10 ?assign ?body ?done ?left
  case f1 => intro k hk; have := HSZ.out; omega
  case f2 => intro a n' cap' e hp q; have h1 := HL.out.lo a n' cap' e hp; have := HSZ.out; have := HB3.out; omega
  case f3 => exact ⟨fun q => by dsimp only at q; have := HSZ.out; omega, fun q => by dsimp only at q; have := HSZ.out; omega⟩
  case f4 => rintro y args X ⟨ap, np, cp, rfl, -⟩; rfl
  case f5 => intro k hk; have := HSZ.out; omega
  case f6 => intro k hk; have := HSZ.out; omega
  case f7 => intro i X X' G hX hG k; exact hX.puts (fun j hj => by have := hG j hj; have := HSZ.out; omega) k
  case f8 =>
    rintro c i X X' G ⟨rfl, h1, h2⟩ hG k
    exact ⟨rfl, k.next h1 (fun j hj => by have := hG j hj; have := HSZ.out; omega) (by have := h1.size; have := HB3.out; omega), k.cell (a := ⟨b4, 0, none⟩) (fun q => by have := hG _ q; dsimp only at this; have := HSZ.out; omega) h2⟩
  case f9 =>
    rintro i a' X X' ⟨y, ap, np, cp, bx, hy, ha, h1, h2, h3, h4⟩ k
    exact ⟨y, ap, np, cp, bx, hy, ha, h1.put (by have := HSZ.out; omega) k, h2.put (by omega) h4 k, h3, h4⟩
  case f10 => exact ⟨Below.refl _ _, HZ.out.2.1, HZ.out.2.2.1⟩
  case assign =>
    rintro i y args X hy hX ⟨ap, np, cp, rfl, hp⟩ hsz hno
    have HX : Hid (Hb w6 b7 i X ∧ Bs X (.slice ap np cp) y.2.2 ∧ Nb (.slice ap np cp) (w6.heap.size + 1)) := ⟨hX, hp, nb_none hp hno⟩
    clear hX hp hno
    gi_wp2
    refine ⟨⟨y, ap, np, cp, X.heap.size, hy, rfl, ?_, ?_, hsz, HX.out.2.2⟩, (Kp.refl _ _).alloc _⟩
    · exact ⟨HX.out.1.k.alloc (by have := HSZ.out; omega) _, cell_later (bel1 _ _) HX.out.1.c7, frozen_later (bel1 _ _) HX.out.1.c7 HX.out.1.f7⟩
    · exact ⟨by simp [go_sem], by simp [go_sem], HX.out.2.1.later (bel1 _ _)⟩
  case done =>
    intro X hX hD
    rw [HK.out] at hX
    have c7 := hX.c7
    have c6 : X.cell? ⟨b6, 0, none⟩ = some (.slice a5 K p5) := (hX.k.cell (p := ⟨b6, 0, none⟩) (by have := HSZ.out; dsimp only; omega)).trans HZ.out.2.2.2.2.2.2.2.2
    have c4 : X.cell? ⟨b4, 0, none⟩ = some (.bool false) := (hX.k.cell (p := ⟨b4, 0, none⟩) (by have := HSZ.out; dsimp only; omega)).trans HZ.out.2.2.2.2.2.1
    have f4 : X.frozen? ⟨b4, 0, none⟩ = false := (hX.k.frozen (p := ⟨b4, 0, none⟩) (by have := HSZ.out; dsimp only; omega)).trans HZ.out.2.2.2.2.2.2.1
    have HD : Hid (X.heap[w6.heap.size]? = some (.deferred (some []))) := hD
    have HW : Hid (Below b3 w X) := HZ.out.2.2.2.1.trans (hX.k.mono (by have := HSZ.out; omega))
    clear hX hD
    go_wp2
    refine ⟨by simp, Or.inl ⟨w6.heap.size, _, rfl, run_takeDeferred (ds := []) ((Below.heap_setCell _ _ _ _ (by have := HSZ.out; dsimp only; omega)).trans HD.out), ?_⟩⟩
    have z := World.cell?_setCell_same' X ⟨b4, 0, none⟩ (.bool true) (by rw [c4]; rfl)
    have z2 : ((X.setCell ⟨b4, 0, none⟩ (.bool true)).putObj w6.heap.size (.deferred none)).cell? ⟨b4, 0, none⟩ = some (.bool true) := (World.cell?_of_block (World.putObj_heap_other (by have := HSZ.out; dsimp only; omega))).trans z
    refine ⟨.bool true, by simp [results, Tryd.results6, go_sem, z2], rfl, ?_⟩
    rw [HB3.out]
    exact (kp_put _ w6.heap.size _).next (HW.out.setCell (by have := HSZ.out; dsimp only; omega) _) (fun j hj => by have := HSZ.out; omega) (by rw [World.size_setCell]; have := HW.out.size; have := HB3.out; omega)
  case left =>
    rintro c i X hi ⟨rfl, h1, h2⟩ hD
    have HQ : Hid (Below b3 w X ∧ X.cell? ⟨b4, 0, none⟩ = some (.bool true) ∧ X.heap[w6.heap.size]? = some (.deferred (some []))) := ⟨h1, h2, hD⟩
    clear h1 h2 hD hi
    refine wpIn_wide.2 ?_
    go_wp2
    refine ⟨by simp, Or.inl ⟨w6.heap.size, _, rfl, run_takeDeferred (ds := []) HQ.out.2.2, ?_⟩⟩
    have z2 : (X.putObj w6.heap.size (.deferred none)).cell? ⟨b4, 0, none⟩ = some (.bool true) := (World.cell?_of_block (World.putObj_heap_other (by have := HSZ.out; dsimp only; omega))).trans HQ.out.2.1
    refine ⟨.bool true, by simp [results, Tryd.results6, go_sem, z2], rfl, ?_⟩
    rw [HB3.out]
    exact (kp_put _ w6.heap.size _).next HQ.out.1 (fun j hj => by have := HSZ.out; omega) (by have := HQ.out.1.size; have := HB3.out; omega)
  case body =>
    rintro i y0 a' X hy0 ⟨y, ap, np, cp, bx, hy, rfl, hH, hX, hbx, hnb⟩ hsz
    clear hy0 y0
    obtain ⟨yl, yp, yf⟩ := ys_at hy
    rw [HK.out] at yl
    have hS := HSZ.out
    have hB2 : Below w2.heap.size w2 X := HZ.out.1.trans (hH.k.mono (by have := HB5.out; omega))
    obtain ⟨g4, o4, e4, cp4⟩ := (HI2b.out.1.later hB2).cel i (by rw [HK4.out.1]; exact yl)
    obtain ⟨g5, o5, vq, e5, cq0, cq1, hq⟩ := (HI2b.out.2.1.later hB2).cel i (by rw [HK4.out.2]; exact yl)
    rw [yp] at cp4
    rw [yf] at cq0 hq
    obtain ⟨pk, kk, pp⟩ := y
    have c7 := hH.c7
    have f7 := hH.f7
    have c3 : X.cell? ⟨b3, 0, none⟩ = some (.int .i64 m) := (hH.k.cell (p := ⟨b3, 0, none⟩) (by dsimp only; omega)).trans HZ.out.2.2.2.2.1
    have c4 : X.cell? ⟨b4, 0, none⟩ = some (.bool false) := (hH.k.cell (p := ⟨b4, 0, none⟩) (by dsimp only; omega)).trans HZ.out.2.2.2.2.2.1
    have f4 : X.frozen? ⟨b4, 0, none⟩ = false := (hH.k.frozen (p := ⟨b4, 0, none⟩) (by dsimp only; omega)).trans HZ.out.2.2.2.2.2.2.1
    have c5 : X.cell? ⟨b5, 0, none⟩ = some (.slice a4 K p4) := (hH.k.cell (p := ⟨b5, 0, none⟩) (by dsimp only; omega)).trans HZ.out.2.2.2.2.2.2.2.1
    have c6 : X.cell? ⟨b6, 0, none⟩ = some (.slice a5 K p5) := (hH.k.cell (p := ⟨b6, 0, none⟩) (by dsimp only; omega)).trans HZ.out.2.2.2.2.2.2.2.2
    dsimp only at cp4 cq0 cq1 hq hX ⊢
    have HW : Hid (Below b3 w X ∧ Below b7 w6 X) := ⟨HZ.out.2.2.2.1.trans (hH.k.mono (by omega)), hH.k⟩
    have hilI : (i : Int) ≤ (K : Int) := by omega
    by_cases hm : (i : Int) = m
    · subst hm
      clear hS hB2 cp4 cq0 cq1 hq hX hH
      gi_wp2
      have z := World.cell?_setCell_same' X ⟨b4, 0, none⟩ (.bool true) (by rw [c4]; rfl)
      exact ⟨⟨rfl, HW.out.1.setCell (by have := HSZ.out; dsimp only; omega) _, z⟩, (Kp.refl _ _).set (Or.inl (Or.inr rfl)) _⟩
    · subst e4 e5
      obtain ⟨aq, cq, rfl, -, -⟩ := hq.len
      have hnp : np = pp.length := by
        obtain ⟨_, _, e, _, _⟩ := hX.pl.len
        injection e
      subst hnp
      have HRd : Hid (Rd8 b5 b6 b7 bx (.slice (some ⟨g4, o4, none⟩) K p4) (.slice (some ⟨g5, o5, none⟩) K p5) (.int .i64 (i : Int)) g4 (o4 + i) (.int .i64 (pk : Int)) (.int .i64 (kk : Int)) (.slice ap pp.length cp) g5 (o5 + i * 2) (.int .i64 (kk : Int)) (.slice aq pp.length cq) X) := ⟨c5, c6, c7, cp4, hX.x0, hX.x1, cq0, cq1⟩
      have HP : Hid (Bs X (.slice ap pp.length cp) pp ∧ Bs X (.slice aq pp.length cq) pp) := ⟨hX.pl, hq⟩
      have hgeN : decide (K ≤ i) = false := by simp; omega
      have hgeI : ¬ (K : Int) ≤ (i : Int) := by omega
      have hi0 : (0 : Int) ≤ (i : Int) := by omega
      have hiK : (i : Int) < (K : Int) := by omega
      have HC7 : Hid (X.cell? ⟨b7, 0, none⟩ = some (.int .i64 (i : Int)) ∧ X.frozen? ⟨b7, 0, none⟩ = false) := ⟨c7, f7⟩
      clear hS hB2 cp4 cq0 cq1 hq hX hH c4 f4 c5 c6 f7
      gi_wp2
      refine region_round_held (Rd8 b5 b6 b7 bx (.slice (some ⟨g4, o4, none⟩) K p4) (.slice (some ⟨g5, o5, none⟩) K p5) (.int .i64 (i : Int)) g4 (o4 + i) (.int .i64 (pk : Int)) (.int .i64 (kk : Int)) (.slice ap pp.length cp) g5 (o5 + i * 2) (.int .i64 (kk : Int)) (.slice aq pp.length cq)) (by kernel_rfl) (by kernel_rfl) (by rintro ⟨_, _, h⟩; exact h) (HRd.out.later (Below.refl _ _).drew) (fun HS => ?_)
      have HPd : Hid (Bs X.drew (.slice ap pp.length cp) pp ∧ Bs X.drew (.slice aq pp.length cq) pp ∧ Below X.heap.size X X.drew) := ⟨HP.out.1.later (Below.refl _ _).drew, HP.out.2.later (Below.refl _ _).drew, (Below.refl _ _).drew⟩
      clear HRd HP c3 c7
      generalize X.drew = q0 at *
      refine wpAnyH_take (i := 0) (v := ?v1) rfl (by kernel_rfl) (by kernel_rfl) (by kernel_rfl) (fun _ _ _ h => h) (Or.inl ⟨by kernel_rfl, ?h1⟩) HS ?r1
      case h1 => (rintro w ⟨n0, n1, n2, n3, n4, n5, n6, n7⟩; go_simp) <;> with_reducible rfl
      try simp only [Act.put, List.getElem_toArray, List.getElem_cons_succ, List.getElem_cons_zero, List.setIfInBounds_toArray, List.set_cons_zero, List.set_cons_succ]
      refine wpAnyH_take (i := 1) (v := ?v2) rfl (by kernel_rfl) (by kernel_rfl) (by kernel_rfl) (fun _ _ _ h => h) (Or.inl ⟨by kernel_rfl, ?h2⟩) HS ?r2
      case h2 => (rintro w ⟨n0, n1, n2, n3, n4, n5, n6, n7⟩; go_simp) <;> with_reducible rfl
      try simp only [Act.put, List.getElem_toArray, List.getElem_cons_succ, List.getElem_cons_zero, List.setIfInBounds_toArray, List.set_cons_zero, List.set_cons_succ]
      refine wpAnyH_take (i := 2) (v := ?v3) rfl (by kernel_rfl) (by kernel_rfl) (by kernel_rfl) (fun _ _ _ h => h) (Or.inl ⟨by kernel_rfl, ?h3⟩) HS ?r3
      case h3 => (rintro w ⟨n0, n1, n2, n3, n4, n5, n6, n7⟩; go_simp) <;> with_reducible rfl
      try simp only [Act.put, List.getElem_toArray, List.getElem_cons_succ, List.getElem_cons_zero, List.setIfInBounds_toArray, List.set_cons_zero, List.set_cons_succ]
      refine wpAnyH_take (i := 3) (v := ?v4) rfl (by kernel_rfl) (by kernel_rfl) (by kernel_rfl) (fun _ _ _ h => h) (Or.inl ⟨by kernel_rfl, ?h4⟩) HS ?r4
      case h4 => (rintro w ⟨n0, n1, n2, n3, n4, n5, n6, n7⟩; go_simp) <;> with_reducible rfl
      try simp only [Act.put, List.getElem_toArray, List.getElem_cons_succ, List.getElem_cons_zero, List.setIfInBounds_toArray, List.set_cons_zero, List.set_cons_succ]
      refine wpAnyH_take (i := 4) (v := ?v5) rfl (by kernel_rfl) (by kernel_rfl) (by kernel_rfl) (fun _ _ _ h => h) (Or.inl ⟨by kernel_rfl, ?h5⟩) HS ?r5
      case h5 => (rintro w ⟨n0, n1, n2, n3, n4, n5, n6, n7⟩; go_simp) <;> with_reducible rfl
      try simp only [Act.put, List.getElem_toArray, List.getElem_cons_succ, List.getElem_cons_zero, List.setIfInBounds_toArray, List.set_cons_zero, List.set_cons_succ]
      try simp only [hgeN]
      refine wpAnyH_take (i := 5) (v := ?v6) rfl (by kernel_rfl) (by kernel_rfl) (by kernel_rfl) (fun _ _ _ h => h) (Or.inl ⟨by kernel_rfl, ?h6⟩) HS ?r6
      case h6 => (rintro w ⟨n0, n1, n2, n3, n4, n5, n6, n7⟩; go_simp) <;> with_reducible rfl
      try simp only [Act.put, List.getElem_toArray, List.getElem_cons_succ, List.getElem_cons_zero, List.setIfInBounds_toArray, List.set_cons_zero, List.set_cons_succ]
      refine wpAnyH_take (i := 6) (v := ?v7) rfl (by kernel_rfl) (by kernel_rfl) (by kernel_rfl) (fun _ _ _ h => h) (Or.inl ⟨by kernel_rfl, ?h7⟩) HS ?r7
      case h7 => (rintro w ⟨n0, n1, n2, n3, n4, n5, n6, n7⟩; go_simp) <;> with_reducible rfl
      try simp only [Act.put, List.getElem_toArray, List.getElem_cons_succ, List.getElem_cons_zero, List.setIfInBounds_toArray, List.set_cons_zero, List.set_cons_succ]
      refine wpAnyH_take (i := 7) (v := ?v8) rfl (by kernel_rfl) (by kernel_rfl) (by kernel_rfl) (fun _ _ _ h => h) (Or.inl ⟨by kernel_rfl, ?h8⟩) HS ?r8
      case h8 => (rintro w ⟨n0, n1, n2, n3, n4, n5, n6, n7⟩; go_simp) <;> with_reducible rfl
      try simp only [Act.put, List.getElem_toArray, List.getElem_cons_succ, List.getElem_cons_zero, List.setIfInBounds_toArray, List.set_cons_zero, List.set_cons_succ]
      refine wpAnyH_take (i := 8) (v := ?v9) rfl (by kernel_rfl) (by kernel_rfl) (by kernel_rfl) (fun _ _ _ h => h) (Or.inl ⟨by kernel_rfl, ?h9⟩) HS ?r9
      case h9 => (rintro w ⟨n0, n1, n2, n3, n4, n5, n6, n7⟩; go_simp) <;> with_reducible rfl
      try simp only [Act.put, List.getElem_toArray, List.getElem_cons_succ, List.getElem_cons_zero, List.setIfInBounds_toArray, List.set_cons_zero, List.set_cons_succ]
      refine wpAnyH_take (i := 9) (v := ?v10) rfl (by kernel_rfl) (by kernel_rfl) (by kernel_rfl) (fun _ _ _ h => h) (Or.inl ⟨by kernel_rfl, ?h10⟩) HS ?r10
      case h10 => (rintro w ⟨n0, n1, n2, n3, n4, n5, n6, n7⟩; go_simp) <;> with_reducible rfl
      try simp only [Act.put, List.getElem_toArray, List.getElem_cons_succ, List.getElem_cons_zero, List.setIfInBounds_toArray, List.set_cons_zero, List.set_cons_succ]
      refine wpAnyH_take (i := 10) (v := ?v11) rfl (by kernel_rfl) (by kernel_rfl) (by kernel_rfl) (fun _ _ _ h => h) (Or.inl ⟨by kernel_rfl, ?h11⟩) HS ?r11
      case h11 => (rintro w ⟨n0, n1, n2, n3, n4, n5, n6, n7⟩; go_simp) <;> with_reducible rfl
      try simp only [Act.put, List.getElem_toArray, List.getElem_cons_succ, List.getElem_cons_zero, List.setIfInBounds_toArray, List.set_cons_zero, List.set_cons_succ]
      refine wpAnyH_take (i := 11) (v := ?v12) rfl (by kernel_rfl) (by kernel_rfl) (by kernel_rfl) (fun _ _ _ h => h) (Or.inl ⟨by kernel_rfl, ?h12⟩) HS ?r12
      case h12 => (rintro w ⟨n0, n1, n2, n3, n4, n5, n6, n7⟩; go_simp) <;> with_reducible rfl
      try simp only [Act.put, List.getElem_toArray, List.getElem_cons_succ, List.getElem_cons_zero, List.setIfInBounds_toArray, List.set_cons_zero, List.set_cons_succ]
      refine wpAnyH_take (i := 12) (v := ?v13) rfl (by kernel_rfl) (by kernel_rfl) (by kernel_rfl) (fun _ _ _ h => h) (Or.inl ⟨by kernel_rfl, ?h13⟩) HS ?r13
      case h13 => (rintro w ⟨n0, n1, n2, n3, n4, n5, n6, n7⟩; go_simp) <;> with_reducible rfl
      try simp only [Act.put, List.getElem_toArray, List.getElem_cons_succ, List.getElem_cons_zero, List.setIfInBounds_toArray, List.set_cons_zero, List.set_cons_succ]
      refine wpAnyH_take (i := 13) (v := ?v14) rfl (by kernel_rfl) (by kernel_rfl) (by kernel_rfl) (fun _ _ _ h => h) (Or.inl ⟨by kernel_rfl, ?h14⟩) HS ?r14
      case h14 => (rintro w ⟨n0, n1, n2, n3, n4, n5, n6, n7⟩; go_simp) <;> with_reducible rfl
      try simp only [Act.put, List.getElem_toArray, List.getElem_cons_succ, List.getElem_cons_zero, List.setIfInBounds_toArray, List.set_cons_zero, List.set_cons_succ]
      refine wpAnyH_take (i := 14) (v := ?v15) rfl (by kernel_rfl) (by kernel_rfl) (by kernel_rfl) (fun _ _ _ h => h) (Or.inl ⟨by kernel_rfl, ?h15⟩) HS ?r15
      case h15 => (rintro w ⟨n0, n1, n2, n3, n4, n5, n6, n7⟩; go_simp) <;> with_reducible rfl
      try simp only [Act.put, List.getElem_toArray, List.getElem_cons_succ, List.getElem_cons_zero, List.setIfInBounds_toArray, List.set_cons_zero, List.set_cons_succ]
      refine wpAnyH_take (i := 15) (v := ?v16) rfl (by kernel_rfl) (by kernel_rfl) (by kernel_rfl) (fun _ _ _ h => h) (Or.inl ⟨by kernel_rfl, ?h16⟩) HS ?r16
      case h16 => (rintro w ⟨n0, n1, n2, n3, n4, n5, n6, n7⟩; go_simp) <;> with_reducible rfl
      try simp only [Act.put, List.getElem_toArray, List.getElem_cons_succ, List.getElem_cons_zero, List.setIfInBounds_toArray, List.set_cons_zero, List.set_cons_succ]
      refine wpAnyH_take (i := 16) (v := ?v17) rfl (by kernel_rfl) (by kernel_rfl) (by kernel_rfl) (fun _ _ _ h => h) (Or.inl ⟨by kernel_rfl, ?h17⟩) HS ?r17
      case h17 => (rintro w ⟨n0, n1, n2, n3, n4, n5, n6, n7⟩; go_simp) <;> with_reducible rfl
      try simp only [Act.put, List.getElem_toArray, List.getElem_cons_succ, List.getElem_cons_zero, List.setIfInBounds_toArray, List.set_cons_zero, List.set_cons_succ]
      refine wpAnyH_take (i := 17) (v := ?v18) rfl (by kernel_rfl) (by kernel_rfl) (by kernel_rfl) (fun _ _ _ h => h) (Or.inl ⟨by kernel_rfl, ?h18⟩) HS ?r18
      case h18 => (rintro w ⟨n0, n1, n2, n3, n4, n5, n6, n7⟩; go_simp) <;> with_reducible rfl
      try simp only [Act.put, List.getElem_toArray, List.getElem_cons_succ, List.getElem_cons_zero, List.setIfInBounds_toArray, List.set_cons_zero, List.set_cons_succ]
      refine wpAnyH_ready (rs := [18]) (by kernel_rfl) (by simp) ?_
      refine AllReadyH.cons rfl (fun K hK => ?_) AllReadyH.nil
      go_simp
      refine (like13 (kk : Int) _ _ pp _ HPd.out.1 HPd.out.2.1).mono ?_
      rintro e q1 ⟨rfl, hb4⟩
      have hXq := bchain HPd.out.2.2 hb4
      have c7 := cell_later hXq HC7.out.1
      have f7 := frozen_later hXq HC7.out.1 HC7.out.2
      have HB4b : Hid (Below X.heap.size X q1) := hXq
      refine hK.out _ _ (HS.later hb4) (fun HS => ?_)
      clear hK K hb4 HPd hXq
      try simp only [Act.put, List.getElem_toArray, List.getElem_cons_succ, List.getElem_cons_zero, List.setIfInBounds_toArray, List.set_cons_zero, List.set_cons_succ]
      refine wpAnyH_take (i := 19) (v := ?v19) rfl (by kernel_rfl) (by kernel_rfl) (by kernel_rfl) (fun _ _ _ h => h) (Or.inl ⟨by kernel_rfl, ?h19⟩) HS ?r19
      case h19 => (rintro w ⟨n0, n1, n2, n3, n4, n5, n6, n7⟩; go_simp) <;> with_reducible rfl
      try simp only [Act.put, List.getElem_toArray, List.getElem_cons_succ, List.getElem_cons_zero, List.setIfInBounds_toArray, List.set_cons_zero, List.set_cons_succ]
      refine wpAnyH_take (i := 20) (v := ?v20) rfl (by kernel_rfl) (by kernel_rfl) (by kernel_rfl) (fun _ _ _ h => h) (Or.inl ⟨by kernel_rfl, ?h20⟩) HS ?r20
      case h20 => (rintro w ⟨n0, n1, n2, n3, n4, n5, n6, n7⟩; go_simp) <;> with_reducible rfl
      try simp only [Act.put, List.getElem_toArray, List.getElem_cons_succ, List.getElem_cons_zero, List.setIfInBounds_toArray, List.set_cons_zero, List.set_cons_succ]
      refine wpAnyH_done (by kernel_rfl) ?_ _
      clear HS
      have hi1 : IntKind.i64.wrap ((i : Int) + 1) = ((i + 1 : Nat) : Int) := by rw [IntKind.wrap_i64]; have := HN.out; have := HK.out; have := hnt_len l; omega
      gi_wp2
      refine ⟨⟨?_, World.cell?_setCell_same' _ _ _ (by rw [c7]; rfl), by rw [World.frozen?_setCell]; exact f7⟩, ((Kp.of (F := fun k => k = b7) HB4b.out).set (p := ⟨b7, 0, none⟩) (Or.inl rfl) _)⟩
      exact (HW.out.2.trans (HB4b.out.mono (by have := HSZ.out; omega))).setCell (Nat.le_refl _) _
end Go.Proofs.YtploeheklekjjaaDoor
