/-
The document's Decode (regattaref14), some kinds.
The document's Decode of any bytes (regattaref14).
A message as the document's (regattalaw14.plain); equal messages held against each other (regattaref14.Same).
Layer 14: the contracts of msg; a message there and back, in numbers; awake (regattalaw14).
Plain numbers: a step of any width by a table; maps that keep xor; the product of two polynomials.
The program's contracts: More, Of.
-/
import Derived.Test.YtfcbgkcclganmaaDoorZ10
import Derived.Test.YtfcbgkcclganmaaDoorZ11
import Derived.Test.YtfcbgkcclganmaaDoorZ12
import Derived.Test.YtfcbgkcclganmaaDoorZ13
import Derived.Test.YtfcbgkcclganmaaDoorZ07
import Derived.Test.YtfcbgkcclganmaaDoorZ04
import Derived.Test.YtfcbgkcclganmaaDoorZ01
import Derived.Test.YtfcbgkcclganmaaDoorZ06
import Derived.Test.YtfcbgkcclganmaaDoorZ05

set_option linter.unusedVariables false
set_option linter.unusedSimpArgs false
namespace Go.Proofs.YtfcbgkcclganmaaDoor
open Go.RowKit

set_option maxRecDepth 100000 in
set_option maxHeartbeats 8000000 in
theorem refDec9 (v : Value) (l : List Nat) (hb : ∀ c ∈ l, c < 256) (hl : l.length ≤ 90000) (w : World) (h : Bs w v l) (hE : opE l = 0) (hN : ¬ opN l < l.length) (K : Nat) (hk8 : 8 < K) (hk : opK l = K) :
    Calls Tryd.prog 15 #[v] w fun e w' => ∃ vd, e = .returned (.tuple #[msV (dcM l) vd, .int .i64 ((dcE l : Nat) : Int)]) ∧ Bs w' vd (dcM l).d ∧ Ow w.heap.size vd ∧ Below w.heap.size w w' := by
  have C := refOpen v l hb hl
  rw [hE, hk] at C
  have HP : Hid ((∀ c ∈ opP l, c < 256) ∧ (opP l).length ≤ 1000000) := ⟨opP_byte hb, by have := opP_len l; omega⟩
  have HX : Hid (dcE l = 140 ∧ dcM l = ms0) := dc_no hE hN (fun q => by have := q.2.1; rw [hk] at this; omega)
  have n1 : ¬ (K : Int) = 1 := by omega
  have n2 : ¬ (K : Int) = 2 := by omega
  have n3 : ¬ (K : Int) = 3 := by omega
  have n4 : ¬ (K : Int) = 4 := by omega
  have n5 : ¬ (K : Int) = 5 := by omega
  have n6 : ¬ (K : Int) = 6 := by omega
  have n7 : ¬ (K : Int) = 7 := by omega
  have n8 : ¬ (K : Int) = 8 := by omega
  have b1 : ((K : Int) == 1) = false := by simp; omega
  have b2 : ((K : Int) == 2) = false := by simp; omega
  have b3 : ((K : Int) == 3) = false := by simp; omega
  have b4 : ((K : Int) == 4) = false := by simp; omega
  have b5 : ((K : Int) == 5) = false := by simp; omega
  have b8 : ((K : Int) == 8) = false := by simp; omega
  have c1 : ((K : Int) != 1) = true := by simp; omega
  have c2 : ((K : Int) != 2) = true := by simp; omega
  have c4 : ((K : Int) != 4) = true := by simp; omega
  have c8 : ((K : Int) != 8) = true := by simp; omega
  have n36 : (3 : Int) ≤ (K : Int) := by omega
  have n66 : ¬ (K : Int) ≤ 6 := by omega
  have n88 : (8 : Int) < (K : Int) := by omega
  have hNI : ¬ ((opN l : Nat) : Int) < ((l.length : Nat) : Int) := by omega
  have HL : Hid (Bs w v l) := h
  obtain ⟨ad, cap, rfl, -, -⟩ := h.len
  generalize dcE l = E at *
  generalize dcM l = M at *
  generalize opP l = P at *
  generalize opN l = N at *
  clear h hE hN hk hb hl
  obtain ⟨wA, hwA⟩ : ∃ wA, wA = w.alloc (.cells #[.int .i64 0, .int .i64 0, .int .i64 0, .int .i64 0, .int .i64 0, .int .i64 0, .int .i64 0, .slice none 0 0] 26) := ⟨_, rfl⟩
  have HA : Hid (Rw w.heap.size 8 (mf ms0 (.slice none 0 0)) wA ∧ Below w.heap.size w wA ∧ wA.heap.size = w.heap.size + 1) := by rw [hwA]; exact ⟨mf_new w ms0 _ _, bel1 _ _, by simp⟩
  go_enter Tryd.func15, Tryd.ntmps15
  go_wp2_with fail
  rw [← hwA]
  refine (C wA (HL.out.later HA.out.2.1)).mono ?_
  clear C hwA
  rintro e w1 ⟨vp, rfl, hP, hO, hB⟩
  have hAs := HA.out.2.2
  have hBs := hB.size
  have HB : Hid (Bs w1 vp P ∧ Lo w1.heap.size vp ∧ Rw w.heap.size 8 (mf ms0 (.slice none 0 0)) w1 ∧ Below w.heap.size w w1 ∧ w.heap.size < w1.heap.size) := ⟨hP, Ls.lo hP, HA.out.1.later hB, bchain HA.out.2.1 hB, by omega⟩
  obtain ⟨ap, pp, rfl, -, -⟩ := hP.len
  clear hP hO hB HA HL hAs hBs
  generalize hnp : P.length = np at *
  have HNp : Hid (P.length ≤ 1000000) := by show _ ≤ _; rw [hnp]; exact HP.out.2
  clear hnp
  obtain ⟨wB, hwB⟩ : ∃ wB, wB = ((w1.alloc (.cells #[.int .i64 (K : Int), .slice ap np pp] 66)).alloc (.cells #[.slice ap np pp, .int .i64 0, .int .i64 0] 71)).alloc (.cells #[.int .i64 (K : Int), .int .i64 0, .int .i64 0, .int .i64 0, .int .i64 0, .int .i64 0, .int .i64 0, .slice none 0 0] 26) := ⟨_, rfl⟩
  have HD0 : Hid (Dst w.heap.size w1.heap.size (K : Int) P (.slice ap np pp) (.ok P) ⟨(K : Int), 0, 0, 0, 0, 0, 0, []⟩ (.slice none 0 0) w wB) := by
    rw [hwB]
    obtain ⟨wF, hwF⟩ : ∃ wF, wF = w1.alloc (.cells #[.int .i64 (K : Int), .slice ap np pp] 66) := ⟨_, rfl⟩
    have sF : wF.heap.size = w1.heap.size + 1 := by rw [hwF]; simp
    have bF : Below w1.heap.size w1 wF := by rw [hwF]; exact bel1 _ _
    have cF : wF.cell? ⟨w1.heap.size, 0, none⟩ = some (.int .i64 (K : Int)) := by rw [hwF]; simp [go_sem]
    rw [← hwF]
    clear hwF hwB
    obtain ⟨wG, hwG⟩ : ∃ wG, wG = wF.alloc (.cells #[.slice ap np pp, .int .i64 0, .int .i64 0] 71) := ⟨_, rfl⟩
    have sG : wG.heap.size = w1.heap.size + 2 := by rw [hwG]; simp [sF]
    have bG : Below wF.heap.size wF wG := by rw [hwG]; exact bel1 _ _
    have rG : R0 (w1.heap.size + 1) P (.slice ap np pp) 0 0 wG := by
      have := HB.out.1.later bF
      rw [hwG, ← sF]
      exact ⟨by simp [go_sem], by simp [go_sem], by simp [go_sem], by simp [go_sem], by simp [go_sem], this.later (bel1 _ _), Ls.nb this (Nat.le_refl _), Nat.zero_le _⟩
    rw [← hwG]
    clear hwG
    have mG := mf_new wG ⟨(K : Int), 0, 0, 0, 0, 0, 0, []⟩ (.slice none 0 0) 26
    rw [sG] at mG
    have bH : ∀ o, Below w1.heap.size w1 (wG.alloc o) := fun o => bchain (bchain bF bG) (bel1 _ _)
    exact ⟨cell_later (bel1 _ _) (cell_later bG cF), ⟨0, 0, rG.later (bel1 _ _), rfl, rfl⟩, mG, HB.out.2.2.1.later (bH _), HB.out.2.1, HB.out.2.2.2.2, bchain HB.out.2.2.2.1 (bH _)⟩
  go_upto_region 8 with fail
  rw [← hwB]
  clear hwB HB
  generalize hg : w1.heap.size = g at *
  clear hg w1
  have HDa := HD0
  clear HD0
  have x0 := HDa.out.kc
  go_wp2_with fail
  refine (refRInt (g + 1) P _ (.ok P) wB HP.out.1 HNp.out HDa.out.rr).mono ?_
  rintro e wc0 ⟨rfl, hr, hk⟩
  have HDb : Hid (Dst w.heap.size g (K : Int) P (.slice ap np pp) (pn rI (.ok P)) ⟨(K : Int), 0, 0, 0, 0, 0, 0, []⟩ (.slice none 0 0) w wc0) := HDa.out.read hr hk
  clear hr hk HDa x0
  have x0 := HDb.out.kc
  have y0 := HDb.out.mb.c 2 (by omega)
  have t0 := HDb.out.mb.f 2 (by omega)
  dsimp only [mf] at y0
  go_upto_region 12 with fail
  have HDa : Hid (Dst w.heap.size g (K : Int) P (.slice ap np pp) (pn rI (.ok P)) ⟨(K : Int), 0, (pv rI 0 (.ok P)), 0, 0, 0, 0, []⟩ (.slice none 0 0) w (wc0.setCell ⟨g + 2, 2, none⟩ (.int .i64 (pv rI 0 (.ok P))))) := by
    refine HDb.out.put 2 _ _ _ fun j hj => ?_
    rcases less8 hj with rfl | rfl | rfl | rfl | rfl | rfl | rfl | rfl <;> rfl
  clear HDb x0 y0 t0
  generalize wc0.setCell ⟨g + 2, 2, none⟩ (.int .i64 (pv rI 0 (.ok P))) = wd0 at *
  clear wc0
  have x0 := HDa.out.kc
  go_wp2_with fail
  refine (refRInt (g + 1) P _ (pn rI (.ok P)) wd0 HP.out.1 HNp.out HDa.out.rr).mono ?_
  rintro e wc1 ⟨rfl, hr, hk⟩
  have HDb : Hid (Dst w.heap.size g (K : Int) P (.slice ap np pp) (pn rI (pn rI (.ok P))) ⟨(K : Int), 0, (pv rI 0 (.ok P)), 0, 0, 0, 0, []⟩ (.slice none 0 0) w wc1) := HDa.out.read hr hk
  clear hr hk HDa x0
  have x0 := HDb.out.kc
  have y0 := HDb.out.mb.c 3 (by omega)
  have t0 := HDb.out.mb.f 3 (by omega)
  dsimp only [mf] at y0
  go_upto_region 14 with fail
  have HDa : Hid (Dst w.heap.size g (K : Int) P (.slice ap np pp) (pn rI (pn rI (.ok P))) ⟨(K : Int), 0, (pv rI 0 (.ok P)), (pv rI 0 (pn rI (.ok P))), 0, 0, 0, []⟩ (.slice none 0 0) w (wc1.setCell ⟨g + 2, 3, none⟩ (.int .i64 (pv rI 0 (pn rI (.ok P)))))) := by
    refine HDb.out.put 3 _ _ _ fun j hj => ?_
    rcases less8 hj with rfl | rfl | rfl | rfl | rfl | rfl | rfl | rfl <;> rfl
  clear HDb x0 y0 t0
  generalize wc1.setCell ⟨g + 2, 3, none⟩ (.int .i64 (pv rI 0 (pn rI (.ok P)))) = wd1 at *
  clear wc1
  have x0 := HDa.out.kc
  have HZ := HDa
  clear HDa
  have z0 := HZ.out.rb.c 0 (by omega)
  have t0 := HZ.out.rb.f 0 (by omega)
  have z1 := HZ.out.rb.c 1 (by omega)
  have t1 := HZ.out.rb.f 1 (by omega)
  have z2 := HZ.out.rb.c 2 (by omega)
  have t2 := HZ.out.rb.f 2 (by omega)
  have z3 := HZ.out.rb.c 3 (by omega)
  have t3 := HZ.out.rb.f 3 (by omega)
  have z4 := HZ.out.rb.c 4 (by omega)
  have t4 := HZ.out.rb.f 4 (by omega)
  have z5 := HZ.out.rb.c 5 (by omega)
  have t5 := HZ.out.rb.f 5 (by omega)
  have z6 := HZ.out.rb.c 6 (by omega)
  have t6 := HZ.out.rb.f 6 (by omega)
  have z7 := HZ.out.rb.c 7 (by omega)
  have t7 := HZ.out.rb.f 7 (by omega)
  dsimp only [mf, ms0] at z0 z1 z2 z3 z4 z5 z6 z7
  go_wp2
  have HR := mf_put8 HZ.out.rb ms0 (.slice none 0 0)
  have HBl := below_put8 HZ.out.bl (Nat.le_refl _) (.int .i64 0) (.int .i64 0) (.int .i64 0) (.int .i64 0) (.int .i64 0) (.int .i64 0) (.int .i64 0) (.slice none 0 0)
  dsimp only [ms0] at HR
  clear z0 z1 z2 z3 z4 z5 z6 z7 t0 t1 t2 t3 t4 t5 t6 t7 HZ
  generalize World.setCell _ ⟨w.heap.size, 7, none⟩ (.slice none 0 0) = wZ at *
  have z0 := HR.c 0 (by omega)
  have z1 := HR.c 1 (by omega)
  have z2 := HR.c 2 (by omega)
  have z3 := HR.c 3 (by omega)
  have z4 := HR.c 4 (by omega)
  have z5 := HR.c 5 (by omega)
  have z6 := HR.c 6 (by omega)
  have z7 := HR.c 7 (by omega)
  dsimp only [mf] at z0 z1 z2 z3 z4 z5 z6 z7
  obtain ⟨rfl, rfl⟩ := HX.out
  exact bodyPost_ret (v := .tuple #[.agg #[.int .i64 0, .int .i64 0, .int .i64 0, .int .i64 0, .int .i64 0, .int .i64 0, .int .i64 0, .slice none 0 0], .int .i64 140]) (by simp [results, Tryd.results15, go_sem, z0, z1, z2, z3, z4, z5, z6, z7]) rfl ⟨.slice none 0 0, rfl, bs_nil14 _, ow_nil14 _, HBl⟩
end Go.Proofs.YtfcbgkcclganmaaDoor
set_option linter.unusedVariables false
set_option linter.unusedSimpArgs false
namespace Go.Proofs.YtfcbgkcclganmaaDoor
open Go.RowKit

set_option maxRecDepth 100000 in
set_option maxHeartbeats 8000000 in
theorem refDecE (v : Value) (l : List Nat) (hb : ∀ c ∈ l, c < 256) (hl : l.length ≤ 90000) (w : World) (h : Bs w v l) (hE : opE l ≠ 0) :
    Calls Tryd.prog 15 #[v] w fun e w' => ∃ vd, e = .returned (.tuple #[msV (dcM l) vd, .int .i64 ((dcE l : Nat) : Int)]) ∧ Bs w' vd (dcM l).d ∧ Ow w.heap.size vd ∧ Below w.heap.size w w' := by
  have C := refOpen v l hb hl
  have HX : Hid (dcE l = opE l ∧ dcM l = ms0) := dc_err hE
  have hEI : ¬ ((opE l : Nat) : Int) = 0 := by omega
  have HL : Hid (Bs w v l) := h
  obtain ⟨ad, cap, rfl, -, -⟩ := h.len
  generalize dcE l = E at *
  generalize dcM l = M at *
  generalize opP l = P at *
  generalize opN l = N at *
  generalize opK l = K at *
  generalize opE l = O at *
  clear h hE hb hl
  obtain ⟨wA, hwA⟩ : ∃ wA, wA = w.alloc (.cells #[.int .i64 0, .int .i64 0, .int .i64 0, .int .i64 0, .int .i64 0, .int .i64 0, .int .i64 0, .slice none 0 0] 26) := ⟨_, rfl⟩
  have HA : Hid (Rw w.heap.size 8 (mf ms0 (.slice none 0 0)) wA ∧ Below w.heap.size w wA) := by rw [hwA]; exact ⟨mf_new w ms0 _ _, bel1 _ _⟩
  go_enter Tryd.func15, Tryd.ntmps15
  go_wp2_with fail
  rw [← hwA]
  refine (C wA (HL.out.later HA.out.2)).mono ?_
  clear C hwA
  rintro e w1 ⟨vp, rfl, hP, hO, hB⟩
  have HZ : Hid (∀ o : Obj, Rw w.heap.size 8 (mf ms0 (.slice none 0 0)) (w1.alloc o) ∧ Below w.heap.size w (w1.alloc o)) := fun o => ⟨(HA.out.1.later hB).later (bel1 _ _), bchain (bchain HA.out.2 hB) (bel1 _ _)⟩
  obtain ⟨ap, pp, rfl, -, -⟩ := hP.len
  clear hP hO hB HA HL
  obtain ⟨wB, hwB⟩ : ∃ wB, wB = w1.alloc (.cells #[.int .i64 (K : Int), .slice ap P.length pp] 66) := ⟨_, rfl⟩
  have HZ2 : Hid (Rw w.heap.size 8 (mf ms0 (.slice none 0 0)) wB ∧ Below w.heap.size w wB) := by rw [hwB]; exact HZ.out _
  clear HZ
  go_upto_region 2 with fail
  rw [← hwB]
  clear hwB
  have z0 := HZ2.out.1.c 0 (by omega)
  have t0 := HZ2.out.1.f 0 (by omega)
  have z1 := HZ2.out.1.c 1 (by omega)
  have t1 := HZ2.out.1.f 1 (by omega)
  have z2 := HZ2.out.1.c 2 (by omega)
  have t2 := HZ2.out.1.f 2 (by omega)
  have z3 := HZ2.out.1.c 3 (by omega)
  have t3 := HZ2.out.1.f 3 (by omega)
  have z4 := HZ2.out.1.c 4 (by omega)
  have t4 := HZ2.out.1.f 4 (by omega)
  have z5 := HZ2.out.1.c 5 (by omega)
  have t5 := HZ2.out.1.f 5 (by omega)
  have z6 := HZ2.out.1.c 6 (by omega)
  have t6 := HZ2.out.1.f 6 (by omega)
  have z7 := HZ2.out.1.c 7 (by omega)
  have t7 := HZ2.out.1.f 7 (by omega)
  dsimp only [mf, ms0] at z0 z1 z2 z3 z4 z5 z6 z7
  go_wp2
  have HR := mf_put8 HZ2.out.1 ms0 (.slice none 0 0)
  have HBl := below_put8 HZ2.out.2 (Nat.le_refl _) (.int .i64 0) (.int .i64 0) (.int .i64 0) (.int .i64 0) (.int .i64 0) (.int .i64 0) (.int .i64 0) (.slice none 0 0)
  dsimp only [ms0] at HR
  clear z0 z1 z2 z3 z4 z5 z6 z7 t0 t1 t2 t3 t4 t5 t6 t7 HZ2
  generalize World.setCell _ ⟨w.heap.size, 7, none⟩ (.slice none 0 0) = wZ at *
  have z0 := HR.c 0 (by omega)
  have z1 := HR.c 1 (by omega)
  have z2 := HR.c 2 (by omega)
  have z3 := HR.c 3 (by omega)
  have z4 := HR.c 4 (by omega)
  have z5 := HR.c 5 (by omega)
  have z6 := HR.c 6 (by omega)
  have z7 := HR.c 7 (by omega)
  dsimp only [mf] at z0 z1 z2 z3 z4 z5 z6 z7
  obtain ⟨rfl, rfl⟩ := HX.out
  exact bodyPost_ret (v := .tuple #[.agg #[.int .i64 0, .int .i64 0, .int .i64 0, .int .i64 0, .int .i64 0, .int .i64 0, .int .i64 0, .slice none 0 0], .int .i64 (E : Int)]) (by simp [results, Tryd.results15, go_sem, z0, z1, z2, z3, z4, z5, z6, z7]) rfl ⟨.slice none 0 0, rfl, bs_nil14 _, ow_nil14 _, HBl⟩
set_option maxRecDepth 100000 in
set_option maxHeartbeats 8000000 in
theorem refDecL (v : Value) (l : List Nat) (hb : ∀ c ∈ l, c < 256) (hl : l.length ≤ 90000) (w : World) (h : Bs w v l) (hE : opE l = 0) (hN : opN l < l.length) :
    Calls Tryd.prog 15 #[v] w fun e w' => ∃ vd, e = .returned (.tuple #[msV (dcM l) vd, .int .i64 ((dcE l : Nat) : Int)]) ∧ Bs w' vd (dcM l).d ∧ Ow w.heap.size vd ∧ Below w.heap.size w w' := by
  have C := refOpen v l hb hl
  rw [hE] at C
  have HX : Hid (dcE l = 122 ∧ dcM l = ms0) := dc_left hE hN
  have hNI : ((opN l : Nat) : Int) < ((l.length : Nat) : Int) := by omega
  have HL : Hid (Bs w v l) := h
  obtain ⟨ad, cap, rfl, -, -⟩ := h.len
  generalize dcE l = E at *
  generalize dcM l = M at *
  generalize opP l = P at *
  generalize opN l = N at *
  generalize opK l = K at *
  generalize opE l = O at *
  clear h hE hb hl hN
  obtain ⟨wA, hwA⟩ : ∃ wA, wA = w.alloc (.cells #[.int .i64 0, .int .i64 0, .int .i64 0, .int .i64 0, .int .i64 0, .int .i64 0, .int .i64 0, .slice none 0 0] 26) := ⟨_, rfl⟩
  have HA : Hid (Rw w.heap.size 8 (mf ms0 (.slice none 0 0)) wA ∧ Below w.heap.size w wA) := by rw [hwA]; exact ⟨mf_new w ms0 _ _, bel1 _ _⟩
  go_enter Tryd.func15, Tryd.ntmps15
  go_wp2_with fail
  rw [← hwA]
  refine (C wA (HL.out.later HA.out.2)).mono ?_
  clear C hwA
  rintro e w1 ⟨vp, rfl, hP, hO, hB⟩
  have HZ : Hid (∀ o : Obj, Rw w.heap.size 8 (mf ms0 (.slice none 0 0)) (w1.alloc o) ∧ Below w.heap.size w (w1.alloc o)) := fun o => ⟨(HA.out.1.later hB).later (bel1 _ _), bchain (bchain HA.out.2 hB) (bel1 _ _)⟩
  obtain ⟨ap, pp, rfl, -, -⟩ := hP.len
  clear hP hO hB HA HL
  obtain ⟨wB, hwB⟩ : ∃ wB, wB = w1.alloc (.cells #[.int .i64 (K : Int), .slice ap P.length pp] 66) := ⟨_, rfl⟩
  have HZ2 : Hid (Rw w.heap.size 8 (mf ms0 (.slice none 0 0)) wB ∧ Below w.heap.size w wB) := by rw [hwB]; exact HZ.out _
  clear HZ
  go_upto_region 2 with fail
  rw [← hwB]
  clear hwB
  have z0 := HZ2.out.1.c 0 (by omega)
  have t0 := HZ2.out.1.f 0 (by omega)
  have z1 := HZ2.out.1.c 1 (by omega)
  have t1 := HZ2.out.1.f 1 (by omega)
  have z2 := HZ2.out.1.c 2 (by omega)
  have t2 := HZ2.out.1.f 2 (by omega)
  have z3 := HZ2.out.1.c 3 (by omega)
  have t3 := HZ2.out.1.f 3 (by omega)
  have z4 := HZ2.out.1.c 4 (by omega)
  have t4 := HZ2.out.1.f 4 (by omega)
  have z5 := HZ2.out.1.c 5 (by omega)
  have t5 := HZ2.out.1.f 5 (by omega)
  have z6 := HZ2.out.1.c 6 (by omega)
  have t6 := HZ2.out.1.f 6 (by omega)
  have z7 := HZ2.out.1.c 7 (by omega)
  have t7 := HZ2.out.1.f 7 (by omega)
  dsimp only [mf, ms0] at z0 z1 z2 z3 z4 z5 z6 z7
  go_wp2
  have HR := mf_put8 HZ2.out.1 ms0 (.slice none 0 0)
  have HBl := below_put8 HZ2.out.2 (Nat.le_refl _) (.int .i64 0) (.int .i64 0) (.int .i64 0) (.int .i64 0) (.int .i64 0) (.int .i64 0) (.int .i64 0) (.slice none 0 0)
  dsimp only [ms0] at HR
  clear z0 z1 z2 z3 z4 z5 z6 z7 t0 t1 t2 t3 t4 t5 t6 t7 HZ2
  generalize World.setCell _ ⟨w.heap.size, 7, none⟩ (.slice none 0 0) = wZ at *
  have z0 := HR.c 0 (by omega)
  have z1 := HR.c 1 (by omega)
  have z2 := HR.c 2 (by omega)
  have z3 := HR.c 3 (by omega)
  have z4 := HR.c 4 (by omega)
  have z5 := HR.c 5 (by omega)
  have z6 := HR.c 6 (by omega)
  have z7 := HR.c 7 (by omega)
  dsimp only [mf] at z0 z1 z2 z3 z4 z5 z6 z7
  obtain ⟨rfl, rfl⟩ := HX.out
  exact bodyPost_ret (v := .tuple #[.agg #[.int .i64 0, .int .i64 0, .int .i64 0, .int .i64 0, .int .i64 0, .int .i64 0, .int .i64 0, .slice none 0 0], .int .i64 122]) (by simp [results, Tryd.results15, go_sem, z0, z1, z2, z3, z4, z5, z6, z7]) rfl ⟨.slice none 0 0, rfl, bs_nil14 _, ow_nil14 _, HBl⟩
/-- The document's Decode. -/
theorem refDecode (v : Value) (l : List Nat) (hb : ∀ c ∈ l, c < 256) (hl : l.length ≤ 90000) (w : World) (h : Bs w v l) :
    Calls Tryd.prog 15 #[v] w fun e w' => ∃ vd, e = .returned (.tuple #[msV (dcM l) vd, .int .i64 ((dcE l : Nat) : Int)]) ∧ Bs w' vd (dcM l).d ∧ Ow w.heap.size vd ∧ Below w.heap.size w w' := by
  by_cases hE : opE l = 0
  · by_cases hN : opN l < l.length
    · exact refDecL v l hb hl w h hE hN
    · by_cases h8 : 8 < opK l
      · exact refDec9 v l hb hl w h hE hN _ h8 rfl
      · have h1 := op_kind hE
        have := kind8 (k := ((opK l : Nat) : Int)) (by omega) (by omega)
        rcases this with q | q | q | q | q | q | q | q
        · exact refDec1 v l hb hl w h hE hN (by omega)
        · exact refDec2 v l hb hl w h hE hN (by omega)
        · exact refDec3 v l hb hl w h hE hN (by omega)
        · exact refDec4 v l hb hl w h hE hN (by omega)
        · exact refDec5 v l hb hl w h hE hN (by omega)
        · exact refDec6 v l hb hl w h hE hN (by omega)
        · exact refDec7 v l hb hl w h hE hN (by omega)
        · exact refDec8 v l hb hl w h hE hN (by omega)
  · exact refDecE v l hb hl w h hE
end Go.Proofs.YtfcbgkcclganmaaDoor
set_option linter.unusedVariables false
set_option linter.unusedSimpArgs false
namespace Go.Proofs.YtfcbgkcclganmaaDoor
open Go.RowKit

set_option maxRecDepth 100000 in
set_option maxHeartbeats 2000000 in
theorem plain14 (m : Ms) (ad : Option Addr) (n cap : Nat) (w : World) :
    Calls Tryd.prog 8 #[msV m (.slice ad n cap)] w fun e w' => e = .returned (msV m (.slice ad n cap)) ∧ Below w.heap.size w w' := by
  obtain ⟨k, fr, inc, rd, h, pt, ps, d⟩ := m
  unfold msV
  dsimp only
  go_enter Tryd.func8, Tryd.ntmps8
  go_wp2
  exact bodyPost_ret (v := .agg #[.int .i64 k, .int .i64 fr, .int .i64 inc, .int .i64 rd, .int .i64 h, .int .i64 pt, .int .i64 ps, .slice ad n cap]) (by simp [results, Tryd.results8, go_sem]) rfl ⟨rfl, bel2 _ _ _⟩
set_option maxRecDepth 100000 in
set_option maxHeartbeats 4000000 in
theorem same14 (m : Ms) (va vb : Value) (w : World) (hA : Bs w va m.d) (hB : Bs w vb m.d) :
    Calls Tryd.prog 16 #[msV m va, msV m vb] w fun e w' => e = .returned (.bool true) ∧ Below w.heap.size w w' := by
  obtain ⟨k, fr, inc, rd, h, pt, ps, d⟩ := m
  dsimp only at hA hB
  obtain ⟨wX, hwX⟩ : ∃ wX, wX = (w.alloc (.cells #[.int .i64 k, .int .i64 fr, .int .i64 inc, .int .i64 rd, .int .i64 h, .int .i64 pt, .int .i64 ps, va] 26)).alloc (.cells #[.int .i64 k, .int .i64 fr, .int .i64 inc, .int .i64 rd, .int .i64 h, .int .i64 pt, .int .i64 ps, vb] 26) := ⟨_, rfl⟩
  have HX : Hid (B8 w.heap.size ⟨k, fr, inc, rd, h, pt, ps, d⟩ va wX ∧ B8 (w.heap.size + 1) ⟨k, fr, inc, rd, h, pt, ps, d⟩ vb wX ∧ Bs wX va d ∧ Bs wX vb d ∧ Below w.heap.size w wX) := by
    rw [hwX]
    have e := B8.new (w.alloc (.cells #[.int .i64 k, .int .i64 fr, .int .i64 inc, .int .i64 rd, .int .i64 h, .int .i64 pt, .int .i64 ps, va] 26)) ⟨k, fr, inc, rd, h, pt, ps, d⟩ vb 26
    rw [World.size_alloc] at e
    exact ⟨(B8.new _ _ _ _).later (bel1 _ _), e, hA.later (bel2 _ _ _), hB.later (bel2 _ _ _), bel2 _ _ _⟩
  obtain ⟨ad, cap, rfl, k1, k2⟩ := hA.len
  obtain ⟨bd, bap, rfl, q1, q2⟩ := hB.len
  unfold maxLen at k2 q2
  obtain ⟨n, hn⟩ : ∃ n, d.length = n := ⟨_, rfl⟩
  have HN : Hid (d.length = n) := hn
  rw [hn] at k1 q1 HX hwX ⊢
  clear hA hB hn
  show Calls Tryd.prog 16 #[.agg #[.int .i64 k, .int .i64 fr, .int .i64 inc, .int .i64 rd, .int .i64 h, .int .i64 pt, .int .i64 ps, .slice ad n cap], .agg #[.int .i64 k, .int .i64 fr, .int .i64 inc, .int .i64 rd, .int .i64 h, .int .i64 pt, .int .i64 ps, .slice bd n bap]] w _
  go_enter Tryd.func16, Tryd.ntmps16
  go_upto_region 4 with fail
  rw [← hwX]
  clear hwX
  go_loopw [5] (fun s5 wr => ∃ j : Nat, j ≤ n ∧ s5 = .int .i64 (j : Int) ∧ Hid (Below wX.heap.size wX wr)) (fun s5 _ => n - (intOf s5).toNat)
  case atStart => exact ⟨0, by omega, rfl, Below.refl _ _⟩
  case round =>
    obtain ⟨j, hj, rfl, HW⟩ := hrel
    have x7 := cell_later HW.out HX.out.1.c7
    have y7 := cell_later HW.out HX.out.2.1.c7
    by_cases hlt : j < n
    · have hjI : (j : Int) < (n : Int) := by omega
      have hN := HN.out
      obtain ⟨b, o, rfl, ca⟩ := HX.out.2.2.1.cel j (by omega)
      obtain ⟨b2, o2, rfl, cb⟩ := HX.out.2.2.2.1.cel j (by omega)
      have cA := cell_later HW.out ca
      have cB := cell_later HW.out cb
      have hne : (((d.getD j 0 : Nat) : Int) != ((d.getD j 0 : Nat) : Int)) = false := neF rfl
      clear ca cb hN
      generalize d.getD j 0 = x at *
      go_wp2
      go_quiet (fail)
      go_wp2
      go_roundw
      case rel => exact ⟨j + 1, by omega, by go_num, below_drewP HW.out _⟩
      case measure => simp [intOf]; omega
    · obtain rfl : j = n := by omega
      have hjI : ¬ (j : Int) < (j : Int) := by omega
      have HB : Hid (Below w.heap.size w wr) := bchain HX.out.2.2.2.2 HW.out
      go_wp2
      go_ret
      exact ⟨rfl, HB.out⟩
end Go.Proofs.YtfcbgkcclganmaaDoor
set_option linter.unusedVariables false
set_option linter.unusedSimpArgs false
namespace Go.Proofs.YtfcbgkcclganmaaDoor
open Go.RowKit

/-- The contracts of msg. -/
structure Mg1 : Prop where
  rgt : ∀ (w : World) (m : Ms) (v : Value), Bs w v m.d → FT w →
    Calls Tryd.prog 11 #[msV m v] w fun e w' => RgE m w e w'
  encY : ∀ (w : World) (m : Ms) (v : Value), Bs w v m.d → (∀ c ∈ m.d, c < 256) → Rgt m → FT w →
    Calls Tryd.prog 9 #[msV m v] w fun e w' => ∃ v', e = .returned (.tuple #[v', .int .i64 0]) ∧ Ob w.heap.size w' v' (fsl m.k.toNat (pay m)) ∧ Below w.heap.size w w'
  encN : ∀ (w : World) (m : Ms) (v : Value), Bs w v m.d → (∀ c ∈ m.d, c < 256) → ¬ Rgt m → FT w →
    Calls Tryd.prog 9 #[msV m v] w fun e w' => ∃ v', e = .returned (.tuple #[v', .int .i64 140]) ∧ Bs w' v' [] ∧ Below w.heap.size w w'
  dec : ∀ (w : World) (v : Value) (l : List Nat), Bs w v l → (∀ c ∈ l, c < 256) → l.length ≤ 90000 → FT w →
    Calls Tryd.prog 14 #[v] w fun e w' => ∃ vd, e = .returned (.tuple #[msV (dcM l) vd, .int .i64 ((dcE l : Nat) : Int)]) ∧ Bs w' vd (dcM l).d ∧ Ow w.heap.size vd ∧ Below w.heap.size w w'
/-- What was encoded is decoded. -/
theorem dc_seal {m : Ms} (r : Rgt m) (hb : ∀ c ∈ m.d, c < 256) : dcE (fsl m.k.toNat (pay m)) = 0 ∧ dcM (fsl m.k.toNat (pay m)) = m := by
  have h1 := r.k1
  have hl := pay_len r
  obtain ⟨e1, e2, e3, e4⟩ := op_seal0 (k := m.k.toNat) (by omega) (pay m) (by omega)
  obtain ⟨f1, f2⟩ := form_is14 r hb
  have ek : ((m.k.toNat : Nat) : Int) = m.k := by omega
  have := dc_yes (l := fsl m.k.toNat (pay m)) e1 (by rw [e4, seal_len]; omega) (by rw [e2, e3, ek]; exact f2)
  rw [e2, e3, ek, f1] at this
  exact this
theorem dc_cut {k : Nat} (hk : k ≠ 0) (l q : List Nat) (hl : l.length ≤ 65536) (h1 : q <+: fsl k l) (h2 : q.length < (fsl k l).length) : dcE q = 130 := by
  have e := opE_cut hk l q hl h1 h2
  rw [(dc_err (l := q) (by omega)).1, e]
theorem dc_more {k : Nat} (hk : k ≠ 0) (l t : List Nat) (hl : l.length ≤ 65536) (ht : 0 < t.length) : dcE (fsl k l ++ t) = 122 := by
  have e := opE_seal hk l t hl
  have e2 := op_seal hk l t hl
  exact (dc_left e (by rw [e2.2.2, List.length_append, seal_len]; omega)).1
/-- Any payload of any kind. -/
theorem dc_pay {k : Nat} (h1 : 1 ≤ k) (l : List Nat) (hl : l.length ≤ 65536) (hb : ∀ c ∈ l, c < 256) : (dcE (fsl k l) = 140 ∧ dcM (fsl k l) = ms0) ∨ (dcE (fsl k l) = 0 ∧ Rgt (dcM (fsl k l)) ∧ (∀ c ∈ (dcM (fsl k l)).d, c < 256) ∧ fsl (dcM (fsl k l)).k.toNat (pay (dcM (fsl k l))) = fsl k l) := by
  obtain ⟨e1, e2, e3, e4⟩ := op_seal0 (k := k) (by omega) l hl
  have hN : ¬ opN (fsl k l) < (fsl k l).length := by rw [e4, seal_len]; omega
  by_cases q : Is14 (k : Int) l
  · have := dc_yes e1 hN (by rw [e2, e3]; exact q)
    rw [e2, e3] at this
    obtain ⟨f1, f2⟩ := is14_form hb q
    refine Or.inr ⟨this.1, by rw [this.2]; exact q.2.2.2, by rw [this.2]; exact f2, ?_⟩
    rw [this.2, ← f1, rdM_k]
    rfl
  · exact Or.inl (dc_no e1 hN (by rw [e2, e3]; exact q))
/-- The message that awake sends. -/
def aw14 : Ms := ⟨1, 3, 1, 0, 0, 0, 0, []⟩
theorem aw14_rgt : Rgt aw14 where
  k1 := by decide
  k8 := by decide
  nF := fun _ => by exact absurd (Or.inl rfl) ‹_›
  nI := fun q => absurd ⟨by decide, by decide⟩ q
  nR := fun _ => rfl
  nH := fun _ => rfl
  nP := fun _ => rfl
  nS := fun _ => rfl
  nD := fun _ => rfl
  fr := fun _ => by decide
  inc := by decide
  rd := by decide
  pt := by decide
  h := fun q => by cases q
  ps := fun q => by rcases q with q | q | q <;> cases q
  d := by decide
theorem aw14_pay : pay aw14 = [6, 2] := by
  show enI 3 ++ (enI 1 ++ []) ++ [] = _
  rw [show enI 3 = [6] from enU_lt (by decide), show enI 1 = [2] from enU_lt (by decide)]
  rfl
set_option maxRecDepth 100000 in
set_option maxHeartbeats 8000000 in
theorem awake14 (V : Mg1) (w : World) (hT : FT w) :
    Calls Tryd.prog 7 #[] w fun e w' => e = .returned (.bool true) ∧ Below w.heap.size w w' := by
  have HT : Hid (FT w) := hT
  have HF : Hid (dcE (fsl 1 [6, 2]) = 0 ∧ dcM (fsl 1 [6, 2]) = aw14) := by have := dc_seal aw14_rgt (by intro c hc; cases hc); rw [aw14_pay] at this; exact this
  have HFl : Hid ((fsl 1 [6, 2]).length = 14 ∧ (fsl 1 [6, 2]).getD 8 0 = 6 ∧ (fsl 1 [6, 2]).getD 9 0 = 2 ∧ ∀ c ∈ fsl 1 [6, 2], c < 256) := ⟨seal_len 1 [6, 2], by rw [fsl_nil, seal_eight]; rfl, by rw [fsl_nil, seal_eight]; rfl, seal_byte (by omega) (by decide) (by decide)⟩
  have C := fun W hW => V.encY W aw14 (.slice none 0 0) (bs_nil14 W) (by intro c hc; cases hc) aw14_rgt hW
  rw [aw14_pay] at C
  have HC : Hid (∀ W, FT W → Calls Tryd.prog 9 #[.agg #[.int .i64 1, .int .i64 3, .int .i64 1, .int .i64 0, .int .i64 0, .int .i64 0, .int .i64 0, .slice none 0 0]] W fun e w' => ∃ v', e = .returned (.tuple #[v', .int .i64 0]) ∧ Ob W.heap.size w' v' (fsl 1 [6, 2]) ∧ Below W.heap.size W w') := C
  clear hT C
  go_enter Tryd.func7, Tryd.ntmps7
  go_wp2_with fail
  refine (HC.out _ (HT.out.later (bel1 _ _))).mono ?_
  rintro e w1 ⟨v1, rfl, hO1, hB1⟩
  have HB1 : Hid (Below w.heap.size w w1) := bchain (bel1 _ _) hB1
  have HL1 : Hid (Bs w1 v1 (fsl 1 [6, 2])) := hO1.bs.1
  obtain ⟨ad1, cap1, rfl⟩ := hO1.sl
  generalize fsl 1 [6, 2] = S at *
  have hSl := HFl.out.1
  rw [hSl] at HL1 ⊢
  clear hO1 hB1 hSl HC
  go_wp2_with fail
  refine (V.dec _ _ S HL1.out HFl.out.2.2.2 (by have := HFl.out.1; omega) (HT.out.later HB1.out)).mono ?_
  rintro e w2 ⟨v2, rfl, hL2, hO2, hB2⟩
  rw [HF.out.1, HF.out.2]
  rw [HF.out.2] at hL2
  have HB2 : Hid (∀ o : Obj, Below w.heap.size w (w2.alloc o)) := fun o => bchain (bchain HB1.out hB2) (bel1 _ _)
  have hS := HL1.out.later hB2
  obtain ⟨g, o, e1, ca⟩ := hS.cel 8 (by have := HFl.out.1; omega)
  obtain ⟨g', o', e2, cb⟩ := hS.cel 9 (by have := HFl.out.1; omega)
  rw [HFl.out.2.1] at ca
  rw [HFl.out.2.2.1] at cb
  subst e1
  cases e2
  obtain ⟨ad2, cap2, rfl, -, -⟩ := hL2.len
  have y1 : ∀ ob : Obj, (w2.alloc ob).cell? ⟨g, o + 8, none⟩ = some (.int .u8 6) := fun ob => cell_later (bel1 _ _) ca
  have y2 : ∀ ob : Obj, (w2.alloc ob).cell? ⟨g, o + 9, none⟩ = some (.int .u8 2) := fun ob => cell_later (bel1 _ _) cb
  clear hL2 hO2 hB2 hS ca cb HL1 HB1 HF HFl HT
  unfold msV aw14
  dsimp only
  go_wp2
  go_ret
  exact ⟨rfl, HB2.out _⟩
end Go.Proofs.YtfcbgkcclganmaaDoor
set_option linter.unusedVariables false
namespace Go.Proofs.YtfcbgkcclganmaaDoor

theorem part_eq (k r : Nat) : cZs k r = r / 2 ^ k ^^^ cZs k (r % 2 ^ k) := by
  have hb : r % 2 ^ k < 2 ^ k := Nat.mod_lt _ (Nat.two_pow_pos k)
  have e : r = 2 ^ k * (r / 2 ^ k) ^^^ r % 2 ^ k := by
    rw [← low_xor k (r / 2 ^ k) (r % 2 ^ k) hb]
    exact (Nat.div_add_mod r (2 ^ k)).symm
  have h : cZs k r = cZs k (2 ^ k * (r / 2 ^ k) ^^^ r % 2 ^ k) := congrArg (cZs k) e
  rw [h, cZs_xor, cZs_pow]
/-- A byte's step by a table of 256 sums. -/
theorem byte_eq (r : Nat) : cZs 8 r = r / 256 ^^^ cZs 8 (r % 256) := part_eq 8 r
/-- Two maps that keep xor and agree on the powers of two agree. -/
theorem lin_eq (F G : Nat → Nat) (hF : ∀ a b, F (a ^^^ b) = F a ^^^ F b) (hG : ∀ a b, G (a ^^^ b) = G a ^^^ G b) (n : Nat) (h : ∀ j, j < n → F (2 ^ j) = G (2 ^ j)) : ∀ b, b < 2 ^ n → F b = G b := by
  have z : ∀ K : Nat → Nat, (∀ a b, K (a ^^^ b) = K a ^^^ K b) → K 0 = 0 := fun K hK => by
    have := hK 0 0
    simpa using this
  induction n with
  | zero =>
    intro b hb
    obtain rfl : b = 0 := by simpa using hb
    rw [z F hF, z G hG]
  | succ n ih =>
    intro b hb
    have ih' := ih (fun j hj => h j (by omega))
    have hm : b % 2 ^ n < 2 ^ n := Nat.mod_lt _ (Nat.two_pow_pos n)
    have he : b / 2 ^ n < 2 := Nat.div_lt_of_lt_mul (by rw [Nat.pow_succ] at hb; omega)
    have e : b = b % 2 ^ n ^^^ b / 2 ^ n * 2 ^ n := by
      rw [← top_xor (b % 2 ^ n) (b / 2 ^ n) n hm he]
      have := Nat.div_add_mod b (2 ^ n)
      rw [Nat.mul_comm] at this
      omega
    have t : b / 2 ^ n = 0 ∨ b / 2 ^ n = 1 := by
      generalize b / 2 ^ n = d at he
      omega
    rw [e, hF, hG, ih' _ hm]
    rcases t with q | q
    · rw [q, Nat.zero_mul, z F hF, z G hG]
    · rw [q, Nat.one_mul, h n (by omega)]
/-- The product of two polynomials, its first so many steps: the first's highest bit is 1. -/
def cM (a b : Nat) : Nat → Nat
  | 0 => 0
  | k + 1 => cM a b k ^^^ (if a.testBit (31 - k) = true then cZs k b else 0)
theorem cM_succ (a b k : Nat) : cM a b (k + 1) = cM a b k ^^^ (if a.testBit (31 - k) = true then cZs k b else 0) := rfl
theorem cM_xor1 (a c b k : Nat) : cM (a ^^^ c) b k = cM a b k ^^^ cM c b k := by
  induction k with
  | zero => simp [cM]
  | succ k ih =>
    unfold cM
    rw [ih, Nat.testBit_xor]
    generalize cM a b k = x
    generalize cM c b k = y
    generalize cZs k b = z
    cases a.testBit (31 - k) <;> cases c.testBit (31 - k) <;> simp
    · rw [Nat.xor_assoc]
    · rw [Nat.xor_assoc, Nat.xor_comm y z, ← Nat.xor_assoc]
    · rw [Nat.xor_assoc x z, ← Nat.xor_assoc z y z, Nat.xor_comm z y, Nat.xor_assoc y z z, Nat.xor_self, Nat.xor_zero]
theorem cZs_zero (k : Nat) : cZs k 0 = 0 := by
  have := cZs_xor k 0 0
  simpa using this
theorem cM_xor2 (a b c k : Nat) : cM a (b ^^^ c) k = cM a b k ^^^ cM a c k := by
  induction k with
  | zero => simp [cM]
  | succ k ih =>
    unfold cM
    rw [ih, cZs_xor]
    generalize cM a b k = x
    generalize cM a c k = y
    generalize cZs k b = z
    generalize cZs k c = u
    cases a.testBit (31 - k) <;> simp
    rw [Nat.xor_assoc x y, ← Nat.xor_assoc y z u, Nat.xor_comm y z, Nat.xor_assoc z y u, ← Nat.xor_assoc x z]
theorem cM_lt (a b : Nat) (hb : b < 4294967296) (k : Nat) : cM a b k < 4294967296 := by
  induction k with
  | zero => unfold cM; omega
  | succ k ih =>
    unfold cM
    refine Nat.xor_lt_two_pow (n := 32) ih ?_
    split
    · exact cZs_lt k b hb
    · omega
theorem cM_half (u b k : Nat) (hu : u < 4294967296) (hk : k ≤ 31) : cM (u / 2) b (k + 1) = cZ (cM u b k) := by
  induction k with
  | zero =>
    have e : (u / 2).testBit 31 = false := Nat.testBit_lt_two_pow (by omega)
    simp [cM, e, cZ_zero]
  | succ k ih =>
    have e : (u / 2).testBit (31 - (k + 1)) = u.testBit (31 - k) := by
      rw [← tb_succ, show 31 - (k + 1) + 1 = 31 - k by omega]
    have h1 : cM (u / 2) b (k + 1 + 1) = cM (u / 2) b (k + 1) ^^^ (if (u / 2).testBit (31 - (k + 1)) = true then cZs (k + 1) b else 0) := rfl
    have h2 : cM u b (k + 1) = cM u b k ^^^ (if u.testBit (31 - k) = true then cZs k b else 0) := rfl
    rw [h1, h2, ih (by omega), e, cZ_xor]
    congr 1
    split
    · rw [cZs_succ]
    · rfl
theorem cM_poly (b : Nat) (hb : b < 4294967296) : cM cP b 32 = cZs 32 b :=
  lin_eq (fun b => cM cP b 32) (fun b => cZs 32 b) (fun a c => cM_xor2 cP a c 32) (fun a c => cZs_xor 32 a c) 32 (by decide +kernel) b hb
theorem cM_one (b : Nat) (hb : b < 4294967296) : cM 2147483648 b 32 = b :=
  lin_eq (fun b => cM 2147483648 b 32) (fun b => b) (fun a c => cM_xor2 2147483648 a c 32) (fun a c => rfl) 32 (by decide +kernel) b hb
theorem cM_next (u b : Nat) (hu : u < 4294967296) (hb : b < 4294967296) : cM (cZ u) b 32 = cZ (cM u b 32) := by
  have h1 := cM_succ u b 31
  have h2 := cM_half u b 31 hu (by omega)
  have h3 := cZs_succ 31 b
  rw [Nat.sub_self, tb_zero] at h1
  by_cases e : u % 2 = 1
  · have hz : cZ u = u / 2 ^^^ cP := by unfold cZ; rw [if_pos e]
    rw [if_pos (by simpa using e)] at h1
    rw [hz, cM_xor1, cM_poly b hb, h1, cZ_xor, ← h2, ← h3]
  · have hz : cZ u = u / 2 := by unfold cZ; rw [if_neg e]
    rw [if_neg (by simpa using e), Nat.xor_zero] at h1
    rw [hz, h1, ← h2]
/-- The product with a power of the unknown is so many steps. -/
theorem cM_zs (n b : Nat) (hb : b < 4294967296) : cM (cZs n 2147483648) b 32 = cZs n b := by
  induction n with
  | zero => exact cM_one b hb
  | succ n ih => rw [cZs_succ, cM_next _ b (cZs_lt n _ (by omega)) hb, ih, ← cZs_succ]
theorem cM_powers (i j : Nat) : cM (cZs i 2147483648) (cZs j 2147483648) 32 = cZs (i + j) 2147483648 := by
  rw [cM_zs i _ (cZs_lt j _ (by omega)), Nat.add_comm, cZs_add]
end Go.Proofs.YtfcbgkcclganmaaDoor
set_option linter.unusedVariables false
set_option linter.unusedSimpArgs false
namespace Go.Proofs.YtfcbgkcclganmaaDoor
open Go.RowKit

/-- A half byte's step, as its operations reckon it. -/
theorem half_facts (r : Nat) (hr : r < 4294967296) (w : World) (hT : TbAt w) : ∃ q d z : Nat, q < 16 ∧ bits .and .u32 (r : Int) 15 = (q : Int) ∧ (r : Int) / 16 = (d : Int) ∧ w.cell? ⟨1, q, none⟩ = some (.int .u32 (z : Int)) ∧ bits .xor .u32 (d : Int) (z : Int) = ((cZs 4 r : Nat) : Int) := by
  refine ⟨r % 16, r / 16, cZs 4 (r % 16), by omega, ?_, by omega, hT _ (by omega), ?_⟩
  · have h := and32 r 15 hr (by omega)
    rw [show r &&& 15 = r % 16 from Nat.and_two_pow_sub_one_eq_mod r 4] at h
    exact h
  · rw [xor32 _ _ (by omega) (cZs_lt 4 _ (by omega)), half_eq r]
set_option maxRecDepth 100000 in
set_option maxHeartbeats 4000000 in
theorem more11 (s : Nat) (v : Value) (n : Nat) (f : Nat → Nat) (w : World) (hs : s < 4294967296) (hn : n ≤ 100000) (hf : ∀ k, f k < 256) (hT : TbAt w) (hl : Ls w v n (by8 f)) :
    Calls Tryd.prog 53 #[.int .u32 (s : Int), v] w fun e w' => e = .returned (.int .u32 ((4294967295 - cR (cBt f) (4294967295 - s) (8 * n) : Nat) : Int)) ∧ Below w.heap.size w w' := by
  obtain ⟨ad, cap, rfl, l1, l2⟩ := hl.len
  unfold maxLen at l2
  have HL : Hid (Ls w (.slice ad n cap) n (by8 f)) := hl
  have CH : Hid (∀ r : Nat, r < 4294967296 → ∃ q d z : Nat, q < 16 ∧ bits .and .u32 (r : Int) 15 = (q : Int) ∧ (r : Int) / 16 = (d : Int) ∧ w.cell? ⟨1, q, none⟩ = some (.int .u32 (z : Int)) ∧ bits .xor .u32 (d : Int) (z : Int) = ((cZs 4 r : Nat) : Int)) := fun r hr => half_facts r hr w hT
  have hnot := not32 s hs
  obtain ⟨r0, hr0⟩ : ∃ r0, 4294967295 - s = r0 := ⟨_, rfl⟩
  have hrt := cR_lt (cBt f) r0 (by omega) (cBt_lt f)
  rw [hr0] at hnot ⊢
  clear hl hT hr0
  go_enter Tryd.func53, Tryd.ntmps53
  go_upto_region 3 with fail
  go_loopw [5, 12] (fun s5 s12 wr => ∃ j : Nat, j ≤ n ∧ s12 = .int .i64 (j : Int) ∧ s5 = .int .u32 ((cR (cBt f) r0 (8 * j) : Nat) : Int) ∧ wr = w) (fun _ s12 _ => n - (intOf s12).toNat)
  case atStart => exact ⟨0, by omega, rfl, by first | rfl | (rw [← hnot]; rfl), rfl⟩
  case round =>
    obtain ⟨j, hj, rfl, rfl, rfl⟩ := hrel
    have hr := hrt (8 * j)
    by_cases hlt : j < n
    · have hjI : (j : Int) < (n : Int) := by omega
      obtain ⟨b, o, cp, e1, hc⟩ := HL.out.spot j hlt
      cases e1
      unfold by8 at hc
      have hfj := hf j
      have HS : Hid (cR (cBt f) r0 (8 * (j + 1)) = cZs 4 (cZs 4 (cR (cBt f) r0 (8 * j) ^^^ f j))) := by
        show _ = _
        rw [cR_byte f r0 j hfj, ← cZs_add]
      have hw : IntKind.u32.wrap ((f j : Nat) : Int) = ((f j : Nat) : Int) := by rw [IntKind.wrap_u32]; omega
      have hx := xor32 (cR (cBt f) r0 (8 * j)) (f j) hr (by omega)
      have hy : cR (cBt f) r0 (8 * j) ^^^ f j < 4294967296 := Nat.xor_lt_two_pow (n := 32) hr (by omega)
      have hy2 := cZs_lt 4 _ hy
      obtain ⟨q1, d1, z1, a1, a2, a3, a4, a5⟩ := CH.out _ hy
      obtain ⟨q2, d2, z2, b1, b2, b3, b4, b5⟩ := CH.out _ hy2
      have a1I : (q1 : Int) < 16 := by omega
      have b1I : (q2 : Int) < 16 := by omega
      generalize cR (cBt f) r0 (8 * j) = r at *
      generalize f j = x at *
      generalize r ^^^ x = y at *
      generalize cZs 4 y = y2 at *
      generalize cZs 4 y2 = y3 at *
      clear hrt CH
      go_wp2
      go_roundw
      case rel => exact ⟨j + 1, by omega, by go_num, by rw [HS.out], trivial⟩
      case measure => simp [intOf]; omega
    · obtain rfl : j = n := by omega
      have hjI : ¬ (j : Int) < (j : Int) := by omega
      have hnot2 := not32 (cR (cBt f) r0 (8 * j)) hr
      go_wp2
      go_ret
      exact ⟨by first | rfl | rw [← hnot2], Below.refl _ _⟩
theorem cF_zero (ns : Nat → Nat) (fs : Nat → Nat → Nat) (r : Nat) : cF ns fs r 0 = r := rfl
theorem cF_succ (ns : Nat → Nat) (fs : Nat → Nat → Nat) (r j : Nat) : cF ns fs r (j + 1) = cR (cBt (fs j)) (cF ns fs r j) (8 * ns j) := rfl
set_option maxRecDepth 100000 in
set_option maxHeartbeats 4000000 in
theorem of11 (v : Value) (K : Nat) (ns : Nat → Nat) (fs : Nat → Nat → Nat) (w : World) (hK : K ≤ 1000) (hn : ∀ j, ns j ≤ 100000) (hf : ∀ j k, fs j k < 256) (hT : TbAt w) (hl : Lb w v K ns fs) :
    Calls Tryd.prog 37 #[v] w fun e w' => e = .returned (.int .u32 ((4294967295 - cF ns fs 4294967295 K : Nat) : Int)) ∧ Below w.heap.size w w' := by
  obtain ⟨ad, cap, rfl, l1, l2⟩ := hl.len
  unfold maxLen at l2
  have HL : Hid (Lb w (.slice ad K cap) K ns fs) := hl
  have CM : Hid (∀ (W : World) (s j : Nat) (u : Value), Below w.heap.size w W → s < 4294967296 → Ls w u (ns j) (by8 (fs j)) → Calls Tryd.prog 53 #[.int .u32 (s : Int), u] W fun e w' => e = .returned (.int .u32 ((4294967295 - cR (cBt (fs j)) (4294967295 - s) (8 * ns j) : Nat) : Int)) ∧ Below W.heap.size W w') := fun W s j u hb h1 h2 => more11 s u (ns j) (fs j) W h1 (hn j) (hf j) (hT.later hb) (h2.later hb)
  have hlt := cF_lt ns fs 4294967295 (by omega)
  clear hl hT
  go_enter Tryd.func37, Tryd.ntmps37
  go_upto_region 3 with fail
  go_loopw [3, 8] (fun s3 s8 wr => ∃ j : Nat, j ≤ K ∧ s8 = .int .i64 (j : Int) ∧ s3 = .int .u32 ((4294967295 - cF ns fs 4294967295 j : Nat) : Int) ∧ Hid (Below w.heap.size w wr)) (fun _ s8 _ => K - (intOf s8).toNat)
  case atStart => exact ⟨0, by omega, rfl, by rw [cF_zero, Nat.sub_self]; rfl, Below.refl _ _⟩
  case round =>
    obtain ⟨j, hj, rfl, rfl, HB⟩ := hrel
    have hr := hlt j
    by_cases hjK : j < K
    · have hjI : (j : Int) < (K : Int) := by omega
      obtain ⟨b, o, cp, ad2, ca2, e1, hc, hls⟩ := HL.out.spot j hjK
      cases e1
      have hc2 := cell_later HB.out hc
      have C1 := CM.out wr (4294967295 - cF ns fs 4294967295 j) j _ HB.out (by omega) hls
      rw [show 4294967295 - (4294967295 - cF ns fs 4294967295 j) = cF ns fs 4294967295 j by omega] at C1
      have HS : Hid (cF ns fs 4294967295 (j + 1) = cR (cBt (fs j)) (cF ns fs 4294967295 j) (8 * ns j)) := cF_succ ns fs _ j
      clear hc hls CM
      generalize cF ns fs 4294967295 j = r at *
      go_wp2_with fail
      refine C1.mono ?_
      rintro e w1 ⟨rfl, hb⟩
      have HB1 : Hid (Below w.heap.size w w1) := bchain HB.out hb
      clear hb C1
      go_wp2
      go_roundw
      case rel => exact ⟨j + 1, by omega, by go_num, by rw [HS.out], HB1⟩
      case measure => simp [intOf]; omega
    · obtain rfl : j = K := by omega
      have hjI : ¬ (j : Int) < (j : Int) := by omega
      go_wp2
      go_ret
      exact ⟨rfl, HB.out⟩
end Go.Proofs.YtfcbgkcclganmaaDoor
