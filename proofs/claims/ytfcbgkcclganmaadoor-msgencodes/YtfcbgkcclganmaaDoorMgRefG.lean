/-
  The document's Decode of any bytes (regattaref14).
-/
import Derived.Test.YtfcbgkcclganmaaDoorMgRefF1
import Derived.Test.YtfcbgkcclganmaaDoorMgRefF2
import Derived.Test.YtfcbgkcclganmaaDoorMgRefF3
import Derived.Test.YtfcbgkcclganmaaDoorMgRefF4
import Derived.Test.YtfcbgkcclganmaaDoorMgRefF5
import Derived.Test.YtfcbgkcclganmaaDoorMgRefF6
set_option linter.unusedVariables false
set_option linter.unusedSimpArgs false
namespace Go.Proofs.YtfcbgkcclganmaaDoor
open Go.RowKit

set_option maxRecDepth 100000 in
set_option maxHeartbeats 8000000 in
theorem refDecE (v : Value) (l : List Nat) (hb : ∀ c ∈ l, c < 256) (hl : l.length ≤ 90000) (w : World) (h : Bs w v l) (hE : opE l ≠ 0) :
    Calls Tryd.prog 15 #[v] w fun e w' => ∃ vd, e = .returned (.tuple #[msV (dcM l) vd, .int .i64 ((dcE l : Nat) : Int)]) ∧ Bs w' vd (dcM l).d ∧ Ow w.heap.size vd ∧ Below w.heap.size w w' := by
  have C := refOpen v l hb hl
  have HX : Hid (dcE l = opE l ∧ dcM l = ms0) := dc_err hE
  have hEI : ¬ ((opE l : Nat) : Int) = 0 := by omega
  have HL : Hid (Bs w v l) := h
  obtain ⟨ad, cap, rfl, -, -⟩ := h.len
  generalize dcE l = E at *
  generalize dcM l = M at *
  generalize opP l = P at *
  generalize opN l = N at *
  generalize opK l = K at *
  generalize opE l = O at *
  clear h hE hb hl
  obtain ⟨wA, hwA⟩ : ∃ wA, wA = w.alloc (.cells #[.int .i64 0, .int .i64 0, .int .i64 0, .int .i64 0, .int .i64 0, .int .i64 0, .int .i64 0, .slice none 0 0] 26) := ⟨_, rfl⟩
  have HA : Hid (Rw w.heap.size 8 (mf ms0 (.slice none 0 0)) wA ∧ Below w.heap.size w wA) := by rw [hwA]; exact ⟨mf_new w ms0 _ _, bel1 _ _⟩
  go_enter Tryd.func15, Tryd.ntmps15
  go_wp2_with fail
  rw [← hwA]
  refine (C wA (HL.out.later HA.out.2)).mono ?_
  clear C hwA
  rintro e w1 ⟨vp, rfl, hP, hO, hB⟩
  have HZ : Hid (∀ o : Obj, Rw w.heap.size 8 (mf ms0 (.slice none 0 0)) (w1.alloc o) ∧ Below w.heap.size w (w1.alloc o)) := fun o => ⟨(HA.out.1.later hB).later (bel1 _ _), bchain (bchain HA.out.2 hB) (bel1 _ _)⟩
  obtain ⟨ap, pp, rfl, -, -⟩ := hP.len
  clear hP hO hB HA HL
  obtain ⟨wB, hwB⟩ : ∃ wB, wB = w1.alloc (.cells #[.int .i64 (K : Int), .slice ap P.length pp] 66) := ⟨_, rfl⟩
  have HZ2 : Hid (Rw w.heap.size 8 (mf ms0 (.slice none 0 0)) wB ∧ Below w.heap.size w wB) := by rw [hwB]; exact HZ.out _
  clear HZ
  go_upto_region 2 with fail
  rw [← hwB]
  clear hwB
  have z0 := HZ2.out.1.c 0 (by omega)
  have t0 := HZ2.out.1.f 0 (by omega)
  have z1 := HZ2.out.1.c 1 (by omega)
  have t1 := HZ2.out.1.f 1 (by omega)
  have z2 := HZ2.out.1.c 2 (by omega)
  have t2 := HZ2.out.1.f 2 (by omega)
  have z3 := HZ2.out.1.c 3 (by omega)
  have t3 := HZ2.out.1.f 3 (by omega)
  have z4 := HZ2.out.1.c 4 (by omega)
  have t4 := HZ2.out.1.f 4 (by omega)
  have z5 := HZ2.out.1.c 5 (by omega)
  have t5 := HZ2.out.1.f 5 (by omega)
  have z6 := HZ2.out.1.c 6 (by omega)
  have t6 := HZ2.out.1.f 6 (by omega)
  have z7 := HZ2.out.1.c 7 (by omega)
  have t7 := HZ2.out.1.f 7 (by omega)
  dsimp only [mf, ms0] at z0 z1 z2 z3 z4 z5 z6 z7
  go_wp2
  have HR := mf_put8 HZ2.out.1 ms0 (.slice none 0 0)
  have HBl := below_put8 HZ2.out.2 (Nat.le_refl _) (.int .i64 0) (.int .i64 0) (.int .i64 0) (.int .i64 0) (.int .i64 0) (.int .i64 0) (.int .i64 0) (.slice none 0 0)
  dsimp only [ms0] at HR
  clear z0 z1 z2 z3 z4 z5 z6 z7 t0 t1 t2 t3 t4 t5 t6 t7 HZ2
  generalize World.setCell _ ⟨w.heap.size, 7, none⟩ (.slice none 0 0) = wZ at *
  have z0 := HR.c 0 (by omega)
  have z1 := HR.c 1 (by omega)
  have z2 := HR.c 2 (by omega)
  have z3 := HR.c 3 (by omega)
  have z4 := HR.c 4 (by omega)
  have z5 := HR.c 5 (by omega)
  have z6 := HR.c 6 (by omega)
  have z7 := HR.c 7 (by omega)
  dsimp only [mf] at z0 z1 z2 z3 z4 z5 z6 z7
  obtain ⟨rfl, rfl⟩ := HX.out
  exact bodyPost_ret (v := .tuple #[.agg #[.int .i64 0, .int .i64 0, .int .i64 0, .int .i64 0, .int .i64 0, .int .i64 0, .int .i64 0, .slice none 0 0], .int .i64 (E : Int)]) (by simp [results, Tryd.results15, go_sem, z0, z1, z2, z3, z4, z5, z6, z7]) rfl ⟨.slice none 0 0, rfl, bs_nil14 _, ow_nil14 _, HBl⟩
set_option maxRecDepth 100000 in
set_option maxHeartbeats 8000000 in
theorem refDecL (v : Value) (l : List Nat) (hb : ∀ c ∈ l, c < 256) (hl : l.length ≤ 90000) (w : World) (h : Bs w v l) (hE : opE l = 0) (hN : opN l < l.length) :
    Calls Tryd.prog 15 #[v] w fun e w' => ∃ vd, e = .returned (.tuple #[msV (dcM l) vd, .int .i64 ((dcE l : Nat) : Int)]) ∧ Bs w' vd (dcM l).d ∧ Ow w.heap.size vd ∧ Below w.heap.size w w' := by
  have C := refOpen v l hb hl
  rw [hE] at C
  have HX : Hid (dcE l = 122 ∧ dcM l = ms0) := dc_left hE hN
  have hNI : ((opN l : Nat) : Int) < ((l.length : Nat) : Int) := by omega
  have HL : Hid (Bs w v l) := h
  obtain ⟨ad, cap, rfl, -, -⟩ := h.len
  generalize dcE l = E at *
  generalize dcM l = M at *
  generalize opP l = P at *
  generalize opN l = N at *
  generalize opK l = K at *
  generalize opE l = O at *
  clear h hE hb hl hN
  obtain ⟨wA, hwA⟩ : ∃ wA, wA = w.alloc (.cells #[.int .i64 0, .int .i64 0, .int .i64 0, .int .i64 0, .int .i64 0, .int .i64 0, .int .i64 0, .slice none 0 0] 26) := ⟨_, rfl⟩
  have HA : Hid (Rw w.heap.size 8 (mf ms0 (.slice none 0 0)) wA ∧ Below w.heap.size w wA) := by rw [hwA]; exact ⟨mf_new w ms0 _ _, bel1 _ _⟩
  go_enter Tryd.func15, Tryd.ntmps15
  go_wp2_with fail
  rw [← hwA]
  refine (C wA (HL.out.later HA.out.2)).mono ?_
  clear C hwA
  rintro e w1 ⟨vp, rfl, hP, hO, hB⟩
  have HZ : Hid (∀ o : Obj, Rw w.heap.size 8 (mf ms0 (.slice none 0 0)) (w1.alloc o) ∧ Below w.heap.size w (w1.alloc o)) := fun o => ⟨(HA.out.1.later hB).later (bel1 _ _), bchain (bchain HA.out.2 hB) (bel1 _ _)⟩
  obtain ⟨ap, pp, rfl, -, -⟩ := hP.len
  clear hP hO hB HA HL
  obtain ⟨wB, hwB⟩ : ∃ wB, wB = w1.alloc (.cells #[.int .i64 (K : Int), .slice ap P.length pp] 66) := ⟨_, rfl⟩
  have HZ2 : Hid (Rw w.heap.size 8 (mf ms0 (.slice none 0 0)) wB ∧ Below w.heap.size w wB) := by rw [hwB]; exact HZ.out _
  clear HZ
  go_upto_region 2 with fail
  rw [← hwB]
  clear hwB
  have z0 := HZ2.out.1.c 0 (by omega)
  have t0 := HZ2.out.1.f 0 (by omega)
  have z1 := HZ2.out.1.c 1 (by omega)
  have t1 := HZ2.out.1.f 1 (by omega)
  have z2 := HZ2.out.1.c 2 (by omega)
  have t2 := HZ2.out.1.f 2 (by omega)
  have z3 := HZ2.out.1.c 3 (by omega)
  have t3 := HZ2.out.1.f 3 (by omega)
  have z4 := HZ2.out.1.c 4 (by omega)
  have t4 := HZ2.out.1.f 4 (by omega)
  have z5 := HZ2.out.1.c 5 (by omega)
  have t5 := HZ2.out.1.f 5 (by omega)
  have z6 := HZ2.out.1.c 6 (by omega)
  have t6 := HZ2.out.1.f 6 (by omega)
  have z7 := HZ2.out.1.c 7 (by omega)
  have t7 := HZ2.out.1.f 7 (by omega)
  dsimp only [mf, ms0] at z0 z1 z2 z3 z4 z5 z6 z7
  go_wp2
  have HR := mf_put8 HZ2.out.1 ms0 (.slice none 0 0)
  have HBl := below_put8 HZ2.out.2 (Nat.le_refl _) (.int .i64 0) (.int .i64 0) (.int .i64 0) (.int .i64 0) (.int .i64 0) (.int .i64 0) (.int .i64 0) (.slice none 0 0)
  dsimp only [ms0] at HR
  clear z0 z1 z2 z3 z4 z5 z6 z7 t0 t1 t2 t3 t4 t5 t6 t7 HZ2
  generalize World.setCell _ ⟨w.heap.size, 7, none⟩ (.slice none 0 0) = wZ at *
  have z0 := HR.c 0 (by omega)
  have z1 := HR.c 1 (by omega)
  have z2 := HR.c 2 (by omega)
  have z3 := HR.c 3 (by omega)
  have z4 := HR.c 4 (by omega)
  have z5 := HR.c 5 (by omega)
  have z6 := HR.c 6 (by omega)
  have z7 := HR.c 7 (by omega)
  dsimp only [mf] at z0 z1 z2 z3 z4 z5 z6 z7
  obtain ⟨rfl, rfl⟩ := HX.out
  exact bodyPost_ret (v := .tuple #[.agg #[.int .i64 0, .int .i64 0, .int .i64 0, .int .i64 0, .int .i64 0, .int .i64 0, .int .i64 0, .slice none 0 0], .int .i64 122]) (by simp [results, Tryd.results15, go_sem, z0, z1, z2, z3, z4, z5, z6, z7]) rfl ⟨.slice none 0 0, rfl, bs_nil14 _, ow_nil14 _, HBl⟩
/-- The document's Decode. -/
theorem refDecode (v : Value) (l : List Nat) (hb : ∀ c ∈ l, c < 256) (hl : l.length ≤ 90000) (w : World) (h : Bs w v l) :
    Calls Tryd.prog 15 #[v] w fun e w' => ∃ vd, e = .returned (.tuple #[msV (dcM l) vd, .int .i64 ((dcE l : Nat) : Int)]) ∧ Bs w' vd (dcM l).d ∧ Ow w.heap.size vd ∧ Below w.heap.size w w' := by
  by_cases hE : opE l = 0
  · by_cases hN : opN l < l.length
    · exact refDecL v l hb hl w h hE hN
    · by_cases h8 : 8 < opK l
      · exact refDec9 v l hb hl w h hE hN _ h8 rfl
      · have h1 := op_kind hE
        have := kind8 (k := ((opK l : Nat) : Int)) (by omega) (by omega)
        rcases this with q | q | q | q | q | q | q | q
        · exact refDec1 v l hb hl w h hE hN (by omega)
        · exact refDec2 v l hb hl w h hE hN (by omega)
        · exact refDec3 v l hb hl w h hE hN (by omega)
        · exact refDec4 v l hb hl w h hE hN (by omega)
        · exact refDec5 v l hb hl w h hE hN (by omega)
        · exact refDec6 v l hb hl w h hE hN (by omega)
        · exact refDec7 v l hb hl w h hE hN (by omega)
        · exact refDec8 v l hb hl w h hE hN (by omega)
  · exact refDecE v l hb hl w h hE
end Go.Proofs.YtfcbgkcclganmaaDoor
