/-
  SchedSteps: the inner steps behind any entries are the document's, and hang on who was missing alone.
-/
import Derived.Test.YtbblcecfdlmfmaaQAwake
import Derived.Test.YtbblcecfdlmfmaaQRefD
set_option linter.unusedVariables false
set_option linter.unusedSimpArgs false
namespace Go.Proofs.Ytbblcecfdlmfmaa
open Go.RowKit

theorem dinfo_int8 : (Try.prog.info? 3).map (fun i => (i.zero, i.size, i.bytes)) = some (some (.int .i64 0), 1, 8) := by kernel_rfl
set_option maxRecDepth 100000 in
set_option maxHeartbeats 8000000 in
theorem schedSteps_any (l m f g : Int) (v : Value) (n : Nat) (mb : Nat → Int) (wh : Nat → Nat) (w : World) (hA : Ens w v n mb wh) :
    Calls Try.prog 6 #[.agg #[.int .i64 l, .int .i64 m, .int .i64 f, .int .i64 g], v] w fun e w' => e = .returned (.bool true) ∧ Below w.heap.size w w' := by
  obtain ⟨i0, hti, hi0, hi1, hi2⟩ := info_parts dinfo_int8
  have CA : Hid (∀ W : World, Calls Try.prog 9 #[] W fun e w' => e = .returned (.bool true) ∧ Below W.heap.size W w') := awake8_any
  have CL : Hid (∀ W : World, Calls Try.prog 18 #[.agg #[.int .i64 l, .int .i64 m, .int .i64 f, .int .i64 g]] W fun e w' => e = .returned (.agg #[.int .i64 l, .int .i64 m, .int .i64 f, .int .i64 g]) ∧ Below W.heap.size W w') := pace8_any l m f g
  have CS : Hid (∀ W : World, Below w.heap.size w W → Calls Try.prog 23 #[.agg #[.int .i64 l, .int .i64 m, .int .i64 f, .int .i64 g], v] W fun e w' => ∃ X E : Int, e = .returned (.tuple #[.int .i64 X, .int .i64 E]) ∧ sgE l m f g n mb wh X E ∧ Below W.heap.size W w') := fun W hb => pSteps_any l m f g v n mb wh W (hA.later hb)
  obtain ⟨adr, cap, b, o, rfl, k1, k2, k3, k4⟩ := hA
  unfold maxLen at k2
  have HC : Hid (∀ k, k < n → (∃ (r hh sa : Int) (ad : Option Addr) (cp : Nat), w.cell? ⟨b, o + k * 5, none⟩ = some (.int .i64 r) ∧ w.cell? ⟨b, o + k * 5 + 1, none⟩ = some (.int .i64 hh) ∧ w.cell? ⟨b, o + k * 5 + 2, none⟩ = some (.int .i64 (mb k)) ∧ w.cell? ⟨b, o + k * 5 + 3, none⟩ = some (.slice ad (wh k) cp) ∧ w.cell? ⟨b, o + k * 5 + 4, none⟩ = some (.int .i64 sa)) ∧ (-9223372036854775808 ≤ mb k ∧ mb k ≤ 9223372036854775807) ∧ wh k ≤ maxLen) := k4
  have HK : Hid (0 < n → adr = some ⟨b, o, none⟩) := k3
  clear k3 k4
  obtain ⟨w1, hw1⟩ : ∃ w1, w1 = w.alloc (.cells #[.int .i64 l, .int .i64 m, .int .i64 f, .int .i64 g] 41) := ⟨_, rfl⟩
  have HB1 : Hid (Below w.heap.size w w1) := by rw [hw1]; exact bel1 _ _
  have HQ := Q4.new w (.int .i64 l) (.int .i64 m) (.int .i64 f) (.int .i64 g) 41
  rw [← hw1] at HQ
  go_enter Try.func6, Try.ntmps6
  go_upto_region 1 with fail
  rw [← hw1]
  clear hw1
  go_wp2_with fail
  refine (CA.out _).mono ?_
  rintro e w2 ⟨rfl, hb⟩
  have HB2 : Hid (Below w.heap.size w w2) := bchain HB1.out hb
  replace HQ := HQ.later hb
  have y0 := HQ.c0
  have y1 := HQ.c1
  have y2 := HQ.c2
  have y3 := HQ.c3
  clear hb CA HB1
  by_cases hn : 300 < n
  · have hnI : (300 : Int) < (n : Int) := by omega
    go_wp2
    go_ret
    exact ⟨rfl, HB2.out⟩
  have hnI : ¬ (300 : Int) < (n : Int) := by omega
  go_wp2_with fail
  refine (CS.out _ HB2.out).mono ?_
  rintro e w3 ⟨X, E, rfl, hS, hb⟩
  have HB3 : Hid (Below w.heap.size w w3) := bchain HB2.out hb
  replace HQ := HQ.later hb
  replace y0 := HQ.c0
  replace y1 := HQ.c1
  replace y2 := HQ.c2
  replace y3 := HQ.c3
  have HS : Hid (sgE l m f g n mb wh X E) := hS
  clear hb CS HB2 hS
  go_wp2_with fail
  refine (CL.out _).mono ?_
  rintro e w4 ⟨rfl, hb⟩
  have HB4 : Hid (Below w.heap.size w w4) := bchain HB3.out hb
  replace HQ := HQ.later hb
  replace y0 := HQ.c0
  replace y1 := HQ.c1
  replace y2 := HQ.c2
  replace y3 := HQ.c3
  clear hb HB3
  go_wp2_with fail
  refine (refPace_any l m f g _).mono ?_
  rintro e w5 ⟨hT, hb⟩
  have HB5 : Hid (Below w.heap.size w w5) := bchain HB4.out hb
  replace HQ := HQ.later hb
  replace y0 := HQ.c0
  replace y1 := HQ.c1
  replace y2 := HQ.c2
  replace y3 := HQ.c3
  clear hb HB4
  by_cases hp : PO l m f g
  · have e1 := hT.yes hp
    subst e1
    have HPO : Hid (PO l m f g) := hp
    clear hT hp
    by_cases hm : 256 < n
    · have hmI : (256 : Int) < (n : Int) := by omega
      obtain ⟨e1, e2⟩ := HS.out.2.1 HPO.out hm
      subst e1 e2
      clear HS
      go_wp2
      go_ret
      exact ⟨rfl, HB5.out⟩
    have hmI : ¬ (256 : Int) < (n : Int) := by omega
    have HQ5 : Hid (Q4 w.heap.size (.int .i64 l) (.int .i64 m) (.int .i64 f) (.int .i64 g) w5) := HQ
    clear HQ y0 y1 y2 y3
    go_upto_region 12 with fail
    go_loopw [7, 42] (fun s7 si wr => ∃ j : Nat, j ≤ n ∧ si = .int .i64 (j : Int) ∧ Hid (∀ k, k < j → (wh k : Int) ≤ mb k) ∧ Hid (wr.ownsRow w5.heap.size 3 1 s7 j (il (msV mb wh) j)) ∧ Hid (Below w5.heap.size w5 wr)) (fun _ si _ => n - (intOf si).toNat)
    case atStart => exact ⟨0, by omega, rfl, fun k hk => by omega, World.ownsRow_nil _ _ _ _, Below.refl _ _⟩
    case round =>
      obtain ⟨j, hj, rfl, HO, HR, HW⟩ := hrel
      by_cases hlt : j < n
      · have hjI : (j : Int) < (n : Int) := by omega
        have ea := HK.out (by omega)
        subst ea
        obtain ⟨⟨r, hh, sa, ad, cp, a1, a2, a3, a4, a5⟩, ⟨mb0, mb1⟩, wh1⟩ := HC.out j hlt
        have hbr : Below w.heap.size w wr := bchain HB5.out HW.out
        replace a1 := cell_later hbr a1
        replace a2 := cell_later hbr a2
        replace a3 := cell_later hbr a3
        replace a4 := cell_later hbr a4
        replace a5 := cell_later hbr a5
        obtain ⟨we, hwe⟩ : ∃ we, we = wr.alloc (.cells #[.int .i64 r, .int .i64 hh, .int .i64 (mb j), .slice ad (wh j) cp, .int .i64 sa] 53) := ⟨_, rfl⟩
        have HE5 := Q5.new wr (.int .i64 r) (.int .i64 hh) (.int .i64 (mb j)) (.slice ad (wh j) cp) (.int .i64 sa) 53
        rw [← hwe] at HE5
        have hbe : Below w5.heap.size w5 we := by rw [hwe]; exact bchain HW.out (bel1 _ _)
        have HWe : Hid (Below w5.heap.size w5 we) := hbe
        have hown : we.ownsRow w5.heap.size 3 1 u7 j (il (msV mb wh) j) := by rw [hwe]; exact HR.out.alloc _
        have hse := hbe.size
        have e2 := HE5.c2
        have e3 := HE5.c3
        clear hbr hbe
        by_cases hmw : mb j < ((wh j : Nat) : Int)
        · obtain ⟨e4, e5⟩ := HS.out.2.2.1 HPO.out (by omega) (fun h => by have := h j hlt; omega)
          subst e4 e5
          generalize mb j = mj at *
          generalize wh j = wj at *
          clear HS HO HR HW hown
          go_upto_region 14 with fail
          rw [← hwe]
          clear hwe
          go_wp2
          go_ret
          exact ⟨rfl, bchain HB5.out HWe.out⟩
        · have HO2 : Hid (∀ k, k < j + 1 → (wh k : Int) ≤ mb k) := fun k hk => by
            rcases Nat.lt_or_ge k j with h | h
            · exact HO.out k h
            · obtain rfl : k = j := by omega
              omega
          have hms : mb j - ((wh j : Nat) : Int) = msV mb wh j := rfl
          have ww : IntKind.i64.wrap (mb j - ((wh j : Nat) : Int)) = msV mb wh j := by rw [IntKind.wrap_i64]; unfold msV; omega
          obtain ⟨R, hR⟩ : ∃ R, R = il (msV mb wh) j ++ [.int .i64 (msV mb wh j)] := ⟨_, rfl⟩
          have HR' : Hid (R = il (msV mb wh) (j + 1)) := by show _ = _; rw [il_succ, hR]
          generalize msV mb wh j = mz at *
          generalize mb j = mj at *
          generalize wh j = wj at *
          clear HO HR HW hms
          go_upto_region 14 with fail
          rw [← hwe]
          clear hwe
          have z2 : ∀ ob : Obj, (we.alloc ob).cell? ⟨wr.heap.size, 2, none⟩ = some (.int .i64 mj) := fun ob => cell_later (bel1 _ _) e2
          go_wp2_with (at_builtin; refine wpList_append_own _ rfl _ _ 51 rfl w5.heap.size 3 i0 (.int .i64 0) 1 8 Try.underlying51 hti hi0 hi1 hi2 rfl (by decide) _ _ _ rfl (hown.alloc _) ⟨we.heap.size, 0, none⟩ 1 1 [.int .i64 mz] rfl rfl (cell_one_new _ _ _) (ints_oneCell .i64 [mz]) (by unfold maxLen; omega) (by omega) (by simp; omega) ?_; intro v' w9 hown' hgrow hnil; have HO9 : Hid (w9.ownsRow w5.heap.size 3 1 v' (j + 1) R) := (by rw [hR]; exact hown'); have HW9 : Hid (Below w5.heap.size w5 w9) := (bchain HWe.out (bel1 we _)).grown hgrow (by rw [World.size_alloc]; omega) (fun k hk => (hown.lt k hk).1); clear hown' hgrow hnil hown z2 e2 e3)
          go_roundw
          case rel => exact ⟨j + 1, by omega, by go_num, HO2, by rw [← HR'.out]; exact HO9.out, HW9⟩
          case measure => simp [intOf]; omega
      · obtain rfl : j = n := by omega
        have hjI : ¬ (j : Int) < (j : Int) := by omega
        obtain ⟨e4, e5⟩ := HS.out.2.2.2 HPO.out (by omega) HO.out
        have hAr : Ar wr u7 j (msV mb wh) := (ar_of_own HR.out (fun k hk => by
          have h1 := (HC.out k hk).2
          have h2 := HO.out k hk
          have h3 := h1.2
          unfold maxLen at h3
          unfold msV
          omega)).1
        have CR : Hid (∀ W : World, Below wr.heap.size wr W → Calls Try.prog 24 #[.agg #[.int .i64 l, .int .i64 m, .int .i64 f, .int .i64 g], u7] W fun e w' => e = .returned (.int .i64 X) ∧ Below W.heap.size W w') := fun W hb => by
          have h := refSteps_any l m f g u7 j (msV mb wh) W (by omega) HPO.out (hAr.later hb)
          rw [← e4] at h
          exact h
        subst e5
        obtain ⟨ad7, ca7, b7, o7, rfl, -, -, -, -⟩ := hAr
        have HQr := HQ5.out.later HW.out
        have y0 := HQr.c0
        have y1 := HQr.c1
        have y2 := HQr.c2
        have y3 := HQr.c3
        clear HS HO HR e4
        go_wp2_with fail
        refine (CL.out _).mono ?_
        rintro e w6 ⟨rfl, hb⟩
        have HB6 : Hid (Below wr.heap.size wr w6) := hb
        clear hb y0 y1 y2 y3 HQr
        go_wp2_with fail
        refine (CR.out _ HB6.out).mono ?_
        rintro e w7 ⟨rfl, hb⟩
        have HB7 : Hid (Below w.heap.size w w7) := bchain (bchain (bchain HB5.out HW.out) HB6.out) hb
        clear hb CR CL
        go_wp2
        go_ret
        exact ⟨by first | rfl | simp, HB7.out⟩
  · have e1 := hT.no hp
    subst e1
    obtain ⟨e1, e2⟩ := HS.out.1 hp
    subst e1 e2
    clear hT hp HS
    go_wp2
    go_ret
    exact ⟨rfl, HB5.out⟩
end Go.Proofs.Ytbblcecfdlmfmaa
