/-
  WideLongSums: for every list of wide numbers, every long number and every int n the law regattalaw01.WideLongSums returns true: wide numbers are added up as long ones, one by one, without loss, and rounded and clamped at the end. Its condition: the table of math/bits.TrailingZeros64 reads as its initialiser lays it (the card ties it to the program's text).
-/
import Derived.Test.YtpmidldnomleoaaDoorWalkS
import Derived.Test.YtpmidldnomleoaaDoorMathX
set_option linter.unusedVariables false
set_option linter.unusedSimpArgs false
namespace Go.Proofs.YtpmidldnomleoaaDoor
open Go.RowKit

/-- The list's cells. -/
def LCells (w : World) (b off len : Nat) (L : Nat → Int) : Prop := ∀ j, j < len → w.cell? ⟨b, off + j * 2, none⟩ = some (.int .i64 (hi (L j))) ∧ w.cell? ⟨b, off + j * 2 + 1, none⟩ = some (.int .u64 (lo (L j)))
theorem LCells.later {w w' : World} {b off len : Nat} {L : Nat → Int} (h : LCells w b off len L) (hb : Below w.heap.size w w') : LCells w' b off len L := fun j hj => ⟨cell_later hb (h j hj).1, cell_later hb (h j hj).2⟩

theorem c3_alloc {w : World} {o : Obj} {a0 a1 a2 : Addr} {v0 v1 v2 : Value} (h : w.cell? a0 = some v0 ∧ w.cell? a1 = some v1 ∧ w.cell? a2 = some v2) : (w.alloc o).cell? a0 = some v0 ∧ (w.alloc o).cell? a1 = some v1 ∧ (w.alloc o).cell? a2 = some v2 := ⟨cell_alloc h.1, cell_alloc h.2.1, cell_alloc h.2.2⟩
/-- Where a row doesn't lie. -/
def Nd (d : Nat) (v : Value) : Prop := ∀ a len cap, v = .slice (some a) len cap → a.block ≠ d
theorem nd_own {w : World} {base : Nat} {e : TypeId} {size : Nat} {v : Value} {m : Nat} {xs : List Value} (h : w.ownsRow base e size v m xs) {d : Nat} (hd : d < base) (m0 : 0 < m) : Nd d v := by
  rcases h.2 with hn | ⟨g, cap, cur, hv, hbs, hg, h1, h2, h3⟩
  · omega
  · intro a len cap' ha
    rw [hv] at ha
    cases ha
    dsimp only
    omega
theorem nd_bt {w : World} {v : Value} {m : Nat} {a : Int} {d : Nat} (h : Bt w v m a) (m0 : 0 < m) (hd : w.heap.size ≤ d) : Nd d v := by
  obtain ⟨g, cap, hv, k1, k2, hc⟩ := h
  have hg := World.block_lt_of_cell? _ _ (hc 0 m0)
  intro a len cap' ha
  rw [hv] at ha
  cases ha
  dsimp only at *
  omega
theorem Bt.set1 {w : World} {v : Value} {m : Nat} {a : Int} {d : Nat} (h : Bt w v m a) (hn : Nd d v) (o : Nat) (x : Value) : Bt (w.setCell ⟨d, o, none⟩ x) v m a := by
  obtain ⟨g, cap, hv, k1, k2, hc⟩ := h
  have hg := hn _ _ _ hv
  dsimp only at hg
  exact ⟨g, cap, hv, k1, k2, fun k hk => cell_set (by dsimp only; omega) (hc k hk)⟩
theorem Bx.far {b : Nat} {x y : Value} {w : World} {p : Addr} (h : Bx b x y w) (u : Value) (hp : p.block ≠ b) : Bx b x y (w.setCell p u) where
  c0 := cell_set hp h.c0
  c1 := cell_set hp h.c1
  f0 := by rw [World.frozen?_setCell]; exact h.f0
  f1 := by rw [World.frozen?_setCell]; exact h.f1
theorem c2_later {w w' : World} {a0 a1 : Addr} {v0 v1 : Value} (h : w.cell? a0 = some v0 ∧ w.cell? a1 = some v1) (hb : Below w.heap.size w w') : w'.cell? a0 = some v0 ∧ w'.cell? a1 = some v1 := ⟨cell_later hb h.1, cell_later hb h.2⟩
theorem hidA {a b : World} (h : Hid (Below a.heap.size a b)) (o : Obj) : Hid (Below a.heap.size a (b.alloc o)) := h.out.alloc h.out.size o

set_option maxHeartbeats 2000000 in
theorem wideLongSums_walk (adr : Option Addr) (len cap b off : Nat) (L : Nat → Int) (f n : Int) (hL : ∀ j, -170141183460469231731687303715884105728 ≤ L j ∧ L j ≤ 170141183460469231731687303715884105727) (hadr : 0 < len → adr = some ⟨b, off, none⟩) (hlen : len ≤ cap) (hcap : cap ≤ maxLen)
    (n0 : -9223372036854775808 ≤ n) (n1 : n ≤ 9223372036854775807) (w : World) (hc : LCells w b off len L) (hT : TabAt w) :
    Calls Tryd.prog 3 #[.slice adr len cap, .agg #[.int .i64 (t3 f), .int .u64 (m3 f), .int .u64 (lo f)], .int .i64 n] w fun e w' => e = .returned (.bool true) ∧ Below w.heap.size w w' := by
  unfold maxLen at hcap
  have HL : Hid (∀ j, -170141183460469231731687303715884105728 ≤ L j ∧ L j ≤ 170141183460469231731687303715884105727) := hL
  have HC : Hid (LCells w b off len L) := hc
  have HT : Hid (TabAt w) := hT
  have HA : Hid (0 < len → adr = some ⟨b, off, none⟩) := hadr
  clear hL hc hT hadr
  have B0 := B3.new w (.int .i64 (t3 f)) (.int .u64 (m3 f)) (.int .u64 (lo f)) 25
  have W0 := bel1 w (.cells #[.int .i64 (t3 f), .int .u64 (m3 f), .int .u64 (lo f)] 25)
  go_enter Tryd.func3, Tryd.ntmps3
  go_wp2_with fail
  refine (awake_any _).mono ?_
  rintro e w1 ⟨rfl, hb⟩
  have W1 : Below w.heap.size w w1 := bchain W0 hb
  have B1 := B0.later hb
  clear hb B0 W0
  by_cases h60 : (60 : Int) < (len : Int)
  · go_wp2
    go_ret
    exact ⟨rfl, W1⟩
  · have c0 := B1.c0
    have c1 := B1.c1
    have c2 := B1.c2
    have hsz := B1.lt
    go_upto_region 5 with fail
    go_cut [7, 8] (fun s7 s8 wc => ∃ d : Nat, s7 = .pointer (some ⟨d, 0, none⟩) ∧ w.heap.size < d ∧ B3 d (.int .i64 (t3 f)) (.int .u64 (m3 f)) (.int .u64 (lo f)) wc ∧ Bt wc s8 192 f ∧ Nd d s8 ∧ Below w.heap.size w wc)
    case first =>
      have CW : Hid (Below w.heap.size w w1.drew) := W1.drew
      have C : w1.drew.cell? ⟨w.heap.size, 0, none⟩ = some (.int .i64 (t3 f)) ∧ w1.drew.cell? ⟨w.heap.size, 1, none⟩ = some (.int .u64 (m3 f)) ∧ w1.drew.cell? ⟨w.heap.size, 2, none⟩ = some (.int .u64 (lo f)) := ⟨c0, c1, c2⟩
      clear W1 c0 c1 c2
      go_region_held3 (fun w' => w'.cell? ⟨w.heap.size, 0, none⟩ = some (.int .i64 (t3 f)) ∧ w'.cell? ⟨w.heap.size, 1, none⟩ = some (.int .u64 (m3 f)) ∧ w'.cell? ⟨w.heap.size, 2, none⟩ = some (.int .u64 (lo f))) (first | exact C | (refine ⟨?_, ?_, ?_⟩ <;> (repeat (first | exact C.1 | exact C.2.1 | exact C.2.2 | refine cell_alloc ?_ | refine cell_set (by dsimp only; omega) ?_)))) (first
        | (go_at_call 5; refine (long_any f _).mono ?_; rintro e wz ⟨v2, rfl, hown, hb⟩; have X := bt_own hown (by omega); first
            | (replace C := c3_later (w := w1.drew) C hb; replace CW := hidD (b := w1.drew) CW hb; clear hb hown)
            | (replace C := c3_later (c3_alloc C) hb; have N : B3 w1.heap.size (.int .i64 0) (.int .u64 0) (.int .u64 0) wz := (B3.new w1.drew _ _ _ _).later hb; replace CW := hidD (hidA CW _) hb; have XN : Nd w1.heap.size v2 := nd_own hown (by simp) (by omega); clear hb hown; have N0 := N.c0; have N1 := N.c1; have N2 := N.c2; have F0 := N.f0; have F1 := N.f1; have F2 := N.f2)))
      all_goals (go_wp2_with fail)
      all_goals go_meet
      · exact ⟨_, rfl, World.block_lt_of_cell? _ _ C.1, B3.new wz _ _ _ _, X.later (bel1 wz _), nd_bt X (by omega) (Nat.le_refl _), CW.out.alloc CW.out.size _⟩
      · refine ⟨_, rfl, hsz, ((N.set0 _).set1 _).set2 _, ((X.set1 XN 0 _).set1 XN 1 _).set1 XN 2 _, XN, ?_⟩
        exact ((CW.out.setCell (by dsimp only; omega) _).setCell (by dsimp only; omega) _).setCell (by dsimp only; omega) _
    case rest =>
      obtain ⟨d, rfl, hd, D0, X0, N0, V0⟩ := hcut
      clear W1 B1 c0 c1 c2 hsz
      go_wp2
      go_loopw [8, 26] (fun s8 s26 wr => ∃ j : Nat, j ≤ len ∧ s26 = .int .i64 (j : Int) ∧ Bt wr s8 192 (sumTo L f j) ∧ Nd d s8 ∧ B3 d (.int .i64 (t3 (sumTo L f j))) (.int .u64 (m3 (sumTo L f j))) (.int .u64 (lo (sumTo L f j))) wr ∧ Below w.heap.size w wr) (fun _ s26 _ => len - (intOf s26).toNat)
      case atStart => exact ⟨0, by omega, rfl, X0, N0, D0, V0⟩
      case round =>
        clear X0 D0 V0 N0
        obtain ⟨j, hj, rfl, X, XN, D, V⟩ := hrel
        by_cases hlt : (j : Int) < (len : Int)
        · obtain rfl := HA.out (by omega)
          obtain ⟨l0, l1⟩ := (HC.out.later V) j (by omega)
          obtain ⟨g0, g1⟩ := HL.out j
          have HS : Hid (sumTo L f j + L j = sumTo L f (j + 1)) := rfl
          have hj0 : (0 : Int) ≤ (j : Int) := by omega
          go_upto_region 9 with fail
          have hdp := D.lt
          have E9 := Bx.new wr (.int .i64 (hi (L j))) (.int .u64 (lo (L j))) 30
          have D9 := D.later (bel1 wr (.cells #[.int .i64 (hi (L j)), .int .u64 (lo (L j))] 30))
          have X9 := X.later (bel1 wr (.cells #[.int .i64 (hi (L j)), .int .u64 (lo (L j))] 30))
          have V9 := bchain V (bel1 wr (.cells #[.int .i64 (hi (L j)), .int .u64 (lo (L j))] 30))
          clear D X V l0 l1
          generalize wr.alloc (.cells #[.int .i64 (hi (L j)), .int .u64 (lo (L j))] 30) = w9 at *
          generalize wr.heap.size = p at *
          have hd1 : Below w9.heap.size w9 w9.drew := (Below.refl _ _).drew
          have CE := E9.later hd1
          have CD := D9.later hd1
          have CX := X9.later hd1
          have CV : Hid (Below w.heap.size w w9.drew) := V9.drew
          have C0 := CE.c0
          have C1 := CE.c1
          have CC0 := CD.c0
          have CC1 := CD.c1
          have CC2 := CD.c2
          have CF0 := CD.f0
          have CF1 := CD.f1
          have CF2 := CD.f2
          clear hd1 E9 D9 X9 V9
          go_region_with (first
            | (go_at_call 7; refine (extend_any (L j) g0 g1 _).mono ?_; rintro e wz ⟨rfl, hb⟩; replace C0 := cell_later hb C0; replace C1 := cell_later hb C1; replace CC0 := cell_later hb CC0; replace CC1 := cell_later hb CC1; replace CC2 := cell_later hb CC2; replace CF0 := frozen_later hb CD.c0 CF0; replace CF1 := frozen_later hb CD.c1 CF1; replace CF2 := frozen_later hb CD.c2 CF2; replace CE := CE.later hb; replace CD := CD.later hb; replace CX := CX.later hb; replace CV := hidD CV hb; clear hb)
            | (go_at_call 6; refine (plus_any (sumTo L f j) (L j) _).mono ?_; rintro e wz ⟨rfl, hb⟩; replace C0 := cell_later hb C0; replace C1 := cell_later hb C1; replace CC0 := cell_later hb CC0; replace CC1 := cell_later hb CC1; replace CC2 := cell_later hb CC2; replace CF0 := frozen_later hb CD.c0 CF0; replace CF1 := frozen_later hb CD.c1 CF1; replace CF2 := frozen_later hb CD.c2 CF2; replace CE := CE.later hb; replace CD := CD.later hb; replace CX := CX.later hb; replace CV := hidD CV hb; clear hb))
          all_goals
            have D10 := ((CD.set0 (.int .i64 (t3 (sumTo L f j + L j)))).set1 (.int .u64 (m3 (sumTo L f j + L j)))).set2 (.int .u64 (lo (sumTo L f j + L j)))
            have X10 := ((CX.set1 XN 0 (.int .i64 (t3 (sumTo L f j + L j)))).set1 XN 1 (.int .u64 (m3 (sumTo L f j + L j)))).set1 XN 2 (.int .u64 (lo (sumTo L f j + L j)))
            have E10 := ((CE.far (p := ⟨d, 0, none⟩) (.int .i64 (t3 (sumTo L f j + L j))) (by dsimp only; omega)).far (p := ⟨d, 1, none⟩) (.int .u64 (m3 (sumTo L f j + L j))) (by dsimp only; omega)).far (p := ⟨d, 2, none⟩) (.int .u64 (lo (sumTo L f j + L j))) (by dsimp only; omega)
            have V10 := ((CV.out.setCell (p := ⟨d, 0, none⟩) (by dsimp only; omega) (.int .i64 (t3 (sumTo L f j + L j)))).setCell (p := ⟨d, 1, none⟩) (by dsimp only; omega) (.int .u64 (m3 (sumTo L f j + L j)))).setCell (p := ⟨d, 2, none⟩) (by dsimp only; omega) (.int .u64 (lo (sumTo L f j + L j)))
            clear CC0 CC1 CC2 CF0 CF1 CF2 CD CX CE CV C0 C1
            generalize ((wz.setCell ⟨d, 0, none⟩ (.int .i64 (t3 (sumTo L f j + L j)))).setCell ⟨d, 1, none⟩ (.int .u64 (m3 (sumTo L f j + L j)))).setCell ⟨d, 2, none⟩ (.int .u64 (lo (sumTo L f j + L j))) = w10 at *
            have e0 := E10.c0
            have e1 := E10.c1
            go_wp2_with fail
            refine (bits_any (L j) _).mono ?_
            rintro e w11 ⟨v11, rfl, hown, hb⟩
            have B11 := bt_own hown (by omega)
            have D11 := D10.later hb
            have X11 := X10.later hb
            have V11 := bchain V10 hb
            clear hb hown D10 X10 V10 E10 e0 e1
            go_wp2_with fail
            refine (rwider_any v11 128 192 (L j) (by omega) (by omega) (by omega) (inr_128 _ g0 g1) _ B11).mono ?_
            rintro e w12 ⟨v12, rfl, hown, hb⟩
            have B12 := bt_own hown (by omega)
            have D12 := D11.later hb
            have X12 := X11.later hb
            have V12 := bchain V11 hb
            clear hb hown D11 X11 V11 B11
            go_wp2_with fail
            refine (radd_any _ v12 192 (sumTo L f j) (L j) (by omega) (by omega) _ X12 B12).mono ?_
            rintro e w13 ⟨v13, rfl, hown, hb⟩
            have B13 := bt_own hown (by omega)
            have N13 : Nd d v13 := nd_own hown D12.lt (by omega)
            have D13 := D12.later hb
            have V13 := bchain V12 hb
            clear hb hown D12 X12 V12 B12
            rw [HS.out] at B13 D13
            have hj2 : (j : Int) + 1 ≤ 9223372036854775807 := by omega
            go_wp2
            go_roundw
            case rel => exact ⟨j + 1, by omega, by rw [show ((j + 1 : Nat) : Int) = (j : Int) + 1 by omega], B13, N13, D13, V13⟩
            case measure => simp [intOf]; omega
        · obtain rfl : j = len := by omega
          obtain ⟨q1, q2, q3⟩ := wr192_words (sumTo L f j)
          obtain ⟨r0, r1⟩ := wr192_rng (sumTo L f j)
          rw [q1, q2, q3] at D
          have X := X.wrap
          have T := HT.out.later V
          generalize wr192 (sumTo L f j) = r at *
          clear q1 q2 q3 HC HL HA HT
          have e0 := D.c0
          have e1 := D.c1
          have e2 := D.c2
          by_cases hbig : 191 < n
          · go_wp2_with fail
            refine (near_big _ _ _ n hbig _).mono ?_
            rintro e w3 ⟨rfl, hb⟩
            have W3 := bchain V hb
            clear hb X D T V e0 e1 e2
            go_wp2
            go_ret
            exact ⟨rfl, W3⟩
          · obtain ⟨k, hk⟩ : ∃ k : Nat, max n 0 = (k : Int) := ⟨(max n 0).toNat, by omega⟩
            have k1 : k ≤ 191 := by omega
            have hmin : min (max n 0) 191 = (k : Int) := by omega
            have NR := fun W h => near_mid r n k hk k1 r0 r1 W h
            obtain ⟨s0, s1⟩ := rl_rng r k r0 r1
            have CL := fun v W h => rclamp_any v 192 (rl r k) (by omega) (by omega) (inr_192 _ s0 s1) W h
            have RR := fun v W h => rround_all v k k1 r (inr_192 _ r0 r1) W h
            generalize rl r k = s at *
            generalize clv s = cv at *
            generalize ovv s = co at *
            have NRH : Hid (∀ W : World, TabAt W → Calls Tryd.prog 11 #[.agg #[.int .i64 (t3 r), .int .u64 (m3 r), .int .u64 (lo r)], .int .i64 n] W fun e w' => e = .returned (.tuple #[.int .i64 cv, .bool co]) ∧ Below W.heap.size W w') := NR
            have CLH : Hid (∀ (v : Value) (W : World), Bt W v 192 s → Calls Tryd.prog 12 #[v] W fun e w' => e = .returned (.tuple #[.int .i64 cv, .bool co]) ∧ Below W.heap.size W w') := CL
            have RRH : Hid (∀ (v : Value) (W : World), Bt W v 192 r → Calls Tryd.prog 13 #[v, .int .i64 (k : Int)] W fun e w' => ∃ v', e = .returned v' ∧ Bt w' v' 192 s ∧ Below W.heap.size W w') := RR
            have HM : Hid (min (max n 0) 191 = (k : Int)) := hmin
            clear NR CL RR hk hmin s0 s1
            go_wp2_with fail
            refine (NRH.out _ T).mono ?_
            rintro e w3 ⟨rfl, hb⟩
            have W3 := bchain V hb
            have D3 := D.later hb
            have X3 := X.later hb
            clear hb D X T V e0 e1 e2 NRH
            go_wp2_with fail
            refine (times_191 n k HM.out _).mono ?_
            rintro e w4 ⟨rfl, hw⟩
            subst hw
            go_wp2_with fail
            refine (RRH.out _ _ X3).mono ?_
            rintro e w5 ⟨v5, rfl, Y5, hb⟩
            have W5 := bchain W3 hb
            have D5 := D3.later hb
            have X5 := X3.later hb
            clear hb W3 D3 X3 RRH
            go_wp2_with fail
            refine (CLH.out _ _ Y5).mono ?_
            rintro e w6 ⟨rfl, hb⟩
            have W6 := bchain W5 hb
            have D6 := D5.later hb
            have X6 := X5.later hb
            clear hb W5 D5 X5 Y5 CLH
            go_wp2_with fail
            refine (words_any _ 3 r (by omega) (by omega) _ X6).mono ?_
            rintro e w7 ⟨v7, rfl, hown, hb⟩
            have W7 := bchain W6 hb
            have D7 := D6.later hb
            obtain ⟨g, cap7, rfl, p1, p2, hcs⟩ := words_form hown (by omega)
            have a0 : w7.cell? ⟨g, 0, none⟩ = some (.int .u64 (lo r)) := by rw [hcs 0 (by omega)]; exact congrArg (fun x => some (Value.int .u64 x)) (wd_0 r)
            have a1 : w7.cell? ⟨g, 1, none⟩ = some (.int .u64 (m3 r)) := by rw [hcs 1 (by omega)]; rfl
            have a2 : w7.cell? ⟨g, 2, none⟩ = some (.int .u64 (u3 r)) := by rw [hcs 2 (by omega)]; rfl
            unfold maxLen at p2
            clear hb W6 D6 X6 hown hcs
            go_upto_region 17 with fail
            have z0 := fun x y => cell_regrown a0 x y
            have z1 := fun x y => cell_regrown a1 x y
            have z2 := fun x y => cell_regrown a2 x y
            have z3 := fun x y => cell_regrown D7.c0 x y
            have z4 := fun x y => cell_regrown D7.c1 x y
            have z5 := fun x y => cell_regrown D7.c2 x y
            have hwr : IntKind.i64.wrap (u3 r) = t3 r := by rw [IntKind.wrap_i64]; exact u3_t3 r
            refine wp_region_quiet_below (by kernel_rfl) (by kernel_rfl) ?_
            repeat (quiet_step (fail))
            refine wpQuiet_nil ?_
            intro wd hw'
            have hB2 : Below w7.heap.size w7 wd := by obtain ⟨⟨dq, osq⟩, rfl⟩ := hw'; exact below_regrown w7 dq osq
            have W8 := bchain W7 hB2
            clear hw' hB2 z0 z1 z2 z3 z4 z5
            go_wp2
            go_ret
            exact ⟨rfl, W8⟩
end Go.Proofs.YtpmidldnomleoaaDoor
