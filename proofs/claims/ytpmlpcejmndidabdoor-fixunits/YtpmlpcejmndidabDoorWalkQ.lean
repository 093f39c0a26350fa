/-
  The contracts of words' rounded and of regatta/wide's Near.
-/
import Derived.Test.YtpmlpcejmndidabDoorWalkP
set_option linter.unusedVariables false
set_option linter.unusedSimpArgs false
namespace Go.Proofs.YtpmlpcejmndidabDoor
open Go.RowKit

/-- A number by 2^n, to the nearest whole one, of two the even one; by 2^0 itself. -/
def rl (v : Int) (n : Nat) : Int := if gu (sd v n) (lo (v / 2 ^ n)) = true then v / 2 ^ n + 1 else v / 2 ^ n
theorem rl_zero (v : Int) : rl v 0 = v := by
  unfold rl
  rw [show sd v 0 = -1 from rfl, if_neg (by unfold gu; simp), Int.pow_zero, Int.ediv_one]
theorem rl_pos (v : Int) (n : Nat) (n0 : 1 ≤ n) : rl v n = rnd v n := by
  unfold rl rnd sd
  rw [if_neg (show ¬ n = 0 by omega)]
theorem TabAt.regrown {w : World} (h : TabAt w) (d : Nat) (os : Array Obj) : TabAt (Go.Sort.grow (redrawn w d) os) := fun j hj => cell_regrown (h j hj) d os

set_option maxHeartbeats 2000000 in
theorem rounded_any (v : Int) (n : Nat) (n1 : n ≤ 191) (h0 : -3138550867693340381917894711603833208051177722232017256448 ≤ v) (h1 : v ≤ 3138550867693340381917894711603833208051177722232017256447) (w : World) (hT : TabAt w) :
    Calls Tryd.prog 68 #[.agg #[.int .u64 (lo v), .int .u64 (m3 v), .int .u64 (u3 v)], .int .i64 (n : Int)] w fun e w' => e = .returned (.agg #[.int .u64 (lo (rl v n)), .int .u64 (m3 (rl v n)), .int .u64 (u3 (rl v n))]) ∧ Below w.heap.size w w' := by
  have DN : Hid (∀ W : World, Calls Tryd.prog 77 #[.agg #[.int .u64 (lo v), .int .u64 (m3 v), .int .u64 (u3 v)], .int .i64 (n : Int)] W fun e w' => e = .returned (.agg #[.int .u64 (lo (v / 2 ^ n)), .int .u64 (m3 (v / 2 ^ n)), .int .u64 (u3 (v / 2 ^ n))]) ∧ Below W.heap.size W w') := fun W => down_any v n (n / 64) (n % 64) (by omega) (by omega) (by omega) h0 h1 W
  have HR : Hid (rl v n = if gu (sd v n) (lo (v / 2 ^ n)) = true then v / 2 ^ n + 1 else v / 2 ^ n) := rfl
  have hld := lo_ge (v / 2 ^ n)
  generalize hdn : v / 2 ^ n = dn at *
  clear hdn
  have PL := fun W => wplus_any dn 1 W
  rw [show lo 1 = 1 from rfl, show m3 1 = 0 from rfl, show u3 1 = 0 from rfl] at PL
  have PLH : Hid (∀ W : World, Calls Tryd.prog 79 #[.agg #[.int .u64 (lo dn), .int .u64 (m3 dn), .int .u64 (u3 dn)], .agg #[.int .u64 1, .int .u64 0, .int .u64 0]] W fun e w' => e = .returned (.agg #[.int .u64 (lo (dn + 1)), .int .u64 (m3 (dn + 1)), .int .u64 (u3 (dn + 1))]) ∧ Below W.heap.size W w') := PL
  have SD : Hid (∀ W : World, TabAt W → Calls Tryd.prog 78 #[.agg #[.int .u64 (lo v), .int .u64 (m3 v), .int .u64 (u3 v)], .int .i64 (n : Int)] W fun e w' => e = .returned (.int .i64 (sd v n)) ∧ Below W.heap.size W w') := fun W h => side_any v n n1 W h
  clear PL
  have A0 := (B3.new w (.int .u64 (lo v)) (.int .u64 (m3 v)) (.int .u64 (u3 v)) 98).later (bel1 _ (.cells #[.int .u64 0, .int .u64 0, .int .u64 0] 98))
  have R0 := B3.new (w.alloc (.cells #[.int .u64 (lo v), .int .u64 (m3 v), .int .u64 (u3 v)] 98)) (.int .u64 0) (.int .u64 0) (.int .u64 0) 98
  have W0 := bel2 w (.cells #[.int .u64 (lo v), .int .u64 (m3 v), .int .u64 (u3 v)] 98) (.cells #[.int .u64 0, .int .u64 0, .int .u64 0] 98)
  have T0 := hT.later W0
  simp only [World.size_alloc] at R0
  go_enter Tryd.func68, Tryd.ntmps68
  go_wp2_with fail
  refine (DN.out _).mono ?_
  rintro e w1 ⟨rfl, hb⟩
  have A1 := A0.later hb
  have R1 := R0.later hb
  have W1 := bchain W0 hb
  have T1 := T0.later hb
  have hb2 := bel1 w1 (.cells #[.int .u64 (lo dn), .int .u64 (m3 dn), .int .u64 (u3 dn)] 98)
  have O2 := B3.new w1 (.int .u64 (lo dn)) (.int .u64 (m3 dn)) (.int .u64 (u3 dn)) 98
  have A2 := A1.later hb2
  have R2 := R1.later hb2
  have W2 := bchain W1 hb2
  have T2 := T1.later hb2
  have hdR := R1.lt
  clear hb hb2 A0 R0 W0 T0 A1 R1 W1 T1 DN hT
  go_upto_region 2 with fail
  generalize w1.alloc (.cells #[.int .u64 (lo dn), .int .u64 (m3 dn), .int .u64 (u3 dn)] 98) = w2 at *
  generalize w1.heap.size = d at *
  have z0 := fun x y => cell_regrown A2.c0 x y
  have z1 := fun x y => cell_regrown A2.c1 x y
  have z2 := fun x y => cell_regrown A2.c2 x y
  have z3 := fun x y => cell_regrown O2.c0 x y
  refine wp_region_quiet_below (by kernel_rfl) (by kernel_rfl) ?_
  repeat (quiet_step (first | (go_at_call 78; exact Calls.regrown_of (SD.out _ (T2.regrown _ _))) | (go_at_call 56; exact Calls.regrown_same (goesUp_any _ _ hld _))))
  refine wpQuiet_nil ?_
  intro wd hw'
  have hB2 : Below w2.heap.size w2 wd := by obtain ⟨⟨dq, osq⟩, rfl⟩ := hw'; exact below_regrown w2 dq osq
  have O3 := O2.later hB2
  have R3 := R2.later hB2
  have W3 := bchain W2 hB2
  clear hw' hB2 z0 z1 z2 z3 A2 O2 R2 W2 T2 SD
  by_cases hG : gu (sd v n) (lo dn) = true
  · have HE : Hid (rl v n = dn + 1) := by show _ = _; rw [HR.out, if_pos hG]
    rw [hG]
    clear hG HR
    have q0 := O3.c0
    have q1 := O3.c1
    have q2 := O3.c2
    go_wp2_with fail
    refine (PLH.out _).mono ?_
    rintro e w4 ⟨rfl, hb⟩
    have O4 := O3.later hb
    have R4 := R3.later hb
    have W4 := bchain W3 hb
    clear hb O3 R3 W3 q0 q1 q2 PLH
    have q0 := O4.c0
    have q1 := O4.c1
    have q2 := O4.c2
    have g0 := O4.f0
    have g1 := O4.f1
    have g2 := O4.f2
    have r0 := R4.c0
    have r1 := R4.c1
    have r2 := R4.c2
    have s0 := R4.f0
    have s1 := R4.f1
    have s2 := R4.f2
    have hsz := W4.size
    go_wp2
    exact bodyPost_ret (v := .agg #[.int .u64 (lo (rl v n)), .int .u64 (m3 (rl v n)), .int .u64 (u3 (rl v n))]) (by rw [HE.out]; simp [results, Tryd.results68, go_sem, q0, q1, q2, r0, r1, r2]) rfl ⟨rfl, (((((W4.setCell (by dsimp only; omega) _).setCell (by dsimp only; omega) _).setCell (by dsimp only; omega) _).setCell (by dsimp only; omega) _).setCell (by dsimp only; omega) _).setCell (by dsimp only; omega) _⟩
  · have HE : Hid (rl v n = dn) := by show _ = _; rw [HR.out, if_neg hG]
    have hG' : gu (sd v n) (lo dn) = false := by simpa using hG
    rw [hG']
    clear hG hG' HR PLH
    have q0 := O3.c0
    have q1 := O3.c1
    have q2 := O3.c2
    have r0 := R3.c0
    have r1 := R3.c1
    have r2 := R3.c2
    have s0 := R3.f0
    have s1 := R3.f1
    have s2 := R3.f2
    go_wp2
    exact bodyPost_ret (v := .agg #[.int .u64 (lo (rl v n)), .int .u64 (m3 (rl v n)), .int .u64 (u3 (rl v n))]) (by rw [HE.out]; simp [results, Tryd.results68, go_sem, r0, r1, r2]) rfl ⟨rfl, ((W3.setCell (by dsimp only; omega) _).setCell (by dsimp only; omega) _).setCell (by dsimp only; omega) _⟩
end Go.Proofs.YtpmlpcejmndidabDoor
