/-
  The contract of regattaref06's Own.
-/
import Derived.Test.YtaifihfiompgaaaJWalkA
import Derived.Test.YtaifihfiompgaaaHWalkC
set_option linter.unusedVariables false
set_option linter.unusedSimpArgs false
namespace Go.Proofs.Ytaifihfiompgaaa
open Go.RowKit

/-- How many of a share lie below p. -/
def shcnt (lo hi p : Nat) : Nat := min p hi - lo
set_option maxRecDepth 100000 in
set_option maxHeartbeats 4000000 in
theorem refOwn_any (s W x n : Nat) (C : Nat → Nat) (hs : s < 18446744073709551616) (W1 : 1 ≤ W) (W2 : W ≤ 64) (hx : x < W) (hn1 : W ≤ n) (hn2 : n ≤ 4096) (hC : ∀ j, j < n → Comes s 1 0 0 n j (C j)) (w : World) :
    Calls Try.prog 12 #[.int .u64 (s : Int), .int .i64 (W : Int), .int .i64 (x : Int), .int .i64 (n : Int)] w fun e w' => ∃ v', e = .returned v' ∧ Ar w' v' (dlo W n (x + 1) - dlo W n x) (fun q => ((C (dlo W n x + q) : Nat) : Int)) ∧ Ow w.heap.size v' ∧ Below w.heap.size w w' := by
  obtain ⟨lo, hlo2⟩ : ∃ lo, dlo W n x = lo := ⟨_, rfl⟩
  obtain ⟨hi', hhi2⟩ : ∃ hi', dlo W n (x + 1) = hi' := ⟨_, rfl⟩
  rw [hlo2, hhi2]
  have HL : Hid (dlo W n x = lo ∧ dlo W n (x + 1) = hi') := ⟨hlo2, hhi2⟩
  clear hlo2 hhi2
  have hky : Ky s 1 0 0 := ⟨hs, by omega, by omega, by omega, by omega, by omega, by omega⟩
  have HP : Hid (∀ (i : Nat) (V : World), i < n → Calls Try.prog 22 #[.agg #[.int .u64 (s : Int), .int .i64 1, .int .i64 0, .int .i64 0], .int .i64 (n : Int), .int .i64 (i : Int)] V fun e w' => ∃ y : Nat, e = .returned (.int .i64 (y : Int)) ∧ Goes s 1 0 0 n i y ∧ Below V.heap.size V w') := fun i V hi => refPlace_any s 1 0 0 n i hky (by omega) (by omega) hi V
  have HC : Hid (∀ j, j < n → Comes s 1 0 0 n j (C j)) := hC
  have hmk := make_int n (by omega)
  have K0 : K4 w.heap.size (.int .u64 (s : Int)) (.int .i64 1) (.int .i64 0) (.int .i64 0) (w.alloc (.cells #[.int .u64 (s : Int), .int .i64 1, .int .i64 0, .int .i64 0] 53)) := ⟨by simp [go_sem], by simp [go_sem], by simp [go_sem], by simp [go_sem]⟩
  obtain ⟨w1, hw1⟩ : ∃ w1, w1 = w.alloc (.cells #[.int .u64 (s : Int), .int .i64 1, .int .i64 0, .int .i64 0] 53) := ⟨_, rfl⟩
  have hB1 : Hid (Below w.heap.size w w1) := by rw [hw1]; exact bel1 w _
  have hgs : Hid (w1.heap.size = w.heap.size + 1) := by show _ = _; rw [hw1]; simp
  rw [← hw1] at K0
  have hR0 := Rw.made w1 (.int .i64 0) n 3
  have hB2 : Below w1.heap.size w1 (w1.alloc (.cells (madeCells #[.int .i64 0] n) 3)) := bel1 w1 _
  rw [hgs.out] at hR0
  obtain ⟨w2, hw2⟩ : ∃ w2, w2 = w1.alloc (.cells (madeCells #[.int .i64 0] n) 3) := ⟨_, rfl⟩
  rw [← hw2] at hR0 hB2
  have Hw2 : Hid (w2 = (w.alloc (.cells #[.int .u64 (s : Int), .int .i64 1, .int .i64 0, .int .i64 0] 53)).alloc (.cells (madeCells #[.int .i64 0] n) 3)) := by show _ = _; rw [hw2, hw1]
  have HK : Hid (K4 w.heap.size (.int .u64 (s : Int)) (.int .i64 1) (.int .i64 0) (.int .i64 0) w2) := K0.later hB2
  have HB2 : Hid (Below w.heap.size w w2) := bchain hB1.out hB2
  have hs2 : Hid (w2.heap.size = w.heap.size + 2) := by show _ = _; rw [hw2, World.size_alloc, hgs.out]
  have HR0 : Hid (Rw (w.heap.size + 1) n (fun _ => .int .i64 0) w2) := hR0
  clear hC hky K0 hB2 hw1 hw2 hR0 hgs hB1 w1
  go_enter Try.func12, Try.ntmps12
  go_upto_region 4 with fail
  clear hmk
  rw [← Hw2.out]
  clear Hw2
  generalize hgg : w.heap.size + 1 = g at *
  have hgw : w.heap.size < g := by omega
  go_loopw [11] (fun si wr => ∃ i : Nat, i ≤ n ∧ si = .int .i64 (i : Int) ∧ Hid (Rw g n (fun p => .int .i64 (if C p < i then ((C p : Nat) : Int) else 0)) wr) ∧ Hid (K4 w.heap.size (.int .u64 (s : Int)) (.int .i64 1) (.int .i64 0) (.int .i64 0) wr) ∧ Hid (Below w.heap.size w wr)) (fun si _ => n - (intOf si).toNat)
  case atStart => exact ⟨0, by omega, rfl, HR0.out.congr (fun k hk => by simp), HK, HB2⟩
  case round =>
    rename World => wr1
    obtain ⟨i, hi, rfl, hR, hK, hW⟩ := hrel
    by_cases hlt : i < n
    · have hiI : (i : Int) < (n : Int) := by omega
      have k0 := hK.out.c0
      have k1 := hK.out.c1
      have k2 := hK.out.c2
      have k3 := hK.out.c3
      have CM : Hid (Calls Try.prog 22 #[.agg #[.int .u64 (s : Int), .int .i64 1, .int .i64 0, .int .i64 0], .int .i64 (n : Int), .int .i64 (i : Int)] wr1 fun e w' => ∃ y : Nat, e = .returned (.int .i64 (y : Int)) ∧ Goes s 1 0 0 n i y ∧ Below wr1.heap.size wr1 w') := HP.out i wr1 hlt
      go_wp2_with fail
      refine CM.out.mono ?_
      rintro e wz ⟨y, rfl, hG, hb⟩
      have hy : y < n := hG.lt
      have HCy : Hid (∀ p, p < n → (C p = i ↔ p = y)) := fun p hp => ⟨fun h => ((HC.out p hp).goes hp |>.one (by rw [h] at *; exact hG) : p = y) , fun h => by subst h; exact (HC.out p hp).one (hG.comes hlt)⟩
      have HRz : Rw g n (fun p => .int .i64 (if C p < i then ((C p : Nat) : Int) else 0)) wz := hR.out.later hb
      have cy := HRz.c y hy
      obtain ⟨cu, hcu⟩ : ∃ u : Int, u = (if C y < i then ((C y : Nat) : Int) else 0) := ⟨_, rfl⟩
      rw [← hcu] at cy
      have fy := HRz.f y hy
      have HR2 : Hid (Rw g n (fun p => .int .i64 (if C p < i + 1 then ((C p : Nat) : Int) else 0)) (wz.setCell ⟨g, y, none⟩ (.int .i64 (i : Int)))) := (HRz.set y (.int .i64 (i : Int))).congr (fun p hp => by
        by_cases e : p = y
        · rw [if_pos e]
          have h1 := (HCy.out p hp).2 e
          rw [if_pos (by omega), h1]
        · rw [if_neg e]
          have h1 : ¬ C p = i := fun h => e ((HCy.out p hp).1 h)
          by_cases h2 : C p < i
          · rw [if_pos h2, if_pos (by omega)]
          · rw [if_neg h2, if_neg (by omega)])
      have HK2 : Hid (K4 w.heap.size (.int .u64 (s : Int)) (.int .i64 1) (.int .i64 0) (.int .i64 0) (wz.setCell ⟨g, y, none⟩ (.int .i64 (i : Int)))) := (hK.out.later hb).far _ (by dsimp only; omega)
      have HW2 : Hid (Below w.heap.size w (wz.setCell ⟨g, y, none⟩ (.int .i64 (i : Int)))) := (bchain hW.out hb).setCell (by dsimp only; omega) _
      have hyI : (y : Int) < (n : Int) := by omega
      clear hcu HRz hb hG HCy k0 k1 k2 k3 CM hR hK hW
      go_wp2
      go_roundw
      case rel => exact ⟨i + 1, by omega, by go_num, HR2, HK2, HW2⟩
      case measure => simp [intOf]; omega
    · obtain rfl : i = n := by omega
      have hiI : ¬ (i : Int) < (i : Int) := by omega
      have HR1 : Hid (Rw g i (fun p => .int .i64 ((C p : Nat) : Int)) wr1) := hR.out.congr (fun p hp => by rw [if_pos (HC.out p hp).lt])
      clear hR hK HP
      obtain ⟨i0, hti, hz0, hz1, hz2⟩ := info_parts dinfo_int
      have hwn0 : ¬ (W : Int) = 0 := by omega
      have hlo : dlo W i x ≤ i := dlo_le W i x (by omega) (by omega)
      have hhi : dlo W i (x + 1) ≤ i := dlo_le W i (x + 1) (by omega) (by omega)
      have hmo : dlo W i x ≤ dlo W i (x + 1) := dlo_mono W i (by omega)
      obtain ⟨P, hP⟩ : ∃ P, x * i = P := ⟨_, rfl⟩
      have hP1 : P ≤ 64 * 4096 := by rw [← hP]; exact Nat.mul_le_mul (by omega) hn2
      have eP : (x : Int) * (i : Int) = (P : Int) := by rw [← hP, Int.natCast_mul]
      obtain ⟨P2, hP2⟩ : ∃ P2, (x + 1) * i = P2 := ⟨_, rfl⟩
      have hP3 : P2 ≤ 65 * 4096 := by rw [← hP2]; exact Nat.mul_le_mul (by omega) hn2
      have eP2 : ((x : Int) + 1) * (i : Int) = (P2 : Int) := by rw [← hP2, Int.natCast_mul]; rfl
      have hlo2 := HL.out.1
      have hhi2 := HL.out.2
      have eq1 : ((P : Nat) : Int).tdiv (W : Int) = (lo : Int) := by rw [← hlo2, Int.tdiv_eq_ediv_of_nonneg (by omega)]; unfold dlo; rw [hP, Int.natCast_ediv]
      have eq2 : ((P2 : Nat) : Int).tdiv (W : Int) = (hi' : Int) := by rw [← hhi2, Int.tdiv_eq_ediv_of_nonneg (by omega)]; unfold dlo; rw [hP2, Int.natCast_ediv]
      have eq3 : (P : Int) / (W : Int) = (lo : Int) := by rw [← hlo2]; unfold dlo; rw [hP, Int.natCast_ediv]
      have eq4 : (P2 : Int) / (W : Int) = (hi' : Int) := by rw [← hhi2]; unfold dlo; rw [hP2, Int.natCast_ediv]
      rw [hlo2] at hlo hmo
      rw [hhi2] at hhi hmo
      clear hP hP2 hlo2 hhi2
      have hsz1 : Hid (w.heap.size ≤ wr1.heap.size) := hW.out.size
      go_upto_region 9 with fail
      go_loopw [12, 13] (fun s12 si wr => ∃ p : Nat, p ≤ i ∧ si = .int .i64 (p : Int) ∧ wr.ownsRow wr1.heap.size 3 1 s12 (shcnt lo hi' p) (il (fun q => ((C (lo + q) : Nat) : Int)) (shcnt lo hi' p)) ∧ Hid (Below wr1.heap.size wr1 wr)) (fun _ si _ => i - (intOf si).toNat)
      case atStart => exact ⟨0, by omega, rfl, by rw [show shcnt lo hi' 0 = 0 by unfold shcnt; omega]; exact World.ownsRow_nil _ _ _ _, Below.refl _ _⟩
      case round =>
        rename World => wr2
        obtain ⟨p, hp, rfl, hown, hW2⟩ := hrel
        by_cases hlt2 : p < i
        · have hpI : (p : Int) < (i : Int) := by omega
          by_cases hin : lo ≤ p ∧ p < hi'
          · obtain ⟨q1, q2⟩ := hin
            have q1I : (lo : Int) ≤ (p : Int) := by omega
            have q2I : (p : Int) < (hi' : Int) := by omega
            have cp : wr2.cell? ⟨g, p, none⟩ = some (.int .i64 ((C p : Nat) : Int)) := (HR1.out.later hW2.out).c p hlt2
            have hs12 : wr1.heap.size ≤ wr2.heap.size := hW2.out.size
            have hc1 : shcnt lo hi' (p + 1) = shcnt lo hi' p + 1 := by unfold shcnt; omega
            have hc2 : lo + shcnt lo hi' p = p := by unfold shcnt; omega
            have HO : Hid (wr2.ownsRow wr1.heap.size 3 1 u12 (shcnt lo hi' p) (il (fun q => ((C (lo + q) : Nat) : Int)) (shcnt lo hi' p))) := hown
            have hcb : shcnt lo hi' p ≤ 4096 := by unfold shcnt; omega
            have Hc : Hid (shcnt lo hi' (p + 1) = shcnt lo hi' p + 1 ∧ lo + shcnt lo hi' p = p) := ⟨hc1, hc2⟩
            clear hc1 hc2
            go_wp2_with (at_builtin; refine wpList_append_own _ rfl _ _ 26 rfl wr1.heap.size 3 i0 (.int .i64 0) 1 8 Try.underlying26 hti hz0 hz1 hz2 rfl (by decide) _ _ _ rfl (hown.alloc _) ⟨wr2.heap.size, 0, none⟩ 1 1 [.int .i64 ((C p : Nat) : Int)] rfl rfl (cell_one_new _ _ _) (ints_oneCell .i64 [((C p : Nat) : Int)]) (by unfold maxLen; omega) (by omega) (by simp; omega) ?_; intro v' w3 hown' hgrow hnil; have hown3 : w3.ownsRow wr1.heap.size 3 1 v' (shcnt lo hi' (p + 1)) (il (fun q => ((C (lo + q) : Nat) : Int)) (shcnt lo hi' (p + 1))) := (by rw [Hc.out.1, il_succ, Hc.out.2]; exact hown'); have HW3 : Hid (Below wr1.heap.size wr1 w3) := (hW2.out.alloc hs12 _).grown hgrow (by rw [World.size_alloc]; omega) (fun k hk => (HO.out.lt k hk).1); clear hown' hgrow hnil hown HO)
            go_roundw
            case rel => exact ⟨p + 1, by omega, by go_num, hown3, HW3⟩
            case measure => simp [intOf]; omega
          · have hc1 : shcnt lo hi' (p + 1) = shcnt lo hi' p := by unfold shcnt; omega
            have Hc : Hid (shcnt lo hi' (p + 1) = shcnt lo hi' p) := hc1
            clear hc1
            by_cases hq : lo ≤ p
            · have q1I : (lo : Int) ≤ (p : Int) := by omega
              have q2I : ¬ (p : Int) < (hi' : Int) := by omega
              go_wp2
              go_roundw
              case rel => exact ⟨p + 1, by omega, by go_num, by rw [Hc.out]; exact hown, hW2⟩
              case measure => simp [intOf]; omega
            · have q1I : ¬ (lo : Int) ≤ (p : Int) := by omega
              go_wp2
              go_roundw
              case rel => exact ⟨p + 1, by omega, by go_num, by rw [Hc.out]; exact hown, hW2⟩
              case measure => simp [intOf]; omega
        · obtain rfl : p = i := by omega
          have hpI : ¬ (p : Int) < (p : Int) := by omega
          have hc : shcnt lo hi' p = hi' - lo := by unfold shcnt; omega
          have HX : Hid (Below w.heap.size w wr2) := bchain hW.out hW2.out
          obtain ⟨hA, hO⟩ := ar_of_own hown (fun k hk => by have h := (HC.out (lo + k) (by rw [hc] at hk; omega)).lt; omega)
          rw [hc] at hA
          have HA : Hid (Ar wr2 u12 (hi' - lo) (fun q => ((C (lo + q) : Nat) : Int)) ∧ Ow w.heap.size u12) := ⟨hA, hO.mono hsz1.out⟩
          clear hown hA hO hc
          go_wp2
          go_ret
          exact ⟨_, rfl, HA.out.1, HA.out.2, HX.out⟩
end Go.Proofs.Ytaifihfiompgaaa
