/-
  The contract of regattaref06's Batch.
-/
import Derived.Test.YtaifihfiompgaaaJWalkC
set_option linter.unusedVariables false
set_option linter.unusedSimpArgs false
namespace Go.Proofs.Ytaifihfiompgaaa
open Go.RowKit

theorem pass_end (m Q p y : Nat) (hy : y < m) (h : y + p * m = Q) : Q / m = p ∧ Q % m = y := by
  subst h
  constructor
  · rw [Nat.add_mul_div_right _ _ (by omega), Nat.div_eq_of_lt hy, Nat.zero_add]
  · rw [Nat.add_mul_mod_self_right, Nat.mod_eq_of_lt hy]
set_option maxRecDepth 100000 in
set_option maxHeartbeats 4000000 in
theorem refBatch_any (s x r t z m : Nat) (va : Value) (f : Nat → Int) (PL : Nat → Nat) (hs : s < 18446744073709551616) (hx : x < 64) (hr : r ≤ 256) (ht : t < 64) (hz0 : 1 ≤ z) (hz : z ≤ 64) (hm0 : 1 ≤ m) (hm : m ≤ 4096) (w : World) (hA : Ar w va m f)
    (hPL : ∀ k, k < z → Goes s 2 (x : Int) (65536 * (r : Int) + (((t * z + k) / m : Nat) : Int)) m ((t * z + k) % m) (PL k)) :
    Calls Try.prog 15 #[.int .u64 (s : Int), .int .i64 (x : Int), .int .i64 (r : Int), .int .i64 (t : Int), .int .i64 (z : Int), va] w fun e w' => ∃ v', e = .returned v' ∧ Ar w' v' z (fun k => f (PL k)) ∧ Ow w.heap.size v' ∧ Below w.heap.size w w' := by
  have HP : Hid (∀ (k : Nat) (V : World), k < z → Calls Try.prog 22 #[.agg #[.int .u64 (s : Int), .int .i64 2, .int .i64 (x : Int), .int .i64 (65536 * (r : Int) + (((t * z + k) / m : Nat) : Int))], .int .i64 (m : Int), .int .i64 (((t * z + k) % m : Nat) : Int)] V fun e w' => e = .returned (.int .i64 ((PL k : Nat) : Int)) ∧ Below V.heap.size V w') := fun k V hk => by
    have hq : (t * z + k) / m ≤ 4096 := by
      have h1 : t * z ≤ 63 * 64 := Nat.mul_le_mul (by omega) hz
      exact Nat.le_trans (Nat.div_le_self _ _) (by omega)
    have hky : Ky s 2 (x : Int) (65536 * (r : Int) + (((t * z + k) / m : Nat) : Int)) := by
      generalize (t * z + k) / m = D at *
      exact ⟨hs, by omega, by omega, by omega, by omega, by omega, by omega⟩
    refine (refPlace_any s 2 (x : Int) _ m ((t * z + k) % m) hky hm0 (by omega) (Nat.mod_lt _ (by omega)) V).mono ?_
    rintro e w' ⟨y, rfl, hG, hb⟩
    rw [hG.one (hPL k hk)]
    exact ⟨rfl, hb⟩
  have HPl : Hid (∀ k, k < z → PL k < m) := fun k hk => (hPL k hk).lt
  obtain ⟨Tz, hTz⟩ : ∃ T, t * z = T := ⟨_, rfl⟩
  have hT1 : Tz ≤ 4032 := by rw [← hTz]; exact Nat.mul_le_mul (show t ≤ 63 by omega) hz
  have eTz : (t : Int) * (z : Int) = (Tz : Int) := by rw [← hTz, Int.natCast_mul]
  rw [hTz] at HP
  clear hTz hPL
  have HAr : Hid (Ar w va m f) := hA
  obtain ⟨adr, cap, b, o, rfl, x1, x2, x3, x4⟩ := hA
  unfold maxLen at x2
  have hadr := x3 (by omega)
  subst hadr
  have HX : Hid (∀ k, k < m → w.cell? ⟨b, o + k, none⟩ = some (.int .i64 (f k)) ∧ -9223372036854775808 ≤ f k ∧ f k ≤ 9223372036854775807) := x4
  clear x3 x4
  obtain ⟨i0, hti, hy0, hy1, hy2⟩ := info_parts dinfo_int
  go_enter Try.func15, Try.ntmps15
  go_upto_region 3 with fail
  go_loopw [13, 14] (fun s13 si wr => ∃ k : Nat, k ≤ z ∧ si = .int .i64 (k : Int) ∧ Hid (wr.ownsRow w.heap.size 3 1 s13 k (il (fun q => f (PL q)) k)) ∧ Hid (Below w.heap.size w wr)) (fun _ si _ => z - (intOf si).toNat)
  case atStart => exact ⟨0, by omega, rfl, World.ownsRow_nil _ _ _ _, Below.refl _ _⟩
  case round =>
    rename World => wo
    obtain ⟨k, hk, rfl, HO, HW⟩ := hrel
    by_cases hlt : k < z
    · have hkI : (k : Int) < (z : Int) := by omega
      go_upto_region 7 with fail
      go_loopw [15, 16] (fun s15 s16 wr => ∃ y p : Nat, s15 = .int .i64 (y : Int) ∧ s16 = .int .i64 (p : Int) ∧ Hid (y + p * m = Tz + k) ∧ y ≤ 5000 ∧ p ≤ 5000 ∧ wr = wo) (fun s15 _ _ => (intOf s15).toNat)
      case atStart => exact ⟨Tz + k, 0, by go_num, rfl, by show _ = _; omega, by omega, by omega, rfl⟩
      case round =>
        rename World => wi
        obtain ⟨y, p, rfl, rfl, HQ, hyb, hpb, rfl⟩ := hrel
        by_cases hge : m ≤ y
        · have hgI : (m : Int) ≤ (y : Int) := by omega
          have HQ2 : Hid ((y - m) + (p + 1) * m = Tz + k) := by show _ = _; have := HQ.out; rw [Nat.succ_mul]; omega
          have hp1 : p + 1 ≤ 5000 := by
            have h := HQ2.out
            have h2 : (p + 1) * 1 ≤ (p + 1) * m := Nat.mul_le_mul_left _ hm0
            omega
          go_wp2
          go_roundw
          case rel => exact ⟨y - m, p + 1, by go_num; try omega, by go_num, HQ2, by omega, hp1, trivial⟩
          case measure => simp [intOf]; omega
        · have hgI : ¬ (m : Int) ≤ (y : Int) := by omega
          obtain ⟨e1, e2⟩ := pass_end m (Tz + k) p y (by omega) HQ.out
          have CM : Hid (∀ V : World, Calls Try.prog 22 #[.agg #[.int .u64 (s : Int), .int .i64 2, .int .i64 (x : Int), .int .i64 (65536 * (r : Int) + (p : Int))], .int .i64 (m : Int), .int .i64 (y : Int)] V fun e w' => e = .returned (.int .i64 ((PL k : Nat) : Int)) ∧ Below V.heap.size V w') := fun V => by have h := HP.out k V hlt; rw [e1, e2] at h; exact h
          clear e1 e2 HQ
          have K0 : K4 wi.heap.size (.int .u64 (s : Int)) (.int .i64 2) (.int .i64 (x : Int)) (.int .i64 (65536 * (r : Int) + (p : Int))) (wi.alloc (.cells #[.int .u64 (s : Int), .int .i64 2, .int .i64 (x : Int), .int .i64 (65536 * (r : Int) + (p : Int))] 53)) := ⟨by simp [go_sem], by simp [go_sem], by simp [go_sem], by simp [go_sem]⟩
          have hsz : w.heap.size ≤ wi.heap.size := HW.out.size
          have HO7 : Hid ((wi.alloc (.cells #[.int .u64 (s : Int), .int .i64 2, .int .i64 (x : Int), .int .i64 (65536 * (r : Int) + (p : Int))] 53)).ownsRow w.heap.size 3 1 u13 k (il (fun q => f (PL q)) k)) := HO.out.alloc _
          have HW7 : Hid (Below w.heap.size w (wi.alloc (.cells #[.int .u64 (s : Int), .int .i64 2, .int .i64 (x : Int), .int .i64 (65536 * (r : Int) + (p : Int))] 53))) := HW.out.alloc hsz _
          go_upto_region 11 with fail
          generalize wi.alloc (.cells #[.int .u64 (s : Int), .int .i64 2, .int .i64 (x : Int), .int .i64 (65536 * (r : Int) + (p : Int))] 53) = w7 at *
          have k0 := K0.c0
          have k1 := K0.c1
          have k2 := K0.c2
          have k3 := K0.c3
          have hpl := HPl.out k hlt
          have hplI : ((PL k : Nat) : Int) < (m : Int) := by omega
          go_wp2_with fail
          refine (CM.out _).mono ?_
          rintro e w8 ⟨rfl, hb8⟩
          have HO8 : Hid (w8.ownsRow w.heap.size 3 1 u13 k (il (fun q => f (PL q)) k)) := own_later HO7.out hb8
          have HW8 : Hid (Below w.heap.size w w8) := bchain HW7.out hb8
          have cx : w8.cell? ⟨b, o + PL k, none⟩ = some (.int .i64 (f (PL k))) := cell_later HW8.out (HX.out (PL k) hpl).1
          have hs8 : w.heap.size ≤ w8.heap.size := HW8.out.size
          have hown := HO8.out
          clear hb8 HO7 HW7 k0 k1 k2 k3 K0 CM HO
          go_wp2_with (at_builtin; refine wpList_append_own _ rfl _ _ 26 rfl w.heap.size 3 i0 (.int .i64 0) 1 8 Try.underlying26 hti hy0 hy1 hy2 rfl (by decide) _ _ _ rfl (hown.alloc _) ⟨w8.heap.size, 0, none⟩ 1 1 [.int .i64 (f (PL k))] rfl rfl (cell_one_new _ _ _) (ints_oneCell .i64 [f (PL k)]) (by unfold maxLen; omega) (by omega) (by simp; omega) ?_; intro v' w9 hown' hgrow hnil; have HO9 : Hid (w9.ownsRow w.heap.size 3 1 v' (k + 1) (il (fun q => f (PL q)) (k + 1))) := (by rw [il_succ]; exact hown'); have HW9 : Hid (Below w.heap.size w w9) := (HW8.out.alloc hs8 _).grown hgrow (by rw [World.size_alloc]; omega) (fun k hk => (HO8.out.lt k hk).1); clear hown' hgrow hnil hown HO8 HW8)
          go_roundw
          case rel => exact ⟨k + 1, by omega, by go_num, HO9, HW9⟩
          case measure => simp [intOf]; omega
    · obtain rfl : k = z := by omega
      have hkI : ¬ (k : Int) < (k : Int) := by omega
      obtain ⟨hA, hO⟩ := ar_of_own HO.out (fun q hq => (HX.out (PL q) (HPl.out q hq)).2)
      have HA : Hid (Ar wo u13 k (fun q => f (PL q)) ∧ Ow w.heap.size u13) := ⟨hA, hO⟩
      clear hA hO HO HP
      go_wp2
      go_ret
      exact ⟨_, rfl, HA.out.1, HA.out.2, HW.out⟩
end Go.Proofs.Ytaifihfiompgaaa
