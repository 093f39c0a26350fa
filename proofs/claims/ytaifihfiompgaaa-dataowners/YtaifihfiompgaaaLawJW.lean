/-
  DataOwners: whose an example is is the worker that has it among its own.
-/
import Derived.Test.YtaifihfiompgaaaLawJO
import Derived.Deep.RegionHeld3
set_option linter.unusedVariables false
set_option linter.unusedSimpArgs false
namespace Go.Proofs.Ytaifihfiompgaaa
open Go.RowKit

set_option maxRecDepth 100000 in
set_option maxHeartbeats 4000000 in
theorem dataOwners_any (V : Data1) (V2 : Data2) (V3 : Data3) (s : Nat) (W x n i : Int) (hs : s < 18446744073709551616) (w : World) (hV : RT w) :
    Calls Try.prog 5 #[.agg #[.int .u64 (s : Int), .int .i64 W, .int .i64 x, .int .i64 n], .int .i64 i] w fun e w' => e = .returned (.bool true) ∧ Below w.heap.size w w' := by
  have HA : Hid (∀ U : World, Below w.heap.size w U → Calls Try.prog 8 #[] U fun e w' => e = .returned (.bool true) ∧ Below U.heap.size U w') := fun U hb => dawake_any V V2 U (hV.later hb)
  have K0 : K4 w.heap.size (.int .u64 (s : Int)) (.int .i64 W) (.int .i64 x) (.int .i64 n) (w.alloc (.cells #[.int .u64 (s : Int), .int .i64 W, .int .i64 x, .int .i64 n] 24)) := ⟨by simp [go_sem], by simp [go_sem], by simp [go_sem], by simp [go_sem]⟩
  have B0 : Hid (Below w.heap.size w (w.alloc (.cells #[.int .u64 (s : Int), .int .i64 W, .int .i64 x, .int .i64 n] 24))) := bel1 w _
  go_enter Try.func5, Try.ntmps5
  go_wp2_with fail
  generalize w.alloc (.cells #[.int .u64 (s : Int), .int .i64 W, .int .i64 x, .int .i64 n] 24) = w1 at *
  refine (HA.out _ B0.out).mono ?_
  rintro e w2 ⟨rfl, hb⟩
  have B2 : Hid (Below w.heap.size w w2) := bchain B0.out hb
  have K2 := K0.later hb
  clear hb B0 K0 HA
  have c0 := K2.c0
  have c1 := K2.c1
  have c2 := K2.c2
  have c3 := K2.c3
  by_cases hbig : 300 < n ∧ n ≤ 4096
  · obtain ⟨g1, g2⟩ := hbig
    go_wp2_with fail
    go_ret
    exact ⟨rfl, B2.out⟩
  have Hg : Hid (n ≤ 300 ∨ (300 < n ∧ 4096 < n)) := by show _ ∨ _; omega
  clear hbig
  by_cases hgood : Rgt W n ∧ 0 ≤ i ∧ i < n
  · obtain ⟨hR, hi0, hin⟩ := hgood
    have HRt : Hid (∀ U : World, Calls Try.prog 10 #[.int .i64 W, .int .i64 n] U fun e w' => e = .returned (.bool true) ∧ w' = U) := fun U => right_yes W n hR U
    obtain ⟨r1, r2, r3, r4⟩ := hR
    have h300 : n ≤ 300 := by rcases Hg.out with h | h <;> omega
    obtain ⟨W', rfl⟩ : ∃ W' : Nat, W = (W' : Int) := ⟨W.toNat, by omega⟩
    obtain ⟨i', rfl⟩ : ∃ i' : Nat, i = (i' : Int) := ⟨i.toNat, by omega⟩
    obtain ⟨n', rfl⟩ : ∃ n' : Nat, n = (n' : Int) := ⟨n.toNat, by omega⟩
    obtain ⟨G, C, -, hC⟩ := perm_fun s 1 0 0 n'
    have HC : Hid (∀ j, j < n' → Comes s 1 0 0 n' j (C j)) := hC
    have HOw : Hid (∀ U : World, Below w.heap.size w U → Calls Try.prog 16 #[.int .u64 (s : Int), .int .i64 (W' : Int), .int .i64 (n' : Int), .int .i64 (i' : Int)] U fun e w' => ∃ x p : Nat, e = .returned (.tuple #[.int .i64 (x : Int), .int .i64 0]) ∧ x < W' ∧ Goes s 1 0 0 n' i' p ∧ dlo W' n' x ≤ p ∧ p < dlo W' n' (x + 1) ∧ Below U.heap.size U w') := fun U hb => V3.owner s W' n' i' U hs (by omega) (by omega) (by omega) (by omega) (by omega) (hV.later hb)
    have HRo : Hid (∀ (y : Nat) (U : World), y < W' → Calls Try.prog 12 #[.int .u64 (s : Int), .int .i64 (W' : Int), .int .i64 (y : Int), .int .i64 (n' : Int)] U fun e w' => ∃ v', e = .returned v' ∧ Ar w' v' (dlo W' n' (y + 1) - dlo W' n' y) (fun q => ((C (dlo W' n' y + q) : Nat) : Int)) ∧ Ow U.heap.size v' ∧ Below U.heap.size U w') := fun y U hy => refOwn_any s W' y n' C hs (by omega) (by omega) hy (by omega) (by omega) hC U
    have g1 : ¬ (300 : Int) < (n' : Int) := by omega
    have hi0' : ¬ (i' : Int) < 0 := by omega
    have hin' : ¬ (n' : Int) ≤ (i' : Int) := by omega
    have hW0 : 0 < W' := by omega
    have hiN : i' < n' := by omega
    clear hC V V2 V3 hV Hg
    go_wp2_with fail
    refine (HOw.out _ B2.out).mono ?_
    rintro e w3 ⟨y, p, rfl, hy, hG, hp1, hp2, hb⟩
    have B3 : Hid (Below w.heap.size w w3) := bchain B2.out hb
    have K3 := K2.later hb
    have hle : dlo W' n' (y + 1) ≤ n' := dlo_le W' n' (y + 1) hW0 (by omega)
    have HCp : Hid (C p = i' ∧ ∀ q, q < n' → q ≠ p → C q ≠ i') := ⟨(HC.out p (by omega)).one (hG.comes hiN), fun q hq hne h => hne (((HC.out q hq).goes hq).one (by rw [h]; exact hG))⟩
    obtain ⟨lo, hlo⟩ : ∃ lo, dlo W' n' y = lo := ⟨_, rfl⟩
    obtain ⟨hi', hhi⟩ : ∃ hi', dlo W' n' (y + 1) = hi' := ⟨_, rfl⟩
    have HRo2 : Hid (∀ U : World, Calls Try.prog 12 #[.int .u64 (s : Int), .int .i64 (W' : Int), .int .i64 (y : Int), .int .i64 (n' : Int)] U fun e w' => ∃ v', e = .returned v' ∧ Ar w' v' (hi' - lo) (fun q => ((C (lo + q) : Nat) : Int)) ∧ Ow U.heap.size v' ∧ Below U.heap.size U w') := fun U => by have h := HRo.out y U hy; rw [hlo, hhi] at h; exact h
    rw [hlo] at hp1
    rw [hhi] at hp2 hle
    have hy0 : ¬ (y : Int) < 0 := by omega
    have hyW : ¬ (W' : Int) ≤ (y : Int) := by omega
    clear c0 c1 c2 c3 hb hG B2 K2 HOw HRo hlo hhi
    have c0 := K3.c0
    have c1 := K3.c1
    have c2 := K3.c2
    have c3 := K3.c3
    go_wp2_with fail
    refine (HRt.out _).mono ?_
    rintro e w4 ⟨rfl, hz⟩
    subst hz
    clear HRt
    go_wp2_with fail
    refine (HRo2.out _).mono ?_
    rintro e w5 ⟨vr, rfl, hA5, -, hb⟩
    have B5 : Hid (Below w.heap.size w w5) := bchain B3.out hb
    obtain ⟨adr, cap, b, o, rfl, x1, x2, x3, x4⟩ := hA5
    unfold maxLen at x2
    have ha := x3 (by omega)
    subst ha
    have HX : Hid (∀ q, q < hi' - lo → w5.cell? ⟨b, o + q, none⟩ = some (.int .i64 ((C (lo + q) : Nat) : Int))) := fun q hq => (x4 q hq).1
    clear c0 c1 c2 c3 hb x3 x4 B3 K3 HRo2
    obtain ⟨M, hM⟩ : ∃ M, hi' - lo = M := ⟨_, rfl⟩
    rw [hM] at HX x1
    rw [hM]
    have HM : Hid (p - lo < M) := by show _ < _; omega
    go_upto_region 11 with fail
    go_loopw [73] (fun si wr => ∃ j : Nat, j ≤ p - lo ∧ si = .int .i64 (j : Int) ∧ wr = w5) (fun si _ => M - (intOf si).toNat)
    case atStart => exact ⟨0, by omega, rfl, rfl⟩
    case round =>
      obtain ⟨j, hj, rfl, rfl⟩ := hrel
      have hjM : j < M := by have := HM.out; omega
      have hjI : (j : Int) < (M : Int) := by omega
      have cx := HX.out j hjM
      by_cases hjp : j = p - lo
      · have hE : (((C (lo + j) : Nat) : Int) == (i' : Int)) = true := by rw [show lo + j = p by omega, HCp.out.1]; simp
        clear hjp
        go_wp2
        go_ret
        exact ⟨rfl, B5.out⟩
      · have hne := HCp.out.2 (lo + j) (by omega) (by omega)
        have hE : (((C (lo + j) : Nat) : Int) == (i' : Int)) = false := by simp; omega
        have hneI : ¬ ((C (lo + j) : Nat) : Int) = (i' : Int) := by omega
        generalize C (lo + j) = cc at *
        go_wp2
        go_roundw
        case rel => exact ⟨j + 1, by omega, by go_num, trivial⟩
        case measure => simp [intOf]; omega
  · have HOw : Hid (∀ U : World, Below w.heap.size w U → Calls Try.prog 16 #[.int .u64 (s : Int), .int .i64 W, .int .i64 n, .int .i64 i] U fun e w' => e = .returned (.tuple #[.int .i64 0, .int .i64 2]) ∧ Below U.heap.size U w') := fun U hb => V3.ownerE s W n i U hgood (hV.later hb)
    have HRt : Hid ((Rgt W n ∧ (i < 0 ∨ (¬ i < 0 ∧ n ≤ i)) ∧ ∀ U : World, Calls Try.prog 10 #[.int .i64 W, .int .i64 n] U fun e w' => e = .returned (.bool true) ∧ w' = U) ∨ (∀ U : World, Calls Try.prog 10 #[.int .i64 W, .int .i64 n] U fun e w' => e = .returned (.bool false) ∧ w' = U)) := by
      by_cases hR : Rgt W n
      · refine Or.inl ⟨hR, ?_, fun U => right_yes W n hR U⟩
        rcases Int.lt_or_le i 0 with h | h
        · exact Or.inl h
        · refine Or.inr ⟨by omega, ?_⟩
          rcases Int.lt_or_le i n with h2 | h2
          · exact absurd ⟨hR, h, h2⟩ hgood
          · exact h2
      · exact Or.inr (fun U => right_no W n hR U)
    clear hgood V V2 V3 hV
    rcases Hg.out with g1 | ⟨g1, g2⟩
    all_goals
      clear Hg
      go_wp2_with fail
      refine (HOw.out _ B2.out).mono ?_
      rintro e w3 ⟨rfl, hb⟩
      have B3 : Hid (Below w.heap.size w w3) := bchain B2.out hb
      have K3 := K2.later hb
      clear c0 c1 c2 c3 hb B2 K2 HOw
      have c0 := K3.c0
      have c1 := K3.c1
      have c2 := K3.c2
      have c3 := K3.c3
      rcases HRt.out with ⟨-, hx, hRt⟩ | hRt
      · have HR2 : Hid (∀ U : World, Calls Try.prog 10 #[.int .i64 W, .int .i64 n] U fun e w' => e = .returned (.bool true) ∧ w' = U) := hRt
        clear hRt HRt
        rcases hx with hx | ⟨hx0, hx1⟩
        all_goals
          go_wp2_with fail
          refine (HR2.out _).mono ?_
          rintro e w4 ⟨rfl, hz⟩
          subst hz
          go_wp2
          go_ret
          exact ⟨by first | rfl | simp, B3.out⟩
      · have HR2 : Hid (∀ U : World, Calls Try.prog 10 #[.int .i64 W, .int .i64 n] U fun e w' => e = .returned (.bool false) ∧ w' = U) := hRt
        clear hRt HRt
        go_wp2_with fail
        refine (HR2.out _).mono ?_
        rintro e w4 ⟨rfl, hz⟩
        subst hz
        go_wp2
        go_ret
        exact ⟨by first | rfl | simp, B3.out⟩
end Go.Proofs.Ytaifihfiompgaaa
