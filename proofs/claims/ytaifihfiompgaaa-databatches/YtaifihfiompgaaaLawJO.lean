/-
  DataOwns: which examples are a worker's is the document's.
-/
import Derived.Test.YtaifihfiompgaaaJBase
import Derived.Deep.RegionHeld3
set_option linter.unusedVariables false
set_option linter.unusedSimpArgs false
namespace Go.Proofs.Ytaifihfiompgaaa
open Go.RowKit

set_option maxRecDepth 100000 in
set_option maxHeartbeats 4000000 in
theorem dataOwns_any (V : Data1) (V2 : Data2) (s : Nat) (W x n : Int) (hs : s < 18446744073709551616) (w : World) (hV : RT w) :
    Calls Try.prog 3 #[.agg #[.int .u64 (s : Int), .int .i64 W, .int .i64 x, .int .i64 n]] w fun e w' => e = .returned (.bool true) ∧ Below w.heap.size w w' := by
  have HA : Hid (∀ U : World, Below w.heap.size w U → Calls Try.prog 8 #[] U fun e w' => e = .returned (.bool true) ∧ Below U.heap.size U w') := fun U hb => dawake_any V V2 U (hV.later hb)
  have K0 : K4 w.heap.size (.int .u64 (s : Int)) (.int .i64 W) (.int .i64 x) (.int .i64 n) (w.alloc (.cells #[.int .u64 (s : Int), .int .i64 W, .int .i64 x, .int .i64 n] 24)) := ⟨by simp [go_sem], by simp [go_sem], by simp [go_sem], by simp [go_sem]⟩
  have B0 : Hid (Below w.heap.size w (w.alloc (.cells #[.int .u64 (s : Int), .int .i64 W, .int .i64 x, .int .i64 n] 24))) := bel1 w _
  go_enter Try.func3, Try.ntmps3
  go_wp2_with fail
  generalize w.alloc (.cells #[.int .u64 (s : Int), .int .i64 W, .int .i64 x, .int .i64 n] 24) = w1 at *
  refine (HA.out _ B0.out).mono ?_
  rintro e w2 ⟨rfl, hb⟩
  have B2 : Hid (Below w.heap.size w w2) := bchain B0.out hb
  have K2 := K0.later hb
  clear hb B0 K0 HA
  have c0 := K2.c0
  have c1 := K2.c1
  have c2 := K2.c2
  have c3 := K2.c3
  by_cases hbig : 300 < n ∧ n ≤ 4096
  · obtain ⟨g1, g2⟩ := hbig
    go_wp2_with fail
    go_ret
    exact ⟨rfl, B2.out⟩
  have Hg : Hid (n ≤ 300 ∨ (300 < n ∧ 4096 < n)) := by show _ ∨ _; omega
  clear hbig
  by_cases hgood : Rgt W n ∧ 0 ≤ x ∧ x < W
  · obtain ⟨hR, hx0, hxW⟩ := hgood
    have HRt : Hid (∀ U : World, Calls Try.prog 10 #[.int .i64 W, .int .i64 n] U fun e w' => e = .returned (.bool true) ∧ w' = U) := fun U => right_yes W n hR U
    obtain ⟨r1, r2, r3, r4⟩ := hR
    have h300 : n ≤ 300 := by rcases Hg.out with h | h <;> omega
    obtain ⟨W', rfl⟩ : ∃ W' : Nat, W = (W' : Int) := ⟨W.toNat, by omega⟩
    obtain ⟨x', rfl⟩ : ∃ x' : Nat, x = (x' : Int) := ⟨x.toNat, by omega⟩
    obtain ⟨n', rfl⟩ : ∃ n' : Nat, n = (n' : Int) := ⟨n.toNat, by omega⟩
    obtain ⟨G, C, -, hC⟩ := perm_fun s 1 0 0 n'
    have hle : dlo W' n' (x' + 1) - dlo W' n' x' ≤ 70000 := by have := dlo_le W' n' (x' + 1) (by omega) (by omega); omega
    have HOw : Hid (∀ U : World, Below w.heap.size w U → Calls Try.prog 9 #[.int .u64 (s : Int), .int .i64 (W' : Int), .int .i64 (x' : Int), .int .i64 (n' : Int)] U fun e w' => ∃ v', e = .returned (.tuple #[v', .int .i64 0]) ∧ Ar w' v' (dlo W' n' (x' + 1) - dlo W' n' x') (fun q => ((C (dlo W' n' x' + q) : Nat) : Int)) ∧ Ow U.heap.size v' ∧ Below U.heap.size U w') := fun U hb => V.own s W' x' n' C U hs (by omega) (by omega) (by omega) (by omega) (by omega) hC (hV.later hb)
    have HRo : Hid (∀ U : World, Calls Try.prog 12 #[.int .u64 (s : Int), .int .i64 (W' : Int), .int .i64 (x' : Int), .int .i64 (n' : Int)] U fun e w' => ∃ v', e = .returned v' ∧ Ar w' v' (dlo W' n' (x' + 1) - dlo W' n' x') (fun q => ((C (dlo W' n' x' + q) : Nat) : Int)) ∧ Ow U.heap.size v' ∧ Below U.heap.size U w') := fun U => refOwn_any s W' x' n' C hs (by omega) (by omega) (by omega) (by omega) (by omega) hC U
    generalize dlo W' n' (x' + 1) - dlo W' n' x' = M at *
    generalize (fun q => ((C (dlo W' n' x' + q) : Nat) : Int)) = f at *
    have HSm : Hid (∀ (U : World) (va vb : Value), Ar U va M f → Ar U vb M f → Calls Try.prog 11 #[va, vb] U fun e w' => e = .returned (.bool true) ∧ Below U.heap.size U w') := fun U va vb h1 h2 => isame_yes va vb M f hle U h1 h2
    have g1 : ¬ (300 : Int) < (n' : Int) := by omega
    have hx0' : ¬ (x' : Int) < 0 := by omega
    have hxW' : ¬ (W' : Int) ≤ (x' : Int) := by omega
    clear hC V V2 hV Hg
    go_wp2_with fail
    refine (HOw.out _ B2.out).mono ?_
    rintro e w3 ⟨v', rfl, hA, -, hb⟩
    have B3 : Hid (Below w.heap.size w w3) := bchain B2.out hb
    have K3 := K2.later hb
    have HA3 : Hid (Ar w3 v' M f) := hA
    clear c0 c1 c2 c3 hb hA B2 K2 HOw
    have c0 := K3.c0
    have c1 := K3.c1
    have c2 := K3.c2
    have c3 := K3.c3
    go_wp2_with fail
    refine (HRt.out _).mono ?_
    rintro e w4 ⟨rfl, hz⟩
    subst hz
    clear HRt
    go_wp2_with fail
    refine (HRo.out _).mono ?_
    rintro e w5 ⟨vr, rfl, hA5, -, hb⟩
    have B5 : Hid (Below w.heap.size w w5) := bchain B3.out hb
    have HA5 : Hid (Ar w5 v' M f ∧ Ar w5 vr M f) := ⟨HA3.out.later hb, hA5⟩
    clear c0 c1 c2 c3 hb hA5 B3 K3 HRo HA3
    go_wp2_with fail
    refine (HSm.out _ _ _ HA5.out.1 HA5.out.2).mono ?_
    rintro e w6 ⟨rfl, hb⟩
    have B6 : Hid (Below w.heap.size w w6) := bchain B5.out hb
    clear hb B5 HA5 HSm
    go_wp2
    go_ret
    exact ⟨by first | rfl | simp, B6.out⟩
  · have HOw : Hid (∀ U : World, Below w.heap.size w U → Calls Try.prog 9 #[.int .u64 (s : Int), .int .i64 W, .int .i64 x, .int .i64 n] U fun e w' => ∃ (ad : Option Addr) (cap : Nat), e = .returned (.tuple #[.slice ad 0 cap, .int .i64 2]) ∧ Below U.heap.size U w') := fun U hb => V.ownE s W x n U hgood (hV.later hb)
    have HRt : Hid ((Rgt W n ∧ (x < 0 ∨ (¬ x < 0 ∧ W ≤ x)) ∧ ∀ U : World, Calls Try.prog 10 #[.int .i64 W, .int .i64 n] U fun e w' => e = .returned (.bool true) ∧ w' = U) ∨ (∀ U : World, Calls Try.prog 10 #[.int .i64 W, .int .i64 n] U fun e w' => e = .returned (.bool false) ∧ w' = U)) := by
      by_cases hR : Rgt W n
      · refine Or.inl ⟨hR, ?_, fun U => right_yes W n hR U⟩
        rcases Int.lt_or_le x 0 with h | h
        · exact Or.inl h
        · refine Or.inr ⟨by omega, ?_⟩
          rcases Int.lt_or_le x W with h2 | h2
          · exact absurd ⟨hR, h, h2⟩ hgood
          · exact h2
      · exact Or.inr (fun U => right_no W n hR U)
    clear hgood V V2 hV
    rcases Hg.out with g1 | ⟨g1, g2⟩
    all_goals
      clear Hg
      go_wp2_with fail
      refine (HOw.out _ B2.out).mono ?_
      rintro e w3 ⟨ad, cap, rfl, hb⟩
      have B3 : Hid (Below w.heap.size w w3) := bchain B2.out hb
      have K3 := K2.later hb
      clear c0 c1 c2 c3 hb B2 K2 HOw
      have c0 := K3.c0
      have c1 := K3.c1
      have c2 := K3.c2
      have c3 := K3.c3
      rcases HRt.out with ⟨-, hx, hRt⟩ | hRt
      · have HR2 : Hid (∀ U : World, Calls Try.prog 10 #[.int .i64 W, .int .i64 n] U fun e w' => e = .returned (.bool true) ∧ w' = U) := hRt
        clear hRt HRt
        rcases hx with hx | ⟨hx0, hx1⟩
        all_goals
          go_wp2_with fail
          refine (HR2.out _).mono ?_
          rintro e w4 ⟨rfl, hz⟩
          subst hz
          go_wp2
          go_ret
          exact ⟨by first | rfl | simp, B3.out⟩
      · have HR2 : Hid (∀ U : World, Calls Try.prog 10 #[.int .i64 W, .int .i64 n] U fun e w' => e = .returned (.bool false) ∧ w' = U) := hRt
        clear hRt HRt
        go_wp2_with fail
        refine (HR2.out _).mono ?_
        rintro e w4 ⟨rfl, hz⟩
        subst hz
        go_wp2
        go_ret
        exact ⟨by first | rfl | simp, B3.out⟩
end Go.Proofs.Ytaifihfiompgaaa
