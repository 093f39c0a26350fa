/-
  The document's small steps of layer 9 (regattaref09): mean, mul, div, add; clipping, its list apart from the unit.
-/
import Derived.Test.YtcdehbhdloaieaaGreatDoorAMath
import Derived.Test.YtcdehbhdloaieaaGreatDoorBG
import Derived.Test.YtcdehbhdloaieaaGreatDoorBI
set_option linter.unusedVariables false
set_option linter.unusedSimpArgs false
namespace Go.Proofs.YtcdehbhdloaieaaGreatDoor
open Go.RowKit

theorem rr_32 (v : Int) : rr v 32 = rnd v 32 := by unfold rr; rw [if_neg (by omega)]
set_option maxRecDepth 100000 in
set_option maxHeartbeats 4000000 in
theorem mul9 (a b : Int) (a0 : -9223372036854775808 ≤ a) (a1 : a ≤ 9223372036854775807) (b0 : -9223372036854775808 ≤ b) (b1 : b ≤ 9223372036854775807) (d : Nat) (c : Int) (c0 : 0 ≤ c) (c1 : c ≤ 900000000) (w : World) (hc : w.cell? ⟨d, 0, none⟩ = some (.int .i64 c)) (hf : w.frozen? ⟨d, 0, none⟩ = false) :
    Calls Tryz.prog 28 #[.pointer (some ⟨d, 0, none⟩), .int .i64 a, .int .i64 b] w fun e w' => e = .returned (.int .i64 (clv (rnd (a * b) 32))) ∧ Un d (c + bi (ovv (rnd (a * b) 32))) w w' := by
  have CM := rfmul_any a b a0 a1 b0 b1 w
  generalize clv (rnd (a * b) 32) = X at *
  generalize ovv (rnd (a * b) 32) = O at *
  go_enter Tryz.func28, Tryz.ntmps28
  go_wp2_with fail
  refine CM.mono ?_
  rintro e w2 ⟨rfl, hb⟩
  have HB : Hid (Below w.heap.size w w2) := hb
  have CT := utake_any d c X O c0 (by omega) w2 (cell_later hb hc) (frozen_later hb hc hf)
  clear CM hb hc hf
  go_wp2_with fail
  refine CT.mono ?_
  rintro e w3 ⟨rfl, hU⟩
  have HU : Hid (Un d (c + bi O) w w3) := Un.after HB.out hU
  clear CT hU
  go_wp2
  go_ret
  exact ⟨rfl, HU.out⟩
set_option maxRecDepth 100000 in
set_option maxHeartbeats 4000000 in
theorem div9 (a b : Int) (a0 : -9223372036854775808 ≤ a) (a1 : a ≤ 9223372036854775807) (b0 : -9223372036854775808 ≤ b) (b1 : b ≤ 9223372036854775807) (d : Nat) (c : Int) (c0 : 0 ≤ c) (c1 : c ≤ 900000000) (w : World) (hc : w.cell? ⟨d, 0, none⟩ = some (.int .i64 c)) (hf : w.frozen? ⟨d, 0, none⟩ = false) :
    Calls Tryz.prog 29 #[.pointer (some ⟨d, 0, none⟩), .int .i64 a, .int .i64 b] w fun e w' => e = .returned (.int .i64 (qv (a * 4294967296) b)) ∧ Un d (c + bi (qo (a * 4294967296) b)) w w' := by
  have CM := rfdiv_any a b a0 a1 b0 b1 w
  generalize qv (a * 4294967296) b = X at *
  generalize qo (a * 4294967296) b = O at *
  go_enter Tryz.func29, Tryz.ntmps29
  go_wp2_with fail
  refine CM.mono ?_
  rintro e w2 ⟨rfl, hb⟩
  have HB : Hid (Below w.heap.size w w2) := hb
  have CT := utake_any d c X O c0 (by omega) w2 (cell_later hb hc) (frozen_later hb hc hf)
  clear CM hb hc hf
  go_wp2_with fail
  refine CT.mono ?_
  rintro e w3 ⟨rfl, hU⟩
  have HU : Hid (Un d (c + bi O) w w3) := Un.after HB.out hU
  clear CT hU
  go_wp2
  go_ret
  exact ⟨rfl, HU.out⟩
set_option maxRecDepth 100000 in
set_option maxHeartbeats 4000000 in
theorem add9 (a b : Int) (a0 : -9223372036854775808 ≤ a) (a1 : a ≤ 9223372036854775807) (b0 : -9223372036854775808 ≤ b) (b1 : b ≤ 9223372036854775807) (d : Nat) (c : Int) (c0 : 0 ≤ c) (c1 : c ≤ 900000000) (w : World) (hc : w.cell? ⟨d, 0, none⟩ = some (.int .i64 c)) (hf : w.frozen? ⟨d, 0, none⟩ = false) :
    Calls Tryz.prog 32 #[.pointer (some ⟨d, 0, none⟩), .int .i64 a, .int .i64 b] w fun e w' => e = .returned (.int .i64 (clv (a + b))) ∧ Un d (c + bi (ovv (a + b))) w w' := by
  have CM := rfadd_any a b a0 a1 b0 b1 w
  generalize clv (a + b) = X at *
  generalize ovv (a + b) = O at *
  go_enter Tryz.func32, Tryz.ntmps32
  go_wp2_with fail
  refine CM.mono ?_
  rintro e w2 ⟨rfl, hb⟩
  have HB : Hid (Below w.heap.size w w2) := hb
  have CT := utake_any d c X O c0 (by omega) w2 (cell_later hb hc) (frozen_later hb hc hf)
  clear CM hb hc hf
  go_wp2_with fail
  refine CT.mono ?_
  rintro e w3 ⟨rfl, hU⟩
  have HU : Hid (Un d (c + bi O) w w3) := Un.after HB.out hU
  clear CT hU
  go_wp2
  go_ret
  exact ⟨rfl, HU.out⟩
set_option maxRecDepth 100000 in
set_option maxHeartbeats 4000000 in
theorem mean9 (b old now : Int) (b0 : 0 ≤ b) (b1 : b < 4294967296) (o0 : -9223372036854775808 ≤ old) (o1 : old ≤ 9223372036854775807) (n0 : -9223372036854775808 ≤ now) (n1 : now ≤ 9223372036854775807) (d : Nat) (c : Int) (c0 : 0 ≤ c) (c1 : c ≤ 900000000) (w : World) (hc : w.cell? ⟨d, 0, none⟩ = some (.int .i64 c)) (hf : w.frozen? ⟨d, 0, none⟩ = false) :
    Calls Tryz.prog 27 #[.pointer (some ⟨d, 0, none⟩), .int .i64 b, .int .i64 old, .int .i64 now] w fun e w' => e = .returned (.int .i64 (clv (meV b old now))) ∧ Un d (c + bi (ovv (meV b old now))) w w' := by
  have C1 := smul_zero b old (by omega) (by omega) o0 o1 w
  have C2 : Hid (∀ (p q : Int) (W : World), Sm p q (b * old) 85070591730234615865843651857942052864 → Calls Tryz.prog 49 #[.agg #[.int .u64 (dg (p) 0), .int .u64 (dg (p) 1), .int .u64 (dg (p) 2), .int .u64 (dg (p) 3), .int .u64 (dg (p) 4), .int .u64 (dg (p) 5), .int .u64 (dg (q) 0), .int .u64 (dg (q) 1), .int .u64 (dg (q) 2), .int .u64 (dg (q) 3), .int .u64 (dg (q) 4), .int .u64 (dg (q) 5)], .int .i64 (4294967296 - b), .int .i64 now] W fun e w' => ∃ p' q', e = .returned (.agg #[.int .u64 (dg (p') 0), .int .u64 (dg (p') 1), .int .u64 (dg (p') 2), .int .u64 (dg (p') 3), .int .u64 (dg (p') 4), .int .u64 (dg (p') 5), .int .u64 (dg (q') 0), .int .u64 (dg (q') 1), .int .u64 (dg (q') 2), .int .u64 (dg (q') 3), .int .u64 (dg (q') 4), .int .u64 (dg (q') 5)]) ∧ Sm p' q' (b * old + (4294967296 - b) * now) (85070591730234615865843651857942052864 + 85070591730234615865843651857942052864) ∧ Below W.heap.size W w') := fun p q W h => smul_any p q _ _ (4294967296 - b) now h (by omega) (by omega) n0 n1 W
  have C3 : Hid (∀ (p q : Int) (W : World), Sm p q (b * old + (4294967296 - b) * now) (85070591730234615865843651857942052864 + 85070591730234615865843651857942052864) → Calls Tryz.prog 55 #[.agg #[.int .u64 (dg (p) 0), .int .u64 (dg (p) 1), .int .u64 (dg (p) 2), .int .u64 (dg (p) 3), .int .u64 (dg (p) 4), .int .u64 (dg (p) 5), .int .u64 (dg (q) 0), .int .u64 (dg (q) 1), .int .u64 (dg (q) 2), .int .u64 (dg (q) 3), .int .u64 (dg (q) 4), .int .u64 (dg (q) 5)], .int .i64 32] W fun e w' => e = .returned (.tuple #[.int .i64 (clv (meV b old now)), .bool (ovv (meV b old now))]) ∧ Below W.heap.size W w') := fun p q W h => by
    have h' := sround_of p q _ _ 32 (by omega) h (by omega) W
    rw [rr_32] at h'
    exact h'
  have ww : IntKind.i64.wrap (4294967296 - b) = 4294967296 - b := by rw [IntKind.wrap_i64]; omega
  generalize clv (meV b old now) = X at *
  generalize ovv (meV b old now) = O at *
  go_enter Tryz.func27, Tryz.ntmps27
  go_wp2_with fail
  refine C1.mono ?_
  rintro e w2 ⟨p1, q1, rfl, hS, hb⟩
  have HB2 : Hid (Below w.heap.size w w2) := hb
  have D2 := C2.out p1 q1 w2 hS
  clear C1 C2 hb hS
  go_wp2_with fail
  refine D2.mono ?_
  rintro e w3 ⟨p2, q2, rfl, hS, hb⟩
  have HB3 : Hid (Below w.heap.size w w3) := bchain HB2.out hb
  have D3 := C3.out p2 q2 w3 hS
  clear D2 C3 hb hS HB2
  go_wp2_with fail
  refine D3.mono ?_
  rintro e w4 ⟨rfl, hb⟩
  have hb4 : Below w.heap.size w w4 := bchain HB3.out hb
  have HB4 : Hid (Below w.heap.size w w4) := hb4
  have CT := utake_any d c X O c0 (by omega) w4 (cell_later hb4 hc) (frozen_later hb4 hc hf)
  clear D3 hb hb4 HB3 hc hf
  go_wp2_with fail
  refine CT.mono ?_
  rintro e w5 ⟨rfl, hU⟩
  have HU : Hid (Un d (c + bi O) w w5) := Un.after HB4.out hU
  clear CT hU
  go_wp2
  go_ret
  exact ⟨rfl, HU.out⟩
set_option maxRecDepth 100000 in
set_option maxHeartbeats 4000000 in
theorem uclip_nb (most : Int) (m0 : -9223372036854775808 ≤ most) (m1 : most ≤ 9223372036854775807) (va : Value) (n : Nat) (f : Nat → Int) (d : Nat) (c : Int) (hn : n ≤ 70000) (c0 : 0 ≤ c) (c1 : c ≤ 800000000) (w : World) (hA : Ar w va n f) (nA : Nb va d) (hc : w.cell? ⟨d, 0, none⟩ = some (.int .i64 c)) (hf : w.frozen? ⟨d, 0, none⟩ = false) :
    Calls Tryz.prog 26 #[.pointer (some ⟨d, 0, none⟩), va, .int .i64 most] w fun e w' => ∃ v', e = .returned (.tuple #[v', .bool (cpB most n f)]) ∧ Ar w' v' n (cpF most n f) ∧ Nb v' d ∧ Un d (c + cpN most n f) w w' := by
  have HA : Hid (Ar w va n f ∧ Nb va d) := ⟨hA, nA⟩
  have HU : Hid (Un d c w w) := Un.same hc hf
  clear hA nA
  by_cases h0 : 0 < most
  · have HNo : Hid (Calls Tryz.prog 52 #[.pointer (some ⟨d, 0, none⟩), va] w fun e w' => e = .returned (.int .i64 (rtX (dotV f f n))) ∧ Un d (c + bi (rtO (dotV f f n))) w w') := unorm_any va n f d c hn c0 (by omega) w HA.out.1 hc hf
    have hN := rtX_rng (dotV f f n)
    have HB : Hid (cpB most n f = decide (most < rtX (dotV f f n))) := by show _ = _; unfold cpB; simp [h0]
    have HK : Hid (cpK most n f = qv (most * 4294967296) (rtX (dotV f f n)) ∧ cpO most n f = qo (most * 4294967296) (rtX (dotV f f n))) := ⟨rfl, rfl⟩
    have HM : Hid (cpN most n f = (if cpB most n f = true then bi (rtO (dotV f f n)) + bi (cpO most n f) + cntV (fun i => ovv (rnd (cpK most n f * f i) 32)) n else bi (rtO (dotV f f n)))) := by show _ = _; unfold cpN; rw [if_pos h0]
    generalize rtX (dotV f f n) = N at *
    obtain ⟨NO, hNO⟩ : ∃ x, rtO (dotV f f n) = x := ⟨_, rfl⟩
    rw [hNO] at HNo HM
    clear hNO hc hf HU
    have rNO := bi_rng NO
    have h0' : ¬ most ≤ 0 := by omega
    go_enter Tryz.func26, Tryz.ntmps26
    go_wp2_with fail
    refine HNo.out.mono ?_
    rintro e w2 ⟨rfl, hU⟩
    have U2 : Hid (Un d (c + bi NO) w w2) := hU
    clear hU HNo
    by_cases h1 : most < N
    · have h1' : ¬ N ≤ most := by omega
      have eB : cpB most n f = true := by rw [HB.out]; simp [h1]
      have HD : Hid (∀ W : World, Calls Tryz.prog 53 #[.int .i64 most, .int .i64 N] W fun e w' => e = .returned (.tuple #[.int .i64 (cpK most n f), .bool (cpO most n f)]) ∧ Below W.heap.size W w') := by
        intro W
        rw [HK.out.1, HK.out.2]
        exact rfdiv_any most N m0 m1 (by omega) hN.2 W
      have rK : -9223372036854775808 ≤ cpK most n f ∧ cpK most n f ≤ 9223372036854775807 := by rw [HK.out.1]; exact qv_rng _ _
      have HF : Hid (cpF most n f = fun i => clv (rnd (cpK most n f * f i) 32)) := by show _ = _; funext i; unfold cpF; rw [if_pos eB]
      have HM2 : Hid (cpN most n f = bi NO + bi (cpO most n f) + cntV (fun i => ovv (rnd (cpK most n f * f i) 32)) n) := by show _ = _; rw [HM.out, if_pos eB]
      have HB2 : Hid (cpB most n f = true) := eB
      clear HK HB HM eB
      generalize cpK most n f = K at *
      generalize cpO most n f = KO at *
      have rKO := bi_rng KO
      go_wp2_with fail
      refine (HD.out _).mono ?_
      rintro e w3 ⟨rfl, hb⟩
      have U3 : Hid (Un d (c + bi NO) w w3) := U2.out.ahead hb
      clear hb HD U2
      go_wp2_with fail
      refine (utake_any d (c + bi NO) K KO (by omega) (by omega) _ U3.out.c U3.out.f).mono ?_
      rintro e w4 ⟨rfl, hU⟩
      have U4 : Hid (Un d (c + bi NO + bi KO) w w4) := U3.out.chain hU
      clear hU U3
      go_wp2_with fail
      refine (uscale_any K rK.1 rK.2 va n f d (c + bi NO + bi KO) hn (by omega) (by omega) _ (HA.out.1.un HA.out.2 U4.out) HA.out.2 U4.out.c U4.out.f).mono ?_
      rintro e w5 ⟨v5, rfl, A5, hO5, hU⟩
      have HN5 : Hid (Nb v5 d) := hO5.nb (World.block_lt_of_cell? _ _ U4.out.c)
      have U5 : Hid (Un d (c + (bi NO + bi KO + cntV (fun i => ovv (rnd (K * f i) 32)) n)) w w5) := by
        have := U4.out.chain hU
        rw [show c + bi NO + bi KO + cntV (fun i => ovv (rnd (K * f i) 32)) n = c + (bi NO + bi KO + cntV (fun i => ovv (rnd (K * f i) 32)) n) by omega] at this
        exact this
      have HA5 : Hid (Ar w5 v5 n (fun i => clv (rnd (K * f i) 32))) := A5
      clear hU U4 A5 hO5
      go_wp2
      exact bodyPost_ret (v := .tuple #[v5, .bool true]) (by simp [results, Tryz.results26, go_sem] <;> rfl) rfl ⟨v5, by rw [HB2.out], by rw [HF.out]; exact HA5.out, HN5.out, by rw [HM2.out]; exact U5.out⟩
    · have h1' : N ≤ most := by omega
      have eB : cpB most n f = false := by rw [HB.out]; simp [h1]
      have HB2 : Hid (cpB most n f = false) := eB
      have HF : Hid (cpF most n f = f) := by show _ = _; funext i; unfold cpF; rw [eB]; rfl
      have HM2 : Hid (cpN most n f = bi NO) := by show _ = _; rw [HM.out, eB]; rfl
      clear HK HB HM eB
      go_wp2
      exact bodyPost_ret (v := .tuple #[va, .bool false]) (by simp [results, Tryz.results26, go_sem] <;> rfl) rfl ⟨va, by rw [HB2.out], by rw [HF.out]; exact HA.out.1.un HA.out.2 U2.out, HA.out.2, by rw [HM2.out]; exact U2.out⟩
  · have h0' : most ≤ 0 := by omega
    have eB : cpB most n f = false := by unfold cpB; simp [h0]
    have HB2 : Hid (cpB most n f = false) := eB
    have HF : Hid (cpF most n f = f) := by show _ = _; funext i; unfold cpF; rw [eB]; rfl
    have HM2 : Hid (cpN most n f = 0) := by show _ = _; unfold cpN; rw [if_neg h0]
    clear eB h0
    go_enter Tryz.func26, Tryz.ntmps26
    go_wp2
    exact bodyPost_ret (v := .tuple #[va, .bool false]) (by simp [results, Tryz.results26, go_sem] <;> rfl) rfl ⟨va, by rw [HB2.out], by rw [HF.out]; exact HA.out.1, HA.out.2, by rw [HM2.out, Int.add_zero]; exact HU.out⟩
end Go.Proofs.YtcdehbhdloaieaaGreatDoor
