/-
  RandPlaces: where a number goes is the document's, and from there it is found again.
-/
import Derived.Test.YtoojakjbpbjeaaaLawRW
set_option linter.unusedVariables false
set_option linter.unusedSimpArgs false
namespace Go.Proofs.Ytoojakjbpbjeaaa
open Go.RowKit

/-- The contracts of rand.Place and rand.Back. -/
structure Rand2 : Prop where
  place : ∀ (s : Nat) (a b c : Int) (n i : Nat) (w : World), Ky s a b c → 1 ≤ n → n ≤ 65536 → i < n → RT w →
    Calls Try.prog 21 #[.agg #[.int .u64 (s : Int), .int .i64 a, .int .i64 b, .int .i64 c], .int .i64 (n : Int), .int .i64 (i : Int)] w fun e w' => ∃ x : Nat, e = .returned (.tuple #[.int .i64 (x : Int), .int .i64 0]) ∧ Goes s a b c n i x ∧ Below w.heap.size w w'
  back : ∀ (s : Nat) (a b c : Int) (n i : Nat) (w : World), Ky s a b c → 1 ≤ n → n ≤ 65536 → i < n → RT w →
    Calls Try.prog 22 #[.agg #[.int .u64 (s : Int), .int .i64 a, .int .i64 b, .int .i64 c], .int .i64 (n : Int), .int .i64 (i : Int)] w fun e w' => ∃ x : Nat, e = .returned (.tuple #[.int .i64 (x : Int), .int .i64 0]) ∧ Comes s a b c n i x ∧ Below w.heap.size w w'
  placeE : ∀ (s : Nat) (a b c n i : Int) (w : World), (n < 1 ∨ 65536 < n ∨ i < 0 ∨ n ≤ i) →
    Calls Try.prog 21 #[.agg #[.int .u64 (s : Int), .int .i64 a, .int .i64 b, .int .i64 c], .int .i64 n, .int .i64 i] w fun e w' => e = .returned (.tuple #[.int .i64 0, .int .i64 2]) ∧ Below w.heap.size w w'
  backE : ∀ (s : Nat) (a b c n i : Int) (w : World), (n < 1 ∨ 65536 < n ∨ i < 0 ∨ n ≤ i) →
    Calls Try.prog 22 #[.agg #[.int .u64 (s : Int), .int .i64 a, .int .i64 b, .int .i64 c], .int .i64 n, .int .i64 i] w fun e w' => e = .returned (.tuple #[.int .i64 0, .int .i64 2]) ∧ Below w.heap.size w w'
set_option maxRecDepth 100000 in
set_option maxHeartbeats 8000000 in
theorem randPlaces_any (V : Rand1) (V2 : Rand2) (s : Nat) (a b c n i : Int) (hk : Ky s a b c) (w : World) (hV : RT w) :
    Calls Try.prog 7 #[.agg #[.int .u64 (s : Int), .int .i64 a, .int .i64 b, .int .i64 c], .int .i64 n, .int .i64 i] w fun e w' => e = .returned (.bool true) ∧ Below w.heap.size w w' := by
  have HA : Hid (∀ W : World, Below w.heap.size w W → Calls Try.prog 9 #[] W fun e w' => e = .returned (.bool true) ∧ Below W.heap.size W w') := fun W hb => rawake_any V W (hV.later hb)
  have K0 : K4 w.heap.size (.int .u64 (s : Int)) (.int .i64 a) (.int .i64 b) (.int .i64 c) (w.alloc (.cells #[.int .u64 (s : Int), .int .i64 a, .int .i64 b, .int .i64 c] 24)) := ⟨by simp [go_sem], by simp [go_sem], by simp [go_sem], by simp [go_sem]⟩
  have B0 : Hid (Below w.heap.size w (w.alloc (.cells #[.int .u64 (s : Int), .int .i64 a, .int .i64 b, .int .i64 c] 24))) := bel1 w _
  go_enter Try.func7, Try.ntmps7
  go_upto_region 1 with fail
  generalize w.alloc (.cells #[.int .u64 (s : Int), .int .i64 a, .int .i64 b, .int .i64 c] 24) = w1 at *
  go_wp2_with fail
  refine (HA.out _ B0.out).mono ?_
  rintro e w2 ⟨rfl, hb⟩
  have B2' : Hid (Below w.heap.size w w2) := bchain B0.out hb
  have K2 := K0.later hb
  clear hb B0 K0 HA V
  have c0 := K2.c0
  have c1 := K2.c1
  have c2 := K2.c2
  have c3 := K2.c3
  by_cases hbad : n < 1 ∨ 65536 < n ∨ i < 0 ∨ n ≤ i
  · have HP : Hid (∀ W : World, Calls Try.prog 21 #[.agg #[.int .u64 (s : Int), .int .i64 a, .int .i64 b, .int .i64 c], .int .i64 n, .int .i64 i] W fun e w' => e = .returned (.tuple #[.int .i64 0, .int .i64 2]) ∧ Below W.heap.size W w') := fun W => V2.placeE s a b c n i W hbad
    have HB : Hid (∀ W : World, Calls Try.prog 22 #[.agg #[.int .u64 (s : Int), .int .i64 a, .int .i64 b, .int .i64 c], .int .i64 n, .int .i64 i] W fun e w' => e = .returned (.tuple #[.int .i64 0, .int .i64 2]) ∧ Below W.heap.size W w') := fun W => V2.backE s a b c n i W hbad
    clear V2
    have H4 : Hid (n < 1 ∨ (¬ n < 1 ∧ 65536 < n) ∨ (¬ n < 1 ∧ ¬ 65536 < n ∧ i < 0) ∨ (¬ n < 1 ∧ ¬ 65536 < n ∧ ¬ i < 0 ∧ n ≤ i)) := by show _ ∨ _; omega
    clear hbad
    go_wp2_with fail
    refine (HP.out _).mono ?_
    rintro e w3 ⟨rfl, hb⟩
    have B3' : Hid (Below w.heap.size w w3) := bchain B2'.out hb
    have K3 := K2.later hb
    clear c0 c1 c2 c3 hb B2' K2
    have c0 := K3.c0
    have c1 := K3.c1
    have c2 := K3.c2
    have c3 := K3.c3
    go_wp2_with fail
    refine (HB.out _).mono ?_
    rintro e w4 ⟨rfl, hb⟩
    have B4' : Hid (Below w.heap.size w w4) := bchain B3'.out hb
    have K4 := K3.later hb
    clear c0 c1 c2 c3 hb B3' K3
    have c0 := K4.c0
    have c1 := K4.c1
    have c2 := K4.c2
    have c3 := K4.c3
    rcases H4.out with h | ⟨h1, h⟩ | ⟨h1, h2, h⟩ | ⟨h1, h2, h3, h⟩
    all_goals
      go_wp2
      go_ret
      exact ⟨by first | rfl | simp, B4'.out⟩
  · obtain ⟨N, rfl⟩ : ∃ N : Nat, n = (N : Int) := ⟨n.toNat, by omega⟩
    obtain ⟨I, rfl⟩ : ∃ I : Nat, i = (I : Int) := ⟨i.toNat, by omega⟩
    have hN0 : 1 ≤ N := by omega
    have hN1 : N ≤ 65536 := by omega
    have hI : I < N := by omega
    have n1 : ¬ (N : Int) < 1 := by omega
    have n2 : ¬ (65536 : Int) < (N : Int) := by omega
    have n3 : ¬ (I : Int) < 0 := by omega
    have n4 : ¬ (N : Int) ≤ (I : Int) := by omega
    clear hbad
    have HP : Hid (∀ W : World, Below w.heap.size w W → Calls Try.prog 21 #[.agg #[.int .u64 (s : Int), .int .i64 a, .int .i64 b, .int .i64 c], .int .i64 (N : Int), .int .i64 (I : Int)] W fun e w' => ∃ x : Nat, e = .returned (.tuple #[.int .i64 (x : Int), .int .i64 0]) ∧ Goes s a b c N I x ∧ Below W.heap.size W w') := fun W hb => V2.place s a b c N I W hk hN0 hN1 hI (hV.later hb)
    have HB : Hid (∀ (j : Nat) (W : World), j < N → Below w.heap.size w W → Calls Try.prog 22 #[.agg #[.int .u64 (s : Int), .int .i64 a, .int .i64 b, .int .i64 c], .int .i64 (N : Int), .int .i64 (j : Int)] W fun e w' => ∃ x : Nat, e = .returned (.tuple #[.int .i64 (x : Int), .int .i64 0]) ∧ Comes s a b c N j x ∧ Below W.heap.size W w') := fun j W hj hb => V2.back s a b c N j W hk hN0 hN1 hj (hV.later hb)
    have HRP : Hid (∀ (j : Nat) (W : World), j < N → Calls Try.prog 23 #[.agg #[.int .u64 (s : Int), .int .i64 a, .int .i64 b, .int .i64 c], .int .i64 (N : Int), .int .i64 (j : Int)] W fun e w' => ∃ x : Nat, e = .returned (.int .i64 (x : Int)) ∧ Goes s a b c N j x ∧ Below W.heap.size W w') := fun j W hj => refPlace_any s a b c N j hk hN0 hN1 hj W
    have HL : Hid (∀ W : World, Calls Try.prog 12 #[.agg #[.int .u64 (s : Int), .int .i64 a, .int .i64 b, .int .i64 c]] W fun e w' => e = .returned (.agg #[.int .u64 (s : Int), .int .i64 a, .int .i64 b, .int .i64 c]) ∧ Below W.heap.size W w') := fun W => lkey_any s a b c W
    clear V2
    go_wp2_with fail
    refine (HP.out _ B2'.out).mono ?_
    rintro e w3 ⟨x, rfl, hG, hb⟩
    have B3' : Hid (Below w.heap.size w w3) := bchain B2'.out hb
    have K3 := K2.later hb
    clear c0 c1 c2 c3 hb B2' K2
    have c0 := K3.c0
    have c1 := K3.c1
    have c2 := K3.c2
    have c3 := K3.c3
    have HG : Hid (Goes s a b c N I x) := hG
    clear hG HP
    go_wp2_with fail
    refine (HB.out I _ hI B3'.out).mono ?_
    rintro e w4 ⟨y, rfl, hC, hb⟩
    have B4' : Hid (Below w.heap.size w w4) := bchain B3'.out hb
    have K4 := K3.later hb
    clear c0 c1 c2 c3 hb B3' K3
    have c0 := K4.c0
    have c1 := K4.c1
    have c2 := K4.c2
    have c3 := K4.c3
    have HC : Hid (Comes s a b c N I y) := hC
    clear hC
    have hxN : x < N := HG.out.lt
    have hyN : y < N := HC.out.lt
    go_wp2_with fail
    refine (HB.out x _ hxN B4'.out).mono ?_
    rintro e w5 ⟨z, rfl, hC2, hb⟩
    have B5' : Hid (Below w.heap.size w w5) := bchain B4'.out hb
    have K5 := K4.later hb
    clear c0 c1 c2 c3 hb B4' K4
    have c0 := K5.c0
    have c1 := K5.c1
    have c2 := K5.c2
    have c3 := K5.c3
    obtain rfl : z = I := hC2.one (HG.out.comes hI)
    clear hC2 HB
    have ezz : (((z : Nat) : Int) == (z : Int)) = true := by simp
    go_wp2_with fail
    refine (HL.out _).mono ?_
    rintro e w6 ⟨rfl, hb⟩
    have B6' : Hid (Below w.heap.size w w6) := bchain B5'.out hb
    have K6 := K5.later hb
    clear c0 c1 c2 c3 hb B5' K5
    have c0 := K6.c0
    have c1 := K6.c1
    have c2 := K6.c2
    have c3 := K6.c3
    go_wp2_with fail
    refine (HRP.out z _ hI).mono ?_
    rintro e w7 ⟨q, rfl, hQ, hb⟩
    have B7' : Hid (Below w.heap.size w w7) := bchain B6'.out hb
    have K7 := K6.later hb
    clear c0 c1 c2 c3 hb B6' K6
    have c0 := K7.c0
    have c1 := K7.c1
    have c2 := K7.c2
    have c3 := K7.c3
    obtain rfl : q = x := hQ.one HG.out
    clear hQ
    have eqq : (((q : Nat) : Int) == (q : Int)) = true := by simp
    go_wp2_with fail
    refine (HL.out _).mono ?_
    rintro e w8 ⟨rfl, hb⟩
    have B8' : Hid (Below w.heap.size w w8) := bchain B7'.out hb
    have K8 := K7.later hb
    clear c0 c1 c2 c3 hb B7' K7
    have c0 := K8.c0
    have c1 := K8.c1
    have c2 := K8.c2
    have c3 := K8.c3
    go_wp2_with fail
    refine (HRP.out y _ hyN).mono ?_
    rintro e w9 ⟨p, rfl, hQ, hb⟩
    have B9' : Hid (Below w.heap.size w w9) := bchain B8'.out hb
    have K9 := K8.later hb
    clear c0 c1 c2 c3 hb B8' K8
    have c0 := K9.c0
    have c1 := K9.c1
    have c2 := K9.c2
    have c3 := K9.c3
    obtain rfl : p = z := hQ.one (HC.out.goes hI)
    clear hQ
    go_wp2
    go_ret
    exact ⟨by first | rfl | simp, B9'.out⟩
end Go.Proofs.Ytoojakjbpbjeaaa
