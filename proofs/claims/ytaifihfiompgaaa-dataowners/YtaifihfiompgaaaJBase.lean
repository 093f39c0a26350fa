/-
  What data must give (assumed by the laws), and the laws' awake.
-/
import Derived.Test.YtaifihfiompgaaaJWalkB
import Derived.Test.YtaifihfiompgaaaJWalkD
set_option linter.unusedVariables false
set_option linter.unusedSimpArgs false
namespace Go.Proofs.Ytaifihfiompgaaa
open Go.RowKit

/-- The places of a batch. -/
def Pls (s x r t z m : Nat) (PL : Nat → Nat) : Prop := ∀ k, k < z → Goes s 2 (x : Int) (65536 * (r : Int) + (((t * z + k) / m : Nat) : Int)) m ((t * z + k) % m) (PL k)
theorem pls_ex (s x r t z m : Nat) (hm : 1 ≤ m) : ∃ PL, Pls s x r t z m PL := by
  classical
  refine ⟨fun k => Classical.choose (goes_ex s 2 (x : Int) (65536 * (r : Int) + (((t * z + k) / m : Nat) : Int)) m ((t * z + k) % m) (Nat.mod_lt _ (by omega))), fun k hk => ?_⟩
  exact Classical.choose_spec (goes_ex s 2 (x : Int) (65536 * (r : Int) + (((t * z + k) / m : Nat) : Int)) m ((t * z + k) % m) (Nat.mod_lt _ (by omega)))
/-- The contracts of data. -/
structure Data1 : Prop where
  own : ∀ (s W x n : Nat) (C : Nat → Nat) (w : World), s < 18446744073709551616 → 1 ≤ W → W ≤ 64 → x < W → W ≤ n → n ≤ 4096 → (∀ j, j < n → Comes s 1 0 0 n j (C j)) → RT w →
    Calls Try.prog 9 #[.int .u64 (s : Int), .int .i64 (W : Int), .int .i64 (x : Int), .int .i64 (n : Int)] w fun e w' => ∃ v', e = .returned (.tuple #[v', .int .i64 0]) ∧ Ar w' v' (dlo W n (x + 1) - dlo W n x) (fun q => ((C (dlo W n x + q) : Nat) : Int)) ∧ Ow w.heap.size v' ∧ Below w.heap.size w w'
  ownE : ∀ (s : Nat) (W x n : Int) (w : World), ¬ (Rgt W n ∧ 0 ≤ x ∧ x < W) → RT w →
    Calls Try.prog 9 #[.int .u64 (s : Int), .int .i64 W, .int .i64 x, .int .i64 n] w fun e w' => ∃ (ad : Option Addr) (cap : Nat), e = .returned (.tuple #[.slice ad 0 cap, .int .i64 2]) ∧ Below w.heap.size w w'
/-- The contracts of data's batches. -/
structure Data2 : Prop where
  batch : ∀ (s x r t z m : Nat) (va : Value) (f : Nat → Int) (PL : Nat → Nat) (w : World), s < 18446744073709551616 → x < 64 → r ≤ 256 → t < 64 → 1 ≤ z → z ≤ 64 → 1 ≤ m → m ≤ 4096 → Ar w va m f → Pls s x r t z m PL → RT w →
    Calls Try.prog 13 #[.int .u64 (s : Int), .int .i64 (x : Int), .int .i64 (r : Int), .int .i64 (t : Int), .int .i64 (z : Int), va] w fun e w' => ∃ v', e = .returned (.tuple #[v', .int .i64 0]) ∧ Ar w' v' z (fun k => f (PL k)) ∧ Ow w.heap.size v' ∧ Below w.heap.size w w'
  batchE : ∀ (s m : Nat) (x r t z : Int) (va : Value) (f : Nat → Int) (w : World), m ≤ 100000 → Ar w va m f → ¬ Akd x r t z (m : Int) → RT w →
    Calls Try.prog 13 #[.int .u64 (s : Int), .int .i64 x, .int .i64 r, .int .i64 t, .int .i64 z, va] w fun e w' => ∃ (ad : Option Addr) (cap : Nat), e = .returned (.tuple #[.slice ad 0 cap, .int .i64 2]) ∧ Below w.heap.size w w'
/-- The contracts of data's owners. -/
structure Data3 : Prop where
  owner : ∀ (s W n i : Nat) (w : World), s < 18446744073709551616 → 1 ≤ W → W ≤ 64 → W ≤ n → n ≤ 4096 → i < n → RT w →
    Calls Try.prog 16 #[.int .u64 (s : Int), .int .i64 (W : Int), .int .i64 (n : Int), .int .i64 (i : Int)] w fun e w' => ∃ x p : Nat, e = .returned (.tuple #[.int .i64 (x : Int), .int .i64 0]) ∧ x < W ∧ Goes s 1 0 0 n i p ∧ dlo W n x ≤ p ∧ p < dlo W n (x + 1) ∧ Below w.heap.size w w'
  ownerE : ∀ (s : Nat) (W n i : Int) (w : World), ¬ (Rgt W n ∧ 0 ≤ i ∧ i < n) → RT w →
    Calls Try.prog 16 #[.int .u64 (s : Int), .int .i64 W, .int .i64 n, .int .i64 i] w fun e w' => e = .returned (.tuple #[.int .i64 0, .int .i64 2]) ∧ Below w.heap.size w w'
theorem ar_one (w : World) (x : Int) (h0 : -9223372036854775808 ≤ x) (h1 : x ≤ 9223372036854775807) (t : TypeId) : Ar (w.alloc (.cells #[.int .i64 x] t)) (.slice (some ⟨w.heap.size, 0, none⟩) 1 1) 1 (fun _ => x) :=
  ⟨_, 1, w.heap.size, 0, rfl, Nat.le_refl _, by unfold maxLen; omega, fun _ => rfl, fun k hk => ⟨by
    match k, hk with
    | 0, _ => simp [go_sem], h0, h1⟩⟩
theorem ar_three (w : World) (x : Int) (h0 : -9223372036854775808 ≤ x) (h1 : x ≤ 9223372036854775807) (t : TypeId) : Ar (w.alloc (.cells #[.int .i64 x, .int .i64 x, .int .i64 x] t)) (.slice (some ⟨w.heap.size, 0, none⟩) 3 3) 3 (fun _ => x) :=
  ⟨_, 3, w.heap.size, 0, rfl, Nat.le_refl _, by unfold maxLen; omega, fun _ => rfl, fun k hk => ⟨by
    match k, hk with
    | 0, _ => simp [go_sem]
    | 1, _ => simp [go_sem]
    | 2, _ => simp [go_sem], h0, h1⟩⟩
set_option maxRecDepth 100000 in
set_option maxHeartbeats 4000000 in
theorem dawake_any (V : Data1) (V2 : Data2) (w : World) (hV : RT w) : Calls Try.prog 8 #[] w fun e w' => e = .returned (.bool true) ∧ Below w.heap.size w w' := by
  obtain ⟨G, C, -, hC⟩ := perm_fun 3 1 0 0 4
  have HOw : Hid (∀ W : World, Below w.heap.size w W → Calls Try.prog 9 #[.int .u64 3, .int .i64 1, .int .i64 0, .int .i64 4] W fun e w' => ∃ (ad : Option Addr) (cap : Nat), e = .returned (.tuple #[.slice ad 4 cap, .int .i64 0]) ∧ Below W.heap.size W w') := fun W hb => by
    refine (V.own 3 1 0 4 C W (by omega) (by omega) (by omega) (by omega) (by omega) (by omega) hC (hV.later hb)).mono ?_
    rintro e w' ⟨v', rfl, hA, -, hb'⟩
    obtain ⟨ad, cap, q, o, rfl, -, -, -, -⟩ := hA
    exact ⟨ad, cap, rfl, hb'⟩
  obtain ⟨PL, hPL⟩ := pls_ex 3 0 0 0 3 1 (by omega)
  have HBt : Hid (∀ (W : World) (va : Value), Below w.heap.size w W → Ar W va 1 (fun _ => 7) → Calls Try.prog 13 #[.int .u64 3, .int .i64 0, .int .i64 0, .int .i64 0, .int .i64 3, va] W fun e w' => ∃ v', e = .returned (.tuple #[v', .int .i64 0]) ∧ Ar w' v' 3 (fun _ => 7) ∧ Below W.heap.size W w') := fun W va hb hA => by
    refine (V2.batch 3 0 0 0 3 1 va (fun _ => 7) PL W (by omega) (by omega) (by omega) (by omega) (by omega) (by omega) (by omega) (by omega) hA hPL (hV.later hb)).mono ?_
    rintro e w' ⟨v', rfl, hA', -, hb'⟩
    exact ⟨v', rfl, hA', hb'⟩
  have HSm : Hid (∀ (W : World) (va vb : Value), Ar W va 3 (fun _ => 7) → Ar W vb 3 (fun _ => 7) → Calls Try.prog 11 #[va, vb] W fun e w' => e = .returned (.bool true) ∧ Below W.heap.size W w') := fun W va vb hA hB => isame_yes va vb 3 (fun _ => 7) (by omega) W hA hB
  clear hC hPL V V2 hV
  go_enter Try.func8, Try.ntmps8
  go_wp2_with fail
  refine (HOw.out _ (Below.refl _ _)).mono ?_
  rintro e w1 ⟨ad, cap, rfl, hb⟩
  have B1 : Hid (Below w.heap.size w w1) := hb
  clear hb HOw
  go_wp2_with fail
  refine (HBt.out _ _ (bchain B1.out (bel1 _ _)) (ar_one w1 7 (by omega) (by omega) _)).mono ?_
  rintro e w2 ⟨v', rfl, hA, hb⟩
  have B2 : Hid (Below w.heap.size w w2) := bchain (bchain B1.out (bel1 _ _)) hb
  have HA : Hid (Ar w2 v' 3 (fun _ => 7)) := hA
  clear hb hA HBt B1
  go_wp2_with fail
  refine (HSm.out _ _ _ (HA.out.later (bel1 _ _)) (ar_three w2 7 (by omega) (by omega) _)).mono ?_
  rintro e w3 ⟨rfl, hb⟩
  have B3 : Hid (Below w.heap.size w w3) := bchain (bchain B2.out (bel1 _ _)) hb
  clear hb HA HSm B2
  go_wp2
  go_ret
  exact ⟨by first | rfl | simp, B3.out⟩
end Go.Proofs.Ytaifihfiompgaaa
