/-
  RandOrders: without the document's order: each number stands in it just once.
-/
import Derived.Test.YtoojakjbpbjeaaaLawRW
import Derived.Laws.MakeOwn
set_option linter.unusedVariables false
set_option linter.unusedSimpArgs false
namespace Go.Proofs.Ytoojakjbpbjeaaa
open Go.RowKit

def tau (i j k : Nat) : Nat := if k = j then i else if k = i then j else k
theorem swp_tau (f : Nat → Nat) (i j k : Nat) : swp f i j k = f (tau i j k) := by unfold swp tau; split <;> (try split) <;> rfl
theorem tau_inj (i j k k' : Nat) (h : tau i j k = tau i j k') : k = k' := by
  unfold tau at h
  split at h <;> split at h <;> (try split at h) <;> (try split at h) <;> omega
theorem tau_lt (i j k n : Nat) (hi : i < n) (hj : j < n) (hk : k < n) : tau i j k < n := by unfold tau; split <;> (try split) <;> omega
theorem pmN_inj (J : Nat → Nat) (n : Nat) (hJ : ∀ i, i < n → J i ≤ i) (m : Nat) (hm : m ≤ n - 1) (k k' : Nat) (hk : k < n) (hk' : k' < n) (h : pmN J n m k = pmN J n m k') : k = k' := by
  induction m generalizing k k' with
  | zero => exact h
  | succ m ih =>
    have hi := hJ (n - 1 - m) (by omega)
    have h2 : swp (pmN J n m) (n - 1 - m) (J (n - 1 - m)) k = swp (pmN J n m) (n - 1 - m) (J (n - 1 - m)) k' := h
    rw [swp_tau, swp_tau] at h2
    exact tau_inj _ _ _ _ (ih (by omega) _ _ (tau_lt _ _ _ _ (by omega) (by omega) hk) (tau_lt _ _ _ _ (by omega) (by omega) hk') h2)
theorem jN_le (s : Nat) (a b c : Int) (i : Nat) : jN s a b c i ≤ i := by
  have := blN_lt (wdN s a b c (i : Int)) (i + 1) (wdN_lt _ _ _ _ _) (by omega)
  unfold jN
  omega
/-- Which ones were seen. -/
def sn (F : Nat → Nat) : Nat → Nat → Bool
  | 0, _ => false
  | j + 1, q => if q = F j then true else sn F j q
theorem sn_no (F : Nat → Nat) (j q : Nat) (h : ∀ k, k < j → F k ≠ q) : sn F j q = false := by
  induction j with
  | zero => rfl
  | succ j ih =>
    show (if q = F j then true else sn F j q) = false
    rw [if_neg (fun e => h j (by omega) e.symm)]
    exact ih (fun k hk => h k (by omega))
theorem dinfo_bl : (Try.prog.info? 4).map (fun i => (i.zero, i.size, i.bytes)) = some (some (.bool false), 1, 1) := by kernel_rfl
theorem make_bl (n : Nat) (hn : n ≤ 1000000) (w : World) : (Instr.makeSlice 49 (.int .i64 (n : Int)) (.int .i64 (n : Int))).run Try.prog w = .ok (.slice (some ⟨w.heap.size, 0, none⟩) n n) (w.alloc (.cells (madeCells #[.bool false] n) 4)) := by
  obtain ⟨i0, hi, hz0, hz1, hz2⟩ := info_parts dinfo_bl
  have h := run_make (P := Try.prog) w 49 4 i0 (.bool false) Try.underlying49 hi hz0 .i64 .i64 (n : Int) (n : Int) (by omega) (by omega) (by rw [hz2]; omega) (by omega)
  rw [hz1, Nat.mul_one] at h
  exact h
set_option maxRecDepth 100000 in
set_option maxHeartbeats 8000000 in
theorem randOrders_any (V : Rand1) (s : Nat) (a b c n : Int) (hk : Ky s a b c) (w : World) (hV : RT w) :
    Calls Try.prog 8 #[.agg #[.int .u64 (s : Int), .int .i64 a, .int .i64 b, .int .i64 c], .int .i64 n] w fun e w' => e = .returned (.bool true) ∧ Below w.heap.size w w' := by
  have HA : Hid (∀ W : World, Below w.heap.size w W → Calls Try.prog 9 #[] W fun e w' => e = .returned (.bool true) ∧ Below W.heap.size W w') := fun W hb => rawake_any V W (hV.later hb)
  have HL : Hid (∀ W : World, Calls Try.prog 12 #[.agg #[.int .u64 (s : Int), .int .i64 a, .int .i64 b, .int .i64 c]] W fun e w' => e = .returned (.agg #[.int .u64 (s : Int), .int .i64 a, .int .i64 b, .int .i64 c]) ∧ Below W.heap.size W w') := fun W => lkey_any s a b c W
  have K0 : K4 w.heap.size (.int .u64 (s : Int)) (.int .i64 a) (.int .i64 b) (.int .i64 c) (w.alloc (.cells #[.int .u64 (s : Int), .int .i64 a, .int .i64 b, .int .i64 c] 24)) := ⟨by simp [go_sem], by simp [go_sem], by simp [go_sem], by simp [go_sem]⟩
  have B0 : Hid (Below w.heap.size w (w.alloc (.cells #[.int .u64 (s : Int), .int .i64 a, .int .i64 b, .int .i64 c] 24))) := bel1 w _
  go_enter Try.func8, Try.ntmps8
  go_upto_region 1 with fail
  generalize w.alloc (.cells #[.int .u64 (s : Int), .int .i64 a, .int .i64 b, .int .i64 c] 24) = w1 at *
  go_wp2_with fail
  refine (HA.out _ B0.out).mono ?_
  rintro e w2 ⟨rfl, hb⟩
  have B2' : Hid (Below w.heap.size w w2) := bchain B0.out hb
  have K2 := K0.later hb
  clear hb B0 K0 HA
  have c0 := K2.c0
  have c1 := K2.c1
  have c2 := K2.c2
  have c3 := K2.c3
  rcases (show (n < 0) ∨ (¬ n < 0 ∧ 500 < n) ∨ (0 ≤ n ∧ n ≤ 500) by omega) with h1 | ⟨h1, h2⟩ | ⟨h1, h2⟩
  · clear V
    go_wp2
    go_ret
    exact ⟨rfl, B2'.out⟩
  · clear V
    go_wp2
    go_ret
    exact ⟨rfl, B2'.out⟩
  · obtain ⟨N, rfl⟩ : ∃ N : Nat, n = (N : Int) := ⟨n.toNat, by omega⟩
    have n1 : ¬ (500 : Int) < (N : Int) := by omega
    have n2 : ¬ (N : Int) < 0 := by omega
    have hN : N ≤ 500 := by omega
    clear h1 h2
    have HP : Hid (∀ W : World, Below w.heap.size w W → Calls Try.prog 19 #[.agg #[.int .u64 (s : Int), .int .i64 a, .int .i64 b, .int .i64 c], .int .i64 (N : Int)] W fun e w' => ∃ v', e = .returned (.tuple #[v', .int .i64 0]) ∧ Ar w' v' N (fun k => ((pmN (jN s a b c) N (N - 1) k : Nat) : Int)) ∧ Ow W.heap.size v' ∧ Below W.heap.size W w') := fun W hb => V.perm s a b c N W hk (by omega) (hV.later hb)
    clear V
    go_wp2_with fail
    refine (HP.out _ B2'.out).mono ?_
    rintro e w3 ⟨v3, rfl, hA3, hO3, hb⟩
    have B3' : Hid (Below w.heap.size w w3) := bchain B2'.out hb
    have K3 := K2.later hb
    clear c0 c1 c2 c3 hb B2' K2
    have c0 := K3.c0
    have c1 := K3.c1
    have c2 := K3.c2
    have c3 := K3.c3
    have HA3 : Hid (Ar w3 v3 N (fun k => ((pmN (jN s a b c) N (N - 1) k : Nat) : Int))) := hA3
    obtain ⟨ad3, ca3, g3, o3, rfl, x1, x2, -, -⟩ := hA3
    unfold maxLen at x2
    obtain ⟨F, hF⟩ : ∃ F : Nat → Nat, pmN (jN s a b c) N (N - 1) = F := ⟨_, rfl⟩
    have HFl : Hid (∀ k, k < N → F k < N) := fun k hk => by rw [← hF]; exact pmN_lt _ N (fun i _ => jN_le s a b c i) (N - 1) (Nat.le_refl _) k hk
    have HFi : Hid (∀ k k', k < N → k' < N → F k = F k' → k = k') := fun k k' h1 h2 h => by rw [← hF] at h; exact pmN_inj _ N (fun i _ => jN_le s a b c i) (N - 1) (Nat.le_refl _) k k' h1 h2 h
    rw [hF] at HA3
    clear hF HP HL K3 c0 c1 c2 c3
    have eNN : (((N : Nat) : Int) != (N : Int)) = false := by simp
    have hmk := make_bl N (by omega)
    have hR0 : Hid (Rw w3.heap.size N (fun _ => .bool false) (w3.alloc (.cells (madeCells #[.bool false] N) 4))) := Rw.made w3 (.bool false) N 4
    have hb4 : Hid (Below w3.heap.size w3 (w3.alloc (.cells (madeCells #[.bool false] N) 4))) := bel1 _ _
    go_upto_region 10 with fail
    generalize w3.alloc (.cells (madeCells #[.bool false] N) 4) = w4 at *
    clear hmk
    go_loopw [36] (fun si wr => ∃ j : Nat, j ≤ N ∧ si = .int .i64 (j : Int) ∧ Hid (Rw w3.heap.size N (fun q => .bool (sn F j q)) wr) ∧ Hid (Below w3.heap.size w3 wr)) (fun si _ => N - (intOf si).toNat)
    case atStart => exact ⟨0, by omega, rfl, hR0, hb4⟩
    case round =>
      obtain ⟨j, hj, rfl, hR, hW⟩ := hrel
      by_cases hlt : j < N
      · have hjI : (j : Int) < (N : Int) := by omega
        obtain ⟨q1, r1, rfl, cA, -, -⟩ := (HA3.out.later hW.out).at j hlt
        have hFl := HFl.out j hlt
        have hsn := sn_no F j (F j) (fun k hk e => by have := HFi.out k j (by omega) hlt e; omega)
        have cS : wr.cell? ⟨w3.heap.size, F j, none⟩ = some (.bool false) := by have h := hR.out.c (F j) hFl; rw [hsn] at h; exact h
        have fS := hR.out.f (F j) hFl
        have HR2 : Hid (Rw w3.heap.size N (fun q => .bool (sn F (j + 1) q)) (wr.setCell ⟨w3.heap.size, F j, none⟩ (.bool true))) := (hR.out.set (F j) (.bool true)).congr (fun q hq => by
          show _ = Value.bool (if q = F j then true else sn F j q)
          split <;> rfl)
        have HW2 : Hid (Below w3.heap.size w3 (wr.setCell ⟨w3.heap.size, F j, none⟩ (.bool true))) := hW.out.setCell (Nat.le_refl _) _
        clear hsn hR hW
        generalize F j = x at *
        have x0 : ¬ (x : Int) < 0 := by omega
        have x1' : ¬ (N : Int) ≤ (x : Int) := by omega
        have x2' : (x : Int) < (N : Int) := by omega
        go_wp2
        go_roundw
        case rel => exact ⟨j + 1, by omega, by go_num, HR2, HW2⟩
        case measure => simp [intOf]; omega
      · have hjI : ¬ (j : Int) < (N : Int) := by omega
        have HX : Hid (Below w.heap.size w wr) := bchain B3'.out hW.out
        go_wp2
        go_ret
        exact ⟨rfl, HX.out⟩
end Go.Proofs.Ytoojakjbpbjeaaa
