/-
  RandOrders: without the document's order: each number stands in it just once.
-/
import Derived.Test.YtoojakjbpbjeaabLawRW
import Derived.Laws.MakeOwn
set_option linter.unusedVariables false
set_option linter.unusedSimpArgs false
namespace Go.Proofs.Ytoojakjbpbjeaab
open Go.RowKit

def tau (i j k : Nat) : Nat := if k = j then i else if k = i then j else k
theorem swp_tau (f : Nat → Nat) (i j k : Nat) : swp f i j k = f (tau i j k) := by unfold swp tau; split <;> (try split) <;> rfl
theorem tau_inj (i j k k' : Nat) (h : tau i j k = tau i j k') : k = k' := by
  unfold tau at h
  split at h <;> split at h <;> (try split at h) <;> (try split at h) <;> omega
theorem tau_lt (i j k n : Nat) (hi : i < n) (hj : j < n) (hk : k < n) : tau i j k < n := by unfold tau; split <;> (try split) <;> omega
theorem pmN_inj (J : Nat → Nat) (n : Nat) (hJ : ∀ i, i < n → J i ≤ i) (m : Nat) (hm : m ≤ n - 1) (k k' : Nat) (hk : k < n) (hk' : k' < n) (h : pmN J n m k = pmN J n m k') : k = k' := by
  induction m generalizing k k' with
  | zero => exact h
  | succ m ih =>
    have hi := hJ (n - 1 - m) (by omega)
    have h2 : swp (pmN J n m) (n - 1 - m) (J (n - 1 - m)) k = swp (pmN J n m) (n - 1 - m) (J (n - 1 - m)) k' := h
    rw [swp_tau, swp_tau] at h2
    exact tau_inj _ _ _ _ (ih (by omega) _ _ (tau_lt _ _ _ _ (by omega) (by omega) hk) (tau_lt _ _ _ _ (by omega) (by omega) hk') h2)
theorem jN_le (s : Nat) (a b c : Int) (i : Nat) : jN s a b c i ≤ i := by
  have := blN_lt (wdN s a b c (i : Int)) (i + 1) (wdN_lt _ _ _ _ _) (by omega)
  unfold jN
  omega
/-- Which ones were seen. -/
def sn (F : Nat → Nat) : Nat → Nat → Bool
  | 0, _ => false
  | j + 1, q => if q = F j then true else sn F j q
theorem sn_no (F : Nat → Nat) (j q : Nat) (h : ∀ k, k < j → F k ≠ q) : sn F j q = false := by
  induction j with
  | zero => rfl
  | succ j ih =>
    show (if q = F j then true else sn F j q) = false
    rw [if_neg (fun e => h j (by omega) e.symm)]
    exact ih (fun k hk => h k (by omega))
theorem dinfo_bl : (Try.prog.info? 4).map (fun i => (i.zero, i.size, i.bytes)) = some (some (.bool false), 1, 1) := by kernel_rfl
theorem make_bl (n : Nat) (hn : n ≤ 1000000) (w : World) : (Instr.makeSlice 26 (.int .i64 (n : Int)) (.int .i64 (n : Int))).run Try.prog w = .ok (.slice (some ⟨w.heap.size, 0, none⟩) n n) (w.alloc (.cells (madeCells #[.bool false] n) 4)) := by
  obtain ⟨i0, hi, hz0, hz1, hz2⟩ := info_parts dinfo_bl
  have h := run_make (P := Try.prog) w 26 4 i0 (.bool false) Try.underlying26 hi hz0 .i64 .i64 (n : Int) (n : Int) (by omega) (by omega) (by rw [hz2]; omega) (by omega)
  rw [hz1, Nat.mul_one] at h
  exact h
end Go.Proofs.Ytoojakjbpbjeaab
