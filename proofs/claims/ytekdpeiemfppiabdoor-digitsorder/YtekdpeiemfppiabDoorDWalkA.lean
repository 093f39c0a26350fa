/-
  The contracts of regattaref03's Digits and Whole.
-/
import Derived.Test.YtekdpeiemfppiabDoorSWalkB
import Derived.Laws.BytesArg
import Derived.Laws.Concat
set_option linter.unusedVariables false
set_option linter.unusedSimpArgs false
namespace Go.Proofs.YtekdpeiemfppiabDoor
open Go.RowKit

/-- A list of bytes as a string. -/
def bs (l : List UInt8) : ByteArray := ⟨l.toArray⟩
/-- The digits of a number. -/
def dl (n : Nat) : List UInt8 := if n < 10 then [UInt8.ofNat (48 + n)] else dl (n / 10) ++ [UInt8.ofNat (48 + n % 10)]
  termination_by n
theorem dl_lt (n : Nat) (h : n < 10) : dl n = [UInt8.ofNat (48 + n)] := by rw [dl, if_pos h]
theorem dl_ge (n : Nat) (h : ¬ n < 10) : dl n = dl (n / 10) ++ [UInt8.ofNat (48 + n % 10)] := by rw [dl, if_neg h]

theorem bs_app (a b : List UInt8) : bs a ++ bs b = bs (a ++ b) := ByteArray.mk_append_mk a b
theorem bs_size (a : List UInt8) : (bs a).size = a.length := by unfold bs; rfl
theorem dl_len (n : Nat) (k : Nat) (hk : 1 ≤ k) (h : n < 10 ^ k) : 1 ≤ (dl n).length ∧ (dl n).length ≤ k := by
  induction k generalizing n with
  | zero => omega
  | succ k ih =>
    by_cases hn : n < 10
    · rw [dl_lt n hn]; simp
    · rw [dl_ge n hn, List.length_append]
      by_cases hk0 : k = 0
      · subst hk0; omega
      · have := ih (n / 10) (by omega) (by rw [Nat.pow_succ] at h; omega)
        simp
        omega
theorem dl_len20 (n : Nat) (h : n < 18446744073709551616) : 1 ≤ (dl n).length ∧ (dl n).length ≤ 20 := dl_len n 20 (by omega) (by omega)

theorem wrap_byte (x : Int) (h0 : 0 ≤ x) (h1 : x ≤ 255) : IntKind.u8.wrap x = x := by rw [IntKind.wrap_u8]; omega
theorem hidA' {a b : World} (h : Hid (Below a.heap.size a b)) (o : Obj) : Hid (Below a.heap.size a (b.alloc o)) := h.out.alloc h.out.size o
theorem hidC {a b c : World} (h : Hid (Below a.heap.size a b)) (k : Below b.heap.size b c) : Hid (Below a.heap.size a c) := bchain h.out k
end Go.Proofs.YtekdpeiemfppiabDoor
