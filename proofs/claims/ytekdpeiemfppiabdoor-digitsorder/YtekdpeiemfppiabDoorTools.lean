/-
  Small tools for the laws' walks.
-/
import Derived.Test.YtekdpeiemfppiabDoorWalkI
namespace Go.Proofs.YtekdpeiemfppiabDoor
open Go.RowKit
theorem bchain {a b c : World} (h : Below a.heap.size a b) (k : Below b.heap.size b c) : Below a.heap.size a c := h.trans (k.mono h.size)
theorem bdrew {a b : World} (h : Below a.heap.size a b) : Below a.heap.size a b.drew := h.drew
theorem ovv_out (v : Int) (h : ¬ (-9223372036854775808 ≤ v ∧ v ≤ 9223372036854775807)) : ovv v = true := by
  unfold ovv; simp; omega
end Go.Proofs.YtekdpeiemfppiabDoor
