/-
  The contract of rand's rounds: the rounds of a trip, in a list.
-/
import Derived.Test.YtoojakjbpbjeaabHWalkD
import Derived.Maps.AppendAt
set_option linter.unusedVariables false
set_option linter.unusedSimpArgs false
namespace Go.Proofs.Ytoojakjbpbjeaab
open Go.RowKit

theorem cell_nw (w : World) (x : Value) (t : TypeId) : (w.alloc (.cells #[x] t)).cell? ⟨w.heap.size, 0, none⟩ = some x := by simp [go_sem]
/-- A round as a value: the boxes of b, of the key and of t. -/
def rv (Bb Bk Tb : Nat) : Value := .func (.func 20) #[] #[.pointer (some ⟨Bb, 0, none⟩), .pointer (some ⟨Bk, 0, none⟩), .pointer (some ⟨Tb, 0, none⟩)]
/-- A list of rounds that is one's own. -/
def Cl (w : World) (B : Nat) (v : Value) (j Bb Bk : Nat) : Prop :=
  ∃ T : Nat → Nat, w.ownsRow B 50 1 v j ((List.range j).map (fun i => rv Bb Bk (T i))) ∧ ∀ i, i < j → w.cell? ⟨T i, 0, none⟩ = some (.int .i64 (i : Int)) ∧ ∀ g, v.ownBlock = some g → T i ≠ g
theorem rmap_succ (T T' : Nat → Nat) (j x Bb Bk : Nat) (h1 : ∀ i, i < j → T' i = T i) (h2 : T' j = x) : (List.range (j + 1)).map (fun i => rv Bb Bk (T' i)) = (List.range j).map (fun i => rv Bb Bk (T i)) ++ [rv Bb Bk x] := by
  rw [List.range_succ, List.map_append]
  congr 1
  · apply List.map_congr_left
    intro i hi
    rw [h1 i (List.mem_range.1 hi)]
  · simp [h2]
theorem cl_mk {w w2 w3 : World} {B j Bb Bk : Nat} {v v' : Value} {o : Obj} {T : Nat → Nat} (hown : w.ownsRow B 50 1 v j ((List.range j).map (fun i => rv Bb Bk (T i))))
    (hT : ∀ i, i < j → w.cell? ⟨T i, 0, none⟩ = some (.int .i64 (i : Int)) ∧ ∀ g, v.ownBlock = some g → T i ≠ g) (hb2 : Below w.heap.size w w2) (hs2 : w2.heap.size = w.heap.size + 1) (hc2 : w2.cell? ⟨w.heap.size, 0, none⟩ = some (.int .i64 (j : Int)))
    (hown' : w3.ownsRow B 50 1 v' (j + 1) ((List.range j).map (fun i => rv Bb Bk (T i)) ++ [rv Bb Bk w.heap.size])) (hgrow : (w2.alloc o).grownBy w3 v.ownBlock) (hat : v'.ownBlock = v.ownBlock ∨ v'.ownBlock = some (w2.alloc o).heap.size) : Cl w3 B v' (j + 1) Bb Bk := by
  have key : ∀ x u, w2.cell? ⟨x, 0, none⟩ = some u → (∀ g, v.ownBlock = some g → x ≠ g) → w3.cell? ⟨x, 0, none⟩ = some u ∧ ∀ g, v'.ownBlock = some g → x ≠ g := fun x u hx hn => by
    have hlt : x < w2.heap.size := World.block_lt_of_cell? _ _ hx
    refine ⟨?_, fun g hg => ?_⟩
    · have h1 : w3.heap[x]? = (w2.alloc o).heap[x]? := hgrow.block x (by rw [World.size_alloc]; omega) (fun e => hn x e.symm rfl)
      have h2 : (w2.alloc o).heap[x]? = w2.heap[x]? := Below.heap_alloc _ _ _ hlt
      exact (World.cell?_of_block (w := w2) (a := ⟨x, 0, none⟩) (h1.trans h2)).trans hx
    · rcases hat with h | h
      · exact hn g (h.symm.trans hg)
      · rw [h] at hg
        obtain rfl := Option.some.inj hg
        rw [World.size_alloc]
        omega
  refine ⟨fun i => if i < j then T i else w.heap.size, ?_, fun i hi => ?_⟩
  · rw [rmap_succ T _ j w.heap.size Bb Bk (fun i hi => if_pos hi) (if_neg (by omega))]
    exact hown'
  · rcases Nat.lt_or_ge i j with h | h
    · simp only [if_pos h]
      exact key _ _ (cell_later hb2 (hT i h).1) (hT i h).2
    · obtain rfl : i = j := by omega
      simp only [if_neg (Nat.lt_irrefl i)]
      exact key _ _ hc2 (fun g hg => by have := (hown.lt g hg).2; omega)
theorem dinfo_rd : (Try.prog.info? 50).map (fun i => (i.zero, i.size, i.bytes)) = some (some .nilFunc, 1, 8) := by kernel_rfl
/-- What rounds answers. -/
def Trip (s : Nat) (a b c : Int) (k base : Nat) (v : Value) (w : World) : Prop :=
  ∃ (g cap Bb Bk : Nat) (T : Nat → Nat), v = .slice (some ⟨g, 0, none⟩) 4 cap ∧ 4 ≤ cap ∧ cap ≤ maxLen ∧ base ≤ g ∧ Rw g 4 (fun i => rv Bb Bk (T i)) w ∧ w.cell? ⟨Bb, 0, none⟩ = some (.int .i64 (k : Int)) ∧ K4 Bk (.int .u64 (s : Int)) (.int .i64 a) (.int .i64 b) (.int .i64 c) w ∧ ∀ i, i < 4 → w.cell? ⟨T i, 0, none⟩ = some (.int .i64 (i : Int))
end Go.Proofs.Ytoojakjbpbjeaab
