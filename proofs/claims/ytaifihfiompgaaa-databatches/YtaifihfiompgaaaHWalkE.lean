/-
  The contract of rand's rounds: the rounds of a trip, in a list.
-/
import Derived.Test.YtaifihfiompgaaaHWalkD
import Derived.Maps.AppendAt
set_option linter.unusedVariables false
set_option linter.unusedSimpArgs false
namespace Go.Proofs.Ytaifihfiompgaaa
open Go.RowKit

theorem cell_nw (w : World) (x : Value) (t : TypeId) : (w.alloc (.cells #[x] t)).cell? ⟨w.heap.size, 0, none⟩ = some x := by simp [go_sem]
/-- A round as a value: the boxes of b, of the key and of t. -/
def rv (Bb Bk Tb : Nat) : Value := .func (.func 37) #[] #[.pointer (some ⟨Bb, 0, none⟩), .pointer (some ⟨Bk, 0, none⟩), .pointer (some ⟨Tb, 0, none⟩)]
/-- A list of rounds that is one's own. -/
def Cl (w : World) (B : Nat) (v : Value) (j Bb Bk : Nat) : Prop :=
  ∃ T : Nat → Nat, w.ownsRow B 71 1 v j ((List.range j).map (fun i => rv Bb Bk (T i))) ∧ ∀ i, i < j → w.cell? ⟨T i, 0, none⟩ = some (.int .i64 (i : Int)) ∧ ∀ g, v.ownBlock = some g → T i ≠ g
theorem rmap_succ (T T' : Nat → Nat) (j x Bb Bk : Nat) (h1 : ∀ i, i < j → T' i = T i) (h2 : T' j = x) : (List.range (j + 1)).map (fun i => rv Bb Bk (T' i)) = (List.range j).map (fun i => rv Bb Bk (T i)) ++ [rv Bb Bk x] := by
  rw [List.range_succ, List.map_append]
  congr 1
  · apply List.map_congr_left
    intro i hi
    rw [h1 i (List.mem_range.1 hi)]
  · simp [h2]
theorem cl_mk {w w2 w3 : World} {B j Bb Bk : Nat} {v v' : Value} {o : Obj} {T : Nat → Nat} (hown : w.ownsRow B 71 1 v j ((List.range j).map (fun i => rv Bb Bk (T i))))
    (hT : ∀ i, i < j → w.cell? ⟨T i, 0, none⟩ = some (.int .i64 (i : Int)) ∧ ∀ g, v.ownBlock = some g → T i ≠ g) (hb2 : Below w.heap.size w w2) (hs2 : w2.heap.size = w.heap.size + 1) (hc2 : w2.cell? ⟨w.heap.size, 0, none⟩ = some (.int .i64 (j : Int)))
    (hown' : w3.ownsRow B 71 1 v' (j + 1) ((List.range j).map (fun i => rv Bb Bk (T i)) ++ [rv Bb Bk w.heap.size])) (hgrow : (w2.alloc o).grownBy w3 v.ownBlock) (hat : v'.ownBlock = v.ownBlock ∨ v'.ownBlock = some (w2.alloc o).heap.size) : Cl w3 B v' (j + 1) Bb Bk := by
  have key : ∀ x u, w2.cell? ⟨x, 0, none⟩ = some u → (∀ g, v.ownBlock = some g → x ≠ g) → w3.cell? ⟨x, 0, none⟩ = some u ∧ ∀ g, v'.ownBlock = some g → x ≠ g := fun x u hx hn => by
    have hlt : x < w2.heap.size := World.block_lt_of_cell? _ _ hx
    refine ⟨?_, fun g hg => ?_⟩
    · have h1 : w3.heap[x]? = (w2.alloc o).heap[x]? := hgrow.block x (by rw [World.size_alloc]; omega) (fun e => hn x e.symm rfl)
      have h2 : (w2.alloc o).heap[x]? = w2.heap[x]? := Below.heap_alloc _ _ _ hlt
      exact (World.cell?_of_block (w := w2) (a := ⟨x, 0, none⟩) (h1.trans h2)).trans hx
    · rcases hat with h | h
      · exact hn g (h.symm.trans hg)
      · rw [h] at hg
        obtain rfl := Option.some.inj hg
        rw [World.size_alloc]
        omega
  refine ⟨fun i => if i < j then T i else w.heap.size, ?_, fun i hi => ?_⟩
  · rw [rmap_succ T _ j w.heap.size Bb Bk (fun i hi => if_pos hi) (if_neg (by omega))]
    exact hown'
  · rcases Nat.lt_or_ge i j with h | h
    · simp only [if_pos h]
      exact key _ _ (cell_later hb2 (hT i h).1) (hT i h).2
    · obtain rfl : i = j := by omega
      simp only [if_neg (Nat.lt_irrefl i)]
      exact key _ _ hc2 (fun g hg => by have := (hown.lt g hg).2; omega)
theorem dinfo_rd : (Try.prog.info? 71).map (fun i => (i.zero, i.size, i.bytes)) = some (some .nilFunc, 1, 8) := by kernel_rfl
/-- What rounds answers. -/
def Trip (s : Nat) (a b c : Int) (k base : Nat) (v : Value) (w : World) : Prop :=
  ∃ (g cap Bb Bk : Nat) (T : Nat → Nat), v = .slice (some ⟨g, 0, none⟩) 4 cap ∧ 4 ≤ cap ∧ cap ≤ maxLen ∧ base ≤ g ∧ Rw g 4 (fun i => rv Bb Bk (T i)) w ∧ w.cell? ⟨Bb, 0, none⟩ = some (.int .i64 (k : Int)) ∧ K4 Bk (.int .u64 (s : Int)) (.int .i64 a) (.int .i64 b) (.int .i64 c) w ∧ ∀ i, i < 4 → w.cell? ⟨T i, 0, none⟩ = some (.int .i64 (i : Int))
set_option maxRecDepth 100000 in
set_option maxHeartbeats 4000000 in
theorem rounds_any (s : Nat) (a b c : Int) (k : Nat) (w : World) :
    Calls Try.prog 31 #[.agg #[.int .u64 (s : Int), .int .i64 a, .int .i64 b, .int .i64 c], .int .i64 (k : Int)] w fun e w' => ∃ v, e = .returned v ∧ Trip s a b c k w.heap.size v w' ∧ Below w.heap.size w w' := by
  obtain ⟨i0, hi, hz0, hz1, hz2⟩ := info_parts dinfo_rd
  have hmf : ∀ (fn : Fn) (first cap : Array Value) (w : World), (Instr.makeFunc fn first cap).run Try.prog w = .ok (.func fn first cap) w := fun _ _ _ _ => rfl
  have K0 := (⟨by simp [go_sem], by simp [go_sem], by simp [go_sem], by simp [go_sem]⟩ : K4 w.heap.size (.int .u64 (s : Int)) (.int .i64 a) (.int .i64 b) (.int .i64 c) (w.alloc (.cells #[.int .u64 (s : Int), .int .i64 a, .int .i64 b, .int .i64 c] 51))).later (bel1 _ (.cells #[.int .i64 (k : Int)] 3))
  have C0 := cell_nw (w.alloc (.cells #[.int .u64 (s : Int), .int .i64 a, .int .i64 b, .int .i64 c] 51)) (.int .i64 (k : Int)) 3
  rw [World.size_alloc] at C0
  have hB1 : Hid (Below w.heap.size w ((w.alloc (.cells #[.int .u64 (s : Int), .int .i64 a, .int .i64 b, .int .i64 c] 51)).alloc (.cells #[.int .i64 (k : Int)] 3))) := bel2 w _ _
  go_enter Try.func31, Try.ntmps31
  go_upto_region 3 with fail
  generalize (w.alloc (.cells #[.int .u64 (s : Int), .int .i64 a, .int .i64 b, .int .i64 c] 51)).alloc (.cells #[.int .i64 (k : Int)] 3) = w1 at *
  have HK : Hid (K4 w.heap.size (.int .u64 (s : Int)) (.int .i64 a) (.int .i64 b) (.int .i64 c) w1 ∧ w1.cell? ⟨w.heap.size + 1, 0, none⟩ = some (.int .i64 (k : Int))) := ⟨K0, C0⟩
  clear K0 C0
  go_loopw [5, 7] (fun s5 si wr => ∃ j : Nat, j ≤ 4 ∧ si = .int .i64 (j : Int) ∧ Hid (Cl wr w1.heap.size s5 j (w.heap.size + 1) w.heap.size) ∧ Hid (Below w1.heap.size w1 wr)) (fun _ si _ => 4 - (intOf si).toNat)
  case atStart => exact ⟨0, by omega, rfl, ⟨fun _ => 0, World.ownsRow_nil _ _ _ _, fun i hi => absurd hi (by omega)⟩, Below.refl _ _⟩
  case round =>
    obtain ⟨j, hj, rfl, hC, hW⟩ := hrel
    by_cases hlt : j < 4
    · have hjI : (j : Int) < 4 := by omega
      obtain ⟨T, hown, hT⟩ := hC.out
      have HT : Hid (∀ i, i < j → wr.cell? ⟨T i, 0, none⟩ = some (.int .i64 (i : Int)) ∧ ∀ g, u5.ownBlock = some g → T i ≠ g) := hT
      have HO : Hid (wr.ownsRow w1.heap.size 71 1 u5 j ((List.range j).map (fun i => rv (w.heap.size + 1) w.heap.size (T i)))) := hown
      have hown2 := hown.alloc (.cells #[.int .i64 (j : Int)] 3)
      have hb2 : Below wr.heap.size wr (wr.alloc (.cells #[.int .i64 (j : Int)] 3)) := bel1 _ _
      have hc2 := cell_nw wr (.int .i64 (j : Int)) 3
      have hs2 : Hid ((wr.alloc (.cells #[.int .i64 (j : Int)] 3)).heap.size = wr.heap.size + 1) := by show _ = _; rw [World.size_alloc]
      have hsz : w1.heap.size ≤ wr.heap.size := hW.out.size
      clear hT hown hC
      go_upto_region 5 with fail
      generalize wr.alloc (.cells #[.int .i64 (j : Int)] 3) = w2 at *
      have HB2 : Hid (Below wr.heap.size wr w2 ∧ w2.cell? ⟨wr.heap.size, 0, none⟩ = some (.int .i64 (j : Int))) := ⟨hb2, hc2⟩
      clear hb2 hc2
      go_wp2_with (at_builtin; refine wpList_append_own_at _ rfl _ _ 62 rfl w1.heap.size 71 i0 .nilFunc 1 8 Try.underlying62 hi hz0 hz1 hz2 rfl (by decide) _ _ _ rfl (hown2.alloc _) ⟨w2.heap.size, 0, none⟩ 1 1 [rv (w.heap.size + 1) w.heap.size wr.heap.size] rfl rfl (cell_one_new _ _ _) (by simp [rv, Value.oneCell']) (by unfold maxLen; omega) (by omega) (by have := hs2.out; simp; omega) ?_; intro v' w3 hown' hgrow hnil hat; have HC3 : Hid (Cl w3 w1.heap.size v' (j + 1) (w.heap.size + 1) w.heap.size) := cl_mk HO.out HT.out HB2.out.1 hs2.out HB2.out.2 hown' hgrow hat; have HW3 : Hid (Below w1.heap.size w1 w3) := ((hW.out.trans (HB2.out.1.mono hsz)).alloc (by have := hs2.out; omega) _).grown hgrow (by rw [World.size_alloc]; have := hs2.out; omega) (fun k hk => (HO.out.lt k hk).1); clear hown' hgrow hnil hat hown2 HO HT HB2)
      go_roundw
      case rel => exact ⟨j + 1, by omega, by go_num, HC3, HW3⟩
      case measure => simp [intOf]; omega
    · obtain rfl : j = 4 := by omega
      have HX : Hid (Below w.heap.size w wr) := bchain hB1.out hW.out
      have HR : Hid (Trip s a b c k w.heap.size u5 wr) := by
        obtain ⟨T, hown, hT⟩ := hC.out
        rcases id hown.2 with ⟨_, h0⟩ | ⟨g, cap, cur, rfl, hg, hh, hc1, hc2, hsz, htk⟩
        · omega
        · refine ⟨g, cap, w.heap.size + 1, w.heap.size, T, rfl, hc1, hc2, by have := hB1.out.size; omega, ⟨fun q hq => ?_, fun q hq => hown.frozenAt q⟩, cell_later hW.out HK.out.2, HK.out.1.later hW.out, fun i hi => (hT i hi).1⟩
          rw [hown.cellAt q (by omega)]
          simp [hq]
      clear hC hW HK hB1
      go_wp2
      go_ret
      exact ⟨_, rfl, HR.out, HX.out⟩
end Go.Proofs.Ytaifihfiompgaaa
