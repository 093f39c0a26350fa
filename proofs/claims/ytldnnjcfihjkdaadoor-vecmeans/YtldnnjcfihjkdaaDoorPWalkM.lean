/-
  The contracts of slices.AppendSeq, slices.Collect and slices.Chunk over lists of numbers, and of vec's rows.
-/
import Derived.Test.YtldnnjcfihjkdaaDoorPWalkL
import Derived.RangeFuncBox
import Derived.RangeFuncLeaves
import Derived.Shelf.Abstract
import Derived.WalkKit
import Derived.OwnWalkIn
import Derived.TacticsInMore
import Derived.LoopNIn
import Derived.LoopIn
import Derived.Maps.AppendAt
set_option linter.unusedVariables false
set_option linter.unusedSimpArgs false
namespace Go.Proofs.YtldnnjcfihjkdaaDoor
open Go.RowKit Go.Shelf
attribute [local go_sem] Oper.semAt_some


theorem chunk_stops (F : Fence) (n : Nat) (h7 : F.fn 148) (hro : F.round = none) (hn : 1 ≤ n) (Bs Bn n₀ b o cap r c : Nat) (hc1 : 1 ≤ c) (hr1 : 1 ≤ r) (hrc : r * c ≤ 65536) (hcap : r * c ≤ cap) (hcap2 : cap ≤ 9223372036854775807) (w : World) (hs0 : Bs < n₀) (hn0 : Bn < n₀) (hn₀ : n₀ ≤ w.heap.size)
    (hBs : w.cell? ⟨Bs, 0, none⟩ = some (.slice (some ⟨b, o, none⟩) (r * c) cap)) (hBn : w.cell? ⟨Bn, 0, none⟩ = some (.int .i64 (c : Int))) :
    SeqStopsK F n Tryd.prog 148 #[.pointer (some ⟨Bs, 0, none⟩), .pointer (some ⟨Bn, 0, none⟩)] (fun x : Nat => #[Value.slice (some ⟨b, o + x, none⟩) c c]) (Below n₀) (fun ys => ys = offs c r) (fun pre => ∃ k, k ≤ r ∧ pre = offs c k) r w := fun l J Jx W hW hJ hJx hY h0 => by
  refine (chunk1_in F n h7 hro hn l Bs Bn n₀ b o cap r c hc1 hr1 hrc hcap hcap2 J Jx _ hJ hY W hs0 hn0 ((hW.cell (p := ⟨Bs, 0, none⟩) (by dsimp only; omega)).trans hBs) ((hW.cell (p := ⟨Bn, 0, none⟩) (by dsimp only; omega)).trans hBn) h0).mono ?_
  intro e W' h
  exact h
set_option maxRecDepth 100000 in
set_option maxHeartbeats 4000000 in
theorem appendSeq_in (F : Fence) (n : Nat) (hA : F.fn 147) (h7 : F.fn 148) (hro : F.round = none) (hn : 3 ≤ n) (Bs Bn b o cap r c : Nat) (hc1 : 1 ≤ c) (hr1 : 1 ≤ r) (hrc : r * c ≤ 65536) (hcap : r * c ≤ cap) (hcap2 : cap ≤ 9223372036854775807) (w : World) (hs0 : Bs < w.heap.size) (hn0 : Bn < w.heap.size)
    (hBs : w.cell? ⟨Bs, 0, none⟩ = some (.slice (some ⟨b, o, none⟩) (r * c) cap)) (hBn : w.cell? ⟨Bn, 0, none⟩ = some (.int .i64 (c : Int))) :
    CallsIn F n Tryd.prog 147 #[.slice none 0 0, .func (.func 148) #[] #[.pointer (some ⟨Bs, 0, none⟩), .pointer (some ⟨Bn, 0, none⟩)]] w fun e W' => ∃ v, e = .returned v ∧ W'.ownsRow w.heap.size 22 1 v r ((offs c r).map (rowE b o c)) ∧ Below w.heap.size w W' := by
  have h1 : 1 ≤ n := by omega
  have hr2 : r ≤ 65536 := Nat.le_trans (Nat.le_mul_of_pos_right r hc1) hrc
  obtain ⟨i0, hi, hz0, hz1, hz2⟩ := info_parts dinfo_fs
  refine callsIn_of_wp_marks Tryd.func147 rfl hA ?_ hro
  simp only [Tryd.ntmps147, List.size_toArray, List.length_cons, List.length_nil, Nat.reduceAdd, Nat.reduceSub, Array.replicate_succ, Array.replicate_zero, List.push_toArray, List.append_toArray, List.nil_append, List.cons_append]
  gi_wp2
  have bO := Boxed.new w 74 (.slice none 0 0)
  have hB0 : Below w.heap.size w (w.alloc (.cells #[.slice none 0 0] 74)) := (Below.refl _ w).alloc (Nat.le_refl _) _
  refine wpIn_rangeFunc_ownG hro h1 (gf := 148) (lb := #[.pointer (some ⟨Bs, 0, none⟩), .pointer (some ⟨Bn, 0, none⟩)]) rfl h7 (enters_of Tryd.func148 (by kernel_rfl) rfl)
    (chunk_stops F (n - 1) h7 hro (by omega) Bs Bn w.heap.size b o cap r c hc1 hr1 hrc hcap hcap2 _ hs0 hn0 (by simp) ((hB0.cell (p := ⟨Bs, 0, none⟩) hs0).trans hBs) ((hB0.cell (p := ⟨Bn, 0, none⟩) hn0).trans hBn)) belowK_t (belowK_b (by simp)) (Below.refl _ _) (fun _ => rfl)
    (fun (pre : List Nat) (W : World) => (∃ v, Boxed W w.heap.size 74 v ∧ W.ownsRow w.heap.size 22 1 v pre.length (pre.map (rowE b o c)) ∧ True) ∧ Below w.heap.size w W)
    (fun _ _ _ => False)
    (OwnFrom.and (Own.from (holdsRow_own w.heap.size w.heap.size 74 22 1 (fun pre : List Nat => pre.length) (fun pre : List Nat => pre.map (rowE b o c)) (fun _ _ => True)) _) (ownFrom_below (Nat.le_refl _) (by simp)))
    (fun _ _ _ _ _ hs _ _ => hs)
    ⟨⟨_, bO, World.ownsRow_nil _ _ _ _, trivial⟩, hB0⟩
    (fun x => { tmps := #[.slice none 0 0, .func (.func 148) #[] #[.pointer (some ⟨Bs, 0, none⟩), .pointer (some ⟨Bn, 0, none⟩)], .pointer (some ⟨w.heap.size, 0, none⟩), undef, .slice none 0 0, .slice (some ⟨b, o + x, none⟩) c c, .func (.func 148) #[] #[.pointer (some ⟨Bs, 0, none⟩), .pointer (some ⟨Bn, 0, none⟩)], .slice (some ⟨b, o + x, none⟩) c c, undef, undef, undef, undef, undef], defers := [] }) ?assign ?body ?done ?stop
  case assign =>
    intro l x W K hK
    gi_wp2
    exact hK
  case body =>
    rintro l pre x W ⟨⟨v, hv, hrow, -⟩, hB⟩ hlt
    have hc := hv.cell
    gi_wp2_with (gi_at_builtin; refine wpListIn_append_own _ rfl _ _ 74 rfl w.heap.size 22 i0 (.slice none 0 0) 1 24 Tryd.underlying74 hi hz0 hz1 hz2 rfl (by decide) _ _ _ rfl (hrow.alloc _) ⟨W.heap.size, 0, none⟩ 1 1 [.slice (some ⟨b, o + x, none⟩) c c] rfl rfl (cell_one_new _ _ _) (by simp [Value.oneCell']) (by unfold maxLen; omega) (by omega) (by have := hB.size; simp; omega) ?_; intro v' w1 hown' hgrow _; obtain ⟨g', cap', rfl⟩ := ownsRow_succ hown'; obtain ⟨hv1, hv2, hr2', hk2, hb2⟩ := hv.appended (by decide) hrow hB.size (Nat.le_refl _) hown' hgrow; have hc1' := hv1.cell; have hf1 := hv1.frozen)
    exact ⟨hk2.from _, hb2, ⟨_, hv2, by simpa [rowE] using hr2', trivial⟩, hB.trans hb2⟩
  case done =>
    rintro D ys W hD rfl ⟨⟨v, hv, hrow, -⟩, hB⟩ hK
    have hc := hv.cell
    gi_wp2
    refine ⟨by simp, .inl ⟨_, _, rfl, run_takeDeferred hK, ?_⟩⟩
    have hrow2 := ownsRow_putObj hrow (.deferred none) hK rfl
    rw [offs_len] at hrow2
    exact ⟨_, results_tmp rfl _ _ _, v, rfl, hrow2, hB.trans (belowK_b (w := w) (Nat.le_refl _) W D _ _ (by simp at hD; omega) hK rfl rfl)⟩
  case stop =>
    rintro D c' pre W _ _ h _
    exact h.elim
set_option maxHeartbeats 1000000 in
theorem collect_any (Bs Bn b o cap r c : Nat) (hc1 : 1 ≤ c) (hr1 : 1 ≤ r) (hrc : r * c ≤ 65536) (hcap : r * c ≤ cap) (hcap2 : cap ≤ 9223372036854775807) (w : World)
    (hBs : w.cell? ⟨Bs, 0, none⟩ = some (.slice (some ⟨b, o, none⟩) (r * c) cap)) (hBn : w.cell? ⟨Bn, 0, none⟩ = some (.int .i64 (c : Int))) :
    Calls Tryd.prog 120 #[.func (.func 148) #[] #[.pointer (some ⟨Bs, 0, none⟩), .pointer (some ⟨Bn, 0, none⟩)]] w fun e w' => ∃ g cap', e = .returned (.slice (some ⟨g, 0, none⟩) r cap') ∧ cap' ≤ maxLen ∧ r ≤ cap' ∧ Rw g r (fun k => .slice (some ⟨b, o + k * c, none⟩) c c) w' ∧ w.heap.size ≤ g ∧ Below w.heap.size w w' := by
  have CA : Hid (Calls Tryd.prog 147 #[.slice none 0 0, .func (.func 148) #[] #[.pointer (some ⟨Bs, 0, none⟩), .pointer (some ⟨Bn, 0, none⟩)]] w fun e w' => ∃ g cap', e = .returned (.slice (some ⟨g, 0, none⟩) r cap') ∧ cap' ≤ maxLen ∧ r ≤ cap' ∧ Rw g r (fun k => .slice (some ⟨b, o + k * c, none⟩) c c) w' ∧ w.heap.size ≤ g ∧ Below w.heap.size w w') := by
    refine Calls.mono ((callsIn_wide (n := 3)).1 (appendSeq_in Fence.wide 3 trivial trivial rfl (by omega) Bs Bn b o cap r c hc1 hr1 hrc hcap hcap2 w (World.block_lt_of_cell? _ _ hBs) (World.block_lt_of_cell? _ _ hBn) hBs hBn)) ?_
    rintro e w' ⟨v, rfl, hown, hb⟩
    rcases id hown.2 with ⟨h0, h1⟩ | ⟨g, cap', cur, hv, hbs, hh, h1, h2, h3⟩
    · have : r = 0 := by first | exact h1 | (have := congrArg List.length h1; simp [offs] at this; exact this)
      omega
    · subst hv
      refine ⟨g, cap', rfl, h2, h1, ⟨fun k hk => ?_, fun k hk => hown.frozenAt k⟩, hbs, hb⟩
      rw [hown.cellAt k (by omega)]
      simp [offs, rowE, hk]
  clear hBs hBn
  go_enter Tryd.func120, Tryd.ntmps120
  go_wp2_with fail
  refine CA.out.mono ?_
  rintro e w1 ⟨g, cap', rfl, h2, h1, hR, hg, hb⟩
  have HR : Hid (Rw g r (fun k => .slice (some ⟨b, o + k * c, none⟩) c c) w1 ∧ w.heap.size ≤ g ∧ Below w.heap.size w w1 ∧ cap' ≤ maxLen ∧ r ≤ cap') := ⟨hR, hg, hb, h2, h1⟩
  clear CA hR hg hb h2 h1
  go_wp2
  go_ret
  exact ⟨g, cap', rfl, HR.out.2.2.2.1, HR.out.2.2.2.2, HR.out.1, HR.out.2.1, HR.out.2.2.1⟩
set_option maxHeartbeats 1000000 in
theorem chunk_any (b o cap r c : Nat) (hc1 : 1 ≤ c) (hc2 : c ≤ 65536) (W : World) :
    Calls Tryd.prog 121 #[.slice (some ⟨b, o, none⟩) (r * c) cap, .int .i64 (c : Int)] W fun e w' => e = .returned (.func (.func 148) #[] #[.pointer (some ⟨W.heap.size, 0, none⟩), .pointer (some ⟨W.heap.size + 1, 0, none⟩)]) ∧ w' = ((W.alloc (.cells #[.slice (some ⟨b, o, none⟩) (r * c) cap] 22)).alloc (.cells #[.int .i64 (c : Int)] 3)) := by
  have hmf := hmf_any
  have h1 : ¬ (c : Int) < 1 := by omega
  generalize r * c = P at *
  go_enter Tryd.func121, Tryd.ntmps121
  go_wp2
  go_ret
  exact ⟨rfl, rfl⟩
set_option maxHeartbeats 1000000 in
theorem rows_any (R : Int) (b o cap r c : Nat) (hc1 : 1 ≤ c) (hr1 : 1 ≤ r) (hrc : r * c ≤ 65536) (hcap : r * c ≤ cap) (hcap2 : cap ≤ 9223372036854775807) (w : World) :
    Calls Tryd.prog 72 #[.agg #[.int .i64 R, .int .i64 (c : Int), .slice (some ⟨b, o, none⟩) (r * c) cap]] w fun e w' => ∃ g cap', e = .returned (.slice (some ⟨g, 0, none⟩) r cap') ∧ cap' ≤ maxLen ∧ r ≤ cap' ∧ Rw g r (fun k => .slice (some ⟨b, o + k * c, none⟩) c c) w' ∧ w.heap.size ≤ g ∧ Below w.heap.size w w' := by
  have hc2 : c ≤ 65536 := Nat.le_trans (Nat.le_mul_of_pos_left c hr1) hrc
  have CC : Hid (∀ W : World, Calls Tryd.prog 121 #[.slice (some ⟨b, o, none⟩) (r * c) cap, .int .i64 (c : Int)] W fun e w' => e = .returned (.func (.func 148) #[] #[.pointer (some ⟨W.heap.size, 0, none⟩), .pointer (some ⟨W.heap.size + 1, 0, none⟩)]) ∧ w' = ((W.alloc (.cells #[.slice (some ⟨b, o, none⟩) (r * c) cap] 22)).alloc (.cells #[.int .i64 (c : Int)] 3))) := fun W => chunk_any b o cap r c hc1 hc2 W
  have CO : Hid (∀ W : World, Calls Tryd.prog 120 #[.func (.func 148) #[] #[.pointer (some ⟨W.heap.size, 0, none⟩), .pointer (some ⟨W.heap.size + 1, 0, none⟩)]] ((W.alloc (.cells #[.slice (some ⟨b, o, none⟩) (r * c) cap] 22)).alloc (.cells #[.int .i64 (c : Int)] 3)) fun e w' => ∃ g cap', e = .returned (.slice (some ⟨g, 0, none⟩) r cap') ∧ cap' ≤ maxLen ∧ r ≤ cap' ∧ Rw g r (fun k => .slice (some ⟨b, o + k * c, none⟩) c c) w' ∧ ((W.alloc (.cells #[.slice (some ⟨b, o, none⟩) (r * c) cap] 22)).alloc (.cells #[.int .i64 (c : Int)] 3)).heap.size ≤ g ∧ Below ((W.alloc (.cells #[.slice (some ⟨b, o, none⟩) (r * c) cap] 22)).alloc (.cells #[.int .i64 (c : Int)] 3)).heap.size ((W.alloc (.cells #[.slice (some ⟨b, o, none⟩) (r * c) cap] 22)).alloc (.cells #[.int .i64 (c : Int)] 3)) w') := fun W => collect_any W.heap.size (W.heap.size + 1) b o cap r c hc1 hr1 hrc hcap hcap2 _ (cell_later (bel1 _ _) (cell_new1 W _ _)) (by have h := cell_new1 (W.alloc (.cells #[.slice (some ⟨b, o, none⟩) (r * c) cap] 22)) (.int .i64 (c : Int)) 3; rw [World.size_alloc] at h; exact h)
  have HB0 : Hid (Below w.heap.size w _) := bel1 w (.cells #[.int .i64 R, .int .i64 (c : Int), .slice (some ⟨b, o, none⟩) (r * c) cap] 56)
  generalize r * c = P at *
  go_enter Tryd.func72, Tryd.ntmps72
  go_wp2_with fail
  generalize w.alloc (.cells #[.int .i64 R, .int .i64 (c : Int), .slice (some ⟨b, o, none⟩) P cap] 56) = W0 at *
  refine (CC.out W0).mono ?_
  rintro e w1 ⟨rfl, hz⟩
  subst hz
  clear CC
  go_wp2_with fail
  refine (CO.out W0).mono ?_
  rintro e w2 ⟨g, cap', rfl, h2, h1, hR, hg, hb⟩
  have hB : Below w.heap.size w w2 := bchain (bchain HB0.out (bel2 _ _ _)) hb
  have HR : Hid (Rw g r (fun k => .slice (some ⟨b, o + k * c, none⟩) c c) w2 ∧ w.heap.size ≤ g ∧ Below w.heap.size w w2 ∧ cap' ≤ maxLen ∧ r ≤ cap') := ⟨hR, by have := HB0.out.size; simp at hg; omega, hB, h2, h1⟩
  clear CO hR hg hb h2 h1 hB HB0
  go_wp2
  go_ret
  exact ⟨g, cap', rfl, HR.out.2.2.2.1, HR.out.2.2.2.2, HR.out.1, HR.out.2.1, HR.out.2.2.1⟩
end Go.Proofs.YtldnnjcfihjkdaaDoor
