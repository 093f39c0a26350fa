/-
  The contracts of slices.Chunk and slices.Collect over lists of numbers, and of vec's rows: a matrix's rows.
-/
import Derived.Test.YtldnnjcfihjkdaaDoorPWalkI
import Derived.RangeFuncBox
import Derived.RangeFuncLeaves
import Derived.Shelf.Abstract
import Derived.WalkKit
import Derived.OwnWalkIn
import Derived.TacticsInMore
import Derived.LoopNIn
import Derived.LoopIn
import Derived.Maps.AppendAt
set_option linter.unusedVariables false
set_option linter.unusedSimpArgs false
namespace Go.Proofs.YtldnnjcfihjkdaaDoor
open Go.RowKit Go.Shelf
attribute [local go_sem] Oper.semAt_some

/-- Where the rows begin. -/
def offs (c k : Nat) : List Nat := (List.range k).map (fun i => i * c)
theorem offs_succ (c k : Nat) : offs c (k + 1) = offs c k ++ [k * c] := by simp [offs, List.range_succ]
theorem offs_len (c k : Nat) : (offs c k).length = k := by simp [offs]
/-- A row. -/
def rowE (b o c : Nat) (p : Nat) : Value := .slice (some ⟨b, o + p, none⟩) c c
theorem grown_drew (w : World) : w.grownBy w.drew none := ⟨rfl, rfl, rfl, Nat.le_refl _, fun _ _ _ => rfl⟩
set_option maxRecDepth 100000 in
set_option maxHeartbeats 4000000 in
theorem chunk1_in (F : Fence) (n : Nat) (h7 : F.fn 148) (hro : F.round = none) (hn : 1 ≤ n) (l Bs Bn n₀ b o cap r c : Nat) (hc1 : 1 ≤ c) (hr1 : 1 ≤ r) (hrc : r * c ≤ 65536) (hcap : r * c ≤ cap) (hcap2 : cap ≤ 9223372036854775807) (J Jx : List Nat → World → Prop) (BJ : Nat) (hJ : AbidesFrom BJ J)
    (hY : ∀ pre x W, J pre W → pre.length < r → YieldAt F (n - 1) Tryd.prog l #[rowE b o c x] W fun e W' =>
      (e = .returned (.bool true) ∧ J (pre ++ [x]) W' ∧ Below n₀ W W') ∨ (e = .returned (.bool false) ∧ Jx (pre ++ [x]) W'))
    (W : World) (hs0 : Bs < n₀) (hn0 : Bn < n₀) (hBs : W.cell? ⟨Bs, 0, none⟩ = some (.slice (some ⟨b, o, none⟩) (r * c) cap)) (hBn : W.cell? ⟨Bn, 0, none⟩ = some (.int .i64 (c : Int))) (h0 : J [] W) :
    CallsIn F n Tryd.prog 148 #[.func (.yield l) #[] #[], .pointer (some ⟨Bs, 0, none⟩), .pointer (some ⟨Bn, 0, none⟩)] W fun e W' => (∃ v, e = .returned v) ∧
      ((∃ ys, ys = offs c r ∧ J ys W') ∨ (∃ pre, (∃ k, k ≤ r ∧ pre = offs c k) ∧ Jx pre W')) := by
  have HM : Hid (∀ k, k ≤ r → k * c ≤ r * c) := fun k hk => Nat.mul_le_mul_right c hk
  obtain ⟨P, hP⟩ : ∃ P, r * c = P := ⟨_, rfl⟩
  have HP : Hid (r * c = P) := hP
  rw [hP] at hrc hcap hBs
  have hcP : c ≤ P := by rw [← hP]; exact Nat.le_mul_of_pos_left c (by omega)
  clear hP
  refine callsIn_of_wp Tryd.func148 rfl h7 ?_ hro
  simp only [Tryd.ntmps148, List.size_toArray, List.length_cons, List.length_nil, Nat.reduceAdd, Nat.reduceSub, Array.replicate_succ, Array.replicate_zero, List.push_toArray, List.append_toArray, List.nil_append, List.cons_append]
  gi_wp2
  gi_loopw [4] (fun i wr => ∃ k p : Nat, k ≤ r ∧ p ≤ P ∧ i = .int .i64 (p : Int) ∧ Hid (p = k * c) ∧ Hid (J (offs c k) wr) ∧ Hid (Below n₀ W wr))
    (fun i _ => P - (intOf i).toNat)
  case atStart => exact ⟨0, 0, Nat.zero_le _, Nat.zero_le _, rfl, by show _ = _; simp, h0, Below.refl _ _⟩
  case round =>
    obtain ⟨k, p, hk, hp, rfl, hpk, hJs, hnx⟩ := hrel
    have cS : wr.cell? ⟨Bs, 0, none⟩ = some (.slice (some ⟨b, o, none⟩) P cap) := (hnx.out.cell (p := ⟨Bs, 0, none⟩) hs0).trans hBs
    have cN : wr.cell? ⟨Bn, 0, none⟩ = some (.int .i64 (c : Int)) := (hnx.out.cell (p := ⟨Bn, 0, none⟩) hn0).trans hBn
    by_cases hlt : k < r
    · have hp2 : p + c ≤ P := by rw [hpk.out, ← HP.out, ← Nat.succ_mul]; exact HM.out (k + 1) (by omega)
      have hpI : (p : Int) < (P : Int) := by omega
      have hJd : J (offs c k) wr.drew := hJ _ wr wr.drew none hJs.out (grown_drew wr) (fun r e => by cases e)
      obtain ⟨fn, tmps, assign, body, hy, hR⟩ := hY _ p wr.drew hJd (by rw [offs_len]; exact hlt)
      simp only [rowE] at hy
      have cS' : wr.drew.cell? ⟨Bs, 0, none⟩ = some (.slice (some ⟨b, o, none⟩) P cap) := cS
      have hnx' : Hid (Below n₀ W wr.drew) := hnx.out.drew
      have hoffs : Hid (offs c k ++ [p] = offs c (k + 1)) := by show _ = _; rw [offs_succ, hpk.out]
      have hpk2 : Hid (p + c = (k + 1) * c) := by show _ = _; rw [hpk.out, Nat.succ_mul]
      have hpc : p ≤ cap := by omega
      have hpc' : ¬ cap = p := by omega
      have hpP : p ≤ P := by omega
      have hmin : min (c : Int) ((P - p : Nat) : Int) = (c : Int) := by omega
      gi_wp2
      gi_region
      all_goals
        gi_wp2
        refine hR.mono ?_
        rintro e W3 (⟨rfl, hJ3, hk3⟩ | ⟨rfl, hJx3⟩)
        · have cN3 : W3.cell? ⟨Bn, 0, none⟩ = some (.int .i64 (c : Int)) := (hk3.cell (p := ⟨Bn, 0, none⟩) hn0).trans cN
          rw [hoffs.out] at hJ3
          have hJ4 : Hid (J (offs c (k + 1)) W3) := hJ3
          have hB4 : Hid (Below n₀ W W3) := hnx'.out.trans hk3
          gi_wp2
          go_roundw
          case rel => exact ⟨k + 1, p + c, by omega, by omega, by go_num, hpk2, hJ4, hB4⟩
          case measure => simp [intOf]; omega
        · gi_wp2
          refine bodyPost_ret (results_none rfl _ _ _) rfl ?_
          rw [hoffs.out] at hJx3
          exact ⟨⟨_, rfl⟩, .inr ⟨_, ⟨k + 1, by omega, rfl⟩, hJx3⟩⟩
    · have hkr : k = r := by omega
      have hpP : p = P := by rw [hpk.out, hkr]; exact HP.out
      subst hpP
      have hpI : ¬ (p : Int) < (p : Int) := by omega
      gi_wp2
      go_end0
      exact ⟨⟨_, rfl⟩, .inl (by rw [← hkr]; exact hJs.out)⟩

end Go.Proofs.YtldnnjcfihjkdaaDoor
