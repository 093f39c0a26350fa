/-
  The contracts of data's counts and its iterator.
-/
import Derived.Test.YtaifihfiompgaaaKWalkB
import Derived.Test.YtaifihfiompgaaaKRound
import Derived.RangeFuncBox
import Derived.RangeFuncLeaves
import Derived.Shelf.Abstract
import Derived.WalkKit
import Derived.OwnWalkIn
import Derived.TacticsInMore
import Derived.LoopNIn
import Derived.LoopIn
import Derived.Maps.AppendAt
set_option linter.unusedVariables false
set_option linter.unusedSimpArgs false
namespace Go.Proofs.Ytaifihfiompgaaa
open Go.RowKit Go.Shelf
attribute [local go_sem] Oper.semAt_some

/-- A count of a step. -/
abbrev Cn := Fin 4096
/-- The first k counts from T on. -/
def cnts (T k : Nat) : List Cn := (List.range k).map (fun i => Fin.ofNat 4096 (T + i))
theorem cnts_succ (T k : Nat) : cnts T (k + 1) = cnts T k ++ [Fin.ofNat 4096 (T + k)] := by simp [cnts, List.range_succ]
theorem cnts_len (T k : Nat) : (cnts T k).length = k := by simp [cnts]
/-- Two blocks are as they were. -/
def Keep2 (a b : Nat) (A B : World) : Prop := B.heap[a]? = A.heap[a]? ∧ B.heap[b]? = A.heap[b]?
theorem keep2_t {a b : Nat} {A B C : World} (h : Keep2 a b A B) (k : Keep2 a b B C) : Keep2 a b A C := ⟨k.1.trans h.1, k.2.trans h.2⟩
theorem keep2_b {a b : Nat} {w : World} (ha : a < w.heap.size) (hb : b < w.heap.size) (W : World) (l : Nat) (o o' : Obj) (hl : w.heap.size ≤ l) (h : W.heap[l]? = some o) (_ : o.isCells = false) (_ : o.isWalk = false) : Keep2 a b W (W.putObj l o') := by
  have hlt := (Array.getElem?_eq_some_iff.1 h).1
  have g := grownBy_putObj' W l o'
  exact ⟨g.block a (by omega) (by simp; omega), g.block b (by omega) (by simp; omega)⟩
set_option maxRecDepth 100000 in
set_option maxHeartbeats 4000000 in
theorem counts1_in (F : Fence) (n : Nat) (h7 : F.fn 33) (hro : F.round = none) (hn : 1 ≤ n) (l Bz Bt t z T : Nat) (hT : t * z = T) (hz1 : z ≤ 64) (hT1 : T + z ≤ 4096) (J Jx : List Cn → World → Prop)
    (hY : ∀ pre (x : Cn) W, J pre W → pre.length < z → YieldAt F (n - 1) Try.prog l #[.int .i64 (x.val : Int)] W fun e W' =>
      (e = .returned (.bool true) ∧ J (pre ++ [x]) W' ∧ Keep2 Bz Bt W W') ∨ (e = .returned (.bool false) ∧ Jx (pre ++ [x]) W'))
    (W : World) (hBz : W.cell? ⟨Bz, 0, none⟩ = some (.int .i64 (z : Int))) (hBt : W.cell? ⟨Bt, 0, none⟩ = some (.int .i64 (t : Int))) (h0 : J [] W) :
    CallsIn F n Try.prog 33 #[.func (.yield l) #[] #[], .pointer (some ⟨Bz, 0, none⟩), .pointer (some ⟨Bt, 0, none⟩)] W fun e W' => (∃ v, e = .returned v) ∧
      ((∃ ys, ys = cnts T z ∧ J ys W') ∨ (∃ pre, (∃ k, k ≤ z ∧ pre = cnts T k) ∧ Jx pre W')) := by
  have eT : (t : Int) * (z : Int) = (T : Int) := by rw [← hT, Int.natCast_mul]
  clear hT
  refine callsIn_of_wp Try.func33 rfl h7 ?_ hro
  simp only [Try.ntmps33, List.size_toArray, List.length_cons, List.length_nil, Nat.reduceAdd, Nat.reduceSub, Array.replicate_succ, Array.replicate_zero, List.push_toArray, List.append_toArray, List.nil_append, List.cons_append]
  gi_wp2
  gi_loopw [6] (fun i wr => ∃ k : Nat, k ≤ z ∧ i = .int .i64 (k : Int) ∧ Hid (J (cnts T k) wr) ∧ Hid (Keep2 Bz Bt W wr))
    (fun i _ => z - (intOf i).toNat)
  case atStart => exact ⟨0, Nat.zero_le _, rfl, h0, ⟨rfl, rfl⟩⟩
  case round =>
    obtain ⟨k, hk, rfl, hJs, hnx⟩ := hrel
    have cZ : wr.cell? ⟨Bz, 0, none⟩ = some (.int .i64 (z : Int)) := (World.cell?_of_block (w := W) hnx.out.1).trans hBz
    have cT : wr.cell? ⟨Bt, 0, none⟩ = some (.int .i64 (t : Int)) := (World.cell?_of_block (w := W) hnx.out.2).trans hBt
    by_cases hlt : k < z
    · have hkI : (k : Int) < (z : Int) := by omega
      obtain ⟨fn, tmps, assign, body, hy, hR⟩ := hY _ (Fin.ofNat 4096 (T + k)) wr hJs.out (by rw [cnts_len]; exact hlt)
      have hval : (Fin.ofNat 4096 (T + k)).val = T + k := Nat.mod_eq_of_lt (by omega)
      rw [hval] at hy
      have hcn : Hid (cnts T k ++ [Fin.ofNat 4096 (T + k)] = cnts T (k + 1)) := (cnts_succ T k).symm
      clear hval
      have hy2 : ((T + k : Nat) : Int) = (T : Int) + (k : Int) := by omega
      rw [hy2] at hy
      clear hy2
      gi_wp2
      refine hR.mono ?_
      rintro e W3 (⟨rfl, hJ3, hk3⟩ | ⟨rfl, hJx3⟩)
      · rw [hcn.out] at hJ3
        have hJ4 : Hid (J (cnts T (k + 1)) W3) := hJ3
        have hB4 : Hid (Keep2 Bz Bt W W3) := keep2_t hnx.out hk3
        clear hJ3 hk3 hR hy
        gi_wp2
        go_roundw
        case rel => exact ⟨k + 1, by omega, by go_num, hJ4, hB4⟩
        case measure => simp [intOf]; omega
      · gi_wp2
        refine bodyPost_ret (results_none rfl _ _ _) rfl ?_
        rw [hcn.out] at hJx3
        exact ⟨⟨_, rfl⟩, .inr ⟨_, ⟨k + 1, by omega, rfl⟩, hJx3⟩⟩
    · have hkz : k = z := by omega
      subst hkz
      have hkI : ¬ (k : Int) < (k : Int) := by omega
      gi_wp2
      go_end0
      exact ⟨⟨_, rfl⟩, .inl hJs.out⟩
theorem counts_stops (F : Fence) (n : Nat) (h7 : F.fn 33) (hro : F.round = none) (hn : 1 ≤ n) (Bz Bt t z T : Nat) (hT : t * z = T) (hz1 : z ≤ 64) (hT1 : T + z ≤ 4096) (w : World)
    (hBz : w.cell? ⟨Bz, 0, none⟩ = some (.int .i64 (z : Int))) (hBt : w.cell? ⟨Bt, 0, none⟩ = some (.int .i64 (t : Int))) :
    SeqStopsK F n Try.prog 33 #[.pointer (some ⟨Bz, 0, none⟩), .pointer (some ⟨Bt, 0, none⟩)] (fun x : Cn => #[Value.int .i64 (x.val : Int)]) (Keep2 Bz Bt) (fun ys => ys = cnts T z) (fun pre => ∃ k, k ≤ z ∧ pre = cnts T k) z w := fun l J Jx W hW hJ hJx hY h0 => by
  refine (counts1_in F n h7 hro hn l Bz Bt t z T hT hz1 hT1 J Jx hY W (cell_later hW hBz) (cell_later hW hBt) h0).mono ?_
  intro e W' h
  exact h
theorem counts_any (t z : Nat) (W : World) :
    Calls Try.prog 23 #[.int .i64 (t : Int), .int .i64 (z : Int)] W fun e w' => e = .returned (.func (.func 33) #[] #[.pointer (some ⟨W.heap.size + 1, 0, none⟩), .pointer (some ⟨W.heap.size, 0, none⟩)]) ∧ w' = ((W.alloc (.cells #[.int .i64 (t : Int)] 3)).alloc (.cells #[.int .i64 (z : Int)] 3)) := by
  have hmf : ∀ (fn : Fn) (first cap : Array Value) (w : World), (Instr.makeFunc fn first cap).run Try.prog w = .ok (.func fn first cap) w := fun _ _ _ _ => rfl
  go_enter Try.func23, Try.ntmps23
  go_wp2
  go_ret
  exact ⟨rfl, rfl⟩
theorem bds5 (w : World) (f0 f1 f2 : Nat → Int) (t : TypeId) : Bds w.heap.size 5 f0 f1 f2 (w.alloc (.cells #[.int .i64 (f0 0), .int .i64 (f1 0), .int .i64 (f2 0), .int .i64 (f0 1), .int .i64 (f1 1), .int .i64 (f2 1), .int .i64 (f0 2), .int .i64 (f1 2), .int .i64 (f2 2), .int .i64 (f0 3), .int .i64 (f1 3), .int .i64 (f2 3), .int .i64 (f0 4), .int .i64 (f1 4), .int .i64 (f2 4)] t)) := by
  refine ⟨fun j hj => ?_, fun j hj => ?_, fun j hj => ?_⟩ <;>
  · match j, hj with
    | 0, _ => simp [go_sem]
    | 1, _ => simp [go_sem]
    | 2, _ => simp [go_sem]
    | 3, _ => simp [go_sem]
    | 4, _ => simp [go_sem]
/-- The numbers of a batch, and their bounds. -/
def aN (x r t z m : Int) : Nat → Int
  | 0 => x
  | 1 => r
  | 2 => t
  | 3 => z
  | _ => m
def aL : Nat → Int
  | 0 => 0
  | 1 => 0
  | 2 => 0
  | 3 => 1
  | _ => 1
def aM : Nat → Int
  | 0 => 63
  | 1 => 256
  | 2 => 63
  | 3 => 64
  | _ => 4096
theorem fit_five (x r t z m : Int) (w : World) : Calls Try.prog 18 #[.slice (some ⟨w.heap.size, 0, none⟩) 5 5] (w.alloc (.cells #[.int .i64 x, .int .i64 0, .int .i64 63, .int .i64 r, .int .i64 0, .int .i64 256, .int .i64 t, .int .i64 0, .int .i64 63, .int .i64 z, .int .i64 1, .int .i64 64, .int .i64 m, .int .i64 1, .int .i64 4096] 47)) fun e w' => Says e (Akd x r t z m) ∧ Below w.heap.size w w' := by
  refine (fit_any w.heap.size 5 5 _ _ _ (by omega) (by omega) (by omega) _ (bds5 w (aN x r t z m) aL aM 47)).mono ?_
  rintro e w' ⟨⟨B, rfl, hB⟩, hb⟩
  refine ⟨⟨B, rfl, hB.trans ⟨fun h => ?_, fun h j hj => ?_⟩⟩, bchain (bel1 _ _) hb⟩
  · have h0 := h 0 (by omega)
    have h1 := h 1 (by omega)
    have h2 := h 2 (by omega)
    have h3 := h 3 (by omega)
    have h4 := h 4 (by omega)
    simp only [Wn, aN, aL, aM] at h0 h1 h2 h3 h4
    unfold Akd
    refine ⟨?_, ?_, ?_, ?_, ?_, ?_, ?_, ?_, ?_, ?_⟩ <;> omega
  · unfold Akd at h
    match j, hj with
    | 0, _ => simp only [Wn, aN, aL, aM]; omega
    | 1, _ => simp only [Wn, aN, aL, aM]; omega
    | 2, _ => simp only [Wn, aN, aL, aM]; omega
    | 3, _ => simp only [Wn, aN, aL, aM]; omega
    | 4, _ => simp only [Wn, aN, aL, aM]; omega
end Go.Proofs.Ytaifihfiompgaaa
