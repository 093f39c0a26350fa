/-
  Layer 15: the law's fates; bytes that are spoilt.
-/
import Derived.Test.YtnchmnemclbfcaaDkTwo
import Derived.Laws.AppendOwn
set_option linter.unusedVariables false
set_option linter.unusedSimpArgs false
namespace Go.Proofs.Ytnchmnemclbfcaa
open Go.RowKit

/-- Fates as cells. -/
def ftc : List (Int × Int) → List Value
  | [] => []
  | f :: fs => .int .i64 f.1 :: .int .i64 f.2 :: ftc fs
theorem ftc_app (a b : List (Int × Int)) : ftc (a ++ b) = ftc a ++ ftc b := by
  induction a with
  | nil => rfl
  | cons f fs ih => simp only [List.cons_append, ftc, ih]
theorem ftc_at : ∀ (fs : List (Int × Int)) (j : Nat), j < fs.length → (ftc fs)[j * 2]? = some (.int .i64 (fs.getD j (0, 0)).1) ∧ (ftc fs)[j * 2 + 1]? = some (.int .i64 (fs.getD j (0, 0)).2) := by
  intro fs
  induction fs with
  | nil => intro j hj; simp at hj
  | cons f fs ih =>
    intro j hj
    cases j with
    | zero => exact ⟨rfl, rfl⟩
    | succ j =>
      have h := ih j (by simpa using hj)
      have e1 : (j + 1) * 2 = j * 2 + 1 + 1 := by omega
      refine ⟨?_, ?_⟩
      · rw [e1]; simpa [ftc, List.getD] using h.1
      · rw [show (j + 1) * 2 + 1 = j * 2 + 1 + 1 + 1 by omega]; simpa [ftc, List.getD] using h.2
theorem own_fts {w : World} {base : Nat} {T : TypeId} {v : Value} {fs : List (Int × Int)} (h : w.ownsRow base T 2 v fs.length (ftc fs)) : Fts w v fs ∧ Ow base v := by
  rcases id h.2 with ⟨rfl, h0⟩ | ⟨g, c, cur, rfl, hg, hh, hc1, hc2, r⟩
  · have e : fs = [] := List.eq_nil_of_length_eq_zero h0
    subst e
    exact ⟨fts_nil w, fun a n cap e => by cases e⟩
  · refine ⟨⟨_, c, g, 0, rfl, hc1, hc2, fun _ => rfl, fun j hj => ?_⟩, fun a n cap e hn => by cases e; exact hg⟩
    obtain ⟨e1, e2⟩ := ftc_at fs j hj
    rw [Nat.zero_add]
    exact ⟨(h.cellAt (j * 2) (by omega)).trans e1, (h.cellAt (j * 2 + 1) (by omega)).trans e2⟩
theorem dinfo_ft : (Try.prog.info? 82).map (fun i => (i.zero, i.size, i.bytes)) = some (some (.agg #[.int .i64 0, .int .i64 0]), 2, 16) := by kernel_rfl
theorem fs_more {fs : List (Int × Int)} {j : Nat} (hj : j < fs.length) : fs.take j ++ [fs.getD j (0, 0)] = fs.take (j + 1) := by
  rw [List.take_add_one]
  congr 1
  simp [List.getD, hj]
set_option maxRecDepth 100000 in
set_option maxHeartbeats 8000000 in
theorem fates15 (v : Value) (fs : List (Int × Int)) (hl : fs.length ≤ 1000) (w : World) (h : Fts w v fs) :
    Calls Try.prog 30 #[v] w fun e w' => ∃ v', e = .returned v' ∧ Fts w' v' fs ∧ Ow w.heap.size v' ∧ Below w.heap.size w w' := by
  have HL : Hid (Fts w v fs) := h
  obtain ⟨ad, cap, rfl, k1, k2⟩ := h.len
  unfold maxLen at k2
  obtain ⟨i0, hti, hy0, hy1, hy2⟩ := info_parts dinfo_ft
  obtain ⟨n, hn⟩ : ∃ n, fs.length = n := ⟨_, rfl⟩
  have HN : Hid (fs.length = n ∧ n ≤ 1000) := ⟨hn, by omega⟩
  rw [hn] at k1 HL ⊢
  clear h hn hl
  go_enter Try.func30, Try.ntmps30
  go_upto_region 3 with fail
  go_loopw [3, 8] (fun s3 s8 wr => ∃ j : Nat, j ≤ n ∧ s8 = .int .i64 (j : Int) ∧ Hid (wr.ownsRow w.heap.size 82 2 s3 j (ftc (fs.take j)) ∧ Below w.heap.size w wr)) (fun _ s8 _ => n - (intOf s8).toNat)
  case atStart => exact ⟨0, by omega, rfl, World.ownsRow_nil _ _ _ _, Below.refl _ _⟩
  case round =>
    obtain ⟨j, hj, rfl, HW⟩ := hrel
    by_cases hlt : j < n
    · have hjI : (j : Int) < (n : Int) := by omega
      have hj0 : (0 : Int) ≤ (j : Int) := by omega
      have hjm : j < fs.length := by have := HN.out; omega
      obtain ⟨bf, of, rfl, c0, c1⟩ := HL.out.cel j hjm
      have x0 := cell_later HW.out.2 c0
      have x1 := cell_later HW.out.2 c1
      have HS := hid5 (fs_more hjm)
      obtain ⟨f, hf⟩ : ∃ f, fs.getD j (0, 0) = f := ⟨_, rfl⟩
      rw [hf] at x0 x1 HS
      obtain ⟨f1, f2⟩ := f
      dsimp only at x0 x1
      clear c0 c1 hf hjm
      go_upto_region 6 with (at_builtin; refine wpList_append_own _ rfl _ _ 66 rfl w.heap.size 82 i0 (.agg #[.int .i64 0, .int .i64 0]) 2 16 Try.underlying66 hti hy0 hy1 hy2 rfl (by decide) u3 j (ftc (fs.take j)) rfl ((own_later (own_later HW.out.1 (bel1 _ _)) (bel1 _ _))) ⟨wr.heap.size + 1, 0, none⟩ 1 1 [.int .i64 f1, .int .i64 f2] (by first | rfl | (simp [World.size_alloc]; done)) rfl (fun k u hk => by (rcases k with _ | _ | k <;> simp at hk <;> (try subst hk) <;> simp [go_sem, Addr.add])) (fun u hu => by simp only [List.mem_cons, List.not_mem_nil, or_false] at hu; rcases hu with rfl | rfl <;> rfl) (by have := HN.out; unfold maxLen; omega) (by have := HN.out; omega) (by rw [World.size_alloc, World.size_alloc]; have := HW.out.2.size; omega) ?_; intro v3 w3 hown hg3 _)
      have HW3 : Hid (w3.ownsRow w.heap.size 82 2 v3 (j + 1) (ftc (fs.take (j + 1))) ∧ Below w.heap.size w w3) := by
        refine ⟨by rw [← HS.out, ftc_app]; exact hown, ?_⟩
        exact (((HW.out.2.alloc HW.out.2.size _).alloc (by rw [World.size_alloc]; have := HW.out.2.size; omega) _)).grown hg3 (by rw [World.size_alloc, World.size_alloc]; have := HW.out.2.size; omega) (fun k hk => (HW.out.1.lt k hk).1)
      clear hown hg3 HW HS x0 x1
      go_wp2
      go_roundw
      case rel => exact ⟨j + 1, by omega, by go_num, HW3⟩
      case measure => simp [intOf]; omega
    · obtain rfl : j = n := by omega
      have hjI : ¬ (j : Int) < (j : Int) := by omega
      have HE : Hid (Fts wr u3 fs ∧ Ow w.heap.size u3) := by
        have h1 := HW.out.1
        rw [List.take_of_length_le (by have := HN.out; omega)] at h1
        have e := HN.out.1
        rw [← e] at h1
        exact own_fts h1
      go_wp2
      go_ret
      exact ⟨_, rfl, HE.out.1, HE.out.2, HW.out.2⟩
end Go.Proofs.Ytnchmnemclbfcaa
