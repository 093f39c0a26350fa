/-
  The contract of regatta/wide's Root.
-/
import Derived.Test.YtpmlpcejmndidabDoorWalkG
import Derived.Test.YtpmlpcejmndidabDoorMath4
set_option linter.unusedVariables false
set_option linter.unusedSimpArgs false
namespace Go.Proofs.YtpmlpcejmndidabDoor
open Go.RowKit

set_option maxHeartbeats 400000 in
theorem root_neg (t m l : Int) (h : t < 0) (w : World) :
    Calls Tryd.prog 33 #[.agg #[.int .i64 t, .int .u64 m, .int .u64 l]] w fun e w' => e = .returned (.tuple #[.int .i64 0, .bool true]) ∧ Below w.heap.size w w' := by
  go_enter Tryd.func33, Tryd.ntmps33
  go_wp2
  go_ret2
  exact ⟨rfl, bel1 _ _⟩
set_option maxHeartbeats 400000 in
theorem root_big (t m l : Int) (h0 : ¬ t < 0) (h : 0 < t ∨ (¬ 0 < t ∧ ¬ m < 4611686018427387904)) (w : World) :
    Calls Tryd.prog 33 #[.agg #[.int .i64 t, .int .u64 m, .int .u64 l]] w fun e w' => e = .returned (.tuple #[.int .i64 9223372036854775807, .bool true]) ∧ Below w.heap.size w w' := by
  rcases h with h | ⟨h, h'⟩
  · go_enter Tryd.func33, Tryd.ntmps33
    go_wp2
    go_ret2
    exact ⟨rfl, bel1 _ _⟩
  · have h2 : 4611686018427387904 ≤ m := by omega
    clear h'
    go_enter Tryd.func33, Tryd.ntmps33
    go_wp2
    go_ret2
    exact ⟨rfl, bel1 _ _⟩

theorem or_bit (r : Int) (k : Nat) (hk : k ≤ 62) (h0 : 0 ≤ r) (hm : r % 2 ^ (k + 1) = 0) (ht : r + 2 ^ (k + 1) ≤ 9223372036854775808) : bits .or .i64 r (2 ^ k) = r + 2 ^ k := by
  have hp := pow_pos' k
  have e2 := pow_two k
  rw [or_i64 r (2 ^ k) (k + 1) (by omega) hm (by omega) (by omega), sg_id _ (by omega) (by omega)]

set_option maxHeartbeats 1000000 in
theorem root_mid (v : Int) (v0 : 0 ≤ v) (v1 : v < 85070591730234615865843651857942052864) (w : World) :
    Calls Tryd.prog 33 #[.agg #[.int .i64 (t3 v), .int .u64 (m3 v), .int .u64 (lo v)]] w fun e w' => e = .returned (.tuple #[.int .i64 (rt v), .bool false]) ∧ Below w.heap.size w w' := by
  obtain ⟨h1, h2, h3, h4, h5⟩ := words_mid v v0 v1
  have hmh : IntKind.i64.wrap (m3 v) = hi v := by rw [IntKind.wrap_i64, h5]; have := hi_ge v; have := hi_le v; omega
  have h5' : wrap64 (m3 v) = hi v := by rw [w64, h5]; exact sg_id _ (hi_ge v) (hi_le v)
  have H5 : Hid (m3 v = hi v) := h5
  have hdm : decide (4611686018427387904 ≤ m3 v) = false := decide_eq_false (by omega)
  clear h5
  go_enter Tryd.func33, Tryd.ntmps33
  go_wp2
  have c0 : ((w.alloc (.cells #[.int .i64 (t3 v), .int .u64 (m3 v), .int .u64 (lo v)] 54)).alloc (.cells #[.int .i64 (hi v), .int .u64 (lo v)] 57)).cell? ⟨w.heap.size + 1, 0, none⟩ = some (.int .i64 (hi v)) := by simp [go_sem]
  have c1 : ((w.alloc (.cells #[.int .i64 (t3 v), .int .u64 (m3 v), .int .u64 (lo v)] 54)).alloc (.cells #[.int .i64 (hi v), .int .u64 (lo v)] 57)).cell? ⟨w.heap.size + 1, 1, none⟩ = some (.int .u64 (lo v)) := by simp [go_sem]
  clear h1 h2 h3 h4 hmh h5' hdm
  go_loopw [5, 25] (fun r i wr => ∃ (j : Nat) (x : Int), j ≤ 63 ∧ i = .int .i64 j ∧ r = .int .i64 x ∧ Hid (rt v = rtA v (63 - j) x) ∧ RtI v (63 - j) x ∧ Below w.heap.size w wr ∧ wr.cell? ⟨w.heap.size + 1, 0, none⟩ = some (.int .i64 (hi v)) ∧ wr.cell? ⟨w.heap.size + 1, 1, none⟩ = some (.int .u64 (lo v))) (fun _ i _ => 63 - (intOf i).toNat)
  case atStart => exact ⟨0, 0, by omega, rfl, rfl, rfl, RtI.start v v0 v1, bel2 _ _ _, c0, c1⟩
  case round =>
    obtain ⟨j, x, hj, rfl, rfl, hrt, hI, hW, e0, e1⟩ := hrel
    clear c0 c1
    by_cases hlt : j < 63
    · obtain ⟨k, hk⟩ : ∃ k, 63 - j = k + 1 := ⟨62 - j, by omega⟩
      have hk2 : (62 - (j : Int)).toNat = k := by omega
      rw [hk] at hrt hI
      have hk3 : k ≤ 62 := by omega
      have xo' := or_bit x k hk3 hI.low hI.mod hI.top
      have hp := pow_pos' k
      have hp2 := pow_two k
      have hx1 := hI.top
      have hx0 := hI.low
      obtain ⟨n, hn⟩ : ∃ n, x + 2 ^ k = n := ⟨_, rfl⟩
      have HN : Hid (x + 2 ^ k = n) := hn
      have n0 : 0 ≤ n := by omega
      have n1 : n ≤ 9223372036854775807 := by omega
      have xo : bits .or .i64 x (wrap64 (2 ^ k)) = n := by rw [w64, sg_id _ (by omega) (by omega), xo', hn]
      obtain ⟨s0, s1⟩ := sq_rng n n0 (by omega)
      clear xo' hp hp2 hx1 hx0 hn hk3
      by_cases hle : n * n ≤ v
      · have hc : decide (c3 (n * n) v ≤ 0) = true := by
          apply decide_eq_true
          unfold c3; split
          · omega
          · split <;> omega
        go_upto_region 11 with fail
        have q0 := fun a b => cell_regrown e0 a b
        have q1 := fun a b => cell_regrown e1 a b
        refine wp_region_quiet_below (by kernel_rfl) (by kernel_rfl) ?_
        repeat (quiet_step (first | (go_at_call 27; exact Calls.regrown_of (mul_any n n (by omega) (by omega) (by omega) (by omega) _)) | (go_at_call 57; exact Calls.regrown_of (cmp_any (n * n) v (by omega) (by omega) (by omega) (by omega) _))))
        refine wpQuiet_nil ?_
        intro wd hw'
        have hB2 : Below wr.heap.size wr wd := by obtain ⟨⟨dq, osq⟩, rfl⟩ := hw'; exact below_regrown wr dq osq
        have hW2 : Below w.heap.size w wd := hW.trans (hB2.mono hW.size)
        have g0 := cell_later hB2 e0
        have g1 := cell_later hB2 e1
        clear hw' hB2 q0 q1 e0 e1 hW xo
        try rw [hc]
        go_wp2
        go_roundw
        case rel =>
          have R : j + 1 ≤ 63 ∧ Value.int .i64 ((j : Int) + 1) = .int .i64 ((j + 1 : Nat) : Int) ∧ Value.int .i64 n = .int .i64 n ∧ Hid (rt v = rtA v (63 - (j + 1)) n) ∧ RtI v (63 - (j + 1)) n ∧ Below w.heap.size w wd ∧ wd.cell? ⟨w.heap.size + 1, 0, none⟩ = some (.int .i64 (hi v)) ∧ wd.cell? ⟨w.heap.size + 1, 1, none⟩ = some (.int .u64 (lo v)) := by
            refine ⟨by omega, by go_num, rfl, ?_, ?_, hW2, g0, g1⟩
            · show rt v = rtA v (63 - (j + 1)) n
              rw [show 63 - (j + 1) = k by omega, hrt.out]
              show rtA v k (if (x + 2 ^ k) * (x + 2 ^ k) ≤ v then x + 2 ^ k else x) = _
              rw [HN.out, if_pos hle]
            · have := hI.step
              rw [HN.out, if_pos hle] at this
              rw [show 63 - (j + 1) = k by omega]
              exact this
          first
            | exact ⟨j + 1, n, R⟩
            | ((repeat apply Exists.intro); exact ⟨⟨j + 1, n, R⟩, rfl⟩)
        case measure => simp [intOf]; omega
      · have hc : decide (c3 (n * n) v ≤ 0) = false := by
          apply decide_eq_false
          unfold c3; split
          · omega
          · split <;> omega
        go_upto_region 11 with fail
        have q0 := fun a b => cell_regrown e0 a b
        have q1 := fun a b => cell_regrown e1 a b
        refine wp_region_quiet_below (by kernel_rfl) (by kernel_rfl) ?_
        repeat (quiet_step (first | (go_at_call 27; exact Calls.regrown_of (mul_any n n (by omega) (by omega) (by omega) (by omega) _)) | (go_at_call 57; exact Calls.regrown_of (cmp_any (n * n) v (by omega) (by omega) (by omega) (by omega) _))))
        refine wpQuiet_nil ?_
        intro wd hw'
        have hB2 : Below wr.heap.size wr wd := by obtain ⟨⟨dq, osq⟩, rfl⟩ := hw'; exact below_regrown wr dq osq
        have hW2 : Below w.heap.size w wd := hW.trans (hB2.mono hW.size)
        have g0 := cell_later hB2 e0
        have g1 := cell_later hB2 e1
        clear hw' hB2 q0 q1 e0 e1 hW xo
        try rw [hc]
        go_wp2
        go_roundw
        case rel =>
          have R : j + 1 ≤ 63 ∧ Value.int .i64 ((j : Int) + 1) = .int .i64 ((j + 1 : Nat) : Int) ∧ Value.int .i64 x = .int .i64 x ∧ Hid (rt v = rtA v (63 - (j + 1)) x) ∧ RtI v (63 - (j + 1)) x ∧ Below w.heap.size w wd ∧ wd.cell? ⟨w.heap.size + 1, 0, none⟩ = some (.int .i64 (hi v)) ∧ wd.cell? ⟨w.heap.size + 1, 1, none⟩ = some (.int .u64 (lo v)) := by
            refine ⟨by omega, by go_num, rfl, ?_, ?_, hW2, g0, g1⟩
            · show rt v = rtA v (63 - (j + 1)) x
              rw [show 63 - (j + 1) = k by omega, hrt.out]
              show rtA v k (if (x + 2 ^ k) * (x + 2 ^ k) ≤ v then x + 2 ^ k else x) = _
              rw [HN.out, if_neg hle]
            · have := hI.step
              rw [HN.out, if_neg hle] at this
              rw [show 63 - (j + 1) = k by omega]
              exact this
          first
            | exact ⟨j + 1, x, R⟩
            | ((repeat apply Exists.intro); exact ⟨⟨j + 1, x, R⟩, rfl⟩)
        case measure => simp [intOf]; omega
    · have ej : j = 63 := by omega
      subst ej
      have HE : Hid (rt v = x) := hrt
      clear hrt hI e0 e1
      go_wp2
      go_ret2
      exact ⟨by rw [HE.out]; rfl, hW⟩
end Go.Proofs.YtpmlpcejmndidabDoor
