/-
  The contract of regattaref02's Root.
-/
import Derived.Test.YtpmlpcejmndidabDoorSWalkI
set_option linter.unusedVariables false
set_option linter.unusedSimpArgs false
namespace Go.Proofs.YtpmlpcejmndidabDoor
open Go.RowKit

theorem root_digits (m : Int) (m0 : 0 ≤ m) (m1 : m < 6277101735386680763835789423207666416102355444464034512896) :
    (m < 85070591730234615865843651857942052864 → dg m 4 = 0 ∧ dg m 5 = 0 ∧ dg m 3 < 1073741824) ∧ (85070591730234615865843651857942052864 ≤ m → ¬ dg m 4 = 0 ∨ (dg m 4 = 0 ∧ ¬ dg m 5 = 0) ∨ (dg m 4 = 0 ∧ dg m 5 = 0 ∧ 1073741824 ≤ dg m 3)) := by
  have e3 : dg m 3 = m / 79228162514264337593543950336 % 4294967296 := rfl
  have e4 : dg m 4 = m / 340282366920938463463374607431768211456 % 4294967296 := rfl
  have e5 : dg m 5 = m / 1461501637330902918203684832716283019655932542976 % 4294967296 := rfl
  rw [e3, e4, e5]
  have x1 : m / 340282366920938463463374607431768211456 = m / 79228162514264337593543950336 / 4294967296 := by omega
  have x2 : m / 1461501637330902918203684832716283019655932542976 = m / 79228162514264337593543950336 / 4294967296 / 4294967296 := by omega
  rw [x1, x2]
  have y0 : 0 ≤ m / 79228162514264337593543950336 := by omega
  have y1 : m / 79228162514264337593543950336 < 79228162514264337593543950336 := by omega
  have y2 : m < 85070591730234615865843651857942052864 → m / 79228162514264337593543950336 < 1073741824 := by omega
  have y3 : 85070591730234615865843651857942052864 ≤ m → 1073741824 ≤ m / 79228162514264337593543950336 := by omega
  generalize m / 79228162514264337593543950336 = z at *
  constructor
  · intro h
    have := y2 h
    omega
  · intro h
    have := y3 h
    omega

set_option maxHeartbeats 2000000 in
theorem sroot_any (p q V B : Int) (hS : Sm p q V B) (hB : B < 3138550867693340381917894711603833208051177722232017256448) (w : World) :
    Calls Tryd.prog 44 #[.agg #[.int .u64 (dg (p) 0), .int .u64 (dg (p) 1), .int .u64 (dg (p) 2), .int .u64 (dg (p) 3), .int .u64 (dg (p) 4), .int .u64 (dg (p) 5), .int .u64 (dg (q) 0), .int .u64 (dg (q) 1), .int .u64 (dg (q) 2), .int .u64 (dg (q) 3), .int .u64 (dg (q) 4), .int .u64 (dg (q) 5)]] w fun e w' => e = .returned (.tuple #[.int .i64 (if V < 0 then 0 else if 85070591730234615865843651857942052864 ≤ V then 9223372036854775807 else rt V), .bool (if V < 0 then true else if 85070591730234615865843651857942052864 ≤ V then true else false)]) ∧ Below w.heap.size w w' := by
  obtain ⟨p0, q0, p1, q1, hv⟩ := hS
  have W0 := bel1 w (.cells #[.int .u64 (dg (p) 0), .int .u64 (dg (p) 1), .int .u64 (dg (p) 2), .int .u64 (dg (p) 3), .int .u64 (dg (p) 4), .int .u64 (dg (p) 5), .int .u64 (dg (q) 0), .int .u64 (dg (q) 1), .int .u64 (dg (q) 2), .int .u64 (dg (q) 3), .int .u64 (dg (q) 4), .int .u64 (dg (q) 5)] 73)
  have hM : ab V < 3138550867693340381917894711603833208051177722232017256448 := by unfold ab; split <;> omega
  have hM0 := ab_ge' V
  have SWH : Hid (∀ W : World, Calls Tryd.prog 61 #[.agg #[.int .u64 (dg (p) 0), .int .u64 (dg (p) 1), .int .u64 (dg (p) 2), .int .u64 (dg (p) 3), .int .u64 (dg (p) 4), .int .u64 (dg (p) 5), .int .u64 (dg (q) 0), .int .u64 (dg (q) 1), .int .u64 (dg (q) 2), .int .u64 (dg (q) 3), .int .u64 (dg (q) 4), .int .u64 (dg (q) 5)]] W fun e w' => e = .returned (.tuple #[.agg #[.int .u64 (dg (ab V) 0), .int .u64 (dg (ab V) 1), .int .u64 (dg (ab V) 2), .int .u64 (dg (ab V) 3), .int .u64 (dg (ab V) 4), .int .u64 (dg (ab V) 5)], .bool (decide (V < 0))]) ∧ Below W.heap.size W w') := by
    intro W
    rw [← hv]
    exact swhole_any p q p0 (by omega) q0 (by omega) W
  clear p0 q0 p1 q1 hv
  by_cases hn : V < 0
  · rw [if_pos hn, if_pos hn]
    rw [decide_eq_true hn] at SWH
    go_enter Tryd.func44, Tryd.ntmps44
    go_wp2_with fail
    refine (SWH.out _).mono ?_
    rintro e w1 ⟨rfl, hb⟩
    have W1 := bchain (bchain W0 hb) (bel1 w1 (.cells #[.int .u64 (dg (ab V) 0), .int .u64 (dg (ab V) 1), .int .u64 (dg (ab V) 2), .int .u64 (dg (ab V) 3), .int .u64 (dg (ab V) 4), .int .u64 (dg (ab V) 5)] 71))
    clear hb W0 SWH
    go_wp2
    go_ret2
    exact ⟨rfl, W1⟩
  · rw [if_neg hn, if_neg hn]
    have eV : ab V = V := by unfold ab; rw [if_neg hn]
    rw [decide_eq_false hn, eV] at SWH
    rw [eV] at hM hM0
    clear eV hn
    have v2 : V < 6277101735386680763835789423207666416102355444464034512896 := by omega
    obtain ⟨z0, z1⟩ := dg_rng V 3
    go_enter Tryd.func44, Tryd.ntmps44
    go_wp2_with fail
    refine (SWH.out _).mono ?_
    rintro e w1 ⟨rfl, hb⟩
    have D1 := B6.new w1 (dg V) 71
    have W1 := bchain (bchain W0 hb) (bel1 w1 (.cells #[.int .u64 (dg (V) 0), .int .u64 (dg (V) 1), .int .u64 (dg (V) 2), .int .u64 (dg (V) 3), .int .u64 (dg (V) 4), .int .u64 (dg (V) 5)] 71))
    clear hb W0 SWH
    go_upto_region 2 with fail
    generalize w1.alloc (.cells #[.int .u64 (dg (V) 0), .int .u64 (dg (V) 1), .int .u64 (dg (V) 2), .int .u64 (dg (V) 3), .int .u64 (dg (V) 4), .int .u64 (dg (V) 5)] 71) = w2 at *
    generalize w1.heap.size = d at *
    have hd := root_digits V hM0 v2
    have x3 := D1.c 3 (by omega)
    have x4 := D1.c 4 (by omega)
    have x5 := D1.c 5 (by omega)
    by_cases hbig : 85070591730234615865843651857942052864 ≤ V
    · have HV : Hid ((if 85070591730234615865843651857942052864 ≤ V then 9223372036854775807 else rt V) = 9223372036854775807 ∧ (if 85070591730234615865843651857942052864 ≤ V then true else false) = true) := ⟨if_pos hbig, if_pos hbig⟩
      rcases hd.2 hbig with g | ⟨g4, g⟩ | ⟨g4, g5, g⟩
      all_goals
        clear hd D1
        go_wp2
        go_ret2
        exact ⟨by first | rfl | (rw [HV.out.1, HV.out.2]; rfl), W1⟩
    · have HV : Hid ((if 85070591730234615865843651857942052864 ≤ V then 9223372036854775807 else rt V) = rt V ∧ (if 85070591730234615865843651857942052864 ≤ V then true else false) = false) := ⟨if_neg hbig, if_neg hbig⟩
      obtain ⟨g4, g5, g3⟩ := hd.1 (by omega)
      have v1 : V < 85070591730234615865843651857942052864 := by omega
      clear hd
      go_wp2
      clear x3 x4 x5 g4 g5 g3 hbig
      go_loopw [6, 7] (fun r i wr => ∃ x : Int, r = .int .u64 x ∧ B6 d (dg V) wr ∧ Below w.heap.size w wr ∧ ((∃ k : Nat, k < 63 ∧ i = .int .i64 (k : Int) ∧ Hid (rt V = rtA V (k + 1) x) ∧ RtI V (k + 1) x) ∨ (i = .int .i64 (-1) ∧ Hid (rt V = x) ∧ 0 ≤ x ∧ x ≤ 9223372036854775807))) (fun _ i _ => (intOf i + 1).toNat)
      case atStart => exact ⟨0, rfl, D1, W1, .inl ⟨62, by omega, rfl, rfl, RtI.start V hM0 v1⟩⟩
      case round =>
        clear D1 W1
        obtain ⟨x, rfl, hD, hW, hrel⟩ := hrel
        rcases hrel with ⟨k, hk, rfl, hrt, hI⟩ | ⟨rfl, hrt, x0, x1⟩
        · have hp := pow_pos' k
          have hp2 := pow_two k
          have hx1 := hI.top
          have hx0 := hI.low
          have hk0 : (0 : Int) ≤ (k : Int) := by omega
          obtain ⟨n, hn⟩ : ∃ n, x + 2 ^ k = n := ⟨_, rfl⟩
          have HN : Hid (x + 2 ^ k = n) := hn
          have n0 : 0 ≤ n := by omega
          have n1 : n ≤ 9223372036854775807 := by omega
          have kw := wrap_small (2 ^ k) (by omega) (by omega)
          have kn : IntKind.u64.wrap (x + 2 ^ k) = n := by rw [wrap_small _ (by omega) (by omega)]; exact hn
          obtain ⟨s0, s1⟩ := sq_rng n n0 (by omega)
          clear hp hp2 hx1 hx0 hn
          go_upto_region 11 with fail
          have z0' := fun a b => cell_regrown (hD.c 0 (by omega)) a b
          have z1' := fun a b => cell_regrown (hD.c 1 (by omega)) a b
          have z2' := fun a b => cell_regrown (hD.c 2 (by omega)) a b
          have z3' := fun a b => cell_regrown (hD.c 3 (by omega)) a b
          have z4' := fun a b => cell_regrown (hD.c 4 (by omega)) a b
          have z5' := fun a b => cell_regrown (hD.c 5 (by omega)) a b
          by_cases hle : n * n ≤ V
          · have hlt : decide (V < n * n) = false := decide_eq_false (by omega)
            refine wp_region_quiet_below (by kernel_rfl) (by kernel_rfl) ?_
            repeat (quiet_step (first | (go_at_call 64; exact Calls.regrown_of (sproduct_any n n n0 (by omega) n0 (by omega) _)) | (go_at_call 65; exact Calls.regrown_of (sless_any V (n * n) hM0 v2 s0 (by omega) _))))
            refine wpQuiet_nil ?_
            intro wd hw'
            have hB2 : Below wr.heap.size wr wd := by obtain ⟨⟨dq, osq⟩, rfl⟩ := hw'; exact below_regrown wr dq osq
            have D2 := hD.later hB2
            have W2 := bchain hW hB2
            clear hw' hB2 hD hW z0' z1' z2' z3' z4' z5' kw kn
            try rw [hlt]
            go_wp2
            go_roundw
            case rel =>
              have hI' := hI.step
              rw [HN.out, if_pos hle] at hI'
              have hrt' : rt V = rtA V k n := by
                rw [hrt.out]
                show rtA V k (if (x + 2 ^ k) * (x + 2 ^ k) ≤ V then x + 2 ^ k else x) = _
                rw [HN.out, if_pos hle]
              refine ⟨n, rfl, D2, W2, ?_⟩
              by_cases hk0 : k = 0
              · subst hk0
                exact .inr ⟨rfl, hrt', n0, n1⟩
              · obtain ⟨k', rfl⟩ : ∃ k', k = k' + 1 := ⟨k - 1, by omega⟩
                exact .inl ⟨k', by omega, by rw [show ((k' + 1 : Nat) : Int) - 1 = (k' : Int) by omega], hrt', hI'⟩
            case measure => first | (simp [intOf]; done) | (simp [intOf]; omega)
          · have hlt : decide (V < n * n) = true := decide_eq_true (by omega)
            refine wp_region_quiet_below (by kernel_rfl) (by kernel_rfl) ?_
            repeat (quiet_step (first | (go_at_call 64; exact Calls.regrown_of (sproduct_any n n n0 (by omega) n0 (by omega) _)) | (go_at_call 65; exact Calls.regrown_of (sless_any V (n * n) hM0 v2 s0 (by omega) _))))
            refine wpQuiet_nil ?_
            intro wd hw'
            have hB2 : Below wr.heap.size wr wd := by obtain ⟨⟨dq, osq⟩, rfl⟩ := hw'; exact below_regrown wr dq osq
            have D2 := hD.later hB2
            have W2 := bchain hW hB2
            have xl := hI.low
            have xt := hI.top
            have xp := pow_pos' (k + 1)
            clear hw' hB2 hD hW z0' z1' z2' z3' z4' z5' kw kn
            try rw [hlt]
            go_wp2
            go_roundw
            case rel =>
              have hI' := hI.step
              rw [HN.out, if_neg hle] at hI'
              have hrt' : rt V = rtA V k x := by
                rw [hrt.out]
                show rtA V k (if (x + 2 ^ k) * (x + 2 ^ k) ≤ V then x + 2 ^ k else x) = _
                rw [HN.out, if_neg hle]
              refine ⟨x, rfl, D2, W2, ?_⟩
              by_cases hk0 : k = 0
              · subst hk0
                exact .inr ⟨rfl, hrt', xl, by omega⟩
              · obtain ⟨k', rfl⟩ : ∃ k', k = k' + 1 := ⟨k - 1, by omega⟩
                exact .inl ⟨k', by omega, by rw [show ((k' + 1 : Nat) : Int) - 1 = (k' : Int) by omega], hrt', hI'⟩
            case measure => first | (simp [intOf]; done) | (simp [intOf]; omega)
        · have k1 : IntKind.i64.wrap x = x := by rw [IntKind.wrap_i64]; omega
          clear hD
          go_wp2
          go_ret2
          exact ⟨by first | (rw [HV.out.1, HV.out.2, hrt.out]; rfl) | (rw [hrt.out]; rfl), hW⟩
end Go.Proofs.YtpmlpcejmndidabDoor
