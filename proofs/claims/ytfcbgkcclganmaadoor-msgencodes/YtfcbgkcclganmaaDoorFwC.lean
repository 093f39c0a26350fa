/-
  The program's frame: Seal.
-/
import Derived.Test.YtfcbgkcclganmaaDoorFwB
set_option linter.unusedVariables false
set_option linter.unusedSimpArgs false
namespace Go.Proofs.YtfcbgkcclganmaaDoor
open Go.RowKit

/-- The sum of one text. -/
theorem ofOne (w : World) (ad : Option Addr) (n cap : Nat) (l : List Nat) (t : TypeId) (h : Bs w (.slice ad n cap) l) (hn : l.length = n) (hb : ∀ c ∈ l, c < 256) (hl : l.length ≤ 100000) (hT : TbAt w) :
    Calls Tryd.prog 37 #[.slice (some ⟨w.heap.size, 0, none⟩) 1 1] (w.alloc (.cells #[.slice ad n cap] t)) fun e w' => e = .returned (.int .u32 ((sm l : Nat) : Int)) ∧ Below w.heap.size w w' := by
  subst hn
  exact (of11 _ 1 _ _ _ (by omega) (fun _ => hl) (fun _ k => getD_byte hb k) (hT.later (bel1 _ _)) (lb_one w ad l.length cap (fun k => l.getD k 0) t (bs_ls h))).mono fun e w' h => ⟨h.1, bchain (bel1 _ _) h.2⟩
theorem idxA (xs : Array Value) (v : Value) (j : Nat) (h : j < 3) (hx : xs[j]? = some v) (W : World) : (Instr.index 75 (.agg xs) (.int .i64 (j : Int))).run Tryd.prog W = .ok v W := by
  have p := run_part_plain (P := Tryd.prog) (e := 5) W (by kernel_rfl) hx
  have hz := Tryd.sizeOf5 W
  have h1 : (0 : Int) ≤ (j : Int) ∧ (j : Int) < ((3 : Nat) : Int) := by omega
  simp only [Instr.index, asIntOf, Sem.run_bind, Sem.run_pure, Result.andThen_ok, run_underlying Tryd.underlying75, if_pos h1, hz, Int.toNat_natCast, Nat.mul_one, p]
theorem make_cap (c : Nat) (hc : c ≤ 2000000) (w : World) : ∃ w', (Instr.makeSlice 22 (.int .i64 0) (.int .i64 (c : Int))).run Tryd.prog w = .ok (.slice (some ⟨w.heap.size, 0, none⟩) 0 c) w' ∧ Ob w.heap.size w' (.slice (some ⟨w.heap.size, 0, none⟩) 0 c) [] ∧ Below w.heap.size w w' := by
  obtain ⟨i0, hti, hi0, hi1, hi2⟩ := byteInfo
  obtain ⟨w', h1, h2, h3⟩ := run_make_own (P := Tryd.prog) w w.heap.size 22 5 i0 (.int .u8 0) 1 Tryd.underlying22 hti hi0 hi1 .i64 .i64 c (by rw [hi2]; omega) (by unfold maxLen; omega) (Nat.le_refl _)
  exact ⟨w', h1, h2, (Below.refl _ _).grown h3 (Nat.le_refl _) (fun k hk => by cases hk)⟩
set_option maxRecDepth 100000 in
set_option maxHeartbeats 4000000 in
theorem sealKind13 (w : World) (k : Int) (v : Value) (l : List Nat) (hk : k < 1 ∨ 255 < k) (h : Bs w v l) (hT : FT w) :
    Calls Tryd.prog 18 #[.int .i64 k, v] w fun e w' => ∃ v', e = .returned (.tuple #[v', .int .i64 133]) ∧ Bs w' v' [] ∧ Below w.heap.size w w' := by
  clear h hT
  by_cases q : k < 1
  · clear hk
    go_enter Tryd.func18, Tryd.ntmps18
    go_wp2
    go_ret2
    exact ⟨_, rfl, (ob_nil 0 _).bs.1, Below.refl _ _⟩
  · have q2 : 255 < k := by omega
    clear hk
    go_enter Tryd.func18, Tryd.ntmps18
    go_wp2
    go_ret2
    exact ⟨_, rfl, (ob_nil 0 _).bs.1, Below.refl _ _⟩
set_option maxRecDepth 100000 in
set_option maxHeartbeats 4000000 in
theorem sealSize13 (w : World) (k : Nat) (v : Value) (l : List Nat) (h1 : 1 ≤ k) (h2 : k ≤ 255) (h : Bs w v l) (hl : 65536 < l.length) (hT : FT w) :
    Calls Tryd.prog 18 #[.int .i64 (k : Int), v] w fun e w' => ∃ v', e = .returned (.tuple #[v', .int .i64 134]) ∧ Bs w' v' [] ∧ Below w.heap.size w w' := by
  obtain ⟨ad, cap, rfl, k1, k2⟩ := h.len
  unfold maxLen at k2
  clear h hT
  have q1 : ¬ (k : Int) < 1 := by omega
  have q2 : ¬ 255 < (k : Int) := by omega
  have q3 : (65536 : Int) < (l.length : Int) := by omega
  generalize l.length = n at *
  go_enter Tryd.func18, Tryd.ntmps18
  go_wp2
  go_ret2
  exact ⟨_, rfl, (ob_nil 0 _).bs.1, Below.refl _ _⟩
set_option maxRecDepth 100000 in
set_option maxHeartbeats 4000000 in
theorem sealOk13 (w : World) (k : Nat) (v : Value) (l : List Nat) (h1 : 1 ≤ k) (h2 : k ≤ 255) (h : Bs w v l) (hb : ∀ c ∈ l, c < 256) (hl : l.length ≤ 65536) (hT : FT w) :
    Calls Tryd.prog 18 #[.int .i64 (k : Int), v] w fun e w' => ∃ v', e = .returned (.tuple #[v', .int .i64 0]) ∧ Ob w.heap.size w' v' (fsl k l) ∧ Below w.heap.size w w' := by
  have HL : Hid (Bs w v l) := h
  have HB : Hid (∀ c ∈ l, c < 256) := hb
  have HT : Hid (FT w) := hT
  obtain ⟨ad, cap, rfl, k1, k2⟩ := h.len
  unfold maxLen at k2
  obtain ⟨n, hn⟩ : ∃ n, l.length = n := ⟨_, rfl⟩
  have HN : Hid (l.length = n) := hn
  rw [hn] at k1 hl HL ⊢
  have q1 : ¬ (k : Int) < 1 := by omega
  have q2 : ¬ 255 < (k : Int) := by omega
  have q3 : ¬ (65536 : Int) < (n : Int) := by omega
  obtain ⟨c, hc⟩ : ∃ c, 8 + n + 4 = c := ⟨_, rfl⟩
  have hc1 : IntKind.i64.wrap (8 + (n : Int)) = 8 + (n : Int) := by rw [IntKind.wrap_i64]; omega
  have hc2 : IntKind.i64.wrap (8 + (n : Int) + 4) = (c : Int) := by rw [IntKind.wrap_i64]; omega
  obtain ⟨w1, hmk, hO1, hB1⟩ := make_cap c (by omega) w
  have HO1 : Hid (Ob w.heap.size w1 (.slice (some ⟨w.heap.size, 0, none⟩) 0 c) [] ∧ Below w.heap.size w w1) := ⟨hO1, hB1⟩
  have g0 : w1.cell? ⟨0, 0, none⟩ = some (.int .u8 82) := (hT.later hB1).ah 0 (by omega)
  have g1 : w1.cell? ⟨0, 1, none⟩ = some (.int .u8 71) := (hT.later hB1).ah 1 (by omega)
  have g2 : w1.cell? ⟨0, 2, none⟩ = some (.int .u8 1) := (hT.later hB1).ah 2 (by omega)
  have hwk : IntKind.u8.wrap (k : Int) = (k : Int) := by rw [IntKind.wrap_u8]; omega
  have hwn : IntKind.u32.wrap (n : Int) = (n : Int) := by rw [IntKind.wrap_u32]; omega
  clear h hn hb hT hc hO1 hB1
  go_enter Tryd.func18, Tryd.ntmps18
  go_upto_region 7 with fail
  go_loopw [6, 26] (fun s6 s26 wr => ∃ j : Nat, j ≤ 3 ∧ s26 = .int .i64 (j : Int) ∧ Hid (Ob w.heap.size wr s6 (ahd.take j) ∧ Below w.heap.size w wr)) (fun _ s26 _ => 3 - (intOf s26).toNat)
  case atStart => exact ⟨0, by omega, rfl, HO1.out.1, HO1.out.2⟩
  case round =>
    obtain ⟨j, hj, rfl, HW⟩ := hrel
    clear HO1 g0 g1 g2 hmk
    by_cases hlt : j < 3
    · have hcs : j = 0 ∨ j = 1 ∨ j = 2 := by omega
      rcases hcs with rfl | rfl | rfl
      · have HA : Hid (ahd.take 0 ++ [82] = ahd.take (0 + 1) ∧ (ahd.take 0).length ≤ 3) := ⟨rfl, by decide⟩
        have xi : (Instr.index 75 (.agg #[.int .u8 82, .int .u8 71, .int .u8 1]) (.int .i64 0)).run Tryd.prog wr = .ok (.int .u8 82) wr := idxA _ _ 0 (by omega) rfl wr
        go_upto_region 10 with (at_builtin; refine apB rfl _ _ rfl w.heap.size u6 (ahd.take 0) rfl (HW.out.1.later (bel1 _ _)) _ [82] rfl (bs_one wr 82 _) (by have := HA.out.2; rw [List.length_singleton]; omega) (by rw [World.size_alloc]; have := HW.out.2.size; omega) ?_; intro v2 w2 hO2 hg2)
        have HW2 : Hid (Ob w.heap.size w2 v2 (ahd.take (0 + 1)) ∧ Below w.heap.size w w2) := ⟨by rw [← HA.out.1]; exact hO2, hg2.1 _ (HW.out.2.alloc HW.out.2.size _)⟩
        clear hO2 hg2 HW xi
        go_wp2
        go_roundw
        case rel => exact ⟨1, by omega, by first | rfl | go_num, HW2⟩
        case measure => first | (simp [intOf]; done) | (simp [intOf]; omega)
      · have HA : Hid (ahd.take 1 ++ [71] = ahd.take (1 + 1) ∧ (ahd.take 1).length ≤ 3) := ⟨rfl, by decide⟩
        have xi : (Instr.index 75 (.agg #[.int .u8 82, .int .u8 71, .int .u8 1]) (.int .i64 1)).run Tryd.prog wr = .ok (.int .u8 71) wr := idxA _ _ 1 (by omega) rfl wr
        go_upto_region 10 with (at_builtin; refine apB rfl _ _ rfl w.heap.size u6 (ahd.take 1) rfl (HW.out.1.later (bel1 _ _)) _ [71] rfl (bs_one wr 71 _) (by have := HA.out.2; rw [List.length_singleton]; omega) (by rw [World.size_alloc]; have := HW.out.2.size; omega) ?_; intro v2 w2 hO2 hg2)
        have HW2 : Hid (Ob w.heap.size w2 v2 (ahd.take (1 + 1)) ∧ Below w.heap.size w w2) := ⟨by rw [← HA.out.1]; exact hO2, hg2.1 _ (HW.out.2.alloc HW.out.2.size _)⟩
        clear hO2 hg2 HW xi
        go_wp2
        go_roundw
        case rel => exact ⟨2, by omega, by first | rfl | go_num, HW2⟩
        case measure => first | (simp [intOf]; done) | (simp [intOf]; omega)
      · have HA : Hid (ahd.take 2 ++ [1] = ahd.take (2 + 1) ∧ (ahd.take 2).length ≤ 3) := ⟨rfl, by decide⟩
        have xi : (Instr.index 75 (.agg #[.int .u8 82, .int .u8 71, .int .u8 1]) (.int .i64 2)).run Tryd.prog wr = .ok (.int .u8 1) wr := idxA _ _ 2 (by omega) rfl wr
        go_upto_region 10 with (at_builtin; refine apB rfl _ _ rfl w.heap.size u6 (ahd.take 2) rfl (HW.out.1.later (bel1 _ _)) _ [1] rfl (bs_one wr 1 _) (by have := HA.out.2; rw [List.length_singleton]; omega) (by rw [World.size_alloc]; have := HW.out.2.size; omega) ?_; intro v2 w2 hO2 hg2)
        have HW2 : Hid (Ob w.heap.size w2 v2 (ahd.take (2 + 1)) ∧ Below w.heap.size w w2) := ⟨by rw [← HA.out.1]; exact hO2, hg2.1 _ (HW.out.2.alloc HW.out.2.size _)⟩
        clear hO2 hg2 HW xi
        go_wp2
        go_roundw
        case rel => exact ⟨3, by omega, by first | rfl | go_num, HW2⟩
        case measure => first | (simp [intOf]; done) | (simp [intOf]; omega)
    · obtain rfl : j = 3 := by omega
      obtain ⟨ad3, cap3, e3⟩ := HW.out.1.sl
      subst e3
      have HW3 : Hid (Ob w.heap.size wr (.slice ad3 3 cap3) [82, 71, 1] ∧ Below w.heap.size w wr) := HW.out
      have HX : Hid ([82, 71, 1] ++ [k] = [82, 71, 1, k]) := rfl
      have hl3 : (ahd.take 3).length = 3 := rfl
      rw [hl3]
      clear HW hl3
      go_upto_region 12 with (at_builtin; refine apB rfl _ _ rfl w.heap.size _ [82, 71, 1] rfl (HW3.out.1.later (bel1 _ _)) _ [k] rfl (bs_one wr k _) (by simp) (by rw [World.size_alloc]; have := HW3.out.2.size; omega) ?_; intro v4 w4 hO4 hg4; rw [HX.out] at hO4; obtain ⟨ad4, cap4, rfl⟩ := hO4.sl)
      have HO4 : Hid (Ob w.heap.size w4 (.slice ad4 4 cap4) [82, 71, 1, k] ∧ Below w.heap.size w w4) := ⟨hO4, hg4.1 _ (HW3.out.2.alloc HW3.out.2.size _)⟩
      clear hO4 hg4 HW3
      go_wp2_with fail
      refine (withNumber_any w4 w.heap.size _ _ n HO4.out.1 HO4.out.2.size (by simp) (by omega)).mono ?_
      rintro e w5 ⟨v5, rfl, hO5, hg5⟩
      obtain ⟨X, hX⟩ : ∃ X, [82, 71, 1, k] ++ four n = X := ⟨_, rfl⟩
      have HXl : Hid (X.length = 8) := by
        show _ = _
        rw [← hX]
        rfl
      have HE : Hid (X ++ l = hd k l) := by
        show _ = _
        rw [← hX]
        unfold hd
        rw [HN.out]
        simp
      rw [hX] at hO5
      obtain ⟨ad5, cap5, rfl⟩ := hO5.sl
      have HO5 : Hid (Ob w.heap.size w5 (.slice ad5 X.length cap5) X ∧ Below w.heap.size w w5) := ⟨hO5, hg5.1 _ HO4.out.2⟩
      clear hO5 hg5 HO4 hX HX
      go_upto_region 14 with (at_builtin; refine apB rfl _ _ rfl w.heap.size _ X rfl HO5.out.1 _ l rfl (HL.out.later HO5.out.2) (by have := HN.out; have := HXl.out; omega) HO5.out.2.size ?_; intro v6 w6 hO6 hg6; rw [HE.out] at hO6; obtain ⟨ad6, cap6, rfl⟩ := hO6.sl)
      have HO6 : Hid (Ob w.heap.size w6 (.slice ad6 (hd k l).length cap6) (hd k l) ∧ Below w.heap.size w w6) := ⟨hO6, hg6.1 _ HO5.out.2⟩
      have HLH : Hid ((hd k l).length ≤ 80000 ∧ (∀ c ∈ hd k l, c < 256)) := ⟨by rw [hd_len, HN.out]; omega, hd_byte (by omega) HB.out (by have := HN.out; omega)⟩
      clear hO6 hg6 HO5 HXl HE
      have HFS : Hid (fsl k l = hd k l ++ four (sm (hd k l))) := rfl
      generalize hd k l = H at *
      obtain ⟨hlen, hhl⟩ : ∃ hlen, H.length = hlen := ⟨_, rfl⟩
      have HHL : Hid (H.length = hlen) := hhl
      rw [hhl] at HO6 ⊢
      clear hhl
      go_wp2_with fail
      refine (ofOne w6 ad6 hlen cap6 H _ HO6.out.1.bs.1 HHL.out HLH.out.2 (by have := HLH.out.1; omega) (HT.out.later HO6.out.2).tb).mono ?_
      rintro e w7 ⟨rfl, hB7⟩
      have HO7 : Hid (Ob w.heap.size w7 (.slice ad6 hlen cap6) H ∧ Below w.heap.size w w7) := ⟨HO6.out.1.later hB7, bchain HO6.out.2 hB7⟩
      clear hB7 HO6
      go_wp2_with fail
      refine (withNumber_any w7 w.heap.size _ H (sm H) HO7.out.1 HO7.out.2.size (by have := HLH.out.1; omega) (sm_lt _)).mono ?_
      rintro e w8 ⟨v8, rfl, hO8, hg8⟩
      have HO8 : Hid (Ob w.heap.size w8 v8 (H ++ four (sm H)) ∧ Below w.heap.size w w8) := ⟨hO8, hg8.1 _ HO7.out.2⟩
      clear hO8 hg8 HO7
      go_wp2
      go_ret2
      exact ⟨_, rfl, by rw [HFS.out]; exact HO8.out.1, HO8.out.2⟩
end Go.Proofs.YtfcbgkcclganmaaDoor
