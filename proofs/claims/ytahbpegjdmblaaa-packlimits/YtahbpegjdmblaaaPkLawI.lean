/-
  The law PackLimits.
-/
import Derived.Test.YtahbpegjdmblaaaPkLawE
set_option linter.unusedVariables false
set_option linter.unusedSimpArgs false
namespace Go.Proofs.Ytahbpegjdmblaaa
open Go.RowKit

theorem make_by12 (n : Nat) (hn : n ≤ 2000000) (w : World) : (Instr.makeSlice 26 (.int .i64 (n : Int)) (.int .i64 (n : Int))).run Try.prog w = .ok (.slice (some ⟨w.heap.size, 0, none⟩) n n) (w.alloc (.cells (madeCells #[.int .u8 0] n) 5)) := by
  obtain ⟨i0, hi, hz0, hz1, hz2⟩ := info_parts dinfo_byte
  have h := run_make (P := Try.prog) w 26 5 i0 (.int .u8 0) Try.underlying26 hi hz0 .i64 .i64 (n : Int) (n : Int) (by omega) (by omega) (by rw [hz2]; omega) (by omega)
  rw [hz1, Nat.mul_one] at h
  exact h
theorem bs_made (w : World) (n : Nat) (hn : n ≤ 2000000) : Bs (w.alloc (.cells (madeCells #[.int .u8 0] n) 5)) (.slice (some ⟨w.heap.size, 0, none⟩) n n) (List.replicate n 0) := by
  have hr := Rw.made w (.int .u8 0) n 5
  refine ⟨_, n, w.heap.size, 0, by rw [List.length_replicate], by rw [List.length_replicate]; exact Nat.le_refl _, ⟨by unfold maxLen; omega, fun e => by cases e⟩, fun _ => rfl, fun k hk => ?_⟩
  rw [List.length_replicate] at hk
  rw [Nat.zero_add, hr.c k hk]
  simp [b8f, List.getD, hk]
theorem en_three {n : Nat} (h1 : 16384 ≤ n) (h2 : n < 2097152) : (enU n).length = 3 := by
  rw [enU_ge (by omega), enU_ge (by omega), enU_lt (by omega)]
  rfl
set_option maxRecDepth 100000 in
set_option maxHeartbeats 8000000 in
theorem packLimits_any (V : Pack1) (n : Int) (w : World) :
    Calls Try.prog 8 #[.int .i64 n] w fun e w' => e = .returned (.bool true) ∧ Below w.heap.size w w' := by
  go_enter Try.func8, Try.ntmps8
  go_wp2_with fail
  refine (awake12 V w).mono ?_
  rintro e w1 ⟨rfl, hb1⟩
  have HB1 : Hid (Below w.heap.size w w1) := hb1
  have hs1 : w.heap.size ≤ w1.heap.size := hb1.size
  clear hb1
  by_cases q1 : n < 1048568
  · go_wp2
    go_ret
    exact ⟨rfl, HB1.out⟩
  by_cases q2 : 1048578 < n
  · go_wp2
    go_ret
    exact ⟨rfl, HB1.out⟩
  obtain ⟨N, hnN⟩ : ∃ N : Nat, n = (N : Int) := ⟨n.toNat, by omega⟩
  have hmk : ∀ W : World, (Instr.makeSlice 26 (.int .i64 n) (.int .i64 n)).run Try.prog W = .ok (.slice (some ⟨W.heap.size, 0, none⟩) N N) (W.alloc (.cells (madeCells #[.int .u8 0] N) 5)) := fun W => by rw [hnN]; exact make_by12 N (by omega) W
  have HNN : Hid (n = (N : Int) ∧ 1048568 ≤ N ∧ N ≤ 1048578) := ⟨hnN, by omega, by omega⟩
  have hadd : IntKind.i64.wrap (n + 3) = n + 3 := by rw [IntKind.wrap_i64]; omega
  have HW0 : Hid (V.Wt ((w1.alloc (.cells #[.slice none 0 0, .bool false] 28)).alloc (.cells (madeCells #[.int .u8 0] N) 5)) (.pointer (some ⟨w1.heap.size, 0, none⟩)) (· = w1.heap.size) (.ok [])) := V.wl (V.wz w1) (bel1 _ _)
  have HB0 : Hid (Below w.heap.size w ((w1.alloc (.cells #[.slice none 0 0, .bool false] 28)).alloc (.cells (madeCells #[.int .u8 0] N) 5))) := (HB1.out.alloc hs1 _).alloc (by simp; omega) _
  have HL0 : Hid (Bs ((w1.alloc (.cells #[.slice none 0 0, .bool false] 28)).alloc (.cells (madeCells #[.int .u8 0] N) 5)) (.slice (some ⟨w1.heap.size + 1, 0, none⟩) N N) (List.replicate N 0)) := by
    have := bs_made (w1.alloc (.cells #[.slice none 0 0, .bool false] 28)) N (by omega)
    rw [World.size_alloc] at this
    exact this
  have HE : Hid ((enB (List.replicate N 0)).length = N + 3) := by
    show _ = _
    unfold enB
    rw [List.length_append, List.length_replicate, en_three (by omega) (by omega)]
    omega
  have HG : Hid (okB (List.replicate N 0) ∧ (List.replicate N 0).length ≤ 2000000) := by
    refine ⟨⟨fun c hc => ?_, ?_⟩, ?_⟩
    · have := List.eq_of_mem_replicate hc; omega
    · rw [List.length_replicate]; omega
    · rw [List.length_replicate]; omega
  clear HB1 hnN
  generalize List.replicate N 0 = L at *
  go_wp2_with fail
  refine (V.wbytes _ _ _ _ _ L HW0.out HL0.out (fun a nn c e hn q => by (cases e; dsimp only at q; omega)) HG.out.1 HG.out.2).mono ?_
  rintro e w2 ⟨rfl, hA⟩
  obtain ⟨F2, hW2, hF2, hB2⟩ := hA.below HB0.out (fun i hi => by omega) HB0.out.size
  have HW2 : Hid (V.Wt w2 (.pointer (some ⟨w1.heap.size, 0, none⟩)) F2 (pt (.ok []) (enB L)) ∧ (∀ i, F2 i → w.heap.size ≤ i) ∧ Below w.heap.size w w2) := ⟨hW2, hF2, hB2⟩
  clear hA hW2 hF2 hB2 HW0 HB0 HL0 hmk HG
  by_cases q3 : n + 3 ≤ 1048576
  · have HP : Hid (pt (.ok []) (enB L) = .ok (enB L)) := by
      show _ = _
      rw [pt_ok (by have := HE.out; have := HNN.out; simp; omega)]
      rfl
    rw [HP.out] at HW2
    obtain ⟨M, hM⟩ : ∃ M, (enB L).length = M := ⟨_, rfl⟩
    have hMn : ((M : Int) == n + 3) = true := by have := HE.out; have := HNN.out; simp; omega
    go_wp2_with fail
    refine (V.wdone _ _ _ _ HW2.out.1).mono ?_
    rintro e w3 ⟨v3, rfl, hL3, hO3, hb3⟩
    rw [dnV_ok] at hL3
    obtain ⟨ad3, cap3, rfl, -, -⟩ := hL3.len
    have HB3 : Hid (Below w.heap.size w w3) := bchain HW2.out.2.2 hb3
    clear hL3 hO3 hb3 HW2 HP
    rw [dnE_ok, hM]
    clear hM HE
    go_wp2
    go_ret
    exact ⟨by first | rfl | simp [hMn], HB3.out⟩
  · have HP : Hid (pt (.ok []) (enB L) = .error 3) := pt_big (by have := HE.out; have := HNN.out; simp; omega)
    rw [HP.out] at HW2
    go_wp2_with fail
    refine (V.wdone _ _ _ _ HW2.out.1).mono ?_
    rintro e w3 ⟨v3, rfl, hL3, hO3, hb3⟩
    obtain ⟨ad3, cap3, rfl, -, -⟩ := hL3.len
    have HW3 : Hid (V.Wt w3 (.pointer (some ⟨w1.heap.size, 0, none⟩)) F2 (.error 3) ∧ (∀ i, F2 i → w.heap.size ≤ i) ∧ Below w.heap.size w w3) := ⟨V.wl HW2.out.1 hb3, HW2.out.2.1, bchain HW2.out.2.2 hb3⟩
    clear hL3 hO3 hb3 HW2 HP
    have e0 : (dnV (.error 3)).length = 0 := rfl
    rw [dnE_err, e0]
    clear e0
    go_wp2_with fail
    refine (V.wuint _ _ _ _ 1 HW3.out.1 (by omega)).mono ?_
    rintro e w4 ⟨rfl, hA⟩
    obtain ⟨F4, hW4, hF4, hB4⟩ := hA.below HW3.out.2.2 HW3.out.2.1 HW3.out.2.2.size
    have HW4 : Hid (V.Wt w4 (.pointer (some ⟨w1.heap.size, 0, none⟩)) F4 (.error 3) ∧ Below w.heap.size w w4) := ⟨hW4, hB4⟩
    clear hA hW4 hF4 hB4 HW3
    go_wp2_with fail
    refine (V.wdone _ _ _ _ HW4.out.1).mono ?_
    rintro e w5 ⟨v5, rfl, hL5, hO5, hb5⟩
    obtain ⟨ad5, cap5, rfl, -, -⟩ := hL5.len
    have HB5 : Hid (Below w.heap.size w w5) := bchain HW4.out.2 hb5
    clear hL5 hO5 hb5 HW4
    rw [dnE_err]
    go_wp2
    go_ret
    exact ⟨by first | rfl | simp, HB5.out⟩
end Go.Proofs.Ytahbpegjdmblaaa
