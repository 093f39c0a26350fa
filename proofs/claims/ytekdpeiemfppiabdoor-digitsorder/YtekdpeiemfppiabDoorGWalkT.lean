/-
  The contracts of digits' Text and Whole, and of what they call.
-/
import Derived.Test.YtekdpeiemfppiabDoorGWalkS
import Derived.Test.YtekdpeiemfppiabDoorGWalkR
import Derived.Test.YtekdpeiemfppiabDoorShelf
import Derived.Lib.AppendIntMem
import Derived.Lib.ItoaMem
import Derived.Lib.SmallJoins
set_option linter.unusedVariables false
set_option linter.unusedSimpArgs false
namespace Go.Proofs.YtekdpeiemfppiabDoor
open Go.RowKit

/-- The table of the powers of ten reads as its initialiser lays it. -/
def PT (w : World) : Prop := Lib.TabIs Tryd.prog w "internal/strconv.uint64pow10" .u64 Lib.pow10Tab
theorem PT.later {w w' : World} (h : PT w) (hb : Below w.heap.size w w') : PT w' := (Lib.tabBelow_of_tabIs h) w' hb
set_option maxHeartbeats 2000000 in
theorem ifmt_small (u : Nat) (h : u < 100) (w : World) :
    Calls Tryd.prog 34 #[.int .u64 (u : Int), .int .i64 10] w fun e w' => e = .returned (.string (bs (dl u))) ∧ Below w.heap.size w w' := by
  have P1 : Hid (∀ W : World, Calls Tryd.prog 45 #[.int .i64 (u : Int)] W fun e w' => e = .returned (.string (bs (dl u))) ∧ w' = W) := by
    intro W
    have h := Tryd.internal_strconv_small u h W
    rw [dl_dec] at h
    exact h
  have i0 : (0 : Int) ≤ (u : Int) := by omega
  have i1 : (u : Int) < 100 := by omega
  have i2 : (u : Int) ≤ 9223372036854775807 := by omega
  go_enter Tryd.func34, Tryd.ntmps34
  go_wp2_with fail
  refine (P1.out _).mono ?_
  rintro e w1 ⟨rfl, rfl⟩
  clear P1
  go_wp2
  go_ret
  exact ⟨rfl, Below.refl _ _⟩
set_option maxRecDepth 100000 in
set_option maxHeartbeats 6000000 in
theorem ifmt_big (u : Nat) (h : 100 ≤ u) (hu64 : u < 18446744073709551616) (w : World) (htab : PT w) :
    Calls Tryd.prog 34 #[.int .u64 (u : Int), .int .i64 10] w fun e w' => e = .returned (.string (bs (dl u))) ∧ Below w.heap.size w w' := by
  have hu1 : 1 ≤ u := by omega
  have hnd20 : Lib.nDigits u ≤ 20 := by have := Lib.numDigits_eq u hu1 hu64; split at this <;> omega
  have hal : Tryd.prog.arrayLen 77 = 24 := by simp [Program.arrayLen, Tryd.underlying77]
  have hsl : ∀ W, (Instr.sliceAt 77 (.pointer (some ⟨w.heap.size, 0, none⟩)) none (some (.int .i64 (Lib.nDigits u : Int))) none).run Tryd.prog W = .ok (.slice (some ⟨w.heap.size, 0, none⟩) (Lib.nDigits u) 24) W := fun W => by
    rw [run_sliceAt_array_h W 77 ⟨w.heap.size, 0, none⟩ (by simp [Program.arrayLen, Program.elem, Tryd.underlying77]) .i64 (Lib.nDigits u : Int) (by omega) (by rw [hal]; omega)]
    go_simp
  have hH0 := Lib.holds_zero0 w 77 (Lib.nDigits u) (by omega)
  have hfmt := Tryd.internal_strconv_formatBase10 w.heap.size 0 24 u (Array.replicate (Lib.nDigits u) 0) (w.alloc (.cells Lib.zeros24 77)) hH0 (by rw [Array.size_replicate]; exact Lib.lt_pow_nDigits u) hu64 (by rw [Array.size_replicate]; omega)
  rw [Array.size_replicate] at hfmt
  have HF : Hid (Calls Tryd.prog 47 #[.slice (some ⟨w.heap.size, 0, none⟩) (Lib.nDigits u) 24, .int .u64 (u : Int)] (w.alloc (.cells Lib.zeros24 77)) fun e w' => e = .returned (.tuple #[]) ∧ ∃ (n v' : Nat) (dk : Array UInt8), w' = (Go.Sort.putRow (fun (b : UInt8) => Value.int .u8 (b.toNat : Int)) (w.alloc (.cells Lib.zeros24 77)) w.heap.size 0 dk).drewN n ∧ Lib.FmtInv (Lib.nDigits u) u 0 v' dk) := hfmt
  have HH0 : Hid (Go.Sort.Holds (fun (b : UInt8) => Value.int .u8 (b.toNat : Int)) (w.alloc (.cells Lib.zeros24 77)) w.heap.size 0 (Array.replicate (Lib.nDigits u) (0 : UInt8))) := hH0
  have HT : Hid (PT (w.alloc (.cells Lib.zeros24 77))) := Lib.tabIs_alloc htab _
  have iu : (100 : Int) ≤ (u : Int) := by omega
  clear hH0 hal hfmt htab
  go_enter Tryd.func34, Tryd.ntmps34
  go_wp2_with fail
  refine (Tryd.internal_strconv_numDigits u hu1 hu64 _ HT.out).mono ?_
  rintro e w' ⟨rfl, rfl⟩
  clear HT
  go_wp2_with fail
  refine HF.out.mono ?_
  rintro e w' ⟨rfl, k, v', dk, rfl, hF⟩
  have hcv : (convert 66 9 (.slice (some ⟨w.heap.size, 0, none⟩) (Lib.nDigits u) 24)).run Tryd.prog ((Go.Sort.putRow (fun (b : UInt8) => Value.int .u8 (b.toNat : Int)) (w.alloc (.cells Lib.zeros24 77)) w.heap.size 0 dk).drewN k) = .ok (.string (bs (dl u))) ((Go.Sort.putRow (fun (b : UInt8) => Value.int .u8 (b.toNat : Int)) (w.alloc (.cells Lib.zeros24 77)) w.heap.size 0 dk).drewN k) := by
    have h := run_convert_bytes_back (P := Tryd.prog) ((Go.Sort.putRow (fun (b : UInt8) => Value.int .u8 (b.toNat : Int)) (w.alloc (.cells Lib.zeros24 77)) w.heap.size 0 dk).drewN k) 66 9 5 ⟨w.heap.size, 0, none⟩ 24 (Lib.decDigits u) Tryd.underlying66 Tryd.underlying5 Tryd.underlying9 (fun j hj => by
      rw [Lib.row_is_numeral hF j hj, Lib.add_plain, World.cell?_drewN]
      exact Go.Sort.cell?_putRow (fun (b : UInt8) => Value.int .u8 (b.toNat : Int)) _ w.heap.size 0 _ dk HH0.out (by rw [hF.size, Array.size_replicate]) j (by rw [hF.size]; rw [Lib.decDigits_length] at hj; exact hj))
    rw [Lib.decDigits_length, dl_dec] at h
    exact h
  obtain ⟨os, eo⟩ := Lib.fin_at w (.cells Lib.zeros24 77) dk k 0
  have HW : Hid (Below w.heap.size w ((Go.Sort.putRow (fun (b : UInt8) => Value.int .u8 (b.toNat : Int)) (w.alloc (.cells Lib.zeros24 77)) w.heap.size 0 dk).drewN k)) := by
    show Below _ _ _
    rw [eo]
    exact Lib.below_grow w.heap.size w (Nat.le_refl _) k os
  clear eo HH0 HF hF
  generalize (Go.Sort.putRow (fun (b : UInt8) => Value.int .u8 (b.toNat : Int)) (w.alloc (.cells Lib.zeros24 77)) w.heap.size 0 dk).drewN k = W2 at hcv HW ⊢
  go_wp2
  go_ret
  exact ⟨rfl, HW.out⟩
theorem gfmt_any (u : Nat) (hu : u < 18446744073709551616) (w : World) (hT : u < 100 ∨ PT w) :
    Calls Tryd.prog 19 #[.int .u64 (u : Int), .int .i64 10] w fun e w' => e = .returned (.string (bs (dl u))) ∧ Below w.heap.size w w' := by
  have P : Hid (Calls Tryd.prog 34 #[.int .u64 (u : Int), .int .i64 10] w fun e w' => e = .returned (.string (bs (dl u))) ∧ Below w.heap.size w w') := by
    by_cases h : u < 100
    · exact ifmt_small u h w
    · exact ifmt_big u (by omega) hu w (hT.resolve_left h)
  clear hT
  go_enter Tryd.func19, Tryd.ntmps19
  go_wp2_with fail
  refine P.out.mono ?_
  rintro e w1 ⟨rfl, W1⟩
  clear P
  go_wp2
  go_ret
  exact ⟨rfl, W1⟩
theorem row_index (f : Nat → Nat) (j : Nat) (h : j < 40) (W : World) : (Instr.index 44 (.agg (row f)) (.int .i64 (j : Int))).run Tryd.prog W = .ok (.int .u8 ((f j : Nat) : Int)) W := by
  have p := run_part_plain (P := Tryd.prog) W plainU8 (row_get f j h)
  have hz := Tryd.sizeOf5 W
  have h1 : (0 : Int) ≤ (j : Int) ∧ (j : Int) < ((40 : Nat) : Int) := by omega
  simp only [Instr.index, asIntOf, Sem.run_bind, Sem.run_pure, Result.andThen_ok, run_underlying plUnd, if_pos h1, hz, Int.toNat_natCast, Nat.mul_one, p]
end Go.Proofs.YtekdpeiemfppiabDoor
