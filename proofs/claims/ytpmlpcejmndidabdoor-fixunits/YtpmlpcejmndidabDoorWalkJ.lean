/-
  Contracts of math/bits.Len64 and LeadingZeros64: how many bits a word needs.
-/
import Derived.Test.YtpmlpcejmndidabDoorWalkI
import Derived.Laws.MathBits
set_option linter.unusedVariables false
set_option linter.unusedSimpArgs false
namespace Go.Proofs.YtpmlpcejmndidabDoor
open Go.RowKit

theorem len_fin0 (y : Int) (y1 : y < 256) : wrap64 ((bitLen y.toNat : Nat) : Int) = ((bitLen y.toNat : Nat) : Int) := by
  have h := bitLen_le8 y.toNat (by omega)
  rw [w64, sg_id _ (by omega) (by omega)]
theorem len_fin (K : Nat) (x y : Int) (hK : K ≤ 56) (x0 : 0 ≤ x) (hy : x.toNat / 2 ^ K = y.toNat) (y0 : 1 ≤ y) (y1 : y < 256) : wrap64 ((K : Int) + wrap64 ((bitLen y.toNat : Nat) : Int)) = ((bitLen x.toNat : Nat) : Int) := by
  have h := bitLen_le8 y.toNat (by omega)
  have s := bitLen_shift x.toNat K (by omega)
  rw [hy] at s
  rw [len_fin0 y y1, w64, sg_id _ (by omega) (by omega), s]
  omega

set_option maxHeartbeats 1000000 in
set_option maxRecDepth 1000000 in
theorem len64_0 (x : Int) (h0 : 0 ≤ x) (h1 : x < 256) (w : World) :
    Calls Tryd.prog 91 #[.int .u64 x] w fun e w' => e = .returned (.int .i64 ((bitLen x.toNat : Nat) : Int)) ∧ w' = w := by
  have F : Hid (wrap64 ((bitLen (x).toNat : Nat) : Int) = ((bitLen x.toNat : Nat) : Int)) := len_fin0 x h1
  go_enter Tryd.func91, Tryd.ntmps91
  go_wp2
  simp only [len8tab_get]
  rw [F.out, F.out]
  go_ret
  exact ⟨rfl, rfl⟩
set_option maxHeartbeats 1000000 in
set_option maxRecDepth 1000000 in
theorem len64_8 (x : Int) (h0 : 256 ≤ x) (h1 : x < 65536) (w : World) :
    Calls Tryd.prog 91 #[.int .u64 x] w fun e w' => e = .returned (.int .i64 ((bitLen x.toNat : Nat) : Int)) ∧ w' = w := by
  have F : Hid (wrap64 ((8 : Int) + wrap64 ((bitLen (x / 256).toNat : Nat) : Int)) = ((bitLen x.toNat : Nat) : Int)) := len_fin 8 x (x / 256) (by omega) (by omega) (by omega) (by omega) (by omega)
  go_enter Tryd.func91, Tryd.ntmps91
  go_wp2
  simp only [len8tab_get]
  rw [F.out]
  go_ret
  exact ⟨rfl, rfl⟩
set_option maxHeartbeats 1000000 in
set_option maxRecDepth 1000000 in
theorem len64_16 (x : Int) (h0 : 65536 ≤ x) (h1 : x < 16777216) (w : World) :
    Calls Tryd.prog 91 #[.int .u64 x] w fun e w' => e = .returned (.int .i64 ((bitLen x.toNat : Nat) : Int)) ∧ w' = w := by
  have F : Hid (wrap64 ((16 : Int) + wrap64 ((bitLen (x / 65536).toNat : Nat) : Int)) = ((bitLen x.toNat : Nat) : Int)) := len_fin 16 x (x / 65536) (by omega) (by omega) (by omega) (by omega) (by omega)
  go_enter Tryd.func91, Tryd.ntmps91
  go_wp2
  simp only [len8tab_get]
  rw [F.out]
  go_ret
  exact ⟨rfl, rfl⟩
set_option maxHeartbeats 1000000 in
set_option maxRecDepth 1000000 in
theorem len64_24 (x : Int) (h0 : 16777216 ≤ x) (h1 : x < 4294967296) (w : World) :
    Calls Tryd.prog 91 #[.int .u64 x] w fun e w' => e = .returned (.int .i64 ((bitLen x.toNat : Nat) : Int)) ∧ w' = w := by
  have F : Hid (wrap64 ((24 : Int) + wrap64 ((bitLen (x / 65536 / 256).toNat : Nat) : Int)) = ((bitLen x.toNat : Nat) : Int)) := len_fin 24 x (x / 65536 / 256) (by omega) (by omega) (by omega) (by omega) (by omega)
  go_enter Tryd.func91, Tryd.ntmps91
  go_wp2
  simp only [len8tab_get]
  rw [F.out]
  go_ret
  exact ⟨rfl, rfl⟩
set_option maxHeartbeats 1000000 in
set_option maxRecDepth 1000000 in
theorem len64_32 (x : Int) (h0 : 4294967296 ≤ x) (h1 : x < 1099511627776) (w : World) :
    Calls Tryd.prog 91 #[.int .u64 x] w fun e w' => e = .returned (.int .i64 ((bitLen x.toNat : Nat) : Int)) ∧ w' = w := by
  have F : Hid (wrap64 ((32 : Int) + wrap64 ((bitLen (x / 4294967296).toNat : Nat) : Int)) = ((bitLen x.toNat : Nat) : Int)) := len_fin 32 x (x / 4294967296) (by omega) (by omega) (by omega) (by omega) (by omega)
  go_enter Tryd.func91, Tryd.ntmps91
  go_wp2
  simp only [len8tab_get]
  rw [F.out]
  go_ret
  exact ⟨rfl, rfl⟩
set_option maxHeartbeats 1000000 in
set_option maxRecDepth 1000000 in
theorem len64_40 (x : Int) (h0 : 1099511627776 ≤ x) (h1 : x < 281474976710656) (w : World) :
    Calls Tryd.prog 91 #[.int .u64 x] w fun e w' => e = .returned (.int .i64 ((bitLen x.toNat : Nat) : Int)) ∧ w' = w := by
  have F : Hid (wrap64 ((40 : Int) + wrap64 ((bitLen (x / 4294967296 / 256).toNat : Nat) : Int)) = ((bitLen x.toNat : Nat) : Int)) := len_fin 40 x (x / 4294967296 / 256) (by omega) (by omega) (by omega) (by omega) (by omega)
  go_enter Tryd.func91, Tryd.ntmps91
  go_wp2
  simp only [len8tab_get]
  rw [F.out]
  go_ret
  exact ⟨rfl, rfl⟩
set_option maxHeartbeats 1000000 in
set_option maxRecDepth 1000000 in
theorem len64_48 (x : Int) (h0 : 281474976710656 ≤ x) (h1 : x < 72057594037927936) (w : World) :
    Calls Tryd.prog 91 #[.int .u64 x] w fun e w' => e = .returned (.int .i64 ((bitLen x.toNat : Nat) : Int)) ∧ w' = w := by
  have F : Hid (wrap64 ((48 : Int) + wrap64 ((bitLen (x / 4294967296 / 65536).toNat : Nat) : Int)) = ((bitLen x.toNat : Nat) : Int)) := len_fin 48 x (x / 4294967296 / 65536) (by omega) (by omega) (by omega) (by omega) (by omega)
  go_enter Tryd.func91, Tryd.ntmps91
  go_wp2
  simp only [len8tab_get]
  rw [F.out]
  go_ret
  exact ⟨rfl, rfl⟩
set_option maxHeartbeats 1000000 in
set_option maxRecDepth 1000000 in
theorem len64_56 (x : Int) (h0 : 72057594037927936 ≤ x) (h1 : x < 18446744073709551616) (w : World) :
    Calls Tryd.prog 91 #[.int .u64 x] w fun e w' => e = .returned (.int .i64 ((bitLen x.toNat : Nat) : Int)) ∧ w' = w := by
  have F : Hid (wrap64 ((56 : Int) + wrap64 ((bitLen (x / 4294967296 / 65536 / 256).toNat : Nat) : Int)) = ((bitLen x.toNat : Nat) : Int)) := len_fin 56 x (x / 4294967296 / 65536 / 256) (by omega) (by omega) (by omega) (by omega) (by omega)
  go_enter Tryd.func91, Tryd.ntmps91
  go_wp2
  simp only [len8tab_get]
  rw [F.out]
  go_ret
  exact ⟨rfl, rfl⟩
theorem len64_any (x : Int) (h0 : 0 ≤ x) (h1 : x ≤ 18446744073709551615) (w : World) :
    Calls Tryd.prog 91 #[.int .u64 x] w fun e w' => e = .returned (.int .i64 ((bitLen x.toNat : Nat) : Int)) ∧ w' = w := by
  by_cases c0 : x < 256
  · exact len64_0 x (by omega) c0 w
  by_cases c8 : x < 65536
  · exact len64_8 x (by omega) c8 w
  by_cases c16 : x < 16777216
  · exact len64_16 x (by omega) c16 w
  by_cases c24 : x < 4294967296
  · exact len64_24 x (by omega) c24 w
  by_cases c32 : x < 1099511627776
  · exact len64_32 x (by omega) c32 w
  by_cases c40 : x < 281474976710656
  · exact len64_40 x (by omega) c40 w
  by_cases c48 : x < 72057594037927936
  · exact len64_48 x (by omega) c48 w
  exact len64_56 x (by omega) (by omega) w

theorem bitLen_rng (x : Int) (h0 : 1 ≤ x) (h1 : x ≤ 18446744073709551615) : 1 ≤ bitLen x.toNat ∧ bitLen x.toNat ≤ 64 := by
  obtain ⟨a, b⟩ := bitLen_spec x.toNat
  have b := b (by omega)
  constructor
  · rcases Nat.eq_zero_or_pos (bitLen x.toNat) with h | h
    · rw [h] at a; omega
    · exact h
  · rcases Nat.lt_or_ge 64 (bitLen x.toNat) with h | h
    · have : 2 ^ 64 ≤ 2 ^ (bitLen x.toNat - 1) := Nat.pow_le_pow_right (by omega) (by omega)
      omega
    · exact h

set_option maxHeartbeats 400000 in
theorem lz64_any (x : Int) (h0 : 1 ≤ x) (h1 : x ≤ 18446744073709551615) (w : World) :
    Calls Tryd.prog 90 #[.int .u64 x] w fun e w' => e = .returned (.int .i64 (64 - ((bitLen x.toNat : Nat) : Int))) ∧ w' = w := by
  obtain ⟨r0, r1⟩ := bitLen_rng x h0 h1
  have q1 : ((bitLen x.toNat : Nat) : Int) ≤ 64 := by omega
  have L := fun W => len64_any x (by omega) h1 W
  generalize bitLen x.toNat = b at *
  go_enter Tryd.func90, Tryd.ntmps90
  go_wp2_with fail
  refine (L _).mono ?_
  rintro e w1 ⟨rfl, hw⟩
  subst hw
  clear L
  go_wp2
  go_ret
  exact ⟨rfl, rfl⟩

/-- y brought up to its highest bit. -/
theorem norm_rng (y : Int) (h0 : 1 ≤ y) (h1 : y ≤ 18446744073709551615) : 9223372036854775808 ≤ y * 2 ^ (64 - bitLen y.toNat) ∧ y * 2 ^ (64 - bitLen y.toNat) ≤ 18446744073709551615 := by
  obtain ⟨r0, r1⟩ := bitLen_rng y h0 h1
  obtain ⟨a, b⟩ := bitLen_spec y.toNat
  have b := b (by omega)
  obtain ⟨Y, rfl⟩ := Int.eq_ofNat_of_zero_le (show 0 ≤ y by omega)
  rw [Int.toNat_natCast] at *
  generalize bitLen Y = n at *
  have e1 : 2 ^ (n - 1) * 2 ^ (64 - n) = 2 ^ 63 := by rw [← Nat.pow_add]; congr 1; omega
  have e2 : 2 ^ n * 2 ^ (64 - n) = 2 ^ 64 := by rw [← Nat.pow_add]; congr 1; omega
  have g1 := Nat.mul_le_mul_right (2 ^ (64 - n)) b
  have g2 := Nat.mul_lt_mul_of_pos_right a (show 0 < 2 ^ (64 - n) from Nat.two_pow_pos _)
  have e3 : (Y : Int) * 2 ^ (64 - n) = ((Y * 2 ^ (64 - n) : Nat) : Int) := by rw [Int.natCast_mul, Int.natCast_pow]; rfl
  rw [e3]
  omega

end Go.Proofs.YtpmlpcejmndidabDoor
