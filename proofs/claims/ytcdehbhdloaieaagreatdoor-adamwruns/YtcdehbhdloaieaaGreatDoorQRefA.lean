/-
  The document's answers of layer 8: powers, rates, paces (regattaref08).
-/
import Derived.Test.YtcdehbhdloaieaaGreatDoorQWalkD
import Derived.Test.YtcdehbhdloaieaaGreatDoorBG
import Derived.Test.YtcdehbhdloaieaaGreatDoorBI
set_option linter.unusedVariables false
set_option linter.unusedSimpArgs false
namespace Go.Proofs.YtcdehbhdloaieaaGreatDoor
open Go.RowKit

set_option maxRecDepth 100000 in
set_option maxHeartbeats 4000000 in
theorem refPower_any (b : Int) (T : Nat) (w : World) (b0 : 0 ≤ b) (b1 : b < 4294967296) (hT : T ≤ 1048576) :
    Calls Tryz.prog 25 #[.int .i64 b, .int .i64 (T : Int)] w fun e w' => e = .returned (.int .i64 (pwN b T)) ∧ Below w.heap.size w w' := by
  have HP : Hid (∀ j, 0 ≤ pwN b j ∧ pwN b j ≤ 4294967296) := pwN_in b b0 b1
  go_enter Tryz.func25, Tryz.ntmps25
  go_wp2
  go_loopw [5, 6] (fun s5 si wr => ∃ (j : Nat) (y : Int), j ≤ T ∧ si = .int .i64 (j : Int) ∧ s5 = .int .i64 y ∧ Hid (y = pwN b j) ∧ Hid (Below w.heap.size w wr)) (fun _ si _ => T - (intOf si).toNat)
  case atStart => exact ⟨0, _, by omega, rfl, rfl, rfl, Below.refl _ _⟩
  case round =>
    obtain ⟨j, y, hj, rfl, rfl, HY, HW⟩ := hrel
    by_cases hlt : j < T
    · have hjI : (j : Int) < (T : Int) := by omega
      have hy := HP.out j
      rw [← HY.out] at hy
      have CM : Hid (∀ W' : World, Calls Tryz.prog 51 #[.int .i64 y, .int .i64 b] W' fun e w' => e = .returned (.tuple #[.int .i64 (fmV y b), .bool (ovv (rnd (y * b) 32))]) ∧ Below W'.heap.size W' w') := fun W' => rfmul_any y b (by omega) (by omega) (by omega) (by omega) W'
      have HE : Hid (fmV y b = pwN b (j + 1)) := by show fmV y b = fmV (pwN b j) b; rw [HY.out]
      clear HY hy
      generalize fmV y b = z at *
      generalize ovv (rnd (y * b) 32) = ob at *
      go_wp2_with (go_at_call 51; refine (CM.out _).mono ?_; rintro e wz ⟨rfl, hb⟩; have HB3 : Hid (Below w.heap.size w wz) := bchain HW.out hb; clear hb)
      go_roundw
      case rel => exact ⟨j + 1, z, by omega, by go_num, rfl, HE, HB3⟩
      case measure => simp [intOf]; omega
    · obtain rfl : j = T := by omega
      have hjI : ¬ (j : Int) < (j : Int) := by omega
      have HE : Hid (pwN b j = y) := HY.out.symm
      clear HY
      go_wp2
      go_ret
      exact ⟨by rw [HE.out]; rfl, HW.out⟩
end Go.Proofs.YtcdehbhdloaieaaGreatDoor
