/-
  The contract of digits' doubled.
-/
import Derived.Test.YtekdpeiemfppiabDoorGWalkP
set_option linter.unusedVariables false
set_option linter.unusedSimpArgs false
namespace Go.Proofs.YtekdpeiemfppiabDoor
open Go.RowKit

set_option maxRecDepth 100000 in
set_option maxHeartbeats 2000000 in
theorem gdoubled_any (M : Nat) (w : World) :
    Calls Tryd.prog 27 #[.agg (row (fun i => dd M (39 - i)))] w fun e w' => e = .returned (.tuple #[.agg (row (fun i => dd (M * 2) (39 - i))), .int .i64 ((cy M 2 40 : Nat) : Int)]) ∧ Below w.heap.size w w' := by
  have hs := row_size (fun i => dd M (39 - i))
  go_enter Tryd.func27, Tryd.ntmps27
  go_wp2
  go_loopw [4, 5] (fun s4 s5 wr => ∃ n : Nat, n ≤ 40 ∧ s4 = .int .u8 ((cy M 2 (40 - n) : Nat) : Int) ∧ s5 = .int .i64 ((n : Int) - 1) ∧ Pl wr w.heap.size (fun i => if i < n then dd M (39 - i) else dd (M * 2) (39 - i)) ∧ Pl wr (w.heap.size + 1) (fun _ => 0) ∧ Below w.heap.size w wr) (fun _ s5 _ => (intOf s5 + 1).toNat)
  case atStart =>
    refine ⟨40, by omega, by rw [cy_zero]; rfl, rfl, ((Pl.new w _).old _).to (fun i hi => by rw [if_pos hi]), ?_, bel2 _ _ _⟩
    have h := Pl.new (w.alloc (.cells (row (fun i => dd M (39 - i))) 44)) (fun _ => 0)
    rw [row_zero, World.size_alloc] at h
    exact h
  case round =>
    obtain ⟨n, hn, rfl, rfl, hP, hZ, hW⟩ := hrel
    cases n with
    | zero =>
      have hP2 : Pl wr w.heap.size (fun i => dd (M * 2) (39 - i)) := hP.to (fun i hi => by rw [if_neg (by omega)])
      have hR := hZ.put (fun i => dd (M * 2) (39 - i))
      have hW2 := below_setRow hW (by omega : w.heap.size ≤ w.heap.size + 1) (row (fun i => dd (M * 2) (39 - i)))
      have HA : Hid (Pl wr w.heap.size (fun i => dd (M * 2) (39 - i)) ∧ Pl wr (w.heap.size + 1) (fun _ => 0) ∧ Pl (wr.setRow (w.heap.size + 1) (row (fun i => dd (M * 2) (39 - i)))) (w.heap.size + 1) (fun i => dd (M * 2) (39 - i)) ∧ Below w.heap.size w (wr.setRow (w.heap.size + 1) (row (fun i => dd (M * 2) (39 - i))))) := ⟨hP2, hZ, hR, hW2⟩
      clear hP hP2 hZ hW hR hW2
      have hb : (((0 : Nat) : Int) - 1) = -1 := by omega
      have hcl := cy_lt M 2 40 (by omega)
      have c0 : (0 : Int) ≤ ((cy M 2 40 : Nat) : Int) := by omega
      have c1 : ((cy M 2 40 : Nat) : Int) ≤ 9223372036854775807 := by omega
      rw [hb]
      go_wp2_with (first
        | (refine HA.out.1.wload rfl _ rfl rfl ?_)
        | (refine HA.out.2.1.wstore rfl _ _ (fun i => dd (M * 2) (39 - i)) rfl rfl rfl ?_))
      exact bodyPost_ret (HA.out.2.2.1.res2 rfl _ rfl) rfl ⟨rfl, HA.out.2.2.2⟩
    | succ m =>
      have hm : m < 40 := by omega
      have hb : (((m + 1 : Nat) : Int) - 1) = (m : Int) := by omega
      rw [hb, show 40 - (m + 1) = 39 - m by omega]
      have hcell : wr.cell? ⟨w.heap.size, m, none⟩ = some (.int .u8 ((dd M (39 - m) : Nat) : Int)) := by
        have h := hP.cell m hm
        rw [if_pos (by omega)] at h
        exact h
      have hfro := hP.fro m
      have i0 : (0 : Int) ≤ (m : Int) := by omega
      have i1 : (m : Int) < 40 := by omega
      have hcl := cy_lt M 2 (39 - m) (by omega)
      have hdl := dd_lt M (39 - m)
      have HN : Hid ((cy M 2 (39 - m) + dd M (39 - m) * 2) / 10 = cy M 2 (40 - m)) := by
        have h := cy_next M 2 (39 - m)
        rw [show 39 - m + 1 = 40 - m by omega] at h
        exact h
      have HG : Hid ((cy M 2 (39 - m) + dd M (39 - m) * 2) % 10 = dd (M * 2) (39 - m)) := dig_prod M _ _
      obtain ⟨z, hz⟩ : ∃ z : Nat, dd (M * 2) (39 - m) = z := ⟨_, rfl⟩
      obtain ⟨k, hk⟩ : ∃ k : Nat, cy M 2 (40 - m) = k := ⟨_, rfl⟩
      have HZ : Hid (dd (M * 2) (39 - m) = z) := hz
      have HK : Hid (cy M 2 (40 - m) = k) := hk
      have h1 := HN.out
      have h2 := HG.out
      rw [hk] at h1
      rw [hz] at h2
      generalize cy M 2 (39 - m) = c at *
      generalize dd M (39 - m) = d at *
      have x0 : (0 : Int) ≤ 2 * (d : Int) + (c : Int) := by omega
      have u1 := Int.tmod_eq_emod_of_nonneg (b := 10) x0
      have u2 := Int.tdiv_eq_ediv_of_nonneg (b := 10) x0
      rw [show (2 * (d : Int) + (c : Int)) % 10 = (z : Int) by omega] at u1
      rw [show (2 * (d : Int) + (c : Int)) / 10 = (k : Int) by omega] at u2
      have v0 := wrap_byte (2 * (d : Int)) (by omega) (by omega)
      have v1 := wrap_byte (2 * (d : Int) + (c : Int)) (by omega) (by omega)
      have v2 := wrap_byte (z : Int) (by omega) (by omega)
      have v3 := wrap_byte (k : Int) (by omega) (by omega)
      have hP2 := (hP.set m z hm).to (f' := fun i => if i < m then dd M (39 - i) else dd (M * 2) (39 - i)) (fun i hi => by
        by_cases e : i = m
        · subst e; rw [if_pos rfl, if_neg (by omega)]; exact HZ.out.symm
        · rw [if_neg e]
          by_cases h : i < m
          · rw [if_pos h, if_pos (by omega)]
          · rw [if_neg h, if_neg (by omega)])
      have hZ2 := hZ.far (a := ⟨w.heap.size, m, none⟩) (by dsimp only; omega) (.int .u8 (z : Int))
      have hW2 := hW.setCell (p := ⟨w.heap.size, m, none⟩) (Nat.le_refl _) (.int .u8 (z : Int))
      have HA : Hid (Pl (wr.setCell ⟨w.heap.size, m, none⟩ (.int .u8 (z : Int))) w.heap.size (fun i => if i < m then dd M (39 - i) else dd (M * 2) (39 - i)) ∧ Pl (wr.setCell ⟨w.heap.size, m, none⟩ (.int .u8 (z : Int))) (w.heap.size + 1) (fun _ => 0) ∧ Below w.heap.size w (wr.setCell ⟨w.heap.size, m, none⟩ (.int .u8 (z : Int)))) := ⟨hP2, hZ2, hW2⟩
      clear hP hZ hW hP2 hZ2 hW2 h1 h2 hz hk HN HG
      go_wp2
      go_roundw
      case rel => exact ⟨m, by omega, by rw [HK.out], rfl, HA.out.1, HA.out.2.1, HA.out.2.2⟩
      case measure => simp [intOf]
end Go.Proofs.YtekdpeiemfppiabDoor
