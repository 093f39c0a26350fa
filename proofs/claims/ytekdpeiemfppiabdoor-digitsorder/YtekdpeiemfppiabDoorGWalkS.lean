/-
  The contracts of digits' placesIn and placesOf.
-/
import Derived.Test.YtekdpeiemfppiabDoorGWalkQ
import Derived.Test.YtekdpeiemfppiabDoorDWalkF
import Derived.Lib.OthersKept
set_option linter.unusedVariables false
set_option linter.unusedSimpArgs false
namespace Go.Proofs.YtekdpeiemfppiabDoor
open Go.RowKit

theorem dd_pad (E m k : Nat) : dd (E * 10 ^ m) k = if k < m then 0 else dd E (k - m) := by
  unfold dd
  by_cases h : k < m
  · rw [if_pos h]
    obtain ⟨d, rfl⟩ : ∃ d, m = k + 1 + d := ⟨m - k - 1, by omega⟩
    rw [Nat.pow_add, Nat.pow_succ, Nat.mul_assoc, ← Nat.mul_assoc E, Nat.mul_comm E, Nat.mul_assoc, Nat.mul_div_cancel_left _ (ten_pos k), Nat.mul_left_comm]
    exact Nat.mul_mod_right _ _
  · rw [if_neg h]
    obtain ⟨d, rfl⟩ : ∃ d, k = m + d := ⟨k - m, by omega⟩
    rw [Nat.pow_add, show m + d - m = d by omega, Nat.mul_comm E, Nat.mul_div_mul_left _ _ (ten_pos m)]
theorem dd_text (l : List UInt8) (hl : l.length ≤ 40) (hd : ∀ i, i < l.length → 48 ≤ gb l i ∧ gb l i ≤ 57) (i : Nat) (hi : i < 40) : (if i < l.length then gb l i - 48 else 0) = dd (num l * 10 ^ (40 - l.length)) (39 - i) := by
  rw [dd_pad]
  by_cases h : i < l.length
  · rw [if_pos h, if_neg (by omega), (num_all l hd).2 _ (by omega)]
    congr 2
    omega
  · rw [if_neg h, if_pos (by omega)]
theorem Pl.iter {w : World} {g : Nat} {f : Nat → Nat} (h : Pl w g f) {k : Nat} (hk : g ≠ k) (s : ByteArray) (p : Nat) : Pl (w.iterAt k s p) g f := (Lib.iterAt_other w k g s p hk).trans h
set_option maxRecDepth 100000 in
set_option maxHeartbeats 2000000 in
theorem gplacesIn_raw (l : List UInt8) (hl : l.length ≤ 40) (hd : ∀ i, i < l.length → 48 ≤ gb l i ∧ gb l i ≤ 57) (w : World) :
    Calls Tryd.prog 14 #[.string (bs l)] w fun e w' => e = .returned (.agg (row (fun i => if i < l.length then gb l i - 48 else 0))) ∧ Below w.heap.size w w' := by
  have z := bs_size l
  have HD : Hid (∀ i, i < l.length → 48 ≤ gb l i ∧ gb l i ≤ 57) := hd
  clear hd
  go_enter Tryd.func14, Tryd.ntmps14
  go_wp2
  go_loopw [4, 5] (fun s4 s5 wr => ∃ p : Nat, p ≤ l.length ∧ Pl wr (w.heap.size + 1) (fun i => if i < p then gb l i - 48 else 0) ∧ Pl wr w.heap.size (fun _ => 0) ∧ wr.heap[w.heap.size + 1 + 1]? = some (.stringIter (bs l) p) ∧ Below w.heap.size w wr) (fun _ _ wr => l.length - wr.iterPos (w.heap.size + 1 + 1))
  case atStart =>
    refine ⟨0, by omega, ?_, ?_, ?_, bel3 _ _ _ _⟩
    · have h := (Pl.new (w.alloc (.cells (row (fun _ => 0)) 44)) (fun _ => 0)).old (.stringIter (bs l) 0)
      rw [row_zero, World.size_alloc] at h
      exact Pl.to h (fun i hi => by rw [if_neg (by omega)])
    · have h := ((Pl.new w (fun _ => 0)).old (.cells (row (fun _ => 0)) 44)).old (.stringIter (bs l) 0)
      rw [row_zero] at h
      exact h
    · have h := World.iter_heap ((w.alloc (.cells (row (fun _ => 0)) 44)).alloc (.cells (row (fun _ => 0)) 44)) (bs l) 0
      rw [row_zero, World.size_alloc, World.size_alloc] at h
      exact h
  case round =>
    obtain ⟨p, hp, hP, hZ, hit, hW⟩ := hrel
    by_cases hlt : p < l.length
    · have hlt' : p < (bs l).size := by rw [z]; exact hlt
      obtain ⟨d0, d1⟩ := HD.out p hlt
      have hix : ((bs l)[p]'hlt').toNat = gb l p := gb_at l p hlt'
      have hnx : ∀ ty, (Instr.next (.pointer (some ⟨w.heap.size + 1 + 1, 0, none⟩)) true ty).run Tryd.prog wr = .ok (.tuple #[.bool true, .int .i64 (p : Int), .int .i32 ((gb l p : Nat) : Int)]) (wr.iterAt (w.heap.size + 1 + 1) (bs l) (p + 1)) := by
        intro ty
        have h := Lib.run_next_ascii_at (P := Tryd.prog) wr (w.heap.size + 1 + 1) (bs l) p ty hit hlt' (by rw [hix]; omega)
        rw [hix] at h
        exact h
      obtain ⟨c, hc⟩ : ∃ c : Nat, gb l p = c + 48 := ⟨gb l p - 48, by omega⟩
      have HC : Hid (gb l p = c + 48) := hc
      rw [hc] at hnx
      have hP1 := hP.iter (k := w.heap.size + 1 + 1) (by omega) (bs l) (p + 1)
      have hZ1 := hZ.iter (k := w.heap.size + 1 + 1) (by omega) (bs l) (p + 1)
      have hit1 := Lib.iterAt_heap wr (w.heap.size + 1 + 1) (bs l) p (p + 1) hit
      have hW1 := Lib.below_iterAt hW (k := w.heap.size + 1 + 1) (by omega) (bs l) (p + 1)
      have HI : Hid (wr.iterPos (w.heap.size + 1 + 1) = p) := by show _ = _; simp only [World.iterPos, hit]
      generalize wr.iterAt (w.heap.size + 1 + 1) (bs l) (p + 1) = wx at *
      have hcell := hP1.cell p (by omega)
      rw [if_neg (by omega)] at hcell
      have hfro := hP1.fro p
      have e1 : (((c + 48 : Nat) : Int)) - 48 = (c : Int) := by omega
      have v1 : IntKind.i32.wrap (c : Int) = (c : Int) := by rw [IntKind.wrap_i32]; omega
      have v2 := wrap_byte (c : Int) (by omega) (by omega)
      have i0 : (0 : Int) ≤ (p : Int) := by omega
      have i1 : (p : Int) < 40 := by omega
      have hP2 := (hP1.set p c (by omega)).to (f' := fun i => if i < p + 1 then gb l i - 48 else 0) (fun i hi => by
        by_cases e : i = p
        · subst e; rw [if_pos rfl, if_pos (by omega), HC.out]; omega
        · rw [if_neg e]
          by_cases h : i < p
          · rw [if_pos h, if_pos (by omega)]
          · rw [if_neg h, if_neg (by omega)])
      have hZ2 := hZ1.far (a := ⟨w.heap.size + 1, p, none⟩) (by dsimp only; omega) (.int .u8 (c : Int))
      have hit2 : (wx.setCell ⟨w.heap.size + 1, p, none⟩ (.int .u8 (c : Int))).heap[w.heap.size + 1 + 1]? = some (.stringIter (bs l) (p + 1)) := by
        rw [Below.heap_setCell _ _ _ _ (by dsimp only; omega)]; exact hit1
      have hW2 := hW1.setCell (p := ⟨w.heap.size + 1, p, none⟩) (by dsimp only; omega) (.int .u8 (c : Int))
      have HA : Hid (Pl (wx.setCell ⟨w.heap.size + 1, p, none⟩ (.int .u8 (c : Int))) (w.heap.size + 1) (fun i => if i < p + 1 then gb l i - 48 else 0) ∧ Pl (wx.setCell ⟨w.heap.size + 1, p, none⟩ (.int .u8 (c : Int))) w.heap.size (fun _ => 0) ∧ (wx.setCell ⟨w.heap.size + 1, p, none⟩ (.int .u8 (c : Int))).heap[w.heap.size + 1 + 1]? = some (.stringIter (bs l) (p + 1)) ∧ Below w.heap.size w (wx.setCell ⟨w.heap.size + 1, p, none⟩ (.int .u8 (c : Int)))) := ⟨hP2, hZ2, hit2, hW2⟩
      clear hP hZ hW hit hP1 hZ1 hit1 hW1 hP2 hZ2 hit2 hW2 hix hc hlt' d0 d1
      go_wp2
      go_roundw
      case rel => exact ⟨p + 1, by omega, HA.out.1, HA.out.2.1, HA.out.2.2.1, HA.out.2.2.2⟩
      case measure =>
        rw [HI.out]
        simp only [World.iterPos, HA.out.2.2.1]
        omega
    · obtain rfl : p = l.length := by omega
      have hnx : ∀ ty, (Instr.next (.pointer (some ⟨w.heap.size + 1 + 1, 0, none⟩)) true ty).run Tryd.prog wr = .ok (.tuple #[.bool false]) wr := fun ty => Lib.run_next_end_at (P := Tryd.prog) wr (w.heap.size + 1 + 1) (bs l) _ ty hit (by rw [z]; omega)
      have HA : Hid (Pl wr (w.heap.size + 1) (fun i => if i < l.length then gb l i - 48 else 0) ∧ Pl wr w.heap.size (fun _ => 0) ∧ Pl (wr.setRow w.heap.size (row (fun i => if i < l.length then gb l i - 48 else 0))) w.heap.size (fun i => if i < l.length then gb l i - 48 else 0) ∧ Below w.heap.size w (wr.setRow w.heap.size (row (fun i => if i < l.length then gb l i - 48 else 0)))) := ⟨hP, hZ, hZ.put _, below_setRow hW (Nat.le_refl _) _⟩
      clear hP hZ hW hit
      go_wp2_with (first
        | (refine HA.out.1.wload rfl _ rfl rfl ?_)
        | (refine HA.out.2.1.wstore rfl _ _ (fun i => if i < l.length then gb l i - 48 else 0) rfl rfl rfl ?_))
      exact bodyPost_ret (HA.out.2.2.1.res rfl _ rfl) rfl ⟨rfl, HA.out.2.2.2⟩
/-- The digits of a text of at most 40 digits, as a number below 10^40. -/
theorem gplacesIn_any (l : List UInt8) (hl : l.length ≤ 40) (hd : ∀ i, i < l.length → 48 ≤ gb l i ∧ gb l i ≤ 57) (w : World) :
    Calls Tryd.prog 14 #[.string (bs l)] w fun e w' => e = .returned (.agg (row (fun i => dd (num l * 10 ^ (40 - l.length)) (39 - i)))) ∧ Below w.heap.size w w' := by
  have h := gplacesIn_raw l hl hd w
  rw [row_congr _ _ (fun i hi => dd_text l hl hd i hi)] at h
  exact h
set_option maxRecDepth 100000 in
set_option maxHeartbeats 2000000 in
theorem gplacesOf_raw (r : Nat) (hr : r < 4294967296) (w : World) :
    Calls Tryd.prog 20 #[.int .u64 (r : Int)] w fun e w' => e = .returned (.agg (row (fun i => dgt r i))) ∧ Below w.heap.size w w' := by
  have HR : Hid (r < 4294967296) := hr
  clear hr
  go_enter Tryd.func20, Tryd.ntmps20
  go_wp2
  go_loopw [0, 4, 5] (fun s0 s4 s5 wr => ∃ j : Nat, j ≤ 40 ∧ s0 = .int .u64 ((r * 10 ^ j % 4294967296 : Nat) : Int) ∧ s5 = .int .i64 (j : Int) ∧ Pl wr (w.heap.size + 1) (fun i => if i < j then dgt r i else 0) ∧ Pl wr w.heap.size (fun _ => 0) ∧ Below w.heap.size w wr) (fun _ _ s5 _ => 40 - (intOf s5).toNat)
  case atStart =>
    refine ⟨0, by omega, by rw [Nat.pow_zero, Nat.mul_one, Nat.mod_eq_of_lt HR.out], rfl, ?_, ?_, bel2 _ _ _⟩
    · have h := Pl.new (w.alloc (.cells (row (fun _ => 0)) 44)) (fun _ => 0)
      rw [row_zero, World.size_alloc] at h
      exact h.to (fun i hi => by rw [if_neg (by omega)])
    · have h := (Pl.new w (fun _ => 0)).old (.cells (row (fun _ => 0)) 44)
      rw [row_zero] at h
      exact h
  case round =>
    obtain ⟨j, hj, rfl, rfl, hP, hZ, hW⟩ := hrel
    by_cases hlt : (j : Int) < 40
    · have hm : j < 40 := by omega
      have HN : Hid (10 * (r * 10 ^ j % 4294967296) % 4294967296 = r * 10 ^ (j + 1) % 4294967296) := rest_next r j
      have HG : Hid (10 * (r * 10 ^ j % 4294967296) / 4294967296 = dgt r j) := rfl
      have hd := dgt_lt r j
      have hx : r * 10 ^ j % 4294967296 < 4294967296 := Nat.mod_lt _ (by omega)
      obtain ⟨Y, hY⟩ : ∃ Y, r * 10 ^ (j + 1) % 4294967296 = Y := ⟨_, rfl⟩
      have HY : Hid (r * 10 ^ (j + 1) % 4294967296 = Y) := hY
      obtain ⟨z, hz⟩ : ∃ z, dgt r j = z := ⟨_, rfl⟩
      have HZ : Hid (dgt r j = z) := hz
      have h1 := HN.out
      have h2 := HG.out
      rw [hY] at h1
      rw [hz] at h2 hd
      clear hY hz HN HG
      generalize r * 10 ^ j % 4294967296 = x at *
      have x0 : (0 : Int) ≤ (x : Int) * 10 := by omega
      have u1 := Int.tmod_eq_emod_of_nonneg (b := 4294967296) x0
      have u2 := Int.tdiv_eq_ediv_of_nonneg (b := 4294967296) x0
      have y1 : (x : Int) * 10 % 4294967296 = (Y : Int) := by omega
      have y2 : (x : Int) * 10 / 4294967296 = (z : Int) := by omega
      rw [y1] at u1
      have v0 := wrap_small ((x : Int) * 10) (by omega) (by omega)
      have v1 := wrap_small (Y : Int) (by omega) (by omega)
      have v2 := wrap_byte (z : Int) (by omega) (by omega)
      have hcell := hP.cell j hm
      rw [if_neg (by omega)] at hcell
      have hfro := hP.fro j
      have i0 : (0 : Int) ≤ (j : Int) := by omega
      have hP2 := (hP.set j z hm).to (f' := fun i => if i < j + 1 then dgt r i else 0) (fun i hi => by
        by_cases e : i = j
        · subst e; rw [if_pos rfl, if_pos (by omega)]; exact HZ.out.symm
        · rw [if_neg e]
          by_cases h : i < j
          · rw [if_pos h, if_pos (by omega)]
          · rw [if_neg h, if_neg (by omega)])
      have hZ2 := hZ.far (a := ⟨w.heap.size + 1, j, none⟩) (by dsimp only; omega) (.int .u8 (z : Int))
      have hW2 := hW.setCell (p := ⟨w.heap.size + 1, j, none⟩) (by dsimp only; omega) (.int .u8 (z : Int))
      have HA : Hid (Pl (wr.setCell ⟨w.heap.size + 1, j, none⟩ (.int .u8 (z : Int))) (w.heap.size + 1) (fun i => if i < j + 1 then dgt r i else 0) ∧ Pl (wr.setCell ⟨w.heap.size + 1, j, none⟩ (.int .u8 (z : Int))) w.heap.size (fun _ => 0) ∧ Below w.heap.size w (wr.setCell ⟨w.heap.size + 1, j, none⟩ (.int .u8 (z : Int)))) := ⟨hP2, hZ2, hW2⟩
      clear hP hZ hW hP2 hZ2 hW2 h1 h2
      go_wp2
      go_roundw
      case rel => exact ⟨j + 1, by omega, by rw [HY.out], by go_num, HA.out.1, HA.out.2.1, HA.out.2.2⟩
      case measure => simp [intOf]; omega
    · obtain rfl : j = 40 := by omega
      have hP2 : Pl wr (w.heap.size + 1) (fun i => dgt r i) := hP.to (fun i hi => by rw [if_pos hi])
      have HA : Hid (Pl wr (w.heap.size + 1) (fun i => dgt r i) ∧ Pl wr w.heap.size (fun _ => 0) ∧ Pl (wr.setRow w.heap.size (row (fun i => dgt r i))) w.heap.size (fun i => dgt r i) ∧ Below w.heap.size w (wr.setRow w.heap.size (row (fun i => dgt r i)))) := ⟨hP2, hZ, hZ.put _, below_setRow hW (Nat.le_refl _) _⟩
      clear hP hP2 hZ hW
      go_wp2_with (first
        | (refine HA.out.1.wload rfl _ rfl rfl ?_)
        | (refine HA.out.2.1.wstore rfl _ _ (fun i => dgt r i) rfl rfl rfl ?_))
      exact bodyPost_ret (HA.out.2.2.1.res rfl _ rfl) rfl ⟨rfl, HA.out.2.2.2⟩
end Go.Proofs.YtekdpeiemfppiabDoor
