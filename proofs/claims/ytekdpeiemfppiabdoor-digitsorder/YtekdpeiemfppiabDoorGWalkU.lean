/-
  The contracts of digits' Text and Whole.
-/
import Derived.Test.YtekdpeiemfppiabDoorGWalkT
set_option linter.unusedVariables false
set_option linter.unusedSimpArgs false
namespace Go.Proofs.YtekdpeiemfppiabDoor
open Go.RowKit

/-- The signs of the first digits of an array. -/
def sgn (f : Nat → Nat) (j : Nat) : List UInt8 := (List.range j).map (fun i => UInt8.ofNat (48 + f i))
theorem sgn_len (f : Nat → Nat) (j : Nat) : (sgn f j).length = j := by unfold sgn; simp
theorem sgn_succ (f : Nat → Nat) (j : Nat) : sgn f (j + 1) = sgn f j ++ [UInt8.ofNat (48 + f j)] := by unfold sgn; rw [List.range_succ, List.map_append]; rfl
theorem cells_succ (f : Nat → Nat) (j : Nat) (h : f j < 10) : Lib.byteCells (sgn f (j + 1)) = Lib.byteCells (sgn f j) ++ [.int .u8 (48 + ((f j : Nat) : Int))] := by
  rw [sgn_succ]
  unfold Lib.byteCells
  rw [List.map_append]
  congr 2
  simp
  omega
set_option maxRecDepth 100000 in
set_option maxHeartbeats 4000000 in
theorem gptext_raw (f : Nat → Nat) (hf : ∀ i, f i < 10) (w : World) :
    Calls Tryd.prog 21 #[.agg (row f)] w fun e w' => e = .returned (.string (bs (Lib.trimRightB (sgn f 40) 48))) ∧ Below w.heap.size w w' := by
  have hs := row_size f
  have HF : Hid (∀ i, f i < 10) := hf
  clear hf
  have HP : Hid (Pl ((w.alloc (.cells (row f) 44)).alloc (.cells #[.pointer none, .slice none 0 0] 68)) w.heap.size f) := (Pl.new w f).old _
  go_enter Tryd.func21, Tryd.ntmps21
  go_wp2_with (refine HP.out.wload rfl _ rfl rfl ?_)
  clear HP
  go_loopw [5, 7] (fun s5 s7 wr => ∃ j : Nat, j ≤ 40 ∧ s7 = .int .i64 (j : Int) ∧ Lib.IsBuilderF 68 5 (w.heap.size + 1) (w.heap.size + 1) (Lib.byteCells (sgn f j)) wr ∧ Below w.heap.size w wr) (fun _ s7 _ => 40 - (intOf s7).toNat)
  case atStart =>
    refine ⟨0, by omega, rfl, ?_, bel2 _ _ _⟩
    have h := Lib.IsBuilderF.of (Lib.fresh_isBuilder 68 5 (w.alloc (.cells (row f) 44)))
    rw [World.size_alloc] at h
    exact h
  case round =>
    obtain ⟨j, hj, rfl, hI, hW⟩ := hrel
    by_cases hlt : (j : Int) < 40
    · have hjx := fun W => row_index f j (by omega) W
      have hd := HF.out j
      have HS : Hid (Lib.byteCells (sgn f (j + 1)) = Lib.byteCells (sgn f j) ++ [.int .u8 (48 + ((f j : Nat) : Int))]) := cells_succ f j hd
      have hz : w.heap.size + 1 ≤ wr.heap.size := by
        rcases hI with h | h
        · obtain ⟨_, v, hb, _⟩ := h
          exact Nat.le_of_lt (Array.getElem?_eq_some_iff.1 hb).1
        · obtain ⟨_, v, hb, _⟩ := h
          exact Nat.le_of_lt (Array.getElem?_eq_some_iff.1 hb).1
      have PW : Hid (Calls Tryd.prog 35 #[.pointer (some ⟨w.heap.size + 1, 0, none⟩), .int .u8 (48 + ((f j : Nat) : Int))] wr fun e w' => e = .returned .nilIface ∧ (Lib.BuilderAtF 68 5 (w.heap.size + 1) (w.heap.size + 1) (.pointer (some ⟨w.heap.size + 1, 0, none⟩)) (Lib.byteCells (sgn f j) ++ [.int .u8 (48 + ((f j : Nat) : Int))]) w' ∧ Below (w.heap.size + 1) wr w' ∧ Lib.OthersKept 5 (some (w.heap.size + 1)) wr w')) := Tryd.Builder_WriteByte_k (w.heap.size + 1) (w.heap.size + 1) _ _ wr hI (by rw [Lib.byteCells_length, sgn_len]; omega) hz
      have HW : Hid (Below w.heap.size w wr) := hW
      have v1 := wrap_byte (48 + ((f j : Nat) : Int)) (by omega) (by omega)
      clear hI hW
      go_wp2_with fail
      refine PW.out.mono ?_
      rintro e w1 ⟨rfl, h1, b1, k1⟩
      have HA : Hid (Lib.IsBuilderF 68 5 (w.heap.size + 1) (w.heap.size + 1) (Lib.byteCells (sgn f (j + 1))) w1 ∧ Below w.heap.size w w1) := ⟨by rw [HS.out]; exact Or.inr h1, HW.out.trans (b1.mono (by omega))⟩
      clear h1 b1 k1 PW HW
      go_wp2
      go_roundw
      case rel => exact ⟨j + 1, by omega, by go_num, HA.out.1, HA.out.2⟩
      case measure => simp [intOf]; omega
    · obtain rfl : j = 40 := by omega
      have hz : w.heap.size + 1 ≤ wr.heap.size := by
        rcases hI with h | h
        · obtain ⟨_, v, hb, _⟩ := h
          exact Nat.le_of_lt (Array.getElem?_eq_some_iff.1 hb).1
        · obtain ⟨_, v, hb, _⟩ := h
          exact Nat.le_of_lt (Array.getElem?_eq_some_iff.1 hb).1
      have PS : Hid (Calls Tryd.prog 37 #[.pointer (some ⟨w.heap.size + 1, 0, none⟩)] wr fun e w' => e = .returned (.string (bs (sgn f 40))) ∧ (Lib.IsBuilderF 68 5 (w.heap.size + 1) (w.heap.size + 1) (Lib.byteCells (sgn f 40)) w' ∧ Below (w.heap.size + 1) wr w' ∧ Lib.OthersKept 5 (some (w.heap.size + 1)) wr w')) := Tryd.Builder_String_any_k (w.heap.size + 1) (w.heap.size + 1) _ wr hI hz
      have zb : (bs (sgn f 40)).size = 40 := by rw [bs_size, sgn_len]
      have PR : Hid (∀ W : World, Calls Tryd.prog 36 #[.string (bs (sgn f 40)), .string ⟨#[48]⟩] W fun e w' => e = .returned (.string (bs (Lib.trimRightB (sgn f 40) 48))) ∧ w' = W) := fun W => Tryd.strings_TrimRight_one (bs (sgn f 40)) 48 (by decide) W (by omega)
      have HW : Hid (Below w.heap.size w wr) := hW
      clear hI hW
      go_wp2_with fail
      refine PS.out.mono ?_
      rintro e w1 ⟨rfl, _, b1, _⟩
      have HW1 : Hid (Below w.heap.size w w1) := HW.out.trans (b1.mono (by omega))
      clear b1 PS HW
      go_wp2_with fail
      refine (PR.out _).mono ?_
      rintro e w2 ⟨rfl, rfl⟩
      clear PR
      go_wp2
      go_ret
      exact ⟨rfl, HW1.out⟩
/-- The digits of a number of steps below one, as a text. -/
theorem gptext_any (r : Nat) (hr : r < 4294967296) (w : World) :
    Calls Tryd.prog 21 #[.agg (row (fun i => dgt r i))] w fun e w' => e = .returned (.string (bs (flf 33 r))) ∧ Below w.heap.size w w' := by
  have h := gptext_raw (fun i => dgt r i) (fun i => dgt_lt r i) w
  rw [show sgn (fun i => dgt r i) 40 = (List.range 40).map (fun j => UInt8.ofNat (48 + dgt r j)) from rfl, text_end r hr] at h
  exact h
theorem flf_len (r : Nat) (h : r < 4294967296) : (flf 33 r).length ≤ 40 := by
  rw [← text_end r h]
  unfold Lib.trimRightB
  rw [List.length_reverse]
  refine Nat.le_trans (List.dropWhile_sublist _).length_le ?_
  simp
set_option maxRecDepth 100000 in
set_option maxHeartbeats 4000000 in
theorem gtext_low (a : Int) (a0 : -9223372036854775808 ≤ a) (a1 : a ≤ 9223372036854775807) (w : World) (hT : a.natAbs / 4294967296 < 100 ∨ PT w) :
    Calls Tryd.prog 7 #[.int .i64 a] w fun e w' => e = .returned (.string (bs (tl a))) ∧ Below w.heap.size w w' := by
  unfold tl
  obtain ⟨m, hm⟩ : ∃ m, a.natAbs = m := ⟨_, rfl⟩
  rw [hm] at hT ⊢
  have hm2 : m ≤ 9223372036854775808 := by omega
  have PF : Hid (Calls Tryd.prog 19 #[.int .u64 ((m : Int) / 4294967296), .int .i64 10] w fun e w' => e = .returned (.string (bs (dl (m / 4294967296)))) ∧ Below w.heap.size w w') := by
    have h := gfmt_any (m / 4294967296) (by omega) w hT
    rw [show ((m / 4294967296 : Nat) : Int) = (m : Int) / 4294967296 by omega] at h
    exact h
  clear hT
  obtain ⟨l0, l1⟩ := dl_len20 (m / 4294967296) (by omega)
  obtain ⟨r, hr⟩ : ∃ r, m % 4294967296 = r := ⟨_, rfl⟩
  have hr1 : r < 4294967296 := by omega
  have hr2 : (m : Int) % 4294967296 = (r : Int) := by omega
  rw [hr]
  have PO : Hid (∀ W : World, Calls Tryd.prog 20 #[.int .u64 (r : Int)] W fun e w' => e = .returned (.agg (row (fun i => dgt r i))) ∧ Below W.heap.size W w') := fun W => gplacesOf_raw r hr1 W
  have PX : Hid (∀ W : World, Calls Tryd.prog 21 #[.agg (row (fun i => dgt r i))] W fun e w' => e = .returned (.string (bs (flf 33 r))) ∧ Below W.heap.size W w') := fun W => gptext_any r hr1 W
  have lf := flf_len r hr1
  generalize dl (m / 4294967296) = d at *
  generalize flf 33 r = g at *
  have zd := bs_size d
  have zg := bs_size g
  have z1 : (bs (45 :: d)).size = d.length + 1 := bs_size (45 :: d)
  have z2 : (bs (46 :: g)).size = g.length + 1 := bs_size (46 :: g)
  have q1 : ByteArray.mk #[45] ++ bs d = bs (45 :: d) := bs_app [45] d
  have q2 : ByteArray.mk #[46] ++ bs g = bs (46 :: g) := bs_app [46] g
  have q3 : ByteArray.mk #[] ++ bs d = bs d := bs_app [] d
  have q4 := bs_app d (46 :: g)
  have q5 : bs (45 :: d) ++ bs (46 :: g) = bs (45 :: (d ++ 46 :: g)) := bs_app (45 :: d) (46 :: g)
  have x0 : (0 : Int) ≤ (m : Int) := by omega
  have t1 := Int.tmod_eq_emod_of_nonneg (b := 4294967296) x0
  have t2 := Int.tdiv_eq_ediv_of_nonneg (b := 4294967296) x0
  rw [hr2] at t1
  have w1 := wrap_small (r : Int) (by omega) (by omega)
  have w2 := wrap_small ((m : Int) / 4294967296) (by omega) (by omega)
  have zs : (ByteArray.mk #[45]).size = 1 := rfl
  have zp : (ByteArray.mk #[46]).size = 1 := rfl
  have ze : (ByteArray.mk #[]).size = 0 := rfl
  by_cases hn : a < 0
  · have c1 : IntKind.u64.wrap (-IntKind.u64.wrap a) = (m : Int) := by rw [IntKind.wrap_u64, IntKind.wrap_u64]; omega
    rw [if_pos hn]
    by_cases h0 : r = 0
    · rw [if_pos h0, List.append_nil]
      have h0' : (r : Int) = 0 := by omega
      clear hm hr hr2
      go_enter Tryd.func7, Tryd.ntmps7
      go_wp2_with fail
      refine PF.out.mono ?_
      rintro e wa ⟨rfl, Wa⟩
      clear PF PO PX
      go_wp2
      go_ret
      exact ⟨rfl, Wa⟩
    · rw [if_neg h0]
      have h0' : (0 : Int) < (r : Int) := by omega
      clear hm hr hr2
      go_enter Tryd.func7, Tryd.ntmps7
      go_wp2_with fail
      refine PF.out.mono ?_
      rintro e wa ⟨rfl, Wa⟩
      clear PF
      go_wp2_with fail
      refine (PO.out _).mono ?_
      rintro e wb ⟨rfl, hb⟩
      have Wb := bchain Wa hb
      clear PO hb Wa
      go_wp2_with fail
      refine (PX.out _).mono ?_
      rintro e wc ⟨rfl, hb⟩
      have Wc := bchain Wb hb
      clear PX hb Wb
      go_wp2
      go_ret
      exact ⟨rfl, Wc⟩
  · have c1 : IntKind.u64.wrap a = (m : Int) := by rw [IntKind.wrap_u64]; omega
    rw [if_neg hn, List.nil_append]
    by_cases h0 : r = 0
    · rw [if_pos h0, List.append_nil]
      have h0' : (r : Int) = 0 := by omega
      clear hm hr hr2
      go_enter Tryd.func7, Tryd.ntmps7
      go_wp2_with fail
      refine PF.out.mono ?_
      rintro e wa ⟨rfl, Wa⟩
      clear PF PO PX
      go_wp2
      go_ret
      exact ⟨rfl, Wa⟩
    · rw [if_neg h0]
      have h0' : (0 : Int) < (r : Int) := by omega
      clear hm hr hr2
      go_enter Tryd.func7, Tryd.ntmps7
      go_wp2_with fail
      refine PF.out.mono ?_
      rintro e wa ⟨rfl, Wa⟩
      clear PF
      go_wp2_with fail
      refine (PO.out _).mono ?_
      rintro e wb ⟨rfl, hb⟩
      have Wb := bchain Wa hb
      clear PO hb Wa
      go_wp2_with fail
      refine (PX.out _).mono ?_
      rintro e wc ⟨rfl, hb⟩
      have Wc := bchain Wb hb
      clear PX hb Wb
      go_wp2
      go_ret
      exact ⟨rfl, Wc⟩
theorem gtext_any (a : Int) (a0 : -9223372036854775808 ≤ a) (a1 : a ≤ 9223372036854775807) (w : World) (hT : PT w) :
    Calls Tryd.prog 7 #[.int .i64 a] w fun e w' => e = .returned (.string (bs (tl a))) ∧ Below w.heap.size w w' := gtext_low a a0 a1 w (Or.inr hT)
end Go.Proofs.YtekdpeiemfppiabDoor
