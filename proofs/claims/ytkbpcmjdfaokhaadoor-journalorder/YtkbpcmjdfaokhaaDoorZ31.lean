/-
The program's journal: the parts of a record, told by their places.
The program's snap: numbers in a head, read and written.
-/
import Derived.Test.YtkbpcmjdfaokhaaDoorZ30
import Derived.Test.YtkbpcmjdfaokhaaDoorZ26
import Derived.Test.YtkbpcmjdfaokhaaDoorZ09

set_option linter.unusedVariables false
set_option linter.unusedSimpArgs false
namespace Go.Proofs.YtkbpcmjdfaokhaaDoor
open Go.RowKit Go.Shelf
attribute [local go_sem] Oper.semAt_some

/-- A part of a record, as a list of bytes in memory. -/
def pcV (b o n cap k : Nat) : Value := .slice (some ⟨b, o + k * 104, none⟩) (min 104 (n - k * 104)) (cap - k * 104)
/-- How a part is told. -/
def EA17 (b o n cap : Nat) (y : Nat) (args : Array Value) (Xp X : World) : Prop := args = #[.int .i64 (y : Int), pcV b o n cap y]
set_option maxRecDepth 100000 in
set_option maxHeartbeats 8000000 in
theorem parts_tellsAP (B1 : Nat) (FB : Nat → Prop) {W : World} (b o : Nat) (n cap : Nat) (hcap : n ≤ cap) (hcap2 : cap ≤ 2 ^ 63 - 1) (hl : n ≤ 1000000) (hn0 : ¬ n = 0) (h1 : ¬ FB B1)
    (c1 : W.cell? ⟨B1, 0, none⟩ = some (.slice (some ⟨b, o, none⟩) n cap)) :
    Tells0 Fence.wide 9 Tryd.prog 60 #[.pointer (some ⟨B1, 0, none⟩)] (List.range (prt n)) (EA17 b o n cap) FB W := by
  intro l0 J Jx W1 hb hl1 hl2 hJ hJx hY h0
  have HB : Hid (¬ FB B1 ∧ W.cell? ⟨B1, 0, none⟩ = some (.slice (some ⟨b, o, none⟩) n cap) ∧ B1 < W.heap.size) := ⟨h1, c1, World.block_lt_of_cell? _ _ c1⟩
  have HY : Hid (∀ i y args Xp X, (List.range (prt n))[i]? = some y → J i Xp → Below Xp.heap.size Xp X → EA17 b o n cap y args Xp X → YieldAt Fence.wide (9 - 1) Tryd.prog l0 args X fun e X' =>
      (e = .returned (.bool true) ∧ J (i + 1) X' ∧ Kq W.heap.size FB X X') ∨ (e = .returned (.bool false) ∧ Jx (i + 1) X')) := hY
  obtain ⟨cnt, hcnt⟩ : ∃ cnt, prt n = cnt := ⟨_, rfl⟩
  have HN : Hid (prt n = cnt ∧ (List.range (prt n)).length = cnt ∧ cnt ≤ 1000001 ∧ (cnt - 1) * 104 ≤ n ∧ n ≤ cnt * 104 ∧ 1 ≤ cnt ∧ (n = 0 ∨ (cnt - 1) * 104 < n)) := ⟨hcnt, by rw [List.length_range]; exact hcnt, by have := prt_le n; omega, by rw [← hcnt]; unfold prt; omega, by rw [← hcnt]; exact prt_room n, by rw [← hcnt]; exact prt_pos n, by rw [← hcnt]; unfold prt; omega⟩
  have hN := needs17 n (by omega)
  rw [hcnt] at hN
  have hx1 := (hb.cell (p := ⟨B1, 0, none⟩) (World.block_lt_of_cell? _ _ c1)).trans c1
  have HR : Hid (J 0 W1 ∧ (∀ k, k < W.heap.size → ¬ FB k → W1.heap[k]? = W.heap[k]?) ∧ W.heap.size ≤ W1.heap.size) := ⟨h0, fun k hk _ => hb.block k hk, hb.size⟩
  clear h1 c1 hb hJ hJx h0 hY hcnt hl1 hl2
  refine callsIn_wide.2 ?_
  show Calls Tryd.prog 60 #[.func (.yield l0) #[] #[], .pointer (some ⟨B1, 0, none⟩)] W1 _
  go_enter Tryd.func60, Tryd.ntmps60
  go_upto_region 1 with (go_at_call 41; refine (hN _).mono ?_; rintro e wq ⟨rfl, hwq⟩; replace hwq := hwq.symm; subst hwq; clear hN)
  clear hx1
  go_loopw [8] (fun s8 wr => ∃ r : Nat, r ≤ cnt ∧ s8 = .int .i64 (r : Int) ∧ Hid (J r wr ∧ (∀ k, k < W.heap.size → ¬ FB k → wr.heap[k]? = W.heap[k]?) ∧ W.heap.size ≤ wr.heap.size)) (fun s8 _ => cnt - (intOf s8).toNat)
  case atStart => exact ⟨0, Nat.zero_le _, rfl, HR.out⟩
  case round =>
    obtain ⟨r, hr, rfl, HW⟩ := hrel
    clear HR
    have cB1 : wr.cell? ⟨B1, 0, none⟩ = some (.slice (some ⟨b, o, none⟩) n cap) := cell_blk5 (a := ⟨B1, 0, none⟩) (HW.out.2.1 B1 HB.out.2.2 HB.out.1) HB.out.2.1
    obtain ⟨p, hp⟩ : ∃ p, r * 104 = p := ⟨_, rfl⟩
    by_cases hlt : r < cnt
    · have hrI : (r : Int) < (cnt : Int) := by omega
      have hpn : p ≤ n := by have := HN.out; omega
      have hpI : (p : Int) ≤ (n : Int) := by omega
      obtain ⟨e, he⟩ : ∃ e, min 104 (n - p) = e := ⟨_, rfl⟩
      have hpw : IntKind.i64.wrap ((r : Int) * 104) = (p : Int) := by rw [IntKind.wrap_i64]; have := HN.out; omega
      obtain ⟨t, ht⟩ : ∃ t, p + 104 = t := ⟨_, rfl⟩
      have htw : IntKind.i64.wrap ((p : Int) + 104) = (t : Int) := by rw [IntKind.wrap_i64]; have := HN.out; omega
      have HKd : Hid ((∀ k, k < W.heap.size → ¬ FB k → wr.heap[k]? = W.heap[k]?) ∧ W.heap.size ≤ wr.heap.size) := HW.out.2
      have hpl : p < n := by have := HN.out; omega
      obtain ⟨c2, hc2⟩ : ∃ c2, cap - p = c2 := ⟨_, rfl⟩
      have HE : Hid (EA17 b o n cap r #[.int .i64 (r : Int), .slice (some ⟨b, o + p, none⟩) e c2] wr wr) := by
        show _ = _
        unfold pcV
        rw [hp, he, hc2]
      obtain ⟨fn, tmps, assign, body, hy, hR⟩ := HY.out r r _ wr wr (List.getElem?_range (by rw [HN.out.1]; exact hlt)) HW.out.1 (Below.refl _ _) HE.out
      have hcp : p ≤ cap := by omega
      have hcp' : ¬ cap = p := by omega
      have hcpI : (p : Int) ≤ (cap : Int) := by omega
      by_cases q8 : t ≤ n
      · have q8I : (t : Int) ≤ (n : Int) := by omega
        have htc : (t : Int) ≤ (cap : Int) := by omega
        have hptI : (p : Int) ≤ (t : Int) := by omega
        obtain rfl : e = 104 := by omega
        have htn : t - p = 104 := by omega
        clear HW HE he hp ht
        go_upto_region 4 with fail
        refine (wpIn_wide (n := 9)).1 ?_
        gi_wp2
        refine hR.mono ?_
        rintro ee X3 (⟨rfl, hJ3, hK3⟩ | ⟨rfl, hJx3⟩)
        · have HX3 : Hid (J (r + 1) X3 ∧ (∀ k, k < W.heap.size → ¬ FB k → X3.heap[k]? = W.heap[k]?) ∧ W.heap.size ≤ X3.heap.size) :=
            ⟨hJ3, fun q hq hnq => (hK3.block q hq (Nat.lt_of_lt_of_le hq HKd.out.2) hnq).trans (HKd.out.1 q hq hnq), Nat.le_trans HKd.out.2 hK3.size⟩
          have hrw : IntKind.i64.wrap ((r : Int) + 1) = ((r + 1 : Nat) : Int) := by rw [IntKind.wrap_i64]; have := HN.out; omega
          clear hJ3 hK3 hR hy cB1
          gi_wp2
          go_wp2
          go_roundw
          case rel => exact ⟨r + 1, by omega, rfl, HX3.out⟩
          case measure => simp only [intOf]; omega
        · have HX3 : Hid (Jx (r + 1) X3 ∧ r + 1 ≤ (List.range (prt n)).length) := ⟨hJx3, by rw [HN.out.2.1]; omega⟩
          clear hJx3 hR hy cB1
          gi_wp2
          go_wp2
          refine bodyPost_ret (results_none rfl _ _ _) rfl ?_
          exact ⟨⟨_, rfl⟩, Or.inr ⟨_, HX3.out.2, HX3.out.1⟩⟩
      · have q8I : ¬ (t : Int) ≤ (n : Int) := by omega
        have hptI : (p : Int) ≤ (n : Int) := by omega
        have hnc : (n : Int) ≤ (cap : Int) := by omega
        have htn : n - p = e := by omega
        clear HW HE he hp ht
        go_upto_region 4 with fail
        refine (wpIn_wide (n := 9)).1 ?_
        gi_wp2
        refine hR.mono ?_
        rintro ee X3 (⟨rfl, hJ3, hK3⟩ | ⟨rfl, hJx3⟩)
        · have HX3 : Hid (J (r + 1) X3 ∧ (∀ k, k < W.heap.size → ¬ FB k → X3.heap[k]? = W.heap[k]?) ∧ W.heap.size ≤ X3.heap.size) :=
            ⟨hJ3, fun q hq hnq => (hK3.block q hq (Nat.lt_of_lt_of_le hq HKd.out.2) hnq).trans (HKd.out.1 q hq hnq), Nat.le_trans HKd.out.2 hK3.size⟩
          have hrw : IntKind.i64.wrap ((r : Int) + 1) = ((r + 1 : Nat) : Int) := by rw [IntKind.wrap_i64]; have := HN.out; omega
          clear hJ3 hK3 hR hy cB1
          gi_wp2
          go_wp2
          go_roundw
          case rel => exact ⟨r + 1, by omega, rfl, HX3.out⟩
          case measure => simp only [intOf]; omega
        · have HX3 : Hid (Jx (r + 1) X3 ∧ r + 1 ≤ (List.range (prt n)).length) := ⟨hJx3, by rw [HN.out.2.1]; omega⟩
          clear hJx3 hR hy cB1
          gi_wp2
          go_wp2
          refine bodyPost_ret (results_none rfl _ _ _) rfl ?_
          exact ⟨⟨_, rfl⟩, Or.inr ⟨_, HX3.out.2, HX3.out.1⟩⟩
    · have hnp : ¬ (r : Int) < (cnt : Int) := by omega
      have HE : Hid (J (List.range (prt n)).length wr) := by
        have e : r = cnt := by omega
        rw [HN.out.2.1, ← e]
        exact HW.out.1
      clear HW hp
      go_wp2
      go_end0
      exact ⟨⟨_, rfl⟩, Or.inl (by first | exact HE.out | (have h := HE.out; rw [List.length_range] at h; exact h))⟩
set_option maxRecDepth 100000 in
set_option maxHeartbeats 8000000 in
theorem parts_tellsAZ (B1 : Nat) (FB : Nat → Prop) {W : World} (b o : Nat) (cap : Nat) (hcap : 0 ≤ cap) (hcap2 : cap ≤ 2 ^ 63 - 1) (h1 : ¬ FB B1)
    (c1 : W.cell? ⟨B1, 0, none⟩ = some (.slice (some ⟨b, o, none⟩) 0 cap)) :
    Tells0 Fence.wide 9 Tryd.prog 60 #[.pointer (some ⟨B1, 0, none⟩)] (List.range (prt 0)) (EA17 b o 0 cap) FB W := by
  intro l0 J Jx W1 hb hl1 hl2 hJ hJx hY h0
  have HB : Hid (¬ FB B1 ∧ W.cell? ⟨B1, 0, none⟩ = some (.slice (some ⟨b, o, none⟩) 0 cap) ∧ B1 < W.heap.size) := ⟨h1, c1, World.block_lt_of_cell? _ _ c1⟩
  have HY : Hid (∀ i y args Xp X, (List.range (prt 0))[i]? = some y → J i Xp → Below Xp.heap.size Xp X → EA17 b o 0 cap y args Xp X → YieldAt Fence.wide (9 - 1) Tryd.prog l0 args X fun e X' =>
      (e = .returned (.bool true) ∧ J (i + 1) X' ∧ Kq W.heap.size FB X X') ∨ (e = .returned (.bool false) ∧ Jx (i + 1) X')) := hY
  have hcnt : prt 0 = 1 := rfl
  have HN : Hid ((List.range (prt 0)).length = 1) := by show _ = _; rw [List.length_range]; rfl
  have hN := needs17 0 (by omega)
  rw [hcnt] at hN
  have hx1 := (hb.cell (p := ⟨B1, 0, none⟩) (World.block_lt_of_cell? _ _ c1)).trans c1
  have HR : Hid (J 0 W1 ∧ (∀ k, k < W.heap.size → ¬ FB k → W1.heap[k]? = W.heap[k]?) ∧ W.heap.size ≤ W1.heap.size) := ⟨h0, fun k hk _ => hb.block k hk, hb.size⟩
  clear h1 c1 hb hJ hJx h0 hY hcnt hl1 hl2
  refine callsIn_wide.2 ?_
  show Calls Tryd.prog 60 #[.func (.yield l0) #[] #[], .pointer (some ⟨B1, 0, none⟩)] W1 _
  go_enter Tryd.func60, Tryd.ntmps60
  go_upto_region 1 with (go_at_call 41; refine (hN _).mono ?_; rintro e wq ⟨rfl, hwq⟩; replace hwq := hwq.symm; subst hwq; clear hN)
  clear hx1
  go_loopw [8] (fun s8 wr => ∃ r : Nat, r ≤ 1 ∧ s8 = .int .i64 (r : Int) ∧ Hid (J r wr ∧ (∀ k, k < W.heap.size → ¬ FB k → wr.heap[k]? = W.heap[k]?) ∧ W.heap.size ≤ wr.heap.size)) (fun s8 _ => 1 - (intOf s8).toNat)
  case atStart => exact ⟨0, Nat.zero_le _, rfl, HR.out⟩
  case round =>
    obtain ⟨r, hr, rfl, HW⟩ := hrel
    clear HR
    have cB1 : wr.cell? ⟨B1, 0, none⟩ = some (.slice (some ⟨b, o, none⟩) 0 cap) := cell_blk5 (a := ⟨B1, 0, none⟩) (HW.out.2.1 B1 HB.out.2.2 HB.out.1) HB.out.2.1
    by_cases hlt : r < 1
    · have hr0 : r = 0 := by omega
      have hrI : (r : Int) < 1 := by omega
      have hpw : IntKind.i64.wrap ((r : Int) * 104) = 0 := by rw [hr0]; rfl
      have hrw : IntKind.i64.wrap ((r : Int) + 1) = ((r + 1 : Nat) : Int) := by rw [hr0]; rfl
      have HKd : Hid ((∀ k, k < W.heap.size → ¬ FB k → wr.heap[k]? = W.heap[k]?) ∧ W.heap.size ≤ wr.heap.size) := HW.out.2
      by_cases hcz : cap = 0
      · subst hcz
        have HE : Hid (EA17 b o 0 0 r #[.int .i64 (r : Int), .slice (some ⟨b, o, none⟩) 0 0] wr wr) := by show _ = _; rw [hr0]; rfl
        obtain ⟨fn, tmps, assign, body, hy, hR⟩ := HY.out r r _ wr wr (List.getElem?_range hlt) HW.out.1 (Below.refl _ _) HE.out
        clear HW HE hr0
        go_upto_region 4 with fail
        refine (wpIn_wide (n := 9)).1 ?_
        gi_wp2
        refine hR.mono ?_
        rintro ee X3 (⟨rfl, hJ3, hK3⟩ | ⟨rfl, hJx3⟩)
        · have HX3 : Hid (J (r + 1) X3 ∧ (∀ k, k < W.heap.size → ¬ FB k → X3.heap[k]? = W.heap[k]?) ∧ W.heap.size ≤ X3.heap.size) :=
            ⟨hJ3, fun q hq hnq => (hK3.block q hq (Nat.lt_of_lt_of_le hq HKd.out.2) hnq).trans (HKd.out.1 q hq hnq), Nat.le_trans HKd.out.2 hK3.size⟩
          clear hJ3 hK3 hR hy cB1
          gi_wp2
          go_wp2
          go_roundw
          case rel => exact ⟨r + 1, by omega, rfl, HX3.out⟩
          case measure => simp only [intOf]; omega
        · have HX3 : Hid (Jx (r + 1) X3 ∧ r + 1 ≤ (List.range (prt 0)).length) := ⟨hJx3, by rw [HN.out]; omega⟩
          clear hJx3 hR hy cB1
          gi_wp2
          go_wp2
          refine bodyPost_ret (results_none rfl _ _ _) rfl ?_
          exact ⟨⟨_, rfl⟩, Or.inr ⟨_, HX3.out.2, HX3.out.1⟩⟩
      · have hcp' : ¬ cap = 0 := hcz
        have hcpI : (0 : Int) ≤ (cap : Int) := by omega
        have HE : Hid (EA17 b o 0 cap r #[.int .i64 (r : Int), .slice (some ⟨b, o, none⟩) 0 cap] wr wr) := by show _ = _; rw [hr0]; rfl
        obtain ⟨fn, tmps, assign, body, hy, hR⟩ := HY.out r r _ wr wr (List.getElem?_range hlt) HW.out.1 (Below.refl _ _) HE.out
        clear HW HE hr0
        go_upto_region 4 with fail
        refine (wpIn_wide (n := 9)).1 ?_
        gi_wp2
        refine hR.mono ?_
        rintro ee X3 (⟨rfl, hJ3, hK3⟩ | ⟨rfl, hJx3⟩)
        · have HX3 : Hid (J (r + 1) X3 ∧ (∀ k, k < W.heap.size → ¬ FB k → X3.heap[k]? = W.heap[k]?) ∧ W.heap.size ≤ X3.heap.size) :=
            ⟨hJ3, fun q hq hnq => (hK3.block q hq (Nat.lt_of_lt_of_le hq HKd.out.2) hnq).trans (HKd.out.1 q hq hnq), Nat.le_trans HKd.out.2 hK3.size⟩
          clear hJ3 hK3 hR hy cB1
          gi_wp2
          go_wp2
          go_roundw
          case rel => exact ⟨r + 1, by omega, rfl, HX3.out⟩
          case measure => simp only [intOf]; omega
        · have HX3 : Hid (Jx (r + 1) X3 ∧ r + 1 ≤ (List.range (prt 0)).length) := ⟨hJx3, by rw [HN.out]; omega⟩
          clear hJx3 hR hy cB1
          gi_wp2
          go_wp2
          refine bodyPost_ret (results_none rfl _ _ _) rfl ?_
          exact ⟨⟨_, rfl⟩, Or.inr ⟨_, HX3.out.2, HX3.out.1⟩⟩
    · have hnp : ¬ (r : Int) < 1 := by omega
      have HE : Hid (J (List.range (prt 0)).length wr) := by
        have e : r = 1 := by omega
        rw [HN.out, ← e]
        exact HW.out.1
      clear HW
      go_wp2
      go_end0
      exact ⟨⟨_, rfl⟩, Or.inl (by first | exact HE.out | (have h := HE.out; rw [List.length_range] at h; exact h))⟩
theorem parts_tellsA (B1 : Nat) (FB : Nat → Prop) {W : World} (b o : Nat) (n cap : Nat) (hcap : n ≤ cap) (hcap2 : cap ≤ 2 ^ 63 - 1) (hl : n ≤ 1000000) (h1 : ¬ FB B1)
    (c1 : W.cell? ⟨B1, 0, none⟩ = some (.slice (some ⟨b, o, none⟩) n cap)) :
    Tells0 Fence.wide 9 Tryd.prog 60 #[.pointer (some ⟨B1, 0, none⟩)] (List.range (prt n)) (EA17 b o n cap) FB W := by
  by_cases h0 : n = 0
  · subst h0
    exact parts_tellsAZ B1 FB b o cap hcap hcap2 h1 c1
  · exact parts_tellsAP B1 FB b o n cap hcap hcap2 hl h0 h1 c1
end Go.Proofs.YtkbpcmjdfaokhaaDoor
set_option linter.unusedVariables false
set_option linter.unusedSimpArgs false
namespace Go.Proofs.YtkbpcmjdfaokhaaDoor
open Go.RowKit

theorem bn64q (a : Nat) (ha : a < 18446744073709551616) : (BitVec.ofInt 64 (a : Int)).toNat = a := by
  rw [BitVec.ofInt_natCast, BitVec.toNat_ofNat]; exact Nat.mod_eq_of_lt (by omega)
theorem or64q (a b : Nat) (ha : a < 18446744073709551616) (hb : b < 18446744073709551616) : bits .or .u64 (a : Int) (b : Int) = ((a ||| b : Nat) : Int) := by
  have hx : a ||| b < 2 ^ 64 := Nat.or_lt_two_pow (by omega) (by omega)
  show IntKind.u64.wrap ((BitVec.ofInt 64 (a : Int) ||| BitVec.ofInt 64 (b : Int)).toNat : Int) = _
  rw [BitVec.toNat_or, bn64q a ha, bn64q b hb, IntKind.wrap_u64]
  omega
theorem or_plusq {a k : Nat} (h : a < 2 ^ k) (x : Nat) : a ||| x * 2 ^ k = a + x * 2 ^ k := by
  rw [Nat.or_comm, Nat.mul_comm x, ← Nat.two_pow_add_eq_or_of_lt h, Nat.add_comm]
theorem pow8 (j : Nat) : (256 : Nat) ^ j = 2 ^ (8 * j) := by rw [show (256 : Nat) = 2 ^ 8 by rfl, ← Nat.pow_mul]
theorem deN_snoc : ∀ (l : List Nat) (x : Nat), deN (l ++ [x]) = deN l + x * 256 ^ l.length := by
  intro l
  induction l with
  | nil => intro x; simp [deN]
  | cons c l ih =>
    intro x
    show c + 256 * deN (l ++ [x]) = c + 256 * deN l + x * 256 ^ (l.length + 1)
    rw [ih, Nat.mul_add, Nat.pow_succ, ← Nat.add_assoc, Nat.mul_comm (256 ^ l.length) 256, Nat.mul_left_comm]
theorem enN_snoc : ∀ (j n : Nat), enN n (j + 1) = enN n j ++ [n / 256 ^ j % 256] := by
  intro j
  induction j with
  | zero => intro n; simp [enN]
  | succ j ih =>
    intro n
    show n % 256 :: enN (n / 256) (j + 1) = n % 256 :: (enN (n / 256) j ++ [n / 256 ^ (j + 1) % 256])
    rw [ih, Nat.div_div_eq_div_mul, Nat.pow_succ, Nat.mul_comm 256]
/-- One byte more of a number. -/
theorem gt_succ (h : List Nat) (p j : Nat) (hl : p + j < h.length) : gt h p (j + 1) = gt h p j + h.getD (p + j) 0 * 2 ^ (8 * j) := by
  unfold gt
  have e : (h.drop p).take (j + 1) = (h.drop p).take j ++ [h.getD (p + j) 0] := by
    rw [List.take_add_one, List.getElem?_drop]
    simp [List.getD, hl]
  rw [e, deN_snoc, pow8, List.length_take, List.length_drop, Nat.min_eq_left (by omega)]
theorem gt_lt {h : List Nat} (hh : ∀ c ∈ h, c < 256) (p j : Nat) : gt h p j < 2 ^ (8 * j) := by
  have h1 := deN_lt ((h.drop p).take j) (fun c hc => hh c (List.mem_of_mem_drop (List.mem_of_mem_take hc)))
  refine Nat.lt_of_lt_of_le h1 ?_
  rw [pow8]
  exact Nat.pow_le_pow_right (by omega) (Nat.mul_le_mul_left 8 (by rw [List.length_take]; omega))
/-- A head with a number in it. -/
def ptN (h : List Nat) (p k x : Nat) : List Nat := h.take p ++ (enN x k ++ h.drop (p + k))
theorem ptN_zero (h : List Nat) (p x : Nat) : ptN h p 0 x = h := by
  unfold ptN
  rw [Nat.add_zero]
  show h.take p ++ ([] ++ h.drop p) = h
  rw [List.nil_append, List.take_append_drop]
theorem ptN_len (h : List Nat) (p k x : Nat) (hl : p + k ≤ h.length) : (ptN h p k x).length = h.length := by
  unfold ptN
  rw [List.length_append, List.length_append, List.length_take, List.length_drop, enN_len]
  omega
theorem ptN_succ (h : List Nat) (p k x : Nat) (hl : p + k < h.length) : (ptN h p k x).set (p + k) (x / 2 ^ (8 * k) % 256) = ptN h p (k + 1) x := by
  have e1 : h.drop (p + k) = h.getD (p + k) 0 :: h.drop (p + k + 1) := by
    rw [List.drop_eq_getElem_cons hl]
    simp [List.getD, hl]
  have e2 : (h.take p ++ enN x k).length = p + k := by rw [List.length_append, List.length_take, enN_len]; omega
  unfold ptN
  rw [enN_snoc, e1, pow8, ← List.append_assoc, List.set_append_right _ _ (by omega), e2, Nat.sub_self, List.append_assoc, List.append_assoc]
  rfl
theorem ptN_ok {h : List Nat} (hh : okb h) (p k x : Nat) (hp : p + k ≤ 128) : okb (ptN h p k x) := by
  refine ⟨by rw [ptN_len _ _ _ _ (by rw [hh.1]; omega)]; exact hh.1, fun c hc => ?_⟩
  unfold ptN at hc
  simp only [List.mem_append] at hc
  rcases hc with hc | hc | hc
  · exact hh.2 c (List.mem_of_mem_take hc)
  · exact enN_byte _ _ c hc
  · exact hh.2 c (List.mem_of_mem_drop hc)
theorem zr_ok16 : okb zr15 := ⟨zr_len, fun c hc => by unfold zr15 at hc; rw [(List.mem_replicate.1 hc).2]; omega⟩
/-- What the program writes is a head. -/
def hd0 (n : Nat) (d : List Nat) : List Nat := ptN (ptN (ptN (ptN zr15 0 8 n) 120 8 n) 8 8 d.length) 16 4 (sm d)
theorem hd0_is (n : Nat) (d : List Nat) : hd0 n d = hd20 n d ++ (List.replicate 100 0 ++ enN n 8) := by
  unfold hd0 hd20
  have z : zr15 = List.replicate 128 0 := rfl
  have l8 := enN_len n 8
  have l8' := enN_len d.length 8
  have e1 : ptN zr15 0 8 n = enN n 8 ++ List.replicate 120 0 := by
    unfold ptN
    rw [z, List.take_zero, List.nil_append, List.drop_replicate]
  have e2 : ptN (enN n 8 ++ List.replicate 120 0) 120 8 n = enN n 8 ++ (List.replicate 112 0 ++ enN n 8) := by
    unfold ptN
    rw [List.take_append, List.drop_of_length_le (by simp [l8]), l8, List.take_of_length_le (by omega), List.take_replicate, List.append_nil, List.append_assoc]
    rfl
  have e3 : ptN (enN n 8 ++ (List.replicate 112 0 ++ enN n 8)) 8 8 d.length = enN n 8 ++ (enN d.length 8 ++ (List.replicate 104 0 ++ enN n 8)) := by
    unfold ptN
    rw [List.take_append, List.take_of_length_le (by omega), l8, Nat.sub_self, List.take_zero, List.append_nil, List.drop_append, l8, List.drop_of_length_le (by omega), List.nil_append, List.drop_append, List.drop_replicate, List.length_replicate]
    rfl
  have e4 : ptN (enN n 8 ++ (enN d.length 8 ++ (List.replicate 104 0 ++ enN n 8))) 16 4 (sm d) = enN n 8 ++ (enN d.length 8 ++ (enN (sm d) 4 ++ (List.replicate 100 0 ++ enN n 8))) := by
    unfold ptN
    rw [List.take_append, List.take_of_length_le (by omega), l8, List.take_append, List.take_of_length_le (by omega), l8', Nat.sub_self, List.take_zero, List.append_nil, List.drop_append, l8, List.drop_of_length_le (by omega), List.nil_append, List.drop_append, l8', List.drop_of_length_le (by omega), List.nil_append, List.drop_append, List.drop_replicate, List.length_replicate]
    simp
  rw [e1, e2, e3, e4]
  simp
theorem hd0_top (n : Nat) (d : List Nat) : (hd0 n d).take 20 = hd20 n d := by
  rw [hd0_is, ← hd20_len n d, List.take_left]
theorem hd0_hdB (n : Nat) (d : List Nat) : ptN (hd0 n d) 20 4 (sm ((hd0 n d).take 20)) = hdB n d := by
  rw [hd0_top]
  unfold ptN
  rw [hd0_top, hd0_is, List.drop_append, hd20_len, List.drop_of_length_le (by rw [hd20_len]; omega), List.nil_append, List.drop_append, List.drop_replicate, List.length_replicate]
  unfold hdB
  rfl
theorem hd0_ok (n : Nat) (d : List Nat) : okb (hd0 n d) := ptN_ok (ptN_ok (ptN_ok (ptN_ok zr_ok16 0 8 n (by omega)) 120 8 n (by omega)) 8 8 _ (by omega)) 16 4 _ (by omega)
theorem b8_set (h : List Nat) (q x : Nat) : (b8 h).set q (.int .u8 (x : Int)) = b8 (h.set q x) := by
  unfold b8
  rw [List.map_set]
theorem Vb.setB {w : World} {g : Nat} {t : TypeId} {h : List Nat} (hV : Vb w g t (b8 h)) (q x : Nat) : Vb (w.setCell ⟨g, q, none⟩ (.int .u8 (x : Int))) g t (b8 (h.set q x)) := by
  have hlt := hV.lt
  unfold Vb at hV ⊢
  rw [← b8_set]
  have e : w.heap[g] = Obj.cells (b8 h).toArray t := by
    rw [Array.getElem?_eq_getElem hlt] at hV
    exact Option.some.inj hV
  simp [World.setCell, hlt, Array.getElem_modify, e]
end Go.Proofs.YtkbpcmjdfaokhaaDoor
