/-
  The laws of layer 15: DiskNone.
-/
import Derived.Test.YtnchmnemclbfcaaDkLawB
set_option linter.unusedVariables false
set_option linter.unusedSimpArgs false
namespace Go.Proofs.Ytnchmnemclbfcaa
open Go.RowKit

/-- The contracts of a disk that is none. -/
structure Disk0 where
  Nt : World → Value → Prop
  later : ∀ {w w' : World} {p : Value}, Nt w p → Below w.heap.size w w' → Nt w' p
  nil : ∀ w : World, Nt w (.pointer none)
  zero : ∀ w : World, Nt (w.alloc (.cells #[.int .i64 0, .map none, .slice none 0 0, .int .i64 0, .bool false] 48)) (.pointer (some ⟨w.heap.size, 0, none⟩))
  read : ∀ (w : World) (p : Value) (i : Int), Nt w p →
    Calls Try.prog 17 #[p, .int .i64 i] w fun e w' => ∃ v, e = .returned (.tuple #[v, .int .i64 1]) ∧ Bs w' v [] ∧ Below w.heap.size w w'
  safe : ∀ (w : World) (p : Value) (i : Int), Nt w p →
    Calls Try.prog 15 #[p, .int .i64 i] w fun e w' => ∃ v, e = .returned (.tuple #[v, .int .i64 1]) ∧ Bs w' v [] ∧ Below w.heap.size w w'
  arm : ∀ (w : World) (p : Value) (n : Int), Nt w p →
    Calls Try.prog 18 #[p, .int .i64 n] w fun e w' => e = .returned (.tuple #[]) ∧ Below w.heap.size w w'
  write : ∀ (w : World) (p : Value) (i : Int) (v : Value) (b : List Nat), Nt w p → Bs w v b →
    Calls Try.prog 19 #[p, .int .i64 i, v] w fun e w' => e = .returned (.int .i64 1) ∧ Below w.heap.size w w'
  flush : ∀ (w : World) (p : Value), Nt w p →
    Calls Try.prog 20 #[p] w fun e w' => e = .returned (.int .i64 1) ∧ Below w.heap.size w w'
  crash : ∀ (w : World) (p : Value) (v : Value) (fs : List (Int × Int)), Nt w p → Fts w v fs →
    Calls Try.prog 21 #[p, v] w fun e w' => e = .returned (.int .i64 1) ∧ Below w.heap.size w w'
  blocks : ∀ (w : World) (p : Value), Nt w p →
    Calls Try.prog 12 #[p] w fun e w' => e = .returned (.int .i64 0) ∧ Below w.heap.size w w'
  down : ∀ (w : World) (p : Value), Nt w p →
    Calls Try.prog 14 #[p] w fun e w' => e = .returned (.bool false) ∧ Below w.heap.size w w'
  under : ∀ (w : World) (p : Value), Nt w p →
    Calls Try.prog 22 #[p] w fun e w' => ∃ v, e = .returned v ∧ Is w' v [] ∧ Below w.heap.size w w'
set_option maxRecDepth 100000 in
set_option maxHeartbeats 8000000 in
theorem diskNone_any (V : Disk1) (Z : Disk0) (vo : Value) (os : List Opv) (w : World) (ho : Ops w vo os) :
    Calls Try.prog 4 #[vo] w fun e w' => e = .returned (.bool true) ∧ Below w.heap.size w w' := by
  have HL : Hid (Ops w vo os) := ho
  obtain ⟨ao, cpo, rfl, k3, k4⟩ := ho.len
  unfold maxLen at k4
  obtain ⟨m, hm⟩ : ∃ m, os.length = m := ⟨_, rfl⟩
  have HN : Hid (os.length = m) := hm
  rw [hm] at k3 HL ⊢
  clear ho hm
  go_enter Try.func4, Try.ntmps4
  go_wp2_with fail
  refine (awake15 V w).mono ?_
  rintro e w1 ⟨rfl, hb1⟩
  have HB1 : Hid (Below w.heap.size w w1) := hb1
  clear hb1
  go_wp2_with fail
  refine (few15 _ os w1 (HL.out.later HB1.out)).mono ?_
  rintro e w2 ⟨B, rfl, hF, hb2⟩
  have HB2 : Hid (Below w.heap.size w w2) := bchain HB1.out hb2
  clear hb2 HB1
  cases B with
  | false =>
    go_wp2
    go_ret
    exact ⟨rfl, HB2.out⟩
  | true =>
  clear hF
  obtain ⟨wB, hwB⟩ : ∃ wB, wB = (w2.alloc (.cells #[.int .i64 0, .map none, .slice none 0 0, .int .i64 0, .bool false] 48)).alloc (.cells #[.pointer none, .pointer (some ⟨w2.heap.size, 0, none⟩)] 25) := ⟨_, rfl⟩
  have HZ : Hid (Below w.heap.size w wB ∧ ∀ j, j < 2 → ∃ p, wB.cell? ⟨w2.heap.size + 1, j, none⟩ = some p ∧ Z.Nt wB p) := by
    rw [hwB]
    refine ⟨bchain HB2.out (bel2 _ _ _), fun j hj => ?_⟩
    have : j = 0 ∨ j = 1 := by omega
    rcases this with rfl | rfl
    · exact ⟨.pointer none, by simp [go_sem], Z.nil _⟩
    · exact ⟨.pointer (some ⟨w2.heap.size, 0, none⟩), by simp [go_sem], Z.later (Z.zero w2) (bel1 _ _)⟩
  go_upto_region 7 with fail
  rw [← hwB]
  clear hwB HB2
  generalize w2.heap.size + 1 = g at *
  go_loopw [22] (fun s22 wr => ∃ j : Nat, j ≤ 2 ∧ s22 = .int .i64 (j : Int) ∧ Hid (Below wB.heap.size wB wr)) (fun s22 _ => 2 - (intOf s22).toNat)
  case atStart => exact ⟨0, by omega, rfl, Below.refl _ _⟩
  case round =>
    obtain ⟨j, hj, rfl, HB⟩ := hrel
    by_cases hjl : j < 2
    · have hjI : (j : Int) < 2 := by omega
      obtain ⟨p, c0, hp⟩ := HZ.out.2 j hjl
      have x0 := cell_later HB.out c0
      have HP : Hid (Z.Nt wr p ∧ Below w.heap.size w wr) := ⟨Z.later hp HB.out, bchain HZ.out.1 HB.out⟩
      clear c0 hp
      go_upto_region 10 with fail
      generalize hwO : wr = wO at *
      clear hwO
      go_loopw [28] (fun s28 wr => ∃ i : Nat, i ≤ m ∧ s28 = .int .i64 (i : Int) ∧ Hid (Below wO.heap.size wO wr)) (fun s28 _ => m - (intOf s28).toNat)
      case atStart => exact ⟨0, by omega, rfl, Below.refl _ _⟩
      case round =>
        obtain ⟨i, hi, rfl, HBi⟩ := hrel
        by_cases hil : i < m
        · have hiI : (i : Int) < (m : Int) := by omega
          have hM := HN.out
          obtain ⟨b, o, vb, vf, rfl, c0, c1, c2, c3, hB, hF⟩ := HL.out.cel i (by omega)
          have hb0 := bchain HP.out.2 HBi.out
          have y0 := cell_later hb0 c0
          have y1 := cell_later hb0 c1
          have y2 := cell_later hb0 c2
          have y3 := cell_later hb0 c3
          generalize (os.getD i op0).k = kk at *
          generalize (os.getD i op0).i = ii at *
          generalize (os.getD i op0).b = bb at *
          generalize (os.getD i op0).fs = ff at *
          obtain ⟨a1, p1, rfl, -, -⟩ := hB.len
          obtain ⟨a2, p2, rfl, -, -⟩ := hF.len
          obtain ⟨nb, hnb⟩ : ∃ nb, bb.length = nb := ⟨_, rfl⟩
          obtain ⟨nf, hnf⟩ : ∃ nf, ff.length = nf := ⟨_, rfl⟩
          rw [hnb] at hB y2
          rw [hnf] at hF y3
          obtain ⟨wC, hwC⟩ : ∃ wC, wC = wr.alloc (.cells #[.int .i64 kk, .int .i64 ii, .slice a1 nb p1, .slice a2 nf p2] 35) := ⟨_, rfl⟩
          have HC : Hid (Below wO.heap.size wO wC ∧ Z.Nt wC p ∧ Bs wC (.slice a1 nb p1) bb ∧ Fts wC (.slice a2 nf p2) ff ∧ wC.cell? ⟨wr.heap.size, 1, none⟩ = some (.int .i64 ii) ∧ wC.cell? ⟨wr.heap.size, 2, none⟩ = some (.slice a1 nb p1) ∧ wC.cell? ⟨wr.heap.size, 3, none⟩ = some (.slice a2 nf p2)) := by
            rw [hwC]
            have h1 := bchain HBi.out (bel1 wr (.cells #[.int .i64 kk, .int .i64 ii, .slice a1 nb p1, .slice a2 nf p2] 35))
            have h2 := bchain HP.out.2 h1
            exact ⟨h1, Z.later HP.out.1 h1, hB.later h2, hF.later h2, by simp [go_sem], by simp [go_sem], by simp [go_sem]⟩
          clear c0 c1 c2 c3 hB hF hb0 hM
          go_upto_region 12 with fail
          rw [← hwC]
          clear hwC y0 y1 y2 y3
          generalize hgi : wr.heap.size = gi at *
          clear hgi
          have z1 := HC.out.2.2.2.2.1
          have z2 := HC.out.2.2.2.2.2.1
          have z3 := HC.out.2.2.2.2.2.2
          go_wp2_with fail
          refine (Z.read wC p ii HC.out.2.1).mono ?_
          rintro e u1 ⟨v1, rfl, hL1, hb1⟩
          obtain ⟨d1, f1, rfl, -, -⟩ := hL1.len
          rw [show ([] : List Nat).length = 0 from rfl]
          have H1 : Hid (Below wC.heap.size wC u1) := hb1
          clear hL1 hb1 z1 z2 z3
          have z1 := cell_later H1.out HC.out.2.2.2.2.1
          go_wp2_with fail
          refine (Z.safe u1 p ii (Z.later HC.out.2.1 H1.out)).mono ?_
          rintro e u2 ⟨v2, rfl, hL2, hb2⟩
          obtain ⟨d2, f2, rfl, -, -⟩ := hL2.len
          rw [show ([] : List Nat).length = 0 from rfl]
          have H2 : Hid (Below wC.heap.size wC u2) := bchain H1.out hb2
          clear hL2 hb2 z1 H1
          have z1 := cell_later H2.out HC.out.2.2.2.2.1
          go_wp2_with fail
          refine (Z.arm u2 p ii (Z.later HC.out.2.1 H2.out)).mono ?_
          rintro e u3 ⟨rfl, hb3⟩
          have H3 : Hid (Below wC.heap.size wC u3) := bchain H2.out hb3
          clear hb3 z1 H2
          have z1 := cell_later H3.out HC.out.2.2.2.2.1
          have z2 := cell_later H3.out HC.out.2.2.2.2.2.1
          go_wp2_with fail
          refine (Z.write u3 p ii _ bb (Z.later HC.out.2.1 H3.out) (HC.out.2.2.1.later H3.out)).mono ?_
          rintro e u4 ⟨rfl, hb4⟩
          have H4 : Hid (Below wC.heap.size wC u4) := bchain H3.out hb4
          clear hb4 z1 z2 H3
          go_wp2_with fail
          refine (Z.flush u4 p (Z.later HC.out.2.1 H4.out)).mono ?_
          rintro e u5 ⟨rfl, hb5⟩
          have H5 : Hid (Below wC.heap.size wC u5) := bchain H4.out hb5
          clear hb5 H4
          have z3 := cell_later H5.out HC.out.2.2.2.2.2.2
          go_wp2_with fail
          refine (Z.crash u5 p _ ff (Z.later HC.out.2.1 H5.out) (HC.out.2.2.2.1.later H5.out)).mono ?_
          rintro e u6 ⟨rfl, hb6⟩
          have H6 : Hid (Below wO.heap.size wO u6) := bchain HC.out.1 (bchain H5.out hb6)
          clear hb6 z3 H5 HC
          go_wp2
          go_roundw
          case rel => exact ⟨i + 1, by omega, by go_num, H6⟩
          case measure => simp [intOf]; omega
        · obtain rfl : i = m := by omega
          have hiI : ¬ (i : Int) < (i : Int) := by omega
          have HPi : Hid (Z.Nt wr p ∧ Below wB.heap.size wB wr) := ⟨Z.later HP.out.1 HBi.out, bchain HB.out HBi.out⟩
          go_wp2_with fail
          refine (Z.blocks wr p HPi.out.1).mono ?_
          rintro e u1 ⟨rfl, hb1⟩
          have H1 : Hid (Z.Nt u1 p ∧ Below wB.heap.size wB u1) := ⟨Z.later HPi.out.1 hb1, bchain HPi.out.2 hb1⟩
          clear hb1 HPi
          go_wp2_with fail
          refine (Z.down u1 p H1.out.1).mono ?_
          rintro e u2 ⟨rfl, hb2⟩
          have H2 : Hid (Z.Nt u2 p ∧ Below wB.heap.size wB u2) := ⟨Z.later H1.out.1 hb2, bchain H1.out.2 hb2⟩
          clear hb2 H1
          go_wp2_with fail
          refine (Z.under u2 p H2.out.1).mono ?_
          rintro e u3 ⟨v3, rfl, hL3, hb3⟩
          obtain ⟨d3, f3, rfl, -, -⟩ := hL3.len
          rw [show ([] : List Int).length = 0 from rfl]
          have H3 : Hid (Below wB.heap.size wB u3) := bchain H2.out.2 hb3
          clear hb3 hL3 H2
          go_wp2
          go_roundw
          case rel => exact ⟨j + 1, by omega, by go_num, H3⟩
          case measure => simp [intOf]; omega
    · obtain rfl : j = 2 := by omega
      have hjI : ¬ ((2 : Nat) : Int) < 2 := by omega
      have HBf : Hid (Below w.heap.size w wr) := bchain HZ.out.1 HB.out
      go_wp2
      go_ret
      exact ⟨rfl, HBf.out⟩
end Go.Proofs.Ytnchmnemclbfcaa
