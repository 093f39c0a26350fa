/-
  The laws of layer 16: SnapLast.
-/
import Derived.Test.YtpmmfmlldkdfhaaDoorYSnLawF
import Derived.Test.YtpmmfmlldkdfhaaDoorZ20

set_option linter.unusedVariables false
set_option linter.unusedSimpArgs false
namespace Go.Proofs.YtpmmfmlldkdfhaaDoor
open Go.RowKit

/-- The state of the law between two texts. -/
def Lst (V : Disk1) (Q : Snap1 V) (w0 w : World) (d q : Value) (room n : Nat) (v : Value) : Prop :=
  ∃ (last : List Nat) (s : Dsk), SnRest 1 room n last s ∧ Calm s ∧ Sn V Q w0 w d q s 1 room (fun _ => False) ∧ Bs w v last ∧ Lo w0.heap.size v ∧ s.bl.length = 2 * (room + 1) + 1
theorem svR_big {s : Dsk} {at_ room : Nat} {d : List Nat} (h : room * 128 < d.length) : svR s at_ room d = (0, 161, s) := by
  unfold svR
  rw [if_pos h]
theorem ls_old {w0 w w' : World} (b1 : Below w0.heap.size w0 w) (b2 : Below w0.heap.size w0 w') {v : Value} {l : List Nat} (h : Bs w v l) (ho : Lo w0.heap.size v) : Bs w' v l :=
  Kn.bs (N := fun _ => False) (fun k hk => hk.elim) b1 b2 h (Lo.ou ho)
set_option maxRecDepth 100000 in
set_option maxHeartbeats 16000000 in
theorem snapLast_any {V : Disk1} (Q : Snap1 V) (n : Int) (hn64 : Bd64 n) (vo : Value) (os : List (List Nat)) (hbo : ∀ j, j < os.length → ∀ c ∈ os.getD j [], c < 256) (w : World) (ho : Txs w vo os) (hT : ST w) :
    Calls Tryd.prog 6 #[.int .i64 n, vo] w fun e w' => e = .returned (.bool true) ∧ Below w.heap.size w w' := by
  have HL : Hid (Txs w vo os) := ho
  have HY : Hid (∀ j, j < os.length → ∀ c ∈ os.getD j [], c < 256) := hbo
  have HT : Hid (ST w) := hT
  obtain ⟨ao, cpo, rfl, k3, k4⟩ := ho.len
  unfold maxLen at k4
  obtain ⟨m, hm⟩ : ∃ m, os.length = m := ⟨_, rfl⟩
  have HM : Hid (os.length = m) := hm
  rw [hm] at k3 HL ⊢
  clear ho hm hbo hn64 hT
  go_enter Tryd.func6, Tryd.ntmps6
  go_wp2_with fail
  refine (awake16 Q w HT.out).mono ?_
  rintro e w1 ⟨rfl, hb1⟩
  have HB1 : Hid (Below w.heap.size w w1) := hb1
  clear hb1
  by_cases q1 : n < 1
  · go_wp2
    go_ret
    exact ⟨rfl, HB1.out⟩
  have q1B : decide (n < 1) = false := decide_eq_false q1
  by_cases q2 : 6 < n
  · go_wp2
    go_ret
    exact ⟨rfl, HB1.out⟩
  have q2B : decide (6 < n) = false := decide_eq_false q2
  by_cases q3 : 30 < m
  · have q3I : (30 : Int) < (m : Int) := by omega
    go_wp2
    go_ret
    exact ⟨rfl, HB1.out⟩
  have q3I : ¬ (30 : Int) < (m : Int) := by omega
  have q3B : decide ((30 : Int) < (m : Int)) = false := decide_eq_false q3I
  obtain ⟨room, rfl⟩ : ∃ room : Nat, n = (room : Int) := ⟨n.toNat, by omega⟩
  have HRm : Hid (1 ≤ room ∧ room ≤ 6 ∧ m ≤ 30) := ⟨by omega, by omega, by omega⟩
  obtain ⟨R1, hR1⟩ : ∃ R1, 1 + room = R1 := ⟨_, rfl⟩
  obtain ⟨R2, hR2⟩ : ∃ R2, 2 * R1 = R2 := ⟨_, rfl⟩
  obtain ⟨R3, hR3⟩ : ∃ R3, R2 + 1 = R3 := ⟨_, rfl⟩
  have r1 : (1 : Int) + (room : Int) = (R1 : Int) := by omega
  have r2 : IntKind.i64.wrap (R1 : Int) = (R1 : Int) := by rw [IntKind.wrap_i64]; omega
  have r3 : (2 : Int) * (R1 : Int) = (R2 : Int) := by omega
  have r4 : IntKind.i64.wrap (R2 : Int) = (R2 : Int) := by rw [IntKind.wrap_i64]; omega
  have r5 : (R2 : Int) + 1 = (R3 : Int) := by omega
  have r6 : IntKind.i64.wrap (R3 : Int) = (R3 : Int) := by rw [IntKind.wrap_i64]; omega
  have HR3 : Hid (R3 = 2 * (room + 1) + 1 ∧ 1 ≤ R3 ∧ R3 ≤ 15) := ⟨by omega, by omega, by omega⟩
  clear hR1 hR2 hR3
  go_wp2_with fail
  refine (dwNew V w w1 R3 HR3.out.2.1 (by have := HR3.out.2.2; omega) HB1.out).mono ?_
  rintro e w2 ⟨d, rfl, hD2⟩
  have HD2 : Hid (Dw V w w2 d (dNew R3)) := hD2
  clear hD2 HB1
  go_wp2_with fail
  refine (swNew Q HD2.out 1 room HRm.out.1 (by have := HRm.out; omega) (by have := HR3.out.1; simp [dNew]; omega)).mono ?_
  rintro e w3 ⟨aq, rfl, hD3⟩
  have HF0 : Hid (Lst V Q w w3 d (.pointer (some aq)) room 0 (.slice none 0 0)) := ⟨[], dNew R3, rest_new (by have := HR3.out.1; omega) (by have := HRm.out; omega), ⟨rfl, rfl⟩, hD3.sn, bs_nilS _, (fun a n cap e hn => by cases e), by rw [← HR3.out.1]; exact List.length_replicate⟩
  clear hD3 HD2
  obtain ⟨M8, hM8⟩ : ∃ M8, room * 128 = M8 := ⟨_, rfl⟩
  have m1 : (room : Int) * 128 = (M8 : Int) := by omega
  have m2 : IntKind.i64.wrap (M8 : Int) = (M8 : Int) := by have := HRm.out; rw [IntKind.wrap_i64]; omega
  have HM8 : Hid (room * 128 = M8) := hM8
  clear hM8 r1 r2 r3 r4 r5 r6
  go_upto_region 12 with fail
  go_loopw [9, 10, 53] (fun s9 s10 s53 wr => ∃ (j N : Nat), j ≤ m ∧ s53 = .int .i64 (j : Int) ∧ s9 = .int .i64 (N : Int) ∧ Hid (N ≤ j ∧ Lst V Q w wr d (.pointer (some aq)) room N s10)) (fun _ _ s53 _ => m - (intOf s53).toNat)
  case atStart => exact ⟨0, 0, by omega, rfl, rfl, Nat.le_refl _, HF0.out⟩
  case round =>
    obtain ⟨j, N, hj, rfl, rfl, HS⟩ := hrel
    clear HF0
    obtain ⟨hNj, last, s, hR, hC, hS, hB8, hO8, hbl⟩ := HS.out
    obtain ⟨a8, c8, rfl, -, -⟩ := hB8.len
    have HR : Hid (SnRest 1 room N last s ∧ s.bl.length = 2 * (room + 1) + 1 ∧ N ≤ 30 ∧ N ≤ j ∧ Calm s) := ⟨hR, hbl, by have := HRm.out; omega, hNj, hC⟩
    have HSn : Hid (Sn V Q w wr d (.pointer (some aq)) s 1 room (fun _ => False)) := hS
    have H8 : Hid (Bs wr (.slice a8 last.length c8) last ∧ Lo w.heap.size (.slice a8 last.length c8)) := ⟨hB8, hO8⟩
    clear HS hR hC hS hB8 hO8 hbl hNj
    obtain ⟨l8, hl8⟩ : ∃ l8, last.length = l8 := ⟨_, rfl⟩
    rw [hl8] at H8 ⊢
    clear hl8
    by_cases hlt : j < m
    · have hjI : (j : Int) < (m : Int) := by omega
      have hj0 : (0 : Int) ≤ (j : Int) := by omega
      have hm30 : m ≤ 30 := HRm.out.2.2
      have hM := HM.out
      obtain ⟨b, ob, vb, rfl, c0, hB⟩ := HL.out.cel j (by omega)
      obtain ⟨a1, p1, rfl, -, -⟩ := hB.len
      have HV : Hid (Lo w.heap.size (.slice a1 (os.getD j []).length p1) ∧ Bs w (.slice a1 (os.getD j []).length p1) (os.getD j []) ∧ (∀ c ∈ os.getD j [], c < 256)) := ⟨Ls.lo hB, hB, HY.out j (by omega)⟩
      have x0 := cell_later HSn.out.bel c0
      clear c0 hB hM
      generalize os.getD j [] = bb at *
      obtain ⟨nb1, hnb1⟩ : ∃ x, bb.length = x := ⟨_, rfl⟩
      have HNN : Hid (bb.length = nb1) := hnb1
      rw [hnb1] at x0 HV
      clear hnb1
      by_cases g1 : 2000 < nb1
      · have g1I : (2000 : Int) < (nb1 : Int) := by omega
        have HE : Hid (Below w.heap.size w wr) := HSn.out.bel
        clear HSn
        go_wp2
        go_ret
        exact ⟨rfl, HE.out⟩
      have g1I : ¬ (2000 : Int) < (nb1 : Int) := by omega
      go_wp2_with fail
      refine (snSave HSn.out HT.out HRm.out.1 (by rw [HR.out.2.1]; omega) (by rw [HR.out.2.1]; have := HRm.out; omega) (by rw [HR.out.1.un]; simp) (HV.out.2.1.later HSn.out.bel) (Lo.ou HV.out.1) HV.out.2.2 (by have := HNN.out; omega)).mono ?_
      rintro e w5 ⟨rfl, hS5, hK5⟩
      by_cases g2 : M8 < nb1
      · have g2I : (M8 : Int) < (nb1 : Int) := by omega
        have hsv := svR_big (s := s) (at_ := 1) (room := room) (d := bb) (by have := HNN.out; have := HM8.out; omega)
        rw [hsv] at hS5 ⊢
        have HF2 : Hid (N ≤ j + 1 ∧ Lst V Q w w5 d (.pointer (some aq)) room N (.slice a8 l8 c8)) := ⟨by have := HR.out.2.2.2.1; omega, last, s, HR.out.1, HR.out.2.2.2.2, hS5, ls_old HSn.out.bel hS5.bel H8.out.1 H8.out.2, H8.out.2, HR.out.2.1⟩
        clear hS5 hK5 hsv HSn H8 x0
        dsimp only
        go_wp2
        go_roundw
        case rel => exact ⟨j + 1, N, by omega, by go_num, by first | rfl | go_num, HF2⟩
        case measure => simp [intOf]; omega
      · have g2I : ¬ (M8 : Int) < (nb1 : Int) := by omega
        obtain ⟨f1, f2, f3, f4⟩ := HR.out.1.calm (d := bb) HR.out.2.2.2.2 (by have := HNN.out; have := HM8.out; omega) HV.out.2.2 (by have := HR.out.2.2.1; omega)
        have hJ := jq_sv (d := bb) (n := 2 * (room + 1) + 1) (at_ := 1) (room := room) (s := s) ⟨fun _ => HR.out.1.un, by rw [HR.out.1.un]; simp, HR.out.2.1⟩ (by omega) (by have := HRm.out; omega)
        have hsv := tri16 f2 f1
        rw [hsv] at hS5 ⊢
        dsimp only at hS5 ⊢
        have HF2 : Hid (N + 1 ≤ j + 1 ∧ Lst V Q w w5 d (.pointer (some aq)) room (N + 1) (.slice a1 nb1 p1)) := ⟨by have := HR.out.2.2.2.1; omega, bb, _, f3, f4, hS5, HV.out.2.1.later hS5.bel, HV.out.1, hJ.bl⟩
        obtain ⟨Np, hNp⟩ : ∃ Np, N + 1 = Np := ⟨_, rfl⟩
        have hN30 := HR.out.2.2.1
        rw [hNp] at HF2 ⊢
        have k1 : (N : Int) + 1 = (Np : Int) := by omega
        have k2 : IntKind.i64.wrap (Np : Int) = (Np : Int) := by rw [IntKind.wrap_i64]; omega
        clear hS5 hK5 hsv HSn H8 x0 f1 f2 f3 f4 hJ
        go_wp2
        go_roundw
        case rel => exact ⟨j + 1, Np, by omega, by go_num, by first | rfl | go_num, HF2⟩
        case measure => simp [intOf]; omega
    · obtain rfl : j = m := by omega
      have hjI : ¬ (j : Int) < (j : Int) := by omega
      go_wp2_with fail
      refine (snLoad HSn.out HT.out HRm.out.1 (by rw [HR.out.2.1]; omega) (by rw [HR.out.2.1]; have := HRm.out; omega) (by rw [HR.out.1.un]; simp)).mono ?_
      rintro e w7 ⟨v7, rfl, hB7, hO7, hW7⟩
      have hld := rest_load HR.out.1
      have HE : Hid (Below w.heap.size w w7 ∧ Bs w7 (.slice a8 l8 c8) last) := ⟨bchain HSn.out.bel hW7, H8.out.1.later hW7⟩
      by_cases hz : N = 0
      · subst hz
        rw [if_pos rfl] at hld
        rw [hld] at hB7 ⊢
        obtain ⟨a7, c7, rfl, -, -⟩ := hB7.len
        clear hB7 hO7 hW7 hld HSn H8
        dsimp only
        go_wp2
        go_ret
        exact ⟨rfl, HE.out.1⟩
      · have hzI : ¬ (N : Int) = 0 := by omega
        have hzB : ((N : Int) == 0) = false := by rw [beq_eq_false_iff_ne]; exact hzI
        rw [if_neg hz] at hld
        rw [hld] at hB7 ⊢
        have HB7 : Hid (Bs w7 v7 last) := hB7
        obtain ⟨a7, c7, rfl, -, -⟩ := hB7.len
        clear hB7 hO7 hW7 hld HSn H8
        dsimp only at HB7 ⊢
        generalize last.length = l7 at *
        go_wp2_with fail
        refine (sameB _ _ _ _ w7 HB7.out HE.out.2).mono ?_
        rintro e w8 ⟨rfl, hW8⟩
        rw [decide_eq_true rfl]
        have HE2 : Hid (Below w.heap.size w w8) := bchain HE.out.1 hW8
        clear hW8 HE HB7
        go_wp2
        go_ret
        exact ⟨rfl, HE2.out⟩
end Go.Proofs.YtpmmfmlldkdfhaaDoor
