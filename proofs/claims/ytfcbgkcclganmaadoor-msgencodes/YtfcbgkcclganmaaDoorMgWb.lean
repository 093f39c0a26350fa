/-
  Layer 14's msg: Right.
-/
import Derived.Test.YtfcbgkcclganmaaDoorMgWa
set_option linter.unusedVariables false
set_option linter.unusedSimpArgs false
namespace Go.Proofs.YtfcbgkcclganmaaDoor
open Go.RowKit

/-- A field is within its ends, or 0. -/
def OkF (m : Ms) (f : Nat) : Prop := ((f : Int) ∈ fdL m.k → leF f ≤ szF m f ∧ szF m f ≤ moF f) ∧ (¬ (f : Int) ∈ fdL m.k → szF m f = 0)
theorem okF_rgt (m : Ms) (h1 : 1 ≤ m.k) (h8 : m.k ≤ 8) : Rgt m ↔ (∀ f, f < 7 → OkF m f) ∧ (5 ∈ fdL m.k → m.pt < m.ps) := by
  obtain ⟨k, fr, inc, rd, h, pt, ps, d⟩ := m
  dsimp only at h1 h8
  constructor
  · intro r
    have n1 := r.nF
    have n2 := r.nI
    have n3 := r.nR
    have n4 := r.nH
    have n5 := r.nP
    have n6 := r.nS
    have n7 := r.nD
    have b1 := r.fr
    have b2 := r.inc
    have b3 := r.rd
    have b4 := r.pt
    have b5 := r.h
    have b6 := r.ps
    have b7 := r.d
    unfold uF uI uR uH uP uS uD at *
    dsimp only at *
    have e7 : d = [] ∨ 0 < d.length := by cases d with | nil => exact Or.inl rfl | cons a t => exact Or.inr (by simp)
    refine ⟨fun f hf => ?_, ?_⟩
    · rcases kind8 h1 h8 with rfl | rfl | rfl | rfl | rfl | rfl | rfl | rfl <;> rcases less7 hf with rfl | rfl | rfl | rfl | rfl | rfl | rfl <;> simp [OkF, fdL, leF, moF, szF] <;> first | omega | (exact n7 (by decide))
    · rcases kind8 h1 h8 with rfl | rfl | rfl | rfl | rfl | rfl | rfl | rfl <;> simp [fdL] <;> omega
  · rintro ⟨hA, hP⟩
    have a0 := hA 0 (by omega)
    have a1 := hA 1 (by omega)
    have a2 := hA 2 (by omega)
    have a3 := hA 3 (by omega)
    have a4 := hA 4 (by omega)
    have a5 := hA 5 (by omega)
    have a6 := hA 6 (by omega)
    clear hA
    rcases kind8 h1 h8 with rfl | rfl | rfl | rfl | rfl | rfl | rfl | rfl
    all_goals
      simp [OkF, fdL, leF, moF, szF] at a0 a1 a2 a3 a4 a5 a6 hP
      constructor <;> (try simp only [uF, uI, uR, uH, uP, uS, uD]) <;> (try dsimp only) <;> first | omega | (intro q; simp at q; done) | (intro q; first | omega | exact a6) | (rw [a6]; decide)
theorem rgt_kind {m : Ms} (h : ¬ (1 ≤ m.k ∧ m.k ≤ 8)) : ¬ Rgt m := fun r => h ⟨r.k1, r.k8⟩
set_option maxRecDepth 100000 in
set_option maxHeartbeats 4000000 in
theorem right14 (m : Ms) (v : Value) (w : World) (h : Bs w v m.d) :
    Calls Tryd.prog 11 #[msV m v] w fun e w' => RgE m w e w' := by
  obtain ⟨ad, cap, rfl, h1, h2⟩ := h.len
  unfold maxLen at h2
  have HF : Hid (∀ W, Calls Tryd.prog 19 #[.int .i64 m.k] W fun e w' => ∃ v, e = .returned v ∧ Is w' v (fdL m.k) ∧ Ow W.heap.size v ∧ Below W.heap.size W w') := fun W => fieldsOf_any m.k W
  have HZ : Hid (∀ (f : Nat) W, f < 7 → Calls Tryd.prog 22 #[.agg #[.int .i64 m.k, .int .i64 m.fr, .int .i64 m.inc, .int .i64 m.rd, .int .i64 m.h, .int .i64 m.pt, .int .i64 m.ps, .slice ad m.d.length cap], .int .i64 (f : Int)] W fun e w' => e = .returned (.int .i64 (szF m f)) ∧ Below W.heap.size W w') := fun f W hf => size_any m ad cap f hf W
  have HY : Hid (Rgt m ↔ 1 ≤ m.k ∧ m.k ≤ 8 ∧ (∀ f, f < 7 → OkF m f) ∧ (5 ∈ fdL m.k → m.pt < m.ps)) := by
    constructor
    · intro r; exact ⟨r.k1, r.k8, (okF_rgt m r.k1 r.k8).1 r⟩
    · rintro ⟨q1, q2, q3⟩; exact (okF_rgt m q1 q2).2 q3
  have HK : Hid ((fdL m.k).length = 0 ↔ ¬ (1 ≤ m.k ∧ m.k ≤ 8)) := by
    constructor
    · intro e q
      rcases kind8 q.1 q.2 with z | z | z | z | z | z | z | z <;> rw [z] at e <;> cases e
    · intro q; rw [fdL_none q]; rfl
  have HB0 : Hid (B8 w.heap.size ⟨m.k, m.fr, m.inc, m.rd, m.h, m.pt, m.ps, []⟩ (.slice ad m.d.length cap) (w.alloc (.cells #[.int .i64 m.k, .int .i64 m.fr, .int .i64 m.inc, .int .i64 m.rd, .int .i64 m.h, .int .i64 m.pt, .int .i64 m.ps, .slice ad m.d.length cap] 24))) := B8.new w ⟨m.k, m.fr, m.inc, m.rd, m.h, m.pt, m.ps, []⟩ _ _
  have HSz : Hid (∀ f, f < 7 → (OkF m f ↔ ((f : Int) ∈ fdL m.k → leF f ≤ szF m f ∧ szF m f ≤ moF f) ∧ (¬ (f : Int) ∈ fdL m.k → szF m f = 0))) := fun f _ => Iff.rfl
  clear h h1
  unfold msV
  generalize hk : m.k = k at *
  generalize hfr : m.fr = fr at *
  generalize hinc : m.inc = inc at *
  generalize hrd : m.rd = rd at *
  generalize hh : m.h = hx at *
  generalize hpt : m.pt = pt at *
  generalize hps : m.ps = ps at *
  generalize hdl : m.d.length = n at *
  clear hk hfr hinc hrd hh hpt hps hdl
  go_enter Tryd.func11, Tryd.ntmps11
  obtain ⟨wA, hwA⟩ : ∃ wA, wA = (w.alloc (.cells #[.int .i64 k, .int .i64 fr, .int .i64 inc, .int .i64 rd, .int .i64 hx, .int .i64 pt, .int .i64 ps, .slice ad n cap] 24)) := ⟨_, rfl⟩
  have HA : Hid (Below w.heap.size w wA ∧ w.heap.size < wA.heap.size) := by rw [hwA]; exact ⟨bel1 _ _, by simp [go_sem]⟩
  rw [← hwA] at HB0
  obtain ⟨x0, x1, x2, x3, x4, x5, x6, x7⟩ := HB0.out
  go_upto_region 1 with fail
  rw [← hwA]
  clear hwA
  dsimp only at x0
  go_wp2_with fail
  refine (HF.out _).mono ?_
  rintro e w1 ⟨v1, rfl, hI1, hO1, hB1⟩
  have HI : Hid (Is w1 v1 (fdL k)) := hI1
  obtain ⟨ad1, cap1, rfl, l1, l2⟩ := hI1.len
  have HL := fdL_len k
  unfold maxLen at l2
  have HB1 : Hid (B8 w.heap.size ⟨k, fr, inc, rd, hx, pt, ps, []⟩ (.slice ad n cap) w1 ∧ Below w.heap.size w w1) := ⟨HB0.out.later hB1, bchain HA.out.1 hB1⟩
  clear hI1 hB1 HF HB0 HA x0 x1 x2 x3 x4 x5 x6 x7 hO1
  generalize hq : (fdL k).length = q at *
  have HQ : Hid ((fdL k).length = q) := hq
  clear hq
  go_upto_region 3 with fail
  go_loopw [11] (fun s11 wr => ∃ j : Nat, j ≤ 7 ∧ s11 = .int .i64 (j : Int) ∧ Hid (∀ f, f < j → OkF m f) ∧ Hid (Below w1.heap.size w1 wr)) (fun s11 _ => 7 - (intOf s11).toNat)
  case atStart => exact ⟨0, by omega, rfl, fun k hk => by omega, Below.refl _ _⟩
  case round =>
    obtain ⟨j, hj, rfl, HS, HW⟩ := hrel
    have HBw : Hid (∀ W, Below wr.heap.size wr W → Below w.heap.size w W) := fun W h => bchain (bchain HB1.out.2 HW.out) h
    have HI2 : Hid (Is wr (.slice ad1 q cap1) (fdL k)) := HI.out.later HW.out
    obtain ⟨x0, x1, x2, x3, x4, x5, x6, x7⟩ := HB1.out.1.later HW.out
    dsimp only at x0 x1 x2 x3 x4 x5 x6 x7
    by_cases hlt : j < 7
    · have hjI : (j : Int) < (7 : Int) := by omega
      have HC : Hid (Calls Tryd.prog 26 #[.slice ad1 q cap1, .int .i64 (j : Int)] wr fun e w' => e = .returned (.bool (decide ((j : Int) ∈ fdL k))) ∧ w' = wr) := contains_any _ _ _ _ HI2.out
      have HE : Hid (Calls Tryd.prog 27 #[.int .i64 (j : Int)] wr fun e w' => e = .returned (.tuple #[.int .i64 (leF j), .int .i64 (moF j)]) ∧ w' = wr) := ends_any j hlt wr
      have HZ1 : Hid (Calls Tryd.prog 22 #[.agg #[.int .i64 k, .int .i64 fr, .int .i64 inc, .int .i64 rd, .int .i64 hx, .int .i64 pt, .int .i64 ps, .slice ad n cap], .int .i64 (j : Int)] wr fun e w' => e = .returned (.int .i64 (szF m j)) ∧ Below wr.heap.size wr w') := HZ.out j wr hlt
      have HO := HSz.out j hlt
      clear HZ HSz
      by_cases hc : (j : Int) ∈ fdL k
      · rw [decide_eq_true hc] at HC
        generalize leF j = lo at *
        generalize moF j = hi at *
        generalize szF m j = z at *
        go_wp2_with fail
        refine HC.out.mono ?_
        rintro e wx ⟨rfl, hw⟩
        have hw := hw.symm
        subst hw
        go_wp2_with fail
        refine HE.out.mono ?_
        rintro e wx ⟨rfl, hw⟩
        have hw := hw.symm
        subst hw
        go_wp2_with fail
        refine HZ1.out.mono ?_
        rintro e w2 ⟨rfl, hB2⟩
        have HB2 : Hid (Below wr.heap.size wr w2) := hB2
        clear HC HE HZ1 hB2 x0 x1 x2 x3 x4 x5 x6 x7
        by_cases hlo : z < lo
        · have HN : Hid (¬ Rgt m) := fun r => by have := HO.1 ((HY.out.1 r).2.2.1 j hlt); have := this.1 hc; omega
          clear HO
          go_wp2
          go_ret
          exact RgE.no HN.out (HBw.out _ HB2.out)
        · by_cases hhi : hi < z
          · have HN : Hid (¬ Rgt m) := fun r => by have := HO.1 ((HY.out.1 r).2.2.1 j hlt); have := this.1 hc; omega
            clear HO
            go_wp2
            go_ret
            exact RgE.no HN.out (HBw.out _ HB2.out)
          · have HS2 : Hid (∀ f, f < j + 1 → OkF m f) := fun f hf => by
              by_cases e : f = j
              · subst e; exact HO.2 ⟨fun _ => ⟨by omega, by omega⟩, fun q => absurd hc q⟩
              · exact HS.out f (by omega)
            clear HO
            go_wp2
            go_roundw
            case rel => exact ⟨j + 1, by omega, by go_num, HS2, bchain HW.out HB2.out⟩
            case measure => simp [intOf]; omega
      · rw [decide_eq_false hc] at HC
        generalize szF m j = z at *
        go_wp2_with fail
        refine HC.out.mono ?_
        rintro e wx ⟨rfl, hw⟩
        have hw := hw.symm
        subst hw
        go_wp2_with fail
        refine HZ1.out.mono ?_
        rintro e w2 ⟨rfl, hB2⟩
        have HB2 : Hid (Below wr.heap.size wr w2) := hB2
        clear HC HE HZ1 hB2 x0 x1 x2 x3 x4 x5 x6 x7
        by_cases hlo : z < 0
        · have HN : Hid (¬ Rgt m) := fun r => by have := HO.1 ((HY.out.1 r).2.2.1 j hlt); have := this.2 hc; omega
          clear HO
          go_wp2
          go_ret
          exact RgE.no HN.out (HBw.out _ HB2.out)
        · by_cases hhi : 0 < z
          · have HN : Hid (¬ Rgt m) := fun r => by have := HO.1 ((HY.out.1 r).2.2.1 j hlt); have := this.2 hc; omega
            clear HO
            go_wp2
            go_ret
            exact RgE.no HN.out (HBw.out _ HB2.out)
          · have HS2 : Hid (∀ f, f < j + 1 → OkF m f) := fun f hf => by
              by_cases e : f = j
              · subst e; exact HO.2 ⟨fun q => absurd q hc, fun _ => by omega⟩
              · exact HS.out f (by omega)
            clear HO
            go_wp2
            go_roundw
            case rel => exact ⟨j + 1, by omega, by go_num, HS2, bchain HW.out HB2.out⟩
            case measure => simp [intOf]; omega
    · obtain rfl : j = 7 := by omega
      have HC : Hid (Calls Tryd.prog 26 #[.slice ad1 q cap1, .int .i64 5] wr fun e w' => e = .returned (.bool (decide ((5 : Int) ∈ fdL k))) ∧ w' = wr) := contains_any _ _ _ _ HI2.out
      clear HZ HSz
      have HR : Hid (Below w.heap.size w wr) := HBw.out _ (Below.refl _ _)
      by_cases hc : (5 : Int) ∈ fdL k
      · rw [decide_eq_true hc] at HC
        have HQ2 : Hid (0 < q ∧ 1 ≤ k ∧ k ≤ 8) := by
          have e := HQ.out
          have : ¬ q = 0 := fun z => by rw [z] at e; rw [List.eq_nil_of_length_eq_zero e] at hc; cases hc
          have hk := HK.out
          by_cases g : 1 ≤ k ∧ k ≤ 8
          · exact ⟨by omega, g.1, g.2⟩
          · exact absurd (hk.2 g) this
        by_cases hp : ps ≤ pt
        · have HN : Hid (¬ Rgt m) := fun r => by have := (HY.out.1 r).2.2.2 hc; omega
          go_wp2_with fail
          refine HC.out.mono ?_
          rintro e wx ⟨rfl, hw⟩
          have hw := hw.symm
          subst hw
          clear HC
          go_wp2
          go_ret
          exact RgE.no HN.out HR.out
        · have HN : Hid (Rgt m) := HY.out.2 ⟨HQ2.out.2.1, HQ2.out.2.2, HS.out, fun _ => by omega⟩
          have hq0 : (0 : Int) < (q : Int) := by have := HQ2.out.1; omega
          go_wp2_with fail
          refine HC.out.mono ?_
          rintro e wx ⟨rfl, hw⟩
          have hw := hw.symm
          subst hw
          clear HC
          go_wp2
          go_ret
          show RgE m w (.returned (.bool (decide (0 < q)))) wr
          rw [decide_eq_true (show 0 < q by omega)]
          exact RgE.yes HN.out HR.out
      · rw [decide_eq_false hc] at HC
        by_cases hq0 : q = 0
        · have HN : Hid (¬ Rgt m) := fun r => by have := HY.out.1 r; exact absurd ⟨this.1, this.2.1⟩ (HK.out.1 hq0)
          subst hq0
          go_wp2_with fail
          refine HC.out.mono ?_
          rintro e wx ⟨rfl, hw⟩
          have hw := hw.symm
          subst hw
          clear HC
          go_wp2
          go_ret
          exact RgE.no HN.out HR.out
        · have HN : Hid (Rgt m) := by
            by_cases g : 1 ≤ k ∧ k ≤ 8
            · exact HY.out.2 ⟨g.1, g.2, HS.out, fun z => absurd z hc⟩
            · exact absurd (HK.out.2 g) hq0
          have hq1 : (0 : Int) < (q : Int) := by omega
          go_wp2_with fail
          refine HC.out.mono ?_
          rintro e wx ⟨rfl, hw⟩
          have hw := hw.symm
          subst hw
          clear HC
          go_wp2
          go_ret
          show RgE m w (.returned (.bool (decide (0 < q)))) wr
          rw [decide_eq_true (show 0 < q by omega)]
          exact RgE.yes HN.out HR.out
end Go.Proofs.YtfcbgkcclganmaaDoor
