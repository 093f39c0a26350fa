/-
  The law PackNone.
-/
import Derived.Test.YtahbpegjdmblaaaPkLawG
set_option linter.unusedVariables false
set_option linter.unusedSimpArgs false
namespace Go.Proofs.Ytahbpegjdmblaaa
open Go.RowKit

/-- Two readers that are none, in a list. -/
structure Nn (V : Pack1) (w : World) (bs hr : Nat) (W : World) : Prop where
  c0 : W.cell? ⟨bs, 0, none⟩ = some (.pointer none)
  c1 : W.cell? ⟨bs, 1, none⟩ = some (.pointer (some ⟨hr, 0, none⟩))
  r : ∃ F : Nat → Prop, V.Rt W (.pointer (some ⟨hr, 0, none⟩)) F (.error 1) ∧ ¬ F bs ∧ ∀ i, F i → w.heap.size ≤ i
  b : Below w.heap.size w W
theorem Nn.later {V : Pack1} {w : World} {bs hr : Nat} {W W' : World} (h : Nn V w bs hr W) (k : Below W.heap.size W W') : Nn V w bs hr W' := by
  obtain ⟨F, h1, h2, h3⟩ := h.r
  exact ⟨cell_later k h.c0, cell_later k h.c1, ⟨F, V.rl h1 k, h2, h3⟩, bchain h.b k⟩
def Pn (hr : Nat) (p : Value) : Prop := p = .pointer none ∨ p = .pointer (some ⟨hr, 0, none⟩)
theorem Nn.rt {V : Pack1} {w : World} {bs hr : Nat} {W : World} (h : Nn V w bs hr W) {p : Value} (hp : Pn hr p) : ∃ F : Nat → Prop, V.Rt W p F (.error 1) := by
  rcases hp with rfl | rfl
  · exact ⟨_, V.rnil W⟩
  · obtain ⟨F, h1, -⟩ := h.r
    exact ⟨F, h1⟩
theorem Nn.step {V : Pack1} {w : World} {bs hr : Nat} {W : World} (h : Nn V w bs hr W) {p : Value} (hp : Pn hr p) : ∃ F : Nat → Prop, RR V p W.heap.size [] (.slice none 0 0) F (.error 1) (W.alloc (.cells #[.slice none 0 0, .int .i64 0, .int .i64 1] 45)) ∧ ∀ W2, Ra V p W.heap.size [] (.slice none 0 0) F (.error 1) (W.alloc (.cells #[.slice none 0 0, .int .i64 0, .int .i64 1] 45)) W2 → Nn V w bs hr W2 := by
  have hk := bel1 W (.cells #[.slice none 0 0, .int .i64 0, .int .i64 1] 45)
  have hr0 : Rr W.heap.size [] (.slice none 0 0) (.error 1) (W.alloc (.cells #[.slice none 0 0, .int .i64 0, .int .i64 1] 45)) := ⟨0, 1, r0_new W _ [] 1 (ob_nil 0 W).bs.1, rfl, by omega, by omega⟩
  have hbs : bs < W.heap.size := World.block_lt_of_cell? _ _ h.c0
  have nv : ∀ F : Nat → Prop, Nf F (.slice none 0 0) := fun F a n c e => by cases e
  have h' := h.later hk
  obtain ⟨F, h1, h2, h3⟩ := h.r
  rcases hp with rfl | rfl
  · refine ⟨fun _ => False, ⟨V.rnil _, hr0, fun q => q, nv _⟩, fun W2 hA => ?_⟩
    obtain ⟨F', g1, g2, g3⟩ := hA
    refine ⟨g3.cell (fun q => by rcases q with q | q; exact q; exact Nat.lt_irrefl _ (by rw [← q] at hbs; exact hbs)) h'.c0, g3.cell (fun q => by rcases q with q | q; exact q; exact Nat.lt_irrefl _ (by rw [← q] at hbs; exact hbs)) h'.c1, ⟨F, V.rk (V.rl h1 hk) g3 (fun i hi q => ?_), h2, h3⟩, g3.next h'.b (fun i hi => ?_) h'.b.size⟩
    · rcases q with q | q
      · exact q
      · have := V.rtB h1 i hi; omega
    · rcases hi with q | q
      · exact q.elim
      · have := h.b.size; omega
  · refine ⟨F, ⟨V.rl h1 hk, hr0, fun q => Nat.lt_irrefl _ (V.rtB h1 _ q), nv _⟩, fun W2 hA => ?_⟩
    obtain ⟨F', g1, g2, g3⟩ := hA
    have hn : ¬ (F bs ∨ bs = W.heap.size) := fun q => by rcases q with q | q; exact h2 q; omega
    refine ⟨g3.cell hn h'.c0, g3.cell hn h'.c1, ⟨F', g1.rt, fun q => ?_, fun i hi => ?_⟩, g3.next h'.b (fun i hi => ?_) h'.b.size⟩
    · rcases g2 bs q with q | q
      · exact h2 q
      · have := hk.size; omega
    · rcases g2 i hi with q | q
      · exact h3 i q
      · have := h'.b.size; omega
    · rcases hi with q | q
      · exact h3 i q
      · have := h.b.size; omega
set_option maxRecDepth 100000 in
set_option maxHeartbeats 8000000 in
theorem packNone_any (V : Pack1) (vk : Value) (ks : List Int) (w : World) (h2 : Is w vk ks) :
    Calls Try.prog 5 #[vk] w fun e w' => e = .returned (.bool true) ∧ Below w.heap.size w w' := by
  have HK : Hid (Is w vk ks) := h2
  obtain ⟨ad2, cap2, rfl, k3, k4⟩ := h2.len
  unfold maxLen at k4
  obtain ⟨m, hm⟩ : ∃ m, ks.length = m := ⟨_, rfl⟩
  have HM : Hid (ks.length = m) := hm
  rw [hm] at k3 HK ⊢
  clear h2 hm
  go_enter Try.func5, Try.ntmps5
  go_wp2_with fail
  refine (awake12 V w).mono ?_
  rintro e w1 ⟨rfl, hb1⟩
  have HB1 : Hid (Below w.heap.size w w1) := hb1
  have hs1 : w.heap.size ≤ w1.heap.size := hb1.size
  clear hb1
  by_cases q2 : 60 < m
  · have q2I : (60 : Int) < (m : Int) := by omega
    go_wp2
    go_ret
    exact ⟨rfl, HB1.out⟩
  have q2I : ¬ (60 : Int) < (m : Int) := by omega
  have HN0 : Hid (∀ t : TypeId, Nn V w (w1.heap.size + 1) w1.heap.size ((w1.alloc (.cells #[.bool false, .slice none 0 0, .int .i64 0] 51)).alloc (.cells #[.pointer none, .pointer (some ⟨w1.heap.size, 0, none⟩)] t))) := fun t => by
    refine ⟨by simp [go_sem], by simp [go_sem], ⟨_, V.rl (V.rz w1) (bel1 _ _), fun q => by omega, fun i hi => by omega⟩, (HB1.out.alloc hs1 _).alloc (by simp; omega) _⟩
  clear HB1
  go_upto_region 7 with fail
  go_loopw [19] (fun s19 wr => ∃ i : Nat, i ≤ 2 ∧ s19 = .int .i64 (i : Int) ∧ Hid (Nn V w (w1.heap.size + 1) w1.heap.size wr)) (fun s19 _ => 2 - (intOf s19).toNat)
  case atStart => exact ⟨0, by omega, rfl, HN0.out _⟩
  case round =>
    clear HN0
    obtain ⟨i, hi, rfl, HN⟩ := hrel
    by_cases hlt : i < 2
    · have hiI : (i : Int) < 2 := by omega
      obtain ⟨p, hp, hc⟩ : ∃ p, Pn w1.heap.size p ∧ wr.cell? ⟨w1.heap.size + 1, i, none⟩ = some p := by
        have : i = 0 ∨ i = 1 := by omega
        rcases this with rfl | rfl
        · exact ⟨_, Or.inl rfl, HN.out.c0⟩
        · exact ⟨_, Or.inr rfl, HN.out.c1⟩
      have HP : Hid (Pn w1.heap.size p) := hp
      clear hp
      rename World => wo
      go_upto_region 10 with fail
      clear hc
      go_loopw [25] (fun s25 wr => ∃ j : Nat, j ≤ m ∧ s25 = .int .i64 (j : Int) ∧ Hid (Nn V w (w1.heap.size + 1) w1.heap.size wr)) (fun s25 _ => m - (intOf s25).toNat)
      case atStart => exact ⟨0, by omega, rfl, HN⟩
      case round =>
        clear HN
        obtain ⟨j, hj, rfl, HN⟩ := hrel
        by_cases hlj : j < m
        · have hjI : (j : Int) < (m : Int) := by omega
          have hM := HM.out
          obtain ⟨bb, oo, rfl, ca0⟩ := HK.out.cel j (by omega)
          have ca := cell_later HN.out.b ca0
          generalize ks.getD j 0 = k at *
          obtain ⟨F, hR, hN2⟩ := HN.out.step HP.out
          have HR := hidI hR
          have HN2 := hidI hN2
          clear ca0 hM hR hN2 HN
          go_wp2_with fail
          refine (read12 V k p _ [] _ F _ _ (fun c hc => by cases hc) (Nat.zero_le _) HR.out).mono ?_
          rintro e w4 ⟨rfl, hA⟩
          rw [nxt_err] at hA
          have HN3 : Hid (Nn V w (w1.heap.size + 1) w1.heap.size w4) := HN2.out _ hA
          clear hA HR HN2 ca
          go_wp2
          go_roundw
          case rel => exact ⟨j + 1, by omega, by go_num, HN3⟩
          case measure => simp [intOf]; omega
        · obtain rfl : j = m := by omega
          have hjI : ¬ (j : Int) < (j : Int) := by omega
          obtain ⟨F, hR⟩ := HN.out.rt HP.out
          have HR := hidI hR
          clear hR
          go_wp2_with fail
          refine (V.rerr _ _ _ _ HR.out).mono ?_
          rintro e w5 ⟨rfl, hb5⟩
          have HN5 : Hid (Nn V w (w1.heap.size + 1) w1.heap.size w5) := HN.out.later hb5
          have HR5 := hidI (V.rl HR.out hb5)
          clear hb5 HN HR
          have he : ((dnE (.error 1) : Nat) : Int) = 1 := rfl
          rw [he]
          clear he
          go_wp2_with fail
          refine (V.rdone _ _ _ _ HR5.out).mono ?_
          rintro e w6 ⟨rfl, hb6⟩
          have HN6 : Hid (Nn V w (w1.heap.size + 1) w1.heap.size w6) := HN5.out.later hb6
          clear hb6 HN5 HR5
          have he : ((rdE (.error 1) : Nat) : Int) = 1 := rfl
          rw [he]
          clear he
          go_wp2
          go_roundw
          case rel => exact ⟨i + 1, by omega, by go_num, HN6⟩
          case measure => simp [intOf]; omega
    · obtain rfl : i = 2 := by omega
      go_wp2
      go_ret
      exact ⟨rfl, HN.out.b⟩
end Go.Proofs.Ytahbpegjdmblaaa
