/-
The document's frames (regattaref13): Open.
What layer 11 must give (crc): Of, More, Join; lists of texts.
What layer 13 must give (frame): Seal, Open, Split; and the chapter's examples.
-/
import Derived.Test.YtfcbgkcclganmaaDoorZ05
import Derived.Laws.BytesArg
import Derived.Lib.SlBytesConst
import Derived.Lib.SmallJoins

set_option linter.unusedVariables false
set_option linter.unusedSimpArgs false
namespace Go.Proofs.YtfcbgkcclganmaaDoor
open Go.RowKit

/-- A box of two cells. -/
structure Bx2 (b : Nat) (u v : Value) (w : World) : Prop where
  c0 : w.cell? ⟨b, 0, none⟩ = some u
  c1 : w.cell? ⟨b, 1, none⟩ = some v
  f0 : w.frozen? ⟨b, 0, none⟩ = false
  f1 : w.frozen? ⟨b, 1, none⟩ = false
theorem Bx2.new (w : World) (u v : Value) (t : TypeId) : Bx2 w.heap.size u v (w.alloc (.cells #[u, v] t)) := ⟨by simp [go_sem], by simp [go_sem], by simp [go_sem], by simp [go_sem]⟩
theorem Bx2.later {b : Nat} {u v : Value} {w w' : World} (h : Bx2 b u v w) (k : Below w.heap.size w w') : Bx2 b u v w' := ⟨cell_later k h.c0, cell_later k h.c1, frozen_later k h.c0 h.f0, frozen_later k h.c1 h.f1⟩
theorem slice_run0 (w : World) (ad : Option Addr) (n cap q : Nat) (h2 : q ≤ cap) :
    (Instr.slice 22 (.slice ad n cap) none (some (.int .i64 (q : Int))) none).run Tryd.prog w = .ok (sv ad 0 q cap) w := by
  have ht : Tryd.prog.underlying 22 = some (.slice (Tryd.prog.elem 22)) := by kernel_rfl
  have hs : (sizeOf (Tryd.prog.elem 22)).run Tryd.prog w = .ok 1 w := by
    obtain ⟨i0, hti, hi0, hi1, hi2⟩ := byteInfo
    have e : Tryd.prog.elem 22 = 5 := by kernel_rfl
    rw [e]
    simp [sizeOf, typeInfo, hti, hi1]
  rw [run_slice_h w 22 ad n cap ht .i64 (q : Int) (by omega) (by omega), hs]
  simp [Result.andThen, sliced, sv]
theorem sliceAt_run0 (w : World) (ad : Option Addr) (n cap q : Nat) (h2 : q ≤ cap) :
    (Instr.sliceAt 22 (.slice ad n cap) none (some (.int .i64 (q : Int))) none).run Tryd.prog w = .ok (sv ad 0 q cap) w := by
  have ht : Tryd.prog.underlying 22 = some (.slice (Tryd.prog.elem 22)) := by kernel_rfl
  rw [run_sliceAt_slice _ _ _ _ _ _ ht, slice_run0 w ad n cap q h2]
/-- So many bytes ahead are right. -/
structure Pre (b : List Nat) (i : Nat) : Prop where
  p0 : 0 < i → 0 < b.length ∧ b.getD 0 0 = 82
  p1 : 1 < i → 1 < b.length ∧ b.getD 1 0 = 71
  p2 : 2 < i → 2 < b.length ∧ b.getD 2 0 = 1
  p3 : 3 < i → 3 < b.length ∧ b.getD 3 0 ≠ 0
theorem Pre.hd {b : List Nat} (h : Pre b 4) : Hd4 b := ⟨(h.p3 (by omega)).1, (h.p0 (by omega)).2, (h.p1 (by omega)).2, (h.p2 (by omega)).2, (h.p3 (by omega)).2⟩
theorem pre_zero (b : List Nat) : Pre b 0 := ⟨fun h => by omega, fun h => by omega, fun h => by omega, fun h => by omega⟩
set_option maxRecDepth 100000 in
set_option maxHeartbeats 8000000 in
theorem refOpen (v : Value) (l : List Nat) (hb : ∀ c ∈ l, c < 256) (hl : l.length ≤ 90000) (w : World) (h : Bs w v l) :
    Calls Tryd.prog 32 #[v] w fun e w' => ∃ vp, e = .returned (.tuple #[.agg #[.int .i64 ((opK l : Nat) : Int), vp], .int .i64 ((opN l : Nat) : Int), .int .i64 ((opE l : Nat) : Int)]) ∧ Bs w' vp (opP l) ∧ Ow w.heap.size vp ∧ Below w.heap.size w w' := by
  have HL : Hid (Bs w v l) := h
  have HY : Hid (∀ c ∈ l, c < 256) := hb
  obtain ⟨ad, cap, rfl, k1, k2⟩ := h.len
  unfold maxLen at k2
  obtain ⟨n, hn⟩ : ∃ n, l.length = n := ⟨_, rfl⟩
  have HN : Hid (l.length = n) := hn
  rw [hn] at k1 hl HL ⊢
  clear h hn hb
  have HX : Hid (Bx2 w.heap.size (.int .i64 0) (.slice none 0 0) (w.alloc (.cells #[.int .i64 0, .slice none 0 0] 66))) := Bx2.new _ _ _ _
  have HB0 : Hid (Below w.heap.size w (w.alloc (.cells #[.int .i64 0, .slice none 0 0] 66)) ∧ Bs (w.alloc (.cells #[.int .i64 0, .slice none 0 0] 66)) (.slice ad n cap) l) := ⟨bel1 _ _, HL.out.later (bel1 _ _)⟩
  go_enter Tryd.func32, Tryd.ntmps32
  go_upto_region 2 with fail
  generalize w.alloc (.cells #[.int .i64 0, .slice none 0 0] 66) = W0 at *
  go_loopw [5] (fun s5 wr => ∃ i : Nat, i ≤ 4 ∧ s5 = .int .i64 (i : Int) ∧ Hid (Pre l i) ∧ wr = W0) (fun s5 _ => 4 - (intOf s5).toNat)
  case atStart => exact ⟨0, by omega, rfl, pre_zero l, rfl⟩
  case round =>
    obtain ⟨i, hi, rfl, HP, rfl⟩ := hrel
    have z0 := HX.out.c0
    have z1 := HX.out.c1
    have f0 := HX.out.f0
    have f1 := HX.out.f1
    have HB : Hid (Below w.heap.size w wr) := HB0.out.1
    have hi5 : i = 0 ∨ i = 1 ∨ i = 2 ∨ i = 3 ∨ i = 4 := by omega
    rcases hi5 with rfl | rfl | rfl | rfl | rfl
    · by_cases hlen : n ≤ 0
      · have hlI : (n : Int) ≤ 0 := by omega
        have HE : Hid (opE l = 130) := opE_l0 (by have := HN.out; omega)
        have HO : Hid (opK l = 0 ∧ opP l = [] ∧ opN l = 0) := op_no HE.out (by omega)
        go_wp2
        exact bodyPost_ret (v := .tuple #[.agg #[.int .i64 0, .slice none 0 0], .int .i64 0, .int .i64 130]) (by simp [results, Tryd.results32, go_sem, z0, z1, f0, f1]) rfl ⟨.slice none 0 0, by rw [HE.out, HO.out.1, HO.out.2.2]; rfl, by rw [HO.out.2.1]; exact (ob_nil 0 _).bs.1, fun a n c e => (by cases e), (HB.out.setCell (by dsimp only; omega) _).setCell (by dsimp only; omega) _⟩
      · have hlI : ¬ (n : Int) ≤ 0 := by omega
        have hlJ : (0 : Int) < (n : Int) := by omega
        have hN := HN.out
        obtain ⟨g, o, rfl, ca⟩ := HB0.out.2.cel 0 (by omega)
        have HCC : Hid (∀ c, l.getD 0 0 = c → (l.getD 0 0 = 82 ↔ c = 82)) := fun c e => by rw [e]
        obtain ⟨c, hce⟩ : ∃ c, l.getD 0 0 = c := ⟨_, rfl⟩
        rw [hce] at ca
        have HCE : Hid (l.getD 0 0 = c) := hce
        clear hce hN HCC
        rw [Nat.add_zero] at ca
        by_cases hc : c = 82
        · have hcI : (c : Int) = 82 := by omega
          have HC : Hid (l.getD 0 0 = 82) := by
            show _
            rw [HCE.out]
            exact hc
          have HP2 : Hid (Pre l (0 + 1)) := ⟨fun _ => ⟨by have := HN.out; omega, HC.out⟩, fun h => by omega, fun h => by omega, fun h => by omega⟩
          go_wp2
          go_roundw
          case rel => exact ⟨0 + 1, by omega, rfl, HP2, trivial⟩
          case measure => simp [intOf]
        · have hcI : ¬ (c : Int) = 82 := by omega
          have HC : Hid (l.getD 0 0 ≠ 82) := by
            show _
            rw [HCE.out]
            exact hc
          have HE : Hid (opE l = 131) := opE_b0 (by have := HN.out; omega)  HC.out
          have HO : Hid (opK l = 0 ∧ opP l = [] ∧ opN l = 0) := op_no HE.out (by omega)
          go_wp2
          exact bodyPost_ret (v := .tuple #[.agg #[.int .i64 0, .slice none 0 0], .int .i64 0, .int .i64 131]) (by simp [results, Tryd.results32, go_sem, z0, z1, f0, f1]) rfl ⟨.slice none 0 0, by rw [HE.out, HO.out.1, HO.out.2.2]; rfl, by rw [HO.out.2.1]; exact (ob_nil 0 _).bs.1, fun a n c e => (by cases e), (HB.out.setCell (by dsimp only; omega) _).setCell (by dsimp only; omega) _⟩
    · by_cases hlen : n ≤ 1
      · have hlI : (n : Int) ≤ 1 := by omega
        have HE : Hid (opE l = 130) := opE_l1 (by have := HN.out; have := HP.out.p0 (by omega); omega) (HP.out.p0 (by omega)).2
        have HO : Hid (opK l = 0 ∧ opP l = [] ∧ opN l = 0) := op_no HE.out (by omega)
        go_wp2
        exact bodyPost_ret (v := .tuple #[.agg #[.int .i64 0, .slice none 0 0], .int .i64 0, .int .i64 130]) (by simp [results, Tryd.results32, go_sem, z0, z1, f0, f1]) rfl ⟨.slice none 0 0, by rw [HE.out, HO.out.1, HO.out.2.2]; rfl, by rw [HO.out.2.1]; exact (ob_nil 0 _).bs.1, fun a n c e => (by cases e), (HB.out.setCell (by dsimp only; omega) _).setCell (by dsimp only; omega) _⟩
      · have hlI : ¬ (n : Int) ≤ 1 := by omega
        have hlJ : (1 : Int) < (n : Int) := by omega
        have hN := HN.out
        obtain ⟨g, o, rfl, ca⟩ := HB0.out.2.cel 1 (by omega)
        have HCC : Hid (∀ c, l.getD 1 0 = c → (l.getD 1 0 = 71 ↔ c = 71)) := fun c e => by rw [e]
        obtain ⟨c, hce⟩ : ∃ c, l.getD 1 0 = c := ⟨_, rfl⟩
        rw [hce] at ca
        have HCE : Hid (l.getD 1 0 = c) := hce
        clear hce hN HCC
        by_cases hc : c = 71
        · have hcI : (c : Int) = 71 := by omega
          have HC : Hid (l.getD 1 0 = 71) := by
            show _
            rw [HCE.out]
            exact hc
          have HP2 : Hid (Pre l (1 + 1)) := ⟨fun _ => HP.out.p0 (by omega), fun _ => ⟨by have := HN.out; omega, HC.out⟩, fun h => by omega, fun h => by omega⟩
          go_wp2
          go_roundw
          case rel => exact ⟨1 + 1, by omega, rfl, HP2, trivial⟩
          case measure => simp [intOf]
        · have hcI : ¬ (c : Int) = 71 := by omega
          have HC : Hid (l.getD 1 0 ≠ 71) := by
            show _
            rw [HCE.out]
            exact hc
          have HE : Hid (opE l = 131) := opE_b1 (by have := HN.out; omega) (HP.out.p0 (by omega)).2 HC.out
          have HO : Hid (opK l = 0 ∧ opP l = [] ∧ opN l = 0) := op_no HE.out (by omega)
          go_wp2
          exact bodyPost_ret (v := .tuple #[.agg #[.int .i64 0, .slice none 0 0], .int .i64 0, .int .i64 131]) (by simp [results, Tryd.results32, go_sem, z0, z1, f0, f1]) rfl ⟨.slice none 0 0, by rw [HE.out, HO.out.1, HO.out.2.2]; rfl, by rw [HO.out.2.1]; exact (ob_nil 0 _).bs.1, fun a n c e => (by cases e), (HB.out.setCell (by dsimp only; omega) _).setCell (by dsimp only; omega) _⟩
    · by_cases hlen : n ≤ 2
      · have hlI : (n : Int) ≤ 2 := by omega
        have HE : Hid (opE l = 130) := opE_l2 (by have := HN.out; have := HP.out.p1 (by omega); omega) (HP.out.p0 (by omega)).2 (HP.out.p1 (by omega)).2
        have HO : Hid (opK l = 0 ∧ opP l = [] ∧ opN l = 0) := op_no HE.out (by omega)
        go_wp2
        exact bodyPost_ret (v := .tuple #[.agg #[.int .i64 0, .slice none 0 0], .int .i64 0, .int .i64 130]) (by simp [results, Tryd.results32, go_sem, z0, z1, f0, f1]) rfl ⟨.slice none 0 0, by rw [HE.out, HO.out.1, HO.out.2.2]; rfl, by rw [HO.out.2.1]; exact (ob_nil 0 _).bs.1, fun a n c e => (by cases e), (HB.out.setCell (by dsimp only; omega) _).setCell (by dsimp only; omega) _⟩
      · have hlI : ¬ (n : Int) ≤ 2 := by omega
        have hlJ : (2 : Int) < (n : Int) := by omega
        have hN := HN.out
        obtain ⟨g, o, rfl, ca⟩ := HB0.out.2.cel 2 (by omega)
        have HCC : Hid (∀ c, l.getD 2 0 = c → (l.getD 2 0 = 1 ↔ c = 1)) := fun c e => by rw [e]
        obtain ⟨c, hce⟩ : ∃ c, l.getD 2 0 = c := ⟨_, rfl⟩
        rw [hce] at ca
        have HCE : Hid (l.getD 2 0 = c) := hce
        clear hce hN HCC
        by_cases hc : c = 1
        · have hcI : (c : Int) = 1 := by omega
          have HC : Hid (l.getD 2 0 = 1) := by
            show _
            rw [HCE.out]
            exact hc
          have HP2 : Hid (Pre l (2 + 1)) := ⟨fun _ => HP.out.p0 (by omega), fun _ => HP.out.p1 (by omega), fun _ => ⟨by have := HN.out; omega, HC.out⟩, fun h => by omega⟩
          go_wp2
          go_roundw
          case rel => exact ⟨2 + 1, by omega, rfl, HP2, trivial⟩
          case measure => simp [intOf]
        · have hcI : ¬ (c : Int) = 1 := by omega
          have HC : Hid (l.getD 2 0 ≠ 1) := by
            show _
            rw [HCE.out]
            exact hc
          have HE : Hid (opE l = 132) := opE_b2 (by have := HN.out; omega) (HP.out.p0 (by omega)).2 (HP.out.p1 (by omega)).2 HC.out
          have HO : Hid (opK l = 0 ∧ opP l = [] ∧ opN l = 0) := op_no HE.out (by omega)
          go_wp2
          exact bodyPost_ret (v := .tuple #[.agg #[.int .i64 0, .slice none 0 0], .int .i64 0, .int .i64 132]) (by simp [results, Tryd.results32, go_sem, z0, z1, f0, f1]) rfl ⟨.slice none 0 0, by rw [HE.out, HO.out.1, HO.out.2.2]; rfl, by rw [HO.out.2.1]; exact (ob_nil 0 _).bs.1, fun a n c e => (by cases e), (HB.out.setCell (by dsimp only; omega) _).setCell (by dsimp only; omega) _⟩
    · by_cases hlen : n ≤ 3
      · have hlI : (n : Int) ≤ 3 := by omega
        have HE : Hid (opE l = 130) := opE_l3 (by have := HN.out; have := HP.out.p2 (by omega); omega) (HP.out.p0 (by omega)).2 (HP.out.p1 (by omega)).2 (HP.out.p2 (by omega)).2
        have HO : Hid (opK l = 0 ∧ opP l = [] ∧ opN l = 0) := op_no HE.out (by omega)
        go_wp2
        exact bodyPost_ret (v := .tuple #[.agg #[.int .i64 0, .slice none 0 0], .int .i64 0, .int .i64 130]) (by simp [results, Tryd.results32, go_sem, z0, z1, f0, f1]) rfl ⟨.slice none 0 0, by rw [HE.out, HO.out.1, HO.out.2.2]; rfl, by rw [HO.out.2.1]; exact (ob_nil 0 _).bs.1, fun a n c e => (by cases e), (HB.out.setCell (by dsimp only; omega) _).setCell (by dsimp only; omega) _⟩
      · have hlI : ¬ (n : Int) ≤ 3 := by omega
        have hlJ : (3 : Int) < (n : Int) := by omega
        have hN := HN.out
        obtain ⟨g, o, rfl, ca⟩ := HB0.out.2.cel 3 (by omega)
        have HCC : Hid (∀ c, l.getD 3 0 = c → (l.getD 3 0 ≠ 0 ↔ c ≠ 0)) := fun c e => by rw [e]
        obtain ⟨c, hce⟩ : ∃ c, l.getD 3 0 = c := ⟨_, rfl⟩
        rw [hce] at ca
        have HCE : Hid (l.getD 3 0 = c) := hce
        clear hce hN HCC
        by_cases hc : ¬ c = 0
        · have hcI : ¬ (c : Int) = 0 := by omega
          have HC : Hid (l.getD 3 0 ≠ 0) := by
            show _
            rw [HCE.out]
            exact hc
          have HP2 : Hid (Pre l (3 + 1)) := ⟨fun _ => HP.out.p0 (by omega), fun _ => HP.out.p1 (by omega), fun _ => HP.out.p2 (by omega), fun _ => ⟨by have := HN.out; omega, HC.out⟩⟩
          go_wp2
          go_roundw
          case rel => exact ⟨3 + 1, by omega, rfl, HP2, trivial⟩
          case measure => simp [intOf]
        · have hcI : (c : Int) = 0 := by omega
          have HC : Hid (l.getD 3 0 = 0) := by
            show _
            rw [HCE.out]
            exact (by omega : c = 0)
          have HE : Hid (opE l = 133) := opE_b3 (by have := HN.out; omega) (HP.out.p0 (by omega)).2 (HP.out.p1 (by omega)).2 (HP.out.p2 (by omega)).2 HC.out
          have HO : Hid (opK l = 0 ∧ opP l = [] ∧ opN l = 0) := op_no HE.out (by omega)
          go_wp2
          exact bodyPost_ret (v := .tuple #[.agg #[.int .i64 0, .slice none 0 0], .int .i64 0, .int .i64 133]) (by simp [results, Tryd.results32, go_sem, z0, z1, f0, f1]) rfl ⟨.slice none 0 0, by rw [HE.out, HO.out.1, HO.out.2.2]; rfl, by rw [HO.out.2.1]; exact (ob_nil 0 _).bs.1, fun a n c e => (by cases e), (HB.out.setCell (by dsimp only; omega) _).setCell (by dsimp only; omega) _⟩
    · have HQ : Hid (Hd4 l) := HP.out.hd
      clear HP
      by_cases h8 : n < 8
      · have h8I : (n : Int) < 8 := by omega
        have HE : Hid (opE l = 130) := opE_l8 HQ.out (by have := HN.out; omega)
        have HO : Hid (opK l = 0 ∧ opP l = [] ∧ opN l = 0) := op_no HE.out (by omega)
        go_wp2
        exact bodyPost_ret (v := .tuple #[.agg #[.int .i64 0, .slice none 0 0], .int .i64 0, .int .i64 130]) (by simp [results, Tryd.results32, go_sem, z0, z1, f0, f1]) rfl ⟨.slice none 0 0, by rw [HE.out, HO.out.1, HO.out.2.2]; rfl, by rw [HO.out.2.1]; exact (ob_nil 0 _).bs.1, fun a n c e => (by cases e), (HB.out.setCell (by dsimp only; omega) _).setCell (by dsimp only; omega) _⟩
      · have h8I : ¬ (n : Int) < 8 := by omega
        have hN := HN.out
        obtain ⟨g, o, rfl, c4⟩ := HB0.out.2.cel 4 (by omega)
        obtain ⟨g5, o5, e5, c5⟩ := HB0.out.2.cel 5 (by omega)
        obtain ⟨g6, o6, e6, c6⟩ := HB0.out.2.cel 6 (by omega)
        obtain ⟨g7, o7, e7, c7⟩ := HB0.out.2.cel 7 (by omega)
        obtain ⟨g3, o3, e3, c3⟩ := HB0.out.2.cel 3 (by omega)
        cases e5
        cases e6
        cases e7
        cases e3
        have b4 := getD_byte HY.out 4
        have b5 := getD_byte HY.out 5
        have b6 := getD_byte HY.out 6
        have b7 := getD_byte HY.out 7
        have b3 := getD_byte HY.out 3
        have HM : Hid (nn l = l.getD 4 0 + 256 * l.getD 5 0 + 65536 * l.getD 6 0 + 16777216 * l.getD 7 0) := rfl
        have HK3 : Hid (∀ x, l.getD 3 0 = x → opE l = 0 → opK l = x) := fun x e q => by rw [(op_yes q).1, e]
        generalize l.getD 4 0 = x4 at *
        generalize l.getD 5 0 = x5 at *
        generalize l.getD 6 0 = x6 at *
        generalize l.getD 7 0 = x7 at *
        obtain ⟨x3, hx3⟩ : ∃ x, l.getD 3 0 = x := ⟨_, rfl⟩
        have HX3 : Hid (l.getD 3 0 = x3) := hx3
        rw [hx3] at c3 b3
        clear hx3 hN
        obtain ⟨m, hm⟩ : ∃ m, nn l = m := ⟨_, rfl⟩
        have HMm : Hid (nn l = m) := hm
        have hmx := HM.out
        rw [hm] at hmx
        have m1 : IntKind.i64.wrap (256 * (x5 : Int)) = ((256 * x5 : Nat) : Int) := by rw [IntKind.wrap_i64]; omega
        have m2 : IntKind.i64.wrap ((x4 : Int) + ((256 * x5 : Nat) : Int)) = ((x4 + 256 * x5 : Nat) : Int) := by rw [IntKind.wrap_i64]; omega
        have m3 : IntKind.i64.wrap (65536 * (x6 : Int)) = ((65536 * x6 : Nat) : Int) := by rw [IntKind.wrap_i64]; omega
        have m4 : IntKind.i64.wrap (((x4 + 256 * x5 : Nat) : Int) + ((65536 * x6 : Nat) : Int)) = ((x4 + 256 * x5 + 65536 * x6 : Nat) : Int) := by rw [IntKind.wrap_i64]; omega
        have m5 : IntKind.i64.wrap (16777216 * (x7 : Int)) = ((16777216 * x7 : Nat) : Int) := by rw [IntKind.wrap_i64]; omega
        have m6 : IntKind.i64.wrap (((x4 + 256 * x5 + 65536 * x6 : Nat) : Int) + ((16777216 * x7 : Nat) : Int)) = (m : Int) := by rw [IntKind.wrap_i64]; omega
        have j1 : IntKind.i64.wrap (x4 : Int) = (x4 : Int) := by rw [IntKind.wrap_i64]; omega
        have j2 : IntKind.i64.wrap (x5 : Int) = (x5 : Int) := by rw [IntKind.wrap_i64]; omega
        have j3 : IntKind.i64.wrap (x6 : Int) = (x6 : Int) := by rw [IntKind.wrap_i64]; omega
        have j4 : IntKind.i64.wrap (x7 : Int) = (x7 : Int) := by rw [IntKind.wrap_i64]; omega
        have n4 : (4 : Int) < (n : Int) := by omega
        have n5 : (5 : Int) < (n : Int) := by omega
        have n6 : (6 : Int) < (n : Int) := by omega
        have n7 : (7 : Int) < (n : Int) := by omega
        have n3 : (3 : Int) < (n : Int) := by omega
        clear hm HM
        go_upto_region 14 with fail
        go_quiet (fail)
        have hmI : (x4 : Int) + 256 * (x5 : Int) + 65536 * (x6 : Int) + 16777216 * (x7 : Int) = (m : Int) := by omega
        rw [hmI]
        have HXa : Hid (Bx2 w.heap.size (.int .i64 0) (.slice none 0 0) (wr.drewN nq)) := HX.out.later (below_drewN (Below.refl _ _) nq)
        have HBa : Hid (Below w.heap.size w (wr.drewN nq) ∧ Bs (wr.drewN nq) (.slice (some ⟨g, o, none⟩) n cap) l) := ⟨bchain HB0.out.1 (below_drewN (Below.refl _ _) nq), HB0.out.2.later (below_drewN (Below.refl _ _) nq)⟩
        have a3 : (wr.drewN nq).cell? ⟨g, o + 3, none⟩ = some (.int .u8 (x3 : Int)) := c3
        clear HX HB0 HB z0 z1 f0 f1 c3 c4 c5 c6 c7 m1 m2 m3 m4 m5 m6 j1 j2 j3 j4 hmI hmx
        generalize wr.drewN nq = wa at *
        have z0 := HXa.out.c0
        have z1 := HXa.out.c1
        have f0 := HXa.out.f0
        have f1 := HXa.out.f1
        have HB : Hid (Below w.heap.size w wa) := HBa.out.1
        clear b4 b5 b6 b7 n4 n5 n6 n7
        by_cases hm1 : 65536 < m
        · have hm1I : (65536 : Int) < (m : Int) := by omega
          have HE : Hid (opE l = 134) := opE_n HQ.out (by have := HN.out; omega) (by rw [HMm.out]; exact hm1)
          have HO : Hid (opK l = 0 ∧ opP l = [] ∧ opN l = 0) := op_no HE.out (by omega)
          go_wp2
          exact bodyPost_ret (v := .tuple #[.agg #[.int .i64 0, .slice none 0 0], .int .i64 0, .int .i64 134]) (by simp [results, Tryd.results32, go_sem, z0, z1, f0, f1]) rfl ⟨.slice none 0 0, by rw [HE.out, HO.out.1, HO.out.2.2]; rfl, by rw [HO.out.2.1]; exact (ob_nil 0 _).bs.1, fun a n c e => (by cases e), (HB.out.setCell (by dsimp only; omega) _).setCell (by dsimp only; omega) _⟩
        have hm1I : ¬ (65536 : Int) < (m : Int) := by omega
        obtain ⟨M12, hM12⟩ : ∃ M12, m + 12 = M12 := ⟨_, rfl⟩
        obtain ⟨M8, hM8⟩ : ∃ M8, m + 8 = M8 := ⟨_, rfl⟩
        have HM8 : Hid (M8 = m + 8 ∧ M12 = m + 12) := ⟨hM8.symm, hM12.symm⟩
        have p12 : IntKind.i64.wrap ((m : Int) + 12) = (M12 : Int) := by rw [IntKind.wrap_i64]; omega
        have p8 : IntKind.i64.wrap ((m : Int) + 8) = (M8 : Int) := by rw [IntKind.wrap_i64]; omega
        by_cases hm2 : n < M12
        · have hm2I : (n : Int) < (M12 : Int) := by omega
          have HE : Hid (opE l = 130) := opE_ln HQ.out (by have := HN.out; omega) (by rw [HMm.out]; omega) (by rw [HMm.out]; have := HN.out; omega)
          have HO : Hid (opK l = 0 ∧ opP l = [] ∧ opN l = 0) := op_no HE.out (by omega)
          go_wp2
          exact bodyPost_ret (v := .tuple #[.agg #[.int .i64 0, .slice none 0 0], .int .i64 0, .int .i64 130]) (by simp [results, Tryd.results32, go_sem, z0, z1, f0, f1]) rfl ⟨.slice none 0 0, by rw [HE.out, HO.out.1, HO.out.2.2]; rfl, by rw [HO.out.2.1]; exact (ob_nil 0 _).bs.1, fun a n c e => (by cases e), (HB.out.setCell (by dsimp only; omega) _).setCell (by dsimp only; omega) _⟩
        have hm2I : ¬ (n : Int) < (M12 : Int) := by omega
        have s1 : ∀ W : World, (Instr.sliceAt 22 (.slice (some ⟨g, o, none⟩) n cap) none (some (.int .i64 (M8 : Int))) none).run Tryd.prog W = .ok (sv (some ⟨g, o, none⟩) 0 M8 cap) W := fun W => sliceAt_run0 W _ n cap M8 (by omega)
        have s2 : ∀ W : World, (Instr.slice 22 (.slice (some ⟨g, o, none⟩) n cap) none (some (.int .i64 (M8 : Int))) none).run Tryd.prog W = .ok (sv (some ⟨g, o, none⟩) 0 M8 cap) W := fun W => slice_run0 W _ n cap M8 (by omega)
        have s3 : ∀ W : World, (Instr.sliceAt 22 (.slice (some ⟨g, o, none⟩) n cap) (some (.int .i64 (M8 : Int))) (some (.int .i64 (M12 : Int))) none).run Tryd.prog W = .ok (sv (some ⟨g, o, none⟩) M8 M12 cap) W := fun W => sliceAt_run W _ n cap M8 M12 (by omega) (by omega)
        have s4 : ∀ W : World, (Instr.slice 22 (.slice (some ⟨g, o, none⟩) n cap) (some (.int .i64 (M8 : Int))) (some (.int .i64 (M12 : Int))) none).run Tryd.prog W = .ok (sv (some ⟨g, o, none⟩) M8 M12 cap) W := fun W => slice_run W _ n cap M8 M12 (by omega) (by omega)
        have HT : Hid (∀ W, Bs W (.slice (some ⟨g, o, none⟩) n cap) l → Bs W (sv (some ⟨g, o, none⟩) 0 M8 cap) (l.take M8) ∧ Bs W (sv (some ⟨g, o, none⟩) M8 M12 cap) ((l.drop M8).take 4) ∧ Bs W (sv (some ⟨g, o, none⟩) 8 M8 cap) ((l.drop 8).take m)) := fun W hW => by
          have hN := HN.out
          have hM := HM8.out
          have t1 := sv_bs hW 0 M8 (Nat.zero_le _) (by omega)
          have t2 := sv_bs hW M8 M12 (by omega) (by omega)
          have t3 := sv_bs hW 8 M8 (by omega) (by omega)
          rw [List.drop_zero, Nat.sub_zero] at t1
          rw [show M12 - M8 = 4 by omega] at t2
          rw [show M8 - 8 = m by omega] at t3
          exact ⟨t1, t2, t3⟩
        have HTl : Hid ((l.take M8).length ≤ 100000 ∧ ∀ c ∈ l.take M8, c < 256) := ⟨by rw [List.length_take]; have := HN.out; omega, fun c hc => HY.out c (List.mem_of_mem_take hc)⟩
        clear hM8 hM12
        go_upto_region 19 with fail
        have hbD : Below wa.heap.size wa wa.drew := (Below.refl _ _).drew
        have HXb : Hid (Bx2 w.heap.size (.int .i64 0) (.slice none 0 0) wa.drew) := HXa.out.later hbD
        have HBb : Hid (Below w.heap.size w wa.drew ∧ Bs wa.drew (.slice (some ⟨g, o, none⟩) n cap) l) := ⟨bchain HBa.out.1 hbD, HBa.out.2.later hbD⟩
        have HA3 : Hid (wa.drew.cell? ⟨g, o + 3, none⟩ = some (.int .u8 (x3 : Int))) := a3
        refine wp_region_held_drew (S := fun _ => True) (by kernel_rfl) trivial (fun HS => ?_)
        clear hbD HXa HBa a3 z0 z1 f0 f1 HB
        generalize wa.drew = q0 at *
        refine wpAnyH_take (i := 0) (v := ?v1) rfl (by kernel_rfl) (by kernel_rfl) (by kernel_rfl) (fun _ _ _ h => h) (Or.inl ⟨by kernel_rfl, ?h1⟩) HS ?r1
        case h1 => (rintro w n0; go_simp) <;> with_reducible rfl
        try simp only [Act.put, List.getElem_toArray, List.getElem_cons_succ, List.getElem_cons_zero, List.setIfInBounds_toArray, List.set_cons_zero, List.set_cons_succ]
        refine wpAnyH_take (i := 1) (v := ?v2) rfl (by kernel_rfl) (by kernel_rfl) (by kernel_rfl) (fun _ _ _ h => h) (Or.inl ⟨by kernel_rfl, ?h2⟩) HS ?r2
        case h2 => (rintro w n0; go_simp) <;> with_reducible rfl
        try simp only [Act.put, List.getElem_toArray, List.getElem_cons_succ, List.getElem_cons_zero, List.setIfInBounds_toArray, List.set_cons_zero, List.set_cons_succ]
        refine wpAnyH_take (i := 2) (v := ?v3) rfl (by kernel_rfl) (by kernel_rfl) (by kernel_rfl) (fun _ _ _ h => h) (Or.inl ⟨by kernel_rfl, ?h3⟩) HS ?r3
        case h3 => (rintro w n0; go_simp) <;> with_reducible rfl
        try simp only [Act.put, List.getElem_toArray, List.getElem_cons_succ, List.getElem_cons_zero, List.setIfInBounds_toArray, List.set_cons_zero, List.set_cons_succ]
        refine wpAnyH_take (i := 3) (v := ?v4) rfl (by kernel_rfl) (by kernel_rfl) (by kernel_rfl) (fun _ _ _ h => h) (Or.inl ⟨by kernel_rfl, ?h4⟩) HS ?r4
        case h4 => (rintro w n0; go_simp) <;> with_reducible rfl
        try simp only [Act.put, List.getElem_toArray, List.getElem_cons_succ, List.getElem_cons_zero, List.setIfInBounds_toArray, List.set_cons_zero, List.set_cons_succ]
        refine wpAnyH_take (i := 6) (v := ?v5) rfl (by kernel_rfl) (by kernel_rfl) (by kernel_rfl) (fun _ _ _ h => h) (Or.inl ⟨by kernel_rfl, ?h5⟩) HS ?r5
        case h5 => (rintro w n0; go_simp) <;> with_reducible rfl
        try simp only [Act.put, List.getElem_toArray, List.getElem_cons_succ, List.getElem_cons_zero, List.setIfInBounds_toArray, List.set_cons_zero, List.set_cons_succ]
        refine wpAnyH_take (i := 7) (v := ?v6) rfl (by kernel_rfl) (by kernel_rfl) (by kernel_rfl) (fun _ _ _ h => h) (Or.inl ⟨by kernel_rfl, ?h6⟩) HS ?r6
        case h6 => (rintro w n0; go_simp) <;> with_reducible rfl
        try simp only [Act.put, List.getElem_toArray, List.getElem_cons_succ, List.getElem_cons_zero, List.setIfInBounds_toArray, List.set_cons_zero, List.set_cons_succ]
        refine wpAnyH_take (i := 8) (v := ?v7) rfl (by kernel_rfl) (by kernel_rfl) (by kernel_rfl) (fun _ _ _ h => h) (Or.inl ⟨by kernel_rfl, ?h7⟩) HS ?r7
        case h7 => (rintro w n0; go_simp) <;> with_reducible rfl
        try simp only [Act.put, List.getElem_toArray, List.getElem_cons_succ, List.getElem_cons_zero, List.setIfInBounds_toArray, List.set_cons_zero, List.set_cons_succ]
        refine wpAnyH_take (i := 9) (v := ?v8) rfl (by kernel_rfl) (by kernel_rfl) (by kernel_rfl) (fun _ _ _ h => h) (Or.inl ⟨by kernel_rfl, ?h8⟩) HS ?r8
        case h8 => (rintro w n0; go_simp) <;> with_reducible rfl
        try simp only [Act.put, List.getElem_toArray, List.getElem_cons_succ, List.getElem_cons_zero, List.setIfInBounds_toArray, List.set_cons_zero, List.set_cons_succ]
        refine wpAnyH_take (i := 10) (v := ?v9) rfl (by kernel_rfl) (by kernel_rfl) (by kernel_rfl) (fun _ _ _ h => h) (Or.inl ⟨by kernel_rfl, ?h9⟩) HS ?r9
        case h9 => (rintro w n0; go_simp) <;> with_reducible rfl
        try simp only [Act.put, List.getElem_toArray, List.getElem_cons_succ, List.getElem_cons_zero, List.setIfInBounds_toArray, List.set_cons_zero, List.set_cons_succ]
        refine wpAnyH_take (i := 11) (v := ?v10) rfl (by kernel_rfl) (by kernel_rfl) (by kernel_rfl) (fun _ _ _ h => h) (Or.inl ⟨by kernel_rfl, ?h10⟩) HS ?r10
        case h10 => (rintro w n0; go_simp) <;> with_reducible rfl
        try simp only [Act.put, List.getElem_toArray, List.getElem_cons_succ, List.getElem_cons_zero, List.setIfInBounds_toArray, List.set_cons_zero, List.set_cons_succ]
        clear s1 s2 s3 s4
        refine wpAnyH_ready (rs := [4]) (by kernel_rfl) (by simp) ?_
        refine AllReadyH.cons rfl (fun K hK => ?_) AllReadyH.nil
        go_simp
        refine (refSum (l.take M8) HTl.out.2 HTl.out.1 _ _ (HT.out _ HBb.out.2).1).mono ?_
        rintro e q1 ⟨rfl, hB1⟩
        have HXc : Hid (Bx2 w.heap.size (.int .i64 0) (.slice none 0 0) q1) := HXb.out.later hB1
        have HBc : Hid (Below w.heap.size w q1 ∧ Bs q1 (.slice (some ⟨g, o, none⟩) n cap) l) := ⟨bchain HBb.out.1 hB1, HBb.out.2.later hB1⟩
        have HC3 : Hid (q1.cell? ⟨g, o + 3, none⟩ = some (.int .u8 (x3 : Int))) := cell_later hB1 HA3.out
        refine hK.out _ _ trivial (fun HS => ?_)
        clear hK K hB1 HXb HBb HA3
        try simp only [Act.put, List.getElem_toArray, List.getElem_cons_succ, List.getElem_cons_zero, List.setIfInBounds_toArray, List.set_cons_zero, List.set_cons_succ]
        refine wpAnyH_ready (rs := [5]) (by kernel_rfl) (by simp) ?_
        refine AllReadyH.cons rfl (fun K hK => ?_) AllReadyH.nil
        go_simp
        refine (refFour (sm (l.take M8)) (sm_lt _) _).mono ?_
        rintro e q2 ⟨v2, rfl, hO2, hB2⟩
        have HXd : Hid (Bx2 w.heap.size (.int .i64 0) (.slice none 0 0) q2) := HXc.out.later hB2
        have HBd : Hid (Below w.heap.size w q2 ∧ Bs q2 (.slice (some ⟨g, o, none⟩) n cap) l) := ⟨bchain HBc.out.1 hB2, HBc.out.2.later hB2⟩
        have HD3 : Hid (q2.cell? ⟨g, o + 3, none⟩ = some (.int .u8 (x3 : Int))) := cell_later hB2 HC3.out
        have HV2 : Hid (Bs q2 v2 (four (sm (l.take M8)))) := hO2.bs.1
        obtain ⟨ad2, cap2, rfl⟩ := hO2.sl
        refine hK.out _ _ trivial (fun HS => ?_)
        clear hK K hB2 HXc HBc HC3 hO2
        try simp only [Act.put, List.getElem_toArray, List.getElem_cons_succ, List.getElem_cons_zero, List.setIfInBounds_toArray, List.set_cons_zero, List.set_cons_succ]
        refine wpAnyH_ready (rs := [12]) (by kernel_rfl) (by simp) ?_
        refine AllReadyH.cons rfl (fun K hK => ?_) AllReadyH.nil
        go_simp
        refine (sameB _ _ _ _ _ HV2.out (HT.out _ HBd.out.2).2.1).mono ?_
        rintro e q3 ⟨rfl, hB3⟩
        have HXe : Hid (Bx2 w.heap.size (.int .i64 0) (.slice none 0 0) q3) := HXd.out.later hB3
        have HBe : Hid (Below w.heap.size w q3 ∧ Bs q3 (.slice (some ⟨g, o, none⟩) n cap) l) := ⟨bchain HBd.out.1 hB3, HBd.out.2.later hB3⟩
        have HE3 : Hid (q3.cell? ⟨g, o + 3, none⟩ = some (.int .u8 (x3 : Int))) := cell_later hB3 HD3.out
        refine hK.out _ _ trivial (fun HS => ?_)
        clear hK K hB3 HXd HBd HD3 HV2
        try simp only [Act.put, List.getElem_toArray, List.getElem_cons_succ, List.getElem_cons_zero, List.setIfInBounds_toArray, List.set_cons_zero, List.set_cons_succ]
        have HSM : Hid (∀ B, decide (four (sm (l.take M8)) = (l.drop M8).take 4) = B → (B = true → four (sm (l.take M8)) = (l.drop M8).take 4) ∧ (B = false → four (sm (l.take M8)) ≠ (l.drop M8).take 4)) := fun B hB => ⟨fun e => by rw [e] at hB; exact of_decide_eq_true hB, fun e => by rw [e] at hB; exact of_decide_eq_false hB⟩
        obtain ⟨B, hB⟩ : ∃ B, decide (four (sm (l.take M8)) = (l.drop M8).take 4) = B := ⟨_, rfl⟩
        have HSB := hidI (HSM.out B hB)
        rw [hB]
        clear hB HSM
        refine wpAnyH_take (i := 13) (v := ?v11) rfl (by kernel_rfl) (by kernel_rfl) (by kernel_rfl) (fun _ _ _ h => h) (Or.inl ⟨by kernel_rfl, ?h11⟩) HS ?r11
        case h11 => (rintro w n0; go_simp) <;> with_reducible rfl
        try simp only [Act.put, List.getElem_toArray, List.getElem_cons_succ, List.getElem_cons_zero, List.setIfInBounds_toArray, List.set_cons_zero, List.set_cons_succ]
        refine wpAnyH_done (by kernel_rfl) ?_ _
        clear HS
        have z0 := HXe.out.c0
        have z1 := HXe.out.c1
        have f0 := HXe.out.f0
        have f1 := HXe.out.f1
        have HB : Hid (Below w.heap.size w q3) := HBe.out.1
        cases B with
        | false =>
          have HE : Hid (opE l = 135) := opE_s HQ.out (by rw [HMm.out]; omega) (by rw [HMm.out]; have := HN.out; have := HM8.out; omega) (by rw [HMm.out, ← HM8.out.1]; exact HSB.out.2 rfl)
          have HO : Hid (opK l = 0 ∧ opP l = [] ∧ opN l = 0) := op_no HE.out (by omega)
          go_wp2
          exact bodyPost_ret (v := .tuple #[.agg #[.int .i64 0, .slice none 0 0], .int .i64 0, .int .i64 135]) (by simp [results, Tryd.results32, go_sem, z0, z1, f0, f1]) rfl ⟨.slice none 0 0, by rw [HE.out, HO.out.1, HO.out.2.2]; rfl, by rw [HO.out.2.1]; exact (ob_nil 0 _).bs.1, fun a n c e => (by cases e), (HB.out.setCell (by dsimp only; omega) _).setCell (by dsimp only; omega) _⟩
        | true =>
          have HE : Hid (opE l = 0) := opE_ok HQ.out (by rw [HMm.out]; omega) (by rw [HMm.out]; have := HN.out; have := HM8.out; omega) (by rw [HMm.out, ← HM8.out.1]; exact HSB.out.1 rfl)
          have HO : Hid (opK l = x3 ∧ opP l = (l.drop 8).take m ∧ opN l = M12) := by
            refine ⟨HK3.out x3 HX3.out HE.out, ?_, ?_⟩
            · rw [(op_yes HE.out).2.1, HMm.out]
            · rw [(op_yes HE.out).2.2, HMm.out, HM8.out.2]
          have s5 : ∀ W : World, (Instr.sliceAt 22 (.slice (some ⟨g, o, none⟩) n cap) (some (.int .i64 8)) (some (.int .i64 (M8 : Int))) none).run Tryd.prog W = .ok (sv (some ⟨g, o, none⟩) 8 M8 cap) W := fun W => sliceAt_run W _ n cap 8 M8 (by have := HM8.out; omega) (by have := HM8.out; omega)
          have s6 : ∀ W : World, (Instr.slice 22 (.slice (some ⟨g, o, none⟩) n cap) (some (.int .i64 8)) (some (.int .i64 (M8 : Int))) none).run Tryd.prog W = .ok (sv (some ⟨g, o, none⟩) 8 M8 cap) W := fun W => slice_run W _ n cap 8 M8 (by have := HM8.out; omega) (by have := HM8.out; omega)
          obtain ⟨T, hT⟩ : ∃ T, (l.drop 8).take m = T := ⟨_, rfl⟩
          have HTT : Hid ((l.drop 8).take m = T) := hT
          have HT5 : Hid (Bs q3 (sv (some ⟨g, o, none⟩) 8 M8 cap) T) := by
            rw [← hT]
            exact (HT.out _ HBe.out.2).2.2
          have HTm : Hid (T.length ≤ 70000) := by
            show _ ≤ _
            rw [← hT, List.length_take]
            omega
          clear hT
          go_upto_region 23 with (at_builtin; refine apB rfl _ _ rfl q3.heap.size _ [] rfl (ob_nil _ _) _ T rfl HT5.out (by have := HTm.out; simp; omega) (Nat.le_refl _) ?_; intro v6 w6 hO6 hg6; rw [List.nil_append] at hO6; obtain ⟨ad6, cap6, rfl⟩ := hO6.sl)
          have hb6 : Below q3.heap.size q3 w6 := hg6.1 _ (Below.refl _ _)
          have HX6 : Hid (Bx2 w.heap.size (.int .i64 0) (.slice none 0 0) w6) := HXe.out.later hb6
          have HB6 : Hid (Below w.heap.size w w6 ∧ Ow q3.heap.size (.slice ad6 T.length cap6) ∧ Bs w6 (.slice ad6 T.length cap6) T ∧ w.heap.size < q3.heap.size) := ⟨bchain HBe.out.1 hb6, hO6.bs.2, hO6.bs.1, World.block_lt_of_cell? _ _ HXe.out.c0⟩
          have a3 := cell_later hb6 HE3.out
          clear hO6 hg6 hb6 s5 s6 HT5 HXe HBe HE3 z0 z1 f0 f1 HB
          have z0 := HX6.out.c0
          have z1 := HX6.out.c1
          have f0 := HX6.out.f0
          have f1 := HX6.out.f1
          have wx : IntKind.i64.wrap (x3 : Int) = (x3 : Int) := by rw [IntKind.wrap_i64]; omega
          have HR6 : Hid (Bs ((w6.setCell ⟨w.heap.size, 0, none⟩ (.int .i64 (x3 : Int))).setCell ⟨w.heap.size, 1, none⟩ (.slice ad6 T.length cap6)) (.slice ad6 T.length cap6) T) := by
            have hnb : Nb (.slice ad6 T.length cap6) w.heap.size := ow_apart HB6.out.2.1 HB6.out.2.2.2
            exact Ls.set (Ls.set HB6.out.2.2.1 _ _ hnb) _ _ hnb
          go_wp2
          exact bodyPost_ret (v := .tuple #[.agg #[.int .i64 (x3 : Int), .slice ad6 T.length cap6], .int .i64 (M12 : Int), .int .i64 0]) (by simp [results, Tryd.results32, go_sem, z0, z1, f0, f1, p12]) rfl ⟨.slice ad6 T.length cap6, by rw [HE.out, HO.out.1, HO.out.2.2]; rfl, by rw [HO.out.2.1, HTT.out]; exact HR6.out, HB6.out.2.1.low (Nat.le_of_lt HB6.out.2.2.2), (HB6.out.1.setCell (by dsimp only; omega) _).setCell (by dsimp only; omega) _⟩
end Go.Proofs.YtfcbgkcclganmaaDoor
set_option linter.unusedVariables false
set_option linter.unusedSimpArgs false
namespace Go.Proofs.YtfcbgkcclganmaaDoor
open Go.RowKit

/-- A list of texts. -/
def Lb (w : World) (v : Value) (K : Nat) (ns : Nat → Nat) (fs : Nat → Nat → Nat) : Prop := ∃ (adr : Option Addr) (cap b o : Nat), v = .slice adr K cap ∧ K ≤ cap ∧ cap ≤ maxLen ∧ (0 < K → adr = some ⟨b, o, none⟩) ∧ ∀ j, j < K → ∃ (ad : Option Addr) (ca : Nat), w.cell? ⟨b, o + j, none⟩ = some (.slice ad (ns j) ca) ∧ Ls w (.slice ad (ns j) ca) (ns j) (by8 (fs j))
theorem Lb.later {w w' : World} {v : Value} {K : Nat} {ns : Nat → Nat} {fs : Nat → Nat → Nat} (h : Lb w v K ns fs) (hb : Below w.heap.size w w') : Lb w' v K ns fs := by
  obtain ⟨adr, cap, b, o, h1, h2, h3, h4, h5⟩ := h
  refine ⟨adr, cap, b, o, h1, h2, h3, h4, fun j hj => ?_⟩
  obtain ⟨ad, ca, q1, q2⟩ := h5 j hj
  exact ⟨ad, ca, cell_later hb q1, q2.later hb⟩
theorem Lb.len {w : World} {v : Value} {K : Nat} {ns : Nat → Nat} {fs : Nat → Nat → Nat} (h : Lb w v K ns fs) : ∃ (ad : Option Addr) (cap : Nat), v = .slice ad K cap ∧ K ≤ cap ∧ cap ≤ maxLen := by
  obtain ⟨adr, cap, b, o, h1, h2, h3, -⟩ := h
  exact ⟨adr, cap, h1, h2, h3⟩
theorem Lb.spot {w : World} {v : Value} {K : Nat} {ns : Nat → Nat} {fs : Nat → Nat → Nat} (h : Lb w v K ns fs) (j : Nat) (hj : j < K) : ∃ (b o cap : Nat) (ad : Option Addr) (ca : Nat), v = .slice (some ⟨b, o, none⟩) K cap ∧ w.cell? ⟨b, o + j, none⟩ = some (.slice ad (ns j) ca) ∧ Ls w (.slice ad (ns j) ca) (ns j) (by8 (fs j)) := by
  obtain ⟨adr, cap, b, o, h1, h2, h3, h4, h5⟩ := h
  have e := h4 (by omega)
  subst e
  obtain ⟨ad, ca, q1, q2⟩ := h5 j hj
  exact ⟨b, o, cap, ad, ca, h1, q1, q2⟩
/-- One text, and two, as a list. -/
theorem lb_one (w : World) (ad : Option Addr) (n ca : Nat) (f : Nat → Nat) (t : TypeId) (l : Ls w (.slice ad n ca) n (by8 f)) : Lb (w.alloc (.cells #[.slice ad n ca] t)) (.slice (some ⟨w.heap.size, 0, none⟩) 1 1) 1 (fun _ => n) (fun _ => f) :=
  ⟨_, 1, w.heap.size, 0, rfl, Nat.le_refl _, by unfold maxLen; omega, fun _ => rfl, fun j hj => by
    obtain rfl : j = 0 := by omega
    exact ⟨ad, ca, by simp [go_sem], l.later (bel1 _ _)⟩⟩
def two {α : Type} (a b : α) : Nat → α := fun j => if j = 0 then a else b
theorem lb_two (w : World) (ad1 ad2 : Option Addr) (n1 n2 c1 c2 : Nat) (f g : Nat → Nat) (t : TypeId) (l1 : Ls w (.slice ad1 n1 c1) n1 (by8 f)) (l2 : Ls w (.slice ad2 n2 c2) n2 (by8 g)) : Lb (w.alloc (.cells #[.slice ad1 n1 c1, .slice ad2 n2 c2] t)) (.slice (some ⟨w.heap.size, 0, none⟩) 2 2) 2 (two n1 n2) (two f g) :=
  ⟨_, 2, w.heap.size, 0, rfl, Nat.le_refl _, by unfold maxLen; omega, fun _ => rfl, fun j hj => by
    have : j = 0 ∨ j = 1 := by omega
    rcases this with rfl | rfl
    · exact ⟨ad1, c1, by simp [go_sem, two], l1.later (bel1 _ _)⟩
    · exact ⟨ad2, c2, by simp [go_sem, two], l2.later (bel1 _ _)⟩⟩
/-- What crc asks of the world: its table of half bytes. -/
def TbAt (w : World) : Prop := ∀ i, i < 16 → w.cell? ⟨1, i, none⟩ = some (.int .u32 ((cZs 4 i : Nat) : Int))
theorem TbAt.later {w w' : World} (h : TbAt w) (hb : Below w.heap.size w w') : TbAt w' := fun m hm => cell_later hb (h m hm)
end Go.Proofs.YtfcbgkcclganmaaDoor
set_option linter.unusedVariables false
set_option linter.unusedSimpArgs false
namespace Go.Proofs.YtfcbgkcclganmaaDoor
open Go.RowKit

/-- What frame asks of the world: crc's table, and the bytes that each frame begins with. -/
def ahd : List Nat := [82, 71, 1]
def AhAt (w : World) : Prop := ∀ i, i < 3 → w.cell? ⟨0, i, none⟩ = some (.int .u8 ((ahd.getD i 0 : Nat) : Int))
theorem AhAt.later {w w' : World} (h : AhAt w) (hb : Below w.heap.size w w') : AhAt w' := fun m hm => cell_later hb (h m hm)
structure FT (w : World) : Prop where
  tb : TbAt w
  ah : AhAt w
theorem FT.later {w w' : World} (h : FT w) (k : Below w.heap.size w w') : FT w' := ⟨TbAt.later h.tb k, AhAt.later h.ah k⟩
/-- Neither table is one of these blocks. -/
def NT (F : Nat → Prop) : Prop := ¬ F 1 ∧ ¬ F 0
theorem FT.low {w : World} (h : FT w) : 1 < w.heap.size ∧ 0 < w.heap.size := ⟨World.block_lt_of_cell? _ _ (h.tb 0 (by omega)), World.block_lt_of_cell? _ _ (h.ah 0 (by omega))⟩
/-- The contracts of frame. -/
structure Fr1 : Prop where
  sealOk : ∀ (w : World) (k : Nat) (v : Value) (l : List Nat), 1 ≤ k → k ≤ 255 → Bs w v l → (∀ c ∈ l, c < 256) → l.length ≤ 65536 → FT w →
    Calls Tryd.prog 18 #[.int .i64 (k : Int), v] w fun e w' => ∃ v', e = .returned (.tuple #[v', .int .i64 0]) ∧ Ob w.heap.size w' v' (fsl k l) ∧ Below w.heap.size w w'
  sealKind : ∀ (w : World) (k : Int) (v : Value) (l : List Nat), k < 1 ∨ 255 < k → Bs w v l → FT w →
    Calls Tryd.prog 18 #[.int .i64 k, v] w fun e w' => ∃ v', e = .returned (.tuple #[v', .int .i64 133]) ∧ Bs w' v' [] ∧ Below w.heap.size w w'
  sealSize : ∀ (w : World) (k : Nat) (v : Value) (l : List Nat), 1 ≤ k → k ≤ 255 → Bs w v l → 65536 < l.length → FT w →
    Calls Tryd.prog 18 #[.int .i64 (k : Int), v] w fun e w' => ∃ v', e = .returned (.tuple #[v', .int .i64 134]) ∧ Bs w' v' [] ∧ Below w.heap.size w w'
  opn : ∀ (w : World) (v : Value) (l : List Nat), Bs w v l → (∀ c ∈ l, c < 256) → l.length ≤ 90000 → FT w →
    Calls Tryd.prog 30 #[v] w fun e w' => ∃ vp, e = .returned (.tuple #[.agg #[.int .i64 ((opK l : Nat) : Int), vp], .int .i64 ((opN l : Nat) : Int), .int .i64 ((opE l : Nat) : Int)]) ∧ Bs w' vp (opP l) ∧ Ow w.heap.size vp ∧ Below w.heap.size w w'
theorem bs_const (w : World) (x : Nat) (t : TypeId) (fr : Nat × Nat) : Bs (w.alloc (.cells #[.int .u8 (x : Int)] t fr)) (.slice (some ⟨w.heap.size, 0, none⟩) 1 1) [x] :=
  ⟨_, 1, w.heap.size, 0, rfl, Nat.le_refl _, ⟨by unfold maxLen; omega, fun e => by cases e⟩, fun _ => rfl, fun k hk => by
    have hk0 : k < 1 := hk
    obtain rfl : k = 0 := by omega
    rw [Nat.zero_add, World.cell?_alloc_mark]
    rfl⟩
theorem bs_two (w : World) (x y : Nat) (t : TypeId) : Bs (w.alloc (.cells #[.int .u8 (x : Int), .int .u8 (y : Int)] t)) (.slice (some ⟨w.heap.size, 0, none⟩) 2 2) [x, y] :=
  ⟨_, 2, w.heap.size, 0, rfl, Nat.le_refl _, ⟨by unfold maxLen; omega, fun e => by cases e⟩, fun _ => rfl, fun k hk => by
    have hk0 : k < 2 := hk
    have : k = 0 ∨ k = 1 := by omega
    rcases this with rfl | rfl <;> simp [go_sem, b8f]⟩
theorem fsl_nil (k : Nat) (l : List Nat) : fsl k l = fsl k l ++ [] := (List.append_nil _).symm
theorem op_seal0 {k : Nat} (hk : k ≠ 0) (l : List Nat) (hl : l.length ≤ 65536) : opE (fsl k l) = 0 ∧ opK (fsl k l) = k ∧ opP (fsl k l) = l ∧ opN (fsl k l) = l.length + 12 := by
  have h1 := opE_seal hk l [] hl
  have h2 := op_seal hk l [] hl
  rw [List.append_nil] at h1 h2
  exact ⟨h1, h2⟩
theorem fsl_at8 (k : Nat) (x : Nat) : (fsl k [x]).getD 8 0 = x := by
  rw [fsl_nil, seal_eight]
  rfl
theorem aw_magic : opE [82, 72] = 131 := opE_b1 (by decide) rfl (by decide)
end Go.Proofs.YtfcbgkcclganmaaDoor
