/-
  The program's frame: the bytes ahead (beginning), numbers of four bytes (numberAt, withNumber), a copy of bytes (bytes.Clone).
-/
import Derived.Test.YtfcbgkcclganmaaDoorFrDefs
import Derived.Test.YtfcbgkcclganmaaDoorCWalk
import Derived.Test.YtfcbgkcclganmaaDoorPkOwn
set_option linter.unusedVariables false
set_option linter.unusedSimpArgs false
namespace Go.Proofs.YtfcbgkcclganmaaDoor
open Go.RowKit

theorem slice_runH (w : World) (ad : Option Addr) (n cap q : Nat) (h2 : q ≤ cap) :
    (Instr.slice 22 (.slice ad n cap) none (some (.int .i64 (q : Int))) none).run Tryd.prog w = .ok (sv ad 0 q cap) w := by
  have ht : Tryd.prog.underlying 22 = some (.slice (Tryd.prog.elem 22)) := by kernel_rfl
  have hs : (sizeOf (Tryd.prog.elem 22)).run Tryd.prog w = .ok 1 w := by
    obtain ⟨i0, hti, hi0, hi1, hi2⟩ := byteInfo
    have e : Tryd.prog.elem 22 = 5 := by kernel_rfl
    rw [e]
    simp [sizeOf, typeInfo, hti, hi1]
  rw [run_slice_h w 22 ad n cap ht .i64 (q : Int) (by omega) (by omega), hs]
  simp [Result.andThen, sliced, sv]
/-- The first error among the four bytes ahead, as far as they are there. -/
structure Bg (l : List Nat) (E : Nat) : Prop where
  no : E ≠ 0 → opE l = E
  lo : E = 0 → l.length ≤ 3 → opE l = 130
  hd : E = 0 → 3 < l.length → Hd4 l
  lt : E < 1000
/-- So many bytes ahead are right. -/
def OkTo (l : List Nat) (j : Nat) : Prop := (0 < j → l.getD 0 0 = 82) ∧ (1 < j → l.getD 1 0 = 71) ∧ (2 < j → l.getD 2 0 = 1) ∧ (3 < j → l.getD 3 0 ≠ 0)
theorem okTo_zero (l : List Nat) : OkTo l 0 := ⟨fun h => by omega, fun h => by omega, fun h => by omega, fun h => by omega⟩
theorem bg_end {l : List Nat} {m : Nat} (hm : m = min l.length 4) (h : OkTo l m) : Bg l 0 := by
  refine ⟨fun q => absurd rfl q, fun _ q => ?_, fun _ q => ⟨q, h.1 (by omega), h.2.1 (by omega), h.2.2.1 (by omega), h.2.2.2 (by omega)⟩, by omega⟩
  have : l.length = 0 ∨ l.length = 1 ∨ l.length = 2 ∨ l.length = 3 := by omega
  rcases this with q0 | q0 | q0 | q0
  · exact opE_l0 q0
  · exact opE_l1 q0 (h.1 (by omega))
  · exact opE_l2 q0 (h.1 (by omega)) (h.2.1 (by omega))
  · exact opE_l3 q0 (h.1 (by omega)) (h.2.1 (by omega)) (h.2.2.1 (by omega))
theorem bg_no {l : List Nat} {E : Nat} (h : opE l = E) (h0 : E ≠ 0) (h1 : E < 1000) : Bg l E := ⟨fun _ => h, fun q => absurd q h0, fun q => absurd q h0, h1⟩
set_option maxRecDepth 100000 in
set_option maxHeartbeats 4000000 in
theorem beginning_any (w : World) (v : Value) (l : List Nat) (h : Bs w v l) (hb : ∀ c ∈ l, c < 256) (hl : l.length ≤ 1000000) (hA : AhAt w) :
    Calls Tryd.prog 46 #[v] w fun e w' => ∃ E : Nat, e = .returned (.int .i64 (E : Int)) ∧ Bg l E ∧ w' = w := by
  obtain ⟨ad, cap, rfl, k1, k2⟩ := h.len
  unfold maxLen at k2
  have g0 : w.cell? ⟨0, 0, none⟩ = some (.int .u8 82) := hA 0 (by omega)
  have g1 : w.cell? ⟨0, 1, none⟩ = some (.int .u8 71) := hA 1 (by omega)
  have g2 : w.cell? ⟨0, 2, none⟩ = some (.int .u8 1) := hA 2 (by omega)
  obtain ⟨n, hn⟩ : ∃ n, l.length = n := ⟨_, rfl⟩
  have HN : Hid (l.length = n) := hn
  have HS : Hid (∀ j, j < n → ∃ (b o : Nat), ad = some ⟨b, o, none⟩ ∧ w.cell? ⟨b, o + j, none⟩ = some (.int .u8 ((l.getD j 0 : Nat) : Int))) := fun j hj => h.cel j (by omega)
  rw [hn] at k1 hl ⊢
  clear h hb hA hn
  go_enter Tryd.func46, Tryd.ntmps46
  by_cases hq : (4 : Int) < (n : Int)
  · have HM : Hid (4 = min l.length 4 ∧ 4 ≤ n) := ⟨by have := HN.out; omega, by omega⟩
    go_upto_region 2 with fail
    go_loopw [11] (fun s11 wr => ∃ j : Nat, j ≤ 4 ∧ s11 = .int .i64 (j : Int) ∧ wr = w ∧ Hid (OkTo l j)) (fun s11 _ => 4 - (intOf s11).toNat)
    case atStart => exact ⟨0, by omega, rfl, rfl, okTo_zero l⟩
    case round =>
      obtain ⟨j, hj, rfl, hwr, HO⟩ := hrel
      have hwr2 := hwr.symm
      subst hwr2
      clear hwr
      by_cases hlt : j < 4
      · have hjI : (j : Int) < (4 : Int) := by omega
        obtain ⟨g, o, e, c⟩ := HS.out j (by have := HM.out; omega)
        subst e
        clear HS
        have hj4 : j < 4 := by have := HM.out; omega
        have hcs : j = 0 ∨ j = 1 ∨ j = 2 ∨ j = 3 := by omega
        clear hj4
        rcases hcs with rfl | rfl | rfl | rfl
        · obtain ⟨x, hx⟩ : ∃ x, l.getD 0 0 = x := ⟨_, rfl⟩
          rw [hx] at c
          rw [Nat.add_zero] at c
          have HXx : Hid (l.getD 0 0 = x) := hx
          clear hx
          by_cases hv : x = 82
          · subst hv
            have HX : Hid (l.getD 0 0 = 82) := HXx.out
            clear HXx
            go_wp2
            go_roundw
            case rel => exact ⟨1, by omega, by first | rfl | go_num, by trivial, ⟨fun _ => HX.out, fun h => by omega, fun h => by omega, fun h => by omega⟩⟩
            case measure => first | (simp [intOf]; done) | (simp [intOf]; omega)
          · have hvI : ¬ (x : Int) = 82 := by omega
            have HX : Hid (l.getD 0 0 ≠ 82) := (by have := HXx.out; show _ ≠ _; omega)
            clear HXx
            go_wp2
            go_ret
            exact ⟨131, rfl, bg_no (opE_b0 (by have := HM.out; omega) HX.out) (by omega) (by omega), rfl⟩
        · obtain ⟨x, hx⟩ : ∃ x, l.getD 1 0 = x := ⟨_, rfl⟩
          rw [hx] at c
          have HXx : Hid (l.getD 1 0 = x) := hx
          clear hx
          by_cases hv : x = 71
          · subst hv
            have HX : Hid (l.getD 1 0 = 71) := HXx.out
            clear HXx
            go_wp2
            go_roundw
            case rel => exact ⟨2, by omega, by first | rfl | go_num, by trivial, ⟨fun _ => HO.out.1 (by omega), fun _ => HX.out, fun h => by omega, fun h => by omega⟩⟩
            case measure => first | (simp [intOf]; done) | (simp [intOf]; omega)
          · have hvI : ¬ (x : Int) = 71 := by omega
            have HX : Hid (l.getD 1 0 ≠ 71) := (by have := HXx.out; show _ ≠ _; omega)
            clear HXx
            go_wp2
            go_ret
            exact ⟨131, rfl, bg_no (opE_b1 (by have := HM.out; omega) (HO.out.1 (by omega)) HX.out) (by omega) (by omega), rfl⟩
        · obtain ⟨x, hx⟩ : ∃ x, l.getD 2 0 = x := ⟨_, rfl⟩
          rw [hx] at c
          have HXx : Hid (l.getD 2 0 = x) := hx
          clear hx
          by_cases hv : x = 1
          · subst hv
            have HX : Hid (l.getD 2 0 = 1) := HXx.out
            clear HXx
            go_wp2
            go_roundw
            case rel => exact ⟨3, by omega, by first | rfl | go_num, by trivial, ⟨fun _ => HO.out.1 (by omega), fun _ => HO.out.2.1 (by omega), fun _ => HX.out, fun h => by omega⟩⟩
            case measure => first | (simp [intOf]; done) | (simp [intOf]; omega)
          · have hvI : ¬ (x : Int) = 1 := by omega
            have HX : Hid (l.getD 2 0 ≠ 1) := (by have := HXx.out; show _ ≠ _; omega)
            clear HXx
            go_wp2
            go_ret
            exact ⟨132, rfl, bg_no (opE_b2 (by have := HM.out; omega) (HO.out.1 (by omega)) (HO.out.2.1 (by omega)) HX.out) (by omega) (by omega), rfl⟩
        · obtain ⟨x, hx⟩ : ∃ x, l.getD 3 0 = x := ⟨_, rfl⟩
          rw [hx] at c
          have HXx : Hid (l.getD 3 0 = x) := hx
          clear hx
          by_cases hv : x = 0
          · subst hv
            have HX : Hid (l.getD 3 0 = 0) := HXx.out
            clear HXx
            go_wp2
            go_ret
            exact ⟨133, rfl, bg_no (opE_b3 (by have := HM.out; omega) (HO.out.1 (by omega)) (HO.out.2.1 (by omega)) (HO.out.2.2.1 (by omega)) HX.out) (by omega) (by omega), rfl⟩
          · have hvI : ¬ (x : Int) = 0 := by omega
            have HX : Hid (l.getD 3 0 ≠ 0) := (by have := HXx.out; show _ ≠ _; omega)
            clear HXx
            go_wp2
            go_roundw
            case rel => exact ⟨4, by omega, by first | rfl | go_num, by trivial, ⟨fun _ => HO.out.1 (by omega), fun _ => HO.out.2.1 (by omega), fun _ => HO.out.2.2.1 (by omega), fun _ => HX.out⟩⟩
            case measure => first | (simp [intOf]; done) | (simp [intOf]; omega)
      · obtain rfl : j = 4 := by omega
        skip
        have HE : Hid (Bg l 0) := bg_end HM.out.1 HO.out
        clear HS HO
        go_wp2
        go_ret
        exact ⟨0, rfl, HE.out, rfl⟩
  · have HM : Hid (n = min l.length 4 ∧ n ≤ 4) := ⟨by have := HN.out; omega, by omega⟩
    go_upto_region 2 with fail
    go_loopw [11] (fun s11 wr => ∃ j : Nat, j ≤ n ∧ s11 = .int .i64 (j : Int) ∧ wr = w ∧ Hid (OkTo l j)) (fun s11 _ => n - (intOf s11).toNat)
    case atStart => exact ⟨0, by omega, rfl, rfl, okTo_zero l⟩
    case round =>
      obtain ⟨j, hj, rfl, hwr, HO⟩ := hrel
      have hwr2 := hwr.symm
      subst hwr2
      clear hwr
      by_cases hlt : j < n
      · have hjI : (j : Int) < (n : Int) := by omega
        obtain ⟨g, o, e, c⟩ := HS.out j (by have := HM.out; omega)
        subst e
        clear HS
        have hj4 : j < 4 := by have := HM.out; omega
        have hcs : j = 0 ∨ j = 1 ∨ j = 2 ∨ j = 3 := by omega
        clear hj4
        rcases hcs with rfl | rfl | rfl | rfl
        · obtain ⟨x, hx⟩ : ∃ x, l.getD 0 0 = x := ⟨_, rfl⟩
          rw [hx] at c
          rw [Nat.add_zero] at c
          have HXx : Hid (l.getD 0 0 = x) := hx
          clear hx
          by_cases hv : x = 82
          · subst hv
            have HX : Hid (l.getD 0 0 = 82) := HXx.out
            clear HXx
            go_wp2
            go_roundw
            case rel => exact ⟨1, by omega, by first | rfl | go_num, by trivial, ⟨fun _ => HX.out, fun h => by omega, fun h => by omega, fun h => by omega⟩⟩
            case measure => first | (simp [intOf]; done) | (simp [intOf]; omega)
          · have hvI : ¬ (x : Int) = 82 := by omega
            have HX : Hid (l.getD 0 0 ≠ 82) := (by have := HXx.out; show _ ≠ _; omega)
            clear HXx
            go_wp2
            go_ret
            exact ⟨131, rfl, bg_no (opE_b0 (by have := HM.out; omega) HX.out) (by omega) (by omega), rfl⟩
        · obtain ⟨x, hx⟩ : ∃ x, l.getD 1 0 = x := ⟨_, rfl⟩
          rw [hx] at c
          have HXx : Hid (l.getD 1 0 = x) := hx
          clear hx
          by_cases hv : x = 71
          · subst hv
            have HX : Hid (l.getD 1 0 = 71) := HXx.out
            clear HXx
            go_wp2
            go_roundw
            case rel => exact ⟨2, by omega, by first | rfl | go_num, by trivial, ⟨fun _ => HO.out.1 (by omega), fun _ => HX.out, fun h => by omega, fun h => by omega⟩⟩
            case measure => first | (simp [intOf]; done) | (simp [intOf]; omega)
          · have hvI : ¬ (x : Int) = 71 := by omega
            have HX : Hid (l.getD 1 0 ≠ 71) := (by have := HXx.out; show _ ≠ _; omega)
            clear HXx
            go_wp2
            go_ret
            exact ⟨131, rfl, bg_no (opE_b1 (by have := HM.out; omega) (HO.out.1 (by omega)) HX.out) (by omega) (by omega), rfl⟩
        · obtain ⟨x, hx⟩ : ∃ x, l.getD 2 0 = x := ⟨_, rfl⟩
          rw [hx] at c
          have HXx : Hid (l.getD 2 0 = x) := hx
          clear hx
          by_cases hv : x = 1
          · subst hv
            have HX : Hid (l.getD 2 0 = 1) := HXx.out
            clear HXx
            go_wp2
            go_roundw
            case rel => exact ⟨3, by omega, by first | rfl | go_num, by trivial, ⟨fun _ => HO.out.1 (by omega), fun _ => HO.out.2.1 (by omega), fun _ => HX.out, fun h => by omega⟩⟩
            case measure => first | (simp [intOf]; done) | (simp [intOf]; omega)
          · have hvI : ¬ (x : Int) = 1 := by omega
            have HX : Hid (l.getD 2 0 ≠ 1) := (by have := HXx.out; show _ ≠ _; omega)
            clear HXx
            go_wp2
            go_ret
            exact ⟨132, rfl, bg_no (opE_b2 (by have := HM.out; omega) (HO.out.1 (by omega)) (HO.out.2.1 (by omega)) HX.out) (by omega) (by omega), rfl⟩
        · obtain ⟨x, hx⟩ : ∃ x, l.getD 3 0 = x := ⟨_, rfl⟩
          rw [hx] at c
          have HXx : Hid (l.getD 3 0 = x) := hx
          clear hx
          by_cases hv : x = 0
          · subst hv
            have HX : Hid (l.getD 3 0 = 0) := HXx.out
            clear HXx
            go_wp2
            go_ret
            exact ⟨133, rfl, bg_no (opE_b3 (by have := HM.out; omega) (HO.out.1 (by omega)) (HO.out.2.1 (by omega)) (HO.out.2.2.1 (by omega)) HX.out) (by omega) (by omega), rfl⟩
          · have hvI : ¬ (x : Int) = 0 := by omega
            have HX : Hid (l.getD 3 0 ≠ 0) := (by have := HXx.out; show _ ≠ _; omega)
            clear HXx
            go_wp2
            go_roundw
            case rel => exact ⟨4, by omega, by first | rfl | go_num, by trivial, ⟨fun _ => HO.out.1 (by omega), fun _ => HO.out.2.1 (by omega), fun _ => HO.out.2.2.1 (by omega), fun _ => HX.out⟩⟩
            case measure => first | (simp [intOf]; done) | (simp [intOf]; omega)
      · obtain rfl : n = j := by omega
        have hjI : ¬ (n : Int) < (n : Int) := by omega
        have HE : Hid (Bg l 0) := bg_end HM.out.1 HO.out
        clear HS HO
        go_wp2
        go_ret
        exact ⟨0, rfl, HE.out, rfl⟩
end Go.Proofs.YtfcbgkcclganmaaDoor
