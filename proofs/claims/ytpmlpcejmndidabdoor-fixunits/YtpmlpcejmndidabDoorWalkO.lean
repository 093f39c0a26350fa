/-
  The contract of words' down.
-/
import Derived.Test.YtpmlpcejmndidabDoorWalkN
set_option linter.unusedVariables false
set_option linter.unusedSimpArgs false
namespace Go.Proofs.YtpmlpcejmndidabDoor
open Go.RowKit

theorem c3_later {w w' : World} {a0 a1 a2 : Addr} {v0 v1 v2 : Value} (h : w.cell? a0 = some v0 ∧ w.cell? a1 = some v1 ∧ w.cell? a2 = some v2) (hb : Below w.heap.size w w') : w'.cell? a0 = some v0 ∧ w'.cell? a1 = some v1 ∧ w'.cell? a2 = some v2 := by
  obtain ⟨h0, h1, h2⟩ := h
  exact ⟨cell_later hb h0, cell_later hb h1, cell_later hb h2⟩
theorem hidD {a b c : World} (h : Hid (Below a.heap.size a b)) (k : Below b.heap.size b c) : Hid (Below a.heap.size a c) := bchain h.out k

theorem at_int (v J : Int) (j0 : 0 ≤ J) (j1 : J ≤ 100) (h0 : -3138550867693340381917894711603833208051177722232017256448 ≤ v) (h1 : v ≤ 3138550867693340381917894711603833208051177722232017256447) (w : World) :
    Calls Tryd.prog 85 #[.agg #[.int .u64 (lo v), .int .u64 (m3 v), .int .u64 (u3 v)], .int .i64 J] w fun e w' => e = .returned (.int .u64 (wd v J.toNat)) ∧ Below w.heap.size w w' := by
  have h := at_any v J.toNat (by omega) h0 h1 w
  rw [Int.toNat_of_nonneg j0] at h
  exact h

theorem down_at (v : Int) (n q r i : Nat) (hn : n = 64 * q + r) (hr : r < 64) : bits .or .u64 (wd v (i + q) / 2 ^ r) (wd v (i + q + 1) * 2 ^ (64 - r) % 18446744073709551616) = wd (v / 2 ^ n) i := by
  have e1 : wd v (i + q + 1) = v / 2 ^ (64 * (i + q)) / 18446744073709551616 % 18446744073709551616 := by
    unfold wd
    rw [show 64 * (i + q + 1) = 64 * (i + q) + 64 by omega, ← wbit_at]
    rfl
  have e2 : wd (v / 2 ^ n) i = v / 2 ^ (64 * (i + q)) / 2 ^ r % 18446744073709551616 := by
    unfold wd
    rw [wbit_at, wbit_at, show n + 64 * i = 64 * (i + q) + r by omega]
  rw [e1, e2]
  exact down_word _ r hr

set_option maxHeartbeats 2000000 in
theorem down_any (v : Int) (n q r : Nat) (hn : n = 64 * q + r) (hq : q ≤ 2) (hr : r < 64) (h0 : -3138550867693340381917894711603833208051177722232017256448 ≤ v) (h1 : v ≤ 3138550867693340381917894711603833208051177722232017256447) (w : World) :
    Calls Tryd.prog 77 #[.agg #[.int .u64 (lo v), .int .u64 (m3 v), .int .u64 (u3 v)], .int .i64 (n : Int)] w fun e w' => e = .returned (.agg #[.int .u64 (lo (v / 2 ^ n)), .int .u64 (m3 (v / 2 ^ n)), .int .u64 (u3 (v / 2 ^ n))]) ∧ Below w.heap.size w w' := by
  have D0 := down_at v n q r 0 hn hr
  have D1 := down_at v n q r 1 hn hr
  have D2 := down_at v n q r 2 hn hr
  rw [wd_0, Nat.zero_add] at D0
  rw [wd_1] at D1
  rw [wd_2] at D2
  have H0 : Hid (bits .or .u64 (wd v q / 2 ^ r) (IntKind.u64.wrap (wd v (q + 1) * 2 ^ (64 - r))) = lo (v / 2 ^ n)) := by show _ = _; rw [IntKind.wrap_u64]; exact D0
  have H1 : Hid (bits .or .u64 (wd v (1 + q) / 2 ^ r) (IntKind.u64.wrap (wd v (1 + q + 1) * 2 ^ (64 - r))) = m3 (v / 2 ^ n)) := by show _ = _; rw [IntKind.wrap_u64]; exact D1
  have H2 : Hid (bits .or .u64 (wd v (2 + q) / 2 ^ r) (IntKind.u64.wrap (wd v (2 + q + 1) * 2 ^ (64 - r))) = u3 (v / 2 ^ n)) := by show _ = _; rw [IntKind.wrap_u64]; exact D2
  clear D0 D1 D2
  have t1 : (n : Int).tdiv 64 = (q : Int) := by rw [Int.tdiv_eq_ediv_of_nonneg (by omega)]; omega
  have t2 : (n : Int).tmod 64 = (r : Int) := by rw [Int.tmod_eq_emod_of_nonneg (by omega)]; omega
  have n0 : (0 : Int) ≤ (n : Int) := by omega
  have rI0 : (0 : Int) ≤ (r : Int) := by omega
  have rI1 : (r : Int) ≤ 63 := by omega
  have qI : (q : Int) ≤ 2 := by omega
  clear hn hq
  generalize hX0 : lo v = a0 at *
  generalize hX1 : m3 v = a1 at *
  generalize hX2 : u3 v = a2 at *
  have AT : Hid (∀ (J : Int) (W : World), 0 ≤ J → J ≤ 100 → Calls Tryd.prog 85 #[.agg #[.int .u64 a0, .int .u64 a1, .int .u64 a2], .int .i64 J] W fun e w' => e = .returned (.int .u64 (wd v J.toNat)) ∧ Below W.heap.size W w') := by
    intro J W j0 j1
    have h := at_int v J j0 j1 h0 h1 W
    rw [hX0, hX1, hX2] at h
    exact h
  clear hX0 hX1 hX2
  have A0 := ((B3.new w (.int .u64 a0) (.int .u64 a1) (.int .u64 a2) 98).later (bel1 _ (.cells #[.int .u64 0, .int .u64 0, .int .u64 0] 98))).later (bel1 _ (.cells #[.int .u64 0, .int .u64 0, .int .u64 0] 98))
  have R0 := (B3.new (w.alloc (.cells #[.int .u64 a0, .int .u64 a1, .int .u64 a2] 98)) (.int .u64 0) (.int .u64 0) (.int .u64 0) 98).later (bel1 _ (.cells #[.int .u64 0, .int .u64 0, .int .u64 0] 98))
  have O0 := B3.new ((w.alloc (.cells #[.int .u64 a0, .int .u64 a1, .int .u64 a2] 98)).alloc (.cells #[.int .u64 0, .int .u64 0, .int .u64 0] 98)) (.int .u64 0) (.int .u64 0) (.int .u64 0) 98
  have W0 := bel3 w (.cells #[.int .u64 a0, .int .u64 a1, .int .u64 a2] 98) (.cells #[.int .u64 0, .int .u64 0, .int .u64 0] 98) (.cells #[.int .u64 0, .int .u64 0, .int .u64 0] 98)
  simp only [World.size_alloc] at O0 R0
  go_enter Tryd.func77, Tryd.ntmps77
  go_wp2
  go_loopw [8] (fun i wr => ∃ (x0 x1 x2 : Int), B3 w.heap.size (.int .u64 a0) (.int .u64 a1) (.int .u64 a2) wr ∧ B3 (w.heap.size + 1) (.int .u64 0) (.int .u64 0) (.int .u64 0) wr ∧ B3 (w.heap.size + 2) (.int .u64 x0) (.int .u64 x1) (.int .u64 x2) wr ∧ Below w.heap.size w wr ∧
      ((i = .int .i64 0 ∧ True) ∨ (i = .int .i64 1 ∧ x0 = lo (v / 2 ^ n)) ∨ (i = .int .i64 2 ∧ x0 = lo (v / 2 ^ n) ∧ x1 = m3 (v / 2 ^ n)) ∨ (i = .int .i64 3 ∧ x0 = lo (v / 2 ^ n) ∧ x1 = m3 (v / 2 ^ n) ∧ x2 = u3 (v / 2 ^ n)))) (fun i _ => 3 - (intOf i).toNat)
  case atStart => exact ⟨0, 0, 0, A0, R0, O0, W0, .inl ⟨rfl, trivial⟩⟩
  case round =>
    clear A0 R0 O0 W0
    obtain ⟨x0, x1, x2, hA, hR, hO, hW, hcase⟩ := hrel
    have hsz := hA.lt
    have hsz2 := hO.lt
    rcases hcase with ⟨rfl, -⟩ | ⟨rfl, hx0⟩ | ⟨rfl, hx0, hx1⟩ | ⟨rfl, hx0, hx1, hx2⟩
    · have k1 : IntKind.i64.wrap ((q : Int) + 1) = (q : Int) + 1 := by rw [IntKind.wrap_i64]; omega
      have k2 : IntKind.i64.wrap (64 - (r : Int)) = 64 - (r : Int) := by rw [IntKind.wrap_i64]; omega
      have k3 : (0 : Int) ≤ 64 - (r : Int) := by omega
      go_upto_region 6 with fail
      have hd1 : Below wr.heap.size wr wr.drew := (Below.refl _ _).drew
      have CA := hA.later hd1
      have CO := hO.later hd1
      have CR := hR.later hd1
      have CW : Hid (Below w.heap.size w wr.drew) := hW.drew
      have C : wr.drew.cell? ⟨w.heap.size, 0, none⟩ = some (.int .u64 a0) ∧ wr.drew.cell? ⟨w.heap.size, 1, none⟩ = some (.int .u64 a1) ∧ wr.drew.cell? ⟨w.heap.size, 2, none⟩ = some (.int .u64 a2) := ⟨CA.c0, CA.c1, CA.c2⟩
      have CC0 := CO.c0
      have CC1 := CO.c1
      have CC2 := CO.c2
      have CF0 := CO.f0
      have CF1 := CO.f1
      have CF2 := CO.f2
      clear hd1 hA hR hO hW
      go_region_held3 (fun w' => w'.cell? ⟨w.heap.size, 0, none⟩ = some (.int .u64 a0) ∧ w'.cell? ⟨w.heap.size, 1, none⟩ = some (.int .u64 a1) ∧ w'.cell? ⟨w.heap.size, 2, none⟩ = some (.int .u64 a2)) (first | exact C | exact ⟨cell_set (by dsimp only; omega) C.1, cell_set (by dsimp only; omega) C.2.1, cell_set (by dsimp only; omega) C.2.2⟩) (first
        | (go_at_call 85; refine (AT.out _ _ (by omega) (by omega)).mono ?_; rintro e wz ⟨rfl, hb⟩; replace C := c3_later C hb; replace CC0 := cell_later hb CC0; replace CC1 := cell_later hb CC1; replace CC2 := cell_later hb CC2; replace CF0 := frozen_later hb CO.c0 CF0; replace CF1 := frozen_later hb CO.c1 CF1; replace CF2 := frozen_later hb CO.c2 CF2; replace CA := CA.later hb; replace CO := CO.later hb; replace CR := CR.later hb; replace CW := hidD CW hb; clear hb))
      have N := CO.set0 (.int .u64 (bits .or .u64 (wd v q / 2 ^ r) (IntKind.u64.wrap (wd v (q + 1) * 2 ^ (64 - r)))))
      have N2 := CA.far (p := ⟨w.heap.size + 2, 0, none⟩) (.int .u64 (bits .or .u64 (wd v q / 2 ^ r) (IntKind.u64.wrap (wd v (q + 1) * 2 ^ (64 - r))))) (by dsimp only; omega)
      have N3 := CR.far (p := ⟨w.heap.size + 2, 0, none⟩) (.int .u64 (bits .or .u64 (wd v q / 2 ^ r) (IntKind.u64.wrap (wd v (q + 1) * 2 ^ (64 - r))))) (by dsimp only; omega)
      have NW : Below w.heap.size w (wz.setCell ⟨w.heap.size + 2, 0, none⟩ (.int .u64 (bits .or .u64 (wd v q / 2 ^ r) (IntKind.u64.wrap (wd v (q + 1) * 2 ^ (64 - r)))))) := CW.out.setCell (by dsimp only; omega) _
      clear CO CA CR CW C CC0 CC1 CC2 CF0 CF1 CF2
      go_wp2
      go_roundw
      case rel => exact ⟨_, _, _, N2, N3, N, NW, .inr (.inl ⟨rfl, H0.out⟩)⟩
      case measure => simp [intOf]
    · have k0 : IntKind.i64.wrap (1 + (q : Int)) = 1 + (q : Int) := by rw [IntKind.wrap_i64]; omega
      have k1 : IntKind.i64.wrap (1 + (q : Int) + 1) = 1 + (q : Int) + 1 := by rw [IntKind.wrap_i64]; omega
      have kk : (1 + (q : Int)).toNat = 1 + q := by omega
      have kk2 : (1 + (q : Int) + 1).toNat = 1 + q + 1 := by omega
      have k2 : IntKind.i64.wrap (64 - (r : Int)) = 64 - (r : Int) := by rw [IntKind.wrap_i64]; omega
      have k3 : (0 : Int) ≤ 64 - (r : Int) := by omega
      have HX : Hid (x0 = lo (v / 2 ^ n)) := hx0
      clear hx0
      go_upto_region 6 with fail
      have hd1 : Below wr.heap.size wr wr.drew := (Below.refl _ _).drew
      have CA := hA.later hd1
      have CO := hO.later hd1
      have CR := hR.later hd1
      have CW : Hid (Below w.heap.size w wr.drew) := hW.drew
      have C : wr.drew.cell? ⟨w.heap.size, 0, none⟩ = some (.int .u64 a0) ∧ wr.drew.cell? ⟨w.heap.size, 1, none⟩ = some (.int .u64 a1) ∧ wr.drew.cell? ⟨w.heap.size, 2, none⟩ = some (.int .u64 a2) := ⟨CA.c0, CA.c1, CA.c2⟩
      have CC0 := CO.c0
      have CC1 := CO.c1
      have CC2 := CO.c2
      have CF0 := CO.f0
      have CF1 := CO.f1
      have CF2 := CO.f2
      clear hd1 hA hR hO hW
      go_region_held3 (fun w' => w'.cell? ⟨w.heap.size, 0, none⟩ = some (.int .u64 a0) ∧ w'.cell? ⟨w.heap.size, 1, none⟩ = some (.int .u64 a1) ∧ w'.cell? ⟨w.heap.size, 2, none⟩ = some (.int .u64 a2)) (first | exact C | exact ⟨cell_set (by dsimp only; omega) C.1, cell_set (by dsimp only; omega) C.2.1, cell_set (by dsimp only; omega) C.2.2⟩) (first
        | (go_at_call 85; refine (AT.out _ _ (by omega) (by omega)).mono ?_; rintro e wz ⟨rfl, hb⟩; replace C := c3_later C hb; replace CC0 := cell_later hb CC0; replace CC1 := cell_later hb CC1; replace CC2 := cell_later hb CC2; replace CF0 := frozen_later hb CO.c0 CF0; replace CF1 := frozen_later hb CO.c1 CF1; replace CF2 := frozen_later hb CO.c2 CF2; replace CA := CA.later hb; replace CO := CO.later hb; replace CR := CR.later hb; replace CW := hidD CW hb; clear hb))
      have N := CO.set1 (.int .u64 (bits .or .u64 (wd v (1 + q) / 2 ^ r) (IntKind.u64.wrap (wd v (1 + q + 1) * 2 ^ (64 - r)))))
      have N2 := CA.far (p := ⟨w.heap.size + 2, 1, none⟩) (.int .u64 (bits .or .u64 (wd v (1 + q) / 2 ^ r) (IntKind.u64.wrap (wd v (1 + q + 1) * 2 ^ (64 - r))))) (by dsimp only; omega)
      have N3 := CR.far (p := ⟨w.heap.size + 2, 1, none⟩) (.int .u64 (bits .or .u64 (wd v (1 + q) / 2 ^ r) (IntKind.u64.wrap (wd v (1 + q + 1) * 2 ^ (64 - r))))) (by dsimp only; omega)
      have NW : Below w.heap.size w (wz.setCell ⟨w.heap.size + 2, 1, none⟩ (.int .u64 (bits .or .u64 (wd v (1 + q) / 2 ^ r) (IntKind.u64.wrap (wd v (1 + q + 1) * 2 ^ (64 - r)))))) := CW.out.setCell (by dsimp only; omega) _
      clear CO CA CR CW C CC0 CC1 CC2 CF0 CF1 CF2
      go_wp2
      go_roundw
      case rel => exact ⟨_, _, _, N2, N3, N, NW, .inr (.inr (.inl ⟨rfl, HX.out, H1.out⟩))⟩
      case measure => simp [intOf]
    · have k0 : IntKind.i64.wrap (2 + (q : Int)) = 2 + (q : Int) := by rw [IntKind.wrap_i64]; omega
      have k1 : IntKind.i64.wrap (2 + (q : Int) + 1) = 2 + (q : Int) + 1 := by rw [IntKind.wrap_i64]; omega
      have kk : (2 + (q : Int)).toNat = 2 + q := by omega
      have kk2 : (2 + (q : Int) + 1).toNat = 2 + q + 1 := by omega
      have k2 : IntKind.i64.wrap (64 - (r : Int)) = 64 - (r : Int) := by rw [IntKind.wrap_i64]; omega
      have k3 : (0 : Int) ≤ 64 - (r : Int) := by omega
      have HX : Hid (x0 = lo (v / 2 ^ n) ∧ x1 = m3 (v / 2 ^ n)) := ⟨hx0, hx1⟩
      clear hx0 hx1
      go_upto_region 6 with fail
      have hd1 : Below wr.heap.size wr wr.drew := (Below.refl _ _).drew
      have CA := hA.later hd1
      have CO := hO.later hd1
      have CR := hR.later hd1
      have CW : Hid (Below w.heap.size w wr.drew) := hW.drew
      have C : wr.drew.cell? ⟨w.heap.size, 0, none⟩ = some (.int .u64 a0) ∧ wr.drew.cell? ⟨w.heap.size, 1, none⟩ = some (.int .u64 a1) ∧ wr.drew.cell? ⟨w.heap.size, 2, none⟩ = some (.int .u64 a2) := ⟨CA.c0, CA.c1, CA.c2⟩
      have CC0 := CO.c0
      have CC1 := CO.c1
      have CC2 := CO.c2
      have CF0 := CO.f0
      have CF1 := CO.f1
      have CF2 := CO.f2
      clear hd1 hA hR hO hW
      go_region_held3 (fun w' => w'.cell? ⟨w.heap.size, 0, none⟩ = some (.int .u64 a0) ∧ w'.cell? ⟨w.heap.size, 1, none⟩ = some (.int .u64 a1) ∧ w'.cell? ⟨w.heap.size, 2, none⟩ = some (.int .u64 a2)) (first | exact C | exact ⟨cell_set (by dsimp only; omega) C.1, cell_set (by dsimp only; omega) C.2.1, cell_set (by dsimp only; omega) C.2.2⟩) (first
        | (go_at_call 85; refine (AT.out _ _ (by omega) (by omega)).mono ?_; rintro e wz ⟨rfl, hb⟩; replace C := c3_later C hb; replace CC0 := cell_later hb CC0; replace CC1 := cell_later hb CC1; replace CC2 := cell_later hb CC2; replace CF0 := frozen_later hb CO.c0 CF0; replace CF1 := frozen_later hb CO.c1 CF1; replace CF2 := frozen_later hb CO.c2 CF2; replace CA := CA.later hb; replace CO := CO.later hb; replace CR := CR.later hb; replace CW := hidD CW hb; clear hb))
      have N := CO.set2 (.int .u64 (bits .or .u64 (wd v (2 + q) / 2 ^ r) (IntKind.u64.wrap (wd v (2 + q + 1) * 2 ^ (64 - r)))))
      have N2 := CA.far (p := ⟨w.heap.size + 2, 2, none⟩) (.int .u64 (bits .or .u64 (wd v (2 + q) / 2 ^ r) (IntKind.u64.wrap (wd v (2 + q + 1) * 2 ^ (64 - r))))) (by dsimp only; omega)
      have N3 := CR.far (p := ⟨w.heap.size + 2, 2, none⟩) (.int .u64 (bits .or .u64 (wd v (2 + q) / 2 ^ r) (IntKind.u64.wrap (wd v (2 + q + 1) * 2 ^ (64 - r))))) (by dsimp only; omega)
      have NW : Below w.heap.size w (wz.setCell ⟨w.heap.size + 2, 2, none⟩ (.int .u64 (bits .or .u64 (wd v (2 + q) / 2 ^ r) (IntKind.u64.wrap (wd v (2 + q + 1) * 2 ^ (64 - r)))))) := CW.out.setCell (by dsimp only; omega) _
      clear CO CA CR CW C CC0 CC1 CC2 CF0 CF1 CF2
      go_wp2
      go_roundw
      case rel => exact ⟨_, _, _, N2, N3, N, NW, .inr (.inr (.inr ⟨rfl, HX.out.1, HX.out.2, H2.out⟩))⟩
      case measure => simp [intOf]
    · subst hx0 hx1 hx2
      have q0 := hO.c0
      have q1 := hO.c1
      have q2 := hO.c2
      have r0 := hR.c0
      have r1 := hR.c1
      have r2 := hR.c2
      have s0 := hR.f0
      have s1 := hR.f1
      have s2 := hR.f2
      go_wp2
      exact bodyPost_ret (v := .agg #[.int .u64 (lo (v / 2 ^ n)), .int .u64 (m3 (v / 2 ^ n)), .int .u64 (u3 (v / 2 ^ n))]) (by simp [results, Tryd.results77, go_sem, r0, r1, r2]) rfl ⟨rfl, ((hW.setCell (by dsimp only; omega) _).setCell (by dsimp only; omega) _).setCell (by dsimp only; omega) _⟩
end Go.Proofs.YtpmlpcejmndidabDoor
