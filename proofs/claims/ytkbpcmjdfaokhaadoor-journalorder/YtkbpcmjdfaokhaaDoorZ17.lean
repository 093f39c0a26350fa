/-
  The document's blocks of a record (regattaref17).
-/
import Derived.Test.YtkbpcmjdfaokhaaDoorZ14
import Derived.Test.YtkbpcmjdfaokhaaDoorZ16

set_option linter.unusedVariables false
set_option linter.unusedSimpArgs false
namespace Go.Proofs.YtkbpcmjdfaokhaaDoor
open Go.RowKit

set_option maxRecDepth 100000 in
set_option maxHeartbeats 2000000 in
theorem refParts (n : Nat) (hn : n ≤ 1000000) (w : World) :
    Calls Tryd.prog 49 #[.int .i64 (n : Int)] w fun e w' => e = .returned (.int .i64 ((prt n : Nat) : Int)) ∧ w' = w := by
  obtain ⟨P, hP⟩ : ∃ P, prt n = P := ⟨_, rfl⟩
  have HP : Hid (prt n = P) := hP
  have h1 : 1 ≤ P := by rw [← hP]; exact prt_pos n
  have h2 : P ≤ n + 1 := by rw [← hP]; exact prt_le n
  rw [hP]
  clear hP
  go_enter Tryd.func49, Tryd.ntmps49
  go_upto_region 2 with fail
  go_loopw [3] (fun s3 wr => ∃ j : Nat, j ≤ P ∧ 1 ≤ j ∧ s3 = .int .i64 (j : Int) ∧ wr = w) (fun s3 _ => P - (intOf s3).toNat)
  case atStart => exact ⟨1, h1, Nat.le_refl _, rfl, rfl⟩
  case round =>
    obtain ⟨j, hj, hj1, rfl, hwr⟩ := hrel
    have hwr := hwr.symm
    subst hwr
    obtain ⟨y, hy⟩ : ∃ y, j * 104 = y := ⟨_, rfl⟩
    have y1 : (j : Int) * 104 = (y : Int) := by omega
    have y2 : IntKind.i64.wrap (y : Int) = (y : Int) := by rw [IntKind.wrap_i64]; omega
    by_cases hlt : y < n
    · have hI : (y : Int) < (n : Int) := by omega
      have hjP : j < P := by have := HP.out; unfold prt at this; omega
      have y3 : IntKind.i64.wrap ((j : Int) + 1) = ((j + 1 : Nat) : Int) := by rw [IntKind.wrap_i64]; omega
      go_wp2
      go_roundw
      case rel => exact ⟨j + 1, by omega, by omega, by first | rfl | go_num, by trivial⟩
      case measure => simp only [intOf]; omega
    · have hI : ¬ (y : Int) < (n : Int) := by omega
      have hjP : j = P := by have := HP.out; unfold prt at this; omega
      subst hjP
      go_wp2
      go_ret
      exact ⟨rfl, by trivial⟩
/-- The bytes of a part, one by one. -/
def jby (r : List Nat) (lo t : Nat) : List Nat := (List.range t).map fun u => r.getD (lo + u) 0
theorem jby_next (r : List Nat) (lo t : Nat) : jby r lo (t + 1) = jby r lo t ++ [r.getD (lo + t) 0] := by
  unfold jby
  rw [List.range_succ, List.map_append]
  rfl
theorem jby_len (r : List Nat) (lo t : Nat) : (jby r lo t).length = t := by simp [jby]
theorem jby_all (r : List Nat) (i : Nat) : jby r (i * 104) 104 = jck r i := by
  apply List.ext_getElem
  · rw [jby_len, jck_len]
  · intro k h1 h2
    rw [jby_len] at h1
    have e1 : (jby r (i * 104) 104)[k] = r.getD (i * 104 + k) 0 := by simp [jby]
    have hL : jck r i = jcd r i ++ List.replicate (104 - (jcd r i).length) 0 := rfl
    simp only [hL]
    refine e1.trans ?_
    by_cases q : k < (jcd r i).length
    · rw [List.getElem_append_left q]
      have q2 : i * 104 + k < r.length := by unfold jcd at q; rw [List.length_take, List.length_drop] at q; omega
      simp [List.getD, q2, jcd]
    · rw [List.getElem_append_right (by omega), List.getElem_replicate]
      have q2 : r.length ≤ i * 104 + k := by unfold jcd at q; rw [List.length_take, List.length_drop] at q; omega
      simp [List.getD, List.getElem?_eq_none q2]
theorem Ob.sn {b : Nat} {w : World} {v : Value} {l : List Nat} (h : Ob b w v l) (n : Nat) (hn : l.length = n) : ∃ a c, v = .slice a n c := by
  obtain ⟨a, c, rfl⟩ := h.sl
  exact ⟨a, c, by rw [hn]⟩
set_option maxRecDepth 100000 in
set_option maxHeartbeats 8000000 in
theorem refBlock (v : Value) (r : List Nat) (i n gen : Nat) (hb : ∀ c ∈ r, c < 256) (hl : r.length ≤ 1000000) (hi : i ≤ 100000) (hn : n < 9223372036854775808) (hg : gen < 9223372036854775808) (w : World) (h : Bs w v r) :
    Calls Tryd.prog 50 #[v, .int .i64 (i : Int), .int .i64 (n : Int), .int .i64 (gen : Int)] w fun e w' => ∃ v', e = .returned v' ∧ Bs w' v' (jblk r i n gen) ∧ Ow w.heap.size v' ∧ Below w.heap.size w w' := by
  have HL : Hid (Bs w v r ∧ ∀ c ∈ r, c < 256) := ⟨h, hb⟩
  obtain ⟨ad, cap, rfl, k1, k2⟩ := h.len
  unfold maxLen at k2
  obtain ⟨m, hm⟩ : ∃ m, r.length = m := ⟨_, rfl⟩
  have HM : Hid (r.length = m) := hm
  rw [hm] at k1 hl HL ⊢
  clear h hb hm
  obtain ⟨lo, hlo⟩ : ∃ lo, i * 104 = lo := ⟨_, rfl⟩
  have y1 : (i : Int) * 104 = (lo : Int) := by omega
  have y2 : IntKind.i64.wrap (lo : Int) = (lo : Int) := by rw [IntKind.wrap_i64]; omega
  obtain ⟨hi', hhi⟩ : ∃ x, lo + 104 = x := ⟨_, rfl⟩
  have y3 : (lo : Int) + 104 = (hi' : Int) := by omega
  have y4 : IntKind.i64.wrap (hi' : Int) = (hi' : Int) := by rw [IntKind.wrap_i64]; omega
  have HE : Hid (jblk r i n gen = jby r lo 104 ++ (enN m 4 ++ (enN (prt m) 2 ++ (enN i 2 ++ (enN n 8 ++ enN gen 8))))) := by
    show _ = _
    unfold jblk jtl
    rw [← hlo, jby_all, HM.out]
  have HL4 : Hid (∀ a b, (enN a b).length = b) := enN_len
  have HLb : Hid (∀ t, (jby r lo t).length = t) := jby_len r lo
  have HNx : Hid (∀ t, jby r lo (t + 1) = jby r lo t ++ [r.getD (lo + t) 0]) := jby_next r lo
  have w1 : IntKind.u64.wrap (m : Int) = (m : Int) := by rw [IntKind.wrap_u64]; omega
  have w3 : IntKind.u64.wrap (i : Int) = (i : Int) := by rw [IntKind.wrap_u64]; omega
  have w4 : IntKind.u64.wrap (n : Int) = (n : Int) := by rw [IntKind.wrap_u64]; omega
  have w5 : IntKind.u64.wrap (gen : Int) = (gen : Int) := by rw [IntKind.wrap_u64]; omega
  have hpm := prt_le m
  clear hlo
  go_enter Tryd.func50, Tryd.ntmps50
  go_upto_region 3 with fail
  go_loopw [9, 10] (fun s9 s10 wr => ∃ t : Nat, t ≤ 104 ∧ s10 = .int .i64 ((lo + t : Nat) : Int) ∧ Hid (Ob w.heap.size wr s9 (jby r lo t) ∧ Below w.heap.size w wr)) (fun _ s10 _ => hi' - (intOf s10).toNat)
  case atStart => exact ⟨0, by omega, rfl, ob_nil _ _, Below.refl _ _⟩
  case round =>
    obtain ⟨t, ht, rfl, HO⟩ := hrel
    obtain ⟨a9, c9, rfl⟩ := HO.out.1.sl
    obtain ⟨k, hk⟩ : ∃ k, lo + t = k := ⟨_, rfl⟩
    rw [HLb.out, hk]
    by_cases hlt : t < 104
    · have hkI : (k : Int) < (hi' : Int) := by omega
      have k0 : (0 : Int) ≤ (k : Int) := by omega
      have k3 : IntKind.i64.wrap ((k : Int) + 1) = ((k + 1 : Nat) : Int) := by rw [IntKind.wrap_i64]; omega
      have HOt : Hid (Ob w.heap.size wr (.slice a9 t c9) (jby r lo t)) := by have := HO.out.1; rw [HLb.out] at this; exact this
      by_cases hin : k < m
      · have hinI : (k : Int) < (m : Int) := by omega
        have hM := HM.out
        obtain ⟨b, o, rfl, ca⟩ := HL.out.1.cel k (by omega)
        have x0 := cell_later HO.out.2 ca
        obtain ⟨x, hx⟩ : ∃ x, r.getD k 0 = x := ⟨_, rfl⟩
        have HN1 : Hid (jby r lo (t + 1) = jby r lo t ++ [x]) := by show _ = _; rw [HNx.out, hk, hx]
        rw [hx] at x0
        clear ca hM hx
        have HS1 : Hid (Bs (wr.alloc (.cells #[.int .u8 (x : Int)] 5)) (.slice (some ⟨wr.heap.size, 0, none⟩) 1 1) [x]) := bs_one wr x _
        go_wp2_with (at_builtin; refine apB rfl _ _ rfl w.heap.size _ (jby r lo t) rfl (HOt.out.later (bel1 _ _)) _ [x] rfl HS1.out (by have := HLb.out t; simp; omega) (by rw [World.size_alloc]; have := HO.out.2.size; omega) ?_; intro v2 w2 hO2 hg2; have HO2 : Hid (Ob w.heap.size w2 v2 (jby r lo (t + 1)) ∧ Below w.heap.size w w2) := ⟨by rw [HN1.out]; exact hO2, hg2.1 _ (HO.out.2.alloc HO.out.2.size _)⟩; clear hO2 hg2)
        go_roundw
        case rel => exact ⟨t + 1, by omega, by first | rfl | (congr 2; omega) | go_num, HO2⟩
        case measure => simp only [intOf]; omega
      · have hinI : ¬ (k : Int) < (m : Int) := by omega
        have HN1 : Hid (jby r lo (t + 1) = jby r lo t ++ [0]) := by
          show _ = _
          rw [HNx.out, hk]
          have : r.getD k 0 = 0 := by simp [List.getD, List.getElem?_eq_none (l := r) (i := k) (by have := HM.out; omega)]
          rw [this]
        have HS1 : Hid (Bs (wr.alloc (.cells #[.int .u8 0] 5)) (.slice (some ⟨wr.heap.size, 0, none⟩) 1 1) [0]) := bs_one wr 0 _
        go_wp2_with (at_builtin; refine apB rfl _ _ rfl w.heap.size _ (jby r lo t) rfl (HOt.out.later (bel1 _ _)) _ [0] rfl HS1.out (by have := HLb.out t; simp; omega) (by rw [World.size_alloc]; have := HO.out.2.size; omega) ?_; intro v2 w2 hO2 hg2; have HO2 : Hid (Ob w.heap.size w2 v2 (jby r lo (t + 1)) ∧ Below w.heap.size w w2) := ⟨by rw [HN1.out]; exact hO2, hg2.1 _ (HO.out.2.alloc HO.out.2.size _)⟩; clear hO2 hg2)
        go_roundw
        case rel => exact ⟨t + 1, by omega, by first | rfl | (congr 2; omega) | go_num, HO2⟩
        case measure => simp only [intOf]; omega
    · obtain rfl : t = 104 := by omega
      have hkI : ¬ (k : Int) < (hi' : Int) := by omega
      have H0 : Hid (Ob w.heap.size wr (.slice a9 104 c9) (jby r lo 104) ∧ Below w.heap.size w wr) := by have := HO.out; rw [HLb.out] at this; exact this
      clear HO HNx
      generalize hD : jby r lo 104 = D at *
      have HDl : Hid (D.length = 104) := by show _ = _; rw [← hD]; exact HLb.out 104
      clear hD HLb
      go_wp2_with fail
      refine (refPut m 4 (by omega) (by omega) wr).mono ?_
      rintro e u1 ⟨v1, rfl, hO, hB⟩
      have H1 : Hid (Ob w.heap.size u1 (.slice a9 104 c9) D ∧ Bs u1 v1 (enN m 4) ∧ Below w.heap.size w u1) := ⟨H0.out.1.later hB, hO.bs.1, bchain H0.out.2 hB⟩
      obtain ⟨a1, c1, rfl⟩ := hO.sn 4 (enN_len _ _)
      clear hO hB H0
      go_upto_region 9 with (at_builtin; refine apB rfl _ _ rfl w.heap.size _ D rfl H1.out.1 _ (enN m 4) rfl H1.out.2.1 (by have := HDl.out; simp [enN_len]; omega) H1.out.2.2.size ?_; intro v2 u2 hO2 hg2; have H2 : Hid (Ob w.heap.size u2 v2 (D ++ enN m 4) ∧ Below w.heap.size w u2) := ⟨hO2, hg2.1 _ H1.out.2.2⟩; obtain ⟨a2, c2, rfl⟩ := hO2.sn 108 (by have := HDl.out; simp [enN_len]; omega); clear hO2 hg2)
      clear H1
      go_wp2_with fail
      refine (refParts m (by omega) u2).mono ?_
      rintro e ux ⟨rfl, hux⟩
      have hux := hux.symm
      subst hux
      obtain ⟨P, hP⟩ : ∃ P, prt m = P := ⟨_, rfl⟩
      rw [hP] at HE hpm ⊢
      have w2 : IntKind.u64.wrap (P : Int) = (P : Int) := by rw [IntKind.wrap_u64]; omega
      clear hP
      go_wp2_with fail
      refine (refPut P 2 (by omega) (by omega) u2).mono ?_
      rintro e u3 ⟨v3, rfl, hO, hB⟩
      have H3 : Hid (Ob w.heap.size u3 (.slice a2 108 c2) (D ++ enN m 4) ∧ Bs u3 v3 (enN P 2) ∧ Below w.heap.size w u3) := ⟨H2.out.1.later hB, hO.bs.1, bchain H2.out.2 hB⟩
      obtain ⟨a3, c3, rfl⟩ := hO.sn 2 (enN_len _ _)
      clear hO hB H2
      go_upto_region 10 with (at_builtin; refine apB rfl _ _ rfl w.heap.size _ (D ++ enN m 4) rfl H3.out.1 _ (enN P 2) rfl H3.out.2.1 (by have := HDl.out; simp [enN_len]; omega) H3.out.2.2.size ?_; intro v4 u4 hO4 hg4; have H4 : Hid (Ob w.heap.size u4 v4 (D ++ enN m 4 ++ enN P 2) ∧ Below w.heap.size w u4) := ⟨hO4, hg4.1 _ H3.out.2.2⟩; obtain ⟨a4, c4, rfl⟩ := hO4.sn 110 (by have := HDl.out; simp [enN_len]; omega); clear hO4 hg4)
      clear H3
      go_wp2_with fail
      refine (refPut i 2 (by omega) (by omega) u4).mono ?_
      rintro e u5 ⟨v5, rfl, hO, hB⟩
      have H5 : Hid (Ob w.heap.size u5 (.slice a4 110 c4) (D ++ enN m 4 ++ enN P 2) ∧ Bs u5 v5 (enN i 2) ∧ Below w.heap.size w u5) := ⟨H4.out.1.later hB, hO.bs.1, bchain H4.out.2 hB⟩
      obtain ⟨a5, c5, rfl⟩ := hO.sn 2 (enN_len _ _)
      clear hO hB H4
      go_upto_region 11 with (at_builtin; refine apB rfl _ _ rfl w.heap.size _ (D ++ enN m 4 ++ enN P 2) rfl H5.out.1 _ (enN i 2) rfl H5.out.2.1 (by have := HDl.out; simp [enN_len]; omega) H5.out.2.2.size ?_; intro v6 u6 hO6 hg6; have H6 : Hid (Ob w.heap.size u6 v6 (D ++ enN m 4 ++ enN P 2 ++ enN i 2) ∧ Below w.heap.size w u6) := ⟨hO6, hg6.1 _ H5.out.2.2⟩; obtain ⟨a6, c6, rfl⟩ := hO6.sn 112 (by have := HDl.out; simp [enN_len]; omega); clear hO6 hg6)
      clear H5
      go_wp2_with fail
      refine (refPut n 8 (by omega) (by omega) u6).mono ?_
      rintro e u7 ⟨v7, rfl, hO, hB⟩
      have H7 : Hid (Ob w.heap.size u7 (.slice a6 112 c6) (D ++ enN m 4 ++ enN P 2 ++ enN i 2) ∧ Bs u7 v7 (enN n 8) ∧ Below w.heap.size w u7) := ⟨H6.out.1.later hB, hO.bs.1, bchain H6.out.2 hB⟩
      obtain ⟨a7, c7, rfl⟩ := hO.sn 8 (enN_len _ _)
      clear hO hB H6
      go_upto_region 12 with (at_builtin; refine apB rfl _ _ rfl w.heap.size _ (D ++ enN m 4 ++ enN P 2 ++ enN i 2) rfl H7.out.1 _ (enN n 8) rfl H7.out.2.1 (by have := HDl.out; simp [enN_len]; omega) H7.out.2.2.size ?_; intro v8 u8 hO8 hg8; have H8 : Hid (Ob w.heap.size u8 v8 (D ++ enN m 4 ++ enN P 2 ++ enN i 2 ++ enN n 8) ∧ Below w.heap.size w u8) := ⟨hO8, hg8.1 _ H7.out.2.2⟩; obtain ⟨a8, c8, rfl⟩ := hO8.sn 120 (by have := HDl.out; simp [enN_len]; omega); clear hO8 hg8)
      clear H7
      go_wp2_with fail
      refine (refPut gen 8 (by omega) (by omega) u8).mono ?_
      rintro e u9 ⟨v9, rfl, hO, hB⟩
      have H9 : Hid (Ob w.heap.size u9 (.slice a8 120 c8) (D ++ enN m 4 ++ enN P 2 ++ enN i 2 ++ enN n 8) ∧ Bs u9 v9 (enN gen 8) ∧ Below w.heap.size w u9) := ⟨H8.out.1.later hB, hO.bs.1, bchain H8.out.2 hB⟩
      obtain ⟨a9, c9, rfl⟩ := hO.sn 8 (enN_len _ _)
      clear hO hB H8
      go_wp2_with (at_builtin; refine apB rfl _ _ rfl w.heap.size _ (D ++ enN m 4 ++ enN P 2 ++ enN i 2 ++ enN n 8) rfl H9.out.1 _ (enN gen 8) rfl H9.out.2.1 (by have := HDl.out; simp [enN_len]; omega) H9.out.2.2.size ?_; intro v10 u10 hO10 hg10; have H10 : Hid (Ob w.heap.size u10 v10 (jblk r i n gen) ∧ Below w.heap.size w u10) := ⟨by rw [HE.out, ← List.append_assoc, ← List.append_assoc, ← List.append_assoc, ← List.append_assoc]; exact hO10, hg10.1 _ H9.out.2.2⟩; obtain ⟨a10, c10, rfl⟩ := H10.out.1.sl; clear hO10 hg10)
      go_ret
      exact ⟨_, rfl, H10.out.1.bs.1, H10.out.1.bs.2, H10.out.2⟩
end Go.Proofs.YtkbpcmjdfaokhaaDoor
