/-
  Texts of this proof, joined: JnRefA JnRefB.
-/
import Derived.Test.YthnpdcblfocemaaGreatDoorSP08
import Derived.Test.YthnpdcblfocemaaGreatDoorSP09
import Derived.Deep.DeepCutAuto
import Derived.BigQuiet
set_option linter.unusedVariables false
set_option linter.unusedSimpArgs false
namespace Go.Proofs.YthnpdcblfocemaaGreatDoor
open Go.RowKit

set_option maxRecDepth 100000 in
set_option maxHeartbeats 2000000 in
theorem refParts (n : Nat) (hn : n ≤ 1000000) (w : World) :
    Calls Tryz.prog 54 #[.int .i64 (n : Int)] w fun e w' => e = .returned (.int .i64 ((prt n : Nat) : Int)) ∧ w' = w := by
  obtain ⟨P, hP⟩ : ∃ P, prt n = P := ⟨_, rfl⟩
  have HP : Hid (prt n = P) := hP
  have h1 : 1 ≤ P := by rw [← hP]; exact prt_pos n
  have h2 : P ≤ n + 1 := by rw [← hP]; exact prt_le n
  rw [hP]
  clear hP
  go_enter Tryz.func54, Tryz.ntmps54
  go_upto_region 2 with fail
  go_loopw [3] (fun s3 wr => ∃ j : Nat, j ≤ P ∧ 1 ≤ j ∧ s3 = .int .i64 (j : Int) ∧ wr = w) (fun s3 _ => P - (intOf s3).toNat)
  case atStart => exact ⟨1, h1, Nat.le_refl _, rfl, rfl⟩
  case round =>
    obtain ⟨j, hj, hj1, rfl, hwr⟩ := hrel
    have hwr := hwr.symm
    subst hwr
    obtain ⟨y, hy⟩ : ∃ y, j * 104 = y := ⟨_, rfl⟩
    have y1 : (j : Int) * 104 = (y : Int) := by omega
    have y2 : IntKind.i64.wrap (y : Int) = (y : Int) := by rw [IntKind.wrap_i64]; omega
    by_cases hlt : y < n
    · have hI : (y : Int) < (n : Int) := by omega
      have hjP : j < P := by have := HP.out; unfold prt at this; omega
      have y3 : IntKind.i64.wrap ((j : Int) + 1) = ((j + 1 : Nat) : Int) := by rw [IntKind.wrap_i64]; omega
      go_wp2
      go_roundw
      case rel => exact ⟨j + 1, by omega, by omega, by first | rfl | go_num, by trivial⟩
      case measure => simp only [intOf]; omega
    · have hI : ¬ (y : Int) < (n : Int) := by omega
      have hjP : j = P := by have := HP.out; unfold prt at this; omega
      subst hjP
      go_wp2
      go_ret
      exact ⟨rfl, by trivial⟩
def jby (r : List Nat) (lo t : Nat) : List Nat := (List.range t).map fun u => r.getD (lo + u) 0
theorem jby_next (r : List Nat) (lo t : Nat) : jby r lo (t + 1) = jby r lo t ++ [r.getD (lo + t) 0] := by
  unfold jby
  rw [List.range_succ, List.map_append]
  rfl
theorem jby_len (r : List Nat) (lo t : Nat) : (jby r lo t).length = t := by simp [jby]
theorem jby_all (r : List Nat) (i : Nat) : jby r (i * 104) 104 = jck r i := by
  apply List.ext_getElem
  · rw [jby_len, jck_len]
  · intro k h1 h2
    rw [jby_len] at h1
    have e1 : (jby r (i * 104) 104)[k] = r.getD (i * 104 + k) 0 := by simp [jby]
    have hL : jck r i = jcd r i ++ List.replicate (104 - (jcd r i).length) 0 := rfl
    simp only [hL]
    refine e1.trans ?_
    by_cases q : k < (jcd r i).length
    · rw [List.getElem_append_left q]
      have q2 : i * 104 + k < r.length := by unfold jcd at q; rw [List.length_take, List.length_drop] at q; omega
      simp [List.getD, q2, jcd]
    · rw [List.getElem_append_right (by omega), List.getElem_replicate]
      have q2 : r.length ≤ i * 104 + k := by unfold jcd at q; rw [List.length_take, List.length_drop] at q; omega
      simp [List.getD, List.getElem?_eq_none q2]
theorem Ob.sn {b : Nat} {w : World} {v : Value} {l : List Nat} (h : Ob b w v l) (n : Nat) (hn : l.length = n) : ∃ a c, v = .slice a n c := by
  obtain ⟨a, c, rfl⟩ := h.sl
  exact ⟨a, c, by rw [hn]⟩
set_option maxRecDepth 100000 in
set_option maxHeartbeats 8000000 in
theorem refBlock (v : Value) (r : List Nat) (i n gen : Nat) (hb : ∀ c ∈ r, c < 256) (hl : r.length ≤ 1000000) (hi : i ≤ 100000) (hn : n < 9223372036854775808) (hg : gen < 9223372036854775808) (w : World) (h : Bs w v r) :
    Calls Tryz.prog 61 #[v, .int .i64 (i : Int), .int .i64 (n : Int), .int .i64 (gen : Int)] w fun e w' => ∃ v', e = .returned v' ∧ Bs w' v' (jblk r i n gen) ∧ Ow w.heap.size v' ∧ Below w.heap.size w w' := by
  have HL : Hid (Bs w v r ∧ ∀ c ∈ r, c < 256) := ⟨h, hb⟩
  obtain ⟨ad, cap, rfl, k1, k2⟩ := h.len
  unfold maxLen at k2
  obtain ⟨m, hm⟩ : ∃ m, r.length = m := ⟨_, rfl⟩
  have HM : Hid (r.length = m) := hm
  rw [hm] at k1 hl HL ⊢
  clear h hb hm
  obtain ⟨lo, hlo⟩ : ∃ lo, i * 104 = lo := ⟨_, rfl⟩
  have y1 : (i : Int) * 104 = (lo : Int) := by omega
  have y2 : IntKind.i64.wrap (lo : Int) = (lo : Int) := by rw [IntKind.wrap_i64]; omega
  obtain ⟨hi', hhi⟩ : ∃ x, lo + 104 = x := ⟨_, rfl⟩
  have y3 : (lo : Int) + 104 = (hi' : Int) := by omega
  have y4 : IntKind.i64.wrap (hi' : Int) = (hi' : Int) := by rw [IntKind.wrap_i64]; omega
  have HE : Hid (jblk r i n gen = jby r lo 104 ++ (enN m 4 ++ (enN (prt m) 2 ++ (enN i 2 ++ (enN n 8 ++ enN gen 8))))) := by
    show _ = _
    unfold jblk jtl
    rw [← hlo, jby_all, HM.out]
  have HL4 : Hid (∀ a b, (enN a b).length = b) := enN_len
  have HLb : Hid (∀ t, (jby r lo t).length = t) := jby_len r lo
  have HNx : Hid (∀ t, jby r lo (t + 1) = jby r lo t ++ [r.getD (lo + t) 0]) := jby_next r lo
  have w1 : IntKind.u64.wrap (m : Int) = (m : Int) := by rw [IntKind.wrap_u64]; omega
  have w3 : IntKind.u64.wrap (i : Int) = (i : Int) := by rw [IntKind.wrap_u64]; omega
  have w4 : IntKind.u64.wrap (n : Int) = (n : Int) := by rw [IntKind.wrap_u64]; omega
  have w5 : IntKind.u64.wrap (gen : Int) = (gen : Int) := by rw [IntKind.wrap_u64]; omega
  have hpm := prt_le m
  clear hlo
  go_enter Tryz.func61, Tryz.ntmps61
  go_upto_region 3 with fail
  go_loopw [9, 10] (fun s9 s10 wr => ∃ t : Nat, t ≤ 104 ∧ s10 = .int .i64 ((lo + t : Nat) : Int) ∧ Hid (Ob w.heap.size wr s9 (jby r lo t) ∧ Below w.heap.size w wr)) (fun _ s10 _ => hi' - (intOf s10).toNat)
  case atStart => exact ⟨0, by omega, rfl, ob_nil _ _, Below.refl _ _⟩
  case round =>
    obtain ⟨t, ht, rfl, HO⟩ := hrel
    obtain ⟨a9, c9, rfl⟩ := HO.out.1.sl
    obtain ⟨k, hk⟩ : ∃ k, lo + t = k := ⟨_, rfl⟩
    rw [HLb.out, hk]
    by_cases hlt : t < 104
    · have hkI : (k : Int) < (hi' : Int) := by omega
      have k0 : (0 : Int) ≤ (k : Int) := by omega
      have k3 : IntKind.i64.wrap ((k : Int) + 1) = ((k + 1 : Nat) : Int) := by rw [IntKind.wrap_i64]; omega
      have HOt : Hid (Ob w.heap.size wr (.slice a9 t c9) (jby r lo t)) := by have := HO.out.1; rw [HLb.out] at this; exact this
      by_cases hin : k < m
      · have hinI : (k : Int) < (m : Int) := by omega
        have hM := HM.out
        obtain ⟨b, o, rfl, ca⟩ := HL.out.1.cel k (by omega)
        have x0 := cell_later HO.out.2 ca
        obtain ⟨x, hx⟩ : ∃ x, r.getD k 0 = x := ⟨_, rfl⟩
        have HN1 : Hid (jby r lo (t + 1) = jby r lo t ++ [x]) := by show _ = _; rw [HNx.out, hk, hx]
        rw [hx] at x0
        clear ca hM hx
        have HS1 : Hid (Bs (wr.alloc (.cells #[.int .u8 (x : Int)] 5)) (.slice (some ⟨wr.heap.size, 0, none⟩) 1 1) [x]) := bs_one wr x _
        go_wp2_with (at_builtin; refine apB rfl _ _ rfl w.heap.size _ (jby r lo t) rfl (HOt.out.later (bel1 _ _)) _ [x] rfl HS1.out (by have := HLb.out t; simp; omega) (by rw [World.size_alloc]; have := HO.out.2.size; omega) ?_; intro v2 w2 hO2 hg2; have HO2 : Hid (Ob w.heap.size w2 v2 (jby r lo (t + 1)) ∧ Below w.heap.size w w2) := ⟨by rw [HN1.out]; exact hO2, hg2.1 _ (HO.out.2.alloc HO.out.2.size _)⟩; clear hO2 hg2)
        go_roundw
        case rel => exact ⟨t + 1, by omega, by first | rfl | (congr 2; omega) | go_num, HO2⟩
        case measure => simp only [intOf]; omega
      · have hinI : ¬ (k : Int) < (m : Int) := by omega
        have HN1 : Hid (jby r lo (t + 1) = jby r lo t ++ [0]) := by
          show _ = _
          rw [HNx.out, hk]
          have : r.getD k 0 = 0 := by simp [List.getD, List.getElem?_eq_none (l := r) (i := k) (by have := HM.out; omega)]
          rw [this]
        have HS1 : Hid (Bs (wr.alloc (.cells #[.int .u8 0] 5)) (.slice (some ⟨wr.heap.size, 0, none⟩) 1 1) [0]) := bs_one wr 0 _
        go_wp2_with (at_builtin; refine apB rfl _ _ rfl w.heap.size _ (jby r lo t) rfl (HOt.out.later (bel1 _ _)) _ [0] rfl HS1.out (by have := HLb.out t; simp; omega) (by rw [World.size_alloc]; have := HO.out.2.size; omega) ?_; intro v2 w2 hO2 hg2; have HO2 : Hid (Ob w.heap.size w2 v2 (jby r lo (t + 1)) ∧ Below w.heap.size w w2) := ⟨by rw [HN1.out]; exact hO2, hg2.1 _ (HO.out.2.alloc HO.out.2.size _)⟩; clear hO2 hg2)
        go_roundw
        case rel => exact ⟨t + 1, by omega, by first | rfl | (congr 2; omega) | go_num, HO2⟩
        case measure => simp only [intOf]; omega
    · obtain rfl : t = 104 := by omega
      have hkI : ¬ (k : Int) < (hi' : Int) := by omega
      have H0 : Hid (Ob w.heap.size wr (.slice a9 104 c9) (jby r lo 104) ∧ Below w.heap.size w wr) := by have := HO.out; rw [HLb.out] at this; exact this
      clear HO HNx
      generalize hD : jby r lo 104 = D at *
      have HDl : Hid (D.length = 104) := by show _ = _; rw [← hD]; exact HLb.out 104
      clear hD HLb
      go_wp2_with fail
      refine (refPut m 4 (by omega) (by omega) wr).mono ?_
      rintro e u1 ⟨v1, rfl, hO, hB⟩
      have H1 : Hid (Ob w.heap.size u1 (.slice a9 104 c9) D ∧ Bs u1 v1 (enN m 4) ∧ Below w.heap.size w u1) := ⟨H0.out.1.later hB, hO.bs.1, bchain H0.out.2 hB⟩
      obtain ⟨a1, c1, rfl⟩ := hO.sn 4 (enN_len _ _)
      clear hO hB H0
      go_upto_region 9 with (at_builtin; refine apB rfl _ _ rfl w.heap.size _ D rfl H1.out.1 _ (enN m 4) rfl H1.out.2.1 (by have := HDl.out; simp [enN_len]; omega) H1.out.2.2.size ?_; intro v2 u2 hO2 hg2; have H2 : Hid (Ob w.heap.size u2 v2 (D ++ enN m 4) ∧ Below w.heap.size w u2) := ⟨hO2, hg2.1 _ H1.out.2.2⟩; obtain ⟨a2, c2, rfl⟩ := hO2.sn 108 (by have := HDl.out; simp [enN_len]; omega); clear hO2 hg2)
      clear H1
      go_wp2_with fail
      refine (refParts m (by omega) u2).mono ?_
      rintro e ux ⟨rfl, hux⟩
      have hux := hux.symm
      subst hux
      obtain ⟨P, hP⟩ : ∃ P, prt m = P := ⟨_, rfl⟩
      rw [hP] at HE hpm ⊢
      have w2 : IntKind.u64.wrap (P : Int) = (P : Int) := by rw [IntKind.wrap_u64]; omega
      clear hP
      go_wp2_with fail
      refine (refPut P 2 (by omega) (by omega) u2).mono ?_
      rintro e u3 ⟨v3, rfl, hO, hB⟩
      have H3 : Hid (Ob w.heap.size u3 (.slice a2 108 c2) (D ++ enN m 4) ∧ Bs u3 v3 (enN P 2) ∧ Below w.heap.size w u3) := ⟨H2.out.1.later hB, hO.bs.1, bchain H2.out.2 hB⟩
      obtain ⟨a3, c3, rfl⟩ := hO.sn 2 (enN_len _ _)
      clear hO hB H2
      go_upto_region 10 with (at_builtin; refine apB rfl _ _ rfl w.heap.size _ (D ++ enN m 4) rfl H3.out.1 _ (enN P 2) rfl H3.out.2.1 (by have := HDl.out; simp [enN_len]; omega) H3.out.2.2.size ?_; intro v4 u4 hO4 hg4; have H4 : Hid (Ob w.heap.size u4 v4 (D ++ enN m 4 ++ enN P 2) ∧ Below w.heap.size w u4) := ⟨hO4, hg4.1 _ H3.out.2.2⟩; obtain ⟨a4, c4, rfl⟩ := hO4.sn 110 (by have := HDl.out; simp [enN_len]; omega); clear hO4 hg4)
      clear H3
      go_wp2_with fail
      refine (refPut i 2 (by omega) (by omega) u4).mono ?_
      rintro e u5 ⟨v5, rfl, hO, hB⟩
      have H5 : Hid (Ob w.heap.size u5 (.slice a4 110 c4) (D ++ enN m 4 ++ enN P 2) ∧ Bs u5 v5 (enN i 2) ∧ Below w.heap.size w u5) := ⟨H4.out.1.later hB, hO.bs.1, bchain H4.out.2 hB⟩
      obtain ⟨a5, c5, rfl⟩ := hO.sn 2 (enN_len _ _)
      clear hO hB H4
      go_upto_region 11 with (at_builtin; refine apB rfl _ _ rfl w.heap.size _ (D ++ enN m 4 ++ enN P 2) rfl H5.out.1 _ (enN i 2) rfl H5.out.2.1 (by have := HDl.out; simp [enN_len]; omega) H5.out.2.2.size ?_; intro v6 u6 hO6 hg6; have H6 : Hid (Ob w.heap.size u6 v6 (D ++ enN m 4 ++ enN P 2 ++ enN i 2) ∧ Below w.heap.size w u6) := ⟨hO6, hg6.1 _ H5.out.2.2⟩; obtain ⟨a6, c6, rfl⟩ := hO6.sn 112 (by have := HDl.out; simp [enN_len]; omega); clear hO6 hg6)
      clear H5
      go_wp2_with fail
      refine (refPut n 8 (by omega) (by omega) u6).mono ?_
      rintro e u7 ⟨v7, rfl, hO, hB⟩
      have H7 : Hid (Ob w.heap.size u7 (.slice a6 112 c6) (D ++ enN m 4 ++ enN P 2 ++ enN i 2) ∧ Bs u7 v7 (enN n 8) ∧ Below w.heap.size w u7) := ⟨H6.out.1.later hB, hO.bs.1, bchain H6.out.2 hB⟩
      obtain ⟨a7, c7, rfl⟩ := hO.sn 8 (enN_len _ _)
      clear hO hB H6
      go_upto_region 12 with (at_builtin; refine apB rfl _ _ rfl w.heap.size _ (D ++ enN m 4 ++ enN P 2 ++ enN i 2) rfl H7.out.1 _ (enN n 8) rfl H7.out.2.1 (by have := HDl.out; simp [enN_len]; omega) H7.out.2.2.size ?_; intro v8 u8 hO8 hg8; have H8 : Hid (Ob w.heap.size u8 v8 (D ++ enN m 4 ++ enN P 2 ++ enN i 2 ++ enN n 8) ∧ Below w.heap.size w u8) := ⟨hO8, hg8.1 _ H7.out.2.2⟩; obtain ⟨a8, c8, rfl⟩ := hO8.sn 120 (by have := HDl.out; simp [enN_len]; omega); clear hO8 hg8)
      clear H7
      go_wp2_with fail
      refine (refPut gen 8 (by omega) (by omega) u8).mono ?_
      rintro e u9 ⟨v9, rfl, hO, hB⟩
      have H9 : Hid (Ob w.heap.size u9 (.slice a8 120 c8) (D ++ enN m 4 ++ enN P 2 ++ enN i 2 ++ enN n 8) ∧ Bs u9 v9 (enN gen 8) ∧ Below w.heap.size w u9) := ⟨H8.out.1.later hB, hO.bs.1, bchain H8.out.2 hB⟩
      obtain ⟨a9, c9, rfl⟩ := hO.sn 8 (enN_len _ _)
      clear hO hB H8
      go_wp2_with (at_builtin; refine apB rfl _ _ rfl w.heap.size _ (D ++ enN m 4 ++ enN P 2 ++ enN i 2 ++ enN n 8) rfl H9.out.1 _ (enN gen 8) rfl H9.out.2.1 (by have := HDl.out; simp [enN_len]; omega) H9.out.2.2.size ?_; intro v10 u10 hO10 hg10; have H10 : Hid (Ob w.heap.size u10 v10 (jblk r i n gen) ∧ Below w.heap.size w u10) := ⟨by rw [HE.out, ← List.append_assoc, ← List.append_assoc, ← List.append_assoc, ← List.append_assoc]; exact hO10, hg10.1 _ H9.out.2.2⟩; obtain ⟨a10, c10, rfl⟩ := H10.out.1.sl; clear hO10 hg10)
      go_ret
      exact ⟨_, rfl, H10.out.1.bs.1, H10.out.1.bs.2, H10.out.2⟩
end Go.Proofs.YthnpdcblfocemaaGreatDoor
set_option linter.unusedVariables false
set_option linter.unusedSimpArgs false
namespace Go.Proofs.YthnpdcblfocemaaGreatDoor
open Go.RowKit

structure RJ (w : World) (c : Nat) (p : Value) (base size : Nat) (j : Jst) : Prop where
  c0 : w.cell? ⟨c, 0, none⟩ = some p
  c1 : w.cell? ⟨c, 1, none⟩ = some (.int .i64 (base : Int))
  c2 : w.cell? ⟨c, 2, none⟩ = some (.int .i64 (size : Int))
  c3 : w.cell? ⟨c, 3, none⟩ = some (.int .i64 (j.gen : Int))
  c4 : w.cell? ⟨c, 4, none⟩ = some (.int .i64 (j.n : Int))
  c5 : w.cell? ⟨c, 5, none⟩ = some (.int .i64 (j.next : Int))
  f : ∀ k, k < 6 → w.frozen? ⟨c, k, none⟩ = false
theorem RJ.lt {w : World} {c : Nat} {p : Value} {base size : Nat} {j : Jst} (h : RJ w c p base size j) : c < w.heap.size := World.block_lt_of_cell? _ _ h.c0
theorem RJ.kept {w w' : World} {c : Nat} {p : Value} {base size : Nat} {j : Jst} (h : RJ w c p base size j) (k : w'.heap[c]? = w.heap[c]?) : RJ w' c p base size j :=
  ⟨cell_blk5 (a := ⟨c, 0, none⟩) k h.c0, cell_blk5 (a := ⟨c, 1, none⟩) k h.c1, cell_blk5 (a := ⟨c, 2, none⟩) k h.c2, cell_blk5 (a := ⟨c, 3, none⟩) k h.c3, cell_blk5 (a := ⟨c, 4, none⟩) k h.c4, cell_blk5 (a := ⟨c, 5, none⟩) k h.c5, fun i hi => frz_blk5 (a := ⟨c, i, none⟩) k (h.f i hi)⟩
theorem RJ.later {w w' : World} {c : Nat} {p : Value} {base size : Nat} {j : Jst} (h : RJ w c p base size j) (k : Below w.heap.size w w') : RJ w' c p base size j := h.kept (k.block _ h.lt)
def RecOut (o : Option (List Nat)) (w w' : World) (v : Value) (b : Bool) : Prop := (o = none ∧ b = false) ∨ ∃ r, o = some r ∧ b = true ∧ Bs w' v r ∧ Ow w.heap.size v
theorem gt_lt4 {h : List Nat} (hb : ∀ c ∈ h, c < 256) (p : Nat) : gt h p 4 < 4294967296 := by
  have h1 := deN_lt ((h.drop p).take 4) (fun c hc => hb c (List.mem_of_mem_drop (List.mem_of_mem_take hc)))
  have h2 : ((h.drop p).take 4).length ≤ 4 := List.length_take_le _ _
  have h3 : 256 ^ ((h.drop p).take 4).length ≤ 256 ^ 4 := Nat.pow_le_pow_right (by omega) h2
  unfold gt
  omega
theorem jal_len {B : Nat → List Nat} {p t : Nat} (h : ∀ i, i < t → (B (p + i)).length = 128) : ((List.range t).flatMap fun i => (B (p + i)).take 104).length = t * 104 := by
  induction t with
  | zero => rfl
  | succ t ih =>
    rw [List.range_succ, List.flatMap_append, List.length_append, ih (fun i hi => h i (by omega))]
    have := h t (by omega)
    simp [this]
    omega
theorem drop_same {X Y : List Nat} (hX : X.length = 128) (hY : Y.length = 128) (h : ∀ u, 104 ≤ u → u < 128 → X.getD u 0 = Y.getD u 0) : X.drop 104 = Y.drop 104 := by
  apply List.ext_getElem
  · simp [hX, hY]
  · intro k h1 h2
    rw [List.length_drop] at h1 h2
    have := h (104 + k) (by omega) (by omega)
    simp [List.getD, show 104 + k < X.length by omega, show 104 + k < Y.length by omega] at this
    simpa using this
theorem drop_other {X Y : List Nat} {u : Nat} (h1 : 104 ≤ u) (h : ¬ X.getD u 0 = Y.getD u 0) : ¬ X.drop 104 = Y.drop 104 := by
  intro e
  apply h
  have hx : X.getD u 0 = (X.drop 104).getD (u - 104) 0 := by simp [List.getD, show 104 + (u - 104) = u by omega]
  have hy : Y.getD u 0 = (Y.drop 104).getD (u - 104) 0 := by simp [List.getD, show 104 + (u - 104) = u by omega]
  rw [hx, hy, e]
theorem bs_at {w : World} {b o n cap : Nat} {l : List Nat} (h : Bs w (.slice (some ⟨b, o, none⟩) n cap) l) (k : Nat) (hk : k < l.length) : w.cell? ⟨b, o + k, none⟩ = some (.int .u8 ((l.getD k 0 : Nat) : Int)) := by
  obtain ⟨b', o', e, hc⟩ := h.cel k hk
  injection e with e
  injection e with e1 e2
  subst e1 e2
  exact hc
set_option maxRecDepth 100000 in
set_option maxHeartbeats 8000000 in
theorem refRecord {w : World} {c : Nat} {p : Value} {F : Nat → Prop} {s : Dsk} {base size : Nat} {j : Jst} (hJ : RJ w c p base size j) (hD : RD w p F s) (hr : base + size ≤ s.bl.length) (hbl : s.bl.length ≤ 20000) (hd : s.dn = false) (hu : s.un.length ≤ 100000) (at_ n gen : Nat) (ha : at_ ≤ 100000) (hn : n < 9223372036854775808) (hg : gen < 9223372036854775808) :
    Calls Tryz.prog 53 #[.pointer (some ⟨c, 0, none⟩), .int .i64 (at_ : Int), .int .i64 (n : Int), .int .i64 (gen : Int)] w fun e w' => ∃ v b, e = .returned (.tuple #[v, .bool b]) ∧ RecOut (jrec (rb s) base size at_ n gen) w w' v b ∧ Below w.heap.size w w' := by
  have HJ : Hid (RJ w c p base size j) := hJ
  have HD : Hid (RD w p F s) := hD
  have HU : Hid (s.un.length ≤ 100000 ∧ s.dn = false ∧ OkD s ∧ base + size ≤ s.bl.length ∧ s.bl.length ≤ 20000) := ⟨hu, hd, hD.ok, hr, hbl⟩
  have x2 := hJ.c2
  have hsz : base + size ≤ 20000 := by omega
  clear hJ hD hu hd hr hbl
  go_enter Tryz.func53, Tryz.ntmps53
  by_cases hs : size ≤ at_
  · have hI : (size : Int) ≤ (at_ : Int) := by omega
    have HN : Hid (jrec (rb s) base size at_ n gen = none) := by show _ = _; unfold jrec; rw [if_pos hs]
    go_wp2_with fail
    go_ret2
    exact ⟨_, _, rfl, Or.inl ⟨HN.out, rfl⟩, Below.refl _ _⟩
  · have hI : ¬ (size : Int) ≤ (at_ : Int) := by omega
    obtain ⟨P0, hP0⟩ : ∃ P0, base + at_ = P0 := ⟨_, rfl⟩
    have y1 : (base : Int) + (at_ : Int) = (P0 : Int) := by omega
    have y2 : IntKind.i64.wrap (P0 : Int) = (P0 : Int) := by rw [IntKind.wrap_i64]; omega
    have HE : Hid (jrec (rb s) base size at_ n gen = if 262144 < gt (rb s P0) 104 4 ∨ size - at_ < prt (gt (rb s P0) 104 4) then none else
      if ∀ i, i < prt (gt (rb s P0) 104 4) → (rb s (P0 + i)).drop 104 = jtl (gt (rb s P0) 104 4) (prt (gt (rb s P0) 104 4)) i n gen then some (jall (rb s) P0 (gt (rb s P0) 104 4)) else none) := by
      show _ = _
      unfold jrec
      rw [if_neg hs, hP0]
    go_upto_region 3 with fail
    have hb0 : Below w.heap.size w w.drew := (Below.refl _ _).drew
    have x0 := cell_later hb0 HJ.out.c0
    have x1 := cell_later hb0 HJ.out.c1
    have HD1 : Hid (RD w.drew p F s) := HD.out.later hb0
    have HJ1 : Hid (RJ w.drew c p base size j) := HJ.out.later hb0
    have HB1 : Hid (Below w.heap.size w w.drew) := hb0
    clear hb0 x2
    go_region_held3 (fun w' => w'.cell? ⟨c, 0, none⟩ = some p ∧ w'.cell? ⟨c, 1, none⟩ = some (.int .i64 (base : Int)))
      (exact ⟨x0, x1⟩)
      (first | (go_at_call 73; refine (refRead HD1.out (P0 : Int) HU.out.1).mono ?_; rintro e wz ⟨v7, rfl, hL, rfl⟩))
    generalize w.drew = q0 at *
    have HO : Hid (dAsk s (P0 : Int) = 0 ∧ okb (rb s P0)) := okD_rb HU.out.2.2.1 HU.out.2.1 P0 (by have := HU.out.2.2.2.1; omega)
    rw [HO.out.1]
    have hL2 : Bs q0 v7 (rb s P0) := hL
    obtain ⟨h, hh⟩ : ∃ h, rb s P0 = h := ⟨_, rfl⟩
    have HH : Hid (rb s P0 = h ∧ h.length = 128 ∧ (∀ c ∈ h, c < 256)) := ⟨hh, by rw [← hh]; exact HO.out.2.1, by rw [← hh]; exact HO.out.2.2⟩
    rw [hh] at hL2
    obtain ⟨ad7, cap7, e7, l1, l2⟩ := hL2.len
    rw [HH.out.2.1] at e7 l1
    subst e7
    obtain ⟨b7, o7, rfl, -⟩ := hL2.cel 0 (by have := HH.out.2.1; omega)
    have HL : Hid (Bs q0 (.slice (some ⟨b7, o7, none⟩) 128 cap7) h) := hL2
    have l8 : (108 : Int) ≤ (cap7 : Int) := by omega
    have g4 : ¬ cap7 = 104 := by omega
    unfold maxLen at l2
    clear hL hL2 hh x0 x1
    go_wp2_with fail
    have e2 : deN ((h.drop 104).take 4) = gt h 104 4 := rfl
    refine (refGet _ ((h.drop 104).take 4) (fun c hc => HH.out.2.2 c (List.mem_of_mem_drop (List.mem_of_mem_take hc))) (by rw [List.length_take]; omega) q0 (bs_cut HL.out 104 108 (by omega) (by have := HH.out.2.1; omega))).mono ?_
    rintro e wx ⟨rfl, hwx⟩
    have hwx := hwx.symm
    subst hwx
    rw [e2]
    obtain ⟨m, hm⟩ : ∃ m, gt h 104 4 = m := ⟨_, rfl⟩
    have hm4 : m < 4294967296 := by rw [← hm]; exact gt_lt4 HH.out.2.2 104
    rw [HH.out.1, hm] at HE
    rw [hm]
    clear e2 hm HH HL l8 g4 l1 l2
    have z1 : IntKind.i64.wrap (m : Int) = (m : Int) := by rw [IntKind.wrap_i64]; omega
    obtain ⟨P, hP⟩ : ∃ P, prt m = P := ⟨_, rfl⟩
    have hP1 : 1 ≤ P ∧ P ≤ m + 1 ∧ m ≤ P * 104 := by rw [← hP]; exact ⟨prt_pos m, prt_le m, prt_room m⟩
    rw [hP] at HE
    have HP : Hid (prt m = P) := hP
    clear hP
    obtain ⟨R, hR⟩ : ∃ R, size - at_ = R := ⟨_, rfl⟩
    rw [hR] at HE
    have z2 : (size : Int) - (at_ : Int) = (R : Int) := by omega
    have z3 : IntKind.i64.wrap (R : Int) = (R : Int) := by rw [IntKind.wrap_i64]; omega
    have x2 := HJ1.out.c2
    go_upto_region 5 with fail
    by_cases hbig : 262144 < m
    · have HN : Hid (jrec (rb s) base size at_ n gen = none) := by show _ = _; rw [HE.out, if_pos (Or.inl hbig)]
      have hI2 : (262144 : Int) < (m : Int) := by omega
      have hI3 : decide ((262144 : Int) < (m : Int)) = true := decide_eq_true hI2
      go_quiet (fail)
      go_wp2_with fail
      go_ret2
      exact ⟨_, _, rfl, Or.inl ⟨HN.out, rfl⟩, below_drewP HB1.out nq⟩
    · have hI2 : ¬ (262144 : Int) < (m : Int) := by omega
      have hI3 : decide ((262144 : Int) < (m : Int)) = false := decide_eq_false hI2
      have HC : Hid (∀ w' : World, Calls Tryz.prog 54 #[.int .i64 (m : Int)] w' fun e w'' => e = .returned (.int .i64 (P : Int)) ∧ w'' = w') := fun w' => by
        have := refParts m (by omega) w'
        rw [HP.out] at this
        exact this
      by_cases h5 : R < P
      · have HN : Hid (jrec (rb s) base size at_ n gen = none) := by show _ = _; rw [HE.out, if_pos (Or.inr h5)]
        have h5I : (R : Int) < (P : Int) := by omega
        go_quiet (first | (go_at_call 54; refine Calls.quiet_of_same (HC.out _)))
        go_wp2_with fail
        go_ret2
        exact ⟨_, Or.inl ⟨rfl, Or.inl ⟨HN.out, rfl⟩, below_drewP HB1.out nq⟩⟩
      · have h5I : ¬ (R : Int) < (P : Int) := by omega
        have HE2 : Hid (jrec (rb s) base size at_ n gen = if ∀ i, i < P → (rb s (P0 + i)).drop 104 = jtl m P i n gen then some (jall (rb s) P0 m) else none) := by
          show _ = _
          rw [HE.out, if_neg (by omega)]
        have HX : Hid (∀ i, i < P → dAsk s ((P0 + i : Nat) : Int) = 0 ∧ okb (rb s (P0 + i))) := fun i hi => okD_rb HU.out.2.2.1 HU.out.2.1 _ (by have := HU.out.2.2.2.1; omega)
        have hP0r : P0 + P ≤ 20000 := by omega
        go_quiet (first | (go_at_call 54; refine Calls.quiet_of_same (HC.out _)))
        have hb1 : Below q0.heap.size q0 (q0.drewN nq) := below_drewP (Below.refl _ _) nq
        have HB2 : Hid (Below w.heap.size w (q0.drewN nq)) := bchain HB1.out hb1
        have HD2 : Hid (RD (q0.drewN nq) p F s) := HD1.out.later hb1
        have HJ2 : Hid (RJ (q0.drewN nq) c p base size j) := HJ1.out.later hb1
        clear hb1 HB1 HD1 HJ1 HD HJ HE x2 h5 hI2 hI3 h5I
        generalize q0.drewN nq = q1 at *
        go_upto_region 9 with fail
        go_loopw [13, 14] (fun s13 s14 wr => ∃ t : Nat, t ≤ P ∧ s14 = .int .i64 (t : Int) ∧ Hid (Ob q1.heap.size wr s13 ((List.range t).flatMap fun i => (rb s (P0 + i)).take 104) ∧ Below q1.heap.size q1 wr)) (fun _ s14 _ => P - (intOf s14).toNat)
        case atStart => exact ⟨0, by omega, rfl, ob_nil _ _, Below.refl _ _⟩
        case round =>
          obtain ⟨t, ht, rfl, HO1⟩ := hrel
          have hln : ((List.range t).flatMap fun i => (rb s (P0 + i)).take 104).length = t * 104 := jal_len (fun i hi => (HX.out i (by omega)).2.1)
          obtain ⟨T, hT⟩ : ∃ T, t * 104 = T := ⟨_, rfl⟩
          rw [hT] at hln
          obtain ⟨a5, c5, rfl⟩ := HO1.out.1.sn T hln
          by_cases hlt : t < P
          · have hI4 : (t : Int) < (P : Int) := by omega
            obtain ⟨P2, hP2⟩ : ∃ P2, P0 + t = P2 := ⟨_, rfl⟩
            have u1 : (P0 : Int) + (t : Int) = (P2 : Int) := by omega
            have u2 : IntKind.i64.wrap (P2 : Int) = (P2 : Int) := by rw [IntKind.wrap_i64]; omega
            have u3 : IntKind.i64.wrap ((t : Int) + 1) = ((t + 1 : Nat) : Int) := by rw [IntKind.wrap_i64]; omega
            have HX2 : Hid (dAsk s (P2 : Int) = 0 ∧ okb (rb s P2)) := by have := HX.out t hlt; rw [hP2] at this; exact this
            have HN2 : Hid (((List.range (t + 1)).flatMap fun i => (rb s (P0 + i)).take 104) = ((List.range t).flatMap fun i => (rb s (P0 + i)).take 104) ++ (rb s P2).take 104) := by
              show _ = _
              rw [List.range_succ, List.flatMap_append]
              simp [hP2]
            clear hP2
            generalize ((List.range t).flatMap fun i => (rb s (P0 + i)).take 104) = D at *
            go_wp2_with fail
            refine (HC.out wr).mono ?_
            rintro e wx ⟨rfl, hwx⟩
            have hwx := hwx.symm
            subst hwx
            go_upto_region 11 with fail
            have hb0 : Below wr.heap.size wr wr.drew := (Below.refl _ _).drew
            have HB3 : Hid (Below q1.heap.size q1 wr.drew ∧ Ob q1.heap.size wr.drew (.slice a5 T c5) D) := ⟨bchain HO1.out.2 hb0, HO1.out.1.later hb0⟩
            have x0 := (HJ2.out.later HB3.out.1).c0
            have x1 := (HJ2.out.later HB3.out.1).c1
            have HD3 : Hid (RD wr.drew p F s) := HD2.out.later HB3.out.1
            clear hb0
            go_region_held3 (fun w' => w'.cell? ⟨c, 0, none⟩ = some p ∧ w'.cell? ⟨c, 1, none⟩ = some (.int .i64 (base : Int)))
              (exact ⟨x0, x1⟩)
              (first | (go_at_call 73; refine (refRead HD3.out (P2 : Int) HU.out.1).mono ?_; rintro e wz ⟨v7, rfl, hL, rfl⟩))
            generalize wr.drew = q3 at *
            rw [HX2.out.1]
            have hL2 : Bs q3 v7 (rb s P2) := hL
            obtain ⟨ad7, cap7, e7, l1, l2⟩ := hL2.len
            rw [HX2.out.2.1] at e7 l1
            subst e7
            obtain ⟨b7, o7, rfl, -⟩ := hL2.cel 0 (by have := HX2.out.2.1; omega)
            have HL : Hid (Bs q3 (.slice (some ⟨b7, o7, none⟩) 104 cap7) ((rb s P2).take 104)) := bs_takeS hL2 104 (by have := HX2.out.2.1; omega)
            have HLn : Hid (D.length = T ∧ ((rb s P2).take 104).length = 104) := ⟨hln, by have := HX2.out.2.1; rw [List.length_take]; omega⟩
            have l8 : (104 : Int) ≤ (cap7 : Int) := by omega
            unfold maxLen at l2
            clear hL hL2 x0 x1 HO1
            go_wp2_with (at_builtin; refine apB rfl _ _ rfl q1.heap.size _ D rfl HB3.out.2 _ ((rb s P2).take 104) rfl HL.out (by have := HLn.out; omega) HB3.out.1.size ?_; intro v6 w6 hO6 hg6; have HO6 : Hid (Ob q1.heap.size w6 v6 ((List.range (t + 1)).flatMap fun i => (rb s (P0 + i)).take 104) ∧ Below q1.heap.size q1 w6) := ⟨by rw [HN2.out]; exact hO6, hg6.1 _ HB3.out.1⟩; clear hO6 hg6)
            go_roundw
            case rel => exact ⟨t + 1, by omega, by first | rfl | go_num, HO6⟩
            case measure => simp only [intOf]; omega
          · obtain rfl : t = P := by omega
            have hI4 : ¬ (t : Int) < (t : Int) := by omega
            obtain ⟨r, hr⟩ : ∃ r, jall (rb s) P0 m = r := ⟨_, rfl⟩
            rw [hr] at HE2
            have HRD : Hid (((List.range t).flatMap fun i => (rb s (P0 + i)).take 104).take m = r) := by
              show _ = _
              rw [← hr]
              unfold jall
              rw [HP.out]
            have HRb : Hid (∀ c ∈ (List.range t).flatMap fun i => (rb s (P0 + i)).take 104, c < 256) := fun c hc => by
              obtain ⟨i, hi, hc⟩ := List.mem_flatMap.1 hc
              exact (HX.out i (List.mem_range.1 hi)).2.2 c (List.mem_of_mem_take hc)
            clear hr
            generalize ((List.range t).flatMap fun i => (rb s (P0 + i)).take 104) = D at *
            obtain ⟨b5, o5, rfl, -⟩ := HO1.out.1.bs.1.cel 0 (by omega)
            obtain ⟨aD, cD, eD, d1, d2⟩ := HO1.out.1.bs.1.len
            injection eD with eD1 eD2 eD3
            subst eD3
            have hc5 : (m : Int) ≤ (c5 : Int) := by omega
            have g5 : ¬ c5 = 0 := by omega
            have hm0 : (0 : Int) ≤ (m : Int) := by omega
            unfold maxLen at d2
            have HR : Hid (Bs wr (.slice (some ⟨b5, o5, none⟩) m c5) r ∧ r.length = m ∧ (∀ c ∈ r, c < 256) ∧ Ow q1.heap.size (.slice (some ⟨b5, o5, none⟩) m c5) ∧ Below q1.heap.size q1 wr) := by
              have e : D.take m = r := HRD.out
              refine ⟨?_, ?_, ?_, ?_, HO1.out.2⟩
              · have := bs_takeS HO1.out.1.bs.1 m (by omega)
                rw [e] at this
                exact this
              · rw [← e, List.length_take]; omega
              · intro c hc
                rw [← e] at hc
                exact HRb.out c (List.mem_of_mem_take hc)
              · intro a n' cc e' hn'
                injection e' with e1 e2 e3
                injection e1 with e1
                subst e1
                exact HO1.out.1.bs.2 _ T c5 rfl (by omega)
            clear HRD HRb HO1 eD1 eD2 d1 hln
            clear D
            go_wp2_with fail
            refine (HC.out wr).mono ?_
            rintro e wx ⟨rfl, hwx⟩
            have hwx := hwx.symm
            subst hwx
            go_upto_region 15 with fail
            generalize hq2 : wr = q2 at *
            clear hq2
            go_loopw [17] (fun s17 wr => ∃ i : Nat, i ≤ t ∧ s17 = .int .i64 (i : Int) ∧ Hid (Below q2.heap.size q2 wr ∧ ∀ i', i' < i → (rb s (P0 + i')).drop 104 = jtl m t i' n gen)) (fun s17 _ => t - (intOf s17).toNat)
            case atStart => exact ⟨0, by omega, rfl, Below.refl _ _, fun i' hi' => by omega⟩
            case round =>
              obtain ⟨i, hi, rfl, HB⟩ := hrel
              by_cases hlt : i < t
              · have hI5 : (i : Int) < (t : Int) := by omega
                obtain ⟨P2, hP2⟩ : ∃ P2, P0 + i = P2 := ⟨_, rfl⟩
                have u1 : (P0 : Int) + (i : Int) = (P2 : Int) := by omega
                have u2 : IntKind.i64.wrap (P2 : Int) = (P2 : Int) := by rw [IntKind.wrap_i64]; omega
                have u3 : IntKind.i64.wrap ((i : Int) + 1) = ((i + 1 : Nat) : Int) := by rw [IntKind.wrap_i64]; omega
                have HX2 : Hid (dAsk s (P2 : Int) = 0 ∧ okb (rb s P2) ∧ P0 + i = P2) := by have := HX.out i hlt; rw [hP2] at this; exact ⟨this.1, this.2, hP2⟩
                clear hP2
                go_wp2_with fail
                refine (HC.out wr).mono ?_
                rintro e wx ⟨rfl, hwx⟩
                have hwx := hwx.symm
                subst hwx
                go_upto_region 17 with fail
                have hb0 : Below wr.heap.size wr wr.drew := (Below.refl _ _).drew
                have HB3 : Hid (Below q2.heap.size q2 wr.drew ∧ Below q1.heap.size q1 wr.drew) := ⟨bchain HB.out.1 hb0, bchain HR.out.2.2.2.2 (bchain HB.out.1 hb0)⟩
                have x0 := (HJ2.out.later HB3.out.2).c0
                have x1 := (HJ2.out.later HB3.out.2).c1
                have HD3 : Hid (RD wr.drew p F s) := HD2.out.later HB3.out.2
                clear hb0
                go_region_held3 (fun w' => w'.cell? ⟨c, 0, none⟩ = some p ∧ w'.cell? ⟨c, 1, none⟩ = some (.int .i64 (base : Int)))
                  (exact ⟨x0, x1⟩)
                  (first | (go_at_call 73; refine (refRead HD3.out (P2 : Int) HU.out.1).mono ?_; rintro e wz ⟨v7, rfl, hL, rfl⟩))
                generalize wr.drew = q3 at *
                rw [HX2.out.1]
                have hL2 : Bs q3 v7 (rb s P2) := hL
                obtain ⟨ad7, cap7, e7, l1, l2⟩ := hL2.len
                rw [HX2.out.2.1.1] at e7 l1
                subst e7
                obtain ⟨b7, o7, rfl, -⟩ := hL2.cel 0 (by have := HX2.out.2.1.1; omega)
                have HL : Hid (Bs q3 (.slice (some ⟨b7, o7, none⟩) 128 cap7) (rb s P2)) := hL2
                clear hL hL2 x0 x1
                go_wp2_with fail
                refine (refBlock _ r i n gen HR.out.2.2.1 (by have := HR.out.2.1; omega) (by omega) hn hg q3 (HR.out.1.later HB3.out.1)).mono ?_
                rintro e q4 ⟨v8, rfl, hY, -, hb4⟩
                have HYd : Hid ((jblk r i n gen).drop 104 = jtl m t i n gen ∧ (jblk r i n gen).length = 128) := ⟨by rw [jblk_drop, HR.out.2.1, HP.out], jblk_len _ _ _ _⟩
                generalize jblk r i n gen = Y at *
                obtain ⟨ad8, cap8, e8, k1, k2⟩ := hY.len
                rw [HYd.out.2] at e8 k1
                subst e8
                obtain ⟨b8, o8, rfl, -⟩ := hY.cel 0 (by have := HYd.out.2; omega)
                have HY : Hid (Bs q4 (.slice (some ⟨b8, o8, none⟩) 128 cap8) Y ∧ Bs q4 (.slice (some ⟨b7, o7, none⟩) 128 cap7) (rb s P2) ∧ Below q2.heap.size q2 q4 ∧ Below q1.heap.size q1 q4) := ⟨hY, HL.out.later hb4, bchain HB3.out.1 hb4, bchain HB3.out.2 hb4⟩
                clear hY hb4 HL HB3 HD3
                go_upto_region 20 with fail
                go_loopw [21] (fun s21 wr2 => ∃ k : Nat, 104 ≤ k ∧ k ≤ 128 ∧ s21 = .int .i64 (k : Int) ∧ Hid (Below q4.heap.size q4 wr2 ∧ ∀ u, 104 ≤ u → u < k → (rb s P2).getD u 0 = Y.getD u 0)) (fun s21 _ => 128 - (intOf s21).toNat)
                case atStart => exact ⟨104, by omega, by omega, rfl, Below.refl _ _, fun u h1 h2 => by omega⟩
                case round =>
                  obtain ⟨k, hk1, hk2, rfl, HB5⟩ := hrel
                  by_cases hk : k < 128
                  · have hkI : (k : Int) < 128 := by omega
                    have k0 : (0 : Int) ≤ (k : Int) := by omega
                    have k3 : IntKind.i64.wrap ((k : Int) + 1) = ((k + 1 : Nat) : Int) := by rw [IntKind.wrap_i64]; omega
                    have x0 := cell_later HB5.out.1 (bs_at HY.out.2.1 k (by have := HX2.out.2.1.1; omega))
                    have x1 := cell_later HB5.out.1 (bs_at HY.out.1 k (by have := HYd.out.2; omega))
                    obtain ⟨x, hx⟩ : ∃ x, (rb s P2).getD k 0 = x := ⟨_, rfl⟩
                    obtain ⟨y, hy⟩ : ∃ y, Y.getD k 0 = y := ⟨_, rfl⟩
                    rw [hx] at x0
                    rw [hy] at x1
                    have HXY : Hid ((rb s P2).getD k 0 = x ∧ Y.getD k 0 = y) := ⟨hx, hy⟩
                    clear hx hy
                    by_cases hq : x = y
                    · subst hq
                      go_upto_region 22 with fail
                      go_quiet (fail)
                      have HBn : Hid (Below q4.heap.size q4 (wr.drewN nq) ∧ ∀ u, 104 ≤ u → u < k + 1 → (rb s P2).getD u 0 = Y.getD u 0) := by
                        refine ⟨below_drewP HB5.out.1 nq, fun u h1 h2 => ?_⟩
                        by_cases e : u = k
                        · subst e
                          rw [HXY.out.1, HXY.out.2]
                        · exact HB5.out.2 u h1 (by omega)
                      go_wp2_with fail
                      go_roundw
                      case rel => exact ⟨k + 1, by omega, by omega, by first | rfl | go_num, HBn⟩
                      case measure => simp only [intOf]; omega
                    · have hqI : ¬ (x : Int) = (y : Int) := by omega
                      have HN : Hid (jrec (rb s) base size at_ n gen = none) := by
                        show _ = _
                        rw [HE2.out, if_neg]
                        intro H
                        have h1 := H i hlt
                        rw [HX2.out.2.2, ← HYd.out.1] at h1
                        exact drop_other hk1 (by rw [HXY.out.1, HXY.out.2]; exact hq) h1
                      go_upto_region 22 with fail
                      go_quiet (fail)
                      go_wp2_with fail
                      go_ret2
                      exact ⟨_, _, rfl, Or.inl ⟨HN.out, rfl⟩, bchain HB2.out (bchain HY.out.2.2.2 (below_drewP HB5.out.1 nq))⟩
                  · obtain rfl : k = 128 := by omega
                    have hkI : ¬ (128 : Int) < 128 := by omega
                    have HBn : Hid (Below q2.heap.size q2 wr ∧ ∀ i', i' < i + 1 → (rb s (P0 + i')).drop 104 = jtl m t i' n gen) := by
                      refine ⟨bchain HY.out.2.2.1 HB5.out.1, fun i' hi' => ?_⟩
                      by_cases e : i' = i
                      · subst e
                        rw [HX2.out.2.2, ← HYd.out.1]
                        exact drop_same HX2.out.2.1.1 HYd.out.2 HB5.out.2
                      · exact HB.out.2 i' (by omega)
                    go_wp2_with fail
                    go_roundw
                    case rel => exact ⟨i + 1, by omega, by first | rfl | go_num, HBn⟩
                    case measure => simp only [intOf]; omega
              · obtain rfl : i = t := by omega
                have hI5 : ¬ (i : Int) < (i : Int) := by omega
                have HN : Hid (jrec (rb s) base size at_ n gen = some r) := by
                  show _ = _
                  rw [HE2.out, if_pos HB.out.2]
                go_wp2_with fail
                refine (HC.out wr).mono ?_
                rintro e wx ⟨rfl, hwx⟩
                have hwx := hwx.symm
                subst hwx
                go_wp2_with fail
                go_ret2
                exact ⟨_, _, rfl, Or.inr ⟨r, HN.out, rfl, HR.out.1.later HB.out.1, fun a n c e h => Nat.le_trans HB2.out.size (HR.out.2.2.2.1 a n c e h)⟩, bchain HB2.out (bchain HR.out.2.2.2.2 HB.out.1)⟩
end Go.Proofs.YthnpdcblfocemaaGreatDoor
