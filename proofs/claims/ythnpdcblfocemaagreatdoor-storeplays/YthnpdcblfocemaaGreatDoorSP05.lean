/-
  Texts of this proof, joined: DkRefB.
-/
import Derived.Test.YthnpdcblfocemaaGreatDoorSP04
set_option linter.unusedVariables false
set_option linter.unusedSimpArgs false
namespace Go.Proofs.YthnpdcblfocemaaGreatDoor
open Go.RowKit

set_option maxRecDepth 100000 in
set_option maxHeartbeats 4000000 in
theorem refAsked {w : World} {b : Nat} {vB vU : Value} {cs ds : List Value} {F : Nat → Prop} {s : Dsk} (h : Rd5 w b vB vU cs ds F s) (i : Int) :
    Calls Tryz.prog 79 #[.pointer (some ⟨b, 0, none⟩), .int .i64 i] w fun e w' => e = .returned (.int .i64 ((dAsk s i : Nat) : Int)) ∧ w' = w := by
  obtain ⟨ad, cap, rfl⟩ := h.sB
  have c0 := h.c0
  have c4 := h.c4
  have HA : Hid (dAsk s i = if s.dn = true then 150 else if i < 0 ∨ (s.bl.length : Int) ≤ i then 151 else 0) := rfl
  clear h
  generalize s.bl.length = n at *
  generalize s.dn = dn at *
  cases dn with
  | true =>
    rw [if_pos rfl] at HA
    go_enter Tryz.func79, Tryz.ntmps79
    go_wp2
    go_ret
    exact ⟨by rw [HA.out]; rfl, rfl⟩
  | false =>
    rw [if_neg (by simp)] at HA
    by_cases q1 : i < 0
    · rw [if_pos (Or.inl q1)] at HA
      go_enter Tryz.func79, Tryz.ntmps79
      go_wp2
      go_ret
      exact ⟨by rw [HA.out]; rfl, rfl⟩
    · by_cases q2 : (n : Int) ≤ i
      · rw [if_pos (Or.inr q2)] at HA
        go_enter Tryz.func79, Tryz.ntmps79
        go_wp2
        go_ret
        exact ⟨by rw [HA.out]; rfl, rfl⟩
      · rw [if_neg (by omega)] at HA
        go_enter Tryz.func79, Tryz.ntmps79
        go_wp2
        go_ret
        exact ⟨by rw [HA.out]; rfl, rfl⟩
def Bx5 (b : Nat) (vB vU : Value) (cs ds : List Value) (F : Nat → Prop) (s : Dsk) (w w' : World) : Prop := Rd5 w' b vB vU cs ds F s ∧ Kp (fun k => k = b) w w'
set_option maxRecDepth 100000 in
set_option maxHeartbeats 4000000 in
theorem refGoes {w : World} {b : Nat} {vB vU : Value} {cs ds : List Value} {F : Nat → Prop} {s : Dsk} (h : Rd5 w b vB vU cs ds F s) (hd : Bdk s) :
    Calls Tryz.prog 81 #[.pointer (some ⟨b, 0, none⟩)] w fun e w' => e = .returned (.bool (dGo s)) ∧ Bx5 b vB vU cs ds F (dGone s) w w' := by
  have HR : Hid (Rd5 w b vB vU cs ds F s) := h
  have c2 := h.c2
  have c3 := h.c3
  have c4 := h.c4
  have f3 := h.f0 3 (by omega)
  have f4 := h.f0 4 (by omega)
  obtain ⟨hb1, hb2⟩ := hd
  unfold Bd64 at hb1
  clear h
  obtain ⟨bl, un, ar, lf, dn⟩ := s
  dsimp only at c2 c3 c4 hb1 hb2
  cases ar with
  | false =>
    have HG : Hid (dGo ⟨bl, un, false, lf, dn⟩ = true ∧ dGone ⟨bl, un, false, lf, dn⟩ = ⟨bl, un, false, lf, dn⟩) := ⟨rfl, rfl⟩
    go_enter Tryz.func81, Tryz.ntmps81
    go_wp2
    go_ret
    exact ⟨by rw [HG.out.1]; rfl, by rw [HG.out.2]; exact HR.out, Kp.refl _ _⟩
  | true =>
    have h0 := hb2 rfl
    by_cases q : lf = 0
    · subst q
      have HG : Hid (dGo ⟨bl, un, true, 0, dn⟩ = false ∧ dGone ⟨bl, un, true, 0, dn⟩ = ⟨bl, un, true, 0, true⟩) := ⟨rfl, rfl⟩
      have HR2 := hid5 (HR.out.dn true)
      clear hb1 hb2 h0
      go_enter Tryz.func81, Tryz.ntmps81
      go_wp2
      go_ret
      exact ⟨by rw [HG.out.1]; rfl, by rw [HG.out.2]; exact HR2.out, (Kp.refl (fun k => k = b) _).set (p := ⟨b, 4, none⟩) (Or.inl rfl) _⟩
    · have HG : Hid (dGo ⟨bl, un, true, lf, dn⟩ = true ∧ dGone ⟨bl, un, true, lf, dn⟩ = ⟨bl, un, true, lf - 1, dn⟩) := by
        refine ⟨?_, ?_⟩
        · show (!true || decide (lf ≠ 0)) = true
          simp [q]
        · show (if true = true then (if lf = 0 then _ else _) else _) = _
          rw [if_pos rfl, if_neg q]
      have hw : IntKind.i64.wrap (lf - 1) = lf - 1 := by rw [IntKind.wrap_i64]; omega
      have HR2 := hid5 (HR.out.lf (lf - 1))
      clear hb1 hb2 h0
      go_enter Tryz.func81, Tryz.ntmps81
      go_wp2
      go_ret
      exact ⟨by rw [HG.out.1]; rfl, by rw [HG.out.2]; exact HR2.out, (Kp.refl (fun k => k = b) _).set (p := ⟨b, 3, none⟩) (Or.inl rfl) _⟩
set_option maxRecDepth 100000 in
set_option maxHeartbeats 4000000 in
theorem refArm {w : World} {p : Value} {F : Nat → Prop} {s : Dsk} (h : RD w p F s) (n : Int) (hn : Bd64 n) :
    Calls Tryz.prog 16 #[p, .int .i64 n] w fun e w' => e = .returned (.tuple #[]) ∧ Ad RD p F (arS s n) w w' := by
  obtain ⟨b, vB, vU, cs, ds, rfl, h, hd⟩ := h
  have c2 := h.c2
  have c3 := h.c3
  have f2 := h.f0 2 (by omega)
  have f3 := h.f0 3 (by omega)
  have y3 : ∀ u, (w.setCell ⟨b, 2, none⟩ u).cell? ⟨b, 3, none⟩ = some (.int .i64 s.lf) := fun u => far5 c3 (by omega)
  have HR2 : Hid (Rd5 ((w.setCell ⟨b, 2, none⟩ (.bool (decide (0 ≤ n)))).setCell ⟨b, 3, none⟩ (.int .i64 n)) b vB vU cs ds F (arS s n)) := (h.ar (decide (0 ≤ n))).lf n
  have HB2 : Hid (Bdk (arS s n)) := ⟨hn, fun q => by simpa [arS] using q⟩
  have HF : Hid (F b) := h.fb
  clear h hd hn
  by_cases q : 0 ≤ n
  · have q2 : decide (0 ≤ n) = true := by simp [q]
    rw [q2] at HR2
    go_enter Tryz.func16, Tryz.ntmps16
    go_wp2
    go_end0
    exact ⟨rfl, F, ⟨b, vB, vU, cs, ds, rfl, HR2.out, HB2.out⟩, fun k hk => Or.inl hk, ((Kp.refl F w).set (p := ⟨b, 2, none⟩) (Or.inl HF.out) _).set (p := ⟨b, 3, none⟩) (Or.inl HF.out) _⟩
  · have q2 : decide (0 ≤ n) = false := by simp; omega
    have q3 : n < 0 := by omega
    rw [q2] at HR2
    go_enter Tryz.func16, Tryz.ntmps16
    go_wp2
    go_end0
    exact ⟨rfl, F, ⟨b, vB, vU, cs, ds, rfl, HR2.out, HB2.out⟩, fun k hk => Or.inl hk, ((Kp.refl F w).set (p := ⟨b, 2, none⟩) (Or.inl HF.out) _).set (p := ⟨b, 3, none⟩) (Or.inl HF.out) _⟩
theorem dinfo_rw : (Tryz.prog.info? 100).map (fun i => (i.zero, i.size, i.bytes)) = some (some (.agg #[.int .i64 0, .slice none 0 0]), 2, 32) := by kernel_rfl
theorem apUn_op {o : Oper} {a : Act} {w w1 : World} {K : Act → World → Prop} {Q : Exit → Act → World → Prop} (s x : Operand)
    (ho : o.op = .call { callee := .builtin .append, args := #[s, x], argTypes := #[50, 50] })
    {b : Nat} {vB vU : Value} {cs ds : List Value} {F : Nat → Prop} {st : Dsk} (hR : Rd5 w b vB vU cs ds F st) (hs : a.eval s = vU) (k1 : Below w.heap.size w w1) (i : Nat) (ad : Option Addr) (n cap : Nat) (t : List Nat) (hx : Bs w1 (.slice ad n cap) t) (hO : Ow w.heap.size (.slice ad n cap)) (hi : i < st.bl.length) (ht : okb t) (ty : TypeId) (hv : a.eval x = .slice (some ⟨w1.heap.size, 0, none⟩) 1 1) (hlen : st.un.length ≤ 100000)
    (h : ∀ (vU' : Value) (w2 : World), (∃ ad' cap', vU' = .slice ad' (st.un.length + 1) cap') → w2.cell? ⟨b, 1, none⟩ = some vU → w2.frozen? ⟨b, 1, none⟩ = false →
      Rd5 (w2.setCell ⟨b, 1, none⟩ vU') b vB vU' cs (ds ++ [.int .i64 (i : Int), .slice ad n cap]) (fun k => F k ∨ (w.heap.size ≤ k ∧ k < w2.heap.size)) { st with un := st.un ++ [(i, t)] } → Kp F w (w2.setCell ⟨b, 1, none⟩ vU') → K (a.put o.dst vU') w2) : o.wp Tryz.prog a (w1.alloc (.cells #[.int .i64 (i : Int), .slice ad n cap] ty)) K Q := by
  obtain ⟨i0, hti, hy0, hy1, hy2⟩ := info_parts dinfo_rw
  obtain ⟨v', w2, hr, h2, h3, h4, h5⟩ := run_append_own_at (P := Tryz.prog) (w1.alloc (.cells #[.int .i64 (i : Int), .slice ad n cap] ty)) 0 50 o.type 100 i0 (.agg #[.int .i64 0, .slice none 0 0]) 2 32 Tryz.underlying50 hti hy0 hy1 hy2 rfl (by decide) vU st.un.length ds (own_later (own_later hR.rU k1) (bel1 _ _)) ⟨w1.heap.size, 0, none⟩ 1 1 [.int .i64 (i : Int), .slice ad n cap] rfl
    (fun j u hj => by
      rcases j with _ | _ | j
      · simp at hj; subst hj; simp [go_sem, Addr.add]
      · simp at hj; subst hj; simp [go_sem, Addr.add]
      · simp at hj)
    (fun u hu => by simp only [List.mem_cons, List.not_mem_nil, or_false] at hu; rcases hu with rfl | rfl <;> rfl) (by unfold maxLen; omega) (by omega) (Nat.zero_le _)
  obtain ⟨r1, r2⟩ := hR.add k1 i t hx hO hi ht _ h2 h3 h5
  have hub : vU.ownBlock ≠ some b := fun e => (hR.gU b e).2 rfl
  have hbl := hR.lt b hR.fb
  have hbk : w2.heap[b]? = w.heap[b]? := by
    rw [h3.block b (by rw [World.size_alloc]; have := k1.size; omega) (fun e => hub e.symm), Below.heap_alloc _ _ _ (by have := k1.size; omega), k1.block b hbl]
  unfold Oper.wp execOp
  simp only [ho, resolve, invoke, builtin, Sem.run_bind, Sem.run_pure, Result.andThen_ok, List.map_toArray, List.map_cons, List.map_nil, hs, hv, hr]
  exact h v' w2 (own_sl h2) (cell_blk5 (a := ⟨b, 1, none⟩) hbk hR.c1) (frz_blk5 (a := ⟨b, 1, none⟩) hbk (hR.f0 1 (by omega))) r1 r2
set_option maxRecDepth 100000 in
set_option maxHeartbeats 8000000 in
theorem refWrite {w : World} {p : Value} {F : Nat → Prop} {s : Dsk} (h : RD w p F s) (i : Int) (v : Value) (l : List Nat) (hv : Bs w v l) (hl : ∀ c ∈ l, c < 256) (hu : s.un.length ≤ 1000) :
    Calls Tryz.prog 60 #[p, .int .i64 i, v] w fun e w' => e = .returned (.int .i64 ((wrE s i l : Nat) : Int)) ∧ Ad RD p F (wrS s i l) w w' := by
  obtain ⟨b, vB, vU, cs, ds, rfl, h, hd⟩ := h
  have HR : Hid (Rd5 w b vB vU cs ds F s ∧ Bdk s) := ⟨h, hd⟩
  have HL : Hid (Bs w v l ∧ ∀ c ∈ l, c < 256) := ⟨hv, hl⟩
  obtain ⟨av, cv, rfl, -, -⟩ := hv.len
  obtain ⟨aU, pU, rfl⟩ := h.sU
  have HE : Hid (wrE s i l = if dAsk s i ≠ 0 then dAsk s i else if 128 < l.length then 3 else if dGo s = true then 0 else 150) := rfl
  have HST : Hid (wrS s i l = if dAsk s i ≠ 0 ∨ 128 < l.length then s else dGone { s with un := s.un ++ [(i.toNat, full l)] }) := rfl
  obtain ⟨n, hn⟩ : ∃ n, l.length = n := ⟨_, rfl⟩
  have HN : Hid (l.length = n) := hn
  rw [hn] at HE HST HL ⊢
  obtain ⟨m, hm⟩ : ∃ m, s.un.length = m := ⟨_, rfl⟩
  have HM : Hid (s.un.length = m ∧ m ≤ 1000) := ⟨hm, by omega⟩
  rw [hm] at HR
  clear h hd hv hl hn hm hu
  go_enter Tryz.func60, Tryz.ntmps60
  go_wp2_with fail
  refine (refAsked HR.out.1 i).mono ?_
  rintro e w1 ⟨rfl, rfl⟩
  by_cases hA : dAsk s i ≠ 0
  · rw [if_pos hA] at HE
    rw [if_pos (Or.inl hA)] at HST
    obtain ⟨A, hAA⟩ : ∃ A, dAsk s i = A := ⟨_, rfl⟩
    rw [hAA] at HE hA ⊢
    have hAI : ¬ (A : Int) = 0 := by omega
    clear hAA
    go_wp2
    go_ret
    exact ⟨by rw [HE.out]; rfl, F, by rw [HST.out]; exact ⟨b, vB, _, cs, ds, rfl, HR.out⟩, fun k hk => Or.inl hk, Kp.refl _ _⟩
  have hA0 : dAsk s i = 0 := by omega
  rw [if_neg hA] at HE
  rw [hA0]
  have HLt := hid5 (dAsk_lt hA0)
  clear hA
  by_cases q1 : 128 < n
  · have q1I : (128 : Int) < (n : Int) := by omega
    rw [if_pos q1] at HE
    rw [if_pos (Or.inr q1)] at HST
    clear hA0
    go_wp2
    go_ret
    exact ⟨by rw [HE.out]; rfl, F, by rw [HST.out]; exact ⟨b, vB, _, cs, ds, rfl, HR.out⟩, fun k hk => Or.inl hk, Kp.refl _ _⟩
  have q1I : ¬ (128 : Int) < (n : Int) := by omega
  rw [if_neg q1] at HE
  rw [if_neg (by omega)] at HST
  obtain ⟨I, rfl⟩ : ∃ I : Nat, i = (I : Int) := ⟨i.toNat, by have := HLt.out; omega⟩
  have HI : Hid (I < s.bl.length) := by have := HLt.out.2.2; rw [Int.toNat_natCast] at this; exact this
  rw [Int.toNat_natCast] at HST
  clear hA0 HLt
  go_upto_region 6 with fail
  have hbD : Below w1.heap.size w1 w1.drew := (Below.refl _ _).drew
  have HRd : Hid (Rd5 w1.drew b vB (.slice aU m pU) cs ds F s) := HR.out.1.later hbD
  have HLd : Hid (Bs w1.drew (.slice av n cv) l) := HL.out.1.later hbD
  have HKd : Hid (Kp F w1 w1.drew ∧ w1.drew.heap.size = w1.heap.size) := ⟨Kp.of hbD, rfl⟩
  have d1 := HRd.out.c1
  refine wp_region_held_drew (S := fun _ => True) (by kernel_rfl) trivial (fun HS => ?_)
  clear hbD
  generalize w1.drew = q0 at *
  refine wpAnyH_take (i := 0) (v := ?v1) rfl (by kernel_rfl) (by kernel_rfl) (by kernel_rfl) (fun _ _ _ h => h) (Or.inl ⟨by kernel_rfl, ?h1⟩) HS ?r1
  case h1 => (rintro w n0; go_simp) <;> with_reducible rfl
  try simp only [Act.put, List.getElem_toArray, List.getElem_cons_succ, List.getElem_cons_zero, List.setIfInBounds_toArray, List.set_cons_zero, List.set_cons_succ]
  refine wpAnyH_take (i := 1) (v := ?v2) rfl (by kernel_rfl) (by kernel_rfl) (by kernel_rfl) (fun _ _ _ h => h) (Or.inl ⟨by kernel_rfl, ?h2⟩) HS ?r2
  case h2 => (rintro w n0; go_simp) <;> with_reducible rfl
  try simp only [Act.put, List.getElem_toArray, List.getElem_cons_succ, List.getElem_cons_zero, List.setIfInBounds_toArray, List.set_cons_zero, List.set_cons_succ]
  refine wpAnyH_take (i := 2) (v := ?v3) rfl (by kernel_rfl) (by kernel_rfl) (by kernel_rfl) (fun _ _ _ h => h) (Or.inl ⟨by kernel_rfl, ?h3⟩) HS ?r3
  case h3 => (rintro w n0; go_simp) <;> with_reducible rfl
  try simp only [Act.put, List.getElem_toArray, List.getElem_cons_succ, List.getElem_cons_zero, List.setIfInBounds_toArray, List.set_cons_zero, List.set_cons_succ]
  refine wpAnyH_take (i := 3) (v := ?v4) rfl (by kernel_rfl) (by kernel_rfl) (by kernel_rfl) (fun _ _ _ h => h) (Or.inl ⟨by kernel_rfl, ?h4⟩) HS ?r4
  case h4 => (rintro w n0; go_simp) <;> with_reducible rfl
  try simp only [Act.put, List.getElem_toArray, List.getElem_cons_succ, List.getElem_cons_zero, List.setIfInBounds_toArray, List.set_cons_zero, List.set_cons_succ]
  refine wpAnyH_take (i := 5) (v := ?v5) rfl (by kernel_rfl) (by kernel_rfl) (by kernel_rfl) (fun _ _ _ h => h) (Or.inl ⟨by kernel_rfl, ?h5⟩) HS ?r5
  case h5 => (rintro w n0; go_simp) <;> with_reducible rfl
  try simp only [Act.put, List.getElem_toArray, List.getElem_cons_succ, List.getElem_cons_zero, List.setIfInBounds_toArray, List.set_cons_zero, List.set_cons_succ]
  refine wpAnyH_take (i := 6) (v := ?v6) rfl (by kernel_rfl) (by kernel_rfl) (by kernel_rfl) (fun _ _ _ h => h) (Or.inl ⟨by kernel_rfl, ?h6⟩) HS ?r6
  case h6 => (rintro w n0; go_simp) <;> with_reducible rfl
  try simp only [Act.put, List.getElem_toArray, List.getElem_cons_succ, List.getElem_cons_zero, List.setIfInBounds_toArray, List.set_cons_zero, List.set_cons_succ]
  refine wpAnyH_ready (rs := [4, 7]) (by kernel_rfl) (by simp) ?_
  refine AllReadyH.cons rfl (fun K hK => ?ba) (AllReadyH.cons rfl (fun K hK => ?bb) AllReadyH.nil)
  case' ba =>
    go_simp
    refine hK.out _ _ trivial (fun HS => ?_)
    clear hK K
    try simp only [Act.put, List.getElem_toArray, List.getElem_cons_succ, List.getElem_cons_zero, List.setIfInBounds_toArray, List.set_cons_zero, List.set_cons_succ]
    refine wpAnyH_ready (rs := [7]) (by kernel_rfl) (by simp) ?_
    refine AllReadyH.cons rfl (fun K hK => ?_) AllReadyH.nil
    go_simp
    refine (refFull _ l (by have := HN.out; omega) _ HLd.out).mono ?_
    rintro e q1 ⟨v1, rfl, hB1, hO1, hW1⟩
    obtain ⟨a1, p1, rfl, -, -⟩ := hB1.len
    have HF5 : Hid ((full l).length = 128 ∧ okb (full l)) := ⟨full_len (by have := HN.out; omega), full_ok (by have := HN.out; omega) HL.out.2⟩
    have HB1 : Hid (Bs q1 (.slice a1 (full l).length p1) (full l) ∧ Ow q0.heap.size (.slice a1 (full l).length p1) ∧ Below q0.heap.size q0 q1) := ⟨hB1, hO1, hW1⟩
    have e1 := cell_later hW1 d1
    have e2 : ∀ ob, (q1.alloc ob).cell? ⟨b, 1, none⟩ = some (.slice aU m pU) := fun ob => cell_later (bel1 _ _) e1
    rw [HF5.out.1] at HB1 ⊢
    clear hB1 hO1 hW1
    refine hK.out _ _ trivial (fun HS => ?_)
    clear hK K
    try simp only [Act.put, List.getElem_toArray, List.getElem_cons_succ, List.getElem_cons_zero, List.setIfInBounds_toArray, List.set_cons_zero, List.set_cons_succ]
    refine wpAnyH_take (i := 8) (v := ?_) rfl (by kernel_rfl) (by kernel_rfl) (by kernel_rfl) (fun _ _ _ h => h) (Or.inl ⟨by kernel_rfl, ?_⟩) HS ?_
    rotate_left
    · (rintro w n0; go_simp) <;> with_reducible rfl
    try simp only [Act.put, List.getElem_toArray, List.getElem_cons_succ, List.getElem_cons_zero, List.setIfInBounds_toArray, List.set_cons_zero, List.set_cons_succ]
    refine wpAnyH_ready (rs := [9]) (by kernel_rfl) (by simp) ?_
    refine AllReadyH.cons rfl (fun K hK => ?_) AllReadyH.nil
    go_simp
    refine hK.out _ _ trivial (fun HS => ?_)
    clear hK K
    try simp only [Act.put, List.getElem_toArray, List.getElem_cons_succ, List.getElem_cons_zero, List.setIfInBounds_toArray, List.set_cons_zero, List.set_cons_succ]
  case' bb =>
    go_simp
    refine (refFull _ l (by have := HN.out; omega) _ HLd.out).mono ?_
    rintro e q1 ⟨v1, rfl, hB1, hO1, hW1⟩
    obtain ⟨a1, p1, rfl, -, -⟩ := hB1.len
    have HF5 : Hid ((full l).length = 128 ∧ okb (full l)) := ⟨full_len (by have := HN.out; omega), full_ok (by have := HN.out; omega) HL.out.2⟩
    have HB1 : Hid (Bs q1 (.slice a1 (full l).length p1) (full l) ∧ Ow q0.heap.size (.slice a1 (full l).length p1) ∧ Below q0.heap.size q0 q1) := ⟨hB1, hO1, hW1⟩
    have e1 := cell_later hW1 d1
    have e2 : ∀ ob, (q1.alloc ob).cell? ⟨b, 1, none⟩ = some (.slice aU m pU) := fun ob => cell_later (bel1 _ _) e1
    rw [HF5.out.1] at HB1 ⊢
    clear hB1 hO1 hW1
    refine hK.out _ _ trivial (fun HS => ?_)
    clear hK K
    try simp only [Act.put, List.getElem_toArray, List.getElem_cons_succ, List.getElem_cons_zero, List.setIfInBounds_toArray, List.set_cons_zero, List.set_cons_succ]
    refine wpAnyH_take (i := 8) (v := ?_) rfl (by kernel_rfl) (by kernel_rfl) (by kernel_rfl) (fun _ _ _ h => h) (Or.inl ⟨by kernel_rfl, ?_⟩) HS ?_
    rotate_left
    · (rintro w n0; go_simp) <;> with_reducible rfl
    try simp only [Act.put, List.getElem_toArray, List.getElem_cons_succ, List.getElem_cons_zero, List.setIfInBounds_toArray, List.set_cons_zero, List.set_cons_succ]
    refine wpAnyH_ready (rs := [4, 9]) (by kernel_rfl) (by simp) ?_
    refine AllReadyH.cons rfl (fun K hK => ?bc) (AllReadyH.cons rfl (fun K hK => ?bd) AllReadyH.nil)
  case' bc =>
    go_simp
    refine hK.out _ _ trivial (fun HS => ?_)
    clear hK K
    try simp only [Act.put, List.getElem_toArray, List.getElem_cons_succ, List.getElem_cons_zero, List.setIfInBounds_toArray, List.set_cons_zero, List.set_cons_succ]
    refine wpAnyH_ready (rs := [9]) (by kernel_rfl) (by simp) ?_
    refine AllReadyH.cons rfl (fun K hK => ?_) AllReadyH.nil
    go_simp
    refine hK.out _ _ trivial (fun HS => ?_)
    clear hK K
    try simp only [Act.put, List.getElem_toArray, List.getElem_cons_succ, List.getElem_cons_zero, List.setIfInBounds_toArray, List.set_cons_zero, List.set_cons_succ]
  case' bd =>
    go_simp
    refine hK.out _ _ trivial (fun HS => ?_)
    clear hK K
    try simp only [Act.put, List.getElem_toArray, List.getElem_cons_succ, List.getElem_cons_zero, List.setIfInBounds_toArray, List.set_cons_zero, List.set_cons_succ]
    refine wpAnyH_ready (rs := [4]) (by kernel_rfl) (by simp) ?_
    refine AllReadyH.cons rfl (fun K hK => ?_) AllReadyH.nil
    go_simp
    refine hK.out _ _ trivial (fun HS => ?_)
    clear hK K
    try simp only [Act.put, List.getElem_toArray, List.getElem_cons_succ, List.getElem_cons_zero, List.setIfInBounds_toArray, List.set_cons_zero, List.set_cons_succ]
  all_goals
    clear d1 e1 e2
    refine wpAnyH_ready (rs := [10]) (by kernel_rfl) (by simp) ?_
    refine AllReadyH.cons rfl (fun K hK => ?_) AllReadyH.nil
    rw [if_pos (by kernel_rfl)]
    refine apUn_op _ _ rfl HRd.out rfl HB1.out.2.2 I a1 128 p1 (full l) HB1.out.1 HB1.out.2.1 HI.out HF5.out.2 _ rfl (by have := HM.out; omega) ?_
    intro vU' q2 hsl hc1 hf1 hR2 hK2
    obtain ⟨a2, p2, rfl⟩ := hsl
    rw [HM.out.1] at hR2 hK2 ⊢
    have HR2 : Hid (Rd5 (q2.setCell ⟨b, 1, none⟩ (.slice a2 (m + 1) p2)) b vB (.slice a2 (m + 1) p2) cs (ds ++ [.int .i64 (I : Int), .slice a1 128 p1]) (fun k => F k ∨ (q0.heap.size ≤ k ∧ k < q2.heap.size)) { s with un := s.un ++ [(I, full l)] } ∧ Kp F q0 (q2.setCell ⟨b, 1, none⟩ (.slice a2 (m + 1) p2))) := ⟨hR2, hK2⟩
    clear hR2 hK2
    refine hK.out _ _ trivial (fun HS => ?_)
    clear hK K HRd HLd HB1
    try simp only [Act.put, List.getElem_toArray, List.getElem_cons_succ, List.getElem_cons_zero, List.setIfInBounds_toArray, List.set_cons_zero, List.set_cons_succ]
    refine wpAnyH_take (i := 11) (v := ?_) rfl (by kernel_rfl) (by kernel_rfl) (by kernel_rfl) (fun _ _ _ h => h) (Or.inl ⟨by kernel_rfl, ?_⟩) HS ?_
    rotate_left
    · (rintro w n0; go_simp) <;> with_reducible rfl
    try simp only [Act.put, List.getElem_toArray, List.getElem_cons_succ, List.getElem_cons_zero, List.setIfInBounds_toArray, List.set_cons_zero, List.set_cons_succ]
    refine wpAnyH_take (i := 12) (v := ?_) rfl (by kernel_rfl) (by kernel_rfl) (by kernel_rfl) (fun _ _ _ h => h) (Or.inl ⟨by kernel_rfl, ?_⟩) HS ?_
    rotate_left
    · (rintro w n0; go_simp) <;> with_reducible rfl
    try simp only [Act.put, List.getElem_toArray, List.getElem_cons_succ, List.getElem_cons_zero, List.setIfInBounds_toArray, List.set_cons_zero, List.set_cons_succ]
    refine wpAnyH_ready (rs := [13]) (by kernel_rfl) (by simp) ?_
    refine AllReadyH.cons rfl (fun K hK => ?_) AllReadyH.nil
    go_simp
    refine hK.out _ _ trivial (fun HS => ?_)
    clear hK K
    try simp only [Act.put, List.getElem_toArray, List.getElem_cons_succ, List.getElem_cons_zero, List.setIfInBounds_toArray, List.set_cons_zero, List.set_cons_succ]
    refine wpAnyH_done (by kernel_rfl) ?_ _
    clear HS hc1 hf1
    have HB2 : Hid (Bdk { s with un := s.un ++ [(I, full l)] }) := HR.out.2
    have HG2 : Hid (dGo { s with un := s.un ++ [(I, full l)] } = dGo s) := rfl
    have HSz : Hid (q2.heap.size = (q2.setCell ⟨b, 1, none⟩ (.slice a2 (m + 1) p2)).heap.size) := by show _ = _; rw [World.size_setCell]
    go_upto_region 7 with fail
    generalize q2.setCell ⟨b, 1, none⟩ (.slice a2 (m + 1) p2) = q3 at *
    go_wp2_with fail
    refine (refGoes HR2.out.1 HB2.out).mono ?_
    rintro e q4 ⟨rfl, hR4, hK4⟩
    rw [HG2.out]
    have HR4 : Hid (Ad RD (.pointer (some ⟨b, 0, none⟩)) F (dGone { s with un := s.un ++ [(I, full l)] }) w1 q4) := by
      refine ⟨fun k => F k ∨ (q0.heap.size ≤ k ∧ k < q2.heap.size), ⟨b, vB, _, cs, _, rfl, hR4, bdk_gone HB2.out⟩, fun k hk => ?_, ?_⟩
      · rcases hk with q | q
        · exact Or.inl q
        · exact Or.inr (by have := HKd.out.2; omega)
      · exact (HKd.out.1.trans HR2.out.2 (fun k hk => Or.inl hk)).trans hK4 (fun k hk => Or.inl (by rw [hk]; exact HR.out.1.fb))
    clear hR4 hK4 HR2 HB2 HG2 HSz
    cases hgo : dGo s with
    | true =>
      rw [hgo, if_pos rfl] at HE
      clear hgo
      go_wp2
      go_ret
      exact ⟨by rw [HE.out]; rfl, by rw [HST.out]; exact HR4.out⟩
    | false =>
      rw [hgo, if_neg (by simp)] at HE
      clear hgo
      go_wp2
      go_ret
      exact ⟨by rw [HE.out]; rfl, by rw [HST.out]; exact HR4.out⟩
end Go.Proofs.YthnpdcblfocemaaGreatDoor
