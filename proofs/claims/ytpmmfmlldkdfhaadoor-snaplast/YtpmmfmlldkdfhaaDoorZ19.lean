/-
Layer 15: the law's fates; bytes that are spoilt.
Layer 16: the law's fates, few, same and awake.
Layer 16: the law's example.
-/
import Derived.Test.YtpmmfmlldkdfhaaDoorZ18
import Derived.Test.YtpmmfmlldkdfhaaDoorZ09
import Derived.Laws.AppendOwn
import Derived.Laws.BytesArg
import Derived.Lib.SlBytesConst

set_option linter.unusedVariables false
set_option linter.unusedSimpArgs false
namespace Go.Proofs.YtpmmfmlldkdfhaaDoor
open Go.RowKit

/-- Fates as cells. -/
def ftc : List (Int × Int) → List Value
  | [] => []
  | f :: fs => .int .i64 f.1 :: .int .i64 f.2 :: ftc fs
theorem ftc_app (a b : List (Int × Int)) : ftc (a ++ b) = ftc a ++ ftc b := by
  induction a with
  | nil => rfl
  | cons f fs ih => simp only [List.cons_append, ftc, ih]
theorem ftc_at : ∀ (fs : List (Int × Int)) (j : Nat), j < fs.length → (ftc fs)[j * 2]? = some (.int .i64 (fs.getD j (0, 0)).1) ∧ (ftc fs)[j * 2 + 1]? = some (.int .i64 (fs.getD j (0, 0)).2) := by
  intro fs
  induction fs with
  | nil => intro j hj; simp at hj
  | cons f fs ih =>
    intro j hj
    cases j with
    | zero => exact ⟨rfl, rfl⟩
    | succ j =>
      have h := ih j (by simpa using hj)
      have e1 : (j + 1) * 2 = j * 2 + 1 + 1 := by omega
      refine ⟨?_, ?_⟩
      · rw [e1]; simpa [ftc, List.getD] using h.1
      · rw [show (j + 1) * 2 + 1 = j * 2 + 1 + 1 + 1 by omega]; simpa [ftc, List.getD] using h.2
theorem own_fts {w : World} {base : Nat} {T : TypeId} {v : Value} {fs : List (Int × Int)} (h : w.ownsRow base T 2 v fs.length (ftc fs)) : Fts w v fs ∧ Ow base v := by
  rcases id h.2 with ⟨rfl, h0⟩ | ⟨g, c, cur, rfl, hg, hh, hc1, hc2, r⟩
  · have e : fs = [] := List.eq_nil_of_length_eq_zero h0
    subst e
    exact ⟨fts_nil w, fun a n cap e => by cases e⟩
  · refine ⟨⟨_, c, g, 0, rfl, hc1, hc2, fun _ => rfl, fun j hj => ?_⟩, fun a n cap e hn => by cases e; exact hg⟩
    obtain ⟨e1, e2⟩ := ftc_at fs j hj
    rw [Nat.zero_add]
    exact ⟨(h.cellAt (j * 2) (by omega)).trans e1, (h.cellAt (j * 2 + 1) (by omega)).trans e2⟩
theorem dinfo_ft : (Tryd.prog.info? 101).map (fun i => (i.zero, i.size, i.bytes)) = some (some (.agg #[.int .i64 0, .int .i64 0]), 2, 16) := by kernel_rfl
theorem fs_more {fs : List (Int × Int)} {j : Nat} (hj : j < fs.length) : fs.take j ++ [fs.getD j (0, 0)] = fs.take (j + 1) := by
  rw [List.take_add_one]
  congr 1
  simp [List.getD, hj]
end Go.Proofs.YtpmmfmlldkdfhaaDoor
set_option linter.unusedVariables false
set_option linter.unusedSimpArgs false
namespace Go.Proofs.YtpmmfmlldkdfhaaDoor
open Go.RowKit

set_option maxRecDepth 100000 in
set_option maxHeartbeats 8000000 in
theorem fates16 (v : Value) (fs : List (Int × Int)) (hl : fs.length ≤ 1000) (w : World) (h : Fts w v fs) :
    Calls Tryd.prog 22 #[v] w fun e w' => ∃ v', e = .returned v' ∧ Fts w' v' fs ∧ Ow w.heap.size v' ∧ Below w.heap.size w w' := by
  have HL : Hid (Fts w v fs) := h
  obtain ⟨ad, cap, rfl, k1, k2⟩ := h.len
  unfold maxLen at k2
  obtain ⟨i0, hti, hy0, hy1, hy2⟩ := info_parts dinfo_ft
  obtain ⟨n, hn⟩ : ∃ n, fs.length = n := ⟨_, rfl⟩
  have HN : Hid (fs.length = n ∧ n ≤ 1000) := ⟨hn, by omega⟩
  rw [hn] at k1 HL ⊢
  clear h hn hl
  go_enter Tryd.func22, Tryd.ntmps22
  go_upto_region 3 with fail
  go_loopw [3, 8] (fun s3 s8 wr => ∃ j : Nat, j ≤ n ∧ s8 = .int .i64 (j : Int) ∧ Hid (wr.ownsRow w.heap.size 101 2 s3 j (ftc (fs.take j)) ∧ Below w.heap.size w wr)) (fun _ s8 _ => n - (intOf s8).toNat)
  case atStart => exact ⟨0, by omega, rfl, World.ownsRow_nil _ _ _ _, Below.refl _ _⟩
  case round =>
    obtain ⟨j, hj, rfl, HW⟩ := hrel
    by_cases hlt : j < n
    · have hjI : (j : Int) < (n : Int) := by omega
      have hj0 : (0 : Int) ≤ (j : Int) := by omega
      have hjm : j < fs.length := by have := HN.out; omega
      obtain ⟨bf, of, rfl, c0, c1⟩ := HL.out.cel j hjm
      have x0 := cell_later HW.out.2 c0
      have x1 := cell_later HW.out.2 c1
      have HS := hid5 (fs_more hjm)
      obtain ⟨f, hf⟩ : ∃ f, fs.getD j (0, 0) = f := ⟨_, rfl⟩
      rw [hf] at x0 x1 HS
      obtain ⟨f1, f2⟩ := f
      dsimp only at x0 x1
      clear c0 c1 hf hjm
      go_upto_region 6 with (at_builtin; refine wpList_append_own _ rfl _ _ 55 rfl w.heap.size 101 i0 (.agg #[.int .i64 0, .int .i64 0]) 2 16 Tryd.underlying55 hti hy0 hy1 hy2 rfl (by decide) u3 j (ftc (fs.take j)) rfl ((own_later (own_later HW.out.1 (bel1 _ _)) (bel1 _ _))) ⟨wr.heap.size + 1, 0, none⟩ 1 1 [.int .i64 f1, .int .i64 f2] (by first | rfl | (simp [World.size_alloc]; done)) rfl (fun k u hk => by (rcases k with _ | _ | k <;> simp at hk <;> (try subst hk) <;> simp [go_sem, Addr.add])) (fun u hu => by simp only [List.mem_cons, List.not_mem_nil, or_false] at hu; rcases hu with rfl | rfl <;> rfl) (by have := HN.out; unfold maxLen; omega) (by have := HN.out; omega) (by rw [World.size_alloc, World.size_alloc]; have := HW.out.2.size; omega) ?_; intro v3 w3 hown hg3 _)
      have HW3 : Hid (w3.ownsRow w.heap.size 101 2 v3 (j + 1) (ftc (fs.take (j + 1))) ∧ Below w.heap.size w w3) := by
        refine ⟨by rw [← HS.out, ftc_app]; exact hown, ?_⟩
        exact (((HW.out.2.alloc HW.out.2.size _).alloc (by rw [World.size_alloc]; have := HW.out.2.size; omega) _)).grown hg3 (by rw [World.size_alloc, World.size_alloc]; have := HW.out.2.size; omega) (fun k hk => (HW.out.1.lt k hk).1)
      clear hown hg3 HW HS x0 x1
      go_wp2
      go_roundw
      case rel => exact ⟨j + 1, by omega, by go_num, HW3⟩
      case measure => simp [intOf]; omega
    · obtain rfl : j = n := by omega
      have hjI : ¬ (j : Int) < (j : Int) := by omega
      have HE : Hid (Fts wr u3 fs ∧ Ow w.heap.size u3) := by
        have h1 := HW.out.1
        rw [List.take_of_length_le (by have := HN.out; omega)] at h1
        have e := HN.out.1
        rw [← e] at h1
        exact own_fts h1
      go_wp2
      go_ret
      exact ⟨_, rfl, HE.out.1, HE.out.2, HW.out.2⟩

/-- So few that a play goes through with them. -/
def Fev (os : List Opv) : Prop := os.length ≤ 60 ∧ ∀ j, j < os.length → (os.getD j op0).b.length ≤ 1500 ∧ (os.getD j op0).fs.length ≤ 40
/-- What few answers. -/
def FwF (os : List Opv) (w : World) (e : Ending) (w' : World) : Prop := ∃ B : Bool, e = .returned (.bool B) ∧ (B = true → Fev os) ∧ Below w.heap.size w w'
theorem FwF.no {os : List Opv} {w w' : World} (hb : Below w.heap.size w w') : FwF os w (.returned (.bool false)) w' := ⟨false, rfl, (fun q => by cases q), hb⟩
theorem FwF.yes {os : List Opv} {w w' : World} (h : Fev os) (hb : Below w.heap.size w w') : FwF os w (.returned (.bool true)) w' := ⟨true, rfl, fun _ => h, hb⟩
set_option maxRecDepth 100000 in
set_option maxHeartbeats 8000000 in
theorem few16 (v : Value) (os : List Opv) (w : World) (h : Ops w v os) :
    Calls Tryd.prog 8 #[v] w fun e w' => FwF os w e w' := by
  have HL : Hid (Ops w v os) := h
  obtain ⟨ad, cap, rfl, k1, k2⟩ := h.len
  unfold maxLen at k2
  obtain ⟨m, hm⟩ : ∃ m, os.length = m := ⟨_, rfl⟩
  have HM : Hid (os.length = m) := hm
  rw [hm] at k1 HL ⊢
  clear h hm
  go_enter Tryd.func8, Tryd.ntmps8
  by_cases q1 : 60 < m
  · have q1I : (60 : Int) < (m : Int) := by omega
    go_wp2
    go_ret
    exact FwF.no (Below.refl _ _)
  have q1I : ¬ (60 : Int) < (m : Int) := by omega
  go_upto_region 4 with fail
  go_loopw [10] (fun s10 wr => ∃ j : Nat, j ≤ m ∧ s10 = .int .i64 (j : Int) ∧ Hid (∀ k, k < j → (os.getD k op0).b.length ≤ 1500 ∧ (os.getD k op0).fs.length ≤ 40) ∧ Hid (Below w.heap.size w wr)) (fun s10 _ => m - (intOf s10).toNat)
  case atStart => exact ⟨0, by omega, rfl, fun k hk => by omega, Below.refl _ _⟩
  case round =>
    obtain ⟨j, hj, rfl, HF, HB⟩ := hrel
    by_cases hlt : j < m
    · have hjI : (j : Int) < (m : Int) := by omega
      have hM := HM.out
      obtain ⟨b, o, vb, vf, rfl, c0, c1, c2, c3, hB, hF⟩ := HL.out.cel j (by omega)
      obtain ⟨a1, p1, rfl, -, -⟩ := hB.len
      obtain ⟨a2, p2, rfl, -, -⟩ := hF.len
      have x0 := cell_later HB.out c0
      have x1 := cell_later HB.out c1
      have x2 := cell_later HB.out c2
      have x3 := cell_later HB.out c3
      have HF2 : Hid ((os.getD j op0).b.length ≤ 1500 → (os.getD j op0).fs.length ≤ 40 → ∀ k, k < j + 1 → (os.getD k op0).b.length ≤ 1500 ∧ (os.getD k op0).fs.length ≤ 40) := fun h1 h2 k hk => by
        by_cases e : k = j
        · subst e; exact ⟨h1, h2⟩
        · exact HF.out k (by omega)
      have HB2 : Hid (∀ ob : Obj, Below w.heap.size w (wr.alloc ob)) := fun ob => bchain HB.out (bel1 _ _)
      clear c0 c1 c2 c3 hB hF hM HF HB
      generalize (os.getD j op0).k = kk at *
      generalize (os.getD j op0).i = ii at *
      generalize (os.getD j op0).b.length = nb at *
      generalize (os.getD j op0).fs.length = nf at *
      by_cases q2 : 1500 < nb
      · have q2I : (1500 : Int) < (nb : Int) := by omega
        go_wp2
        go_ret
        exact FwF.no (HB2.out _)
      have q2I : ¬ (1500 : Int) < (nb : Int) := by omega
      by_cases q3 : 40 < nf
      · have q3I : (40 : Int) < (nf : Int) := by omega
        go_wp2
        go_ret
        exact FwF.no (HB2.out _)
      have q3I : ¬ (40 : Int) < (nf : Int) := by omega
      have HF3 := HF2.out (by omega) (by omega)
      have HF4 : Hid (∀ k, k < j + 1 → (os.getD k op0).b.length ≤ 1500 ∧ (os.getD k op0).fs.length ≤ 40) := HF3
      clear HF2 HF3
      go_wp2
      go_roundw
      case rel => exact ⟨j + 1, by omega, by go_num, HF4, HB2.out _⟩
      case measure => simp [intOf]; omega
    · obtain rfl : j = m := by omega
      have hjI : ¬ (j : Int) < (j : Int) := by omega
      have HP : Hid (Fev os) := ⟨by have := HM.out; omega, fun k hk => HF.out k (by have := HM.out; omega)⟩
      go_wp2
      go_ret
      exact FwF.yes HP.out HB.out
set_option maxRecDepth 100000 in
set_option maxHeartbeats 8000000 in
theorem same16 {V : Disk1} {w0 w : World} {d r : Value} {s : Dsk} {N : Nat → Prop} (h : D2 V w0 w d r s s N) (hbl : s.bl.length ≤ 1000) :
    Calls Tryd.prog 27 #[d, r] w fun e w' => e = .returned (.bool true) ∧ Below w.heap.size w w' := by
  have HD : Hid (D2 V w0 w d r s s N) := h
  obtain ⟨br, vB, vU, cs, ds, G2, er, hR⟩ := h.ref
  obtain ⟨aB, pB, rfl⟩ := hR.sB
  subst er
  have z0 := hR.c0
  obtain ⟨nb, hnb⟩ : ∃ nb, s.bl.length = nb := ⟨_, rfl⟩
  have HNb : Hid (s.bl.length = nb) := hnb
  rw [hnb] at z0 hR hbl
  have HR : Hid (∃ vU cs ds G, Rd5 w br (.slice aB nb pB) vU cs ds G s) := ⟨_, _, _, _, hR⟩
  clear h hR hnb
  go_enter Tryd.func27, Tryd.ntmps27
  go_upto_region 2 with fail
  go_loopw [14] (fun s14 wr => ∃ j : Nat, j ≤ nb ∧ s14 = .int .i64 (j : Int) ∧ Hid (Below w.heap.size w wr)) (fun s14 _ => nb - (intOf s14).toNat)
  case atStart => exact ⟨0, by omega, rfl, Below.refl _ _⟩
  case round =>
    obtain ⟨j, hj, rfl, HB⟩ := hrel
    by_cases hlt : j < nb
    · have hjI : (j : Int) < (nb : Int) := by omega
      have hjB : j < s.bl.length := by have := HNb.out; omega
      have HDr : Hid (D2 V w0 wr d (.pointer (some ⟨br, 0, none⟩)) s s (fun _ => False)) := (HD.out.later HB.out).weak (fun k hk => hk.elim)
      obtain ⟨vU, cs, ds, G, hR⟩ := HR.out
      have hR := hR.later HB.out
      obtain ⟨gB, xo, eB, co, -, tx, -⟩ := hR.atB j hjB
      subst eB
      obtain ⟨T, hT⟩ : ∃ T, s.bl.getD j [] = T := ⟨_, rfl⟩
      have HT : Hid (s.bl.getD j [] = T) := hT
      have tx1 := tx.1
      rw [hT] at tx1
      obtain ⟨ax, px, ex, -, -⟩ := tx1.len
      subst ex
      have HX : Hid (Bs wr (.slice ax T.length px) T) := tx1
      clear hR tx tx1 hT
      generalize T.length = L at *
      go_wp2_with fail
      refine (d2Safe HDr.out j hjB).mono ?_
      rintro e t2 ⟨v2, rfl, hB2, hO2, hW2⟩
      rw [HT.out] at hB2
      have HX2 : Hid (Bs t2 v2 T ∧ Bs t2 (.slice ax L px) T ∧ Below w.heap.size w t2) := ⟨hB2, HX.out.later hW2, bchain HB.out hW2⟩
      obtain ⟨a2, p2, rfl, -, -⟩ := hB2.len
      clear hB2 hO2 hW2 HX HDr
      generalize T.length = L2 at *
      go_wp2_with fail
      refine (sameB _ _ _ _ t2 HX2.out.1 HX2.out.2.1).mono ?_
      rintro e t3 ⟨rfl, hW3⟩
      rw [decide_eq_true (rfl : T = T)]
      have HB3 : Hid (Below w.heap.size w t3) := bchain HX2.out.2.2 hW3
      clear hW3 HX2 co
      go_wp2
      go_roundw
      case rel => exact ⟨j + 1, by omega, by first | rfl | go_num, HB3⟩
      case measure => simp only [intOf]; omega
    · obtain rfl : j = nb := by omega
      have hjI : ¬ (j : Int) < (j : Int) := by omega
      have z4 : wr.cell? ⟨br, 4, none⟩ = some (.bool s.dn) := by
        obtain ⟨vU, cs, ds, G, hR⟩ := HR.out
        exact (hR.later HB.out).c4
      go_upto_region 8 with fail
      have HDr : Hid (D2 V w0 wr.drew d (.pointer (some ⟨br, 0, none⟩)) s s (fun _ => False) ∧ Below w.heap.size w wr.drew) := ⟨(HD.out.later (HB.out.drew)).weak (fun k hk => hk.elim), HB.out.drew⟩
      refine wp_region_held_drew (S := fun W => W.cell? ⟨br, 4, none⟩ = some (.bool s.dn)) (by kernel_rfl) z4 (fun HS => ?_)
      clear z0 z4
      generalize wr.drew = q0 at *
      refine wpAnyH_take (i := 0) (v := ?v1) rfl (by kernel_rfl) (by kernel_rfl) (by kernel_rfl) (fun _ _ _ h => h) (Or.inl ⟨by kernel_rfl, ?h1⟩) HS ?r1
      case h1 => (rintro w n0; go_simp) <;> with_reducible rfl
      try simp only [Act.put, List.getElem_toArray, List.getElem_cons_succ, List.getElem_cons_zero, List.setIfInBounds_toArray, List.set_cons_zero, List.set_cons_succ]
      refine wpAnyH_take (i := 2) (v := ?v2) rfl (by kernel_rfl) (by kernel_rfl) (by kernel_rfl) (fun _ _ _ h => h) (Or.inl ⟨by kernel_rfl, ?h2⟩) HS ?r2
      case h2 => (rintro w n0; go_simp) <;> with_reducible rfl
      try simp only [Act.put, List.getElem_toArray, List.getElem_cons_succ, List.getElem_cons_zero, List.setIfInBounds_toArray, List.set_cons_zero, List.set_cons_succ]
      refine wpAnyH_take (i := 3) (v := ?v3) rfl (by kernel_rfl) (by kernel_rfl) (by kernel_rfl) (fun _ _ _ h => h) (Or.inl ⟨by kernel_rfl, ?h3⟩) HS ?r3
      case h3 => (rintro w n0; go_simp) <;> with_reducible rfl
      try simp only [Act.put, List.getElem_toArray, List.getElem_cons_succ, List.getElem_cons_zero, List.setIfInBounds_toArray, List.set_cons_zero, List.set_cons_succ]
      refine wpAnyH_take (i := 4) (v := ?v4) rfl (by kernel_rfl) (by kernel_rfl) (by kernel_rfl) (fun _ _ _ h => h) (Or.inl ⟨by kernel_rfl, ?h4⟩) HS ?r4
      case h4 => (rintro w n0; go_simp) <;> with_reducible rfl
      try simp only [Act.put, List.getElem_toArray, List.getElem_cons_succ, List.getElem_cons_zero, List.setIfInBounds_toArray, List.set_cons_zero, List.set_cons_succ]
      refine wpAnyH_take (i := 5) (v := ?v5) rfl (by kernel_rfl) (by kernel_rfl) (by kernel_rfl) (fun _ _ _ h => h) (Or.inl ⟨by kernel_rfl, ?h5⟩) HS ?r5
      case h5 => (rintro w n0; go_simp) <;> with_reducible rfl
      try simp only [Act.put, List.getElem_toArray, List.getElem_cons_succ, List.getElem_cons_zero, List.setIfInBounds_toArray, List.set_cons_zero, List.set_cons_succ]
      refine wpAnyH_ready (rs := [1]) (by kernel_rfl) (by simp) ?_
      refine AllReadyH.cons rfl (fun K hK => ?_) AllReadyH.nil
      go_simp
      refine (d2Down HDr.out.1).mono ?_
      rintro e q1 ⟨rfl, hW⟩
      have HB2 : Hid (Below w.heap.size w q1) := bchain HDr.out.2 hW
      refine hK.out _ _ (cell_later hW HS) (fun HS => ?_)
      clear hK K hW HDr
      generalize s.dn = dn at *
      try simp only [Act.put, List.getElem_toArray, List.getElem_cons_succ, List.getElem_cons_zero, List.setIfInBounds_toArray, List.set_cons_zero, List.set_cons_succ]
      have hdn : (dn == dn) = true := by simp
      refine wpAnyH_take (i := 6) (v := ?v6) rfl (by kernel_rfl) (by kernel_rfl) (by kernel_rfl) (fun _ _ _ h => h) (Or.inl ⟨by kernel_rfl, ?h6⟩) HS ?r6
      case h6 => (rintro w n0; go_simp) <;> with_reducible rfl
      try simp only [Act.put, List.getElem_toArray, List.getElem_cons_succ, List.getElem_cons_zero, List.setIfInBounds_toArray, List.set_cons_zero, List.set_cons_succ]
      refine wpAnyH_take (i := 7) (v := ?v7) rfl (by kernel_rfl) (by kernel_rfl) (by kernel_rfl) (fun _ _ _ h => h) (Or.inl ⟨by kernel_rfl, ?h7⟩) HS ?r7
      case h7 => (rintro w n0; go_simp) <;> with_reducible rfl
      try simp only [Act.put, List.getElem_toArray, List.getElem_cons_succ, List.getElem_cons_zero, List.setIfInBounds_toArray, List.set_cons_zero, List.set_cons_succ]
      refine wpAnyH_done (by kernel_rfl) ?_ _
      clear HS
      go_wp2
      go_ret
      exact ⟨rfl, HB2.out⟩
end Go.Proofs.YtpmmfmlldkdfhaaDoor
set_option linter.unusedVariables false
set_option linter.unusedSimpArgs false
namespace Go.Proofs.YtpmmfmlldkdfhaaDoor
open Go.RowKit

theorem swSaveY {V : Disk1} {Q : Snap1 V} {w0 w w1 : World} {d q : Value} {s : Dsk} {at_ room : Nat} (h : Sw V Q w0 w d q s at_ room) (k : Below w.heap.size w w1) (hT : ST w0) (h1 : 1 ≤ room) (hr : at_ + 2 * (room + 1) ≤ s.bl.length) (hbl : s.bl.length ≤ 1000) (hu : s.un.length ≤ 400) {v : Value} {b : List Nat} (hv : Bs w1 v b) (hO : Ow w.heap.size v) (hb : ∀ c ∈ b, c < 256) (hl : b.length ≤ 100000) :
    Calls Tryd.prog 13 #[q, v] w1 fun e w' => e = .returned (.tuple #[.int .i64 (((svR s at_ room b).1 : Nat) : Int), .int .i64 (((svR s at_ room b).2.1 : Nat) : Int)]) ∧ Sw V Q w0 w' d q (svR s at_ room b).2.2 at_ room := by
  have hbe := (h.later k).bel
  obtain ⟨F, G, q1, q2, q3, q4, q5, q6⟩ := h
  have hF := V.dtB q1
  have d1 : V.Dt w1 d F s := V.dtK q1 (fun i hi => k.block i (hF i hi)) k.size
  have d2 := Q.stL q2 k
  exact (Q.save w1 q d F G s at_ room v b d2 d1 q5 (hT.later hbe) (fun k hk e => by have := q3 k hk; have := old_lt hT; omega) h1 hr hbl hu hv (ow_nf hO hF) hb hl).mono fun e w' ⟨e1, e2⟩ => ⟨e1, Sw.next d2 q3 q4 q5 (bchain q6 k) e2⟩
theorem bs_letter (w : World) (x : Nat) (t : TypeId) (fr : Nat × Nat) : Bs (w.alloc (.cells #[.int .u8 (x : Int)] t fr)) (.slice (some ⟨w.heap.size, 0, none⟩) 1 1) [x] :=
  ⟨_, 1, w.heap.size, 0, rfl, Nat.le_refl _, ⟨by unfold maxLen; omega, fun e => by cases e⟩, fun _ => rfl, fun k hk => by
    have hk0 : k < 1 := hk
    obtain rfl : k = 0 := by omega
    rw [Nat.zero_add, World.cell?_alloc_mark]
    rfl⟩
theorem ow_here {B : Nat} {b o n cap : Nat} (h : B ≤ b) : Ow B (.slice (some ⟨b, o, none⟩) n cap) := fun a n c e hn => by cases e; exact h
/-- The example's disks. -/
structure Aw16 (s1 s2 : Dsk) : Prop where
  e1 : svR (dNew 4) 0 1 [97] = (1, 0, s1)
  e2 : svR s1 0 1 [98] = (2, 0, s2)
  e3 : ldW s2 0 1 = ([98], 2, 0)
  j1 : Jq 4 s1
  j2 : Jq 4 s2
theorem tri16 {x : Nat × Nat × Dsk} {a b : Nat} (h1 : x.1 = a) (h2 : x.2.1 = b) : x = (a, b, x.2.2) := by
  obtain ⟨x1, x2, x3⟩ := x
  cases h1
  cases h2
  rfl
theorem aw16 : ∃ s1 s2, Aw16 s1 s2 := by
  have a0 : SnRest 0 1 0 [] (dNew 4) := rest_new (by omega) (by omega)
  obtain ⟨b1, b2, b3, b4⟩ := a0.calm (d := [97]) ⟨rfl, rfl⟩ (by simp) (by decide) (by omega)
  obtain ⟨c1, c2, c3, c4⟩ := b3.calm (d := [98]) b4 (by simp) (by decide) (by omega)
  have j1 := jq_sv (d := [97]) (at_ := 0) (room := 1) (jq_new 4) (by omega) (by omega)
  have j2 := jq_sv (d := [98]) (at_ := 0) (room := 1) j1 (by omega) (by omega)
  refine ⟨_, _, ?_, ?_, ?_, j1, j2⟩
  · exact tri16 b2 b1
  · exact tri16 c2 c1
  · unfold ldW
    rw [if_neg (by rw [c3.dn]; simp), c3.load]
    rfl
set_option maxRecDepth 100000 in
set_option maxHeartbeats 8000000 in
theorem awake16 {V : Disk1} (Q : Snap1 V) (w : World) (hT : ST w) :
    Calls Tryd.prog 7 #[] w fun e w' => e = .returned (.bool true) ∧ Below w.heap.size w w' := by
  obtain ⟨s1, s2, hS⟩ := aw16
  have HS : Hid (Aw16 s1 s2) := hS
  have HT : Hid (ST w) := hT
  clear hS hT
  have kc := fun (w : World) (C : Array Value) (n c : Nat) => Lib.run_convert_bytes_const (P := Tryd.prog) w 39 5 C n c Tryd.underlying39 Tryd.underlying5
  go_enter Tryd.func7, Tryd.ntmps7
  go_wp2_with fail
  refine (dwNew V w w 4 (by omega) (by omega) (Below.refl _ _)).mono ?_
  rintro e w1 ⟨p, rfl, hD1⟩
  have HD1 : Hid (Dw V w w1 p (dNew 4)) := hD1
  clear hD1
  go_wp2_with fail
  refine (swNew Q HD1.out 0 1 (by omega) (by omega) (by decide)).mono ?_
  rintro e w2 ⟨a, rfl, hD2⟩
  have HD2 : Hid (Sw V Q w w2 p (.pointer (some a)) (dNew 4) 0 1) := hD2
  clear hD2 HD1
  go_wp2_with fail
  refine (swSaveY HD2.out (bel1 _ _) HT.out (by omega) (by decide) (by decide) (by decide) (bs_letter w2 97 _ _) (ow_here (Nat.le_refl _)) (by decide) (by decide)).mono ?_
  rintro e w3 ⟨rfl, hD3⟩
  rw [HS.out.e1] at hD3 ⊢
  have HD3 : Hid (Sw V Q w w3 p (.pointer (some a)) s1 0 1) := hD3
  clear hD3 HD2
  go_wp2_with fail
  refine (swSaveY HD3.out (bel1 _ _) HT.out (by omega) (by rw [HS.out.j1.bl]; omega) (by rw [HS.out.j1.bl]; omega) (by have := HS.out.j1.le; omega) (bs_letter w3 98 _ _) (ow_here (Nat.le_refl _)) (by decide) (by decide)).mono ?_
  rintro e w4 ⟨rfl, hD4⟩
  rw [HS.out.e2] at hD4 ⊢
  have HD4 : Hid (Sw V Q w w4 p (.pointer (some a)) s2 0 1) := hD4
  clear hD4 HD3
  go_wp2_with fail
  refine (swLoad HD4.out HT.out (by omega) (by rw [HS.out.j2.bl]; omega) (by rw [HS.out.j2.bl]; omega) (by have := HS.out.j2.le; omega)).mono ?_
  rintro e w5 ⟨v5, rfl, hL5, hO5, hb5⟩
  rw [HS.out.e3] at hL5 ⊢
  have HB5 : Hid (Below w.heap.size w w5) := bchain HD4.out.bel hb5
  have hL5' : Bs w5 v5 [98] := hL5
  obtain ⟨a5, c5, rfl, -, -⟩ := hL5'.len
  obtain ⟨g2, o2, e2, cb⟩ := hL5'.cel 0 (by decide)
  subst e2
  have kv : ∀ W : World, W.cell? ⟨g2, o2, none⟩ = some (.int .u8 98) → (convert 39 9 (.slice (some ⟨g2, o2, none⟩) 1 c5)).run Tryd.prog W = .ok (.string (strOfNums [98])) W := fun W hW => run_convert_bytes_arg (P := Tryd.prog) W 39 5 Tryd.underlying39 Tryd.underlying5 g2 o2 1 c5 [98] rfl (fun i hi => by
    obtain rfl : i = 0 := by omega
    exact hW) 9 Tryd.underlying9
  have kv5 := kv w5 cb
  have hst : strOfNums [98] = ⟨#[98]⟩ := rfl
  rw [hst] at kv5
  clear hL5 hL5' hO5 hb5 HD4 kv hst
  go_wp2
  go_ret
  exact ⟨rfl, HB5.out⟩
end Go.Proofs.YtpmmfmlldkdfhaaDoor
