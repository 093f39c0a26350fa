/-
  Texts of this proof, joined: JqG JqJ JnTq.
-/
import Derived.Test.YthnpdcblfocemaaGreatDoorSP09
import Derived.Test.YthnpdcblfocemaaGreatDoorSP13
import Derived.Test.YthnpdcblfocemaaGreatDoorSP38
import Derived.Test.YthnpdcblfocemaaGreatDoorSP39
import Derived.WalkMore
import Derived.Scope
set_option linter.unusedVariables false
set_option linter.unusedSimpArgs false
namespace Go.Proofs.YthnpdcblfocemaaGreatDoor
open Go.RowKit

def Pjj (w : World) (c d base size : Nat) (j : Jst) : Prop := if j.gen = 0 then Pj w c d base size 0 0 0 else Pj w c d base size j.gen (j.n + 1) j.next
theorem Pjj.kept {w w' : World} {c d base size : Nat} {j : Jst} (h : Pjj w c d base size j) (k : w'.heap[c]? = w.heap[c]?) : Pjj w' c d base size j := by
  unfold Pjj at h ⊢
  split at h
  · rw [if_pos (by assumption)]; exact h.kept k
  · rw [if_neg (by assumption)]; exact h.kept k
theorem Pjj.lt {w : World} {c d base size : Nat} {j : Jst} (h : Pjj w c d base size j) : c < w.heap.size := by
  unfold Pjj at h
  split at h
  · exact h.lt
  · exact h.lt
set_option maxRecDepth 100000 in
set_option maxHeartbeats 8000000 in
theorem append17 (V : Disk1) (w : World) (c d : Nat) (F : Nat → Prop) (s : Dsk) (base size : Nat) (j : Jst) (v : Value) (r : List Nat) (hP : Pjj w c d base size j) (hD : V.Dt w (.pointer (some ⟨d, 0, none⟩)) F s) (hFc : ∀ k, F k → k ≠ c) (hT : JT w) (hFT : ∀ k, F k → k ≠ 0)
    (hs : base + size ≤ s.bl.length) (hbl : s.bl.length ≤ 900) (hu : s.un.length ≤ 100) (hnx : j.next ≤ size) (hjn : j.n ≤ 1000000) (hg : j.gen < 9223372036854775808) (hv : Bs w v r) (hnf : Nf F v) (hx : ∀ x ∈ r, x < 256) (hl : r.length ≤ 1000000) :
    Calls Tryz.prog 34 #[.pointer (some ⟨c, 0, none⟩), v] w fun e w' => e = .returned (.int .i64 (((japp s base size j r).1 : Nat) : Int)) ∧ ∃ F', V.Dt w' (.pointer (some ⟨d, 0, none⟩)) F' (japp s base size j r).2.1 ∧ Pjj w' c d base size (japp s base size j r).2.2 ∧ Gr F F' w ∧ Kp (fun k => F k ∨ k = c) w w' := by
  obtain ⟨jg, jn, jx⟩ := j
  dsimp only at hnx hjn hg
  obtain ⟨ad, cap, rfl, -, -⟩ := hv.len
  obtain ⟨m, hm⟩ : ∃ m, r.length = m := ⟨_, rfl⟩
  by_cases hg0 : jg = 0
  · subst hg0
    have hP0 : Pj w c d base size 0 0 0 := hP
    have hmd := made17 hP0
    have hbg := begunN17 hP0
    have HE : Hid (japp s base size ⟨0, jn, jx⟩ r = (180, s, ⟨0, jn, jx⟩)) := by show _ = _; unfold japp; rw [if_pos rfl]
    have HR : Hid (V.Dt w (.pointer (some ⟨d, 0, none⟩)) F s ∧ Pjj w c d base size ⟨0, jn, jx⟩) := ⟨hD, hP⟩
    rw [hm, HE.out]
    clear hP hP0 hD hFc hT hFT hs hbl hu hnx hjn hg hv hnf hx hl hm HE
    go_enter Tryz.func34, Tryz.ntmps34
    go_upto_region 3 with (go_at_call 55; refine hmd.mono ?_; rintro e w' ⟨rfl, hw⟩; replace hw := hw.symm; subst hw; clear hmd)
    go_wp2_with (go_at_call 56; refine hbg.mono ?_; rintro e w' ⟨rfl, hw⟩; replace hw := hw.symm; subst hw; clear hbg)
    go_ret
    exact ⟨rfl, F, HR.out.1, HR.out.2, fun k hk => Or.inl hk, Kp.refl _ _⟩
  · have hP0 : Pj w c d base size jg (jn + 1) jx := by unfold Pjj at hP; rw [if_neg hg0] at hP; exact hP
    have hmd := made17 hP0
    have hbg := begunY17 hP0 (by omega)
    by_cases hbig : 262144 < m
    · have HE : Hid (japp s base size ⟨jg, jn, jx⟩ r = (3, s, ⟨jg, jn, jx⟩)) := by show _ = _; unfold japp; rw [if_neg hg0, if_pos (by omega)]
      have HR : Hid (V.Dt w (.pointer (some ⟨d, 0, none⟩)) F s ∧ Pjj w c d base size ⟨jg, jn, jx⟩) := ⟨hD, hP⟩
      have hbI : (262144 : Int) < (m : Int) := by omega
      have hbB : decide ((262144 : Int) < (m : Int)) = true := decide_eq_true hbI
      rw [hm, HE.out]
      clear hP hP0 hD hFc hT hFT hs hbl hu hnx hjn hg hv hnf hx hl hm HE hbig hg0
      go_enter Tryz.func34, Tryz.ntmps34
      go_upto_region 3 with (go_at_call 55; refine hmd.mono ?_; rintro e w' ⟨rfl, hw⟩; replace hw := hw.symm; subst hw; clear hmd)
      go_upto_region 5 with (go_at_call 56; refine hbg.mono ?_; rintro e w' ⟨rfl, hw⟩; replace hw := hw.symm; subst hw; clear hbg)
      go_wp2
      go_ret
      exact ⟨rfl, F, HR.out.1, HR.out.2, fun k hk => Or.inl hk, Kp.refl _ _⟩
    · have hbI : ¬ (262144 : Int) < (m : Int) := by omega
      have hbB : decide ((262144 : Int) < (m : Int)) = false := decide_eq_false hbI
      have hnd := needs17 m (by omega) w
      have hlf := leftY17 hP0 (by omega) hnx (by omega)
      obtain ⟨cnt, hcnt⟩ : ∃ cnt, prt m = cnt := ⟨_, rfl⟩
      obtain ⟨lf, hlf2⟩ : ∃ lf, size - jx = lf := ⟨_, rfl⟩
      rw [hcnt] at hnd
      rw [hlf2] at hlf
      by_cases hful : lf < cnt
      · have HE : Hid (japp s base size ⟨jg, jn, jx⟩ r = (170, s, ⟨jg, jn, jx⟩)) := by show _ = _; unfold japp; rw [if_neg hg0, if_neg (by omega), if_pos (by dsimp only; rw [hm, hcnt]; omega)]
        have HR : Hid (V.Dt w (.pointer (some ⟨d, 0, none⟩)) F s ∧ Pjj w c d base size ⟨jg, jn, jx⟩ ∧ c < w.heap.size) := ⟨hD, hP, hP0.lt⟩
        have HDB : Hid (∀ k, F k → k < w.heap.size) := fun k hk => V.dtB hD k hk
        have hfI : (lf : Int) < (cnt : Int) := by omega
        have hfB : decide ((lf : Int) < (cnt : Int)) = true := decide_eq_true hfI
        rw [hm, HE.out]
        clear hP hP0 hD hFc hT hFT hs hbl hu hnx hjn hg hv hnf hx hl hm HE hbig hg0 hcnt hlf2 hful
        go_enter Tryz.func34, Tryz.ntmps34
        go_upto_region 3 with (go_at_call 55; refine hmd.mono ?_; rintro e w' ⟨rfl, hw⟩; replace hw := hw.symm; subst hw; clear hmd)
        go_upto_region 5 with (go_at_call 56; refine hbg.mono ?_; rintro e w' ⟨rfl, hw⟩; replace hw := hw.symm; subst hw; clear hbg)
        go_upto_region 7 with fail
        go_wp2_with fail
        refine hnd.mono ?_
        rintro e w' ⟨rfl, hw⟩
        replace hw := hw.symm
        subst hw
        clear hnd
        go_wp2_with fail
        refine hlf.mono ?_
        rintro e w1 ⟨rfl, hB⟩
        have HB : Hid (Below w.heap.size w w1) := hB
        clear hlf hB
        go_wp2
        go_ret
        exact ⟨rfl, F, V.dtK HR.out.1 (fun k hk => HB.out.block k (HDB.out k hk)) HB.out.size, HR.out.2.1.kept (HB.out.block _ HR.out.2.2), fun k hk => Or.inl hk, Kp.of HB.out⟩
      · have HF : Hid ((∀ k, F k → k ≠ c) ∧ (∀ k, F k → k ≠ 0) ∧ (∀ k, F k → k < w.heap.size) ∧ c < w.heap.size ∧ JT w) := ⟨hFc, hFT, fun k hk => V.dtB hD k hk, hP0.lt, hT⟩
        have HV : Hid (V.Dt w (.pointer (some ⟨d, 0, none⟩)) F s ∧ Pj w c d base size jg (jn + 1) jx ∧ Bs w (.slice ad r.length cap) r ∧ Nf F (.slice ad r.length cap) ∧ ∀ x ∈ r, x < 256) := ⟨hD, hP0, hv, hnf, hx⟩
        have HN : Hid (prt r.length ≤ 900 ∧ s.un.length ≤ 100 ∧ jg < 9223372036854775808 ∧ jn + 1 ≤ 1000000000 ∧ base + jx ≤ 1000 ∧ jn ≤ 1000000 ∧ jx ≤ 1000 ∧ m ≤ 262144 ∧ r.length = m ∧ prt m = cnt) := by
          refine ⟨by rw [hm, hcnt]; omega, hu, hg, by omega, by omega, hjn, by omega, by omega, hm, hcnt⟩
        obtain ⟨jj, hjj⟩ : ∃ jj, jfl (jwr (base + jx) r (jn + 1) jg (prt r.length) 0 s) = jj := ⟨_, rfl⟩
        have HJ : Hid (jfl (jwr (base + jx) r (jn + 1) jg (prt r.length) 0 s) = jj) := hjj
        obtain ⟨E, s'⟩ := jj
        obtain ⟨ja, hja⟩ : ∃ ja, japp s base size ⟨jg, jn, jx⟩ r = ja := ⟨_, rfl⟩
        have HE : Hid (ja = if E ≠ 0 then (E, s', ⟨0, jn, jx⟩) else (0, s', ⟨jg, jn + 1, jx + prt m⟩)) := by
          show _ = _
          rw [← hja]
          unfold japp jput
          dsimp only
          rw [if_neg hg0, if_neg (by omega), if_neg (by rw [hm, hcnt]; omega), hjj, hm]
        have hfI : ¬ (lf : Int) < (cnt : Int) := by omega
        have hfB : decide ((lf : Int) < (cnt : Int)) = false := decide_eq_false hfI
        have HG0 : Hid (¬ jg = 0) := hg0
        rw [hm, hja]
        clear hP hP0 hD hFc hT hFT hs hbl hu hnx hjn hg hv hnf hx hl hm hbig hg0 hcnt hlf2 hful hjj hja
        go_enter Tryz.func34, Tryz.ntmps34
        go_upto_region 3 with (go_at_call 55; refine hmd.mono ?_; rintro e w' ⟨rfl, hw⟩; replace hw := hw.symm; subst hw; clear hmd)
        go_upto_region 5 with (go_at_call 56; refine hbg.mono ?_; rintro e w' ⟨rfl, hw⟩; replace hw := hw.symm; subst hw; clear hbg)
        go_upto_region 7 with fail
        go_wp2_with fail
        refine hnd.mono ?_
        rintro e w' ⟨rfl, hw⟩
        replace hw := hw.symm
        subst hw
        clear hnd
        go_wp2_with fail
        refine hlf.mono ?_
        rintro e w1 ⟨rfl, hB⟩
        have HB : Hid (Below w.heap.size w w1) := hB
        clear hlf hB
        go_upto_region 9 with fail
        have C := jwrite17 V w1 c d F s base size jg (jn + 1) jx (.slice ad r.length cap) r (HV.out.2.1.later HB.out) (V.dtK HV.out.1 (fun k hk => HB.out.block k (HF.out.2.2.1 k hk)) HB.out.size) HF.out.1 (HF.out.2.2.2.2.later HB.out) HF.out.2.1 (HV.out.2.2.1.later HB.out) HV.out.2.2.2.1 HV.out.2.2.2.2 HN.out.1 HN.out.2.1 HN.out.2.2.1 HN.out.2.2.2.1 HN.out.2.2.2.2.1
        rw [HJ.out, HN.out.2.2.2.2.2.2.2.2.1] at C
        go_upto_region 10 with (go_at_call 58; refine C.mono ?_; rintro e X ⟨rfl, hA⟩; clear C)
        obtain ⟨F1, z1, z2, z3⟩ := hA
        try dsimp only at z1
        try dsimp only
        have hPX : Pj X c d base size jg (jn + 1) jx := (HV.out.2.1.later HB.out).kept (z3.block _ (by have := HB.out.size; have := HF.out.2.2.2.1; omega) (fun hf => HF.out.1 _ hf rfl))
        have HX : Hid (V.Dt X (.pointer (some ⟨d, 0, none⟩)) F1 s' ∧ Pj X c d base size jg (jn + 1) jx ∧ Gr F F1 w ∧ Kp F w X ∧ ¬ F1 c) := by
          have hs := HB.out.size
          refine ⟨z1, hPX, fun k hk => by rcases z2 k hk with q | q; exact Or.inl q; exact Or.inr (by omega), (Kp.of (F := F) HB.out).trans z3 (fun _ h => Or.inl h), fun hf => ?_⟩
          rcases z2 _ hf with q | q
          · exact HF.out.1 _ q rfl
          · have := HF.out.2.2.2.1; omega
        clear z1 z2 z3 hPX
        have c3 := HX.out.2.1.c3
        have c4 := HX.out.2.1.c4
        have c5 := HX.out.2.1.c5
        have f3 := HX.out.2.1.f3
        have f4 := HX.out.2.1.f4
        have f5 := HX.out.2.1.f5
        by_cases hE0 : E = 0
        · subst hE0
          have hj : ja = (0, s', ⟨jg, jn + 1, jx + prt m⟩) := by rw [HE.out, if_neg (by omega)]
          have HJ2 : Hid (ja = (0, s', ⟨jg, jn + 1, jx + prt m⟩)) := hj
          clear hj
          have hbh := behind17 jg (jn + 1) jx m (by have := HN.out; omega) (by have := HN.out; omega) (by have := HN.out; omega) X
          unfold plJ at hbh
          go_wp2_with (go_at_call 59; refine hbh.mono ?_; rintro e Y ⟨rfl, hBY⟩; have HY : Hid (Below X.heap.size X Y ∧ Pj Y c d base size jg (jn + 1) jx) := hid5 ⟨hBY, HX.out.2.1.later hBY⟩; clear hbh hBY c3 c4 c5 f3 f4 f5; have c3 := HY.out.2.c3; have c4 := HY.out.2.c4; have c5 := HY.out.2.c5; have f3 := HY.out.2.f3; have f4 := HY.out.2.f4; have f5 := HY.out.2.f5)
          go_ret
          rw [HJ2.out]
          have hkc : Kp (fun i => i = c) Y (((Y.setCell ⟨c, 3, none⟩ (.int .i64 (jg : Int))).setCell ⟨c, 4, none⟩ (.int .i64 ((jn + 1 + 1 : Nat) : Int))).setCell ⟨c, 5, none⟩ (.int .i64 ((jx + prt m : Nat) : Int))) := Kp.set (Kp.set (Kp.set (Kp.refl (fun i => i = c) Y) (Or.inl rfl) _) (Or.inl rfl) _) (Or.inl rfl) _
          refine ⟨rfl, F1, V.dtK HX.out.1 (fun k hk => (hkc.block k ?_ ?_).trans (HY.out.1.block k (V.dtB HX.out.1 k hk))) (Nat.le_trans HY.out.1.size hkc.size), ?_, HX.out.2.2.1, ?_⟩
          · have := V.dtB HX.out.1 k hk; have := HY.out.1.size; omega
          · intro e; subst e; exact HX.out.2.2.2.2 hk
          · unfold Pjj
            rw [if_neg (show ¬ (⟨jg, jn + 1, jx + prt m⟩ : Jst).gen = 0 from HG0.out)]
            exact HY.out.2.next jg (jn + 1 + 1) (jx + prt m)
          · refine ((HX.out.2.2.2.1.mono (fun k h => Or.inl h)).trans (Kp.of (F := fun _ => False) HY.out.1) (fun _ h => h.elim)).trans hkc (fun k h => Or.inl (Or.inr h))
        · have hEI : ¬ (E : Int) = 0 := by omega
          have HJ2 : Hid (ja = (E, s', ⟨0, jn, jx⟩)) := by show _ = _; rw [HE.out, if_pos hE0]
          go_wp2
          go_ret
          rw [HJ2.out]
          have hkc : Kp (fun i => i = c) X (((X.setCell ⟨c, 3, none⟩ (.int .i64 ((0 : Nat) : Int))).setCell ⟨c, 4, none⟩ (.int .i64 ((0 : Nat) : Int))).setCell ⟨c, 5, none⟩ (.int .i64 ((0 : Nat) : Int))) := Kp.set (Kp.set (Kp.set (Kp.refl (fun i => i = c) X) (Or.inl rfl) _) (Or.inl rfl) _) (Or.inl rfl) _
          refine ⟨rfl, F1, V.dtK HX.out.1 (fun k hk => hkc.block k (V.dtB HX.out.1 k hk) ?_) hkc.size, ?_, HX.out.2.2.1, ?_⟩
          · intro e; subst e; exact HX.out.2.2.2.2 hk
          · unfold Pjj
            rw [if_pos rfl]
            exact HX.out.2.1.next 0 0 0
          · exact (HX.out.2.2.2.1.mono (fun k h => Or.inl h)).trans hkc (fun k h => Or.inl (Or.inr h))
end Go.Proofs.YthnpdcblfocemaaGreatDoor
set_option linter.unusedVariables false
set_option linter.unusedSimpArgs false
namespace Go.Proofs.YthnpdcblfocemaaGreatDoor
open Go.RowKit

set_option maxRecDepth 100000 in
set_option maxHeartbeats 4000000 in
theorem jreadE17 {w : World} {c d base size g n b : Nat} (h : Pj w c d base size g n b) (k : Int) (hk : k < 1) : Calls Tryz.prog 51 #[.pointer (some ⟨c, 0, none⟩), .int .i64 k] w fun e w' => e = .returned (.tuple #[.slice none 0 0, .int .i64 2]) ∧ Below w.heap.size w w' := by
  have hm := fun W (hB : Below w.heap.size w W) => made17 (h.later hB)
  have hkB : decide (k < 1) = true := decide_eq_true hk
  clear h
  go_enter Tryz.func51, Tryz.ntmps51
  go_upto_region 1 with fail
  obtain ⟨w1, hw1⟩ : ∃ w1, w1 = ((w.alloc (.cells #[.pointer (some ⟨c, 0, none⟩)] 69)).alloc (.cells #[.slice none 0 0] 31)).alloc (.cells #[.int .i64 0] 26) := ⟨_, rfl⟩
  have hB1 : Below w.heap.size w w1 := by rw [hw1]; exact ((bel1 _ _).alloc (by simp) _).alloc (by simp; omega) _
  have x0 : w1.cell? ⟨w.heap.size, 0, none⟩ = some (.pointer (some ⟨c, 0, none⟩)) := by rw [hw1]; simp [go_sem]
  have x1 : w1.cell? ⟨w.heap.size + 1, 0, none⟩ = some (.slice none 0 0) := by rw [hw1]; simp [go_sem]
  have x2 : w1.cell? ⟨w.heap.size + 1 + 1, 0, none⟩ = some (.int .i64 0) := by rw [hw1]; simp [go_sem]
  have f1 : w1.frozen? ⟨w.heap.size + 1, 0, none⟩ = false := by rw [hw1]; simp [go_sem]
  have f2 : w1.frozen? ⟨w.heap.size + 1 + 1, 0, none⟩ = false := by rw [hw1]; simp [go_sem]
  have hmd := hm w1 hB1
  have HB : Hid (Below w.heap.size w w1) := hB1
  rw [← hw1]
  clear hw1 hm hB1
  go_step3
  go_upto_region 3 with (go_at_call 55; refine hmd.mono ?_; rintro e w' ⟨rfl, hw⟩; replace hw := hw.symm; subst hw; clear hmd)
  go_wp2
  rw [Exit.noGoto_ret]
  exact bodyPost_ret (v := .tuple #[.slice none 0 0, .int .i64 2]) (by simp [results, Tryz.results51, go_sem, x1, x2]) rfl ⟨rfl, (HB.out.setCell (by dsimp only; omega) _).setCell (by dsimp only; omega) _⟩
structure Mk17 (lo : Nat) (ds : List Deferred) (w : World) : Prop where
  m : ∀ e ∈ ds, ∃ r, e.target = .collected r ∧ lo ≤ r ∧ w.heap[r]? = some (.deferred (some []))
  d : ds.Pairwise (fun a b => a.target ≠ b.target)
theorem mk17_nil (lo : Nat) (w : World) : Mk17 lo [] w := ⟨fun e he => by simp at he, List.Pairwise.nil⟩
theorem Mk17.cons {lo : Nat} {ds : List Deferred} {w : World} (h : Mk17 lo ds w) {r : Nat} (hr : lo ≤ r) (hw : w.heap[r]? = some (.deferred (some []))) (hn : ∀ e ∈ ds, e.target ≠ .collected r) (args : Array Value) : Mk17 lo ({ target := .collected r, args := args } :: ds) w := by
  refine ⟨fun e he => ?_, List.Pairwise.cons (fun e he => (hn e he).symm) h.d⟩
  rcases List.mem_cons.1 he with rfl | he
  · exact ⟨r, rfl, hr, hw⟩
  · exact h.m e he
theorem Mk17.kept {lo : Nat} {ds : List Deferred} {w w' : World} (h : Mk17 lo ds w) (k : ∀ r, lo ≤ r → w.heap[r]? = some (.deferred (some [])) → w'.heap[r]? = w.heap[r]?) : Mk17 lo ds w' :=
  ⟨fun e he => by obtain ⟨r, h1, h2, h3⟩ := h.m e he; exact ⟨r, h1, h2, (k r h2 h3).trans h3⟩, h.d⟩
theorem leaves_marks {F : Fence} {n : Nat} {P : Program} {fn : Func} {tmps : Array Value} {R : Ending → World → Prop} {u : FrameMode} (hu : u ≠ .run) (lo : Nat) : ∀ (ds : List Deferred) (w : World), Mk17 lo ds w →
    (∀ w', (∀ a v, w.cell? a = some v → w'.cell? a = some v) → Kp (fun k => lo ≤ k) w w' → LeavesInM F n P fn tmps R [] u w') → LeavesInM F n P fn tmps R ds u w := by
  intro ds
  induction ds with
  | nil => intro w _ h; exact h w (fun _ _ h => h) (Kp.refl _ _)
  | cons e ds ih =>
    intro w hm h
    obtain ⟨r, h1, h2, h3⟩ := hm.m e (by simp)
    have hd := hm.d
    rw [List.pairwise_cons] at hd
    refine ⟨hu, Or.inl ⟨r, _, h1, run_takeDeferred (ds := []) h3, ?_⟩⟩
    have hk := kp_put w r (.deferred none)
    have hc : ∀ a v, w.cell? a = some v → (w.putObj r (.deferred none)).cell? a = some v := fun a v hv => by
      by_cases q : a.block = r
      · exfalso
        rw [← q] at h3
        simp [World.cell?, h3] at hv
      · have hlt := World.block_lt_of_cell? _ _ hv
        exact (World.cell?_of_block (hk.block _ hlt q)).trans hv
    refine ih _ ⟨fun e' he' => ?_, hd.2⟩ (fun w' k1 k2 => h w' (fun a v hv => k1 a v (hc a v hv)) ((hk.mono (fun k hk2 => by omega)).trans k2 (fun k h => Or.inl h)))
    obtain ⟨r', g1, g2, g3⟩ := hm.m e' (by simp [he'])
    refine ⟨r', g1, g2, (hk.block r' (Array.getElem?_eq_some_iff.1 g3).1 (fun q => ?_)).trans g3⟩
    have := hd.1 e' he'
    rw [h1, g1, q] at this
    exact this rfl
end Go.Proofs.YthnpdcblfocemaaGreatDoor
set_option linter.unusedVariables false
set_option linter.unusedSimpArgs false
namespace Go.Proofs.YthnpdcblfocemaaGreatDoor
open Go.RowKit

def TxQ (base : Nat) (w : World) (v : Value) (ls : List (List Nat)) : Prop :=
  ∃ cs : List Value, w.ownsRow base 30 1 v ls.length cs ∧ ∀ k, k < ls.length → ∃ x : Value, cs[k]? = some x ∧ Bs w x (ls.getD k []) ∧ (∀ g, v.ownBlock = some g → Nb x g) ∧ Ow base x
theorem txq_nil (base : Nat) (w : World) : TxQ base w (.slice none 0 0) [] := ⟨[], World.ownsRow_nil _ _ _ _, fun k hk => by simp at hk⟩
theorem TxQ.sl {base : Nat} {w : World} {v : Value} {ls : List (List Nat)} (h : TxQ base w v ls) : ∃ ad cap, v = .slice ad ls.length cap := by
  obtain ⟨cs, h5, h6⟩ := h
  exact own_sl h5
theorem TxQ.later {base : Nat} {w w' : World} {v : Value} {ls : List (List Nat)} (h : TxQ base w v ls) (k : Below w.heap.size w w') : TxQ base w' v ls := by
  obtain ⟨cs, h5, h6⟩ := h
  refine ⟨cs, own_later h5 k, fun j hj => ?_⟩
  obtain ⟨x, e1, e2, e3⟩ := h6 j hj
  exact ⟨x, e1, e2.later k, e3⟩
theorem TxQ.kn {base : Nat} {w w' : World} {v : Value} {ls : List (List Nat)} (h : TxQ base w v ls) (k1 : ∀ g, v.ownBlock = some g → w'.heap[g]? = w.heap[g]?) (k2 : ∀ x l, Bs w x l → (∃ k, k < ls.length ∧ l = ls.getD k []) → Bs w' x l) : TxQ base w' v ls := by
  obtain ⟨cs, h5, h6⟩ := h
  refine ⟨cs, own_block15 h5 k1, fun j hj => ?_⟩
  obtain ⟨x, e1, e2, e3⟩ := h6 j hj
  exact ⟨x, e1, k2 x _ e2 ⟨j, hj, rfl⟩, e3⟩
theorem ownq_ge {base : Nat} {w : World} {v : Value} {ls : List (List Nat)} (h : TxQ base w v ls) : ∀ g, v.ownBlock = some g → base ≤ g ∧ g < w.heap.size := by
  obtain ⟨cs, h5, h6⟩ := h
  exact fun g hg => World.ownsRow.lt h5 g hg
theorem apTq {ops : Array Oper} {rest : List Oper} {o : Oper} {a : Act} {w : World} {Q : Exit → Act → World → Prop} (hgd : o.guard = none) (s x : Operand)
    (ho : o.op = .call { callee := .builtin .append, args := #[s, x], argTypes := #[31, 31] })
    (base : Nat) (v : Value) (ls : List (List Nat)) (hs : a.eval s = v) (hT : TxQ base w v ls) (ad : Option Addr) (n cap : Nat) (t : List Nat) (hp : Bs w (.slice ad n cap) t) (hLo : Ow base (.slice ad n cap)) (hO : ∀ g, v.ownBlock = some g → Nb (.slice ad n cap) g) (ty : TypeId) (hx : a.eval x = .slice (some ⟨w.heap.size, 0, none⟩) 1 1)
    (hlen : ls.length ≤ 100000) (hbase : base ≤ w.heap.size)
    (h : ∀ v' w', TxQ base w' v' (ls ++ [t]) → Gw base w w' → (∀ k, k < w.heap.size → v.ownBlock ≠ some k → w'.heap[k]? = w.heap[k]?) → (∀ g, v'.ownBlock = some g → v.ownBlock = some g ∨ w.heap.size ≤ g) → wpList Tryz.prog ops Q rest (a.put o.dst v') w') : wpList Tryz.prog ops Q (o :: rest) a (w.alloc (.cells #[.slice ad n cap] ty)) := by
  obtain ⟨i0, hti, hy0, hy1, hy2⟩ := info_parts dinfo_bys
  obtain ⟨cs, h5, h6⟩ := hT
  refine wpList_append_own_at _ hgd s x 31 ho base 30 i0 (.slice none 0 0) 1 24 Tryz.underlying31 hti hy0 hy1 hy2 rfl (by decide) v ls.length cs hs (own_later h5 (bel1 _ _)) ⟨w.heap.size, 0, none⟩ 1 1 [.slice ad n cap] hx rfl
    (fun j u hj => by
      rcases j with _ | j
      · simp at hj; subst hj; simp [go_sem, Addr.add]
      · simp at hj)
    (fun u hu => by simp only [List.mem_cons, List.not_mem_nil, or_false] at hu; rcases hu with rfl; rfl) (by unfold maxLen; omega) (by omega) (by rw [World.size_alloc]; omega) ?_
  intro v' w' hown hgrow _ hat
  have hgs := hgrow.size
  rw [World.size_alloc] at hgs
  have hkb : ∀ i, i < w.heap.size → v.ownBlock ≠ some i → w'.heap[i]? = w.heap[i]? := fun i hi hne => by
    rw [hgrow.block i (by rw [World.size_alloc]; omega) (fun e2 => hne e2.symm), Below.heap_alloc _ _ _ hi]
  have hbs : ∀ (y : Value) (l : List Nat), Bs w y l → (∀ g, v.ownBlock = some g → Nb y g) → Bs w' y l := fun y l hy hn => by
    obtain ⟨adr, cap, b, q, rfl, z2, z3, z4, z5⟩ := id hy
    refine ⟨adr, cap, b, q, rfl, z2, z3, z4, fun k hk => ?_⟩
    have e := z4 (by omega)
    subst e
    have hlt := Ls.lo hy ⟨b, q, none⟩ l.length cap rfl (by omega)
    exact (World.cell?_of_block (w := w) (a := ⟨b, q + k, none⟩) (hkb b hlt (fun e2 => hn b e2 ⟨b, q, none⟩ l.length cap rfl (by omega) rfl))).trans (z5 k hk)
  have hat2 : ∀ g, v'.ownBlock = some g → v.ownBlock = some g ∨ w.heap.size ≤ g := fun g hg => by
    rcases hat with q | q
    · exact Or.inl (q.symm.trans hg)
    · rw [q, World.size_alloc] at hg
      have := Option.some.inj hg
      exact Or.inr (by omega)
  have hnew : ∀ (y : Value) (l : List Nat), Bs w y l → (∀ g, v.ownBlock = some g → Nb y g) → ∀ g, v'.ownBlock = some g → Nb y g := fun y l hy hn g hg => by
    rcases hat2 g hg with q | q
    · exact hn g q
    · intro a n c e h0 e2
      have := Ls.lo hy a n c e h0
      omega
  refine h v' w' ⟨cs ++ [.slice ad n cap], by rw [List.length_append]; exact hown, fun j hj => ?_⟩ ⟨fun w0 hb => (hb.alloc hbase _).grown hgrow (by rw [World.size_alloc]; omega) (fun g hg => (World.ownsRow.lt h5 g hg).1), by omega⟩ hkb hat2
  rw [List.length_append] at hj
  have hcl : cs.length = ls.length := by have := h5.1; omega
  by_cases q : j < ls.length
  · obtain ⟨y, e1, e2, e3, e4⟩ := h6 j q
    refine ⟨y, ?_, ?_, hnew y _ e2 e3, e4⟩
    · rw [List.getElem?_append_left (by omega)]; exact e1
    · have : (ls ++ [t]).getD j [] = ls.getD j [] := by simp [List.getD, List.getElem?_append_left q]
      rw [this]
      exact hbs y _ e2 e3
  · have hj2 : j = ls.length := by simp at hj; omega
    subst hj2
    refine ⟨.slice ad n cap, ?_, ?_, hnew _ t hp hO, hLo⟩
    · rw [List.getElem?_append_right (by omega), hcl, Nat.sub_self]; rfl
    · have : (ls ++ [t]).getD ls.length [] = t := by simp [List.getD]
      rw [this]
      exact hbs _ t hp hO
def TxB (B : Nat) (w : World) (v : Value) (ls : List (List Nat)) : Prop :=
  ∃ (ad : Option Addr) (cap b o : Nat) (cs : List Value), v = .slice ad ls.length cap ∧ ls.length ≤ cap ∧ cap ≤ maxLen ∧ (ad = none → cap = 0) ∧ (0 < ls.length → ad = some ⟨b, o, none⟩ ∧ B ≤ b) ∧ cs.length = ls.length ∧ ∀ j, j < ls.length → ∃ x, cs[j]? = some x ∧ w.cell? ⟨b, o + j, none⟩ = some x ∧ Bs w x (ls.getD j []) ∧ Ow B x
theorem txb_nil (B : Nat) (w : World) : TxB B w (.slice none 0 0) [] := ⟨none, 0, 0, 0, [], rfl, Nat.le_refl _, by unfold maxLen; omega, fun _ => rfl, fun h => by simp at h, rfl, fun j hj => by simp at hj⟩
theorem TxQ.txb {base : Nat} {w : World} {v : Value} {ls : List (List Nat)} (h : TxQ base w v ls) : TxB base w v ls := by
  obtain ⟨cs, h5, h6⟩ := h
  have hc := h5.1
  rcases h5.2 with ⟨rfl, h0⟩ | ⟨g, cap, cur, rfl, hg, hh, hc1, hc2, hsz, htk⟩
  · exact ⟨none, 0, 0, 0, cs, by rw [h0], by omega, by unfold maxLen; omega, fun _ => rfl, fun h => by omega, by omega, fun j hj => by omega⟩
  · refine ⟨_, cap, g, 0, cs, rfl, hc1, hc2, fun e => by (cases e), fun _ => ⟨rfl, hg⟩, by omega, fun j hj => ?_⟩
    obtain ⟨x, e1, e2, -, e4⟩ := h6 j hj
    refine ⟨x, e1, ?_, e2, e4⟩
    rw [Nat.zero_add]
    exact (h5.cellAt j (by omega)).trans e1
theorem TxB.txs {B : Nat} {w : World} {v : Value} {ls : List (List Nat)} (h : TxB B w v ls) : Txs w v ls := by
  obtain ⟨ad, cap, b, o, cs, h1, h2, h3, -, h5, h6, h7⟩ := h
  exact ⟨ad, cap, b, o, h1, h2, h3, fun q => (h5 q).1, fun j hj => by obtain ⟨x, -, e2, e3, -⟩ := h7 j hj; exact ⟨x, e2, e3⟩⟩
theorem TxB.low {B B' : Nat} {w : World} {v : Value} {ls : List (List Nat)} (h : TxB B w v ls) (hl : B' ≤ B) : TxB B' w v ls := by
  obtain ⟨ad, cap, b, o, cs, h1, h2, h3, h4, h5, h6, h7⟩ := h
  exact ⟨ad, cap, b, o, cs, h1, h2, h3, h4, fun q => ⟨(h5 q).1, Nat.le_trans hl (h5 q).2⟩, h6, fun j hj => by obtain ⟨x, e1, e2, e3, e4⟩ := h7 j hj; exact ⟨x, e1, e2, e3, fun a n c e h0 => Nat.le_trans hl (e4 a n c e h0)⟩⟩
end Go.Proofs.YthnpdcblfocemaaGreatDoor
