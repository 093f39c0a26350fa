/-
  The law PackReads.
-/
import Derived.Test.YtahbpegjdmblaaaPkLawF
set_option linter.unusedVariables false
set_option linter.unusedSimpArgs false
namespace Go.Proofs.Ytahbpegjdmblaaa
open Go.RowKit

theorem wpAnyH_turn {P : Program} {md : Region.Mode} {ops : Array Oper} {Q : Exit → Act → World → Prop} {S S' : World → Prop} (hS : ∀ w, S' w → S w) : ∀ (fuel : Nat) (listed : Array Bool) (a : Act) (w : World), wpAnyH P md ops Q S' fuel listed a w → wpAnyH P md ops Q S fuel listed a w
  | 0, _, _, _, h => h
  | fuel + 1, _, _, _, h => ⟨h.1, fun i hi => wpOp_mono (fun a' w' h' => ⟨hS _ h'.1, wpAnyH_turn hS fuel _ a' w' h'.2⟩) (h.2 i hi)⟩
theorem Rr.e2 {b : Nat} {l : List Nat} {v : Value} {s : Sta} {w : World} (h : Rr b l v s w) : w.cell? ⟨b, 2, none⟩ = some (.int .i64 ((dnE s : Nat) : Int)) := by
  cases s with
  | ok r =>
    obtain ⟨p, h1, -⟩ := h.ok
    exact h1.c2
  | error x =>
    obtain ⟨-, -, p, h1⟩ := h.error
    exact h1.c2
/-- The document's reader, new. -/
theorem r0_new (w : World) (v : Value) (l : List Nat) (e : Nat) (hl : Bs w v l) : R0 w.heap.size l v 0 e (w.alloc (.cells #[v, .int .i64 0, .int .i64 (e : Int)] 45)) :=
  ⟨by simp [go_sem], by simp [go_sem], by simp [go_sem], by simp [go_sem], by simp [go_sem], hl.later (bel1 _ _), Ls.nb hl (Nat.le_refl _), Nat.zero_le _⟩
/-- After all kinds. -/
def nxts (ks : List Int) (s : Sta) : Sta := ks.foldl (fun s k => nxt k s) s
theorem nxts_take {ks : List Int} {j : Nat} (h : j < ks.length) (s : Sta) : nxts (ks.take (j + 1)) s = nxt (ks.getD j 0) (nxts (ks.take j) s) := by
  unfold nxts
  rw [is_take_succ h, List.foldl_append]
  rfl
theorem Ra.up {V : Pack1} {p : Value} {b : Nat} {l : List Nat} {v : Value} {F : Nat → Prop} {s : Sta} {w0 w w' : World} {B : Nat} (h : Ra V p b l v F s w w') (hb : Below B w0 w) (hF : ∀ i, F i → B ≤ i) (hbB : B ≤ b) (hB : B ≤ w.heap.size) : ∃ F' : Nat → Prop, RR V p b l v F' s w' ∧ (∀ i, F' i → B ≤ i) ∧ Below B w0 w' := by
  obtain ⟨F', h1, h2, h3⟩ := h
  exact ⟨F', h1, h2.up hF hB, h3.next hb (fun i hi => by rcases hi with q | q; exact hF i q; omega) hB⟩
/-- A copy of the bytes that may be spoilt. -/
def Gv (n : Nat) (ad : Option Addr) (B b : Nat) (F : Nat → Prop) (w : World) : Prop := 0 < n → ∃ (g : Nat) (f : Nat → Nat), ad = some ⟨g, 0, none⟩ ∧ B ≤ g ∧ g ≠ b ∧ ¬ F g ∧ Rw g n (by8 f) w ∧ ∀ k, f k < 256
theorem RR.set {V : Pack1} {p : Value} {b : Nat} {l : List Nat} {v : Value} {F : Nat → Prop} {s : Sta} {w : World} (h : RR V p b l v F s w) (g j : Nat) (u : Value) (hg : ¬ F g) (hb : g ≠ b) (hv : Nb v g) : RR V p b l v F s (w.setCell ⟨g, j, none⟩ u) := by
  have k : Kp (· = g) w (w.setCell ⟨g, j, none⟩ u) := kset (Kp.refl _ _) u
  exact ⟨V.rk h.rt k (fun i hi q => hg (by rw [← q]; exact hi)), h.rr.kept k (fun q => hb q.symm) (fun a n c e hn q => hv a n c e hn q), h.nb, h.nv⟩
set_option maxRecDepth 100000 in
set_option maxHeartbeats 8000000 in
theorem packReads_any (V : Pack1) (vb : Value) (l : List Nat) (hb : ∀ c ∈ l, c < 256) (vk : Value) (ks : List Int) (w : World) (h : Bs w vb l) (h2 : Is w vk ks) :
    Calls Try.prog 4 #[vb, vk] w fun e w' => e = .returned (.bool true) ∧ Below w.heap.size w w' := by
  have HL : Hid (Bs w vb l) := h
  have HK : Hid (Is w vk ks) := h2
  have HY : Hid (∀ c ∈ l, c < 256) := hb
  obtain ⟨ad, cap, rfl, k1, k2⟩ := h.len
  obtain ⟨ad2, cap2, rfl, k3, k4⟩ := h2.len
  unfold maxLen at k2 k4
  obtain ⟨n, hn⟩ : ∃ n, l.length = n := ⟨_, rfl⟩
  have HN : Hid (l.length = n) := hn
  obtain ⟨m, hm⟩ : ∃ m, ks.length = m := ⟨_, rfl⟩
  have HM : Hid (ks.length = m) := hm
  rw [hn] at k1 HL ⊢
  rw [hm] at k3 HK ⊢
  clear h h2 hn hm hb
  go_enter Try.func4, Try.ntmps4
  go_wp2_with fail
  refine (awake12 V w).mono ?_
  rintro e w1 ⟨rfl, hb1⟩
  have HB1 : Hid (Below w.heap.size w w1) := hb1
  have hs1 : w.heap.size ≤ w1.heap.size := hb1.size
  clear hb1
  by_cases q1 : 1000 < n
  · have q1I : (1000 : Int) < (n : Int) := by omega
    go_wp2
    go_ret
    exact ⟨rfl, HB1.out⟩
  have q1I : ¬ (1000 : Int) < (n : Int) := by omega
  by_cases q2 : 60 < m
  · have q2I : (60 : Int) < (m : Int) := by omega
    go_wp2
    go_ret
    exact ⟨rfl, HB1.out⟩
  have q2I : ¬ (60 : Int) < (m : Int) := by omega
  go_upto_region 5 with fail
  have HO0 : Hid (Ob w1.heap.size (w1.alloc (.cells #[] 5)) (.slice (some ⟨w1.heap.size, 0, none⟩) 0 0) []) := World.ownsRow_made w1 #[] 0 (Nat.le_refl _) (by unfold maxLen; omega) rfl
  go_upto_region 6 with (at_builtin; refine apB rfl _ _ rfl w1.heap.size _ [] rfl HO0.out _ l rfl ((HL.out.later HB1.out).later (bel1 _ _)) (by have := HN.out; simp; omega) (by simp) ?_; intro v2 w2 hO2 hg2; rw [List.nil_append] at hO2; obtain ⟨ad5, cap5, rfl⟩ := hO2.sl)
  have HO2 : Hid (Ob w1.heap.size w2 (.slice ad5 l.length cap5) l) := hO2
  have HB2 : Hid (Below w.heap.size w w2) := HB1.out.trans ((hg2.1 _ ((Below.refl _ _).alloc (Nat.le_refl _) _)).mono hs1)
  have hs2 : w1.heap.size ≤ w2.heap.size := by have := hg2.2; rw [World.size_alloc] at this; omega
  clear hO2 hg2 HO0 HB1
  go_wp2_with fail
  refine (V.read _ _ l HO2.out.bs.1 HY.out (by have := HN.out; omega)).mono ?_
  rintro e w3 ⟨p, F, rfl, hR, hF, hb3⟩
  have hs3 : w2.heap.size ≤ w3.heap.size := hb3.size
  have HB3 : Hid (Below w.heap.size w w3) := bchain HB2.out hb3
  have HRR : Hid (RR V p w3.heap.size l (.slice ad n cap) F (nxts (ks.take 0) (.ok l)) (w3.alloc (.cells #[.slice ad n cap, .int .i64 0, .int .i64 0] 45)) ∧ (∀ i, F i → w.heap.size ≤ i)) := by
    refine ⟨⟨V.rl hR (bel1 _ _), ⟨0, 0, r0_new w3 _ l 0 (HL.out.later HB3.out), rfl, rfl⟩, fun q => Nat.lt_irrefl _ (V.rtB hR _ q), Ls.nf HL.out (fun i hi => by have := hF i hi; omega)⟩, fun i hi => by have := hF i hi; omega⟩
  have HGv : Hid (Gv n ad5 w1.heap.size w3.heap.size F (w3.alloc (.cells #[.slice ad n cap, .int .i64 0, .int .i64 0] 45))) := fun hn => by
    have hN := HN.out
    have ho := HO2.out
    unfold Ob at ho
    rw [← vl_b8] at ho
    obtain ⟨g, c, e, h1, -, -, h4⟩ := own_row ho (by omega)
    injection e with e1 e2 e3
    have hlt := h4.lt (by omega)
    refine ⟨g, fun k => l.getD k 0, e1, h1, by omega, fun q => by have := hF g q; omega, ?_, fun k => getD_byte HY.out k⟩
    rw [hN] at h4
    exact (h4.later hb3).later (bel1 _ _)
  have HB4 : Hid (Below w.heap.size w (w3.alloc (.cells #[.slice ad n cap, .int .i64 0, .int .i64 0] 45))) := HB3.out.alloc HB3.out.size _
  have hN := HN.out
  rw [hN]
  have hRb : w.heap.size ≤ w3.heap.size := HB3.out.size
  have HLo : Hid (Lo w.heap.size (.slice ad n cap)) := Ls.lo HL.out
  clear hR hF hb3 hN HO2 HB2 HB3
  go_upto_region 8 with fail
  go_loopw [31] (fun s31 wr => ∃ j : Nat, j ≤ n ∧ s31 = .int .i64 (j : Int) ∧ Hid (RR V p w3.heap.size l (.slice ad n cap) F (nxts (ks.take 0) (.ok l)) wr ∧ Below w.heap.size w wr) ∧ Hid (Gv n ad5 w1.heap.size w3.heap.size F wr)) (fun s31 _ => n - (intOf s31).toNat)
  case atStart => exact ⟨0, by omega, rfl, ⟨HRR.out.1, HB4.out⟩, HGv⟩
  case round =>
    clear HGv HB4
    obtain ⟨j, hj, rfl, HR, HG⟩ := hrel
    by_cases hlt : j < n
    · have hjI : (j : Int) < (n : Int) := by omega
      obtain ⟨g, f, rfl, g1, g2, g3, hRw, hf⟩ := HG.out (by omega)
      have ca : wr.cell? ⟨g, j, none⟩ = some (.int .u8 ((f j : Nat) : Int)) := hRw.c j hlt
      have cf := hRw.f j hlt
      have hfj := hf j
      have hx : bits .xor .u8 ((f j : Nat) : Int) 255 = ((f j ^^^ 255 : Nat) : Int) := xor8 (f j) 255 hfj (by omega)
      have hx2 : f j ^^^ 255 < 256 := Nat.xor_lt_two_pow (n := 8) hfj (by omega)
      have HR2 : Hid (RR V p w3.heap.size l (.slice ad n cap) F (nxts (ks.take 0) (.ok l)) (wr.setCell ⟨g, j, none⟩ (.int .u8 ((f j ^^^ 255 : Nat) : Int))) ∧ Below w.heap.size w (wr.setCell ⟨g, j, none⟩ (.int .u8 ((f j ^^^ 255 : Nat) : Int)))) := by
        refine ⟨HR.out.1.set g j _ g3 g2 (fun a nn c e hn q => ?_), HR.out.2.setCell (by dsimp only; omega) _⟩
        have := HLo.out a nn c e hn
        omega
      have HG2 : Hid (Gv n (some ⟨g, 0, none⟩) w1.heap.size w3.heap.size F (wr.setCell ⟨g, j, none⟩ (.int .u8 ((f j ^^^ 255 : Nat) : Int)))) := fun _ => by
        refine ⟨g, fun k => if k = j then f j ^^^ 255 else f k, rfl, g1, g2, g3, (hRw.set j _).congr (fun k hk => ?_), fun k => ?_⟩
        · unfold by8
          by_cases e : k = j
          · simp [e]
          · simp [e]
        · dsimp only
          split
          · exact hx2
          · exact hf k
      clear hRw hf HR HG g3
      generalize f j ^^^ 255 = y at *
      generalize f j = x at *
      go_wp2
      go_roundw
      case rel => exact ⟨j + 1, by omega, by go_num, HR2, HG2⟩
      case measure => simp [intOf]; omega
    · obtain rfl : j = n := by omega
      have hjI : ¬ (j : Int) < (j : Int) := by omega
      have HR0 : Hid (RR V p w3.heap.size l (.slice ad j cap) F (nxts (ks.take 0) (.ok l)) wr ∧ (∀ i, F i → w.heap.size ≤ i) ∧ Below w.heap.size w wr) := ⟨HR.out.1, HRR.out.2, HR.out.2⟩
      clear HR HG HRR
      rename World => wo
      go_upto_region 13 with fail
      go_loopw [43] (fun s43 wr => ∃ i : Nat, i ≤ m ∧ s43 = .int .i64 (i : Int) ∧ Hid (∃ F : Nat → Prop, RR V p w3.heap.size l (.slice ad j cap) F (nxts (ks.take i) (.ok l)) wr ∧ (∀ i, F i → w.heap.size ≤ i) ∧ Below w.heap.size w wr)) (fun s43 _ => m - (intOf s43).toNat)
      case atStart => exact ⟨0, by omega, rfl, F, HR0.out⟩
      case round =>
        clear HR0
        obtain ⟨i, hi, rfl, HR⟩ := hrel
        obtain ⟨G, hR, hG, hB⟩ := HR.out
        by_cases hlt : i < m
        · have hiI : (i : Int) < (m : Int) := by omega
          have hM := HM.out
          obtain ⟨bb, oo, rfl, ca0⟩ := HK.out.cel i (by omega)
          have ca := cell_later hB ca0
          have HSS : Hid (nxts (ks.take (i + 1)) (.ok l) = nxt (ks.getD i 0) (nxts (ks.take i) (.ok l))) := nxts_take (by omega) _
          generalize ks.getD i 0 = k at *
          have HR1 : Hid (RR V p w3.heap.size l (.slice ad j cap) G (nxts (ks.take i) (.ok l)) wr ∧ (∀ i, G i → w.heap.size ≤ i) ∧ Below w.heap.size w wr) := ⟨hR, hG, hB⟩
          clear ca0 hM hR hG hB HR
          go_upto_region 15 with fail
          clear ca
          have hbD : Below wr.heap.size wr wr.drew := (Below.refl _ _).drew
          have HR2 : Hid (RR V p w3.heap.size l (.slice ad j cap) G (nxts (ks.take i) (.ok l)) wr.drew ∧ (∀ i, G i → w.heap.size ≤ i) ∧ Below w.heap.size w wr.drew) := ⟨HR1.out.1.later hbD, HR1.out.2.1, bchain HR1.out.2.2 hbD⟩
          refine wp_region_held_drew (S := fun _ => True) (by kernel_rfl) trivial (fun HS => ?_)
          clear hbD HR1
          generalize wr.drew = q0 at *
          refine wpAnyH_take (i := 0) (v := ?v1) rfl (by kernel_rfl) (by kernel_rfl) (by kernel_rfl) (fun _ _ _ h => h) (Or.inl ⟨by kernel_rfl, ?h1⟩) HS ?r1
          case h1 => (rintro w n0; go_simp) <;> with_reducible rfl
          try simp only [Act.put, List.getElem_toArray, List.getElem_cons_succ, List.getElem_cons_zero, List.setIfInBounds_toArray, List.set_cons_zero, List.set_cons_succ]
          refine wpAnyH_take (i := 1) (v := ?v2) rfl (by kernel_rfl) (by kernel_rfl) (by kernel_rfl) (fun _ _ _ h => h) (Or.inl ⟨by kernel_rfl, ?h2⟩) HS ?r2
          case h2 => (rintro w n0; go_simp) <;> with_reducible rfl
          try simp only [Act.put, List.getElem_toArray, List.getElem_cons_succ, List.getElem_cons_zero, List.setIfInBounds_toArray, List.set_cons_zero, List.set_cons_succ]
          refine wpAnyH_take (i := 2) (v := ?v3) rfl (by kernel_rfl) (by kernel_rfl) (by kernel_rfl) (fun _ _ _ h => h) (Or.inl ⟨by kernel_rfl, ?h3⟩) HS ?r3
          case h3 => (rintro w n0; go_simp) <;> with_reducible rfl
          try simp only [Act.put, List.getElem_toArray, List.getElem_cons_succ, List.getElem_cons_zero, List.setIfInBounds_toArray, List.set_cons_zero, List.set_cons_succ]
          refine wpAnyH_ready (rs := [3]) (by kernel_rfl) (by simp) ?_
          refine AllReadyH.cons rfl (fun K hK => ?_) AllReadyH.nil
          go_simp
          refine (read12 V k p w3.heap.size l _ G _ _ HY.out (by have := HN.out; omega) HR2.out.1).mono ?_
          rintro e q1 ⟨rfl, hA⟩
          obtain ⟨G1, hR3, hG3, hB3⟩ := hA.up HR2.out.2.2 HR2.out.2.1 hRb HR2.out.2.2.size
          have HR3 : Hid (∃ F : Nat → Prop, RR V p w3.heap.size l (.slice ad j cap) F (nxt k (nxts (ks.take i) (.ok l))) q1 ∧ (∀ i, F i → w.heap.size ≤ i) ∧ Below w.heap.size w q1) := ⟨G1, hR3, hG3, hB3⟩
          have HRt : Hid (V.Rt q1 p G1 (nxt k (nxts (ks.take i) (.ok l)))) := hR3.rt
          have he2 := hR3.rr.e2
          refine hK.out _ _ trivial (fun HS => ?_)
          clear hK K hA hR3 hG3 hB3 HR2
          refine wpAnyH_turn (S' := fun W' => W'.cell? ⟨w3.heap.size, 2, none⟩ = some (.int .i64 ((dnE (nxt k (nxts (ks.take i) (.ok l))) : Nat) : Int))) (fun _ _ => trivial) _ _ _ _ ?_
          replace HS := he2
          clear he2
          try simp only [Act.put, List.getElem_toArray, List.getElem_cons_succ, List.getElem_cons_zero, List.setIfInBounds_toArray, List.set_cons_zero, List.set_cons_succ]
          refine wpAnyH_take (i := 4) (v := ?v4) rfl (by kernel_rfl) (by kernel_rfl) (by kernel_rfl) (fun _ _ _ h => h) (Or.inl ⟨by kernel_rfl, ?h4⟩) HS ?r4
          case h4 => (rintro w n0; go_simp) <;> with_reducible rfl
          try simp only [Act.put, List.getElem_toArray, List.getElem_cons_succ, List.getElem_cons_zero, List.setIfInBounds_toArray, List.set_cons_zero, List.set_cons_succ]
          refine wpAnyH_take (i := 5) (v := ?v5) rfl (by kernel_rfl) (by kernel_rfl) (by kernel_rfl) (fun _ _ _ h => h) (Or.inl ⟨by kernel_rfl, ?h5⟩) HS ?r5
          case h5 => (rintro w n0; go_simp) <;> with_reducible rfl
          try simp only [Act.put, List.getElem_toArray, List.getElem_cons_succ, List.getElem_cons_zero, List.setIfInBounds_toArray, List.set_cons_zero, List.set_cons_succ]
          refine wpAnyH_take (i := 6) (v := ?v6) rfl (by kernel_rfl) (by kernel_rfl) (by kernel_rfl) (fun _ _ _ h => h) (Or.inl ⟨by kernel_rfl, ?h6⟩) HS ?r6
          case h6 => (rintro w n0; go_simp) <;> with_reducible rfl
          try simp only [Act.put, List.getElem_toArray, List.getElem_cons_succ, List.getElem_cons_zero, List.setIfInBounds_toArray, List.set_cons_zero, List.set_cons_succ]
          refine wpAnyH_take (i := 8) (v := ?v7) rfl (by kernel_rfl) (by kernel_rfl) (by kernel_rfl) (fun _ _ _ h => h) (Or.inl ⟨by kernel_rfl, ?h7⟩) HS ?r7
          case h7 => (rintro w n0; go_simp) <;> with_reducible rfl
          try simp only [Act.put, List.getElem_toArray, List.getElem_cons_succ, List.getElem_cons_zero, List.setIfInBounds_toArray, List.set_cons_zero, List.set_cons_succ]
          refine wpAnyH_take (i := 9) (v := ?v8) rfl (by kernel_rfl) (by kernel_rfl) (by kernel_rfl) (fun _ _ _ h => h) (Or.inl ⟨by kernel_rfl, ?h8⟩) HS ?r8
          case h8 => (rintro w n0; go_simp) <;> with_reducible rfl
          try simp only [Act.put, List.getElem_toArray, List.getElem_cons_succ, List.getElem_cons_zero, List.setIfInBounds_toArray, List.set_cons_zero, List.set_cons_succ]
          refine wpAnyH_take (i := 10) (v := ?v9) rfl (by kernel_rfl) (by kernel_rfl) (by kernel_rfl) (fun _ _ _ h => h) (Or.inl ⟨by kernel_rfl, ?h9⟩) HS ?r9
          case h9 => (rintro w n0; go_simp) <;> with_reducible rfl
          try simp only [Act.put, List.getElem_toArray, List.getElem_cons_succ, List.getElem_cons_zero, List.setIfInBounds_toArray, List.set_cons_zero, List.set_cons_succ]
          refine wpAnyH_take (i := 11) (v := ?v10) rfl (by kernel_rfl) (by kernel_rfl) (by kernel_rfl) (fun _ _ _ h => h) (Or.inl ⟨by kernel_rfl, ?h10⟩) HS ?r10
          case h10 => (rintro w n0; go_simp) <;> with_reducible rfl
          try simp only [Act.put, List.getElem_toArray, List.getElem_cons_succ, List.getElem_cons_zero, List.setIfInBounds_toArray, List.set_cons_zero, List.set_cons_succ]
          refine wpAnyH_ready (rs := [7]) (by kernel_rfl) (by simp) ?_
          refine AllReadyH.cons rfl (fun K hK => ?_) AllReadyH.nil
          go_simp
          refine (V.rerr _ _ _ _ HRt.out).mono ?_
          rintro e q2 ⟨rfl, hb2⟩
          have HR4 : Hid (∃ F : Nat → Prop, RR V p w3.heap.size l (.slice ad j cap) F (nxts (ks.take (i + 1)) (.ok l)) q2 ∧ (∀ i, F i → w.heap.size ≤ i) ∧ Below w.heap.size w q2) := by
            obtain ⟨F, z1, z2, z3⟩ := HR3.out
            refine ⟨F, ?_, z2, bchain z3 hb2⟩
            rw [HSS.out]
            exact z1.later hb2
          refine hK.out _ _ (cell_later hb2 HS) (fun HS => ?_)
          clear hK K hb2 HR3 HRt
          generalize dnE (nxt k (nxts (ks.take i) (.ok l))) = ev at *
          have hne : (((ev : Nat) : Int) != ((ev : Nat) : Int)) = false := neF rfl
          try simp only [Act.put, List.getElem_toArray, List.getElem_cons_succ, List.getElem_cons_zero, List.setIfInBounds_toArray, List.set_cons_zero, List.set_cons_succ]
          refine wpAnyH_take (i := 12) (v := ?v11) rfl (by kernel_rfl) (by kernel_rfl) (by kernel_rfl) (fun _ _ _ h => h) (Or.inl ⟨by kernel_rfl, ?h11⟩) HS ?r11
          case h11 => (rintro w n0; go_simp) <;> with_reducible rfl
          try simp only [Act.put, List.getElem_toArray, List.getElem_cons_succ, List.getElem_cons_zero, List.setIfInBounds_toArray, List.set_cons_zero, List.set_cons_succ]
          refine wpAnyH_take (i := 13) (v := ?v12) rfl (by kernel_rfl) (by kernel_rfl) (by kernel_rfl) (fun _ _ _ h => h) (Or.inl ⟨by kernel_rfl, ?h12⟩) HS ?r12
          case h12 => (rintro w n0; go_simp) <;> with_reducible rfl
          try simp only [Act.put, List.getElem_toArray, List.getElem_cons_succ, List.getElem_cons_zero, List.setIfInBounds_toArray, List.set_cons_zero, List.set_cons_succ]
          refine wpAnyH_done (by kernel_rfl) ?_ _
          clear HS
          go_wp2
          go_roundw
          case rel => exact ⟨i + 1, by omega, by go_num, HR4⟩
          case measure => simp [intOf]; omega
        · obtain rfl : i = m := by omega
          have hiI : ¬ (i : Int) < (i : Int) := by omega
          have HR1 : Hid (RR V p w3.heap.size l (.slice ad j cap) G (nxts (ks.take i) (.ok l)) wr ∧ Below w.heap.size w wr) := ⟨hR, hB⟩
          clear hR hG hB HR
          generalize nxts (ks.take i) (.ok l) = sE at *
          go_wp2_with fail
          refine (V.rdone _ _ _ _ HR1.out.1.rt).mono ?_
          rintro e w5 ⟨rfl, hb5⟩
          have HR5 : Hid (Rr w3.heap.size l (.slice ad j cap) sE w5 ∧ Below w.heap.size w w5) := ⟨HR1.out.1.rr.later hb5, bchain HR1.out.2 hb5⟩
          clear hb5 HR1
          go_wp2_with fail
          refine (refRDone _ l _ sE _ (by have := HN.out; omega) HR5.out.1).mono ?_
          rintro e w6 ⟨rfl, hb6⟩
          have HR6 : Hid (Below w.heap.size w w6) := bchain HR5.out.2 hb6
          clear hb6 HR5
          generalize rdE sE = z at *
          go_wp2
          go_ret
          exact ⟨by simp, HR6.out⟩
end Go.Proofs.Ytahbpegjdmblaaa
