/-
  Texts of this proof, joined: StLawK.
-/
import Derived.Test.YthnpdcblfocemaaDoorSU07
import Derived.Test.YthnpdcblfocemaaDoorSU34
import Derived.Deep.DeepCutAuto
import Derived.BigQuiet
set_option linter.unusedVariables false
set_option linter.unusedSimpArgs false
namespace Go.Proofs.YthnpdcblfocemaaDoor
open Go.RowKit

theorem kpo_lt18 {w0 w : World} {v : Value} {ls : List (List Nat)} (h : KpO w0 w v ls) : ∀ g, v.ownBlock = some g → g < w.heap.size := by
  obtain ⟨cs, h1, -⟩ := h
  exact fun g hg => (World.ownsRow.lt h1 g hg).2
theorem kpo_one {w0 w : World} {v : Value} {ls : List (List Nat)} {cs : List Value} (h : ∀ k, k < ls.length → ∃ x : Value, cs[k]? = some x ∧ Bs w0 x (ls.getD k [])) (ho : w.ownsRow w0.heap.size 22 1 v ls.length cs) : ∀ u ∈ cs, u.oneCell' = true := fun u hu => by
  obtain ⟨k, hk⟩ := List.getElem?_of_mem hu
  have hkl : k < cs.length := (List.getElem?_eq_some_iff.1 hk).1
  obtain ⟨y, e1, e2⟩ := h k (by have := ho.1; omega)
  rw [e1] at hk
  cases hk
  obtain ⟨ad, cap, e, -, -⟩ := e2.len
  rw [e]
  rfl
theorem kpo_app18 {w0 w : World} {B : Nat} {v : Value} {ls : List (List Nat)} {cs : List Value} {ad : Option Addr} {n c : Nat} {t : List Nat} (ho : w.ownsRow B 22 1 v (ls.length + 1) (cs ++ [.slice ad n c])) (h : ∀ k, k < ls.length → ∃ x : Value, cs[k]? = some x ∧ Bs w0 x (ls.getD k [])) (hp : Bs w0 (.slice ad n c) t) (hn : t.length = n) (hl : cs.length = ls.length * 1) (hB : w0.heap.size ≤ B) : KpO w0 w v (ls ++ [t]) := by
  have ho2 : w.ownsRow w0.heap.size 22 1 v (ls ++ [t]).length (cs ++ [.slice ad n c]) := by
    rw [List.length_append]
    refine ⟨ho.1, ?_⟩
    rcases ho.2 with q | ⟨g', c', cur', e1, e2, r⟩
    · exact Or.inl q
    · exact Or.inr ⟨g', c', cur', e1, Nat.le_trans hB e2, r⟩
  refine ⟨_, ho2, fun j hj => ?_⟩
  · rw [List.length_append] at hj
    by_cases q : j < ls.length
    · obtain ⟨y, e1, e2⟩ := h j q
      refine ⟨y, ?_, ?_⟩
      · rw [List.getElem?_append_left (by omega)]; exact e1
      · have : (ls ++ [t]).getD j [] = ls.getD j [] := by simp [List.getD, List.getElem?_append_left q]
        rw [this]
        exact e2
    · have hj2 : j = ls.length := by simp at hj; omega
      subst hj2
      refine ⟨.slice ad n c, ?_, ?_⟩
      · rw [List.getElem?_append_right (by omega), show ls.length - cs.length = 0 by omega]; rfl
      · have : (ls ++ [t]).getD ls.length [] = t := by simp [List.getD]
        rw [this]
        exact hp
structure Kep18 (V : Disk1) (S : Store1 V) (d q : Value) (room m N : Nat) (w0 w : World) (vB vL : Value) (last : List Nat) (rs : List (List Nat)) (used : Nat) (s : Dsk) : Prop where
  p : P2 (SD V S d q room m s ⟨⟨N, rs.length, used⟩, true⟩) Nil2 w0 w (fun k => vL.ownBlock = some k)
  k : KpO w0 w vL rs
  b : Bs w0 vB last
  bt : ∀ c ∈ last, c < 256
  bl : last.length ≤ room * 128
  i : SIn m room N last rs used s
  c : Calm s
  q : Jq m s
theorem kep_sb {V : Disk1} {S : Store1 V} {d q : Value} {room m N : Nat} {w0 w : World} {vB vL : Value} {last : List Nat} {rs : List (List Nat)} {used : Nat} {s : Dsk} (h : Kep18 V S d q room m N w0 w vB vL last rs used s) (hN : N < 256) {k : Nat} (hk : rs.length ≤ k) : SB m room k ⟨⟨N, rs.length, used⟩, true⟩ :=
  ⟨⟨h.i.ji.us, hk, by show N < _; omega⟩, fun _ => by show N ≠ 0; have := h.i.n1; omega⟩
set_option maxRecDepth 100000 in
set_option maxHeartbeats 16000000 in
theorem storeKeeps_any {V : Disk1} (S : Store1 V) (blocks room : Int) (hb0 : Bd64 blocks) (hr0 : Bd64 room) (vo : Value) (os : List Opv) (hbo : ∀ j, j < os.length → (∀ c ∈ (os.getD j op0).b, c < 256)) (w : World) (ho : Ops w vo os) (hT : S8 w) :
    Calls Tryd.prog 5 #[.int .i64 blocks, .int .i64 room, vo] w fun e w' => e = .returned (.bool true) ∧ Below w.heap.size w w' := by
  have HL : Hid (Ops w vo os) := ho
  have HY : Hid (∀ j, j < os.length → ∀ c ∈ (os.getD j op0).b, c < 256) := hbo
  have HT : Hid (S8 w) := hT
  obtain ⟨ao, cpo, rfl, k3, k4⟩ := ho.len
  unfold maxLen at k4
  obtain ⟨n, hn⟩ : ∃ n, os.length = n := ⟨_, rfl⟩
  have HN : Hid (os.length = n) := hn
  rw [hn] at k3 HL ⊢
  clear ho hn hbo hT
  go_enter Tryd.func5, Tryd.ntmps5
  go_wp2_with fail
  refine (awake18 S w HT.out).mono ?_
  rintro e w1 ⟨rfl, hb1⟩
  have HB1 : Hid (Below w.heap.size w w1) := hb1
  clear hb1
  go_wp2_with fail
  refine (few18 _ os w1 (HL.out.later HB1.out)).mono ?_
  rintro e w2 ⟨B, rfl, hF, hb2⟩
  have HB2 : Hid (Below w.heap.size w w2) := bchain HB1.out hb2
  clear hb2 HB1
  cases B with
  | false =>
    go_wp2
    go_ret
    exact ⟨rfl, HB2.out⟩
  | true =>
  have HF : Hid (Fev18 os) := hF rfl
  clear hF
  by_cases q1 : room < 1
  · go_wp2
    go_ret
    exact ⟨rfl, HB2.out⟩
  by_cases q2 : 5 < room
  · go_wp2
    go_ret
    exact ⟨rfl, HB2.out⟩
  obtain ⟨rm, rfl⟩ : ∃ rm : Nat, room = (rm : Int) := ⟨room.toNat, by omega⟩
  obtain ⟨r2, hr2⟩ : ∃ r2, 2 * rm = r2 := ⟨_, rfl⟩
  obtain ⟨r3, hr3⟩ : ∃ r3, r2 + 3 = r3 := ⟨_, rfl⟩
  have u1 : (2 : Int) * (rm : Int) = (r2 : Int) := by omega
  have u2 : IntKind.i64.wrap (r2 : Int) = (r2 : Int) := by rw [IntKind.wrap_i64]; omega
  have u3 : (r2 : Int) + 3 = (r3 : Int) := by omega
  have u4 : IntKind.i64.wrap (r3 : Int) = (r3 : Int) := by rw [IntKind.wrap_i64]; omega
  by_cases q3 : blocks < (r3 : Int)
  · go_wp2
    go_ret
    exact ⟨rfl, HB2.out⟩
  by_cases q4 : 60 < blocks
  · go_wp2
    go_ret
    exact ⟨rfl, HB2.out⟩
  obtain ⟨m, rfl⟩ : ∃ m : Nat, blocks = (m : Int) := ⟨blocks.toNat, by omega⟩
  have HRm : Hid (1 ≤ rm ∧ rm ≤ 5 ∧ fb18 rm + 1 ≤ m ∧ m ≤ 60) := ⟨by omega, by omega, by unfold fb18; omega, by omega⟩
  have hn60 : n ≤ 60 := by have := HF.out.1; have := HN.out; omega
  obtain ⟨M8, hM8⟩ : ∃ M8, rm * 128 = M8 := ⟨_, rfl⟩
  have v1 : (rm : Int) * 128 = (M8 : Int) := by omega
  have v2 : IntKind.i64.wrap (M8 : Int) = (M8 : Int) := by rw [IntKind.wrap_i64]; omega
  have HM8 : Hid (rm * 128 = M8) := hM8
  clear hr2 hr3 hM8
  go_wp2_with fail
  refine (dwNew V w w2 m (by have := HRm.out; omega) (by have := HRm.out; omega) HB2.out).mono ?_
  rintro e w3 ⟨d, rfl, hD3⟩
  have HD3 : Hid (Dw V w w3 d (dNew m)) := hD3
  clear hD3 HB2 u1 u2 u3 u4
  have HS0 := hid5 (srest_new HRm.out.2.2.1 (by have := HRm.out; omega))
  go_wp2_with fail
  refine (dwOpen S HD3.out HT.out (jq_new m) HRm.out.1 (by have := HRm.out; omega) HRm.out.2.2.1 (by have := HRm.out; omega) rfl).mono ?_
  rintro e w4 ⟨aq, vb, vl, rfl, hD4, -, -, -⟩
  have HD4 : Hid (P2 (SD V S d (.pointer (some aq)) rm m (dNew m) ⟨⟨0, 0, 0⟩, false⟩) Nil2 w w4 (fun _ => False)) := hD4
  clear hD4 HD3
  obtain ⟨s5, e5, i5, c5⟩ := HS0.out.calm (calm_new18 m) ⟨⟨0, 0, 0⟩, false⟩ (d := []) (Nat.zero_le _) (fun c h => by cases h) (by decide)
  have hq5 : Jq m s5 := by
    have := jq_save (d := []) (j := ⟨⟨0, 0, 0⟩, false⟩) (jq_new m) HRm.out.2.2.1 (by have := HRm.out; omega)
    rw [e5] at this
    exact this
  have H5 : Hid (svS (dNew m) rm ⟨⟨0, 0, 0⟩, false⟩ [] = (0, s5, ⟨⟨1, 0, 0⟩, true⟩) ∧ SIn m rm 1 [] [] 0 s5 ∧ Calm s5 ∧ Jq m s5) := ⟨e5, i5, c5, hq5⟩
  clear e5 i5 c5 hq5
  go_wp2_with fail
  refine (sdSave owns_nil HD4.out HT.out (jq_new m) HRm.out.1 (by have := HRm.out; omega) HRm.out.2.2.1 (by have := HRm.out; omega) (bs_nilS w4) (fun a n c e hn => by cases e) (fun c h => by cases h) (by decide)).mono ?_
  rintro e w5 ⟨rfl, hD5, -⟩
  rw [H5.out.1] at hD5 ⊢
  have HK5 : Hid (Kep18 V S d (.pointer (some aq)) rm m 1 w w5 (.slice none 0 0) (.slice none 0 0) [] [] 0 s5) := ⟨hD5.weak (fun k hk => (by cases hk)), kpo_nil w w5, bs_nilS w, fun c h => (by cases h), Nat.zero_le _, H5.out.2.1, H5.out.2.2.1, H5.out.2.2.2⟩
  clear hD5 HD4 H5
  go_upto_region 12 with fail
  go_loopw [13, 14, 69] (fun s13 s14 s69 wr => ∃ (j N used : Nat) (last : List Nat) (rs : List (List Nat)) (s : Dsk), j ≤ n ∧ s69 = .int .i64 (j : Int) ∧ Hid (N ≤ 2 * j + 1 ∧ rs.length ≤ j ∧ Kep18 V S d (.pointer (some aq)) rm m N w wr s13 s14 last rs used s)) (fun _ _ s69 _ => n - (intOf s69).toNat)
  case atStart => exact ⟨0, 1, 0, [], [], s5, by omega, rfl, by omega, Nat.zero_le _, HK5.out⟩
  case round =>
    obtain ⟨j, N, used, last, rs, s, hj, rfl, HS⟩ := hrel
    clear HK5
    by_cases hlt : j < n
    · have hjI : (j : Int) < (n : Int) := by omega
      have hj0 : (0 : Int) ≤ (j : Int) := by omega
      have hM := HN.out
      obtain ⟨b, o, vb, vf, rfl, c0, c1, c2, c3, hB, hF⟩ := HL.out.cel j (by omega)
      obtain ⟨a1, p1, rfl, -, -⟩ := hB.len
      obtain ⟨a2, p2, rfl, -, -⟩ := hF.len
      have hbe := HS.out.2.2.p.bel
      have x0 := cell_later hbe c0
      have x1 := cell_later hbe c1
      have x2 := cell_later hbe c2
      have x3 := cell_later hbe c3
      have HV : Hid (Bs w (.slice a1 (os.getD j op0).b.length p1) (os.getD j op0).b ∧ (∀ c ∈ (os.getD j op0).b, c < 256) ∧ (os.getD j op0).b.length ≤ 1000) := ⟨hB, HY.out j (by omega), (HF.out.2 j (by omega)).1⟩
      clear c0 c1 c2 c3 hB hF hM hbe
      generalize (os.getD j op0).k = kk at *
      generalize (os.getD j op0).i = ii at *
      generalize (os.getD j op0).b = bb at *
      generalize (os.getD j op0).fs = ff at *
      obtain ⟨nb1, hnb1⟩ : ∃ x, bb.length = x := ⟨_, rfl⟩
      obtain ⟨nf1, hnf1⟩ : ∃ x, ff.length = x := ⟨_, rfl⟩
      have HNN : Hid (bb.length = nb1) := hnb1
      rw [hnb1] at x2 HV
      rw [hnf1] at x3
      clear hnb1 hnf1
      obtain ⟨wx, hwx⟩ : ∃ wx, wx = wr.alloc (.cells #[.int .i64 kk, .int .i64 ii, .slice a1 nb1 p1, .slice a2 nf1 p2] 48) := ⟨_, rfl⟩
      have HX : Hid (N ≤ 2 * j + 1 ∧ rs.length ≤ j ∧ Kep18 V S d (.pointer (some aq)) rm m N w wx u13 u14 last rs used s ∧ P2 (SD V S d (.pointer (some aq)) rm m s ⟨⟨N, rs.length, used⟩, true⟩) Nil2 w wx (fun k => u14.ownBlock = some k ∨ k = wr.heap.size) ∧ wx.cell? ⟨wr.heap.size, 0, none⟩ = some (.int .i64 kk) ∧ wx.cell? ⟨wr.heap.size, 2, none⟩ = some (.slice a1 nb1 p1) ∧ (∀ g, u14.ownBlock = some g → g < wr.heap.size)) := by
        have k := bel1 wr (.cells #[.int .i64 kk, .int .i64 ii, .slice a1 nb1 p1, .slice a2 nf1 p2] 48)
        rw [← hwx] at k
        have hsz : wx.heap.size = wr.heap.size + 1 := by rw [hwx]; simp
        have h := HS.out.2.2
        have hp := h.p.later (sd_owns _ _ _ _ _ _ _ _) owns_nil k
        refine ⟨HS.out.1, HS.out.2.1, ⟨hp.weak (fun k hk => Or.inl hk), h.k.later k, h.b, h.bt, h.bl, h.i, h.c, h.q⟩, hp.weak (fun k hk => ?_), by rw [hwx]; simp [go_sem], by rw [hwx]; simp [go_sem], fun g hg => kpo_lt18 h.k g hg⟩
        rcases hk with hk | hk
        · exact Or.inl hk
        · exact Or.inr ⟨by omega, by omega⟩
      go_upto_region 14 with fail
      rw [← hwx]
      clear hwx HS x0 x1 x2 x3
      generalize wr.heap.size = bo at *
      have y0 := HX.out.2.2.2.2.1
      have y2 := HX.out.2.2.2.2.2.1
      by_cases g1 : kk = 1
      · subst g1
        have HP : Hid (prt bb.length ≤ 1001 ∧ bb.length ≤ 1000) := ⟨by have := prt_le bb.length; have := HV.out.2.2; have := HNN.out; omega, by have := HV.out.2.2; have := HNN.out; omega⟩
        have HA := hid5 (sdAppend owns_nil HX.out.2.2.2.1 HT.out HX.out.2.2.1.q (kep_sb HX.out.2.2.1 (by have := HX.out.1; omega) (Nat.le_refl _)) (by have := HX.out.2.1; omega) HRm.out.2.2.1 (by have := HRm.out; omega) (HV.out.1.later HX.out.2.2.1.p.bel) (Lo.ou (Ls.lo HV.out.1)) HV.out.2.1 (by have := HP.out.2; omega))
        have hjq := jq_append (r := bb) HX.out.2.2.1.q (kep_sb HX.out.2.2.1 (by have := HX.out.1; omega) (Nat.le_refl _)) HRm.out.2.2.1 (by have := HP.out.2; omega)
        by_cases hroom : used + prt bb.length ≤ m - fb18 rm
        · obtain ⟨s', e1, e2, e3⟩ := HX.out.2.2.1.i.calm HX.out.2.2.1.c (r := bb) HV.out.2.1 (by have := HP.out.2; omega) hroom
          rw [e1] at HA hjq
          have HE : Hid (SIn m rm N last (rs ++ [bb]) (used + prt bb.length) s' ∧ Calm s' ∧ Jq m s') := ⟨e2, e3, hjq⟩
          clear e1 e2 e3 hjq hroom
          go_wp2_with fail
          refine HA.out.mono ?_
          rintro e w7 ⟨rfl, hD7, hK7⟩
          have HD7 : Hid (P2 (SD V S d (.pointer (some aq)) rm m s' ⟨⟨N, (rs ++ [bb]).length, used + prt bb.length⟩, true⟩) Nil2 w w7 (fun k => u14.ownBlock = some k ∨ k = bo) ∧ KpO w w7 u14 rs ∧ w7.cell? ⟨bo, 2, none⟩ = some (.slice a1 nb1 p1)) := ⟨hD7, HX.out.2.2.1.k.kn hK7 (fun g hg => Or.inl hg), cell_blk5 (a := ⟨bo, 2, none⟩) (hK7 bo (Or.inr rfl)) y2⟩
          clear hD7 hK7 HA y0 y2
          obtain ⟨hcs, hcs1, hcs2⟩ := HD7.out.2.1
          have y2 := HD7.out.2.2
          go_upto_region 18 with fail
          refine wp_region_held_drew (S := fun W => W.cell? ⟨bo, 2, none⟩ = some (.slice a1 nb1 p1)) (by kernel_rfl) y2 (fun HS => ?_)
          have HQ0 : Hid (Below w7.heap.size w7 w7.drew) := (Below.refl _ _).drew
          have HLs : Hid (LsC w7.drew u14 rs.length hcs) := (lsc_own hcs1 (kpo_one hcs2 hcs1)).later HQ0.out
          have HLn : Hid (rs.length ≤ 60) := Nat.le_trans HX.out.2.1 (by omega)
          have hcs0 := hid5 hcs1.1
          clear hcs1
          generalize w7.drew = q0 at *
          refine wpAnyH_take (i := 1) (v := ?v1) rfl (by kernel_rfl) (by kernel_rfl) (by kernel_rfl) (fun _ _ _ h => h) (Or.inl ⟨by kernel_rfl, ?h1⟩) HS ?r1
          case h1 => (rintro w n0; go_simp) <;> with_reducible rfl
          try simp only [Act.put, List.getElem_toArray, List.getElem_cons_succ, List.getElem_cons_zero, List.setIfInBounds_toArray, List.set_cons_zero, List.set_cons_succ]
          refine wpAnyH_take (i := 3) (v := ?v2) rfl (by kernel_rfl) (by kernel_rfl) (by kernel_rfl) (fun _ _ _ h => h) (Or.inl ⟨by kernel_rfl, ?h2⟩) HS ?r2
          case h2 => (rintro w n0; go_simp) <;> with_reducible rfl
          try simp only [Act.put, List.getElem_toArray, List.getElem_cons_succ, List.getElem_cons_zero, List.setIfInBounds_toArray, List.set_cons_zero, List.set_cons_succ]
          refine wpAnyH_take (i := 4) (v := ?v3) rfl (by kernel_rfl) (by kernel_rfl) (by kernel_rfl) (fun _ _ _ h => h) (Or.inl ⟨by kernel_rfl, ?h3⟩) HS ?r3
          case h3 => (rintro w n0; go_simp) <;> with_reducible rfl
          try simp only [Act.put, List.getElem_toArray, List.getElem_cons_succ, List.getElem_cons_zero, List.setIfInBounds_toArray, List.set_cons_zero, List.set_cons_succ]
          have HS0 := hid5 HS
          have HB : Hid (Below q0.heap.size q0 q0) := Below.refl _ _
          refine wpAnyH_ready (rs := [0, 5]) (by kernel_rfl) (by simp) ?_
          refine AllReadyH.cons rfl (fun K hK => ?_) (AllReadyH.cons rfl (fun K hK => ?_) AllReadyH.nil)
          · go_simp
            obtain ⟨W1, hW1⟩ : ∃ WW, WW = q0.alloc (.cells #[] 22) := ⟨_, rfl⟩
            have HM : Hid (W1.ownsRow q0.heap.size 22 1 (.slice (some ⟨q0.heap.size, 0, none⟩) 0 0) 0 [] ∧ Below q0.heap.size q0 W1 ∧ W1.heap.size = q0.heap.size + 1) := by
              rw [hW1]
              exact ⟨World.ownsRow_made q0 #[] 0 HB.out.size (Nat.zero_le _) (by simp), bel1 _ _, by simp⟩
            rw [← hW1]
            have HB2 : Hid (Below q0.heap.size q0 W1) := bchain HB.out HM.out.2.1
            refine hK.out _ _ (cell_later HM.out.2.1 HS) (fun HS => ?_)
            clear hK K hW1 HB
            have HB := HB2
            clear HB2
            refine wpAnyH_ready (rs := [2, 5]) (by kernel_rfl) (by simp) ?_
            refine AllReadyH.cons rfl (fun K hK => ?_) (AllReadyH.cons rfl (fun K hK => ?_) AllReadyH.nil)
            · rw [if_pos (by kernel_rfl)]
              refine wp_ap18 _ _ rfl q0.heap.size (.slice (some ⟨q0.heap.size, 0, none⟩) 0 0) 0 [] rfl HM.out.1 (u14) (rs.length) (hcs) rfl (HLs.out.later HB.out) (by have := HLn.out; omega) HB.out.size (fun v2 W2 hown hgrow => ?_)
              have HA2 : Hid (W2.ownsRow q0.heap.size 22 1 v2 (0 + rs.length) ([] ++ hcs) ∧ W1.grownBy W2 (Value.ownBlock (.slice (some ⟨q0.heap.size, 0, none⟩) 0 0)) ∧ Below q0.heap.size q0 W2) := ⟨hown, hgrow, HB.out.grown hgrow HB.out.size (fun k hk => (HM.out.1.lt k hk).1)⟩
              refine hK.out _ _ (cell_later HA2.out.2.2 HS0.out) (fun HS => ?_)
              clear hK K hown hgrow HB
              have HB := hid5 HA2.out.2.2
              refine wpAnyH_ready (rs := [5]) (by kernel_rfl) (by simp) ?_
              refine AllReadyH.cons rfl (fun K hK => ?_) AllReadyH.nil
              go_simp
              obtain ⟨W3, hW1⟩ : ∃ WW, WW = W2.alloc (.cells #[.slice a1 nb1 p1] 22) := ⟨_, rfl⟩
              have HN1 : Hid (LsC W3 (.slice (some ⟨W2.heap.size, 0, none⟩) 1 1) 1 [.slice a1 nb1 p1] ∧ Below W2.heap.size W2 W3 ∧ W3.heap.size = W2.heap.size + 1) := by
                rw [hW1]
                exact ⟨lsc_one W2 _ rfl _, bel1 _ _, by simp⟩
              rw [← hW1]
              have HB2 : Hid (Below q0.heap.size q0 W3) := bchain HB.out HN1.out.2.1
              refine hK.out _ _ (cell_later HN1.out.2.1 HS) (fun HS => ?_)
              clear hK K hW1 HB
              have HB := HB2
              clear HB2
              refine wpAnyH_ready (rs := [6]) (by kernel_rfl) (by simp) ?_
              refine AllReadyH.cons rfl (fun K hK => ?_) AllReadyH.nil
              rw [if_pos (by kernel_rfl)]
              refine wp_ap18 _ _ rfl q0.heap.size v2 (0 + rs.length) ([] ++ hcs) rfl (own_later HA2.out.1 HN1.out.2.1) (.slice (some ⟨W2.heap.size, 0, none⟩) 1 1) 1 [.slice a1 nb1 p1] rfl HN1.out.1 (by have := HLn.out; omega) HB.out.size (fun v9 w9 hown hgrow => ?_)
              have HO9 : Hid (w9.ownsRow q0.heap.size 22 1 v9 (rs.length + 1) (hcs ++ [.slice a1 nb1 p1]) ∧ Below q0.heap.size q0 w9) := ⟨by rw [Nat.zero_add, List.nil_append] at hown; exact hown, HB.out.grown hgrow HB.out.size (fun k hk => ((own_later HA2.out.1 HN1.out.2.1).lt k hk).1)⟩
              refine hK.out _ _ (cell_later HO9.out.2 HS0.out) (fun HS => ?_)
              clear hK K hown hgrow HB HA2
              refine wpAnyH_take (i := 7) (v := ?_) rfl (by kernel_rfl) (by kernel_rfl) (by kernel_rfl) (fun _ _ _ h => h) (Or.inl ⟨by kernel_rfl, ?_⟩) HS ?_
              rotate_left
              · (rintro w n0; go_simp) <;> with_reducible rfl
              try simp only [Act.put, List.getElem_toArray, List.getElem_cons_succ, List.getElem_cons_zero, List.setIfInBounds_toArray, List.set_cons_zero, List.set_cons_succ]
              refine wpAnyH_done (by kernel_rfl) ?_ _
              clear HS HS0
              have HF9 : Hid (N ≤ 2 * (j + 1) + 1 ∧ (rs ++ [bb]).length ≤ j + 1 ∧ Kep18 V S d (.pointer (some aq)) rm m N w w9 u13 v9 last (rs ++ [bb]) (used + prt bb.length) s') := by
                have h := HX.out
                have hb9 := bchain HQ0.out HO9.out.2
                have hsz := HQ0.out.size
                have hbw := HD7.out.1.bel.size
                refine ⟨by omega, by rw [List.length_append]; simp; omega, (HD7.out.1.grow18 (sd_owns _ _ _ _ _ _ _ _) owns_nil (fun i hi _ => hb9.block i hi) hb9.size (bchain HD7.out.1.bel hb9) (fun i hi => Or.inr ⟨by have := HO9.out.1.lt i hi; omega, (HO9.out.1.lt i hi).2⟩)), kpo_app18 HO9.out.1 hcs2 HV.out.1 HNN.out hcs0.out (by omega), h.2.2.1.b, h.2.2.1.bt, h.2.2.1.bl, HE.out.1, HE.out.2.1, HE.out.2.2⟩
              clear HO9 HD7
              go_wp2_with fail
              go_roundw
              case rel => exact ⟨j + 1, N, used + prt bb.length, last, rs ++ [bb], s', by omega, by first | rfl | go_num, HF9.out⟩
              case measure => simp only [intOf]; omega
            · go_simp
              obtain ⟨W2, hW1⟩ : ∃ WW, WW = W1.alloc (.cells #[.slice a1 nb1 p1] 22) := ⟨_, rfl⟩
              have HN1 : Hid (LsC W2 (.slice (some ⟨W1.heap.size, 0, none⟩) 1 1) 1 [.slice a1 nb1 p1] ∧ Below W1.heap.size W1 W2 ∧ W2.heap.size = W1.heap.size + 1) := by
                rw [hW1]
                exact ⟨lsc_one W1 _ rfl _, bel1 _ _, by simp⟩
              rw [← hW1]
              have HB2 : Hid (Below q0.heap.size q0 W2) := bchain HB.out HN1.out.2.1
              refine hK.out _ _ (cell_later HN1.out.2.1 HS) (fun HS => ?_)
              clear hK K hW1 HB
              have HB := HB2
              clear HB2
              refine wpAnyH_ready (rs := [2]) (by kernel_rfl) (by simp) ?_
              refine AllReadyH.cons rfl (fun K hK => ?_) AllReadyH.nil
              rw [if_pos (by kernel_rfl)]
              refine wp_ap18 _ _ rfl q0.heap.size (.slice (some ⟨q0.heap.size, 0, none⟩) 0 0) 0 [] rfl (own_later HM.out.1 HN1.out.2.1) (u14) (rs.length) (hcs) rfl (HLs.out.later HB.out) (by have := HLn.out; omega) HB.out.size (fun v2 W3 hown hgrow => ?_)
              have HA2 : Hid (W3.ownsRow q0.heap.size 22 1 v2 (0 + rs.length) ([] ++ hcs) ∧ W2.grownBy W3 (Value.ownBlock (.slice (some ⟨q0.heap.size, 0, none⟩) 0 0)) ∧ Below q0.heap.size q0 W3) := ⟨hown, hgrow, HB.out.grown hgrow HB.out.size (fun k hk => ((own_later HM.out.1 HN1.out.2.1).lt k hk).1)⟩
              refine hK.out _ _ (cell_later HA2.out.2.2 HS0.out) (fun HS => ?_)
              clear hK K hown hgrow HB
              have HB := hid5 HA2.out.2.2
              have HN2 : Hid (LsC W3 (.slice (some ⟨W1.heap.size, 0, none⟩) 1 1) 1 [.slice a1 nb1 p1]) := lsc_grown HN1.out.1 HA2.out.2.1 (by have := HM.out.2.2; simp [Value.ownBlock]; omega)
              refine wpAnyH_ready (rs := [6]) (by kernel_rfl) (by simp) ?_
              refine AllReadyH.cons rfl (fun K hK => ?_) AllReadyH.nil
              rw [if_pos (by kernel_rfl)]
              refine wp_ap18 _ _ rfl q0.heap.size v2 (0 + rs.length) ([] ++ hcs) rfl HA2.out.1 (.slice (some ⟨W1.heap.size, 0, none⟩) 1 1) 1 [.slice a1 nb1 p1] rfl HN2.out (by have := HLn.out; omega) HB.out.size (fun v9 w9 hown hgrow => ?_)
              have HO9 : Hid (w9.ownsRow q0.heap.size 22 1 v9 (rs.length + 1) (hcs ++ [.slice a1 nb1 p1]) ∧ Below q0.heap.size q0 w9) := ⟨by rw [Nat.zero_add, List.nil_append] at hown; exact hown, HB.out.grown hgrow HB.out.size (fun k hk => (HA2.out.1.lt k hk).1)⟩
              refine hK.out _ _ (cell_later HO9.out.2 HS0.out) (fun HS => ?_)
              clear hK K hown hgrow HB HA2
              refine wpAnyH_take (i := 7) (v := ?_) rfl (by kernel_rfl) (by kernel_rfl) (by kernel_rfl) (fun _ _ _ h => h) (Or.inl ⟨by kernel_rfl, ?_⟩) HS ?_
              rotate_left
              · (rintro w n0; go_simp) <;> with_reducible rfl
              try simp only [Act.put, List.getElem_toArray, List.getElem_cons_succ, List.getElem_cons_zero, List.setIfInBounds_toArray, List.set_cons_zero, List.set_cons_succ]
              refine wpAnyH_done (by kernel_rfl) ?_ _
              clear HS HS0
              have HF9 : Hid (N ≤ 2 * (j + 1) + 1 ∧ (rs ++ [bb]).length ≤ j + 1 ∧ Kep18 V S d (.pointer (some aq)) rm m N w w9 u13 v9 last (rs ++ [bb]) (used + prt bb.length) s') := by
                have h := HX.out
                have hb9 := bchain HQ0.out HO9.out.2
                have hsz := HQ0.out.size
                have hbw := HD7.out.1.bel.size
                refine ⟨by omega, by rw [List.length_append]; simp; omega, (HD7.out.1.grow18 (sd_owns _ _ _ _ _ _ _ _) owns_nil (fun i hi _ => hb9.block i hi) hb9.size (bchain HD7.out.1.bel hb9) (fun i hi => Or.inr ⟨by have := HO9.out.1.lt i hi; omega, (HO9.out.1.lt i hi).2⟩)), kpo_app18 HO9.out.1 hcs2 HV.out.1 HNN.out hcs0.out (by omega), h.2.2.1.b, h.2.2.1.bt, h.2.2.1.bl, HE.out.1, HE.out.2.1, HE.out.2.2⟩
              clear HO9 HD7
              go_wp2_with fail
              go_roundw
              case rel => exact ⟨j + 1, N, used + prt bb.length, last, rs ++ [bb], s', by omega, by first | rfl | go_num, HF9.out⟩
              case measure => simp only [intOf]; omega
          · go_simp
            obtain ⟨W1, hW1⟩ : ∃ WW, WW = q0.alloc (.cells #[.slice a1 nb1 p1] 22) := ⟨_, rfl⟩
            have HN1 : Hid (LsC W1 (.slice (some ⟨q0.heap.size, 0, none⟩) 1 1) 1 [.slice a1 nb1 p1] ∧ Below q0.heap.size q0 W1 ∧ W1.heap.size = q0.heap.size + 1) := by
              rw [hW1]
              exact ⟨lsc_one q0 _ rfl _, bel1 _ _, by simp⟩
            rw [← hW1]
            have HB2 : Hid (Below q0.heap.size q0 W1) := bchain HB.out HN1.out.2.1
            refine hK.out _ _ (cell_later HN1.out.2.1 HS) (fun HS => ?_)
            clear hK K hW1 HB
            have HB := HB2
            clear HB2
            refine wpAnyH_ready (rs := [0]) (by kernel_rfl) (by simp) ?_
            refine AllReadyH.cons rfl (fun K hK => ?_) AllReadyH.nil
            go_simp
            obtain ⟨W2, hW1⟩ : ∃ WW, WW = W1.alloc (.cells #[] 22) := ⟨_, rfl⟩
            have HM : Hid (W2.ownsRow q0.heap.size 22 1 (.slice (some ⟨W1.heap.size, 0, none⟩) 0 0) 0 [] ∧ Below W1.heap.size W1 W2 ∧ W2.heap.size = W1.heap.size + 1) := by
              rw [hW1]
              exact ⟨World.ownsRow_made W1 #[] 0 HB.out.size (Nat.zero_le _) (by simp), bel1 _ _, by simp⟩
            rw [← hW1]
            have HB2 : Hid (Below q0.heap.size q0 W2) := bchain HB.out HM.out.2.1
            refine hK.out _ _ (cell_later HM.out.2.1 HS) (fun HS => ?_)
            clear hK K hW1 HB
            have HB := HB2
            clear HB2
            refine wpAnyH_ready (rs := [2]) (by kernel_rfl) (by simp) ?_
            refine AllReadyH.cons rfl (fun K hK => ?_) AllReadyH.nil
            rw [if_pos (by kernel_rfl)]
            refine wp_ap18 _ _ rfl q0.heap.size (.slice (some ⟨W1.heap.size, 0, none⟩) 0 0) 0 [] rfl HM.out.1 (u14) (rs.length) (hcs) rfl (HLs.out.later HB.out) (by have := HLn.out; omega) HB.out.size (fun v2 W3 hown hgrow => ?_)
            have HA2 : Hid (W3.ownsRow q0.heap.size 22 1 v2 (0 + rs.length) ([] ++ hcs) ∧ W2.grownBy W3 (Value.ownBlock (.slice (some ⟨W1.heap.size, 0, none⟩) 0 0)) ∧ Below q0.heap.size q0 W3) := ⟨hown, hgrow, HB.out.grown hgrow HB.out.size (fun k hk => (HM.out.1.lt k hk).1)⟩
            refine hK.out _ _ (cell_later HA2.out.2.2 HS0.out) (fun HS => ?_)
            clear hK K hown hgrow HB
            have HB := hid5 HA2.out.2.2
            have HN2 : Hid (LsC W3 (.slice (some ⟨q0.heap.size, 0, none⟩) 1 1) 1 [.slice a1 nb1 p1]) := lsc_grown (HN1.out.1.later HM.out.2.1) HA2.out.2.1 (by have := HN1.out.2.2; simp [Value.ownBlock]; omega)
            refine wpAnyH_ready (rs := [6]) (by kernel_rfl) (by simp) ?_
            refine AllReadyH.cons rfl (fun K hK => ?_) AllReadyH.nil
            rw [if_pos (by kernel_rfl)]
            refine wp_ap18 _ _ rfl q0.heap.size v2 (0 + rs.length) ([] ++ hcs) rfl HA2.out.1 (.slice (some ⟨q0.heap.size, 0, none⟩) 1 1) 1 [.slice a1 nb1 p1] rfl HN2.out (by have := HLn.out; omega) HB.out.size (fun v9 w9 hown hgrow => ?_)
            have HO9 : Hid (w9.ownsRow q0.heap.size 22 1 v9 (rs.length + 1) (hcs ++ [.slice a1 nb1 p1]) ∧ Below q0.heap.size q0 w9) := ⟨by rw [Nat.zero_add, List.nil_append] at hown; exact hown, HB.out.grown hgrow HB.out.size (fun k hk => (HA2.out.1.lt k hk).1)⟩
            refine hK.out _ _ (cell_later HO9.out.2 HS0.out) (fun HS => ?_)
            clear hK K hown hgrow HB HA2
            refine wpAnyH_take (i := 7) (v := ?_) rfl (by kernel_rfl) (by kernel_rfl) (by kernel_rfl) (fun _ _ _ h => h) (Or.inl ⟨by kernel_rfl, ?_⟩) HS ?_
            rotate_left
            · (rintro w n0; go_simp) <;> with_reducible rfl
            try simp only [Act.put, List.getElem_toArray, List.getElem_cons_succ, List.getElem_cons_zero, List.setIfInBounds_toArray, List.set_cons_zero, List.set_cons_succ]
            refine wpAnyH_done (by kernel_rfl) ?_ _
            clear HS HS0
            have HF9 : Hid (N ≤ 2 * (j + 1) + 1 ∧ (rs ++ [bb]).length ≤ j + 1 ∧ Kep18 V S d (.pointer (some aq)) rm m N w w9 u13 v9 last (rs ++ [bb]) (used + prt bb.length) s') := by
              have h := HX.out
              have hb9 := bchain HQ0.out HO9.out.2
              have hsz := HQ0.out.size
              have hbw := HD7.out.1.bel.size
              refine ⟨by omega, by rw [List.length_append]; simp; omega, (HD7.out.1.grow18 (sd_owns _ _ _ _ _ _ _ _) owns_nil (fun i hi _ => hb9.block i hi) hb9.size (bchain HD7.out.1.bel hb9) (fun i hi => Or.inr ⟨by have := HO9.out.1.lt i hi; omega, (HO9.out.1.lt i hi).2⟩)), kpo_app18 HO9.out.1 hcs2 HV.out.1 HNN.out hcs0.out (by omega), h.2.2.1.b, h.2.2.1.bt, h.2.2.1.bl, HE.out.1, HE.out.2.1, HE.out.2.2⟩
            clear HO9 HD7
            go_wp2_with fail
            go_roundw
            case rel => exact ⟨j + 1, N, used + prt bb.length, last, rs ++ [bb], s', by omega, by first | rfl | go_num, HF9.out⟩
            case measure => simp only [intOf]; omega
        · have e1 := HX.out.2.2.1.i.full (r := bb) (by have := HP.out.2; omega) (by have := prt_pos bb.length; omega)
          rw [e1] at HA
          clear e1 hjq hroom
          go_wp2_with fail
          refine HA.out.mono ?_
          rintro e w7 ⟨rfl, hD7, hK7⟩
          have HF9 : Hid (N ≤ 2 * (j + 1) + 1 ∧ rs.length ≤ j + 1 ∧ Kep18 V S d (.pointer (some aq)) rm m N w w7 u13 u14 last rs used s) := by
            have h := HX.out
            exact ⟨by omega, by omega, hD7.weak (fun k hk => Or.inl hk), h.2.2.1.k.kn hK7 (fun g hg => Or.inl hg), h.2.2.1.b, h.2.2.1.bt, h.2.2.1.bl, h.2.2.1.i, h.2.2.1.c, h.2.2.1.q⟩
          clear hD7 hK7 HA y0 y2
          go_wp2_with fail
          go_roundw
          case rel => exact ⟨j + 1, N, used, last, rs, s, by omega, by first | rfl | go_num, HF9.out⟩
          case measure => simp only [intOf]; omega
      by_cases g2 : kk = 2
      · subst g2
        have HA := hid5 (sdSave owns_nil HX.out.2.2.2.1 HT.out HX.out.2.2.1.q HRm.out.1 (by have := HRm.out; omega) HRm.out.2.2.1 (by have := HRm.out; omega) (HV.out.1.later HX.out.2.2.1.p.bel) (Lo.ou (Ls.lo HV.out.1)) HV.out.2.1 (by have := HV.out.2.2; have := HNN.out; omega))
        have hjq := jq_save (d := bb) (j := ⟨⟨N, rs.length, used⟩, true⟩) HX.out.2.2.1.q HRm.out.2.2.1 (by have := HRm.out; omega)
        have HSr := hid5 (HX.out.2.2.1.i.rest (by have := HX.out.1; omega))
        by_cases hlong : M8 < nb1
        · have hlI : (M8 : Int) < (nb1 : Int) := by omega
          have e1 := svS_long (s := s) (room := rm) (j := ⟨⟨N, rs.length, used⟩, true⟩) (d := bb) (by rw [HM8.out, HNN.out]; exact hlong)
          rw [e1] at HA
          clear e1 hjq hlong
          obtain ⟨s9, e9, i9, c9⟩ := HSr.out.calm HX.out.2.2.1.c ⟨⟨N, rs.length, used⟩, false⟩ HX.out.2.2.1.bl HX.out.2.2.1.bt (by have := HX.out.1; omega)
          have hjq9 := jq_save (d := last) (j := ⟨⟨N, rs.length, used⟩, false⟩) HX.out.2.2.1.q HRm.out.2.2.1 (by have := HRm.out; omega)
          rw [e9] at hjq9
          have HE : Hid (svS s rm ⟨⟨N, rs.length, used⟩, false⟩ last = (0, s9, ⟨⟨N + 1, 0, 0⟩, true⟩) ∧ SIn m rm (N + 1) last [] 0 s9 ∧ Calm s9 ∧ Jq m s9) := ⟨e9, i9, c9, hjq9⟩
          clear e9 i9 c9 hjq9
          go_wp2_with fail
          refine HA.out.mono ?_
          rintro e w7 ⟨rfl, hD7, hK7⟩
          have HD7 : Hid (P2 (SD V S d (.pointer (some aq)) rm m s ⟨⟨N, rs.length, used⟩, false⟩) Nil2 w w7 (fun k => u14.ownBlock = some k ∨ k = bo) ∧ w7.cell? ⟨bo, 2, none⟩ = some (.slice a1 nb1 p1)) := ⟨hD7, cell_blk5 (a := ⟨bo, 2, none⟩) (hK7 bo (Or.inr rfl)) y2⟩
          clear hD7 hK7 HA y0 y2
          have y2 := HD7.out.2
          go_wp2_with fail
          refine (sdBegun owns_nil HD7.out.1).mono ?_
          rintro e w8 ⟨rfl, hb8⟩
          have HD8 : Hid (P2 (SD V S d (.pointer (some aq)) rm m s ⟨⟨N, rs.length, used⟩, false⟩) Nil2 w w8 (fun k => u14.ownBlock = some k ∨ k = bo)) := (HD7.out.1.later (sd_owns _ _ _ _ _ _ _ _) owns_nil hb8).weak (fun k hk => Or.inl hk)
          clear hb8 HD7 y2
          go_wp2_with fail
          refine (sdSave owns_nil HD8.out HT.out HX.out.2.2.1.q HRm.out.1 (by have := HRm.out; omega) HRm.out.2.2.1 (by have := HRm.out; omega) (HX.out.2.2.1.b.later HD8.out.bel) (Lo.ou (Ls.lo HX.out.2.2.1.b)) HX.out.2.2.1.bt (by have := HX.out.2.2.1.bl; have := HRm.out; omega)).mono ?_
          rintro e w9 ⟨rfl, hD9, -⟩
          rw [HE.out.1] at hD9 ⊢
          have HF9 : Hid (N + 1 ≤ 2 * (j + 1) + 1 ∧ ([] : List (List Nat)).length ≤ j + 1 ∧ Kep18 V S d (.pointer (some aq)) rm m (N + 1) w w9 u13 (.slice none 0 0) last [] 0 s9) := by
            have h := HX.out
            exact ⟨by omega, Nat.zero_le _, hD9.weak (fun k hk => (by cases hk)), kpo_nil w w9, h.2.2.1.b, h.2.2.1.bt, h.2.2.1.bl, HE.out.2.1, HE.out.2.2.1, HE.out.2.2.2⟩
          clear hD9 HD8
          go_wp2_with fail
          go_roundw
          case rel => exact ⟨j + 1, N + 1, 0, last, [], s9, by omega, by first | rfl | go_num, HF9.out⟩
          case measure => simp only [intOf]; omega
        · have hlI : ¬ (M8 : Int) < (nb1 : Int) := by omega
          obtain ⟨s9, e9, i9, c9⟩ := HSr.out.calm HX.out.2.2.1.c ⟨⟨N, rs.length, used⟩, true⟩ (d := bb) (by rw [HM8.out, HNN.out]; omega) HV.out.2.1 (by have := HX.out.1; omega)
          rw [e9] at hjq HA
          have HE : Hid (SIn m rm (N + 1) bb [] 0 s9 ∧ Calm s9 ∧ Jq m s9 ∧ bb.length ≤ rm * 128) := ⟨i9, c9, hjq, by rw [HM8.out, HNN.out]; omega⟩
          clear e9 i9 c9 hjq hlong
          go_wp2_with fail
          refine HA.out.mono ?_
          rintro e w7 ⟨rfl, hD7, hK7⟩
          have HF9 : Hid (N + 1 ≤ 2 * (j + 1) + 1 ∧ ([] : List (List Nat)).length ≤ j + 1 ∧ Kep18 V S d (.pointer (some aq)) rm m (N + 1) w w7 (.slice a1 nb1 p1) (.slice none 0 0) bb [] 0 s9) := by
            have h := HX.out
            exact ⟨by omega, Nat.zero_le _, hD7.weak (fun k hk => (by cases hk)), kpo_nil w w7, HV.out.1, HV.out.2.1, HE.out.2.2.2, HE.out.1, HE.out.2.1, HE.out.2.2.1⟩
          have y2' : w7.cell? ⟨bo, 2, none⟩ = some (.slice a1 nb1 p1) := cell_blk5 (a := ⟨bo, 2, none⟩) (hK7 bo (Or.inr rfl)) y2
          clear hD7 hK7 HA y0 y2
          go_wp2_with fail
          go_roundw
          case rel => exact ⟨j + 1, N + 1, 0, bb, [], s9, by omega, by first | rfl | go_num, HF9.out⟩
          case measure => simp only [intOf]; omega
      have HF9 : Hid (N ≤ 2 * (j + 1) + 1 ∧ rs.length ≤ j + 1 ∧ Kep18 V S d (.pointer (some aq)) rm m N w wx u13 u14 last rs used s) := by
        have h := HX.out
        exact ⟨by omega, by omega, h.2.2.1⟩
      go_wp2_with fail
      go_roundw
      case rel => exact ⟨j + 1, N, used, last, rs, s, by omega, by first | rfl | go_num, HF9.out⟩
      case measure => simp only [intOf]; omega
    · obtain rfl : j = n := by omega
      have hjI : ¬ (j : Int) < (j : Int) := by omega
      have HSs := HS.out.2.2.i.rest (by have := HS.out.1; omega)
      have HO : Hid (opB s rm = last ∧ opL s rm = rs) := HSs.opB
      have HW : Hid (Dw V w wr d s ∧ Bs wr u13 last ∧ Txs wr u14 rs ∧ Jq m s ∧ s.dn = false) := ⟨HS.out.2.2.p.sdw, HS.out.2.2.b.later HS.out.2.2.p.bel, (HS.out.2.2.k.txo HS.out.2.2.p.bel).txs, HS.out.2.2.q, HS.out.2.2.c.dn⟩
      clear HS HSs
      obtain ⟨a13, c13, rfl, -, -⟩ := HW.out.2.1.len
      obtain ⟨a14, c14, rfl, -, -⟩ := HW.out.2.2.1.len
      generalize last.length = l13 at *
      generalize rs.length = l14 at *
      go_wp2_with fail
      refine (dwOpen S HW.out.1 HT.out HW.out.2.2.2.1 HRm.out.1 (by have := HRm.out; omega) HRm.out.2.2.1 (by have := HRm.out; omega) HW.out.2.2.2.2).mono ?_
      rintro e y1 ⟨a9, vb, vl, rfl, hD, hB, hTx, hb⟩
      rw [HO.out.1] at hB
      rw [HO.out.2] at hTx
      have HZ : Hid (Bs y1 vb last ∧ Txs y1 vl rs ∧ Bs y1 (.slice a13 l13 c13) last ∧ Txs y1 (.slice a14 l14 c14) rs ∧ Below w.heap.size w y1) := ⟨hB, hTx, HW.out.2.1.later hb, HW.out.2.2.1.later hb, hD.bel⟩
      obtain ⟨ab, cb, rfl, -, -⟩ := hB.len
      obtain ⟨al, cl, rfl, -, -⟩ := hTx.len
      clear hD hB hTx hb HW
      generalize last.length = lb at *
      generalize rs.length = ll at *
      go_wp2_with fail
      refine (sameB _ _ _ _ y1 HZ.out.1 HZ.out.2.2.1).mono ?_
      rintro e y2 ⟨rfl, hb2⟩
      rw [decide_eq_true rfl]
      have HZ2 : Hid (Txs y2 (.slice al ll cl) rs ∧ Txs y2 (.slice a14 l14 c14) rs ∧ Below w.heap.size w y2) := ⟨HZ.out.2.1.later hb2, HZ.out.2.2.2.1.later hb2, bchain HZ.out.2.2.2.2 hb2⟩
      clear hb2 HZ
      go_wp2_with fail
      refine (texts18 _ _ _ _ y2 HZ2.out.1 HZ2.out.2.1).mono ?_
      rintro e y3 ⟨rfl, hb3⟩
      rw [decide_eq_true rfl]
      have HB3 : Hid (Below w.heap.size w y3) := bchain HZ2.out.2.2 hb3
      clear hb3 HZ2
      go_wp2_with fail
      go_ret
      exact ⟨rfl, HB3.out⟩
end Go.Proofs.YthnpdcblfocemaaDoor
