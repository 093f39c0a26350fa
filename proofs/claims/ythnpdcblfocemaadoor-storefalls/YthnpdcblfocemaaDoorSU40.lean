/-
  Texts of this proof, joined: StLawF.
-/
import Derived.Test.YthnpdcblfocemaaDoorSU07
import Derived.Test.YthnpdcblfocemaaDoorSU35
import Derived.Test.YthnpdcblfocemaaDoorSU37
import Derived.Test.YthnpdcblfocemaaDoorSU39
import Derived.Deep.DeepCutAuto
import Derived.BigQuiet
set_option linter.unusedVariables false
set_option linter.unusedSimpArgs false
namespace Go.Proofs.YthnpdcblfocemaaDoor
open Go.RowKit

theorem own_sl18 {w : World} {B : Nat} {v : Value} {n : Nat} {cs : List Value} (h : w.ownsRow B 22 1 v (n + 1) cs) : ∃ a c, v = .slice a (n + 1) c := by
  rcases h.2 with ⟨rfl, h0⟩ | ⟨g, c, cur, rfl, -⟩
  · omega
  · exact ⟨_, _, rfl⟩
theorem sz_kp18 : (Tryd.prog.info? 45).map (·.size) = some 6 := by kernel_rfl
theorem kpC_one (a1 a2 a3 : Option Addr) (n1 n2 n3 c1 c2 c3 : Nat) (sv ad : Bool) : ∀ u ∈ kpC (.slice a1 n1 c1) (.slice a2 n2 c2) (.slice a3 n3 c3) sv ad, u.oneCell' = true := by
  intro u hu
  simp only [kpC, List.mem_cons, List.not_mem_nil, or_false] at hu
  rcases hu with rfl | rfl | rfl | rfl | rfl | rfl <;> rfl
theorem stVk {ops : Array Oper} {rest : List Oper} {o : Oper} {a : Act} {w : World} {Q : Exit → Act → World → Prop} (hgd : o.guard = none) (x y : Operand) (ho : o.op = .store 45 x y)
    (g : Nat) (xs ys : List Value) (hx : a.eval x = .pointer (some ⟨g, 0, none⟩)) (hy : a.eval y = .agg ys.toArray) (hV : Vk w g xs) (hn : ys.length = xs.length) (h6 : ys.length = 6) (h1 : ∀ v ∈ ys, v.oneCell' = true)
    (h : ∀ w', Vk w' g ys → Kp (fun k => k = g) w w' → w'.heap.size = w.heap.size → wpList Tryd.prog ops Q rest (a.put o.dst undef) w') : wpList Tryd.prog ops Q (o :: rest) a w :=
  wpList_plain hgd fun _ hK => wp_store_row 45 x y ho g ys.toArray hx hy 45 xs.toArray hV (by rw [List.size_toArray, h6]; exact sz_kp18) (by simpa using hn.symm) (all_oneCell_toArray h1)
    (hK _ _ (h _ (setRow_heap _ _ _ _ _ _ hV) ⟨rfl, rfl, rfl, by simp [World.setRow], fun k _ hk => setRow_other _ _ _ _ hk⟩ (by simp [World.setRow])))
def FlS (V : Disk1) (S : Store1 V) (d : Value) (aq : Addr) (room m : Nat) (w0 w : World) (kb j : Nat) : Prop :=
  ∃ (M : Nat → Prop) (vB vL vN : Value) (cs : List Value) (sv ad : Bool) (last nx : List Nat) (rs : List (List Nat)) (N : Nat) (js : Sst) (s : Dsk),
    P2 (SD V S d (.pointer (some aq)) room m s js) Nil2 w0 w M ∧ Fm18 w0 w M kb vB vL vN cs sv ad last nx rs ∧ Mq18 room m sv ad last nx rs N js s j
set_option maxRecDepth 100000 in
set_option maxHeartbeats 32000000 in
theorem storeFalls_any {V : Disk1} (S : Store1 V) (blocks room : Int) (hb0 : Bd64 blocks) (hr0 : Bd64 room) (vo : Value) (os : List Opv) (hbo : (∀ j, j < os.length → ∀ c ∈ (os.getD j op0).b, c < 256) ∧ ∀ j, j < os.length → Bd64 (os.getD j op0).i) (w : World) (ho : Ops w vo os) (hT : S8 w) :
    Calls Tryd.prog 4 #[.int .i64 blocks, .int .i64 room, vo] w fun e w' => e = .returned (.bool true) ∧ Below w.heap.size w w' := by
  have HL : Hid (Ops w vo os) := ho
  have HY : Hid ((∀ j, j < os.length → ∀ c ∈ (os.getD j op0).b, c < 256) ∧ ∀ j, j < os.length → Bd64 (os.getD j op0).i) := hbo
  have HT : Hid (S8 w) := hT
  obtain ⟨ao, cpo, rfl, k3, k4⟩ := ho.len
  unfold maxLen at k4
  obtain ⟨n, hn⟩ : ∃ n, os.length = n := ⟨_, rfl⟩
  have HN : Hid (os.length = n) := hn
  rw [hn] at k3 HL ⊢
  clear ho hn hbo hT
  go_enter Tryd.func4, Tryd.ntmps4
  go_wp2_with fail
  refine (awake18 S w HT.out).mono ?_
  rintro e w1 ⟨rfl, hb1⟩
  have HB1 : Hid (Below w.heap.size w w1) := hb1
  clear hb1
  go_wp2_with fail
  refine (few18 _ os w1 (HL.out.later HB1.out)).mono ?_
  rintro e w2 ⟨B, rfl, hF, hb2⟩
  have HB2 : Hid (Below w.heap.size w w2) := bchain HB1.out hb2
  clear hb2 HB1
  cases B with
  | false =>
    go_wp2
    go_ret
    exact ⟨rfl, HB2.out⟩
  | true =>
  have HF : Hid (Fev18 os) := hF rfl
  clear hF
  by_cases q1 : room < 1
  · go_wp2
    go_ret
    exact ⟨rfl, HB2.out⟩
  by_cases q2 : 5 < room
  · go_wp2
    go_ret
    exact ⟨rfl, HB2.out⟩
  obtain ⟨rm, rfl⟩ : ∃ rm : Nat, room = (rm : Int) := ⟨room.toNat, by omega⟩
  obtain ⟨r2, hr2⟩ : ∃ r2, 2 * rm = r2 := ⟨_, rfl⟩
  obtain ⟨r3, hr3⟩ : ∃ r3, r2 + 3 = r3 := ⟨_, rfl⟩
  have u1 : (2 : Int) * (rm : Int) = (r2 : Int) := by omega
  have u2 : IntKind.i64.wrap (r2 : Int) = (r2 : Int) := by rw [IntKind.wrap_i64]; omega
  have u3 : (r2 : Int) + 3 = (r3 : Int) := by omega
  have u4 : IntKind.i64.wrap (r3 : Int) = (r3 : Int) := by rw [IntKind.wrap_i64]; omega
  by_cases q3 : blocks < (r3 : Int)
  · go_wp2
    go_ret
    exact ⟨rfl, HB2.out⟩
  by_cases q4 : 40 < blocks
  · go_wp2
    go_ret
    exact ⟨rfl, HB2.out⟩
  obtain ⟨m, rfl⟩ : ∃ m : Nat, blocks = (m : Int) := ⟨blocks.toNat, by omega⟩
  have HRm : Hid (1 ≤ rm ∧ rm ≤ 5 ∧ fb18 rm + 1 ≤ m ∧ m ≤ 60) := ⟨by omega, by omega, by unfold fb18; omega, by omega⟩
  have hn60 : n ≤ 60 := by have := HF.out.1; have := HN.out; omega
  clear hr2 hr3
  go_wp2_with fail
  refine (dwNew V w w2 m (by have := HRm.out; omega) (by have := HRm.out; omega) HB2.out).mono ?_
  rintro e w3 ⟨d, rfl, hD3⟩
  have HD3 : Hid (Dw V w w3 d (dNew m)) := hD3
  clear hD3 HB2 u1 u2 u3 u4
  go_wp2_with fail
  refine (dwOpen S HD3.out HT.out (jq_new m) HRm.out.1 (by have := HRm.out; omega) HRm.out.2.2.1 (by have := HRm.out; omega) rfl).mono ?_
  rintro e w4 ⟨aq, vb, vl, rfl, hD4, -, -, -⟩
  have HD4 : Hid (P2 (SD V S d (.pointer (some aq)) rm m (dNew m) ⟨⟨0, 0, 0⟩, false⟩) Nil2 w w4 (fun _ => False)) := hD4
  clear hD4 HD3
  obtain ⟨w5, hw5⟩ : ∃ w5, w5 = w4.alloc (.cells #[.slice none 0 0, .slice none 0 0, .bool false, .slice none 0 0, .bool false, .bool false] 45) := ⟨_, rfl⟩
  obtain ⟨kb, hkb⟩ : ∃ kb, w4.heap.size = kb := ⟨_, rfl⟩
  have HFl : Hid (FlS V S d aq rm m w w5 kb 0) := by
    have hb5 : Below w4.heap.size w4 w5 := by rw [hw5]; exact bel1 _ _
    have hs5 : w5.heap.size = w4.heap.size + 1 := by rw [hw5]; simp
    refine ⟨fun k => k = kb, .slice none 0 0, .slice none 0 0, .slice none 0 0, [], false, false, [], [], [], 0, ⟨⟨0, 0, 0⟩, false⟩, dNew m, (HD4.out.later (sd_owns _ _ _ _ _ _ _ _) owns_nil hb5).weak (fun k hk => Or.inr (by omega)), ⟨rfl, ?_, fun w'' _ _ => ⟨bs_nilS _, txc_nil18 _, bs_nilS _⟩⟩, mq_new HRm.out.2.2.1 (by have := HRm.out; omega)⟩
    rw [hw5, ← hkb]
    exact Vk.new w4 (kpC (.slice none 0 0) (.slice none 0 0) (.slice none 0 0) false false)
  go_upto_region 11 with fail
  rw [← hw5]
  try rw [hkb]
  clear hw5 hkb HD4
  go_loopw [9, 67] (fun s9 s67 wr => ∃ (j : Nat) (aq : Addr), j ≤ n ∧ s9 = .pointer (some aq) ∧ s67 = .int .i64 (j : Int) ∧ Hid (FlS V S d aq rm m w wr kb j)) (fun _ s67 _ => n - (intOf s67).toNat)
  case atStart => exact ⟨0, aq, by omega, rfl, rfl, HFl.out⟩
  case round =>
    obtain ⟨j, aq, hj, rfl, rfl, HS⟩ := hrel
    clear HFl
    by_cases hlt : j < n
    · have hjI : (j : Int) < (n : Int) := by omega
      have hj0 : (0 : Int) ≤ (j : Int) := by omega
      have hM := HN.out
      obtain ⟨b, o, vb, vf, rfl, c0, c1, c2, c3, hB, hF⟩ := HL.out.cel j (by omega)
      obtain ⟨a1, p1, rfl, -, -⟩ := hB.len
      obtain ⟨a2, p2, rfl, -, -⟩ := hF.len
      obtain ⟨M0, vB0, vL0, vN0, cs, sv, ad, last, nx, rs, N, js, s, hP0, hF0, hM0⟩ := HS.out
      have hbe := hP0.bel
      have x0 := cell_later hbe c0
      have x1 := cell_later hbe c1
      have x2 := cell_later hbe c2
      have x3 := cell_later hbe c3
      have HV : Hid (Bs w (.slice a1 (os.getD j op0).b.length p1) (os.getD j op0).b ∧ (∀ c ∈ (os.getD j op0).b, c < 256) ∧ (os.getD j op0).b.length ≤ 1000 ∧ Fts w (.slice a2 (os.getD j op0).fs.length p2) (os.getD j op0).fs ∧ (os.getD j op0).fs.length ≤ 40 ∧ Bd64 (os.getD j op0).i) := ⟨hB, HY.out.1 j (by omega), (HF.out.2 j (by omega)).1, hF, (HF.out.2 j (by omega)).2, HY.out.2 j (by omega)⟩
      clear c0 c1 c2 c3 hB hF hM hbe
      generalize (os.getD j op0).k = kk at *
      generalize (os.getD j op0).i = ii at *
      generalize (os.getD j op0).b = bb at *
      generalize (os.getD j op0).fs = ff at *
      obtain ⟨nb1, hnb1⟩ : ∃ x, bb.length = x := ⟨_, rfl⟩
      obtain ⟨nf1, hnf1⟩ : ∃ x, ff.length = x := ⟨_, rfl⟩
      have HNN : Hid (bb.length = nb1 ∧ ff.length = nf1) := ⟨hnb1, hnf1⟩
      rw [hnb1] at x2 HV
      rw [hnf1] at x3 HV
      clear hnb1 hnf1
      obtain ⟨wx, hwx⟩ : ∃ wx, wx = wr.alloc (.cells #[.int .i64 kk, .int .i64 ii, .slice a1 nb1 p1, .slice a2 nf1 p2] 48) := ⟨_, rfl⟩
      obtain ⟨bo, hbo⟩ : ∃ bo, wr.heap.size = bo := ⟨_, rfl⟩
      have HX : Hid (P2 (SD V S d (.pointer (some aq)) rm m s js) Nil2 w wx (fun i => M0 i ∨ i = bo) ∧ Fm18 w wx (fun i => M0 i ∨ i = bo) kb vB0 vL0 vN0 cs sv ad last nx rs ∧ Mq18 rm m sv ad last nx rs N js s j ∧ wx.cell? ⟨bo, 0, none⟩ = some (.int .i64 kk) ∧ wx.cell? ⟨bo, 1, none⟩ = some (.int .i64 ii) ∧ wx.cell? ⟨bo, 2, none⟩ = some (.slice a1 nb1 p1) ∧ wx.cell? ⟨bo, 3, none⟩ = some (.slice a2 nf1 p2)) := by
        have k := bel1 wr (.cells #[.int .i64 kk, .int .i64 ii, .slice a1 nb1 p1, .slice a2 nf1 p2] 48)
        rw [← hwx] at k
        have hsz : wx.heap.size = wr.heap.size + 1 := by rw [hwx]; simp
        refine ⟨(hP0.later (sd_owns _ _ _ _ _ _ _ _) owns_nil k).weak (fun i hi => ?_), (hF0.later (fun i hi => (p2_lt hP0 i hi).2) k).more (fun i hi => Or.inl hi), hM0, ?_, ?_, ?_, ?_⟩
        · rcases hi with hi | hi
          · exact Or.inl hi
          · exact Or.inr (by omega)
        · rw [hwx, ← hbo]; simp [go_sem]
        · rw [hwx, ← hbo]; simp [go_sem]
        · rw [hwx, ← hbo]; simp [go_sem]
        · rw [hwx, ← hbo]; simp [go_sem]
      have HBo : Hid (kb < bo) := by have := (p2_lt hP0 kb hF0.mb).2; show kb < bo; omega
      go_upto_region 14 with fail
      rw [← hwx]
      try rw [hbo]
      clear hwx hbo HS x0 x1 x2 x3 hP0 hF0 hM0
      have y0 := HX.out.2.2.2.1
      have y1 := HX.out.2.2.2.2.1
      have y2 := HX.out.2.2.2.2.2.1
      have y3 := HX.out.2.2.2.2.2.2
      have HB1 : Hid (Bs wx (.slice a1 nb1 p1) bb ∧ Ou w.heap.size (fun i => M0 i ∨ i = bo) (.slice a1 nb1 p1) ∧ bb.length ≤ 1000) := ⟨HV.out.1.later HX.out.1.bel, Lo.ou (Ls.lo HV.out.1), by have := HV.out.2.2.1; have := HNN.out.1; omega⟩
      by_cases g1 : kk = 1
      · subst g1
        have HA := hid5 (sdAppend owns_nil HX.out.1 HT.out HX.out.2.2.1.q HX.out.2.2.1.b (by omega) HRm.out.2.2.1 (by have := HRm.out; omega) HB1.out.1 HB1.out.2.1 HV.out.2.1 (by have := HB1.out.2.2; omega))
        rcases HX.out.2.2.1.app (bb := bb) (by omega) HV.out.2.1 (by have := HB1.out.2.2; omega) HRm.out.2.2.1 with ⟨E, hE0, hE1, e1⟩ | ⟨s', js', e1, hsv, had, e2⟩ | ⟨s', js', e1, hsv, had, e2⟩
        · rw [e1] at HA
          have hI0 : ¬ (E : Int) = 0 := by omega
          have hB0 : ((E : Int) == 0) = false := by rw [beq_eq_false_iff_ne]; exact hI0
          have hI1 : ¬ (E : Int) = 150 := by omega
          have hB1 : ((E : Int) == 150) = false := by rw [beq_eq_false_iff_ne]; exact hI1
          clear e1 hE0 hE1
          go_wp2_with fail
          refine HA.out.mono ?_
          rintro e w7 ⟨rfl, hD7, hK7⟩
          have HF9 : Hid (FlS V S d aq rm m w w7 kb (j + 1)) := ⟨_, _, _, _, _, _, _, _, _, _, _, _, _, hD7, HX.out.2.1.kn hK7, HX.out.2.2.1.up⟩
          clear hD7 hK7 HA y0 y1 y2 y3
          go_wp2_with fail
          go_roundw
          case rel => exact ⟨j + 1, aq, by omega, rfl, by first | rfl | go_num, HF9.out⟩
          case measure => simp only [intOf]; omega
        · rw [e1] at HA
          subst hsv had
          have HE : Hid (Mq18 rm m false false last nx (rs ++ [bb]) N js' s' (j + 1)) := e2
          clear e1 e2
          go_wp2_with fail
          refine HA.out.mono ?_
          rintro e w7 ⟨rfl, hD7, hK7⟩
          have HD7 : Hid (P2 (SD V S d (.pointer (some aq)) rm m s' js') Nil2 w w7 (fun i => M0 i ∨ i = bo) ∧ Fm18 w w7 (fun i => M0 i ∨ i = bo) kb vB0 vL0 vN0 cs false false last nx rs ∧ w7.cell? ⟨bo, 2, none⟩ = some (.slice a1 nb1 p1)) := ⟨hD7, HX.out.2.1.kn hK7, cell_blk5 (a := ⟨bo, 2, none⟩) (hK7 bo (Or.inr rfl)) y2⟩
          clear hD7 hK7 HA y0 y1 y2 y3
          have y2 := HD7.out.2.2
          go_upto_region 17 with fail
          refine wp_region_held_drew (S := fun W => W.cell? ⟨bo, 2, none⟩ = some (.slice a1 nb1 p1)) (by kernel_rfl) y2 (fun HS => ?_)
          have HQ0 : Hid (Below w7.heap.size w7 w7.drew) := (Below.refl _ _).drew
          have HP7 := hid5 (HD7.out.1.bel)
          have HF7 : Hid (Fm18 w w7.drew (fun i => M0 i ∨ i = bo) kb vB0 vL0 vN0 cs false false last nx rs) := HD7.out.2.1.kn (fun i hi => rfl)
          have HPd : Hid (P2 (SD V S d (.pointer (some aq)) rm m s' js') Nil2 w w7.drew (fun i => M0 i ∨ i = bo)) := (HD7.out.1.later (sd_owns _ _ _ _ _ _ _ _) owns_nil HQ0.out).weak (fun i hi => Or.inl hi)
          have hT0 := HF7.out.tx w7.drew (fun i _ _ => rfl) HPd.out.bel
          have HLs : Hid (LsC w7.drew vL0 rs.length cs) := hT0.2.1.lsc
          have HLn : Hid (rs.length ≤ 60) := by have := HX.out.2.2.1.r; show _ ≤ _; omega
          have HG : Hid (∀ (w9 : World) (v9 : Value), w9.ownsRow w7.drew.heap.size 22 1 v9 (rs.length + 1) (cs ++ [.slice a1 nb1 p1]) → Below w7.drew.heap.size w7.drew w9 → FlS V S d aq rm m w (w9.setCell ⟨kb, 1, none⟩ v9) kb (j + 1)) := by
            intro w9 v9 h1 h2
            have hb9 := bchain HPd.out.bel h2
            have hP9 := HPd.out.later (sd_owns _ _ _ _ _ _ _ _) owns_nil h2
            have hN : ∀ i, (fun i => (M0 i ∨ i = bo) ∨ v9.ownBlock = some i) i → (fun i => (M0 i ∨ i = bo) ∨ (w7.drew.heap.size ≤ i ∧ i < w9.heap.size)) i := fun i hi => by
              rcases hi with hi | hi
              · exact Or.inl hi
              · exact Or.inr (h1.lt i hi)
            refine ⟨fun i => (M0 i ∨ i = bo) ∨ v9.ownBlock = some i, _, _, _, _, _, _, _, _, _, _, _, _, ((hP9.weak hN).set (sd_owns _ _ _ _ _ _ _ _) owns_nil (p := ⟨kb, 1, none⟩) (Or.inl HF7.out.mb) v9), HF7.out.grown (fun i hi => p2_lt HPd.out i hi) h2 hb9 h1 (Nat.le_refl _) HV.out.1, HE.out⟩
          have HK1 : Hid (w7.drew.cell? ⟨kb, 1, none⟩ = some vL0) := HF7.out.v.cell 1 _ rfl
          have HV7 : Hid (Vk w7.drew kb (kpC vB0 vL0 vN0 false false)) := HF7.out.v
          clear hT0 y2 HD7 HF7 HPd HP7
          generalize w7.drew = q0 at *
          refine wpAnyH_take (i := 1) (v := ?v1) rfl (by kernel_rfl) (by kernel_rfl) (by kernel_rfl) (fun _ _ _ h => h) (Or.inl ⟨by kernel_rfl, ?h1⟩) HS ?r1
          case h1 => (rintro w n0; go_simp) <;> with_reducible rfl
          try simp only [Act.put, List.getElem_toArray, List.getElem_cons_succ, List.getElem_cons_zero, List.setIfInBounds_toArray, List.set_cons_zero, List.set_cons_succ]
          refine wpAnyH_take (i := 4) (v := ?v2) rfl (by kernel_rfl) (by kernel_rfl) (by kernel_rfl) (fun _ _ _ h => h) (Or.inl ⟨by kernel_rfl, ?h2⟩) HS ?r2
          case h2 => (rintro w n0; go_simp) <;> with_reducible rfl
          try simp only [Act.put, List.getElem_toArray, List.getElem_cons_succ, List.getElem_cons_zero, List.setIfInBounds_toArray, List.set_cons_zero, List.set_cons_succ]
          refine wpAnyH_take (i := 5) (v := ?v3) rfl (by kernel_rfl) (by kernel_rfl) (by kernel_rfl) (fun _ _ _ h => h) (Or.inl ⟨by kernel_rfl, ?h3⟩) HS ?r3
          case h3 => (rintro w n0; go_simp) <;> with_reducible rfl
          try simp only [Act.put, List.getElem_toArray, List.getElem_cons_succ, List.getElem_cons_zero, List.setIfInBounds_toArray, List.set_cons_zero, List.set_cons_succ]
          have HS0 := hid5 HS
          have HB : Hid (Below q0.heap.size q0 q0) := Below.refl _ _
          refine wpAnyH_ready (rs := [0, 2, 6]) (by kernel_rfl) (by simp) ?_
          refine AllReadyH.cons rfl (fun K hK => ?_) (AllReadyH.cons rfl (fun K hK => ?_) (AllReadyH.cons rfl (fun K hK => ?_) AllReadyH.nil))
          · go_simp
            obtain ⟨W1, hW1⟩ : ∃ WW, WW = q0.alloc (.cells #[] 22) := ⟨_, rfl⟩
            have HM : Hid (W1.ownsRow q0.heap.size 22 1 (.slice (some ⟨q0.heap.size, 0, none⟩) 0 0) 0 [] ∧ Below q0.heap.size q0 W1 ∧ W1.heap.size = q0.heap.size + 1) := by
              rw [hW1]
              exact ⟨World.ownsRow_made q0 #[] 0 HB.out.size (Nat.zero_le _) (by simp), bel1 _ _, by simp⟩
            rw [← hW1]
            have HB2 : Hid (Below q0.heap.size q0 W1) := bchain HB.out HM.out.2.1
            refine hK.out _ _ (cell_later HM.out.2.1 HS) (fun HS => ?_)
            clear hK K hW1 HB
            have HB := HB2
            clear HB2
            refine wpAnyH_ready (rs := [2, 6]) (by kernel_rfl) (by simp) ?_
            refine AllReadyH.cons rfl (fun K hK => ?_) (AllReadyH.cons rfl (fun K hK => ?_) AllReadyH.nil)
            · have yL := cell_later HB.out HK1.out
              go_simp
              refine hK.out _ _ HS (fun HS => ?_)
              clear hK K yL
              refine wpAnyH_ready (rs := [3, 6]) (by kernel_rfl) (by simp) ?_
              refine AllReadyH.cons rfl (fun K hK => ?_) (AllReadyH.cons rfl (fun K hK => ?_) AllReadyH.nil)
              · rw [if_pos (by kernel_rfl)]
                refine wp_ap18 _ _ rfl q0.heap.size (.slice (some ⟨q0.heap.size, 0, none⟩) 0 0) 0 [] rfl HM.out.1 (vL0) (rs.length) (cs) rfl (HLs.out.later HB.out) (by have := HLn.out; omega) HB.out.size (fun v2 W2 hown hgrow => ?_)
                have HA2 : Hid (W2.ownsRow q0.heap.size 22 1 v2 (0 + rs.length) ([] ++ cs) ∧ W1.grownBy W2 (Value.ownBlock (.slice (some ⟨q0.heap.size, 0, none⟩) 0 0)) ∧ Below q0.heap.size q0 W2) := ⟨hown, hgrow, HB.out.grown hgrow HB.out.size (fun k hk => (HM.out.1.lt k hk).1)⟩
                refine hK.out _ _ (cell_later HA2.out.2.2 HS0.out) (fun HS => ?_)
                clear hK K hown hgrow HB
                have HB := hid5 HA2.out.2.2
                refine wpAnyH_ready (rs := [6]) (by kernel_rfl) (by simp) ?_
                refine AllReadyH.cons rfl (fun K hK => ?_) AllReadyH.nil
                · go_simp
                  obtain ⟨W3, hW1⟩ : ∃ WW, WW = W2.alloc (.cells #[.slice a1 nb1 p1] 22) := ⟨_, rfl⟩
                  have HN1 : Hid (LsC W3 (.slice (some ⟨W2.heap.size, 0, none⟩) 1 1) 1 [.slice a1 nb1 p1] ∧ Below W2.heap.size W2 W3 ∧ W3.heap.size = W2.heap.size + 1) := by
                    rw [hW1]
                    exact ⟨lsc_one W2 _ rfl _, bel1 _ _, by simp⟩
                  rw [← hW1]
                  have HB2 : Hid (Below q0.heap.size q0 W3) := bchain HB.out HN1.out.2.1
                  refine hK.out _ _ (cell_later HN1.out.2.1 HS) (fun HS => ?_)
                  clear hK K hW1 HB
                  have HB := HB2
                  clear HB2
                  refine wpAnyH_ready (rs := [7]) (by kernel_rfl) (by simp) ?_
                  refine AllReadyH.cons rfl (fun K hK => ?_) AllReadyH.nil
                  · rw [if_pos (by kernel_rfl)]
                    refine wp_ap18 _ _ rfl q0.heap.size v2 (0 + rs.length) ([] ++ cs) rfl (own_later HA2.out.1 HN1.out.2.1) (.slice (some ⟨W2.heap.size, 0, none⟩) 1 1) 1 [.slice a1 nb1 p1] rfl HN1.out.1 (by have := HLn.out; omega) HB.out.size (fun v9 w9 hown hgrow => ?_)
                    have HO9 : Hid (w9.ownsRow q0.heap.size 22 1 v9 (rs.length + 1) (cs ++ [.slice a1 nb1 p1]) ∧ Below q0.heap.size q0 w9) := ⟨by rw [Nat.zero_add, List.nil_append] at hown; exact hown, HB.out.grown hgrow HB.out.size (fun k hk => ((own_later HA2.out.1 HN1.out.2.1).lt k hk).1)⟩
                    refine hK.out _ _ (cell_later HO9.out.2 HS0.out) (fun HS => ?_)
                    clear hK K hown hgrow HB HA2
                    obtain ⟨a9, c9, e9⟩ := own_sl18 HO9.out.1
                    subst e9
                    have HF9 : Hid (FlS V S d aq rm m w (w9.setCell ⟨kb, 1, none⟩ (.slice a9 (rs.length + 1) c9)) kb (j + 1)) := HG.out w9 _ HO9.out.1 HO9.out.2
                    have hv9 := hid5 (HV7.out.kept (HO9.out.2.block kb HV7.out.lt))
                    have y1 := hv9.out.cell 1 _ rfl
                    have f1 := hv9.out.fro 1
                    clear HO9 HG HK1 HLs HV7 hv9
                    refine wpAnyH_take (i := 8) (v := ?_) rfl (by kernel_rfl) (by kernel_rfl) (by kernel_rfl) (fun _ _ _ h => h) (Or.inl ⟨by kernel_rfl, ?_⟩) HS ?_
                    rotate_left
                    · (rintro w n0; go_simp) <;> with_reducible rfl
                    try simp only [Act.put, List.getElem_toArray, List.getElem_cons_succ, List.getElem_cons_zero, List.setIfInBounds_toArray, List.set_cons_zero, List.set_cons_succ]
                    refine wpAnyH_ready (rs := [9]) (by kernel_rfl) (by simp) ?_
                    refine AllReadyH.cons rfl (fun K hK => ?_) AllReadyH.nil
                    go_simp
                    refine hK.out _ _ (cell_set (by have := HBo.out; dsimp only; omega) HS) (fun HS => ?_)
                    clear hK K y1 f1 HS HS0
                    refine wpAnyH_done (by kernel_rfl) ?_ _
                    go_wp2_with fail
                    go_roundw
                    case rel => exact ⟨j + 1, aq, by omega, rfl, by first | rfl | go_num, HF9.out⟩
                    case measure => simp only [intOf]; omega
              · go_simp
                obtain ⟨W2, hW1⟩ : ∃ WW, WW = W1.alloc (.cells #[.slice a1 nb1 p1] 22) := ⟨_, rfl⟩
                have HN1 : Hid (LsC W2 (.slice (some ⟨W1.heap.size, 0, none⟩) 1 1) 1 [.slice a1 nb1 p1] ∧ Below W1.heap.size W1 W2 ∧ W2.heap.size = W1.heap.size + 1) := by
                  rw [hW1]
                  exact ⟨lsc_one W1 _ rfl _, bel1 _ _, by simp⟩
                rw [← hW1]
                have HB2 : Hid (Below q0.heap.size q0 W2) := bchain HB.out HN1.out.2.1
                refine hK.out _ _ (cell_later HN1.out.2.1 HS) (fun HS => ?_)
                clear hK K hW1 HB
                have HB := HB2
                clear HB2
                refine wpAnyH_ready (rs := [3]) (by kernel_rfl) (by simp) ?_
                refine AllReadyH.cons rfl (fun K hK => ?_) AllReadyH.nil
                · rw [if_pos (by kernel_rfl)]
                  refine wp_ap18 _ _ rfl q0.heap.size (.slice (some ⟨q0.heap.size, 0, none⟩) 0 0) 0 [] rfl (own_later HM.out.1 HN1.out.2.1) (vL0) (rs.length) (cs) rfl (HLs.out.later HB.out) (by have := HLn.out; omega) HB.out.size (fun v2 W3 hown hgrow => ?_)
                  have HA2 : Hid (W3.ownsRow q0.heap.size 22 1 v2 (0 + rs.length) ([] ++ cs) ∧ W2.grownBy W3 (Value.ownBlock (.slice (some ⟨q0.heap.size, 0, none⟩) 0 0)) ∧ Below q0.heap.size q0 W3) := ⟨hown, hgrow, HB.out.grown hgrow HB.out.size (fun k hk => ((own_later HM.out.1 HN1.out.2.1).lt k hk).1)⟩
                  refine hK.out _ _ (cell_later HA2.out.2.2 HS0.out) (fun HS => ?_)
                  clear hK K hown hgrow HB
                  have HB := hid5 HA2.out.2.2
                  have HN2 : Hid (LsC W3 (.slice (some ⟨W1.heap.size, 0, none⟩) 1 1) 1 [.slice a1 nb1 p1]) := lsc_grown HN1.out.1 HA2.out.2.1 (by have := HM.out.2.2; have := HN1.out.2.2; simp [Value.ownBlock]; omega)
                  refine wpAnyH_ready (rs := [7]) (by kernel_rfl) (by simp) ?_
                  refine AllReadyH.cons rfl (fun K hK => ?_) AllReadyH.nil
                  · rw [if_pos (by kernel_rfl)]
                    refine wp_ap18 _ _ rfl q0.heap.size v2 (0 + rs.length) ([] ++ cs) rfl HA2.out.1 (.slice (some ⟨W1.heap.size, 0, none⟩) 1 1) 1 [.slice a1 nb1 p1] rfl HN2.out (by have := HLn.out; omega) HB.out.size (fun v9 w9 hown hgrow => ?_)
                    have HO9 : Hid (w9.ownsRow q0.heap.size 22 1 v9 (rs.length + 1) (cs ++ [.slice a1 nb1 p1]) ∧ Below q0.heap.size q0 w9) := ⟨by rw [Nat.zero_add, List.nil_append] at hown; exact hown, HB.out.grown hgrow HB.out.size (fun k hk => (HA2.out.1.lt k hk).1)⟩
                    refine hK.out _ _ (cell_later HO9.out.2 HS0.out) (fun HS => ?_)
                    clear hK K hown hgrow HB HA2
                    obtain ⟨a9, c9, e9⟩ := own_sl18 HO9.out.1
                    subst e9
                    have HF9 : Hid (FlS V S d aq rm m w (w9.setCell ⟨kb, 1, none⟩ (.slice a9 (rs.length + 1) c9)) kb (j + 1)) := HG.out w9 _ HO9.out.1 HO9.out.2
                    have hv9 := hid5 (HV7.out.kept (HO9.out.2.block kb HV7.out.lt))
                    have y1 := hv9.out.cell 1 _ rfl
                    have f1 := hv9.out.fro 1
                    clear HO9 HG HK1 HLs HV7 hv9
                    refine wpAnyH_take (i := 8) (v := ?_) rfl (by kernel_rfl) (by kernel_rfl) (by kernel_rfl) (fun _ _ _ h => h) (Or.inl ⟨by kernel_rfl, ?_⟩) HS ?_
                    rotate_left
                    · (rintro w n0; go_simp) <;> with_reducible rfl
                    try simp only [Act.put, List.getElem_toArray, List.getElem_cons_succ, List.getElem_cons_zero, List.setIfInBounds_toArray, List.set_cons_zero, List.set_cons_succ]
                    refine wpAnyH_ready (rs := [9]) (by kernel_rfl) (by simp) ?_
                    refine AllReadyH.cons rfl (fun K hK => ?_) AllReadyH.nil
                    go_simp
                    refine hK.out _ _ (cell_set (by have := HBo.out; dsimp only; omega) HS) (fun HS => ?_)
                    clear hK K y1 f1 HS HS0
                    refine wpAnyH_done (by kernel_rfl) ?_ _
                    go_wp2_with fail
                    go_roundw
                    case rel => exact ⟨j + 1, aq, by omega, rfl, by first | rfl | go_num, HF9.out⟩
                    case measure => simp only [intOf]; omega
            · go_simp
              obtain ⟨W2, hW1⟩ : ∃ WW, WW = W1.alloc (.cells #[.slice a1 nb1 p1] 22) := ⟨_, rfl⟩
              have HN1 : Hid (LsC W2 (.slice (some ⟨W1.heap.size, 0, none⟩) 1 1) 1 [.slice a1 nb1 p1] ∧ Below W1.heap.size W1 W2 ∧ W2.heap.size = W1.heap.size + 1) := by
                rw [hW1]
                exact ⟨lsc_one W1 _ rfl _, bel1 _ _, by simp⟩
              rw [← hW1]
              have HB2 : Hid (Below q0.heap.size q0 W2) := bchain HB.out HN1.out.2.1
              refine hK.out _ _ (cell_later HN1.out.2.1 HS) (fun HS => ?_)
              clear hK K hW1 HB
              have HB := HB2
              clear HB2
              refine wpAnyH_ready (rs := [2]) (by kernel_rfl) (by simp) ?_
              refine AllReadyH.cons rfl (fun K hK => ?_) AllReadyH.nil
              · have yL := cell_later HB.out HK1.out
                go_simp
                refine hK.out _ _ HS (fun HS => ?_)
                clear hK K yL
                refine wpAnyH_ready (rs := [3]) (by kernel_rfl) (by simp) ?_
                refine AllReadyH.cons rfl (fun K hK => ?_) AllReadyH.nil
                · rw [if_pos (by kernel_rfl)]
                  refine wp_ap18 _ _ rfl q0.heap.size (.slice (some ⟨q0.heap.size, 0, none⟩) 0 0) 0 [] rfl (own_later HM.out.1 HN1.out.2.1) (vL0) (rs.length) (cs) rfl (HLs.out.later HB.out) (by have := HLn.out; omega) HB.out.size (fun v2 W3 hown hgrow => ?_)
                  have HA2 : Hid (W3.ownsRow q0.heap.size 22 1 v2 (0 + rs.length) ([] ++ cs) ∧ W2.grownBy W3 (Value.ownBlock (.slice (some ⟨q0.heap.size, 0, none⟩) 0 0)) ∧ Below q0.heap.size q0 W3) := ⟨hown, hgrow, HB.out.grown hgrow HB.out.size (fun k hk => ((own_later HM.out.1 HN1.out.2.1).lt k hk).1)⟩
                  refine hK.out _ _ (cell_later HA2.out.2.2 HS0.out) (fun HS => ?_)
                  clear hK K hown hgrow HB
                  have HB := hid5 HA2.out.2.2
                  have HN2 : Hid (LsC W3 (.slice (some ⟨W1.heap.size, 0, none⟩) 1 1) 1 [.slice a1 nb1 p1]) := lsc_grown HN1.out.1 HA2.out.2.1 (by have := HM.out.2.2; have := HN1.out.2.2; simp [Value.ownBlock]; omega)
                  refine wpAnyH_ready (rs := [7]) (by kernel_rfl) (by simp) ?_
                  refine AllReadyH.cons rfl (fun K hK => ?_) AllReadyH.nil
                  · rw [if_pos (by kernel_rfl)]
                    refine wp_ap18 _ _ rfl q0.heap.size v2 (0 + rs.length) ([] ++ cs) rfl HA2.out.1 (.slice (some ⟨W1.heap.size, 0, none⟩) 1 1) 1 [.slice a1 nb1 p1] rfl HN2.out (by have := HLn.out; omega) HB.out.size (fun v9 w9 hown hgrow => ?_)
                    have HO9 : Hid (w9.ownsRow q0.heap.size 22 1 v9 (rs.length + 1) (cs ++ [.slice a1 nb1 p1]) ∧ Below q0.heap.size q0 w9) := ⟨by rw [Nat.zero_add, List.nil_append] at hown; exact hown, HB.out.grown hgrow HB.out.size (fun k hk => (HA2.out.1.lt k hk).1)⟩
                    refine hK.out _ _ (cell_later HO9.out.2 HS0.out) (fun HS => ?_)
                    clear hK K hown hgrow HB HA2
                    obtain ⟨a9, c9, e9⟩ := own_sl18 HO9.out.1
                    subst e9
                    have HF9 : Hid (FlS V S d aq rm m w (w9.setCell ⟨kb, 1, none⟩ (.slice a9 (rs.length + 1) c9)) kb (j + 1)) := HG.out w9 _ HO9.out.1 HO9.out.2
                    have hv9 := hid5 (HV7.out.kept (HO9.out.2.block kb HV7.out.lt))
                    have y1 := hv9.out.cell 1 _ rfl
                    have f1 := hv9.out.fro 1
                    clear HO9 HG HK1 HLs HV7 hv9
                    refine wpAnyH_take (i := 8) (v := ?_) rfl (by kernel_rfl) (by kernel_rfl) (by kernel_rfl) (fun _ _ _ h => h) (Or.inl ⟨by kernel_rfl, ?_⟩) HS ?_
                    rotate_left
                    · (rintro w n0; go_simp) <;> with_reducible rfl
                    try simp only [Act.put, List.getElem_toArray, List.getElem_cons_succ, List.getElem_cons_zero, List.setIfInBounds_toArray, List.set_cons_zero, List.set_cons_succ]
                    refine wpAnyH_ready (rs := [9]) (by kernel_rfl) (by simp) ?_
                    refine AllReadyH.cons rfl (fun K hK => ?_) AllReadyH.nil
                    go_simp
                    refine hK.out _ _ (cell_set (by have := HBo.out; dsimp only; omega) HS) (fun HS => ?_)
                    clear hK K y1 f1 HS HS0
                    refine wpAnyH_done (by kernel_rfl) ?_ _
                    go_wp2_with fail
                    go_roundw
                    case rel => exact ⟨j + 1, aq, by omega, rfl, by first | rfl | go_num, HF9.out⟩
                    case measure => simp only [intOf]; omega
          · have yL := cell_later HB.out HK1.out
            go_simp
            refine hK.out _ _ HS (fun HS => ?_)
            clear hK K yL
            refine wpAnyH_ready (rs := [0, 6]) (by kernel_rfl) (by simp) ?_
            refine AllReadyH.cons rfl (fun K hK => ?_) (AllReadyH.cons rfl (fun K hK => ?_) AllReadyH.nil)
            · go_simp
              obtain ⟨W1, hW1⟩ : ∃ WW, WW = q0.alloc (.cells #[] 22) := ⟨_, rfl⟩
              have HM : Hid (W1.ownsRow q0.heap.size 22 1 (.slice (some ⟨q0.heap.size, 0, none⟩) 0 0) 0 [] ∧ Below q0.heap.size q0 W1 ∧ W1.heap.size = q0.heap.size + 1) := by
                rw [hW1]
                exact ⟨World.ownsRow_made q0 #[] 0 HB.out.size (Nat.zero_le _) (by simp), bel1 _ _, by simp⟩
              rw [← hW1]
              have HB2 : Hid (Below q0.heap.size q0 W1) := bchain HB.out HM.out.2.1
              refine hK.out _ _ (cell_later HM.out.2.1 HS) (fun HS => ?_)
              clear hK K hW1 HB
              have HB := HB2
              clear HB2
              refine wpAnyH_ready (rs := [3, 6]) (by kernel_rfl) (by simp) ?_
              refine AllReadyH.cons rfl (fun K hK => ?_) (AllReadyH.cons rfl (fun K hK => ?_) AllReadyH.nil)
              · rw [if_pos (by kernel_rfl)]
                refine wp_ap18 _ _ rfl q0.heap.size (.slice (some ⟨q0.heap.size, 0, none⟩) 0 0) 0 [] rfl HM.out.1 (vL0) (rs.length) (cs) rfl (HLs.out.later HB.out) (by have := HLn.out; omega) HB.out.size (fun v2 W2 hown hgrow => ?_)
                have HA2 : Hid (W2.ownsRow q0.heap.size 22 1 v2 (0 + rs.length) ([] ++ cs) ∧ W1.grownBy W2 (Value.ownBlock (.slice (some ⟨q0.heap.size, 0, none⟩) 0 0)) ∧ Below q0.heap.size q0 W2) := ⟨hown, hgrow, HB.out.grown hgrow HB.out.size (fun k hk => (HM.out.1.lt k hk).1)⟩
                refine hK.out _ _ (cell_later HA2.out.2.2 HS0.out) (fun HS => ?_)
                clear hK K hown hgrow HB
                have HB := hid5 HA2.out.2.2
                refine wpAnyH_ready (rs := [6]) (by kernel_rfl) (by simp) ?_
                refine AllReadyH.cons rfl (fun K hK => ?_) AllReadyH.nil
                · go_simp
                  obtain ⟨W3, hW1⟩ : ∃ WW, WW = W2.alloc (.cells #[.slice a1 nb1 p1] 22) := ⟨_, rfl⟩
                  have HN1 : Hid (LsC W3 (.slice (some ⟨W2.heap.size, 0, none⟩) 1 1) 1 [.slice a1 nb1 p1] ∧ Below W2.heap.size W2 W3 ∧ W3.heap.size = W2.heap.size + 1) := by
                    rw [hW1]
                    exact ⟨lsc_one W2 _ rfl _, bel1 _ _, by simp⟩
                  rw [← hW1]
                  have HB2 : Hid (Below q0.heap.size q0 W3) := bchain HB.out HN1.out.2.1
                  refine hK.out _ _ (cell_later HN1.out.2.1 HS) (fun HS => ?_)
                  clear hK K hW1 HB
                  have HB := HB2
                  clear HB2
                  refine wpAnyH_ready (rs := [7]) (by kernel_rfl) (by simp) ?_
                  refine AllReadyH.cons rfl (fun K hK => ?_) AllReadyH.nil
                  · rw [if_pos (by kernel_rfl)]
                    refine wp_ap18 _ _ rfl q0.heap.size v2 (0 + rs.length) ([] ++ cs) rfl (own_later HA2.out.1 HN1.out.2.1) (.slice (some ⟨W2.heap.size, 0, none⟩) 1 1) 1 [.slice a1 nb1 p1] rfl HN1.out.1 (by have := HLn.out; omega) HB.out.size (fun v9 w9 hown hgrow => ?_)
                    have HO9 : Hid (w9.ownsRow q0.heap.size 22 1 v9 (rs.length + 1) (cs ++ [.slice a1 nb1 p1]) ∧ Below q0.heap.size q0 w9) := ⟨by rw [Nat.zero_add, List.nil_append] at hown; exact hown, HB.out.grown hgrow HB.out.size (fun k hk => ((own_later HA2.out.1 HN1.out.2.1).lt k hk).1)⟩
                    refine hK.out _ _ (cell_later HO9.out.2 HS0.out) (fun HS => ?_)
                    clear hK K hown hgrow HB HA2
                    obtain ⟨a9, c9, e9⟩ := own_sl18 HO9.out.1
                    subst e9
                    have HF9 : Hid (FlS V S d aq rm m w (w9.setCell ⟨kb, 1, none⟩ (.slice a9 (rs.length + 1) c9)) kb (j + 1)) := HG.out w9 _ HO9.out.1 HO9.out.2
                    have hv9 := hid5 (HV7.out.kept (HO9.out.2.block kb HV7.out.lt))
                    have y1 := hv9.out.cell 1 _ rfl
                    have f1 := hv9.out.fro 1
                    clear HO9 HG HK1 HLs HV7 hv9
                    refine wpAnyH_take (i := 8) (v := ?_) rfl (by kernel_rfl) (by kernel_rfl) (by kernel_rfl) (fun _ _ _ h => h) (Or.inl ⟨by kernel_rfl, ?_⟩) HS ?_
                    rotate_left
                    · (rintro w n0; go_simp) <;> with_reducible rfl
                    try simp only [Act.put, List.getElem_toArray, List.getElem_cons_succ, List.getElem_cons_zero, List.setIfInBounds_toArray, List.set_cons_zero, List.set_cons_succ]
                    refine wpAnyH_ready (rs := [9]) (by kernel_rfl) (by simp) ?_
                    refine AllReadyH.cons rfl (fun K hK => ?_) AllReadyH.nil
                    go_simp
                    refine hK.out _ _ (cell_set (by have := HBo.out; dsimp only; omega) HS) (fun HS => ?_)
                    clear hK K y1 f1 HS HS0
                    refine wpAnyH_done (by kernel_rfl) ?_ _
                    go_wp2_with fail
                    go_roundw
                    case rel => exact ⟨j + 1, aq, by omega, rfl, by first | rfl | go_num, HF9.out⟩
                    case measure => simp only [intOf]; omega
              · go_simp
                obtain ⟨W2, hW1⟩ : ∃ WW, WW = W1.alloc (.cells #[.slice a1 nb1 p1] 22) := ⟨_, rfl⟩
                have HN1 : Hid (LsC W2 (.slice (some ⟨W1.heap.size, 0, none⟩) 1 1) 1 [.slice a1 nb1 p1] ∧ Below W1.heap.size W1 W2 ∧ W2.heap.size = W1.heap.size + 1) := by
                  rw [hW1]
                  exact ⟨lsc_one W1 _ rfl _, bel1 _ _, by simp⟩
                rw [← hW1]
                have HB2 : Hid (Below q0.heap.size q0 W2) := bchain HB.out HN1.out.2.1
                refine hK.out _ _ (cell_later HN1.out.2.1 HS) (fun HS => ?_)
                clear hK K hW1 HB
                have HB := HB2
                clear HB2
                refine wpAnyH_ready (rs := [3]) (by kernel_rfl) (by simp) ?_
                refine AllReadyH.cons rfl (fun K hK => ?_) AllReadyH.nil
                · rw [if_pos (by kernel_rfl)]
                  refine wp_ap18 _ _ rfl q0.heap.size (.slice (some ⟨q0.heap.size, 0, none⟩) 0 0) 0 [] rfl (own_later HM.out.1 HN1.out.2.1) (vL0) (rs.length) (cs) rfl (HLs.out.later HB.out) (by have := HLn.out; omega) HB.out.size (fun v2 W3 hown hgrow => ?_)
                  have HA2 : Hid (W3.ownsRow q0.heap.size 22 1 v2 (0 + rs.length) ([] ++ cs) ∧ W2.grownBy W3 (Value.ownBlock (.slice (some ⟨q0.heap.size, 0, none⟩) 0 0)) ∧ Below q0.heap.size q0 W3) := ⟨hown, hgrow, HB.out.grown hgrow HB.out.size (fun k hk => ((own_later HM.out.1 HN1.out.2.1).lt k hk).1)⟩
                  refine hK.out _ _ (cell_later HA2.out.2.2 HS0.out) (fun HS => ?_)
                  clear hK K hown hgrow HB
                  have HB := hid5 HA2.out.2.2
                  have HN2 : Hid (LsC W3 (.slice (some ⟨W1.heap.size, 0, none⟩) 1 1) 1 [.slice a1 nb1 p1]) := lsc_grown HN1.out.1 HA2.out.2.1 (by have := HM.out.2.2; have := HN1.out.2.2; simp [Value.ownBlock]; omega)
                  refine wpAnyH_ready (rs := [7]) (by kernel_rfl) (by simp) ?_
                  refine AllReadyH.cons rfl (fun K hK => ?_) AllReadyH.nil
                  · rw [if_pos (by kernel_rfl)]
                    refine wp_ap18 _ _ rfl q0.heap.size v2 (0 + rs.length) ([] ++ cs) rfl HA2.out.1 (.slice (some ⟨W1.heap.size, 0, none⟩) 1 1) 1 [.slice a1 nb1 p1] rfl HN2.out (by have := HLn.out; omega) HB.out.size (fun v9 w9 hown hgrow => ?_)
                    have HO9 : Hid (w9.ownsRow q0.heap.size 22 1 v9 (rs.length + 1) (cs ++ [.slice a1 nb1 p1]) ∧ Below q0.heap.size q0 w9) := ⟨by rw [Nat.zero_add, List.nil_append] at hown; exact hown, HB.out.grown hgrow HB.out.size (fun k hk => (HA2.out.1.lt k hk).1)⟩
                    refine hK.out _ _ (cell_later HO9.out.2 HS0.out) (fun HS => ?_)
                    clear hK K hown hgrow HB HA2
                    obtain ⟨a9, c9, e9⟩ := own_sl18 HO9.out.1
                    subst e9
                    have HF9 : Hid (FlS V S d aq rm m w (w9.setCell ⟨kb, 1, none⟩ (.slice a9 (rs.length + 1) c9)) kb (j + 1)) := HG.out w9 _ HO9.out.1 HO9.out.2
                    have hv9 := hid5 (HV7.out.kept (HO9.out.2.block kb HV7.out.lt))
                    have y1 := hv9.out.cell 1 _ rfl
                    have f1 := hv9.out.fro 1
                    clear HO9 HG HK1 HLs HV7 hv9
                    refine wpAnyH_take (i := 8) (v := ?_) rfl (by kernel_rfl) (by kernel_rfl) (by kernel_rfl) (fun _ _ _ h => h) (Or.inl ⟨by kernel_rfl, ?_⟩) HS ?_
                    rotate_left
                    · (rintro w n0; go_simp) <;> with_reducible rfl
                    try simp only [Act.put, List.getElem_toArray, List.getElem_cons_succ, List.getElem_cons_zero, List.setIfInBounds_toArray, List.set_cons_zero, List.set_cons_succ]
                    refine wpAnyH_ready (rs := [9]) (by kernel_rfl) (by simp) ?_
                    refine AllReadyH.cons rfl (fun K hK => ?_) AllReadyH.nil
                    go_simp
                    refine hK.out _ _ (cell_set (by have := HBo.out; dsimp only; omega) HS) (fun HS => ?_)
                    clear hK K y1 f1 HS HS0
                    refine wpAnyH_done (by kernel_rfl) ?_ _
                    go_wp2_with fail
                    go_roundw
                    case rel => exact ⟨j + 1, aq, by omega, rfl, by first | rfl | go_num, HF9.out⟩
                    case measure => simp only [intOf]; omega
            · go_simp
              obtain ⟨W1, hW1⟩ : ∃ WW, WW = q0.alloc (.cells #[.slice a1 nb1 p1] 22) := ⟨_, rfl⟩
              have HN1 : Hid (LsC W1 (.slice (some ⟨q0.heap.size, 0, none⟩) 1 1) 1 [.slice a1 nb1 p1] ∧ Below q0.heap.size q0 W1 ∧ W1.heap.size = q0.heap.size + 1) := by
                rw [hW1]
                exact ⟨lsc_one q0 _ rfl _, bel1 _ _, by simp⟩
              rw [← hW1]
              have HB2 : Hid (Below q0.heap.size q0 W1) := bchain HB.out HN1.out.2.1
              refine hK.out _ _ (cell_later HN1.out.2.1 HS) (fun HS => ?_)
              clear hK K hW1 HB
              have HB := HB2
              clear HB2
              refine wpAnyH_ready (rs := [0]) (by kernel_rfl) (by simp) ?_
              refine AllReadyH.cons rfl (fun K hK => ?_) AllReadyH.nil
              · go_simp
                obtain ⟨W2, hW1⟩ : ∃ WW, WW = W1.alloc (.cells #[] 22) := ⟨_, rfl⟩
                have HM : Hid (W2.ownsRow q0.heap.size 22 1 (.slice (some ⟨W1.heap.size, 0, none⟩) 0 0) 0 [] ∧ Below W1.heap.size W1 W2 ∧ W2.heap.size = W1.heap.size + 1) := by
                  rw [hW1]
                  exact ⟨World.ownsRow_made W1 #[] 0 HB.out.size (Nat.zero_le _) (by simp), bel1 _ _, by simp⟩
                rw [← hW1]
                have HB2 : Hid (Below q0.heap.size q0 W2) := bchain HB.out HM.out.2.1
                refine hK.out _ _ (cell_later HM.out.2.1 HS) (fun HS => ?_)
                clear hK K hW1 HB
                have HB := HB2
                clear HB2
                refine wpAnyH_ready (rs := [3]) (by kernel_rfl) (by simp) ?_
                refine AllReadyH.cons rfl (fun K hK => ?_) AllReadyH.nil
                · rw [if_pos (by kernel_rfl)]
                  refine wp_ap18 _ _ rfl q0.heap.size (.slice (some ⟨W1.heap.size, 0, none⟩) 0 0) 0 [] rfl HM.out.1 (vL0) (rs.length) (cs) rfl (HLs.out.later HB.out) (by have := HLn.out; omega) HB.out.size (fun v2 W3 hown hgrow => ?_)
                  have HA2 : Hid (W3.ownsRow q0.heap.size 22 1 v2 (0 + rs.length) ([] ++ cs) ∧ W2.grownBy W3 (Value.ownBlock (.slice (some ⟨W1.heap.size, 0, none⟩) 0 0)) ∧ Below q0.heap.size q0 W3) := ⟨hown, hgrow, HB.out.grown hgrow HB.out.size (fun k hk => (HM.out.1.lt k hk).1)⟩
                  refine hK.out _ _ (cell_later HA2.out.2.2 HS0.out) (fun HS => ?_)
                  clear hK K hown hgrow HB
                  have HB := hid5 HA2.out.2.2
                  have HN2 : Hid (LsC W3 (.slice (some ⟨q0.heap.size, 0, none⟩) 1 1) 1 [.slice a1 nb1 p1]) := lsc_grown (HN1.out.1.later HM.out.2.1) HA2.out.2.1 (by have := HM.out.2.2; have := HN1.out.2.2; simp [Value.ownBlock]; omega)
                  refine wpAnyH_ready (rs := [7]) (by kernel_rfl) (by simp) ?_
                  refine AllReadyH.cons rfl (fun K hK => ?_) AllReadyH.nil
                  · rw [if_pos (by kernel_rfl)]
                    refine wp_ap18 _ _ rfl q0.heap.size v2 (0 + rs.length) ([] ++ cs) rfl HA2.out.1 (.slice (some ⟨q0.heap.size, 0, none⟩) 1 1) 1 [.slice a1 nb1 p1] rfl HN2.out (by have := HLn.out; omega) HB.out.size (fun v9 w9 hown hgrow => ?_)
                    have HO9 : Hid (w9.ownsRow q0.heap.size 22 1 v9 (rs.length + 1) (cs ++ [.slice a1 nb1 p1]) ∧ Below q0.heap.size q0 w9) := ⟨by rw [Nat.zero_add, List.nil_append] at hown; exact hown, HB.out.grown hgrow HB.out.size (fun k hk => (HA2.out.1.lt k hk).1)⟩
                    refine hK.out _ _ (cell_later HO9.out.2 HS0.out) (fun HS => ?_)
                    clear hK K hown hgrow HB HA2
                    obtain ⟨a9, c9, e9⟩ := own_sl18 HO9.out.1
                    subst e9
                    have HF9 : Hid (FlS V S d aq rm m w (w9.setCell ⟨kb, 1, none⟩ (.slice a9 (rs.length + 1) c9)) kb (j + 1)) := HG.out w9 _ HO9.out.1 HO9.out.2
                    have hv9 := hid5 (HV7.out.kept (HO9.out.2.block kb HV7.out.lt))
                    have y1 := hv9.out.cell 1 _ rfl
                    have f1 := hv9.out.fro 1
                    clear HO9 HG HK1 HLs HV7 hv9
                    refine wpAnyH_take (i := 8) (v := ?_) rfl (by kernel_rfl) (by kernel_rfl) (by kernel_rfl) (fun _ _ _ h => h) (Or.inl ⟨by kernel_rfl, ?_⟩) HS ?_
                    rotate_left
                    · (rintro w n0; go_simp) <;> with_reducible rfl
                    try simp only [Act.put, List.getElem_toArray, List.getElem_cons_succ, List.getElem_cons_zero, List.setIfInBounds_toArray, List.set_cons_zero, List.set_cons_succ]
                    refine wpAnyH_ready (rs := [9]) (by kernel_rfl) (by simp) ?_
                    refine AllReadyH.cons rfl (fun K hK => ?_) AllReadyH.nil
                    go_simp
                    refine hK.out _ _ (cell_set (by have := HBo.out; dsimp only; omega) HS) (fun HS => ?_)
                    clear hK K y1 f1 HS HS0
                    refine wpAnyH_done (by kernel_rfl) ?_ _
                    go_wp2_with fail
                    go_roundw
                    case rel => exact ⟨j + 1, aq, by omega, rfl, by first | rfl | go_num, HF9.out⟩
                    case measure => simp only [intOf]; omega
          · go_simp
            obtain ⟨W1, hW1⟩ : ∃ WW, WW = q0.alloc (.cells #[.slice a1 nb1 p1] 22) := ⟨_, rfl⟩
            have HN1 : Hid (LsC W1 (.slice (some ⟨q0.heap.size, 0, none⟩) 1 1) 1 [.slice a1 nb1 p1] ∧ Below q0.heap.size q0 W1 ∧ W1.heap.size = q0.heap.size + 1) := by
              rw [hW1]
              exact ⟨lsc_one q0 _ rfl _, bel1 _ _, by simp⟩
            rw [← hW1]
            have HB2 : Hid (Below q0.heap.size q0 W1) := bchain HB.out HN1.out.2.1
            refine hK.out _ _ (cell_later HN1.out.2.1 HS) (fun HS => ?_)
            clear hK K hW1 HB
            have HB := HB2
            clear HB2
            refine wpAnyH_ready (rs := [0, 2]) (by kernel_rfl) (by simp) ?_
            refine AllReadyH.cons rfl (fun K hK => ?_) (AllReadyH.cons rfl (fun K hK => ?_) AllReadyH.nil)
            · go_simp
              obtain ⟨W2, hW1⟩ : ∃ WW, WW = W1.alloc (.cells #[] 22) := ⟨_, rfl⟩
              have HM : Hid (W2.ownsRow q0.heap.size 22 1 (.slice (some ⟨W1.heap.size, 0, none⟩) 0 0) 0 [] ∧ Below W1.heap.size W1 W2 ∧ W2.heap.size = W1.heap.size + 1) := by
                rw [hW1]
                exact ⟨World.ownsRow_made W1 #[] 0 HB.out.size (Nat.zero_le _) (by simp), bel1 _ _, by simp⟩
              rw [← hW1]
              have HB2 : Hid (Below q0.heap.size q0 W2) := bchain HB.out HM.out.2.1
              refine hK.out _ _ (cell_later HM.out.2.1 HS) (fun HS => ?_)
              clear hK K hW1 HB
              have HB := HB2
              clear HB2
              refine wpAnyH_ready (rs := [2]) (by kernel_rfl) (by simp) ?_
              refine AllReadyH.cons rfl (fun K hK => ?_) AllReadyH.nil
              · have yL := cell_later HB.out HK1.out
                go_simp
                refine hK.out _ _ HS (fun HS => ?_)
                clear hK K yL
                refine wpAnyH_ready (rs := [3]) (by kernel_rfl) (by simp) ?_
                refine AllReadyH.cons rfl (fun K hK => ?_) AllReadyH.nil
                · rw [if_pos (by kernel_rfl)]
                  refine wp_ap18 _ _ rfl q0.heap.size (.slice (some ⟨W1.heap.size, 0, none⟩) 0 0) 0 [] rfl HM.out.1 (vL0) (rs.length) (cs) rfl (HLs.out.later HB.out) (by have := HLn.out; omega) HB.out.size (fun v2 W3 hown hgrow => ?_)
                  have HA2 : Hid (W3.ownsRow q0.heap.size 22 1 v2 (0 + rs.length) ([] ++ cs) ∧ W2.grownBy W3 (Value.ownBlock (.slice (some ⟨W1.heap.size, 0, none⟩) 0 0)) ∧ Below q0.heap.size q0 W3) := ⟨hown, hgrow, HB.out.grown hgrow HB.out.size (fun k hk => (HM.out.1.lt k hk).1)⟩
                  refine hK.out _ _ (cell_later HA2.out.2.2 HS0.out) (fun HS => ?_)
                  clear hK K hown hgrow HB
                  have HB := hid5 HA2.out.2.2
                  have HN2 : Hid (LsC W3 (.slice (some ⟨q0.heap.size, 0, none⟩) 1 1) 1 [.slice a1 nb1 p1]) := lsc_grown (HN1.out.1.later HM.out.2.1) HA2.out.2.1 (by have := HM.out.2.2; have := HN1.out.2.2; simp [Value.ownBlock]; omega)
                  refine wpAnyH_ready (rs := [7]) (by kernel_rfl) (by simp) ?_
                  refine AllReadyH.cons rfl (fun K hK => ?_) AllReadyH.nil
                  · rw [if_pos (by kernel_rfl)]
                    refine wp_ap18 _ _ rfl q0.heap.size v2 (0 + rs.length) ([] ++ cs) rfl HA2.out.1 (.slice (some ⟨q0.heap.size, 0, none⟩) 1 1) 1 [.slice a1 nb1 p1] rfl HN2.out (by have := HLn.out; omega) HB.out.size (fun v9 w9 hown hgrow => ?_)
                    have HO9 : Hid (w9.ownsRow q0.heap.size 22 1 v9 (rs.length + 1) (cs ++ [.slice a1 nb1 p1]) ∧ Below q0.heap.size q0 w9) := ⟨by rw [Nat.zero_add, List.nil_append] at hown; exact hown, HB.out.grown hgrow HB.out.size (fun k hk => (HA2.out.1.lt k hk).1)⟩
                    refine hK.out _ _ (cell_later HO9.out.2 HS0.out) (fun HS => ?_)
                    clear hK K hown hgrow HB HA2
                    obtain ⟨a9, c9, e9⟩ := own_sl18 HO9.out.1
                    subst e9
                    have HF9 : Hid (FlS V S d aq rm m w (w9.setCell ⟨kb, 1, none⟩ (.slice a9 (rs.length + 1) c9)) kb (j + 1)) := HG.out w9 _ HO9.out.1 HO9.out.2
                    have hv9 := hid5 (HV7.out.kept (HO9.out.2.block kb HV7.out.lt))
                    have y1 := hv9.out.cell 1 _ rfl
                    have f1 := hv9.out.fro 1
                    clear HO9 HG HK1 HLs HV7 hv9
                    refine wpAnyH_take (i := 8) (v := ?_) rfl (by kernel_rfl) (by kernel_rfl) (by kernel_rfl) (fun _ _ _ h => h) (Or.inl ⟨by kernel_rfl, ?_⟩) HS ?_
                    rotate_left
                    · (rintro w n0; go_simp) <;> with_reducible rfl
                    try simp only [Act.put, List.getElem_toArray, List.getElem_cons_succ, List.getElem_cons_zero, List.setIfInBounds_toArray, List.set_cons_zero, List.set_cons_succ]
                    refine wpAnyH_ready (rs := [9]) (by kernel_rfl) (by simp) ?_
                    refine AllReadyH.cons rfl (fun K hK => ?_) AllReadyH.nil
                    go_simp
                    refine hK.out _ _ (cell_set (by have := HBo.out; dsimp only; omega) HS) (fun HS => ?_)
                    clear hK K y1 f1 HS HS0
                    refine wpAnyH_done (by kernel_rfl) ?_ _
                    go_wp2_with fail
                    go_roundw
                    case rel => exact ⟨j + 1, aq, by omega, rfl, by first | rfl | go_num, HF9.out⟩
                    case measure => simp only [intOf]; omega
            · have yL := cell_later HB.out HK1.out
              go_simp
              refine hK.out _ _ HS (fun HS => ?_)
              clear hK K yL
              refine wpAnyH_ready (rs := [0]) (by kernel_rfl) (by simp) ?_
              refine AllReadyH.cons rfl (fun K hK => ?_) AllReadyH.nil
              · go_simp
                obtain ⟨W2, hW1⟩ : ∃ WW, WW = W1.alloc (.cells #[] 22) := ⟨_, rfl⟩
                have HM : Hid (W2.ownsRow q0.heap.size 22 1 (.slice (some ⟨W1.heap.size, 0, none⟩) 0 0) 0 [] ∧ Below W1.heap.size W1 W2 ∧ W2.heap.size = W1.heap.size + 1) := by
                  rw [hW1]
                  exact ⟨World.ownsRow_made W1 #[] 0 HB.out.size (Nat.zero_le _) (by simp), bel1 _ _, by simp⟩
                rw [← hW1]
                have HB2 : Hid (Below q0.heap.size q0 W2) := bchain HB.out HM.out.2.1
                refine hK.out _ _ (cell_later HM.out.2.1 HS) (fun HS => ?_)
                clear hK K hW1 HB
                have HB := HB2
                clear HB2
                refine wpAnyH_ready (rs := [3]) (by kernel_rfl) (by simp) ?_
                refine AllReadyH.cons rfl (fun K hK => ?_) AllReadyH.nil
                · rw [if_pos (by kernel_rfl)]
                  refine wp_ap18 _ _ rfl q0.heap.size (.slice (some ⟨W1.heap.size, 0, none⟩) 0 0) 0 [] rfl HM.out.1 (vL0) (rs.length) (cs) rfl (HLs.out.later HB.out) (by have := HLn.out; omega) HB.out.size (fun v2 W3 hown hgrow => ?_)
                  have HA2 : Hid (W3.ownsRow q0.heap.size 22 1 v2 (0 + rs.length) ([] ++ cs) ∧ W2.grownBy W3 (Value.ownBlock (.slice (some ⟨W1.heap.size, 0, none⟩) 0 0)) ∧ Below q0.heap.size q0 W3) := ⟨hown, hgrow, HB.out.grown hgrow HB.out.size (fun k hk => (HM.out.1.lt k hk).1)⟩
                  refine hK.out _ _ (cell_later HA2.out.2.2 HS0.out) (fun HS => ?_)
                  clear hK K hown hgrow HB
                  have HB := hid5 HA2.out.2.2
                  have HN2 : Hid (LsC W3 (.slice (some ⟨q0.heap.size, 0, none⟩) 1 1) 1 [.slice a1 nb1 p1]) := lsc_grown (HN1.out.1.later HM.out.2.1) HA2.out.2.1 (by have := HM.out.2.2; have := HN1.out.2.2; simp [Value.ownBlock]; omega)
                  refine wpAnyH_ready (rs := [7]) (by kernel_rfl) (by simp) ?_
                  refine AllReadyH.cons rfl (fun K hK => ?_) AllReadyH.nil
                  · rw [if_pos (by kernel_rfl)]
                    refine wp_ap18 _ _ rfl q0.heap.size v2 (0 + rs.length) ([] ++ cs) rfl HA2.out.1 (.slice (some ⟨q0.heap.size, 0, none⟩) 1 1) 1 [.slice a1 nb1 p1] rfl HN2.out (by have := HLn.out; omega) HB.out.size (fun v9 w9 hown hgrow => ?_)
                    have HO9 : Hid (w9.ownsRow q0.heap.size 22 1 v9 (rs.length + 1) (cs ++ [.slice a1 nb1 p1]) ∧ Below q0.heap.size q0 w9) := ⟨by rw [Nat.zero_add, List.nil_append] at hown; exact hown, HB.out.grown hgrow HB.out.size (fun k hk => (HA2.out.1.lt k hk).1)⟩
                    refine hK.out _ _ (cell_later HO9.out.2 HS0.out) (fun HS => ?_)
                    clear hK K hown hgrow HB HA2
                    obtain ⟨a9, c9, e9⟩ := own_sl18 HO9.out.1
                    subst e9
                    have HF9 : Hid (FlS V S d aq rm m w (w9.setCell ⟨kb, 1, none⟩ (.slice a9 (rs.length + 1) c9)) kb (j + 1)) := HG.out w9 _ HO9.out.1 HO9.out.2
                    have hv9 := hid5 (HV7.out.kept (HO9.out.2.block kb HV7.out.lt))
                    have y1 := hv9.out.cell 1 _ rfl
                    have f1 := hv9.out.fro 1
                    clear HO9 HG HK1 HLs HV7 hv9
                    refine wpAnyH_take (i := 8) (v := ?_) rfl (by kernel_rfl) (by kernel_rfl) (by kernel_rfl) (fun _ _ _ h => h) (Or.inl ⟨by kernel_rfl, ?_⟩) HS ?_
                    rotate_left
                    · (rintro w n0; go_simp) <;> with_reducible rfl
                    try simp only [Act.put, List.getElem_toArray, List.getElem_cons_succ, List.getElem_cons_zero, List.setIfInBounds_toArray, List.set_cons_zero, List.set_cons_succ]
                    refine wpAnyH_ready (rs := [9]) (by kernel_rfl) (by simp) ?_
                    refine AllReadyH.cons rfl (fun K hK => ?_) AllReadyH.nil
                    go_simp
                    refine hK.out _ _ (cell_set (by have := HBo.out; dsimp only; omega) HS) (fun HS => ?_)
                    clear hK K y1 f1 HS HS0
                    refine wpAnyH_done (by kernel_rfl) ?_ _
                    go_wp2_with fail
                    go_roundw
                    case rel => exact ⟨j + 1, aq, by omega, rfl, by first | rfl | go_num, HF9.out⟩
                    case measure => simp only [intOf]; omega
        · rw [e1] at HA
          subst hsv had
          have HE : Hid (Mq18 rm m false true last bb rs N js' s' (j + 1)) := e2
          clear e1 e2
          go_wp2_with fail
          refine HA.out.mono ?_
          rintro e w7 ⟨rfl, hD7, hK7⟩
          have hF7 := HX.out.2.1.kn hK7
          have y2' : w7.cell? ⟨bo, 2, none⟩ = some (.slice a1 nb1 p1) := cell_blk5 (a := ⟨bo, 2, none⟩) (hK7 bo (Or.inr rfl)) y2
          have z3 := hF7.v.cell 3 _ rfl
          have f3 := hF7.v.fro 3
          have hv7 := hF7.v.set 3 (.slice a1 nb1 p1)
          have z5 := hv7.cell 5 _ rfl
          have f5 := hv7.fro 5
          have HF9 : Hid (FlS V S d aq rm m w ((w7.setCell ⟨kb, 3, none⟩ (.slice a1 nb1 p1)).setCell ⟨kb, 5, none⟩ (.bool true)) kb (j + 1)) := by
            refine ⟨_, _, _, _, _, _, _, _, _, _, _, _, _, (hD7.set (sd_owns _ _ _ _ _ _ _ _) owns_nil (p := ⟨kb, 3, none⟩) hF7.mb _).set (sd_owns _ _ _ _ _ _ _ _) owns_nil (p := ⟨kb, 5, none⟩) hF7.mb _, hF7.put (fun i hi => (Below.heap_setCell _ _ _ _ hi).trans (Below.heap_setCell _ _ _ _ hi)) (hv7.set 5 (.bool true)) (fun w'' h1 h2 h3 => ⟨h3.1, h3.2.1, HV.out.1.later h2⟩), HE.out⟩
          clear hD7 hK7 hF7 hv7 HA y0 y1 y2 y3
          go_wp2_with fail
          go_roundw
          case rel => exact ⟨j + 1, aq, by omega, rfl, by first | rfl | go_num, HF9.out⟩
          case measure => simp only [intOf]; omega
      by_cases g2 : kk = 2
      · subst g2
        have HA := hid5 (sdSave owns_nil HX.out.1 HT.out HX.out.2.2.1.q HRm.out.1 (by have := HRm.out; omega) HRm.out.2.2.1 (by have := HRm.out; omega) HB1.out.1 HB1.out.2.1 HV.out.2.1 (by have := HB1.out.2.2; omega))
        rcases HX.out.2.2.1.save (bb := bb) (by omega) HV.out.2.1 HRm.out.2.2.1 (by have := HRm.out; omega) with ⟨js', e1, e2⟩ | ⟨js', e1, hsa, e2⟩ | ⟨s', js', e1, hsv, had, e2⟩ | ⟨s', js', e1, hsv, had, e2⟩
        · rw [e1] at HA
          have HE := hid5 e2
          clear e1 e2
          go_wp2_with fail
          refine HA.out.mono ?_
          rintro e w7 ⟨rfl, hD7, hK7⟩
          have HF9 : Hid (FlS V S d aq rm m w w7 kb (j + 1)) := ⟨_, _, _, _, _, _, _, _, _, _, _, _, _, hD7, HX.out.2.1.kn hK7, HE.out⟩
          clear hD7 hK7 HA y0 y1 y2 y3
          go_wp2_with fail
          go_roundw
          case rel => exact ⟨j + 1, aq, by omega, rfl, by first | rfl | go_num, HF9.out⟩
          case measure => simp only [intOf]; omega
        · rw [e1] at HA
          have HE := hid5 e2
          clear e1 e2
          cases ad with
          | true =>
            clear hsa
            go_wp2_with fail
            refine HA.out.mono ?_
            rintro e w7 ⟨rfl, hD7, hK7⟩
            have hF7 := HX.out.2.1.kn hK7
            have z5 := hF7.v.cell 5 _ rfl
            have z4 := hF7.v.cell 4 _ rfl
            have HF9 : Hid (FlS V S d aq rm m w w7 kb (j + 1)) := ⟨_, _, _, _, _, _, _, _, _, _, _, _, _, hD7, hF7, HE.out⟩
            clear hD7 hK7 hF7 HA y0 y1 y2 y3
            go_wp2_with fail
            go_roundw
            case rel => exact ⟨j + 1, aq, by omega, rfl, by first | rfl | go_num, HF9.out⟩
            case measure => simp only [intOf]; omega
          | false =>
            have hsv : sv = true := by
              rcases hsa with h | h
              · exact h
              · cases h
            subst hsv
            clear hsa
            go_wp2_with fail
            refine HA.out.mono ?_
            rintro e w7 ⟨rfl, hD7, hK7⟩
            have hF7 := HX.out.2.1.kn hK7
            have z5 := hF7.v.cell 5 _ rfl
            have z4 := hF7.v.cell 4 _ rfl
            have HF9 : Hid (FlS V S d aq rm m w w7 kb (j + 1)) := ⟨_, _, _, _, _, _, _, _, _, _, _, _, _, hD7, hF7, HE.out⟩
            clear hD7 hK7 hF7 HA y0 y1 y2 y3
            go_wp2_with fail
            go_roundw
            case rel => exact ⟨j + 1, aq, by omega, rfl, by first | rfl | go_num, HF9.out⟩
            case measure => simp only [intOf]; omega
        · rw [e1] at HA
          subst hsv had
          have HE := hid5 e2
          clear e1 e2
          go_wp2_with fail
          refine HA.out.mono ?_
          rintro e w7 ⟨rfl, hD7, hK7⟩
          have hF7 := HX.out.2.1.kn hK7
          have y2' : w7.cell? ⟨bo, 2, none⟩ = some (.slice a1 nb1 p1) := cell_blk5 (a := ⟨bo, 2, none⟩) (hK7 bo (Or.inr rfl)) y2
          have z0 := hF7.v.cell 0 _ rfl
          have f0 := hF7.v.fro 0
          have hv7 := hF7.v.set 0 (.slice a1 nb1 p1)
          have z1 := hv7.cell 1 _ rfl
          have f1 := hv7.fro 1
          have HF9 : Hid (FlS V S d aq rm m w ((w7.setCell ⟨kb, 0, none⟩ (.slice a1 nb1 p1)).setCell ⟨kb, 1, none⟩ (.slice none 0 0)) kb (j + 1)) := by
            refine ⟨_, _, _, _, _, _, _, _, _, _, _, _, _, (hD7.set (sd_owns _ _ _ _ _ _ _ _) owns_nil (p := ⟨kb, 0, none⟩) hF7.mb _).set (sd_owns _ _ _ _ _ _ _ _) owns_nil (p := ⟨kb, 1, none⟩) hF7.mb _, hF7.put (cs' := []) (fun i hi => (Below.heap_setCell _ _ _ _ hi).trans (Below.heap_setCell _ _ _ _ hi)) (hv7.set 1 (.slice none 0 0)) (fun w'' h1 h2 h3 => ⟨HV.out.1.later h2, txc_nil18 _, h3.2.2⟩), HE.out⟩
          clear hD7 hK7 hF7 hv7 HA y0 y1 y2 y3
          go_wp2_with fail
          go_roundw
          case rel => exact ⟨j + 1, aq, by omega, rfl, by first | rfl | go_num, HF9.out⟩
          case measure => simp only [intOf]; omega
        · rw [e1] at HA
          subst hsv had
          have HE := hid5 e2
          clear e1 e2
          go_wp2_with fail
          refine HA.out.mono ?_
          rintro e w7 ⟨rfl, hD7, hK7⟩
          have hF7 := HX.out.2.1.kn hK7
          have y2' : w7.cell? ⟨bo, 2, none⟩ = some (.slice a1 nb1 p1) := cell_blk5 (a := ⟨bo, 2, none⟩) (hK7 bo (Or.inr rfl)) y2
          have z5 := hF7.v.cell 5 _ rfl
          have z4 := hF7.v.cell 4 _ rfl
          have z3 := hF7.v.cell 3 _ rfl
          have f3 := hF7.v.fro 3
          have hv7 := hF7.v.set 3 (.slice a1 nb1 p1)
          have z4' := hv7.cell 4 _ rfl
          have f4 := hv7.fro 4
          have HF9 : Hid (FlS V S d aq rm m w ((w7.setCell ⟨kb, 3, none⟩ (.slice a1 nb1 p1)).setCell ⟨kb, 4, none⟩ (.bool true)) kb (j + 1)) := by
            refine ⟨_, _, _, _, _, _, _, _, _, _, _, _, _, (hD7.set (sd_owns _ _ _ _ _ _ _ _) owns_nil (p := ⟨kb, 3, none⟩) hF7.mb _).set (sd_owns _ _ _ _ _ _ _ _) owns_nil (p := ⟨kb, 4, none⟩) hF7.mb _, hF7.put (fun i hi => (Below.heap_setCell _ _ _ _ hi).trans (Below.heap_setCell _ _ _ _ hi)) (hv7.set 4 (.bool true)) (fun w'' h1 h2 h3 => ⟨h3.1, h3.2.1, HV.out.1.later h2⟩), HE.out⟩
          clear hD7 hK7 hF7 hv7 HA y0 y1 y2 y3
          go_wp2_with fail
          go_roundw
          case rel => exact ⟨j + 1, aq, by omega, rfl, by first | rfl | go_num, HF9.out⟩
          case measure => simp only [intOf]; omega
      by_cases g4 : kk = 4
      · subst g4
        have HA := hid5 (sdArm owns_nil HX.out.1 ii HV.out.2.2.2.2.2)
        go_wp2_with fail
        refine HA.out.mono ?_
        rintro e w7 ⟨rfl, hD7, hK7⟩
        have HF9 : Hid (FlS V S d aq rm m w w7 kb (j + 1)) := ⟨_, _, _, _, _, _, _, _, _, _, _, _, _, hD7, HX.out.2.1.kn hK7, HX.out.2.2.1.arm ii⟩
        clear hD7 hK7 HA y0 y1 y2 y3
        go_wp2_with fail
        go_roundw
        case rel => exact ⟨j + 1, aq, by omega, rfl, by first | rfl | go_num, HF9.out⟩
        case measure => simp only [intOf]; omega
      by_cases g5 : kk = 5
      · subst g5
        have HA := hid5 (sdCrash owns_nil HX.out.1 HX.out.2.2.1.q.le (HV.out.2.2.2.1.later HX.out.1.bel) (Lo.ou (Fts.lo HV.out.2.2.2.1)) (by have := HV.out.2.2.2.2.1; have := HNN.out.2; omega))
        obtain ⟨last', rs', N', ho1, ho2, hq', hfit⟩ := HX.out.2.2.1.crash (by omega) ff
        have HC : Hid (opB (crS s ff) rm = last' ∧ opL (crS s ff) rm = rs' ∧ Mq18 rm m false false last' [] rs' N' ⟨⟨0, 0, 0⟩, false⟩ (crS s ff) (j + 1) ∧ ((last' = last ∧ rs' = rs) ∨ (sv = true ∧ last' = nx ∧ rs' = []) ∨ (sv = false ∧ ad = true ∧ last' = last ∧ rs' = rs ++ [nx]))) := ⟨ho1, ho2, hq', hfit⟩
        clear ho1 ho2 hq' hfit
        go_wp2_with fail
        refine HA.out.mono ?_
        rintro e w7 ⟨rfl, hD7, hK7⟩
        have HD7 : Hid (P2 (SD V S d (.pointer (some aq)) rm m (crS s ff) js) Nil2 w w7 (fun i => M0 i ∨ i = bo) ∧ Fm18 w w7 (fun i => M0 i ∨ i = bo) kb vB0 vL0 vN0 cs sv ad last nx rs) := ⟨hD7, HX.out.2.1.kn hK7⟩
        clear hD7 hK7 HA y0 y1 y2 y3
        go_wp2_with fail
        refine (sdOpenC owns_nil HD7.out.1 HT.out HC.out.2.2.1.q HRm.out.1 (by have := HRm.out; omega) HRm.out.2.2.1 (by have := HRm.out; omega) rfl).mono ?_
        rintro e w8 ⟨ta, vb, vl, T2, cs2, rfl, hP8, -, hT2, hTx, hb8⟩
        rw [HC.out.1, HC.out.2.1] at hTx
        obtain ⟨ab, cb, rfl, -, -⟩ := (hTx w8 (fun _ _ => rfl)).1.len
        obtain ⟨al, cl, rfl, -, -⟩ := (hTx w8 (fun _ _ => rfl)).2.txs.len
        obtain ⟨lb, hlb⟩ : ∃ x, last'.length = x := ⟨_, rfl⟩
        obtain ⟨ll, hll⟩ : ∃ x, rs'.length = x := ⟨_, rfl⟩
        have HLe : Hid (last'.length = lb ∧ rs'.length = ll) := ⟨hlb, hll⟩
        rw [hlb, hll] at hTx ⊢
        have H8 : Hid (P2 (SD V S d (.pointer (some ta)) rm m (crS s ff) ⟨⟨0, 0, 0⟩, false⟩) Nil2 w w8 (fun k => (M0 k ∨ k = bo) ∨ T2 k) ∧ Fm18 w w8 (fun i => M0 i ∨ i = bo) kb vB0 vL0 vN0 cs sv ad last nx rs ∧ (∀ k, T2 k → w7.heap.size ≤ k ∧ k < w8.heap.size) ∧ (∀ w'' : World, (∀ k, T2 k → w''.heap[k]? = w8.heap[k]?) → Bs w'' (.slice ab lb cb) last' ∧ TxC w'' (.slice al ll cl) rs' cs2) ∧ kb < w7.heap.size) :=
          ⟨hP8, HD7.out.2.later (fun i hi => (p2_lt HD7.out.1 i hi).2) hb8, hT2, hTx, (p2_lt HD7.out.1 kb HD7.out.2.mb).2⟩
        clear hlb hll hP8 hT2 hTx hb8 HD7
        go_wp2_with fail
        refine (sdOpenC owns_nil H8.out.1 HT.out HC.out.2.2.1.q HRm.out.1 (by have := HRm.out; omega) HRm.out.2.2.1 (by have := HRm.out; omega) rfl).mono ?_
        rintro e w9 ⟨ta2, vb2, vl2, T3, cs3, rfl, -, hP9, hT3, hTx3, hb9⟩
        rw [HC.out.1, HC.out.2.1] at hTx3
        obtain ⟨ab2, cb2, rfl, -, -⟩ := (hTx3 w9 (fun _ _ => rfl)).1.len
        obtain ⟨al2, cl2, rfl, -, -⟩ := (hTx3 w9 (fun _ _ => rfl)).2.txs.len
        rw [HLe.out.1, HLe.out.2] at hTx3 ⊢
        have hT8 := H8.out.2.2.2.1 w9 (fun k hk => hb9.block k (H8.out.2.2.1 k hk).2)
        have hF9 : Fm18 w w9 (fun i => M0 i ∨ i = bo) kb vB0 vL0 vN0 cs sv ad last nx rs := H8.out.2.1.later (fun i hi => (p2_lt H8.out.1 i (Or.inl hi)).2) hb9
        have H9 : Hid (P2 (SD V S d (.pointer (some ta)) rm m (crS s ff) ⟨⟨0, 0, 0⟩, false⟩) Nil2 w w9 (fun k => (M0 k ∨ k = bo) ∨ T2 k) ∧ Fm18 w w9 (fun i => M0 i ∨ i = bo) kb vB0 vL0 vN0 cs sv ad last nx rs ∧ (Bs w9 (.slice ab lb cb) last' ∧ Txs w9 (.slice al ll cl) rs') ∧ (Bs w9 (.slice ab2 lb cb2) last' ∧ Txs w9 (.slice al2 ll cl2) rs') ∧ Below w8.heap.size w8 w9) :=
          ⟨hP9.weak (fun k hk => Or.inl hk), hF9, ⟨hT8.1, hT8.2.txs⟩, ⟨(hTx3 w9 (fun _ _ => rfl)).1, (hTx3 w9 (fun _ _ => rfl)).2.txs⟩, hb9⟩
        have z0 := hF9.v.cell 0 _ rfl
        have z1 := hF9.v.cell 1 _ rfl
        have z2 := hF9.v.cell 2 _ rfl
        have z3 := hF9.v.cell 3 _ rfl
        have z4 := hF9.v.cell 4 _ rfl
        have z5 := hF9.v.cell 5 _ rfl
        clear hP9 hT3 hTx3 hb9 hT8 hF9
        go_wp2_with fail
        have hTk := H9.out.2.1.tx w9 (fun i _ _ => rfl) H9.out.1.bel
        refine (fits18 w9 vB0 vL0 vN0 (.slice ab lb cb) (.slice al ll cl) last nx last' rs rs' cs false sv ad hTk.1 hTk.2.1 hTk.2.2 H9.out.2.2.1.1 H9.out.2.2.1.2 (by have := HX.out.2.2.1.r; omega) HC.out.2.2.2).mono ?_
        rintro e w10 ⟨rfl, hb10⟩
        have HB10 : Hid (Below w9.heap.size w9 w10) := hb10
        clear hb10 hTk z0 z1 z2 z3 z4 z5
        go_wp2_with fail
        refine (sameB _ _ _ _ w10 (H9.out.2.2.1.1.later HB10.out) (H9.out.2.2.2.1.1.later HB10.out)).mono ?_
        rintro e w11 ⟨rfl, hb11⟩
        rw [decide_eq_true rfl]
        have HB11 : Hid (Below w9.heap.size w9 w11) := bchain HB10.out hb11
        clear hb11 HB10
        go_wp2_with fail
        refine (texts18 _ _ _ _ w11 (H9.out.2.2.1.2.later HB11.out) (H9.out.2.2.2.1.2.later HB11.out)).mono ?_
        rintro e w12 ⟨rfl, hb12⟩
        rw [decide_eq_true rfl]
        have HB12 : Hid (Below w9.heap.size w9 w12) := bchain HB11.out hb12
        clear hb12 HB11
        have HV12 : Hid (Vk w12 kb (kpC vB0 vL0 vN0 sv ad)) := H9.out.2.1.v.kept (HB12.out.block kb H9.out.2.1.v.lt)
        go_upto_region 36 with (refine stVk rfl _ _ rfl kb (kpC vB0 vL0 vN0 sv ad) (kpC (.slice ab lb cb) (.slice al ll cl) (.slice none 0 0) false false) rfl rfl HV12.out rfl rfl (kpC_one _ _ _ _ _ _ _ _ _ _ _) ?_; intro w13 hV13 hK13 hS13)
        have HF9 : Hid (FlS V S d ta rm m w w13 kb (j + 1)) := by
          have hb13 : Below w.heap.size w w12 := bchain H9.out.1.bel HB12.out
          have hkw := H8.out.2.2.2.2
          have hbel9 := H9.out.1.bel.size
          have hkb0 := (p2_lt H9.out.1 kb (Or.inl H9.out.2.1.mb)).1
          refine ⟨fun k => (M0 k ∨ k = bo) ∨ T2 k, _, _, _, cs2, false, false, last', [], rs', N', _, _, H9.out.1.grow18 (sd_owns _ _ _ _ _ _ _ _) owns_nil (fun i hi hn => ?_) ?_ ?_ (fun i hi => Or.inl hi), ⟨Or.inl H9.out.2.1.mb, hV13, fun w'' h1 h2 => ?_⟩, HC.out.2.2.1⟩
          · exact (hK13.block i (Nat.lt_of_lt_of_le hi HB12.out.size) (fun e => hn (by rw [e]; exact Or.inl H9.out.2.1.mb))).trans (HB12.out.block i hi)
          · exact Nat.le_trans HB12.out.size hK13.size
          · exact hK13.next hb13 (fun i hi => by omega) hb13.size
          · have hT := H8.out.2.2.2.1 w'' (fun k hk => ?_)
            · exact ⟨hT.1, hT.2, bs_nilS _⟩
            · obtain ⟨t1, t2⟩ := H8.out.2.2.1 k hk
              have t3 := H9.out.2.2.2.2.size
              have t4 := HB12.out.size
              exact (h1 k (Or.inr hk) (by omega)).trans ((hK13.block k (by omega) (by omega)).trans ((HB12.out.block k (by omega)).trans (H9.out.2.2.2.2.block k t2)))
        clear hV13 hK13 hS13 HV12 HB12 H9 H8
        go_wp2_with fail
        go_roundw
        case rel => exact ⟨j + 1, ta, by omega, rfl, by first | rfl | go_num, HF9.out⟩
        case measure => simp only [intOf]; omega
      have HF9 : Hid (FlS V S d aq rm m w wx kb (j + 1)) := ⟨_, _, _, _, _, _, _, _, _, _, _, _, _, HX.out.1, HX.out.2.1, HX.out.2.2.1.up⟩
      clear y1 y2 y3
      go_wp2_with fail
      go_roundw
      case rel => exact ⟨j + 1, aq, by omega, rfl, by first | rfl | go_num, HF9.out⟩
      case measure => simp only [intOf]; omega
    · obtain rfl : j = n := by omega
      have hjI : ¬ (j : Int) < (j : Int) := by omega
      have HBe : Hid (Below w.heap.size w wr) := by
        obtain ⟨_, _, _, _, _, _, _, _, _, _, _, _, _, hP0, -, -⟩ := HS.out
        exact hP0.bel
      go_wp2_with fail
      go_ret
      exact ⟨rfl, HBe.out⟩
end Go.Proofs.YthnpdcblfocemaaDoor
