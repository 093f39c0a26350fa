/-
  Texts of this proof, joined: NWalkH NWalkI.
-/
import Derived.Test.YtdfjnbkkdgolnaaGreatDoorSU11
import Derived.Test.YtdfjnbkkdgolnaaGreatDoorSU14
set_option linter.unusedVariables false
set_option linter.unusedSimpArgs false
namespace Go.Proofs.YtdfjnbkkdgolnaaGreatDoor
open Go.RowKit

set_option maxHeartbeats 1000000 in
theorem measureOf_sq (w : World) : Calls Tryz.prog 51 #[.int .i64 1] w fun e w' => e = .returned (.iface 146 (.agg #[])) ∧ w' = w := by
  go_enter Tryz.func51, Tryz.ntmps51
  go_wp2
  go_ret
  exact ⟨rfl, rfl⟩
set_option maxHeartbeats 1000000 in
theorem measureOf_hg (w : World) : Calls Tryz.prog 51 #[.int .i64 2] w fun e w' => e = .returned (.iface 147 (.agg #[])) ∧ w' = w := by
  go_enter Tryz.func51, Tryz.ntmps51
  go_wp2
  go_ret
  exact ⟨rfl, rfl⟩
set_option maxHeartbeats 1000000 in
theorem measureOf_no (L : Int) (h1 : ¬ L = 1) (h2 : ¬ L = 2) (w : World) : Calls Tryz.prog 51 #[.int .i64 L] w fun e w' => e = .returned .nilIface ∧ w' = w := by
  go_enter Tryz.func51, Tryz.ntmps51
  go_wp2
  go_ret
  exact ⟨rfl, rfl⟩
set_option maxHeartbeats 2000000 in
theorem lack_ux (y t : Nat → Int) (i : Nat) (y0 : -9223372036854775808 ≤ y i ∧ y i ≤ 9223372036854775807) (t0 : -9223372036854775808 ≤ t i ∧ t i ≤ 9223372036854775807) (p : Option Addr) (c : Int) (c0 : 0 ≤ c) (c1 : c ≤ 800000000) (w : World) (hp : Up p c w) :
    Calls Tryz.prog 199 #[.agg #[], .pointer p, .int .i64 (y i), .int .i64 (t i)] w fun e w' => e = .returned (.int .i64 (hgX y t i)) ∧ Ux p (c + bi (mpO y t i) + bi (hgO y t i)) w w' := by
  have C1 : Hid (∀ W, Up p c W → Calls Tryz.prog 153 #[.pointer p, .int .i64 (t i), .int .i64 (y i)] W fun e w' => e = .returned (.int .i64 (mpX y t i)) ∧ Ux p (c + bi (mpO y t i)) W w') := fun W h => mul_ux (t i) (y i) t0.1 t0.2 y0.1 y0.2 p c c0 (by omega) W h
  have hm := clv_rng (rr (t i * y i) 32)
  have hb : 0 ≤ bi (mpO y t i) ∧ bi (mpO y t i) ≤ 1 := by unfold bi; split <;> omega
  have C2 : Hid (∀ W, Up p (c + bi (mpO y t i)) W → Calls Tryz.prog 193 #[.pointer p, .int .i64 4294967296, .int .i64 (mpX y t i)] W fun e w' => e = .returned (.int .i64 (hgX y t i)) ∧ Ux p (c + bi (mpO y t i) + bi (hgO y t i)) W w') := fun W h => sub_ux 4294967296 (mpX y t i) (by omega) (by omega) hm.1 hm.2 p _ (by omega) (by omega) W h
  have HUp : Hid (Up p c w) := hp
  obtain ⟨w1, hw1⟩ : ∃ w1, w1 = w.alloc (.cells #[] 147) := ⟨_, rfl⟩
  have HU1 : Hid (Ux p c w w1) := by rw [hw1]; exact hp.ux (bel1 _ _)
  clear hm hp hb
  generalize mpX y t i = mp at *
  generalize hgX y t i = hgv at *
  go_enter Tryz.func199, Tryz.ntmps199
  go_upto_region 1 with fail
  rw [← hw1]
  clear hw1
  go_wp2_with fail
  refine (C1.out _ HU1.out.up).mono ?_
  rintro e w2 ⟨rfl, h2⟩
  have HU2 : Hid (Ux p (c + bi (mpO y t i)) w w2) := HU1.out.chain h2
  clear C1 HU1 h2
  go_wp2_with fail
  refine (C2.out _ HU2.out.up).mono ?_
  rintro e w3 ⟨rfl, h3⟩
  have HU3 : Hid (Ux p (c + bi (mpO y t i) + bi (hgO y t i)) w w3) := HU2.out.chain h3
  clear C2 HU2 h3
  go_wp2
  go_ret
  exact ⟨rfl, HU3.out⟩
set_option maxHeartbeats 2000000 in
theorem sqSlope_ux (vy vt : Value) (n : Nat) (y t : Nat → Int) (hn : n ≤ 65536) (p : Option Addr) (c : Int) (c0 : 0 ≤ c) (c1 : c ≤ 800000000) (w : World) (hY : Ar w vy n y) (hT : Ar w vt n t) (ny : Nv vy p) (nt : Nv vt p) (hp : Up p c w) :
    Calls Tryz.prog 190 #[.agg #[], .pointer p, vy, vt] w fun e w' => ∃ v', e = .returned v' ∧ Ar w' v' n (slX true y t) ∧ Ow w.heap.size v' ∧ Ux p (c + slC true y t n) w w' := by
  obtain ⟨w1, hw1⟩ : ∃ w1, w1 = w.alloc (.cells #[] 146) := ⟨_, rfl⟩
  have hb1 : Below w.heap.size w w1 := by rw [hw1]; exact bel1 _ _
  have CS := vsub_ux vy vt n y t hn p c c0 c1 w1 (hY.later hb1) (hT.later hb1) ny nt (hp.later hb1)
  have HU1 : Hid (Ux p c w w1) := hp.ux hb1
  have hs1 := hb1.size
  have HC : Hid (slC true y t n = cntV (fun i => ovv (y i - t i)) n) := slC_sq y t n
  obtain ⟨ady, cy, b1, o1, rfl, -, -, -, -⟩ := hY
  obtain ⟨adt, ct, b2, o2, rfl, -, -, -, -⟩ := hT
  clear hb1 hp ny nt
  go_enter Tryz.func190, Tryz.ntmps190
  go_upto_region 1 with fail
  rw [← hw1]
  clear hw1
  go_wp2_with fail
  refine CS.mono ?_
  rintro e w2 ⟨⟨v', rfl, hL⟩, h2⟩
  have hA := hL.1 rfl
  have HA : Hid (Ar w2 v' n (slX true y t)) := hA.congr (fun k _ => (slX_sq y t k).symm)
  have HO : Hid (Ow w.heap.size v') := fun a n cap e hn => Nat.le_trans hs1 (hL.2.2 a n cap e hn)
  have HU2 : Hid (Ux p (c + slC true y t n) w w2) := by rw [HC.out]; exact HU1.out.chain h2
  obtain ⟨ad', c', b', o', rfl, -, -, -, -⟩ := hA
  clear CS hL h2 HU1
  go_wp2
  go_ret
  exact ⟨_, rfl, HA.out, HO.out, HU2.out⟩
theorem lo0 : t3 0 = 0 ∧ m3 0 = 0 ∧ lo 0 = 0 := ⟨by unfold t3; omega, by unfold m3; omega, by unfold lo; omega⟩
set_option maxHeartbeats 2000000 in
theorem sqFar_ux (vy vt : Value) (n : Nat) (y t : Nat → Int) (hn : n ≤ 65536) (p : Option Addr) (c : Int) (c0 : 0 ≤ c) (c1 : c ≤ 700000000) (w : World) (hY : Ar w vy n y) (hT : Ar w vt n t) (ny : Nv vy p) (nt : Nv vt p) (hp : Up p c w) (hTab : TabAt w) :
    Calls Tryz.prog 189 #[.agg #[], .pointer p, vy, vt] w fun e w' => e = .returned (.int .i64 (lsX true y t n)) ∧ Ux p (c + lsC true y t n) w w' := by
  obtain ⟨w1, hw1⟩ : ∃ w1, w1 = w.alloc (.cells #[] 146) := ⟨_, rfl⟩
  have hb1 : Below w.heap.size w w1 := by rw [hw1]; exact bel1 _ _
  have CS := sqSlope_ux vy vt n y t hn p c c0 (by omega) w1 (hY.later hb1) (hT.later hb1) ny nt (hp.later hb1)
  have HU1 : Hid (Ux p c w w1) := hp.ux hb1
  have HUp : Hid (Up p c w ∧ TabAt w) := ⟨hp, hTab⟩
  have hs1 := hb1.size
  have hcn := cnt_rng (dsO y t) n
  have eC : slC true y t n = cntV (dsO y t) n := slC_sq y t n
  obtain ⟨ady, cy, b1, o1, rfl, -, -, -, -⟩ := hY
  obtain ⟨adt, ct, b2, o2, rfl, -, -, -, -⟩ := hT
  clear hb1 hp ny nt hTab
  go_enter Tryz.func189, Tryz.ntmps189
  go_upto_region 1 with fail
  rw [← hw1]
  clear hw1
  go_wp2_with fail
  refine CS.mono ?_
  rintro e w2 ⟨v', rfl, hA, hO, h2⟩
  have HU2 : Hid (Ux p (c + slC true y t n) w w2) := HU1.out.chain h2
  have CW := wProd_any 0 v' v' n (slX true y t) (slX true y t) (by omega) w2 hA hA
  have hdb := dot_bnd (slX true y t) (slX true y t) n hA.rng hA.rng
  obtain ⟨D, hD⟩ : ∃ D, dotV (slX true y t) (slX true y t) n = D := ⟨_, rfl⟩
  have HD : Hid (D = dotV (dsX y t) (dsX y t) n) := by
    show _ = _
    rw [← hD]
    exact dot_congr _ _ _ _ n (fun k _ => ⟨slX_sq y t k, slX_sq y t k⟩)
  rw [hD, Int.zero_add] at CW
  rw [hD] at hdb
  rw [lo0.1, lo0.2.1, lo0.2.2] at CW
  have CN : Hid (∀ W, Ux p (c + slC true y t n) w W → Calls Tryz.prog 103 #[.pointer p, .agg #[.int .i64 (t3 D), .int .u64 (m3 D), .int .u64 (lo D)], .int .i64 33] W fun e w' => e = .returned (.int .i64 (clv (rr D 33))) ∧ Ux p (c + slC true y t n + bi (ovv (rr D 33))) W w') := fun W h => near33_ux D (by omega) (by omega) p _ (by omega) (by omega) W (HUp.out.2.ux HUp.out.1 h) h.up
  obtain ⟨ad', c', b', o', rfl, -, -, -, -⟩ := id hA
  clear CS h2 HU1 hA hO hD hdb
  generalize t3 D = d1 at *
  generalize m3 D = d2 at *
  generalize lo D = d3 at *
  go_wp2_with fail
  refine CW.mono ?_
  rintro e w3 ⟨rfl, h3⟩
  have HU3 : Hid (Ux p (c + slC true y t n) w w3) := HU2.out.later h3
  clear CW h3 HU2
  go_wp2_with fail
  refine (CN.out _ HU3.out).mono ?_
  rintro e w4 ⟨rfl, h4⟩
  have HU4 : Hid (Ux p (c + slC true y t n + bi (ovv (rr D 33))) w w4) := HU3.out.chain h4
  clear h4 HU3 CN
  go_wp2
  go_ret
  have eX : clv (rr D 33) = lsX true y t n := by rw [HD.out]; unfold lsX; rw [lsS_sq]
  have eO : c + slC true y t n + bi (ovv (rr D 33)) = c + lsC true y t n := by rw [HD.out, eC]; unfold lsC; rw [lsS_sq, lsP_sq, Int.add_assoc]
  exact ⟨by show Ending.returned (Value.int .i64 (clv (rr D 33))) = _; rw [eX], by rw [← eO]; exact HU4.out⟩
set_option maxRecDepth 100000 in
set_option maxHeartbeats 8000000 in
theorem hgFar_ux (vy vt : Value) (n : Nat) (y t : Nat → Int) (hn : n ≤ 65536) (p : Option Addr) (c : Int) (c0 : 0 ≤ c) (c1 : c ≤ 700000000) (w : World) (hY : Ar w vy n y) (hT : Ar w vt n t) (ny : Nv vy p) (nt : Nv vt p) (hp : Up p c w) (hTab : TabAt w) :
    Calls Tryz.prog 197 #[.agg #[], .pointer p, vy, vt] w fun e w' => e = .returned (.int .i64 (lsX false y t n)) ∧ Ux p (c + lsC false y t n) w w' := by
  have HYr : Hid (∀ k, k < n → -9223372036854775808 ≤ y k ∧ y k ≤ 9223372036854775807) := hY.rng
  have HTr : Hid (∀ k, k < n → -9223372036854775808 ≤ t k ∧ t k ≤ 9223372036854775807) := hT.rng
  have HUp : Hid (Up p c w ∧ TabAt w) := ⟨hp, hTab⟩
  obtain ⟨ady, cy, b1, o1, rfl, y2, y3, y4, y5⟩ := id hY
  obtain ⟨adt, ct, b2, o2, rfl, t2, t3', t4, t5⟩ := id hT
  have HY5 : Hid (∀ k, k < n → ady = some ⟨b1, o1, none⟩ ∧ Nu b1 p ∧ w.cell? ⟨b1, o1 + k, none⟩ = some (.int .i64 (y k))) := fun k hk => by
    have e := y4 (by omega)
    subst e
    exact ⟨rfl, ny.nu (by omega), (y5 k hk).1⟩
  have HT5 : Hid (∀ k, k < n → adt = some ⟨b2, o2, none⟩ ∧ Nu b2 p ∧ w.cell? ⟨b2, o2 + k, none⟩ = some (.int .i64 (t k))) := fun k hk => by
    have e := t4 (by omega)
    subst e
    exact ⟨rfl, nt.nu (by omega), (t5 k hk).1⟩
  have HCk : Hid (∀ k, 0 ≤ cntV (mpO y t) k + cntV (hgO y t) k ∧ cntV (mpO y t) k + cntV (hgO y t) k ≤ 2 * (k : Int)) := fun k => by
    have h1 := cnt_rng (mpO y t) k
    have h2 := cnt_rng (hgO y t) k
    omega
  obtain ⟨w1, hw1⟩ : ∃ w1, w1 = w.alloc (.cells #[] 147) := ⟨_, rfl⟩
  have hs1 : w1.heap.size = w.heap.size + 1 := by rw [hw1, World.size_alloc]
  obtain ⟨w2, hw2⟩ : ∃ w2, w2 = w1.alloc (.cells (madeCells #[.int .i64 0] n) 41) := ⟨_, rfl⟩
  have HU2 : Hid (Ux p c w w2) := by rw [hw2, hw1]; exact hp.ux (bel2 _ _ _)
  have HR2 : Hid (Rw w1.heap.size n (fun _ => .int .i64 0) w2) := by rw [hw2]; exact Rw.made w1 (.int .i64 0) n 41
  have HNs : Hid (Nu (w.heap.size + 1) p) := hp.lt (by omega)
  have hmk := make_fx n (by omega)
  clear y4 y5 t4 t5 hY hT ny nt hp hTab
  go_enter Tryz.func197, Tryz.ntmps197
  go_upto_region 3 with fail
  rw [← hw1, ← hw2]
  rw [hs1] at HR2
  clear hw1 hw2 hmk hs1
  go_loopw [18] (fun si wr => ∃ j : Nat, j ≤ n ∧ si = .int .i64 (j : Int) ∧ Hid (Rw (w.heap.size + 1) n (fun k => if k < j then .int .i64 (posV (hgX y t) k) else .int .i64 0) wr) ∧ Hid (Ux p (c + (cntV (mpO y t) j + cntV (hgO y t) j)) w wr)) (fun si _ => n - (intOf si).toNat)
  case atStart => exact ⟨0, by omega, rfl, HR2.out.congr (fun k hk => by simp), by show Ux p (c + (0 + 0)) w w2; rw [Int.add_zero, Int.add_zero]; exact HU2.out⟩
  case round =>
    obtain ⟨j, hj, rfl, HR, HU⟩ := hrel
    by_cases hlt : j < n
    · have hjI : (j : Int) < (n : Int) := by omega
      obtain ⟨rfl, hnY, cY⟩ := HY5.out j hlt
      obtain ⟨rfl, hnT, cT⟩ := HT5.out j hlt
      have cY2 : wr.drew.cell? ⟨b1, o1 + j, none⟩ = some (.int .i64 (y j)) := HU.out.drew.cell hnY cY
      have cT2 : wr.drew.cell? ⟨b2, o2 + j, none⟩ = some (.int .i64 (t j)) := HU.out.drew.cell hnT cT
      have hltY : b1 < w.heap.size := World.block_lt_of_cell? _ _ cY
      have hltT : b2 < w.heap.size := World.block_lt_of_cell? _ _ cT
      have hcn := HCk.out j
      obtain ⟨cj, hcj⟩ : ∃ cj, c + (cntV (mpO y t) j + cntV (hgO y t) j) = cj := ⟨_, rfl⟩
      have HUd : Hid (Ux p cj w wr.drew) := by rw [← hcj]; exact HU.out.drew
      have HRd : Hid (Rw (w.heap.size + 1) n (fun k => if k < j then .int .i64 (posV (hgX y t) k) else .int .i64 0) wr.drew) := HR.out.later (Below.refl _ _).drew
      have Hcj : Hid (cj + bi (mpO y t j) + bi (hgO y t j) = c + (cntV (mpO y t) (j + 1) + cntV (hgO y t) (j + 1))) := by
        show _ = c + (cntV (mpO y t) j + bi (mpO y t j) + (cntV (hgO y t) j + bi (hgO y t j)))
        omega
      have CL : Hid (∀ W, Ux p cj w W → Calls Tryz.prog 199 #[.agg #[], .pointer p, .int .i64 (y j), .int .i64 (t j)] W fun e w' => e = .returned (.int .i64 (hgX y t j)) ∧ Ux p (cj + bi (mpO y t j) + bi (hgO y t j)) W w') := fun W h => lack_ux y t j (HYr.out j hlt) (HTr.out j hlt) p cj (by omega) (by omega) W h.up
      have hpv : posV (hgX y t) j = if 0 < hgX y t j then hgX y t j else 0 := rfl
      obtain ⟨RX, hRX⟩ : ∃ r, posV (hgX y t) j = r := ⟨_, rfl⟩
      have HRX : Hid (posV (hgX y t) j = RX) := hRX
      rw [hRX] at hpv
      generalize hgX y t j = LK at *
      clear hRX hcn hcj HU HR cY cT
      go_upto_region 5 with fail
      refine wp_region_held_drew (S := fun W' => W'.cell? ⟨b1, o1 + j, none⟩ = some (.int .i64 (y j)) ∧ W'.cell? ⟨b2, o2 + j, none⟩ = some (.int .i64 (t j))) (by kernel_rfl) ⟨cY2, cT2⟩ (fun HS => ?_)
      generalize wr.drew = wd at *
      clear cY2 cT2
      refine wpAnyH_take (i := 0) (v := ?v1) rfl (by kernel_rfl) (by kernel_rfl) (by kernel_rfl) (fun _ _ _ h => h) (Or.inl ⟨by kernel_rfl, ?h1⟩) HS ?r1
      case h1 => (rintro w ⟨e0, e1⟩; go_simp) <;> with_reducible rfl
      try simp only [Act.put, List.getElem_toArray, List.getElem_cons_succ, List.getElem_cons_zero, List.setIfInBounds_toArray, List.set_cons_zero, List.set_cons_succ]
      refine wpAnyH_take (i := 1) (v := ?v2) rfl (by kernel_rfl) (by kernel_rfl) (by kernel_rfl) (fun _ _ _ h => h) (Or.inl ⟨by kernel_rfl, ?h2⟩) HS ?r2
      case h2 => (rintro w ⟨e0, e1⟩; go_simp) <;> with_reducible rfl
      try simp only [Act.put, List.getElem_toArray, List.getElem_cons_succ, List.getElem_cons_zero, List.setIfInBounds_toArray, List.set_cons_zero, List.set_cons_succ]
      refine wpAnyH_take (i := 2) (v := ?v3) rfl (by kernel_rfl) (by kernel_rfl) (by kernel_rfl) (fun _ _ _ h => h) (Or.inl ⟨by kernel_rfl, ?h3⟩) HS ?r3
      case h3 => (rintro w ⟨e0, e1⟩; go_simp) <;> with_reducible rfl
      try simp only [Act.put, List.getElem_toArray, List.getElem_cons_succ, List.getElem_cons_zero, List.setIfInBounds_toArray, List.set_cons_zero, List.set_cons_succ]
      refine wpAnyH_take (i := 3) (v := ?v4) rfl (by kernel_rfl) (by kernel_rfl) (by kernel_rfl) (fun _ _ _ h => h) (Or.inl ⟨by kernel_rfl, ?h4⟩) HS ?r4
      case h4 => (rintro w ⟨e0, e1⟩; go_simp) <;> with_reducible rfl
      try simp only [Act.put, List.getElem_toArray, List.getElem_cons_succ, List.getElem_cons_zero, List.setIfInBounds_toArray, List.set_cons_zero, List.set_cons_succ]
      refine wpAnyH_take (i := 4) (v := ?v5) rfl (by kernel_rfl) (by kernel_rfl) (by kernel_rfl) (fun _ _ _ h => h) (Or.inl ⟨by kernel_rfl, ?h5⟩) HS ?r5
      case h5 => (rintro w ⟨e0, e1⟩; go_simp) <;> with_reducible rfl
      try simp only [Act.put, List.getElem_toArray, List.getElem_cons_succ, List.getElem_cons_zero, List.setIfInBounds_toArray, List.set_cons_zero, List.set_cons_succ]
      refine wpAnyH_take (i := 5) (v := ?v6) rfl (by kernel_rfl) (by kernel_rfl) (by kernel_rfl) (fun _ _ _ h => h) (Or.inl ⟨by kernel_rfl, ?h6⟩) HS ?r6
      case h6 => (rintro w ⟨e0, e1⟩; go_simp) <;> with_reducible rfl
      try simp only [Act.put, List.getElem_toArray, List.getElem_cons_succ, List.getElem_cons_zero, List.setIfInBounds_toArray, List.set_cons_zero, List.set_cons_succ]
      refine wpAnyH_take (i := 6) (v := ?v7) rfl (by kernel_rfl) (by kernel_rfl) (by kernel_rfl) (fun _ _ _ h => h) (Or.inl ⟨by kernel_rfl, ?h7⟩) HS ?r7
      case h7 => (rintro w ⟨e0, e1⟩; go_simp) <;> with_reducible rfl
      try simp only [Act.put, List.getElem_toArray, List.getElem_cons_succ, List.getElem_cons_zero, List.setIfInBounds_toArray, List.set_cons_zero, List.set_cons_succ]
      refine wpAnyH_take (i := 7) (v := ?v8) rfl (by kernel_rfl) (by kernel_rfl) (by kernel_rfl) (fun _ _ _ h => h) (Or.inl ⟨by kernel_rfl, ?h8⟩) HS ?r8
      case h8 => (rintro w ⟨e0, e1⟩; go_simp) <;> with_reducible rfl
      try simp only [Act.put, List.getElem_toArray, List.getElem_cons_succ, List.getElem_cons_zero, List.setIfInBounds_toArray, List.set_cons_zero, List.set_cons_succ]
      refine wpAnyH_take (i := 8) (v := ?v9) rfl (by kernel_rfl) (by kernel_rfl) (by kernel_rfl) (fun _ _ _ h => h) (Or.inl ⟨by kernel_rfl, ?h9⟩) HS ?r9
      case h9 => (rintro w ⟨e0, e1⟩; go_simp) <;> with_reducible rfl
      try simp only [Act.put, List.getElem_toArray, List.getElem_cons_succ, List.getElem_cons_zero, List.setIfInBounds_toArray, List.set_cons_zero, List.set_cons_succ]
      refine wpAnyH_take (i := 9) (v := ?v10) rfl (by kernel_rfl) (by kernel_rfl) (by kernel_rfl) (fun _ _ _ h => h) (Or.inl ⟨by kernel_rfl, ?h10⟩) HS ?r10
      case h10 => (rintro w ⟨e0, e1⟩; go_simp) <;> with_reducible rfl
      try simp only [Act.put, List.getElem_toArray, List.getElem_cons_succ, List.getElem_cons_zero, List.setIfInBounds_toArray, List.set_cons_zero, List.set_cons_succ]
      refine wpAnyH_take (i := 10) (v := ?v11) rfl (by kernel_rfl) (by kernel_rfl) (by kernel_rfl) (fun _ _ _ h => h) (Or.inl ⟨by kernel_rfl, ?h11⟩) HS ?r11
      case h11 => (rintro w ⟨e0, e1⟩; go_simp) <;> with_reducible rfl
      try simp only [Act.put, List.getElem_toArray, List.getElem_cons_succ, List.getElem_cons_zero, List.setIfInBounds_toArray, List.set_cons_zero, List.set_cons_succ]
      refine wpAnyH_take (i := 11) (v := ?v12) rfl (by kernel_rfl) (by kernel_rfl) (by kernel_rfl) (fun _ _ _ h => h) (Or.inl ⟨by kernel_rfl, ?h12⟩) HS ?r12
      case h12 => (rintro w ⟨e0, e1⟩; go_simp) <;> with_reducible rfl
      try simp only [Act.put, List.getElem_toArray, List.getElem_cons_succ, List.getElem_cons_zero, List.setIfInBounds_toArray, List.set_cons_zero, List.set_cons_succ]
      refine wpAnyH_ready (rs := [12]) (by kernel_rfl) (by simp) ?_
      refine AllReadyH.cons rfl (fun K hK => ?_) AllReadyH.nil
      go_simp
      refine (CL.out _ HUd.out).mono ?_
      rintro e w7 ⟨rfl, h7⟩
      refine hK.out _ _ ⟨h7.cell hnY HS.1, h7.cell hnT HS.2⟩ (fun HS => ?_)
      clear hK K
      have HR7 : Hid (Rw (w.heap.size + 1) n (fun k => if k < j then .int .i64 (posV (hgX y t) k) else .int .i64 0) w7) := HRd.out.ux HNs.out h7
      have HU7 : Hid (Ux p (c + (cntV (mpO y t) (j + 1) + cntV (hgO y t) (j + 1))) w w7) := by rw [← Hcj.out]; exact HUd.out.chain h7
      have cz : w7.cell? ⟨w.heap.size + 1, j, none⟩ = some (.int .i64 0) := by have := HR7.out.c j hlt; rw [if_neg (by omega)] at this; exact this
      have fz := HR7.out.f j hlt
      have hmax : max LK 0 = RX := by rw [hpv]; split <;> omega
      clear h7 HUd HRd CL Hcj
      refine wpAnyH_take (i := 13) (v := ?v13) rfl (by kernel_rfl) (by kernel_rfl) (by kernel_rfl) (fun _ _ _ h => h) (Or.inl ⟨by kernel_rfl, ?h13⟩) HS ?r13
      case h13 => (rintro w ⟨e0, e1⟩; go_simp) <;> with_reducible rfl
      try simp only [Act.put, List.getElem_toArray, List.getElem_cons_succ, List.getElem_cons_zero, List.setIfInBounds_toArray, List.set_cons_zero, List.set_cons_succ]
      refine wpAnyH_take (i := 14) (v := ?v14) rfl (by kernel_rfl) (by kernel_rfl) (by kernel_rfl) (fun _ _ _ h => h) (Or.inl ⟨by kernel_rfl, ?h14⟩) HS ?r14
      case h14 => (rintro w ⟨e0, e1⟩; go_simp) <;> with_reducible rfl
      try simp only [Act.put, List.getElem_toArray, List.getElem_cons_succ, List.getElem_cons_zero, List.setIfInBounds_toArray, List.set_cons_zero, List.set_cons_succ]
      refine wpAnyH_ready (rs := [15]) (by kernel_rfl) (by simp) ?_
      refine AllReadyH.cons rfl (fun K hK => ?_) AllReadyH.nil
      go_simp
      refine hK.out _ _ ⟨cell_set (by dsimp only; omega) HS.1, cell_set (by dsimp only; omega) HS.2⟩ (fun HS => ?_)
      clear hK K HS
      refine wpAnyH_done (by kernel_rfl) ?_ _
      rw [← hpv]
      have HR10 : Hid (Rw (w.heap.size + 1) n (fun k => if k < j + 1 then .int .i64 (posV (hgX y t) k) else .int .i64 0) (w7.setCell ⟨w.heap.size + 1, j, none⟩ (.int .i64 RX))) := (HR7.out.set j (.int .i64 RX)).congr (fun k hk => by
        by_cases e : k = j
        · subst e; simp [HRX.out]
        · rw [if_neg e]
          by_cases e2 : k < j
          · rw [if_pos e2, if_pos (by omega)]
          · rw [if_neg e2, if_neg (by omega)])
      have HU10 : Hid (Ux p (c + (cntV (mpO y t) (j + 1) + cntV (hgO y t) (j + 1))) w (w7.setCell ⟨w.heap.size + 1, j, none⟩ (.int .i64 RX))) := HU7.out.far _ (by dsimp only; omega)
      clear HR7 HU7 cz fz
      generalize w7.setCell ⟨w.heap.size + 1, j, none⟩ (.int .i64 RX) = wf at *
      go_wp2
      go_roundw
      case rel => exact ⟨j + 1, by omega, by go_num, HR10, HU10⟩
      case measure => simp [intOf]; omega
    · obtain rfl : j = n := by omega
      have hjI : ¬ (j : Int) < (j : Int) := by omega
      have hAr : Ar wr (.slice (some ⟨w.heap.size + 1, 0, none⟩) j j) j (posV (hgX y t)) := (HR.out.congr (fun k hk => by rw [if_pos hk])).ar (by omega) (fun k _ => by have := clv_rng (4294967296 - mpX y t k); unfold posV hgX; split <;> omega)
      have hcn := HCk.out j
      have CS := sum_ux (.slice (some ⟨w.heap.size + 1, 0, none⟩) j j) j (posV (hgX y t)) hn p (c + (cntV (mpO y t) j + cntV (hgO y t) j)) (by omega) (by omega) wr (HUp.out.2.ux HUp.out.1 HU.out) hAr (HNs.out.nv _ _ _) HU.out.up
      clear HR hAr hcn
      go_wp2_with fail
      refine CS.mono ?_
      rintro e w4 ⟨rfl, h4⟩
      have HU4 : Hid (Ux p (c + lsC false y t j) w w4) := by
        have e : c + lsC false y t j = c + (cntV (mpO y t) j + cntV (hgO y t) j) + bi (ovv (sumV (posV (hgX y t)) j)) := by unfold lsC; rw [lsS_hg, lsP_hg, Int.add_assoc c]
        rw [e]
        exact HU.out.chain h4
      clear CS h4 HU
      go_wp2
      go_ret
      exact ⟨by show Ending.returned (Value.int .i64 (clv (sumV (posV (hgX y t)) j))) = _; unfold lsX; rw [lsS_hg], HU4.out⟩
set_option maxRecDepth 100000 in
set_option maxHeartbeats 8000000 in
theorem hgSlope_ux (vy vt : Value) (n : Nat) (y t : Nat → Int) (hn : n ≤ 65536) (p : Option Addr) (c : Int) (c0 : 0 ≤ c) (c1 : c ≤ 700000000) (w : World) (hY : Ar w vy n y) (hT : Ar w vt n t) (ny : Nv vy p) (nt : Nv vt p) (hp : Up p c w) :
    Calls Tryz.prog 198 #[.agg #[], .pointer p, vy, vt] w fun e w' => ∃ v', e = .returned v' ∧ Ar w' v' n (slX false y t) ∧ Ow w.heap.size v' ∧ Ux p (c + slC false y t n) w w' := by
  have HYr : Hid (∀ k, k < n → -9223372036854775808 ≤ y k ∧ y k ≤ 9223372036854775807) := hY.rng
  have HTr : Hid (∀ k, k < n → -9223372036854775808 ≤ t k ∧ t k ≤ 9223372036854775807) := hT.rng
  have HUp : Hid (Up p c w) := hp
  obtain ⟨ady, cy, b1, o1, rfl, y2, y3, y4, y5⟩ := id hY
  obtain ⟨adt, ct, b2, o2, rfl, t2, t3', t4, t5⟩ := id hT
  have HY5 : Hid (∀ k, k < n → ady = some ⟨b1, o1, none⟩ ∧ Nu b1 p ∧ w.cell? ⟨b1, o1 + k, none⟩ = some (.int .i64 (y k))) := fun k hk => by
    have e := y4 (by omega)
    subst e
    exact ⟨rfl, ny.nu (by omega), (y5 k hk).1⟩
  have HT5 : Hid (∀ k, k < n → adt = some ⟨b2, o2, none⟩ ∧ Nu b2 p ∧ w.cell? ⟨b2, o2 + k, none⟩ = some (.int .i64 (t k))) := fun k hk => by
    have e := t4 (by omega)
    subst e
    exact ⟨rfl, nt.nu (by omega), (t5 k hk).1⟩
  obtain ⟨CT, hCT⟩ : ∃ CT : Nat → Int, CT = fun k => cntV (mpO y t) k + cntV (hgO y t) k + cntV (slO y t) k := ⟨_, rfl⟩
  have HCk : Hid (∀ k, 0 ≤ CT k ∧ CT k ≤ 3 * (k : Int)) := fun k => by
    have h1 := cnt_rng (mpO y t) k
    have h2 := cnt_rng (hgO y t) k
    have h3 := cnt_rng (slO y t) k
    rw [hCT]
    show 0 ≤ cntV (mpO y t) k + cntV (hgO y t) k + cntV (slO y t) k ∧ cntV (mpO y t) k + cntV (hgO y t) k + cntV (slO y t) k ≤ _
    omega
  have HCs : Hid (∀ k, CT (k + 1) = CT k + bi (mpO y t k) + bi (hgO y t k) + bi (slO y t k)) := fun k => by
    rw [hCT]
    show cntV (mpO y t) k + bi (mpO y t k) + (cntV (hgO y t) k + bi (hgO y t k)) + (cntV (slO y t) k + bi (slO y t k)) = _
    dsimp only
    omega
  have HC0 : Hid (CT 0 = 0) := by show _ = _; rw [hCT]; rfl
  have HCn : Hid (slC false y t n = CT n) := by show _ = _; rw [hCT, slC_hg]
  clear hCT
  obtain ⟨w1, hw1⟩ : ∃ w1, w1 = w.alloc (.cells #[] 147) := ⟨_, rfl⟩
  have hs1 : w1.heap.size = w.heap.size + 1 := by rw [hw1, World.size_alloc]
  obtain ⟨w2, hw2⟩ : ∃ w2, w2 = w1.alloc (.cells (madeCells #[.int .i64 0] n) 41) := ⟨_, rfl⟩
  have HU2 : Hid (Ux p c w w2) := by rw [hw2, hw1]; exact hp.ux (bel2 _ _ _)
  have HR2 : Hid (Rw w1.heap.size n (fun _ => .int .i64 0) w2) := by rw [hw2]; exact Rw.made w1 (.int .i64 0) n 41
  have HNs : Hid (Nu (w.heap.size + 1) p) := hp.lt (by omega)
  have hmk := make_fx n (by omega)
  clear y4 y5 t4 t5 hY hT ny nt hp
  go_enter Tryz.func198, Tryz.ntmps198
  go_upto_region 3 with fail
  rw [← hw1, ← hw2]
  rw [hs1] at HR2
  clear hw1 hw2 hmk hs1
  go_loopw [16] (fun si wr => ∃ j : Nat, j ≤ n ∧ si = .int .i64 (j : Int) ∧ Hid (Rw (w.heap.size + 1) n (fun k => if k < j then .int .i64 (slX false y t k) else .int .i64 0) wr) ∧ Hid (Ux p (c + CT j) w wr)) (fun si _ => n - (intOf si).toNat)
  case atStart => exact ⟨0, by omega, rfl, HR2.out.congr (fun k hk => by simp), by rw [HC0.out, Int.add_zero]; exact HU2.out⟩
  case round =>
    obtain ⟨j, hj, rfl, HR, HU⟩ := hrel
    by_cases hlt : j < n
    · have hjI : (j : Int) < (n : Int) := by omega
      obtain ⟨rfl, hnY, cY⟩ := HY5.out j hlt
      obtain ⟨rfl, hnT, cT⟩ := HT5.out j hlt
      have cY2 : wr.drew.cell? ⟨b1, o1 + j, none⟩ = some (.int .i64 (y j)) := HU.out.drew.cell hnY cY
      have cT2 : wr.drew.cell? ⟨b2, o2 + j, none⟩ = some (.int .i64 (t j)) := HU.out.drew.cell hnT cT
      have hcn := HCk.out j
      have HcS := HCs.out j
      obtain ⟨cj, hcj⟩ : ∃ cj, c + CT j = cj := ⟨_, rfl⟩
      have cj0 : 0 ≤ cj ∧ cj ≤ 750000000 := by omega
      have HUd : Hid (Ux p cj w wr.drew) := by rw [← hcj]; exact HU.out.drew
      have HRd : Hid (Rw (w.heap.size + 1) n (fun k => if k < j then .int .i64 (slX false y t k) else .int .i64 0) wr.drew) := HR.out.later (Below.refl _ _).drew
      obtain ⟨ck, hck⟩ : ∃ ck, cj + bi (mpO y t j) + bi (hgO y t j) = ck := ⟨_, rfl⟩
      have hb1 := bi_rng (mpO y t j)
      have hb2 := bi_rng (hgO y t j)
      have ck0 : 0 ≤ ck ∧ ck ≤ 800000000 := by omega
      have Hck : Hid (c + CT (j + 1) = ck + bi (slO y t j)) := by show _ = _; omega
      have CL : Hid (∀ W, Ux p cj w W → Calls Tryz.prog 199 #[.agg #[], .pointer p, .int .i64 (y j), .int .i64 (t j)] W fun e w' => e = .returned (.int .i64 (hgX y t j)) ∧ Ux p ck W w') := fun W h => by rw [← hck]; exact lack_ux y t j (HYr.out j hlt) (HTr.out j hlt) p cj cj0.1 (by omega) W h.up
      have hsx := slX_hg y t j
      have hso := slO_hg y t j
      obtain ⟨RX, hRX⟩ : ∃ r, slX false y t j = r := ⟨_, rfl⟩
      have HRX : Hid (slX false y t j = RX) := hRX
      rw [hRX] at hsx
      generalize hgX y t j = LK at *
      clear hRX hcn hcj HU HR hck hb1 hb2 HcS cY cT
      go_upto_region 5 with fail
      refine wp_region_held_drew (S := fun W' => W'.cell? ⟨b1, o1 + j, none⟩ = some (.int .i64 (y j)) ∧ W'.cell? ⟨b2, o2 + j, none⟩ = some (.int .i64 (t j))) (by kernel_rfl) ⟨cY2, cT2⟩ (fun HS => ?_)
      generalize wr.drew = wd at *
      clear cY2 cT2
      refine wpAnyH_take (i := 0) (v := ?v15) rfl (by kernel_rfl) (by kernel_rfl) (by kernel_rfl) (fun _ _ _ h => h) (Or.inl ⟨by kernel_rfl, ?h15⟩) HS ?r15
      case h15 => (rintro w ⟨e0, e1⟩; go_simp) <;> with_reducible rfl
      try simp only [Act.put, List.getElem_toArray, List.getElem_cons_succ, List.getElem_cons_zero, List.setIfInBounds_toArray, List.set_cons_zero, List.set_cons_succ]
      refine wpAnyH_take (i := 1) (v := ?v16) rfl (by kernel_rfl) (by kernel_rfl) (by kernel_rfl) (fun _ _ _ h => h) (Or.inl ⟨by kernel_rfl, ?h16⟩) HS ?r16
      case h16 => (rintro w ⟨e0, e1⟩; go_simp) <;> with_reducible rfl
      try simp only [Act.put, List.getElem_toArray, List.getElem_cons_succ, List.getElem_cons_zero, List.setIfInBounds_toArray, List.set_cons_zero, List.set_cons_succ]
      refine wpAnyH_take (i := 2) (v := ?v17) rfl (by kernel_rfl) (by kernel_rfl) (by kernel_rfl) (fun _ _ _ h => h) (Or.inl ⟨by kernel_rfl, ?h17⟩) HS ?r17
      case h17 => (rintro w ⟨e0, e1⟩; go_simp) <;> with_reducible rfl
      try simp only [Act.put, List.getElem_toArray, List.getElem_cons_succ, List.getElem_cons_zero, List.setIfInBounds_toArray, List.set_cons_zero, List.set_cons_succ]
      refine wpAnyH_take (i := 3) (v := ?v18) rfl (by kernel_rfl) (by kernel_rfl) (by kernel_rfl) (fun _ _ _ h => h) (Or.inl ⟨by kernel_rfl, ?h18⟩) HS ?r18
      case h18 => (rintro w ⟨e0, e1⟩; go_simp) <;> with_reducible rfl
      try simp only [Act.put, List.getElem_toArray, List.getElem_cons_succ, List.getElem_cons_zero, List.setIfInBounds_toArray, List.set_cons_zero, List.set_cons_succ]
      refine wpAnyH_take (i := 4) (v := ?v19) rfl (by kernel_rfl) (by kernel_rfl) (by kernel_rfl) (fun _ _ _ h => h) (Or.inl ⟨by kernel_rfl, ?h19⟩) HS ?r19
      case h19 => (rintro w ⟨e0, e1⟩; go_simp) <;> with_reducible rfl
      try simp only [Act.put, List.getElem_toArray, List.getElem_cons_succ, List.getElem_cons_zero, List.setIfInBounds_toArray, List.set_cons_zero, List.set_cons_succ]
      refine wpAnyH_take (i := 5) (v := ?v20) rfl (by kernel_rfl) (by kernel_rfl) (by kernel_rfl) (fun _ _ _ h => h) (Or.inl ⟨by kernel_rfl, ?h20⟩) HS ?r20
      case h20 => (rintro w ⟨e0, e1⟩; go_simp) <;> with_reducible rfl
      try simp only [Act.put, List.getElem_toArray, List.getElem_cons_succ, List.getElem_cons_zero, List.setIfInBounds_toArray, List.set_cons_zero, List.set_cons_succ]
      refine wpAnyH_take (i := 6) (v := ?v21) rfl (by kernel_rfl) (by kernel_rfl) (by kernel_rfl) (fun _ _ _ h => h) (Or.inl ⟨by kernel_rfl, ?h21⟩) HS ?r21
      case h21 => (rintro w ⟨e0, e1⟩; go_simp) <;> with_reducible rfl
      try simp only [Act.put, List.getElem_toArray, List.getElem_cons_succ, List.getElem_cons_zero, List.setIfInBounds_toArray, List.set_cons_zero, List.set_cons_succ]
      refine wpAnyH_take (i := 7) (v := ?v22) rfl (by kernel_rfl) (by kernel_rfl) (by kernel_rfl) (fun _ _ _ h => h) (Or.inl ⟨by kernel_rfl, ?h22⟩) HS ?r22
      case h22 => (rintro w ⟨e0, e1⟩; go_simp) <;> with_reducible rfl
      try simp only [Act.put, List.getElem_toArray, List.getElem_cons_succ, List.getElem_cons_zero, List.setIfInBounds_toArray, List.set_cons_zero, List.set_cons_succ]
      refine wpAnyH_take (i := 8) (v := ?v23) rfl (by kernel_rfl) (by kernel_rfl) (by kernel_rfl) (fun _ _ _ h => h) (Or.inl ⟨by kernel_rfl, ?h23⟩) HS ?r23
      case h23 => (rintro w ⟨e0, e1⟩; go_simp) <;> with_reducible rfl
      try simp only [Act.put, List.getElem_toArray, List.getElem_cons_succ, List.getElem_cons_zero, List.setIfInBounds_toArray, List.set_cons_zero, List.set_cons_succ]
      refine wpAnyH_take (i := 9) (v := ?v24) rfl (by kernel_rfl) (by kernel_rfl) (by kernel_rfl) (fun _ _ _ h => h) (Or.inl ⟨by kernel_rfl, ?h24⟩) HS ?r24
      case h24 => (rintro w ⟨e0, e1⟩; go_simp) <;> with_reducible rfl
      try simp only [Act.put, List.getElem_toArray, List.getElem_cons_succ, List.getElem_cons_zero, List.setIfInBounds_toArray, List.set_cons_zero, List.set_cons_succ]
      refine wpAnyH_ready (rs := [10]) (by kernel_rfl) (by simp) ?_
      refine AllReadyH.cons rfl (fun K hK => ?_) AllReadyH.nil
      go_simp
      refine (CL.out _ HUd.out).mono ?_
      rintro e w7 ⟨rfl, h7⟩
      refine hK.out _ _ ⟨h7.cell hnY HS.1, h7.cell hnT HS.2⟩ (fun HS => ?_)
      clear hK K
      have HR7 : Hid (Rw (w.heap.size + 1) n (fun k => if k < j then .int .i64 (slX false y t k) else .int .i64 0) w7) := HRd.out.ux HNs.out h7
      have HU7 : Hid (Ux p ck w w7) := HUd.out.chain h7
      have cz : w7.cell? ⟨w.heap.size + 1, j, none⟩ = some (.int .i64 0) := by have := HR7.out.c j hlt; rw [if_neg (by omega)] at this; exact this
      have fz := HR7.out.f j hlt
      clear h7 HUd HRd CL
      refine wpAnyH_take (i := 11) (v := ?v25) rfl (by kernel_rfl) (by kernel_rfl) (by kernel_rfl) (fun _ _ _ h => h) (Or.inl ⟨by kernel_rfl, ?h25⟩) HS ?r25
      case h25 => (rintro w ⟨e0, e1⟩; go_simp) <;> with_reducible rfl
      try simp only [Act.put, List.getElem_toArray, List.getElem_cons_succ, List.getElem_cons_zero, List.setIfInBounds_toArray, List.set_cons_zero, List.set_cons_succ]
      refine wpAnyH_done (by kernel_rfl) ?_ _
      have cT7 := HS.2
      clear HS cz fz
      by_cases hpos : 0 < LK
      · rw [if_pos hpos] at hsx hso
        have C1 := fneg_any (t j) (HTr.out j hlt).1 (HTr.out j hlt).2 w7
        have en : -(t j) = 0 - t j := by omega
        rw [en, ← hsx, ← hso] at C1
        clear hsx hso en
        generalize slO y t j = sO at *
        go_wp2_with fail
        refine C1.mono ?_
        rintro e w8 ⟨rfl, h8⟩
        have HU8 : Hid (Ux p ck w w8) := HU7.out.later h8
        have HR8 : Hid (Rw (w.heap.size + 1) n (fun k => if k < j then .int .i64 (slX false y t k) else .int .i64 0) w8) := HR7.out.later h8
        have C2 := take_ux RX sO p ck ck0.1 (by omega) w8 HU8.out.up
        clear C1 h8 HU7 HR7 cT7
        go_wp2_with fail
        refine C2.mono ?_
        rintro e w9 ⟨rfl, h9⟩
        have HU9 : Hid (Ux p (c + CT (j + 1)) w w9) := by rw [Hck.out]; exact HU8.out.chain h9
        have HR9 : Hid (Rw (w.heap.size + 1) n (fun k => if k < j then .int .i64 (slX false y t k) else .int .i64 0) w9) := HR8.out.ux HNs.out h9
        have cz : w9.cell? ⟨w.heap.size + 1, j, none⟩ = some (.int .i64 0) := by have := HR9.out.c j hlt; rw [if_neg (by omega)] at this; exact this
        have fz := HR9.out.f j hlt
        have HR10 : Hid (Rw (w.heap.size + 1) n (fun k => if k < j + 1 then .int .i64 (slX false y t k) else .int .i64 0) (w9.setCell ⟨w.heap.size + 1, j, none⟩ (.int .i64 RX))) := (HR9.out.set j (.int .i64 RX)).congr (fun k hk => by
          by_cases e : k = j
          · subst e; simp [HRX.out]
          · rw [if_neg e]
            by_cases e2 : k < j
            · rw [if_pos e2, if_pos (by omega)]
            · rw [if_neg e2, if_neg (by omega)])
        have HU10 : Hid (Ux p (c + CT (j + 1)) w (w9.setCell ⟨w.heap.size + 1, j, none⟩ (.int .i64 RX))) := HU9.out.far _ (by dsimp only; omega)
        clear C2 h9 HU8 HR8 HU9 HR9
        go_wp2
        go_roundw
        case rel => exact ⟨j + 1, by omega, by go_num, HR10, HU10⟩
        case measure => simp [intOf]; omega
      · rw [if_neg hpos] at hsx hso
        have HR10 : Hid (Rw (w.heap.size + 1) n (fun k => if k < j + 1 then .int .i64 (slX false y t k) else .int .i64 0) w7) := HR7.out.congr (fun k hk => by
          by_cases e2 : k < j
          · rw [if_pos e2, if_pos (by omega)]
          · rw [if_neg e2]
            by_cases e : k = j
            · subst e; rw [if_pos (by omega), HRX.out, hsx]
            · rw [if_neg (by omega)])
        have HU10 : Hid (Ux p (c + CT (j + 1)) w w7) := by
          rw [Hck.out, hso]
          show Ux p (ck + 0) w w7
          rw [Int.add_zero]
          exact HU7.out
        clear HR7 HU7 hsx hso Hck HRX
        go_wp2
        go_roundw
        case rel => exact ⟨j + 1, by omega, by go_num, HR10, HU10⟩
        case measure => simp [intOf]; omega
    · obtain rfl : j = n := by omega
      have hjI : ¬ (j : Int) < (j : Int) := by omega
      have hAr : Hid (Ar wr (.slice (some ⟨w.heap.size + 1, 0, none⟩) j j) j (slX false y t)) := (HR.out.congr (fun k hk => by rw [if_pos hk])).ar (by omega) (fun k _ => slX_rng _ _ _ _)
      clear HR
      go_wp2
      go_ret
      exact ⟨_, rfl, hAr.out, fun a n cap e _ => by cases e; dsimp only; omega, by rw [HCn.out]; exact HU.out⟩
end Go.Proofs.YtdfjnbkkdgolnaaGreatDoor
set_option linter.unusedVariables false
set_option linter.unusedSimpArgs false
namespace Go.Proofs.YtdfjnbkkdgolnaaGreatDoor
open Go.RowKit
set_option maxHeartbeats 2000000 in
theorem checkOut_ok (s : Bool) (ady adt : Option Addr) (n cy ct : Nat) (hn : n ≤ 65536) (w : World) :
    Calls Tryz.prog 50 #[.int .i64 (lsK s), .slice ady n cy, .slice adt n ct] w fun e w' => e = .returned (.int .i64 0) ∧ w' = w := by
  have h1 : ¬ (65536 : Int) < (n : Int) := by omega
  cases s
  · go_enter Tryz.func50, Tryz.ntmps50
    go_wp2_with fail
    refine (measureOf_hg w).mono ?_
    rintro e wz ⟨rfl, hz⟩
    subst hz
    go_wp2
    go_ret
    exact ⟨rfl, rfl⟩
  · go_enter Tryz.func50, Tryz.ntmps50
    go_wp2_with fail
    refine (measureOf_sq w).mono ?_
    rintro e wz ⟨rfl, hz⟩
    subst hz
    go_wp2
    go_ret
    exact ⟨rfl, rfl⟩
set_option maxHeartbeats 2000000 in
theorem checkOut_bad (L : Int) (ady adt : Option Addr) (n k cy ct : Nat) (hb : ¬ ((L = 1 ∨ L = 2) ∧ n = k)) (w : World) :
    Calls Tryz.prog 50 #[.int .i64 L, .slice ady n cy, .slice adt k ct] w fun e w' => e = .returned (.int .i64 (if L = 1 ∨ L = 2 then 40 else 71)) ∧ w' = w := by
  by_cases h1 : L = 1
  · have hk : ¬ (n : Int) = (k : Int) := fun e => hb ⟨Or.inl h1, by omega⟩
    subst h1
    rw [if_pos (Or.inl rfl)]
    clear hb
    go_enter Tryz.func50, Tryz.ntmps50
    go_wp2_with fail
    refine (measureOf_sq w).mono ?_
    rintro e wz ⟨rfl, hz⟩
    subst hz
    go_wp2
    go_ret
    exact ⟨rfl, rfl⟩
  · by_cases h2 : L = 2
    · have hk : ¬ (n : Int) = (k : Int) := fun e => hb ⟨Or.inr h2, by omega⟩
      subst h2
      rw [if_pos (Or.inr rfl)]
      clear hb
      go_enter Tryz.func50, Tryz.ntmps50
      go_wp2_with fail
      refine (measureOf_hg w).mono ?_
      rintro e wz ⟨rfl, hz⟩
      subst hz
      go_wp2
      go_ret
      exact ⟨rfl, rfl⟩
    · rw [if_neg (by intro h; rcases h with h | h; exact h1 h; exact h2 h)]
      clear hb
      go_enter Tryz.func50, Tryz.ntmps50
      go_wp2_with fail
      refine (measureOf_no L h1 h2 w).mono ?_
      rintro e wz ⟨rfl, hz⟩
      subst hz
      go_wp2
      go_ret
      exact ⟨rfl, rfl⟩
set_option maxRecDepth 100000 in
set_option maxHeartbeats 2000000 in
theorem pLoss_ux (s : Bool) (vy vt : Value) (n : Nat) (y t : Nat → Int) (hn : n ≤ 65536) (p : Option Addr) (c : Int) (c0 : 0 ≤ c) (c1 : c ≤ 700000000) (w : World) (hY : Ar w vy n y) (hT : Ar w vt n t) (ny : Nv vy p) (nt : Nv vt p) (hp : Up p c w) (hTab : TabAt w) :
    Calls Tryz.prog 26 #[.pointer p, .int .i64 (lsK s), vy, vt] w fun e w' => e = .returned (.tuple #[.int .i64 (lsX s y t n), .int .i64 0]) ∧ Ux p (c + lsC s y t n) w w' := by
  have CS : Hid (s = true → Calls Tryz.prog 189 #[.agg #[], .pointer p, vy, vt] w fun e w' => e = .returned (.int .i64 (lsX s y t n)) ∧ Ux p (c + lsC s y t n) w w') := fun h => by subst h; exact sqFar_ux vy vt n y t hn p c c0 c1 w hY hT ny nt hp hTab
  have CH : Hid (s = false → Calls Tryz.prog 197 #[.agg #[], .pointer p, vy, vt] w fun e w' => e = .returned (.int .i64 (lsX s y t n)) ∧ Ux p (c + lsC s y t n) w w') := fun h => by subst h; exact hgFar_ux vy vt n y t hn p c c0 c1 w hY hT ny nt hp hTab
  obtain ⟨ady, cy, b1, o1, rfl, -, -, -, -⟩ := hY
  obtain ⟨adt, ct, b2, o2, rfl, -, -, -, -⟩ := hT
  have CO := checkOut_ok s ady adt n cy ct hn w
  clear ny nt hp hTab
  cases s
  · go_enter Tryz.func26, Tryz.ntmps26
    go_wp2_with fail
    refine CO.mono ?_
    rintro e wz ⟨rfl, hz⟩
    subst hz
    go_wp2_with fail
    refine (measureOf_hg wz).mono ?_
    rintro e wy ⟨rfl, hz⟩
    subst hz
    go_wp2_with fail
    refine (CH.out trivial).mono ?_
    rintro e w3 ⟨rfl, h3⟩
    clear CO CS CH
    go_wp2
    go_ret2
    exact ⟨rfl, h3⟩
  · go_enter Tryz.func26, Tryz.ntmps26
    go_wp2_with fail
    refine CO.mono ?_
    rintro e wz ⟨rfl, hz⟩
    subst hz
    go_wp2_with fail
    refine (measureOf_sq wz).mono ?_
    rintro e wy ⟨rfl, hz⟩
    subst hz
    go_wp2_with fail
    refine (CS.out trivial).mono ?_
    rintro e w3 ⟨rfl, h3⟩
    clear CO CS CH
    go_wp2
    go_ret2
    exact ⟨rfl, h3⟩
set_option maxRecDepth 100000 in
set_option maxHeartbeats 2000000 in
theorem pSlope_ux (s : Bool) (vy vt : Value) (n : Nat) (y t : Nat → Int) (hn : n ≤ 65536) (p : Option Addr) (c : Int) (c0 : 0 ≤ c) (c1 : c ≤ 700000000) (w : World) (hY : Ar w vy n y) (hT : Ar w vt n t) (ny : Nv vy p) (nt : Nv vt p) (hp : Up p c w) :
    Calls Tryz.prog 27 #[.pointer p, .int .i64 (lsK s), vy, vt] w fun e w' => ∃ v', e = .returned (.tuple #[v', .int .i64 0]) ∧ Ar w' v' n (slX s y t) ∧ Ow w.heap.size v' ∧ Ux p (c + slC s y t n) w w' := by
  have CS : Hid (s = true → Calls Tryz.prog 190 #[.agg #[], .pointer p, vy, vt] w fun e w' => ∃ v', e = .returned v' ∧ Ar w' v' n (slX s y t) ∧ Ow w.heap.size v' ∧ Ux p (c + slC s y t n) w w') := fun h => by subst h; exact sqSlope_ux vy vt n y t hn p c c0 (by omega) w hY hT ny nt hp
  have CH : Hid (s = false → Calls Tryz.prog 198 #[.agg #[], .pointer p, vy, vt] w fun e w' => ∃ v', e = .returned v' ∧ Ar w' v' n (slX s y t) ∧ Ow w.heap.size v' ∧ Ux p (c + slC s y t n) w w') := fun h => by subst h; exact hgSlope_ux vy vt n y t hn p c c0 c1 w hY hT ny nt hp
  obtain ⟨ady, cy, b1, o1, rfl, -, -, -, -⟩ := hY
  obtain ⟨adt, ct, b2, o2, rfl, -, -, -, -⟩ := hT
  have CO := checkOut_ok s ady adt n cy ct hn w
  clear ny nt hp
  cases s
  · go_enter Tryz.func27, Tryz.ntmps27
    go_wp2_with fail
    refine CO.mono ?_
    rintro e wz ⟨rfl, hz⟩
    subst hz
    go_wp2_with fail
    refine (measureOf_hg wz).mono ?_
    rintro e wy ⟨rfl, hz⟩
    subst hz
    go_wp2_with fail
    refine (CH.out trivial).mono ?_
    rintro e w3 ⟨v', rfl, hA, hO, h3⟩
    have HR : Hid (Ar w3 v' n (slX _ y t) ∧ Ow _ v' ∧ Ux p _ _ w3) := ⟨hA, hO, h3⟩
    obtain ⟨ad', c', b', o', rfl, -, -, -, -⟩ := hA
    clear CO CS CH h3 hO
    go_wp2
    go_ret2
    exact ⟨_, rfl, HR.out.1, HR.out.2.1, HR.out.2.2⟩
  · go_enter Tryz.func27, Tryz.ntmps27
    go_wp2_with fail
    refine CO.mono ?_
    rintro e wz ⟨rfl, hz⟩
    subst hz
    go_wp2_with fail
    refine (measureOf_sq wz).mono ?_
    rintro e wy ⟨rfl, hz⟩
    subst hz
    go_wp2_with fail
    refine (CS.out trivial).mono ?_
    rintro e w3 ⟨v', rfl, hA, hO, h3⟩
    have HR : Hid (Ar w3 v' n (slX _ y t) ∧ Ow _ v' ∧ Ux p _ _ w3) := ⟨hA, hO, h3⟩
    obtain ⟨ad', c', b', o', rfl, -, -, -, -⟩ := hA
    clear CO CS CH h3 hO
    go_wp2
    go_ret2
    exact ⟨_, rfl, HR.out.1, HR.out.2.1, HR.out.2.2⟩
set_option maxHeartbeats 2000000 in
theorem pLoss_bad (L : Int) (vy vt : Value) (n k : Nat) (y t : Nat → Int) (hb : ¬ ((L = 1 ∨ L = 2) ∧ n = k)) (p : Option Addr) (w : World) (hY : Ar w vy n y) (hT : Ar w vt k t) :
    Calls Tryz.prog 26 #[.pointer p, .int .i64 L, vy, vt] w fun e w' => e = .returned (.tuple #[.int .i64 0, .int .i64 (if L = 1 ∨ L = 2 then 40 else 71)]) ∧ w' = w := by
  obtain ⟨ady, cy, b1, o1, rfl, -, -, -, -⟩ := hY
  obtain ⟨adt, ct, b2, o2, rfl, -, -, -, -⟩ := hT
  have CO := checkOut_bad L ady adt n k cy ct hb w
  have hE : ¬ (if L = 1 ∨ L = 2 then (40 : Int) else 71) = 0 := by split <;> omega
  generalize (if L = 1 ∨ L = 2 then (40 : Int) else 71) = E at *
  clear hb
  go_enter Tryz.func26, Tryz.ntmps26
  go_wp2_with fail
  refine CO.mono ?_
  rintro e wz ⟨rfl, hz⟩
  subst hz
  clear CO
  go_wp2
  go_ret2
  exact ⟨rfl, rfl⟩
set_option maxHeartbeats 2000000 in
theorem pSlope_bad (L : Int) (vy vt : Value) (n k : Nat) (y t : Nat → Int) (hb : ¬ ((L = 1 ∨ L = 2) ∧ n = k)) (p : Option Addr) (w : World) (hY : Ar w vy n y) (hT : Ar w vt k t) :
    Calls Tryz.prog 27 #[.pointer p, .int .i64 L, vy, vt] w fun e w' => e = .returned (.tuple #[.slice none 0 0, .int .i64 (if L = 1 ∨ L = 2 then 40 else 71)]) ∧ w' = w := by
  obtain ⟨ady, cy, b1, o1, rfl, -, -, -, -⟩ := hY
  obtain ⟨adt, ct, b2, o2, rfl, -, -, -, -⟩ := hT
  have CO := checkOut_bad L ady adt n k cy ct hb w
  have hE : ¬ (if L = 1 ∨ L = 2 then (40 : Int) else 71) = 0 := by split <;> omega
  generalize (if L = 1 ∨ L = 2 then (40 : Int) else 71) = E at *
  clear hb
  go_enter Tryz.func27, Tryz.ntmps27
  go_wp2_with fail
  refine CO.mono ?_
  rintro e wz ⟨rfl, hz⟩
  subst hz
  clear CO
  go_wp2
  go_ret2
  exact ⟨rfl, rfl⟩
theorem ux_un {d : Nat} {c : Int} {w w' : World} (h : Ux (some ⟨d, 0, none⟩) c w w') : Un d c w w' := by
  rcases h with ⟨h, -⟩ | ⟨d', h, -, hU⟩
  · cases h
  · cases h
    exact hU
theorem ux_nil {c : Int} {w w' : World} (h : Ux none c w w') : Below w.heap.size w w' := by
  rcases h with ⟨-, h⟩ | ⟨d', h, -, hU⟩
  · exact h
  · cases h
theorem up_some {d : Nat} {c : Int} {w : World} (h : Uc w d c) : Up (some ⟨d, 0, none⟩) c w := Or.inr ⟨d, rfl, h⟩
theorem mlp3 : Mlp3 where
  lossU := fun s va vb n f g d c w hn c0 c1 hA hB na nb hU hV => (pLoss_ux s va vb n f g hn _ c c0 (by omega) w hA hB (nv_some na) (nv_some nb) (up_some hU) hV).mono fun e w' h => ⟨h.1, ux_un h.2⟩
  slopeU := fun s va vb n f g d c w hn c0 c1 hA hB na nb hU hV => (pSlope_ux s va vb n f g hn _ c c0 (by omega) w hA hB (nv_some na) (nv_some nb) (up_some hU)).mono fun e w' ⟨v', h1, h2, h3, h4⟩ => ⟨v', h1, h2, h3, ux_un h4⟩
  lossE := fun L va vb n k f g d c w hn hk hA hB hb hU hV => (pLoss_bad L va vb n k f g hb _ w hA hB).mono fun e w' h => ⟨h.1, by rw [h.2]; exact Un.same hU.1 hU.2⟩
  slopeE := fun L va vb n k f g d c w hn hk hA hB hb hU hV => (pSlope_bad L va vb n k f g hb _ w hA hB).mono fun e w' h => ⟨_, h.1, ⟨none, 0, rfl⟩, by rw [h.2]; exact Un.same hU.1 hU.2⟩
end Go.Proofs.YtdfjnbkkdgolnaaGreatDoor
