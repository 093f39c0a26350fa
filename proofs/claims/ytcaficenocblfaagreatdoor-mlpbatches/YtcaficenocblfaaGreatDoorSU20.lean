/-
  Texts of this proof, joined: NBatch LFrame2 LawMB0.
-/
import Derived.Test.YtcaficenocblfaaGreatDoorSU07
import Derived.Test.YtcaficenocblfaaGreatDoorSU10
import Derived.Test.YtcaficenocblfaaGreatDoorSU18
import Derived.Test.YtcaficenocblfaaGreatDoorSU19
import Derived.Maps.AppendAt
set_option linter.unusedVariables false
set_option linter.unusedSimpArgs false
namespace Go.Proofs.YtcaficenocblfaaGreatDoor
open Go.RowKit

def Exq (w : World) (p : Option Addr) (g o K : Nat) (nx nt : Nat → Nat) (xs ts : Nat → Nat → Int) : Prop :=
  Nu g p ∧ ∀ k, k < K → ∃ vx vt : Value, w.cell? ⟨g, o + k * 2, none⟩ = some vx ∧ w.cell? ⟨g, o + k * 2 + 1, none⟩ = some vt ∧ Ar w vx (nx k) (xs k) ∧ Ar w vt (nt k) (ts k) ∧ Nv vx p ∧ Nv vt p
theorem Exq.ux {w w' : World} {p : Option Addr} {g o K : Nat} {nx nt : Nat → Nat} {xs ts : Nat → Nat → Int} {c : Int} (h : Exq w p g o K nx nt xs ts) (hU : Ux p c w w') : Exq w' p g o K nx nt xs ts :=
  ⟨h.1, fun k hk => by obtain ⟨vx, vt, h1, h2, h3, h4, h5, h6⟩ := h.2 k hk; exact ⟨vx, vt, hU.cell h.1 h1, hU.cell h.1 h2, h3.ux h5 hU, h4.ux h6 hU, h5, h6⟩⟩
theorem Exq.exl {w : World} {p : Option Addr} {g o K cap : Nat} {nx nt : Nat → Nat} {xs ts : Nat → Nat → Int} (h : Exq w p g o K nx nt xs ts) (h1 : K ≤ cap) (h2 : cap ≤ maxLen) : Exl w (.slice (some ⟨g, o, none⟩) K cap) K nx nt :=
  ⟨_, cap, g, o, rfl, h1, h2, fun _ => rfl, fun k hk => by
    obtain ⟨vx, vt, c1, c2, a1, a2, -, -⟩ := h.2 k hk
    obtain ⟨ax, cx, _, _, rfl, -⟩ := a1
    obtain ⟨at', ct, _, _, rfl, -⟩ := a2
    exact ⟨ax, at', cx, ct, c1, c2⟩⟩
theorem gdX_fit (s : Bool) (z : Nat → Nat) (m : Nat) (P x t : Nat → Int) : -9223372036854775808 ≤ gdX s z m P x t ∧ gdX s z m P x t ≤ 9223372036854775807 := by
  unfold gdX lsX
  exact clv_fit _
theorem Ar.farq {w : World} {g n cap : Nat} {f : Nat → Int} {a : Addr} (h : Ar w (.slice (some ⟨g, 0, none⟩) n cap) n f) (u : Value) (ha : a.block ≠ g) : Ar (w.setCell a u) (.slice (some ⟨g, 0, none⟩) n cap) n f := by
  obtain ⟨ad, ca, b, o, e, h1, h2, h3, h4⟩ := h
  cases e
  refine ⟨_, _, b, o, rfl, h1, h2, h3, fun k hk => ⟨?_, (h4 k hk).2⟩⟩
  have e2 := h3 (by omega)
  cases e2
  exact cell_set ha (h4 k hk).1
set_option maxRecDepth 100000 in
set_option maxHeartbeats 16000000 in
theorem pBatch_sq (vs : Value) (m bp op cp capp g o K cap : Nat) (z : Nat → Nat) (P : Nat → Int) (xs ts : Nat → Nat → Int) (p : Option Addr) (c : Int) (c0 : 0 ≤ c) (c1 : c ≤ 100000000) (hK : 1 ≤ K) (hK2 : K ≤ 64) (hcap : K ≤ cap) (hcap2 : cap ≤ maxLen) (w : World) (hS : Ar w vs m (fun i => ((z i : Nat) : Int))) (hP : Ar w (.slice (some ⟨bp, op, none⟩) cp capp) cp P) (hE : Exq w p g o K (fun _ => z 0) (fun _ => z (m - 1)) xs ts) (hz : Szs z m) (hcp : cp = fsN z (m - 1)) (nS : Nv vs p) (nP : Nu bp p) (hp : Up p c w) (hTab : TabAt w) :
    Calls Tryz.prog 6 #[.pointer p, .int .i64 (lsK true), vs, .slice (some ⟨bp, op, none⟩) cp capp, .slice (some ⟨g, o, none⟩) K cap] w fun e w' => ∃ g', e = .returned (.tuple #[.slice (some ⟨g', 0, none⟩) cp cp, .int .i64 (clv (quo (sumV (fun k => gdX true z m P (xs k) (ts k)) K) (K : Int))), .int .i64 0]) ∧ Ar w' (.slice (some ⟨g', 0, none⟩) cp cp) cp (msX (fun k => gdG true z m P (xs k) (ts k)) K) ∧ w.heap.size ≤ g' ∧ Ux p (c + btC true z m cp P xs ts K) w w' := by
  have HG : Hid (∀ (W : World) (vx vt : Value) (k : Nat) (x t : Nat → Int), Ux p (c + bgC true z m P xs ts k) w W → k ≤ 64 → Ar W vx (z 0) x → Ar W vt (z (m - 1)) t → Nv vx p → Nv vt p → Calls Tryz.prog 17 #[.pointer p, .iface 90 (.agg #[]), vs, .slice (some ⟨bp, op, none⟩) cp capp, .agg #[vx, vt]] W fun e w' => ∃ g, e = .returned (.tuple #[.slice (some ⟨g, 0, none⟩) cp cp, .int .i64 (gdX true z m P x t)]) ∧ Ar w' (.slice (some ⟨g, 0, none⟩) cp cp) cp (gdG true z m P x t) ∧ W.heap.size ≤ g ∧ Ux p (c + bgC true z m P xs ts k + gdC true z m P x t) W w') := fun W vx vt k x t hU hk hx ht nx nt => by
    have r := bgC_rng true z m P xs ts hz k
    exact gradient_sq vs vx vt m bp op cp capp z P x t p _ (by omega) (by omega) W (hS.ux nS hU) (hP.ux (nP.nv _ _ _) hU) hx ht hz hcp nS nP nx nt hU.up (hTab.ux hp hU)
  have CK := check_any7 (lsK true) vs (.slice (some ⟨bp, op, none⟩) cp capp) _ m cp K z P _ _ w hS hP (hE.exl hcap hcap2) hz
  have eC : chE (lsK true) K cp (fsN z (m - 1)) (mfX (z 0) (z (m - 1)) (fun _ => z 0) (fun _ => z (m - 1)) K) = 0 := by
    unfold chE
    rw [if_pos (by unfold lsK; simp), if_neg (by omega), if_pos ⟨hcp, mfX_no (fun k _ => by unfold mfB; simp)⟩]
  rw [eC] at CK
  have hLK : lsK true = 1 := rfl
  rw [hLK] at CK ⊢
  have HEq : Hid (Exq w p g o K (fun _ => z 0) (fun _ => z (m - 1)) xs ts) := hE
  have HUp : Hid (Up p c w) := hp
  have HTb : Hid (TabAt w) := hTab
  have HSz : Hid (Szs z m ∧ cp ≤ 30000) := ⟨hz, by obtain ⟨m2, m6, hz6⟩ := hz; have := fsN_le z m (m - 1) hz6 (by omega); omega⟩
  have hS' := hS
  obtain ⟨ads, cas, bs, os, rfl, -, -, -, -⟩ := hS
  unfold maxLen at hcap2
  clear eC hz hcp nS nP hp hTab hS' hP hE
  go_enter Tryz.func6, Tryz.ntmps6
  go_wp2_with fail
  refine CK.mono ?_
  rintro e w1 ⟨rfl, h1⟩
  have HU1 : Hid (Ux p (c + bgC true z m P xs ts 0) w w1) := by show Ux p (c + 0) w w1; rw [Int.add_zero]; exact HUp.out.ux h1
  have hs1 : w.heap.size ≤ w1.heap.size := h1.size
  clear CK h1
  go_upto_region 4 with fail
  go_cut [14, 15] (fun s14 s15 wc => ∃ a b : Nat, s14 = .slice (some ⟨a, 0, none⟩) K K ∧ s15 = .slice (some ⟨b, 0, none⟩) K K ∧ a ≠ b ∧ w1.heap.size ≤ a ∧ w1.heap.size ≤ b ∧ Hid (Rw a K (fun _ => .slice none 0 0) wc ∧ Rw b K (fun _ => .int .i64 0) wc ∧ Below w1.heap.size w1 wc))
  case first =>
    have mk1 := make_fs K (by omega)
    have mk2 := make_fx K (by omega)
    have HA1 : Hid (Rw w1.heap.size K (fun _ => .slice none 0 0) ((w1.alloc (.cells (madeCells #[.slice none 0 0] K) 23)).alloc (.cells (madeCells #[.int .i64 0] K) 36)).drew ∧ Rw (w1.heap.size + 1) K (fun _ => .int .i64 0) ((w1.alloc (.cells (madeCells #[.slice none 0 0] K) 23)).alloc (.cells (madeCells #[.int .i64 0] K) 36)).drew ∧ Below w1.heap.size w1 ((w1.alloc (.cells (madeCells #[.slice none 0 0] K) 23)).alloc (.cells (madeCells #[.int .i64 0] K) 36)).drew) := ⟨((Rw.made w1 (.slice none 0 0) K 23).later (bel1 _ _)).later (Below.refl _ _).drew, by have h := Rw.made (w1.alloc (.cells (madeCells #[.slice none 0 0] K) 23)) (.int .i64 0) K 36; rw [World.size_alloc] at h; exact h.later (Below.refl _ _).drew, (bel2 _ _ _).drew⟩
    have HA2 : Hid (Rw (w1.heap.size + 1) K (fun _ => .slice none 0 0) ((w1.alloc (.cells (madeCells #[.int .i64 0] K) 36)).alloc (.cells (madeCells #[.slice none 0 0] K) 23)).drew ∧ Rw w1.heap.size K (fun _ => .int .i64 0) ((w1.alloc (.cells (madeCells #[.int .i64 0] K) 36)).alloc (.cells (madeCells #[.slice none 0 0] K) 23)).drew ∧ Below w1.heap.size w1 ((w1.alloc (.cells (madeCells #[.int .i64 0] K) 36)).alloc (.cells (madeCells #[.slice none 0 0] K) 23)).drew) := ⟨by have h := Rw.made (w1.alloc (.cells (madeCells #[.int .i64 0] K) 36)) (.slice none 0 0) K 23; rw [World.size_alloc] at h; exact h.later (Below.refl _ _).drew, ((Rw.made w1 (.int .i64 0) K 36).later (bel1 _ _)).later (Below.refl _ _).drew, (bel2 _ _ _).drew⟩
    go_region_with fail
    all_goals (go_wp2_with fail; go_meet; first | exact ⟨_, _, rfl, rfl, by omega, by omega, by omega, HA1⟩ | exact ⟨_, _, rfl, rfl, by omega, by omega, by omega, HA2⟩)
  case rest =>
    obtain ⟨a, b, rfl, rfl, hab, ha, hb, HR⟩ := hcut
    have Hab : Hid (a ≠ b ∧ w1.heap.size ≤ a ∧ w1.heap.size ≤ b ∧ w.heap.size ≤ w1.heap.size ∧ w1.heap.size ≤ wc.heap.size) := ⟨hab, ha, hb, hs1, HR.out.2.2.size⟩
    clear hab ha hb hs1
    go_upto_region 6 with fail
    go_loopw [37] (fun s37 wr => ∃ (k : Nat) (h : Nat → Value), k ≤ K ∧ s37 = .int .i64 (k : Int) ∧ Hid (Rw a K h wr ∧ (∀ q, q < k → ∃ gq, h q = .slice (some ⟨gq, 0, none⟩) cp cp ∧ Ar wr (h q) cp (gdG true z m P (xs q) (ts q)) ∧ w.heap.size ≤ gq ∧ gq ≠ a ∧ gq ≠ b)) ∧ Hid (Rw b K (fun q => .int .i64 (if q < k then gdX true z m P (xs q) (ts q) else 0)) wr) ∧ Hid (Ux p (c + bgC true z m P xs ts k) w wr ∧ a < wr.heap.size ∧ b < wr.heap.size)) (fun s37 _ => K - (intOf s37).toNat)
    case atStart => exact ⟨0, fun _ => .slice none 0 0, by omega, rfl, ⟨HR.out.1, fun q hq => by omega⟩, HR.out.2.1.congr (fun q _ => by rw [if_neg (by omega)]), ⟨HU1.out.later HR.out.2.2, World.block_lt_of_cell? _ _ (HR.out.1.c 0 (by omega)), World.block_lt_of_cell? _ _ (HR.out.2.1.c 0 (by omega))⟩⟩
    case round =>
      clear HU1 HR
      obtain ⟨k, h, hk, rfl, HA, HBr, HU⟩ := hrel
      by_cases hkt : k < K
      · have hkI : (k : Int) < (K : Int) := by omega
        obtain ⟨vx, vt, e0, e1, ax, at', nx, nt⟩ := (HEq.out.ux HU.out.1).2 k hkt
        obtain ⟨adx, cax, _, _, rfl, -, -, -, -⟩ := id ax
        obtain ⟨adt, cat, _, _, rfl, -, -, -, -⟩ := id at'
        obtain ⟨wq, hwq⟩ : ∃ wq, wq = wr.alloc (.cells #[.slice adx (z 0) cax, .slice adt (z (m - 1)) cat] 42) := ⟨_, rfl⟩
        have hbq : Below wr.heap.size wr wq := by rw [hwq]; exact bel1 _ _
        have HXq : Bx wr.heap.size (.slice adx (z 0) cax) (.slice adt (z (m - 1)) cat) wq := by rw [hwq]; exact Bx.new wr _ _ _
        have hdq : Below wq.heap.size wq wq.drew := (Below.refl _ _).drew
        have hbd : Below wr.heap.size wr wq.drew := bchain hbq hdq
        have CG := HG.out wq.drew _ _ k (xs k) (ts k) (HU.out.1.later hbd) (by omega) (ax.later hbd) (at'.later hbd) nx nt
        have HXd := HXq.later hdq
        have HW : Hid (Below wr.heap.size wr wq.drew ∧ wr.heap.size < wq.drew.heap.size) := ⟨hbd, World.block_lt_of_cell? _ _ HXd.c0⟩
        have y0 := HXd.c0
        have y1 := HXd.c1
        have hkn : k < K := hkt
        clear HXq HXd hbq hdq hbd ax at' nx nt
        generalize z 0 = z0 at *
        generalize z (m - 1) = zl at *
        go_upto_region 8 with fail
        rw [← hwq]
        clear hwq e0 e1
        refine wp_region_held_drew (S := fun W' => W'.cell? ⟨wr.heap.size, 0, none⟩ = some (.slice adx z0 cax) ∧ W'.cell? ⟨wr.heap.size, 1, none⟩ = some (.slice adt zl cat)) (by kernel_rfl) ⟨y0, y1⟩ (fun HS => ?_)
        clear y0 y1
        generalize wq.drew = wd at *
        refine wpAnyH_take (i := 0) (v := ?v1) rfl (by kernel_rfl) (by kernel_rfl) (by kernel_rfl) (fun _ _ _ h => h) (Or.inl ⟨by kernel_rfl, ?h1⟩) HS ?r1
        case h1 => (rintro w ⟨e0, e1⟩; go_simp) <;> with_reducible rfl
        try simp only [Act.put, List.getElem_toArray, List.getElem_cons_succ, List.getElem_cons_zero, List.setIfInBounds_toArray, List.set_cons_zero, List.set_cons_succ]
        refine wpAnyH_take (i := 1) (v := ?v2) rfl (by kernel_rfl) (by kernel_rfl) (by kernel_rfl) (fun _ _ _ h => h) (Or.inl ⟨by kernel_rfl, ?h2⟩) HS ?r2
        case h2 => (rintro w ⟨e0, e1⟩; go_simp) <;> with_reducible rfl
        try simp only [Act.put, List.getElem_toArray, List.getElem_cons_succ, List.getElem_cons_zero, List.setIfInBounds_toArray, List.set_cons_zero, List.set_cons_succ]
        refine wpAnyH_take (i := 2) (v := ?v3) rfl (by kernel_rfl) (by kernel_rfl) (by kernel_rfl) (fun _ _ _ h => h) (Or.inl ⟨by kernel_rfl, ?h3⟩) HS ?r3
        case h3 => (rintro w ⟨e0, e1⟩; go_simp) <;> with_reducible rfl
        try simp only [Act.put, List.getElem_toArray, List.getElem_cons_succ, List.getElem_cons_zero, List.setIfInBounds_toArray, List.set_cons_zero, List.set_cons_succ]
        refine wpAnyH_take (i := 3) (v := ?v4) rfl (by kernel_rfl) (by kernel_rfl) (by kernel_rfl) (fun _ _ _ h => h) (Or.inl ⟨by kernel_rfl, ?h4⟩) HS ?r4
        case h4 => (rintro w ⟨e0, e1⟩; go_simp) <;> with_reducible rfl
        try simp only [Act.put, List.getElem_toArray, List.getElem_cons_succ, List.getElem_cons_zero, List.setIfInBounds_toArray, List.set_cons_zero, List.set_cons_succ]
        refine wpAnyH_take (i := 4) (v := ?v5) rfl (by kernel_rfl) (by kernel_rfl) (by kernel_rfl) (fun _ _ _ h => h) (Or.inl ⟨by kernel_rfl, ?h5⟩) HS ?r5
        case h5 => (rintro w ⟨e0, e1⟩; go_simp) <;> with_reducible rfl
        try simp only [Act.put, List.getElem_toArray, List.getElem_cons_succ, List.getElem_cons_zero, List.setIfInBounds_toArray, List.set_cons_zero, List.set_cons_succ]
        refine wpAnyH_take (i := 5) (v := ?v6) rfl (by kernel_rfl) (by kernel_rfl) (by kernel_rfl) (fun _ _ _ h => h) (Or.inl ⟨by kernel_rfl, ?h6⟩) HS ?r6
        case h6 => (rintro w ⟨e0, e1⟩; go_simp) <;> with_reducible rfl
        try simp only [Act.put, List.getElem_toArray, List.getElem_cons_succ, List.getElem_cons_zero, List.setIfInBounds_toArray, List.set_cons_zero, List.set_cons_succ]
        refine wpAnyH_take (i := 7) (v := ?v7) rfl (by kernel_rfl) (by kernel_rfl) (by kernel_rfl) (fun _ _ _ h => h) (Or.inl ⟨by kernel_rfl, ?h7⟩) HS ?r7
        case h7 => (rintro w ⟨e0, e1⟩; go_simp) <;> with_reducible rfl
        try simp only [Act.put, List.getElem_toArray, List.getElem_cons_succ, List.getElem_cons_zero, List.setIfInBounds_toArray, List.set_cons_zero, List.set_cons_succ]
        refine wpAnyH_take (i := 8) (v := ?v8) rfl (by kernel_rfl) (by kernel_rfl) (by kernel_rfl) (fun _ _ _ h => h) (Or.inl ⟨by kernel_rfl, ?h8⟩) HS ?r8
        case h8 => (rintro w ⟨e0, e1⟩; go_simp) <;> with_reducible rfl
        try simp only [Act.put, List.getElem_toArray, List.getElem_cons_succ, List.getElem_cons_zero, List.setIfInBounds_toArray, List.set_cons_zero, List.set_cons_succ]
        refine wpAnyH_take (i := 9) (v := ?v9) rfl (by kernel_rfl) (by kernel_rfl) (by kernel_rfl) (fun _ _ _ h => h) (Or.inl ⟨by kernel_rfl, ?h9⟩) HS ?r9
        case h9 => (rintro w ⟨e0, e1⟩; go_simp) <;> with_reducible rfl
        try simp only [Act.put, List.getElem_toArray, List.getElem_cons_succ, List.getElem_cons_zero, List.setIfInBounds_toArray, List.set_cons_zero, List.set_cons_succ]
        refine wpAnyH_ready (rs := [6]) (by kernel_rfl) (by simp) ?_
        refine AllReadyH.cons rfl (fun K hK => ?_) AllReadyH.nil
        go_simp
        refine (measureOf_sq _).mono ?_
        rintro e wy ⟨rfl, hz⟩
        refine hK.out _ _ (by rw [hz]; exact HS) (fun HS => ?_)
        clear hK K
        subst hz
        refine wpAnyH_ready (rs := [10]) (by kernel_rfl) (by simp) ?_
        refine AllReadyH.cons rfl (fun K hK => ?_) AllReadyH.nil
        go_simp
        refine CG.mono ?_
        rintro e w5 ⟨g5, rfl, hA5, hg5, h5⟩
        obtain ⟨hab, ha, hb, hs1, hsc⟩ := Hab.out
        have hsr := HU.out.1.size
        have hwl := HW.out.1.size
        have hwl2 := HW.out.2
        have nR : Nu wr.heap.size p := HUp.out.lt hsr
        have nA : Nu a p := HUp.out.lt (by omega)
        have nB : Nu b p := HUp.out.lt (by omega)
        have neA : a ≠ wr.heap.size := Nat.ne_of_lt HU.out.2.1
        have neB : b ≠ wr.heap.size := Nat.ne_of_lt HU.out.2.2
        have gA : g5 ≠ a := by have := HU.out.2.1; omega
        have gB : g5 ≠ b := by have := HU.out.2.2; omega
        refine hK.out _ _ ⟨h5.cell nR HS.1, h5.cell nR HS.2⟩ (fun HS => ?_)
        clear hK K
        have hRa5 : Rw a K h w5 := (HA.out.1.later HW.out.1).ux nA h5
        have hRb5 := (HBr.out.later HW.out.1).ux nB h5
        have HAn : Hid (Rw a K (fun q => if q = k then .slice (some ⟨g5, 0, none⟩) cp cp else h q) ((w5.setCell ⟨a, k, none⟩ (.slice (some ⟨g5, 0, none⟩) cp cp)).setCell ⟨b, k, none⟩ (.int .i64 (gdX true z m P (xs k) (ts k)))) ∧ (∀ q, q < k + 1 → ∃ gq, (if q = k then .slice (some ⟨g5, 0, none⟩) cp cp else h q) = .slice (some ⟨gq, 0, none⟩) cp cp ∧ Ar ((w5.setCell ⟨a, k, none⟩ (.slice (some ⟨g5, 0, none⟩) cp cp)).setCell ⟨b, k, none⟩ (.int .i64 (gdX true z m P (xs k) (ts k)))) (if q = k then .slice (some ⟨g5, 0, none⟩) cp cp else h q) cp (gdG true z m P (xs q) (ts q)) ∧ w.heap.size ≤ gq ∧ gq ≠ a ∧ gq ≠ b)) := ⟨(hRa5.set k _).far _ (fun e => hab e.symm), fun q hq => by
          by_cases e : q = k
          · subst e
            rw [if_pos rfl]
            exact ⟨g5, rfl, (hA5.farq _ (fun e => gA e.symm)).farq _ (fun e => gB e.symm), by omega, gA, gB⟩
          · rw [if_neg e]
            obtain ⟨gq, e1, e2, e3, e4, e5⟩ := HA.out.2 q (by omega)
            rw [e1] at e2 ⊢
            exact ⟨gq, rfl, (((e2.later HW.out.1).ux ((HUp.out.lt e3).nv _ _ _) h5).farq _ (fun e => e4 e.symm)).farq _ (fun e => e5 e.symm), e3, e4, e5⟩⟩
        have HBn : Hid (Rw b K (fun q => .int .i64 (if q < k + 1 then gdX true z m P (xs q) (ts q) else 0)) ((w5.setCell ⟨a, k, none⟩ (.slice (some ⟨g5, 0, none⟩) cp cp)).setCell ⟨b, k, none⟩ (.int .i64 (gdX true z m P (xs k) (ts k))))) := ((hRb5.far _ hab).set k _).congr (fun q _ => by
          show (if q = k then Value.int .i64 (gdX true z m P (xs k) (ts k)) else Value.int .i64 (if q < k then gdX true z m P (xs q) (ts q) else 0)) = Value.int .i64 (if q < k + 1 then gdX true z m P (xs q) (ts q) else 0)
          by_cases e : q = k
          · subst e; rw [if_pos rfl, if_pos (by omega)]
          · rw [if_neg e]
            by_cases e2 : q < k
            · rw [if_pos e2, if_pos (by omega)]
            · rw [if_neg e2, if_neg (by omega)])
        have HUn : Hid (Ux p (c + bgC true z m P xs ts (k + 1)) w ((w5.setCell ⟨a, k, none⟩ (.slice (some ⟨g5, 0, none⟩) cp cp)).setCell ⟨b, k, none⟩ (.int .i64 (gdX true z m P (xs k) (ts k)))) ∧ a < ((w5.setCell ⟨a, k, none⟩ (.slice (some ⟨g5, 0, none⟩) cp cp)).setCell ⟨b, k, none⟩ (.int .i64 (gdX true z m P (xs k) (ts k)))).heap.size ∧ b < ((w5.setCell ⟨a, k, none⟩ (.slice (some ⟨g5, 0, none⟩) cp cp)).setCell ⟨b, k, none⟩ (.int .i64 (gdX true z m P (xs k) (ts k)))).heap.size) := ⟨by
          have e1 : c + bgC true z m P xs ts (k + 1) = c + bgC true z m P xs ts k + gdC true z m P (xs k) (ts k) := by rw [Int.add_assoc]; rfl
          rw [e1]
          exact ((((HU.out.1.later HW.out.1).chain h5).far _ (by show w.heap.size ≤ a; omega)).far _ (by show w.heap.size ≤ b; omega)), World.block_lt_of_cell? _ _ (HAn.out.1.c k hkn), World.block_lt_of_cell? _ _ (HBn.out.c k hkn)⟩
        have cA := hRa5.c k hkn
        have fA := hRa5.f k hkn
        have cB := hRb5.c k hkn
        have fB := hRb5.f k hkn
        clear CG hA5 h5 hRa5 hRb5 HA HBr HU HW hsr hwl hwl2 nR nA nB gA gB hg5 ha hb hs1 hsc
        generalize gdX true z m P (xs k) (ts k) = dx at *
        refine wpAnyH_take (i := 11) (v := ?v10) rfl (by kernel_rfl) (by kernel_rfl) (by kernel_rfl) (fun _ _ _ h => h) (Or.inl ⟨by kernel_rfl, ?h10⟩) HS ?r10
        case h10 => (rintro w ⟨e0, e1⟩; go_simp) <;> with_reducible rfl
        try simp only [Act.put, List.getElem_toArray, List.getElem_cons_succ, List.getElem_cons_zero, List.setIfInBounds_toArray, List.set_cons_zero, List.set_cons_succ]
        refine wpAnyH_take (i := 12) (v := ?v11) rfl (by kernel_rfl) (by kernel_rfl) (by kernel_rfl) (fun _ _ _ h => h) (Or.inl ⟨by kernel_rfl, ?h11⟩) HS ?r11
        case h11 => (rintro w ⟨e0, e1⟩; go_simp) <;> with_reducible rfl
        try simp only [Act.put, List.getElem_toArray, List.getElem_cons_succ, List.getElem_cons_zero, List.setIfInBounds_toArray, List.set_cons_zero, List.set_cons_succ]
        refine wpAnyH_take (i := 13) (v := ?v12) rfl (by kernel_rfl) (by kernel_rfl) (by kernel_rfl) (fun _ _ _ h => h) (Or.inl ⟨by kernel_rfl, ?h12⟩) HS ?r12
        case h12 => (rintro w ⟨e0, e1⟩; go_simp) <;> with_reducible rfl
        try simp only [Act.put, List.getElem_toArray, List.getElem_cons_succ, List.getElem_cons_zero, List.setIfInBounds_toArray, List.set_cons_zero, List.set_cons_succ]
        refine wpAnyH_take (i := 14) (v := ?v13) rfl (by kernel_rfl) (by kernel_rfl) (by kernel_rfl) (fun _ _ _ h => h) (Or.inl ⟨by kernel_rfl, ?h13⟩) HS ?r13
        case h13 => (rintro w ⟨e0, e1⟩; go_simp) <;> with_reducible rfl
        try simp only [Act.put, List.getElem_toArray, List.getElem_cons_succ, List.getElem_cons_zero, List.setIfInBounds_toArray, List.set_cons_zero, List.set_cons_succ]
        refine wpAnyH_ready (rs := [15]) (by kernel_rfl) (by simp) ?_
        refine AllReadyH.cons rfl (fun K hK => ?_) AllReadyH.nil
        go_simp
        refine hK.out _ _ ⟨cell_set neA HS.1, cell_set neA HS.2⟩ (fun HS => ?_)
        clear hK K
        refine wpAnyH_take (i := 16) (v := ?v14) rfl (by kernel_rfl) (by kernel_rfl) (by kernel_rfl) (fun _ _ _ h => h) (Or.inl ⟨by kernel_rfl, ?h14⟩) HS ?r14
        case h14 => (rintro w ⟨e0, e1⟩; go_simp) <;> with_reducible rfl
        try simp only [Act.put, List.getElem_toArray, List.getElem_cons_succ, List.getElem_cons_zero, List.setIfInBounds_toArray, List.set_cons_zero, List.set_cons_succ]
        refine wpAnyH_ready (rs := [17]) (by kernel_rfl) (by simp) ?_
        refine AllReadyH.cons rfl (fun K hK => ?_) AllReadyH.nil
        go_simp
        refine hK.out _ _ ⟨cell_set neB HS.1, cell_set neB HS.2⟩ (fun HS => ?_)
        clear hK K
        refine wpAnyH_done (by kernel_rfl) ?_ _
        clear HS cA fA cB fB
        go_wp2
        go_roundw
        case rel => exact ⟨k + 1, _, by omega, by go_num, HAn, HBn, HUn⟩
        case measure => simp [intOf]; omega
      · obtain rfl : k = K := by omega
        have hkI : ¬ (k : Int) < (k : Int) := by omega
        have r := bgC_rng true z m P xs ts HSz.out.1 k
        have hVs : Vs wr a 0 k cp (fun q => gdG true z m P (xs q) (ts q)) := ⟨fun q hq => by
          obtain ⟨gq, e1, e2, -, -, -⟩ := HA.out.2 q hq
          have e3 := HA.out.1.c q hq
          rw [e1] at e2 e3
          exact ⟨_, _, by rw [Nat.zero_add]; exact e3, e2⟩⟩
        have hUr := HU.out.1
        have CM := Means_ux a 0 k k cp (fun q => gdG true z m P (xs q) (ts q)) hK hK2 (by have := HSz.out.2; omega) (Nat.le_refl _) (by unfold maxLen; omega) p (c + bgC true z m P xs ts k) (by omega) (by omega) wr hVs hUr.up
        have HCN : Hid (∀ (W : World) (c' : Int), Ux p c' wr W → 0 ≤ c' → c' ≤ 800000000 → Calls Tryz.prog 20 #[.pointer p, .slice (some ⟨b, 0, none⟩) k k] W fun e w' => e = .returned (.tuple #[.int .i64 (clv (quo (sumV (fun q => gdX true z m P (xs q) (ts q)) k) (k : Int))), .int .i64 0]) ∧ Ux p (c' + bi (ovv (quo (sumV (fun q => gdX true z m P (xs q) (ts q)) k) (k : Int)))) W w') := fun W c' h h0 h1 =>
          mean_ux _ k _ (by omega) hK p c' h0 h1 W ((HTb.out.ux HUp.out hUr).ux hUr.up h) (((Rw.ar (F := fun q => gdX true z m P (xs q) (ts q)) (HBr.out.congr (fun q hq => by rw [if_pos hq])) (by omega) (fun q _ => gdX_fit true z m P (xs q) (ts q))).ux ((HUp.out.lt (by have := Hab.out; omega)).nv _ _ _) h)) ((HUp.out.lt (by have := Hab.out; omega)).nv _ _ _) h.up
        have HUr : Hid (Ux p (c + bgC true z m P xs ts k) w wr) := hUr
        have rc := cnt_rng (msO (fun q => gdG true z m P (xs q) (ts q)) k) cp
        have Hr : Hid ((0 ≤ bgC true z m P xs ts k ∧ bgC true z m P xs ts k ≤ 30000 * (k : Int)) ∧ (0 ≤ cntV (msO (fun q => gdG true z m P (xs q) (ts q)) k) cp ∧ cntV (msO (fun q => gdG true z m P (xs q) (ts q)) k) cp ≤ (cp : Int)) ∧ cp ≤ 30000) := ⟨r, rc, HSz.out.2⟩
        clear hVs hUr HA HBr HU HG HEq r rc
        go_wp2_with fail
        refine CM.mono ?_
        rintro e w8 ⟨g8, rfl, hX8, hg8, h8⟩
        have CN := HCN.out w8 _ h8 (by have := Hr.out; omega) (by have := Hr.out; omega)
        have HX8 : Hid (Ar w8 (.slice (some ⟨g8, 0, none⟩) cp cp) cp (msX (fun q => gdG true z m P (xs q) (ts q)) k) ∧ wr.heap.size ≤ g8 ∧ Ux p (c + bgC true z m P xs ts k + cntV (msO (fun q => gdG true z m P (xs q) (ts q)) k) cp) wr w8) := ⟨hX8, hg8, h8⟩
        clear CM hX8 hg8 h8 HCN
        go_wp2_with fail
        refine CN.mono ?_
        rintro e w9 ⟨rfl, h9⟩
        have HQ : Hid (Ar w9 (.slice (some ⟨g8, 0, none⟩) cp cp) cp (msX (fun q => gdG true z m P (xs q) (ts q)) k) ∧ w.heap.size ≤ g8 ∧ Ux p (c + btC true z m cp P xs ts k) w w9) := by
          obtain ⟨q1, q2, q3⟩ := HX8.out
          have hsr := HUr.out.size
          refine ⟨q1.ux ((HUp.out.lt (by omega)).nv _ _ _) h9, by omega, ?_⟩
          have e1 : c + btC true z m cp P xs ts k = c + bgC true z m P xs ts k + cntV (msO (fun q => gdG true z m P (xs q) (ts q)) k) cp + bi (ovv (quo (sumV (fun q => gdX true z m P (xs q) (ts q)) k) (k : Int))) := by unfold btC; omega
          rw [e1]
          exact (HUr.out.chain q3).chain h9
        clear CN h9 HX8 HUr Hr
        go_wp2
        go_ret3
        exact ⟨g8, rfl, HQ.out.1, HQ.out.2.1, HQ.out.2.2⟩
set_option maxRecDepth 100000 in
set_option maxHeartbeats 16000000 in
theorem pBatch_hg (vs : Value) (m bp op cp capp g o K cap : Nat) (z : Nat → Nat) (P : Nat → Int) (xs ts : Nat → Nat → Int) (p : Option Addr) (c : Int) (c0 : 0 ≤ c) (c1 : c ≤ 100000000) (hK : 1 ≤ K) (hK2 : K ≤ 64) (hcap : K ≤ cap) (hcap2 : cap ≤ maxLen) (w : World) (hS : Ar w vs m (fun i => ((z i : Nat) : Int))) (hP : Ar w (.slice (some ⟨bp, op, none⟩) cp capp) cp P) (hE : Exq w p g o K (fun _ => z 0) (fun _ => z (m - 1)) xs ts) (hz : Szs z m) (hcp : cp = fsN z (m - 1)) (nS : Nv vs p) (nP : Nu bp p) (hp : Up p c w) (hTab : TabAt w) :
    Calls Tryz.prog 6 #[.pointer p, .int .i64 (lsK false), vs, .slice (some ⟨bp, op, none⟩) cp capp, .slice (some ⟨g, o, none⟩) K cap] w fun e w' => ∃ g', e = .returned (.tuple #[.slice (some ⟨g', 0, none⟩) cp cp, .int .i64 (clv (quo (sumV (fun k => gdX false z m P (xs k) (ts k)) K) (K : Int))), .int .i64 0]) ∧ Ar w' (.slice (some ⟨g', 0, none⟩) cp cp) cp (msX (fun k => gdG false z m P (xs k) (ts k)) K) ∧ w.heap.size ≤ g' ∧ Ux p (c + btC false z m cp P xs ts K) w w' := by
  have HG : Hid (∀ (W : World) (vx vt : Value) (k : Nat) (x t : Nat → Int), Ux p (c + bgC false z m P xs ts k) w W → k ≤ 64 → Ar W vx (z 0) x → Ar W vt (z (m - 1)) t → Nv vx p → Nv vt p → Calls Tryz.prog 17 #[.pointer p, .iface 91 (.agg #[]), vs, .slice (some ⟨bp, op, none⟩) cp capp, .agg #[vx, vt]] W fun e w' => ∃ g, e = .returned (.tuple #[.slice (some ⟨g, 0, none⟩) cp cp, .int .i64 (gdX false z m P x t)]) ∧ Ar w' (.slice (some ⟨g, 0, none⟩) cp cp) cp (gdG false z m P x t) ∧ W.heap.size ≤ g ∧ Ux p (c + bgC false z m P xs ts k + gdC false z m P x t) W w') := fun W vx vt k x t hU hk hx ht nx nt => by
    have r := bgC_rng false z m P xs ts hz k
    exact gradient_hg vs vx vt m bp op cp capp z P x t p _ (by omega) (by omega) W (hS.ux nS hU) (hP.ux (nP.nv _ _ _) hU) hx ht hz hcp nS nP nx nt hU.up (hTab.ux hp hU)
  have CK := check_any7 (lsK false) vs (.slice (some ⟨bp, op, none⟩) cp capp) _ m cp K z P _ _ w hS hP (hE.exl hcap hcap2) hz
  have eC : chE (lsK false) K cp (fsN z (m - 1)) (mfX (z 0) (z (m - 1)) (fun _ => z 0) (fun _ => z (m - 1)) K) = 0 := by
    unfold chE
    rw [if_pos (by unfold lsK; simp), if_neg (by omega), if_pos ⟨hcp, mfX_no (fun k _ => by unfold mfB; simp)⟩]
  rw [eC] at CK
  have hLK : lsK false = 2 := rfl
  rw [hLK] at CK ⊢
  have HEq : Hid (Exq w p g o K (fun _ => z 0) (fun _ => z (m - 1)) xs ts) := hE
  have HUp : Hid (Up p c w) := hp
  have HTb : Hid (TabAt w) := hTab
  have HSz : Hid (Szs z m ∧ cp ≤ 30000) := ⟨hz, by obtain ⟨m2, m6, hz6⟩ := hz; have := fsN_le z m (m - 1) hz6 (by omega); omega⟩
  have hS' := hS
  obtain ⟨ads, cas, bs, os, rfl, -, -, -, -⟩ := hS
  unfold maxLen at hcap2
  clear eC hz hcp nS nP hp hTab hS' hP hE
  go_enter Tryz.func6, Tryz.ntmps6
  go_wp2_with fail
  refine CK.mono ?_
  rintro e w1 ⟨rfl, h1⟩
  have HU1 : Hid (Ux p (c + bgC false z m P xs ts 0) w w1) := by show Ux p (c + 0) w w1; rw [Int.add_zero]; exact HUp.out.ux h1
  have hs1 : w.heap.size ≤ w1.heap.size := h1.size
  clear CK h1
  go_upto_region 4 with fail
  go_cut [14, 15] (fun s14 s15 wc => ∃ a b : Nat, s14 = .slice (some ⟨a, 0, none⟩) K K ∧ s15 = .slice (some ⟨b, 0, none⟩) K K ∧ a ≠ b ∧ w1.heap.size ≤ a ∧ w1.heap.size ≤ b ∧ Hid (Rw a K (fun _ => .slice none 0 0) wc ∧ Rw b K (fun _ => .int .i64 0) wc ∧ Below w1.heap.size w1 wc))
  case first =>
    have mk1 := make_fs K (by omega)
    have mk2 := make_fx K (by omega)
    have HA1 : Hid (Rw w1.heap.size K (fun _ => .slice none 0 0) ((w1.alloc (.cells (madeCells #[.slice none 0 0] K) 23)).alloc (.cells (madeCells #[.int .i64 0] K) 36)).drew ∧ Rw (w1.heap.size + 1) K (fun _ => .int .i64 0) ((w1.alloc (.cells (madeCells #[.slice none 0 0] K) 23)).alloc (.cells (madeCells #[.int .i64 0] K) 36)).drew ∧ Below w1.heap.size w1 ((w1.alloc (.cells (madeCells #[.slice none 0 0] K) 23)).alloc (.cells (madeCells #[.int .i64 0] K) 36)).drew) := ⟨((Rw.made w1 (.slice none 0 0) K 23).later (bel1 _ _)).later (Below.refl _ _).drew, by have h := Rw.made (w1.alloc (.cells (madeCells #[.slice none 0 0] K) 23)) (.int .i64 0) K 36; rw [World.size_alloc] at h; exact h.later (Below.refl _ _).drew, (bel2 _ _ _).drew⟩
    have HA2 : Hid (Rw (w1.heap.size + 1) K (fun _ => .slice none 0 0) ((w1.alloc (.cells (madeCells #[.int .i64 0] K) 36)).alloc (.cells (madeCells #[.slice none 0 0] K) 23)).drew ∧ Rw w1.heap.size K (fun _ => .int .i64 0) ((w1.alloc (.cells (madeCells #[.int .i64 0] K) 36)).alloc (.cells (madeCells #[.slice none 0 0] K) 23)).drew ∧ Below w1.heap.size w1 ((w1.alloc (.cells (madeCells #[.int .i64 0] K) 36)).alloc (.cells (madeCells #[.slice none 0 0] K) 23)).drew) := ⟨by have h := Rw.made (w1.alloc (.cells (madeCells #[.int .i64 0] K) 36)) (.slice none 0 0) K 23; rw [World.size_alloc] at h; exact h.later (Below.refl _ _).drew, ((Rw.made w1 (.int .i64 0) K 36).later (bel1 _ _)).later (Below.refl _ _).drew, (bel2 _ _ _).drew⟩
    go_region_with fail
    all_goals (go_wp2_with fail; go_meet; first | exact ⟨_, _, rfl, rfl, by omega, by omega, by omega, HA1⟩ | exact ⟨_, _, rfl, rfl, by omega, by omega, by omega, HA2⟩)
  case rest =>
    obtain ⟨a, b, rfl, rfl, hab, ha, hb, HR⟩ := hcut
    have Hab : Hid (a ≠ b ∧ w1.heap.size ≤ a ∧ w1.heap.size ≤ b ∧ w.heap.size ≤ w1.heap.size ∧ w1.heap.size ≤ wc.heap.size) := ⟨hab, ha, hb, hs1, HR.out.2.2.size⟩
    clear hab ha hb hs1
    go_upto_region 6 with fail
    go_loopw [37] (fun s37 wr => ∃ (k : Nat) (h : Nat → Value), k ≤ K ∧ s37 = .int .i64 (k : Int) ∧ Hid (Rw a K h wr ∧ (∀ q, q < k → ∃ gq, h q = .slice (some ⟨gq, 0, none⟩) cp cp ∧ Ar wr (h q) cp (gdG false z m P (xs q) (ts q)) ∧ w.heap.size ≤ gq ∧ gq ≠ a ∧ gq ≠ b)) ∧ Hid (Rw b K (fun q => .int .i64 (if q < k then gdX false z m P (xs q) (ts q) else 0)) wr) ∧ Hid (Ux p (c + bgC false z m P xs ts k) w wr ∧ a < wr.heap.size ∧ b < wr.heap.size)) (fun s37 _ => K - (intOf s37).toNat)
    case atStart => exact ⟨0, fun _ => .slice none 0 0, by omega, rfl, ⟨HR.out.1, fun q hq => by omega⟩, HR.out.2.1.congr (fun q _ => by rw [if_neg (by omega)]), ⟨HU1.out.later HR.out.2.2, World.block_lt_of_cell? _ _ (HR.out.1.c 0 (by omega)), World.block_lt_of_cell? _ _ (HR.out.2.1.c 0 (by omega))⟩⟩
    case round =>
      clear HU1 HR
      obtain ⟨k, h, hk, rfl, HA, HBr, HU⟩ := hrel
      by_cases hkt : k < K
      · have hkI : (k : Int) < (K : Int) := by omega
        obtain ⟨vx, vt, e0, e1, ax, at', nx, nt⟩ := (HEq.out.ux HU.out.1).2 k hkt
        obtain ⟨adx, cax, _, _, rfl, -, -, -, -⟩ := id ax
        obtain ⟨adt, cat, _, _, rfl, -, -, -, -⟩ := id at'
        obtain ⟨wq, hwq⟩ : ∃ wq, wq = wr.alloc (.cells #[.slice adx (z 0) cax, .slice adt (z (m - 1)) cat] 42) := ⟨_, rfl⟩
        have hbq : Below wr.heap.size wr wq := by rw [hwq]; exact bel1 _ _
        have HXq : Bx wr.heap.size (.slice adx (z 0) cax) (.slice adt (z (m - 1)) cat) wq := by rw [hwq]; exact Bx.new wr _ _ _
        have hdq : Below wq.heap.size wq wq.drew := (Below.refl _ _).drew
        have hbd : Below wr.heap.size wr wq.drew := bchain hbq hdq
        have CG := HG.out wq.drew _ _ k (xs k) (ts k) (HU.out.1.later hbd) (by omega) (ax.later hbd) (at'.later hbd) nx nt
        have HXd := HXq.later hdq
        have HW : Hid (Below wr.heap.size wr wq.drew ∧ wr.heap.size < wq.drew.heap.size) := ⟨hbd, World.block_lt_of_cell? _ _ HXd.c0⟩
        have y0 := HXd.c0
        have y1 := HXd.c1
        have hkn : k < K := hkt
        clear HXq HXd hbq hdq hbd ax at' nx nt
        generalize z 0 = z0 at *
        generalize z (m - 1) = zl at *
        go_upto_region 8 with fail
        rw [← hwq]
        clear hwq e0 e1
        refine wp_region_held_drew (S := fun W' => W'.cell? ⟨wr.heap.size, 0, none⟩ = some (.slice adx z0 cax) ∧ W'.cell? ⟨wr.heap.size, 1, none⟩ = some (.slice adt zl cat)) (by kernel_rfl) ⟨y0, y1⟩ (fun HS => ?_)
        clear y0 y1
        generalize wq.drew = wd at *
        refine wpAnyH_take (i := 0) (v := ?v15) rfl (by kernel_rfl) (by kernel_rfl) (by kernel_rfl) (fun _ _ _ h => h) (Or.inl ⟨by kernel_rfl, ?h15⟩) HS ?r15
        case h15 => (rintro w ⟨e0, e1⟩; go_simp) <;> with_reducible rfl
        try simp only [Act.put, List.getElem_toArray, List.getElem_cons_succ, List.getElem_cons_zero, List.setIfInBounds_toArray, List.set_cons_zero, List.set_cons_succ]
        refine wpAnyH_take (i := 1) (v := ?v16) rfl (by kernel_rfl) (by kernel_rfl) (by kernel_rfl) (fun _ _ _ h => h) (Or.inl ⟨by kernel_rfl, ?h16⟩) HS ?r16
        case h16 => (rintro w ⟨e0, e1⟩; go_simp) <;> with_reducible rfl
        try simp only [Act.put, List.getElem_toArray, List.getElem_cons_succ, List.getElem_cons_zero, List.setIfInBounds_toArray, List.set_cons_zero, List.set_cons_succ]
        refine wpAnyH_take (i := 2) (v := ?v17) rfl (by kernel_rfl) (by kernel_rfl) (by kernel_rfl) (fun _ _ _ h => h) (Or.inl ⟨by kernel_rfl, ?h17⟩) HS ?r17
        case h17 => (rintro w ⟨e0, e1⟩; go_simp) <;> with_reducible rfl
        try simp only [Act.put, List.getElem_toArray, List.getElem_cons_succ, List.getElem_cons_zero, List.setIfInBounds_toArray, List.set_cons_zero, List.set_cons_succ]
        refine wpAnyH_take (i := 3) (v := ?v18) rfl (by kernel_rfl) (by kernel_rfl) (by kernel_rfl) (fun _ _ _ h => h) (Or.inl ⟨by kernel_rfl, ?h18⟩) HS ?r18
        case h18 => (rintro w ⟨e0, e1⟩; go_simp) <;> with_reducible rfl
        try simp only [Act.put, List.getElem_toArray, List.getElem_cons_succ, List.getElem_cons_zero, List.setIfInBounds_toArray, List.set_cons_zero, List.set_cons_succ]
        refine wpAnyH_take (i := 4) (v := ?v19) rfl (by kernel_rfl) (by kernel_rfl) (by kernel_rfl) (fun _ _ _ h => h) (Or.inl ⟨by kernel_rfl, ?h19⟩) HS ?r19
        case h19 => (rintro w ⟨e0, e1⟩; go_simp) <;> with_reducible rfl
        try simp only [Act.put, List.getElem_toArray, List.getElem_cons_succ, List.getElem_cons_zero, List.setIfInBounds_toArray, List.set_cons_zero, List.set_cons_succ]
        refine wpAnyH_take (i := 5) (v := ?v20) rfl (by kernel_rfl) (by kernel_rfl) (by kernel_rfl) (fun _ _ _ h => h) (Or.inl ⟨by kernel_rfl, ?h20⟩) HS ?r20
        case h20 => (rintro w ⟨e0, e1⟩; go_simp) <;> with_reducible rfl
        try simp only [Act.put, List.getElem_toArray, List.getElem_cons_succ, List.getElem_cons_zero, List.setIfInBounds_toArray, List.set_cons_zero, List.set_cons_succ]
        refine wpAnyH_take (i := 7) (v := ?v21) rfl (by kernel_rfl) (by kernel_rfl) (by kernel_rfl) (fun _ _ _ h => h) (Or.inl ⟨by kernel_rfl, ?h21⟩) HS ?r21
        case h21 => (rintro w ⟨e0, e1⟩; go_simp) <;> with_reducible rfl
        try simp only [Act.put, List.getElem_toArray, List.getElem_cons_succ, List.getElem_cons_zero, List.setIfInBounds_toArray, List.set_cons_zero, List.set_cons_succ]
        refine wpAnyH_take (i := 8) (v := ?v22) rfl (by kernel_rfl) (by kernel_rfl) (by kernel_rfl) (fun _ _ _ h => h) (Or.inl ⟨by kernel_rfl, ?h22⟩) HS ?r22
        case h22 => (rintro w ⟨e0, e1⟩; go_simp) <;> with_reducible rfl
        try simp only [Act.put, List.getElem_toArray, List.getElem_cons_succ, List.getElem_cons_zero, List.setIfInBounds_toArray, List.set_cons_zero, List.set_cons_succ]
        refine wpAnyH_take (i := 9) (v := ?v23) rfl (by kernel_rfl) (by kernel_rfl) (by kernel_rfl) (fun _ _ _ h => h) (Or.inl ⟨by kernel_rfl, ?h23⟩) HS ?r23
        case h23 => (rintro w ⟨e0, e1⟩; go_simp) <;> with_reducible rfl
        try simp only [Act.put, List.getElem_toArray, List.getElem_cons_succ, List.getElem_cons_zero, List.setIfInBounds_toArray, List.set_cons_zero, List.set_cons_succ]
        refine wpAnyH_ready (rs := [6]) (by kernel_rfl) (by simp) ?_
        refine AllReadyH.cons rfl (fun K hK => ?_) AllReadyH.nil
        go_simp
        refine (measureOf_hg _).mono ?_
        rintro e wy ⟨rfl, hz⟩
        refine hK.out _ _ (by rw [hz]; exact HS) (fun HS => ?_)
        clear hK K
        subst hz
        refine wpAnyH_ready (rs := [10]) (by kernel_rfl) (by simp) ?_
        refine AllReadyH.cons rfl (fun K hK => ?_) AllReadyH.nil
        go_simp
        refine CG.mono ?_
        rintro e w5 ⟨g5, rfl, hA5, hg5, h5⟩
        obtain ⟨hab, ha, hb, hs1, hsc⟩ := Hab.out
        have hsr := HU.out.1.size
        have hwl := HW.out.1.size
        have hwl2 := HW.out.2
        have nR : Nu wr.heap.size p := HUp.out.lt hsr
        have nA : Nu a p := HUp.out.lt (by omega)
        have nB : Nu b p := HUp.out.lt (by omega)
        have neA : a ≠ wr.heap.size := Nat.ne_of_lt HU.out.2.1
        have neB : b ≠ wr.heap.size := Nat.ne_of_lt HU.out.2.2
        have gA : g5 ≠ a := by have := HU.out.2.1; omega
        have gB : g5 ≠ b := by have := HU.out.2.2; omega
        refine hK.out _ _ ⟨h5.cell nR HS.1, h5.cell nR HS.2⟩ (fun HS => ?_)
        clear hK K
        have hRa5 : Rw a K h w5 := (HA.out.1.later HW.out.1).ux nA h5
        have hRb5 := (HBr.out.later HW.out.1).ux nB h5
        have HAn : Hid (Rw a K (fun q => if q = k then .slice (some ⟨g5, 0, none⟩) cp cp else h q) ((w5.setCell ⟨a, k, none⟩ (.slice (some ⟨g5, 0, none⟩) cp cp)).setCell ⟨b, k, none⟩ (.int .i64 (gdX false z m P (xs k) (ts k)))) ∧ (∀ q, q < k + 1 → ∃ gq, (if q = k then .slice (some ⟨g5, 0, none⟩) cp cp else h q) = .slice (some ⟨gq, 0, none⟩) cp cp ∧ Ar ((w5.setCell ⟨a, k, none⟩ (.slice (some ⟨g5, 0, none⟩) cp cp)).setCell ⟨b, k, none⟩ (.int .i64 (gdX false z m P (xs k) (ts k)))) (if q = k then .slice (some ⟨g5, 0, none⟩) cp cp else h q) cp (gdG false z m P (xs q) (ts q)) ∧ w.heap.size ≤ gq ∧ gq ≠ a ∧ gq ≠ b)) := ⟨(hRa5.set k _).far _ (fun e => hab e.symm), fun q hq => by
          by_cases e : q = k
          · subst e
            rw [if_pos rfl]
            exact ⟨g5, rfl, (hA5.farq _ (fun e => gA e.symm)).farq _ (fun e => gB e.symm), by omega, gA, gB⟩
          · rw [if_neg e]
            obtain ⟨gq, e1, e2, e3, e4, e5⟩ := HA.out.2 q (by omega)
            rw [e1] at e2 ⊢
            exact ⟨gq, rfl, (((e2.later HW.out.1).ux ((HUp.out.lt e3).nv _ _ _) h5).farq _ (fun e => e4 e.symm)).farq _ (fun e => e5 e.symm), e3, e4, e5⟩⟩
        have HBn : Hid (Rw b K (fun q => .int .i64 (if q < k + 1 then gdX false z m P (xs q) (ts q) else 0)) ((w5.setCell ⟨a, k, none⟩ (.slice (some ⟨g5, 0, none⟩) cp cp)).setCell ⟨b, k, none⟩ (.int .i64 (gdX false z m P (xs k) (ts k))))) := ((hRb5.far _ hab).set k _).congr (fun q _ => by
          show (if q = k then Value.int .i64 (gdX false z m P (xs k) (ts k)) else Value.int .i64 (if q < k then gdX false z m P (xs q) (ts q) else 0)) = Value.int .i64 (if q < k + 1 then gdX false z m P (xs q) (ts q) else 0)
          by_cases e : q = k
          · subst e; rw [if_pos rfl, if_pos (by omega)]
          · rw [if_neg e]
            by_cases e2 : q < k
            · rw [if_pos e2, if_pos (by omega)]
            · rw [if_neg e2, if_neg (by omega)])
        have HUn : Hid (Ux p (c + bgC false z m P xs ts (k + 1)) w ((w5.setCell ⟨a, k, none⟩ (.slice (some ⟨g5, 0, none⟩) cp cp)).setCell ⟨b, k, none⟩ (.int .i64 (gdX false z m P (xs k) (ts k)))) ∧ a < ((w5.setCell ⟨a, k, none⟩ (.slice (some ⟨g5, 0, none⟩) cp cp)).setCell ⟨b, k, none⟩ (.int .i64 (gdX false z m P (xs k) (ts k)))).heap.size ∧ b < ((w5.setCell ⟨a, k, none⟩ (.slice (some ⟨g5, 0, none⟩) cp cp)).setCell ⟨b, k, none⟩ (.int .i64 (gdX false z m P (xs k) (ts k)))).heap.size) := ⟨by
          have e1 : c + bgC false z m P xs ts (k + 1) = c + bgC false z m P xs ts k + gdC false z m P (xs k) (ts k) := by rw [Int.add_assoc]; rfl
          rw [e1]
          exact ((((HU.out.1.later HW.out.1).chain h5).far _ (by show w.heap.size ≤ a; omega)).far _ (by show w.heap.size ≤ b; omega)), World.block_lt_of_cell? _ _ (HAn.out.1.c k hkn), World.block_lt_of_cell? _ _ (HBn.out.c k hkn)⟩
        have cA := hRa5.c k hkn
        have fA := hRa5.f k hkn
        have cB := hRb5.c k hkn
        have fB := hRb5.f k hkn
        clear CG hA5 h5 hRa5 hRb5 HA HBr HU HW hsr hwl hwl2 nR nA nB gA gB hg5 ha hb hs1 hsc
        generalize gdX false z m P (xs k) (ts k) = dx at *
        refine wpAnyH_take (i := 11) (v := ?v24) rfl (by kernel_rfl) (by kernel_rfl) (by kernel_rfl) (fun _ _ _ h => h) (Or.inl ⟨by kernel_rfl, ?h24⟩) HS ?r24
        case h24 => (rintro w ⟨e0, e1⟩; go_simp) <;> with_reducible rfl
        try simp only [Act.put, List.getElem_toArray, List.getElem_cons_succ, List.getElem_cons_zero, List.setIfInBounds_toArray, List.set_cons_zero, List.set_cons_succ]
        refine wpAnyH_take (i := 12) (v := ?v25) rfl (by kernel_rfl) (by kernel_rfl) (by kernel_rfl) (fun _ _ _ h => h) (Or.inl ⟨by kernel_rfl, ?h25⟩) HS ?r25
        case h25 => (rintro w ⟨e0, e1⟩; go_simp) <;> with_reducible rfl
        try simp only [Act.put, List.getElem_toArray, List.getElem_cons_succ, List.getElem_cons_zero, List.setIfInBounds_toArray, List.set_cons_zero, List.set_cons_succ]
        refine wpAnyH_take (i := 13) (v := ?v26) rfl (by kernel_rfl) (by kernel_rfl) (by kernel_rfl) (fun _ _ _ h => h) (Or.inl ⟨by kernel_rfl, ?h26⟩) HS ?r26
        case h26 => (rintro w ⟨e0, e1⟩; go_simp) <;> with_reducible rfl
        try simp only [Act.put, List.getElem_toArray, List.getElem_cons_succ, List.getElem_cons_zero, List.setIfInBounds_toArray, List.set_cons_zero, List.set_cons_succ]
        refine wpAnyH_take (i := 14) (v := ?v27) rfl (by kernel_rfl) (by kernel_rfl) (by kernel_rfl) (fun _ _ _ h => h) (Or.inl ⟨by kernel_rfl, ?h27⟩) HS ?r27
        case h27 => (rintro w ⟨e0, e1⟩; go_simp) <;> with_reducible rfl
        try simp only [Act.put, List.getElem_toArray, List.getElem_cons_succ, List.getElem_cons_zero, List.setIfInBounds_toArray, List.set_cons_zero, List.set_cons_succ]
        refine wpAnyH_ready (rs := [15]) (by kernel_rfl) (by simp) ?_
        refine AllReadyH.cons rfl (fun K hK => ?_) AllReadyH.nil
        go_simp
        refine hK.out _ _ ⟨cell_set neA HS.1, cell_set neA HS.2⟩ (fun HS => ?_)
        clear hK K
        refine wpAnyH_take (i := 16) (v := ?v28) rfl (by kernel_rfl) (by kernel_rfl) (by kernel_rfl) (fun _ _ _ h => h) (Or.inl ⟨by kernel_rfl, ?h28⟩) HS ?r28
        case h28 => (rintro w ⟨e0, e1⟩; go_simp) <;> with_reducible rfl
        try simp only [Act.put, List.getElem_toArray, List.getElem_cons_succ, List.getElem_cons_zero, List.setIfInBounds_toArray, List.set_cons_zero, List.set_cons_succ]
        refine wpAnyH_ready (rs := [17]) (by kernel_rfl) (by simp) ?_
        refine AllReadyH.cons rfl (fun K hK => ?_) AllReadyH.nil
        go_simp
        refine hK.out _ _ ⟨cell_set neB HS.1, cell_set neB HS.2⟩ (fun HS => ?_)
        clear hK K
        refine wpAnyH_done (by kernel_rfl) ?_ _
        clear HS cA fA cB fB
        go_wp2
        go_roundw
        case rel => exact ⟨k + 1, _, by omega, by go_num, HAn, HBn, HUn⟩
        case measure => simp [intOf]; omega
      · obtain rfl : k = K := by omega
        have hkI : ¬ (k : Int) < (k : Int) := by omega
        have r := bgC_rng false z m P xs ts HSz.out.1 k
        have hVs : Vs wr a 0 k cp (fun q => gdG false z m P (xs q) (ts q)) := ⟨fun q hq => by
          obtain ⟨gq, e1, e2, -, -, -⟩ := HA.out.2 q hq
          have e3 := HA.out.1.c q hq
          rw [e1] at e2 e3
          exact ⟨_, _, by rw [Nat.zero_add]; exact e3, e2⟩⟩
        have hUr := HU.out.1
        have CM := Means_ux a 0 k k cp (fun q => gdG false z m P (xs q) (ts q)) hK hK2 (by have := HSz.out.2; omega) (Nat.le_refl _) (by unfold maxLen; omega) p (c + bgC false z m P xs ts k) (by omega) (by omega) wr hVs hUr.up
        have HCN : Hid (∀ (W : World) (c' : Int), Ux p c' wr W → 0 ≤ c' → c' ≤ 800000000 → Calls Tryz.prog 20 #[.pointer p, .slice (some ⟨b, 0, none⟩) k k] W fun e w' => e = .returned (.tuple #[.int .i64 (clv (quo (sumV (fun q => gdX false z m P (xs q) (ts q)) k) (k : Int))), .int .i64 0]) ∧ Ux p (c' + bi (ovv (quo (sumV (fun q => gdX false z m P (xs q) (ts q)) k) (k : Int)))) W w') := fun W c' h h0 h1 =>
          mean_ux _ k _ (by omega) hK p c' h0 h1 W ((HTb.out.ux HUp.out hUr).ux hUr.up h) (((Rw.ar (F := fun q => gdX false z m P (xs q) (ts q)) (HBr.out.congr (fun q hq => by rw [if_pos hq])) (by omega) (fun q _ => gdX_fit false z m P (xs q) (ts q))).ux ((HUp.out.lt (by have := Hab.out; omega)).nv _ _ _) h)) ((HUp.out.lt (by have := Hab.out; omega)).nv _ _ _) h.up
        have HUr : Hid (Ux p (c + bgC false z m P xs ts k) w wr) := hUr
        have rc := cnt_rng (msO (fun q => gdG false z m P (xs q) (ts q)) k) cp
        have Hr : Hid ((0 ≤ bgC false z m P xs ts k ∧ bgC false z m P xs ts k ≤ 30000 * (k : Int)) ∧ (0 ≤ cntV (msO (fun q => gdG false z m P (xs q) (ts q)) k) cp ∧ cntV (msO (fun q => gdG false z m P (xs q) (ts q)) k) cp ≤ (cp : Int)) ∧ cp ≤ 30000) := ⟨r, rc, HSz.out.2⟩
        clear hVs hUr HA HBr HU HG HEq r rc
        go_wp2_with fail
        refine CM.mono ?_
        rintro e w8 ⟨g8, rfl, hX8, hg8, h8⟩
        have CN := HCN.out w8 _ h8 (by have := Hr.out; omega) (by have := Hr.out; omega)
        have HX8 : Hid (Ar w8 (.slice (some ⟨g8, 0, none⟩) cp cp) cp (msX (fun q => gdG false z m P (xs q) (ts q)) k) ∧ wr.heap.size ≤ g8 ∧ Ux p (c + bgC false z m P xs ts k + cntV (msO (fun q => gdG false z m P (xs q) (ts q)) k) cp) wr w8) := ⟨hX8, hg8, h8⟩
        clear CM hX8 hg8 h8 HCN
        go_wp2_with fail
        refine CN.mono ?_
        rintro e w9 ⟨rfl, h9⟩
        have HQ : Hid (Ar w9 (.slice (some ⟨g8, 0, none⟩) cp cp) cp (msX (fun q => gdG false z m P (xs q) (ts q)) k) ∧ w.heap.size ≤ g8 ∧ Ux p (c + btC false z m cp P xs ts k) w w9) := by
          obtain ⟨q1, q2, q3⟩ := HX8.out
          have hsr := HUr.out.size
          refine ⟨q1.ux ((HUp.out.lt (by omega)).nv _ _ _) h9, by omega, ?_⟩
          have e1 : c + btC false z m cp P xs ts k = c + bgC false z m P xs ts k + cntV (msO (fun q => gdG false z m P (xs q) (ts q)) k) cp + bi (ovv (quo (sumV (fun q => gdX false z m P (xs q) (ts q)) k) (k : Int))) := by unfold btC; omega
          rw [e1]
          exact (HUr.out.chain q3).chain h9
        clear CN h9 HX8 HUr Hr
        go_wp2
        go_ret3
        exact ⟨g8, rfl, HQ.out.1, HQ.out.2.1, HQ.out.2.2⟩
set_option maxRecDepth 100000 in
set_option maxHeartbeats 4000000 in
theorem pBatch_bad (L E : Int) (vs vp vE : Value) (p : Option Addr) (w : World) (hS : ∃ (ad : Option Addr) (n ca : Nat), vs = .slice ad n ca) (hP : ∃ (ad : Option Addr) (n ca : Nat), vp = .slice ad n ca) (hX : ∃ (ad : Option Addr) (n ca : Nat), vE = .slice ad n ca) (hE0 : ¬ E = 0)
    (CK : Calls Tryz.prog 16 #[.int .i64 L, vs, vp, vE] w fun e w' => e = .returned (.int .i64 E) ∧ Below w.heap.size w w') :
    Calls Tryz.prog 6 #[.pointer p, .int .i64 L, vs, vp, vE] w fun e w' => e = .returned (.tuple #[.slice none 0 0, .int .i64 0, .int .i64 E]) ∧ Below w.heap.size w w' := by
  obtain ⟨ads, ms, cas, rfl⟩ := hS
  obtain ⟨adp, mp, cap, rfl⟩ := hP
  obtain ⟨adx, mx, cax, rfl⟩ := hX
  go_enter Tryz.func6, Tryz.ntmps6
  go_wp2_with fail
  refine CK.mono ?_
  rintro e w3 ⟨rfl, h3⟩
  have HB3 : Hid (Below w.heap.size w w3) := h3
  clear CK h3
  go_wp2
  go_ret3
  exact ⟨rfl, HB3.out⟩
theorem pBatch_ok (s : Bool) (vs vp : Value) (m cp g o K cap : Nat) (z : Nat → Nat) (P : Nat → Int) (xs ts : Nat → Nat → Int) (p : Option Addr) (c : Int) (c0 : 0 ≤ c) (c1 : c ≤ 100000000) (hK : 1 ≤ K) (hK2 : K ≤ 64) (hcap : K ≤ cap) (hcap2 : cap ≤ maxLen) (w : World) (hS : Ar w vs m (fun i => ((z i : Nat) : Int))) (hP : Ar w vp cp P) (hE : Exq w p g o K (fun _ => z 0) (fun _ => z (m - 1)) xs ts) (hz : Szs z m) (hcp : cp = fsN z (m - 1)) (nS : Nv vs p) (nP : Nv vp p) (hp : Up p c w) (hTab : TabAt w) :
    Calls Tryz.prog 6 #[.pointer p, .int .i64 (lsK s), vs, vp, .slice (some ⟨g, o, none⟩) K cap] w fun e w' => ∃ g', e = .returned (.tuple #[.slice (some ⟨g', 0, none⟩) cp cp, .int .i64 (clv (quo (sumV (fun k => gdX s z m P (xs k) (ts k)) K) (K : Int))), .int .i64 0]) ∧ Ar w' (.slice (some ⟨g', 0, none⟩) cp cp) cp (msX (fun k => gdG s z m P (xs k) (ts k)) K) ∧ w.heap.size ≤ g' ∧ Ux p (c + btC s z m cp P xs ts K) w w' := by
  have hcp2 : 0 < cp := by have h1 := fsN_mono z (show 1 ≤ m - 1 by have := hz.1; omega); have h2 := (lyN_le z m 0 hz.2.2 (by have := hz.1; omega)).2; have h3 : fsN z 1 = 0 + lyN z 0 := rfl; omega
  obtain ⟨bp, op, capp, rfl⟩ := hP.lit hcp2
  cases s
  · exact pBatch_hg vs m bp op cp capp g o K cap z P xs ts p c c0 c1 hK hK2 hcap hcap2 w hS hP hE hz hcp nS (nP.nu hcp2) hp hTab
  · exact pBatch_sq vs m bp op cp capp g o K cap z P xs ts p c c0 c1 hK hK2 hcap hcap2 w hS hP hE hz hcp nS (nP.nu hcp2) hp hTab
theorem Exl.sl {w : World} {v : Value} {K : Nat} {nx nt : Nat → Nat} (h : Exl w v K nx nt) : ∃ (ad : Option Addr) (n ca : Nat), v = .slice ad n ca := by
  obtain ⟨ad, ca, _, _, e, -⟩ := h
  exact ⟨ad, K, ca, e⟩
theorem pBatch_sz (L : Int) (vs vp vE : Value) (m lp K : Nat) (f P : Nat → Int) (nx nt : Nat → Nat) (p : Option Addr) (w : World) (hA : Ar w vs m f) (hP : Ar w vp lp P) (hE : Exl w vE K nx nt) (hz : ¬ Rt f m) :
    Calls Tryz.prog 6 #[.pointer p, .int .i64 L, vs, vp, vE] w fun e w' => e = .returned (.tuple #[.slice none 0 0, .int .i64 0, .int .i64 70]) ∧ Below w.heap.size w w' :=
  pBatch_bad L 70 vs vp vE p w hA.sl hP.sl hE.sl (by omega) ((check_sz L vs vp vE m lp K f P nx nt w hA hP hE hz).mono fun e w' h => ⟨h.1, by rw [h.2]; exact Below.refl _ _⟩)
theorem pBatch_no (L : Int) (vs vp vE : Value) (m lp K : Nat) (z : Nat → Nat) (P : Nat → Int) (nx nt : Nat → Nat) (p : Option Addr) (w : World) (hA : Ar w vs m (fun i => ((z i : Nat) : Int))) (hP : Ar w vp lp P) (hE : Exl w vE K nx nt) (hz : Szs z m) (h0 : ¬ chE L K lp (fsN z (m - 1)) (mfX (z 0) (z (m - 1)) nx nt K) = 0) :
    Calls Tryz.prog 6 #[.pointer p, .int .i64 L, vs, vp, vE] w fun e w' => e = .returned (.tuple #[.slice none 0 0, .int .i64 0, .int .i64 (chE L K lp (fsN z (m - 1)) (mfX (z 0) (z (m - 1)) nx nt K))]) ∧ Below w.heap.size w w' :=
  pBatch_bad L _ vs vp vE p w hA.sl hP.sl hE.sl h0 (check_any7 L vs vp vE m lp K z P nx nt w hA hP hE hz)
end Go.Proofs.YtcaficenocblfaaGreatDoor
set_option linter.unusedVariables false
namespace Go.Proofs.YtcaficenocblfaaGreatDoor
open Go.ChangeShapes Go.WideShapes Go.ChangeAt Go.RowKit Go.Joins

theorem cellsFs7 : Tryz.prog.cellsOf 23 = 1 := by kernel_rfl
def Exv (w : World) (v : Value) (K : Nat) (nx nt : Nat → Nat) (xs ts : Nat → Nat → Int) : Prop :=
  ∃ (adr : Option Addr) (cap be oe : Nat), v = .slice adr K cap ∧ K ≤ cap ∧ cap ≤ maxLen ∧ (0 < K → adr = some ⟨be, oe, none⟩) ∧ ∀ k, k < K → ∃ vx vt : Value, w.cell? ⟨be, oe + k * 2, none⟩ = some vx ∧ w.cell? ⟨be, oe + k * 2 + 1, none⟩ = some vt ∧ Ar w vx (nx k) (xs k) ∧ Ar w vt (nt k) (ts k)
set_option maxRecDepth 100000 in
theorem open_exs {H : Type} {enc : TypeId × Value → H} {w : World} {r : Reach} {b0 : Nat} {v : Value} {d : DataW H} {p : List MemPlace}
    (hv : Value.okWide Tryz.prog w r b0 26 v) (h : DataW.Trod enc Tryz.prog w 0 (fun _ => true) true 26 v d p) : ∃ (K : Nat) (nx nt : Nat → Nat) (xs ts : Nat → Nat → Int), Exv w v K nx nt xs ts := by
  obtain ⟨adr, len, cap, rfl⟩ := okWide_slice Tryz.underlying26 hv
  obtain ⟨fuel, h⟩ := h
  rcases Go.Deep.open_slice Tryz.underlying26 h with h0 | ⟨a, len', cap', m, n, D, Pl, hc, hb, hl, hm, hmm, -, hx⟩
  · have hc := h0.1
    simp [Value.cells] at hc
    obtain ⟨rfl, rfl, rfl⟩ := hc
    exact ⟨0, fun _ => 0, fun _ => 0, fun _ _ => 0, fun _ _ => 0, none, 0, 0, 0, rfl, Nat.le_refl _, Nat.zero_le _, fun h => by omega, fun j hj => by omega⟩
  · simp [Value.cells] at hc
    obtain ⟨rfl, rfl, rfl⟩ := hc
    simp only [if_true] at hmm
    subst hmm
    obtain ⟨ab, ao, spot⟩ := a
    have hint : ∀ i, i < len → ∃ q : (Value × Value) × (Nat × Nat) × ((Nat → Int) × (Nat → Int)), w.cell? ((⟨ab, ao, spot⟩ : Addr).add (i * 2)) = some q.1.1 ∧ w.cell? ((⟨ab, ao, spot⟩ : Addr).add (i * 2 + 1)) = some q.1.2 ∧ Ar w q.1.1 q.2.1.1 q.2.2.1 ∧ Ar w q.1.2 q.2.1.2 q.2.2.2 := fun i hi => by
      obtain ⟨cs', h1, h2⟩ := hx i (by omega)
      rw [cellsExa] at h1
      obtain ⟨_, hlen, hcell⟩ := World.cells?_some h1
      obtain ⟨x, y, rfl⟩ : ∃ x y, cs' = [x, y] := by
        match cs', hlen with
        | [x, y], _ => exact ⟨x, y, rfl⟩
      obtain ⟨y0, y1, n', hxx, _, t0, t1⟩ := trod_struct2 Tryz.underlying42 h2
      have e1 := hcell 0 (by omega)
      have e2 := hcell 1 (by omega)
      rw [Go.Deep.add_add] at e1 e2
      obtain ⟨n1, f1, hA1⟩ := fixes_raw (v := x) (by simpa [cellsFs7] using t0)
      obtain ⟨n2, f2, hA2⟩ := fixes_raw (v := y) (by simpa [cellsFs7] using t1)
      exact ⟨((x, y), (n1, n2), (f1, f2)), by simpa using e1, by simpa using e2, hA1, hA2⟩
    obtain ⟨q, hq⟩ := Go.Deep.choose_lt hint
    refine ⟨len, fun i => (q i).2.1.1, fun i => (q i).2.1.2, fun i => (q i).2.2.1, fun i => (q i).2.2.2, some ⟨ab, ao, spot⟩, m, ab, ao, rfl, hl, hm, ?_, ?_⟩
    · intro h0
      have hspot : spot = none := by simpa [Addr.add] using World.cell?_spot (hq 0 h0).1
      rw [hspot]
    · intro j hj
      have hspot : spot = none := by simpa [Addr.add] using World.cell?_spot (hq 0 (by omega)).1
      subst hspot
      obtain ⟨d0, d1, d2, d3⟩ := hq j hj
      rw [add_noneV] at d0 d1
      exact ⟨(q j).1.1, (q j).1.2, d0, by rw [Nat.add_assoc]; exact d1, d2, d3⟩
end Go.Proofs.YtcaficenocblfaaGreatDoor
set_option linter.unusedVariables false
set_option linter.unusedSimpArgs false
namespace Go.Proofs.YtcaficenocblfaaGreatDoor
open Go.RowKit

def shP (lp cp z0 zl K : Nat) (nx nt : Nat → Nat) : Prop := lp = cp ∧ ∀ k, k < K → nx k = z0 ∧ nt k = zl
def gdP (f : Nat → Int) (m lp K : Nat) (z : Nat → Nat) (nx nt : Nat → Nat) (L : Int) : Prop := Rt f m ∧ (L = 1 ∨ L = 2) ∧ (1 ≤ K ∧ K ≤ 64) ∧ shP lp (fsN z (m - 1)) (z 0) (z (m - 1)) K nx nt
def beE (f : Nat → Int) (m lp K : Nat) (z : Nat → Nat) (nx nt : Nat → Nat) (L E : Int) : Prop :=
  (¬ Rt f m → E = 70) ∧ (Rt f m → ¬ (L = 1 ∨ L = 2) → E = 71) ∧ (Rt f m → (L = 1 ∨ L = 2) → ¬ (1 ≤ K ∧ K ≤ 64) → E = 2) ∧ (Rt f m → (L = 1 ∨ L = 2) → (1 ≤ K ∧ K ≤ 64) → ¬ shP lp (fsN z (m - 1)) (z 0) (z (m - 1)) K nx nt → E = 40)
theorem mfX_iff (z0 zl K : Nat) (nx nt : Nat → Nat) : mfX z0 zl nx nt K = false ↔ ∀ k, k < K → nx k = z0 ∧ nt k = zl := by
  constructor
  · intro h k hk
    refine Classical.byContradiction fun hc => ?_
    have : mfB z0 zl (nx k) (nt k) = true := by unfold mfB; simp; omega
    rw [mfX_yes hk this] at h
    cases h
  · intro h
    exact mfX_no (fun k hk => by unfold mfB; simp [h k hk])
def btR (f : Nat → Int) (m lp K : Nat) (z : Nat → Nat) (P : Nat → Int) (nx nt : Nat → Nat) (xs ts : Nat → Nat → Int) (L : Int) (gad : Option Addr) (gn gca : Nat) (F E c : Int) (w' : World) : Prop :=
  (¬ gdP f m lp K z nx nt L → gn = 0 ∧ F = 0 ∧ c = 0 ∧ beE f m lp K z nx nt L E) ∧ (∀ s : Bool, L = lsK s → gdP f m lp K z nx nt L → gn = lp ∧ F = clv (quo (sumV (fun k => gdX s z m P (xs k) (ts k)) K) (K : Int)) ∧ c = 0 + btC s z m lp P xs ts K ∧ E = 0 ∧ Ar w' (.slice gad gn gca) lp (msX (fun k => gdG s z m P (xs k) (ts k)) K))
theorem lsK_ex {L : Int} (h : L = 1 ∨ L = 2) : ∃ s : Bool, L = lsK s := by
  rcases h with h | h
  · exact ⟨true, h⟩
  · exact ⟨false, h⟩
theorem lsK_one {s s' : Bool} (h : lsK s = lsK s') : s = s' := by
  cases s <;> cases s' <;> first | rfl | (exfalso; revert h; decide)
theorem Exv.exl {w : World} {v : Value} {K : Nat} {nx nt : Nat → Nat} {xs ts : Nat → Nat → Int} (h : Exv w v K nx nt xs ts) : Exl w v K nx nt := by
  obtain ⟨adr, cap, be, oe, e, h1, h2, h3, h4⟩ := h
  refine ⟨adr, cap, be, oe, e, h1, h2, h3, fun k hk => ?_⟩
  obtain ⟨vx, vt, c1, c2, a1, a2⟩ := h4 k hk
  obtain ⟨ax, cx, _, _, rfl, -⟩ := a1
  obtain ⟨at', ct, _, _, rfl, -⟩ := a2
  exact ⟨ax, at', cx, ct, c1, c2⟩
theorem Exv.later {w w' : World} {v : Value} {K : Nat} {nx nt : Nat → Nat} {xs ts : Nat → Nat → Int} (h : Exv w v K nx nt xs ts) (hb : Below w.heap.size w w') : Exv w' v K nx nt xs ts := by
  obtain ⟨adr, cap, be, oe, e, h1, h2, h3, h4⟩ := h
  refine ⟨adr, cap, be, oe, e, h1, h2, h3, fun k hk => ?_⟩
  obtain ⟨vx, vt, c1, c2, a1, a2⟩ := h4 k hk
  exact ⟨vx, vt, cell_later hb c1, cell_later hb c2, a1.later hb, a2.later hb⟩
theorem batchW_any (L : Int) (vs vp vE : Value) (m lp K : Nat) (f P : Nat → Int) (z : Nat → Nat) (nx nt : Nat → Nat) (xs ts : Nat → Nat → Int) (d : Nat) (w0 w : World) (hz : Zs f m z) (hA : Ar w0 vs m f) (hP : Ar w0 vp lp P) (hE : Exv w0 vE K nx nt xs ts) (hb : Below w0.heap.size w0 w) (hd : w0.heap.size ≤ d) (hu : Uc w d 0) (hT : TabAt w) :
    Calls Tryz.prog 6 #[.pointer (some ⟨d, 0, none⟩), .int .i64 L, vs, vp, vE] w fun e w' => ∃ (gad : Option Addr) (gn gca : Nat) (F E c : Int), e = .returned (.tuple #[.slice gad gn gca, .int .i64 F, .int .i64 E]) ∧ btR f m lp K z P nx nt xs ts L gad gn gca F E c w' ∧ Ow w.heap.size (.slice gad gn gca) ∧ Un d c w w' := by
  have hnil : Ow w.heap.size (.slice none 0 0) := fun a n cap e hn => by cases e
  have hun : ∀ w', Below w.heap.size w w' → Un d 0 w w' := fun w' h => (Un.same hu.1 hu.2).ahead h
  by_cases hr : Rt f m
  · obtain ⟨hs, hfz⟩ := hz hr
    by_cases hg : gdP f m lp K z nx nt L
    · obtain ⟨s, hL⟩ := lsK_ex hg.2.1
      obtain ⟨-, -, ⟨K1, K2⟩, hlp, hsh⟩ := id hg
      obtain ⟨adr, cap, be, oe, e, h1, h2, h3, h4⟩ := id hE
      have ea := h3 (by omega)
      subst ea
      subst e
      have hq : Exq w (some ⟨d, 0, none⟩) be oe K (fun _ => z 0) (fun _ => z (m - 1)) xs ts := by
        refine ⟨fun d' e' => ?_, fun k hk => ?_⟩
        · cases e'
          obtain ⟨vx, vt, c1, -⟩ := h4 0 (by omega)
          have := World.block_lt_of_cell? _ _ c1
          dsimp only at this
          omega
        · obtain ⟨vx, vt, c1, c2, a1, a2⟩ := h4 k hk
          obtain ⟨e1, e2⟩ := hsh k hk
          rw [e1] at a1
          rw [e2] at a2
          exact ⟨vx, vt, cell_later hb c1, cell_later hb c2, a1.later hb, a2.later hb, nv_some (a1.nb hd), nv_some (a2.nb hd)⟩
      rw [hL]
      refine (pBatch_ok s vs vp m lp be oe K cap z P xs ts (some ⟨d, 0, none⟩) 0 (by omega) (by omega) K1 K2 h1 h2 w ((hA.later hb).congr hfz) (hP.later hb) hq hs hlp (nv_some (hA.nb hd)) (nv_some (hP.nb hd)) (Or.inr ⟨d, rfl, hu⟩) hT).mono ?_
      rintro e w' ⟨g', rfl, hA', hg', hU⟩
      refine ⟨some ⟨g', 0, none⟩, lp, lp, _, 0, 0 + btC s z m lp P xs ts K, rfl, ⟨fun h => absurd (by rw [← hL]; exact hg) h, fun s' hs' _ => ?_⟩, fun a n cap e hn => by cases e; exact hg', ?_⟩
      · obtain rfl := lsK_one hs'
        exact ⟨rfl, rfl, rfl, rfl, hA'⟩
      · rcases hU with ⟨h, -⟩ | ⟨d', e', -, h⟩
        · cases h
        · cases e'; exact h
    · have hm : ¬ chE L K lp (fsN z (m - 1)) (mfX (z 0) (z (m - 1)) nx nt K) = 0 := fun hc => by
        unfold chE at hc
        by_cases hL : L = 1 ∨ L = 2
        · rw [if_pos hL] at hc
          by_cases hK : K < 1 ∨ 64 < K
          · rw [if_pos hK] at hc
            omega
          · rw [if_neg hK] at hc
            by_cases hsh : lp = fsN z (m - 1) ∧ mfX (z 0) (z (m - 1)) nx nt K = false
            · exact hg ⟨hr, hL, by omega, hsh.1, (mfX_iff _ _ _ _ _).1 hsh.2⟩
            · rw [if_neg hsh] at hc
              omega
        · rw [if_neg hL] at hc
          omega
      refine (pBatch_no L vs vp vE m lp K z P nx nt (some ⟨d, 0, none⟩) w ((hA.later hb).congr hfz) (hP.later hb) (hE.later hb).exl hs hm).mono ?_
      rintro e w' ⟨rfl, hb'⟩
      refine ⟨none, 0, 0, 0, _, 0, rfl, ⟨fun _ => ⟨rfl, rfl, rfl, ?_⟩, fun _ _ h => absurd h hg⟩, hnil, hun w' hb'⟩
      refine ⟨fun h => absurd hr h, fun _ hL => ?_, fun _ hL hK => ?_, fun _ hL hK hsh => ?_⟩
      · unfold chE; rw [if_neg hL]
      · unfold chE; rw [if_pos hL, if_pos (by omega)]
      · unfold chE
        rw [if_pos hL, if_neg (by omega), if_neg (fun h => hsh ⟨h.1, (mfX_iff _ _ _ _ _).1 h.2⟩)]
  · refine (pBatch_sz L vs vp vE m lp K f P nx nt (some ⟨d, 0, none⟩) w (hA.later hb) (hP.later hb) (hE.later hb).exl hr).mono ?_
    rintro e w' ⟨rfl, hb'⟩
    exact ⟨none, 0, 0, 0, 70, 0, rfl, ⟨fun _ => ⟨rfl, rfl, rfl, fun _ => rfl, fun h => absurd h hr, fun h => absurd h hr, fun h => absurd h hr⟩, fun _ _ h => absurd h.1 hr⟩, hnil, hun w' hb'⟩
theorem dinfo_exr : (Tryz.prog.info? 48).map (fun i => (i.zero, i.size, i.bytes)) = some (some (.agg #[.slice none 0 0, .slice none 0 0]), 2, 48) := by kernel_rfl
def Alx (w : World) (B d : Nat) (v : Value) (j : Nat) (nx nt : Nat → Nat) (xs ts : Nat → Nat → Int) : Prop :=
  ∃ cs : List Value, w.ownsRow B 48 2 v j cs ∧ ∀ k, k < j → ∃ va vb : Value, (cs[k * 2]? = some va ∧ cs[k * 2 + 1]? = some vb) ∧ (Ar w va (nx k) (xs k) ∧ Nb va d ∧ ∀ g, v.ownBlock = some g → Nb va g) ∧ Ar w vb (nt k) (ts k) ∧ Nb vb d ∧ ∀ g, v.ownBlock = some g → Nb vb g
theorem Alx.later {w w' : World} {B d : Nat} {v : Value} {j : Nat} {nx nt : Nat → Nat} {xs ts : Nat → Nat → Int} (h : Alx w B d v j nx nt xs ts) (hb : Below w.heap.size w w') : Alx w' B d v j nx nt xs ts := by
  obtain ⟨cs, h1, h2⟩ := h
  exact ⟨cs, own_later h1 hb, fun k hk => by obtain ⟨va, vb, e, ⟨a, a2, a3⟩, b, b2, b3⟩ := h2 k hk; exact ⟨va, vb, e, ⟨a.later hb, a2, a3⟩, b.later hb, b2, b3⟩⟩
theorem alx_key {w w3 : World} {v v' : Value} {o : Obj} (hgrow : (w.alloc o).grownBy w3 v.ownBlock) (hat : v'.ownBlock = v.ownBlock ∨ v'.ownBlock = some (w.alloc o).heap.size) {n : Nat} {f : Nat → Int} {x : Value} (hx : Ar w x n f) (hn : ∀ g, v.ownBlock = some g → Nb x g) : Ar w3 x n f ∧ ∀ g, v'.ownBlock = some g → Nb x g := by
  refine ⟨hx.stay (fun a n' cap e h0 => ?_), fun g hg => ?_⟩
  · have hlt : a.block < w.heap.size := by
      rcases Nat.lt_or_ge a.block w.heap.size with h | h
      · exact h
      · exact absurd rfl (hx.spare h a n' cap e h0)
    rw [hgrow.block a.block (by rw [World.size_alloc]; omega) (fun e2 => hn a.block e2.symm a n' cap e h0 rfl), Below.heap_alloc _ _ _ (by omega)]
  · rcases hat with h | h
    · exact hn g (h.symm.trans hg)
    · rw [h] at hg
      obtain rfl := Option.some.inj hg
      exact hx.spare (by rw [World.size_alloc]; omega)
theorem alx_grow {w w3 : World} {B d : Nat} {v v' va vb : Value} {j : Nat} {nx nt : Nat → Nat} {xs ts : Nat → Nat → Int} {o : Obj} {cs : List Value} (h1 : w.ownsRow B 48 2 v j cs) (h2 : ∀ k, k < j → ∃ va vb : Value, (cs[k * 2]? = some va ∧ cs[k * 2 + 1]? = some vb) ∧ (Ar w va (nx k) (xs k) ∧ Nb va d ∧ ∀ g, v.ownBlock = some g → Nb va g) ∧ Ar w vb (nt k) (ts k) ∧ Nb vb d ∧ ∀ g, v.ownBlock = some g → Nb vb g)
    (hA : Ar w va (nx j) (xs j)) (hOa : Nb va d) (hNa : ∀ g, v.ownBlock = some g → Nb va g) (hB : Ar w vb (nt j) (ts j)) (hOb : Nb vb d) (hNb : ∀ g, v.ownBlock = some g → Nb vb g)
    (hown : w3.ownsRow B 48 2 v' (j + 1) (cs ++ [va, vb])) (hgrow : (w.alloc o).grownBy w3 v.ownBlock) (hat : v'.ownBlock = v.ownBlock ∨ v'.ownBlock = some (w.alloc o).heap.size) : Alx w3 B d v' (j + 1) nx nt xs ts := by
  have hlen : cs.length = j * 2 := by have := h1.1; omega
  refine ⟨cs ++ [va, vb], hown, fun k hk => ?_⟩
  rcases Nat.lt_or_ge k j with h | h
  · obtain ⟨xa, xb, ⟨e1, e2⟩, ⟨a1, a2, a3⟩, b1, b2, b3⟩ := h2 k h
    obtain ⟨p1, p2⟩ := alx_key hgrow hat a1 a3
    obtain ⟨q1, q2⟩ := alx_key hgrow hat b1 b3
    exact ⟨xa, xb, ⟨by rw [List.getElem?_append_left (by omega)]; exact e1, by rw [List.getElem?_append_left (by omega)]; exact e2⟩, ⟨p1, a2, p2⟩, q1, b2, q2⟩
  · obtain rfl : k = j := by omega
    obtain ⟨p1, p2⟩ := alx_key hgrow hat hA hNa
    obtain ⟨q1, q2⟩ := alx_key hgrow hat hB hNb
    refine ⟨va, vb, ⟨?_, ?_⟩, ⟨p1, hOa, p2⟩, q1, hOb, q2⟩
    · rw [List.getElem?_append_right (by omega), hlen, Nat.sub_self]; rfl
    · rw [List.getElem?_append_right (by omega), hlen, show k * 2 + 1 - k * 2 = 1 by omega]; rfl
theorem Alx.exs {w : World} {B d : Nat} {v : Value} {K : Nat} {nx nt : Nat → Nat} {xs ts : Nat → Nat → Int} (h : Alx w B d v K nx nt xs ts) (hK : 0 < K) (hd : d < B) : ∃ b cap, v = .slice (some ⟨b, 0, none⟩) K cap ∧ K ≤ cap ∧ cap ≤ maxLen ∧ Exs w d b 0 K nx nt xs ts := by
  obtain ⟨cs, h1, h2⟩ := h
  rcases id h1.2 with ⟨_, h0⟩ | ⟨g, cL, cur, rfl, hg, hh, hc1, hc2, hsz, htk⟩
  · omega
  · refine ⟨g, cL, rfl, hc1, hc2, by omega, fun k hk => ?_⟩
    obtain ⟨va, vb, ⟨e1, e2⟩, ⟨a1, a2, -⟩, b1, b2, -⟩ := h2 k hk
    have hl := h1.1
    refine ⟨va, vb, ?_, ?_, a1, b1, a2, b2⟩
    · rw [Nat.zero_add]; exact (h1.cellAt _ (by omega)).trans e1
    · rw [Nat.zero_add]; exact (h1.cellAt _ (by omega)).trans e2
theorem wp_append_pair {o : Oper} {a : Act} {Kn : Act → World → Prop} {Q : Exit → Act → World → Prop} {w : World} (s x : Operand)
    (ho : o.op = .call { callee := .builtin .append, args := #[s, x], argTypes := #[40, 40] }) (B : Nat) (v : Value) (n : Nat) (cs : List Value) (hs : a.eval s = v) (hown : w.ownsRow B 48 2 v n cs) (g : Nat) (va vb : Value) (hx : a.eval x = .slice (some ⟨g, 0, none⟩) 1 1)
    (h0 : w.cell? ⟨g, 0, none⟩ = some va) (h1 : w.cell? ⟨g, 1, none⟩ = some vb) (oa : va.oneCell' = true) (ob : vb.oneCell' = true) (hn : n ≤ 1000) (hB : B ≤ w.heap.size)
    (h : ∀ v' w', w'.ownsRow B 48 2 v' (n + 1) (cs ++ [va, vb]) → w.grownBy w' v.ownBlock → (v'.ownBlock = v.ownBlock ∨ v'.ownBlock = some w.heap.size) → Kn (a.put o.dst v') w') : o.wp Tryz.prog a w Kn Q := by
  obtain ⟨i0, hti, hy0, hy1, hy2⟩ := info_parts dinfo_exr
  obtain ⟨v', w', hr, r1, r2, -, r4⟩ := run_append_own_at (P := Tryz.prog) w B 40 o.type 48 i0 (.agg #[.slice none 0 0, .slice none 0 0]) 2 48 Tryz.underlying40 hti hy0 hy1 hy2 rfl (by decide) v n cs hown ⟨g, 0, none⟩ 1 1 [va, vb] rfl
    (fun j u hj => by
      rcases j with _ | _ | j
      · simp at hj; subst hj; simpa [Addr.add] using h0
      · simp at hj; subst hj; simpa [Addr.add] using h1
      · simp at hj)
    (fun u hu => by simp only [List.mem_cons, List.not_mem_nil, or_false] at hu; rcases hu with rfl | rfl <;> assumption) (by unfold maxLen; omega) (by omega) hB
  have h2 := h v' w' r1 r2 r4
  simp only [Oper.wp, execOp, ho, resolve, invoke, builtin, Sem.run_bind, Sem.run_pure, Result.andThen_ok, List.map_toArray, List.map_cons, List.map_nil, hs, hx, hr]
  exact h2
end Go.Proofs.YtcaficenocblfaaGreatDoor
