/-
  Texts of this proof, joined: NWalkE NWalkF NWalkG MMath NMath NWalkA NWalkC.
-/
import Derived.Test.YtdfjnbkkdgolnabGreatDoorSH02
import Derived.Test.YtdfjnbkkdgolnabGreatDoorSH03
import Derived.Test.YtdfjnbkkdgolnabGreatDoorSH05
import Derived.Laws.CopyOwn
import Derived.Maps.AppendAt
import Derived.Deep.RegionHeld3
set_option linter.unusedVariables false
set_option linter.unusedSimpArgs false
namespace Go.Proofs.YtdfjnbkkdgolnabGreatDoor
open Go.RowKit

/-- A layer's output, exact. -/
def outS (C : Nat) (f h v : Nat → Int) (u : Nat) : Int := h u * 4294967296 + dotV (fun i => f (u * C + i)) v C
theorem dot_bnd (f g : Nat → Int) (n : Nat) (hf : ∀ k, k < n → -9223372036854775808 ≤ f k ∧ f k ≤ 9223372036854775807) (hg : ∀ k, k < n → -9223372036854775808 ≤ g k ∧ g k ≤ 9223372036854775807) : -(85070591730234615865843651857942052864 * (n : Int)) ≤ dotV f g n ∧ dotV f g n ≤ 85070591730234615865843651857942052864 * (n : Int) := by
  induction n with
  | zero => exact ⟨Int.le_refl _, Int.le_refl _⟩
  | succ n ih =>
    have h1 := ih (fun k hk => hf k (by omega)) (fun k hk => hg k (by omega))
    have h2 := hf n (by omega)
    have h3 := hg n (by omega)
    have h4 := mul_in (f n) (g n) h2.1 h2.2 h3.1 h3.2
    show _ ≤ dotV f g n + f n * g n ∧ dotV f g n + f n * g n ≤ _
    omega
theorem Ar.rng {w : World} {v : Value} {n : Nat} {f : Nat → Int} (h : Ar w v n f) : ∀ k, k < n → -9223372036854775808 ≤ f k ∧ f k ≤ 9223372036854775807 := by
  obtain ⟨_, _, _, _, _, _, _, _, h5⟩ := h
  exact fun k hk => (h5 k hk).2
/-- A part of a list. -/
theorem Ar.part {w : World} {b q n k1 : Nat} {f : Nat → Int} (h : Ar w (.slice (some ⟨b, q, none⟩) n k1) n f) (x y k2 : Nat) (hxy : x + y ≤ n) (hk : y ≤ k2) (hk2 : k2 ≤ maxLen) : Ar w (.slice (some ⟨b, q + x, none⟩) y k2) y (fun i => f (x + i)) := by
  obtain ⟨adr, cap, bb, oo, e, h2, h3, h4, h5⟩ := h
  cases e
  refine ⟨some ⟨b, q + x, none⟩, k2, b, q + x, rfl, hk, hk2, fun _ => rfl, fun i hi => ?_⟩
  have e2 := h4 (by omega)
  cases e2
  rw [Nat.add_assoc]
  exact h5 (x + i) (by omega)
set_option maxRecDepth 100000 in
set_option maxHeartbeats 8000000 in
theorem outputs_any (R C b q k1 : Nat) (f h v : Nat → Int) (adB : Option Addr) (cB : Nat) (va : Value) (p : Option Addr) (c : Int) (hR : R ≤ 64) (hC : C ≤ 64) (hC1 : 1 ≤ C) (c0 : 0 ≤ c) (c1 : c ≤ 800000000) (w : World) (hA : Ar w (.slice (some ⟨b, q, none⟩) (R * C) k1) (R * C) f) (hB : Ar w (.slice adB R cB) R h) (hv : Ar w va C v) (nA : Nv (.slice (some ⟨b, q, none⟩) (R * C) k1) p) (nB : Nv (.slice adB R cB) p) (nv : Nv va p) (hp : Up p c w) (hT : TabAt w) :
    Calls Tryz.prog 26 #[.agg #[.int .i64 (R : Int), .int .i64 (C : Int), .slice (some ⟨b, q, none⟩) (R * C) k1, .slice adB R cB], .pointer p, va] w fun e w' => ∃ g, e = .returned (.slice (some ⟨g, 0, none⟩) R R) ∧ Rw g R (fun k => .int .i64 (clv (rr (outS C f h v k) 32))) w' ∧ w.heap.size ≤ g ∧ Ux p (c + cntV (fun k => ovv (rr (outS C f h v k) 32)) R) w w' := by
  obtain ⟨adv, cv, bv, ov, rfl, v2, v3, v4, v5⟩ := id hv
  obtain ⟨adb', cb', bB, oB, eB, b2, b3, b4, b5⟩ := id hB
  cases eB
  obtain ⟨ada', ca', bA, oA, eA, a2, a3, a4, a5⟩ := id hA
  cases eA
  unfold maxLen at a3
  have HB5 : Hid (∀ k, k < R → adB = some ⟨bB, oB, none⟩ ∧ Nu bB p ∧ w.cell? ⟨bB, oB + k, none⟩ = some (.int .i64 (h k)) ∧ -9223372036854775808 ≤ h k ∧ h k ≤ 9223372036854775807) := fun k hk => by
    have e := b4 (by omega)
    subst e
    exact ⟨rfl, nB.nu (by omega), b5 k hk⟩
  have HUp : Hid (Up p c w) := hp
  have HAll : Hid (Ar w (.slice (some ⟨b, q, none⟩) (R * C) k1) (R * C) f ∧ Nv (.slice (some ⟨b, q, none⟩) (R * C) k1) p ∧ Ar w (.slice adv C cv) C v ∧ Nv (.slice adv C cv) p ∧ TabAt w) := ⟨hA, nA, hv, nv, hT⟩
  have HRow : Hid (∀ (u : Nat) (W : World), u < R → Calls Tryz.prog 49 #[.agg #[.int .i64 (R : Int), .int .i64 (C : Int), .slice (some ⟨b, q, none⟩) (R * C) k1, .slice adB R cB], .int .i64 (u : Int)] W fun e w' => e = .returned (.slice (some ⟨b, q + u * C, none⟩) C (k1 - u * C)) ∧ Below W.heap.size W w') := fun u W hu => row_any R C b q k1 u adB R cB hR hC hC1 hu a2 (by unfold maxLen; omega) W
  have HProd : Hid (∀ (u : Nat) (c2 s0 : Int) (W : World), u < R → Ux p c2 w W → Calls Tryz.prog 48 #[.agg #[.int .i64 (t3 s0), .int .u64 (m3 s0), .int .u64 (lo s0)], .slice (some ⟨b, q + u * C, none⟩) C (k1 - u * C), .slice adv C cv] W fun e w' => e = .returned (.agg #[.int .i64 (t3 (s0 + dotV (fun i => f (u * C + i)) v C)), .int .u64 (m3 (s0 + dotV (fun i => f (u * C + i)) v C)), .int .u64 (lo (s0 + dotV (fun i => f (u * C + i)) v C))]) ∧ Below W.heap.size W w') := fun u c2 s0 W hu hU => by
    have h1 : (u + 1) * C ≤ R * C := Nat.mul_le_mul_right _ hu
    rw [Nat.succ_mul] at h1
    exact wProd_any s0 _ _ C _ v (by omega) W ((hA.ux nA hU).part (u * C) C (k1 - u * C) (by omega) (by omega) (by unfold maxLen; omega)) (hv.ux nv hU)
  have HNear : Hid (∀ (u : Nat) (c2 : Int) (W : World), u < R → 0 ≤ c2 → c2 ≤ 900000000 → Ux p c2 w W → Calls Tryz.prog 47 #[.pointer p, .agg #[.int .i64 (t3 (outS C f h v u)), .int .u64 (m3 (outS C f h v u)), .int .u64 (lo (outS C f h v u))], .int .i64 32] W fun e w' => e = .returned (.int .i64 (clv (rr (outS C f h v u) 32))) ∧ Ux p (c2 + bi (ovv (rr (outS C f h v u) 32))) W w') := fun u c2 W hu h0 h1 hU => by
    have h2 : (u + 1) * C ≤ R * C := Nat.mul_le_mul_right _ hu
    rw [Nat.succ_mul] at h2
    have h3 := dot_bnd (fun i => f (u * C + i)) v C (fun k hk => hA.rng (u * C + k) (by omega)) hv.rng
    have h4 := hB.rng u hu
    have hb : -3138550867693340381917894711603833208051177722232017256448 ≤ outS C f h v u ∧ outS C f h v u ≤ 3138550867693340381917894711603833208051177722232017256447 := by unfold outS; omega
    exact near32_ux _ hb.1 hb.2 p c2 h0 h1 W (hT.ux hp hU) hU.up
  obtain ⟨w1, hw1⟩ : ∃ w1, w1 = w.alloc (.cells #[.int .i64 (R : Int), .int .i64 (C : Int), .slice (some ⟨b, q, none⟩) (R * C) k1, .slice adB R cB] 66) := ⟨_, rfl⟩
  have HB1 : Hid (B4 w.heap.size (.int .i64 (R : Int)) (.int .i64 (C : Int)) (.slice (some ⟨b, q, none⟩) (R * C) k1) (.slice adB R cB) w1) := by rw [hw1]; exact B4.new w _ _ _ _ _
  have hs1 : w1.heap.size = w.heap.size + 1 := by rw [hw1, World.size_alloc]
  obtain ⟨w2, hw2⟩ : ∃ w2, w2 = w1.alloc (.cells (madeCells #[.int .i64 0] R) 32) := ⟨_, rfl⟩
  have HB2 : Hid (B4 w.heap.size (.int .i64 (R : Int)) (.int .i64 (C : Int)) (.slice (some ⟨b, q, none⟩) (R * C) k1) (.slice adB R cB) w2) := by rw [hw2]; exact HB1.out.later (bel1 _ _)
  have HU2 : Hid (Ux p c w w2) := by rw [hw2, hw1]; exact HUp.out.ux (bel2 _ _ _)
  have HR2 : Hid (Rw w1.heap.size R (fun _ => .int .i64 0) w2) := by rw [hw2]; exact Rw.made w1 (.int .i64 0) R 32
  have HNs : Hid (Nu w.heap.size p ∧ Nu (w.heap.size + 1) p ∧ ∀ x, w.heap.size ≤ x → Nu x p) := ⟨HUp.out.lt (Nat.le_refl _), HUp.out.lt (by omega), fun x hx => HUp.out.lt hx⟩
  have hmk := make_fx R (by omega)
  have x3 : (w.alloc (.cells #[.int .i64 (R : Int), .int .i64 (C : Int), .slice (some ⟨b, q, none⟩) (R * C) k1, .slice adB R cB] 66)).cell? ⟨w.heap.size, 3, none⟩ = some (.slice adB R cB) := (B4.new w _ _ _ _ _).c3
  have x3' : w2.cell? ⟨w.heap.size, 3, none⟩ = some (.slice adB R cB) := HB2.out.c3
  rw [hw2, hw1] at x3'
  clear v4 v5 b4 b5 a4 a5 hA hB hv nA nB nv hp hT
  generalize R * C = RC at *
  go_enter Tryz.func26, Tryz.ntmps26
  go_upto_region 3 with fail
  rw [← hw1, ← hw2]
  rw [hs1] at HR2
  clear hw1 hw2 hmk x3 x3' HB1 hs1
  go_loopw [18] (fun si wr => ∃ j : Nat, j ≤ R ∧ si = .int .i64 (j : Int) ∧ Hid (Rw (w.heap.size + 1) R (fun k => if k < j then .int .i64 (clv (rr (outS C f h v k) 32)) else .int .i64 0) wr) ∧ Hid (B4 w.heap.size (.int .i64 (R : Int)) (.int .i64 (C : Int)) (.slice (some ⟨b, q, none⟩) RC k1) (.slice adB R cB) wr) ∧ Hid (Ux p (c + cntV (fun k => ovv (rr (outS C f h v k) 32)) j) w wr)) (fun si _ => R - (intOf si).toNat)
  case atStart => exact ⟨0, by omega, rfl, HR2.out.congr (fun k hk => by simp), HB2, by show Ux p (c + 0) w w2; rw [Int.add_zero]; exact HU2.out⟩
  case round =>
    obtain ⟨j, hj, rfl, HR, HB, HU⟩ := hrel
    by_cases hlt : j < R
    · have hjI : (j : Int) < (R : Int) := by omega
      obtain ⟨rfl, hnB, cO, o0, o1⟩ := HB5.out j hlt
      have cO2 : wr.cell? ⟨bB, oB + j, none⟩ = some (.int .i64 (h j)) := HU.out.cell hnB cO
      have hcn := cnt_rng (fun k => ovv (rr (outS C f h v k) 32)) j
      obtain ⟨cj, hcj⟩ : ∃ cj, c + cntV (fun k => ovv (rr (outS C f h v k) 32)) j = cj := ⟨_, rfl⟩
      have HU' : Hid (Ux p cj w wr) := by rw [← hcj]; exact HU.out
      have Hcj : Hid (cj + bi (ovv (rr (outS C f h v j) 32)) = c + cntV (fun k => ovv (rr (outS C f h v k) 32)) (j + 1)) := by
        show _ = c + (cntV (fun k => ovv (rr (outS C f h v k) 32)) j + _)
        rw [← hcj]
        first | exact (Int.add_assoc _ _ _) | rfl | omega
      have cj0 : 0 ≤ cj ∧ cj ≤ 800000100 := by omega
      have C1 : Hid (∀ W : World, Calls Tryz.prog 46 #[.int .i64 (h j)] W fun e w' => e = .returned (.agg #[.int .i64 (hi (h j)), .int .u64 (lo (h j))]) ∧ Below W.heap.size W w') := fun W => of_any (h j) o0 o1 W
      have C2 : Hid (∀ W : World, Calls Tryz.prog 45 #[.agg #[.int .i64 (hi (h j)), .int .u64 (lo (h j))], .int .i64 32] W fun e w' => e = .returned (.agg #[.int .i64 (hi (h j * 4294967296)), .int .u64 (lo (h j * 4294967296))]) ∧ Below W.heap.size W w') := fun W => shl_any (h j) 32 (by omega) W
      have C3 : Hid (∀ W : World, Calls Tryz.prog 44 #[.agg #[.int .i64 (hi (h j * 4294967296)), .int .u64 (lo (h j * 4294967296))]] W fun e w' => e = .returned (.agg #[.int .i64 (t3 (h j * 4294967296)), .int .u64 (m3 (h j * 4294967296)), .int .u64 (lo (h j * 4294967296))]) ∧ Below W.heap.size W w') := fun W => extend_any (h j * 4294967296) (by omega) (by omega) W
      have CRw := fun W => HRow.out j W hlt
      have CPr := fun W => HProd.out j cj (h j * 4294967296) W hlt
      have CNr := fun W => HNear.out j cj W hlt cj0.1 (by omega)
      have eS : h j * 4294967296 + dotV (fun i => f (j * C + i)) v C = outS C f h v j := rfl
      rw [eS] at CPr
      replace CRw : Hid _ := CRw
      replace CPr : Hid _ := CPr
      replace CNr : Hid _ := CNr
      clear cO hcn hcj HU eS o0 o1
      generalize hi (h j) = a1 at *
      generalize lo (h j) = a2 at *
      generalize hi (h j * 4294967296) = a3 at *
      generalize lo (h j * 4294967296) = a4 at *
      generalize t3 (h j * 4294967296) = a5 at *
      generalize m3 (h j * 4294967296) = a6 at *
      go_wp2_with fail
      refine (C1.out _).mono ?_
      rintro e w3 ⟨rfl, h3⟩
      go_wp2_with fail
      refine (C2.out _).mono ?_
      rintro e w4 ⟨rfl, h4⟩
      go_wp2_with fail
      refine (C3.out _).mono ?_
      rintro e w5 ⟨rfl, h5⟩
      have HW5 : Hid (Below wr.heap.size wr w5) := bchain (bchain h3 h4) h5
      clear h3 h4 h5 C1 C2 C3 cO2
      obtain ⟨w6, hw6⟩ : ∃ w6, w6 = w5.alloc (.cells #[.int .i64 a5, .int .u64 a6, .int .u64 a4] 95) := ⟨_, rfl⟩
      have hs5 : wr.heap.size ≤ w5.heap.size := HW5.out.size
      have hswr : w.heap.size + 1 < wr.heap.size := World.block_lt_of_cell? _ _ (HR.out.c j hlt)
      have HE : B3 w5.heap.size (.int .i64 a5) (.int .u64 a6) (.int .u64 a4) w6 := by rw [hw6]; exact B3.new w5 _ _ _ _
      have HW6 : Below wr.heap.size wr w6 := by rw [hw6]; exact bchain HW5.out (bel1 _ _)
      go_upto_region 6 with fail
      rw [← hw6]
      have hbD : Below w6.heap.size w6 w6.drew := (Below.refl _ _).drew
      replace HE := HE.later hbD
      have HBd := (HB.out.later HW6).later hbD
      have HRd : Hid (Rw (w.heap.size + 1) R (fun k => if k < j then .int .i64 (clv (rr (outS C f h v k) 32)) else .int .i64 0) w6.drew) := (HR.out.later HW6).later hbD
      have HUd : Hid (Ux p cj w w6.drew) := (HU'.out.later HW6).later hbD
      obtain ⟨g5, hg5⟩ : ∃ g, w5.heap.size = g := ⟨_, rfl⟩
      rw [hg5] at HE hs5 ⊢
      have hn5 : Nu g5 p := HNs.out.2.2 g5 (by omega)
      have hg5' : w.heap.size + 1 < g5 := by omega
      clear hw6 hg5 HW6 hbD HB HR HU' HW5
      refine wp_region_held_drew (S := fun W' => W'.cell? ⟨g5, 0, none⟩ = some (.int .i64 a5) ∧ W'.cell? ⟨g5, 1, none⟩ = some (.int .u64 a6) ∧ W'.cell? ⟨g5, 2, none⟩ = some (.int .u64 a4) ∧ W'.cell? ⟨w.heap.size, 0, none⟩ = some (.int .i64 (R : Int)) ∧ W'.cell? ⟨w.heap.size, 1, none⟩ = some (.int .i64 (C : Int)) ∧ W'.cell? ⟨w.heap.size, 2, none⟩ = some (.slice (some ⟨b, q, none⟩) RC k1) ∧ W'.cell? ⟨w.heap.size, 3, none⟩ = some (.slice (some ⟨bB, oB, none⟩) R cB)) (by kernel_rfl) ⟨HE.c0, HE.c1, HE.c2, HBd.c0, HBd.c1, HBd.c2, HBd.c3⟩ (fun HS => ?_)
      generalize w6.drew = wd at *
      refine wpAnyH_take (i := 0) (v := ?v1) rfl (by kernel_rfl) (by kernel_rfl) (by kernel_rfl) (fun _ _ _ h => h) (Or.inl ⟨by kernel_rfl, ?h1⟩) HS ?r1
      case h1 => (rintro w ⟨e0, e1, e2, x0, x1, x2, x3⟩; go_simp) <;> with_reducible rfl
      try simp only [Act.put, List.getElem_toArray, List.getElem_cons_succ, List.getElem_cons_zero, List.setIfInBounds_toArray, List.set_cons_zero, List.set_cons_succ]
      refine wpAnyH_take (i := 1) (v := ?v2) rfl (by kernel_rfl) (by kernel_rfl) (by kernel_rfl) (fun _ _ _ h => h) (Or.inl ⟨by kernel_rfl, ?h2⟩) HS ?r2
      case h2 => (rintro w ⟨e0, e1, e2, x0, x1, x2, x3⟩; go_simp) <;> with_reducible rfl
      try simp only [Act.put, List.getElem_toArray, List.getElem_cons_succ, List.getElem_cons_zero, List.setIfInBounds_toArray, List.set_cons_zero, List.set_cons_succ]
      refine wpAnyH_take (i := 2) (v := ?v3) rfl (by kernel_rfl) (by kernel_rfl) (by kernel_rfl) (fun _ _ _ h => h) (Or.inl ⟨by kernel_rfl, ?h3⟩) HS ?r3
      case h3 => (rintro w ⟨e0, e1, e2, x0, x1, x2, x3⟩; go_simp) <;> with_reducible rfl
      try simp only [Act.put, List.getElem_toArray, List.getElem_cons_succ, List.getElem_cons_zero, List.setIfInBounds_toArray, List.set_cons_zero, List.set_cons_succ]
      refine wpAnyH_take (i := 3) (v := ?v4) rfl (by kernel_rfl) (by kernel_rfl) (by kernel_rfl) (fun _ _ _ h => h) (Or.inl ⟨by kernel_rfl, ?h4⟩) HS ?r4
      case h4 => (rintro w ⟨e0, e1, e2, x0, x1, x2, x3⟩; go_simp) <;> with_reducible rfl
      try simp only [Act.put, List.getElem_toArray, List.getElem_cons_succ, List.getElem_cons_zero, List.setIfInBounds_toArray, List.set_cons_zero, List.set_cons_succ]
      refine wpAnyH_take (i := 4) (v := ?v5) rfl (by kernel_rfl) (by kernel_rfl) (by kernel_rfl) (fun _ _ _ h => h) (Or.inl ⟨by kernel_rfl, ?h5⟩) HS ?r5
      case h5 => (rintro w ⟨e0, e1, e2, x0, x1, x2, x3⟩; go_simp) <;> with_reducible rfl
      try simp only [Act.put, List.getElem_toArray, List.getElem_cons_succ, List.getElem_cons_zero, List.setIfInBounds_toArray, List.set_cons_zero, List.set_cons_succ]
      refine wpAnyH_take (i := 5) (v := ?v6) rfl (by kernel_rfl) (by kernel_rfl) (by kernel_rfl) (fun _ _ _ h => h) (Or.inl ⟨by kernel_rfl, ?h6⟩) HS ?r6
      case h6 => (rintro w ⟨e0, e1, e2, x0, x1, x2, x3⟩; go_simp) <;> with_reducible rfl
      try simp only [Act.put, List.getElem_toArray, List.getElem_cons_succ, List.getElem_cons_zero, List.setIfInBounds_toArray, List.set_cons_zero, List.set_cons_succ]
      refine wpAnyH_take (i := 7) (v := ?v7) rfl (by kernel_rfl) (by kernel_rfl) (by kernel_rfl) (fun _ _ _ h => h) (Or.inl ⟨by kernel_rfl, ?h7⟩) HS ?r7
      case h7 => (rintro w ⟨e0, e1, e2, x0, x1, x2, x3⟩; go_simp) <;> with_reducible rfl
      try simp only [Act.put, List.getElem_toArray, List.getElem_cons_succ, List.getElem_cons_zero, List.setIfInBounds_toArray, List.set_cons_zero, List.set_cons_succ]
      refine wpAnyH_ready (rs := [6]) (by kernel_rfl) (by simp) ?_
      refine AllReadyH.cons rfl (fun K hK => ?_) AllReadyH.nil
      go_simp
      refine (CRw.out _).mono ?_
      rintro e w7 ⟨rfl, h7⟩
      refine hK.out _ _ ⟨cell_later h7 HE.c0, cell_later h7 HE.c1, cell_later h7 HE.c2, cell_later h7 HBd.c0, cell_later h7 HBd.c1, cell_later h7 HBd.c2, cell_later h7 HBd.c3⟩ (fun HS => ?_)
      clear hK K
      replace HE := HE.later h7
      replace HBd := HBd.later h7
      have HR7 : Hid (Rw (w.heap.size + 1) R (fun k => if k < j then .int .i64 (clv (rr (outS C f h v k) 32)) else .int .i64 0) w7) := HRd.out.later h7
      have HU7 : Hid (Ux p cj w w7) := HUd.out.later h7
      clear h7 HRd HUd CRw
      refine wpAnyH_ready (rs := [8]) (by kernel_rfl) (by simp) ?_
      refine AllReadyH.cons rfl (fun K hK => ?_) AllReadyH.nil
      go_simp
      refine (CPr.out _ HU7.out).mono ?_
      rintro e w8 ⟨rfl, h8⟩
      refine hK.out _ _ ⟨cell_later h8 HE.c0, cell_later h8 HE.c1, cell_later h8 HE.c2, cell_later h8 HBd.c0, cell_later h8 HBd.c1, cell_later h8 HBd.c2, cell_later h8 HBd.c3⟩ (fun HS => ?_)
      clear hK K
      replace HE := HE.later h8
      replace HBd := HBd.later h8
      have HR8 : Hid (Rw (w.heap.size + 1) R (fun k => if k < j then .int .i64 (clv (rr (outS C f h v k) 32)) else .int .i64 0) w8) := HR7.out.later h8
      have HU8 : Hid (Ux p cj w w8) := HU7.out.later h8
      clear h8 HR7 HU7 CPr
      refine wpAnyH_ready (rs := [9]) (by kernel_rfl) (by simp) ?_
      refine AllReadyH.cons rfl (fun K hK => ?_) AllReadyH.nil
      go_simp
      refine (CNr.out _ HU8.out).mono ?_
      rintro e w9 ⟨rfl, h9⟩
      have HE9 := And.intro (h9.cell hn5 HE.c0) (And.intro (h9.cell hn5 HE.c1) (h9.cell hn5 HE.c2))
      have HB9 := HBd.ux HNs.out.1 h9
      refine hK.out _ _ ⟨HE9.1, HE9.2.1, HE9.2.2, HB9.c0, HB9.c1, HB9.c2, HB9.c3⟩ (fun HS => ?_)
      clear hK K HE HBd
      have HR9 : Hid (Rw (w.heap.size + 1) R (fun k => if k < j then .int .i64 (clv (rr (outS C f h v k) 32)) else .int .i64 0) w9) := HR8.out.ux HNs.out.2.1 h9
      have HU9 : Hid (Ux p (c + cntV (fun k => ovv (rr (outS C f h v k) 32)) (j + 1)) w w9) := by rw [← Hcj.out]; exact HU8.out.chain h9
      have cz : w9.cell? ⟨w.heap.size + 1, j, none⟩ = some (.int .i64 0) := by have := HR9.out.c j hlt; rw [if_neg (by omega)] at this; exact this
      have fz := HR9.out.f j hlt
      clear h9 HR8 HU8 CNr Hcj
      obtain ⟨RX, hRX⟩ : ∃ r, clv (rr (outS C f h v j) 32) = r := ⟨_, rfl⟩
      have HRX : Hid (clv (rr (outS C f h v j) 32) = RX) := hRX
      rw [hRX]
      clear hRX
      refine wpAnyH_take (i := 10) (v := ?v8) rfl (by kernel_rfl) (by kernel_rfl) (by kernel_rfl) (fun _ _ _ h => h) (Or.inl ⟨by kernel_rfl, ?h8⟩) HS ?r8
      case h8 => (rintro w ⟨e0, e1, e2, x0, x1, x2, x3⟩; go_simp) <;> with_reducible rfl
      try simp only [Act.put, List.getElem_toArray, List.getElem_cons_succ, List.getElem_cons_zero, List.setIfInBounds_toArray, List.set_cons_zero, List.set_cons_succ]
      refine wpAnyH_ready (rs := [11]) (by kernel_rfl) (by simp) ?_
      refine AllReadyH.cons rfl (fun K hK => ?_) AllReadyH.nil
      go_simp
      have HB10 := HB9.far (a := ⟨w.heap.size + 1, j, none⟩) (.int .i64 RX) (by dsimp only; omega)
      refine hK.out _ _ ⟨cell_set (by dsimp only; omega) HE9.1, cell_set (by dsimp only; omega) HE9.2.1, cell_set (by dsimp only; omega) HE9.2.2, HB10.c0, HB10.c1, HB10.c2, HB10.c3⟩ (fun HS => ?_)
      clear hK K HS HE9 HB9
      refine wpAnyH_done (by kernel_rfl) ?_ _
      have HR10 : Hid (Rw (w.heap.size + 1) R (fun k => if k < j + 1 then .int .i64 (clv (rr (outS C f h v k) 32)) else .int .i64 0) (w9.setCell ⟨w.heap.size + 1, j, none⟩ (.int .i64 RX))) := (HR9.out.set j (.int .i64 RX)).congr (fun k hk => by
        by_cases e : k = j
        · subst e; simp [HRX.out]
        · rw [if_neg e]
          by_cases e2 : k < j
          · rw [if_pos e2, if_pos (by omega)]
          · rw [if_neg e2, if_neg (by omega)])
      have HB11 : Hid (B4 w.heap.size (.int .i64 (R : Int)) (.int .i64 (C : Int)) (.slice (some ⟨b, q, none⟩) RC k1) (.slice (some ⟨bB, oB, none⟩) R cB) (w9.setCell ⟨w.heap.size + 1, j, none⟩ (.int .i64 RX))) := HB10
      have HU10 : Hid (Ux p (c + cntV (fun k => ovv (rr (outS C f h v k) 32)) (j + 1)) w (w9.setCell ⟨w.heap.size + 1, j, none⟩ (.int .i64 RX))) := HU9.out.far _ (by dsimp only; omega)
      clear HR9 HU9 HB10 cz fz
      generalize w9.setCell ⟨w.heap.size + 1, j, none⟩ (.int .i64 RX) = wf at *
      go_wp2
      go_roundw
      case rel => exact ⟨j + 1, by omega, by go_num, HR10, HB11, HU10⟩
      case measure => simp [intOf]; omega
    · obtain rfl : j = R := by omega
      have hjI : ¬ (j : Int) < (j : Int) := by omega
      have HRf : Hid (Rw (w.heap.size + 1) j (fun k => .int .i64 (clv (rr (outS C f h v k) 32))) wr) := HR.out.congr (fun k hk => by rw [if_pos hk])
      clear HR
      go_wp2
      go_ret
      exact ⟨_, rfl, HRf.out, by omega, HU.out⟩
end Go.Proofs.YtdfjnbkkdgolnabGreatDoor
set_option linter.unusedVariables false
set_option linter.unusedSimpArgs false
namespace Go.Proofs.YtdfjnbkkdgolnabGreatDoor
open Go.RowKit

/-- The slope at a value ahead of a layer, and whether it is held. -/
def slaX (R C : Nat) (f s v : Nat → Int) (i : Nat) : Int := if 0 < v i then clv (rr (dotV s (fun u => f (u * C + i)) R) 32) else 0
def slaO (R C : Nat) (f s v : Nat → Int) (i : Nat) : Bool := if 0 < v i then ovv (rr (dotV s (fun u => f (u * C + i)) R) 32) else false
theorem slaX_rng (R C : Nat) (f s v : Nat → Int) (i : Nat) : -9223372036854775808 ≤ slaX R C f s v i ∧ slaX R C f s v i ≤ 9223372036854775807 := by
  unfold slaX
  split
  · exact clv_rng _
  · omega
set_option maxRecDepth 100000 in
set_option maxHeartbeats 8000000 in
theorem slopesAhead_any (R C b q k1 : Nat) (f s v : Nat → Int) (adB : Option Addr) (nB cB : Nat) (vs va : Value) (p : Option Addr) (c : Int) (hR : R ≤ 64) (hC : C ≤ 64) (c0 : 0 ≤ c) (c1 : c ≤ 700000000) (w : World) (hA : Ar w (.slice (some ⟨b, q, none⟩) (R * C) k1) (R * C) f) (hs : Ar w vs R s) (hv : Ar w va C v) (nA : Nv (.slice (some ⟨b, q, none⟩) (R * C) k1) p) (ns : Nv vs p) (nv : Nv va p) (hp : Up p c w) (hT : TabAt w) :
    Calls Tryz.prog 31 #[.agg #[.int .i64 (R : Int), .int .i64 (C : Int), .slice (some ⟨b, q, none⟩) (R * C) k1, .slice adB nB cB], .pointer p, vs, va] w fun e w' => ∃ g, e = .returned (.slice (some ⟨g, 0, none⟩) C C) ∧ Ar w' (.slice (some ⟨g, 0, none⟩) C C) C (slaX R C f s v) ∧ w.heap.size ≤ g ∧ Ux p (c + cntV (slaO R C f s v) C) w w' := by
  obtain ⟨adv, cv, bv, ov, rfl, v2, v3, v4, v5⟩ := id hv
  obtain ⟨ads, cs, bs, os, rfl, s2, s3, s4, s5⟩ := id hs
  have HV5 : Hid (∀ k, k < C → adv = some ⟨bv, ov, none⟩ ∧ Nu bv p ∧ w.cell? ⟨bv, ov + k, none⟩ = some (.int .i64 (v k))) := fun k hk => by
    have e := v4 (by omega)
    subst e
    exact ⟨rfl, nv.nu (by omega), (v5 k hk).1⟩
  have HUp : Hid (Up p c w) := hp
  have HCol : Hid (∀ (i : Nat) (c2 : Int) (W : World), i < C → Ux p c2 w W → Calls Tryz.prog 54 #[.agg #[.int .i64 (R : Int), .int .i64 (C : Int), .slice (some ⟨b, q, none⟩) (R * C) k1, .slice adB nB cB], .int .i64 (i : Int)] W fun e w' => ∃ g, e = .returned (.slice (some ⟨g, 0, none⟩) R R) ∧ Ar w' (.slice (some ⟨g, 0, none⟩) R R) R (fun u => f (u * C + i)) ∧ W.heap.size ≤ g ∧ Below W.heap.size W w') := fun i c2 W hi hU => column_any R C b q k1 i f adB nB cB hR hC hi W (hA.ux nA hU)
  have HDot : Hid (∀ (i g : Nat) (c2 : Int) (W : World), 0 ≤ c2 → c2 ≤ 800000000 → Ux p c2 w W → Ar W (.slice (some ⟨g, 0, none⟩) R R) R (fun u => f (u * C + i)) → w.heap.size ≤ g → Calls Tryz.prog 53 #[.pointer p, .slice ads R cs, .slice (some ⟨g, 0, none⟩) R R] W fun e w' => e = .returned (.tuple #[.int .i64 (clv (rr (dotV s (fun u => f (u * C + i)) R) 32)), .int .i64 0]) ∧ Ux p (c2 + bi (ovv (rr (dotV s (fun u => f (u * C + i)) R) 32))) W w') := fun i g c2 W h0 h1 hU hG hg => dot_ux _ _ R s _ (by omega) p c2 h0 h1 W (hT.ux hp hU) (hs.ux ns hU) hG ns ((hp.lt hg).nv _ _ _) hU.up
  obtain ⟨w1, hw1⟩ : ∃ w1, w1 = w.alloc (.cells #[.int .i64 (R : Int), .int .i64 (C : Int), .slice (some ⟨b, q, none⟩) (R * C) k1, .slice adB nB cB] 66) := ⟨_, rfl⟩
  have HB1 : Hid (B4 w.heap.size (.int .i64 (R : Int)) (.int .i64 (C : Int)) (.slice (some ⟨b, q, none⟩) (R * C) k1) (.slice adB nB cB) w1) := by rw [hw1]; exact B4.new w _ _ _ _ _
  have hs1 : w1.heap.size = w.heap.size + 1 := by rw [hw1, World.size_alloc]
  obtain ⟨w2, hw2⟩ : ∃ w2, w2 = w1.alloc (.cells (madeCells #[.int .i64 0] C) 32) := ⟨_, rfl⟩
  have HB2 : Hid (B4 w.heap.size (.int .i64 (R : Int)) (.int .i64 (C : Int)) (.slice (some ⟨b, q, none⟩) (R * C) k1) (.slice adB nB cB) w2) := by rw [hw2]; exact HB1.out.later (bel1 _ _)
  have HU2 : Hid (Ux p c w w2) := by rw [hw2, hw1]; exact HUp.out.ux (bel2 _ _ _)
  have HR2 : Hid (Rw w1.heap.size C (fun _ => .int .i64 0) w2) := by rw [hw2]; exact Rw.made w1 (.int .i64 0) C 32
  have HNs : Hid (Nu w.heap.size p ∧ Nu (w.heap.size + 1) p) := ⟨HUp.out.lt (Nat.le_refl _), HUp.out.lt (by omega)⟩
  have hmk := make_fx C (by omega)
  clear v4 v5 s4 s5 hA hs hv nA ns nv hp hT
  generalize R * C = RC at *
  go_enter Tryz.func31, Tryz.ntmps31
  go_upto_region 3 with fail
  rw [← hw1, ← hw2]
  rw [hs1] at HR2
  clear hw1 hw2 hmk HB1 hs1
  go_loopw [17] (fun si wr => ∃ j : Nat, j ≤ C ∧ si = .int .i64 (j : Int) ∧ Hid (Rw (w.heap.size + 1) C (fun k => if k < j then .int .i64 (slaX R C f s v k) else .int .i64 0) wr) ∧ Hid (B4 w.heap.size (.int .i64 (R : Int)) (.int .i64 (C : Int)) (.slice (some ⟨b, q, none⟩) RC k1) (.slice adB nB cB) wr) ∧ Hid (Ux p (c + cntV (slaO R C f s v) j) w wr)) (fun si _ => C - (intOf si).toNat)
  case atStart => exact ⟨0, by omega, rfl, HR2.out.congr (fun k hk => by simp), HB2, by show Ux p (c + 0) w w2; rw [Int.add_zero]; exact HU2.out⟩
  case round =>
    obtain ⟨j, hj, rfl, HR, HB, HU⟩ := hrel
    by_cases hlt : j < C
    · have hjI : (j : Int) < (C : Int) := by omega
      obtain ⟨rfl, hnv, cO⟩ := HV5.out j hlt
      have cO2 : wr.cell? ⟨bv, ov + j, none⟩ = some (.int .i64 (v j)) := HU.out.cell hnv cO
      have hcn := cnt_rng (slaO R C f s v) j
      obtain ⟨cj, hcj⟩ : ∃ cj, c + cntV (slaO R C f s v) j = cj := ⟨_, rfl⟩
      have HU' : Hid (Ux p cj w wr) := by rw [← hcj]; exact HU.out
      have Hcj : Hid (cj + bi (slaO R C f s v j) = c + cntV (slaO R C f s v) (j + 1)) := by
        show _ = c + (cntV (slaO R C f s v) j + _)
        rw [← hcj]
        first | exact (Int.add_assoc _ _ _) | rfl | omega
      have cj0 : 0 ≤ cj ∧ cj ≤ 800000000 := by omega
      clear cO hcn hcj HU
      by_cases hpos : 0 < v j
      · have eX : slaX R C f s v j = clv (rr (dotV s (fun u => f (u * C + j)) R) 32) := by unfold slaX; rw [if_pos hpos]
        have eO : slaO R C f s v j = ovv (rr (dotV s (fun u => f (u * C + j)) R) 32) := by unfold slaO; rw [if_pos hpos]
        have CC := HCol.out j cj wr hlt HU'.out
        have CD := fun g W => HDot.out j g cj W cj0.1 cj0.2
        rw [← eX, ← eO] at CD
        replace CD : Hid _ := CD
        have HEX : Hid (slaX R C f s v j = slaX R C f s v j) := rfl
        clear eX eO
        obtain ⟨RX, hRX⟩ : ∃ r, slaX R C f s v j = r := ⟨_, rfl⟩
        have HRX : Hid (slaX R C f s v j = RX) := hRX
        rw [hRX] at CD
        clear hRX HEX
        have x0 := HB.out.c0
        have x1 := HB.out.c1
        have x2 := HB.out.c2
        have x3 := HB.out.c3
        go_wp2_with fail
        refine CC.mono ?_
        rintro e w3 ⟨g3, rfl, hA3, hg3, h3⟩
        have HU3 : Hid (Ux p cj w w3) := HU'.out.later h3
        have CE := CD.out g3 w3 HU3.out hA3 (by have := HU'.out.size; omega)
        have HB3 : Hid (B4 w.heap.size (.int .i64 (R : Int)) (.int .i64 (C : Int)) (.slice (some ⟨b, q, none⟩) RC k1) (.slice adB nB cB) w3) := HB.out.later h3
        have HR3 : Hid (Rw (w.heap.size + 1) C (fun k => if k < j then .int .i64 (slaX R C f s v k) else .int .i64 0) w3) := HR.out.later h3
        clear CC CD x0 x1 x2 x3 h3 hA3 HB HR HU' cO2
        go_wp2_with fail
        refine CE.mono ?_
        rintro e w4 ⟨rfl, h4⟩
        have HB4 : Hid (B4 w.heap.size (.int .i64 (R : Int)) (.int .i64 (C : Int)) (.slice (some ⟨b, q, none⟩) RC k1) (.slice adB nB cB) w4) := HB3.out.ux HNs.out.1 h4
        have HR4 : Hid (Rw (w.heap.size + 1) C (fun k => if k < j then .int .i64 (slaX R C f s v k) else .int .i64 0) w4) := HR3.out.ux HNs.out.2 h4
        have HU4 : Hid (Ux p (c + cntV (slaO R C f s v) (j + 1)) w w4) := by rw [← Hcj.out]; exact HU3.out.chain h4
        have cz : w4.cell? ⟨w.heap.size + 1, j, none⟩ = some (.int .i64 0) := by have := HR4.out.c j hlt; rw [if_neg (by omega)] at this; exact this
        have fz := HR4.out.f j hlt
        have HR10 : Hid (Rw (w.heap.size + 1) C (fun k => if k < j + 1 then .int .i64 (slaX R C f s v k) else .int .i64 0) (w4.setCell ⟨w.heap.size + 1, j, none⟩ (.int .i64 RX))) := (HR4.out.set j (.int .i64 RX)).congr (fun k hk => by
          by_cases e : k = j
          · subst e; simp [HRX.out]
          · rw [if_neg e]
            by_cases e2 : k < j
            · rw [if_pos e2, if_pos (by omega)]
            · rw [if_neg e2, if_neg (by omega)])
        have HB11 : Hid (B4 w.heap.size (.int .i64 (R : Int)) (.int .i64 (C : Int)) (.slice (some ⟨b, q, none⟩) RC k1) (.slice adB nB cB) (w4.setCell ⟨w.heap.size + 1, j, none⟩ (.int .i64 RX))) := HB4.out.far _ (by dsimp only; omega)
        have HU10 : Hid (Ux p (c + cntV (slaO R C f s v) (j + 1)) w (w4.setCell ⟨w.heap.size + 1, j, none⟩ (.int .i64 RX))) := HU4.out.far _ (by dsimp only; omega)
        clear CE h4 HB3 HR3 HU3 HB4 HR4 HU4
        go_wp2
        go_roundw
        case rel => exact ⟨j + 1, by omega, by go_num, HR10, HB11, HU10⟩
        case measure => simp [intOf]; omega
      · have eX : slaX R C f s v j = 0 := by unfold slaX; rw [if_neg hpos]
        have eO : slaO R C f s v j = false := by unfold slaO; rw [if_neg hpos]
        have HR10 : Hid (Rw (w.heap.size + 1) C (fun k => if k < j + 1 then .int .i64 (slaX R C f s v k) else .int .i64 0) wr) := HR.out.congr (fun k hk => by
          by_cases e2 : k < j
          · rw [if_pos e2, if_pos (by omega)]
          · rw [if_neg e2]
            by_cases e : k = j
            · subst e; rw [if_pos (by omega), eX]
            · rw [if_neg (by omega)])
        have HU10 : Hid (Ux p (c + cntV (slaO R C f s v) (j + 1)) w wr) := by
          rw [← Hcj.out, eO]
          show Ux p (cj + 0) w wr
          rw [Int.add_zero]
          exact HU'.out
        clear HR eX eO HU' Hcj
        go_wp2
        go_roundw
        case rel => exact ⟨j + 1, by omega, by go_num, HR10, HB, HU10⟩
        case measure => simp [intOf]; omega
    · obtain rfl : j = C := by omega
      have hjI : ¬ (j : Int) < (j : Int) := by omega
      have hAr : Hid (Ar wr (.slice (some ⟨w.heap.size + 1, 0, none⟩) j j) j (slaX R j f s v)) := (HR.out.congr (fun k hk => by rw [if_pos hk])).ar (by omega) (fun k _ => slaX_rng _ _ _ _ _ _)
      clear HR
      go_wp2
      go_ret
      exact ⟨_, rfl, hAr.out, by omega, HU.out⟩
end Go.Proofs.YtdfjnbkkdgolnabGreatDoor
set_option linter.unusedVariables false
set_option linter.unusedSimpArgs false
namespace Go.Proofs.YtdfjnbkkdgolnabGreatDoor
open Go.RowKit

/-- What is left behind a call that counts and writes into one block. -/
structure Uy (p : Option Addr) (c : Int) (g : Nat) (w w' : World) : Prop where
  up : Up p c w'
  base : ∀ (w0 : World) (c0 : Int), Ux p c0 w0 w → w0.heap.size ≤ g → Ux p c w0 w'
  blk : ∀ i, i < w.heap.size → i ≠ g → Nu i p → w'.heap[i]? = w.heap[i]?
  size : w.heap.size ≤ w'.heap.size
theorem Ux.uy {p : Option Addr} {c : Int} {w w' : World} (h : Ux p c w w') (g : Nat) : Uy p c g w w' := ⟨h.up, fun w0 c0 h0 _ => h0.chain h, fun i hi _ hn => h.blk hi hn, h.size⟩
theorem Up.far {p : Option Addr} {c : Int} {w : World} (h : Up p c w) {a : Addr} (u : Value) (ha : Nu a.block p) : Up p c (w.setCell a u) := by
  rcases h with h | ⟨d, h, hc⟩
  · exact Or.inl h
  · exact Or.inr ⟨d, h, cell_set (ha d h) hc.1, by rw [World.frozen?_setCell]; exact hc.2⟩
theorem Uy.set {p : Option Addr} {c : Int} {g : Nat} {w w1 : World} (h : Uy p c g w w1) (hg : Nu g p) (k : Nat) (u : Value) : Uy p c g w (w1.setCell ⟨g, k, none⟩ u) where
  up := h.up.far u hg
  base := fun w0 c0 h0 hb => (h.base w0 c0 h0 hb).far u hb
  blk := fun i hi hn hu => (Below.heap_setCell _ _ _ _ (fun e => hn (by first | exact e | exact e.symm))).trans (h.blk i hi hn hu)
  size := by rw [World.size_setCell]; exact h.size
theorem Uy.sets {p : Option Addr} {c : Int} {g : Nat} {w : World} (hg : Nu g p) : ∀ (cs : List Value) (o : Nat) (w1 : World), Uy p c g w w1 → Uy p c g w (w1.setCells g o cs)
  | [], _, _, h => h
  | v :: r, o, w1, h => Uy.sets hg r (o + 1) (w1.setCell ⟨g, o, none⟩ v) (h.set hg o v)
theorem Uy.chain {p : Option Addr} {c c' : Int} {g : Nat} {w w1 w2 : World} (h : Uy p c g w w1) (k : Uy p c' g w1 w2) : Uy p c' g w w2 where
  up := k.up
  base := fun w0 c0 h0 hb => k.base w0 c (h.base w0 c0 h0 hb) hb
  blk := fun i hi hn hu => (k.blk i (by have := h.size; omega) hn hu).trans (h.blk i hi hn hu)
  size := Nat.le_trans h.size k.size
theorem Uy.cell {p : Option Addr} {c : Int} {g : Nat} {w w' : World} (h : Uy p c g w w') {a : Addr} {v : Value} (hg : a.block ≠ g) (hn : Nu a.block p) (hc : w.cell? a = some v) : w'.cell? a = some v :=
  (World.cell?_of_block (w := w) (h.blk _ (World.block_lt_of_cell? _ _ hc) hg hn)).trans hc
theorem Ar.uy {w w' : World} {v : Value} {n : Nat} {f : Nat → Int} {p : Option Addr} {c : Int} {g : Nat} (h : Ar w v n f) (hn : Nv v p) (hg : Nb v g) (hU : Uy p c g w w') : Ar w' v n f := by
  obtain ⟨adr, cap, b, o, h1, h2, h3, h4, h5⟩ := h
  refine ⟨adr, cap, b, o, h1, h2, h3, h4, fun k hk => ⟨hU.cell ?_ ?_ (h5 k hk).1, (h5 k hk).2⟩⟩
  · have e := h4 (by omega)
    subst e
    exact hg ⟨b, o, none⟩ n cap h1 (by omega)
  · have e := h4 (by omega)
    subst e
    subst h1
    exact hn.nu (by omega)
theorem Rw.sets {b n : Nat} : ∀ (cs : List Value) (o : Nat) (h : Nat → Value) (w : World), Rw b n h w → Rw b n (fun k => if o ≤ k ∧ k < o + cs.length then (cs[k - o]?).getD undef else h k) (w.setCells b o cs)
  | [], o, h, w, r => r.congr (fun k _ => by rw [if_neg (by simp)])
  | v :: cs, o, h, w, r => (Rw.sets cs (o + 1) _ (w.setCell ⟨b, o, none⟩ v) (r.set o v)).congr (fun k _ => by
      by_cases h1 : k = o
      · subst h1
        rw [if_neg (by omega), if_pos rfl, if_pos (by simp), Nat.sub_self]
        rfl
      · by_cases h2 : o + 1 ≤ k ∧ k < o + 1 + cs.length
        · rw [if_pos h2, if_pos (by simp; omega), show k - o = (k - (o + 1)) + 1 by omega]
          rfl
        · rw [if_neg h2, if_neg h1, if_neg (by simp; omega)])
theorem wpList_copy_rw {P : Program} {w : World} {ops : Array Oper} {rest : List Oper} {o : Oper} {a : Act} {Q : Exit → Act → World → Prop} (hgd : o.guard = none) (d s : Operand) (dT sT : TypeId)
    (ho : o.op = .call { callee := .builtin .copy, args := #[d, s], argTypes := #[dT, sT] }) (elem : TypeId) (hu : P.underlying dT = some (.slice elem)) (hsz : (P.info? elem).map (·.size) = some 1)
    (b off dLen dCap : Nat) (ad : Addr) (sLen sCap : Nat) (hd : a.eval d = .slice (some ⟨b, off, none⟩) dLen dCap) (hs : a.eval s = .slice (some ad) sLen sCap)
    (cs : List Value) (hn : cs.length = Nat.min sLen dLen) (hsrc : ∀ j v, cs[j]? = some v → w.cell? (ad.add j) = some v) (hc : ∀ j, j < cs.length → (w.cell? ⟨b, off + j, none⟩).isSome = true) (hf : ∀ j, j < cs.length → w.frozen? ⟨b, off + j, none⟩ = false) (h1 : ∀ v ∈ cs, v.oneCell' = true)
    (h : wpList P ops Q rest (a.put o.dst (goInt cs.length)) (w.setCells b off cs)) : wpList P ops Q (o :: rest) a w := by
  refine wpList_plain hgd fun K hK => ?_
  have hrun := run_copy_cells (P := P) w dT sT o.type elem b off dLen dCap ad sLen sCap cs hu hsz hn hsrc hc hf h1
  unfold Oper.wp
  simp [execOp, ho, resolve, invoke, builtin, hd, hs, hrun, Result.andThen]
  exact hK _ _ h
/-- A list's numbers, as a copy takes them. -/
theorem il_src {w : World} {b o n cap : Nat} {f : Nat → Int} (h : Ar w (.slice (some ⟨b, o, none⟩) n cap) n f) : ∀ j v, (il f n)[j]? = some v → w.cell? ((⟨b, o, none⟩ : Addr).add j) = some v := by
  intro j v hv
  have hj : j < n := by
    rcases Nat.lt_or_ge j n with h1 | h1
    · exact h1
    · rw [List.getElem?_eq_none (by unfold il; simp; omega)] at hv
      cases hv
  rw [il_get f n j hj] at hv
  cases hv
  obtain ⟨adr, ca, bb, oo, e, h2, h3, h4, h5⟩ := h
  cases e
  have e2 := h4 (by omega)
  cases e2
  rw [show (⟨b, o, none⟩ : Addr).add j = ⟨b, o + j, none⟩ by unfold Addr.add; split <;> simp_all]
  exact (h5 j hj).1
/-- A gradient with a layer's part filled in. -/
def flX (R C q : Nat) (F s v : Nat → Int) (j : Nat) : Int := if q + R * C ≤ j ∧ j < q + R * C + R then s (j - (q + R * C)) else if q ≤ j ∧ j < q + R * C then otX s v C (j - q) else F j
set_option maxRecDepth 100000 in
set_option maxHeartbeats 8000000 in
theorem fill_any (R C g q k1 k2 cp : Nat) (F s v : Nat → Int) (vs va : Value) (p : Option Addr) (c : Int) (hR : R ≤ 64) (hC : C ≤ 64) (hR1 : 1 ≤ R) (hC1 : 1 ≤ C) (c0 : 0 ≤ c) (c1 : c ≤ 700000000) (hq : q + R * C + R ≤ cp) (w : World) (hG : Rw g cp (fun j => .int .i64 (F j)) w) (hs : Ar w vs R s) (hv : Ar w va C v) (ns : Nv vs p) (nv : Nv va p) (ng : Nu g p) (gs : Nb vs g) (hp : Up p c w) :
    Calls Tryz.prog 30 #[.agg #[.int .i64 (R : Int), .int .i64 (C : Int), .slice (some ⟨g, q, none⟩) (R * C) k1, .slice (some ⟨g, q + R * C, none⟩) R k2], .pointer p, vs, va] w fun e w' => e = .returned (.tuple #[]) ∧ Rw g cp (fun j => .int .i64 (flX R C q F s v j)) w' ∧ Uy p (c + otN s v C R) g w w' := by
  obtain ⟨i0, hti, hy0, hy1, hy2⟩ := info_parts dinfo_fx
  have hsz : (Tryz.prog.info? 32).map (·.size) = some 1 := by rw [hti]; simp [hy1]
  have hRC : R * C ≤ 64 * 64 := Nat.mul_le_mul hR hC
  have hRC1 : 1 * 1 ≤ R * C := Nat.mul_le_mul hR1 hC1
  obtain ⟨ads, cs, bs, os, rfl, s2, s3, s4, s5⟩ := id hs
  have es := s4 (by omega)
  subst es
  have hgs : bs ≠ g := gs _ _ _ rfl (by omega)
  have hglt : g < w.heap.size := World.block_lt_of_cell? _ _ (hG.c 0 (by omega))
  have hbs : bs < w.heap.size := World.block_lt_of_cell? _ _ (s5 0 (by omega)).1
  obtain ⟨w1, hw1⟩ : ∃ w1, w1 = w.alloc (.cells #[.int .i64 (R : Int), .int .i64 (C : Int), .slice (some ⟨g, q, none⟩) (R * C) k1, .slice (some ⟨g, q + R * C, none⟩) R k2] 66) := ⟨_, rfl⟩
  have HB1 : B4 w.heap.size (.int .i64 (R : Int)) (.int .i64 (C : Int)) (.slice (some ⟨g, q, none⟩) (R * C) k1) (.slice (some ⟨g, q + R * C, none⟩) R k2) w1 := by rw [hw1]; exact B4.new w _ _ _ _ _
  have HW1 : Below w.heap.size w w1 := by rw [hw1]; exact bel1 _ _
  have hnw : Nu w.heap.size p := hp.lt (Nat.le_refl _)
  have CO := outer_ux (.slice (some ⟨bs, os, none⟩) R cs) va R C s v hR hC hR1 hC1 p c c0 (by omega) w1 (hs.later HW1) (hv.later HW1) ns nv (hp.later HW1)
  obtain ⟨adv, cv, bv, ov, rfl, v2, v3, -, -⟩ := hv
  have HG1 : Hid (Rw g cp (fun j => .int .i64 (F j)) w1) := hG.later HW1
  have HS1 : Hid (Ar w1 (.slice (some ⟨bs, os, none⟩) R cs) R s) := hs.later HW1
  have HU1 : Hid (Ux p c w w1) := hp.ux HW1
  have HB1' : Hid (B4 w.heap.size (.int .i64 (R : Int)) (.int .i64 (C : Int)) (.slice (some ⟨g, q, none⟩) (R * C) k1) (.slice (some ⟨g, q + R * C, none⟩) R k2) w1) := HB1
  have hs1 : w1.heap.size = w.heap.size + 1 := by rw [hw1, World.size_alloc]
  clear HB1 HW1 s4 s5 hG hs hp gs
  go_enter Tryz.func30, Tryz.ntmps30
  go_upto_region 1 with fail
  rw [← hw1]
  clear hw1
  go_wp2_with fail
  refine CO.mono ?_
  rintro e w2 ⟨⟨v', rfl, hL⟩, hU2⟩
  have hA2 := hL.1 rfl
  have hO2 := hL.2.2
  obtain ⟨ad2, ca2, b2, o2, rfl, p2, p3, p4, p5⟩ := id hA2
  have e2 := p4 (by omega)
  subst e2
  have hb2 : w1.heap.size ≤ b2 := hO2 _ _ _ rfl (by omega)
  have HG2 := HG1.out.ux ng hU2
  have HS2 := HS1.out.ux ns hU2
  have HB2 := HB1'.out.ux hnw hU2
  have HU2 := HU1.out.chain hU2
  have hs2 := hU2.size
  have hlt2 : b2 < w2.heap.size := World.block_lt_of_cell? _ _ (p5 0 (by omega)).1
  obtain ⟨w3, hw3⟩ : ∃ w3, w3 = w2.alloc (.cells #[.int .i64 (R : Int), .int .i64 (C : Int), .slice (some ⟨b2, o2, none⟩) (R * C) ca2] 64) := ⟨_, rfl⟩
  have hb3 : Below w2.heap.size w2 w3 := by rw [hw3]; exact bel1 _ _
  have HG3 : Hid (Rw g cp (fun j => .int .i64 (F j)) w3) := HG2.later hb3
  have HS3 : Hid (Ar w3 (.slice (some ⟨bs, os, none⟩) R cs) R s) := HS2.later hb3
  have HA3 : Hid (Ar w3 (.slice (some ⟨b2, o2, none⟩) (R * C) ca2) (R * C) (otX s v C)) := hA2.later hb3
  have HU3 : Hid (Ux p (c + otN s v C R) w w3) := HU2.later hb3
  have HB3 := HB2.later hb3
  have y2 := HB3.c2
  have y3 := HB3.c3
  have z2 : w3.cell? ⟨w2.heap.size, 2, none⟩ = some (.slice (some ⟨b2, o2, none⟩) (R * C) ca2) := by rw [hw3]; simp [go_sem]
  clear CO hL hA2 hO2 p4 p5 HG2 HS2 HB2 HU2 HB3 hb3 HG1 HS1 HU1 HB1' hU2
  obtain ⟨RC, hRCe⟩ : ∃ x, R * C = x := ⟨_, rfl⟩
  obtain ⟨qr, hqr⟩ : ∃ x, q + RC = x := ⟨_, rfl⟩
  rw [hRCe] at hRC hRC1 hq y2 z2 hw3 HA3 ⊢
  rw [hRCe, hqr] at y3
  rw [hqr] at hq
  rw [hqr]
  go_upto_region 2 with fail
  rw [← hw3]
  clear hw3
  obtain ⟨w4, hw4⟩ : ∃ w4, w3.setCells g q (il (otX s v C) RC) = w4 := ⟨_, rfl⟩
  have hY4 : Uy p (c + otN s v C R) g w3 w4 := by rw [← hw4]; exact (HU3.out.up.same.uy g).sets ng _ _ _
  have HG4 : Hid (Rw g cp (fun j => if q ≤ j ∧ j < q + (il (otX s v C) RC).length then ((il (otX s v C) RC)[j - q]?).getD undef else .int .i64 (F j)) w4) := by rw [← hw4]; exact HG3.out.sets _ _ _ _
  have HS4 : Hid (Ar w4 (.slice (some ⟨bs, os, none⟩) R cs) R s) := HS3.out.uy ns (fun a n c e _ => by cases e; exact hgs) hY4
  have y34 : w4.cell? ⟨w.heap.size, 3, none⟩ = some (.slice (some ⟨g, qr, none⟩) R k2) := hY4.cell (by dsimp only; omega) hnw y3
  have HU4 : Hid (Uy p (c + otN s v C R) g w w4) := (HU3.out.uy g).chain hY4
  obtain ⟨w5, hw5⟩ : ∃ w5, w4.setCells g qr (il s R) = w5 := ⟨_, rfl⟩
  have HG5 : Hid (Rw g cp (fun j => if qr ≤ j ∧ j < qr + (il s R).length then ((il s R)[j - qr]?).getD undef else if q ≤ j ∧ j < q + (il (otX s v C) RC).length then ((il (otX s v C) RC)[j - q]?).getD undef else .int .i64 (F j)) w5) := by rw [← hw5]; exact HG4.out.sets _ _ _ _
  have HU5 : Hid (Uy p (c + otN s v C R) g w w5) := by rw [← hw5]; exact HU4.out.sets ng _ _ _
  have HRCe : Hid (R * C = RC ∧ q + RC = qr) := ⟨hRCe, hqr⟩
  have hq1 : q + RC ≤ cp := by omega
  have hq2 : qr + R ≤ cp := by omega
  clear hY4 hRCe hqr HU4
  go_wp2_with (first
    | (refine wpList_copy_rw rfl _ _ 23 23 rfl 32 Tryz.underlying23 hsz g q RC k1 ⟨b2, o2, none⟩ RC ca2 rfl rfl (il (otX s v C) RC) (by rw [il_len]; exact (Nat.min_self RC).symm) (il_src HA3.out) (fun j hj => by rw [il_len] at hj; rw [HG3.out.c (q + j) (by omega)]; rfl) (fun j hj => by rw [il_len] at hj; exact HG3.out.f (q + j) (by omega)) (il_one _ _) ?_; rw [hw4]; clear y2 y3 z2)
    | (refine wpList_copy_rw rfl _ _ 23 23 rfl 32 Tryz.underlying23 hsz g qr R k2 ⟨bs, os, none⟩ R cs rfl rfl (il s R) (by rw [il_len]; exact (Nat.min_self R).symm) (il_src HS4.out) (fun j hj => by rw [il_len] at hj; rw [HG4.out.c (qr + j) (by omega)]; rfl) (fun j hj => by rw [il_len] at hj; exact HG4.out.f (qr + j) (by omega)) (il_one _ _) ?_; rw [hw5]; clear y34))
  go_end0
  refine ⟨rfl, HG5.out.congr (fun j hj => ?_), HU5.out⟩
  obtain ⟨e1, e2⟩ := HRCe.out
  unfold flX
  rw [e1, e2, il_len, il_len]
  by_cases h1 : qr ≤ j ∧ j < qr + R
  · rw [if_pos h1, if_pos h1, il_get s R (j - qr) (by omega)]
    rfl
  · rw [if_neg h1, if_neg h1]
    by_cases h2 : q ≤ j ∧ j < qr
    · rw [if_pos (by omega), if_pos h2, il_get _ RC (j - q) (by omega)]
      rfl
    · rw [if_neg (by omega), if_neg h2]
end Go.Proofs.YtdfjnbkkdgolnabGreatDoor
set_option linter.unusedVariables false
set_option linter.unusedSimpArgs false
namespace Go.Proofs.YtdfjnbkkdgolnabGreatDoor
open Go.RowKit

theorem rr0 (k : Nat) : rr 0 k = 0 := by
  have h := rr_neg 0 k (Int.le_refl _)
  rw [Int.neg_zero] at h
  omega
theorem clv0 : clv 0 = 0 := by unfold clv; rw [if_neg (by omega), if_neg (by omega)]
theorem gw_zero (s v : Nat → Int) (u i : Nat) (h : s u = 0 ∨ v i = 0) : gwX s v u i = 0 := by
  unfold gwX
  rcases h with h | h
  · rw [h, Int.zero_mul, rr0, clv0]
  · rw [h, Int.mul_zero, rr0, clv0]
/-- A hidden output that is shut gets no gradient, nor does what leads from it. -/
theorem shut_g (s : Bool) (z : Nat → Nat) (P x t : Nat → Int) (i : Nat) (hi : i < z 1) (h0 : vN z 3 P x 1 i = 0) :
    (∀ k, k < z 0 → gdG s z 3 P x t (wtN z 0 i k) = 0) ∧ (∀ o, o < z 2 → gdG s z 3 P x t (wtN z 1 o i) = 0) ∧ gdG s z 3 P x t (ofN z 0 i) = 0 := by
  have hS : gdS s z 3 P x t 0 i = 0 := by
    unfold gdS
    rw [sL_step z 3 P _ _ 0 (by omega)]
    unfold ahX
    rw [if_neg (by rw [h0]; omega)]
  refine ⟨fun k hk => ?_, fun o ho => ?_, ?_⟩
  · exact ((grd_all z 3 _ _ 0 (by omega) i hi).1 k hk).trans (gw_zero _ _ _ _ (Or.inl hS))
  · exact ((grd_all z 3 _ _ 1 (by omega) o ho).1 i hi).trans (gw_zero _ _ _ _ (Or.inr h0))
  · exact ((grd_all z 3 _ _ 0 (by omega) i hi).2).trans hS
theorem sum_congr (f g : Nat → Int) (n : Nat) (h : ∀ k, k < n → f k = g k) : sumV f n = sumV g n := by
  induction n with
  | zero => rfl
  | succ n ih =>
    show sumV f n + f n = sumV g n + g n
    rw [ih (fun k hk => h k (by omega)), h n (by omega)]
theorem dot_sum (f g : Nat → Int) (n : Nat) : dotV f g n = sumV (fun k => f k * g k) n := by
  induction n with
  | zero => rfl
  | succ n ih =>
    show dotV f g n + f n * g n = sumV (fun k => f k * g k) n + f n * g n
    rw [ih]
theorem dot_congr (f g f' g' : Nat → Int) (n : Nat) (h : ∀ k, k < n → f k = f' k ∧ g k = g' k) : dotV f g n = dotV f' g' n := by
  rw [dot_sum, dot_sum]
  exact sum_congr _ _ _ (fun k hk => by rw [(h k hk).1, (h k hk).2])
end Go.Proofs.YtdfjnbkkdgolnabGreatDoor
set_option linter.unusedVariables false
set_option linter.unusedSimpArgs false
namespace Go.Proofs.YtdfjnbkkdgolnabGreatDoor
open Go.RowKit

theorem ot_gr (s v : Nat → Int) (n u : Nat) : otN s v n u = grC s v n u := by
  induction u with
  | zero => rfl
  | succ u ih =>
    show otN s v n u + _ = grC s v n u + cntV (gwO s v u) n
    rw [ih]
    rfl
theorem sla_ah (z : Nat → Nat) (P s v : Nat → Int) (l i : Nat) : slaX (z (l + 1)) (z l) (fun i => P (fsN z l + i)) s v i = ahX z P s v l i := by
  unfold slaX ahX ahS
  rw [dot_congr s (fun u => P (fsN z l + (u * z l + i))) s (fun u => P (wtN z l u i)) (z (l + 1)) (fun k _ => ⟨rfl, by show P (fsN z l + (k * z l + i)) = P (fsN z l + k * z l + i); rw [Nat.add_assoc]⟩)]
theorem sla_ahO (z : Nat → Nat) (P s v : Nat → Int) (l i : Nat) : slaO (z (l + 1)) (z l) (fun i => P (fsN z l + i)) s v i = ahO z P s v l i := by
  unfold slaO ahO ahS
  rw [dot_congr s (fun u => P (fsN z l + (u * z l + i))) s (fun u => P (wtN z l u i)) (z (l + 1)) (fun k _ => ⟨rfl, by show P (fsN z l + (k * z l + i)) = P (fsN z l + k * z l + i); rw [Nat.add_assoc]⟩)]
theorem fl_grL {z : Nat → Nat} {m : Nat} {V S : Nat → Nat → Int} {F : Nat → Int} {l : Nat} (h : GrL z m V S (l + 1) F) (hz : 1 ≤ z l) : GrL z m V S l (flX (z (l + 1)) (z l) (fsN z l) F (S l) (V l)) := fun l' h1 h2 u hu => by
  have e0 : fsN z (l + 1) = fsN z l + (z l * z (l + 1) + z (l + 1)) := rfl
  rw [Nat.mul_comm (z l)] at e0
  rcases Nat.lt_or_ge l l' with hl | hl
  · have hm := fsN_mono z (show l + 1 ≤ l' from hl)
    refine ⟨fun i hi => ?_, ?_⟩
    · have := (wt_rng z l' u i hu hi).1
      unfold flX
      rw [if_neg (by omega), if_neg (by omega)]
      exact (h l' hl h2 u hu).1 i hi
    · have := (of_rng z l' u hu).1
      unfold flX
      rw [if_neg (by omega), if_neg (by omega)]
      exact (h l' hl h2 u hu).2
  · obtain rfl : l' = l := by omega
    refine ⟨fun i hi => ?_, ?_⟩
    · have hr := wt_rng z l' u i hu hi
      rw [Nat.mul_comm (z l')] at hr
      unfold flX
      rw [if_neg (by omega), if_pos (by omega)]
      have e : wtN z l' u i - fsN z l' = z l' * u + i := by unfold wtN; rw [Nat.mul_comm]; omega
      unfold otX
      rw [e, Nat.mul_add_div (by omega), Nat.div_eq_of_lt hi, Nat.add_zero, Nat.mul_add_mod, Nat.mod_eq_of_lt hi]
      rfl
    · have e : ofN z l' u = fsN z l' + z (l' + 1) * z l' + u := by unfold ofN; rw [Nat.mul_comm (z l')]
      unfold flX
      rw [if_pos (by omega), e]
      congr 1
      omega
theorem flX_rng (R C q : Nat) (F s v : Nat → Int) (hF : ∀ j, -9223372036854775808 ≤ F j ∧ F j ≤ 9223372036854775807) (hs : ∀ j, -9223372036854775808 ≤ s j ∧ s j ≤ 9223372036854775807) (j : Nat) : -9223372036854775808 ≤ flX R C q F s v j ∧ flX R C q F s v j ≤ 9223372036854775807 := by
  unfold flX
  split
  · exact hs _
  · split
    · unfold otX; exact clv_rng _
    · exact hF _
end Go.Proofs.YtdfjnbkkdgolnabGreatDoor
set_option linter.unusedVariables false
set_option linter.unusedSimpArgs false
namespace Go.Proofs.YtdfjnbkkdgolnabGreatDoor
open Go.RowKit

/-- Is a size outside? -/
def osB (x : Int) : Bool := decide (x < 1) || decide (64 < x)
theorem osB_yes {x : Int} (h : ¬ (1 ≤ x ∧ x ≤ 64)) : osB x = true := by unfold osB; simp; omega
theorem osB_no {x : Int} (h : 1 ≤ x ∧ x ≤ 64) : osB x = false := by unfold osB; simp; omega
set_option maxHeartbeats 1000000 in
theorem pOutside_any (x : Int) (w : World) :
    Calls Tryz.prog 43 #[.int .i64 x] w fun e w' => e = .returned (.bool (osB x)) ∧ w' = w := by
  by_cases h1 : x < 1
  · rw [osB_yes (by omega)]
    go_enter Tryz.func43, Tryz.ntmps43
    go_wp2
    go_ret
    exact ⟨rfl, rfl⟩
  · by_cases h2 : 64 < x
    · rw [osB_yes (by omega)]
      go_enter Tryz.func43, Tryz.ntmps43
      go_wp2
      go_ret
      exact ⟨rfl, rfl⟩
    · rw [osB_no (by omega)]
      go_enter Tryz.func43, Tryz.ntmps43
      go_wp2
      go_ret
      exact ⟨rfl, rfl⟩
/-- Is one of so many outside? -/
def osX (f : Nat → Int) (m : Nat) : Bool := (List.range m).any (fun k => osB (f k))
theorem osX_yes {f : Nat → Int} {m k : Nat} (hk : k < m) (h : osB (f k) = true) : osX f m = true := List.any_eq_true.2 ⟨k, List.mem_range.2 hk, h⟩
theorem osX_no {f : Nat → Int} {m : Nat} (h : ∀ k, k < m → osB (f k) = false) : osX f m = false := by
  rw [Bool.eq_false_iff]
  intro e
  obtain ⟨k, hk, h2⟩ := List.any_eq_true.1 e
  rw [h k (List.mem_range.1 hk)] at h2
  cases h2
theorem osX_sz {f : Nat → Int} {m : Nat} (h : szB f m) : osX f m = false := osX_no (fun k hk => osB_no (h k hk))
theorem osX_bad {f : Nat → Int} {m : Nat} (h : ¬ szB f m) : osX f m = true := by
  cases e : osX f m with
  | true => rfl
  | false =>
    refine absurd (fun k hk => ?_) h
    refine Classical.byContradiction fun hc => ?_
    rw [osX_yes hk (osB_yes hc)] at e
    cases e
set_option maxRecDepth 100000 in
set_option maxHeartbeats 2000000 in
theorem pIndex7_any (va : Value) (m : Nat) (f : Nat → Int) (w : World) (hA : Ar w va m f) :
    Calls Tryz.prog 62 #[va, .func (.func 43) #[] #[]] w fun e w' => ∃ i : Int, e = .returned (.int .i64 i) ∧ (osX f m = true → 0 ≤ i) ∧ (osX f m = false → i < 0) ∧ w' = w := by
  obtain ⟨adr, cap, b, o, rfl, k1, k2, k3, k4⟩ := hA
  unfold maxLen at k2
  have HC : Hid (∀ k, k < m → w.cell? ⟨b, o + k, none⟩ = some (.int .i64 (f k))) := fun k hk => (k4 k hk).1
  have HK : Hid (0 < m → adr = some ⟨b, o, none⟩) := k3
  clear k3 k4
  go_enter Tryz.func62, Tryz.ntmps62
  go_wp2
  go_loopw [8] (fun s8 wr => ∃ j : Nat, j ≤ m ∧ s8 = .int .i64 (j : Int) ∧ Hid (∀ k, k < j → osB (f k) = false) ∧ wr = w) (fun s8 _ => m - (intOf s8).toNat)
  case atStart => exact ⟨0, by omega, rfl, fun k hk => by omega, rfl⟩
  case round =>
    obtain ⟨j, hj, rfl, hA, rfl⟩ := hrel
    by_cases hlt : j < m
    · have hjI : (j : Int) < (m : Int) := by omega
      have ea := HK.out (by omega)
      subst ea
      have hcell := HC.out j hlt
      have CT : Hid (∀ W : World, Calls Tryz.prog 43 #[.int .i64 (f j)] W fun e w' => e = .returned (.bool (osB (f j))) ∧ w' = W) := fun W => pOutside_any (f j) W
      cases hb : osB (f j) with
      | true =>
        rw [hb] at CT
        have HF : Hid (osX f m = true) := osX_yes hlt hb
        clear hb hA
        go_wp2_with (go_at_call 43; refine (CT.out _).mono ?_; rintro e wz ⟨rfl, hz⟩; subst hz)
        go_ret
        exact ⟨_, rfl, fun _ => by omega, fun h => (by rw [HF.out] at h; cases h), rfl⟩
      | false =>
        rw [hb] at CT
        have HA2 : Hid (∀ k, k < j + 1 → osB (f k) = false) := fun k hk => by
          rcases Nat.lt_or_ge k j with h | h
          · exact hA.out k h
          · obtain rfl : k = j := by omega
            exact hb
        clear hb hA
        go_wp2_with (go_at_call 43; refine (CT.out _).mono ?_; rintro e wz ⟨rfl, hz⟩; subst hz)
        go_roundw
        case rel => exact ⟨j + 1, by omega, by go_num, HA2, trivial⟩
        case measure => simp [intOf]; omega
    · have HF : Hid (osX f m = false) := osX_no (fun k hk => hA.out k (by omega))
      have hjI : ¬ (j : Int) < (m : Int) := by omega
      clear hA
      go_wp2
      go_ret
      exact ⟨_, rfl, fun h => (by rw [HF.out] at h; cases h), fun _ => by omega, rfl⟩
set_option maxHeartbeats 1000000 in
theorem pContains7_any (va : Value) (m : Nat) (f : Nat → Int) (w : World) (hA : Ar w va m f) :
    Calls Tryz.prog 42 #[va, .func (.func 43) #[] #[]] w fun e w' => e = .returned (.bool (osX f m)) ∧ w' = w := by
  have CI : Hid (Calls Tryz.prog 62 #[va, .func (.func 43) #[] #[]] w fun e w' => ∃ i : Int, e = .returned (.int .i64 i) ∧ (osX f m = true → 0 ≤ i) ∧ (osX f m = false → i < 0) ∧ w' = w) := pIndex7_any va m f w hA
  obtain ⟨adr, cap, g, o, rfl, -, -, -, -⟩ := hA
  generalize osX f m = B at *
  cases B
  · go_enter Tryz.func42, Tryz.ntmps42
    go_wp2_with fail
    refine CI.out.mono ?_
    rintro e wz ⟨i, rfl, -, h1, hz⟩
    subst hz
    have h2 : ¬ (0 : Int) ≤ i := by have := h1 (by trivial); omega
    clear CI h1
    go_wp2
    go_ret
    exact ⟨by simp [h2], rfl⟩
  · go_enter Tryz.func42, Tryz.ntmps42
    go_wp2_with fail
    refine CI.out.mono ?_
    rintro e wz ⟨i, rfl, h1, -, hz⟩
    subst hz
    have h2 : (0 : Int) ≤ i := h1 (by trivial)
    clear CI h1
    go_wp2
    go_ret
    exact ⟨by simp [h2], rfl⟩
set_option maxRecDepth 100000 in
set_option maxHeartbeats 4000000 in
theorem pCount_no (va : Value) (m : Nat) (f : Nat → Int) (w : World) (hA : Ar w va m f) (hz : ¬ (2 ≤ m ∧ m ≤ 6 ∧ szB f m)) :
    Calls Tryz.prog 24 #[va] w fun e w' => e = .returned (.tuple #[.int .i64 0, .int .i64 70]) ∧ w' = w := by
  have CI : Hid (Calls Tryz.prog 42 #[va, .func (.func 43) #[] #[]] w fun e w' => e = .returned (.bool (osX f m)) ∧ w' = w) := pContains7_any va m f w hA
  obtain ⟨adr, cap, b, o, rfl, k1, k2, -, -⟩ := hA
  unfold maxLen at k2
  by_cases h2 : m < 2
  · have q1 : (m : Int) < 2 := by omega
    clear CI hz
    go_enter Tryz.func24, Tryz.ntmps24
    go_wp2
    go_ret2
    exact ⟨rfl, rfl⟩
  by_cases h6 : 6 < m
  · have q1 : ¬ (m : Int) < 2 := by omega
    have q2 : (6 : Int) < (m : Int) := by omega
    clear CI hz
    go_enter Tryz.func24, Tryz.ntmps24
    go_wp2
    go_ret2
    exact ⟨rfl, rfl⟩
  have q1 : ¬ (m : Int) < 2 := by omega
  have q2 : ¬ (6 : Int) < (m : Int) := by omega
  rw [osX_bad (fun h => hz ⟨by omega, by omega, h⟩)] at CI
  clear hz
  go_enter Tryz.func24, Tryz.ntmps24
  go_wp2_with fail
  refine CI.out.mono ?_
  rintro e wz ⟨rfl, hz⟩
  subst hz
  clear CI
  go_wp2
  go_ret2
  exact ⟨rfl, rfl⟩
set_option maxRecDepth 100000 in
set_option maxHeartbeats 4000000 in
theorem pCount_yes (va : Value) (m : Nat) (z : Nat → Nat) (w : World) (hA : Ar w va m (fun i => ((z i : Nat) : Int))) (hz : Szs z m) :
    Calls Tryz.prog 24 #[va] w fun e w' => e = .returned (.tuple #[.int .i64 ((fsN z (m - 1) : Nat) : Int), .int .i64 0]) ∧ w' = w := by
  have CI : Hid (Calls Tryz.prog 42 #[va, .func (.func 43) #[] #[]] w fun e w' => e = .returned (.bool (osX (fun i => ((z i : Nat) : Int)) m)) ∧ w' = w) := pContains7_any va m _ w hA
  obtain ⟨adr, cap, b, o, rfl, k1, k2, k3, k4⟩ := hA
  unfold maxLen at k2
  obtain ⟨m2, m6, hz⟩ := hz
  rw [osX_sz (fun i hi => by have := hz i hi; omega)] at CI
  have ha := k3 (by omega)
  subst ha
  obtain ⟨M, rfl⟩ : ∃ M, m = M + 1 := ⟨m - 1, by omega⟩
  have HX : Hid (∀ i, i < M + 1 → w.cell? ⟨b, o + i, none⟩ = some (.int .i64 ((z i : Nat) : Int))) := fun i hi => (k4 i hi).1
  have HZ : Hid (∀ i, i < M + 1 → 1 ≤ z i ∧ z i ≤ 64) := hz
  clear k3 k4 hz
  have q1 : ¬ ((M + 1 : Nat) : Int) < 2 := by omega
  have q2 : ¬ (6 : Int) < ((M + 1 : Nat) : Int) := by omega
  have q3 : (1 : Int) ≤ ((M + 1 : Nat) : Int) := by omega
  rw [Nat.add_sub_cancel]
  go_enter Tryz.func24, Tryz.ntmps24
  go_wp2_with fail
  refine CI.out.mono ?_
  rintro e wz ⟨rfl, hz⟩
  subst hz
  clear CI
  go_upto_region 5 with fail
  go_loopw [4, 22] (fun s3 si wr => ∃ i v : Nat, i ≤ M ∧ si = .int .i64 (i : Int) ∧ s3 = .int .i64 (v : Int) ∧ Hid (v = fsN z i) ∧ wr = wz) (fun _ si _ => M - (intOf si).toNat)
  case atStart => exact ⟨0, 0, by omega, rfl, rfl, rfl, rfl⟩
  case round =>
    obtain ⟨i, v, hi, rfl, rfl, HV, rfl⟩ := hrel
    by_cases hlt : i < M
    · have hiI : (i : Int) < (M : Int) := by omega
      have hiJ : (i : Int) < ((M + 1 : Nat) : Int) := by omega
      have cA : wr.cell? ⟨b, o + i, none⟩ = some (.int .i64 ((z i : Nat) : Int)) := HX.out i (by omega)
      have cB : wr.cell? ⟨b, o + 1 + i, none⟩ = some (.int .i64 ((z (i + 1) : Nat) : Int)) := by rw [show o + 1 + i = o + (i + 1) by omega]; exact HX.out (i + 1) (by omega)
      obtain ⟨z1, z2⟩ := HZ.out i (by omega)
      obtain ⟨y1, y2⟩ := HZ.out (i + 1) (by omega)
      have hvb : v ≤ 4160 * 6 := by
        have h := fsN_le z (M + 1) i HZ.out (by omega)
        rw [HV.out]; omega
      have HV2 : Hid (v + (z i + 1) * z (i + 1) = fsN z (i + 1)) := by
        show _ = fsN z i + (z i * z (i + 1) + z (i + 1))
        rw [HV.out, Nat.succ_mul]
      have hpb : (z i + 1) * z (i + 1) ≤ 65 * 64 := Nat.mul_le_mul (by omega) y2
      have epr : (((z i + 1 : Nat) : Nat) : Int) * ((z (i + 1) : Nat) : Int) = (((z i + 1) * z (i + 1) : Nat) : Int) := by rw [Int.natCast_mul]
      have w0 : IntKind.i64.wrap (((z i : Nat) : Int) + 1) = ((z i + 1 : Nat) : Int) := by rw [IntKind.wrap_i64]; omega
      generalize (z i + 1) * z (i + 1) = pr at *
      generalize z i + 1 = zc at *
      generalize z i = za at *
      generalize z (i + 1) = zb at *
      have w2 : IntKind.i64.wrap ((pr : Nat) : Int) = (pr : Int) := by rw [IntKind.wrap_i64]; omega
      have w4 : IntKind.i64.wrap ((v : Int) + (pr : Int)) = ((v + pr : Nat) : Int) := by rw [IntKind.wrap_i64]; omega
      generalize v + pr = vv at *
      go_wp2
      go_roundw
      case rel => exact ⟨i + 1, vv, by omega, by go_num, rfl, HV2, trivial⟩
      case measure => simp [intOf]; omega
    · obtain rfl : i = M := by omega
      have hiI : ¬ (i : Int) < (i : Int) := by omega
      have HV' : Hid (fsN z i = v) := HV.out.symm
      go_wp2
      go_ret2
      exact ⟨by show Ending.returned (Value.tuple #[.int .i64 (v : Int), .int .i64 0]) = _; rw [HV'.out], rfl⟩
set_option maxHeartbeats 1000000 in
theorem pChk_yes (vs vp : Value) (m lp : Nat) (z : Nat → Nat) (P : Nat → Int) (w : World) (hA : Ar w vs m (fun i => ((z i : Nat) : Int))) (hP : Ar w vp lp P) (hz : Szs z m) :
    Calls Tryz.prog 16 #[vs, vp] w fun e w' => e = .returned (.int .i64 (if lp = fsN z (m - 1) then 0 else 40)) ∧ w' = w := by
  have CI : Hid (Calls Tryz.prog 24 #[vs] w fun e w' => e = .returned (.tuple #[.int .i64 ((fsN z (m - 1) : Nat) : Int), .int .i64 0]) ∧ w' = w) := pCount_yes vs m z w hA hz
  obtain ⟨adr, cap, b, o, rfl, -, -, -, -⟩ := hA
  obtain ⟨adp, cpp, bp, op, rfl, -, -, -, -⟩ := hP
  clear hz
  generalize fsN z (m - 1) = cp at *
  by_cases h : lp = cp
  · rw [if_pos h]
    subst h
    go_enter Tryz.func16, Tryz.ntmps16
    go_wp2_with fail
    refine CI.out.mono ?_
    rintro e wz ⟨rfl, hz⟩
    subst hz
    clear CI
    go_wp2
    go_ret
    exact ⟨rfl, rfl⟩
  · rw [if_neg h]
    have hI : ¬ (lp : Int) = (cp : Int) := by omega
    go_enter Tryz.func16, Tryz.ntmps16
    go_wp2_with fail
    refine CI.out.mono ?_
    rintro e wz ⟨rfl, hz⟩
    subst hz
    clear CI
    go_wp2
    go_ret
    exact ⟨rfl, rfl⟩
end Go.Proofs.YtdfjnbkkdgolnabGreatDoor
set_option linter.unusedVariables false
set_option linter.unusedSimpArgs false
namespace Go.Proofs.YtdfjnbkkdgolnabGreatDoor
open Go.RowKit

theorem cell_four_new (w : World) (x y u v : Value) (t : TypeId) : ∀ j q, [x, y, u, v][j]? = some q → (w.alloc (.cells #[x, y, u, v] t)).cell? ((⟨w.heap.size, 0, none⟩ : Addr).add j) = some q := by
  intro j q h
  rcases j with _ | _ | _ | _ | j
  all_goals simp at h
  all_goals subst h
  all_goals simp [go_sem, Addr.add]
theorem dinfo_ly : (Tryz.prog.info? 66).map (fun i => (i.zero, i.size, i.bytes)) = some (some (.agg #[.int .i64 0, .int .i64 0, .slice none 0 0, .slice none 0 0]), 4, 64) := by kernel_rfl
/-- The weights and the offsets of layer k, in a list that lies at b, o. -/
def lyA (b o cap : Nat) (z : Nat → Nat) (k : Nat) : Value := .slice (some ⟨b, o + fsN z k, none⟩) (z (k + 1) * z k) (cap - fsN z k)
def lyB (b o cap : Nat) (z : Nat → Nat) (k : Nat) : Value := .slice (some ⟨b, o + fsN z k + z (k + 1) * z k, none⟩) (z (k + 1)) (cap - fsN z k - z (k + 1) * z k)
/-- The cells of the first layers. -/
def lyL (b o cap : Nat) (z : Nat → Nat) : Nat → List Value
  | 0 => []
  | k + 1 => lyL b o cap z k ++ [.int .i64 ((z (k + 1) : Nat) : Int), .int .i64 ((z k : Nat) : Int), lyA b o cap z k, lyB b o cap z k]
theorem lyL_len (b o cap : Nat) (z : Nat → Nat) (k : Nat) : (lyL b o cap z k).length = k * 4 := by
  induction k with
  | zero => rfl
  | succ k ih => show (lyL b o cap z k ++ _).length = _; rw [List.length_append, ih]; simp; omega
theorem lyL_get (b o cap : Nat) (z : Nat → Nat) (n k : Nat) (hk : k < n) : (lyL b o cap z n)[k * 4]? = some (.int .i64 ((z (k + 1) : Nat) : Int)) ∧ (lyL b o cap z n)[k * 4 + 1]? = some (.int .i64 ((z k : Nat) : Int)) ∧ (lyL b o cap z n)[k * 4 + 2]? = some (lyA b o cap z k) ∧ (lyL b o cap z n)[k * 4 + 3]? = some (lyB b o cap z k) := by
  induction n with
  | zero => omega
  | succ n ih =>
    show (lyL b o cap z n ++ _)[k * 4]? = _ ∧ (lyL b o cap z n ++ _)[k * 4 + 1]? = _ ∧ (lyL b o cap z n ++ _)[k * 4 + 2]? = _ ∧ (lyL b o cap z n ++ _)[k * 4 + 3]? = _
    have hl := lyL_len b o cap z n
    rcases Nat.lt_or_ge k n with h | h
    · obtain ⟨h1, h2, h3, h4⟩ := ih h
      refine ⟨?_, ?_, ?_, ?_⟩
      · rw [List.getElem?_append_left (by omega)]; exact h1
      · rw [List.getElem?_append_left (by omega)]; exact h2
      · rw [List.getElem?_append_left (by omega)]; exact h3
      · rw [List.getElem?_append_left (by omega)]; exact h4
    · obtain rfl : k = n := by omega
      refine ⟨?_, ?_, ?_, ?_⟩
      · rw [List.getElem?_append_right (by omega), hl, Nat.sub_self]; rfl
      · rw [List.getElem?_append_right (by omega), hl, show k * 4 + 1 - k * 4 = 1 by omega]; rfl
      · rw [List.getElem?_append_right (by omega), hl, show k * 4 + 2 - k * 4 = 2 by omega]; rfl
      · rw [List.getElem?_append_right (by omega), hl, show k * 4 + 3 - k * 4 = 3 by omega]; rfl
/-- A list of layers in memory: what lies at b, o is cut into them. -/
def Lyr (w : World) (v : Value) (M : Nat) (z : Nat → Nat) (b o cap : Nat) : Prop :=
  ∃ (g cL : Nat), v = .slice (some ⟨g, 0, none⟩) M cL ∧ M ≤ cL ∧ cL ≤ maxLen ∧ ∀ k, k < M → w.cell? ⟨g, k * 4, none⟩ = some (.int .i64 ((z (k + 1) : Nat) : Int)) ∧ w.cell? ⟨g, k * 4 + 1, none⟩ = some (.int .i64 ((z k : Nat) : Int)) ∧ w.cell? ⟨g, k * 4 + 2, none⟩ = some (lyA b o cap z k) ∧ w.cell? ⟨g, k * 4 + 3, none⟩ = some (lyB b o cap z k)
theorem Lyr.later {w w' : World} {v : Value} {M : Nat} {z : Nat → Nat} {b o cap : Nat} (h : Lyr w v M z b o cap) (hb : Below w.heap.size w w') : Lyr w' v M z b o cap := by
  obtain ⟨g, cL, e, h1, h2, h3⟩ := h
  exact ⟨g, cL, e, h1, h2, fun k hk => by obtain ⟨a1, a2, a3, a4⟩ := h3 k hk; exact ⟨cell_later hb a1, cell_later hb a2, cell_later hb a3, cell_later hb a4⟩⟩
theorem lyr_of_own {w : World} {base : Nat} {v : Value} {M : Nat} {z : Nat → Nat} {b o cap : Nat} (h : w.ownsRow base 66 4 v M (lyL b o cap z M)) (hM : 0 < M) : Lyr w v M z b o cap ∧ Ow base v := by
  rcases id h.2 with ⟨_, h0⟩ | ⟨g, cL, cur, rfl, hg, hh, hc1, hc2, hsz, htk⟩
  · omega
  · have hl := lyL_len b o cap z M
    refine ⟨⟨g, cL, rfl, hc1, hc2, fun k hk => ?_⟩, fun a n c e hn => by cases e; exact hg⟩
    obtain ⟨a1, a2, a3, a4⟩ := lyL_get b o cap z M k hk
    exact ⟨(h.cellAt _ (by omega)).trans a1, (h.cellAt _ (by omega)).trans a2, (h.cellAt _ (by omega)).trans a3, (h.cellAt _ (by omega)).trans a4⟩
set_option maxRecDepth 100000 in
set_option maxHeartbeats 8000000 in
theorem layersOf_any (vs : Value) (m b o cp cap : Nat) (z : Nat → Nat) (w : World) (hA : Ar w vs m (fun i => ((z i : Nat) : Int))) (hz : Szs z m) (hcp : cp = fsN z (m - 1)) (hc1 : cp ≤ cap) (hc2 : cap ≤ maxLen) :
    Calls Tryz.prog 18 #[vs, .slice (some ⟨b, o, none⟩) cp cap] w fun e w' => ∃ g cL, e = .returned (.slice (some ⟨g, 0, none⟩) (m - 1) cL) ∧ Lyr w' (.slice (some ⟨g, 0, none⟩) (m - 1) cL) (m - 1) z b o cap ∧ w.heap.size ≤ g ∧ Below w.heap.size w w' := by
  obtain ⟨i0, hti, hy0, hy1, hy2⟩ := info_parts dinfo_ly
  obtain ⟨adr, cas, bs, os, rfl, k1, k2, k3, k4⟩ := hA
  unfold maxLen at k2 hc2
  obtain ⟨m2, m6, hz⟩ := hz
  have ha := k3 (by omega)
  subst ha
  obtain ⟨M, rfl⟩ : ∃ M, m = M + 1 := ⟨m - 1, by omega⟩
  rw [Nat.add_sub_cancel] at hcp ⊢
  have HX : Hid (∀ i, i < M + 1 → w.cell? ⟨bs, os + i, none⟩ = some (.int .i64 ((z i : Nat) : Int))) := fun i hi => (k4 i hi).1
  have HZ : Hid (∀ i, i < M + 1 → 1 ≤ z i ∧ z i ≤ 64) := hz
  have HCP : Hid (cp = fsN z M ∧ cp ≤ 20800) := ⟨hcp, by have := fsN_le z (M + 1) M hz (by omega); omega⟩
  have q3 : (1 : Int) ≤ ((M + 1 : Nat) : Int) := by omega
  clear k3 k4 hz hcp
  go_enter Tryz.func18, Tryz.ntmps18
  go_upto_region 3 with fail
  go_loopw [1, 5, 12] (fun s1 s5 si wr => ∃ i : Nat, i ≤ M ∧ si = .int .i64 (i : Int) ∧ (∃ q : Nat, s1 = .slice (some ⟨b, q, none⟩) (cp - fsN z i) (cap - fsN z i) ∧ Hid (i < M → q = o + fsN z i)) ∧ Hid (wr.ownsRow w.heap.size 66 4 s5 i (lyL b o cap z i)) ∧ Hid (Below w.heap.size w wr)) (fun _ _ si _ => M - (intOf si).toNat)
  case atStart => exact ⟨0, by omega, rfl, ⟨o, rfl, fun _ => rfl⟩, World.ownsRow_nil _ _ _ _, Below.refl _ _⟩
  case round =>
    obtain ⟨i, hi, rfl, ⟨q, rfl, Hq⟩, HO, HW⟩ := hrel
    by_cases hlt : i < M
    · have eq0 := Hq.out hlt
      subst eq0
      clear Hq
      have hiI : (i : Int) < (M : Int) := by omega
      have hiJ : (i : Int) < ((M + 1 : Nat) : Int) := by omega
      have cA : wr.cell? ⟨bs, os + i, none⟩ = some (.int .i64 ((z i : Nat) : Int)) := cell_later HW.out (HX.out i (by omega))
      have cB : wr.cell? ⟨bs, os + 1 + i, none⟩ = some (.int .i64 ((z (i + 1) : Nat) : Int)) := by rw [show os + 1 + i = os + (i + 1) by omega]; exact cell_later HW.out (HX.out (i + 1) (by omega))
      have HXa : Hid (w.cell? ⟨bs, os + i, none⟩ = some (.int .i64 ((z i : Nat) : Int))) := HX.out i (by omega)
      obtain ⟨z1, z2⟩ := HZ.out i (by omega)
      obtain ⟨y1, y2⟩ := HZ.out (i + 1) (by omega)
      have hstep : fsN z (i + 1) = fsN z i + (z i * z (i + 1) + z (i + 1)) := rfl
      have hmono := fsN_mono z (show i + 1 ≤ M from hlt)
      have hcp := HCP.out
      have hwb : z (i + 1) * z i ≤ 64 * 64 := Nat.mul_le_mul y2 z2
      have ewt : ((z (i + 1) : Nat) : Int) * ((z i : Nat) : Int) = ((z (i + 1) * z i : Nat) : Int) := by rw [Int.natCast_mul]
      rw [Nat.mul_comm (z i)] at hstep
      obtain ⟨R, hR⟩ : ∃ R, R = lyL b o cap z i ++ [.int .i64 ((z (i + 1) : Nat) : Int), .int .i64 ((z i : Nat) : Int), lyA b o cap z i, lyB b o cap z i] := ⟨_, rfl⟩
      have HR : Hid (R = lyL b o cap z (i + 1)) := hR
      obtain ⟨Fi, hFi⟩ : ∃ q, fsN z i = q := ⟨_, rfl⟩
      obtain ⟨wt, hwt⟩ : ∃ q, z (i + 1) * z i = q := ⟨_, rfl⟩
      unfold lyA lyB at hR
      have HF : Hid (fsN z (i + 1) = Fi + (wt + z (i + 1))) := by show _ = _; rw [hstep, hFi, hwt]
      rw [hFi, hwt] at hR
      rw [hFi, hwt] at hstep
      rw [hwt] at ewt hwb
      rw [hFi]
      generalize z i = za at *
      generalize z (i + 1) = zb at *
      clear hFi hwt
      obtain ⟨wz, hwz⟩ : ∃ q, wt + zb = q := ⟨_, rfl⟩
      obtain ⟨KF, hKF⟩ : ∃ q, cap - Fi = q := ⟨_, rfl⟩
      obtain ⟨LF, hLF⟩ : ∃ q, cp - Fi = q := ⟨_, rfl⟩
      obtain ⟨oF, hoF⟩ : ∃ q, o + Fi = q := ⟨_, rfl⟩
      have hiK : (i : Int) < (M : Int) + 1 := by omega
      have v1 : (wt : Int) ≤ (KF : Int) := by omega
      have v2 : (wz : Int) ≤ (KF : Int) := by omega
      have v3 : (wt : Int) ≤ (wz : Int) := by omega
      have v4 : (wz : Int) ≤ (LF : Int) := by omega
      have v6 : ¬ KF = wt := by omega
      have v5 : (LF : Int) ≤ (KF : Int) := by omega
      have w2 : IntKind.i64.wrap ((wt : Nat) : Int) = (wt : Int) := by rw [IntKind.wrap_i64]; omega
      have w4 : IntKind.i64.wrap ((wt : Int) + (zb : Int)) = (wz : Int) := by rw [IntKind.wrap_i64]; omega
      have HN : Hid (wt + zb = wz ∧ cap - Fi = KF ∧ cp - Fi = LF ∧ o + Fi = oF ∧ Fi + wz ≤ cp ∧ cp ≤ cap) := ⟨hwz, hKF, hLF, hoF, by omega, hc1⟩
      rw [hKF, hLF, hoF]
      rw [hKF, hoF] at hR
      clear hwz hKF hLF hoF
      clear hstep hmono hcp
      go_upto_region 6 with fail
      have HW2 : Hid (Below w.heap.size w wr.drew) := HW.out.drew
      have HO2 : Hid (wr.drew.ownsRow w.heap.size 66 4 u5 i (lyL b o cap z i)) := own_later HO.out (Below.refl _ _).drew
      refine wp_region_held_drew (S := fun W' => W'.cell? ⟨bs, os + i, none⟩ = some (.int .i64 (za : Int))) (by kernel_rfl) cA (fun HS => ?_)
      clear cA cB HW HO
      generalize wr.drew = wd at *
      refine wpAnyH_take (i := 0) (v := ?v1) rfl (by kernel_rfl) (by kernel_rfl) (by kernel_rfl) (fun _ _ _ h => h) (Or.inl ⟨by kernel_rfl, ?h1⟩) HS ?r1
      case h1 => (rintro w s1; go_simp) <;> with_reducible rfl
      try simp only [Act.put, List.getElem_toArray, List.getElem_cons_succ, List.getElem_cons_zero, List.setIfInBounds_toArray, List.set_cons_zero, List.set_cons_succ]
      refine wpAnyH_take (i := 1) (v := ?v2) rfl (by kernel_rfl) (by kernel_rfl) (by kernel_rfl) (fun _ _ _ h => h) (Or.inl ⟨by kernel_rfl, ?h2⟩) HS ?r2
      case h2 => (rintro w s1; go_simp) <;> with_reducible rfl
      try simp only [Act.put, List.getElem_toArray, List.getElem_cons_succ, List.getElem_cons_zero, List.setIfInBounds_toArray, List.set_cons_zero, List.set_cons_succ]
      refine wpAnyH_take (i := 2) (v := ?v3) rfl (by kernel_rfl) (by kernel_rfl) (by kernel_rfl) (fun _ _ _ h => h) (Or.inl ⟨by kernel_rfl, ?h3⟩) HS ?r3
      case h3 => (rintro w s1; go_simp) <;> with_reducible rfl
      try simp only [Act.put, List.getElem_toArray, List.getElem_cons_succ, List.getElem_cons_zero, List.setIfInBounds_toArray, List.set_cons_zero, List.set_cons_succ]
      refine wpAnyH_take (i := 3) (v := ?v4) rfl (by kernel_rfl) (by kernel_rfl) (by kernel_rfl) (fun _ _ _ h => h) (Or.inl ⟨by kernel_rfl, ?h4⟩) HS ?r4
      case h4 => (rintro w s1; go_simp) <;> with_reducible rfl
      try simp only [Act.put, List.getElem_toArray, List.getElem_cons_succ, List.getElem_cons_zero, List.setIfInBounds_toArray, List.set_cons_zero, List.set_cons_succ]
      refine wpAnyH_take (i := 4) (v := ?v5) rfl (by kernel_rfl) (by kernel_rfl) (by kernel_rfl) (fun _ _ _ h => h) (Or.inl ⟨by kernel_rfl, ?h5⟩) HS ?r5
      case h5 => (rintro w s1; go_simp) <;> with_reducible rfl
      try simp only [Act.put, List.getElem_toArray, List.getElem_cons_succ, List.getElem_cons_zero, List.setIfInBounds_toArray, List.set_cons_zero, List.set_cons_succ]
      refine wpAnyH_take (i := 5) (v := ?v6) rfl (by kernel_rfl) (by kernel_rfl) (by kernel_rfl) (fun _ _ _ h => h) (Or.inl ⟨by kernel_rfl, ?h6⟩) HS ?r6
      case h6 => (rintro w s1; go_simp) <;> with_reducible rfl
      try simp only [Act.put, List.getElem_toArray, List.getElem_cons_succ, List.getElem_cons_zero, List.setIfInBounds_toArray, List.set_cons_zero, List.set_cons_succ]
      refine wpAnyH_take (i := 6) (v := ?v7) rfl (by kernel_rfl) (by kernel_rfl) (by kernel_rfl) (fun _ _ _ h => h) (Or.inl ⟨by kernel_rfl, ?h7⟩) HS ?r7
      case h7 => (rintro w s1; go_simp) <;> with_reducible rfl
      try simp only [Act.put, List.getElem_toArray, List.getElem_cons_succ, List.getElem_cons_zero, List.setIfInBounds_toArray, List.set_cons_zero, List.set_cons_succ]
      refine wpAnyH_take (i := 7) (v := ?v8) rfl (by kernel_rfl) (by kernel_rfl) (by kernel_rfl) (fun _ _ _ h => h) (Or.inl ⟨by kernel_rfl, ?h8⟩) HS ?r8
      case h8 => (rintro w s1; go_simp) <;> with_reducible rfl
      try simp only [Act.put, List.getElem_toArray, List.getElem_cons_succ, List.getElem_cons_zero, List.setIfInBounds_toArray, List.set_cons_zero, List.set_cons_succ]
      refine wpAnyH_take (i := 8) (v := ?v9) rfl (by kernel_rfl) (by kernel_rfl) (by kernel_rfl) (fun _ _ _ h => h) (Or.inl ⟨by kernel_rfl, ?h9⟩) HS ?r9
      case h9 => (rintro w s1; go_simp) <;> with_reducible rfl
      try simp only [Act.put, List.getElem_toArray, List.getElem_cons_succ, List.getElem_cons_zero, List.setIfInBounds_toArray, List.set_cons_zero, List.set_cons_succ]
      refine wpAnyH_take (i := 9) (v := ?v10) rfl (by kernel_rfl) (by kernel_rfl) (by kernel_rfl) (fun _ _ _ h => h) (Or.inl ⟨by kernel_rfl, ?h10⟩) HS ?r10
      case h10 => (rintro w s1; go_simp) <;> with_reducible rfl
      try simp only [Act.put, List.getElem_toArray, List.getElem_cons_succ, List.getElem_cons_zero, List.setIfInBounds_toArray, List.set_cons_zero, List.set_cons_succ]
      refine wpAnyH_take (i := 10) (v := ?v11) rfl (by kernel_rfl) (by kernel_rfl) (by kernel_rfl) (fun _ _ _ h => h) (Or.inl ⟨by kernel_rfl, ?h11⟩) HS ?r11
      case h11 => (rintro w s1; go_simp) <;> with_reducible rfl
      try simp only [Act.put, List.getElem_toArray, List.getElem_cons_succ, List.getElem_cons_zero, List.setIfInBounds_toArray, List.set_cons_zero, List.set_cons_succ]
      refine wpAnyH_take (i := 11) (v := ?v12) rfl (by kernel_rfl) (by kernel_rfl) (by kernel_rfl) (fun _ _ _ h => h) (Or.inl ⟨by kernel_rfl, ?h12⟩) HS ?r12
      case h12 => (rintro w s1; go_simp) <;> with_reducible rfl
      try simp only [Act.put, List.getElem_toArray, List.getElem_cons_succ, List.getElem_cons_zero, List.setIfInBounds_toArray, List.set_cons_zero, List.set_cons_succ]
      refine wpAnyH_take (i := 12) (v := ?v13) rfl (by kernel_rfl) (by kernel_rfl) (by kernel_rfl) (fun _ _ _ h => h) (Or.inl ⟨by kernel_rfl, ?h13⟩) HS ?r13
      case h13 => (rintro w s1; go_simp) <;> with_reducible rfl
      try simp only [Act.put, List.getElem_toArray, List.getElem_cons_succ, List.getElem_cons_zero, List.setIfInBounds_toArray, List.set_cons_zero, List.set_cons_succ]
      refine wpAnyH_take (i := 13) (v := ?v14) rfl (by kernel_rfl) (by kernel_rfl) (by kernel_rfl) (fun _ _ _ h => h) (Or.inl ⟨by kernel_rfl, ?h14⟩) HS ?r14
      case h14 => (rintro w s1; go_simp) <;> with_reducible rfl
      try simp only [Act.put, List.getElem_toArray, List.getElem_cons_succ, List.getElem_cons_zero, List.setIfInBounds_toArray, List.set_cons_zero, List.set_cons_succ]
      refine wpAnyH_take (i := 14) (v := ?v15) rfl (by kernel_rfl) (by kernel_rfl) (by kernel_rfl) (fun _ _ _ h => h) (Or.inl ⟨by kernel_rfl, ?h15⟩) HS ?r15
      case h15 => (rintro w s1; go_simp) <;> with_reducible rfl
      try simp only [Act.put, List.getElem_toArray, List.getElem_cons_succ, List.getElem_cons_zero, List.setIfInBounds_toArray, List.set_cons_zero, List.set_cons_succ]
      refine wpAnyH_take (i := 15) (v := ?v16) rfl (by kernel_rfl) (by kernel_rfl) (by kernel_rfl) (fun _ _ _ h => h) (Or.inl ⟨by kernel_rfl, ?h16⟩) HS ?r16
      case h16 => (rintro w s1; go_simp) <;> with_reducible rfl
      try simp only [Act.put, List.getElem_toArray, List.getElem_cons_succ, List.getElem_cons_zero, List.setIfInBounds_toArray, List.set_cons_zero, List.set_cons_succ]
      refine wpAnyH_take (i := 16) (v := ?v17) rfl (by kernel_rfl) (by kernel_rfl) (by kernel_rfl) (fun _ _ _ h => h) (Or.inl ⟨by kernel_rfl, ?h17⟩) HS ?r17
      case h17 => (rintro w s1; go_simp) <;> with_reducible rfl
      try simp only [Act.put, List.getElem_toArray, List.getElem_cons_succ, List.getElem_cons_zero, List.setIfInBounds_toArray, List.set_cons_zero, List.set_cons_succ]
      refine wpAnyH_ready (rs := [17]) (by kernel_rfl) (by simp) ?_
      refine AllReadyH.cons rfl (fun K hK => ?_) AllReadyH.nil
      go_simp
      refine hK.out _ _ (cell_later (bel1 _ _) HS) (fun HS => ?_)
      clear hK K
      refine wpAnyH_ready (rs := [18]) (by kernel_rfl) (by simp) ?_
      refine AllReadyH.cons rfl (fun K hK => ?_) AllReadyH.nil
      rw [if_pos (by kernel_rfl)]
      refine wp_append_own _ _ _ 48 rfl w.heap.size 66 i0 (.agg #[.int .i64 0, .int .i64 0, .slice none 0 0, .slice none 0 0]) 4 64 Tryz.underlying48 hti hy0 hy1 hy2 rfl (by decide) u5 i (lyL b o cap z i) rfl (HO2.out.alloc _) ⟨wd.heap.size, 0, none⟩ 1 1 [.int .i64 (zb : Int), .int .i64 (za : Int), .slice (some ⟨b, oF, none⟩) wt KF, .slice (some ⟨b, oF + wt, none⟩) (wz - wt) (KF - wt)] rfl rfl (cell_four_new _ _ _ _ _ _) (by intro q hq; simp only [List.mem_cons, List.not_mem_nil, or_false] at hq; rcases hq with rfl | rfl | rfl | rfl <;> rfl) (by unfold maxLen; omega) (by omega) (by have := HW2.out.size; rw [World.size_alloc]; omega) (fun v' w9 hown' hgrow hnil => ?_)
      have HW9 : Hid (Below w.heap.size w w9) := below_own HW2.out HW2.out.size HO2.out hgrow
      refine hK.out _ _ (cell_later HW9.out HXa.out) (fun HS => ?_)
      clear hK K hgrow hnil
      refine wpAnyH_take (i := 19) (v := ?v18) rfl (by kernel_rfl) (by kernel_rfl) (by kernel_rfl) (fun _ _ _ h => h) (Or.inl ⟨by kernel_rfl, ?h18⟩) HS ?r18
      case h18 => (rintro w s1; go_simp) <;> with_reducible rfl
      try simp only [Act.put, List.getElem_toArray, List.getElem_cons_succ, List.getElem_cons_zero, List.setIfInBounds_toArray, List.set_cons_zero, List.set_cons_succ]
      refine wpAnyH_done (by kernel_rfl) ?_ _
      clear HS
      have HO9 : Hid (w9.ownsRow w.heap.size 66 4 v' (i + 1) (lyL b o cap z (i + 1))) := by
        have e : wz - wt = zb := by have := HN.out; omega
        rw [e] at hown'
        show w9.ownsRow w.heap.size 66 4 v' (i + 1) (lyL b o cap z (i + 1))
        rw [← HR.out, hR]
        exact hown'
      clear hown' hR HO2 HW2
      have HN2 : Hid (fsN z (i + 1) < fsN z M ∨ i + 1 = M) := by
        show _ ∨ _
        rcases Nat.lt_or_ge (i + 1) M with h | h
        · left
          have h1 := fsN_mono z (show i + 1 + 1 ≤ M from h)
          have h2 := (lyN_le z (M + 1) (i + 1) HZ.out (by omega)).2
          have h3 : fsN z (i + 1 + 1) = fsN z (i + 1) + lyN z (i + 1) := rfl
          omega
        · right; omega
      by_cases hq : KF = wz
      · have hq2 : wz ≤ wz := Nat.le_refl _
        subst hq
        go_wp2
        go_roundw
        case rel =>
          have e1 := HN.out
          have e2 := HF.out
          have e3 := HN2.out
          have e4 := HCP.out
          refine ⟨i + 1, by omega, by go_num, ⟨oF, ?_, fun h => by omega⟩, HO9, HW9⟩
          rw [show cp - fsN z (i + 1) = LF - KF by omega, show cap - fsN z (i + 1) = KF - KF by omega]
          first | rfl | simp
        case measure => simp [intOf]; omega
      · go_wp2
        go_roundw
        case rel =>
          have e1 := HN.out
          have e2 := HF.out
          refine ⟨i + 1, by omega, by go_num, ⟨oF + wz, ?_, fun _ => by omega⟩, HO9, HW9⟩
          rw [show cp - fsN z (i + 1) = LF - wz by omega, show cap - fsN z (i + 1) = KF - wz by omega]
        case measure => simp [intOf]; omega
    · obtain rfl : i = M := by omega
      have hiI : ¬ (i : Int) < (i : Int) := by omega
      obtain ⟨HL, HOw⟩ := lyr_of_own HO.out (by omega)
      obtain ⟨g, cL, rfl, l1, l2, l3⟩ := id HL
      have HL' : Hid (Lyr wr (.slice (some ⟨g, 0, none⟩) i cL) i z b o cap ∧ w.heap.size ≤ g) := ⟨HL, HOw _ _ _ rfl (by omega)⟩
      clear HL HOw l3 HO
      go_wp2
      go_ret
      exact ⟨g, cL, rfl, HL'.out.1, HL'.out.2, HW.out⟩
end Go.Proofs.YtdfjnbkkdgolnabGreatDoor
