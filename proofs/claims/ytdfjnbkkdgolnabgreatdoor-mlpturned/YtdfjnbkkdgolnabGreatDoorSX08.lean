/-
  Texts of this proof, joined: NWalkG MMath NMath NWalkA NWalkC.
-/
import Derived.Test.YtdfjnbkkdgolnabGreatDoorSX03
import Derived.Test.YtdfjnbkkdgolnabGreatDoorSX04
import Derived.Test.YtdfjnbkkdgolnabGreatDoorSX07
import Derived.Laws.CopyOwn
import Derived.Maps.AppendAt
import Derived.Deep.RegionHeld3
set_option linter.unusedVariables false
set_option linter.unusedSimpArgs false
namespace Go.Proofs.YtdfjnbkkdgolnabGreatDoor
open Go.RowKit

/-- What is left behind a call that counts and writes into one block. -/
structure Uy (p : Option Addr) (c : Int) (g : Nat) (w w' : World) : Prop where
  up : Up p c w'
  base : ∀ (w0 : World) (c0 : Int), Ux p c0 w0 w → w0.heap.size ≤ g → Ux p c w0 w'
  blk : ∀ i, i < w.heap.size → i ≠ g → Nu i p → w'.heap[i]? = w.heap[i]?
  size : w.heap.size ≤ w'.heap.size
theorem Ux.uy {p : Option Addr} {c : Int} {w w' : World} (h : Ux p c w w') (g : Nat) : Uy p c g w w' := ⟨h.up, fun w0 c0 h0 _ => h0.chain h, fun i hi _ hn => h.blk hi hn, h.size⟩
theorem Up.far {p : Option Addr} {c : Int} {w : World} (h : Up p c w) {a : Addr} (u : Value) (ha : Nu a.block p) : Up p c (w.setCell a u) := by
  rcases h with h | ⟨d, h, hc⟩
  · exact Or.inl h
  · exact Or.inr ⟨d, h, cell_set (ha d h) hc.1, by rw [World.frozen?_setCell]; exact hc.2⟩
theorem Uy.set {p : Option Addr} {c : Int} {g : Nat} {w w1 : World} (h : Uy p c g w w1) (hg : Nu g p) (k : Nat) (u : Value) : Uy p c g w (w1.setCell ⟨g, k, none⟩ u) where
  up := h.up.far u hg
  base := fun w0 c0 h0 hb => (h.base w0 c0 h0 hb).far u hb
  blk := fun i hi hn hu => (Below.heap_setCell _ _ _ _ (fun e => hn (by first | exact e | exact e.symm))).trans (h.blk i hi hn hu)
  size := by rw [World.size_setCell]; exact h.size
theorem Uy.sets {p : Option Addr} {c : Int} {g : Nat} {w : World} (hg : Nu g p) : ∀ (cs : List Value) (o : Nat) (w1 : World), Uy p c g w w1 → Uy p c g w (w1.setCells g o cs)
  | [], _, _, h => h
  | v :: r, o, w1, h => Uy.sets hg r (o + 1) (w1.setCell ⟨g, o, none⟩ v) (h.set hg o v)
theorem Uy.chain {p : Option Addr} {c c' : Int} {g : Nat} {w w1 w2 : World} (h : Uy p c g w w1) (k : Uy p c' g w1 w2) : Uy p c' g w w2 where
  up := k.up
  base := fun w0 c0 h0 hb => k.base w0 c (h.base w0 c0 h0 hb) hb
  blk := fun i hi hn hu => (k.blk i (by have := h.size; omega) hn hu).trans (h.blk i hi hn hu)
  size := Nat.le_trans h.size k.size
theorem Uy.cell {p : Option Addr} {c : Int} {g : Nat} {w w' : World} (h : Uy p c g w w') {a : Addr} {v : Value} (hg : a.block ≠ g) (hn : Nu a.block p) (hc : w.cell? a = some v) : w'.cell? a = some v :=
  (World.cell?_of_block (w := w) (h.blk _ (World.block_lt_of_cell? _ _ hc) hg hn)).trans hc
theorem Ar.uy {w w' : World} {v : Value} {n : Nat} {f : Nat → Int} {p : Option Addr} {c : Int} {g : Nat} (h : Ar w v n f) (hn : Nv v p) (hg : Nb v g) (hU : Uy p c g w w') : Ar w' v n f := by
  obtain ⟨adr, cap, b, o, h1, h2, h3, h4, h5⟩ := h
  refine ⟨adr, cap, b, o, h1, h2, h3, h4, fun k hk => ⟨hU.cell ?_ ?_ (h5 k hk).1, (h5 k hk).2⟩⟩
  · have e := h4 (by omega)
    subst e
    exact hg ⟨b, o, none⟩ n cap h1 (by omega)
  · have e := h4 (by omega)
    subst e
    subst h1
    exact hn.nu (by omega)
theorem Rw.sets {b n : Nat} : ∀ (cs : List Value) (o : Nat) (h : Nat → Value) (w : World), Rw b n h w → Rw b n (fun k => if o ≤ k ∧ k < o + cs.length then (cs[k - o]?).getD undef else h k) (w.setCells b o cs)
  | [], o, h, w, r => r.congr (fun k _ => by rw [if_neg (by simp)])
  | v :: cs, o, h, w, r => (Rw.sets cs (o + 1) _ (w.setCell ⟨b, o, none⟩ v) (r.set o v)).congr (fun k _ => by
      by_cases h1 : k = o
      · subst h1
        rw [if_neg (by omega), if_pos rfl, if_pos (by simp), Nat.sub_self]
        rfl
      · by_cases h2 : o + 1 ≤ k ∧ k < o + 1 + cs.length
        · rw [if_pos h2, if_pos (by simp; omega), show k - o = (k - (o + 1)) + 1 by omega]
          rfl
        · rw [if_neg h2, if_neg h1, if_neg (by simp; omega)])
theorem wpList_copy_rw {P : Program} {w : World} {ops : Array Oper} {rest : List Oper} {o : Oper} {a : Act} {Q : Exit → Act → World → Prop} (hgd : o.guard = none) (d s : Operand) (dT sT : TypeId)
    (ho : o.op = .call { callee := .builtin .copy, args := #[d, s], argTypes := #[dT, sT] }) (elem : TypeId) (hu : P.underlying dT = some (.slice elem)) (hsz : (P.info? elem).map (·.size) = some 1)
    (b off dLen dCap : Nat) (ad : Addr) (sLen sCap : Nat) (hd : a.eval d = .slice (some ⟨b, off, none⟩) dLen dCap) (hs : a.eval s = .slice (some ad) sLen sCap)
    (cs : List Value) (hn : cs.length = Nat.min sLen dLen) (hsrc : ∀ j v, cs[j]? = some v → w.cell? (ad.add j) = some v) (hc : ∀ j, j < cs.length → (w.cell? ⟨b, off + j, none⟩).isSome = true) (hf : ∀ j, j < cs.length → w.frozen? ⟨b, off + j, none⟩ = false) (h1 : ∀ v ∈ cs, v.oneCell' = true)
    (h : wpList P ops Q rest (a.put o.dst (goInt cs.length)) (w.setCells b off cs)) : wpList P ops Q (o :: rest) a w := by
  refine wpList_plain hgd fun K hK => ?_
  have hrun := run_copy_cells (P := P) w dT sT o.type elem b off dLen dCap ad sLen sCap cs hu hsz hn hsrc hc hf h1
  unfold Oper.wp
  simp [execOp, ho, resolve, invoke, builtin, hd, hs, hrun, Result.andThen]
  exact hK _ _ h
/-- A list's numbers, as a copy takes them. -/
theorem il_src {w : World} {b o n cap : Nat} {f : Nat → Int} (h : Ar w (.slice (some ⟨b, o, none⟩) n cap) n f) : ∀ j v, (il f n)[j]? = some v → w.cell? ((⟨b, o, none⟩ : Addr).add j) = some v := by
  intro j v hv
  have hj : j < n := by
    rcases Nat.lt_or_ge j n with h1 | h1
    · exact h1
    · rw [List.getElem?_eq_none (by unfold il; simp; omega)] at hv
      cases hv
  rw [il_get f n j hj] at hv
  cases hv
  obtain ⟨adr, ca, bb, oo, e, h2, h3, h4, h5⟩ := h
  cases e
  have e2 := h4 (by omega)
  cases e2
  rw [show (⟨b, o, none⟩ : Addr).add j = ⟨b, o + j, none⟩ by unfold Addr.add; split <;> simp_all]
  exact (h5 j hj).1
/-- A gradient with a layer's part filled in. -/
def flX (R C q : Nat) (F s v : Nat → Int) (j : Nat) : Int := if q + R * C ≤ j ∧ j < q + R * C + R then s (j - (q + R * C)) else if q ≤ j ∧ j < q + R * C then otX s v C (j - q) else F j
set_option maxRecDepth 100000 in
set_option maxHeartbeats 8000000 in
theorem fill_any (R C g q k1 k2 cp : Nat) (F s v : Nat → Int) (vs va : Value) (p : Option Addr) (c : Int) (hR : R ≤ 64) (hC : C ≤ 64) (hR1 : 1 ≤ R) (hC1 : 1 ≤ C) (c0 : 0 ≤ c) (c1 : c ≤ 700000000) (hq : q + R * C + R ≤ cp) (w : World) (hG : Rw g cp (fun j => .int .i64 (F j)) w) (hs : Ar w vs R s) (hv : Ar w va C v) (ns : Nv vs p) (nv : Nv va p) (ng : Nu g p) (gs : Nb vs g) (hp : Up p c w) :
    Calls Tryz.prog 30 #[.agg #[.int .i64 (R : Int), .int .i64 (C : Int), .slice (some ⟨g, q, none⟩) (R * C) k1, .slice (some ⟨g, q + R * C, none⟩) R k2], .pointer p, vs, va] w fun e w' => e = .returned (.tuple #[]) ∧ Rw g cp (fun j => .int .i64 (flX R C q F s v j)) w' ∧ Uy p (c + otN s v C R) g w w' := by
  obtain ⟨i0, hti, hy0, hy1, hy2⟩ := info_parts dinfo_fx
  have hsz : (Tryz.prog.info? 32).map (·.size) = some 1 := by rw [hti]; simp [hy1]
  have hRC : R * C ≤ 64 * 64 := Nat.mul_le_mul hR hC
  have hRC1 : 1 * 1 ≤ R * C := Nat.mul_le_mul hR1 hC1
  obtain ⟨ads, cs, bs, os, rfl, s2, s3, s4, s5⟩ := id hs
  have es := s4 (by omega)
  subst es
  have hgs : bs ≠ g := gs _ _ _ rfl (by omega)
  have hglt : g < w.heap.size := World.block_lt_of_cell? _ _ (hG.c 0 (by omega))
  have hbs : bs < w.heap.size := World.block_lt_of_cell? _ _ (s5 0 (by omega)).1
  obtain ⟨w1, hw1⟩ : ∃ w1, w1 = w.alloc (.cells #[.int .i64 (R : Int), .int .i64 (C : Int), .slice (some ⟨g, q, none⟩) (R * C) k1, .slice (some ⟨g, q + R * C, none⟩) R k2] 66) := ⟨_, rfl⟩
  have HB1 : B4 w.heap.size (.int .i64 (R : Int)) (.int .i64 (C : Int)) (.slice (some ⟨g, q, none⟩) (R * C) k1) (.slice (some ⟨g, q + R * C, none⟩) R k2) w1 := by rw [hw1]; exact B4.new w _ _ _ _ _
  have HW1 : Below w.heap.size w w1 := by rw [hw1]; exact bel1 _ _
  have hnw : Nu w.heap.size p := hp.lt (Nat.le_refl _)
  have CO := outer_ux (.slice (some ⟨bs, os, none⟩) R cs) va R C s v hR hC hR1 hC1 p c c0 (by omega) w1 (hs.later HW1) (hv.later HW1) ns nv (hp.later HW1)
  obtain ⟨adv, cv, bv, ov, rfl, v2, v3, -, -⟩ := hv
  have HG1 : Hid (Rw g cp (fun j => .int .i64 (F j)) w1) := hG.later HW1
  have HS1 : Hid (Ar w1 (.slice (some ⟨bs, os, none⟩) R cs) R s) := hs.later HW1
  have HU1 : Hid (Ux p c w w1) := hp.ux HW1
  have HB1' : Hid (B4 w.heap.size (.int .i64 (R : Int)) (.int .i64 (C : Int)) (.slice (some ⟨g, q, none⟩) (R * C) k1) (.slice (some ⟨g, q + R * C, none⟩) R k2) w1) := HB1
  have hs1 : w1.heap.size = w.heap.size + 1 := by rw [hw1, World.size_alloc]
  clear HB1 HW1 s4 s5 hG hs hp gs
  go_enter Tryz.func30, Tryz.ntmps30
  go_upto_region 1 with fail
  rw [← hw1]
  clear hw1
  go_wp2_with fail
  refine CO.mono ?_
  rintro e w2 ⟨⟨v', rfl, hL⟩, hU2⟩
  have hA2 := hL.1 rfl
  have hO2 := hL.2.2
  obtain ⟨ad2, ca2, b2, o2, rfl, p2, p3, p4, p5⟩ := id hA2
  have e2 := p4 (by omega)
  subst e2
  have hb2 : w1.heap.size ≤ b2 := hO2 _ _ _ rfl (by omega)
  have HG2 := HG1.out.ux ng hU2
  have HS2 := HS1.out.ux ns hU2
  have HB2 := HB1'.out.ux hnw hU2
  have HU2 := HU1.out.chain hU2
  have hs2 := hU2.size
  have hlt2 : b2 < w2.heap.size := World.block_lt_of_cell? _ _ (p5 0 (by omega)).1
  obtain ⟨w3, hw3⟩ : ∃ w3, w3 = w2.alloc (.cells #[.int .i64 (R : Int), .int .i64 (C : Int), .slice (some ⟨b2, o2, none⟩) (R * C) ca2] 64) := ⟨_, rfl⟩
  have hb3 : Below w2.heap.size w2 w3 := by rw [hw3]; exact bel1 _ _
  have HG3 : Hid (Rw g cp (fun j => .int .i64 (F j)) w3) := HG2.later hb3
  have HS3 : Hid (Ar w3 (.slice (some ⟨bs, os, none⟩) R cs) R s) := HS2.later hb3
  have HA3 : Hid (Ar w3 (.slice (some ⟨b2, o2, none⟩) (R * C) ca2) (R * C) (otX s v C)) := hA2.later hb3
  have HU3 : Hid (Ux p (c + otN s v C R) w w3) := HU2.later hb3
  have HB3 := HB2.later hb3
  have y2 := HB3.c2
  have y3 := HB3.c3
  have z2 : w3.cell? ⟨w2.heap.size, 2, none⟩ = some (.slice (some ⟨b2, o2, none⟩) (R * C) ca2) := by rw [hw3]; simp [go_sem]
  clear CO hL hA2 hO2 p4 p5 HG2 HS2 HB2 HU2 HB3 hb3 HG1 HS1 HU1 HB1' hU2
  obtain ⟨RC, hRCe⟩ : ∃ x, R * C = x := ⟨_, rfl⟩
  obtain ⟨qr, hqr⟩ : ∃ x, q + RC = x := ⟨_, rfl⟩
  rw [hRCe] at hRC hRC1 hq y2 z2 hw3 HA3 ⊢
  rw [hRCe, hqr] at y3
  rw [hqr] at hq
  rw [hqr]
  go_upto_region 2 with fail
  rw [← hw3]
  clear hw3
  obtain ⟨w4, hw4⟩ : ∃ w4, w3.setCells g q (il (otX s v C) RC) = w4 := ⟨_, rfl⟩
  have hY4 : Uy p (c + otN s v C R) g w3 w4 := by rw [← hw4]; exact (HU3.out.up.same.uy g).sets ng _ _ _
  have HG4 : Hid (Rw g cp (fun j => if q ≤ j ∧ j < q + (il (otX s v C) RC).length then ((il (otX s v C) RC)[j - q]?).getD undef else .int .i64 (F j)) w4) := by rw [← hw4]; exact HG3.out.sets _ _ _ _
  have HS4 : Hid (Ar w4 (.slice (some ⟨bs, os, none⟩) R cs) R s) := HS3.out.uy ns (fun a n c e _ => by cases e; exact hgs) hY4
  have y34 : w4.cell? ⟨w.heap.size, 3, none⟩ = some (.slice (some ⟨g, qr, none⟩) R k2) := hY4.cell (by dsimp only; omega) hnw y3
  have HU4 : Hid (Uy p (c + otN s v C R) g w w4) := (HU3.out.uy g).chain hY4
  obtain ⟨w5, hw5⟩ : ∃ w5, w4.setCells g qr (il s R) = w5 := ⟨_, rfl⟩
  have HG5 : Hid (Rw g cp (fun j => if qr ≤ j ∧ j < qr + (il s R).length then ((il s R)[j - qr]?).getD undef else if q ≤ j ∧ j < q + (il (otX s v C) RC).length then ((il (otX s v C) RC)[j - q]?).getD undef else .int .i64 (F j)) w5) := by rw [← hw5]; exact HG4.out.sets _ _ _ _
  have HU5 : Hid (Uy p (c + otN s v C R) g w w5) := by rw [← hw5]; exact HU4.out.sets ng _ _ _
  have HRCe : Hid (R * C = RC ∧ q + RC = qr) := ⟨hRCe, hqr⟩
  have hq1 : q + RC ≤ cp := by omega
  have hq2 : qr + R ≤ cp := by omega
  clear hY4 hRCe hqr HU4
  go_wp2_with (first
    | (refine wpList_copy_rw rfl _ _ 23 23 rfl 32 Tryz.underlying23 hsz g q RC k1 ⟨b2, o2, none⟩ RC ca2 rfl rfl (il (otX s v C) RC) (by rw [il_len]; exact (Nat.min_self RC).symm) (il_src HA3.out) (fun j hj => by rw [il_len] at hj; rw [HG3.out.c (q + j) (by omega)]; rfl) (fun j hj => by rw [il_len] at hj; exact HG3.out.f (q + j) (by omega)) (il_one _ _) ?_; rw [hw4]; clear y2 y3 z2)
    | (refine wpList_copy_rw rfl _ _ 23 23 rfl 32 Tryz.underlying23 hsz g qr R k2 ⟨bs, os, none⟩ R cs rfl rfl (il s R) (by rw [il_len]; exact (Nat.min_self R).symm) (il_src HS4.out) (fun j hj => by rw [il_len] at hj; rw [HG4.out.c (qr + j) (by omega)]; rfl) (fun j hj => by rw [il_len] at hj; exact HG4.out.f (qr + j) (by omega)) (il_one _ _) ?_; rw [hw5]; clear y34))
  go_end0
  refine ⟨rfl, HG5.out.congr (fun j hj => ?_), HU5.out⟩
  obtain ⟨e1, e2⟩ := HRCe.out
  unfold flX
  rw [e1, e2, il_len, il_len]
  by_cases h1 : qr ≤ j ∧ j < qr + R
  · rw [if_pos h1, if_pos h1, il_get s R (j - qr) (by omega)]
    rfl
  · rw [if_neg h1, if_neg h1]
    by_cases h2 : q ≤ j ∧ j < qr
    · rw [if_pos (by omega), if_pos h2, il_get _ RC (j - q) (by omega)]
      rfl
    · rw [if_neg (by omega), if_neg h2]
end Go.Proofs.YtdfjnbkkdgolnabGreatDoor
set_option linter.unusedVariables false
set_option linter.unusedSimpArgs false
namespace Go.Proofs.YtdfjnbkkdgolnabGreatDoor
open Go.RowKit
/-- Two places change. -/
def swpN (i j k : Nat) : Nat := if k = i then j else if k = j then i else k
theorem sum_split (f : Nat → Int) (i : Nat) (n : Nat) (h : i < n) : sumV f n = f i + sumV (fun k => if k = i then 0 else f k) n := by
  induction n with
  | zero => omega
  | succ n ih =>
    show sumV f n + f n = f i + (sumV (fun k => if k = i then 0 else f k) n + (if n = i then 0 else f n))
    rcases Nat.lt_or_ge i n with h1 | h1
    · rw [ih h1, if_neg (by omega)]
      omega
    · obtain rfl : i = n := by omega
      rw [if_pos rfl]
      have : sumV f i = sumV (fun k => if k = i then 0 else f k) i := by
        have key : ∀ q, q ≤ i → sumV f q = sumV (fun k => if k = i then 0 else f k) q := fun q => by
          induction q with
          | zero => intro _; rfl
          | succ q ihq =>
            intro hq
            show sumV f q + f q = sumV (fun k => if k = i then 0 else f k) q + (if q = i then 0 else f q)
            rw [ihq (by omega), if_neg (by omega)]
        exact key i (Nat.le_refl _)
      omega
theorem sum_congr (f g : Nat → Int) (n : Nat) (h : ∀ k, k < n → f k = g k) : sumV f n = sumV g n := by
  induction n with
  | zero => rfl
  | succ n ih =>
    show sumV f n + f n = sumV g n + g n
    rw [ih (fun k hk => h k (by omega)), h n (by omega)]
theorem sum_swp (f : Nat → Int) (i j n : Nat) (hi : i < n) (hj : j < n) : sumV (fun k => f (swpN i j k)) n = sumV f n := by
  by_cases e : i = j
  · subst e
    exact sum_congr _ _ _ (fun k _ => by show f (swpN i i k) = f k; unfold swpN; by_cases h : k = i <;> simp [h])
  · rw [sum_split (fun k => f (swpN i j k)) i n hi, sum_split f i n hi]
    rw [sum_split (fun k => if k = i then 0 else f (swpN i j k)) j n hj, sum_split (fun k => if k = i then 0 else f k) j n hj]
    have e1 : swpN i j i = j := by unfold swpN; rw [if_pos rfl]
    have e2 : swpN i j j = i := by unfold swpN; rw [if_neg (fun h => e h.symm), if_pos rfl]
    have e3 : sumV (fun k => if k = j then 0 else if k = i then 0 else f (swpN i j k)) n = sumV (fun k => if k = j then 0 else if k = i then 0 else f k) n := sum_congr _ _ _ (fun k _ => by
      by_cases h1 : k = j
      · rw [if_pos h1, if_pos h1]
      · rw [if_neg h1, if_neg h1]
        by_cases h2 : k = i
        · rw [if_pos h2, if_pos h2]
        · rw [if_neg h2, if_neg h2]
          unfold swpN
          rw [if_neg h2, if_neg h1])
    show f (swpN i j i) + ((if j = i then 0 else f (swpN i j j)) + sumV (fun k => if k = j then 0 else if k = i then 0 else f (swpN i j k)) n) = f i + ((if j = i then 0 else f j) + sumV (fun k => if k = j then 0 else if k = i then 0 else f k) n)
    rw [e1, e2, e3, if_neg (fun h => e h.symm), if_neg (fun h => e h.symm)]
    omega
theorem dot_sum (f g : Nat → Int) (n : Nat) : dotV f g n = sumV (fun k => f k * g k) n := by
  induction n with
  | zero => rfl
  | succ n ih =>
    show dotV f g n + f n * g n = sumV (fun k => f k * g k) n + f n * g n
    rw [ih]
theorem dot_congr (f g f' g' : Nat → Int) (n : Nat) (h : ∀ k, k < n → f k = f' k ∧ g k = g' k) : dotV f g n = dotV f' g' n := by
  rw [dot_sum, dot_sum]
  exact sum_congr _ _ _ (fun k hk => by rw [(h k hk).1, (h k hk).2])
/-- Where two hidden outputs change places, with all that leads to and from them, the outputs are the same. -/
theorem hidden_v (z : Nat → Nat) (P Q x : Nat → Int) (i j : Nat) (hi : i < z 1) (hj : j < z 1)
    (h1 : ∀ u k, u < z 1 → k < z 0 → Q (wtN z 0 u k) = P (wtN z 0 (swpN i j u) k)) (h2 : ∀ u, u < z 1 → Q (ofN z 0 u) = P (ofN z 0 (swpN i j u)))
    (h3 : ∀ o u, o < z 2 → u < z 1 → Q (wtN z 1 o u) = P (wtN z 1 o (swpN i j u))) (h4 : ∀ o, o < z 2 → Q (ofN z 1 o) = P (ofN z 1 o)) (o : Nat) (ho : o < z 2) : vN z 3 Q x 2 o = vN z 3 P x 2 o := by
  have hv1 : ∀ u, u < z 1 → vN z 3 Q x 1 u = vN z 3 P x 1 (swpN i j u) := fun u hu => by
    show hidV (decide (0 + 2 < 3)) (clv (rr (linN z Q x 0 u) 32)) = hidV (decide (0 + 2 < 3)) (clv (rr (linN z P x 0 (swpN i j u)) 32))
    have : linN z Q x 0 u = linN z P x 0 (swpN i j u) := by
      unfold linN
      rw [h2 u hu, dot_congr (fun k => Q (wtN z 0 u k)) x (fun k => P (wtN z 0 (swpN i j u) k)) x (z 0) (fun k hk => ⟨h1 u k hu hk, rfl⟩)]
    rw [this]
  show hidV (decide (1 + 2 < 3)) (clv (rr (linN z Q (vN z 3 Q x 1) 1 o) 32)) = hidV (decide (1 + 2 < 3)) (clv (rr (linN z P (vN z 3 P x 1) 1 o) 32))
  have : linN z Q (vN z 3 Q x 1) 1 o = linN z P (vN z 3 P x 1) 1 o := by
    unfold linN
    rw [h4 o ho, dot_congr (fun k => Q (wtN z 1 o k)) (vN z 3 Q x 1) (fun k => P (wtN z 1 o (swpN i j k))) (fun k => vN z 3 P x 1 (swpN i j k)) (z 1) (fun k hk => ⟨h3 o k ho hk, hv1 k hk⟩)]
    rw [dot_sum, dot_sum]
    rw [sum_swp (fun k => P (wtN z 1 o k) * vN z 3 P x 1 k) i j (z 1) hi hj]
  rw [this]
end Go.Proofs.YtdfjnbkkdgolnabGreatDoor
set_option linter.unusedVariables false
set_option linter.unusedSimpArgs false
namespace Go.Proofs.YtdfjnbkkdgolnabGreatDoor
open Go.RowKit

theorem ot_gr (s v : Nat → Int) (n u : Nat) : otN s v n u = grC s v n u := by
  induction u with
  | zero => rfl
  | succ u ih =>
    show otN s v n u + _ = grC s v n u + cntV (gwO s v u) n
    rw [ih]
    rfl
theorem sla_ah (z : Nat → Nat) (P s v : Nat → Int) (l i : Nat) : slaX (z (l + 1)) (z l) (fun i => P (fsN z l + i)) s v i = ahX z P s v l i := by
  unfold slaX ahX ahS
  rw [dot_congr s (fun u => P (fsN z l + (u * z l + i))) s (fun u => P (wtN z l u i)) (z (l + 1)) (fun k _ => ⟨rfl, by show P (fsN z l + (k * z l + i)) = P (fsN z l + k * z l + i); rw [Nat.add_assoc]⟩)]
theorem sla_ahO (z : Nat → Nat) (P s v : Nat → Int) (l i : Nat) : slaO (z (l + 1)) (z l) (fun i => P (fsN z l + i)) s v i = ahO z P s v l i := by
  unfold slaO ahO ahS
  rw [dot_congr s (fun u => P (fsN z l + (u * z l + i))) s (fun u => P (wtN z l u i)) (z (l + 1)) (fun k _ => ⟨rfl, by show P (fsN z l + (k * z l + i)) = P (fsN z l + k * z l + i); rw [Nat.add_assoc]⟩)]
theorem fl_grL {z : Nat → Nat} {m : Nat} {V S : Nat → Nat → Int} {F : Nat → Int} {l : Nat} (h : GrL z m V S (l + 1) F) (hz : 1 ≤ z l) : GrL z m V S l (flX (z (l + 1)) (z l) (fsN z l) F (S l) (V l)) := fun l' h1 h2 u hu => by
  have e0 : fsN z (l + 1) = fsN z l + (z l * z (l + 1) + z (l + 1)) := rfl
  rw [Nat.mul_comm (z l)] at e0
  rcases Nat.lt_or_ge l l' with hl | hl
  · have hm := fsN_mono z (show l + 1 ≤ l' from hl)
    refine ⟨fun i hi => ?_, ?_⟩
    · have := (wt_rng z l' u i hu hi).1
      unfold flX
      rw [if_neg (by omega), if_neg (by omega)]
      exact (h l' hl h2 u hu).1 i hi
    · have := (of_rng z l' u hu).1
      unfold flX
      rw [if_neg (by omega), if_neg (by omega)]
      exact (h l' hl h2 u hu).2
  · obtain rfl : l' = l := by omega
    refine ⟨fun i hi => ?_, ?_⟩
    · have hr := wt_rng z l' u i hu hi
      rw [Nat.mul_comm (z l')] at hr
      unfold flX
      rw [if_neg (by omega), if_pos (by omega)]
      have e : wtN z l' u i - fsN z l' = z l' * u + i := by unfold wtN; rw [Nat.mul_comm]; omega
      unfold otX
      rw [e, Nat.mul_add_div (by omega), Nat.div_eq_of_lt hi, Nat.add_zero, Nat.mul_add_mod, Nat.mod_eq_of_lt hi]
      rfl
    · have e : ofN z l' u = fsN z l' + z (l' + 1) * z l' + u := by unfold ofN; rw [Nat.mul_comm (z l')]
      unfold flX
      rw [if_pos (by omega), e]
      congr 1
      omega
theorem flX_rng (R C q : Nat) (F s v : Nat → Int) (hF : ∀ j, -9223372036854775808 ≤ F j ∧ F j ≤ 9223372036854775807) (hs : ∀ j, -9223372036854775808 ≤ s j ∧ s j ≤ 9223372036854775807) (j : Nat) : -9223372036854775808 ≤ flX R C q F s v j ∧ flX R C q F s v j ≤ 9223372036854775807 := by
  unfold flX
  split
  · exact hs _
  · split
    · unfold otX; exact clv_rng _
    · exact hF _
end Go.Proofs.YtdfjnbkkdgolnabGreatDoor
set_option linter.unusedVariables false
set_option linter.unusedSimpArgs false
namespace Go.Proofs.YtdfjnbkkdgolnabGreatDoor
open Go.RowKit

/-- Is a size outside? -/
def osB (x : Int) : Bool := decide (x < 1) || decide (64 < x)
theorem osB_yes {x : Int} (h : ¬ (1 ≤ x ∧ x ≤ 64)) : osB x = true := by unfold osB; simp; omega
theorem osB_no {x : Int} (h : 1 ≤ x ∧ x ≤ 64) : osB x = false := by unfold osB; simp; omega
set_option maxHeartbeats 1000000 in
theorem pOutside_any (x : Int) (w : World) :
    Calls Tryz.prog 43 #[.int .i64 x] w fun e w' => e = .returned (.bool (osB x)) ∧ w' = w := by
  by_cases h1 : x < 1
  · rw [osB_yes (by omega)]
    go_enter Tryz.func43, Tryz.ntmps43
    go_wp2
    go_ret
    exact ⟨rfl, rfl⟩
  · by_cases h2 : 64 < x
    · rw [osB_yes (by omega)]
      go_enter Tryz.func43, Tryz.ntmps43
      go_wp2
      go_ret
      exact ⟨rfl, rfl⟩
    · rw [osB_no (by omega)]
      go_enter Tryz.func43, Tryz.ntmps43
      go_wp2
      go_ret
      exact ⟨rfl, rfl⟩
/-- Is one of so many outside? -/
def osX (f : Nat → Int) (m : Nat) : Bool := (List.range m).any (fun k => osB (f k))
theorem osX_yes {f : Nat → Int} {m k : Nat} (hk : k < m) (h : osB (f k) = true) : osX f m = true := List.any_eq_true.2 ⟨k, List.mem_range.2 hk, h⟩
theorem osX_no {f : Nat → Int} {m : Nat} (h : ∀ k, k < m → osB (f k) = false) : osX f m = false := by
  rw [Bool.eq_false_iff]
  intro e
  obtain ⟨k, hk, h2⟩ := List.any_eq_true.1 e
  rw [h k (List.mem_range.1 hk)] at h2
  cases h2
theorem osX_sz {f : Nat → Int} {m : Nat} (h : szB f m) : osX f m = false := osX_no (fun k hk => osB_no (h k hk))
theorem osX_bad {f : Nat → Int} {m : Nat} (h : ¬ szB f m) : osX f m = true := by
  cases e : osX f m with
  | true => rfl
  | false =>
    refine absurd (fun k hk => ?_) h
    refine Classical.byContradiction fun hc => ?_
    rw [osX_yes hk (osB_yes hc)] at e
    cases e
set_option maxRecDepth 100000 in
set_option maxHeartbeats 2000000 in
theorem pIndex7_any (va : Value) (m : Nat) (f : Nat → Int) (w : World) (hA : Ar w va m f) :
    Calls Tryz.prog 62 #[va, .func (.func 43) #[] #[]] w fun e w' => ∃ i : Int, e = .returned (.int .i64 i) ∧ (osX f m = true → 0 ≤ i) ∧ (osX f m = false → i < 0) ∧ w' = w := by
  obtain ⟨adr, cap, b, o, rfl, k1, k2, k3, k4⟩ := hA
  unfold maxLen at k2
  have HC : Hid (∀ k, k < m → w.cell? ⟨b, o + k, none⟩ = some (.int .i64 (f k))) := fun k hk => (k4 k hk).1
  have HK : Hid (0 < m → adr = some ⟨b, o, none⟩) := k3
  clear k3 k4
  go_enter Tryz.func62, Tryz.ntmps62
  go_wp2
  go_loopw [8] (fun s8 wr => ∃ j : Nat, j ≤ m ∧ s8 = .int .i64 (j : Int) ∧ Hid (∀ k, k < j → osB (f k) = false) ∧ wr = w) (fun s8 _ => m - (intOf s8).toNat)
  case atStart => exact ⟨0, by omega, rfl, fun k hk => by omega, rfl⟩
  case round =>
    obtain ⟨j, hj, rfl, hA, rfl⟩ := hrel
    by_cases hlt : j < m
    · have hjI : (j : Int) < (m : Int) := by omega
      have ea := HK.out (by omega)
      subst ea
      have hcell := HC.out j hlt
      have CT : Hid (∀ W : World, Calls Tryz.prog 43 #[.int .i64 (f j)] W fun e w' => e = .returned (.bool (osB (f j))) ∧ w' = W) := fun W => pOutside_any (f j) W
      cases hb : osB (f j) with
      | true =>
        rw [hb] at CT
        have HF : Hid (osX f m = true) := osX_yes hlt hb
        clear hb hA
        go_wp2_with (go_at_call 43; refine (CT.out _).mono ?_; rintro e wz ⟨rfl, hz⟩; subst hz)
        go_ret
        exact ⟨_, rfl, fun _ => by omega, fun h => (by rw [HF.out] at h; cases h), rfl⟩
      | false =>
        rw [hb] at CT
        have HA2 : Hid (∀ k, k < j + 1 → osB (f k) = false) := fun k hk => by
          rcases Nat.lt_or_ge k j with h | h
          · exact hA.out k h
          · obtain rfl : k = j := by omega
            exact hb
        clear hb hA
        go_wp2_with (go_at_call 43; refine (CT.out _).mono ?_; rintro e wz ⟨rfl, hz⟩; subst hz)
        go_roundw
        case rel => exact ⟨j + 1, by omega, by go_num, HA2, trivial⟩
        case measure => simp [intOf]; omega
    · have HF : Hid (osX f m = false) := osX_no (fun k hk => hA.out k (by omega))
      have hjI : ¬ (j : Int) < (m : Int) := by omega
      clear hA
      go_wp2
      go_ret
      exact ⟨_, rfl, fun h => (by rw [HF.out] at h; cases h), fun _ => by omega, rfl⟩
set_option maxHeartbeats 1000000 in
theorem pContains7_any (va : Value) (m : Nat) (f : Nat → Int) (w : World) (hA : Ar w va m f) :
    Calls Tryz.prog 42 #[va, .func (.func 43) #[] #[]] w fun e w' => e = .returned (.bool (osX f m)) ∧ w' = w := by
  have CI : Hid (Calls Tryz.prog 62 #[va, .func (.func 43) #[] #[]] w fun e w' => ∃ i : Int, e = .returned (.int .i64 i) ∧ (osX f m = true → 0 ≤ i) ∧ (osX f m = false → i < 0) ∧ w' = w) := pIndex7_any va m f w hA
  obtain ⟨adr, cap, g, o, rfl, -, -, -, -⟩ := hA
  generalize osX f m = B at *
  cases B
  · go_enter Tryz.func42, Tryz.ntmps42
    go_wp2_with fail
    refine CI.out.mono ?_
    rintro e wz ⟨i, rfl, -, h1, hz⟩
    subst hz
    have h2 : ¬ (0 : Int) ≤ i := by have := h1 (by trivial); omega
    clear CI h1
    go_wp2
    go_ret
    exact ⟨by simp [h2], rfl⟩
  · go_enter Tryz.func42, Tryz.ntmps42
    go_wp2_with fail
    refine CI.out.mono ?_
    rintro e wz ⟨i, rfl, h1, -, hz⟩
    subst hz
    have h2 : (0 : Int) ≤ i := h1 (by trivial)
    clear CI h1
    go_wp2
    go_ret
    exact ⟨by simp [h2], rfl⟩
set_option maxRecDepth 100000 in
set_option maxHeartbeats 4000000 in
theorem pCount_no (va : Value) (m : Nat) (f : Nat → Int) (w : World) (hA : Ar w va m f) (hz : ¬ (2 ≤ m ∧ m ≤ 6 ∧ szB f m)) :
    Calls Tryz.prog 24 #[va] w fun e w' => e = .returned (.tuple #[.int .i64 0, .int .i64 70]) ∧ w' = w := by
  have CI : Hid (Calls Tryz.prog 42 #[va, .func (.func 43) #[] #[]] w fun e w' => e = .returned (.bool (osX f m)) ∧ w' = w) := pContains7_any va m f w hA
  obtain ⟨adr, cap, b, o, rfl, k1, k2, -, -⟩ := hA
  unfold maxLen at k2
  by_cases h2 : m < 2
  · have q1 : (m : Int) < 2 := by omega
    clear CI hz
    go_enter Tryz.func24, Tryz.ntmps24
    go_wp2
    go_ret2
    exact ⟨rfl, rfl⟩
  by_cases h6 : 6 < m
  · have q1 : ¬ (m : Int) < 2 := by omega
    have q2 : (6 : Int) < (m : Int) := by omega
    clear CI hz
    go_enter Tryz.func24, Tryz.ntmps24
    go_wp2
    go_ret2
    exact ⟨rfl, rfl⟩
  have q1 : ¬ (m : Int) < 2 := by omega
  have q2 : ¬ (6 : Int) < (m : Int) := by omega
  rw [osX_bad (fun h => hz ⟨by omega, by omega, h⟩)] at CI
  clear hz
  go_enter Tryz.func24, Tryz.ntmps24
  go_wp2_with fail
  refine CI.out.mono ?_
  rintro e wz ⟨rfl, hz⟩
  subst hz
  clear CI
  go_wp2
  go_ret2
  exact ⟨rfl, rfl⟩
set_option maxRecDepth 100000 in
set_option maxHeartbeats 4000000 in
theorem pCount_yes (va : Value) (m : Nat) (z : Nat → Nat) (w : World) (hA : Ar w va m (fun i => ((z i : Nat) : Int))) (hz : Szs z m) :
    Calls Tryz.prog 24 #[va] w fun e w' => e = .returned (.tuple #[.int .i64 ((fsN z (m - 1) : Nat) : Int), .int .i64 0]) ∧ w' = w := by
  have CI : Hid (Calls Tryz.prog 42 #[va, .func (.func 43) #[] #[]] w fun e w' => e = .returned (.bool (osX (fun i => ((z i : Nat) : Int)) m)) ∧ w' = w) := pContains7_any va m _ w hA
  obtain ⟨adr, cap, b, o, rfl, k1, k2, k3, k4⟩ := hA
  unfold maxLen at k2
  obtain ⟨m2, m6, hz⟩ := hz
  rw [osX_sz (fun i hi => by have := hz i hi; omega)] at CI
  have ha := k3 (by omega)
  subst ha
  obtain ⟨M, rfl⟩ : ∃ M, m = M + 1 := ⟨m - 1, by omega⟩
  have HX : Hid (∀ i, i < M + 1 → w.cell? ⟨b, o + i, none⟩ = some (.int .i64 ((z i : Nat) : Int))) := fun i hi => (k4 i hi).1
  have HZ : Hid (∀ i, i < M + 1 → 1 ≤ z i ∧ z i ≤ 64) := hz
  clear k3 k4 hz
  have q1 : ¬ ((M + 1 : Nat) : Int) < 2 := by omega
  have q2 : ¬ (6 : Int) < ((M + 1 : Nat) : Int) := by omega
  have q3 : (1 : Int) ≤ ((M + 1 : Nat) : Int) := by omega
  rw [Nat.add_sub_cancel]
  go_enter Tryz.func24, Tryz.ntmps24
  go_wp2_with fail
  refine CI.out.mono ?_
  rintro e wz ⟨rfl, hz⟩
  subst hz
  clear CI
  go_upto_region 5 with fail
  go_loopw [4, 22] (fun s3 si wr => ∃ i v : Nat, i ≤ M ∧ si = .int .i64 (i : Int) ∧ s3 = .int .i64 (v : Int) ∧ Hid (v = fsN z i) ∧ wr = wz) (fun _ si _ => M - (intOf si).toNat)
  case atStart => exact ⟨0, 0, by omega, rfl, rfl, rfl, rfl⟩
  case round =>
    obtain ⟨i, v, hi, rfl, rfl, HV, rfl⟩ := hrel
    by_cases hlt : i < M
    · have hiI : (i : Int) < (M : Int) := by omega
      have hiJ : (i : Int) < ((M + 1 : Nat) : Int) := by omega
      have cA : wr.cell? ⟨b, o + i, none⟩ = some (.int .i64 ((z i : Nat) : Int)) := HX.out i (by omega)
      have cB : wr.cell? ⟨b, o + 1 + i, none⟩ = some (.int .i64 ((z (i + 1) : Nat) : Int)) := by rw [show o + 1 + i = o + (i + 1) by omega]; exact HX.out (i + 1) (by omega)
      obtain ⟨z1, z2⟩ := HZ.out i (by omega)
      obtain ⟨y1, y2⟩ := HZ.out (i + 1) (by omega)
      have hvb : v ≤ 4160 * 6 := by
        have h := fsN_le z (M + 1) i HZ.out (by omega)
        rw [HV.out]; omega
      have HV2 : Hid (v + (z i + 1) * z (i + 1) = fsN z (i + 1)) := by
        show _ = fsN z i + (z i * z (i + 1) + z (i + 1))
        rw [HV.out, Nat.succ_mul]
      have hpb : (z i + 1) * z (i + 1) ≤ 65 * 64 := Nat.mul_le_mul (by omega) y2
      have epr : (((z i + 1 : Nat) : Nat) : Int) * ((z (i + 1) : Nat) : Int) = (((z i + 1) * z (i + 1) : Nat) : Int) := by rw [Int.natCast_mul]
      have w0 : IntKind.i64.wrap (((z i : Nat) : Int) + 1) = ((z i + 1 : Nat) : Int) := by rw [IntKind.wrap_i64]; omega
      generalize (z i + 1) * z (i + 1) = pr at *
      generalize z i + 1 = zc at *
      generalize z i = za at *
      generalize z (i + 1) = zb at *
      have w2 : IntKind.i64.wrap ((pr : Nat) : Int) = (pr : Int) := by rw [IntKind.wrap_i64]; omega
      have w4 : IntKind.i64.wrap ((v : Int) + (pr : Int)) = ((v + pr : Nat) : Int) := by rw [IntKind.wrap_i64]; omega
      generalize v + pr = vv at *
      go_wp2
      go_roundw
      case rel => exact ⟨i + 1, vv, by omega, by go_num, rfl, HV2, trivial⟩
      case measure => simp [intOf]; omega
    · obtain rfl : i = M := by omega
      have hiI : ¬ (i : Int) < (i : Int) := by omega
      have HV' : Hid (fsN z i = v) := HV.out.symm
      go_wp2
      go_ret2
      exact ⟨by show Ending.returned (Value.tuple #[.int .i64 (v : Int), .int .i64 0]) = _; rw [HV'.out], rfl⟩
set_option maxHeartbeats 1000000 in
theorem pChk_yes (vs vp : Value) (m lp : Nat) (z : Nat → Nat) (P : Nat → Int) (w : World) (hA : Ar w vs m (fun i => ((z i : Nat) : Int))) (hP : Ar w vp lp P) (hz : Szs z m) :
    Calls Tryz.prog 16 #[vs, vp] w fun e w' => e = .returned (.int .i64 (if lp = fsN z (m - 1) then 0 else 40)) ∧ w' = w := by
  have CI : Hid (Calls Tryz.prog 24 #[vs] w fun e w' => e = .returned (.tuple #[.int .i64 ((fsN z (m - 1) : Nat) : Int), .int .i64 0]) ∧ w' = w) := pCount_yes vs m z w hA hz
  obtain ⟨adr, cap, b, o, rfl, -, -, -, -⟩ := hA
  obtain ⟨adp, cpp, bp, op, rfl, -, -, -, -⟩ := hP
  clear hz
  generalize fsN z (m - 1) = cp at *
  by_cases h : lp = cp
  · rw [if_pos h]
    subst h
    go_enter Tryz.func16, Tryz.ntmps16
    go_wp2_with fail
    refine CI.out.mono ?_
    rintro e wz ⟨rfl, hz⟩
    subst hz
    clear CI
    go_wp2
    go_ret
    exact ⟨rfl, rfl⟩
  · rw [if_neg h]
    have hI : ¬ (lp : Int) = (cp : Int) := by omega
    go_enter Tryz.func16, Tryz.ntmps16
    go_wp2_with fail
    refine CI.out.mono ?_
    rintro e wz ⟨rfl, hz⟩
    subst hz
    clear CI
    go_wp2
    go_ret
    exact ⟨rfl, rfl⟩
end Go.Proofs.YtdfjnbkkdgolnabGreatDoor
set_option linter.unusedVariables false
set_option linter.unusedSimpArgs false
namespace Go.Proofs.YtdfjnbkkdgolnabGreatDoor
open Go.RowKit

theorem cell_four_new (w : World) (x y u v : Value) (t : TypeId) : ∀ j q, [x, y, u, v][j]? = some q → (w.alloc (.cells #[x, y, u, v] t)).cell? ((⟨w.heap.size, 0, none⟩ : Addr).add j) = some q := by
  intro j q h
  rcases j with _ | _ | _ | _ | j
  all_goals simp at h
  all_goals subst h
  all_goals simp [go_sem, Addr.add]
theorem dinfo_ly : (Tryz.prog.info? 66).map (fun i => (i.zero, i.size, i.bytes)) = some (some (.agg #[.int .i64 0, .int .i64 0, .slice none 0 0, .slice none 0 0]), 4, 64) := by kernel_rfl
/-- The weights and the offsets of layer k, in a list that lies at b, o. -/
def lyA (b o cap : Nat) (z : Nat → Nat) (k : Nat) : Value := .slice (some ⟨b, o + fsN z k, none⟩) (z (k + 1) * z k) (cap - fsN z k)
def lyB (b o cap : Nat) (z : Nat → Nat) (k : Nat) : Value := .slice (some ⟨b, o + fsN z k + z (k + 1) * z k, none⟩) (z (k + 1)) (cap - fsN z k - z (k + 1) * z k)
/-- The cells of the first layers. -/
def lyL (b o cap : Nat) (z : Nat → Nat) : Nat → List Value
  | 0 => []
  | k + 1 => lyL b o cap z k ++ [.int .i64 ((z (k + 1) : Nat) : Int), .int .i64 ((z k : Nat) : Int), lyA b o cap z k, lyB b o cap z k]
theorem lyL_len (b o cap : Nat) (z : Nat → Nat) (k : Nat) : (lyL b o cap z k).length = k * 4 := by
  induction k with
  | zero => rfl
  | succ k ih => show (lyL b o cap z k ++ _).length = _; rw [List.length_append, ih]; simp; omega
theorem lyL_get (b o cap : Nat) (z : Nat → Nat) (n k : Nat) (hk : k < n) : (lyL b o cap z n)[k * 4]? = some (.int .i64 ((z (k + 1) : Nat) : Int)) ∧ (lyL b o cap z n)[k * 4 + 1]? = some (.int .i64 ((z k : Nat) : Int)) ∧ (lyL b o cap z n)[k * 4 + 2]? = some (lyA b o cap z k) ∧ (lyL b o cap z n)[k * 4 + 3]? = some (lyB b o cap z k) := by
  induction n with
  | zero => omega
  | succ n ih =>
    show (lyL b o cap z n ++ _)[k * 4]? = _ ∧ (lyL b o cap z n ++ _)[k * 4 + 1]? = _ ∧ (lyL b o cap z n ++ _)[k * 4 + 2]? = _ ∧ (lyL b o cap z n ++ _)[k * 4 + 3]? = _
    have hl := lyL_len b o cap z n
    rcases Nat.lt_or_ge k n with h | h
    · obtain ⟨h1, h2, h3, h4⟩ := ih h
      refine ⟨?_, ?_, ?_, ?_⟩
      · rw [List.getElem?_append_left (by omega)]; exact h1
      · rw [List.getElem?_append_left (by omega)]; exact h2
      · rw [List.getElem?_append_left (by omega)]; exact h3
      · rw [List.getElem?_append_left (by omega)]; exact h4
    · obtain rfl : k = n := by omega
      refine ⟨?_, ?_, ?_, ?_⟩
      · rw [List.getElem?_append_right (by omega), hl, Nat.sub_self]; rfl
      · rw [List.getElem?_append_right (by omega), hl, show k * 4 + 1 - k * 4 = 1 by omega]; rfl
      · rw [List.getElem?_append_right (by omega), hl, show k * 4 + 2 - k * 4 = 2 by omega]; rfl
      · rw [List.getElem?_append_right (by omega), hl, show k * 4 + 3 - k * 4 = 3 by omega]; rfl
/-- A list of layers in memory: what lies at b, o is cut into them. -/
def Lyr (w : World) (v : Value) (M : Nat) (z : Nat → Nat) (b o cap : Nat) : Prop :=
  ∃ (g cL : Nat), v = .slice (some ⟨g, 0, none⟩) M cL ∧ M ≤ cL ∧ cL ≤ maxLen ∧ ∀ k, k < M → w.cell? ⟨g, k * 4, none⟩ = some (.int .i64 ((z (k + 1) : Nat) : Int)) ∧ w.cell? ⟨g, k * 4 + 1, none⟩ = some (.int .i64 ((z k : Nat) : Int)) ∧ w.cell? ⟨g, k * 4 + 2, none⟩ = some (lyA b o cap z k) ∧ w.cell? ⟨g, k * 4 + 3, none⟩ = some (lyB b o cap z k)
theorem Lyr.later {w w' : World} {v : Value} {M : Nat} {z : Nat → Nat} {b o cap : Nat} (h : Lyr w v M z b o cap) (hb : Below w.heap.size w w') : Lyr w' v M z b o cap := by
  obtain ⟨g, cL, e, h1, h2, h3⟩ := h
  exact ⟨g, cL, e, h1, h2, fun k hk => by obtain ⟨a1, a2, a3, a4⟩ := h3 k hk; exact ⟨cell_later hb a1, cell_later hb a2, cell_later hb a3, cell_later hb a4⟩⟩
theorem lyr_of_own {w : World} {base : Nat} {v : Value} {M : Nat} {z : Nat → Nat} {b o cap : Nat} (h : w.ownsRow base 66 4 v M (lyL b o cap z M)) (hM : 0 < M) : Lyr w v M z b o cap ∧ Ow base v := by
  rcases id h.2 with ⟨_, h0⟩ | ⟨g, cL, cur, rfl, hg, hh, hc1, hc2, hsz, htk⟩
  · omega
  · have hl := lyL_len b o cap z M
    refine ⟨⟨g, cL, rfl, hc1, hc2, fun k hk => ?_⟩, fun a n c e hn => by cases e; exact hg⟩
    obtain ⟨a1, a2, a3, a4⟩ := lyL_get b o cap z M k hk
    exact ⟨(h.cellAt _ (by omega)).trans a1, (h.cellAt _ (by omega)).trans a2, (h.cellAt _ (by omega)).trans a3, (h.cellAt _ (by omega)).trans a4⟩
set_option maxRecDepth 100000 in
set_option maxHeartbeats 8000000 in
theorem layersOf_any (vs : Value) (m b o cp cap : Nat) (z : Nat → Nat) (w : World) (hA : Ar w vs m (fun i => ((z i : Nat) : Int))) (hz : Szs z m) (hcp : cp = fsN z (m - 1)) (hc1 : cp ≤ cap) (hc2 : cap ≤ maxLen) :
    Calls Tryz.prog 18 #[vs, .slice (some ⟨b, o, none⟩) cp cap] w fun e w' => ∃ g cL, e = .returned (.slice (some ⟨g, 0, none⟩) (m - 1) cL) ∧ Lyr w' (.slice (some ⟨g, 0, none⟩) (m - 1) cL) (m - 1) z b o cap ∧ w.heap.size ≤ g ∧ Below w.heap.size w w' := by
  obtain ⟨i0, hti, hy0, hy1, hy2⟩ := info_parts dinfo_ly
  obtain ⟨adr, cas, bs, os, rfl, k1, k2, k3, k4⟩ := hA
  unfold maxLen at k2 hc2
  obtain ⟨m2, m6, hz⟩ := hz
  have ha := k3 (by omega)
  subst ha
  obtain ⟨M, rfl⟩ : ∃ M, m = M + 1 := ⟨m - 1, by omega⟩
  rw [Nat.add_sub_cancel] at hcp ⊢
  have HX : Hid (∀ i, i < M + 1 → w.cell? ⟨bs, os + i, none⟩ = some (.int .i64 ((z i : Nat) : Int))) := fun i hi => (k4 i hi).1
  have HZ : Hid (∀ i, i < M + 1 → 1 ≤ z i ∧ z i ≤ 64) := hz
  have HCP : Hid (cp = fsN z M ∧ cp ≤ 20800) := ⟨hcp, by have := fsN_le z (M + 1) M hz (by omega); omega⟩
  have q3 : (1 : Int) ≤ ((M + 1 : Nat) : Int) := by omega
  clear k3 k4 hz hcp
  go_enter Tryz.func18, Tryz.ntmps18
  go_upto_region 3 with fail
  go_loopw [1, 5, 12] (fun s1 s5 si wr => ∃ i : Nat, i ≤ M ∧ si = .int .i64 (i : Int) ∧ (∃ q : Nat, s1 = .slice (some ⟨b, q, none⟩) (cp - fsN z i) (cap - fsN z i) ∧ Hid (i < M → q = o + fsN z i)) ∧ Hid (wr.ownsRow w.heap.size 66 4 s5 i (lyL b o cap z i)) ∧ Hid (Below w.heap.size w wr)) (fun _ _ si _ => M - (intOf si).toNat)
  case atStart => exact ⟨0, by omega, rfl, ⟨o, rfl, fun _ => rfl⟩, World.ownsRow_nil _ _ _ _, Below.refl _ _⟩
  case round =>
    obtain ⟨i, hi, rfl, ⟨q, rfl, Hq⟩, HO, HW⟩ := hrel
    by_cases hlt : i < M
    · have eq0 := Hq.out hlt
      subst eq0
      clear Hq
      have hiI : (i : Int) < (M : Int) := by omega
      have hiJ : (i : Int) < ((M + 1 : Nat) : Int) := by omega
      have cA : wr.cell? ⟨bs, os + i, none⟩ = some (.int .i64 ((z i : Nat) : Int)) := cell_later HW.out (HX.out i (by omega))
      have cB : wr.cell? ⟨bs, os + 1 + i, none⟩ = some (.int .i64 ((z (i + 1) : Nat) : Int)) := by rw [show os + 1 + i = os + (i + 1) by omega]; exact cell_later HW.out (HX.out (i + 1) (by omega))
      have HXa : Hid (w.cell? ⟨bs, os + i, none⟩ = some (.int .i64 ((z i : Nat) : Int))) := HX.out i (by omega)
      obtain ⟨z1, z2⟩ := HZ.out i (by omega)
      obtain ⟨y1, y2⟩ := HZ.out (i + 1) (by omega)
      have hstep : fsN z (i + 1) = fsN z i + (z i * z (i + 1) + z (i + 1)) := rfl
      have hmono := fsN_mono z (show i + 1 ≤ M from hlt)
      have hcp := HCP.out
      have hwb : z (i + 1) * z i ≤ 64 * 64 := Nat.mul_le_mul y2 z2
      have ewt : ((z (i + 1) : Nat) : Int) * ((z i : Nat) : Int) = ((z (i + 1) * z i : Nat) : Int) := by rw [Int.natCast_mul]
      rw [Nat.mul_comm (z i)] at hstep
      obtain ⟨R, hR⟩ : ∃ R, R = lyL b o cap z i ++ [.int .i64 ((z (i + 1) : Nat) : Int), .int .i64 ((z i : Nat) : Int), lyA b o cap z i, lyB b o cap z i] := ⟨_, rfl⟩
      have HR : Hid (R = lyL b o cap z (i + 1)) := hR
      obtain ⟨Fi, hFi⟩ : ∃ q, fsN z i = q := ⟨_, rfl⟩
      obtain ⟨wt, hwt⟩ : ∃ q, z (i + 1) * z i = q := ⟨_, rfl⟩
      unfold lyA lyB at hR
      have HF : Hid (fsN z (i + 1) = Fi + (wt + z (i + 1))) := by show _ = _; rw [hstep, hFi, hwt]
      rw [hFi, hwt] at hR
      rw [hFi, hwt] at hstep
      rw [hwt] at ewt hwb
      rw [hFi]
      generalize z i = za at *
      generalize z (i + 1) = zb at *
      clear hFi hwt
      obtain ⟨wz, hwz⟩ : ∃ q, wt + zb = q := ⟨_, rfl⟩
      obtain ⟨KF, hKF⟩ : ∃ q, cap - Fi = q := ⟨_, rfl⟩
      obtain ⟨LF, hLF⟩ : ∃ q, cp - Fi = q := ⟨_, rfl⟩
      obtain ⟨oF, hoF⟩ : ∃ q, o + Fi = q := ⟨_, rfl⟩
      have hiK : (i : Int) < (M : Int) + 1 := by omega
      have v1 : (wt : Int) ≤ (KF : Int) := by omega
      have v2 : (wz : Int) ≤ (KF : Int) := by omega
      have v3 : (wt : Int) ≤ (wz : Int) := by omega
      have v4 : (wz : Int) ≤ (LF : Int) := by omega
      have v6 : ¬ KF = wt := by omega
      have v5 : (LF : Int) ≤ (KF : Int) := by omega
      have w2 : IntKind.i64.wrap ((wt : Nat) : Int) = (wt : Int) := by rw [IntKind.wrap_i64]; omega
      have w4 : IntKind.i64.wrap ((wt : Int) + (zb : Int)) = (wz : Int) := by rw [IntKind.wrap_i64]; omega
      have HN : Hid (wt + zb = wz ∧ cap - Fi = KF ∧ cp - Fi = LF ∧ o + Fi = oF ∧ Fi + wz ≤ cp ∧ cp ≤ cap) := ⟨hwz, hKF, hLF, hoF, by omega, hc1⟩
      rw [hKF, hLF, hoF]
      rw [hKF, hoF] at hR
      clear hwz hKF hLF hoF
      clear hstep hmono hcp
      go_upto_region 6 with fail
      have HW2 : Hid (Below w.heap.size w wr.drew) := HW.out.drew
      have HO2 : Hid (wr.drew.ownsRow w.heap.size 66 4 u5 i (lyL b o cap z i)) := own_later HO.out (Below.refl _ _).drew
      refine wp_region_held_drew (S := fun W' => W'.cell? ⟨bs, os + i, none⟩ = some (.int .i64 (za : Int))) (by kernel_rfl) cA (fun HS => ?_)
      clear cA cB HW HO
      generalize wr.drew = wd at *
      refine wpAnyH_take (i := 0) (v := ?v1) rfl (by kernel_rfl) (by kernel_rfl) (by kernel_rfl) (fun _ _ _ h => h) (Or.inl ⟨by kernel_rfl, ?h1⟩) HS ?r1
      case h1 => (rintro w s1; go_simp) <;> with_reducible rfl
      try simp only [Act.put, List.getElem_toArray, List.getElem_cons_succ, List.getElem_cons_zero, List.setIfInBounds_toArray, List.set_cons_zero, List.set_cons_succ]
      refine wpAnyH_take (i := 1) (v := ?v2) rfl (by kernel_rfl) (by kernel_rfl) (by kernel_rfl) (fun _ _ _ h => h) (Or.inl ⟨by kernel_rfl, ?h2⟩) HS ?r2
      case h2 => (rintro w s1; go_simp) <;> with_reducible rfl
      try simp only [Act.put, List.getElem_toArray, List.getElem_cons_succ, List.getElem_cons_zero, List.setIfInBounds_toArray, List.set_cons_zero, List.set_cons_succ]
      refine wpAnyH_take (i := 2) (v := ?v3) rfl (by kernel_rfl) (by kernel_rfl) (by kernel_rfl) (fun _ _ _ h => h) (Or.inl ⟨by kernel_rfl, ?h3⟩) HS ?r3
      case h3 => (rintro w s1; go_simp) <;> with_reducible rfl
      try simp only [Act.put, List.getElem_toArray, List.getElem_cons_succ, List.getElem_cons_zero, List.setIfInBounds_toArray, List.set_cons_zero, List.set_cons_succ]
      refine wpAnyH_take (i := 3) (v := ?v4) rfl (by kernel_rfl) (by kernel_rfl) (by kernel_rfl) (fun _ _ _ h => h) (Or.inl ⟨by kernel_rfl, ?h4⟩) HS ?r4
      case h4 => (rintro w s1; go_simp) <;> with_reducible rfl
      try simp only [Act.put, List.getElem_toArray, List.getElem_cons_succ, List.getElem_cons_zero, List.setIfInBounds_toArray, List.set_cons_zero, List.set_cons_succ]
      refine wpAnyH_take (i := 4) (v := ?v5) rfl (by kernel_rfl) (by kernel_rfl) (by kernel_rfl) (fun _ _ _ h => h) (Or.inl ⟨by kernel_rfl, ?h5⟩) HS ?r5
      case h5 => (rintro w s1; go_simp) <;> with_reducible rfl
      try simp only [Act.put, List.getElem_toArray, List.getElem_cons_succ, List.getElem_cons_zero, List.setIfInBounds_toArray, List.set_cons_zero, List.set_cons_succ]
      refine wpAnyH_take (i := 5) (v := ?v6) rfl (by kernel_rfl) (by kernel_rfl) (by kernel_rfl) (fun _ _ _ h => h) (Or.inl ⟨by kernel_rfl, ?h6⟩) HS ?r6
      case h6 => (rintro w s1; go_simp) <;> with_reducible rfl
      try simp only [Act.put, List.getElem_toArray, List.getElem_cons_succ, List.getElem_cons_zero, List.setIfInBounds_toArray, List.set_cons_zero, List.set_cons_succ]
      refine wpAnyH_take (i := 6) (v := ?v7) rfl (by kernel_rfl) (by kernel_rfl) (by kernel_rfl) (fun _ _ _ h => h) (Or.inl ⟨by kernel_rfl, ?h7⟩) HS ?r7
      case h7 => (rintro w s1; go_simp) <;> with_reducible rfl
      try simp only [Act.put, List.getElem_toArray, List.getElem_cons_succ, List.getElem_cons_zero, List.setIfInBounds_toArray, List.set_cons_zero, List.set_cons_succ]
      refine wpAnyH_take (i := 7) (v := ?v8) rfl (by kernel_rfl) (by kernel_rfl) (by kernel_rfl) (fun _ _ _ h => h) (Or.inl ⟨by kernel_rfl, ?h8⟩) HS ?r8
      case h8 => (rintro w s1; go_simp) <;> with_reducible rfl
      try simp only [Act.put, List.getElem_toArray, List.getElem_cons_succ, List.getElem_cons_zero, List.setIfInBounds_toArray, List.set_cons_zero, List.set_cons_succ]
      refine wpAnyH_take (i := 8) (v := ?v9) rfl (by kernel_rfl) (by kernel_rfl) (by kernel_rfl) (fun _ _ _ h => h) (Or.inl ⟨by kernel_rfl, ?h9⟩) HS ?r9
      case h9 => (rintro w s1; go_simp) <;> with_reducible rfl
      try simp only [Act.put, List.getElem_toArray, List.getElem_cons_succ, List.getElem_cons_zero, List.setIfInBounds_toArray, List.set_cons_zero, List.set_cons_succ]
      refine wpAnyH_take (i := 9) (v := ?v10) rfl (by kernel_rfl) (by kernel_rfl) (by kernel_rfl) (fun _ _ _ h => h) (Or.inl ⟨by kernel_rfl, ?h10⟩) HS ?r10
      case h10 => (rintro w s1; go_simp) <;> with_reducible rfl
      try simp only [Act.put, List.getElem_toArray, List.getElem_cons_succ, List.getElem_cons_zero, List.setIfInBounds_toArray, List.set_cons_zero, List.set_cons_succ]
      refine wpAnyH_take (i := 10) (v := ?v11) rfl (by kernel_rfl) (by kernel_rfl) (by kernel_rfl) (fun _ _ _ h => h) (Or.inl ⟨by kernel_rfl, ?h11⟩) HS ?r11
      case h11 => (rintro w s1; go_simp) <;> with_reducible rfl
      try simp only [Act.put, List.getElem_toArray, List.getElem_cons_succ, List.getElem_cons_zero, List.setIfInBounds_toArray, List.set_cons_zero, List.set_cons_succ]
      refine wpAnyH_take (i := 11) (v := ?v12) rfl (by kernel_rfl) (by kernel_rfl) (by kernel_rfl) (fun _ _ _ h => h) (Or.inl ⟨by kernel_rfl, ?h12⟩) HS ?r12
      case h12 => (rintro w s1; go_simp) <;> with_reducible rfl
      try simp only [Act.put, List.getElem_toArray, List.getElem_cons_succ, List.getElem_cons_zero, List.setIfInBounds_toArray, List.set_cons_zero, List.set_cons_succ]
      refine wpAnyH_take (i := 12) (v := ?v13) rfl (by kernel_rfl) (by kernel_rfl) (by kernel_rfl) (fun _ _ _ h => h) (Or.inl ⟨by kernel_rfl, ?h13⟩) HS ?r13
      case h13 => (rintro w s1; go_simp) <;> with_reducible rfl
      try simp only [Act.put, List.getElem_toArray, List.getElem_cons_succ, List.getElem_cons_zero, List.setIfInBounds_toArray, List.set_cons_zero, List.set_cons_succ]
      refine wpAnyH_take (i := 13) (v := ?v14) rfl (by kernel_rfl) (by kernel_rfl) (by kernel_rfl) (fun _ _ _ h => h) (Or.inl ⟨by kernel_rfl, ?h14⟩) HS ?r14
      case h14 => (rintro w s1; go_simp) <;> with_reducible rfl
      try simp only [Act.put, List.getElem_toArray, List.getElem_cons_succ, List.getElem_cons_zero, List.setIfInBounds_toArray, List.set_cons_zero, List.set_cons_succ]
      refine wpAnyH_take (i := 14) (v := ?v15) rfl (by kernel_rfl) (by kernel_rfl) (by kernel_rfl) (fun _ _ _ h => h) (Or.inl ⟨by kernel_rfl, ?h15⟩) HS ?r15
      case h15 => (rintro w s1; go_simp) <;> with_reducible rfl
      try simp only [Act.put, List.getElem_toArray, List.getElem_cons_succ, List.getElem_cons_zero, List.setIfInBounds_toArray, List.set_cons_zero, List.set_cons_succ]
      refine wpAnyH_take (i := 15) (v := ?v16) rfl (by kernel_rfl) (by kernel_rfl) (by kernel_rfl) (fun _ _ _ h => h) (Or.inl ⟨by kernel_rfl, ?h16⟩) HS ?r16
      case h16 => (rintro w s1; go_simp) <;> with_reducible rfl
      try simp only [Act.put, List.getElem_toArray, List.getElem_cons_succ, List.getElem_cons_zero, List.setIfInBounds_toArray, List.set_cons_zero, List.set_cons_succ]
      refine wpAnyH_take (i := 16) (v := ?v17) rfl (by kernel_rfl) (by kernel_rfl) (by kernel_rfl) (fun _ _ _ h => h) (Or.inl ⟨by kernel_rfl, ?h17⟩) HS ?r17
      case h17 => (rintro w s1; go_simp) <;> with_reducible rfl
      try simp only [Act.put, List.getElem_toArray, List.getElem_cons_succ, List.getElem_cons_zero, List.setIfInBounds_toArray, List.set_cons_zero, List.set_cons_succ]
      refine wpAnyH_ready (rs := [17]) (by kernel_rfl) (by simp) ?_
      refine AllReadyH.cons rfl (fun K hK => ?_) AllReadyH.nil
      go_simp
      refine hK.out _ _ (cell_later (bel1 _ _) HS) (fun HS => ?_)
      clear hK K
      refine wpAnyH_ready (rs := [18]) (by kernel_rfl) (by simp) ?_
      refine AllReadyH.cons rfl (fun K hK => ?_) AllReadyH.nil
      rw [if_pos (by kernel_rfl)]
      refine wp_append_own _ _ _ 48 rfl w.heap.size 66 i0 (.agg #[.int .i64 0, .int .i64 0, .slice none 0 0, .slice none 0 0]) 4 64 Tryz.underlying48 hti hy0 hy1 hy2 rfl (by decide) u5 i (lyL b o cap z i) rfl (HO2.out.alloc _) ⟨wd.heap.size, 0, none⟩ 1 1 [.int .i64 (zb : Int), .int .i64 (za : Int), .slice (some ⟨b, oF, none⟩) wt KF, .slice (some ⟨b, oF + wt, none⟩) (wz - wt) (KF - wt)] rfl rfl (cell_four_new _ _ _ _ _ _) (by intro q hq; simp only [List.mem_cons, List.not_mem_nil, or_false] at hq; rcases hq with rfl | rfl | rfl | rfl <;> rfl) (by unfold maxLen; omega) (by omega) (by have := HW2.out.size; rw [World.size_alloc]; omega) (fun v' w9 hown' hgrow hnil => ?_)
      have HW9 : Hid (Below w.heap.size w w9) := below_own HW2.out HW2.out.size HO2.out hgrow
      refine hK.out _ _ (cell_later HW9.out HXa.out) (fun HS => ?_)
      clear hK K hgrow hnil
      refine wpAnyH_take (i := 19) (v := ?v18) rfl (by kernel_rfl) (by kernel_rfl) (by kernel_rfl) (fun _ _ _ h => h) (Or.inl ⟨by kernel_rfl, ?h18⟩) HS ?r18
      case h18 => (rintro w s1; go_simp) <;> with_reducible rfl
      try simp only [Act.put, List.getElem_toArray, List.getElem_cons_succ, List.getElem_cons_zero, List.setIfInBounds_toArray, List.set_cons_zero, List.set_cons_succ]
      refine wpAnyH_done (by kernel_rfl) ?_ _
      clear HS
      have HO9 : Hid (w9.ownsRow w.heap.size 66 4 v' (i + 1) (lyL b o cap z (i + 1))) := by
        have e : wz - wt = zb := by have := HN.out; omega
        rw [e] at hown'
        show w9.ownsRow w.heap.size 66 4 v' (i + 1) (lyL b o cap z (i + 1))
        rw [← HR.out, hR]
        exact hown'
      clear hown' hR HO2 HW2
      have HN2 : Hid (fsN z (i + 1) < fsN z M ∨ i + 1 = M) := by
        show _ ∨ _
        rcases Nat.lt_or_ge (i + 1) M with h | h
        · left
          have h1 := fsN_mono z (show i + 1 + 1 ≤ M from h)
          have h2 := (lyN_le z (M + 1) (i + 1) HZ.out (by omega)).2
          have h3 : fsN z (i + 1 + 1) = fsN z (i + 1) + lyN z (i + 1) := rfl
          omega
        · right; omega
      by_cases hq : KF = wz
      · have hq2 : wz ≤ wz := Nat.le_refl _
        subst hq
        go_wp2
        go_roundw
        case rel =>
          have e1 := HN.out
          have e2 := HF.out
          have e3 := HN2.out
          have e4 := HCP.out
          refine ⟨i + 1, by omega, by go_num, ⟨oF, ?_, fun h => by omega⟩, HO9, HW9⟩
          rw [show cp - fsN z (i + 1) = LF - KF by omega, show cap - fsN z (i + 1) = KF - KF by omega]
          first | rfl | simp
        case measure => simp [intOf]; omega
      · go_wp2
        go_roundw
        case rel =>
          have e1 := HN.out
          have e2 := HF.out
          refine ⟨i + 1, by omega, by go_num, ⟨oF + wz, ?_, fun _ => by omega⟩, HO9, HW9⟩
          rw [show cp - fsN z (i + 1) = LF - wz by omega, show cap - fsN z (i + 1) = KF - wz by omega]
        case measure => simp [intOf]; omega
    · obtain rfl : i = M := by omega
      have hiI : ¬ (i : Int) < (i : Int) := by omega
      obtain ⟨HL, HOw⟩ := lyr_of_own HO.out (by omega)
      obtain ⟨g, cL, rfl, l1, l2, l3⟩ := id HL
      have HL' : Hid (Lyr wr (.slice (some ⟨g, 0, none⟩) i cL) i z b o cap ∧ w.heap.size ≤ g) := ⟨HL, HOw _ _ _ rfl (by omega)⟩
      clear HL HOw l3 HO
      go_wp2
      go_ret
      exact ⟨g, cL, rfl, HL'.out.1, HL'.out.2, HW.out⟩
end Go.Proofs.YtdfjnbkkdgolnabGreatDoor
