/-
  Texts of this proof, joined: NWalkG EMathA LMath LWalkA LWalkB LWalkC LWalkD LMath2 LRow.
-/
import Derived.Test.YtcaficenocblfaaGreatDoorProg
import Derived.Test.YtcaficenocblfaaGreatDoorSU07
import Derived.Test.YtcaficenocblfaaGreatDoorSU10
import Derived.Laws.CopyOwn
import Derived.Deep.QuietTactic
import Derived.BigQuiet
import Derived.Deep.RegionHeld3
import Derived.Maps.AppendAt
set_option linter.unusedVariables false
set_option linter.unusedSimpArgs false
namespace Go.Proofs.YtcaficenocblfaaGreatDoor
open Go.RowKit

structure Uy (p : Option Addr) (c : Int) (g : Nat) (w w' : World) : Prop where
  up : Up p c w'
  base : ∀ (w0 : World) (c0 : Int), Ux p c0 w0 w → w0.heap.size ≤ g → Ux p c w0 w'
  blk : ∀ i, i < w.heap.size → i ≠ g → Nu i p → w'.heap[i]? = w.heap[i]?
  size : w.heap.size ≤ w'.heap.size
theorem Ux.uy {p : Option Addr} {c : Int} {w w' : World} (h : Ux p c w w') (g : Nat) : Uy p c g w w' := ⟨h.up, fun w0 c0 h0 _ => h0.chain h, fun i hi _ hn => h.blk hi hn, h.size⟩
theorem Up.far {p : Option Addr} {c : Int} {w : World} (h : Up p c w) {a : Addr} (u : Value) (ha : Nu a.block p) : Up p c (w.setCell a u) := by
  rcases h with h | ⟨d, h, hc⟩
  · exact Or.inl h
  · exact Or.inr ⟨d, h, cell_set (ha d h) hc.1, by rw [World.frozen?_setCell]; exact hc.2⟩
theorem Uy.set {p : Option Addr} {c : Int} {g : Nat} {w w1 : World} (h : Uy p c g w w1) (hg : Nu g p) (k : Nat) (u : Value) : Uy p c g w (w1.setCell ⟨g, k, none⟩ u) where
  up := h.up.far u hg
  base := fun w0 c0 h0 hb => (h.base w0 c0 h0 hb).far u hb
  blk := fun i hi hn hu => (Below.heap_setCell _ _ _ _ (fun e => hn (by first | exact e | exact e.symm))).trans (h.blk i hi hn hu)
  size := by rw [World.size_setCell]; exact h.size
theorem Uy.sets {p : Option Addr} {c : Int} {g : Nat} {w : World} (hg : Nu g p) : ∀ (cs : List Value) (o : Nat) (w1 : World), Uy p c g w w1 → Uy p c g w (w1.setCells g o cs)
  | [], _, _, h => h
  | v :: r, o, w1, h => Uy.sets hg r (o + 1) (w1.setCell ⟨g, o, none⟩ v) (h.set hg o v)
theorem Uy.chain {p : Option Addr} {c c' : Int} {g : Nat} {w w1 w2 : World} (h : Uy p c g w w1) (k : Uy p c' g w1 w2) : Uy p c' g w w2 where
  up := k.up
  base := fun w0 c0 h0 hb => k.base w0 c (h.base w0 c0 h0 hb) hb
  blk := fun i hi hn hu => (k.blk i (by have := h.size; omega) hn hu).trans (h.blk i hi hn hu)
  size := Nat.le_trans h.size k.size
theorem Uy.cell {p : Option Addr} {c : Int} {g : Nat} {w w' : World} (h : Uy p c g w w') {a : Addr} {v : Value} (hg : a.block ≠ g) (hn : Nu a.block p) (hc : w.cell? a = some v) : w'.cell? a = some v :=
  (World.cell?_of_block (w := w) (h.blk _ (World.block_lt_of_cell? _ _ hc) hg hn)).trans hc
theorem Ar.uy {w w' : World} {v : Value} {n : Nat} {f : Nat → Int} {p : Option Addr} {c : Int} {g : Nat} (h : Ar w v n f) (hn : Nv v p) (hg : Nb v g) (hU : Uy p c g w w') : Ar w' v n f := by
  obtain ⟨adr, cap, b, o, h1, h2, h3, h4, h5⟩ := h
  refine ⟨adr, cap, b, o, h1, h2, h3, h4, fun k hk => ⟨hU.cell ?_ ?_ (h5 k hk).1, (h5 k hk).2⟩⟩
  · have e := h4 (by omega)
    subst e
    exact hg ⟨b, o, none⟩ n cap h1 (by omega)
  · have e := h4 (by omega)
    subst e
    subst h1
    exact hn.nu (by omega)
theorem Rw.sets {b n : Nat} : ∀ (cs : List Value) (o : Nat) (h : Nat → Value) (w : World), Rw b n h w → Rw b n (fun k => if o ≤ k ∧ k < o + cs.length then (cs[k - o]?).getD undef else h k) (w.setCells b o cs)
  | [], o, h, w, r => r.congr (fun k _ => by rw [if_neg (by simp)])
  | v :: cs, o, h, w, r => (Rw.sets cs (o + 1) _ (w.setCell ⟨b, o, none⟩ v) (r.set o v)).congr (fun k _ => by
      by_cases h1 : k = o
      · subst h1
        rw [if_neg (by omega), if_pos rfl, if_pos (by simp), Nat.sub_self]
        rfl
      · by_cases h2 : o + 1 ≤ k ∧ k < o + 1 + cs.length
        · rw [if_pos h2, if_pos (by simp; omega), show k - o = (k - (o + 1)) + 1 by omega]
          rfl
        · rw [if_neg h2, if_neg h1, if_neg (by simp; omega)])
theorem wpList_copy_rw {P : Program} {w : World} {ops : Array Oper} {rest : List Oper} {o : Oper} {a : Act} {Q : Exit → Act → World → Prop} (hgd : o.guard = none) (d s : Operand) (dT sT : TypeId)
    (ho : o.op = .call { callee := .builtin .copy, args := #[d, s], argTypes := #[dT, sT] }) (elem : TypeId) (hu : P.underlying dT = some (.slice elem)) (hsz : (P.info? elem).map (·.size) = some 1)
    (b off dLen dCap : Nat) (ad : Addr) (sLen sCap : Nat) (hd : a.eval d = .slice (some ⟨b, off, none⟩) dLen dCap) (hs : a.eval s = .slice (some ad) sLen sCap)
    (cs : List Value) (hn : cs.length = Nat.min sLen dLen) (hsrc : ∀ j v, cs[j]? = some v → w.cell? (ad.add j) = some v) (hc : ∀ j, j < cs.length → (w.cell? ⟨b, off + j, none⟩).isSome = true) (hf : ∀ j, j < cs.length → w.frozen? ⟨b, off + j, none⟩ = false) (h1 : ∀ v ∈ cs, v.oneCell' = true)
    (h : wpList P ops Q rest (a.put o.dst (goInt cs.length)) (w.setCells b off cs)) : wpList P ops Q (o :: rest) a w := by
  refine wpList_plain hgd fun K hK => ?_
  have hrun := run_copy_cells (P := P) w dT sT o.type elem b off dLen dCap ad sLen sCap cs hu hsz hn hsrc hc hf h1
  unfold Oper.wp
  simp [execOp, ho, resolve, invoke, builtin, hd, hs, hrun, Result.andThen]
  exact hK _ _ h
theorem il_src {w : World} {b o n cap : Nat} {f : Nat → Int} (h : Ar w (.slice (some ⟨b, o, none⟩) n cap) n f) : ∀ j v, (il f n)[j]? = some v → w.cell? ((⟨b, o, none⟩ : Addr).add j) = some v := by
  intro j v hv
  have hj : j < n := by
    rcases Nat.lt_or_ge j n with h1 | h1
    · exact h1
    · rw [List.getElem?_eq_none (by unfold il; simp; omega)] at hv
      cases hv
  rw [il_get f n j hj] at hv
  cases hv
  obtain ⟨adr, ca, bb, oo, e, h2, h3, h4, h5⟩ := h
  cases e
  have e2 := h4 (by omega)
  cases e2
  rw [show (⟨b, o, none⟩ : Addr).add j = ⟨b, o + j, none⟩ by unfold Addr.add; split <;> simp_all]
  exact (h5 j hj).1
def flX (R C q : Nat) (F s v : Nat → Int) (j : Nat) : Int := if q + R * C ≤ j ∧ j < q + R * C + R then s (j - (q + R * C)) else if q ≤ j ∧ j < q + R * C then otX s v C (j - q) else F j
set_option maxRecDepth 100000 in
set_option maxHeartbeats 8000000 in
theorem fill_any (R C g q k1 k2 cp : Nat) (F s v : Nat → Int) (vs va : Value) (p : Option Addr) (c : Int) (hR : R ≤ 64) (hC : C ≤ 64) (hR1 : 1 ≤ R) (hC1 : 1 ≤ C) (c0 : 0 ≤ c) (c1 : c ≤ 700000000) (hq : q + R * C + R ≤ cp) (w : World) (hG : Rw g cp (fun j => .int .i64 (F j)) w) (hs : Ar w vs R s) (hv : Ar w va C v) (ns : Nv vs p) (nv : Nv va p) (ng : Nu g p) (gs : Nb vs g) (hp : Up p c w) :
    Calls Tryz.prog 30 #[.agg #[.int .i64 (R : Int), .int .i64 (C : Int), .slice (some ⟨g, q, none⟩) (R * C) k1, .slice (some ⟨g, q + R * C, none⟩) R k2], .pointer p, vs, va] w fun e w' => e = .returned (.tuple #[]) ∧ Rw g cp (fun j => .int .i64 (flX R C q F s v j)) w' ∧ Uy p (c + otN s v C R) g w w' := by
  obtain ⟨i0, hti, hy0, hy1, hy2⟩ := info_parts dinfo_fx
  have hsz : (Tryz.prog.info? 36).map (·.size) = some 1 := by rw [hti]; simp [hy1]
  have hRC : R * C ≤ 64 * 64 := Nat.mul_le_mul hR hC
  have hRC1 : 1 * 1 ≤ R * C := Nat.mul_le_mul hR1 hC1
  obtain ⟨ads, cs, bs, os, rfl, s2, s3, s4, s5⟩ := id hs
  have es := s4 (by omega)
  subst es
  have hgs : bs ≠ g := gs _ _ _ rfl (by omega)
  have hglt : g < w.heap.size := World.block_lt_of_cell? _ _ (hG.c 0 (by omega))
  have hbs : bs < w.heap.size := World.block_lt_of_cell? _ _ (s5 0 (by omega)).1
  obtain ⟨w1, hw1⟩ : ∃ w1, w1 = w.alloc (.cells #[.int .i64 (R : Int), .int .i64 (C : Int), .slice (some ⟨g, q, none⟩) (R * C) k1, .slice (some ⟨g, q + R * C, none⟩) R k2] 87) := ⟨_, rfl⟩
  have HB1 : B4 w.heap.size (.int .i64 (R : Int)) (.int .i64 (C : Int)) (.slice (some ⟨g, q, none⟩) (R * C) k1) (.slice (some ⟨g, q + R * C, none⟩) R k2) w1 := by rw [hw1]; exact B4.new w _ _ _ _ _
  have HW1 : Below w.heap.size w w1 := by rw [hw1]; exact bel1 _ _
  have hnw : Nu w.heap.size p := hp.lt (Nat.le_refl _)
  have CO := outer_ux (.slice (some ⟨bs, os, none⟩) R cs) va R C s v hR hC hR1 hC1 p c c0 (by omega) w1 (hs.later HW1) (hv.later HW1) ns nv (hp.later HW1)
  obtain ⟨adv, cv, bv, ov, rfl, v2, v3, -, -⟩ := hv
  have HG1 : Hid (Rw g cp (fun j => .int .i64 (F j)) w1) := hG.later HW1
  have HS1 : Hid (Ar w1 (.slice (some ⟨bs, os, none⟩) R cs) R s) := hs.later HW1
  have HU1 : Hid (Ux p c w w1) := hp.ux HW1
  have HB1' : Hid (B4 w.heap.size (.int .i64 (R : Int)) (.int .i64 (C : Int)) (.slice (some ⟨g, q, none⟩) (R * C) k1) (.slice (some ⟨g, q + R * C, none⟩) R k2) w1) := HB1
  have hs1 : w1.heap.size = w.heap.size + 1 := by rw [hw1, World.size_alloc]
  clear HB1 HW1 s4 s5 hG hs hp gs
  go_enter Tryz.func30, Tryz.ntmps30
  go_upto_region 1 with fail
  rw [← hw1]
  clear hw1
  go_wp2_with fail
  refine CO.mono ?_
  rintro e w2 ⟨⟨v', rfl, hL⟩, hU2⟩
  have hA2 := hL.1 rfl
  have hO2 := hL.2.2
  obtain ⟨ad2, ca2, b2, o2, rfl, p2, p3, p4, p5⟩ := id hA2
  have e2 := p4 (by omega)
  subst e2
  have hb2 : w1.heap.size ≤ b2 := hO2 _ _ _ rfl (by omega)
  have HG2 := HG1.out.ux ng hU2
  have HS2 := HS1.out.ux ns hU2
  have HB2 := HB1'.out.ux hnw hU2
  have HU2 := HU1.out.chain hU2
  have hs2 := hU2.size
  have hlt2 : b2 < w2.heap.size := World.block_lt_of_cell? _ _ (p5 0 (by omega)).1
  obtain ⟨w3, hw3⟩ : ∃ w3, w3 = w2.alloc (.cells #[.int .i64 (R : Int), .int .i64 (C : Int), .slice (some ⟨b2, o2, none⟩) (R * C) ca2] 85) := ⟨_, rfl⟩
  have hb3 : Below w2.heap.size w2 w3 := by rw [hw3]; exact bel1 _ _
  have HG3 : Hid (Rw g cp (fun j => .int .i64 (F j)) w3) := HG2.later hb3
  have HS3 : Hid (Ar w3 (.slice (some ⟨bs, os, none⟩) R cs) R s) := HS2.later hb3
  have HA3 : Hid (Ar w3 (.slice (some ⟨b2, o2, none⟩) (R * C) ca2) (R * C) (otX s v C)) := hA2.later hb3
  have HU3 : Hid (Ux p (c + otN s v C R) w w3) := HU2.later hb3
  have HB3 := HB2.later hb3
  have y2 := HB3.c2
  have y3 := HB3.c3
  have z2 : w3.cell? ⟨w2.heap.size, 2, none⟩ = some (.slice (some ⟨b2, o2, none⟩) (R * C) ca2) := by rw [hw3]; simp [go_sem]
  clear CO hL hA2 hO2 p4 p5 HG2 HS2 HB2 HU2 HB3 hb3 HG1 HS1 HU1 HB1' hU2
  obtain ⟨RC, hRCe⟩ : ∃ x, R * C = x := ⟨_, rfl⟩
  obtain ⟨qr, hqr⟩ : ∃ x, q + RC = x := ⟨_, rfl⟩
  rw [hRCe] at hRC hRC1 hq y2 z2 hw3 HA3 ⊢
  rw [hRCe, hqr] at y3
  rw [hqr] at hq
  rw [hqr]
  go_upto_region 2 with fail
  rw [← hw3]
  clear hw3
  obtain ⟨w4, hw4⟩ : ∃ w4, w3.setCells g q (il (otX s v C) RC) = w4 := ⟨_, rfl⟩
  have hY4 : Uy p (c + otN s v C R) g w3 w4 := by rw [← hw4]; exact (HU3.out.up.same.uy g).sets ng _ _ _
  have HG4 : Hid (Rw g cp (fun j => if q ≤ j ∧ j < q + (il (otX s v C) RC).length then ((il (otX s v C) RC)[j - q]?).getD undef else .int .i64 (F j)) w4) := by rw [← hw4]; exact HG3.out.sets _ _ _ _
  have HS4 : Hid (Ar w4 (.slice (some ⟨bs, os, none⟩) R cs) R s) := HS3.out.uy ns (fun a n c e _ => by cases e; exact hgs) hY4
  have y34 : w4.cell? ⟨w.heap.size, 3, none⟩ = some (.slice (some ⟨g, qr, none⟩) R k2) := hY4.cell (by dsimp only; omega) hnw y3
  have HU4 : Hid (Uy p (c + otN s v C R) g w w4) := (HU3.out.uy g).chain hY4
  obtain ⟨w5, hw5⟩ : ∃ w5, w4.setCells g qr (il s R) = w5 := ⟨_, rfl⟩
  have HG5 : Hid (Rw g cp (fun j => if qr ≤ j ∧ j < qr + (il s R).length then ((il s R)[j - qr]?).getD undef else if q ≤ j ∧ j < q + (il (otX s v C) RC).length then ((il (otX s v C) RC)[j - q]?).getD undef else .int .i64 (F j)) w5) := by rw [← hw5]; exact HG4.out.sets _ _ _ _
  have HU5 : Hid (Uy p (c + otN s v C R) g w w5) := by rw [← hw5]; exact HU4.out.sets ng _ _ _
  have HRCe : Hid (R * C = RC ∧ q + RC = qr) := ⟨hRCe, hqr⟩
  have hq1 : q + RC ≤ cp := by omega
  have hq2 : qr + R ≤ cp := by omega
  clear hY4 hRCe hqr HU4
  go_wp2_with (first
    | (refine wpList_copy_rw rfl _ _ 23 23 rfl 36 Tryz.underlying23 hsz g q RC k1 ⟨b2, o2, none⟩ RC ca2 rfl rfl (il (otX s v C) RC) (by rw [il_len]; exact (Nat.min_self RC).symm) (il_src HA3.out) (fun j hj => by rw [il_len] at hj; rw [HG3.out.c (q + j) (by omega)]; rfl) (fun j hj => by rw [il_len] at hj; exact HG3.out.f (q + j) (by omega)) (il_one _ _) ?_; rw [hw4]; clear y2 y3 z2)
    | (refine wpList_copy_rw rfl _ _ 23 23 rfl 36 Tryz.underlying23 hsz g qr R k2 ⟨bs, os, none⟩ R cs rfl rfl (il s R) (by rw [il_len]; exact (Nat.min_self R).symm) (il_src HS4.out) (fun j hj => by rw [il_len] at hj; rw [HG4.out.c (qr + j) (by omega)]; rfl) (fun j hj => by rw [il_len] at hj; exact HG4.out.f (qr + j) (by omega)) (il_one _ _) ?_; rw [hw5]; clear y34))
  go_end0
  refine ⟨rfl, HG5.out.congr (fun j hj => ?_), HU5.out⟩
  obtain ⟨e1, e2⟩ := HRCe.out
  unfold flX
  rw [e1, e2, il_len, il_len]
  by_cases h1 : qr ≤ j ∧ j < qr + R
  · rw [if_pos h1, if_pos h1, il_get s R (j - qr) (by omega)]
    rfl
  · rw [if_neg h1, if_neg h1]
    by_cases h2 : q ≤ j ∧ j < qr
    · rw [if_pos (by omega), if_pos h2, il_get _ RC (j - q) (by omega)]
      rfl
    · rw [if_neg (by omega), if_neg h2]
end Go.Proofs.YtcaficenocblfaaGreatDoor
set_option linter.unusedVariables false
set_option linter.unusedSimpArgs false
namespace Go.Proofs.YtcaficenocblfaaGreatDoor
theorem least (P : Nat → Prop) [DecidablePred P] (m : Nat) (h : P m) : ∃ q, P q ∧ q ≤ m ∧ ∀ k, k < q → ¬ P k := by
  induction m using Nat.strongRecOn with
  | _ m ih =>
    by_cases hk : ∃ k, k < m ∧ P k
    · obtain ⟨k, hk, hp⟩ := hk
      obtain ⟨q, h1, h2, h3⟩ := ih k hk hp
      exact ⟨q, h1, by omega, h3⟩
    · exact ⟨m, h, Nat.le_refl _, fun k hk' hp => hk ⟨k, hk', hp⟩⟩
end Go.Proofs.YtcaficenocblfaaGreatDoor
set_option linter.unusedVariables false
set_option linter.unusedSimpArgs false
namespace Go.Proofs.YtcaficenocblfaaGreatDoor

def lyN (z : Nat → Nat) (l : Nat) : Nat := z l * z (l + 1) + z (l + 1)
def fsN (z : Nat → Nat) : Nat → Nat
  | 0 => 0
  | l + 1 => fsN z l + lyN z l
def Szs (z : Nat → Nat) (m : Nat) : Prop := 2 ≤ m ∧ m ≤ 6 ∧ ∀ i, i < m → 1 ≤ z i ∧ z i ≤ 64
theorem lyN_le (z : Nat → Nat) (m l : Nat) (h : ∀ i, i < m → 1 ≤ z i ∧ z i ≤ 64) (hl : l + 1 < m) : lyN z l ≤ 4160 ∧ 2 ≤ lyN z l := by
  have h1 := h l (by omega)
  have h2 := h (l + 1) hl
  have h3 : z l * z (l + 1) ≤ 64 * 64 := Nat.mul_le_mul h1.2 h2.2
  have h4 : 1 * 1 ≤ z l * z (l + 1) := Nat.mul_le_mul h1.1 h2.1
  unfold lyN
  omega
theorem fsN_le (z : Nat → Nat) (m l : Nat) (h : ∀ i, i < m → 1 ≤ z i ∧ z i ≤ 64) (hl : l < m) : fsN z l ≤ 4160 * l := by
  induction l with
  | zero => exact Nat.le_refl _
  | succ l ih =>
    have h1 := ih (by omega)
    have h2 := (lyN_le z m l h hl).1
    show fsN z l + lyN z l ≤ _
    omega
theorem fsN_mono (z : Nat → Nat) {a b : Nat} (h : a ≤ b) : fsN z a ≤ fsN z b := by
  induction b with
  | zero => obtain rfl : a = 0 := by omega
            exact Nat.le_refl _
  | succ b ih =>
    rcases Nat.lt_or_ge a (b + 1) with h1 | h1
    · have := ih (by omega)
      show _ ≤ fsN z b + lyN z b
      omega
    · obtain rfl : a = b + 1 := by omega
      exact Nat.le_refl _
end Go.Proofs.YtcaficenocblfaaGreatDoor
set_option linter.unusedVariables false
set_option linter.unusedSimpArgs false
namespace Go.Proofs.YtcaficenocblfaaGreatDoor
open Go.RowKit

def szB (f : Nat → Int) (m : Nat) : Prop := ∀ i, i < m → 1 ≤ f i ∧ f i ≤ 64
set_option maxRecDepth 100000 in
set_option maxHeartbeats 4000000 in
theorem count_yes (va : Value) (m : Nat) (z : Nat → Nat) (w : World) (hA : Ar w va m (fun i => ((z i : Nat) : Int))) (hz : Szs z m) :
    Calls Tryz.prog 10 #[va] w fun e w' => e = .returned (.int .i64 ((fsN z (m - 1) : Nat) : Int)) ∧ Below w.heap.size w w' := by
  obtain ⟨adr, cap, b, o, rfl, k1, k2, k3, k4⟩ := hA
  unfold maxLen at k2
  obtain ⟨m2, m6, hz⟩ := hz
  have ha := k3 (by omega)
  subst ha
  have HX : Hid (∀ i, i < m → w.cell? ⟨b, o + i, none⟩ = some (.int .i64 ((z i : Nat) : Int))) := fun i hi => (k4 i hi).1
  have HZ : Hid (∀ i, i < m → 1 ≤ z i ∧ z i ≤ 64) := hz
  clear k3 k4 hz
  have q1 : ¬ (m : Int) < 2 := by omega
  have q2 : ¬ (6 : Int) < (m : Int) := by omega
  go_enter Tryz.func10, Tryz.ntmps10
  go_upto_region 5 with fail
  go_loopw [3, 4] (fun s3 si wr => ∃ i v : Nat, i ≤ m ∧ si = .int .i64 (i : Int) ∧ s3 = .int .i64 (v : Int) ∧ Hid (v = fsN z (i - 1)) ∧ Hid (Below w.heap.size w wr)) (fun _ si _ => m - (intOf si).toNat)
  case atStart => exact ⟨0, 0, by omega, rfl, rfl, rfl, Below.refl _ _⟩
  case round =>
    obtain ⟨i, v, hi, rfl, rfl, HV, HW⟩ := hrel
    by_cases hlt : i < m
    · have hiI : (i : Int) < (m : Int) := by omega
      have cA : wr.cell? ⟨b, o + i, none⟩ = some (.int .i64 ((z i : Nat) : Int)) := cell_later HW.out (HX.out i hlt)
      obtain ⟨z1, z2⟩ := HZ.out i hlt
      have zI1 : ¬ ((z i : Nat) : Int) < 1 := by omega
      have zI2 : ¬ (64 : Int) < ((z i : Nat) : Int) := by omega
      by_cases h0 : 0 < i
      · have h0I : (0 : Int) < (i : Int) := by omega
        have cB : wr.cell? ⟨b, o + (i - 1), none⟩ = some (.int .i64 ((z (i - 1) : Nat) : Int)) := cell_later HW.out (HX.out (i - 1) (by omega))
        obtain ⟨y1, y2⟩ := HZ.out (i - 1) (by omega)
        have hvb : v ≤ 4160 * 6 := by
          have h := fsN_le z m (i - 1) HZ.out (by omega)
          rw [HV.out]; omega
        have HV2 : Hid (v + (z (i - 1) * z i + z i) = fsN z (i + 1 - 1)) := by
          show _ = _
          obtain ⟨j, rfl⟩ : ∃ j, i = j + 1 := ⟨i - 1, by omega⟩
          have h := HV.out
          simp only [Nat.add_sub_cancel] at h ⊢
          rw [h]
          rfl
        have hpb : z (i - 1) * z i ≤ 64 * 64 := Nat.mul_le_mul y2 z2
        have epr : ((z (i - 1) : Nat) : Int) * ((z i : Nat) : Int) = ((z (i - 1) * z i : Nat) : Int) := by rw [Int.natCast_mul]
        have ei : (i : Int) - 1 = ((i - 1 : Nat) : Int) := by omega
        have hi1 : ((i - 1 : Nat) : Int) < (m : Int) := by omega
        generalize z (i - 1) * z i = pr at *
        generalize z (i - 1) = za at *
        generalize z i = zb at *
        have Ei : Hid ((i : Int) - 1 = ((i - 1 : Nat) : Int)) := ei
        have w1 : IntKind.i64.wrap ((i : Int) - 1) = ((i - 1 : Nat) : Int) := by rw [IntKind.wrap_i64]; omega
        have w2 : IntKind.i64.wrap ((pr : Nat) : Int) = (pr : Int) := by rw [IntKind.wrap_i64]; omega
        have w3 : IntKind.i64.wrap ((pr : Int) + (zb : Int)) = ((pr + zb : Nat) : Int) := by rw [IntKind.wrap_i64]; omega
        have w4 : IntKind.i64.wrap ((v : Int) + ((pr + zb : Nat) : Int)) = ((v + (pr + zb) : Nat) : Int) := by rw [IntKind.wrap_i64]; omega
        clear ei
        generalize i - 1 = ip at *
        generalize v + (pr + zb) = vv at *
        generalize pr + zb = pz at *
        go_upto_region 10 with fail
        go_quiet (fail)
        go_wp2
        go_roundw
        case rel => exact ⟨i + 1, vv, by omega, by go_num, rfl, HV2, below_drewN HW.out _⟩
        case measure => simp [intOf]; omega
      · obtain rfl : i = 0 := by omega
        rw [Nat.add_zero] at cA
        go_wp2
        go_roundw
        case rel => exact ⟨1, v, by omega, by go_num, rfl, HV, HW⟩
        case measure => simp [intOf]; omega
    · obtain rfl : i = m := by omega
      have hiI : ¬ (i : Int) < (i : Int) := by omega
      have HV' : Hid (fsN z (i - 1) = v) := HV.out.symm
      go_wp2
      go_ret
      exact ⟨by show Ending.returned (Value.int .i64 (v : Int)) = _; rw [HV'.out], HW.out⟩
set_option maxRecDepth 100000 in
set_option maxHeartbeats 4000000 in
theorem count_no (va : Value) (m : Nat) (f : Nat → Int) (w : World) (hA : Ar w va m f) (hz : ¬ (2 ≤ m ∧ m ≤ 6 ∧ szB f m)) :
    Calls Tryz.prog 10 #[va] w fun e w' => e = .returned (.int .i64 (-1)) ∧ Below w.heap.size w w' := by
  have hB0 : Hid (Below w.heap.size w w) := Below.refl _ _
  by_cases h2 : m < 2
  · obtain ⟨adr, cap, b, o, rfl, k1, k2, k3, k4⟩ := hA
    have q1 : (m : Int) < 2 := by omega
    clear k3 k4 hz
    go_enter Tryz.func10, Tryz.ntmps10
    go_wp2
    go_ret
    exact ⟨rfl, hB0.out⟩
  by_cases h6 : 6 < m
  · obtain ⟨adr, cap, b, o, rfl, k1, k2, k3, k4⟩ := hA
    have q1 : ¬ (m : Int) < 2 := by omega
    have q2 : (6 : Int) < (m : Int) := by omega
    clear k3 k4 hz
    go_enter Tryz.func10, Tryz.ntmps10
    go_wp2
    go_ret
    exact ⟨rfl, hB0.out⟩
  have hex : ∃ k, k < m ∧ ¬ (1 ≤ f k ∧ f k ≤ 64) := by
    by_cases h : ∃ k, k < m ∧ ¬ (1 ≤ f k ∧ f k ≤ 64)
    · exact h
    · exact absurd ⟨by omega, by omega, fun i hi => Classical.byContradiction fun hc => h ⟨i, hi, hc⟩⟩ hz
  obtain ⟨k, ⟨hkm, hkb⟩, -, hkl⟩ : ∃ q, (q < m ∧ ¬ (1 ≤ f q ∧ f q ≤ 64)) ∧ q ≤ m ∧ ∀ j, j < q → ¬ (j < m ∧ ¬ (1 ≤ f j ∧ f j ≤ 64)) := by
    classical
    obtain ⟨k0, hk0⟩ := hex
    obtain ⟨q, a1, a2, a3⟩ := least (fun q => q < m ∧ ¬ (1 ≤ f q ∧ f q ≤ 64)) k0 hk0
    exact ⟨q, a1, by omega, a3⟩
  obtain ⟨adr, cap, b, o, rfl, k1, k2, k3, k4⟩ := hA
  unfold maxLen at k2
  have ha := k3 (by omega)
  subst ha
  have HX : Hid (∀ i, i < m → w.cell? ⟨b, o + i, none⟩ = some (.int .i64 (f i))) := fun i hi => (k4 i hi).1
  have HZ : Hid (∀ i, i < k → 1 ≤ f i ∧ f i ≤ 64) := fun i hi => Classical.byContradiction fun hc => hkl i hi ⟨by omega, hc⟩
  have HK : Hid (¬ (1 ≤ f k ∧ f k ≤ 64)) := hkb
  clear k3 k4 hz hkb hkl hex
  have q1 : ¬ (m : Int) < 2 := by omega
  have q2 : ¬ (6 : Int) < (m : Int) := by omega
  go_enter Tryz.func10, Tryz.ntmps10
  go_upto_region 5 with fail
  go_loopw [3, 4] (fun s3 si wr => ∃ i v : Nat, i ≤ k ∧ si = .int .i64 (i : Int) ∧ s3 = .int .i64 (v : Int) ∧ v ≤ 4160 * i ∧ Hid (Below w.heap.size w wr)) (fun _ si _ => m - (intOf si).toNat)
  case atStart => exact ⟨0, 0, by omega, rfl, rfl, by omega, Below.refl _ _⟩
  case round =>
    obtain ⟨i, v, hi, rfl, rfl, hvb, HW⟩ := hrel
    have hlt : i < m := by omega
    have hiI : (i : Int) < (m : Int) := by omega
    have cA : wr.cell? ⟨b, o + i, none⟩ = some (.int .i64 (f i)) := cell_later HW.out (HX.out i hlt)
    by_cases hik : i = k
    · have hb := HK.out
      rw [← hik] at hb
      generalize f i = x at *
      clear hik
      by_cases hx : x < 1
      · by_cases h0 : i = 0
        · subst h0
          rw [Nat.add_zero] at cA
          go_wp2
          go_ret
          exact ⟨rfl, HW.out⟩
        · go_wp2
          go_ret
          exact ⟨rfl, HW.out⟩
      · have hx2 : 64 < x := by omega
        by_cases h0 : i = 0
        · subst h0
          rw [Nat.add_zero] at cA
          go_wp2
          go_ret
          exact ⟨rfl, HW.out⟩
        · go_wp2
          go_ret
          exact ⟨rfl, HW.out⟩
    · obtain ⟨z1, z2⟩ := HZ.out i (by omega)
      have zI1 : ¬ f i < 1 := by omega
      have zI2 : ¬ 64 < f i := by omega
      by_cases h0 : 0 < i
      · have h0I : (0 : Int) < (i : Int) := by omega
        have cB : wr.cell? ⟨b, o + (i - 1), none⟩ = some (.int .i64 (f (i - 1))) := cell_later HW.out (HX.out (i - 1) (by omega))
        obtain ⟨y1, y2⟩ := HZ.out (i - 1) (by omega)
        obtain ⟨za, hza⟩ : ∃ y : Nat, f (i - 1) = (y : Int) := ⟨(f (i - 1)).toNat, by omega⟩
        obtain ⟨zb, hzb⟩ : ∃ y : Nat, f i = (y : Int) := ⟨(f i).toNat, by omega⟩
        rw [hza] at cB y1 y2
        rw [hzb] at cA z1 z2 zI1 zI2
        obtain ⟨pr, hpr⟩ : ∃ p, za * zb = p := ⟨_, rfl⟩
        have hpb : pr ≤ 64 * 64 := by rw [← hpr]; exact Nat.mul_le_mul (by omega) (by omega)
        have epr : (za : Int) * (zb : Int) = (pr : Int) := by rw [← hpr, Int.natCast_mul]
        have hi1 : ((i - 1 : Nat) : Int) < (m : Int) := by omega
        have w1 : IntKind.i64.wrap ((i : Int) - 1) = ((i - 1 : Nat) : Int) := by rw [IntKind.wrap_i64]; omega
        have w2 : IntKind.i64.wrap (pr : Int) = (pr : Int) := by rw [IntKind.wrap_i64]; omega
        have w3 : IntKind.i64.wrap ((pr : Int) + (zb : Int)) = ((pr + zb : Nat) : Int) := by rw [IntKind.wrap_i64]; omega
        have w4 : IntKind.i64.wrap ((v : Int) + ((pr + zb : Nat) : Int)) = ((v + (pr + zb) : Nat) : Int) := by rw [IntKind.wrap_i64]; omega
        have hv2 : v + (pr + zb) ≤ 4160 * (i + 1) := by omega
        have hik2 : i + 1 ≤ k := by omega
        clear hza hzb hpr hik
        generalize i - 1 = ip at *
        generalize v + (pr + zb) = vv at *
        generalize pr + zb = pz at *
        go_upto_region 10 with fail
        go_quiet (fail)
        go_wp2
        go_roundw
        case rel => exact ⟨i + 1, vv, hik2, by go_num, rfl, hv2, below_drewN HW.out _⟩
        case measure => simp [intOf]; omega
      · obtain rfl : i = 0 := by omega
        rw [Nat.add_zero] at cA
        go_wp2
        go_roundw
        case rel => exact ⟨1, v, by omega, by go_num, rfl, by omega, HW⟩
        case measure => simp [intOf]; omega
end Go.Proofs.YtcaficenocblfaaGreatDoor
set_option linter.unusedVariables false
set_option linter.unusedSimpArgs false
namespace Go.Proofs.YtcaficenocblfaaGreatDoor
open Go.RowKit

set_option maxRecDepth 100000 in
set_option maxHeartbeats 4000000 in
theorem first_any (vs vp : Value) (m l : Nat) (z : Nat → Nat) (w : World) (hA : Ar w vs m (fun i => ((z i : Nat) : Int))) (hz : Szs z m) (hl : l + 1 ≤ m) :
    Calls Tryz.prog 45 #[.agg #[vs, vp], .int .i64 (l : Int)] w fun e w' => e = .returned (.int .i64 ((fsN z l : Nat) : Int)) ∧ Below w.heap.size w w' := by
  obtain ⟨adr, cap, b, o, rfl, k1, k2, k3, k4⟩ := hA
  unfold maxLen at k2
  obtain ⟨m2, m6, hz⟩ := hz
  have ha := k3 (by omega)
  subst ha
  have HX : Hid (∀ i, i < m → w.cell? ⟨b, o + i, none⟩ = some (.int .i64 ((z i : Nat) : Int))) := fun i hi => (k4 i hi).1
  have HZ : Hid (∀ i, i < m → 1 ≤ z i ∧ z i ≤ 64) := hz
  clear k3 k4 hz
  have B0 : Hid (Bx w.heap.size (.slice (some ⟨b, o, none⟩) m cap) vp (w.alloc (.cells #[.slice (some ⟨b, o, none⟩) m cap, vp] 53))) := Bx.new w _ _ _
  have W0 : Hid (Below w.heap.size w (w.alloc (.cells #[.slice (some ⟨b, o, none⟩) m cap, vp] 53))) := bel1 w _
  go_enter Tryz.func45, Tryz.ntmps45
  go_upto_region 3 with fail
  generalize w.alloc (.cells #[.slice (some ⟨b, o, none⟩) m cap, vp] 53) = w1 at *
  go_loopw [5, 6] (fun s5 si wr => ∃ i v : Nat, i ≤ l ∧ si = .int .i64 (i : Int) ∧ s5 = .int .i64 (v : Int) ∧ Hid (v = fsN z i) ∧ Hid (Bx w.heap.size (.slice (some ⟨b, o, none⟩) m cap) vp wr) ∧ Hid (Below w.heap.size w wr)) (fun _ si _ => l - (intOf si).toNat)
  case atStart => exact ⟨0, 0, by omega, rfl, rfl, rfl, B0, W0⟩
  case round =>
    obtain ⟨i, v, hi, rfl, rfl, HV, HB, HW⟩ := hrel
    by_cases hlt : i < l
    · have hiI : (i : Int) < (l : Int) := by omega
      have hiM : (i : Int) < (m : Int) := by omega
      have hiM1 : (i : Int) + 1 < (m : Int) := by omega
      have cA : wr.cell? ⟨b, o + i, none⟩ = some (.int .i64 ((z i : Nat) : Int)) := cell_later HW.out (HX.out i (by omega))
      have cB : wr.cell? ⟨b, o + (i + 1), none⟩ = some (.int .i64 ((z (i + 1) : Nat) : Int)) := cell_later HW.out (HX.out (i + 1) (by omega))
      have s0 := HB.out.c0
      obtain ⟨z1, z2⟩ := HZ.out i (by omega)
      obtain ⟨y1, y2⟩ := HZ.out (i + 1) (by omega)
      have hvb : v ≤ 4160 * 6 := by
        have h := fsN_le z m i HZ.out (by omega)
        rw [HV.out]; omega
      have HV2 : Hid (v + (z i * z (i + 1) + z (i + 1)) = fsN z (i + 1)) := by show _ = _; rw [HV.out]; rfl
      have hpb : z i * z (i + 1) ≤ 64 * 64 := Nat.mul_le_mul z2 y2
      have epr : ((z i : Nat) : Int) * ((z (i + 1) : Nat) : Int) = ((z i * z (i + 1) : Nat) : Int) := by rw [Int.natCast_mul]
      generalize z i * z (i + 1) = pr at *
      generalize z i = za at *
      generalize z (i + 1) = zb at *
      have w1 : IntKind.i64.wrap ((i : Int) + 1) = ((i + 1 : Nat) : Int) := by rw [IntKind.wrap_i64]; omega
      have w2 : IntKind.i64.wrap ((pr : Nat) : Int) = (pr : Int) := by rw [IntKind.wrap_i64]; omega
      have w3 : IntKind.i64.wrap ((pr : Int) + (zb : Int)) = ((pr + zb : Nat) : Int) := by rw [IntKind.wrap_i64]; omega
      have w4 : IntKind.i64.wrap ((v : Int) + ((pr + zb : Nat) : Int)) = ((v + (pr + zb) : Nat) : Int) := by rw [IntKind.wrap_i64]; omega
      have hiM2 : ((i + 1 : Nat) : Int) < (m : Int) := by omega
      generalize v + (pr + zb) = vv at *
      generalize pr + zb = pz at *
      obtain ⟨iq, hiq⟩ : ∃ iq, i + 1 = iq := ⟨_, rfl⟩
      rw [hiq] at cB HV2 w1 hiM2
      have Hiq : Hid (i + 1 = iq) := hiq
      clear hiq
      go_upto_region 5 with fail
      go_quiet (fail)
      have HB2 : Hid (Bx w.heap.size (.slice (some ⟨b, o, none⟩) m cap) vp (wr.drewN nq)) := HB.out.later (below_drewN (Below.refl _ _) _)
      go_wp2
      go_roundw
      case rel => exact ⟨iq, vv, by have := Hiq.out; omega, rfl, rfl, HV2, HB2, below_drewN HW.out _⟩
      case measure => (have := Hiq.out; simp [intOf]; omega)
    · obtain rfl : i = l := by omega
      have hiI : ¬ (i : Int) < (i : Int) := by omega
      have HV' : Hid (fsN z i = v) := HV.out.symm
      go_wp2
      go_ret
      exact ⟨by show Ending.returned (Value.int .i64 (v : Int)) = _; rw [HV'.out], HW.out⟩
end Go.Proofs.YtcaficenocblfaaGreatDoor
set_option linter.unusedVariables false
set_option linter.unusedSimpArgs false
namespace Go.Proofs.YtcaficenocblfaaGreatDoor
open Go.RowKit

def wtN (z : Nat → Nat) (l u i : Nat) : Nat := fsN z l + u * z l + i
def ofN (z : Nat → Nat) (l u : Nat) : Nat := fsN z l + z l * z (l + 1) + u
theorem wtN_lt (z : Nat → Nat) (l u i : Nat) (hu : u < z (l + 1)) (hi : i < z l) : wtN z l u i < fsN z (l + 1) := by
  have h : (u + 1) * z l ≤ z (l + 1) * z l := Nat.mul_le_mul_right _ hu
  rw [Nat.succ_mul, Nat.mul_comm (z (l + 1))] at h
  show fsN z l + u * z l + i < fsN z l + (z l * z (l + 1) + z (l + 1))
  omega
theorem ofN_lt (z : Nat → Nat) (l u : Nat) (hu : u < z (l + 1)) : ofN z l u < fsN z (l + 1) := by
  show fsN z l + z l * z (l + 1) + u < fsN z l + (z l * z (l + 1) + z (l + 1))
  omega
set_option maxRecDepth 100000 in
set_option maxHeartbeats 4000000 in
theorem weight_any (vs vp : Value) (m c l u i : Nat) (z : Nat → Nat) (p : Nat → Int) (w : World) (hA : Ar w vs m (fun i => ((z i : Nat) : Int))) (hB : Ar w vp c p) (hz : Szs z m) (hc : c = fsN z (m - 1)) (hl : l + 1 < m) (hu : u < z (l + 1)) (hi : i < z l) :
    Calls Tryz.prog 71 #[.agg #[vs, vp], .int .i64 (l : Int), .int .i64 (u : Int), .int .i64 (i : Int)] w fun e w' => e = .returned (.int .i64 (p (wtN z l u i))) ∧ Below w.heap.size w w' := by
  have HF : Hid (∀ W : World, Below w.heap.size w W → Calls Tryz.prog 45 #[.agg #[vs, vp], .int .i64 (l : Int)] W fun e w' => e = .returned (.int .i64 ((fsN z l : Nat) : Int)) ∧ Below W.heap.size W w') := fun W hb => first_any vs vp m l z W (hA.later hb) hz (by omega)
  have hwt := wtN_lt z l u i hu hi
  have hfs := fsN_le z m l hz.2.2 (by omega)
  have hmo : fsN z (l + 1) ≤ fsN z (m - 1) := fsN_mono z (by omega)
  obtain ⟨z1, z2⟩ := hz.2.2 l (by omega)
  obtain ⟨y1, y2⟩ := hz.2.2 (l + 1) hl
  obtain ⟨adr, cap, b, o, rfl, k1, k2, k3, k4⟩ := hA
  obtain ⟨adq, caq, bq, oq, rfl, r1, r2, r3, r4⟩ := hB
  unfold maxLen at k2 r2
  have m6 := hz.2.1
  have ha := k3 (by omega)
  have hq := r3 (by omega)
  subst ha hq
  have cS : w.cell? ⟨b, o + l, none⟩ = some (.int .i64 ((z l : Nat) : Int)) := (k4 l (by omega)).1
  have cP := (r4 (wtN z l u i) (by omega)).1
  have hwb : u * z l ≤ 64 * 64 := Nat.mul_le_mul (by omega) z2
  have eN : wtN z l u i = fsN z l + u * z l + i := rfl
  have hcI : ((wtN z l u i : Nat) : Int) < (c : Int) := by omega
  have hlm : (l : Int) < (m : Int) := by omega
  obtain ⟨N0, hN0⟩ : ∃ x, wtN z l u i = x := ⟨_, rfl⟩
  rw [hN0] at cP eN hcI
  rw [hN0]
  obtain ⟨pp, hpp⟩ : ∃ x, p N0 = x := ⟨_, rfl⟩
  rw [hpp] at cP
  rw [hpp]
  have eM : (u : Int) * ((z l : Nat) : Int) = ((u * z l : Nat) : Int) := by rw [Int.natCast_mul]
  have w1 : IntKind.i64.wrap ((u * z l : Nat) : Int) = ((u * z l : Nat) : Int) := by rw [IntKind.wrap_i64]; omega
  have w2 : IntKind.i64.wrap (((fsN z l : Nat) : Int) + ((u * z l : Nat) : Int)) = ((fsN z l + u * z l : Nat) : Int) := by rw [IntKind.wrap_i64]; omega
  have w3 : IntKind.i64.wrap (((fsN z l + u * z l : Nat) : Int) + (i : Int)) = (N0 : Int) := by rw [IntKind.wrap_i64]; omega
  generalize fsN z l + u * z l = s2 at *
  generalize u * z l = s1 at *
  generalize fsN z l = s0 at *
  generalize z l = zl at *
  have B0 := Bx.new w (.slice (some ⟨b, o, none⟩) m cap) (.slice (some ⟨bq, oq, none⟩) c caq) 53
  have W0 : Hid (Below w.heap.size w (w.alloc (.cells #[.slice (some ⟨b, o, none⟩) m cap, .slice (some ⟨bq, oq, none⟩) c caq] 53))) := bel1 w _
  have cS1 := cell_later W0.out cS
  have cP1 := cell_later W0.out cP
  clear k3 k4 r3 r4 hN0 hpp hz hwt hmo hc eN cS cP hu hi hfs
  go_enter Tryz.func71, Tryz.ntmps71
  go_upto_region 2 with fail
  generalize w.alloc (.cells #[.slice (some ⟨b, o, none⟩) m cap, .slice (some ⟨bq, oq, none⟩) c caq] 53) = w1' at *
  have hd1 : Below w1'.heap.size w1' w1'.drew := (Below.refl _ _).drew
  have A := B0.later hd1
  have S1 := cell_later hd1 cS1
  have P1 := cell_later hd1 cP1
  have CW : Hid (Below w.heap.size w w1'.drew) := bchain W0.out hd1
  clear hd1 B0 cS1 cP1 W0
  go_region_held3 (fun w' => w'.cell? ⟨w.heap.size, 0, none⟩ = some (.slice (some ⟨b, o, none⟩) m cap) ∧ w'.cell? ⟨w.heap.size, 1, none⟩ = some (.slice (some ⟨bq, oq, none⟩) c caq) ∧ w'.cell? ⟨b, o + l, none⟩ = some (.int .i64 (zl : Int)) ∧ w'.cell? ⟨bq, oq + N0, none⟩ = some (.int .i64 pp))
    (exact ⟨A.c0, A.c1, S1, P1⟩)
    (first | (go_at_call 45; refine (HF.out _ CW.out).mono ?_; rintro e wz ⟨rfl, hb⟩; replace A := A.later hb; replace S1 := cell_later hb S1; replace P1 := cell_later hb P1; replace CW := hidD CW hb; clear hb))
  go_wp2
  go_ret
  exact ⟨rfl, CW.out⟩
end Go.Proofs.YtcaficenocblfaaGreatDoor
set_option linter.unusedVariables false
set_option linter.unusedSimpArgs false
namespace Go.Proofs.YtcaficenocblfaaGreatDoor
open Go.RowKit

set_option maxRecDepth 100000 in
set_option maxHeartbeats 4000000 in
theorem offset_any (vs vp : Value) (m c l u : Nat) (z : Nat → Nat) (p : Nat → Int) (w : World) (hA : Ar w vs m (fun i => ((z i : Nat) : Int))) (hB : Ar w vp c p) (hz : Szs z m) (hc : c = fsN z (m - 1)) (hl : l + 1 < m) (hu : u < z (l + 1)) :
    Calls Tryz.prog 69 #[.agg #[vs, vp], .int .i64 (l : Int), .int .i64 (u : Int)] w fun e w' => e = .returned (.int .i64 (p (ofN z l u))) ∧ Below w.heap.size w w' := by
  have HF : Hid (∀ W : World, Below w.heap.size w W → Calls Tryz.prog 45 #[.agg #[vs, vp], .int .i64 (l : Int)] W fun e w' => e = .returned (.int .i64 ((fsN z l : Nat) : Int)) ∧ Below W.heap.size W w') := fun W hb => first_any vs vp m l z W (hA.later hb) hz (by omega)
  have hwt := ofN_lt z l u hu
  have hfs := fsN_le z m l hz.2.2 (by omega)
  have hmo : fsN z (l + 1) ≤ fsN z (m - 1) := fsN_mono z (by omega)
  obtain ⟨z1, z2⟩ := hz.2.2 l (by omega)
  obtain ⟨y1, y2⟩ := hz.2.2 (l + 1) hl
  obtain ⟨adr, cap, b, o, rfl, k1, k2, k3, k4⟩ := hA
  obtain ⟨adq, caq, bq, oq, rfl, r1, r2, r3, r4⟩ := hB
  unfold maxLen at k2 r2
  have m6 := hz.2.1
  have ha := k3 (by omega)
  have hq := r3 (by omega)
  subst ha hq
  have cS : w.cell? ⟨b, o + l, none⟩ = some (.int .i64 ((z l : Nat) : Int)) := (k4 l (by omega)).1
  have cP := (r4 (ofN z l u) (by omega)).1
  have hwb : z l * z (l + 1) ≤ 64 * 64 := Nat.mul_le_mul z2 y2
  have cS2 : w.cell? ⟨b, o + (l + 1), none⟩ = some (.int .i64 ((z (l + 1) : Nat) : Int)) := (k4 (l + 1) hl).1
  have hlm1 : (l : Int) + 1 < (m : Int) := by omega
  have eN : ofN z l u = fsN z l + z l * z (l + 1) + u := rfl
  have hcI : ((ofN z l u : Nat) : Int) < (c : Int) := by omega
  have hlm : (l : Int) < (m : Int) := by omega
  obtain ⟨N0, hN0⟩ : ∃ x, ofN z l u = x := ⟨_, rfl⟩
  rw [hN0] at cP eN hcI
  rw [hN0]
  obtain ⟨pp, hpp⟩ : ∃ x, p N0 = x := ⟨_, rfl⟩
  rw [hpp] at cP
  rw [hpp]
  have eM : ((z l : Nat) : Int) * ((z (l + 1) : Nat) : Int) = ((z l * z (l + 1) : Nat) : Int) := by rw [Int.natCast_mul]
  have w1 : IntKind.i64.wrap ((z l * z (l + 1) : Nat) : Int) = ((z l * z (l + 1) : Nat) : Int) := by rw [IntKind.wrap_i64]; omega
  have w2 : IntKind.i64.wrap (((fsN z l : Nat) : Int) + ((z l * z (l + 1) : Nat) : Int)) = ((fsN z l + z l * z (l + 1) : Nat) : Int) := by rw [IntKind.wrap_i64]; omega
  have w3 : IntKind.i64.wrap (((fsN z l + z l * z (l + 1) : Nat) : Int) + (u : Int)) = (N0 : Int) := by rw [IntKind.wrap_i64]; omega
  generalize fsN z l + z l * z (l + 1) = s2 at *
  generalize z l * z (l + 1) = s1 at *
  generalize fsN z l = s0 at *
  generalize z l = zl at *
  have w5 : IntKind.i64.wrap ((l : Int) + 1) = ((l + 1 : Nat) : Int) := by rw [IntKind.wrap_i64]; omega
  have hlm2 : ((l + 1 : Nat) : Int) < (m : Int) := by omega
  generalize z (l + 1) = zl2 at *
  obtain ⟨lq, hlq⟩ : ∃ x, l + 1 = x := ⟨_, rfl⟩
  rw [hlq] at cS2 w5 hlm2
  have B0 := Bx.new w (.slice (some ⟨b, o, none⟩) m cap) (.slice (some ⟨bq, oq, none⟩) c caq) 53
  have W0 : Hid (Below w.heap.size w (w.alloc (.cells #[.slice (some ⟨b, o, none⟩) m cap, .slice (some ⟨bq, oq, none⟩) c caq] 53))) := bel1 w _
  have cS1 := cell_later W0.out cS
  have cP1 := cell_later W0.out cP
  have cS3 := cell_later W0.out cS2
  clear k3 k4 r3 r4 hN0 hpp hz hwt hmo hc eN cS cP cS2 hu hfs
  go_enter Tryz.func69, Tryz.ntmps69
  go_upto_region 2 with fail
  generalize w.alloc (.cells #[.slice (some ⟨b, o, none⟩) m cap, .slice (some ⟨bq, oq, none⟩) c caq] 53) = w1' at *
  have hd1 : Below w1'.heap.size w1' w1'.drew := (Below.refl _ _).drew
  have A := B0.later hd1
  have S1 := cell_later hd1 cS1
  have P1 := cell_later hd1 cP1
  have S2 := cell_later hd1 cS3
  have CW : Hid (Below w.heap.size w w1'.drew) := bchain W0.out hd1
  clear hd1 B0 cS1 cP1 cS3 W0
  go_region_held3 (fun w' => w'.cell? ⟨w.heap.size, 0, none⟩ = some (.slice (some ⟨b, o, none⟩) m cap) ∧ w'.cell? ⟨w.heap.size, 1, none⟩ = some (.slice (some ⟨bq, oq, none⟩) c caq) ∧ w'.cell? ⟨b, o + l, none⟩ = some (.int .i64 (zl : Int)) ∧ w'.cell? ⟨b, o + lq, none⟩ = some (.int .i64 (zl2 : Int)) ∧ w'.cell? ⟨bq, oq + N0, none⟩ = some (.int .i64 pp))
    (exact ⟨A.c0, A.c1, S1, S2, P1⟩)
    (first | (go_at_call 45; refine (HF.out _ CW.out).mono ?_; rintro e wz ⟨rfl, hb⟩; replace A := A.later hb; replace S1 := cell_later hb S1; replace P1 := cell_later hb P1; replace S2 := cell_later hb S2; replace CW := hidD CW hb; clear hb))
  go_wp2
  go_ret
  exact ⟨rfl, CW.out⟩
end Go.Proofs.YtcaficenocblfaaGreatDoor
set_option linter.unusedVariables false
set_option linter.unusedSimpArgs false
namespace Go.Proofs.YtcaficenocblfaaGreatDoor

def linN (z : Nat → Nat) (p v : Nat → Int) (l u : Nat) : Int := p (ofN z l u) * 4294967296 + dotV (fun i => p (wtN z l u i)) v (z l)
def hidV (h : Bool) (v : Int) : Int := if h = true then (if v < 0 then 0 else v) else v
def vN (z : Nat → Nat) (m : Nat) (p x : Nat → Int) : Nat → Nat → Int
  | 0 => x
  | l + 1 => fun u => hidV (decide (l + 2 < m)) (clv (rr (linN z p (vN z m p x l) l u) 32))
def vO (z : Nat → Nat) (m : Nat) (p x : Nat → Int) (l u : Nat) : Bool := ovv (rr (linN z p (vN z m p x l) l u) 32)
def vC (z : Nat → Nat) (m : Nat) (p x : Nat → Int) : Nat → Int
  | 0 => 0
  | l + 1 => vC z m p x l + cntV (vO z m p x l) (z (l + 1))
def dsX (y t : Nat → Int) (i : Nat) : Int := clv (y i - t i)
def dsO (y t : Nat → Int) (i : Nat) : Bool := ovv (y i - t i)
def mpX (y t : Nat → Int) (i : Nat) : Int := clv (rr (t i * y i) 32)
def mpO (y t : Nat → Int) (i : Nat) : Bool := ovv (rr (t i * y i) 32)
def hgX (y t : Nat → Int) (i : Nat) : Int := clv (4294967296 - mpX y t i)
def hgO (y t : Nat → Int) (i : Nat) : Bool := ovv (4294967296 - mpX y t i)
def posV (f : Nat → Int) (i : Nat) : Int := if 0 < f i then f i else 0
def lsS (s : Bool) (y t : Nat → Int) (n : Nat) : Int := if s = true then rr (dotV (dsX y t) (dsX y t) n) 33 else sumV (posV (hgX y t)) n
def lsX (s : Bool) (y t : Nat → Int) (n : Nat) : Int := clv (lsS s y t n)
def lsP (s : Bool) (y t : Nat → Int) (n : Nat) : Int := if s = true then cntV (dsO y t) n else cntV (mpO y t) n + cntV (hgO y t) n
def lsC (s : Bool) (y t : Nat → Int) (n : Nat) : Int := lsP s y t n + bi (ovv (lsS s y t n))
def slX (s : Bool) (y t : Nat → Int) (i : Nat) : Int := if s = true then dsX y t i else if 0 < hgX y t i then clv (0 - t i) else 0
def slO (y t : Nat → Int) (i : Nat) : Bool := if 0 < hgX y t i then ovv (0 - t i) else false
def slC (s : Bool) (y t : Nat → Int) (n : Nat) : Int := if s = true then cntV (dsO y t) n else cntV (mpO y t) n + cntV (hgO y t) n + cntV (slO y t) n
def ahS (z : Nat → Nat) (p s : Nat → Int) (l i : Nat) : Int := dotV s (fun u => p (wtN z l u i)) (z (l + 1))
def ahX (z : Nat → Nat) (p s v : Nat → Int) (l i : Nat) : Int := if 0 < v i then clv (rr (ahS z p s l i) 32) else 0
def ahO (z : Nat → Nat) (p s v : Nat → Int) (l i : Nat) : Bool := if 0 < v i then ovv (rr (ahS z p s l i) 32) else false
def sB (z : Nat → Nat) (m : Nat) (p : Nat → Int) (V : Nat → Nat → Int) (s0 : Nat → Int) : Nat → Nat → Int
  | 0 => s0
  | k + 1 => ahX z p (sB z m p V s0 k) (V (m - 2 - k)) (m - 2 - k)
def sL (z : Nat → Nat) (m : Nat) (p : Nat → Int) (V : Nat → Nat → Int) (s0 : Nat → Int) (l : Nat) : Nat → Int := sB z m p V s0 (m - 2 - l)
def gwX (s v : Nat → Int) (u i : Nat) : Int := clv (rr (s u * v i) 32)
def gwO (s v : Nat → Int) (u i : Nat) : Bool := ovv (rr (s u * v i) 32)
def Grd (z : Nat → Nat) (m : Nat) (V S : Nat → Nat → Int) (G : Nat → Int) : Prop := ∀ l, l + 1 < m → ∀ u, u < z (l + 1) → (∀ i, i < z l → G (wtN z l u i) = gwX (S l) (V l) u i) ∧ G (ofN z l u) = S l u
def grC (s v : Nat → Int) (n : Nat) : Nat → Int
  | 0 => 0
  | u + 1 => grC s v n u + cntV (gwO s v u) n
def bkC (z : Nat → Nat) (m : Nat) (p : Nat → Int) (V S : Nat → Nat → Int) : Nat → Int
  | 0 => 0
  | k + 1 => bkC z m p V S k + grC (S (m - 2 - k)) (V (m - 2 - k)) (z (m - 2 - k)) (z (m - 1 - k)) + (if m - 2 - k = 0 then 0 else cntV (ahO z p (S (m - 2 - k)) (V (m - 2 - k)) (m - 2 - k)) (z (m - 2 - k)))
theorem place_of (z : Nat → Nat) (m j : Nat) (hz : ∀ i, i < m → 1 ≤ z i) (hj : j < fsN z (m - 1)) : ∃ l, l + 1 < m ∧ ((∃ u i, u < z (l + 1) ∧ i < z l ∧ j = wtN z l u i) ∨ ∃ u, u < z (l + 1) ∧ j = ofN z l u) := by
  have key : ∀ k, k < m → j < fsN z k → ∃ l, l + 1 < m ∧ ((∃ u i, u < z (l + 1) ∧ i < z l ∧ j = wtN z l u i) ∨ ∃ u, u < z (l + 1) ∧ j = ofN z l u) := fun k => by
    induction k with
    | zero => intro _ h; exact absurd h (Nat.not_lt_zero _)
    | succ k ih =>
      intro hk hlt
      rcases Nat.lt_or_ge j (fsN z k) with h | h
      · exact ih (by omega) h
      · refine ⟨k, hk, ?_⟩
        have hlt2 : j < fsN z k + (z k * z (k + 1) + z (k + 1)) := hlt
        have hzk := hz k (by omega)
        rcases Nat.lt_or_ge j (fsN z k + z k * z (k + 1)) with h1 | h1
        · left
          refine ⟨(j - fsN z k) / z k, (j - fsN z k) % z k, ?_, Nat.mod_lt _ (by omega), ?_⟩
          · rw [Nat.div_lt_iff_lt_mul (by omega), Nat.mul_comm]; omega
          · unfold wtN
            have := Nat.div_add_mod (j - fsN z k) (z k)
            rw [Nat.mul_comm] at this
            omega
        · right
          exact ⟨j - (fsN z k + z k * z (k + 1)), by omega, by unfold ofN; omega⟩
  rcases Nat.eq_zero_or_pos m with h0 | h0
  · subst h0
    exact absurd hj (Nat.not_lt_zero _)
  · exact key (m - 1) (by omega) hj
theorem Grd.one {z : Nat → Nat} {m : Nat} {V S : Nat → Nat → Int} {G H : Nat → Int} (hz : ∀ i, i < m → 1 ≤ z i) (g : Grd z m V S G) (h : Grd z m V S H) (j : Nat) (hj : j < fsN z (m - 1)) : G j = H j := by
  obtain ⟨l, hl, ⟨u, i, hu, hi, rfl⟩ | ⟨u, hu, rfl⟩⟩ := place_of z m j hz hj
  · rw [(g l hl u hu).1 i hi, (h l hl u hu).1 i hi]
  · rw [(g l hl u hu).2, (h l hl u hu).2]
theorem sL_last (z : Nat → Nat) (m : Nat) (p : Nat → Int) (V : Nat → Nat → Int) (s0 : Nat → Int) : sL z m p V s0 (m - 2) = s0 := by
  unfold sL
  rw [Nat.sub_self]
  rfl
theorem sL_step (z : Nat → Nat) (m : Nat) (p : Nat → Int) (V : Nat → Nat → Int) (s0 : Nat → Int) (l : Nat) (hl : l + 2 < m) : sL z m p V s0 l = ahX z p (sL z m p V s0 (l + 1)) (V (l + 1)) (l + 1) := by
  unfold sL
  obtain ⟨k, hk⟩ : ∃ k, m - 2 - l = k + 1 := ⟨m - 2 - l - 1, by omega⟩
  have e : m - 2 - (l + 1) = k := by omega
  have e2 : m - 2 - k = l + 1 := by omega
  rw [hk, e]
  show ahX z p (sB z m p V s0 k) (V (m - 2 - k)) (m - 2 - k) = _
  rw [e2]
theorem hidV_rng (h : Bool) (v : Int) (hv : -9223372036854775808 ≤ v ∧ v ≤ 9223372036854775807) : -9223372036854775808 ≤ hidV h v ∧ hidV h v ≤ 9223372036854775807 := by
  unfold hidV
  split
  · split <;> omega
  · exact hv
theorem vN_rng (z : Nat → Nat) (m : Nat) (p x : Nat → Int) (l u : Nat) (hx : ∀ i, i < z 0 → -9223372036854775808 ≤ x i ∧ x i ≤ 9223372036854775807) (hu : u < z l) : -9223372036854775808 ≤ vN z m p x l u ∧ vN z m p x l u ≤ 9223372036854775807 := by
  cases l with
  | zero => exact hx u hu
  | succ l => exact hidV_rng _ _ (clv_rng _)
theorem slX_rng (s : Bool) (y t : Nat → Int) (i : Nat) : -9223372036854775808 ≤ slX s y t i ∧ slX s y t i ≤ 9223372036854775807 := by
  unfold slX
  split
  · exact clv_rng _
  · split
    · exact clv_rng _
    · omega
theorem ahX_rng (z : Nat → Nat) (p s v : Nat → Int) (l i : Nat) : -9223372036854775808 ≤ ahX z p s v l i ∧ ahX z p s v l i ≤ 9223372036854775807 := by
  unfold ahX
  split
  · exact clv_rng _
  · omega
theorem vC_rng (z : Nat → Nat) (m : Nat) (p x : Nat → Int) (l : Nat) (hz : ∀ i, i < m → z i ≤ 64) (hl : l < m) : 0 ≤ vC z m p x l ∧ vC z m p x l ≤ 64 * (l : Int) := by
  induction l with
  | zero => exact ⟨Int.le_refl _, Int.le_refl _⟩
  | succ l ih =>
    have h1 := ih (by omega)
    have h2 := cnt_rng (vO z m p x l) (z (l + 1))
    have h3 := hz (l + 1) hl
    show 0 ≤ vC z m p x l + cntV (vO z m p x l) (z (l + 1)) ∧ vC z m p x l + cntV (vO z m p x l) (z (l + 1)) ≤ _
    omega
theorem slX_sq (y t : Nat → Int) (i : Nat) : slX true y t i = clv (y i - t i) := by unfold slX dsX; rw [if_pos rfl]
theorem slX_hg (y t : Nat → Int) (i : Nat) : slX false y t i = if 0 < hgX y t i then clv (0 - t i) else 0 := by unfold slX; rw [if_neg (by simp)]
theorem slC_sq (y t : Nat → Int) (n : Nat) : slC true y t n = cntV (dsO y t) n := by unfold slC; rw [if_pos rfl]
theorem slC_hg (y t : Nat → Int) (n : Nat) : slC false y t n = cntV (mpO y t) n + cntV (hgO y t) n + cntV (slO y t) n := by unfold slC; rw [if_neg (by simp)]
theorem slO_hg (y t : Nat → Int) (i : Nat) : slO y t i = if 0 < hgX y t i then ovv (0 - t i) else false := by unfold slO; rfl
theorem lsS_sq (y t : Nat → Int) (n : Nat) : lsS true y t n = rr (dotV (dsX y t) (dsX y t) n) 33 := by unfold lsS; rw [if_pos rfl]
theorem lsS_hg (y t : Nat → Int) (n : Nat) : lsS false y t n = sumV (posV (hgX y t)) n := by unfold lsS; rw [if_neg (by simp)]
theorem lsP_sq (y t : Nat → Int) (n : Nat) : lsP true y t n = cntV (dsO y t) n := by unfold lsP; rw [if_pos rfl]
theorem lsP_hg (y t : Nat → Int) (n : Nat) : lsP false y t n = cntV (mpO y t) n + cntV (hgO y t) n := by unfold lsP; rw [if_neg (by simp)]
end Go.Proofs.YtcaficenocblfaaGreatDoor
set_option linter.unusedVariables false
set_option linter.unusedSimpArgs false
namespace Go.Proofs.YtcaficenocblfaaGreatDoor
open Go.RowKit

theorem un_far {d : Nat} {c : Int} {w wr : World} {p : Addr} (h : Un d c w wr) (hd : d < w.heap.size) (hp : w.heap.size ≤ p.block) (u : Value) : Un d c w (wr.setCell p u) := by
  have blk : ∀ i, i < w.heap.size → (wr.setCell p u).heap[i]? = wr.heap[i]? := fun i hi => Below.heap_setCell _ _ _ _ (by omega)
  refine ⟨(World.cell?_of_block (w := wr) (blk d hd)).trans h.c, (World.frozen?_of_block (w := wr) (blk d hd)).trans h.f, ?_, ?_, ?_, ?_⟩
  · intro base w0 h1 h2 h3
    exact (h.b base w0 h1 h2 h3).setCell (by omega) u
  · intro a v ha hc
    have hb := World.block_lt_of_cell? _ _ hc
    exact (World.cell?_of_block (w := wr) (blk a.block hb)).trans (h.o a v ha hc)
  · have := h.s
    simp [World.setCell]
    omega
  · intro i hi hn
    exact (blk i hi).trans (h.k i hi hn)
theorem un6 {d : Nat} {c : Int} {w wr : World} {b : Nat} (h : Un d c w wr) (hd : d < w.heap.size) (hb : w.heap.size ≤ b) (y : Nat → Int) : Un d c w ((((((wr.setCell ⟨b, 0, none⟩ (.int .u64 (y 0))).setCell ⟨b, 1, none⟩ (.int .u64 (y 1))).setCell ⟨b, 2, none⟩ (.int .u64 (y 2))).setCell ⟨b, 3, none⟩ (.int .u64 (y 3))).setCell ⟨b, 4, none⟩ (.int .u64 (y 4))).setCell ⟨b, 5, none⟩ (.int .u64 (y 5))) :=
  un_far (un_far (un_far (un_far (un_far (un_far h hd hb _) hd hb _) hd hb _) hd hb _) hd hb _) hd hb _
theorem un6N {d : Nat} {c : Int} {w wr : World} {b : Nat} (h : Un d c w wr) (hd : d < w.heap.size) (hb : w.heap.size ≤ b) (y : Nat → Int) : Un d c w ((((((wr.setCell ⟨b, 6, none⟩ (.int .u64 (y 0))).setCell ⟨b, 7, none⟩ (.int .u64 (y 1))).setCell ⟨b, 8, none⟩ (.int .u64 (y 2))).setCell ⟨b, 9, none⟩ (.int .u64 (y 3))).setCell ⟨b, 10, none⟩ (.int .u64 (y 4))).setCell ⟨b, 11, none⟩ (.int .u64 (y 5))) :=
  un_far (un_far (un_far (un_far (un_far (un_far h hd hb _) hd hb _) hd hb _) hd hb _) hd hb _) hd hb _
theorem B12.block {b : Nat} {x y : Nat → Int} {w w' : World} (h : B12 b x y w) (e : w'.heap[b]? = w.heap[b]?) : B12 b x y w' :=
  ⟨fun k hk => (World.cell?_of_block (w := w) e).trans (h.c k hk), fun k hk => (World.cell?_of_block (w := w) e).trans (h.d k hk), fun k hk => (World.frozen?_of_block (w := w) e).trans (h.f k hk), fun k hk => (World.frozen?_of_block (w := w) e).trans (h.g k hk)⟩
theorem B12.un {b : Nat} {x y : Nat → Int} {w w' : World} {d : Nat} {c : Int} (h : B12 b x y w) (hU : Un d c w w') (hb : b ≠ d) : B12 b x y w' := h.block (hU.k b h.lt hb)
theorem sm_mono {p q V B B' : Int} (h : Sm p q V B) (hB : B ≤ B') : Sm p q V B' := ⟨h.p0, h.q0, by have := h.p1; omega, by have := h.q1; omega, h.v⟩
theorem Ar.spot {w : World} {v : Value} {n : Nat} {f : Nat → Int} (h : Ar w v n f) (j : Nat) (hj : j < n) : ∃ (b o cap : Nat), v = .slice (some ⟨b, o, none⟩) n cap ∧ cap ≤ maxLen ∧ n ≤ cap ∧ (∀ k, k < n → w.cell? ⟨b, o + k, none⟩ = some (.int .i64 (f k))) ∧ ∀ k, k < n → -9223372036854775808 ≤ f k ∧ f k ≤ 9223372036854775807 := by
  obtain ⟨adr, cap, b, o, h1, h2, h3, h4, h5⟩ := h
  have e := h4 (by omega)
  subst e
  exact ⟨b, o, cap, h1, h3, h2, fun k hk => (h5 k hk).1, fun k hk => (h5 k hk).2⟩
theorem Ar.spare {w : World} {v : Value} {n : Nat} {f : Nat → Int} (h : Ar w v n f) {d : Nat} (hd : w.heap.size ≤ d) : Nb v d := by
  intro a n' cap e hn
  obtain ⟨adr, ca, b, o, e2, h2, h3, h4, h5⟩ := h
  rw [e] at e2
  cases e2
  have e3 := h4 (by omega)
  cases e3
  have := World.block_lt_of_cell? _ _ (h5 0 (by omega)).1
  dsimp only at *
  omega
theorem Ar.stay {w w' : World} {v : Value} {n : Nat} {f : Nat → Int} (h : Ar w v n f) (hk : ∀ (a : Addr) (n' cap : Nat), v = .slice (some a) n' cap → 0 < n' → w'.heap[a.block]? = w.heap[a.block]?) : Ar w' v n f := by
  obtain ⟨adr, cap, b, o, e, h1, h2, h3, h4⟩ := h
  refine ⟨adr, cap, b, o, e, h1, h2, h3, fun k hk' => ⟨?_, (h4 k hk').2⟩⟩
  have e2 := h3 (by omega)
  subst e2
  exact (World.cell?_of_block (w := w) (a := ⟨b, o + k, none⟩) (hk ⟨b, o, none⟩ n cap e (by omega))).trans (h4 k hk').1
def Alg (w : World) (B d : Nat) (v : Value) (j : Nat) (ns : Nat → Nat) (fs : Nat → Nat → Int) : Prop :=
  ∃ xs : List Value, w.ownsRow B 45 1 v j xs ∧ ∀ k, k < j → ∃ va : Value, xs[k]? = some va ∧ Ar w va (ns k) (fs k) ∧ Nb va d ∧ ∀ g, v.ownBlock = some g → Nb va g
theorem Alg.un {w w' : World} {B d : Nat} {v : Value} {j : Nat} {ns : Nat → Nat} {fs : Nat → Nat → Int} {c : Int} (h : Alg w B d v j ns fs) (hU : Un d c w w') (hd : d < B) : Alg w' B d v j ns fs := by
  obtain ⟨xs, h1, h2⟩ := h
  exact ⟨xs, own_un h1 hU hd, fun k hk => by obtain ⟨va, e, a, x, g⟩ := h2 k hk; exact ⟨va, e, a.un x hU, x, g⟩⟩
theorem alg_grow {w w3 : World} {B d : Nat} {v v' va : Value} {j : Nat} {ns : Nat → Nat} {fs : Nat → Nat → Int} {o : Obj} {xs : List Value} (h1 : w.ownsRow B 45 1 v j xs) (h2 : ∀ k, k < j → ∃ va : Value, xs[k]? = some va ∧ Ar w va (ns k) (fs k) ∧ Nb va d ∧ ∀ g, v.ownBlock = some g → Nb va g)
    (hA : Ar w va (ns j) (fs j)) (hO : Nb va d) (hN : ∀ g, v.ownBlock = some g → Nb va g)
    (hown : w3.ownsRow B 45 1 v' (j + 1) (xs ++ [va])) (hgrow : (w.alloc o).grownBy w3 v.ownBlock) (hat : v'.ownBlock = v.ownBlock ∨ v'.ownBlock = some (w.alloc o).heap.size) : Alg w3 B d v' (j + 1) ns fs := by
  have hlen : xs.length = j := by have := h1.1; omega
  have key : ∀ k (x : Value), Ar w x (ns k) (fs k) → (∀ g, v.ownBlock = some g → Nb x g) → Ar w3 x (ns k) (fs k) ∧ ∀ g, v'.ownBlock = some g → Nb x g := fun k x hx hn => by
    refine ⟨hx.stay (fun a n' cap e h0 => ?_), fun g hg => ?_⟩
    · have hlt : a.block < w.heap.size := by
        rcases Nat.lt_or_ge a.block w.heap.size with h | h
        · exact h
        · exact absurd rfl (hx.spare h a n' cap e h0)
      rw [hgrow.block a.block (by rw [World.size_alloc]; omega) (fun e2 => hn a.block e2.symm a n' cap e h0 rfl), Below.heap_alloc _ _ _ (by omega)]
    · rcases hat with h | h
      · exact hn g (h.symm.trans hg)
      · rw [h] at hg
        obtain rfl := Option.some.inj hg
        exact hx.spare (by rw [World.size_alloc]; omega)
  refine ⟨xs ++ [va], hown, fun k hk => ?_⟩
  rcases Nat.lt_or_ge k j with h | h
  · obtain ⟨x, e, a, c, g⟩ := h2 k h
    obtain ⟨p, q⟩ := key k x a g
    exact ⟨x, by rw [List.getElem?_append_left (by omega)]; exact e, p, c, q⟩
  · obtain rfl : k = j := by omega
    obtain ⟨p, q⟩ := key k va hA hN
    exact ⟨va, by rw [List.getElem?_append_right (by omega), hlen]; simp, p, hO, q⟩
def Ls (w : World) (d : Nat) (v : Value) (m : Nat) (ns : Nat → Nat) (fs : Nat → Nat → Int) : Prop :=
  ∃ (g cap : Nat), v = .slice (some ⟨g, 0, none⟩) m cap ∧ m ≤ cap ∧ cap ≤ maxLen ∧ g ≠ d ∧ ∀ k, k < m → ∃ va : Value, w.cell? ⟨g, k, none⟩ = some va ∧ Ar w va (ns k) (fs k) ∧ Nb va d
theorem Alg.ls {w : World} {B d : Nat} {v : Value} {j : Nat} {ns : Nat → Nat} {fs : Nat → Nat → Int} (h : Alg w B d v j ns fs) (hj : 0 < j) (hd : d < B) : Ls w d v j ns fs := by
  obtain ⟨xs, h1, h2⟩ := h
  rcases id h1.2 with ⟨_, h0⟩ | ⟨g, cap, cur, rfl, hg, hh, hc1, hc2, hsz, htk⟩
  · omega
  · refine ⟨g, cap, rfl, hc1, hc2, by omega, fun k hk => ?_⟩
    obtain ⟨va, e, a, x, _⟩ := h2 k hk
    exact ⟨va, (h1.cellAt k (by omega)).trans e, a, x⟩
theorem Ls.un {w w' : World} {d : Nat} {v : Value} {m : Nat} {ns : Nat → Nat} {fs : Nat → Nat → Int} {c : Int} (h : Ls w d v m ns fs) (hU : Un d c w w') : Ls w' d v m ns fs := by
  obtain ⟨g, cap, e, h1, h2, h3, h4⟩ := h
  exact ⟨g, cap, e, h1, h2, h3, fun k hk => by obtain ⟨va, cc, a, x⟩ := h4 k hk; exact ⟨va, hU.o _ _ h3 cc, a.un x hU, x⟩⟩
theorem Bx.un {b : Nat} {x y : Value} {w w' : World} {d : Nat} {c : Int} (h : Bx b x y w) (hU : Un d c w w') (hb : b ≠ d) : Bx b x y w' := by
  have e := hU.k b (World.block_lt_of_cell? _ _ h.c0) hb
  exact ⟨(World.cell?_of_block (w := w) e).trans h.c0, (World.cell?_of_block (w := w) e).trans h.c1, (World.frozen?_of_block (w := w) e).trans h.f0, (World.frozen?_of_block (w := w) e).trans h.f1⟩
theorem dinfo_is : (Tryz.prog.info? 45).map (fun i => (i.zero, i.size, i.bytes)) = some (some (.slice none 0 0), 1, 24) := by kernel_rfl
end Go.Proofs.YtcaficenocblfaaGreatDoor
