/-
  VWalkG, VWalkH, VWalkI, VWalkJ, VMat, VMat2, VWalkK, VWalkL.
-/
import Derived.Test.YtldnnjcfihjkdaaDoorBI
import Derived.Test.YtldnnjcfihjkdaaDoorBK
import Derived.Deep.RegionHeld3
import Derived.Deep.DrawnRows
/-
  The contract of regattaref04's MatVec.
-/
set_option linter.unusedVariables false
set_option linter.unusedSimpArgs false
namespace Go.Proofs.YtldnnjcfihjkdaaDoor
open Go.RowKit

/-- A part of a list. -/
theorem ar_sub {w : World} {b o n cap : Nat} {f : Nat → Int} (h : Ar w (.slice (some ⟨b, o, none⟩) n cap) n f) (p c : Nat) (hp : p + c ≤ n) : Ar w (.slice (some ⟨b, o + p, none⟩) c (cap - p)) c (fun k => f (p + k)) := by
  obtain ⟨adr, cap', b', o', e, h2, h3, h4, h5⟩ := h
  cases e
  refine ⟨_, _, b, o + p, rfl, by omega, by omega, fun _ => rfl, fun k hk => ?_⟩
  have e2 := h4 (by omega)
  cases e2
  have := h5 (p + k) (by omega)
  rw [show o + p + k = o + (p + k) by omega]
  exact this
def mvX (f g : Nat → Int) (c : Nat) (i : Nat) : Int := clv (rr (dotV (fun k => f (i * c + k)) g c) 32)
def mvO (f g : Nat → Int) (c : Nat) (i : Nat) : Bool := ovv (rr (dotV (fun k => f (i * c + k)) g c) 32)
theorem Un.from {d : Nat} {n : Int} {w w1 w2 : World} (hb : Below w.heap.size w w1) (h : Un d n w1 w2) : Un d n w w2 := Un.after hb h
theorem mv_step (j r c : Nat) (h : j < r) : j * c + c ≤ r * c := by
  have := Nat.mul_le_mul_right c (show j + 1 ≤ r by omega)
  rw [Nat.add_mul, Nat.one_mul] at this
  exact this
set_option maxRecDepth 100000 in
set_option maxHeartbeats 8000000 in
theorem umatvec_any (b o cap : Nat) (r cl : Nat) (f : Nat → Int) (vx : Value) (g : Nat → Int) (d : Nat) (c : Int) (hr : 1 ≤ r) (hcl : 1 ≤ cl) (hn : r * cl ≤ 65536) (c0 : 0 ≤ c) (c1 : c ≤ 900000000) (w : World) (hA : Ar w (.slice (some ⟨b, o, none⟩) (r * cl) cap) (r * cl) f) (hX : Ar w vx cl g) (nA : b ≠ d) (nX : Nb vx d) (hc : w.cell? ⟨d, 0, none⟩ = some (.int .i64 c)) (hf : w.frozen? ⟨d, 0, none⟩ = false) :
    Calls Tryd.prog 35 #[.pointer (some ⟨d, 0, none⟩), .agg #[.int .i64 (r : Int), .int .i64 (cl : Int), .slice (some ⟨b, o, none⟩) (r * cl) cap], vx] w fun e w' => ∃ v', e = .returned v' ∧ Ar w' v' r (mvX f g cl) ∧ Ow w.heap.size v' ∧ Un d (c + cntV (mvO f g cl) r) w w' := by
  obtain ⟨i0, hi, hz0, hz1, hz2⟩ := info_parts dinfo_i64
  have hd := World.block_lt_of_cell? _ _ hc
  have hrB : r ≤ 65536 := Nat.le_trans (Nat.le_mul_of_pos_right r hcl) hn
  have hcB : cl ≤ 65536 := Nat.le_trans (Nat.le_mul_of_pos_left cl hr) hn
  have hcap : r * cl ≤ cap ∧ cap ≤ maxLen := by obtain ⟨_, _, _, _, e, h2, h3, _, _⟩ := hA; cases e; exact ⟨h2, h3⟩
  have hB := bel1' w (.cells #[.int .i64 (r : Int), .int .i64 (cl : Int), .slice (some ⟨b, o, none⟩) (r * cl) cap] 58)
  have HA : Hid (Ar (w.alloc (.cells #[.int .i64 (r : Int), .int .i64 (cl : Int), .slice (some ⟨b, o, none⟩) (r * cl) cap] 58)) (.slice (some ⟨b, o, none⟩) (r * cl) cap) (r * cl) f) := hA.later hB
  have HX : Hid (Ar (w.alloc (.cells #[.int .i64 (r : Int), .int .i64 (cl : Int), .slice (some ⟨b, o, none⟩) (r * cl) cap] 58)) vx cl g ∧ Nb vx d) := ⟨hX.later hB, nX⟩
  have U0 : Hid (Un d c (w.alloc (.cells #[.int .i64 (r : Int), .int .i64 (cl : Int), .slice (some ⟨b, o, none⟩) (r * cl) cap] 58)) (w.alloc (.cells #[.int .i64 (r : Int), .int .i64 (cl : Int), .slice (some ⟨b, o, none⟩) (r * cl) cap] 58))) := Un.same (cell_later hB hc) (frozen_later hB hc hf)
  have HBx : Hid ((w.alloc (.cells #[.int .i64 (r : Int), .int .i64 (cl : Int), .slice (some ⟨b, o, none⟩) (r * cl) cap] 58)).cell? ⟨w.heap.size, 0, none⟩ = some (.int .i64 (r : Int)) ∧ (w.alloc (.cells #[.int .i64 (r : Int), .int .i64 (cl : Int), .slice (some ⟨b, o, none⟩) (r * cl) cap] 58)).cell? ⟨w.heap.size, 1, none⟩ = some (.int .i64 (cl : Int)) ∧ (w.alloc (.cells #[.int .i64 (r : Int), .int .i64 (cl : Int), .slice (some ⟨b, o, none⟩) (r * cl) cap] 58)).cell? ⟨w.heap.size, 2, none⟩ = some (.slice (some ⟨b, o, none⟩) (r * cl) cap)) := ⟨by simp [go_sem], by simp [go_sem], by simp [go_sem]⟩
  have HB : Hid (Below w.heap.size w _) := hB
  have hs1 := alloc_size_eq w (.cells #[.int .i64 (r : Int), .int .i64 (cl : Int), .slice (some ⟨b, o, none⟩) (r * cl) cap] 58)
  clear hA hX nX hc hf hB
  have HG : Hid (∀ i, -9223372036854775808 ≤ mvX f g cl i ∧ mvX f g cl i ≤ 9223372036854775807) := fun i => by unfold mvX; exact clv_rng _
  obtain ⟨RX, hRX⟩ : ∃ x, mvX f g cl = x := ⟨_, rfl⟩
  obtain ⟨RO, hRO⟩ : ∃ x, mvO f g cl = x := ⟨_, rfl⟩
  have HR : Hid (∀ i, clv (rr (dotV (fun k => f (i * cl + k)) g cl) 32) = RX i ∧ ovv (rr (dotV (fun k => f (i * cl + k)) g cl) 32) = RO i) := fun i => by rw [← hRX, ← hRO]; exact ⟨rfl, rfl⟩
  rw [hRX] at HG
  rw [hRX, hRO]
  clear hRX hRO
  unfold maxLen at hcap
  generalize hnn : r * cl = nn at *
  have HN : Hid (r * cl = nn) := hnn
  clear hnn
  go_enter Tryd.func35, Tryd.ntmps35
  go_upto_region 2 with fail
  generalize w.alloc (.cells #[.int .i64 (r : Int), .int .i64 (cl : Int), .slice (some ⟨b, o, none⟩) nn cap] 58) = wB at *
  go_wp2
  go_loopw [7, 8] (fun so si wr => ∃ j : Nat, j ≤ r ∧ si = .int .i64 (j : Int) ∧ wr.ownsRow wB.heap.size 2 1 so j (il RX j) ∧ Hid (Un d (c + cntV RO j) wB wr)) (fun _ si _ => r - (intOf si).toNat)
  case atStart => exact ⟨0, by omega, rfl, World.ownsRow_nil _ _ _ _, by show Un d (c + 0) wB wB; rw [Int.add_zero]; exact U0.out⟩
  case round =>
    obtain ⟨j, hj, rfl, hown, hU⟩ := hrel
    have hwd : w.heap.size ≠ d := by omega
    have cR := hU.out.o ⟨w.heap.size, 0, none⟩ _ hwd HBx.out.1
    have cC := hU.out.o ⟨w.heap.size, 1, none⟩ _ hwd HBx.out.2.1
    have cA := hU.out.o ⟨w.heap.size, 2, none⟩ _ hwd HBx.out.2.2
    by_cases hlt : j < r
    · have hjI : (j : Int) < (r : Int) := by omega
      have hst := mv_step j r cl hlt
      rw [HN.out] at hst
      obtain ⟨p, hp⟩ : ∃ p, j * cl = p := ⟨_, rfl⟩
      have hpI : (j : Int) * (cl : Int) = (p : Int) := by rw [← hp]; simp
      rw [hp] at hst
      have hcr := cnt_rng RO j
      obtain ⟨rx, ro⟩ := HR.out j
      have CM : Hid (Calls Tryd.prog 15 #[.pointer (some ⟨d, 0, none⟩), .slice (some ⟨b, o + p, none⟩) cl (cap - p), vx] wr fun e w' => e = .returned (.int .i64 (RX j)) ∧ Un d (c + cntV RO j + bi (RO j)) wr w') := by
        rw [← rx, ← ro, hp]
        exact udot_any _ vx cl (fun k => f (p + k)) g d (c + cntV RO j) (by omega) (by omega) (by omega) wr ((ar_sub HA.out p cl hst).un (fun a n' c' e _ => by cases e; exact nA) hU.out) (HX.out.1.un HX.out.2 hU.out) hU.out.c hU.out.f
      have HC : Hid (Un d (c + cntV RO j) wB wr ∧ wr.ownsRow wB.heap.size 2 1 u7 j (il RX j)) := ⟨hU.out, hown⟩
      have hpp : (0 : Int) ≤ (p : Int) := by omega
      have hpq : (p : Int) + (cl : Int) ≤ (cap : Int) := by omega
      clear rx ro hU hown hp
      go_wp2_with fail
      refine CM.out.mono ?_
      rintro e w2 ⟨rfl, hU2⟩
      have hown2 : w2.ownsRow wB.heap.size 2 1 u7 j (il RX j) := own_un HC.out.2 hU2 (by omega)
      have HU2 : Hid (Un d (c + cntV RO (j + 1)) wB w2) := by
        have e : c + cntV RO (j + 1) = c + cntV RO j + bi (RO j) := by show c + (cntV RO j + bi (RO j)) = _; omega
        show Un _ _ _ _
        rw [e]
        exact HC.out.1.chain hU2
      have hsz : wB.heap.size ≤ w2.heap.size := HU2.out.s
      clear hU2 HC CM cR cC cA
      go_wp2_with (at_builtin; refine wpList_append_own _ rfl _ _ 38 rfl wB.heap.size 2 i0 (.int .i64 0) 1 8 Tryd.underlying38 hi hz0 hz1 hz2 rfl (by decide) _ _ _ rfl (hown2.alloc _) ⟨w2.heap.size, 0, none⟩ 1 1 [.int .i64 (RX j)] rfl rfl (cell_one_new _ _ _) (ints_oneCell .i64 [RX j]) (by unfold maxLen; omega) (by omega) (by simp; omega) ?_; intro v' w3 hown' hgrow hnil)
      have hown3 : w3.ownsRow wB.heap.size 2 1 v' (j + 1) (il RX (j + 1)) := by rw [il_succ]; exact hown'
      have HU3 : Hid (Un d (c + cntV RO (j + 1)) wB w3) := HU2.out.grow (by omega) hgrow (fun k hk => (hown2.lt k hk).1)
      clear hown' hgrow hnil hown2 HU2
      go_wp2
      go_roundw
      case rel => exact ⟨j + 1, by omega, by go_num, hown3, HU3⟩
      case measure => simp [intOf]; omega
    · obtain rfl : j = r := by omega
      have HQ : Hid (Ar wr u7 j RX ∧ Ow wB.heap.size u7) := ar_of_own hown (fun k hk => HG.out k)
      have HE : Hid (Un d (c + cntV RO j) w wr) := Un.after HB.out hU.out
      have hjj : ¬ (j : Int) < (j : Int) := by omega
      clear hown hU
      go_wp2
      go_ret
      exact ⟨_, rfl, HQ.out.1, HQ.out.2.mono (by omega), HE.out⟩
end Go.Proofs.YtldnnjcfihjkdaaDoor
/-
  The contracts of regattaref04's At and VecMat.
-/
set_option linter.unusedVariables false
set_option linter.unusedSimpArgs false
namespace Go.Proofs.YtldnnjcfihjkdaaDoor
open Go.RowKit

def vmX (f g : Nat → Int) (r c : Nat) (k : Nat) : Int := clv (rr (dotV g (fun t => f (t * c + k)) r) 32)
def vmO (f g : Nat → Int) (r c : Nat) (k : Nat) : Bool := ovv (rr (dotV g (fun t => f (t * c + k)) r) 32)
theorem vm_step (j r c k : Nat) (h : j < r) (hk : k < c) : j * c + k < r * c := by have := mv_step j r c h; omega
theorem below_own {B : Nat} {w wr w1 : World} {e : TypeId} {s : Nat} {v : Value} {n : Nat} {xs : List Value} {o : Obj} (hW : Below B w wr) (hB : B ≤ wr.heap.size) (hown : wr.ownsRow B e s v n xs) (hg : (wr.alloc o).grownBy w1 v.ownBlock) : Below B w w1 :=
  (hW.alloc hB o).grown hg (by rw [World.size_alloc]; omega) (fun k hk => (hown.lt k hk).1)
set_option maxRecDepth 100000 in
set_option maxHeartbeats 1000000 in
theorem mat_at_any (b o cap : Nat) (r cl i k : Nat) (f : Nat → Int) (hi : i < r) (hk : k < cl) (hn : r * cl ≤ 65536) (w : World) (hA : Ar w (.slice (some ⟨b, o, none⟩) (r * cl) cap) (r * cl) f) :
    Calls Tryd.prog 74 #[.agg #[.int .i64 (r : Int), .int .i64 (cl : Int), .slice (some ⟨b, o, none⟩) (r * cl) cap], .int .i64 (i : Int), .int .i64 (k : Int)] w fun e w' => e = .returned (.int .i64 (f (i * cl + k))) ∧ Below w.heap.size w w' := by
  have hst := vm_step i r cl k hi hk
  have hB : Hid (Below w.heap.size w _) := bel1' w (.cells #[.int .i64 (r : Int), .int .i64 (cl : Int), .slice (some ⟨b, o, none⟩) (r * cl) cap] 58)
  have hcap : r * cl ≤ cap ∧ cap ≤ maxLen := by obtain ⟨_, _, _, _, e, h2, h3, _, _⟩ := hA; cases e; exact ⟨h2, h3⟩
  obtain ⟨_, _, b', o', e, _, _, h4, h5⟩ := hA.later hB.out
  cases e
  have e2 := h4 (by omega)
  cases e2
  have cA := (h5 (i * cl + k) hst).1
  clear h4 h5 hA
  generalize hnn : r * cl = nn at *
  generalize hpp : i * cl = p at *
  have hpI : (i : Int) * (cl : Int) = (p : Int) := by rw [← hpp]; simp
  clear hnn hpp
  unfold maxLen at hcap
  obtain ⟨q, hq⟩ : ∃ q, p + k = q := ⟨_, rfl⟩
  have hqI : (p : Int) + (k : Int) = (q : Int) := by omega
  rw [hq] at cA hst ⊢
  have q1 : (q : Int) < (nn : Int) := by omega
  clear hq
  go_enter Tryd.func74, Tryd.ntmps74
  go_wp2
  go_ret
  exact ⟨rfl, hB.out⟩
end Go.Proofs.YtldnnjcfihjkdaaDoor
/-
  The contract of regattaref04's VecMat.
-/
set_option linter.unusedVariables false
set_option linter.unusedSimpArgs false
namespace Go.Proofs.YtldnnjcfihjkdaaDoor
open Go.RowKit

set_option maxRecDepth 100000 in
set_option maxHeartbeats 8000000 in
theorem uvecmat_any (b o cap : Nat) (r cl : Nat) (f : Nat → Int) (vx : Value) (g : Nat → Int) (d : Nat) (c : Int) (hr : 1 ≤ r) (hcl : 1 ≤ cl) (hn : r * cl ≤ 65536) (c0 : 0 ≤ c) (c1 : c ≤ 900000000) (w : World) (hA : Ar w (.slice (some ⟨b, o, none⟩) (r * cl) cap) (r * cl) f) (hX : Ar w vx r g) (nA : b ≠ d) (nX : Nb vx d) (hc : w.cell? ⟨d, 0, none⟩ = some (.int .i64 c)) (hf : w.frozen? ⟨d, 0, none⟩ = false) :
    Calls Tryd.prog 37 #[.pointer (some ⟨d, 0, none⟩), vx, .agg #[.int .i64 (r : Int), .int .i64 (cl : Int), .slice (some ⟨b, o, none⟩) (r * cl) cap]] w fun e w' => ∃ v', e = .returned v' ∧ Ar w' v' cl (vmX f g r cl) ∧ Ow w.heap.size v' ∧ Un d (c + cntV (vmO f g r cl) cl) w w' := by
  obtain ⟨i0, hi, hz0, hz1, hz2⟩ := info_parts dinfo_i64
  have hd := World.block_lt_of_cell? _ _ hc
  have hrB : r ≤ 65536 := Nat.le_trans (Nat.le_mul_of_pos_right r hcl) hn
  have hcB : cl ≤ 65536 := Nat.le_trans (Nat.le_mul_of_pos_left cl hr) hn
  have hcap : r * cl ≤ cap ∧ cap ≤ maxLen := by obtain ⟨_, _, _, _, e, h2, h3, _, _⟩ := hA; cases e; exact ⟨h2, h3⟩
  have hB := bel1' w (.cells #[.int .i64 (r : Int), .int .i64 (cl : Int), .slice (some ⟨b, o, none⟩) (r * cl) cap] 58)
  have HA : Hid (Ar (w.alloc (.cells #[.int .i64 (r : Int), .int .i64 (cl : Int), .slice (some ⟨b, o, none⟩) (r * cl) cap] 58)) (.slice (some ⟨b, o, none⟩) (r * cl) cap) (r * cl) f) := hA.later hB
  have HX : Hid (Ar (w.alloc (.cells #[.int .i64 (r : Int), .int .i64 (cl : Int), .slice (some ⟨b, o, none⟩) (r * cl) cap] 58)) vx r g ∧ Nb vx d) := ⟨hX.later hB, nX⟩
  have U0 : Hid (Un d c (w.alloc (.cells #[.int .i64 (r : Int), .int .i64 (cl : Int), .slice (some ⟨b, o, none⟩) (r * cl) cap] 58)) (w.alloc (.cells #[.int .i64 (r : Int), .int .i64 (cl : Int), .slice (some ⟨b, o, none⟩) (r * cl) cap] 58))) := Un.same (cell_later hB hc) (frozen_later hB hc hf)
  have HBx : Hid ((w.alloc (.cells #[.int .i64 (r : Int), .int .i64 (cl : Int), .slice (some ⟨b, o, none⟩) (r * cl) cap] 58)).cell? ⟨w.heap.size, 0, none⟩ = some (.int .i64 (r : Int)) ∧ (w.alloc (.cells #[.int .i64 (r : Int), .int .i64 (cl : Int), .slice (some ⟨b, o, none⟩) (r * cl) cap] 58)).cell? ⟨w.heap.size, 1, none⟩ = some (.int .i64 (cl : Int)) ∧ (w.alloc (.cells #[.int .i64 (r : Int), .int .i64 (cl : Int), .slice (some ⟨b, o, none⟩) (r * cl) cap] 58)).cell? ⟨w.heap.size, 2, none⟩ = some (.slice (some ⟨b, o, none⟩) (r * cl) cap)) := ⟨by simp [go_sem], by simp [go_sem], by simp [go_sem]⟩
  have HB : Hid (Below w.heap.size w _) := hB
  have hs1 := alloc_size_eq w (.cells #[.int .i64 (r : Int), .int .i64 (cl : Int), .slice (some ⟨b, o, none⟩) (r * cl) cap] 58)
  clear hA hX nX hc hf hB
  have HG : Hid (∀ i, -9223372036854775808 ≤ vmX f g r cl i ∧ vmX f g r cl i ≤ 9223372036854775807) := fun i => by unfold vmX; exact clv_rng _
  obtain ⟨RX, hRX⟩ : ∃ x, vmX f g r cl = x := ⟨_, rfl⟩
  obtain ⟨RO, hRO⟩ : ∃ x, vmO f g r cl = x := ⟨_, rfl⟩
  have HR : Hid (∀ i, clv (rr (dotV g (fun t => f (t * cl + i)) r) 32) = RX i ∧ ovv (rr (dotV g (fun t => f (t * cl + i)) r) 32) = RO i) := fun i => by rw [← hRX, ← hRO]; exact ⟨rfl, rfl⟩
  rw [hRX] at HG
  rw [hRX, hRO]
  clear hRX hRO
  have HAt : Hid (∀ (i k : Nat) (W : World), i < r → k < cl → Ar W (.slice (some ⟨b, o, none⟩) (r * cl) cap) (r * cl) f → Calls Tryd.prog 74 #[.agg #[.int .i64 (r : Int), .int .i64 (cl : Int), .slice (some ⟨b, o, none⟩) (r * cl) cap], .int .i64 (i : Int), .int .i64 (k : Int)] W fun e w' => e = .returned (.int .i64 (f (i * cl + k))) ∧ Below W.heap.size W w') := fun i k W h1 h2 h3 => mat_at_any b o cap r cl i k f h1 h2 hn W h3
  have HFr : Hid (∀ q, q < r * cl → -9223372036854775808 ≤ f q ∧ f q ≤ 9223372036854775807) := by
    obtain ⟨_, _, _, _, _, _, _, _, h5⟩ := HA.out
    exact fun q hq => (h5 q hq).2
  unfold maxLen at hcap
  generalize hnn : r * cl = nn at *
  have HN : Hid (r * cl = nn) := hnn
  clear hnn
  go_enter Tryd.func37, Tryd.ntmps37
  go_upto_region 2 with fail
  generalize w.alloc (.cells #[.int .i64 (r : Int), .int .i64 (cl : Int), .slice (some ⟨b, o, none⟩) nn cap] 58) = wB at *
  go_wp2
  go_loopw [7, 8] (fun so si wr => ∃ j : Nat, j ≤ cl ∧ si = .int .i64 (j : Int) ∧ wr.ownsRow wB.heap.size 2 1 so j (il RX j) ∧ Hid (Un d (c + cntV RO j) wB wr)) (fun _ si _ => cl - (intOf si).toNat)
  case atStart => exact ⟨0, by omega, rfl, World.ownsRow_nil _ _ _ _, by show Un d (c + 0) wB wB; rw [Int.add_zero]; exact U0.out⟩
  case round =>
    rename World => wo
    obtain ⟨j, hj, rfl, hown, hU⟩ := hrel
    have hwd : w.heap.size ≠ d := by omega
    have cC := hU.out.o ⟨w.heap.size, 1, none⟩ _ hwd HBx.out.2.1
    by_cases hlt : j < cl
    · have hjI : (j : Int) < (cl : Int) := by omega
      have hcr := cnt_rng RO j
      have HC : Hid (Un d (c + cntV RO j) wB wo ∧ wo.ownsRow wB.heap.size 2 1 u7 j (il RX j)) := ⟨hU.out, hown⟩
      have hsr : wB.heap.size ≤ wo.heap.size := hU.out.s
      have hdr : d < wo.heap.size := by omega
      obtain ⟨F, hF⟩ : ∃ F : Nat → Int, F = fun t => f (t * cl + j) := ⟨_, rfl⟩
      have HAF : Hid (∀ (i : Nat) (W : World), i < r → Below wo.heap.size wo W → Calls Tryd.prog 74 #[.agg #[.int .i64 (r : Int), .int .i64 (cl : Int), .slice (some ⟨b, o, none⟩) nn cap], .int .i64 (i : Int), .int .i64 (j : Int)] W fun e w' => e = .returned (.int .i64 (F i)) ∧ Below W.heap.size W w') := by
        intro i W h1 hb
        rw [hF]
        exact HAt.out i j W h1 hlt ((HA.out.un (fun a n' c' e _ => by cases e; exact nA) HC.out.1).later hb)
      have HFR : Hid (∀ i, i < r → -9223372036854775808 ≤ F i ∧ F i ≤ 9223372036854775807) := by
        intro i hi
        rw [hF]
        exact HFr.out _ (by rw [← HN.out]; exact vm_step i r cl j hi hlt)
      have CM : Hid (∀ (W : World) (vc : Value), Below wo.heap.size wo W → Ar W vc r F → Calls Tryd.prog 15 #[.pointer (some ⟨d, 0, none⟩), vx, vc] W fun e w' => e = .returned (.int .i64 (RX j)) ∧ Un d (c + cntV RO j + bi (RO j)) W w') := by
        intro W vc hb hA
        obtain ⟨rx, ro⟩ := HR.out j
        rw [← rx, ← ro, ← hF]
        exact udot_any vx vc r g F d (c + cntV RO j) (by omega) (by omega) (by omega) W ((HX.out.1.un HX.out.2 HC.out.1).later hb) hA (cell_later hb HC.out.1.c) (frozen_later hb HC.out.1.c HC.out.1.f)
      have cB0 := hU.out.o ⟨w.heap.size, 0, none⟩ _ hwd HBx.out.1
      have cB1 := hU.out.o ⟨w.heap.size, 1, none⟩ _ hwd HBx.out.2.1
      have cB2 := hU.out.o ⟨w.heap.size, 2, none⟩ _ hwd HBx.out.2.2
      have HBr : Hid (wo.cell? ⟨w.heap.size, 0, none⟩ = some (.int .i64 (r : Int)) ∧ wo.cell? ⟨w.heap.size, 1, none⟩ = some (.int .i64 (cl : Int)) ∧ wo.cell? ⟨w.heap.size, 2, none⟩ = some (.slice (some ⟨b, o, none⟩) nn cap)) := ⟨cB0, cB1, cB2⟩
      clear hF hU hown cB0 cB1 cB2
      go_wp2
      clear cC
      go_loopw [9, 10] (fun sc si wi => ∃ i : Nat, i ≤ r ∧ si = .int .i64 (i : Int) ∧ wi.ownsRow wo.heap.size 2 1 sc i (il F i) ∧ Hid (Below wo.heap.size wo wi)) (fun _ si _ => r - (intOf si).toNat)
      case atStart => exact ⟨0, by omega, rfl, World.ownsRow_nil _ _ _ _, Below.refl _ _⟩
      case round =>
        obtain ⟨i, hi2, rfl, hcol, hWi⟩ := hrel
        have cR : wr.cell? ⟨w.heap.size, 0, none⟩ = some (.int .i64 (r : Int)) := cell_later hWi.out HBr.out.1
        have cC : wr.cell? ⟨w.heap.size, 1, none⟩ = some (.int .i64 (cl : Int)) := cell_later hWi.out HBr.out.2.1
        have cA : wr.cell? ⟨w.heap.size, 2, none⟩ = some (.slice (some ⟨b, o, none⟩) nn cap) := cell_later hWi.out HBr.out.2.2
        by_cases hil : i < r
        · have hiI : (i : Int) < (r : Int) := by omega
          have HCol : Hid (wr.ownsRow wo.heap.size 2 1 u9 i (il F i)) := hcol
          clear hcol
          go_wp2_with fail
          refine (HAF.out i _ hil hWi.out).mono ?_
          rintro e w2 ⟨rfl, hb⟩
          have hcol2 : w2.ownsRow wo.heap.size 2 1 u9 i (il F i) := own_later HCol.out hb
          have HW2 : Hid (Below wo.heap.size wo w2) := bchain hWi.out hb
          have hsz : wo.heap.size ≤ w2.heap.size := HW2.out.size
          clear hb HCol hWi cR cC cA
          go_wp2_with (at_builtin; refine wpList_append_own _ rfl _ _ 38 rfl wo.heap.size 2 i0 (.int .i64 0) 1 8 Tryd.underlying38 hi hz0 hz1 hz2 rfl (by decide) _ _ _ rfl (hcol2.alloc _) ⟨w2.heap.size, 0, none⟩ 1 1 [.int .i64 (F i)] rfl rfl (cell_one_new _ _ _) (ints_oneCell .i64 [F i]) (by unfold maxLen; omega) (by omega) (by simp; omega) ?_; intro v' w3 hown' hgrow hnil)
          have hcol3 : w3.ownsRow wo.heap.size 2 1 v' (i + 1) (il F (i + 1)) := by rw [il_succ]; exact hown'
          have HW3 : Hid (Below wo.heap.size wo w3) := below_own HW2.out hsz hcol2 hgrow
          clear hown' hgrow hnil hcol2 HW2
          go_wp2
          go_roundw
          case rel => exact ⟨i + 1, by omega, by go_num, hcol3, HW3⟩
          case measure => simp [intOf]; omega
        · obtain rfl : i = r := by omega
          have HQ : Hid (Ar wr u9 i F) := (ar_of_own hcol (fun k hk => HFR.out k hk)).1
          have hii : ¬ (i : Int) < (i : Int) := by omega
          clear hcol cC cA
          go_wp2_with fail
          refine (CM.out _ _ hWi.out HQ.out).mono ?_
          rintro e w2 ⟨rfl, hU2⟩
          have HU1 : Hid (Un d (c + cntV RO j) wB wr) := HC.out.1.ahead hWi.out
          have hown2 : w2.ownsRow wB.heap.size 2 1 u7 j (il RX j) := own_un (own_later HC.out.2 hWi.out) hU2 (by omega)
          have HU2 : Hid (Un d (c + cntV RO (j + 1)) wB w2) := by
            have e : c + cntV RO (j + 1) = c + cntV RO j + bi (RO j) := by show c + (cntV RO j + bi (RO j)) = _; omega
            show Un _ _ _ _
            rw [e]
            exact HU1.out.chain hU2
          have hsz : wB.heap.size ≤ w2.heap.size := HU2.out.s
          clear hU2 HC CM cR HU1 HQ
          go_wp2_with (at_builtin; refine wpList_append_own _ rfl _ _ 38 rfl wB.heap.size 2 i0 (.int .i64 0) 1 8 Tryd.underlying38 hi hz0 hz1 hz2 rfl (by decide) _ _ _ rfl (hown2.alloc _) ⟨w2.heap.size, 0, none⟩ 1 1 [.int .i64 (RX j)] rfl rfl (cell_one_new _ _ _) (ints_oneCell .i64 [RX j]) (by unfold maxLen; omega) (by omega) (by simp; omega) ?_; intro v' w3 hown' hgrow hnil)
          have hown3 : w3.ownsRow wB.heap.size 2 1 v' (j + 1) (il RX (j + 1)) := by rw [il_succ]; exact hown'
          have HU3 : Hid (Un d (c + cntV RO (j + 1)) wB w3) := HU2.out.grow (by omega) hgrow (fun k hk => (hown2.lt k hk).1)
          clear hown' hgrow hnil hown2 HU2
          go_wp2
          go_roundw
          case rel => exact ⟨j + 1, by omega, by go_num, hown3, HU3⟩
          case measure => simp [intOf]; omega
    · obtain rfl : j = cl := by omega
      have HQ : Hid (Ar wo u7 j RX ∧ Ow wB.heap.size u7) := ar_of_own hown (fun k hk => HG.out k)
      have HE : Hid (Un d (c + cntV RO j) w wo) := Un.after HB.out hU.out
      have hjj : ¬ (j : Int) < (j : Int) := by omega
      clear hown hU
      go_wp2
      go_ret
      exact ⟨_, rfl, HQ.out.1, HQ.out.2.mono (by omega), HE.out⟩
end Go.Proofs.YtldnnjcfihjkdaaDoor
/-
  The contract of regattaref04's Means.
-/
set_option linter.unusedVariables false
set_option linter.unusedSimpArgs false
namespace Go.Proofs.YtldnnjcfihjkdaaDoor
open Go.RowKit

/-- A list of lists, apart from a block. -/
structure As (w : World) (d b o K n : Nat) (fs : Nat → Nat → Int) : Prop where
  c : ∀ k, k < K → ∃ va : Value, w.cell? ⟨b, o + k, none⟩ = some va ∧ Ar w va n (fs k) ∧ Nb va d
  a : b ≠ d
theorem As.un {w w' : World} {d b o K n : Nat} {fs : Nat → Nat → Int} {c : Int} (h : As w d b o K n fs) (hU : Un d c w w') : As w' d b o K n fs :=
  ⟨fun k hk => by obtain ⟨va, h1, h2, h3⟩ := h.c k hk; exact ⟨va, hU.o _ _ h.a h1, h2.un h3 hU, h3⟩, h.a⟩
theorem As.later {w w' : World} {d b o K n : Nat} {fs : Nat → Nat → Int} (h : As w d b o K n fs) (hb : Below w.heap.size w w') : As w' d b o K n fs :=
  ⟨fun k hk => by obtain ⟨va, h1, h2, h3⟩ := h.c k hk; exact ⟨va, cell_later hb h1, h2.later hb, h3⟩, h.a⟩
def msX (fs : Nat → Nat → Int) (K : Nat) (i : Nat) : Int := clv (quo (sumV (fun k => fs k i) K) (K : Int))
def msO (fs : Nat → Nat → Int) (K : Nat) (i : Nat) : Bool := ovv (quo (sumV (fun k => fs k i) K) (K : Int))
set_option maxRecDepth 100000 in
set_option maxHeartbeats 8000000 in
theorem umeans_any (b o cap K n : Nat) (fs : Nat → Nat → Int) (d : Nat) (c : Int) (hK : 1 ≤ K) (hK2 : K ≤ 1000) (hn : n ≤ 70000) (hcap : K ≤ cap) (hcap2 : cap ≤ maxLen) (c0 : 0 ≤ c) (c1 : c ≤ 900000000) (w : World) (hA : As w d b o K n fs) (hc : w.cell? ⟨d, 0, none⟩ = some (.int .i64 c)) (hf : w.frozen? ⟨d, 0, none⟩ = false) :
    Calls Tryd.prog 45 #[.pointer (some ⟨d, 0, none⟩), .slice (some ⟨b, o, none⟩) K cap] w fun e w' => ∃ v', e = .returned v' ∧ Ar w' v' n (msX fs K) ∧ Ow w.heap.size v' ∧ Un d (c + cntV (msO fs K) n) w w' := by
  obtain ⟨i0, hi, hz0, hz1, hz2⟩ := info_parts dinfo_i64
  have hd := World.block_lt_of_cell? _ _ hc
  have HA : Hid (As w d b o K n fs) := hA
  have U0 : Hid (Un d c w w) := Un.same hc hf
  clear hA hc hf
  have HG : Hid (∀ i, -9223372036854775808 ≤ msX fs K i ∧ msX fs K i ≤ 9223372036854775807) := fun i => by unfold msX; exact clv_rng _
  obtain ⟨RX, hRX⟩ : ∃ x, msX fs K = x := ⟨_, rfl⟩
  obtain ⟨RO, hRO⟩ : ∃ x, msO fs K = x := ⟨_, rfl⟩
  have HR : Hid (∀ i, clv (quo (sumV (fun k => fs k i) K) (K : Int)) = RX i ∧ ovv (quo (sumV (fun k => fs k i) K) (K : Int)) = RO i) := fun i => by rw [← hRX, ← hRO]; exact ⟨rfl, rfl⟩
  rw [hRX] at HG
  rw [hRX, hRO]
  clear hRX hRO
  unfold maxLen at hcap2
  have hKI : (0 : Int) < (K : Int) := by omega
  go_enter Tryd.func45, Tryd.ntmps45
  go_wp2
  go_loopw [5, 6] (fun so si wr => ∃ j : Nat, j ≤ n ∧ si = .int .i64 (j : Int) ∧ wr.ownsRow w.heap.size 2 1 so j (il RX j) ∧ Hid (Un d (c + cntV RO j) w wr)) (fun _ si _ => n - (intOf si).toNat)
  case atStart => exact ⟨0, by omega, rfl, World.ownsRow_nil _ _ _ _, by show Un d (c + 0) w w; rw [Int.add_zero]; exact U0.out⟩
  case round =>
    rename World => wo
    obtain ⟨j, hj, rfl, hown, hU⟩ := hrel
    have HAo : Hid (As wo d b o K n fs) := HA.out.un hU.out
    obtain ⟨va0, cF, aF, _⟩ := HAo.out.c 0 (by omega)
    rw [Nat.add_zero] at cF
    obtain ⟨ad0, cp0, _, _, rfl, _, _, _, _⟩ := aF
    by_cases hlt : j < n
    · have hjI : (j : Int) < (n : Int) := by omega
      have hcr := cnt_rng RO j
      have HC : Hid (Un d (c + cntV RO j) w wo ∧ wo.ownsRow w.heap.size 2 1 u5 j (il RX j)) := ⟨hU.out, hown⟩
      have hsr : w.heap.size ≤ wo.heap.size := hU.out.s
      have hdr : d < wo.heap.size := by omega
      obtain ⟨F, hF⟩ : ∃ F : Nat → Int, F = fun k => fs k j := ⟨_, rfl⟩
      have HFc : Hid (∀ (k : Nat) (W : World), k < K → Below wo.heap.size wo W → ∃ (bk ok ck : Nat), W.cell? ⟨b, o + k, none⟩ = some (.slice (some ⟨bk, ok, none⟩) n ck) ∧ W.cell? ⟨bk, ok + j, none⟩ = some (.int .i64 (F k))) := by
        intro k W h1 hb
        obtain ⟨va, h2, h3, _⟩ := HAo.out.c k h1
        obtain ⟨adr, cap', bk, ok, e1, _, _, e4, e5⟩ := h3
        have e6 := e4 (by omega)
        subst e6
        subst e1
        exact ⟨bk, ok, cap', cell_later hb h2, by rw [hF]; exact cell_later hb (e5 j hlt).1⟩
      have HFR : Hid (∀ k, k < K → -9223372036854775808 ≤ F k ∧ F k ≤ 9223372036854775807) := by
        intro k hk
        obtain ⟨va, h2, h3, _⟩ := HAo.out.c k hk
        obtain ⟨adr, cap', bk, ok, e1, _, _, e4, e5⟩ := h3
        rw [hF]
        exact (e5 j hlt).2
      have CM : Hid (∀ (W : World) (vc : Value), Below wo.heap.size wo W → Ar W vc K F → Calls Tryd.prog 19 #[.pointer (some ⟨d, 0, none⟩), vc] W fun e w' => e = .returned (.int .i64 (RX j)) ∧ Un d (c + cntV RO j + bi (RO j)) W w') := by
        intro W vc hb hA
        obtain ⟨rx, ro⟩ := HR.out j
        rw [← rx, ← ro, ← hF]
        exact umean_any vc K F d (c + cntV RO j) (by omega) (by omega) (by omega) (by omega) W hA (cell_later hb HC.out.1.c) (frozen_later hb HC.out.1.c HC.out.1.f)
      clear hF hU hown
      go_wp2
      clear cF
      go_loopw [7, 8] (fun sc si wi => ∃ i : Nat, i ≤ K ∧ si = .int .i64 (i : Int) ∧ wi.ownsRow wo.heap.size 2 1 sc i (il F i) ∧ Hid (Below wo.heap.size wo wi)) (fun _ si _ => K - (intOf si).toNat)
      case atStart => exact ⟨0, by omega, rfl, World.ownsRow_nil _ _ _ _, Below.refl _ _⟩
      case round =>
        obtain ⟨i, hi2, rfl, hcol, hWi⟩ := hrel
        by_cases hil : i < K
        · have hiI : (i : Int) < (K : Int) := by omega
          obtain ⟨bk, ok, ck, cK, cE'⟩ := HFc.out i wr hil hWi.out
          have hsz : wo.heap.size ≤ wr.heap.size := hWi.out.size
          go_wp2_with (at_builtin; refine wpList_append_own _ rfl _ _ 38 rfl wo.heap.size 2 i0 (.int .i64 0) 1 8 Tryd.underlying38 hi hz0 hz1 hz2 rfl (by decide) _ _ _ rfl (hcol.alloc _) ⟨wr.heap.size, 0, none⟩ 1 1 [.int .i64 (F i)] rfl rfl (cell_one_new _ _ _) (ints_oneCell .i64 [F i]) (by unfold maxLen; omega) (by omega) (by simp; omega) ?_; intro v' w3 hown' hgrow hnil)
          have hcol3 : w3.ownsRow wo.heap.size 2 1 v' (i + 1) (il F (i + 1)) := by rw [il_succ]; exact hown'
          have HW3 : Hid (Below wo.heap.size wo w3) := below_own hWi.out hsz hcol hgrow
          clear hown' hgrow hnil hcol hWi cK cE'
          go_wp2
          go_roundw
          case rel => exact ⟨i + 1, by omega, by go_num, hcol3, HW3⟩
          case measure => simp [intOf]; omega
        · obtain rfl : i = K := by omega
          have HQ : Hid (Ar wr u7 i F) := (ar_of_own hcol (fun k hk => HFR.out k hk)).1
          have hii : ¬ (i : Int) < (i : Int) := by omega
          clear hcol
          go_wp2_with fail
          refine (CM.out _ _ hWi.out HQ.out).mono ?_
          rintro e w2 ⟨rfl, hU2⟩
          have HU1 : Hid (Un d (c + cntV RO j) w wr) := HC.out.1.ahead hWi.out
          have hown2 : w2.ownsRow w.heap.size 2 1 u5 j (il RX j) := own_un (own_later HC.out.2 hWi.out) hU2 (by omega)
          have HU2 : Hid (Un d (c + cntV RO (j + 1)) w w2) := by
            have e : c + cntV RO (j + 1) = c + cntV RO j + bi (RO j) := by show c + (cntV RO j + bi (RO j)) = _; omega
            show Un _ _ _ _
            rw [e]
            exact HU1.out.chain hU2
          have hsz : w.heap.size ≤ w2.heap.size := HU2.out.s
          clear hU2 HC CM HU1 HQ
          go_wp2_with (at_builtin; refine wpList_append_own _ rfl _ _ 38 rfl w.heap.size 2 i0 (.int .i64 0) 1 8 Tryd.underlying38 hi hz0 hz1 hz2 rfl (by decide) _ _ _ rfl (hown2.alloc _) ⟨w2.heap.size, 0, none⟩ 1 1 [.int .i64 (RX j)] rfl rfl (cell_one_new _ _ _) (ints_oneCell .i64 [RX j]) (by unfold maxLen; omega) (by omega) (by simp; omega) ?_; intro v' w3 hown' hgrow hnil)
          have hown3 : w3.ownsRow w.heap.size 2 1 v' (j + 1) (il RX (j + 1)) := by rw [il_succ]; exact hown'
          have HU3 : Hid (Un d (c + cntV RO (j + 1)) w w3) := HU2.out.grow (by omega) hgrow (fun k hk => (hown2.lt k hk).1)
          clear hown' hgrow hnil hown2 HU2
          go_wp2
          go_roundw
          case rel => exact ⟨j + 1, by omega, by go_num, hown3, HU3⟩
          case measure => simp [intOf]; omega
    · obtain rfl : j = n := by omega
      have HQ : Hid (Ar wo u5 j RX ∧ Ow w.heap.size u5) := ar_of_own hown (fun k hk => HG.out k)
      have hjj : ¬ (j : Int) < (j : Int) := by omega
      clear hown
      go_wp2
      go_ret
      exact ⟨_, rfl, HQ.out.1, HQ.out.2, hU.out⟩
end Go.Proofs.YtldnnjcfihjkdaaDoor
/-
  The contract of regattaref04's Right.
-/
set_option linter.unusedVariables false
set_option linter.unusedSimpArgs false
namespace Go.Proofs.YtldnnjcfihjkdaaDoor
open Go.RowKit

/-- Whether a matrix is right. -/
def mtB (r c : Int) (n : Nat) : Bool := decide (1 ≤ r) && decide (1 ≤ c) && decide (r ≤ 65536) && decide (c ≤ 65536) && decide (r * c ≤ 65536) && decide ((n : Int) = r * c)
set_option maxHeartbeats 4000000 in
theorem right_any (r c : Int) (r0 : -9223372036854775808 ≤ r) (r1 : r ≤ 9223372036854775807) (c0 : -9223372036854775808 ≤ c) (c1 : c ≤ 9223372036854775807) (adr : Option Addr) (n cap : Nat) (hn : n ≤ 9223372036854775807) (w : World) :
    Calls Tryd.prog 33 #[.agg #[.int .i64 r, .int .i64 c, .slice adr n cap]] w fun e w' => e = .returned (.bool (mtB r c n)) ∧ Below w.heap.size w w' := by
  have hB : Hid (Below w.heap.size w _) := bel1' w (.cells #[.int .i64 r, .int .i64 c, .slice adr n cap] 58)
  obtain ⟨R, hR⟩ : ∃ R, mtB r c n = R := ⟨_, rfl⟩
  have HR : Hid (mtB r c n = R) := hR
  rw [hR]
  clear hR
  by_cases h1 : r < 1
  · have HF : Hid (R = false) := by show _ = _; rw [← HR.out]; unfold mtB; simp; omega
    clear HR
    go_enter Tryd.func33, Tryd.ntmps33
    go_wp2
    go_ret
    exact ⟨by rw [HF.out]; rfl, hB.out⟩
  by_cases h2 : c < 1
  · have HF : Hid (R = false) := by show _ = _; rw [← HR.out]; unfold mtB; simp; omega
    clear HR
    go_enter Tryd.func33, Tryd.ntmps33
    go_wp2
    go_ret
    exact ⟨by rw [HF.out]; rfl, hB.out⟩
  by_cases h3 : 65536 < r
  · have HF : Hid (R = false) := by show _ = _; rw [← HR.out]; unfold mtB; simp; omega
    clear HR
    go_enter Tryd.func33, Tryd.ntmps33
    go_wp2
    go_ret
    exact ⟨by rw [HF.out]; rfl, hB.out⟩
  by_cases h4 : 65536 < c
  · have HF : Hid (R = false) := by show _ = _; rw [← HR.out]; unfold mtB; simp; omega
    clear HR
    go_enter Tryd.func33, Tryd.ntmps33
    go_wp2
    go_ret
    exact ⟨by rw [HF.out]; rfl, hB.out⟩
  have hp : 0 ≤ r * c ∧ r * c ≤ 4294967296 := by
    have g1 := Int.mul_nonneg (show 0 ≤ r by omega) (show 0 ≤ c by omega)
    have g2 := Int.mul_le_mul (show r ≤ 65536 by omega) (show c ≤ 65536 by omega) (show 0 ≤ c by omega) (show (0 : Int) ≤ 65536 by omega)
    omega
  obtain ⟨P, hP⟩ : ∃ P, r * c = P := ⟨_, rfl⟩
  rw [hP] at hp
  have HR2 : Hid (R = (decide (P ≤ 65536) && decide ((n : Int) = P))) := by
    show _ = _
    rw [← HR.out]
    unfold mtB
    rw [hP, decide_eq_true (show 1 ≤ r by omega), decide_eq_true (show 1 ≤ c by omega), decide_eq_true (show r ≤ 65536 by omega), decide_eq_true (show c ≤ 65536 by omega)]
    rfl
  clear HR
  by_cases h5 : P ≤ 65536
  · by_cases h6 : (n : Int) = P
    · have HF : Hid (R = true) := by show _ = _; rw [HR2.out]; simp [h5, h6]
      have h7 : ((n : Int) == P) = true := by simpa using h6
      clear HR2 h6
      go_enter Tryd.func33, Tryd.ntmps33
      go_wp2
      go_ret
      exact ⟨by rw [HF.out]; first | rfl | simp, hB.out⟩
    · have HF : Hid (R = false) := by show _ = _; rw [HR2.out]; simp [h6]
      have h7 : ((n : Int) == P) = false := by simpa using h6
      clear HR2 h6
      go_enter Tryd.func33, Tryd.ntmps33
      go_wp2
      go_ret
      exact ⟨by rw [HF.out]; first | rfl | simp, hB.out⟩
  · have HF : Hid (R = false) := by show _ = _; rw [HR2.out]; simp [h5]
    clear HR2
    go_enter Tryd.func33, Tryd.ntmps33
    go_wp2
    go_ret
    exact ⟨by rw [HF.out]; first | rfl | simp, hB.out⟩
end Go.Proofs.YtldnnjcfihjkdaaDoor
/-
  The contract of the laws' mat.
-/
set_option linter.unusedVariables false
set_option linter.unusedSimpArgs false
namespace Go.Proofs.YtldnnjcfihjkdaaDoor
open Go.RowKit

/-- A matrix's block: three cells. -/
structure M3 (b : Nat) (x y z : Value) (w : World) : Prop where
  c0 : w.cell? ⟨b, 0, none⟩ = some x
  c1 : w.cell? ⟨b, 1, none⟩ = some y
  c2 : w.cell? ⟨b, 2, none⟩ = some z
  f0 : w.frozen? ⟨b, 0, none⟩ = false
  f1 : w.frozen? ⟨b, 1, none⟩ = false
  f2 : w.frozen? ⟨b, 2, none⟩ = false
theorem M3.later {b : Nat} {x y z : Value} {w w' : World} (h : M3 b x y z w) (hb : Below w.heap.size w w') : M3 b x y z w' :=
  ⟨cell_later hb h.c0, cell_later hb h.c1, cell_later hb h.c2, frozen_later hb h.c0 h.f0, frozen_later hb h.c1 h.f1, frozen_later hb h.c2 h.f2⟩
theorem M3.lt {b : Nat} {x y z : Value} {w : World} (h : M3 b x y z w) : b < w.heap.size := World.block_lt_of_cell? _ _ h.c0
theorem M3.new (w : World) (x y z : Value) (t : TypeId) : M3 w.heap.size x y z (w.alloc (.cells #[x, y, z] t)) :=
  ⟨by simp [go_sem], by simp [go_sem], by simp [go_sem], by simp [go_sem], by simp [go_sem], by simp [go_sem]⟩
theorem M3.far {b : Nat} {x y z : Value} {w : World} {p : Addr} (h : M3 b x y z w) (u : Value) (hp : p.block ≠ b) : M3 b x y z (w.setCell p u) :=
  ⟨cell_set hp h.c0, cell_set hp h.c1, cell_set hp h.c2, by rw [World.frozen?_setCell]; exact h.f0, by rw [World.frozen?_setCell]; exact h.f1, by rw [World.frozen?_setCell]; exact h.f2⟩
theorem M3.all {b : Nat} {x y z : Value} {w : World} (h : M3 b x y z w) (x' y' z' : Value) : M3 b x' y' z' (((w.setCell ⟨b, 0, none⟩ x').setCell ⟨b, 1, none⟩ y').setCell ⟨b, 2, none⟩ z') := by
  have c0 := h.c0
  have c1 := h.c1
  have c2 := h.c2
  have f0 := h.f0
  have f1 := h.f1
  have f2 := h.f2
  refine ⟨?_, ?_, ?_, ?_, ?_, ?_⟩ <;> simp [go_sem, c0, c1, c2, f0, f1, f2]
theorem Ar.set {w : World} {v : Value} {n : Nat} {f : Nat → Int} {p : Addr} (h : Ar w v n f) (hd : Nb v p.block) (u : Value) : Ar (w.setCell p u) v n f := by
  obtain ⟨adr, cap, b, o, h1, h2, h3, h4, h5⟩ := h
  refine ⟨adr, cap, b, o, h1, h2, h3, h4, fun k hk => ⟨?_, (h5 k hk).2⟩⟩
  have e := h4 (by omega)
  subst e
  subst h1
  exact cell_set (fun e => hd _ _ _ rfl (by omega) e.symm) (h5 k hk).1
theorem below_set3 {base : Nat} {w w' : World} {b : Nat} (h : Below base w w') (hb : base ≤ b) (x y z : Value) : Below base w (((w'.setCell ⟨b, 0, none⟩ x).setCell ⟨b, 1, none⟩ y).setCell ⟨b, 2, none⟩ z) :=
  ((h.setCell (by dsimp only; omega) _).setCell (by dsimp only; omega) _).setCell (by dsimp only; omega) _
set_option maxRecDepth 100000 in
set_option maxHeartbeats 4000000 in
theorem mat_any (r c : Int) (va : Value) (n : Nat) (f : Nat → Int) (hn : n ≤ 70000) (w : World) (hA : Ar w va n f) :
    Calls Tryd.prog 31 #[.agg #[.int .i64 r, .int .i64 c, va]] w fun e w' => ∃ v', e = .returned (.agg #[.int .i64 r, .int .i64 c, v']) ∧ Ar w' v' n f ∧ Ow w.heap.size v' ∧ Below w.heap.size w w' := by
  obtain ⟨adr, cap, b, o, rfl, -, -, -, -⟩ := id hA
  have HA : Hid (Ar w (.slice adr n cap) n f) := hA
  clear hA
  go_enter Tryd.func31, Tryd.ntmps31
  go_upto_region 1 with fail
  have D0 := (M3.new w (.int .i64 r) (.int .i64 c) (.slice adr n cap) 56).later (bel1' _ (.cells #[.int .i64 0, .int .i64 0, .slice none 0 0] 58))
  have D1 := M3.new (w.alloc (.cells #[.int .i64 r, .int .i64 c, .slice adr n cap] 56)) (.int .i64 0) (.int .i64 0) (.slice none 0 0) 58
  rw [alloc_size_eq] at D1
  have W2 := bchain (bel1' w (.cells #[.int .i64 r, .int .i64 c, .slice adr n cap] 56)) (bel1' _ (.cells #[.int .i64 0, .int .i64 0, .slice none 0 0] 58))
  generalize ((w.alloc (.cells #[.int .i64 r, .int .i64 c, .slice adr n cap] 56)).alloc (.cells #[.int .i64 0, .int .i64 0, .slice none 0 0] 58)) = w2 at *
  have hdr : Below w2.heap.size w2 w2.drew := (Below.refl _ _).drew
  have HD : Hid (M3 w.heap.size (.int .i64 r) (.int .i64 c) (.slice adr n cap) w2.drew ∧ M3 (w.heap.size + 1) (.int .i64 0) (.int .i64 0) (.slice none 0 0) w2.drew) := ⟨D0.later hdr, D1.later hdr⟩
  have HW : Hid (Below w.heap.size w w2.drew) := bchain W2 hdr
  have CC := HD.out.1.c0
  have C1 := HD.out.1.c1
  have C2 := HD.out.1.c2
  clear D0 D1 W2 hdr
  go_region_held3 (fun w' => w'.cell? ⟨w.heap.size, 0, none⟩ = some (.int .i64 r) ∧ w'.cell? ⟨w.heap.size, 1, none⟩ = some (.int .i64 c) ∧ w'.cell? ⟨w.heap.size, 2, none⟩ = some (.slice adr n cap)) (first | exact ⟨HD.out.1.c0, HD.out.1.c1, HD.out.1.c2⟩ | exact ⟨(((HD.out.1.far _ (by simp)).far _ (by simp)).far _ (by simp)).c0, (((HD.out.1.far _ (by simp)).far _ (by simp)).far _ (by simp)).c1, (((HD.out.1.far _ (by simp)).far _ (by simp)).far _ (by simp)).c2⟩) (first
    | (go_at_call 13; refine (plain_any (.slice adr n cap) n f hn _ (HA.out.later HW.out)).mono ?_; rintro e wz ⟨vz, rfl, AZ, OZ, hb⟩; obtain ⟨az, cz, bz, oz, rfl, -, -, -, -⟩ := id AZ; have HD2 := HD.out.1.later hb; have HE2 := HD.out.2.later hb; have HW2 : Hid (Below w.heap.size w wz) := bchain HW.out hb; have HZ : Hid (Ar wz (.slice az n cz) n f ∧ Nb (.slice az n cz) (w.heap.size + 1) ∧ Ow w.heap.size (.slice az n cz)) := ⟨AZ, OZ.nb HD.out.2.lt, OZ.mono HW.out.size⟩; clear HD; have HD : Hid (M3 w.heap.size (.int .i64 r) (.int .i64 c) (.slice adr n cap) wz ∧ M3 (w.heap.size + 1) (.int .i64 0) (.int .i64 0) (.slice none 0 0) wz) := ⟨HD2, HE2⟩; have z0 := HE2.c0; have z1 := HE2.c1; have z2 := HE2.c2; have y0 := HE2.f0; have y1 := HE2.f1; have y2 := HE2.f2; clear HD2 HE2 hb AZ OZ HW CC C1 C2))
  all_goals
    have D9 := HD.out.2.all (.int .i64 r) (.int .i64 c) (.slice az n cz)
    have W9 : Hid (Below w.heap.size w _) := below_set3 (b := w.heap.size + 1) HW2.out (by omega) (.int .i64 r) (.int .i64 c) (.slice az n cz)
    have A9 : Hid (Ar _ (.slice az n cz) n f) := ((HZ.out.1.set (p := ⟨w.heap.size + 1, 0, none⟩) HZ.out.2.1 (.int .i64 r)).set (p := ⟨w.heap.size + 1, 1, none⟩) HZ.out.2.1 (.int .i64 c)).set (p := ⟨w.heap.size + 1, 2, none⟩) HZ.out.2.1 (.slice az n cz)
    have O9 : Hid (Ow w.heap.size (.slice az n cz)) := HZ.out.2.2
    clear z0 z1 z2 y0 y1 y2 HD HW2 HZ
    generalize (((wz.setCell ⟨w.heap.size + 1, 0, none⟩ (.int .i64 r)).setCell ⟨w.heap.size + 1, 1, none⟩ (.int .i64 c)).setCell ⟨w.heap.size + 1, 2, none⟩ (.slice az n cz)) = w9 at *
    have z0 := D9.c0
    have z1 := D9.c1
    have z2 := D9.c2
    clear D9
    go_wp2
    exact bodyPost_ret (v := .agg #[.int .i64 r, .int .i64 c, .slice az n cz]) (by simp [results, Tryd.results31, go_sem, z0, z1, z2]) rfl ⟨_, rfl, A9.out, O9.out, W9.out⟩
end Go.Proofs.YtldnnjcfihjkdaaDoor
/-
  The contract of regattaref04's Outer.
-/
set_option linter.unusedVariables false
set_option linter.unusedSimpArgs false
namespace Go.Proofs.YtldnnjcfihjkdaaDoor
open Go.RowKit

def otX (f g : Nat → Int) (m : Nat) (k : Nat) : Int := clv (rnd (f (k / m) * g (k % m)) 32)
def otN (f g : Nat → Int) (m : Nat) : Nat → Int
  | 0 => 0
  | i + 1 => otN f g m i + cntV (fun k => ovv (rnd (f i * g k) 32)) m
theorem ot_rng (f g : Nat → Int) (m : Nat) (i : Nat) : 0 ≤ otN f g m i ∧ otN f g m i ≤ ((i * m : Nat) : Int) := by
  induction i with
  | zero => simp [otN]
  | succ i ih =>
    have h := cnt_rng (fun k => ovv (rnd (f i * g k) 32)) m
    rw [Nat.add_mul, Nat.one_mul]
    show 0 ≤ otN f g m i + cntV _ m ∧ otN f g m i + cntV _ m ≤ _
    rw [Int.natCast_add]
    omega
theorem ot_il (f g : Nat → Int) (m j : Nat) : il (otX f g m) (j * m) ++ il (fun k => clv (rnd (f j * g k) 32)) m = il (otX f g m) (j * m + m) := by
  unfold il
  rw [List.range_add, List.map_append, List.map_map]
  congr 1
  apply List.map_congr_left
  intro k hk
  have hk := List.mem_range.1 hk
  show _ = Value.int .i64 (otX f g m (j * m + k))
  unfold otX
  rw [show (j * m + k) / m = j by rw [Nat.mul_comm, Nat.mul_add_div (by omega), Nat.div_eq_of_lt hk, Nat.add_zero], show (j * m + k) % m = k by rw [Nat.mul_comm, Nat.mul_add_mod, Nat.mod_eq_of_lt hk]]
theorem il_one (f : Nat → Int) (n : Nat) : ∀ u ∈ il f n, u.oneCell' = true := by
  intro u hu
  unfold il at hu
  obtain ⟨k, _, rfl⟩ := List.mem_map.1 hu
  rfl
theorem Un.setFar {d : Nat} {c : Int} {w wr : World} {p : Addr} (h : Un d c w wr) (hd : d < w.heap.size) (hp : w.heap.size ≤ p.block) (u : Value) : Un d c w (wr.setCell p u) := by
  have blk : ∀ i, i < w.heap.size → (wr.setCell p u).heap[i]? = wr.heap[i]? := fun i hi => Below.heap_setCell _ _ _ _ (by omega)
  refine ⟨(World.cell?_of_block (w := wr) (blk d hd)).trans h.c, (World.frozen?_of_block (w := wr) (blk d hd)).trans h.f, ?_, ?_, ?_, ?_⟩
  · intro base w0 h1 h2 h3
    exact (h.b base w0 h1 h2 h3).setCell (by omega) u
  · intro a v ha hc
    have hb := World.block_lt_of_cell? _ _ hc
    exact (World.cell?_of_block (w := wr) (blk a.block hb)).trans (h.o a v ha hc)
  · have := h.s
    simp [World.setCell]
    omega
  · intro i hi hn
    exact (blk i hi).trans (h.k i hi hn)
theorem own_set {wr : World} {B : Nat} {e : TypeId} {s : Nat} {v : Value} {n : Nat} {xs : List Value} {p : Addr} (h : wr.ownsRow B e s v n xs) (hp : p.block < B) (u : Value) : (wr.setCell p u).ownsRow B e s v n xs := by
  refine ⟨h.1, ?_⟩
  rcases h.2 with h0 | ⟨g, cap, cur, hv, hg, hh, r⟩
  · exact Or.inl h0
  · exact Or.inr ⟨g, cap, cur, hv, hg, (Below.heap_setCell _ _ _ _ (by omega)).trans hh, r⟩
theorem M3.block {b : Nat} {x y z : Value} {w w' : World} (h : M3 b x y z w) (e : w'.heap[b]? = w.heap[b]?) : M3 b x y z w' :=
  ⟨(World.cell?_of_block (w := w) e).trans h.c0, (World.cell?_of_block (w := w) e).trans h.c1, (World.cell?_of_block (w := w) e).trans h.c2, (World.frozen?_of_block (w := w) e).trans h.f0, (World.frozen?_of_block (w := w) e).trans h.f1, (World.frozen?_of_block (w := w) e).trans h.f2⟩
theorem M3.un {b : Nat} {x y z : Value} {w w' : World} {d : Nat} {c : Int} (h : M3 b x y z w) (hU : Un d c w w') (hb : b ≠ d) : M3 b x y z w' := h.block (hU.k b h.lt hb)
theorem Un.growN {d : Nat} {c : Int} {w wr w1 : World} {r : Option Nat} (hU : Un d c w wr) (hd : d < w.heap.size) (hg : wr.grownBy w1 r) (hr : ∀ k, r = some k → w.heap.size ≤ k) : Un d c w w1 := by
  have hs := hU.s
  have blk : ∀ i, i < w.heap.size → w1.heap[i]? = wr.heap[i]? := fun i hi => hg.block i (by omega) (fun e => by have := hr i e.symm; omega)
  refine ⟨(World.cell?_of_block (w := wr) (blk d hd)).trans hU.c, (World.frozen?_of_block (w := wr) (blk d hd)).trans hU.f, ?_, ?_, ?_, ?_⟩
  · intro base w0 h1 h2 h3
    exact (hU.b base w0 h1 h2 h3).grown hg (by omega) (fun k hk => by have := hr k hk; omega)
  · intro a v ha hc
    have hb := World.block_lt_of_cell? _ _ hc
    exact (World.cell?_of_block (w := wr) (blk a.block hb)).trans (hU.o a v ha hc)
  · have := hg.size
    omega
  · intro i hi hn
    exact (blk i hi).trans (hU.k i hi hn)
theorem ar_news {w : World} {b o n cap : Nat} {f : Nat → Int} (h : Ar w (.slice (some ⟨b, o, none⟩) n cap) n f) (hn : 0 < n) : ∀ (j : Nat) (u : Value), (il f n)[j]? = some u → w.cell? ((⟨b, o, none⟩ : Addr).add j) = some u := by
  intro j u hu
  obtain ⟨adr, cap', b', o', e, h2, h3, h4, h5⟩ := h
  cases e
  have e2 := h4 hn
  cases e2
  have hj : j < n := by
    have := (List.getElem?_eq_some_iff.1 hu).1
    rw [il_len] at this
    exact this
  rw [il_get f n j hj] at hu
  cases hu
  have e3 : (⟨b, o, none⟩ : Addr).add j = ⟨b, o + j, none⟩ := by
    unfold Addr.add
    split
    · subst j; rfl
    · rfl
  rw [e3]
  exact (h5 j hj).1
end Go.Proofs.YtldnnjcfihjkdaaDoor
/-
  The contract of regattaref04's Outer: its walk.
-/
set_option linter.unusedVariables false
set_option linter.unusedSimpArgs false
namespace Go.Proofs.YtldnnjcfihjkdaaDoor
open Go.RowKit
attribute [local go_sem ↓] Go.wp_at_zero Go.wp_at_succ

theorem own_slice {w : World} {B : Nat} {e : TypeId} {s : Nat} {v : Value} {n : Nat} {xs : List Value} (h : w.ownsRow B e s v n xs) : ∃ a l k, v = .slice a l k := by
  rcases h.2 with ⟨h0, _⟩ | ⟨g, cap, cur, hv, _⟩
  · exact ⟨_, _, _, h0⟩
  · exact ⟨_, _, _, hv⟩
theorem ot_next {f g : Nat → Int} {m j d : Nat} {c : Int} {w wa wz : World} {x y z x' y' z' : Value} (h : Un d (c + otN f g m j) w wa ∧ M3 w.heap.size x y z wa ∧ M3 (w.heap.size + 1) x' y' z' wa) (hU : Un d (c + otN f g m j + cntV (fun k => ovv (rnd (f j * g k) 32)) m) wa wz) (hd : d < w.heap.size) : Un d (c + otN f g m (j + 1)) w wz ∧ M3 w.heap.size x y z wz ∧ M3 (w.heap.size + 1) x' y' z' wz := by
  refine ⟨?_, h.2.1.un hU (by omega), h.2.2.un hU (by omega)⟩
  have e : c + otN f g m (j + 1) = c + otN f g m j + cntV (fun k => ovv (rnd (f j * g k) 32)) m := by show c + (otN f g m j + cntV _ m) = _; omega
  rw [e]
  exact h.1.chain hU
theorem ot_grow {d : Nat} {c : Int} {w wa wz : World} {x y z x' y' z' : Value} {e : TypeId} {s n : Nat} {v : Value} {xs : List Value} (h : Un d c w wa ∧ M3 w.heap.size x y z wa ∧ M3 (w.heap.size + 1) x' y' z' wa) (hown : wa.ownsRow (w.heap.size + 2) e s v n xs) (hg : wa.grownBy wz v.ownBlock) (hd : d < w.heap.size) : Un d c w wz ∧ M3 w.heap.size x y z wz ∧ M3 (w.heap.size + 1) x' y' z' wz := by
  have hr : ∀ k, v.ownBlock = some k → w.heap.size + 2 ≤ k := fun k hk => (hown.lt k hk).1
  exact ⟨h.1.growN hd hg (fun k hk => by have := hr k hk; omega), h.2.1.block (hg.block _ h.2.1.lt (fun e => by have := hr _ e.symm; omega)), h.2.2.block (hg.block _ h.2.2.lt (fun e => by have := hr _ e.symm; omega))⟩
theorem ot_put {d : Nat} {c : Int} {w wa : World} {x y z x' y' z' : Value} (h : Un d c w wa ∧ M3 w.heap.size x y z wa ∧ M3 (w.heap.size + 1) x' y' z' wa) (hd : d < w.heap.size) (u : Value) : Un d c w (wa.setCell ⟨w.heap.size + 1, 2, none⟩ u) ∧ M3 w.heap.size x y z (wa.setCell ⟨w.heap.size + 1, 2, none⟩ u) ∧ M3 (w.heap.size + 1) x' y' u (wa.setCell ⟨w.heap.size + 1, 2, none⟩ u) := by
  refine ⟨h.1.setFar hd (by dsimp only; omega) u, h.2.1.far u (by dsimp only; omega), ?_⟩
  obtain ⟨c0, c1, c2, f0, f1, f2⟩ := h.2.2
  refine ⟨?_, ?_, ?_, ?_, ?_, ?_⟩ <;> simp [go_sem, c0, c1, c2, f0, f1, f2]
set_option maxRecDepth 100000 in
set_option maxHeartbeats 8000000 in
theorem uouter_any (va vb : Value) (n m : Nat) (f g : Nat → Int) (d : Nat) (c : Int) (hn0 : 1 ≤ n) (hm0 : 1 ≤ m) (hn : n ≤ 70000) (hm : m ≤ 70000) (hnm : n * m ≤ 70000) (c0 : 0 ≤ c) (c1 : c ≤ 800000000) (w : World) (hA : Ar w va n f) (hB : Ar w vb m g) (nA : Nb va d) (nB : Nb vb d) (hc : w.cell? ⟨d, 0, none⟩ = some (.int .i64 c)) (hf : w.frozen? ⟨d, 0, none⟩ = false) :
    Calls Tryd.prog 39 #[.pointer (some ⟨d, 0, none⟩), va, vb] w fun e w' => ∃ v', e = .returned (.agg #[.int .i64 (n : Int), .int .i64 (m : Int), v']) ∧ Ar w' v' (n * m) (otX f g m) ∧ Ow w.heap.size v' ∧ Un d (c + otN f g m n) w w' := by
  obtain ⟨i0, hi, hz0, hz1, hz2⟩ := info_parts dinfo_i64
  have hd := World.block_lt_of_cell? _ _ hc
  have HB : Hid (Ar w vb m g ∧ Nb vb d) := ⟨hB, nB⟩
  obtain ⟨adq, caq, bq, oq, rfl, q1, q2, -, -⟩ := hB
  obtain ⟨adr, cap, b, o, rfl, x1, x2, x3, x4⟩ := hA
  unfold maxLen at x2 q2
  have HA : Hid (∀ j, j < n → adr = some ⟨b, o, none⟩ ∧ b ≠ d ∧ w.cell? ⟨b, o + j, none⟩ = some (.int .i64 (f j)) ∧ -9223372036854775808 ≤ f j ∧ f j ≤ 9223372036854775807) := fun j hj => by
    have e := x3 (by omega)
    refine ⟨e, ?_, x4 j hj⟩
    subst e
    exact nA _ _ _ rfl (by omega)
  have U0 : Hid (Un d c w w) := Un.same hc hf
  clear x3 x4 nA nB hc hf
  have HG : Hid (∀ i, -9223372036854775808 ≤ otX f g m i ∧ otX f g m i ≤ 9223372036854775807) := fun i => by unfold otX; exact clv_rng _
  go_enter Tryd.func39, Tryd.ntmps39
  go_upto_region 2 with fail
  have D0 := (M3.new w (.int .i64 0) (.int .i64 0) (.slice none 0 0) 58).later (bel1' _ (.cells #[.int .i64 (n : Int), .int .i64 (m : Int), .slice none 0 0] 58))
  have D1 := M3.new (w.alloc (.cells #[.int .i64 0, .int .i64 0, .slice none 0 0] 58)) (.int .i64 (n : Int)) (.int .i64 (m : Int)) (.slice none 0 0) 58
  rw [alloc_size_eq] at D1
  have W2 := bchain (bel1' w (.cells #[.int .i64 0, .int .i64 0, .slice none 0 0] 58)) (bel1' _ (.cells #[.int .i64 (n : Int), .int .i64 (m : Int), .slice none 0 0] 58))
  have U2 : Hid (Un d c w _) := U0.out.ahead W2
  generalize ((w.alloc (.cells #[.int .i64 0, .int .i64 0, .slice none 0 0] 58)).alloc (.cells #[.int .i64 (n : Int), .int .i64 (m : Int), .slice none 0 0] 58)) = w2 at *
  have HD : Hid (M3 w.heap.size (.int .i64 0) (.int .i64 0) (.slice none 0 0) w2 ∧ M3 (w.heap.size + 1) (.int .i64 (n : Int)) (.int .i64 (m : Int)) (.slice none 0 0) w2) := ⟨D0, D1⟩
  clear D0 D1 W2 U0
  go_wp2
  go_loopw [8] (fun si wr => ∃ (j : Nat) (vA : Value), j ≤ n ∧ si = .int .i64 (j : Int) ∧ wr.ownsRow (w.heap.size + 2) 2 1 vA (j * m) (il (otX f g m) (j * m)) ∧ Hid (Un d (c + otN f g m j) w wr ∧ M3 w.heap.size (.int .i64 0) (.int .i64 0) (.slice none 0 0) wr ∧ M3 (w.heap.size + 1) (.int .i64 (n : Int)) (.int .i64 (m : Int)) vA wr)) (fun si _ => n - (intOf si).toNat)
  case atStart => exact ⟨0, .slice none 0 0, by omega, rfl, by rw [Nat.zero_mul]; exact World.ownsRow_nil _ _ _ _, by show Un d (c + 0) w w2; rw [Int.add_zero]; exact U2.out, HD.out.1, HD.out.2⟩
  case round =>
    obtain ⟨j, vA, hj, rfl, hown, hU⟩ := hrel
    by_cases hlt : j < n
    · have hjI : (j : Int) < (n : Int) := by omega
      obtain ⟨ea, na, ca, a0, a1⟩ := HA.out j hlt
      subst ea
      have hcr := ot_rng f g m j
      have hst := mv_step j n m hlt
      have hjm : (((j * m : Nat) : Nat) : Int) ≤ 70000 := by omega
      have hdr : Below wr.heap.size wr wr.drew := (Below.refl _ _).drew
      have HC : Hid (Un d (c + otN f g m j) w wr.drew ∧ M3 w.heap.size (.int .i64 0) (.int .i64 0) (.slice none 0 0) wr.drew ∧ M3 (w.heap.size + 1) (.int .i64 (n : Int)) (.int .i64 (m : Int)) vA wr.drew) := ⟨hU.out.1.ahead hdr, hU.out.2.1.later hdr, hU.out.2.2.later hdr⟩
      have HO : Hid (wr.drew.ownsRow (w.heap.size + 2) 2 1 vA (j * m) (il (otX f g m) (j * m))) := own_later hown hdr
      have cX : wr.drew.cell? ⟨b, o + j, none⟩ = some (.int .i64 (f j)) := HC.out.1.o _ _ na ca
      have cM := HC.out.2.2.c2
      have HvA : Hid (∃ a1 l1 k1, vA = .slice a1 l1 k1) := own_slice hown
      obtain ⟨aA, lA, kA, hvA⟩ := HvA.out
      subst hvA
      clear hU hown ca hdr HvA
      go_upto_region 5 with fail
      refine wp_region_any (by kernel_rfl) ?_
      change wpAny _ _ _ _ _ _ _ (World.drew _)
      refine wpAny_take (i := 0) (v := ?v1) rfl (by kernel_rfl) (by kernel_rfl) (by kernel_rfl) (fun _ _ _ h => h) (Or.inl ⟨by kernel_rfl, ?h1⟩) ?r1
      case h1 => (intro w; go_simp) <;> with_reducible rfl
      refine wpAny_take (i := 2) (v := ?v2) rfl (by kernel_rfl) (by kernel_rfl) (by kernel_rfl) (fun _ _ _ h => h) (Or.inl ⟨by kernel_rfl, ?h2⟩) ?r2
      case h2 => (intro w; go_simp) <;> with_reducible rfl
      refine wpAny_take (i := 3) (v := ?v3) rfl (by kernel_rfl) (by kernel_rfl) (by kernel_rfl) (fun _ _ _ h => h) (Or.inl ⟨by kernel_rfl, ?h3⟩) ?r3
      case h3 => (intro w; go_simp) <;> with_reducible rfl
      refine wpAny_take (i := 4) (v := ?v4) rfl (by kernel_rfl) (by kernel_rfl) (by kernel_rfl) (fun _ _ _ h => h) (Or.inl ⟨by kernel_rfl, ?h4⟩) ?r4
      case h4 => (intro w; go_simp) <;> with_reducible rfl
      refine wpAny_take (i := 5) (v := ?v5) rfl (by kernel_rfl) (by kernel_rfl) (by kernel_rfl) (fun _ _ _ h => h) (Or.inl ⟨by kernel_rfl, ?h5⟩) ?r5
      case h5 => (intro w; go_simp) <;> with_reducible rfl
      refine wpAny_take (i := 7) (v := ?v6) rfl (by kernel_rfl) (by kernel_rfl) (by kernel_rfl) (fun _ _ _ h => h) (Or.inl ⟨by kernel_rfl, ?h6⟩) ?r6
      case h6 => (intro w; go_simp) <;> with_reducible rfl
      refine wpAny_ready (rs := [1, 6]) (by kernel_rfl) (by simp) ?_
      refine AllReady.cons rfl (fun K hK => ?_) (AllReady.cons rfl (fun K hK => ?_) AllReady.nil)
      · go_simp
        refine hK _ _ ?_
        clear hK K
        refine wpAny_ready (rs := [6]) (by kernel_rfl) (by simp) ?_
        refine AllReady.cons rfl (fun K hK => ?_) AllReady.nil
        go_simp
        refine hK _ _ ?_
        clear hK K
        refine wpAny_ready (rs := [8]) (by kernel_rfl) (by simp) ?_
        refine AllReady.cons rfl (fun K hK => ?_) AllReady.nil
        go_simp
        go_wp2_with (go_at_call 22; refine (uscale_any (f j) a0 a1 _ m g d (c + otN f g m j) hm (by omega) (by omega) _ (HB.out.1.un HB.out.2 HC.out.1) HB.out.2 HC.out.1.c HC.out.1.f).mono ?_; rintro e wz ⟨vz, rfl, AZ, OZ, hU⟩; obtain ⟨az, cz, bz, oz, rfl, z1, z2, z3, -⟩ := id AZ; have ez := z3 (by omega); subst ez; have HC2 : Hid (Un d (c + otN f g m (j + 1)) w wz ∧ M3 w.heap.size (.int .i64 0) (.int .i64 0) (.slice none 0 0) wz ∧ M3 (w.heap.size + 1) (.int .i64 (n : Int)) (.int .i64 (m : Int)) (.slice aA lA kA) wz) := ot_next HC.out hU hd; have HO2 : Hid (wz.ownsRow (w.heap.size + 2) 2 1 (.slice aA lA kA) (j * m) (il (otX f g m) (j * m))) := own_un HO.out hU (by omega); have HZ : Hid (Ar wz (.slice (some ⟨bz, oz, none⟩) m cz) m (fun k => clv (rnd (f j * g k) 32))) := AZ; clear HC HO cX cM; have cM := HC2.out.2.2.c2; clear hU AZ OZ z1 z2 z3)
        refine wpAny_ready (rs := [9]) (by kernel_rfl) (by simp) ?_
        refine AllReady.cons rfl (fun K hK => ?_) AllReady.nil
        refine wp_append_own _ _ _ 38 rfl (w.heap.size + 2) 2 i0 (.int .i64 0) 1 8 Tryd.underlying38 hi hz0 hz1 hz2 rfl (by decide) (.slice aA lA kA) (j * m) (il (otX f g m) (j * m)) rfl HO2.out ⟨bz, oz, none⟩ m cz (il (fun k => clv (rnd (f j * g k) 32)) m) rfl (by rw [il_len]; omega) (ar_news HZ.out (by omega)) (il_one _ _) (by unfold maxLen; omega) (by omega) (by have := HC2.out.2.2.lt; omega) (fun v' w3 hown' hgrow hnil => hK _ _ ?_)
        rw [ot_il] at hown'
        obtain ⟨a9, l9, k9, hv9⟩ := own_slice hown'
        subst hv9
        have HE : Hid (Un d (c + otN f g m (j + 1)) w w3 ∧ M3 w.heap.size (.int .i64 0) (.int .i64 0) (.slice none 0 0) w3 ∧ M3 (w.heap.size + 1) (.int .i64 (n : Int)) (.int .i64 (m : Int)) (.slice aA lA kA) w3) := ot_grow HC2.out HO2.out hgrow hd
        clear hgrow hnil HO2 HC2 HZ cM hK K
        have y2 := HE.out.2.2.c2
        have y5 := HE.out.2.2.f2
        refine wpAny_take (i := 10) (v := ?v7) rfl (by kernel_rfl) (by kernel_rfl) (by kernel_rfl) (fun _ _ _ h => h) (Or.inl ⟨by kernel_rfl, ?h7⟩) ?r7
        case h7 => (intro w; go_simp) <;> with_reducible rfl
        refine wpAny_ready (rs := [11]) (by kernel_rfl) (by simp) ?_
        refine AllReady.cons rfl (fun K hK => ?_) AllReady.nil
        go_simp
        refine hK _ _ ?_
        clear hK K
        refine wpAny_done (by kernel_rfl) ?_ _
        have HF : Hid (Un d (c + otN f g m (j + 1)) w (w3.setCell ⟨w.heap.size + 1, 2, none⟩ (.slice a9 l9 k9)) ∧ M3 w.heap.size (.int .i64 0) (.int .i64 0) (.slice none 0 0) (w3.setCell ⟨w.heap.size + 1, 2, none⟩ (.slice a9 l9 k9)) ∧ M3 (w.heap.size + 1) (.int .i64 (n : Int)) (.int .i64 (m : Int)) (.slice a9 l9 k9) (w3.setCell ⟨w.heap.size + 1, 2, none⟩ (.slice a9 l9 k9))) := ot_put HE.out hd (.slice a9 l9 k9)
        have hown4 := own_set (p := ⟨w.heap.size + 1, 2, none⟩) hown' (by dsimp only; omega) (.slice a9 l9 k9)
        rw [show j * m + m = (j + 1) * m by rw [Nat.add_mul, Nat.one_mul]] at hown4
        clear hown' HE y2 y5
        generalize w3.setCell ⟨w.heap.size + 1, 2, none⟩ (.slice a9 l9 k9) = w4 at *
        go_wp2
        go_roundw
        case rel => exact ⟨j + 1, (.slice a9 l9 k9), by omega, by go_num, hown4, HF⟩
        case measure => simp [intOf]; omega
      · go_simp
        refine hK _ _ ?_
        clear hK K
        refine wpAny_ready (rs := [1, 8]) (by kernel_rfl) (by simp) ?_
        refine AllReady.cons rfl (fun K hK => ?_) (AllReady.cons rfl (fun K hK => ?_) AllReady.nil)
        · go_simp
          refine hK _ _ ?_
          clear hK K
          refine wpAny_ready (rs := [8]) (by kernel_rfl) (by simp) ?_
          refine AllReady.cons rfl (fun K hK => ?_) AllReady.nil
          go_simp
          go_wp2_with (go_at_call 22; refine (uscale_any (f j) a0 a1 _ m g d (c + otN f g m j) hm (by omega) (by omega) _ (HB.out.1.un HB.out.2 HC.out.1) HB.out.2 HC.out.1.c HC.out.1.f).mono ?_; rintro e wz ⟨vz, rfl, AZ, OZ, hU⟩; obtain ⟨az, cz, bz, oz, rfl, z1, z2, z3, -⟩ := id AZ; have ez := z3 (by omega); subst ez; have HC2 : Hid (Un d (c + otN f g m (j + 1)) w wz ∧ M3 w.heap.size (.int .i64 0) (.int .i64 0) (.slice none 0 0) wz ∧ M3 (w.heap.size + 1) (.int .i64 (n : Int)) (.int .i64 (m : Int)) (.slice aA lA kA) wz) := ot_next HC.out hU hd; have HO2 : Hid (wz.ownsRow (w.heap.size + 2) 2 1 (.slice aA lA kA) (j * m) (il (otX f g m) (j * m))) := own_un HO.out hU (by omega); have HZ : Hid (Ar wz (.slice (some ⟨bz, oz, none⟩) m cz) m (fun k => clv (rnd (f j * g k) 32))) := AZ; clear HC HO cX cM; have cM := HC2.out.2.2.c2; clear hU AZ OZ z1 z2 z3)
          refine wpAny_ready (rs := [9]) (by kernel_rfl) (by simp) ?_
          refine AllReady.cons rfl (fun K hK => ?_) AllReady.nil
          refine wp_append_own _ _ _ 38 rfl (w.heap.size + 2) 2 i0 (.int .i64 0) 1 8 Tryd.underlying38 hi hz0 hz1 hz2 rfl (by decide) (.slice aA lA kA) (j * m) (il (otX f g m) (j * m)) rfl HO2.out ⟨bz, oz, none⟩ m cz (il (fun k => clv (rnd (f j * g k) 32)) m) rfl (by rw [il_len]; omega) (ar_news HZ.out (by omega)) (il_one _ _) (by unfold maxLen; omega) (by omega) (by have := HC2.out.2.2.lt; omega) (fun v' w3 hown' hgrow hnil => hK _ _ ?_)
          rw [ot_il] at hown'
          obtain ⟨a9, l9, k9, hv9⟩ := own_slice hown'
          subst hv9
          have HE : Hid (Un d (c + otN f g m (j + 1)) w w3 ∧ M3 w.heap.size (.int .i64 0) (.int .i64 0) (.slice none 0 0) w3 ∧ M3 (w.heap.size + 1) (.int .i64 (n : Int)) (.int .i64 (m : Int)) (.slice aA lA kA) w3) := ot_grow HC2.out HO2.out hgrow hd
          clear hgrow hnil HO2 HC2 HZ cM hK K
          have y2 := HE.out.2.2.c2
          have y5 := HE.out.2.2.f2
          refine wpAny_take (i := 10) (v := ?v8) rfl (by kernel_rfl) (by kernel_rfl) (by kernel_rfl) (fun _ _ _ h => h) (Or.inl ⟨by kernel_rfl, ?h8⟩) ?r8
          case h8 => (intro w; go_simp) <;> with_reducible rfl
          refine wpAny_ready (rs := [11]) (by kernel_rfl) (by simp) ?_
          refine AllReady.cons rfl (fun K hK => ?_) AllReady.nil
          go_simp
          refine hK _ _ ?_
          clear hK K
          refine wpAny_done (by kernel_rfl) ?_ _
          have HF : Hid (Un d (c + otN f g m (j + 1)) w (w3.setCell ⟨w.heap.size + 1, 2, none⟩ (.slice a9 l9 k9)) ∧ M3 w.heap.size (.int .i64 0) (.int .i64 0) (.slice none 0 0) (w3.setCell ⟨w.heap.size + 1, 2, none⟩ (.slice a9 l9 k9)) ∧ M3 (w.heap.size + 1) (.int .i64 (n : Int)) (.int .i64 (m : Int)) (.slice a9 l9 k9) (w3.setCell ⟨w.heap.size + 1, 2, none⟩ (.slice a9 l9 k9))) := ot_put HE.out hd (.slice a9 l9 k9)
          have hown4 := own_set (p := ⟨w.heap.size + 1, 2, none⟩) hown' (by dsimp only; omega) (.slice a9 l9 k9)
          rw [show j * m + m = (j + 1) * m by rw [Nat.add_mul, Nat.one_mul]] at hown4
          clear hown' HE y2 y5
          generalize w3.setCell ⟨w.heap.size + 1, 2, none⟩ (.slice a9 l9 k9) = w4 at *
          go_wp2
          go_roundw
          case rel => exact ⟨j + 1, (.slice a9 l9 k9), by omega, by go_num, hown4, HF⟩
          case measure => simp [intOf]; omega
        · go_simp
          go_wp2_with (go_at_call 22; refine (uscale_any (f j) a0 a1 _ m g d (c + otN f g m j) hm (by omega) (by omega) _ (HB.out.1.un HB.out.2 HC.out.1) HB.out.2 HC.out.1.c HC.out.1.f).mono ?_; rintro e wz ⟨vz, rfl, AZ, OZ, hU⟩; obtain ⟨az, cz, bz, oz, rfl, z1, z2, z3, -⟩ := id AZ; have ez := z3 (by omega); subst ez; have HC2 : Hid (Un d (c + otN f g m (j + 1)) w wz ∧ M3 w.heap.size (.int .i64 0) (.int .i64 0) (.slice none 0 0) wz ∧ M3 (w.heap.size + 1) (.int .i64 (n : Int)) (.int .i64 (m : Int)) (.slice aA lA kA) wz) := ot_next HC.out hU hd; have HO2 : Hid (wz.ownsRow (w.heap.size + 2) 2 1 (.slice aA lA kA) (j * m) (il (otX f g m) (j * m))) := own_un HO.out hU (by omega); have HZ : Hid (Ar wz (.slice (some ⟨bz, oz, none⟩) m cz) m (fun k => clv (rnd (f j * g k) 32))) := AZ; clear HC HO cX cM; have cM := HC2.out.2.2.c2; clear hU AZ OZ z1 z2 z3)
          refine wpAny_ready (rs := [1]) (by kernel_rfl) (by simp) ?_
          refine AllReady.cons rfl (fun K hK => ?_) AllReady.nil
          go_simp
          refine hK _ _ ?_
          clear hK K
          refine wpAny_ready (rs := [9]) (by kernel_rfl) (by simp) ?_
          refine AllReady.cons rfl (fun K hK => ?_) AllReady.nil
          refine wp_append_own _ _ _ 38 rfl (w.heap.size + 2) 2 i0 (.int .i64 0) 1 8 Tryd.underlying38 hi hz0 hz1 hz2 rfl (by decide) (.slice aA lA kA) (j * m) (il (otX f g m) (j * m)) rfl HO2.out ⟨bz, oz, none⟩ m cz (il (fun k => clv (rnd (f j * g k) 32)) m) rfl (by rw [il_len]; omega) (ar_news HZ.out (by omega)) (il_one _ _) (by unfold maxLen; omega) (by omega) (by have := HC2.out.2.2.lt; omega) (fun v' w3 hown' hgrow hnil => hK _ _ ?_)
          rw [ot_il] at hown'
          obtain ⟨a9, l9, k9, hv9⟩ := own_slice hown'
          subst hv9
          have HE : Hid (Un d (c + otN f g m (j + 1)) w w3 ∧ M3 w.heap.size (.int .i64 0) (.int .i64 0) (.slice none 0 0) w3 ∧ M3 (w.heap.size + 1) (.int .i64 (n : Int)) (.int .i64 (m : Int)) (.slice aA lA kA) w3) := ot_grow HC2.out HO2.out hgrow hd
          clear hgrow hnil HO2 HC2 HZ cM hK K
          have y2 := HE.out.2.2.c2
          have y5 := HE.out.2.2.f2
          refine wpAny_take (i := 10) (v := ?v9) rfl (by kernel_rfl) (by kernel_rfl) (by kernel_rfl) (fun _ _ _ h => h) (Or.inl ⟨by kernel_rfl, ?h9⟩) ?r9
          case h9 => (intro w; go_simp) <;> with_reducible rfl
          refine wpAny_ready (rs := [11]) (by kernel_rfl) (by simp) ?_
          refine AllReady.cons rfl (fun K hK => ?_) AllReady.nil
          go_simp
          refine hK _ _ ?_
          clear hK K
          refine wpAny_done (by kernel_rfl) ?_ _
          have HF : Hid (Un d (c + otN f g m (j + 1)) w (w3.setCell ⟨w.heap.size + 1, 2, none⟩ (.slice a9 l9 k9)) ∧ M3 w.heap.size (.int .i64 0) (.int .i64 0) (.slice none 0 0) (w3.setCell ⟨w.heap.size + 1, 2, none⟩ (.slice a9 l9 k9)) ∧ M3 (w.heap.size + 1) (.int .i64 (n : Int)) (.int .i64 (m : Int)) (.slice a9 l9 k9) (w3.setCell ⟨w.heap.size + 1, 2, none⟩ (.slice a9 l9 k9))) := ot_put HE.out hd (.slice a9 l9 k9)
          have hown4 := own_set (p := ⟨w.heap.size + 1, 2, none⟩) hown' (by dsimp only; omega) (.slice a9 l9 k9)
          rw [show j * m + m = (j + 1) * m by rw [Nat.add_mul, Nat.one_mul]] at hown4
          clear hown' HE y2 y5
          generalize w3.setCell ⟨w.heap.size + 1, 2, none⟩ (.slice a9 l9 k9) = w4 at *
          go_wp2
          go_roundw
          case rel => exact ⟨j + 1, (.slice a9 l9 k9), by omega, by go_num, hown4, HF⟩
          case measure => simp [intOf]; omega
    · obtain rfl : j = n := by omega
      have HQ : Hid (Ar wr vA (j * m) (otX f g m) ∧ Ow (w.heap.size + 2) vA) := ar_of_own hown (fun k hk => HG.out k)
      have HvA : Hid (∃ a1 l1 k1, vA = .slice a1 l1 k1) := own_slice hown
      obtain ⟨aA, lA, kA, hvA⟩ := HvA.out
      subst hvA
      have hjj : ¬ (j : Int) < (j : Int) := by omega
      have y0 := hU.out.2.2.c0
      have y1 := hU.out.2.2.c1
      have y2 := hU.out.2.2.c2
      have x0 := hU.out.2.1.c0
      have x1' := hU.out.2.1.c1
      have x2' := hU.out.2.1.c2
      have z0 := hU.out.2.1.f0
      have z1 := hU.out.2.1.f1
      have z2 := hU.out.2.1.f2
      have D9 := hU.out.2.1.all (.int .i64 (j : Int)) (.int .i64 (m : Int)) (.slice aA lA kA)
      have nv : Nb (.slice aA lA kA) w.heap.size := HQ.out.2.nb (by omega)
      have A9 : Hid (Ar _ (.slice aA lA kA) (j * m) (otX f g m)) := ((HQ.out.1.set (p := ⟨w.heap.size, 0, none⟩) nv (.int .i64 (j : Int))).set (p := ⟨w.heap.size, 1, none⟩) nv (.int .i64 (m : Int))).set (p := ⟨w.heap.size, 2, none⟩) nv (.slice aA lA kA)
      have O9 : Hid (Ow w.heap.size (.slice aA lA kA)) := HQ.out.2.mono (by omega)
      have U9 : Hid (Un d (c + otN f g m j) w _) := ((hU.out.1.setFar hd (p := ⟨w.heap.size, 0, none⟩) (by dsimp only; omega) (.int .i64 (j : Int))).setFar hd (p := ⟨w.heap.size, 1, none⟩) (by dsimp only; omega) (.int .i64 (m : Int))).setFar hd (p := ⟨w.heap.size, 2, none⟩) (by dsimp only; omega) (.slice aA lA kA)
      have H9 : Hid (M3 w.heap.size (.int .i64 (j : Int)) (.int .i64 (m : Int)) (.slice aA lA kA) _) := D9
      clear hown HvA D9 nv HQ
      go_wp2
      have t0 := H9.out.c0
      have t1 := H9.out.c1
      have t2 := H9.out.c2
      exact bodyPost_ret (v := .agg #[.int .i64 (j : Int), .int .i64 (m : Int), .slice aA lA kA]) (by simp [results, Tryd.results39, go_sem, t0, t1, t2]) rfl ⟨_, rfl, A9.out, O9.out, U9.out⟩
end Go.Proofs.YtldnnjcfihjkdaaDoor
