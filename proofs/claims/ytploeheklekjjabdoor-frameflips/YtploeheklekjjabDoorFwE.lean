/-
  The program's frame: what looks tells, place by place.
-/
import Derived.Test.YtploeheklekjjabDoorFwD
import Derived.Test.YtploeheklekjjabDoorFrDefs3
import Derived.Test.YtploeheklekjjabDoorFrRefC
import Derived.Test.YtploeheklekjjabDoorRgLaw0
import Derived.Shelf.Abstract
import Derived.TacticsInMore
set_option linter.unusedVariables false
set_option linter.unusedSimpArgs false
namespace Go.Proofs.YtploeheklekjjabDoor
open Go.RowKit Go.Shelf

/-- The places from one on, and what Open says there. -/
def lkG (l : List Nat) : Nat → Nat → List (Nat × Nat × Nat × List Nat)
  | 0, _ => []
  | f + 1, p => if l.length ≤ p then [] else (p, opE (l.drop p), opK (l.drop p), opP (l.drop p)) :: lkG l f (p + max (opN (l.drop p)) 1)
def lks (l : List Nat) (p : Nat) : List (Nat × Nat × Nat × List Nat) := lkG l (l.length - p) p
theorem lkG_end (l : List Nat) : ∀ f p, l.length ≤ p → lkG l f p = [] := by
  intro f p h
  cases f with
  | zero => rfl
  | succ f => unfold lkG; rw [if_pos h]
theorem lkG_fuel (l : List Nat) : ∀ f g p, l.length - p ≤ f → l.length - p ≤ g → lkG l f p = lkG l g p := by
  intro f
  induction f with
  | zero =>
    intro g p hf _
    rw [lkG_end l _ _ (by omega), lkG_end l _ _ (by omega)]
  | succ f ih =>
    intro g p hf hg
    by_cases h : l.length ≤ p
    · rw [lkG_end l _ _ h, lkG_end l _ _ h]
    · obtain ⟨g', rfl⟩ : ∃ g', g = g' + 1 := ⟨g - 1, by omega⟩
      have hm : 1 ≤ max (opN (l.drop p)) 1 := by omega
      unfold lkG
      rw [if_neg h, if_neg h, ih g' _ (by omega) (by omega)]
theorem lks_end {l : List Nat} {p : Nat} (h : l.length ≤ p) : lks l p = [] := lkG_end l _ _ h
theorem lks_at {l : List Nat} {p : Nat} (h : p < l.length) : lks l p = (p, opE (l.drop p), opK (l.drop p), opP (l.drop p)) :: lks l (p + max (opN (l.drop p)) 1) := by
  obtain ⟨g, hg⟩ : ∃ g, l.length - p = g + 1 := ⟨l.length - p - 1, by omega⟩
  have hm : 1 ≤ max (opN (l.drop p)) 1 := by omega
  conv => lhs; unfold lks
  rw [hg]
  unfold lkG lks
  rw [if_neg (by omega), lkG_fuel l g _ _ (by omega) (Nat.le_refl _)]
/-- What has been told, and where it goes on. -/
def Lk (l : List Nat) (i p : Nat) : Prop := (lks l 0).drop i = lks l p ∧ i ≤ (lks l 0).length
theorem lk_zero (l : List Nat) : Lk l 0 0 := ⟨rfl, Nat.zero_le _⟩
theorem Lk.get {l : List Nat} {i p : Nat} (h : Lk l i p) (hp : p < l.length) : (lks l 0)[i]? = some (p, opE (l.drop p), opK (l.drop p), opP (l.drop p)) := by
  have h1 := h.1
  rw [lks_at hp] at h1
  have h2 : ((lks l 0).drop i)[0]? = some (p, opE (l.drop p), opK (l.drop p), opP (l.drop p)) := by rw [h1]; rfl
  rw [List.getElem?_drop] at h2
  exact h2
theorem Lk.next {l : List Nat} {i p : Nat} (h : Lk l i p) (hp : p < l.length) : Lk l (i + 1) (p + max (opN (l.drop p)) 1) := by
  have h1 := h.1
  rw [lks_at hp] at h1
  refine ⟨?_, ?_⟩
  · rw [← List.drop_drop, h1]
    rfl
  · have h2 := congrArg List.length h1
    rw [List.length_drop] at h2
    simp at h2
    omega
theorem Lk.of {l : List Nat} {i p : Nat} {y : Nat × Nat × Nat × List Nat} (h : Lk l i p) (hy : (lks l 0)[i]? = some y) : p < l.length ∧ y = (p, opE (l.drop p), opK (l.drop p), opP (l.drop p)) := by
  have hp : p < l.length := by
    by_cases q : p < l.length
    · exact q
    · exfalso
      have h1 := h.1
      rw [lks_end (p := p) (by omega)] at h1
      have h2 := congrArg List.length h1
      rw [List.length_drop] at h2
      have h3 := (List.getElem?_eq_some_iff.1 hy).1
      rw [List.length_nil] at h2
      omega
  have h2 := h.get hp
  rw [hy] at h2
  injection h2 with h2
  exact ⟨hp, h2⟩
theorem Lk.stop {l : List Nat} {p : Nat} (h : Lk l (lks l 0).length p) : l.length ≤ p := by
  by_cases q : l.length ≤ p
  · exact q
  · exfalso
    have h1 := h.1
    rw [List.drop_length, lks_at (by omega)] at h1
    cases h1
theorem Lk.all {l : List Nat} {i p : Nat} (h : Lk l i p) (hp : l.length ≤ p) : i = (lks l 0).length := by
  have h1 := h.1
  rw [lks_end hp] at h1
  have h2 := congrArg List.length h1
  rw [List.length_drop] at h2
  have h3 := h.2
  simp at h2
  omega
/-- How a look and its place are told: its payload lies in memory that is newer than the last round's end. -/
def EL (y : Nat × Nat × Nat × List Nat) (args : Array Value) (Xp X : World) : Prop := ∃ (ad : Option Addr) (n cap : Nat), args = #[.int .i64 (y.1 : Int), .agg #[.int .i64 (y.2.2.1 : Int), .slice ad n cap, .int .i64 (y.2.1 : Int)]] ∧ Bs X (.slice ad n cap) y.2.2.2 ∧ Ow Xp.heap.size (.slice ad n cap)
set_option maxRecDepth 100000 in
set_option maxHeartbeats 4000000 in
theorem looks1_tells (B : Nat) (v : Value) (l : List Nat) (hbt : ∀ c ∈ l, c < 256) (hl : l.length ≤ 90000) (FB : Nat → Prop) (W : World) (hB : W.cell? ⟨B, 0, none⟩ = some v) (hv : Bs W v l) (hT : FT W) (hFt : NT FB) (hFv : Nf FB v) (hFB : ¬ FB B) :
    Tells0 Fence.wide 9 Tryd.prog 20 #[.pointer (some ⟨B, 0, none⟩)] (lks l 0) EL FB W := by
  intro l0 J Jx W1 hb hl1 hl2 hJ hJx hY h0
  have hmf : ∀ (fn : Fn) (first cap : Array Value) (w : World), (Instr.makeFunc fn first cap).run Tryd.prog w = .ok (.func fn first cap) w := fun _ _ _ _ => rfl
  have HL : Hid (Bs W1 v l ∧ (∀ c ∈ l, c < 256) ∧ FT W1) := ⟨hv.later hb, hbt, hT.later hb⟩
  have hB1 := cell_later hb hB
  obtain ⟨ad, cap, rfl, -, -⟩ := hv.len
  obtain ⟨n, hn⟩ : ∃ n, l.length = n := ⟨_, rfl⟩
  have HN : Hid (l.length = n) := hn
  have hlo := hv.lo
  have hBlt : B < W.heap.size := World.block_lt_of_cell? _ _ hB
  have hTlo := hT.low
  rw [hn] at hB1 hl HL hlo hFv
  -- what a round keeps
  have HK : Hid (∀ X X' : World, Kq W.heap.size FB X X' → Bs X (.slice ad n cap) l → FT X → X.cell? ⟨B, 0, none⟩ = some (.slice ad n cap) → Bs X' (.slice ad n cap) l ∧ FT X' ∧ X'.cell? ⟨B, 0, none⟩ = some (.slice ad n cap)) := fun X X' k h1 h2 h3 =>
    ⟨k.bs h1 hlo hFv, ⟨fun i hi => k.cell (a := ⟨1, i, none⟩) hTlo.1 hFt.1 (h2.tb i hi), fun i hi => k.cell (a := ⟨0, i, none⟩) hTlo.2 hFt.2 (h2.ah i hi)⟩, k.cell (a := ⟨B, 0, none⟩) hBlt hFB h3⟩
  have HJ : Hid ((∀ i X X', J i X → Below X.heap.size X X' → J i X') ∧ (∀ i X X', Jx i X → Below X.heap.size X X' → Jx i X') ∧ J 0 W1) := ⟨hJ, hJx, h0⟩
  have HY : Hid (∀ i y args Xp X, (lks l 0)[i]? = some y → J i Xp → Below Xp.heap.size Xp X → EL y args Xp X → YieldAt Fence.wide (9 - 1) Tryd.prog l0 args X fun e X' =>
      (e = .returned (.bool true) ∧ J (i + 1) X' ∧ Kq W.heap.size FB X X') ∨ (e = .returned (.bool false) ∧ Jx (i + 1) X')) := hY
  have HC1 : Hid (W1.cell? ⟨B, 0, none⟩ = some (.slice ad n cap)) := hB1
  clear hb hB hv hT hbt hn hJ hJx h0 hFB hFt hFv hl1 hl2 hY hlo hBlt hTlo hB1
  refine callsIn_wide.2 ?_
  show Calls Tryd.prog 20 #[.func (.yield l0) #[] #[], .pointer (some ⟨B, 0, none⟩)] W1 _
  go_enter Tryd.func20, Tryd.ntmps20
  go_upto_region 1 with fail
  go_loopw [3] (fun s3 wr => ∃ (p i : Nat), p ≤ n ∧ s3 = .int .i64 ((p : Nat) : Int) ∧ Hid (Lk l i p) ∧ Hid (wr.cell? ⟨B, 0, none⟩ = some (.slice ad n cap) ∧ Bs wr (.slice ad n cap) l ∧ FT wr ∧ J i wr)) (fun s3 _ => n - (intOf s3).toNat)
  case atStart => exact ⟨0, 0, by omega, rfl, lk_zero l, HC1.out, HL.out.1, HL.out.2.2, HJ.out.2.2⟩
  case round =>
    obtain ⟨p, i, hp, rfl, HP, HW⟩ := hrel
    have cB := HW.out.1
    by_cases hlt : p < n
    · have hpI : (p : Int) < (n : Int) := by omega
      have s1 : ∀ X : World, (Instr.slice 22 (.slice ad n cap) (some (.int .i64 (p : Int))) none none).run Tryd.prog X = .ok (sv ad p n cap) X := fun X => slice_runL X ad n cap p hp
      have HR : Hid (Bs wr (sv ad p n cap) (l.drop p) ∧ (∀ c ∈ l.drop p, c < 256) ∧ (l.drop p).length ≤ 90000) := ⟨sv_rest HW.out.2.1 HN.out p hp, fun c hc => HL.out.2.1 c (List.mem_of_mem_drop hc), by rw [List.length_drop]; have := HN.out; omega⟩
      have hpl : p < l.length := by rw [HN.out]; exact hlt
      have HG : Hid ((lks l 0)[i]? = some (p, opE (l.drop p), opK (l.drop p), opP (l.drop p))) := HP.out.get hpl
      have HNx : Hid (Lk l (i + 1) (p + max (opN (l.drop p)) 1)) := HP.out.next hpl
      have HNs : Hid ((opN (l.drop p) = 0 ∨ 12 ≤ opN (l.drop p)) ∧ p + opN (l.drop p) ≤ n ∧ opN (l.drop p) ≤ 100000) := by
        have hN := HN.out
        by_cases q : opE (l.drop p) = 0
        · have h1 := opN_pos q
          have h2 := opN_le q
          rw [List.length_drop] at h2
          exact ⟨Or.inr h1, by omega, by omega⟩
        · have h1 := (op_no rfl q).2.2
          exact ⟨Or.inl h1, by omega, by omega⟩
      clear hpl
      go_wp2_with fail
      refine (open13 wr _ (l.drop p) HR.out.1 HR.out.2.1 HR.out.2.2 HW.out.2.2.1).mono ?_
      rintro e w3 ⟨vp, rfl, hL3, hO3, hB3⟩
      obtain ⟨a3, p3, rfl, -, -⟩ := hL3.len
      obtain ⟨w4, hw4⟩ : ∃ w4, w4 = w3.alloc (.cells #[.int .i64 ((opK (l.drop p) : Nat) : Int), .slice a3 (opP (l.drop p)).length p3] 24) := ⟨_, rfl⟩
      have hB4 : Below wr.heap.size wr w4 := by rw [hw4]; exact bchain hB3 (bel1 _ _)
      have HX : Hid (Bx2 w3.heap.size (.int .i64 ((opK (l.drop p) : Nat) : Int)) (.slice a3 (opP (l.drop p)).length p3) w4 ∧ Bs w4 (.slice a3 (opP (l.drop p)).length p3) (opP (l.drop p)) ∧ Ow wr.heap.size (.slice a3 (opP (l.drop p)).length p3) ∧ Below wr.heap.size wr w4) := ⟨by rw [hw4]; exact Bx2.new _ _ _ _, by rw [hw4]; exact hL3.later (bel1 _ _), hO3, hB4⟩
      clear hL3 hO3 hB3 hB4 s1 HR cB
      generalize l.drop p = D at *
      generalize opE D = E at *
      generalize opN D = N at *
      generalize opK D = K at *
      generalize opP D = P at *
      go_upto_region 3 with fail
      rw [← hw4]
      clear hw4
      have c0 := HX.out.1.c0
      have c1 := HX.out.1.c1
      generalize w3.heap.size = bx at *
      obtain ⟨fn, tmps, assign, body, hy, hR⟩ := HY.out i (p, E, K, P) #[.int .i64 (p : Int), .agg #[.int .i64 (K : Int), .slice a3 P.length p3, .int .i64 (E : Int)]] wr w4 HG.out HW.out.2.2.2 HX.out.2.2.2 ⟨a3, P.length, p3, rfl, HX.out.2.1, HX.out.2.2.1⟩
      have HW4 : Hid (w4.cell? ⟨B, 0, none⟩ = some (.slice ad n cap) ∧ Bs w4 (.slice ad n cap) l ∧ FT w4) := ⟨cell_later HX.out.2.2.2 HW.out.1, HW.out.2.1.later HX.out.2.2.2, HW.out.2.2.1.later HX.out.2.2.2⟩
      clear HW
      refine (wpIn_wide (n := 9)).1 ?_
      gi_wp2
      refine hR.mono ?_
      rintro e X3 (⟨rfl, hJ3, hK3⟩ | ⟨rfl, hJx3⟩)
      · obtain ⟨k1, k2, k3⟩ := HK.out w4 X3 hK3 HW4.out.2.1 HW4.out.2.2 HW4.out.1
        have HX3 : Hid (X3.cell? ⟨B, 0, none⟩ = some (.slice ad n cap) ∧ Bs X3 (.slice ad n cap) l ∧ FT X3 ∧ J (i + 1) X3) := ⟨k3, k1, k2, hJ3⟩
        clear hJ3 hK3 hR hy c0 c1 HX HW4 k1 k2 k3 HG
        obtain ⟨hNs, hNp, hNb⟩ := HNs.out
        clear HNs
        rcases hNs with rfl | hNs
        · have hadd : IntKind.i64.wrap ((p : Int) + 1) = ((p + 1 : Nat) : Int) := by rw [IntKind.wrap_i64]; omega
          gi_wp2
          go_wp2
          go_roundw
          case rel => exact ⟨p + 1, i + 1, by omega, by first | rfl | go_num, HNx.out, HX3⟩
          case measure => simp only [intOf]; omega
        · have hadd : IntKind.i64.wrap ((p : Int) + (N : Int)) = ((p + N : Nat) : Int) := by rw [IntKind.wrap_i64]; omega
          have hmx : max N 1 = N := by omega
          have HNx2 : Hid (Lk l (i + 1) (p + N)) := by have h := HNx.out; rw [hmx] at h; exact h
          have h1N : (1 : Int) < (N : Int) := by omega
          have h2N : ¬ (N : Int) < 1 := by omega
          have h3N : ¬ (N : Int) ≤ 1 := by omega
          clear hmx HNx
          gi_wp2
          go_wp2
          go_roundw
          case rel => exact ⟨p + N, i + 1, by omega, by first | rfl | go_num, HNx2, HX3⟩
          case measure => simp only [intOf]; omega
      · clear hR hy c0 c1
        have HX3 : Hid (Jx (i + 1) X3) := hJx3
        have HI1 : Hid (i + 1 ≤ (lks l 0).length) := HNx.out.2
        clear hJx3 HX HW4
        gi_wp2
        go_wp2
        refine bodyPost_ret (results_none rfl _ _ _) rfl ?_
        exact ⟨⟨_, rfl⟩, Or.inr ⟨i + 1, HI1.out, HX3.out⟩⟩
    · obtain rfl : n = p := by omega
      have hpI : ¬ (n : Int) < (n : Int) := by omega
      have HE : Hid (J (lks l 0).length wr) := by
        have h1 := HP.out.all (by rw [HN.out]; exact Nat.le_refl _)
        rw [← h1]
        exact HW.out.2.2.2
      clear HW HP
      go_wp2
      go_end0
      exact ⟨⟨_, rfl⟩, Or.inl HE.out⟩
set_option maxRecDepth 100000 in
set_option maxHeartbeats 4000000 in
theorem looks_any (w : World) (v : Value) (l : List Nat) (h : Bs w v l) :
    Calls Tryd.prog 17 #[v] w fun e w' => e = .returned (.func (.func 20) #[] #[.pointer (some ⟨w.heap.size, 0, none⟩)]) ∧ Below w.heap.size w w' ∧ w'.cell? ⟨w.heap.size, 0, none⟩ = some v ∧ w'.heap.size = w.heap.size + 1 := by
  have hmf : ∀ (fn : Fn) (first cap : Array Value) (w : World), (Instr.makeFunc fn first cap).run Tryd.prog w = .ok (.func fn first cap) w := fun _ _ _ _ => rfl
  obtain ⟨ad, cap, rfl, -, -⟩ := h.len
  clear h
  generalize l.length = n at *
  go_enter Tryd.func17, Tryd.ntmps17
  go_wp2
  go_ret
  exact ⟨rfl, bel1 _ _, by simp [go_sem], by rw [World.size_alloc]⟩
end Go.Proofs.YtploeheklekjjabDoor
