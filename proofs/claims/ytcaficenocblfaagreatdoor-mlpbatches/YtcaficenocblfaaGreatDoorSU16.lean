/-
  Texts of this proof, joined: LWalkJ EWalkA LBase NWalkI.
-/
import Derived.Test.YtcaficenocblfaaGreatDoorSU01
import Derived.Test.YtcaficenocblfaaGreatDoorSU06
import Derived.Test.YtcaficenocblfaaGreatDoorSU08
import Derived.Test.YtcaficenocblfaaGreatDoorSU11
import Derived.Test.YtcaficenocblfaaGreatDoorSU14
import Derived.Test.YtcaficenocblfaaGreatDoorSU15
import Derived.Laws.Bits64
set_option linter.unusedVariables false
set_option linter.unusedSimpArgs false
namespace Go.Proofs.YtcaficenocblfaaGreatDoor
open Go.RowKit

theorem own_apart {w : World} {B B' : Nat} {e e' : TypeId} {s s' : Nat} {v v' : Value} {n n' : Nat} {xs xs' : List Value} (h : w.ownsRow B e s v n xs) (h' : w.ownsRow B' e' s' v' n' xs') (hne : e ≠ e') : v.ownBlock = none ∨ v.ownBlock ≠ v'.ownBlock := by
  rcases h.2 with ⟨rfl, _⟩ | ⟨g, cap, cur, rfl, _, hg, _⟩
  · exact Or.inl rfl
  · refine Or.inr fun e2 => ?_
    rcases h'.2 with ⟨rfl, _⟩ | ⟨g', cap', cur', rfl, _, hg', _⟩
    · cases e2
    · have e3 : g = g' := Option.some.inj e2
      subst e3
      rw [hg] at hg'
      cases hg'
      exact hne rfl
def Alf (w : World) (B d : Nat) (v u : Value) (j n : Nat) (fs : Nat → Nat → Int) (f : Nat → Int) : Prop :=
  ∃ xs : List Value, w.ownsRow B 45 1 v j xs ∧ w.ownsRow B 2 1 u j (il f j) ∧ ∀ k, k < j → ∃ va : Value, xs[k]? = some va ∧ Ar w va n (fs k) ∧ Nb va d ∧ (∀ g, v.ownBlock = some g → Nb va g) ∧ ∀ g, u.ownBlock = some g → Nb va g
theorem Alf.later {w w' : World} {B d : Nat} {v u : Value} {j n : Nat} {fs : Nat → Nat → Int} {f : Nat → Int} (h : Alf w B d v u j n fs f) (hb : Below w.heap.size w w') : Alf w' B d v u j n fs f := by
  obtain ⟨xs, h1, h0, h2⟩ := h
  exact ⟨xs, own_later h1 hb, own_later h0 hb, fun k hk => by obtain ⟨va, e, a, r⟩ := h2 k hk; exact ⟨va, e, a.later hb, r⟩⟩
theorem Alf.un {w w' : World} {B d : Nat} {v u : Value} {j n : Nat} {fs : Nat → Nat → Int} {f : Nat → Int} {c : Int} (h : Alf w B d v u j n fs f) (hU : Un d c w w') (hd : d < B) : Alf w' B d v u j n fs f := by
  obtain ⟨xs, h1, h0, h2⟩ := h
  exact ⟨xs, own_un h1 hU hd, own_un h0 hU hd, fun k hk => by obtain ⟨va, e, a, x, r⟩ := h2 k hk; exact ⟨va, e, a.un x hU, x, r⟩⟩
theorem alf_grow {w w3 w4 : World} {B d : Nat} {v v' u u' va : Value} {j n : Nat} {fs : Nat → Nat → Int} {f : Nat → Int} {o o' : Obj} {xs : List Value} (h1 : w.ownsRow B 45 1 v j xs) (h0 : w.ownsRow B 2 1 u j (il f j)) (h2 : ∀ k, k < j → ∃ va : Value, xs[k]? = some va ∧ Ar w va n (fs k) ∧ Nb va d ∧ (∀ g, v.ownBlock = some g → Nb va g) ∧ ∀ g, u.ownBlock = some g → Nb va g)
    (hA : Ar w va n (fs j)) (hO : Nb va d) (hN : ∀ g, v.ownBlock = some g → Nb va g) (hN' : ∀ g, u.ownBlock = some g → Nb va g)
    (hown : w3.ownsRow B 45 1 v' (j + 1) (xs ++ [va])) (hgrow : (w.alloc o).grownBy w3 v.ownBlock) (hat : v'.ownBlock = v.ownBlock ∨ v'.ownBlock = some (w.alloc o).heap.size)
    (hown' : w4.ownsRow B 2 1 u' (j + 1) (il f (j + 1))) (hgrow' : (w3.alloc o').grownBy w4 u.ownBlock) (hat' : u'.ownBlock = u.ownBlock ∨ u'.ownBlock = some (w3.alloc o').heap.size) (hne : (45 : TypeId) ≠ 2) : Alf w4 B d v' u' (j + 1) n fs f := by
  have hlen : xs.length = j := by have := h1.1; omega
  have hs3 : w.heap.size + 1 ≤ w3.heap.size := by have := hgrow.size; rw [World.size_alloc] at this; exact this
  have h03 : w3.ownsRow B 2 1 u j (il f j) := (h0.alloc o).kept hgrow (own_apart (h0.alloc o) (h1.alloc o) (fun e => hne e.symm))
  have hv4 : w4.ownsRow B 45 1 v' (j + 1) (xs ++ [va]) := (hown.alloc o').kept hgrow' (own_apart (hown.alloc o') (h03.alloc o') hne)
  have key : ∀ k (x : Value), Ar w x n (fs k) → (∀ g, v.ownBlock = some g → Nb x g) → (∀ g, u.ownBlock = some g → Nb x g) → Ar w4 x n (fs k) ∧ (∀ g, v'.ownBlock = some g → Nb x g) ∧ ∀ g, u'.ownBlock = some g → Nb x g := fun k x hx hn hn' => by
    have hlt : ∀ (a : Addr) (n' cap : Nat), x = .slice (some a) n' cap → 0 < n' → a.block < w.heap.size := fun a n' cap e h0 => by
      rcases Nat.lt_or_ge a.block w.heap.size with h | h
      · exact h
      · exact absurd rfl (hx.spare h a n' cap e h0)
    have hx3 : Ar w3 x n (fs k) := hx.stay (fun a n' cap e h0 => by
      have hl := hlt a n' cap e h0
      rw [hgrow.block a.block (by rw [World.size_alloc]; omega) (fun e2 => hn a.block e2.symm a n' cap e h0 rfl), Below.heap_alloc _ _ _ hl])
    refine ⟨hx3.stay (fun a n' cap e h0 => ?_), fun g hg => ?_, fun g hg => ?_⟩
    · have hl := hlt a n' cap e h0
      rw [hgrow'.block a.block (by rw [World.size_alloc]; omega) (fun e2 => hn' a.block e2.symm a n' cap e h0 rfl), Below.heap_alloc _ _ _ (by omega)]
    · rcases hat with h | h
      · exact hn g (h.symm.trans hg)
      · rw [h] at hg
        obtain rfl := Option.some.inj hg
        exact hx.spare (by rw [World.size_alloc]; omega)
    · rcases hat' with h | h
      · exact hn' g (h.symm.trans hg)
      · rw [h] at hg
        obtain rfl := Option.some.inj hg
        exact hx3.spare (by rw [World.size_alloc]; omega)
  refine ⟨xs ++ [va], hv4, hown', fun k hk => ?_⟩
  rcases Nat.lt_or_ge k j with h | h
  · obtain ⟨x, e, a, c, g, g'⟩ := h2 k h
    obtain ⟨p, q, q'⟩ := key k x a g g'
    exact ⟨x, by rw [List.getElem?_append_left (by omega)]; exact e, p, c, q, q'⟩
  · obtain rfl : k = j := by omega
    obtain ⟨p, q, q'⟩ := key k va hA hN hN'
    exact ⟨va, by rw [List.getElem?_append_right (by omega), hlen]; simp, p, hO, q, q'⟩
def btC (s : Bool) (z : Nat → Nat) (m cp : Nat) (P : Nat → Int) (xs ts : Nat → Nat → Int) (K : Nat) : Int := bgC s z m P xs ts K + cntV (msO (fun k => gdG s z m P (xs k) (ts k)) K) cp + bi (ovv (quo (sumV (fun k => gdX s z m P (xs k) (ts k)) K) (K : Int)))
set_option maxRecDepth 100000 in
set_option maxHeartbeats 16000000 in
theorem batch_all (s : Bool) (vs vp : Value) (m cp K b o cap : Nat) (z : Nat → Nat) (P : Nat → Int) (xs ts : Nat → Nat → Int) (d : Nat) (c : Int) (c0 : 0 ≤ c) (c1 : c ≤ 100000000) (hK : 1 ≤ K) (hK2 : K ≤ 100) (hcap : K ≤ cap) (hcap2 : cap ≤ maxLen) (w : World) (hS : Ar w vs m (fun i => ((z i : Nat) : Int))) (hP : Ar w vp cp P) (hE : Exs w d b o K (fun _ => z 0) (fun _ => z (m - 1)) xs ts) (hz : Szs z m) (hcp : cp = fsN z (m - 1)) (nS : Nb vs d) (nP : Nb vp d) (hc : w.cell? ⟨d, 0, none⟩ = some (.int .i64 c)) (hf : w.frozen? ⟨d, 0, none⟩ = false) :
    Calls Tryz.prog 13 #[.agg #[vs, vp], .pointer (some ⟨d, 0, none⟩), .int .i64 (lsK s), .slice (some ⟨b, o, none⟩) K cap] w fun e w' => ∃ v', e = .returned (.tuple #[v', .int .i64 (clv (quo (sumV (fun k => gdX s z m P (xs k) (ts k)) K) (K : Int)))]) ∧ Ar w' v' cp (msX (fun k => gdG s z m P (xs k) (ts k)) K) ∧ Ow w.heap.size v' ∧ Un d (c + btC s z m cp P xs ts K) w w' := by
  obtain ⟨i0, hti, hy0, hy1, hy2⟩ := info_parts dinfo_i64
  obtain ⟨i1, hti1, hy3, hy4, hy5⟩ := info_parts dinfo_is
  have hd := World.block_lt_of_cell? _ _ hc
  obtain ⟨m2, m6, hz6⟩ := id hz
  have hcpB : cp ≤ 20800 := by have := fsN_le z m (m - 1) hz6 (by omega); omega
  have hcp1 : 1 ≤ cp := by have := (lyN_le z m 0 hz6 (by omega)).2; have h2 := fsN_mono z (show 1 ≤ m - 1 by omega); have h3 : fsN z 1 = 0 + lyN z 0 := rfl; omega
  have HbR : Hid (∀ j, 0 ≤ bgC s z m P xs ts j ∧ bgC s z m P xs ts j ≤ 30000 * (j : Int)) := fun j => bgC_rng s z m P xs ts hz j
  have HbS : Hid (∀ j, bgC s z m P xs ts (j + 1) = bgC s z m P xs ts j + gdC s z m P (xs j) (ts j)) := fun j => rfl
  have HGr : Hid (∀ (j : Nat) (W : World) (vx vt : Value) (C : Int), 0 ≤ C → C ≤ 800000000 → Ar W vs m (fun i => ((z i : Nat) : Int)) → Ar W vp cp P → Ar W vx (z 0) (xs j) → Ar W vt (z (m - 1)) (ts j) → Nb vx d → Nb vt d → W.cell? ⟨d, 0, none⟩ = some (.int .i64 C) → W.frozen? ⟨d, 0, none⟩ = false → Calls Tryz.prog 22 #[.agg #[vs, vp], .pointer (some ⟨d, 0, none⟩), .int .i64 (lsK s), vx, vt] W fun e w' => ∃ v', e = .returned (.tuple #[v', .int .i64 (gdX s z m P (xs j) (ts j))]) ∧ Ar w' v' cp (gdG s z m P (xs j) (ts j)) ∧ Ow W.heap.size v' ∧ Un d (C + gdC s z m P (xs j) (ts j)) W w') := fun j W vx vt C h0 h1 h2 h3 h4 h5 h6 h7 h8 h9 => gradient_all s vs vp vx vt m cp z P (xs j) (ts j) d C h0 h1 W h2 h3 h4 h5 hz hcp nS nP h6 h7 h8 h9
  have HSP : Hid (Ar w vs m (fun i => ((z i : Nat) : Int)) ∧ Ar w vp cp P ∧ Nb vs d ∧ Nb vp d) := ⟨hS, hP, nS, nP⟩
  have HEx : Hid (Exs w d b o K (fun _ => z 0) (fun _ => z (m - 1)) xs ts) := hE
  have HXr : Hid (∀ j, -9223372036854775808 ≤ gdX s z m P (xs j) (ts j) ∧ gdX s z m P (xs j) (ts j) ≤ 9223372036854775807) := fun j => clv_rng _
  have HbT : Hid (btC s z m cp P xs ts K = bgC s z m P xs ts K + cntV (msO (fun k => gdG s z m P (xs k) (ts k)) K) cp + bi (ovv (quo (sumV (fun k => gdX s z m P (xs k) (ts k)) K) (K : Int)))) := rfl
  rw [HbT.out]
  obtain ⟨fx, hfx⟩ : ∃ fx : Nat → Int, (fun k => gdX s z m P (xs k) (ts k)) = fx := ⟨_, rfl⟩
  obtain ⟨fg, hfg⟩ : ∃ fg : Nat → Nat → Int, (fun k => gdG s z m P (xs k) (ts k)) = fg := ⟨_, rfl⟩
  have hfx' : ∀ k, gdX s z m P (xs k) (ts k) = fx k := fun k => congrFun hfx k
  have hfg' : ∀ k, gdG s z m P (xs k) (ts k) = fg k := fun k => congrFun hfg k
  rw [hfx, hfg]
  simp only [hfx', hfg'] at HGr HXr
  clear hfx hfg hfx' hfg' HbT
  generalize bgC s z m P xs ts = bc at *
  obtain ⟨adr, cas, bs, os, rfl, k1, k2, k3, k4⟩ := hS
  obtain ⟨adp, cpp, bp, op, rfl, j1, j2, j3, j4⟩ := hP
  unfold maxLen at k2 j2 hcap2
  have U0 : Hid (Un d c w w) := Un.same hc hf
  obtain ⟨w1, hw1⟩ : ∃ w1, w1 = w.alloc (.cells #[.slice adr m cas, .slice adp cp cpp] 53) := ⟨_, rfl⟩
  have HB1 : Hid (Below w.heap.size w w1) := by rw [hw1]; exact bel1 _ _
  have HBx : Hid (Bx w.heap.size (.slice adr m cas) (.slice adp cp cpp) w1) := by rw [hw1]; exact Bx.new w _ _ _
  have hbc0 : bc 0 = 0 := by have := HbR.out 0; omega
  have HU1 : Hid (Un d (c + bc 0) w w1) := by show Un _ _ _ _; rw [hbc0, Int.add_zero]; exact U0.out.ahead HB1.out
  clear k3 k4 j3 j4 nS nP hc hf hz6 hz hcp hE U0 HB1 hbc0
  go_enter Tryz.func13, Tryz.ntmps13
  go_upto_region 4 with fail
  rw [← hw1]
  clear hw1
  go_loopw [10, 11, 12] (fun s10 s11 s12 wr => ∃ j : Nat, j ≤ K ∧ s12 = .int .i64 (j : Int) ∧ Hid (Alf wr (w.heap.size + 1) d s10 s11 j cp fg fx) ∧ Hid (Bx w.heap.size (.slice adr m cas) (.slice adp cp cpp) wr) ∧ Hid (Un d (c + bc j) w wr) ∧ w.heap.size < wr.heap.size) (fun _ _ s12 _ => K - (intOf s12).toNat)
  case atStart => exact ⟨0, by omega, rfl, ⟨[], World.ownsRow_nil _ _ _ _, World.ownsRow_nil _ _ _ _, fun k hk => absurd hk (Nat.not_lt_zero _)⟩, HBx, HU1, World.block_lt_of_cell? _ _ HBx.out.c0⟩
  case round =>
    rename World => wi
    obtain ⟨j, hj, rfl, HAl, HB2, HU2, hsz⟩ := hrel
    clear HBx HU1
    have hbr := HbR.out j
    have hwd : w.heap.size ≠ d := by omega
    by_cases hlt : j < K
    · have hjI : (j : Int) < (K : Int) := by omega
      have x0 := HB2.out.c0
      have x1 := HB2.out.c1
      have hEi := HEx.out.un HU2.out
      obtain ⟨vx, vt, cX, cT, hAX, hAT, nX, nT⟩ := hEi.2 j hlt
      have hbd := hEi.1
      have CG := fun (W : World) (hb : Below wi.heap.size wi W) => HGr.out j W vx vt (c + bc j) (by omega) (by omega) ((HSP.out.1.un HSP.out.2.2.1 HU2.out).later hb) ((HSP.out.2.1.un HSP.out.2.2.2 HU2.out).later hb) (hAX.later hb) (hAT.later hb) nX nT (cell_later hb HU2.out.c) (frozen_later hb HU2.out.c HU2.out.f)
      obtain ⟨ax, cx, bx, ox, rfl, -, -, -, -⟩ := hAX
      obtain ⟨at', ct', bt, ot, rfl, -, -, -, -⟩ := hAT
      have HCG : Hid (∀ W : World, Below wi.heap.size wi W → Calls Tryz.prog 22 #[.agg #[.slice adr m cas, .slice adp cp cpp], .pointer (some ⟨d, 0, none⟩), .int .i64 (lsK s), .slice ax (z 0) cx, .slice at' (z (m - 1)) ct'] W fun e w' => ∃ v', e = .returned (.tuple #[v', .int .i64 (fx j)]) ∧ Ar w' v' cp (fg j) ∧ Ow W.heap.size v' ∧ Un d (c + bc (j + 1)) W w') := fun W hb => by
        rw [HbS.out j, ← Int.add_assoc]
        exact CG W hb
      clear CG hEi nX nT
      go_wp2_with fail
      have hbD : Below wi.heap.size wi wi.drew := (Below.refl _ _).drew
      refine wp_region_held_drew (S := fun W' => W'.cell? ⟨w.heap.size, 0, none⟩ = some (.slice adr m cas) ∧ W'.cell? ⟨w.heap.size, 1, none⟩ = some (.slice adp cp cpp) ∧ W'.cell? ⟨b, o + j * 2, none⟩ = some (.slice ax (z 0) cx) ∧ W'.cell? ⟨b, o + j * 2 + 1, none⟩ = some (.slice at' (z (m - 1)) ct')) (by kernel_rfl) ⟨x0, x1, cX, cT⟩ (fun HS => ?_)
      clear x0 x1 cX cT
      have hsD : w.heap.size < wi.drew.heap.size := hsz
      generalize wi.drew = wE at *
      refine wpAnyH_take (i := 0) (v := ?v1) rfl (by kernel_rfl) (by kernel_rfl) (by kernel_rfl) (fun _ _ _ h => h) (Or.inl ⟨by kernel_rfl, ?h1⟩) HS ?r1
      case h1 => (rintro w ⟨s1, s2, s3, s4⟩; go_simp) <;> with_reducible rfl
      try simp only [Act.put, List.getElem_toArray, List.getElem_cons_succ, List.getElem_cons_zero, List.setIfInBounds_toArray, List.set_cons_zero, List.set_cons_succ]
      refine wpAnyH_take (i := 1) (v := ?v2) rfl (by kernel_rfl) (by kernel_rfl) (by kernel_rfl) (fun _ _ _ h => h) (Or.inl ⟨by kernel_rfl, ?h2⟩) HS ?r2
      case h2 => (rintro w ⟨s1, s2, s3, s4⟩; go_simp) <;> with_reducible rfl
      try simp only [Act.put, List.getElem_toArray, List.getElem_cons_succ, List.getElem_cons_zero, List.setIfInBounds_toArray, List.set_cons_zero, List.set_cons_succ]
      refine wpAnyH_take (i := 2) (v := ?v3) rfl (by kernel_rfl) (by kernel_rfl) (by kernel_rfl) (fun _ _ _ h => h) (Or.inl ⟨by kernel_rfl, ?h3⟩) HS ?r3
      case h3 => (rintro w ⟨s1, s2, s3, s4⟩; go_simp) <;> with_reducible rfl
      try simp only [Act.put, List.getElem_toArray, List.getElem_cons_succ, List.getElem_cons_zero, List.setIfInBounds_toArray, List.set_cons_zero, List.set_cons_succ]
      refine wpAnyH_take (i := 3) (v := ?v4) rfl (by kernel_rfl) (by kernel_rfl) (by kernel_rfl) (fun _ _ _ h => h) (Or.inl ⟨by kernel_rfl, ?h4⟩) HS ?r4
      case h4 => (rintro w ⟨s1, s2, s3, s4⟩; go_simp) <;> with_reducible rfl
      try simp only [Act.put, List.getElem_toArray, List.getElem_cons_succ, List.getElem_cons_zero, List.setIfInBounds_toArray, List.set_cons_zero, List.set_cons_succ]
      refine wpAnyH_take (i := 4) (v := ?v5) rfl (by kernel_rfl) (by kernel_rfl) (by kernel_rfl) (fun _ _ _ h => h) (Or.inl ⟨by kernel_rfl, ?h5⟩) HS ?r5
      case h5 => (rintro w ⟨s1, s2, s3, s4⟩; go_simp) <;> with_reducible rfl
      try simp only [Act.put, List.getElem_toArray, List.getElem_cons_succ, List.getElem_cons_zero, List.setIfInBounds_toArray, List.set_cons_zero, List.set_cons_succ]
      refine wpAnyH_take (i := 5) (v := ?v6) rfl (by kernel_rfl) (by kernel_rfl) (by kernel_rfl) (fun _ _ _ h => h) (Or.inl ⟨by kernel_rfl, ?h6⟩) HS ?r6
      case h6 => (rintro w ⟨s1, s2, s3, s4⟩; go_simp) <;> with_reducible rfl
      try simp only [Act.put, List.getElem_toArray, List.getElem_cons_succ, List.getElem_cons_zero, List.setIfInBounds_toArray, List.set_cons_zero, List.set_cons_succ]
      refine wpAnyH_take (i := 6) (v := ?v7) rfl (by kernel_rfl) (by kernel_rfl) (by kernel_rfl) (fun _ _ _ h => h) (Or.inl ⟨by kernel_rfl, ?h7⟩) HS ?r7
      case h7 => (rintro w ⟨s1, s2, s3, s4⟩; go_simp) <;> with_reducible rfl
      try simp only [Act.put, List.getElem_toArray, List.getElem_cons_succ, List.getElem_cons_zero, List.setIfInBounds_toArray, List.set_cons_zero, List.set_cons_succ]
      refine wpAnyH_take (i := 7) (v := ?v8) rfl (by kernel_rfl) (by kernel_rfl) (by kernel_rfl) (fun _ _ _ h => h) (Or.inl ⟨by kernel_rfl, ?h8⟩) HS ?r8
      case h8 => (rintro w ⟨s1, s2, s3, s4⟩; go_simp) <;> with_reducible rfl
      try simp only [Act.put, List.getElem_toArray, List.getElem_cons_succ, List.getElem_cons_zero, List.setIfInBounds_toArray, List.set_cons_zero, List.set_cons_succ]
      refine wpAnyH_take (i := 8) (v := ?v9) rfl (by kernel_rfl) (by kernel_rfl) (by kernel_rfl) (fun _ _ _ h => h) (Or.inl ⟨by kernel_rfl, ?h9⟩) HS ?r9
      case h9 => (rintro w ⟨s1, s2, s3, s4⟩; go_simp) <;> with_reducible rfl
      try simp only [Act.put, List.getElem_toArray, List.getElem_cons_succ, List.getElem_cons_zero, List.setIfInBounds_toArray, List.set_cons_zero, List.set_cons_succ]
      refine wpAnyH_take (i := 9) (v := ?v10) rfl (by kernel_rfl) (by kernel_rfl) (by kernel_rfl) (fun _ _ _ h => h) (Or.inl ⟨by kernel_rfl, ?h10⟩) HS ?r10
      case h10 => (rintro w ⟨s1, s2, s3, s4⟩; go_simp) <;> with_reducible rfl
      try simp only [Act.put, List.getElem_toArray, List.getElem_cons_succ, List.getElem_cons_zero, List.setIfInBounds_toArray, List.set_cons_zero, List.set_cons_succ]
      refine wpAnyH_take (i := 10) (v := ?v11) rfl (by kernel_rfl) (by kernel_rfl) (by kernel_rfl) (fun _ _ _ h => h) (Or.inl ⟨by kernel_rfl, ?h11⟩) HS ?r11
      case h11 => (rintro w ⟨s1, s2, s3, s4⟩; go_simp) <;> with_reducible rfl
      try simp only [Act.put, List.getElem_toArray, List.getElem_cons_succ, List.getElem_cons_zero, List.setIfInBounds_toArray, List.set_cons_zero, List.set_cons_succ]
      refine wpAnyH_take (i := 11) (v := ?v12) rfl (by kernel_rfl) (by kernel_rfl) (by kernel_rfl) (fun _ _ _ h => h) (Or.inl ⟨by kernel_rfl, ?h12⟩) HS ?r12
      case h12 => (rintro w ⟨s1, s2, s3, s4⟩; go_simp) <;> with_reducible rfl
      try simp only [Act.put, List.getElem_toArray, List.getElem_cons_succ, List.getElem_cons_zero, List.setIfInBounds_toArray, List.set_cons_zero, List.set_cons_succ]
      refine wpAnyH_take (i := 12) (v := ?v13) rfl (by kernel_rfl) (by kernel_rfl) (by kernel_rfl) (fun _ _ _ h => h) (Or.inl ⟨by kernel_rfl, ?h13⟩) HS ?r13
      case h13 => (rintro w ⟨s1, s2, s3, s4⟩; go_simp) <;> with_reducible rfl
      try simp only [Act.put, List.getElem_toArray, List.getElem_cons_succ, List.getElem_cons_zero, List.setIfInBounds_toArray, List.set_cons_zero, List.set_cons_succ]
      refine wpAnyH_ready (rs := [13]) (by kernel_rfl) (by simp) ?_
      refine AllReadyH.cons rfl (fun K hK => ?_) AllReadyH.nil
      go_simp
      refine (HCG.out _ hbD).mono ?_
      rintro e w8 ⟨vn, rfl, hAn, hOn, hUn⟩
      have HS8 := HS
      refine hK.out _ _ ⟨hUn.o _ _ hwd HS8.1, hUn.o _ _ hwd HS8.2.1, hUn.o _ _ hbd HS8.2.2.1, hUn.o _ _ hbd HS8.2.2.2⟩ (fun HS => ?_)
      clear hK K
      obtain ⟨adn, can, bn, on, rfl, n1, n2, n3, n4⟩ := id hAn
      unfold maxLen at n2
      have en := n3 (by omega)
      subst en
      refine wpAnyH_take (i := 14) (v := ?v14) rfl (by kernel_rfl) (by kernel_rfl) (by kernel_rfl) (fun _ _ _ h => h) (Or.inl ⟨by kernel_rfl, ?h14⟩) HS ?r14
      case h14 => (rintro w ⟨s1, s2, s3, s4⟩; go_simp) <;> with_reducible rfl
      try simp only [Act.put, List.getElem_toArray, List.getElem_cons_succ, List.getElem_cons_zero, List.setIfInBounds_toArray, List.set_cons_zero, List.set_cons_succ]
      refine wpAnyH_take (i := 15) (v := ?v15) rfl (by kernel_rfl) (by kernel_rfl) (by kernel_rfl) (fun _ _ _ h => h) (Or.inl ⟨by kernel_rfl, ?h15⟩) HS ?r15
      case h15 => (rintro w ⟨s1, s2, s3, s4⟩; go_simp) <;> with_reducible rfl
      try simp only [Act.put, List.getElem_toArray, List.getElem_cons_succ, List.getElem_cons_zero, List.setIfInBounds_toArray, List.set_cons_zero, List.set_cons_succ]
      refine wpAnyH_take (i := 16) (v := ?v16) rfl (by kernel_rfl) (by kernel_rfl) (by kernel_rfl) (fun _ _ _ h => h) (Or.inl ⟨by kernel_rfl, ?h16⟩) HS ?r16
      case h16 => (rintro w ⟨s1, s2, s3, s4⟩; go_simp) <;> with_reducible rfl
      try simp only [Act.put, List.getElem_toArray, List.getElem_cons_succ, List.getElem_cons_zero, List.setIfInBounds_toArray, List.set_cons_zero, List.set_cons_succ]
      refine wpAnyH_take (i := 17) (v := ?v17) rfl (by kernel_rfl) (by kernel_rfl) (by kernel_rfl) (fun _ _ _ h => h) (Or.inl ⟨by kernel_rfl, ?h17⟩) HS ?r17
      case h17 => (rintro w ⟨s1, s2, s3, s4⟩; go_simp) <;> with_reducible rfl
      try simp only [Act.put, List.getElem_toArray, List.getElem_cons_succ, List.getElem_cons_zero, List.setIfInBounds_toArray, List.set_cons_zero, List.set_cons_succ]
      refine wpAnyH_take (i := 18) (v := ?v18) rfl (by kernel_rfl) (by kernel_rfl) (by kernel_rfl) (fun _ _ _ h => h) (Or.inl ⟨by kernel_rfl, ?h18⟩) HS ?r18
      case h18 => (rintro w ⟨s1, s2, s3, s4⟩; go_simp) <;> with_reducible rfl
      try simp only [Act.put, List.getElem_toArray, List.getElem_cons_succ, List.getElem_cons_zero, List.setIfInBounds_toArray, List.set_cons_zero, List.set_cons_succ]
      refine wpAnyH_done (by kernel_rfl) ?_ _
      have hdE : d < wE.heap.size := by omega
      have HAE := HAl.out.later hbD
      obtain ⟨ys, r1, r0, r2⟩ := id (HAE.un hUn (by omega))
      obtain ⟨ysE, r1E, r0E, -⟩ := HAE
      have hN1 : ∀ g, u10.ownBlock = some g → Nb (.slice (some ⟨bn, on, none⟩) cp can) g := fun g hg => hOn.nb (r1E.lt g hg).2
      have hN2 : ∀ g, u11.ownBlock = some g → Nb (.slice (some ⟨bn, on, none⟩) cp can) g := fun g hg => hOn.nb (r0E.lt g hg).2
      have HU8 : Hid (Un d (c + bc (j + 1)) w w8) := (HU2.out.ahead hbD).chain hUn
      have HB8 : Hid (Bx w.heap.size (.slice adr m cas) (.slice adp cp cpp) w8) := (HB2.out.later hbD).un hUn hwd
      have hs8 : w.heap.size < w8.heap.size := by have := hUn.s; omega
      have Hn : Hid (Ar w8 (.slice (some ⟨bn, on, none⟩) cp can) cp (fg j) ∧ Nb (.slice (some ⟨bn, on, none⟩) cp can) d ∧ (∀ g, u10.ownBlock = some g → Nb (.slice (some ⟨bn, on, none⟩) cp can) g) ∧ ∀ g, u11.ownBlock = some g → Nb (.slice (some ⟨bn, on, none⟩) cp can) g) := ⟨hAn, hOn.nb hdE, hN1, hN2⟩
      have Hr : Hid (w8.ownsRow (w.heap.size + 1) 45 1 u10 j ys ∧ w8.ownsRow (w.heap.size + 1) 2 1 u11 j (il fx j) ∧ ∀ k, k < j → ∃ va : Value, ys[k]? = some va ∧ Ar w8 va cp (fg k) ∧ Nb va d ∧ (∀ g, u10.ownBlock = some g → Nb va g) ∧ ∀ g, u11.ownBlock = some g → Nb va g) := ⟨r1, r0, r2⟩
      clear HS HS8 hAn hOn hUn hbD HCG HU2 HAl HB2 r1E r0E hN1 hN2 r2 n3 n4 r0
      go_upto_region 8 with (at_builtin; refine wpList_append_own_at _ rfl _ _ 70 rfl (w.heap.size + 1) 45 i1 (.slice none 0 0) 1 24 Tryz.underlying70 hti1 hy3 hy4 hy5 rfl (by decide) _ _ _ rfl (r1.alloc _) ⟨w8.heap.size, 0, none⟩ 1 1 [.slice (some ⟨bn, on, none⟩) cp can] rfl rfl (cell_one_new _ _ _) (by simp [Value.oneCell']) (by unfold maxLen; omega) (by omega) (by simp; omega) ?_; intro v' w9 hown9 hgrow9 hnil9 hat9)
      have hs9 : w.heap.size + 1 ≤ w9.heap.size := by have := hgrow9.size; rw [World.size_alloc] at this; omega
      have r9 : w9.ownsRow (w.heap.size + 1) 2 1 u11 j (il fx j) := (Hr.out.2.1.alloc _).kept hgrow9 (own_apart Hr.out.2.1 r1 (by decide))
      have H9 : Hid (w9.ownsRow (w.heap.size + 1) 45 1 v' (j + 1) (ys ++ [.slice (some ⟨bn, on, none⟩) cp can]) ∧ (w8.alloc (.cells #[.slice (some ⟨bn, on, none⟩) cp can] 45)).grownBy w9 u10.ownBlock ∧ (v'.ownBlock = u10.ownBlock ∨ v'.ownBlock = some (w8.alloc (.cells #[.slice (some ⟨bn, on, none⟩) cp can] 45)).heap.size)) := ⟨hown9, hgrow9, hat9⟩
      clear hown9 hgrow9 hnil9 hat9 r1
      go_wp2_with (at_builtin; refine wpList_append_own_at _ rfl _ _ 45 rfl (w.heap.size + 1) 2 i0 (.int .i64 0) 1 8 Tryz.underlying45 hti hy0 hy1 hy2 rfl (by decide) _ _ _ rfl (r9.alloc _) ⟨w9.heap.size, 0, none⟩ 1 1 [.int .i64 (fx j)] rfl rfl (cell_one_new _ _ _) (ints_oneCell .i64 [fx j]) (by unfold maxLen; omega) (by omega) (by simp; omega) ?_; intro v'' w10 hown10 hgrow10 hnil10 hat10)
      have HAl10 : Hid (Alf w10 (w.heap.size + 1) d v' v'' (j + 1) cp fg fx) := alf_grow Hr.out.1 Hr.out.2.1 Hr.out.2.2 Hn.out.1 Hn.out.2.1 Hn.out.2.2.1 Hn.out.2.2.2 H9.out.1 H9.out.2.1 H9.out.2.2 (by rw [il_succ]; exact hown10) hgrow10 hat10 (by decide)
      have HU9 : Un d (c + bc (j + 1)) w w9 := HU8.out.grow hd H9.out.2.1 (fun k hk => by have := (Hr.out.1.lt k hk).1; omega)
      have HU10 : Hid (Un d (c + bc (j + 1)) w w10) := HU9.grow hd hgrow10 (fun k hk => by have := (r9.lt k hk).1; omega)
      have hbk : ∀ k, k = w.heap.size → w10.heap[k]? = w8.heap[k]? := fun k hk => by
        rw [hgrow10.block k (by rw [World.size_alloc]; omega) (fun e => by have := (r9.lt k e.symm).1; omega), Below.heap_alloc _ _ _ (by omega), H9.out.2.1.block k (by rw [World.size_alloc]; omega) (fun e => by have := (Hr.out.1.lt k e.symm).1; omega), Below.heap_alloc _ _ _ (by omega)]
      have HB10 : Hid (Bx w.heap.size (.slice adr m cas) (.slice adp cp cpp) w10) := by
        have e := hbk w.heap.size rfl
        exact ⟨(World.cell?_of_block (w := w8) e).trans HB8.out.c0, (World.cell?_of_block (w := w8) e).trans HB8.out.c1, (World.frozen?_of_block (w := w8) e).trans HB8.out.f0, (World.frozen?_of_block (w := w8) e).trans HB8.out.f1⟩
      have hs10 : w.heap.size < w10.heap.size := World.block_lt_of_cell? _ _ HB10.out.c0
      clear hown10 hgrow10 hnil10 hat10 r9 H9 Hr Hn HU9 HU8 HB8 hbk
      go_wp2
      go_roundw
      case rel => exact ⟨j + 1, by omega, by go_num, HAl10, HB10, HU10, hs10⟩
      case measure => simp [intOf]; omega
    · obtain rfl : j = K := by omega
      have hjI : ¬ (j : Int) < (j : Int) := by omega
      obtain ⟨ys, r1, r0, r2⟩ := id HAl.out
      rcases id r1.2 with ⟨_, h0⟩ | ⟨g, ca, cur, rfl, hg, hh, hc1, hc2, hsz', htk⟩
      · omega
      · have hAs : As wi d g 0 j cp fg := ⟨fun k hk => by
          obtain ⟨va, e, a, x, _⟩ := r2 k hk
          exact ⟨va, by rw [Nat.zero_add]; exact (r1.cellAt k (by omega)).trans e, a, x⟩, by omega⟩
        have hmr := cnt_rng (msO fg j) cp
        have CM := umeans_any g 0 ca j cp fg d (c + bc j) hK (by omega) (by omega) hc1 hc2 (by omega) (by omega) wi hAs HU2.out.c HU2.out.f
        obtain ⟨hAf, hOf⟩ := ar_of_own r0 (fun k _ => HXr.out k)
        obtain ⟨ad11, ca11, b11, o11, rfl, -, -, -, -⟩ := id hAf
        have HAf : Hid (Ar wi (.slice ad11 j ca11) j fx ∧ Nb (.slice ad11 j ca11) d) := ⟨hAf, hOf.nb (by omega)⟩
        clear hAs r1 r0 r2 hh htk HAl HB2 hAf hOf
        go_wp2_with fail
        refine CM.mono ?_
        rintro e w2 ⟨vm, rfl, hAm, hOm, hUm⟩
        obtain ⟨adm, cam, bm, om, rfl, -, -, -, -⟩ := id hAm
        have CN := umean_any (.slice ad11 j ca11) j fx d (c + bc j + cntV (msO fg j) cp) (by omega) (by omega) (by omega) (by omega) w2 (HAf.out.1.un HAf.out.2 hUm) hUm.c hUm.f
        have HM : Hid (Ar w2 (.slice adm cp cam) cp (msX fg j) ∧ Ow wi.heap.size (.slice adm cp cam) ∧ Un d (c + bc j + cntV (msO fg j) cp) w w2) := ⟨hAm, hOm, HU2.out.chain hUm⟩
        have hds : d < wi.heap.size := by omega
        clear CM hAm hOm hUm HU2
        go_wp2_with fail
        refine CN.mono ?_
        rintro e w3 ⟨rfl, hU3⟩
        have HZ : Hid (Ar w3 (.slice adm cp cam) cp (msX fg j) ∧ Ow w.heap.size (.slice adm cp cam) ∧ Un d (c + (bc j + cntV (msO fg j) cp + bi (ovv (quo (sumV fx j) (j : Int))))) w w3) := by
          refine ⟨HM.out.1.un (HM.out.2.1.nb hds) hU3, HM.out.2.1.mono (by omega), ?_⟩
          rw [← Int.add_assoc, ← Int.add_assoc]
          exact HM.out.2.2.chain hU3
        clear CN hU3 HM
        go_wp2
        go_ret2
        exact ⟨_, rfl, HZ.out.1, HZ.out.2.1, HZ.out.2.2⟩
end Go.Proofs.YtcaficenocblfaaGreatDoor
set_option linter.unusedVariables false
set_option linter.unusedSimpArgs false
namespace Go.Proofs.YtcaficenocblfaaGreatDoor
open Go.RowKit

structure K4 (b : Nat) (x y z u : Value) (w : World) : Prop where
  c0 : w.cell? ⟨b, 0, none⟩ = some x
  c1 : w.cell? ⟨b, 1, none⟩ = some y
  c2 : w.cell? ⟨b, 2, none⟩ = some z
  c3 : w.cell? ⟨b, 3, none⟩ = some u
end Go.Proofs.YtcaficenocblfaaGreatDoor
set_option linter.unusedVariables false
set_option linter.unusedSimpArgs false
namespace Go.Proofs.YtcaficenocblfaaGreatDoor
open Go.RowKit

def MT (w : World) : Prop := TabAt w
theorem MT.later {w w' : World} (h : MT w) (hb : Below w.heap.size w w') : MT w' := TabAt.later h hb
def Rt (f : Nat → Int) (m : Nat) : Prop := 2 ≤ m ∧ m ≤ 6 ∧ szB f m
theorem Rt.szs {f : Nat → Int} {m : Nat} (h : Rt f m) : ∃ z : Nat → Nat, Szs z m ∧ ∀ i, i < m → f i = ((z i : Nat) : Int) := by
  obtain ⟨h1, h2, h3⟩ := h
  refine ⟨fun i => (f i).toNat, ⟨h1, h2, fun i hi => ?_⟩, fun i hi => ?_⟩
  · have := h3 i hi
    show 1 ≤ (f i).toNat ∧ (f i).toNat ≤ 64
    omega
  · have := h3 i hi
    show f i = (((f i).toNat : Nat) : Int)
    omega
def Emp (v : Value) : Prop := ∃ (ad : Option Addr) (cap : Nat), v = .slice ad 0 cap
def rfE (f : Nat → Int) (m lp lx lt : Nat) (L : Int) (cp z0 zl : Nat) (E : Int) : Prop := (¬ Rt f m → E = 70) ∧ (Rt f m → ¬ (L = 1 ∨ L = 2) → E = 71) ∧ (Rt f m → (L = 1 ∨ L = 2) → ¬ (lp = cp ∧ lx = z0 ∧ lt = zl) → E = 40) ∧ (Rt f m → (L = 1 ∨ L = 2) → (lp = cp ∧ lx = z0 ∧ lt = zl) → E = 0)
structure Mlp4 : Prop where
  gradU : ∀ (s : Bool) (vs vp vx vt : Value) (m cp : Nat) (z : Nat → Nat) (P x t : Nat → Int) (d : Nat) (c : Int) (w : World), 0 ≤ c → c ≤ 100000 → Ar w vs m (fun i => ((z i : Nat) : Int)) → Ar w vp cp P → Ar w vx (z 0) x → Ar w vt (z (m - 1)) t → Szs z m → cp = fsN z (m - 1) → Nb vs d → Nb vp d → Nb vx d → Nb vt d → Uc w d c → MT w →
    Calls Tryz.prog 15 #[.pointer (some ⟨d, 0, none⟩), .int .i64 (lsK s), vs, vp, .agg #[vx, vt]] w fun e w' => ∃ v', e = .returned (.tuple #[v', .int .i64 (gdX s z m P x t), .int .i64 0]) ∧ Ar w' v' cp (gdG s z m P x t) ∧ Ow w.heap.size v' ∧ Un d (c + gdC s z m P x t) w w'
  gradN : ∀ (s : Bool) (vs vp vx vt : Value) (m cp : Nat) (z : Nat → Nat) (P x t : Nat → Int) (w : World), Ar w vs m (fun i => ((z i : Nat) : Int)) → Ar w vp cp P → Ar w vx (z 0) x → Ar w vt (z (m - 1)) t → Szs z m → cp = fsN z (m - 1) → MT w →
    Calls Tryz.prog 15 #[.pointer none, .int .i64 (lsK s), vs, vp, .agg #[vx, vt]] w fun e w' => ∃ v', e = .returned (.tuple #[v', .int .i64 (gdX s z m P x t), .int .i64 0]) ∧ Ar w' v' cp (gdG s z m P x t) ∧ Ow w.heap.size v' ∧ Below w.heap.size w w'
  gradE : ∀ (L : Int) (vs vp vx vt : Value) (m lp lx lt : Nat) (f P x t : Nat → Int) (z : Nat → Nat) (E : Int) (d : Nat) (c : Int) (w : World), m ≤ 100000 → Ar w vs m f → Ar w vp lp P → Ar w vx lx x → Ar w vt lt t → (∀ i, i < m → Rt f m → f i = ((z i : Nat) : Int)) → rfE f m lp lx lt L (fsN z (m - 1)) (z 0) (z (m - 1)) E → E ≠ 0 → Uc w d c → MT w →
    Calls Tryz.prog 15 #[.pointer (some ⟨d, 0, none⟩), .int .i64 L, vs, vp, .agg #[vx, vt]] w fun e w' => ∃ v', e = .returned (.tuple #[v', .int .i64 0, .int .i64 E]) ∧ Emp v' ∧ Un d c w w'
set_option maxRecDepth 100000 in
set_option maxHeartbeats 4000000 in
theorem plain7_any (va : Value) (n : Nat) (f : Nat → Int) (hn : n ≤ 70000) (w : World) (hA : Ar w va n f) :
    Calls Tryz.prog 9 #[va] w fun e w' => ∃ v', e = .returned v' ∧ Ar w' v' n f ∧ Ow w.heap.size v' ∧ Below w.heap.size w w' := by
  obtain ⟨i0, hi, hz0, hz1, hz2⟩ := info_parts dinfo_i64
  obtain ⟨adr, cap, b, o, rfl, k1, k2, k3, k4⟩ := hA
  unfold maxLen at k2
  have HA : Hid (∀ k, k < n → w.cell? ⟨b, o + k, none⟩ = some (.int .i64 (f k)) ∧ -9223372036854775808 ≤ f k ∧ f k ≤ 9223372036854775807) := k4
  have HK : Hid (0 < n → adr = some ⟨b, o, none⟩) := k3
  clear k3 k4
  go_enter Tryz.func9, Tryz.ntmps9
  go_wp2_with (at_make; refine wpList_make_own _ rfl _ _ 45 rfl w.heap.size 2 i0 (.int .i64 0) 1 Tryz.underlying45 hi hz0 hz1 .i64 .i64 (n : Int) n rfl rfl rfl (by rw [hz2]; omega) (by unfold maxLen; omega) (Nat.le_refl _) ?_; intro w1 hown hgrow)
  have hW1 : Below w.heap.size w w1 := (Below.refl _ w).grown hgrow (Nat.le_refl _) (fun k hk => by cases hk)
  clear hgrow
  go_wp2
  go_loopw [3, 11] (fun s3 s11 wr => ∃ j : Nat, j ≤ n ∧ s3 = .slice (some ⟨w.heap.size, 0, none⟩) j n ∧ s11 = .int .i64 (j : Int) ∧ wr.ownsRow w.heap.size 2 1 (.slice (some ⟨w.heap.size, 0, none⟩) j n) j (il f j) ∧ Below w.heap.size w wr) (fun _ s11 _ => n - (intOf s11).toNat)
  case atStart => exact ⟨0, by omega, rfl, rfl, hown, hW1⟩
  case round =>
    clear hown hW1
    obtain ⟨j, hj, rfl, rfl, hown, hW⟩ := hrel
    by_cases hlt : j < n
    · have hjI : (j : Int) < (n : Int) := by omega
      have ea := HK.out (by omega)
      subst ea
      obtain ⟨ca, a0, a1⟩ := HA.out j hlt
      have cA : wr.cell? ⟨b, o + j, none⟩ = some (.int .i64 (f j)) := (hW.cell (World.block_lt_of_cell? _ _ ca)).trans ca
      have bA := World.block_lt_of_cell? _ _ ca
      clear ca
      go_wp2_with (at_builtin; refine wpList_append_fits _ rfl _ _ 45 rfl w.heap.size 2 i0 1 Tryz.underlying45 hi hz1 w.heap.size j n _ rfl (hown.alloc _) ⟨wr.heap.size, 0, none⟩ 1 1 [.int .i64 (f j)] rfl rfl (cell_one_new _ _ _) (ints_oneCell .i64 [f j]) (by omega) ?_; intro w2 hown' hgrow)
      have hown3 : w2.ownsRow w.heap.size 2 1 (.slice (some ⟨w.heap.size, 0, none⟩) (j + 1) n) (j + 1) (il f (j + 1)) := by rw [il_succ]; exact hown'
      have hW3 : Below w.heap.size w w2 := dbelow_grown' hown hW hgrow rfl
      clear hown' hgrow hown hW
      go_wp2
      go_roundw
      case rel => exact ⟨j + 1, by omega, rfl, by go_num, hown3, hW3⟩
      case measure => simp [intOf]; omega
    · obtain rfl : j = n := by omega
      have HR : Hid (Ar wr (.slice (some ⟨w.heap.size, 0, none⟩) j j) j f ∧ Ow w.heap.size (.slice (some ⟨w.heap.size, 0, none⟩) j j)) := ar_of_own hown (fun k hk => (HA.out k hk).2)
      have HW : Hid (Below w.heap.size w wr) := hW
      clear hown hW
      go_wp2
      go_ret
      exact ⟨_, rfl, HR.out.1, HR.out.2, HW.out⟩
def shB (ns : Nat → Nat) (m : Nat) : Bool := (List.range m).all (fun k => decide (ns k ≤ 100))
theorem shB_no (ns : Nat → Nat) (m k : Nat) (hk : k < m) (h : 100 < ns k) : shB ns m = false := by
  cases hb : shB ns m with
  | false => rfl
  | true =>
    have := of_decide_eq_true (List.all_eq_true.1 hb k (List.mem_range.2 hk))
    omega
theorem shB_yes (ns : Nat → Nat) (m : Nat) (h : ∀ k, k < m → ns k ≤ 100) : shB ns m = true := List.all_eq_true.2 fun k hk => decide_eq_true (h k (List.mem_range.1 hk))
theorem shB_le (ns : Nat → Nat) (m : Nat) (h : shB ns m = true) (k : Nat) (hk : k < m) : ns k ≤ 100 := of_decide_eq_true (List.all_eq_true.1 h k (List.mem_range.2 hk))
set_option maxHeartbeats 1000000 in
theorem short_any (g m cap : Nat) (ns : Nat → Nat) (hm : m ≤ 5) (h1 : m ≤ cap) (h2 : cap ≤ 100) (w : World) (hc : ∀ k, k < m → ns k ≤ maxLen ∧ ∃ (ad : Option Addr) (ca : Nat), w.cell? ⟨g, k, none⟩ = some (.slice ad (ns k) ca)) :
    Calls Tryz.prog 7 #[.slice (some ⟨g, 0, none⟩) m cap] w fun e w' => e = .returned (.bool (shB ns m)) ∧ w' = w := by
  have HC : Hid (∀ k, k < m → ns k ≤ maxLen ∧ ∃ (ad : Option Addr) (ca : Nat), w.cell? ⟨g, k, none⟩ = some (.slice ad (ns k) ca)) := hc
  clear hc
  obtain ⟨R, hR⟩ : ∃ R, shB ns m = R := ⟨_, rfl⟩
  have HR : Hid (shB ns m = R) := hR
  rw [hR]
  clear hR
  go_enter Tryz.func7, Tryz.ntmps7
  go_wp2
  go_loopw [7] (fun s7 wr => ∃ j : Nat, j ≤ m ∧ s7 = .int .i64 (j : Int) ∧ Hid (∀ k, k < j → ns k ≤ 100) ∧ wr = w) (fun s7 _ => m - (intOf s7).toNat)
  case atStart => exact ⟨0, by omega, rfl, fun k hk => by omega, rfl⟩
  case round =>
    obtain ⟨j, hj, rfl, hA, rfl⟩ := hrel
    by_cases hlt : j < m
    · have hjI : (j : Int) < (m : Int) := by omega
      obtain ⟨hl, ad, ca, hcell⟩ := HC.out j hlt
      unfold maxLen at hl
      by_cases h100 : ns j ≤ 100
      · have h2 : ¬ (100 : Int) < ((ns j : Nat) : Int) := by omega
        have HA2 : Hid (∀ k, k < j + 1 → ns k ≤ 100) := fun k hk => by
          rcases Nat.lt_or_ge k j with h | h
          · exact hA.out k h
          · obtain rfl : k = j := by omega
            exact h100
        clear hA h100
        go_wp2
        go_roundw
        case rel => exact ⟨j + 1, by omega, by go_num, HA2, trivial⟩
        case measure => simp [intOf]; omega
      · have h2 : (100 : Int) < ((ns j : Nat) : Int) := by omega
        have HF : Hid (R = false) := by show _ = _; rw [← HR.out]; exact shB_no ns m j hlt (by omega)
        clear hA h100 HR
        go_wp2
        go_ret
        exact ⟨by rw [HF.out]; rfl, rfl⟩
    · have HF : Hid (R = true) := by show _ = _; rw [← HR.out]; exact shB_yes ns m (fun k hk => hA.out k (by omega))
      have hjI : ¬ (j : Int) < (m : Int) := by omega
      clear hA HR
      go_wp2
      go_ret
      exact ⟨by rw [HF.out]; rfl, rfl⟩
end Go.Proofs.YtcaficenocblfaaGreatDoor
set_option linter.unusedVariables false
set_option linter.unusedSimpArgs false
namespace Go.Proofs.YtcaficenocblfaaGreatDoor
open Go.RowKit
theorem ux_un {d : Nat} {c : Int} {w w' : World} (h : Ux (some ⟨d, 0, none⟩) c w w') : Un d c w w' := by
  rcases h with ⟨h, -⟩ | ⟨d', h, -, hU⟩
  · cases h
  · cases h
    exact hU
theorem ux_nil {c : Int} {w w' : World} (h : Ux none c w w') : Below w.heap.size w w' := by
  rcases h with ⟨-, h⟩ | ⟨d', h, -, hU⟩
  · exact h
  · cases h
theorem up_some {d : Nat} {c : Int} {w : World} (h : Uc w d c) : Up (some ⟨d, 0, none⟩) c w := Or.inr ⟨d, rfl, h⟩
end Go.Proofs.YtcaficenocblfaaGreatDoor
