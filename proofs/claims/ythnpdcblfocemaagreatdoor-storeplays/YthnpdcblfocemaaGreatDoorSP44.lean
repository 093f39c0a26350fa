/-
  Texts of this proof, joined: TqF.
-/
import Derived.Test.YthnpdcblfocemaaGreatDoorSP43
set_option linter.unusedVariables false
set_option linter.unusedSimpArgs false
namespace Go.Proofs.YthnpdcblfocemaaGreatDoor
open Go.RowKit

theorem Bz.fin0 {V : Disk1} {S : Snap1 V} {J : Jour1 V} {w : World} {c B : Nat} {a b : Addr} {d : Value} {F G F' G1 G2 : Nat → Prop} {s : Dsk} {room m : Nat} {j : Jst} {bg : Bool} {n : Int} {X : World} (h : Bz S J w c B a b d F G F' G1 G2 s room m j bg n X) (hv : bg = true → j.gen ≠ 0) :
    ∃ F' G', V.Dt X d F' s ∧ Stq S J X (.pointer (some ⟨c, 0, none⟩)) d G' room m ⟨j, bg⟩ ∧ (∀ k, F' k → ¬ G' k) ∧ Gr F F' w ∧ Gr G G' w ∧ Kp (fun k => F k ∨ G k) w X := by
  refine ⟨F', fun k => k = c ∨ G1 k ∨ G2 k, h.dd, ⟨c, a, b, G1, G2, rfl, h.p, h.ss, h.jj, h.g12, h.gc1, h.gc2, fun _ => Iff.rfl, hv⟩, ?_, h.gf, ?_, h.k⟩
  · intro k hf hg
    rcases hg with e | e | e
    · exact h.fc (e ▸ hf)
    · exact h.fg1 k hf e
    · exact h.fg2 k hf e
  · intro k hg
    rcases hg with e | e | e
    · exact Or.inl (e ▸ h.gc)
    · exact Or.inl (h.g1 k e)
    · exact h.gg k e
set_option maxRecDepth 100000 in
set_option maxHeartbeats 8000000 in
theorem append18 (V : Disk1) (S : Snap1 V) (J : Jour1 V) (w : World) (q d : Value) (F G : Nat → Prop) (s : Dsk) (room m : Nat) (j : Sst) (v : Value) (r : List Nat) (h : Stq S J w q d G room m j) (hD : V.Dt w d F s) (hd : ∀ k, F k → ¬ G k) (hT : S8 w) (hN : ∀ k, F k ∨ G k → Ng8 k) (hm : s.bl.length = m) (hr : fb18 room + 1 ≤ m) (hm9 : m ≤ 900) (hu : s.un.length ≤ 100) (hnx : j.j.next ≤ m - fb18 room) (hjn : j.j.n ≤ 1000000) (hjg : j.j.gen < 9223372036854775808) (hv : Bs w v r) (hf : Nf F v) (hg : Nf G v) (hx : ∀ x ∈ r, x < 256) (hl : r.length ≤ 1000000) :
    Calls Tryz.prog 11 #[q, v] w fun e w' => e = .returned (.int .i64 (((apS s room j r).1 : Nat) : Int)) ∧ ∃ F' G', V.Dt w' d F' (apS s room j r).2.1 ∧ Stq S J w' q d G' room m (apS s room j r).2.2 ∧ (∀ k, F' k → ¬ G' k) ∧ Gr F F' w ∧ Gr G G' w ∧ Kp (fun k => F k ∨ G k) w w' := by
  obtain ⟨c, a, b, G1, G2, rfl, hp, hS, hJ, h12, h1c, h2c, hG, hgen⟩ := h
  have H0' := bz_start hp hS hJ h12 h1c h2c hG hD hd
  have kA : Below w.heap.size w ((w.alloc (.cells #[.pointer (some ⟨c, 0, none⟩)] 29)).alloc (.cells #[.int .i64 0] 26)) := (bel1 _ _).alloc (by simp) _
  obtain ⟨wA, hwA⟩ : ∃ wA, wA = (w.alloc (.cells #[.pointer (some ⟨c, 0, none⟩)] 29)).alloc (.cells #[.int .i64 0] 26) := ⟨_, rfl⟩
  rw [← hwA] at H0' kA
  have H0 : Hid (Bz S J w c w.heap.size a b d F G F G1 G2 s room m j.j j.bg 0 wA) := H0'
  have hmf : ∀ (fn : Fn) (first cap : Array Value) (w : World), (Instr.makeFunc fn first cap).run Tryz.prog w = .ok (.func fn first cap) w := fun _ _ _ _ => rfl
  obtain ⟨bg, hbg⟩ : ∃ bg, j.bg = bg := ⟨_, rfl⟩
  cases bg with
  | false =>
    have hval : apS s room j r = (180, s, j) := by unfold apS; rw [if_pos hbg]
    rw [hval]
    obtain ⟨ad, cap, rfl, -, -⟩ := hv.len
    have hmd := made18 H0.out.p
    have x0 := H0.out.x0
    have x1 := H0.out.x1
    have f1 := H0.out.f1
    have c2 := H0.out.p.c2
    rw [hbg] at c2
    have HG : Hid (j.bg = true → j.j.gen ≠ 0) := hgen
    clear H0' kA hp hS hJ h12 h1c h2c hG hgen hD hd hT hN hm hr hm9 hu hnx hjn hjg hv hf hg hx hl hval
    go_enter_defers Tryz.func11, Tryz.ntmps11
    go_upto_region 1 with fail
    rw [← hwA]
    clear hwA
    go_wp2_with (go_at_call 31; refine hmd.mono ?_; rintro e w' ⟨rfl, hw⟩; replace hw := hw.symm; subst hw; clear hmd)
    have HE := H0.out.e 180
    have hF := HE.fin0 HG.out
    have z0 := HE.x1
    exact ⟨.int .i64 180, by simp [results, Tryz.results11, go_sem, z0], rfl, hF⟩
  | true =>
    have hg0 := hgen hbg
    have hfz : fz18 s room = m - fb18 room := by unfold fz18; rw [hm]
    have hval := apS_unh s room j r hbg hg0 (by omega) (by omega)
    rw [hfz] at hval
    have hgn := japp_gen s (fb18 room) (m - fb18 room) j.j r hg0 (by omega) hnx
    have C := J.append wA (.pointer (some b)) d F G2 s (fb18 room) (m - fb18 room) j.j v r H0.out.jj H0.out.dd H0.out.fg2 (hT.later kA).2 (fun k hk => (hN k (Or.inl hk)).2) (fun k hk => (hN k (Or.inr ((hG k).2 (Or.inr (Or.inr hk))))).2) (by omega) (by omega) hu hnx hjn hjg (hv.later kA) hf (fun a' n c' e hn q => hg a' n c' e hn ((hG _).2 (Or.inr (Or.inr q)))) hx hl
    obtain ⟨R, hR⟩ : ∃ R, japp s (fb18 room) (m - fb18 room) j.j r = R := ⟨_, rfl⟩
    obtain ⟨en, sv, jv⟩ := R
    rw [hR] at hval hgn C
    dsimp only at hval hgn C
    rw [hval]
    have HGn : Hid (unh (en : Int) = true → jv.gen ≠ 0) := hgn
    obtain ⟨ad, cap, rfl, -, -⟩ := hv.len
    have hmd := made18 H0.out.p
    have x0 := H0.out.x0
    have x1 := H0.out.x1
    have c1 := H0.out.p.c1
    have c2 := H0.out.p.c2
    rw [hbg] at c2
    clear H0' kA hp hS hJ h12 h1c h2c hG hgen hD hd hT hN hm hr hm9 hu hnx hjn hjg hv hf hg hx hl hval hR hgn hfz hg0
    go_enter_defers Tryz.func11, Tryz.ntmps11
    go_upto_region 1 with fail
    rw [← hwA]
    clear hwA
    go_upto_region 6 with (go_at_call 31; refine hmd.mono ?_; rintro e w' ⟨rfl, hw⟩; replace hw := hw.symm; subst hw; clear hmd)
    go_wp2_with (go_at_call 34; refine C.mono ?_; rintro e wB ⟨rfl, F1, G3, a1, a2, a3, a4, a5, a6⟩; clear C; have HS' := H0.out.both a1 a2 a3 a4 a5 a6; have HB : Hid (Bz S J w c w.heap.size a b d F G F1 G1 G3 sv room m jv j.bg 0 wB) := hid5 HS'; have y1 := HS'.x1; have z1 := HS'.f1; clear HS' a1 a2 a3 a4 a5 a6 x0 x1 c1 c2)
    have HZ : Hid (Bz S J w c w.heap.size a b d F G F1 G1 G3 sv room m jv j.bg en (wB.setCell ⟨w.heap.size + 1, 0, none⟩ (.int .i64 en))) := HB.out.e en
    clear y1 z1 HB H0
    generalize wB.setCell ⟨w.heap.size + 1, 0, none⟩ (.int .i64 en) = Y at *
    refine leaves_cons (f := 32) (args := #[.pointer (some ⟨w.heap.size + 1, 0, none⟩), .pointer (some ⟨w.heap.size, 0, none⟩)]) (by simp) (by simp [go_sem]) ?_
    refine (appdef18 Y w.heap.size (w.heap.size + 1) c a b j.bg en _ HZ.out.p HZ.out.x0 HZ.out.x1).mono ?_
    rintro e u' w'' ⟨rfl, rfl, W, k1, k2, rfl⟩
    have hF := (HZ.out.later k1).fin (unh en) HGn.out
    have z0 := hF.1
    exact ⟨.int .i64 en, by simp [results, Tryz.results11, go_sem, z0], rfl, hF.2⟩
set_option maxRecDepth 100000 in
theorem left18 (V : Disk1) (S : Snap1 V) (J : Jour1 V) (w : World) (q d : Value) (F G : Nat → Prop) (s : Dsk) (room m : Nat) (j : Sst) (h : Stq S J w q d G room m j) (hD : V.Dt w d F s) (hnx : j.j.next ≤ m - fb18 room) :
    Calls Tryz.prog 22 #[q] w fun e w' => e = .returned (.int .i64 ((if j.bg = false then 0 else (m - fb18 room) - j.j.next : Nat) : Int)) ∧ Below w.heap.size w w' := by
  obtain ⟨c, a, b, G1, G2, rfl, hp, hS, hJ, h12, h1c, h2c, hG, hgen⟩ := h
  have hb := begun18 hp
  have c1 := hp.c1
  obtain ⟨bg, hbg⟩ : ∃ bg, j.bg = bg := ⟨_, rfl⟩
  rw [hbg] at hb
  cases bg with
  | false =>
    rw [if_pos hbg]
    clear hp hS hJ h12 h1c h2c hG hgen hD hnx
    go_enter Tryz.func22, Tryz.ntmps22
    go_wp2_with (go_at_call 24; refine hb.mono ?_; rintro e w' ⟨rfl, hw⟩; replace hw := hw.symm; subst hw; clear hb)
    go_ret
    exact ⟨rfl, Below.refl _ _⟩
  | true =>
    have C := J.left w (.pointer (some b)) d F G2 s (fb18 room) (m - fb18 room) j.j hJ hD hnx
    rw [if_neg (hgen hbg)] at C
    rw [if_neg (by rw [hbg]; simp)]
    obtain ⟨L, hL⟩ : ∃ L, m - fb18 room - j.j.next = L := ⟨_, rfl⟩
    rw [hL] at C ⊢
    clear hp hS hJ h12 h1c h2c hG hgen hD hnx hL
    go_enter Tryz.func22, Tryz.ntmps22
    go_upto_region 3 with (go_at_call 24; refine hb.mono ?_; rintro e w' ⟨rfl, hw⟩; replace hw := hw.symm; subst hw; clear hb)
    go_wp2_with (go_at_call 44; refine C.mono ?_; rintro e w2 ⟨rfl, hk⟩; clear C; have HK : Hid (Below w.heap.size w w2) := hid5 hk; clear hk)
    go_ret
    exact ⟨rfl, HK.out⟩
def store1 : Store1 disk1 where
  St := fun w q d G room m j => Stq snap1 jour1 w q d G room m j
  stK := fun h k hs => by
    obtain ⟨c, a, b, G1, G2, e1, hp, hS, hJ, h12, h1c, h2c, hG, hgen⟩ := h
    exact ⟨c, a, b, G1, G2, e1, hp.kept (k c ((hG c).2 (Or.inl rfl))), snap1.stK hS (fun i hi => k i ((hG i).2 (Or.inr (Or.inl hi)))), jour1.jtK hJ (fun i hi => k i ((hG i).2 (Or.inr (Or.inr hi)))) hs, h12, h1c, h2c, hG, hgen⟩
  stB := fun h k hk => by
    obtain ⟨c, a, b, G1, G2, e1, hp, hS, hJ, h12, h1c, h2c, hG, hgen⟩ := h
    rcases (hG k).1 hk with e | e | e
    · rw [e]; exact hp.lt
    · exact snap1.stB hS k e
    · exact jour1.jtB hJ k e
  openY := fun w d F s room hD hT h1 h2 hr hbl hu hd => (openY18 disk1 snap1 jour1 jourB w d F s room hD hT h1 h2 hr hbl hu hd).mono fun e w' ⟨c, a, b, G1, G2, vb, vl, e1, hp, hS, hJ, h12, h1c, h2c, hG, hTd, hk⟩ =>
    ⟨⟨c, 0, none⟩, fun k => k = c ∨ G1 k ∨ G2 k, vb, vl, e1, ⟨c, a, b, G1, G2, rfl, hp, hS, hJ, h12, h1c, h2c, fun _ => Iff.rfl, fun e => by cases e⟩, hG, hTd, hk⟩
  openD := fun w d F s room hD hT h1 h2 hr hbl hu hd => openD18 disk1 snap1 jour1 jourB w d F s room hD hT h1 h2 hr hbl hu hd
  openN := fun w d F s room hD hT hm hno => openN18 disk1 snap1 jour1 w d F s room hD hm (by obtain ⟨_, _, _, _, _, h⟩ := id hD; exact h.n2) hno
  save := fun w q d F G s room m j v b h hD hd hT hN hm h1 h2 hr hm9 hu hv hf hg hx hl => save18 disk1 snap1 jour1 w q d F G s room m j v b h hD hd hT hN hm h1 h2 hr hm9 hu hv hf hg hx hl
  append := fun w q d F G s room m j v r h hD hd hT hN hm hr hm9 hu hnx hjn hjg hv hf hg hx hl => append18 disk1 snap1 jour1 w q d F G s room m j v r h hD hd hT hN hm hr hm9 hu hnx hjn hjg hv hf hg hx hl
  left := fun w q d F G s room m j h hD hm hnx hgen => left18 disk1 snap1 jour1 w q d F G s room m j h hD hnx
  begun := fun w q d G room m j h => by
    obtain ⟨c, a, b, G1, G2, rfl, hp, -⟩ := h
    exact (begun18 hp).mono fun e w' ⟨e1, e2⟩ => ⟨e1, by rw [e2]; exact Below.refl _ _⟩
end Go.Proofs.YthnpdcblfocemaaGreatDoor
