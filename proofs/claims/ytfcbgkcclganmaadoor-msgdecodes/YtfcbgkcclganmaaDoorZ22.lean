/-
Layer 14's msg: held, and how it catches what gives up.
Layer 14's msg: Decode; all contracts of msg.
-/
import Derived.Test.YtfcbgkcclganmaaDoorZ21

set_option linter.unusedVariables false
set_option linter.unusedSimpArgs false
namespace Go.Proofs.YtfcbgkcclganmaaDoor
open Go.RowKit

theorem rw_drew14 {b n : Nat} {f : Nat → Value} {W : World} (r : Rw b n f W) : Rw b n f W.drew := ⟨r.c, r.f⟩
/-- Two boxes written. -/
def Cm (g h : Nat) (w w' : World) : Prop := Kp (fun i => i = g ∨ i = h) w w' ∧ Rw g 8 (mf ms0 (.slice none 0 0)) w' ∧ Rw h 1 (fun _ => .int .i64 140) w'
set_option maxRecDepth 100000 in
set_option maxHeartbeats 1000000 in
theorem catchM_panicking (g h : Nat) (f : Nat → Value) (v2 : Value) (older : List PanicEntry) (w : World) (r : Rw g 8 f w) (r2 : Rw h 1 (fun _ => v2) w) (hne : g ≠ h) :
    CallsD Tryd.prog 48 #[.pointer (some ⟨g, 0, none⟩), .pointer (some ⟨h, 0, none⟩)] (.panicking ({ v := .iface 28 (.int .i64 140), recovered := false } :: older)) w fun d u' w' =>
      d = .returned (.tuple #[]) ∧ u' = .panicking ({ v := .iface 28 (.int .i64 140), recovered := true } :: older) ∧ Cm g h w w' := by
  have has := fun (W : World) => asErrno (.int .i64 140) 20 W
  have HR : Hid (Rw g 8 f w ∧ Rw h 1 (fun _ => v2) w) := ⟨r, r2⟩
  have z0 := r.c 0 (by omega)
  have t0 := r.f 0 (by omega)
  have z1 := r.c 1 (by omega)
  have t1 := r.f 1 (by omega)
  have z2 := r.c 2 (by omega)
  have t2 := r.f 2 (by omega)
  have z3 := r.c 3 (by omega)
  have t3 := r.f 3 (by omega)
  have z4 := r.c 4 (by omega)
  have t4 := r.f 4 (by omega)
  have z5 := r.c 5 (by omega)
  have t5 := r.f 5 (by omega)
  have z6 := r.c 6 (by omega)
  have t6 := r.f 6 (by omega)
  have z7 := r.c 7 (by omega)
  have t7 := r.f 7 (by omega)
  have y0 := r2.c 0 (by omega)
  have q0 := r2.f 0 (by omega)
  clear r r2
  refine callsD_of_wpS Tryd.func48 rfl fun c₀ cs hu => ?_
  simp only [Tryd.ntmps48, List.size_toArray, List.length_cons, List.length_nil, Nat.reduceAdd, Nat.reduceSub, Array.replicate_succ, Array.replicate_zero, List.push_toArray, List.append_toArray, List.nil_append, List.cons_append]
  apply wpS_seq
  apply wpS_region
  have hc : recoverD (c₀ :: cs) = some (.iface 28 (.int .i64 140), { c₀ with mode := .panicking ({ v := .iface 28 (.int .i64 140), recovered := true } :: older) } :: cs) := by
    simp [recoverD, hu]
  refine opsS_recover (i := 0) rfl (by kernel_rfl) rfl hc ?_
  simp only [Act.put, List.setIfInBounds_toArray, List.set_cons_zero, List.set_cons_succ]
  refine opsS_val (i := 1) (.iface 28 (.int .i64 140)) rfl (by kernel_rfl) (by kernel_rfl) ?_
  simp only [Act.put, List.setIfInBounds_toArray, List.set_cons_zero, List.set_cons_succ]
  refine wpS_of_wp ?_
  clear hc
  go_wp2
  go_region
  all_goals (try go_wp2)
  all_goals refine ⟨rfl, _, rfl, _, results_none rfl _ _ _, rfl, rfl, ?_⟩
  all_goals
    have hK : Kp (fun i => i = g ∨ i = h) w w := Kp.refl _ _
    have e1 := mf_put8 HR.out.1 ms0 (.slice none 0 0)
    have e2 := HR.out.2
    refine ⟨?_, ?_, ?_⟩
    · exact (((((((((hK.set (p := ⟨g, 0, none⟩) (Or.inl (Or.inl rfl)) _).set (p := ⟨g, 1, none⟩) (Or.inl (Or.inl rfl)) _).set (p := ⟨g, 2, none⟩) (Or.inl (Or.inl rfl)) _).set (p := ⟨g, 3, none⟩) (Or.inl (Or.inl rfl)) _).set (p := ⟨g, 4, none⟩) (Or.inl (Or.inl rfl)) _).set (p := ⟨g, 5, none⟩) (Or.inl (Or.inl rfl)) _).set (p := ⟨g, 6, none⟩) (Or.inl (Or.inl rfl)) _).set (p := ⟨g, 7, none⟩) (Or.inl (Or.inl rfl)) _).set (p := ⟨h, 0, none⟩) (Or.inl (Or.inr rfl)) _).drew
    · exact rw_drew14 (e1.far (p := ⟨h, 0, none⟩) (.int .i64 140) (fun e => hne e.symm))
    · have e3 := (((((((((e2.far (p := ⟨g, 0, none⟩) (.int .i64 0) hne).far (p := ⟨g, 1, none⟩) (.int .i64 0) hne).far (p := ⟨g, 2, none⟩) (.int .i64 0) hne).far (p := ⟨g, 3, none⟩) (.int .i64 0) hne).far (p := ⟨g, 4, none⟩) (.int .i64 0) hne).far (p := ⟨g, 5, none⟩) (.int .i64 0) hne).far (p := ⟨g, 6, none⟩) (.int .i64 0) hne).far (p := ⟨g, 7, none⟩) (.slice none 0 0) hne).set 0 (.int .i64 140)).congr (g := fun _ => .int .i64 140) (fun k hk => by have e0 : k = 0 := (by omega); subst e0; rfl)
      exact rw_drew14 e3
set_option maxRecDepth 100000 in
set_option maxHeartbeats 400000 in
theorem catchM_idle (g h : Nat) (w : World) :
    CallsD Tryd.prog 48 #[.pointer (some ⟨g, 0, none⟩), .pointer (some ⟨h, 0, none⟩)] .returning w fun d u' w' => d = .returned (.tuple #[]) ∧ u' = .returning ∧ w' = w := by
  refine callsD_of_wpS Tryd.func48 rfl fun c₀ cs hu => ?_
  simp only [Tryd.ntmps48, List.size_toArray, List.length_cons, List.length_nil, Nat.reduceAdd, Nat.reduceSub, Array.replicate_succ, Array.replicate_zero, List.push_toArray, List.append_toArray, List.nil_append, List.cons_append]
  apply wpS_seq
  apply wpS_region
  have hc : recoverD (c₀ :: cs) = none := by
    simp [recoverD, hu]
  refine opsS_idle (i := 0) rfl (by kernel_rfl) rfl hc ?_
  simp only [Act.put, List.setIfInBounds_toArray, List.set_cons_zero, List.set_cons_succ]
  refine opsS_val (i := 1) .nilIface rfl (by kernel_rfl) (by kernel_rfl) ?_
  simp only [Act.put, List.setIfInBounds_toArray, List.set_cons_zero, List.set_cons_succ]
  refine wpS_of_wp ?_
  clear hc
  go_wp2
  refine ⟨rfl, .returning, ?_, _, results_none rfl _ _ _, rfl, rfl, rfl⟩
  cases c₀
  simp_all
/-- The three boxes of held. -/
structure Hb (b : Nat) (k : Int) (vp : Value) (w w' : World) : Prop where
  c0 : w'.cell? ⟨b, 0, none⟩ = some (.int .i64 k)
  c1 : w'.cell? ⟨b, 1, none⟩ = some vp
  m : Rw (b + 1) 8 (mf ms0 (.slice none 0 0)) w'
  e : Rw (b + 1 + 1) 1 (fun _ => .int .i64 0) w'
  bl : Below w.heap.size w w'
  lo : w.heap.size ≤ b
theorem Hb.new (w : World) (k : Int) (vp : Value) : Hb w.heap.size k vp w (((w.alloc (.cells #[.int .i64 k, vp] 62)).alloc (.cells #[.int .i64 0, .int .i64 0, .int .i64 0, .int .i64 0, .int .i64 0, .int .i64 0, .int .i64 0, .slice none 0 0] 24)).alloc (.cells #[.int .i64 0] 28)) := by
  obtain ⟨wF, hwF⟩ : ∃ wF, wF = w.alloc (.cells #[.int .i64 k, vp] 62) := ⟨_, rfl⟩
  rw [← hwF]
  have c0 : wF.cell? ⟨w.heap.size, 0, none⟩ = some (.int .i64 k) := by rw [hwF]; simp [go_sem]
  have c1 : wF.cell? ⟨w.heap.size, 1, none⟩ = some vp := by rw [hwF]; simp [go_sem]
  have sF : wF.heap.size = w.heap.size + 1 := by rw [hwF]; simp
  have bF : Below w.heap.size w wF := by rw [hwF]; exact bel1 _ _
  clear hwF
  obtain ⟨wG, hwG⟩ : ∃ wG, wG = wF.alloc (.cells #[.int .i64 0, .int .i64 0, .int .i64 0, .int .i64 0, .int .i64 0, .int .i64 0, .int .i64 0, .slice none 0 0] 24) := ⟨_, rfl⟩
  rw [← hwG]
  have mG := mf_new wF ms0 (.slice none 0 0) 24
  have bG : Below wF.heap.size wF wG := by rw [hwG]; exact bel1 _ _
  have mG2 : Rw (w.heap.size + 1) 8 (mf ms0 (.slice none 0 0)) wG := by rw [hwG, ← sF]; exact mG
  have sG : wG.heap.size = w.heap.size + 1 + 1 := by rw [hwG]; simp [sF]
  clear hwG mG
  have bC : Below wG.heap.size wG (wG.alloc (.cells #[.int .i64 0] 28)) := bel1 _ _
  refine ⟨cell_later (bchain bG bC) c0, cell_later (bchain bG bC) c1, mG2.later bC, ?_, bchain (bchain bF bG) bC, Nat.le_refl _⟩
  rw [← sG]
  exact ⟨fun k hk => by obtain rfl : k = 0 := by omega
                        simp [go_sem], fun k hk => by simp [go_sem]⟩
theorem Hb.later {b : Nat} {k : Int} {vp : Value} {w w1 w2 : World} (h : Hb b k vp w w1) (q : Below w1.heap.size w1 w2) : Hb b k vp w w2 :=
  ⟨cell_later q h.c0, cell_later q h.c1, h.m.later q, h.e.later q, h.bl.trans (q.mono h.bl.size), h.lo⟩
theorem rgt_dec (m : Ms) : Rgt m ∨ ¬ Rgt m := Classical.em _
set_option maxRecDepth 100000 in
set_option maxHeartbeats 4000000 in
theorem heldNo (w : World) (k : Int) (vp : Value) (l : List Nat) (h : Bs w vp l) (hb : ∀ c ∈ l, c < 256) (hl : l.length ≤ 2000000) (hz : rdE (rdD k l) ≠ 0) :
    Calls Tryd.prog 31 #[.agg #[.int .i64 k, vp]] w fun e w' => ∃ vd, e = .returned (.tuple #[msV ms0 vd, .int .i64 140]) ∧ Bs w' vd [] ∧ Ow w.heap.size vd ∧ Below w.heap.size w w' := by
  have HZ : Hid (rdE (rdD k l) ≠ 0) := hz
  clear hz
  have HL : Hid (Bs w vp l ∧ (∀ c ∈ l, c < 256) ∧ ∃ u, l = u ∧ u.length ≤ 2000000) := ⟨h, hb, _, rfl, hl⟩
  obtain ⟨ad, cap, rfl, -, -⟩ := h.len
  have hmf : ∀ (fn : Fn) (first cap : Array Value) (w : World), (Instr.makeFunc fn first cap).run Tryd.prog w = .ok (.func fn first cap) w := fun _ _ _ _ => rfl
  clear h hb hl
  generalize l.length = n at *
  obtain ⟨wC, hwC⟩ : ∃ wC, wC = (((w.alloc (.cells #[.int .i64 k, .slice ad n cap] 62)).alloc (.cells #[.int .i64 0, .int .i64 0, .int .i64 0, .int .i64 0, .int .i64 0, .int .i64 0, .int .i64 0, .slice none 0 0] 24)).alloc (.cells #[.int .i64 0] 28)) := ⟨_, rfl⟩
  have HC : Hid (Hb w.heap.size k (.slice ad n cap) w wC) := by rw [hwC]; exact Hb.new w k _
  go_enter_defers Tryd.func31, Tryd.ntmps31
  go_upto_region 1 with fail
  rw [← hwC]
  clear hwC
  have x0 := HC.out.c0
  have x1 := HC.out.c1
  go_wp2_with fail
  refine (read14 wC k _ l (HL.out.1.later HC.out.bl) HL.out.2.1 (by obtain ⟨u, e, hu⟩ := HL.out.2.2; rw [e]; exact hu)).mono ?_
  intro e w1 hE
  obtain ⟨hBl, hE⟩ := hE
  have hE2 : e = .panicked [{ v := .iface 28 (.int .i64 140), recovered := false }] := by
    rcases hE with q | q
    · exact absurd q.1 HZ.out
    · exact q.2
  clear hE
  subst hE2
  have HC1 := HC.out.later hBl
  have HS : Hid (Rw (w.heap.size + 1) 8 (mf ms0 (.slice none 0 0)) w1 ∧ Rw (w.heap.size + 1 + 1) 1 (fun _ => .int .i64 0) w1 ∧ Below w.heap.size w w1) := ⟨HC1.m, HC1.e, HC1.bl⟩
  clear hBl HC1 HC x0 x1
  go_wp2
  refine leaves_cons (f := 48) (args := #[.pointer (some ⟨w.heap.size + 1, 0, none⟩), .pointer (some ⟨w.heap.size + 1 + 1, 0, none⟩)]) (by simp) (by simp [go_sem]) ?_
  refine (catchM_panicking _ _ _ _ [] w1 HS.out.1 HS.out.2.1 (by omega)).mono ?_
  rintro e u' w'' ⟨rfl, rfl, hC⟩
  obtain ⟨q1, q2, q3⟩ := hC
  have z0 := q2.c 0 (by omega)
  have z1 := q2.c 1 (by omega)
  have z2 := q2.c 2 (by omega)
  have z3 := q2.c 3 (by omega)
  have z4 := q2.c 4 (by omega)
  have z5 := q2.c 5 (by omega)
  have z6 := q2.c 6 (by omega)
  have z7 := q2.c 7 (by omega)
  have y0 := q3.c 0 (by omega)
  dsimp only [mf, ms0] at z0 z1 z2 z3 z4 z5 z6 z7 y0
  have hbl : Below w.heap.size w w'' := q1.next HS.out.2.2 (fun i hi => by rcases hi with r | r <;> omega) HS.out.2.2.size
  exact ⟨.tuple #[.agg #[.int .i64 0, .int .i64 0, .int .i64 0, .int .i64 0, .int .i64 0, .int .i64 0, .int .i64 0, .slice none 0 0], .int .i64 140], by simp [results, Tryd.results31, go_sem, z0, z1, z2, z3, z4, z5, z6, z7, y0], .slice none 0 0, rfl, bs_nil14 _, ow_nil14 _, hbl⟩
set_option maxRecDepth 100000 in
set_option maxHeartbeats 4000000 in
theorem heldBad (w : World) (k : Int) (vp : Value) (l : List Nat) (h : Bs w vp l) (hb : ∀ c ∈ l, c < 256) (hl : l.length ≤ 2000000) (hz : rdE (rdD k l) = 0) (hR : ¬ Rgt (rdM k l)) :
    Calls Tryd.prog 31 #[.agg #[.int .i64 k, vp]] w fun e w' => ∃ vd, e = .returned (.tuple #[msV ms0 vd, .int .i64 140]) ∧ Bs w' vd [] ∧ Ow w.heap.size vd ∧ Below w.heap.size w w' := by
  have HZ : Hid (rdE (rdD k l) = 0 ∧ ¬ Rgt (rdM k l)) := ⟨hz, hR⟩
  clear hz hR
  have HL : Hid (Bs w vp l ∧ (∀ c ∈ l, c < 256) ∧ ∃ u, l = u ∧ u.length ≤ 2000000) := ⟨h, hb, _, rfl, hl⟩
  obtain ⟨ad, cap, rfl, -, -⟩ := h.len
  have hmf : ∀ (fn : Fn) (first cap : Array Value) (w : World), (Instr.makeFunc fn first cap).run Tryd.prog w = .ok (.func fn first cap) w := fun _ _ _ _ => rfl
  clear h hb hl
  generalize l.length = n at *
  obtain ⟨wC, hwC⟩ : ∃ wC, wC = (((w.alloc (.cells #[.int .i64 k, .slice ad n cap] 62)).alloc (.cells #[.int .i64 0, .int .i64 0, .int .i64 0, .int .i64 0, .int .i64 0, .int .i64 0, .int .i64 0, .slice none 0 0] 24)).alloc (.cells #[.int .i64 0] 28)) := ⟨_, rfl⟩
  have HC : Hid (Hb w.heap.size k (.slice ad n cap) w wC) := by rw [hwC]; exact Hb.new w k _
  go_enter_defers Tryd.func31, Tryd.ntmps31
  go_upto_region 1 with fail
  rw [← hwC]
  clear hwC
  have x0 := HC.out.c0
  have x1 := HC.out.c1
  go_wp2_with fail
  refine (read14 wC k _ l (HL.out.1.later HC.out.bl) HL.out.2.1 (by obtain ⟨u, e, hu⟩ := HL.out.2.2; rw [e]; exact hu)).mono ?_
  intro e w1 hE
  obtain ⟨hBl, hE⟩ := hE
  have hE2 : ∃ vd, e = .returned (msV (rdM k l) vd) ∧ Bs w1 vd (rdM k l).d ∧ Ow wC.heap.size vd := by
    rcases hE with q | q
    · exact q.2
    · exact absurd HZ.out.1 q.1
  clear hE
  obtain ⟨vd, rfl, hD, hO⟩ := hE2
  have HC1 : Hid (Hb w.heap.size k (.slice ad n cap) w w1 ∧ w.heap.size + 2 < wC.heap.size) := ⟨HC.out.later hBl, HC.out.e.lt (by omega)⟩
  have HD : Hid (Bs w1 vd (rdM k l).d ∧ Ow wC.heap.size vd) := ⟨hD, hO⟩
  obtain ⟨av, pw, rfl, -, -⟩ := hD.len
  clear hBl hD hO HC x0 x1
  have z0 := HC1.out.1.m.c 0 (by omega)
  have t0 := HC1.out.1.m.f 0 (by omega)
  have z1 := HC1.out.1.m.c 1 (by omega)
  have t1 := HC1.out.1.m.f 1 (by omega)
  have z2 := HC1.out.1.m.c 2 (by omega)
  have t2 := HC1.out.1.m.f 2 (by omega)
  have z3 := HC1.out.1.m.c 3 (by omega)
  have t3 := HC1.out.1.m.f 3 (by omega)
  have z4 := HC1.out.1.m.c 4 (by omega)
  have t4 := HC1.out.1.m.f 4 (by omega)
  have z5 := HC1.out.1.m.c 5 (by omega)
  have t5 := HC1.out.1.m.f 5 (by omega)
  have z6 := HC1.out.1.m.c 6 (by omega)
  have t6 := HC1.out.1.m.f 6 (by omega)
  have z7 := HC1.out.1.m.c 7 (by omega)
  have t7 := HC1.out.1.m.f 7 (by omega)
  dsimp only [mf, ms0] at z0 z1 z2 z3 z4 z5 z6 z7
  unfold msV at *
  generalize hM : rdM k l = M at *
  have HN : Hid (rdM k l = M) := hM
  clear hM
  obtain ⟨wD, hwD⟩ : ∃ wD, wD = ((((((((w1.setCell ⟨w.heap.size + 1, 0, none⟩ (.int .i64 M.k)).setCell ⟨w.heap.size + 1, 1, none⟩ (.int .i64 M.fr)).setCell ⟨w.heap.size + 1, 2, none⟩ (.int .i64 M.inc)).setCell ⟨w.heap.size + 1, 3, none⟩ (.int .i64 M.rd)).setCell ⟨w.heap.size + 1, 4, none⟩ (.int .i64 M.h)).setCell ⟨w.heap.size + 1, 5, none⟩ (.int .i64 M.pt)).setCell ⟨w.heap.size + 1, 6, none⟩ (.int .i64 M.ps)).setCell ⟨w.heap.size + 1, 7, none⟩ (.slice av M.d.length pw)) := ⟨_, rfl⟩
  have HDD : Hid (Rw (w.heap.size + 1) 8 (mf M (.slice av M.d.length pw)) wD ∧ Rw (w.heap.size + 1 + 1) 1 (fun _ => .int .i64 0) wD ∧ Below w.heap.size w wD ∧ Bs wD (.slice av M.d.length pw) M.d ∧ Nb (.slice av M.d.length pw) (w.heap.size + 1) ∧ Nb (.slice av M.d.length pw) (w.heap.size + 1 + 1) ∧ Ow w.heap.size (.slice av M.d.length pw)) := by
    have hn := HC1.out.2
    have n1 : Nb (.slice av M.d.length pw) (w.heap.size + 1) := ow_apart HD.out.2 (by omega)
    have n2 : Nb (.slice av M.d.length pw) (w.heap.size + 1 + 1) := ow_apart HD.out.2 (by omega)
    have hne : ∀ i : Nat, (⟨w.heap.size + 1, i, none⟩ : Addr).block ≠ w.heap.size + 1 + 1 := fun i => by dsimp only; omega
    rw [hwD]
    exact ⟨mf_put8 HC1.out.1.m M _, (((((((HC1.out.1.e.far _ (hne 0)).far _ (hne 1)).far _ (hne 2)).far _ (hne 3)).far _ (hne 4)).far _ (hne 5)).far _ (hne 6)).far _ (hne 7), below_put8 HC1.out.1.bl (by omega) _ _ _ _ _ _ _ _, bs_put8 HD.out.1 _ n1 _ _ _ _ _ _ _ _, n1, n2, HD.out.2.low (by omega)⟩
  go_upto_region 3 with fail
  rw [← hwD]
  clear hwD HC1 HD z0 z1 z2 z3 z4 z5 z6 z7 t0 t1 t2 t3 t4 t5 t6 t7
  have z0 := HDD.out.1.c 0 (by omega)
  have t0 := HDD.out.1.f 0 (by omega)
  have z1 := HDD.out.1.c 1 (by omega)
  have t1 := HDD.out.1.f 1 (by omega)
  have z2 := HDD.out.1.c 2 (by omega)
  have t2 := HDD.out.1.f 2 (by omega)
  have z3 := HDD.out.1.c 3 (by omega)
  have t3 := HDD.out.1.f 3 (by omega)
  have z4 := HDD.out.1.c 4 (by omega)
  have t4 := HDD.out.1.f 4 (by omega)
  have z5 := HDD.out.1.c 5 (by omega)
  have t5 := HDD.out.1.f 5 (by omega)
  have z6 := HDD.out.1.c 6 (by omega)
  have t6 := HDD.out.1.f 6 (by omega)
  have z7 := HDD.out.1.c 7 (by omega)
  have t7 := HDD.out.1.f 7 (by omega)
  dsimp only [mf] at z0 z1 z2 z3 z4 z5 z6 z7
  have HRt : Hid (Calls Tryd.prog 11 #[.agg #[.int .i64 M.k, .int .i64 M.fr, .int .i64 M.inc, .int .i64 M.rd, .int .i64 M.h, .int .i64 M.pt, .int .i64 M.ps, .slice av M.d.length pw]] wD fun e w' => RgE M wD e w') := right14 M (.slice av M.d.length pw) wD HDD.out.2.2.2.1
  go_wp2_with fail
  refine HRt.out.mono ?_
  rintro e w2 ⟨B, rfl, hB, hb2⟩
  obtain rfl : B = false := by
    cases B with
    | false => rfl
    | true => exact absurd (hB.1 rfl) HZ.out.2
  have HE : Hid (Rw (w.heap.size + 1) 8 (mf M (.slice av M.d.length pw)) w2 ∧ Rw (w.heap.size + 1 + 1) 1 (fun _ => .int .i64 0) w2 ∧ Below w.heap.size w w2 ∧ Bs w2 (.slice av M.d.length pw) M.d) := ⟨HDD.out.1.later hb2, HDD.out.2.1.later hb2, bchain HDD.out.2.2.1 hb2, HDD.out.2.2.2.1.later hb2⟩
  have HNb : Hid (Nb (.slice av M.d.length pw) (w.heap.size + 1) ∧ Nb (.slice av M.d.length pw) (w.heap.size + 1 + 1) ∧ Ow w.heap.size (.slice av M.d.length pw)) := HDD.out.2.2.2.2
  clear hB hb2 HRt HDD z0 z1 z2 z3 z4 z5 z6 z7 t0 t1 t2 t3 t4 t5 t6 t7
  go_wp2_with fail
  refine (must_no _).mono ?_
  rintro e wx ⟨rfl, hw⟩
  have hw := hw.symm
  subst hw
  have HS : Hid (Rw (w.heap.size + 1) 8 (mf M (.slice av M.d.length pw)) w2 ∧ Rw (w.heap.size + 1 + 1) 1 (fun _ => .int .i64 0) w2 ∧ Below w.heap.size w w2) := ⟨HE.out.1, HE.out.2.1, HE.out.2.2.1⟩
  clear HE HNb
  go_wp2
  refine leaves_cons (f := 48) (args := #[.pointer (some ⟨w.heap.size + 1, 0, none⟩), .pointer (some ⟨w.heap.size + 1 + 1, 0, none⟩)]) (by simp) (by simp [go_sem]) ?_
  refine (catchM_panicking _ _ _ _ [] w2 HS.out.1 HS.out.2.1 (by omega)).mono ?_
  rintro e u' w'' ⟨rfl, rfl, hC⟩
  obtain ⟨q1, q2, q3⟩ := hC
  have z0 := q2.c 0 (by omega)
  have z1 := q2.c 1 (by omega)
  have z2 := q2.c 2 (by omega)
  have z3 := q2.c 3 (by omega)
  have z4 := q2.c 4 (by omega)
  have z5 := q2.c 5 (by omega)
  have z6 := q2.c 6 (by omega)
  have z7 := q2.c 7 (by omega)
  have y0 := q3.c 0 (by omega)
  dsimp only [mf, ms0] at z0 z1 z2 z3 z4 z5 z6 z7 y0
  have hbl : Below w.heap.size w w'' := q1.next HS.out.2.2 (fun i hi => by rcases hi with r | r <;> omega) HS.out.2.2.size
  exact ⟨.tuple #[.agg #[.int .i64 0, .int .i64 0, .int .i64 0, .int .i64 0, .int .i64 0, .int .i64 0, .int .i64 0, .slice none 0 0], .int .i64 140], by simp [results, Tryd.results31, go_sem, z0, z1, z2, z3, z4, z5, z6, z7, y0], .slice none 0 0, rfl, bs_nil14 _, ow_nil14 _, hbl⟩
set_option maxRecDepth 100000 in
set_option maxHeartbeats 4000000 in
theorem heldYes (w : World) (k : Int) (vp : Value) (l : List Nat) (h : Bs w vp l) (hb : ∀ c ∈ l, c < 256) (hl : l.length ≤ 2000000) (hz : rdE (rdD k l) = 0) (hR : Rgt (rdM k l)) :
    Calls Tryd.prog 31 #[.agg #[.int .i64 k, vp]] w fun e w' => ∃ vd, e = .returned (.tuple #[msV (rdM k l) vd, .int .i64 0]) ∧ Bs w' vd (rdM k l).d ∧ Ow w.heap.size vd ∧ Below w.heap.size w w' := by
  have HZ : Hid (rdE (rdD k l) = 0 ∧ Rgt (rdM k l)) := ⟨hz, hR⟩
  clear hz hR
  have HL : Hid (Bs w vp l ∧ (∀ c ∈ l, c < 256) ∧ ∃ u, l = u ∧ u.length ≤ 2000000) := ⟨h, hb, _, rfl, hl⟩
  obtain ⟨ad, cap, rfl, -, -⟩ := h.len
  have hmf : ∀ (fn : Fn) (first cap : Array Value) (w : World), (Instr.makeFunc fn first cap).run Tryd.prog w = .ok (.func fn first cap) w := fun _ _ _ _ => rfl
  clear h hb hl
  generalize l.length = n at *
  obtain ⟨wC, hwC⟩ : ∃ wC, wC = (((w.alloc (.cells #[.int .i64 k, .slice ad n cap] 62)).alloc (.cells #[.int .i64 0, .int .i64 0, .int .i64 0, .int .i64 0, .int .i64 0, .int .i64 0, .int .i64 0, .slice none 0 0] 24)).alloc (.cells #[.int .i64 0] 28)) := ⟨_, rfl⟩
  have HC : Hid (Hb w.heap.size k (.slice ad n cap) w wC) := by rw [hwC]; exact Hb.new w k _
  go_enter_defers Tryd.func31, Tryd.ntmps31
  go_upto_region 1 with fail
  rw [← hwC]
  clear hwC
  have x0 := HC.out.c0
  have x1 := HC.out.c1
  go_wp2_with fail
  refine (read14 wC k _ l (HL.out.1.later HC.out.bl) HL.out.2.1 (by obtain ⟨u, e, hu⟩ := HL.out.2.2; rw [e]; exact hu)).mono ?_
  intro e w1 hE
  obtain ⟨hBl, hE⟩ := hE
  have hE2 : ∃ vd, e = .returned (msV (rdM k l) vd) ∧ Bs w1 vd (rdM k l).d ∧ Ow wC.heap.size vd := by
    rcases hE with q | q
    · exact q.2
    · exact absurd HZ.out.1 q.1
  clear hE
  obtain ⟨vd, rfl, hD, hO⟩ := hE2
  have HC1 : Hid (Hb w.heap.size k (.slice ad n cap) w w1 ∧ w.heap.size + 2 < wC.heap.size) := ⟨HC.out.later hBl, HC.out.e.lt (by omega)⟩
  have HD : Hid (Bs w1 vd (rdM k l).d ∧ Ow wC.heap.size vd) := ⟨hD, hO⟩
  obtain ⟨av, pw, rfl, -, -⟩ := hD.len
  clear hBl hD hO HC x0 x1
  have z0 := HC1.out.1.m.c 0 (by omega)
  have t0 := HC1.out.1.m.f 0 (by omega)
  have z1 := HC1.out.1.m.c 1 (by omega)
  have t1 := HC1.out.1.m.f 1 (by omega)
  have z2 := HC1.out.1.m.c 2 (by omega)
  have t2 := HC1.out.1.m.f 2 (by omega)
  have z3 := HC1.out.1.m.c 3 (by omega)
  have t3 := HC1.out.1.m.f 3 (by omega)
  have z4 := HC1.out.1.m.c 4 (by omega)
  have t4 := HC1.out.1.m.f 4 (by omega)
  have z5 := HC1.out.1.m.c 5 (by omega)
  have t5 := HC1.out.1.m.f 5 (by omega)
  have z6 := HC1.out.1.m.c 6 (by omega)
  have t6 := HC1.out.1.m.f 6 (by omega)
  have z7 := HC1.out.1.m.c 7 (by omega)
  have t7 := HC1.out.1.m.f 7 (by omega)
  dsimp only [mf, ms0] at z0 z1 z2 z3 z4 z5 z6 z7
  unfold msV at *
  generalize hM : rdM k l = M at *
  have HN : Hid (rdM k l = M) := hM
  clear hM
  obtain ⟨wD, hwD⟩ : ∃ wD, wD = ((((((((w1.setCell ⟨w.heap.size + 1, 0, none⟩ (.int .i64 M.k)).setCell ⟨w.heap.size + 1, 1, none⟩ (.int .i64 M.fr)).setCell ⟨w.heap.size + 1, 2, none⟩ (.int .i64 M.inc)).setCell ⟨w.heap.size + 1, 3, none⟩ (.int .i64 M.rd)).setCell ⟨w.heap.size + 1, 4, none⟩ (.int .i64 M.h)).setCell ⟨w.heap.size + 1, 5, none⟩ (.int .i64 M.pt)).setCell ⟨w.heap.size + 1, 6, none⟩ (.int .i64 M.ps)).setCell ⟨w.heap.size + 1, 7, none⟩ (.slice av M.d.length pw)) := ⟨_, rfl⟩
  have HDD : Hid (Rw (w.heap.size + 1) 8 (mf M (.slice av M.d.length pw)) wD ∧ Rw (w.heap.size + 1 + 1) 1 (fun _ => .int .i64 0) wD ∧ Below w.heap.size w wD ∧ Bs wD (.slice av M.d.length pw) M.d ∧ Nb (.slice av M.d.length pw) (w.heap.size + 1) ∧ Nb (.slice av M.d.length pw) (w.heap.size + 1 + 1) ∧ Ow w.heap.size (.slice av M.d.length pw)) := by
    have hn := HC1.out.2
    have n1 : Nb (.slice av M.d.length pw) (w.heap.size + 1) := ow_apart HD.out.2 (by omega)
    have n2 : Nb (.slice av M.d.length pw) (w.heap.size + 1 + 1) := ow_apart HD.out.2 (by omega)
    have hne : ∀ i : Nat, (⟨w.heap.size + 1, i, none⟩ : Addr).block ≠ w.heap.size + 1 + 1 := fun i => by dsimp only; omega
    rw [hwD]
    exact ⟨mf_put8 HC1.out.1.m M _, (((((((HC1.out.1.e.far _ (hne 0)).far _ (hne 1)).far _ (hne 2)).far _ (hne 3)).far _ (hne 4)).far _ (hne 5)).far _ (hne 6)).far _ (hne 7), below_put8 HC1.out.1.bl (by omega) _ _ _ _ _ _ _ _, bs_put8 HD.out.1 _ n1 _ _ _ _ _ _ _ _, n1, n2, HD.out.2.low (by omega)⟩
  go_upto_region 3 with fail
  rw [← hwD]
  clear hwD HC1 HD z0 z1 z2 z3 z4 z5 z6 z7 t0 t1 t2 t3 t4 t5 t6 t7
  have z0 := HDD.out.1.c 0 (by omega)
  have t0 := HDD.out.1.f 0 (by omega)
  have z1 := HDD.out.1.c 1 (by omega)
  have t1 := HDD.out.1.f 1 (by omega)
  have z2 := HDD.out.1.c 2 (by omega)
  have t2 := HDD.out.1.f 2 (by omega)
  have z3 := HDD.out.1.c 3 (by omega)
  have t3 := HDD.out.1.f 3 (by omega)
  have z4 := HDD.out.1.c 4 (by omega)
  have t4 := HDD.out.1.f 4 (by omega)
  have z5 := HDD.out.1.c 5 (by omega)
  have t5 := HDD.out.1.f 5 (by omega)
  have z6 := HDD.out.1.c 6 (by omega)
  have t6 := HDD.out.1.f 6 (by omega)
  have z7 := HDD.out.1.c 7 (by omega)
  have t7 := HDD.out.1.f 7 (by omega)
  dsimp only [mf] at z0 z1 z2 z3 z4 z5 z6 z7
  have HRt : Hid (Calls Tryd.prog 11 #[.agg #[.int .i64 M.k, .int .i64 M.fr, .int .i64 M.inc, .int .i64 M.rd, .int .i64 M.h, .int .i64 M.pt, .int .i64 M.ps, .slice av M.d.length pw]] wD fun e w' => RgE M wD e w') := right14 M (.slice av M.d.length pw) wD HDD.out.2.2.2.1
  go_wp2_with fail
  refine HRt.out.mono ?_
  rintro e w2 ⟨B, rfl, hB, hb2⟩
  obtain rfl : B = true := hB.2 HZ.out.2
  have HE : Hid (Rw (w.heap.size + 1) 8 (mf M (.slice av M.d.length pw)) w2 ∧ Rw (w.heap.size + 1 + 1) 1 (fun _ => .int .i64 0) w2 ∧ Below w.heap.size w w2 ∧ Bs w2 (.slice av M.d.length pw) M.d) := ⟨HDD.out.1.later hb2, HDD.out.2.1.later hb2, bchain HDD.out.2.2.1 hb2, HDD.out.2.2.2.1.later hb2⟩
  have HNb : Hid (Nb (.slice av M.d.length pw) (w.heap.size + 1) ∧ Nb (.slice av M.d.length pw) (w.heap.size + 1 + 1) ∧ Ow w.heap.size (.slice av M.d.length pw)) := HDD.out.2.2.2.2
  clear hB hb2 HRt HDD z0 z1 z2 z3 z4 z5 z6 z7 t0 t1 t2 t3 t4 t5 t6 t7
  go_wp2_with fail
  refine (must_yes _).mono ?_
  rintro e wx ⟨rfl, hw⟩
  have hw := hw.symm
  subst hw
  have z0 := HE.out.1.c 0 (by omega)
  have t0 := HE.out.1.f 0 (by omega)
  have z1 := HE.out.1.c 1 (by omega)
  have t1 := HE.out.1.f 1 (by omega)
  have z2 := HE.out.1.c 2 (by omega)
  have t2 := HE.out.1.f 2 (by omega)
  have z3 := HE.out.1.c 3 (by omega)
  have t3 := HE.out.1.f 3 (by omega)
  have z4 := HE.out.1.c 4 (by omega)
  have t4 := HE.out.1.f 4 (by omega)
  have z5 := HE.out.1.c 5 (by omega)
  have t5 := HE.out.1.f 5 (by omega)
  have z6 := HE.out.1.c 6 (by omega)
  have t6 := HE.out.1.f 6 (by omega)
  have z7 := HE.out.1.c 7 (by omega)
  have t7 := HE.out.1.f 7 (by omega)
  have y0 := HE.out.2.1.c 0 (by omega)
  have q0 := HE.out.2.1.f 0 (by omega)
  dsimp only [mf] at z0 z1 z2 z3 z4 z5 z6 z7 y0
  have HG := HE
  go_wp2
  clear z0 z1 z2 z3 z4 z5 z6 z7 t0 t1 t2 t3 t4 t5 t6 t7 y0 q0
  refine leaves_cons (f := 48) (args := #[.pointer (some ⟨w.heap.size + 1, 0, none⟩), .pointer (some ⟨w.heap.size + 1 + 1, 0, none⟩)]) (by simp) (by simp [go_sem]) ?_
  refine (catchM_idle _ _ _).mono ?_
  rintro e u' w'' ⟨rfl, rfl, rfl⟩
  have e1 := (mf_put8 HG.out.1 M (.slice av M.d.length pw)).far (p := ⟨w.heap.size + 1 + 1, 0, none⟩) (.int .i64 0) (by dsimp only; omega)
  have hne : ∀ i : Nat, (⟨w.heap.size + 1, i, none⟩ : Addr).block ≠ w.heap.size + 1 + 1 := fun i => by dsimp only; omega
  have e2 := ((((((((HG.out.2.1.far (.int .i64 M.k) (hne 0)).far (.int .i64 M.fr) (hne 1)).far (.int .i64 M.inc) (hne 2)).far (.int .i64 M.rd) (hne 3)).far (.int .i64 M.h) (hne 4)).far (.int .i64 M.pt) (hne 5)).far (.int .i64 M.ps) (hne 6)).far (.slice av M.d.length pw) (hne 7)).set 0 (.int .i64 0)
  have e3 := (below_put8 HG.out.2.2.1 (b := w.heap.size + 1) (by omega) (.int .i64 M.k) (.int .i64 M.fr) (.int .i64 M.inc) (.int .i64 M.rd) (.int .i64 M.h) (.int .i64 M.pt) (.int .i64 M.ps) (.slice av M.d.length pw)).setCell (p := ⟨w.heap.size + 1 + 1, 0, none⟩) (by dsimp only; omega) (.int .i64 0)
  have e4 : Bs _ (.slice av M.d.length pw) M.d := Ls.set (bs_put8 HG.out.2.2.2 (w.heap.size + 1) HNb.out.1 (.int .i64 M.k) (.int .i64 M.fr) (.int .i64 M.inc) (.int .i64 M.rd) (.int .i64 M.h) (.int .i64 M.pt) (.int .i64 M.ps) (.slice av M.d.length pw)) ⟨w.heap.size + 1 + 1, 0, none⟩ (.int .i64 0) HNb.out.2.1
  generalize World.setCell _ ⟨w.heap.size + 1 + 1, 0, none⟩ (.int .i64 0) = wZ at *
  have z0 := e1.c 0 (by omega)
  have z1 := e1.c 1 (by omega)
  have z2 := e1.c 2 (by omega)
  have z3 := e1.c 3 (by omega)
  have z4 := e1.c 4 (by omega)
  have z5 := e1.c 5 (by omega)
  have z6 := e1.c 6 (by omega)
  have z7 := e1.c 7 (by omega)
  have y0 := e2.c 0 (by omega)
  dsimp only [mf] at z0 z1 z2 z3 z4 z5 z6 z7
  simp only [if_true] at y0
  exact ⟨.tuple #[.agg #[.int .i64 M.k, .int .i64 M.fr, .int .i64 M.inc, .int .i64 M.rd, .int .i64 M.h, .int .i64 M.pt, .int .i64 M.ps, .slice av M.d.length pw], .int .i64 0], by simp [results, Tryd.results31, go_sem, z0, z1, z2, z3, z4, z5, z6, z7, y0], _, by rw [HN.out]; rfl, by rw [HN.out]; exact e4, HNb.out.2.2, e3⟩
end Go.Proofs.YtfcbgkcclganmaaDoor
set_option linter.unusedVariables false
set_option linter.unusedSimpArgs false
namespace Go.Proofs.YtfcbgkcclganmaaDoor
open Go.RowKit

open Classical in
theorem held14 (w : World) (k : Nat) (vp : Value) (l : List Nat) (h : Bs w vp l) (hb : ∀ c ∈ l, c < 256) (hl : l.length ≤ 2000000) :
    Calls Tryd.prog 31 #[.agg #[.int .i64 (k : Int), vp]] w fun e w' => ∃ vd, e = .returned (.tuple #[msV (if Is14 k l then rdM k l else ms0) vd, .int .i64 (((if Is14 k l then 0 else 140 : Nat) : Nat) : Int)]) ∧ Bs w' vd (if Is14 k l then rdM k l else ms0).d ∧ Ow w.heap.size vd ∧ Below w.heap.size w w' := by
  by_cases q : Is14 k l
  · rw [if_pos q, if_pos q]
    exact heldYes w k vp l h hb hl q.2.2.1 q.2.2.2
  · rw [if_neg q, if_neg q]
    by_cases hz : rdE (rdD k l) = 0
    · refine heldBad w k vp l h hb hl hz (fun r => q ?_)
      have k1 := r.k1
      have k8 := r.k8
      rw [rdM_k] at k1 k8
      exact ⟨k1, k8, hz, r⟩
    · exact heldNo w k vp l h hb hl hz
theorem bx2_zero : msV ms0 (.slice none 0 0) = .agg #[.int .i64 0, .int .i64 0, .int .i64 0, .int .i64 0, .int .i64 0, .int .i64 0, .int .i64 0, .slice none 0 0] := rfl
set_option maxRecDepth 100000 in
set_option maxHeartbeats 4000000 in
theorem decode14 (w : World) (v : Value) (l : List Nat) (h : Bs w v l) (hb : ∀ c ∈ l, c < 256) (hl : l.length ≤ 90000) (hT : FT w) :
    Calls Tryd.prog 14 #[v] w fun e w' => ∃ vd, e = .returned (.tuple #[msV (dcM l) vd, .int .i64 ((dcE l : Nat) : Int)]) ∧ Bs w' vd (dcM l).d ∧ Ow w.heap.size vd ∧ Below w.heap.size w w' := by
  have HL : Hid (Bs w v l ∧ (∀ c ∈ l, c < 256) ∧ FT w) := ⟨h, hb, hT⟩
  have HLl : Hid (∃ u, l = u ∧ u.length ≤ 90000) := ⟨_, rfl, hl⟩
  obtain ⟨ad, cap, rfl, -, -⟩ := h.len
  obtain ⟨wA, hwA⟩ : ∃ wA, wA = w.alloc (.cells #[.int .i64 0, .int .i64 0, .int .i64 0, .int .i64 0, .int .i64 0, .int .i64 0, .int .i64 0, .slice none 0 0] 24) := ⟨_, rfl⟩
  have HA : Hid (Rw w.heap.size 8 (mf ms0 (.slice none 0 0)) wA ∧ Below w.heap.size w wA) := by rw [hwA]; exact ⟨mf_new w ms0 _ _, bel1 _ _⟩
  have HC : Hid (Calls Tryd.prog 30 #[.slice ad l.length cap] wA fun e w' => ∃ vp, e = .returned (.tuple #[.agg #[.int .i64 ((opK l : Nat) : Int), vp], .int .i64 ((opN l : Nat) : Int), .int .i64 ((opE l : Nat) : Int)]) ∧ Bs w' vp (opP l) ∧ Ow wA.heap.size vp ∧ Below wA.heap.size wA w') := open13 wA _ l (HL.out.1.later HA.out.2) HL.out.2.1 hl (HL.out.2.2.later HA.out.2)
  have HP : Hid ((∀ c ∈ opP l, c < 256) ∧ (opP l).length ≤ 2000000) := ⟨opP_byte hb, by have := opP_len l; omega⟩
  have HE1 : Hid (opE l ≠ 0 → dcE l = opE l ∧ dcM l = ms0) := dc_err
  have HE2 : Hid (opE l = 0 → opN l < l.length → dcE l = 122 ∧ dcM l = ms0) := dc_left
  have HE3 : Hid (opE l = 0 → ¬ opN l < l.length → Is14 (opK l) (opP l) → dcE l = 0 ∧ dcM l = rdM (opK l) (opP l)) := dc_yes
  have HE4 : Hid (opE l = 0 → ¬ opN l < l.length → ¬ Is14 (opK l) (opP l) → dcE l = 140 ∧ dcM l = ms0) := dc_no
  clear h hb hl hT
  generalize l.length = n at *
  go_enter Tryd.func14, Tryd.ntmps14
  go_upto_region 1 with fail
  rw [← hwA]
  clear hwA
  go_wp2_with fail
  refine HC.out.mono ?_
  rintro e w1 ⟨vp, rfl, hP, hO, hb1⟩
  have HB : Hid (Rw w.heap.size 8 (mf ms0 (.slice none 0 0)) w1 ∧ Below w.heap.size w w1 ∧ Bs w1 vp (opP l)) := ⟨HA.out.1.later hb1, bchain HA.out.2 hb1, hP⟩
  obtain ⟨ap, pp, rfl, -, -⟩ := hP.len
  clear hP hO hb1 HC HA HL HLl
  generalize opE l = oe at *
  generalize opN l = on at *
  generalize opK l = K at *
  generalize opP l = P at *
  generalize hnp : P.length = np at *
  have HNp : Hid (∃ u, P = u ∧ u.length ≤ 2000000) := ⟨_, rfl, by rw [hnp]; exact HP.out.2⟩
  clear hnp
  obtain ⟨wB, hwB⟩ : ∃ wB, wB = w1.alloc (.cells #[.int .i64 (K : Int), .slice ap np pp] 62) := ⟨_, rfl⟩
  have HD : Hid (Rw w.heap.size 8 (mf ms0 (.slice none 0 0)) wB ∧ Below w.heap.size w wB ∧ Bs wB (.slice ap np pp) P ∧ wB.cell? ⟨w1.heap.size, 0, none⟩ = some (.int .i64 (K : Int)) ∧ wB.cell? ⟨w1.heap.size, 1, none⟩ = some (.slice ap np pp)) := by
    rw [hwB]
    exact ⟨HB.out.1.later (bel1 _ _), bchain HB.out.2.1 (bel1 _ _), HB.out.2.2.later (bel1 _ _), by simp [go_sem], by simp [go_sem]⟩
  go_upto_region 2 with fail
  rw [← hwB]
  clear hwB HB
  generalize w1.heap.size = g at *
  by_cases he : oe = 0
  · subst he
    by_cases hn : on < n
    · have hnI : (on : Int) < (n : Int) := by omega
      obtain ⟨e1, e2⟩ := HE2.out rfl hn
      have HV : Hid (dcE l = 122 ∧ dcM l = ms0) := ⟨e1, e2⟩
      clear e1 e2 HE1 HE2 HE3 HE4
      have z0 := HD.out.1.c 0 (by omega)
      have t0 := HD.out.1.f 0 (by omega)
      have z1 := HD.out.1.c 1 (by omega)
      have t1 := HD.out.1.f 1 (by omega)
      have z2 := HD.out.1.c 2 (by omega)
      have t2 := HD.out.1.f 2 (by omega)
      have z3 := HD.out.1.c 3 (by omega)
      have t3 := HD.out.1.f 3 (by omega)
      have z4 := HD.out.1.c 4 (by omega)
      have t4 := HD.out.1.f 4 (by omega)
      have z5 := HD.out.1.c 5 (by omega)
      have t5 := HD.out.1.f 5 (by omega)
      have z6 := HD.out.1.c 6 (by omega)
      have t6 := HD.out.1.f 6 (by omega)
      have z7 := HD.out.1.c 7 (by omega)
      have t7 := HD.out.1.f 7 (by omega)
      dsimp only [mf, ms0] at z0 z1 z2 z3 z4 z5 z6 z7
      have HG := HD
      go_wp2
      have HR := mf_put8 HG.out.1 ms0 (.slice none 0 0)
      have HBl := below_put8 HG.out.2.1 (Nat.le_refl _) (.int .i64 0) (.int .i64 0) (.int .i64 0) (.int .i64 0) (.int .i64 0) (.int .i64 0) (.int .i64 0) (.slice none 0 0)
      dsimp only [ms0] at HR
      clear z0 z1 z2 z3 z4 z5 z6 z7 t0 t1 t2 t3 t4 t5 t6 t7
      generalize World.setCell _ ⟨w.heap.size, 7, none⟩ (.slice none 0 0) = wZ at *
      have z0 := HR.c 0 (by omega)
      have z1 := HR.c 1 (by omega)
      have z2 := HR.c 2 (by omega)
      have z3 := HR.c 3 (by omega)
      have z4 := HR.c 4 (by omega)
      have z5 := HR.c 5 (by omega)
      have z6 := HR.c 6 (by omega)
      have z7 := HR.c 7 (by omega)
      dsimp only [mf] at z0 z1 z2 z3 z4 z5 z6 z7
      rw [HV.out.1, HV.out.2]
      exact bodyPost_ret (v := .tuple #[.agg #[.int .i64 0, .int .i64 0, .int .i64 0, .int .i64 0, .int .i64 0, .int .i64 0, .int .i64 0, .slice none 0 0], .int .i64 122]) (by simp [results, Tryd.results14, go_sem, z0, z1, z2, z3, z4, z5, z6, z7]) rfl ⟨.slice none 0 0, rfl, bs_nil14 _, ow_nil14 _, HBl⟩
    · have hnI : ¬ (on : Int) < (n : Int) := by omega
      have HV : Hid ((Is14 K P → dcE l = 0 ∧ dcM l = rdM K P) ∧ (¬ Is14 K P → dcE l = 140 ∧ dcM l = ms0)) := ⟨HE3.out rfl hn, HE4.out rfl hn⟩
      have HH := held14 wB K _ P HD.out.2.2.1 HP.out.1 (by obtain ⟨u, e, hu⟩ := HNp.out; rw [e]; exact hu)
      obtain ⟨M, E, hM, hEE, HH2⟩ : ∃ (M : Ms) (E : Nat), dcM l = M ∧ dcE l = E ∧ Calls Tryd.prog 31 #[.agg #[.int .i64 (K : Int), .slice ap np pp]] wB fun e w' => ∃ vd, e = .returned (.tuple #[msV M vd, .int .i64 ((E : Nat) : Int)]) ∧ Bs w' vd M.d ∧ Ow wB.heap.size vd ∧ Below wB.heap.size wB w' := by
        by_cases q : Is14 K P
        · rw [if_pos q, if_pos q] at HH
          exact ⟨_, _, (HV.out.1 q).2, (HV.out.1 q).1, HH⟩
        · rw [if_neg q, if_neg q] at HH
          exact ⟨_, _, (HV.out.2 q).2, (HV.out.2 q).1, HH⟩
      have HH3 : Hid (Calls Tryd.prog 31 #[.agg #[.int .i64 (K : Int), .slice ap np pp]] wB fun e w' => ∃ vd, e = .returned (.tuple #[msV M vd, .int .i64 ((E : Nat) : Int)]) ∧ Bs w' vd M.d ∧ Ow wB.heap.size vd ∧ Below wB.heap.size wB w') := HH2
      have HV2 : Hid (dcM l = M ∧ dcE l = E) := ⟨hM, hEE⟩
      clear HH HH2 HV hM hEE HE1 HE2 HE3 HE4 hn
      have x0 := HD.out.2.2.2.1
      have x1 := HD.out.2.2.2.2
      go_wp2_with fail
      refine HH3.out.mono ?_
      rintro e w2 ⟨vd, rfl, hDt, hO, hb2⟩
      have HG : Hid (Rw w.heap.size 8 (mf ms0 (.slice none 0 0)) w2 ∧ Below w.heap.size w w2 ∧ Bs w2 vd M.d ∧ Nb vd w.heap.size ∧ Ow w.heap.size vd) := ⟨HD.out.1.later hb2, bchain HD.out.2.1 hb2, hDt, ow_apart hO (HD.out.1.lt (by omega)), hO.low HD.out.2.1.size⟩
      obtain ⟨av, pw, rfl, -, -⟩ := hDt.len
      clear hDt hO hb2 HD x0 x1 HH3
      generalize hnv : M.d.length = nv at *
      clear hnv
      unfold msV
      have z0 := HG.out.1.c 0 (by omega)
      have t0 := HG.out.1.f 0 (by omega)
      have z1 := HG.out.1.c 1 (by omega)
      have t1 := HG.out.1.f 1 (by omega)
      have z2 := HG.out.1.c 2 (by omega)
      have t2 := HG.out.1.f 2 (by omega)
      have z3 := HG.out.1.c 3 (by omega)
      have t3 := HG.out.1.f 3 (by omega)
      have z4 := HG.out.1.c 4 (by omega)
      have t4 := HG.out.1.f 4 (by omega)
      have z5 := HG.out.1.c 5 (by omega)
      have t5 := HG.out.1.f 5 (by omega)
      have z6 := HG.out.1.c 6 (by omega)
      have t6 := HG.out.1.f 6 (by omega)
      have z7 := HG.out.1.c 7 (by omega)
      have t7 := HG.out.1.f 7 (by omega)
      dsimp only [mf, ms0] at z0 z1 z2 z3 z4 z5 z6 z7
      go_wp2
      have HR := mf_put8 HG.out.1 M (.slice av nv pw)
      have HBl := below_put8 HG.out.2.1 (Nat.le_refl _) (.int .i64 M.k) (.int .i64 M.fr) (.int .i64 M.inc) (.int .i64 M.rd) (.int .i64 M.h) (.int .i64 M.pt) (.int .i64 M.ps) (.slice av nv pw)
      have HDt : Bs _ (.slice av nv pw) M.d := bs_put8 HG.out.2.2.1 w.heap.size HG.out.2.2.2.1 (.int .i64 M.k) (.int .i64 M.fr) (.int .i64 M.inc) (.int .i64 M.rd) (.int .i64 M.h) (.int .i64 M.pt) (.int .i64 M.ps) (.slice av nv pw)
      clear z0 z1 z2 z3 z4 z5 z6 z7 t0 t1 t2 t3 t4 t5 t6 t7
      generalize World.setCell _ ⟨w.heap.size, 7, none⟩ (.slice av nv pw) = wZ at *
      have z0 := HR.c 0 (by omega)
      have z1 := HR.c 1 (by omega)
      have z2 := HR.c 2 (by omega)
      have z3 := HR.c 3 (by omega)
      have z4 := HR.c 4 (by omega)
      have z5 := HR.c 5 (by omega)
      have z6 := HR.c 6 (by omega)
      have z7 := HR.c 7 (by omega)
      dsimp only [mf] at z0 z1 z2 z3 z4 z5 z6 z7
      rw [HV2.out.1, HV2.out.2]
      exact bodyPost_ret (v := .tuple #[.agg #[.int .i64 M.k, .int .i64 M.fr, .int .i64 M.inc, .int .i64 M.rd, .int .i64 M.h, .int .i64 M.pt, .int .i64 M.ps, .slice av nv pw], .int .i64 (E : Int)]) (by simp [results, Tryd.results14, go_sem, z0, z1, z2, z3, z4, z5, z6, z7]) rfl ⟨_, rfl, HDt, HG.out.2.2.2.2, HBl⟩
  · have heI : ¬ (oe : Int) = 0 := by omega
    obtain ⟨e1, e2⟩ := HE1.out he
    have HV : Hid (dcE l = oe ∧ dcM l = ms0) := ⟨e1, e2⟩
    clear e1 e2 HE1 HE2 HE3 HE4 he
    have z0 := HD.out.1.c 0 (by omega)
    have t0 := HD.out.1.f 0 (by omega)
    have z1 := HD.out.1.c 1 (by omega)
    have t1 := HD.out.1.f 1 (by omega)
    have z2 := HD.out.1.c 2 (by omega)
    have t2 := HD.out.1.f 2 (by omega)
    have z3 := HD.out.1.c 3 (by omega)
    have t3 := HD.out.1.f 3 (by omega)
    have z4 := HD.out.1.c 4 (by omega)
    have t4 := HD.out.1.f 4 (by omega)
    have z5 := HD.out.1.c 5 (by omega)
    have t5 := HD.out.1.f 5 (by omega)
    have z6 := HD.out.1.c 6 (by omega)
    have t6 := HD.out.1.f 6 (by omega)
    have z7 := HD.out.1.c 7 (by omega)
    have t7 := HD.out.1.f 7 (by omega)
    dsimp only [mf, ms0] at z0 z1 z2 z3 z4 z5 z6 z7
    have HG := HD
    go_wp2
    have HR := mf_put8 HG.out.1 ms0 (.slice none 0 0)
    have HBl := below_put8 HG.out.2.1 (Nat.le_refl _) (.int .i64 0) (.int .i64 0) (.int .i64 0) (.int .i64 0) (.int .i64 0) (.int .i64 0) (.int .i64 0) (.slice none 0 0)
    dsimp only [ms0] at HR
    clear z0 z1 z2 z3 z4 z5 z6 z7 t0 t1 t2 t3 t4 t5 t6 t7
    generalize World.setCell _ ⟨w.heap.size, 7, none⟩ (.slice none 0 0) = wZ at *
    have z0 := HR.c 0 (by omega)
    have z1 := HR.c 1 (by omega)
    have z2 := HR.c 2 (by omega)
    have z3 := HR.c 3 (by omega)
    have z4 := HR.c 4 (by omega)
    have z5 := HR.c 5 (by omega)
    have z6 := HR.c 6 (by omega)
    have z7 := HR.c 7 (by omega)
    dsimp only [mf] at z0 z1 z2 z3 z4 z5 z6 z7
    rw [HV.out.1, HV.out.2]
    exact bodyPost_ret (v := .tuple #[.agg #[.int .i64 0, .int .i64 0, .int .i64 0, .int .i64 0, .int .i64 0, .int .i64 0, .int .i64 0, .slice none 0 0], .int .i64 (oe : Int)]) (by simp [results, Tryd.results14, go_sem, z0, z1, z2, z3, z4, z5, z6, z7]) rfl ⟨.slice none 0 0, rfl, bs_nil14 _, ow_nil14 _, HBl⟩
/-- msg meets its contracts. -/
theorem mg1 : Mg1 where
  rgt := fun w m v h _ => right14 m v w h
  encY := fun w m v h hy r hT => encY14 w m v h hy r hT
  encN := fun w m v h _ r _ => encN14 w m v h r
  dec := fun w v l h hb hl hT => decode14 w v l h hb hl hT
end Go.Proofs.YtfcbgkcclganmaaDoor
