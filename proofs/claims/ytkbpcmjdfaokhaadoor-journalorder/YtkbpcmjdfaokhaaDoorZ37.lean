/-
Layer 12's memory: where a longer list lies; a copy of bytes (bytes.Clone).
The program's disk: New, Blocks, Down, Arm, Safe.
-/
import Derived.Test.YtkbpcmjdfaokhaaDoorZ04
import Derived.Test.YtkbpcmjdfaokhaaDoorZ27

set_option linter.unusedVariables false
set_option linter.unusedSimpArgs false
namespace Go.Proofs.YtkbpcmjdfaokhaaDoor
open Go.RowKit

/-- A list of one's own, while its block is as it was. -/
theorem own_block {w w' : World} {B : Nat} {e : TypeId} {s : Nat} {v : Value} {n : Nat} {xs : List Value} (h : w.ownsRow B e s v n xs) (hk : ∀ k, v.ownBlock = some k → w'.heap[k]? = w.heap[k]?) : w'.ownsRow B e s v n xs := by
  refine ⟨h.1, ?_⟩
  rcases h.2 with h0 | ⟨g, cap, cur, rfl, hg, hh, r⟩
  · exact Or.inl h0
  · exact Or.inr ⟨g, cap, cur, rfl, hg, (hk g rfl).trans hh, r⟩
/-- Where the longer list lies: in its old block, or in a new one. -/
theorem run_append_where (w : World) (ty : TypeId) (v : Value) (l : List Nat) (hO : Ob 0 w v l) (vx : Value) (m : List Nat) (hL : Bs w vx m) (hlen : l.length + m.length ≤ 1073741824) :
    ∃ v' w', (Builtin.append_ #[40, 40] ty #[v, vx]).run Tryd.prog w = .ok v' w' ∧ Ob 0 w' v' (l ++ m) ∧ w.grownBy w' v.ownBlock ∧ ∀ k, v'.ownBlock = some k → v.ownBlock = some k ∨ w.heap.size ≤ k := by
  obtain ⟨i0, hti, hi0, hi1, hi2⟩ := byteInfo
  obtain ⟨ad, cap, e, h1, h2⟩ := hL.len
  subst e
  cases ad with
  | none =>
    obtain ⟨e0, e1⟩ := Ls.nil hL
    obtain rfl : m = [] := List.eq_nil_of_length_eq_zero e0
    subst e1
    have hr := run_append_owned_none (P := Tryd.prog) (w := w) 0 40 ty 5 i0 1 Tryd.underlying40 hti v _ _ hO
    refine ⟨v, w, hr, ?_, ⟨rfl, rfl, rfl, Nat.le_refl _, fun _ _ _ => rfl⟩, fun k hk => Or.inl hk⟩
    rw [List.append_nil]; exact hO
  | some ad =>
    have hnews := ls_news hL
    have hall : ∀ base, base ≤ w.heap.size → w.ownsRow base 5 1 v l.length (b8 l) → ∃ v' w', (Builtin.append_ #[40, 40] ty #[v, .slice (some ad) m.length cap]).run Tryd.prog w = .ok v' w' ∧ w'.ownsRow base 5 1 v' (l.length + m.length) (b8 l ++ b8 m) ∧ w.grownBy w' v.ownBlock := by
      intro base hb hO
      obtain ⟨v', w', e1, e2, e3, -⟩ := run_append_own (P := Tryd.prog) w base 40 ty 5 i0 (.int .u8 0) 1 1 Tryd.underlying40 hti hi0 hi1 hi2 rfl (by decide) v l.length (b8 l) hO ad m.length cap (b8 m) (by rw [b8_len, Nat.mul_one]) (by rw [← vl_b8]; exact hnews) (b8_one m) (by unfold maxLen; omega) (by omega) hb
      exact ⟨v', w', e1, e2, e3⟩
    obtain ⟨v', w', e1, e2, e3⟩ := hall 0 (Nat.zero_le _) hO
    refine ⟨v', w', e1, by unfold Ob; rw [List.length_append, b8_app]; exact e2, e3, ?_⟩
    rcases hO.2 with ⟨rfl, hn⟩ | ⟨g, c, cur, rfl, hbg, hg, hnc, hcm, hcs, htake⟩
    · have hl : l = [] := List.eq_nil_of_length_eq_zero hn
      subst hl
      obtain ⟨v2, w2, f1, f2, -⟩ := hall w.heap.size (Nat.le_refl _) (World.ownsRow_nil _ _ _ _)
      rw [e1] at f1
      cases f1
      exact fun k hk => Or.inr (f2.lt k hk).1
    · by_cases hroom : l.length + m.length ≤ c
      · have hfit : l.length * i0.size + (b8 m).length ≤ cur.size := by rw [b8_len, hcs, hi1]; omega
        have hr := run_append_room (P := Tryd.prog) w 40 ty 5 i0 Tryd.underlying40 hti g l.length c cur hg ad m.length cap (b8 m) (by rw [b8_len, hi1, Nat.mul_one]) (by rw [← vl_b8]; exact hnews) (b8_one m) hroom hfit
        rw [e1] at hr
        cases hr
        exact fun k hk => Or.inl hk
      · have hr := run_append_grow (P := Tryd.prog) w 40 ty 5 i0 (.int .u8 0) Tryd.underlying40 hti hi0 ⟨g, 0, none⟩ l.length c (b8 l) (by rw [b8_len, hi1, Nat.mul_one]) (World.ownsRow.cells hO (g := g) rfl) ad m.length cap (b8 m) (by rw [b8_len, hi1, Nat.mul_one]) (by rw [← vl_b8]; exact hnews) (by omega) (by omega) (growslice_fits (by omega) (by rw [hi2]; omega))
        rw [e1] at hr
        cases hr
        intro k hk
        simp [Value.ownBlock] at hk
        exact Or.inr (by omega)
theorem apW {ops : Array Oper} {rest : List Oper} {o : Oper} {a : Act} {w : World} {Q : Exit → Act → World → Prop} (hgd : o.guard = none) (s x : Operand)
    (ho : o.op = .call { callee := .builtin .append, args := #[s, x], argTypes := #[40, 40] })
    (v : Value) (l : List Nat) (hs : a.eval s = v) (hO : Ob 0 w v l) (vx : Value) (m : List Nat) (hx : a.eval x = vx) (hL : Bs w vx m) (hlen : l.length + m.length ≤ 1073741824)
    (h : ∀ v' w', Ob 0 w' v' (l ++ m) → w.grownBy w' v.ownBlock → (∀ k, v'.ownBlock = some k → v.ownBlock = some k ∨ w.heap.size ≤ k) → wpList Tryd.prog ops Q rest (a.put o.dst v') w') : wpList Tryd.prog ops Q (o :: rest) a w :=
  wpList_plain hgd fun _ hK => by
    obtain ⟨v', w', hr, h2, h3, h4⟩ := run_append_where w o.type v l hO vx m hL hlen
    unfold Oper.wp execOp
    simp only [ho, resolve, invoke, builtin, Sem.run_bind, Sem.run_pure, Result.andThen_ok, List.map_toArray, List.map_cons, List.map_nil, hs, hx, hr]
    exact hK _ _ (h v' w' h2 h3 h4)
set_option maxRecDepth 100000 in
set_option maxHeartbeats 1000000 in
theorem clone_any (w : World) (v : Value) (l : List Nat) (h : Bs w v l) (hl : l.length ≤ 10000000) :
    Calls Tryd.prog 58 #[v] w fun e w' => ∃ v', e = .returned v' ∧ Ob w.heap.size w' v' l ∧ Below w.heap.size w w' := by
  obtain ⟨ad, cap, rfl, k1, k2⟩ := h.len
  have HL : Hid (Bs w (.slice ad l.length cap) l) := h
  have hnil : ∀ (a : Option Addr) (n c : Nat), (binOp .eql 40 (.slice a n c) (.slice none 0 0)).run Tryd.prog w = .ok (.bool a.isNone) w := fun a n c => Lib.run_eql_slice_nil w 40 5 a n c 0 0 Tryd.underlying40
  cases ad with
  | none =>
    obtain ⟨e0, e1⟩ := Ls.nil h
    obtain rfl : l = [] := List.eq_nil_of_length_eq_zero e0
    subst e1
    clear h
    go_enter Tryd.func58, Tryd.ntmps58
    go_wp2
    go_ret
    exact ⟨_, rfl, ob_nil _ _, Below.refl _ _⟩
  | some a =>
    clear h
    obtain ⟨n, hN⟩ : ∃ n, l.length = n := ⟨_, rfl⟩
    have HN : Hid (l.length = n) := hN
    rw [hN] at HL hl k1 ⊢
    clear hN
    have HO0 : Hid (Ob w.heap.size (w.alloc (.cells #[] 5)) (.slice (some ⟨w.heap.size, 0, none⟩) 0 0) []) := World.ownsRow_made w #[] 0 (Nat.le_refl _) (by unfold maxLen; omega) rfl
    go_enter Tryd.func58, Tryd.ntmps58
    go_wp2_with (at_builtin; refine apB rfl _ _ rfl w.heap.size _ [] rfl HO0.out _ l rfl (HL.out.later (bel1 _ _)) (by have := HN.out; simp; omega) (by simp) ?_; intro v2 w2 hO2 hg2; rw [List.nil_append] at hO2; obtain ⟨ad5, cap5, rfl⟩ := hO2.sl)
    go_ret
    exact ⟨_, rfl, hO2, hg2.1 _ (bel1 _ _)⟩
end Go.Proofs.YtkbpcmjdfaokhaaDoor
set_option linter.unusedVariables false
set_option linter.unusedSimpArgs false
namespace Go.Proofs.YtkbpcmjdfaokhaaDoor
open Go.RowKit

set_option maxRecDepth 100000 in
set_option maxHeartbeats 4000000 in
theorem new15 (w : World) (n : Nat) (h1 : 1 ≤ n) (h2 : n ≤ 16384) :
    Calls Tryd.prog 9 #[.int .i64 (n : Int)] w fun e w' => ∃ p F, e = .returned (.tuple #[p, .int .i64 0]) ∧ PD w' p F (dNew n) ∧ (∀ k, F k → w.heap.size ≤ k) ∧ Below w.heap.size w w' := by
  obtain ⟨wB, hwB⟩ : ∃ wB, wB = (w.alloc (.map #[] 0)).alloc (.cells #[.int .i64 (n : Int), .map (some w.heap.size), .slice none 0 0, .int .i64 (-1), .bool false] 70) := ⟨_, rfl⟩
  have HM : Hid (Mz wB w.heap.size (List.replicate n zr15)) := by
    rw [hwB]
    exact (Mz.made w n).kept (Below.heap_alloc _ _ _ (by simp))
  have HB : Hid (Below w.heap.size w wB) := by rw [hwB]; exact bel2 _ _ _
  have HP : Hid (PD wB (.pointer (some ⟨w.heap.size + 1, 0, none⟩)) (fun k => k = w.heap.size ∨ k = w.heap.size + 1) (dNew n)) := by
    refine ⟨w.heap.size + 1, w.heap.size, .slice none 0 0, -1, rfl, ?_⟩
    have hz : (dNew n).bl = List.replicate n zr15 := rfl
    have hl : (dNew n).bl.length = n := by rw [hz, List.length_replicate]
    refine ⟨okD_new n, ?_, Or.inr rfl, Or.inl rfl, fun g hg => (by cases hg), by omega, by omega, by omega, ?_, ?_, ?_, ?_, ?_, ?_, World.ownsRow_nil _ _ _ _, HM.out, rfl, fun q => (by cases q), ⟨by omega, by omega⟩⟩
    · intro k hk
      rw [hwB]
      simp
      omega
    · rw [hl, hwB]; simp [go_sem]
    · rw [hwB]; simp [go_sem]
    · rw [hwB]; simp [go_sem]
    · rw [hwB]; simp [go_sem]
    · rw [hwB]; simp [go_sem, dNew]
    · intro k hk
      rw [hwB]; simp [go_sem]
  have q1 : ¬ (n : Int) < 1 := by omega
  have q2 : ¬ (16384 : Int) < (n : Int) := by omega
  have q3 : 1 ≤ n := h1
  have q4 : n ≤ 16384 := h2
  have hmk : (Instr.makeMap 67 none).run Tryd.prog w = .ok (.map (some w.heap.size)) (w.alloc (.map #[] 0)) := by
    simp [Instr.makeMap, run_underlying und_map15, go_sem, Result.andThen]
  clear HM h1 h2
  go_enter Tryd.func9, Tryd.ntmps9
  go_wp2
  go_ret2
  rw [← hwB]
  exact ⟨_, rfl, _, HP.out, fun k (hk : k = w.heap.size ∨ k = w.heap.size + 1) => by omega, HB.out⟩
set_option maxRecDepth 100000 in
set_option maxHeartbeats 4000000 in
theorem newN15 (w : World) (n : Int) (h : n < 1 ∨ 16384 < n) :
    Calls Tryd.prog 9 #[.int .i64 n] w fun e w' => e = .returned (.tuple #[.pointer none, .int .i64 2]) ∧ Below w.heap.size w w' := by
  by_cases q : n < 1
  · clear h
    go_enter Tryd.func9, Tryd.ntmps9
    go_wp2
    go_ret2
    exact ⟨rfl, Below.refl _ _⟩
  · have q2 : 16384 < n := by omega
    clear h
    go_enter Tryd.func9, Tryd.ntmps9
    go_wp2
    go_ret2
    exact ⟨rfl, Below.refl _ _⟩
set_option maxRecDepth 100000 in
set_option maxHeartbeats 4000000 in
theorem blocks15 (w : World) (p : Value) (F : Nat → Prop) (s : Dsk) (h : PD w p F s) :
    Calls Tryd.prog 22 #[p] w fun e w' => e = .returned (.int .i64 ((s.bl.length : Nat) : Int)) ∧ Below w.heap.size w w' := by
  obtain ⟨d, M, vU, L, rfl, h⟩ := h
  have hm := made_yes h
  have c0 := h.c0
  clear h
  generalize s.bl.length = n at *
  go_enter Tryd.func22, Tryd.ntmps22
  go_wp2_with (go_at_call 46; refine hm.mono ?_; rintro e w' ⟨rfl, hw⟩; replace hw := hw.symm; subst hw; clear hm)
  go_ret
  exact ⟨rfl, Below.refl _ _⟩
set_option maxRecDepth 100000 in
set_option maxHeartbeats 4000000 in
theorem blocksN15 (w : World) (p : Value) (h : Nd w p) :
    Calls Tryd.prog 22 #[p] w fun e w' => e = .returned (.int .i64 0) ∧ Below w.heap.size w w' := by
  have hm := made_no h
  go_enter Tryd.func22, Tryd.ntmps22
  go_wp2_with (go_at_call 46; refine hm.mono ?_; rintro e w' ⟨rfl, hw⟩; replace hw := hw.symm; subst hw; clear hm)
  go_ret
  exact ⟨rfl, Below.refl _ _⟩
set_option maxRecDepth 100000 in
set_option maxHeartbeats 4000000 in
theorem down15 (w : World) (p : Value) (F : Nat → Prop) (s : Dsk) (h : PD w p F s) :
    Calls Tryd.prog 35 #[p] w fun e w' => e = .returned (.bool s.dn) ∧ Below w.heap.size w w' := by
  obtain ⟨d, M, vU, L, rfl, h⟩ := h
  have hm := made_yes h
  have c4 := h.c4
  clear h
  generalize s.dn = dn at *
  go_enter Tryd.func35, Tryd.ntmps35
  go_wp2_with (go_at_call 46; refine hm.mono ?_; rintro e w' ⟨rfl, hw⟩; replace hw := hw.symm; subst hw; clear hm)
  go_ret
  exact ⟨rfl, Below.refl _ _⟩
set_option maxRecDepth 100000 in
set_option maxHeartbeats 4000000 in
theorem downN15 (w : World) (p : Value) (h : Nd w p) :
    Calls Tryd.prog 35 #[p] w fun e w' => e = .returned (.bool false) ∧ Below w.heap.size w w' := by
  have hm := made_no h
  go_enter Tryd.func35, Tryd.ntmps35
  go_wp2_with (go_at_call 46; refine hm.mono ?_; rintro e w' ⟨rfl, hw⟩; replace hw := hw.symm; subst hw; clear hm)
  go_ret
  exact ⟨rfl, Below.refl _ _⟩
set_option maxRecDepth 100000 in
set_option maxHeartbeats 4000000 in
theorem arm15 (w : World) (p : Value) (F : Nat → Prop) (s : Dsk) (n : Int) (h : PD w p F s) (hn : Bd64 n) :
    Calls Tryd.prog 19 #[p, .int .i64 n] w fun e w' => e = .returned (.tuple #[]) ∧ Ad PD p F (arS s n) w w' := by
  obtain ⟨d, M, vU, L, rfl, h⟩ := h
  have hm := made_yes h
  have f3 := h.f0 3 (by omega)
  have c3 := h.c3
  have HP : Hid (Pd (w.setCell ⟨d, 3, none⟩ (.int .i64 n)) d M vU n F (arS s n)) := h.left n n hn (fun _ => rfl)
  have HF : Hid (F d) := h.fd
  clear h hn
  go_enter Tryd.func19, Tryd.ntmps19
  go_wp2_with (go_at_call 46; refine hm.mono ?_; rintro e w' ⟨rfl, hw⟩; replace hw := hw.symm; subst hw; clear hm)
  go_end0
  exact ⟨rfl, F, ⟨d, M, vU, n, rfl, HP.out⟩, fun k hk => Or.inl hk, (Kp.refl F _).set (p := ⟨d, 3, none⟩) (Or.inl HF.out) _⟩
set_option maxRecDepth 100000 in
set_option maxHeartbeats 4000000 in
theorem armN15 (w : World) (p : Value) (n : Int) (h : Nd w p) :
    Calls Tryd.prog 19 #[p, .int .i64 n] w fun e w' => e = .returned (.tuple #[]) ∧ Below w.heap.size w w' := by
  have hm := made_no h
  go_enter Tryd.func19, Tryd.ntmps19
  go_wp2_with (go_at_call 46; refine hm.mono ?_; rintro e w' ⟨rfl, hw⟩; replace hw := hw.symm; subst hw; clear hm)
  go_end0
  exact ⟨rfl, Below.refl _ _⟩
/-- A list of one's own may be written. -/
theorem ob_uf {base : Nat} {w : World} {v : Value} {l : List Nat} (h : Ob base w v l) : Uf w v := by
  intro b o n cap e k hk
  subst e
  rcases id h.2 with ⟨e, _⟩ | ⟨g, c, cur, e, hg, hh, _⟩
  · cases e
  · cases e
    simp [World.frozen?, hh]
/-- What a call hands out as bytes of its own. -/
def Hn15 (w : World) (l : List Nat) (v : Value) (w' : World) : Prop := Bs w' v l ∧ (Ow w.heap.size v ∧ Uf w' v) ∧ Below w.heap.size w w'
set_option maxRecDepth 100000 in
set_option maxHeartbeats 4000000 in
theorem safe15 {w : World} {d M : Nat} {vU : Value} {L : Int} {F : Nat → Prop} {s : Dsk} (h : Pd w d M vU L F s) (i : Nat) (hi : i < s.bl.length) :
    Calls Tryd.prog 33 #[.pointer (some ⟨d, 0, none⟩), .int .i64 (i : Int)] w fun e w' => ∃ v, e = .returned (.tuple #[v, .int .i64 0]) ∧ Hn15 w (s.bl.getD i []) v w' := by
  have hm := made_yes h
  have hh := has_any h (i : Int)
  have e : decide (0 ≤ (i : Int) ∧ (i : Int) < (s.bl.length : Int)) = true := by simp; omega
  rw [e] at hh
  have c1 := h.c1
  have hlk := map_look h.mz i hi
  have HL : Hid ((s.bl.getD i []).length = 128) := (getD_ok h.ok.bl hi).1
  unfold bkV key15 at hlk
  clear h hi e
  generalize s.bl.getD i [] = b at *
  have hz : ∀ W, (zeroValue 100).run Tryd.prog W = .ok (.agg (b8 zr15).toArray) W := fun W => zero_blk15 W
  go_enter Tryd.func33, Tryd.ntmps33
  go_upto_region 6 with (first
    | (go_at_call 46; refine hm.mono ?_; rintro e w' ⟨rfl, hw⟩; replace hw := hw.symm; subst hw; clear hm)
    | (go_at_call 53; refine hh.mono ?_; rintro e w' ⟨rfl, hw⟩; replace hw := hw.symm; subst hw; clear hh)
    | (refine alV rfl 100 (b8 zr15) hz rfl ?_; intro wB hV hB hS)
    | (refine stV rfl 100 _ _ rfl _ (b8 zr15) (b8 b) rfl rfl hV (by rw [b8_len, b8_len, HL.out, zr_len]) (by rw [b8_len, HL.out]; exact sz_blk15) (b8_one b) ?_; intro wC hVC hKC hSC))
  have HC : Hid (Below w.heap.size w wC ∧ Bs wC (.slice (some ⟨w.heap.size, 0, none⟩) 128 128) b) := by
    refine ⟨hKC.next hB (fun i hi => by omega) hB.size, ?_⟩
    have h := hVC.bs 0 b (fun j hj => by rw [Nat.zero_add]; exact b8_cell _ _ hj) 128 (by have := HL.out; omega) (by unfold maxLen; omega)
    rw [HL.out] at h
    exact h
  clear hV hB hS hVC hKC hSC hlk c1 hz
  have hcl := clone_any wC _ b HC.out.2 (by have := HL.out; omega)
  go_wp2_with (go_at_call 58; refine hcl.mono ?_; rintro e w' ⟨v, rfl, hO, hBw⟩; clear hcl)
  go_ret2
  have hs := HC.out.1.size
  exact ⟨_, rfl, hO.bs.1, ⟨hO.bs.2.low hs, ob_uf hO⟩, bchain HC.out.1 hBw⟩
set_option maxRecDepth 100000 in
set_option maxHeartbeats 4000000 in
theorem safeN15 {w : World} {d M : Nat} {vU : Value} {L : Int} {F : Nat → Prop} {s : Dsk} (h : Pd w d M vU L F s) (i : Int) (hi : i < 0 ∨ (s.bl.length : Int) ≤ i) :
    Calls Tryd.prog 33 #[.pointer (some ⟨d, 0, none⟩), .int .i64 i] w fun e w' => e = .returned (.tuple #[.slice none 0 0, .int .i64 151]) ∧ w' = w := by
  have hm := made_yes h
  have hh := has_any h i
  have e : decide (0 ≤ i ∧ i < (s.bl.length : Int)) = false := by simp; omega
  rw [e] at hh
  clear h hi e
  go_enter Tryd.func33, Tryd.ntmps33
  go_wp2_with (first
    | (go_at_call 46; refine hm.mono ?_; rintro e w' ⟨rfl, hw⟩; replace hw := hw.symm; subst hw; clear hm)
    | (go_at_call 53; refine hh.mono ?_; rintro e w' ⟨rfl, hw⟩; replace hw := hw.symm; subst hw; clear hh))
  go_ret2
  exact ⟨rfl, rfl⟩
set_option maxRecDepth 100000 in
set_option maxHeartbeats 4000000 in
theorem safeNo15 (w : World) (p : Value) (i : Int) (h : Nd w p) :
    Calls Tryd.prog 33 #[p, .int .i64 i] w fun e w' => ∃ v, e = .returned (.tuple #[v, .int .i64 1]) ∧ Bs w' v [] ∧ Below w.heap.size w w' := by
  have hm := made_no h
  have HB : Hid (Bs w (.slice none 0 0) []) := ls_none w _
  go_enter Tryd.func33, Tryd.ntmps33
  go_wp2_with (go_at_call 46; refine hm.mono ?_; rintro e w' ⟨rfl, hw⟩; replace hw := hw.symm; subst hw; clear hm)
  go_ret2
  exact ⟨_, rfl, HB.out, Below.refl _ _⟩
end Go.Proofs.YtkbpcmjdfaokhaaDoor
