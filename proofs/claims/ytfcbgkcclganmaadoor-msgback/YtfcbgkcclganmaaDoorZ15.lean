/-
Layer 12's memory: where a longer list lies; a copy of bytes (bytes.Clone).
The program's frame: the bytes ahead (beginning), numbers of four bytes (numberAt, withNumber), a copy of bytes (bytes.Clone).
The program's frame: numbers of four bytes (numberAt, withNumber).
-/
import Derived.Test.YtfcbgkcclganmaaDoorZ02
import Derived.Test.YtfcbgkcclganmaaDoorZ06
import Derived.Test.YtfcbgkcclganmaaDoorZ14

set_option linter.unusedVariables false
set_option linter.unusedSimpArgs false
namespace Go.Proofs.YtfcbgkcclganmaaDoor
open Go.RowKit

/-- A list of one's own, while its block is as it was. -/
theorem own_block {w w' : World} {B : Nat} {e : TypeId} {s : Nat} {v : Value} {n : Nat} {xs : List Value} (h : w.ownsRow B e s v n xs) (hk : ∀ k, v.ownBlock = some k → w'.heap[k]? = w.heap[k]?) : w'.ownsRow B e s v n xs := by
  refine ⟨h.1, ?_⟩
  rcases h.2 with h0 | ⟨g, cap, cur, rfl, hg, hh, r⟩
  · exact Or.inl h0
  · exact Or.inr ⟨g, cap, cur, rfl, hg, (hk g rfl).trans hh, r⟩
/-- Where the longer list lies: in its old block, or in a new one. -/
theorem run_append_where (w : World) (ty : TypeId) (v : Value) (l : List Nat) (hO : Ob 0 w v l) (vx : Value) (m : List Nat) (hL : Bs w vx m) (hlen : l.length + m.length ≤ 1073741824) :
    ∃ v' w', (Builtin.append_ #[22, 22] ty #[v, vx]).run Tryd.prog w = .ok v' w' ∧ Ob 0 w' v' (l ++ m) ∧ w.grownBy w' v.ownBlock ∧ ∀ k, v'.ownBlock = some k → v.ownBlock = some k ∨ w.heap.size ≤ k := by
  obtain ⟨i0, hti, hi0, hi1, hi2⟩ := byteInfo
  obtain ⟨ad, cap, e, h1, h2⟩ := hL.len
  subst e
  cases ad with
  | none =>
    obtain ⟨e0, e1⟩ := Ls.nil hL
    obtain rfl : m = [] := List.eq_nil_of_length_eq_zero e0
    subst e1
    have hr := run_append_owned_none (P := Tryd.prog) (w := w) 0 22 ty 5 i0 1 Tryd.underlying22 hti v _ _ hO
    refine ⟨v, w, hr, ?_, ⟨rfl, rfl, rfl, Nat.le_refl _, fun _ _ _ => rfl⟩, fun k hk => Or.inl hk⟩
    rw [List.append_nil]; exact hO
  | some ad =>
    have hnews := ls_news hL
    have hall : ∀ base, base ≤ w.heap.size → w.ownsRow base 5 1 v l.length (b8 l) → ∃ v' w', (Builtin.append_ #[22, 22] ty #[v, .slice (some ad) m.length cap]).run Tryd.prog w = .ok v' w' ∧ w'.ownsRow base 5 1 v' (l.length + m.length) (b8 l ++ b8 m) ∧ w.grownBy w' v.ownBlock := by
      intro base hb hO
      obtain ⟨v', w', e1, e2, e3, -⟩ := run_append_own (P := Tryd.prog) w base 22 ty 5 i0 (.int .u8 0) 1 1 Tryd.underlying22 hti hi0 hi1 hi2 rfl (by decide) v l.length (b8 l) hO ad m.length cap (b8 m) (by rw [b8_len, Nat.mul_one]) (by rw [← vl_b8]; exact hnews) (b8_one m) (by unfold maxLen; omega) (by omega) hb
      exact ⟨v', w', e1, e2, e3⟩
    obtain ⟨v', w', e1, e2, e3⟩ := hall 0 (Nat.zero_le _) hO
    refine ⟨v', w', e1, by unfold Ob; rw [List.length_append, b8_app]; exact e2, e3, ?_⟩
    rcases hO.2 with ⟨rfl, hn⟩ | ⟨g, c, cur, rfl, hbg, hg, hnc, hcm, hcs, htake⟩
    · have hl : l = [] := List.eq_nil_of_length_eq_zero hn
      subst hl
      obtain ⟨v2, w2, f1, f2, -⟩ := hall w.heap.size (Nat.le_refl _) (World.ownsRow_nil _ _ _ _)
      rw [e1] at f1
      cases f1
      exact fun k hk => Or.inr (f2.lt k hk).1
    · by_cases hroom : l.length + m.length ≤ c
      · have hfit : l.length * i0.size + (b8 m).length ≤ cur.size := by rw [b8_len, hcs, hi1]; omega
        have hr := run_append_room (P := Tryd.prog) w 22 ty 5 i0 Tryd.underlying22 hti g l.length c cur hg ad m.length cap (b8 m) (by rw [b8_len, hi1, Nat.mul_one]) (by rw [← vl_b8]; exact hnews) (b8_one m) hroom hfit
        rw [e1] at hr
        cases hr
        exact fun k hk => Or.inl hk
      · have hr := run_append_grow (P := Tryd.prog) w 22 ty 5 i0 (.int .u8 0) Tryd.underlying22 hti hi0 ⟨g, 0, none⟩ l.length c (b8 l) (by rw [b8_len, hi1, Nat.mul_one]) (World.ownsRow.cells hO (g := g) rfl) ad m.length cap (b8 m) (by rw [b8_len, hi1, Nat.mul_one]) (by rw [← vl_b8]; exact hnews) (by omega) (by omega) (growslice_fits (by omega) (by rw [hi2]; omega))
        rw [e1] at hr
        cases hr
        intro k hk
        simp [Value.ownBlock] at hk
        exact Or.inr (by omega)
theorem apW {ops : Array Oper} {rest : List Oper} {o : Oper} {a : Act} {w : World} {Q : Exit → Act → World → Prop} (hgd : o.guard = none) (s x : Operand)
    (ho : o.op = .call { callee := .builtin .append, args := #[s, x], argTypes := #[22, 22] })
    (v : Value) (l : List Nat) (hs : a.eval s = v) (hO : Ob 0 w v l) (vx : Value) (m : List Nat) (hx : a.eval x = vx) (hL : Bs w vx m) (hlen : l.length + m.length ≤ 1073741824)
    (h : ∀ v' w', Ob 0 w' v' (l ++ m) → w.grownBy w' v.ownBlock → (∀ k, v'.ownBlock = some k → v.ownBlock = some k ∨ w.heap.size ≤ k) → wpList Tryd.prog ops Q rest (a.put o.dst v') w') : wpList Tryd.prog ops Q (o :: rest) a w :=
  wpList_plain hgd fun _ hK => by
    obtain ⟨v', w', hr, h2, h3, h4⟩ := run_append_where w o.type v l hO vx m hL hlen
    unfold Oper.wp execOp
    simp only [ho, resolve, invoke, builtin, Sem.run_bind, Sem.run_pure, Result.andThen_ok, List.map_toArray, List.map_cons, List.map_nil, hs, hx, hr]
    exact hK _ _ (h v' w' h2 h3 h4)
set_option maxRecDepth 100000 in
set_option maxHeartbeats 1000000 in
theorem clone_any (w : World) (v : Value) (l : List Nat) (h : Bs w v l) (hl : l.length ≤ 10000000) :
    Calls Tryd.prog 40 #[v] w fun e w' => ∃ v', e = .returned v' ∧ Ob w.heap.size w' v' l ∧ Below w.heap.size w w' := by
  obtain ⟨ad, cap, rfl, k1, k2⟩ := h.len
  have HL : Hid (Bs w (.slice ad l.length cap) l) := h
  have hnil : ∀ (a : Option Addr) (n c : Nat), (binOp .eql 22 (.slice a n c) (.slice none 0 0)).run Tryd.prog w = .ok (.bool a.isNone) w := fun a n c => Lib.run_eql_slice_nil w 22 5 a n c 0 0 Tryd.underlying22
  cases ad with
  | none =>
    obtain ⟨e0, e1⟩ := Ls.nil h
    obtain rfl : l = [] := List.eq_nil_of_length_eq_zero e0
    subst e1
    clear h
    go_enter Tryd.func40, Tryd.ntmps40
    go_wp2
    go_ret
    exact ⟨_, rfl, ob_nil _ _, Below.refl _ _⟩
  | some a =>
    clear h
    obtain ⟨n, hN⟩ : ∃ n, l.length = n := ⟨_, rfl⟩
    have HN : Hid (l.length = n) := hN
    rw [hN] at HL hl k1 ⊢
    clear hN
    have HO0 : Hid (Ob w.heap.size (w.alloc (.cells #[] 5)) (.slice (some ⟨w.heap.size, 0, none⟩) 0 0) []) := World.ownsRow_made w #[] 0 (Nat.le_refl _) (by unfold maxLen; omega) rfl
    go_enter Tryd.func40, Tryd.ntmps40
    go_wp2_with (at_builtin; refine apB rfl _ _ rfl w.heap.size _ [] rfl HO0.out _ l rfl (HL.out.later (bel1 _ _)) (by have := HN.out; simp; omega) (by simp) ?_; intro v2 w2 hO2 hg2; rw [List.nil_append] at hO2; obtain ⟨ad5, cap5, rfl⟩ := hO2.sl)
    go_ret
    exact ⟨_, rfl, hO2, hg2.1 _ (bel1 _ _)⟩
end Go.Proofs.YtfcbgkcclganmaaDoor
set_option linter.unusedVariables false
set_option linter.unusedSimpArgs false
namespace Go.Proofs.YtfcbgkcclganmaaDoor
open Go.RowKit

theorem slice_runH (w : World) (ad : Option Addr) (n cap q : Nat) (h2 : q ≤ cap) :
    (Instr.slice 22 (.slice ad n cap) none (some (.int .i64 (q : Int))) none).run Tryd.prog w = .ok (sv ad 0 q cap) w := by
  have ht : Tryd.prog.underlying 22 = some (.slice (Tryd.prog.elem 22)) := by kernel_rfl
  have hs : (sizeOf (Tryd.prog.elem 22)).run Tryd.prog w = .ok 1 w := by
    obtain ⟨i0, hti, hi0, hi1, hi2⟩ := byteInfo
    have e : Tryd.prog.elem 22 = 5 := by kernel_rfl
    rw [e]
    simp [sizeOf, typeInfo, hti, hi1]
  rw [run_slice_h w 22 ad n cap ht .i64 (q : Int) (by omega) (by omega), hs]
  simp [Result.andThen, sliced, sv]
/-- The first error among the four bytes ahead, as far as they are there. -/
structure Bg (l : List Nat) (E : Nat) : Prop where
  no : E ≠ 0 → opE l = E
  lo : E = 0 → l.length ≤ 3 → opE l = 130
  hd : E = 0 → 3 < l.length → Hd4 l
  lt : E < 1000
/-- So many bytes ahead are right. -/
def OkTo (l : List Nat) (j : Nat) : Prop := (0 < j → l.getD 0 0 = 82) ∧ (1 < j → l.getD 1 0 = 71) ∧ (2 < j → l.getD 2 0 = 1) ∧ (3 < j → l.getD 3 0 ≠ 0)
theorem okTo_zero (l : List Nat) : OkTo l 0 := ⟨fun h => by omega, fun h => by omega, fun h => by omega, fun h => by omega⟩
theorem bg_end {l : List Nat} {m : Nat} (hm : m = min l.length 4) (h : OkTo l m) : Bg l 0 := by
  refine ⟨fun q => absurd rfl q, fun _ q => ?_, fun _ q => ⟨q, h.1 (by omega), h.2.1 (by omega), h.2.2.1 (by omega), h.2.2.2 (by omega)⟩, by omega⟩
  have : l.length = 0 ∨ l.length = 1 ∨ l.length = 2 ∨ l.length = 3 := by omega
  rcases this with q0 | q0 | q0 | q0
  · exact opE_l0 q0
  · exact opE_l1 q0 (h.1 (by omega))
  · exact opE_l2 q0 (h.1 (by omega)) (h.2.1 (by omega))
  · exact opE_l3 q0 (h.1 (by omega)) (h.2.1 (by omega)) (h.2.2.1 (by omega))
theorem bg_no {l : List Nat} {E : Nat} (h : opE l = E) (h0 : E ≠ 0) (h1 : E < 1000) : Bg l E := ⟨fun _ => h, fun q => absurd q h0, fun q => absurd q h0, h1⟩
set_option maxRecDepth 100000 in
set_option maxHeartbeats 4000000 in
theorem beginning_any (w : World) (v : Value) (l : List Nat) (h : Bs w v l) (hb : ∀ c ∈ l, c < 256) (hl : l.length ≤ 1000000) (hA : AhAt w) :
    Calls Tryd.prog 46 #[v] w fun e w' => ∃ E : Nat, e = .returned (.int .i64 (E : Int)) ∧ Bg l E ∧ w' = w := by
  obtain ⟨ad, cap, rfl, k1, k2⟩ := h.len
  unfold maxLen at k2
  have g0 : w.cell? ⟨0, 0, none⟩ = some (.int .u8 82) := hA 0 (by omega)
  have g1 : w.cell? ⟨0, 1, none⟩ = some (.int .u8 71) := hA 1 (by omega)
  have g2 : w.cell? ⟨0, 2, none⟩ = some (.int .u8 1) := hA 2 (by omega)
  obtain ⟨n, hn⟩ : ∃ n, l.length = n := ⟨_, rfl⟩
  have HN : Hid (l.length = n) := hn
  have HS : Hid (∀ j, j < n → ∃ (b o : Nat), ad = some ⟨b, o, none⟩ ∧ w.cell? ⟨b, o + j, none⟩ = some (.int .u8 ((l.getD j 0 : Nat) : Int))) := fun j hj => h.cel j (by omega)
  rw [hn] at k1 hl ⊢
  clear h hb hA hn
  go_enter Tryd.func46, Tryd.ntmps46
  by_cases hq : (4 : Int) < (n : Int)
  · have HM : Hid (4 = min l.length 4 ∧ 4 ≤ n) := ⟨by have := HN.out; omega, by omega⟩
    go_upto_region 2 with fail
    go_loopw [11] (fun s11 wr => ∃ j : Nat, j ≤ 4 ∧ s11 = .int .i64 (j : Int) ∧ wr = w ∧ Hid (OkTo l j)) (fun s11 _ => 4 - (intOf s11).toNat)
    case atStart => exact ⟨0, by omega, rfl, rfl, okTo_zero l⟩
    case round =>
      obtain ⟨j, hj, rfl, hwr, HO⟩ := hrel
      have hwr2 := hwr.symm
      subst hwr2
      clear hwr
      by_cases hlt : j < 4
      · have hjI : (j : Int) < (4 : Int) := by omega
        obtain ⟨g, o, e, c⟩ := HS.out j (by have := HM.out; omega)
        subst e
        clear HS
        have hj4 : j < 4 := by have := HM.out; omega
        have hcs : j = 0 ∨ j = 1 ∨ j = 2 ∨ j = 3 := by omega
        clear hj4
        rcases hcs with rfl | rfl | rfl | rfl
        · obtain ⟨x, hx⟩ : ∃ x, l.getD 0 0 = x := ⟨_, rfl⟩
          rw [hx] at c
          rw [Nat.add_zero] at c
          have HXx : Hid (l.getD 0 0 = x) := hx
          clear hx
          by_cases hv : x = 82
          · subst hv
            have HX : Hid (l.getD 0 0 = 82) := HXx.out
            clear HXx
            go_wp2
            go_roundw
            case rel => exact ⟨1, by omega, by first | rfl | go_num, by trivial, ⟨fun _ => HX.out, fun h => by omega, fun h => by omega, fun h => by omega⟩⟩
            case measure => first | (simp [intOf]; done) | (simp [intOf]; omega)
          · have hvI : ¬ (x : Int) = 82 := by omega
            have HX : Hid (l.getD 0 0 ≠ 82) := (by have := HXx.out; show _ ≠ _; omega)
            clear HXx
            go_wp2
            go_ret
            exact ⟨131, rfl, bg_no (opE_b0 (by have := HM.out; omega) HX.out) (by omega) (by omega), rfl⟩
        · obtain ⟨x, hx⟩ : ∃ x, l.getD 1 0 = x := ⟨_, rfl⟩
          rw [hx] at c
          have HXx : Hid (l.getD 1 0 = x) := hx
          clear hx
          by_cases hv : x = 71
          · subst hv
            have HX : Hid (l.getD 1 0 = 71) := HXx.out
            clear HXx
            go_wp2
            go_roundw
            case rel => exact ⟨2, by omega, by first | rfl | go_num, by trivial, ⟨fun _ => HO.out.1 (by omega), fun _ => HX.out, fun h => by omega, fun h => by omega⟩⟩
            case measure => first | (simp [intOf]; done) | (simp [intOf]; omega)
          · have hvI : ¬ (x : Int) = 71 := by omega
            have HX : Hid (l.getD 1 0 ≠ 71) := (by have := HXx.out; show _ ≠ _; omega)
            clear HXx
            go_wp2
            go_ret
            exact ⟨131, rfl, bg_no (opE_b1 (by have := HM.out; omega) (HO.out.1 (by omega)) HX.out) (by omega) (by omega), rfl⟩
        · obtain ⟨x, hx⟩ : ∃ x, l.getD 2 0 = x := ⟨_, rfl⟩
          rw [hx] at c
          have HXx : Hid (l.getD 2 0 = x) := hx
          clear hx
          by_cases hv : x = 1
          · subst hv
            have HX : Hid (l.getD 2 0 = 1) := HXx.out
            clear HXx
            go_wp2
            go_roundw
            case rel => exact ⟨3, by omega, by first | rfl | go_num, by trivial, ⟨fun _ => HO.out.1 (by omega), fun _ => HO.out.2.1 (by omega), fun _ => HX.out, fun h => by omega⟩⟩
            case measure => first | (simp [intOf]; done) | (simp [intOf]; omega)
          · have hvI : ¬ (x : Int) = 1 := by omega
            have HX : Hid (l.getD 2 0 ≠ 1) := (by have := HXx.out; show _ ≠ _; omega)
            clear HXx
            go_wp2
            go_ret
            exact ⟨132, rfl, bg_no (opE_b2 (by have := HM.out; omega) (HO.out.1 (by omega)) (HO.out.2.1 (by omega)) HX.out) (by omega) (by omega), rfl⟩
        · obtain ⟨x, hx⟩ : ∃ x, l.getD 3 0 = x := ⟨_, rfl⟩
          rw [hx] at c
          have HXx : Hid (l.getD 3 0 = x) := hx
          clear hx
          by_cases hv : x = 0
          · subst hv
            have HX : Hid (l.getD 3 0 = 0) := HXx.out
            clear HXx
            go_wp2
            go_ret
            exact ⟨133, rfl, bg_no (opE_b3 (by have := HM.out; omega) (HO.out.1 (by omega)) (HO.out.2.1 (by omega)) (HO.out.2.2.1 (by omega)) HX.out) (by omega) (by omega), rfl⟩
          · have hvI : ¬ (x : Int) = 0 := by omega
            have HX : Hid (l.getD 3 0 ≠ 0) := (by have := HXx.out; show _ ≠ _; omega)
            clear HXx
            go_wp2
            go_roundw
            case rel => exact ⟨4, by omega, by first | rfl | go_num, by trivial, ⟨fun _ => HO.out.1 (by omega), fun _ => HO.out.2.1 (by omega), fun _ => HO.out.2.2.1 (by omega), fun _ => HX.out⟩⟩
            case measure => first | (simp [intOf]; done) | (simp [intOf]; omega)
      · obtain rfl : j = 4 := by omega
        skip
        have HE : Hid (Bg l 0) := bg_end HM.out.1 HO.out
        clear HS HO
        go_wp2
        go_ret
        exact ⟨0, rfl, HE.out, rfl⟩
  · have HM : Hid (n = min l.length 4 ∧ n ≤ 4) := ⟨by have := HN.out; omega, by omega⟩
    go_upto_region 2 with fail
    go_loopw [11] (fun s11 wr => ∃ j : Nat, j ≤ n ∧ s11 = .int .i64 (j : Int) ∧ wr = w ∧ Hid (OkTo l j)) (fun s11 _ => n - (intOf s11).toNat)
    case atStart => exact ⟨0, by omega, rfl, rfl, okTo_zero l⟩
    case round =>
      obtain ⟨j, hj, rfl, hwr, HO⟩ := hrel
      have hwr2 := hwr.symm
      subst hwr2
      clear hwr
      by_cases hlt : j < n
      · have hjI : (j : Int) < (n : Int) := by omega
        obtain ⟨g, o, e, c⟩ := HS.out j (by have := HM.out; omega)
        subst e
        clear HS
        have hj4 : j < 4 := by have := HM.out; omega
        have hcs : j = 0 ∨ j = 1 ∨ j = 2 ∨ j = 3 := by omega
        clear hj4
        rcases hcs with rfl | rfl | rfl | rfl
        · obtain ⟨x, hx⟩ : ∃ x, l.getD 0 0 = x := ⟨_, rfl⟩
          rw [hx] at c
          rw [Nat.add_zero] at c
          have HXx : Hid (l.getD 0 0 = x) := hx
          clear hx
          by_cases hv : x = 82
          · subst hv
            have HX : Hid (l.getD 0 0 = 82) := HXx.out
            clear HXx
            go_wp2
            go_roundw
            case rel => exact ⟨1, by omega, by first | rfl | go_num, by trivial, ⟨fun _ => HX.out, fun h => by omega, fun h => by omega, fun h => by omega⟩⟩
            case measure => first | (simp [intOf]; done) | (simp [intOf]; omega)
          · have hvI : ¬ (x : Int) = 82 := by omega
            have HX : Hid (l.getD 0 0 ≠ 82) := (by have := HXx.out; show _ ≠ _; omega)
            clear HXx
            go_wp2
            go_ret
            exact ⟨131, rfl, bg_no (opE_b0 (by have := HM.out; omega) HX.out) (by omega) (by omega), rfl⟩
        · obtain ⟨x, hx⟩ : ∃ x, l.getD 1 0 = x := ⟨_, rfl⟩
          rw [hx] at c
          have HXx : Hid (l.getD 1 0 = x) := hx
          clear hx
          by_cases hv : x = 71
          · subst hv
            have HX : Hid (l.getD 1 0 = 71) := HXx.out
            clear HXx
            go_wp2
            go_roundw
            case rel => exact ⟨2, by omega, by first | rfl | go_num, by trivial, ⟨fun _ => HO.out.1 (by omega), fun _ => HX.out, fun h => by omega, fun h => by omega⟩⟩
            case measure => first | (simp [intOf]; done) | (simp [intOf]; omega)
          · have hvI : ¬ (x : Int) = 71 := by omega
            have HX : Hid (l.getD 1 0 ≠ 71) := (by have := HXx.out; show _ ≠ _; omega)
            clear HXx
            go_wp2
            go_ret
            exact ⟨131, rfl, bg_no (opE_b1 (by have := HM.out; omega) (HO.out.1 (by omega)) HX.out) (by omega) (by omega), rfl⟩
        · obtain ⟨x, hx⟩ : ∃ x, l.getD 2 0 = x := ⟨_, rfl⟩
          rw [hx] at c
          have HXx : Hid (l.getD 2 0 = x) := hx
          clear hx
          by_cases hv : x = 1
          · subst hv
            have HX : Hid (l.getD 2 0 = 1) := HXx.out
            clear HXx
            go_wp2
            go_roundw
            case rel => exact ⟨3, by omega, by first | rfl | go_num, by trivial, ⟨fun _ => HO.out.1 (by omega), fun _ => HO.out.2.1 (by omega), fun _ => HX.out, fun h => by omega⟩⟩
            case measure => first | (simp [intOf]; done) | (simp [intOf]; omega)
          · have hvI : ¬ (x : Int) = 1 := by omega
            have HX : Hid (l.getD 2 0 ≠ 1) := (by have := HXx.out; show _ ≠ _; omega)
            clear HXx
            go_wp2
            go_ret
            exact ⟨132, rfl, bg_no (opE_b2 (by have := HM.out; omega) (HO.out.1 (by omega)) (HO.out.2.1 (by omega)) HX.out) (by omega) (by omega), rfl⟩
        · obtain ⟨x, hx⟩ : ∃ x, l.getD 3 0 = x := ⟨_, rfl⟩
          rw [hx] at c
          have HXx : Hid (l.getD 3 0 = x) := hx
          clear hx
          by_cases hv : x = 0
          · subst hv
            have HX : Hid (l.getD 3 0 = 0) := HXx.out
            clear HXx
            go_wp2
            go_ret
            exact ⟨133, rfl, bg_no (opE_b3 (by have := HM.out; omega) (HO.out.1 (by omega)) (HO.out.2.1 (by omega)) (HO.out.2.2.1 (by omega)) HX.out) (by omega) (by omega), rfl⟩
          · have hvI : ¬ (x : Int) = 0 := by omega
            have HX : Hid (l.getD 3 0 ≠ 0) := (by have := HXx.out; show _ ≠ _; omega)
            clear HXx
            go_wp2
            go_roundw
            case rel => exact ⟨4, by omega, by first | rfl | go_num, by trivial, ⟨fun _ => HO.out.1 (by omega), fun _ => HO.out.2.1 (by omega), fun _ => HO.out.2.2.1 (by omega), fun _ => HX.out⟩⟩
            case measure => first | (simp [intOf]; done) | (simp [intOf]; omega)
      · obtain rfl : n = j := by omega
        have hjI : ¬ (n : Int) < (n : Int) := by omega
        have HE : Hid (Bg l 0) := bg_end HM.out.1 HO.out
        clear HS HO
        go_wp2
        go_ret
        exact ⟨0, rfl, HE.out, rfl⟩
end Go.Proofs.YtfcbgkcclganmaaDoor
set_option linter.unusedVariables false
set_option linter.unusedSimpArgs false
namespace Go.Proofs.YtfcbgkcclganmaaDoor
open Go.RowKit

theorem or32 (a b : Nat) (ha : a < 4294967296) (hb : b < 4294967296) : bits .or .u32 (a : Int) (b : Int) = ((a ||| b : Nat) : Int) := by
  have hx : a ||| b < 2 ^ 32 := Nat.or_lt_two_pow (by omega) (by omega)
  have b32 : ∀ a : Nat, a < 4294967296 → (BitVec.ofInt 32 (a : Int)).toNat = a := fun a ha => by
    rw [BitVec.ofInt_natCast, BitVec.toNat_ofNat]; exact Nat.mod_eq_of_lt (by omega)
  show IntKind.u32.wrap ((BitVec.ofInt 32 (a : Int) ||| BitVec.ofInt 32 (b : Int)).toNat : Int) = _
  rw [BitVec.toNat_or, b32 a ha, b32 b hb, IntKind.wrap_u32]
  omega
theorem or_plus13 {a k : Nat} (h : a < 2 ^ k) (x : Nat) : a ||| x * 2 ^ k = a + x * 2 ^ k := by
  rw [Nat.or_comm, Nat.mul_comm x, ← Nat.two_pow_add_eq_or_of_lt h, Nat.add_comm]
/-- The number at a place, and its first so many bytes. -/
def n4 (l : List Nat) (p : Nat) : Nat := l.getD p 0 + 256 * l.getD (p + 1) 0 + 65536 * l.getD (p + 2) 0 + 16777216 * l.getD (p + 3) 0
def nA (l : List Nat) (p : Nat) : Nat → Nat
  | 0 => 0
  | j + 1 => nA l p j + l.getD (p + j) 0 * 2 ^ (8 * j)
theorem nA_four (l : List Nat) (p : Nat) : nA l p 4 = n4 l p := by
  unfold n4
  simp only [nA, Nat.add_zero]
  omega
theorem nA_lt {l : List Nat} (hb : ∀ c ∈ l, c < 256) (p : Nat) : nA l p 0 = 0 ∧ nA l p 1 < 2 ^ 8 ∧ nA l p 2 < 2 ^ 16 ∧ nA l p 3 < 2 ^ 24 := by
  have h0 := getD_byte hb (p + 0)
  have h1 := getD_byte hb (p + 1)
  have h2 := getD_byte hb (p + 2)
  rw [Nat.add_zero] at h0
  refine ⟨rfl, ?_, ?_, ?_⟩ <;> simp only [nA, Nat.add_zero] <;> omega
set_option maxRecDepth 100000 in
set_option maxHeartbeats 4000000 in
theorem numberAt_any (w : World) (v : Value) (l : List Nat) (p : Nat) (h : Bs w v l) (hb : ∀ c ∈ l, c < 256) (hl : l.length ≤ 1000000) (hp : p + 4 ≤ l.length) :
    Calls Tryd.prog 47 #[v, .int .i64 (p : Int)] w fun e w' => e = .returned (.int .u32 ((n4 l p : Nat) : Int)) ∧ w' = w := by
  obtain ⟨ad, cap, rfl, k1, k2⟩ := h.len
  unfold maxLen at k2
  obtain ⟨n, hn⟩ : ∃ n, l.length = n := ⟨_, rfl⟩
  obtain ⟨q, hq⟩ : ∃ q, p + 4 = q := ⟨_, rfl⟩
  have hqI : IntKind.i64.wrap ((p : Int) + 4) = (q : Int) := by rw [IntKind.wrap_i64]; omega
  have hS := sv_bs h p q (by omega) (by omega)
  have s1 := slice_run w ad l.length cap p q (by omega) (by omega)
  obtain ⟨a9, c9, e9, -, -⟩ := hS.len
  have hl9 : ((l.drop p).take (q - p)).length = 4 := by rw [List.length_take, List.length_drop]; omega
  rw [hl9] at e9
  rw [e9] at s1 hS
  have HS : Hid (∀ j, j < 4 → ∃ (b o : Nat), a9 = some ⟨b, o, none⟩ ∧ w.cell? ⟨b, o + j, none⟩ = some (.int .u8 ((l.getD (p + j) 0 : Nat) : Int))) := fun j hj => by
    obtain ⟨b, o, e, c⟩ := hS.cel j (by omega)
    refine ⟨b, o, e, ?_⟩
    rw [c]
    have : j < q - p := by omega
    simp [List.getD, List.getElem?_take, this]
  have HB : Hid ((∀ j, l.getD (p + j) 0 < 256) ∧ nA l p 0 = 0 ∧ nA l p 1 < 2 ^ 8 ∧ nA l p 2 < 2 ^ 16 ∧ nA l p 3 < 2 ^ 24) := ⟨fun j => getD_byte hb _, nA_lt hb p⟩
  rw [hn] at k1 hl hp s1 ⊢
  have HP : Hid (p + 4 = q ∧ p + 4 ≤ n) := ⟨hq, hp⟩
  clear h hb hS hl9 e9 hn hq hp
  go_enter Tryd.func47, Tryd.ntmps47
  go_upto_region 3 with fail
  go_loopw [5, 14] (fun s5 s14 wr => ∃ j : Nat, j ≤ 4 ∧ s14 = .int .i64 (j : Int) ∧ s5 = .int .u32 ((nA l p j : Nat) : Int) ∧ wr = w) (fun _ s14 _ => 4 - (intOf s14).toNat)
  case atStart => exact ⟨0, by omega, rfl, by rw [HB.out.2.1]; rfl, rfl⟩
  case round =>
    obtain ⟨j, hj, rfl, rfl, hwr⟩ := hrel
    have hwr2 := hwr.symm
    subst hwr2
    clear hwr
    by_cases hlt : j < 4
    · obtain ⟨g, o, e, c⟩ := HS.out j hlt
      subst e
      clear HS
      have hx := HB.out.1 j
      have HNx : Hid (nA l p (j + 1) = nA l p j + l.getD (p + j) 0 * 2 ^ (8 * j)) := rfl
      have hcs : j = 0 ∨ j = 1 ∨ j = 2 ∨ j = 3 := by omega
      rcases hcs with rfl | rfl | rfl | rfl
      · have hA : nA l p 0 < 2 ^ 0 := by have := HB.out.2.1; omega
        obtain ⟨y, hy⟩ : ∃ y, l.getD (p + 0) 0 * 2 ^ 0 = y := ⟨_, rfl⟩
        have hor := or_plus13 hA (l.getD (p + 0) 0)
        have hm8 : (8 : Nat) * 0 = 0 := rfl
        rw [hm8] at HNx
        rw [hy] at hor HNx
        have ho32 := or32 (nA l p 0) y (by omega) (by omega)
        rw [hor] at ho32
        obtain ⟨A, hAA⟩ : ∃ A, nA l p 0 = A := ⟨_, rfl⟩
        obtain ⟨x, hxx⟩ : ∃ x, l.getD (p + 0) 0 = x := ⟨_, rfl⟩
        rw [hAA] at ho32 hor HNx hA ⊢
        rw [hxx] at hy c hx
        have hw : IntKind.u32.wrap (x : Int) = (x : Int) := by rw [IntKind.wrap_u32]; omega
        have hsh : IntKind.u32.wrap ((x : Int) * 1) = (y : Int) := by rw [IntKind.wrap_u32]; omega
        have hsh2 : (x : Int) * 1 = (y : Int) := by omega
        clear hor hy hAA hxx hm8 hA
        rw [Nat.add_zero] at c
        go_wp2
        go_roundw
        case rel => exact ⟨1, by omega, by first | rfl | go_num, by rw [HNx.out, Int.natCast_add], by trivial⟩
        case measure => first | (simp [intOf]; done) | (simp [intOf]; omega)
      · have hA : nA l p 1 < 2 ^ 8 := by have := HB.out.2.2.1; omega
        obtain ⟨y, hy⟩ : ∃ y, l.getD (p + 1) 0 * 2 ^ 8 = y := ⟨_, rfl⟩
        have hor := or_plus13 hA (l.getD (p + 1) 0)
        have hm8 : (8 : Nat) * 1 = 8 := rfl
        rw [hm8] at HNx
        rw [hy] at hor HNx
        have ho32 := or32 (nA l p 1) y (by omega) (by omega)
        rw [hor] at ho32
        obtain ⟨A, hAA⟩ : ∃ A, nA l p 1 = A := ⟨_, rfl⟩
        obtain ⟨x, hxx⟩ : ∃ x, l.getD (p + 1) 0 = x := ⟨_, rfl⟩
        rw [hAA] at ho32 hor HNx hA ⊢
        rw [hxx] at hy c hx
        have hw : IntKind.u32.wrap (x : Int) = (x : Int) := by rw [IntKind.wrap_u32]; omega
        have hsh : IntKind.u32.wrap ((x : Int) * 256) = (y : Int) := by rw [IntKind.wrap_u32]; omega
        have hsh2 : (x : Int) * 256 = (y : Int) := by omega
        clear hor hy hAA hxx hm8 
        skip
        go_wp2
        go_roundw
        case rel => exact ⟨2, by omega, by first | rfl | go_num, by rw [HNx.out, Int.natCast_add], by trivial⟩
        case measure => first | (simp [intOf]; done) | (simp [intOf]; omega)
      · have hA : nA l p 2 < 2 ^ 16 := by have := HB.out.2.2.2.1; omega
        obtain ⟨y, hy⟩ : ∃ y, l.getD (p + 2) 0 * 2 ^ 16 = y := ⟨_, rfl⟩
        have hor := or_plus13 hA (l.getD (p + 2) 0)
        have hm8 : (8 : Nat) * 2 = 16 := rfl
        rw [hm8] at HNx
        rw [hy] at hor HNx
        have ho32 := or32 (nA l p 2) y (by omega) (by omega)
        rw [hor] at ho32
        obtain ⟨A, hAA⟩ : ∃ A, nA l p 2 = A := ⟨_, rfl⟩
        obtain ⟨x, hxx⟩ : ∃ x, l.getD (p + 2) 0 = x := ⟨_, rfl⟩
        rw [hAA] at ho32 hor HNx hA ⊢
        rw [hxx] at hy c hx
        have hw : IntKind.u32.wrap (x : Int) = (x : Int) := by rw [IntKind.wrap_u32]; omega
        have hsh : IntKind.u32.wrap ((x : Int) * 65536) = (y : Int) := by rw [IntKind.wrap_u32]; omega
        have hsh2 : (x : Int) * 65536 = (y : Int) := by omega
        clear hor hy hAA hxx hm8 
        skip
        go_wp2
        go_roundw
        case rel => exact ⟨3, by omega, by first | rfl | go_num, by rw [HNx.out, Int.natCast_add], by trivial⟩
        case measure => first | (simp [intOf]; done) | (simp [intOf]; omega)
      · have hA : nA l p 3 < 2 ^ 24 := by have := HB.out.2.2.2.2; omega
        obtain ⟨y, hy⟩ : ∃ y, l.getD (p + 3) 0 * 2 ^ 24 = y := ⟨_, rfl⟩
        have hor := or_plus13 hA (l.getD (p + 3) 0)
        have hm8 : (8 : Nat) * 3 = 24 := rfl
        rw [hm8] at HNx
        rw [hy] at hor HNx
        have ho32 := or32 (nA l p 3) y (by omega) (by omega)
        rw [hor] at ho32
        obtain ⟨A, hAA⟩ : ∃ A, nA l p 3 = A := ⟨_, rfl⟩
        obtain ⟨x, hxx⟩ : ∃ x, l.getD (p + 3) 0 = x := ⟨_, rfl⟩
        rw [hAA] at ho32 hor HNx hA ⊢
        rw [hxx] at hy c hx
        have hw : IntKind.u32.wrap (x : Int) = (x : Int) := by rw [IntKind.wrap_u32]; omega
        have hsh : IntKind.u32.wrap ((x : Int) * 16777216) = (y : Int) := by rw [IntKind.wrap_u32]; omega
        have hsh2 : (x : Int) * 16777216 = (y : Int) := by omega
        clear hor hy hAA hxx hm8 
        skip
        go_wp2
        go_roundw
        case rel => exact ⟨4, by omega, by first | rfl | go_num, by rw [HNx.out, Int.natCast_add], by trivial⟩
        case measure => first | (simp [intOf]; done) | (simp [intOf]; omega)
    · obtain rfl : j = 4 := by omega
      have HE : Hid (nA l p 4 = n4 l p) := nA_four l p
      clear HS HB
      go_wp2
      go_ret
      exact ⟨by rw [HE.out]; rfl, rfl⟩
/-- The bytes of a number, so many of them. -/
def fB (n : Nat) : Nat → Nat
  | 0 => n % 256
  | 1 => n / 256 % 256
  | 2 => n / 65536 % 256
  | _ => n / 16777216
theorem four_fB (n : Nat) : four n = [fB n 0, fB n 1, fB n 2, fB n 3] := rfl
set_option maxRecDepth 100000 in
set_option maxHeartbeats 4000000 in
theorem withNumber_any (w : World) (base : Nat) (v : Value) (l : List Nat) (n : Nat) (hO : Ob base w v l) (hbase : base ≤ w.heap.size) (hl : l.length ≤ 10000000) (hn : n < 4294967296) :
    Calls Tryd.prog 36 #[v, .int .u32 (n : Int)] w fun e w' => ∃ v', e = .returned v' ∧ Ob base w' v' (l ++ four n) ∧ Gw base w w' := by
  have HO : Hid (Ob base w v l) := hO
  have HL : Hid (l.length ≤ 10000000 ∧ base ≤ w.heap.size) := ⟨hl, hbase⟩
  have HF : Hid (four n = [fB n 0, fB n 1, fB n 2, fB n 3]) := four_fB n
  have HN : Hid (n < 4294967296) := hn
  clear hO hbase hl hn
  go_enter Tryd.func36, Tryd.ntmps36
  go_upto_region 2 with fail
  go_loopw [0, 6] (fun s0 s6 wr => ∃ j : Nat, j ≤ 4 ∧ s6 = .int .i64 (j : Int) ∧ Hid (Ob base wr s0 (l ++ (four n).take j) ∧ Gw base w wr)) (fun _ s6 _ => 4 - (intOf s6).toNat)
  case atStart => exact ⟨0, by omega, rfl, by rw [List.take_zero, List.append_nil]; exact HO.out, ⟨fun _ h => h, Nat.le_refl _⟩⟩
  case round =>
    obtain ⟨j, hj, rfl, HW⟩ := hrel
    clear HO
    by_cases hlt : j < 4
    · have hcs : j = 0 ∨ j = 1 ∨ j = 2 ∨ j = 3 := by omega
      rcases hcs with rfl | rfl | rfl | rfl
      · obtain ⟨x, hx⟩ : ∃ x, fB n 0 = x := ⟨_, rfl⟩
        obtain ⟨d, hd⟩ : ∃ d, n / 1 = d := ⟨_, rfl⟩
        have hdI : (n : Int) / 1 = (d : Int) := by omega
        have hw : IntKind.u8.wrap (d : Int) = (x : Int) := by rw [IntKind.wrap_u8]; have h1 := HN.out; have h2 : fB n 0 = n % 256 := rfl; omega
        have HT : Hid (l ++ (four n).take 0 ++ [x] = l ++ (four n).take (0 + 1)) := by show _ = _; rw [← hx, HF.out]; simp
        clear hx hd
        have hdI0 : (n : Int) = (d : Int) := by omega
        have hw0 : IntKind.u8.wrap (n : Int) = (x : Int) := by rw [hdI0]; exact hw
        clear hdI0
        have HLn : Hid ((l ++ (four n).take 0).length ≤ 10000010) := by show _ ≤ _; rw [List.length_append, List.length_take, four_len]; have := HL.out; omega
        generalize l ++ (four n).take 0 = L at *
        go_upto_region 5 with (at_builtin; refine apB rfl _ _ rfl base u0 L rfl (HW.out.1.later (bel1 _ _)) _ [x] rfl (bs_one wr x _) (by have := HLn.out; rw [List.length_singleton]; omega) (by rw [World.size_alloc]; have := HW.out.2.2; have := HL.out; omega) ?_; intro v2 w2 hO2 hg2)
        have HW2 : Hid (Ob base w2 v2 (l ++ (four n).take (0 + 1)) ∧ Gw base w w2) := ⟨by rw [← HT.out]; exact hO2, ⟨fun w0 hb => hg2.1 _ ((HW.out.2.1 _ hb).alloc (by have := HW.out.2.2; have := HL.out; omega) _), by have h1 := hg2.2; have h2 := HW.out.2.2; rw [World.size_alloc] at h1; omega⟩⟩
        clear hO2 hg2 HW HT HLn
        go_wp2
        go_roundw
        case rel => exact ⟨1, by omega, by first | rfl | go_num, HW2⟩
        case measure => first | (simp [intOf]; done) | (simp [intOf]; omega)
      · obtain ⟨x, hx⟩ : ∃ x, fB n 1 = x := ⟨_, rfl⟩
        obtain ⟨d, hd⟩ : ∃ d, n / 256 = d := ⟨_, rfl⟩
        have hdI : (n : Int) / 256 = (d : Int) := by omega
        have hw : IntKind.u8.wrap (d : Int) = (x : Int) := by rw [IntKind.wrap_u8]; have h1 := HN.out; have h2 : fB n 1 = n / 256 % 256 := rfl; omega
        have HT : Hid (l ++ (four n).take 1 ++ [x] = l ++ (four n).take (1 + 1)) := by show _ = _; rw [← hx, HF.out]; simp
        clear hx hd
        skip
        skip
        skip
        have HLn : Hid ((l ++ (four n).take 1).length ≤ 10000010) := by show _ ≤ _; rw [List.length_append, List.length_take, four_len]; have := HL.out; omega
        generalize l ++ (four n).take 1 = L at *
        go_upto_region 5 with (at_builtin; refine apB rfl _ _ rfl base u0 L rfl (HW.out.1.later (bel1 _ _)) _ [x] rfl (bs_one wr x _) (by have := HLn.out; rw [List.length_singleton]; omega) (by rw [World.size_alloc]; have := HW.out.2.2; have := HL.out; omega) ?_; intro v2 w2 hO2 hg2)
        have HW2 : Hid (Ob base w2 v2 (l ++ (four n).take (1 + 1)) ∧ Gw base w w2) := ⟨by rw [← HT.out]; exact hO2, ⟨fun w0 hb => hg2.1 _ ((HW.out.2.1 _ hb).alloc (by have := HW.out.2.2; have := HL.out; omega) _), by have h1 := hg2.2; have h2 := HW.out.2.2; rw [World.size_alloc] at h1; omega⟩⟩
        clear hO2 hg2 HW HT HLn
        go_wp2
        go_roundw
        case rel => exact ⟨2, by omega, by first | rfl | go_num, HW2⟩
        case measure => first | (simp [intOf]; done) | (simp [intOf]; omega)
      · obtain ⟨x, hx⟩ : ∃ x, fB n 2 = x := ⟨_, rfl⟩
        obtain ⟨d, hd⟩ : ∃ d, n / 65536 = d := ⟨_, rfl⟩
        have hdI : (n : Int) / 65536 = (d : Int) := by omega
        have hw : IntKind.u8.wrap (d : Int) = (x : Int) := by rw [IntKind.wrap_u8]; have h1 := HN.out; have h2 : fB n 2 = n / 65536 % 256 := rfl; omega
        have HT : Hid (l ++ (four n).take 2 ++ [x] = l ++ (four n).take (2 + 1)) := by show _ = _; rw [← hx, HF.out]; simp
        clear hx hd
        skip
        skip
        skip
        have HLn : Hid ((l ++ (four n).take 2).length ≤ 10000010) := by show _ ≤ _; rw [List.length_append, List.length_take, four_len]; have := HL.out; omega
        generalize l ++ (four n).take 2 = L at *
        go_upto_region 5 with (at_builtin; refine apB rfl _ _ rfl base u0 L rfl (HW.out.1.later (bel1 _ _)) _ [x] rfl (bs_one wr x _) (by have := HLn.out; rw [List.length_singleton]; omega) (by rw [World.size_alloc]; have := HW.out.2.2; have := HL.out; omega) ?_; intro v2 w2 hO2 hg2)
        have HW2 : Hid (Ob base w2 v2 (l ++ (four n).take (2 + 1)) ∧ Gw base w w2) := ⟨by rw [← HT.out]; exact hO2, ⟨fun w0 hb => hg2.1 _ ((HW.out.2.1 _ hb).alloc (by have := HW.out.2.2; have := HL.out; omega) _), by have h1 := hg2.2; have h2 := HW.out.2.2; rw [World.size_alloc] at h1; omega⟩⟩
        clear hO2 hg2 HW HT HLn
        go_wp2
        go_roundw
        case rel => exact ⟨3, by omega, by first | rfl | go_num, HW2⟩
        case measure => first | (simp [intOf]; done) | (simp [intOf]; omega)
      · obtain ⟨x, hx⟩ : ∃ x, fB n 3 = x := ⟨_, rfl⟩
        obtain ⟨d, hd⟩ : ∃ d, n / 16777216 = d := ⟨_, rfl⟩
        have hdI : (n : Int) / 16777216 = (d : Int) := by omega
        have hw : IntKind.u8.wrap (d : Int) = (x : Int) := by rw [IntKind.wrap_u8]; have h1 := HN.out; have h2 : fB n 3 = n / 16777216 := rfl; omega
        have HT : Hid (l ++ (four n).take 3 ++ [x] = l ++ (four n).take (3 + 1)) := by show _ = _; rw [← hx, HF.out]; simp
        clear hx hd
        skip
        skip
        skip
        have HLn : Hid ((l ++ (four n).take 3).length ≤ 10000010) := by show _ ≤ _; rw [List.length_append, List.length_take, four_len]; have := HL.out; omega
        generalize l ++ (four n).take 3 = L at *
        go_upto_region 5 with (at_builtin; refine apB rfl _ _ rfl base u0 L rfl (HW.out.1.later (bel1 _ _)) _ [x] rfl (bs_one wr x _) (by have := HLn.out; rw [List.length_singleton]; omega) (by rw [World.size_alloc]; have := HW.out.2.2; have := HL.out; omega) ?_; intro v2 w2 hO2 hg2)
        have HW2 : Hid (Ob base w2 v2 (l ++ (four n).take (3 + 1)) ∧ Gw base w w2) := ⟨by rw [← HT.out]; exact hO2, ⟨fun w0 hb => hg2.1 _ ((HW.out.2.1 _ hb).alloc (by have := HW.out.2.2; have := HL.out; omega) _), by have h1 := hg2.2; have h2 := HW.out.2.2; rw [World.size_alloc] at h1; omega⟩⟩
        clear hO2 hg2 HW HT HLn
        go_wp2
        go_roundw
        case rel => exact ⟨4, by omega, by first | rfl | go_num, HW2⟩
        case measure => first | (simp [intOf]; done) | (simp [intOf]; omega)
    · obtain rfl : j = 4 := by omega
      have HE : Hid ((four n).take 4 = four n) := rfl
      clear HF
      go_wp2
      go_ret
      exact ⟨_, rfl, by rw [← HE.out]; exact HW.out.1, HW.out.2⟩
end Go.Proofs.YtfcbgkcclganmaaDoor
