/-
  Texts of this proof, joined: JqB JqH.
-/
import Derived.Test.YthnpdcblfocemaaGreatDoorSP21
import Derived.Test.YthnpdcblfocemaaGreatDoorSP34
import Derived.Shelf.Abstract
import Derived.TacticsInMore
import Derived.OwnWalkIn
set_option linter.unusedVariables false
set_option linter.unusedSimpArgs false
namespace Go.Proofs.YthnpdcblfocemaaGreatDoor
open Go.RowKit Go.Shelf
attribute [local go_sem] Oper.semAt_some

def jps (d : List Nat) : List (Nat × List Nat) := (List.range (prt d.length)).map fun k => (k, jcd d k)
theorem jps_len (d : List Nat) : (jps d).length = prt d.length := by simp [jps]
theorem jps_get (d : List Nat) (k : Nat) (h : k < prt d.length) : (jps d)[k]? = some (k, jcd d k) := by
  unfold jps
  rw [List.getElem?_map, List.getElem?_range h]
  rfl
def EC17 (FB : Nat → Prop) (B : Nat) (y : Nat × List Nat) (args : Array Value) (Xp X : World) : Prop := ∃ v, args = #[.int .i64 (y.1 : Int), v] ∧ Bs X v y.2 ∧ Nf FB v ∧ Lo B v
theorem bs_zero17 (w : World) (ad : Option Addr) (cap : Nat) (h1 : cap ≤ 2 ^ 63 - 1) (h2 : ad = none → cap = 0) : Bs w (.slice ad 0 cap) [] :=
  ⟨ad, cap, 0, 0, rfl, Nat.zero_le _, ⟨by unfold maxLen; omega, h2⟩, fun h => absurd h (by simp), fun k hk => absurd hk (by simp)⟩
theorem nf_zero17 (F : Nat → Prop) (ad : Option Addr) (cap : Nat) : Nf F (.slice ad 0 cap) := fun a n c e hn => by cases e; omega
theorem lo_zero17 (B : Nat) (ad : Option Addr) (cap : Nat) : Lo B (.slice ad 0 cap) := fun a n c e hn => by cases e; omega
set_option maxRecDepth 100000 in
set_option maxHeartbeats 8000000 in
theorem parts_tellsP (B1 : Nat) (FB : Nat → Prop) {W : World} (ad : Option Addr) (n cap : Nat) (d : List Nat) (hd : Bs W (.slice ad n cap) d) (hn : d.length = n) (hl : n ≤ 1000000) (hn0 : ¬ n = 0) (hnf : Nf FB (.slice ad n cap)) (h1 : ¬ FB B1)
    (c1 : W.cell? ⟨B1, 0, none⟩ = some (.slice ad n cap)) :
    Tells0 Fence.wide 9 Tryz.prog 88 #[.pointer (some ⟨B1, 0, none⟩)] (jps d) (EC17 FB W.heap.size) FB W := by
  intro l0 J Jx W1 hb hl1 hl2 hJ hJx hY h0
  have HD : Hid (Bs W (.slice ad n cap) d ∧ d.length = n ∧ Nf FB (.slice ad n cap)) := ⟨hd, hn, hnf⟩
  have HB : Hid (¬ FB B1 ∧ W.cell? ⟨B1, 0, none⟩ = some (.slice ad n cap) ∧ B1 < W.heap.size) := ⟨h1, c1, World.block_lt_of_cell? _ _ c1⟩
  obtain ⟨ad', cap', e', l1, l2⟩ := hd.len
  injection e' with e1 e2 e3
  rw [← e3] at l1 l2
  clear e1 e2 e3
  unfold maxLen at l2
  have HY : Hid (∀ i y args Xp X, (jps d)[i]? = some y → J i Xp → Below Xp.heap.size Xp X → EC17 FB W.heap.size y args Xp X → YieldAt Fence.wide (9 - 1) Tryz.prog l0 args X fun e X' =>
      (e = .returned (.bool true) ∧ J (i + 1) X' ∧ Kq W.heap.size FB X X') ∨ (e = .returned (.bool false) ∧ Jx (i + 1) X')) := hY
  obtain ⟨cnt, hcnt⟩ : ∃ cnt, prt n = cnt := ⟨_, rfl⟩
  have HN : Hid (prt n = cnt ∧ (jps d).length = cnt ∧ cnt ≤ 1000001 ∧ (cnt - 1) * 104 ≤ n ∧ n ≤ cnt * 104 ∧ 1 ≤ cnt ∧ (n = 0 ∨ (cnt - 1) * 104 < n)) := ⟨hcnt, by rw [jps_len, hn]; exact hcnt, by have := prt_le n; omega, by rw [← hcnt]; unfold prt; omega, by rw [← hcnt]; exact prt_room n, by rw [← hcnt]; exact prt_pos n, by rw [← hcnt]; unfold prt; omega⟩
  have hN := needs17 n (by omega)
  rw [hcnt] at hN
  have hx1 := (hb.cell (p := ⟨B1, 0, none⟩) (World.block_lt_of_cell? _ _ c1)).trans c1
  have HR : Hid (J 0 W1 ∧ (∀ k, k < W.heap.size → ¬ FB k → W1.heap[k]? = W.heap[k]?) ∧ W.heap.size ≤ W1.heap.size) := ⟨h0, fun k hk _ => hb.block k hk, hb.size⟩
  rw [hn] at l1
  clear hd hn hnf h1 c1 hb hJ hJx h0 hY hcnt hl1 hl2
  refine callsIn_wide.2 ?_
  show Calls Tryz.prog 88 #[.func (.yield l0) #[] #[], .pointer (some ⟨B1, 0, none⟩)] W1 _
  go_enter Tryz.func88, Tryz.ntmps88
  go_upto_region 1 with (go_at_call 57; refine (hN _).mono ?_; rintro e wq ⟨rfl, hwq⟩; replace hwq := hwq.symm; subst hwq; clear hN)
  clear hx1
  go_loopw [8] (fun s8 wr => ∃ r : Nat, r ≤ cnt ∧ s8 = .int .i64 (r : Int) ∧ Hid (J r wr ∧ (∀ k, k < W.heap.size → ¬ FB k → wr.heap[k]? = W.heap[k]?) ∧ W.heap.size ≤ wr.heap.size)) (fun s8 _ => cnt - (intOf s8).toNat)
  case atStart => exact ⟨0, Nat.zero_le _, rfl, HR.out⟩
  case round =>
    obtain ⟨r, hr, rfl, HW⟩ := hrel
    clear HR
    have cB1 : wr.cell? ⟨B1, 0, none⟩ = some (.slice ad n cap) := cell_blk5 (a := ⟨B1, 0, none⟩) (HW.out.2.1 B1 HB.out.2.2 HB.out.1) HB.out.2.1
    obtain ⟨p, hp⟩ : ∃ p, r * 104 = p := ⟨_, rfl⟩
    by_cases hlt : r < cnt
    · have hrI : (r : Int) < (cnt : Int) := by omega
      have hpn : p ≤ n := by have := HN.out; omega
      have hpI : (p : Int) ≤ (n : Int) := by omega
      obtain ⟨e, he⟩ : ∃ e, min 104 (n - p) = e := ⟨_, rfl⟩
      have hck : jcd d r = (d.drop p).take e := by
        unfold jcd
        rw [hp, ← he]
        by_cases q : 104 ≤ n - p
        · rw [Nat.min_eq_left q]
        · rw [Nat.min_eq_right (by omega), List.take_of_length_le (by rw [List.length_drop, HD.out.2.1]; omega), List.take_of_length_le (by rw [List.length_drop, HD.out.2.1]; omega)]
      have hel : (jcd d r).length = e := by rw [hck, List.length_take, List.length_drop, HD.out.2.1]; omega
      have hpw : IntKind.i64.wrap ((r : Int) * 104) = (p : Int) := by rw [IntKind.wrap_i64]; have := HN.out; omega
      obtain ⟨t, ht⟩ : ∃ t, p + 104 = t := ⟨_, rfl⟩
      have htw : IntKind.i64.wrap ((p : Int) + 104) = (t : Int) := by rw [IntKind.wrap_i64]; have := HN.out; omega
      have HKd : Hid ((∀ k, k < W.heap.size → ¬ FB k → wr.heap[k]? = W.heap[k]?) ∧ W.heap.size ≤ wr.heap.size) := HW.out.2
      have hpl : p < n := by have := HN.out; omega
      obtain ⟨b, o, rfl, -⟩ := HD.out.1.cel 0 (by rw [HD.out.2.1]; omega)
      obtain ⟨c2, hc2⟩ : ∃ c2, cap - p = c2 := ⟨_, rfl⟩
      have HE : Hid (EC17 FB W.heap.size (r, jcd d r) #[.int .i64 (r : Int), .slice (some ⟨b, o + p, none⟩) e c2] wr wr) := by
        refine ⟨_, rfl, ?_, ?_, ?_⟩
        · refine ⟨some ⟨b, o + p, none⟩, c2, b, o + p, by rw [hel], by rw [hel]; omega, ⟨by unfold maxLen; omega, fun e => by cases e⟩, fun _ => rfl, fun j hj => ?_⟩
          rw [hel] at hj
          obtain ⟨b', o', e', hc⟩ := HD.out.1.cel (p + j) (by rw [HD.out.2.1]; omega)
          cases e'
          have hlo := World.block_lt_of_cell? _ _ hc
          have hnfb : ¬ FB b := HD.out.2.2 ⟨b, o, none⟩ n cap rfl (by omega)
          have hcw : wr.cell? ⟨b, o + (p + j), none⟩ = some (.int .u8 ((d.getD (p + j) 0 : Nat) : Int)) := cell_blk5 (a := ⟨b, o + (p + j), none⟩) (HW.out.2.1 b hlo hnfb) hc
          have eg : (jcd d r).getD j 0 = d.getD (p + j) 0 := by
            rw [hck]
            simp [List.getD, List.getElem?_take, List.getElem?_drop, hj]
          rw [Nat.add_assoc]
          unfold b8f
          rw [eg]
          exact hcw
        · intro a n' c' e' hn'
          cases e'
          exact HD.out.2.2 ⟨b, o, none⟩ n cap rfl (by omega)
        · intro a n' c' e' hn'
          cases e'
          obtain ⟨b', o', e', hc⟩ := HD.out.1.cel 0 (by rw [HD.out.2.1]; omega)
          cases e'
          have := World.block_lt_of_cell? _ _ hc
          exact this
      obtain ⟨fn, tmps, assign, body, hy, hR⟩ := HY.out r (r, jcd d r) _ wr wr (jps_get d r (by rw [HD.out.2.1, HN.out.1]; exact hlt)) HW.out.1 (Below.refl _ _) HE.out
      have hcp : p ≤ cap := by omega
      have hcp' : ¬ cap = p := by omega
      have hcpI : (p : Int) ≤ (cap : Int) := by omega
      by_cases q8 : t ≤ n
      · have q8I : (t : Int) ≤ (n : Int) := by omega
        have htc : (t : Int) ≤ (cap : Int) := by omega
        have hptI : (p : Int) ≤ (t : Int) := by omega
        obtain rfl : e = 104 := by omega
        have htn : t - p = 104 := by omega
        clear hck hel HW HE he hp ht
        go_upto_region 4 with fail
        refine (wpIn_wide (n := 9)).1 ?_
        gi_wp2
        refine hR.mono ?_
        rintro ee X3 (⟨rfl, hJ3, hK3⟩ | ⟨rfl, hJx3⟩)
        · have HX3 : Hid (J (r + 1) X3 ∧ (∀ k, k < W.heap.size → ¬ FB k → X3.heap[k]? = W.heap[k]?) ∧ W.heap.size ≤ X3.heap.size) :=
            ⟨hJ3, fun q hq hnq => (hK3.block q hq (Nat.lt_of_lt_of_le hq HKd.out.2) hnq).trans (HKd.out.1 q hq hnq), Nat.le_trans HKd.out.2 hK3.size⟩
          have hrw : IntKind.i64.wrap ((r : Int) + 1) = ((r + 1 : Nat) : Int) := by rw [IntKind.wrap_i64]; have := HN.out; omega
          clear hJ3 hK3 hR hy cB1
          gi_wp2
          go_wp2
          go_roundw
          case rel => exact ⟨r + 1, by omega, rfl, HX3.out⟩
          case measure => simp only [intOf]; omega
        · have HX3 : Hid (Jx (r + 1) X3 ∧ r + 1 ≤ (jps d).length) := ⟨hJx3, by rw [HN.out.2.1]; omega⟩
          clear hJx3 hR hy cB1
          gi_wp2
          go_wp2
          refine bodyPost_ret (results_none rfl _ _ _) rfl ?_
          exact ⟨⟨_, rfl⟩, Or.inr ⟨_, HX3.out.2, HX3.out.1⟩⟩
      · have q8I : ¬ (t : Int) ≤ (n : Int) := by omega
        have hptI : (p : Int) ≤ (n : Int) := by omega
        have hnc : (n : Int) ≤ (cap : Int) := by omega
        have htn : n - p = e := by omega
        clear hck hel HW HE he hp ht
        go_upto_region 4 with fail
        refine (wpIn_wide (n := 9)).1 ?_
        gi_wp2
        refine hR.mono ?_
        rintro ee X3 (⟨rfl, hJ3, hK3⟩ | ⟨rfl, hJx3⟩)
        · have HX3 : Hid (J (r + 1) X3 ∧ (∀ k, k < W.heap.size → ¬ FB k → X3.heap[k]? = W.heap[k]?) ∧ W.heap.size ≤ X3.heap.size) :=
            ⟨hJ3, fun q hq hnq => (hK3.block q hq (Nat.lt_of_lt_of_le hq HKd.out.2) hnq).trans (HKd.out.1 q hq hnq), Nat.le_trans HKd.out.2 hK3.size⟩
          have hrw : IntKind.i64.wrap ((r : Int) + 1) = ((r + 1 : Nat) : Int) := by rw [IntKind.wrap_i64]; have := HN.out; omega
          clear hJ3 hK3 hR hy cB1
          gi_wp2
          go_wp2
          go_roundw
          case rel => exact ⟨r + 1, by omega, rfl, HX3.out⟩
          case measure => simp only [intOf]; omega
        · have HX3 : Hid (Jx (r + 1) X3 ∧ r + 1 ≤ (jps d).length) := ⟨hJx3, by rw [HN.out.2.1]; omega⟩
          clear hJx3 hR hy cB1
          gi_wp2
          go_wp2
          refine bodyPost_ret (results_none rfl _ _ _) rfl ?_
          exact ⟨⟨_, rfl⟩, Or.inr ⟨_, HX3.out.2, HX3.out.1⟩⟩
    · have hnp : ¬ (r : Int) < (cnt : Int) := by omega
      have HE : Hid (J (jps d).length wr) := by rw [HN.out.2.1]; have e : r = cnt := by omega
                                                rw [← e]; exact HW.out.1
      clear HW hp
      go_wp2
      go_end0
      exact ⟨⟨_, rfl⟩, Or.inl HE.out⟩
set_option maxRecDepth 100000 in
set_option maxHeartbeats 8000000 in
theorem parts_tellsZ (B1 : Nat) (FB : Nat → Prop) {W : World} (ad : Option Addr) (cap : Nat) (d : List Nat) (hd : Bs W (.slice ad 0 cap) d) (hn : d.length = 0) (hnf : Nf FB (.slice ad 0 cap)) (h1 : ¬ FB B1)
    (c1 : W.cell? ⟨B1, 0, none⟩ = some (.slice ad 0 cap)) :
    Tells0 Fence.wide 9 Tryz.prog 88 #[.pointer (some ⟨B1, 0, none⟩)] (jps d) (EC17 FB W.heap.size) FB W := by
  intro l0 J Jx W1 hb hl1 hl2 hJ hJx hY h0
  have HD : Hid (Bs W (.slice ad 0 cap) d ∧ d.length = 0 ∧ Nf FB (.slice ad 0 cap)) := ⟨hd, hn, hnf⟩
  have HB : Hid (¬ FB B1 ∧ W.cell? ⟨B1, 0, none⟩ = some (.slice ad 0 cap) ∧ B1 < W.heap.size) := ⟨h1, c1, World.block_lt_of_cell? _ _ c1⟩
  obtain ⟨ad', cap', e', l1, l2⟩ := hd.len
  injection e' with e1 e2 e3
  rw [← e3] at l1 l2
  clear e1 e2 e3
  unfold maxLen at l2
  have HY : Hid (∀ i y args Xp X, (jps d)[i]? = some y → J i Xp → Below Xp.heap.size Xp X → EC17 FB W.heap.size y args Xp X → YieldAt Fence.wide (9 - 1) Tryz.prog l0 args X fun e X' =>
      (e = .returned (.bool true) ∧ J (i + 1) X' ∧ Kq W.heap.size FB X X') ∨ (e = .returned (.bool false) ∧ Jx (i + 1) X')) := hY
  have hcnt : prt 0 = 1 := rfl
  have HN : Hid ((jps d).length = 1) := by show _ = _; rw [jps_len, hn]; rfl
  have hN := needs17 0 (by omega)
  rw [hcnt] at hN
  have hx1 := (hb.cell (p := ⟨B1, 0, none⟩) (World.block_lt_of_cell? _ _ c1)).trans c1
  have HR : Hid (J 0 W1 ∧ (∀ k, k < W.heap.size → ¬ FB k → W1.heap[k]? = W.heap[k]?) ∧ W.heap.size ≤ W1.heap.size) := ⟨h0, fun k hk _ => hb.block k hk, hb.size⟩
  clear hd hn hnf h1 c1 hb hJ hJx h0 hY hcnt hl1 hl2
  refine callsIn_wide.2 ?_
  show Calls Tryz.prog 88 #[.func (.yield l0) #[] #[], .pointer (some ⟨B1, 0, none⟩)] W1 _
  go_enter Tryz.func88, Tryz.ntmps88
  go_upto_region 1 with (go_at_call 57; refine (hN _).mono ?_; rintro e wq ⟨rfl, hwq⟩; replace hwq := hwq.symm; subst hwq; clear hN)
  clear hx1
  go_loopw [8] (fun s8 wr => ∃ r : Nat, r ≤ 1 ∧ s8 = .int .i64 (r : Int) ∧ Hid (J r wr ∧ (∀ k, k < W.heap.size → ¬ FB k → wr.heap[k]? = W.heap[k]?) ∧ W.heap.size ≤ wr.heap.size)) (fun s8 _ => 1 - (intOf s8).toNat)
  case atStart => exact ⟨0, Nat.zero_le _, rfl, HR.out⟩
  case round =>
    obtain ⟨r, hr, rfl, HW⟩ := hrel
    clear HR
    have cB1 : wr.cell? ⟨B1, 0, none⟩ = some (.slice ad 0 cap) := cell_blk5 (a := ⟨B1, 0, none⟩) (HW.out.2.1 B1 HB.out.2.2 HB.out.1) HB.out.2.1
    by_cases hlt : r < 1
    · have hr0 : r = 0 := by omega
      have hrI : (r : Int) < 1 := by omega
      have hE : jcd d r = [] := by
        rw [hr0]
        exact List.eq_nil_of_length_eq_zero (by unfold jcd; rw [List.length_take, List.length_drop, HD.out.2.1]; omega)
      have hpw : IntKind.i64.wrap ((r : Int) * 104) = 0 := by rw [hr0]; rfl
      have hrw : IntKind.i64.wrap ((r : Int) + 1) = ((r + 1 : Nat) : Int) := by rw [hr0]; rfl
      have HKd : Hid ((∀ k, k < W.heap.size → ¬ FB k → wr.heap[k]? = W.heap[k]?) ∧ W.heap.size ≤ wr.heap.size) := HW.out.2
      rcases ad with _ | ⟨b, o, sp⟩
      · have hcap : cap = 0 := by
          obtain ⟨_, _, _, _, e1, _, e2, _⟩ := HD.out.1
          injection e1 with f1 f2 f3
          subst f1
          rw [f3]
          exact e2.2 rfl
        subst hcap
        have HE : Hid (EC17 FB W.heap.size (r, jcd d r) #[.int .i64 (r : Int), .slice none 0 0] wr wr) := ⟨_, rfl, by rw [hE]; exact bs_zero17 _ _ _ (by omega) (fun _ => rfl), nf_zero17 _ _ _, lo_zero17 _ _ _⟩
        obtain ⟨fn, tmps, assign, body, hy, hR⟩ := HY.out r (r, jcd d r) _ wr wr (jps_get d r (by rw [HD.out.2.1]; exact hlt)) HW.out.1 (Below.refl _ _) HE.out
        clear HW HE hr0
        go_upto_region 4 with fail
        refine (wpIn_wide (n := 9)).1 ?_
        gi_wp2
        refine hR.mono ?_
        rintro ee X3 (⟨rfl, hJ3, hK3⟩ | ⟨rfl, hJx3⟩)
        · have HX3 : Hid (J (r + 1) X3 ∧ (∀ k, k < W.heap.size → ¬ FB k → X3.heap[k]? = W.heap[k]?) ∧ W.heap.size ≤ X3.heap.size) :=
            ⟨hJ3, fun q hq hnq => (hK3.block q hq (Nat.lt_of_lt_of_le hq HKd.out.2) hnq).trans (HKd.out.1 q hq hnq), Nat.le_trans HKd.out.2 hK3.size⟩
          clear hJ3 hK3 hR hy cB1
          gi_wp2
          go_wp2
          go_roundw
          case rel => exact ⟨r + 1, by omega, rfl, HX3.out⟩
          case measure => simp only [intOf]; omega
        · have HX3 : Hid (Jx (r + 1) X3 ∧ r + 1 ≤ (jps d).length) := ⟨hJx3, by rw [HN.out]; omega⟩
          clear hJx3 hR hy cB1
          gi_wp2
          go_wp2
          refine bodyPost_ret (results_none rfl _ _ _) rfl ?_
          exact ⟨⟨_, rfl⟩, Or.inr ⟨_, HX3.out.2, HX3.out.1⟩⟩
      · by_cases hcz : cap = 0
        · subst hcz
          have HE : Hid (EC17 FB W.heap.size (r, jcd d r) #[.int .i64 (r : Int), .slice (some ⟨b, o, sp⟩) 0 0] wr wr) := ⟨_, rfl, by rw [hE]; exact bs_zero17 _ _ _ (by omega) (fun e => by cases e), nf_zero17 _ _ _, lo_zero17 _ _ _⟩
          obtain ⟨fn, tmps, assign, body, hy, hR⟩ := HY.out r (r, jcd d r) _ wr wr (jps_get d r (by rw [HD.out.2.1]; exact hlt)) HW.out.1 (Below.refl _ _) HE.out
          clear HW HE hr0
          go_upto_region 4 with fail
          refine (wpIn_wide (n := 9)).1 ?_
          gi_wp2
          refine hR.mono ?_
          rintro ee X3 (⟨rfl, hJ3, hK3⟩ | ⟨rfl, hJx3⟩)
          · have HX3 : Hid (J (r + 1) X3 ∧ (∀ k, k < W.heap.size → ¬ FB k → X3.heap[k]? = W.heap[k]?) ∧ W.heap.size ≤ X3.heap.size) :=
              ⟨hJ3, fun q hq hnq => (hK3.block q hq (Nat.lt_of_lt_of_le hq HKd.out.2) hnq).trans (HKd.out.1 q hq hnq), Nat.le_trans HKd.out.2 hK3.size⟩
            clear hJ3 hK3 hR hy cB1
            gi_wp2
            go_wp2
            go_roundw
            case rel => exact ⟨r + 1, by omega, rfl, HX3.out⟩
            case measure => simp only [intOf]; omega
          · have HX3 : Hid (Jx (r + 1) X3 ∧ r + 1 ≤ (jps d).length) := ⟨hJx3, by rw [HN.out]; omega⟩
            clear hJx3 hR hy cB1
            gi_wp2
            go_wp2
            refine bodyPost_ret (results_none rfl _ _ _) rfl ?_
            exact ⟨⟨_, rfl⟩, Or.inr ⟨_, HX3.out.2, HX3.out.1⟩⟩
        · have hcp' : ¬ cap = 0 := hcz
          have hcpI : (0 : Int) ≤ (cap : Int) := by omega
          have HE : Hid (EC17 FB W.heap.size (r, jcd d r) #[.int .i64 (r : Int), .slice (some ⟨b, o, sp⟩) 0 cap] wr wr) := ⟨_, rfl, by rw [hE]; exact bs_zero17 _ _ _ (by omega) (fun e => by cases e), nf_zero17 _ _ _, lo_zero17 _ _ _⟩
          obtain ⟨fn, tmps, assign, body, hy, hR⟩ := HY.out r (r, jcd d r) _ wr wr (jps_get d r (by rw [HD.out.2.1]; exact hlt)) HW.out.1 (Below.refl _ _) HE.out
          clear HW HE hr0
          go_upto_region 4 with fail
          refine (wpIn_wide (n := 9)).1 ?_
          gi_wp2
          refine hR.mono ?_
          rintro ee X3 (⟨rfl, hJ3, hK3⟩ | ⟨rfl, hJx3⟩)
          · have HX3 : Hid (J (r + 1) X3 ∧ (∀ k, k < W.heap.size → ¬ FB k → X3.heap[k]? = W.heap[k]?) ∧ W.heap.size ≤ X3.heap.size) :=
              ⟨hJ3, fun q hq hnq => (hK3.block q hq (Nat.lt_of_lt_of_le hq HKd.out.2) hnq).trans (HKd.out.1 q hq hnq), Nat.le_trans HKd.out.2 hK3.size⟩
            clear hJ3 hK3 hR hy cB1
            gi_wp2
            go_wp2
            go_roundw
            case rel => exact ⟨r + 1, by omega, rfl, HX3.out⟩
            case measure => simp only [intOf]; omega
          · have HX3 : Hid (Jx (r + 1) X3 ∧ r + 1 ≤ (jps d).length) := ⟨hJx3, by rw [HN.out]; omega⟩
            clear hJx3 hR hy cB1
            gi_wp2
            go_wp2
            refine bodyPost_ret (results_none rfl _ _ _) rfl ?_
            exact ⟨⟨_, rfl⟩, Or.inr ⟨_, HX3.out.2, HX3.out.1⟩⟩
    · have hnp : ¬ (r : Int) < 1 := by omega
      have HE : Hid (J (jps d).length wr) := by rw [HN.out]; have e : r = 1 := by omega
                                                rw [← e]; exact HW.out.1
      clear HW
      go_wp2
      go_end0
      exact ⟨⟨_, rfl⟩, Or.inl HE.out⟩
theorem parts_tells (B1 : Nat) (FB : Nat → Prop) {W : World} (ad : Option Addr) (n cap : Nat) (d : List Nat) (hd : Bs W (.slice ad n cap) d) (hn : d.length = n) (hl : n ≤ 1000000) (hnf : Nf FB (.slice ad n cap)) (h1 : ¬ FB B1)
    (c1 : W.cell? ⟨B1, 0, none⟩ = some (.slice ad n cap)) :
    Tells0 Fence.wide 9 Tryz.prog 88 #[.pointer (some ⟨B1, 0, none⟩)] (jps d) (EC17 FB W.heap.size) FB W := by
  by_cases h0 : n = 0
  · subst h0
    exact parts_tellsZ B1 FB ad cap d hd hn hnf h1 c1
  · exact parts_tellsP B1 FB ad n cap d hd hn hl h0 hnf h1 c1
set_option maxRecDepth 100000 in
set_option maxHeartbeats 4000000 in
theorem parts17 (ad : Option Addr) (n cap : Nat) (w : World) :
    Calls Tryz.prog 71 #[.slice ad n cap] w fun e w' => e = .returned (.func (.func 88) #[] #[.pointer (some ⟨w.heap.size, 0, none⟩)]) ∧ w' = w.alloc (.cells #[.slice ad n cap] 30) := by
  have hmf : ∀ (fn : Fn) (first cap : Array Value) (w : World), (Instr.makeFunc fn first cap).run Tryz.prog w = .ok (.func fn first cap) w := fun _ _ _ _ => rfl
  go_enter Tryz.func71, Tryz.ntmps71
  go_wp2
  go_ret
  exact ⟨by first | rfl | simp, rfl⟩
end Go.Proofs.YthnpdcblfocemaaGreatDoor
set_option linter.unusedVariables false
set_option linter.unusedSimpArgs false
namespace Go.Proofs.YthnpdcblfocemaaGreatDoor
open Go.RowKit Go.Shelf
attribute [local go_sem] Oper.semAt_some

def pcV (b o n cap k : Nat) : Value := .slice (some ⟨b, o + k * 104, none⟩) (min 104 (n - k * 104)) (cap - k * 104)
def EA17 (b o n cap : Nat) (y : Nat) (args : Array Value) (Xp X : World) : Prop := args = #[.int .i64 (y : Int), pcV b o n cap y]
set_option maxRecDepth 100000 in
set_option maxHeartbeats 8000000 in
theorem parts_tellsAP (B1 : Nat) (FB : Nat → Prop) {W : World} (b o : Nat) (n cap : Nat) (hcap : n ≤ cap) (hcap2 : cap ≤ 2 ^ 63 - 1) (hl : n ≤ 1000000) (hn0 : ¬ n = 0) (h1 : ¬ FB B1)
    (c1 : W.cell? ⟨B1, 0, none⟩ = some (.slice (some ⟨b, o, none⟩) n cap)) :
    Tells0 Fence.wide 9 Tryz.prog 88 #[.pointer (some ⟨B1, 0, none⟩)] (List.range (prt n)) (EA17 b o n cap) FB W := by
  intro l0 J Jx W1 hb hl1 hl2 hJ hJx hY h0
  have HB : Hid (¬ FB B1 ∧ W.cell? ⟨B1, 0, none⟩ = some (.slice (some ⟨b, o, none⟩) n cap) ∧ B1 < W.heap.size) := ⟨h1, c1, World.block_lt_of_cell? _ _ c1⟩
  have HY : Hid (∀ i y args Xp X, (List.range (prt n))[i]? = some y → J i Xp → Below Xp.heap.size Xp X → EA17 b o n cap y args Xp X → YieldAt Fence.wide (9 - 1) Tryz.prog l0 args X fun e X' =>
      (e = .returned (.bool true) ∧ J (i + 1) X' ∧ Kq W.heap.size FB X X') ∨ (e = .returned (.bool false) ∧ Jx (i + 1) X')) := hY
  obtain ⟨cnt, hcnt⟩ : ∃ cnt, prt n = cnt := ⟨_, rfl⟩
  have HN : Hid (prt n = cnt ∧ (List.range (prt n)).length = cnt ∧ cnt ≤ 1000001 ∧ (cnt - 1) * 104 ≤ n ∧ n ≤ cnt * 104 ∧ 1 ≤ cnt ∧ (n = 0 ∨ (cnt - 1) * 104 < n)) := ⟨hcnt, by rw [List.length_range]; exact hcnt, by have := prt_le n; omega, by rw [← hcnt]; unfold prt; omega, by rw [← hcnt]; exact prt_room n, by rw [← hcnt]; exact prt_pos n, by rw [← hcnt]; unfold prt; omega⟩
  have hN := needs17 n (by omega)
  rw [hcnt] at hN
  have hx1 := (hb.cell (p := ⟨B1, 0, none⟩) (World.block_lt_of_cell? _ _ c1)).trans c1
  have HR : Hid (J 0 W1 ∧ (∀ k, k < W.heap.size → ¬ FB k → W1.heap[k]? = W.heap[k]?) ∧ W.heap.size ≤ W1.heap.size) := ⟨h0, fun k hk _ => hb.block k hk, hb.size⟩
  clear h1 c1 hb hJ hJx h0 hY hcnt hl1 hl2
  refine callsIn_wide.2 ?_
  show Calls Tryz.prog 88 #[.func (.yield l0) #[] #[], .pointer (some ⟨B1, 0, none⟩)] W1 _
  go_enter Tryz.func88, Tryz.ntmps88
  go_upto_region 1 with (go_at_call 57; refine (hN _).mono ?_; rintro e wq ⟨rfl, hwq⟩; replace hwq := hwq.symm; subst hwq; clear hN)
  clear hx1
  go_loopw [8] (fun s8 wr => ∃ r : Nat, r ≤ cnt ∧ s8 = .int .i64 (r : Int) ∧ Hid (J r wr ∧ (∀ k, k < W.heap.size → ¬ FB k → wr.heap[k]? = W.heap[k]?) ∧ W.heap.size ≤ wr.heap.size)) (fun s8 _ => cnt - (intOf s8).toNat)
  case atStart => exact ⟨0, Nat.zero_le _, rfl, HR.out⟩
  case round =>
    obtain ⟨r, hr, rfl, HW⟩ := hrel
    clear HR
    have cB1 : wr.cell? ⟨B1, 0, none⟩ = some (.slice (some ⟨b, o, none⟩) n cap) := cell_blk5 (a := ⟨B1, 0, none⟩) (HW.out.2.1 B1 HB.out.2.2 HB.out.1) HB.out.2.1
    obtain ⟨p, hp⟩ : ∃ p, r * 104 = p := ⟨_, rfl⟩
    by_cases hlt : r < cnt
    · have hrI : (r : Int) < (cnt : Int) := by omega
      have hpn : p ≤ n := by have := HN.out; omega
      have hpI : (p : Int) ≤ (n : Int) := by omega
      obtain ⟨e, he⟩ : ∃ e, min 104 (n - p) = e := ⟨_, rfl⟩
      have hpw : IntKind.i64.wrap ((r : Int) * 104) = (p : Int) := by rw [IntKind.wrap_i64]; have := HN.out; omega
      obtain ⟨t, ht⟩ : ∃ t, p + 104 = t := ⟨_, rfl⟩
      have htw : IntKind.i64.wrap ((p : Int) + 104) = (t : Int) := by rw [IntKind.wrap_i64]; have := HN.out; omega
      have HKd : Hid ((∀ k, k < W.heap.size → ¬ FB k → wr.heap[k]? = W.heap[k]?) ∧ W.heap.size ≤ wr.heap.size) := HW.out.2
      have hpl : p < n := by have := HN.out; omega
      obtain ⟨c2, hc2⟩ : ∃ c2, cap - p = c2 := ⟨_, rfl⟩
      have HE : Hid (EA17 b o n cap r #[.int .i64 (r : Int), .slice (some ⟨b, o + p, none⟩) e c2] wr wr) := by
        show _ = _
        unfold pcV
        rw [hp, he, hc2]
      obtain ⟨fn, tmps, assign, body, hy, hR⟩ := HY.out r r _ wr wr (List.getElem?_range (by rw [HN.out.1]; exact hlt)) HW.out.1 (Below.refl _ _) HE.out
      have hcp : p ≤ cap := by omega
      have hcp' : ¬ cap = p := by omega
      have hcpI : (p : Int) ≤ (cap : Int) := by omega
      by_cases q8 : t ≤ n
      · have q8I : (t : Int) ≤ (n : Int) := by omega
        have htc : (t : Int) ≤ (cap : Int) := by omega
        have hptI : (p : Int) ≤ (t : Int) := by omega
        obtain rfl : e = 104 := by omega
        have htn : t - p = 104 := by omega
        clear HW HE he hp ht
        go_upto_region 4 with fail
        refine (wpIn_wide (n := 9)).1 ?_
        gi_wp2
        refine hR.mono ?_
        rintro ee X3 (⟨rfl, hJ3, hK3⟩ | ⟨rfl, hJx3⟩)
        · have HX3 : Hid (J (r + 1) X3 ∧ (∀ k, k < W.heap.size → ¬ FB k → X3.heap[k]? = W.heap[k]?) ∧ W.heap.size ≤ X3.heap.size) :=
            ⟨hJ3, fun q hq hnq => (hK3.block q hq (Nat.lt_of_lt_of_le hq HKd.out.2) hnq).trans (HKd.out.1 q hq hnq), Nat.le_trans HKd.out.2 hK3.size⟩
          have hrw : IntKind.i64.wrap ((r : Int) + 1) = ((r + 1 : Nat) : Int) := by rw [IntKind.wrap_i64]; have := HN.out; omega
          clear hJ3 hK3 hR hy cB1
          gi_wp2
          go_wp2
          go_roundw
          case rel => exact ⟨r + 1, by omega, rfl, HX3.out⟩
          case measure => simp only [intOf]; omega
        · have HX3 : Hid (Jx (r + 1) X3 ∧ r + 1 ≤ (List.range (prt n)).length) := ⟨hJx3, by rw [HN.out.2.1]; omega⟩
          clear hJx3 hR hy cB1
          gi_wp2
          go_wp2
          refine bodyPost_ret (results_none rfl _ _ _) rfl ?_
          exact ⟨⟨_, rfl⟩, Or.inr ⟨_, HX3.out.2, HX3.out.1⟩⟩
      · have q8I : ¬ (t : Int) ≤ (n : Int) := by omega
        have hptI : (p : Int) ≤ (n : Int) := by omega
        have hnc : (n : Int) ≤ (cap : Int) := by omega
        have htn : n - p = e := by omega
        clear HW HE he hp ht
        go_upto_region 4 with fail
        refine (wpIn_wide (n := 9)).1 ?_
        gi_wp2
        refine hR.mono ?_
        rintro ee X3 (⟨rfl, hJ3, hK3⟩ | ⟨rfl, hJx3⟩)
        · have HX3 : Hid (J (r + 1) X3 ∧ (∀ k, k < W.heap.size → ¬ FB k → X3.heap[k]? = W.heap[k]?) ∧ W.heap.size ≤ X3.heap.size) :=
            ⟨hJ3, fun q hq hnq => (hK3.block q hq (Nat.lt_of_lt_of_le hq HKd.out.2) hnq).trans (HKd.out.1 q hq hnq), Nat.le_trans HKd.out.2 hK3.size⟩
          have hrw : IntKind.i64.wrap ((r : Int) + 1) = ((r + 1 : Nat) : Int) := by rw [IntKind.wrap_i64]; have := HN.out; omega
          clear hJ3 hK3 hR hy cB1
          gi_wp2
          go_wp2
          go_roundw
          case rel => exact ⟨r + 1, by omega, rfl, HX3.out⟩
          case measure => simp only [intOf]; omega
        · have HX3 : Hid (Jx (r + 1) X3 ∧ r + 1 ≤ (List.range (prt n)).length) := ⟨hJx3, by rw [HN.out.2.1]; omega⟩
          clear hJx3 hR hy cB1
          gi_wp2
          go_wp2
          refine bodyPost_ret (results_none rfl _ _ _) rfl ?_
          exact ⟨⟨_, rfl⟩, Or.inr ⟨_, HX3.out.2, HX3.out.1⟩⟩
    · have hnp : ¬ (r : Int) < (cnt : Int) := by omega
      have HE : Hid (J (List.range (prt n)).length wr) := by
        have e : r = cnt := by omega
        rw [HN.out.2.1, ← e]
        exact HW.out.1
      clear HW hp
      go_wp2
      go_end0
      exact ⟨⟨_, rfl⟩, Or.inl (by first | exact HE.out | (have h := HE.out; rw [List.length_range] at h; exact h))⟩
set_option maxRecDepth 100000 in
set_option maxHeartbeats 8000000 in
theorem parts_tellsAZ (B1 : Nat) (FB : Nat → Prop) {W : World} (b o : Nat) (cap : Nat) (hcap : 0 ≤ cap) (hcap2 : cap ≤ 2 ^ 63 - 1) (h1 : ¬ FB B1)
    (c1 : W.cell? ⟨B1, 0, none⟩ = some (.slice (some ⟨b, o, none⟩) 0 cap)) :
    Tells0 Fence.wide 9 Tryz.prog 88 #[.pointer (some ⟨B1, 0, none⟩)] (List.range (prt 0)) (EA17 b o 0 cap) FB W := by
  intro l0 J Jx W1 hb hl1 hl2 hJ hJx hY h0
  have HB : Hid (¬ FB B1 ∧ W.cell? ⟨B1, 0, none⟩ = some (.slice (some ⟨b, o, none⟩) 0 cap) ∧ B1 < W.heap.size) := ⟨h1, c1, World.block_lt_of_cell? _ _ c1⟩
  have HY : Hid (∀ i y args Xp X, (List.range (prt 0))[i]? = some y → J i Xp → Below Xp.heap.size Xp X → EA17 b o 0 cap y args Xp X → YieldAt Fence.wide (9 - 1) Tryz.prog l0 args X fun e X' =>
      (e = .returned (.bool true) ∧ J (i + 1) X' ∧ Kq W.heap.size FB X X') ∨ (e = .returned (.bool false) ∧ Jx (i + 1) X')) := hY
  have hcnt : prt 0 = 1 := rfl
  have HN : Hid ((List.range (prt 0)).length = 1) := by show _ = _; rw [List.length_range]; rfl
  have hN := needs17 0 (by omega)
  rw [hcnt] at hN
  have hx1 := (hb.cell (p := ⟨B1, 0, none⟩) (World.block_lt_of_cell? _ _ c1)).trans c1
  have HR : Hid (J 0 W1 ∧ (∀ k, k < W.heap.size → ¬ FB k → W1.heap[k]? = W.heap[k]?) ∧ W.heap.size ≤ W1.heap.size) := ⟨h0, fun k hk _ => hb.block k hk, hb.size⟩
  clear h1 c1 hb hJ hJx h0 hY hcnt hl1 hl2
  refine callsIn_wide.2 ?_
  show Calls Tryz.prog 88 #[.func (.yield l0) #[] #[], .pointer (some ⟨B1, 0, none⟩)] W1 _
  go_enter Tryz.func88, Tryz.ntmps88
  go_upto_region 1 with (go_at_call 57; refine (hN _).mono ?_; rintro e wq ⟨rfl, hwq⟩; replace hwq := hwq.symm; subst hwq; clear hN)
  clear hx1
  go_loopw [8] (fun s8 wr => ∃ r : Nat, r ≤ 1 ∧ s8 = .int .i64 (r : Int) ∧ Hid (J r wr ∧ (∀ k, k < W.heap.size → ¬ FB k → wr.heap[k]? = W.heap[k]?) ∧ W.heap.size ≤ wr.heap.size)) (fun s8 _ => 1 - (intOf s8).toNat)
  case atStart => exact ⟨0, Nat.zero_le _, rfl, HR.out⟩
  case round =>
    obtain ⟨r, hr, rfl, HW⟩ := hrel
    clear HR
    have cB1 : wr.cell? ⟨B1, 0, none⟩ = some (.slice (some ⟨b, o, none⟩) 0 cap) := cell_blk5 (a := ⟨B1, 0, none⟩) (HW.out.2.1 B1 HB.out.2.2 HB.out.1) HB.out.2.1
    by_cases hlt : r < 1
    · have hr0 : r = 0 := by omega
      have hrI : (r : Int) < 1 := by omega
      have hpw : IntKind.i64.wrap ((r : Int) * 104) = 0 := by rw [hr0]; rfl
      have hrw : IntKind.i64.wrap ((r : Int) + 1) = ((r + 1 : Nat) : Int) := by rw [hr0]; rfl
      have HKd : Hid ((∀ k, k < W.heap.size → ¬ FB k → wr.heap[k]? = W.heap[k]?) ∧ W.heap.size ≤ wr.heap.size) := HW.out.2
      by_cases hcz : cap = 0
      · subst hcz
        have HE : Hid (EA17 b o 0 0 r #[.int .i64 (r : Int), .slice (some ⟨b, o, none⟩) 0 0] wr wr) := by show _ = _; rw [hr0]; rfl
        obtain ⟨fn, tmps, assign, body, hy, hR⟩ := HY.out r r _ wr wr (List.getElem?_range hlt) HW.out.1 (Below.refl _ _) HE.out
        clear HW HE hr0
        go_upto_region 4 with fail
        refine (wpIn_wide (n := 9)).1 ?_
        gi_wp2
        refine hR.mono ?_
        rintro ee X3 (⟨rfl, hJ3, hK3⟩ | ⟨rfl, hJx3⟩)
        · have HX3 : Hid (J (r + 1) X3 ∧ (∀ k, k < W.heap.size → ¬ FB k → X3.heap[k]? = W.heap[k]?) ∧ W.heap.size ≤ X3.heap.size) :=
            ⟨hJ3, fun q hq hnq => (hK3.block q hq (Nat.lt_of_lt_of_le hq HKd.out.2) hnq).trans (HKd.out.1 q hq hnq), Nat.le_trans HKd.out.2 hK3.size⟩
          clear hJ3 hK3 hR hy cB1
          gi_wp2
          go_wp2
          go_roundw
          case rel => exact ⟨r + 1, by omega, rfl, HX3.out⟩
          case measure => simp only [intOf]; omega
        · have HX3 : Hid (Jx (r + 1) X3 ∧ r + 1 ≤ (List.range (prt 0)).length) := ⟨hJx3, by rw [HN.out]; omega⟩
          clear hJx3 hR hy cB1
          gi_wp2
          go_wp2
          refine bodyPost_ret (results_none rfl _ _ _) rfl ?_
          exact ⟨⟨_, rfl⟩, Or.inr ⟨_, HX3.out.2, HX3.out.1⟩⟩
      · have hcp' : ¬ cap = 0 := hcz
        have hcpI : (0 : Int) ≤ (cap : Int) := by omega
        have HE : Hid (EA17 b o 0 cap r #[.int .i64 (r : Int), .slice (some ⟨b, o, none⟩) 0 cap] wr wr) := by show _ = _; rw [hr0]; rfl
        obtain ⟨fn, tmps, assign, body, hy, hR⟩ := HY.out r r _ wr wr (List.getElem?_range hlt) HW.out.1 (Below.refl _ _) HE.out
        clear HW HE hr0
        go_upto_region 4 with fail
        refine (wpIn_wide (n := 9)).1 ?_
        gi_wp2
        refine hR.mono ?_
        rintro ee X3 (⟨rfl, hJ3, hK3⟩ | ⟨rfl, hJx3⟩)
        · have HX3 : Hid (J (r + 1) X3 ∧ (∀ k, k < W.heap.size → ¬ FB k → X3.heap[k]? = W.heap[k]?) ∧ W.heap.size ≤ X3.heap.size) :=
            ⟨hJ3, fun q hq hnq => (hK3.block q hq (Nat.lt_of_lt_of_le hq HKd.out.2) hnq).trans (HKd.out.1 q hq hnq), Nat.le_trans HKd.out.2 hK3.size⟩
          clear hJ3 hK3 hR hy cB1
          gi_wp2
          go_wp2
          go_roundw
          case rel => exact ⟨r + 1, by omega, rfl, HX3.out⟩
          case measure => simp only [intOf]; omega
        · have HX3 : Hid (Jx (r + 1) X3 ∧ r + 1 ≤ (List.range (prt 0)).length) := ⟨hJx3, by rw [HN.out]; omega⟩
          clear hJx3 hR hy cB1
          gi_wp2
          go_wp2
          refine bodyPost_ret (results_none rfl _ _ _) rfl ?_
          exact ⟨⟨_, rfl⟩, Or.inr ⟨_, HX3.out.2, HX3.out.1⟩⟩
    · have hnp : ¬ (r : Int) < 1 := by omega
      have HE : Hid (J (List.range (prt 0)).length wr) := by
        have e : r = 1 := by omega
        rw [HN.out, ← e]
        exact HW.out.1
      clear HW
      go_wp2
      go_end0
      exact ⟨⟨_, rfl⟩, Or.inl (by first | exact HE.out | (have h := HE.out; rw [List.length_range] at h; exact h))⟩
theorem parts_tellsA (B1 : Nat) (FB : Nat → Prop) {W : World} (b o : Nat) (n cap : Nat) (hcap : n ≤ cap) (hcap2 : cap ≤ 2 ^ 63 - 1) (hl : n ≤ 1000000) (h1 : ¬ FB B1)
    (c1 : W.cell? ⟨B1, 0, none⟩ = some (.slice (some ⟨b, o, none⟩) n cap)) :
    Tells0 Fence.wide 9 Tryz.prog 88 #[.pointer (some ⟨B1, 0, none⟩)] (List.range (prt n)) (EA17 b o n cap) FB W := by
  by_cases h0 : n = 0
  · subst h0
    exact parts_tellsAZ B1 FB b o cap hcap hcap2 h1 c1
  · exact parts_tellsAP B1 FB b o n cap hcap hcap2 hl h0 h1 c1
end Go.Proofs.YthnpdcblfocemaaGreatDoor
