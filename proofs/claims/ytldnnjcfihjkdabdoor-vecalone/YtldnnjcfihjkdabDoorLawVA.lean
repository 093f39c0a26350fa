/-
  VecAlone: what is handed in stays as it was, and what is answered is memory of its own.
-/
import Derived.Test.YtldnnjcfihjkdabDoorLawVN
import Derived.Test.YtldnnjcfihjkdabDoorPWalkC
import Derived.Test.YtldnnjcfihjkdabDoorPWalkH
import Derived.Test.YtldnnjcfihjkdabDoorPWalkJ
import Derived.Test.YtldnnjcfihjkdabDoorBJ
set_option linter.unusedVariables false
set_option linter.unusedSimpArgs false
namespace Go.Proofs.YtldnnjcfihjkdabDoor
open Go.RowKit

theorem ar_blk {w : World} {b n cap : Nat} {f : Nat → Int} (h : Ar w (.slice (some ⟨b, 0, none⟩) n cap) n f) : b < w.heap.size ∨ n = 0 := by
  rcases Nat.eq_zero_or_pos n with h0 | h0
  · exact Or.inr h0
  · obtain ⟨b', o', e, c, -, -⟩ := h.at 0 h0
    cases e
    exact Or.inl (World.block_lt_of_cell? _ _ c)
/-- The state of the law: whatever was there is there, and two lists. -/
structure T5 (w : World) (va vg : Value) (n : Nat) (f : Nat → Int) (wz : World) : Prop where
  B : Below w.heap.size w wz
  a : Ar wz va n f
  g : Ar wz vg n f
theorem T5.later {w : World} {va vg : Value} {n : Nat} {f : Nat → Int} {wz wy : World} (h : T5 w va vg n f wz) (hb : Below wz.heap.size wz wy) : T5 w va vg n f wy := ⟨bchain h.B hb, h.a.later hb, h.g.later hb⟩
theorem T5.set {w : World} {va vg : Value} {n : Nat} {f : Nat → Int} {wz : World} (h : T5 w va vg n f wz) (p : Addr) (u : Value) (hp : w.heap.size ≤ p.block) (ha : Nb va p.block) (hg : Nb vg p.block) : T5 w va vg n f (wz.setCell p u) := ⟨h.B.setCell hp _, h.a.set ha u, h.g.set hg u⟩
set_option maxRecDepth 100000 in
set_option maxHeartbeats 8000000 in
theorem vecAlone_any (va : Value) (n : Nat) (f : Nat → Int) (most : Int) (m0 : -9223372036854775808 ≤ most) (m1 : most ≤ 9223372036854775807) (w : World) (hV : VT w) (hA : Ar w va n f) (hN : ∀ n' c, va = .slice none n' c → c = 0) :
    Calls Tryd.prog 7 #[va, .int .i64 most] w fun e w' => e = .returned (.bool true) ∧ Below w.heap.size w w' := by
  obtain ⟨i0, hi, hz0, hz1, hz2⟩ := info_parts dinfo_fx
  have HA : Hid (Ar w va n f) := hA
  obtain ⟨ada, ca, ba, oa, rfl, k1, k2, k3, -⟩ := hA
  have HNb : Hid (∀ d, w.heap.size ≤ d → Nb (.slice ada n ca) d) := fun d hd => HA.out.nb hd
  have hnone : ada = none → n = 0 ∧ ca = 0 := fun e => by
    subst e
    refine ⟨?_, hN _ _ rfl⟩
    rcases Nat.eq_zero_or_pos n with h | h
    · exact h
    · cases k3 h
  have HNone : Hid (ada = none → n = 0 ∧ ca = 0) := hnone
  unfold maxLen at k2
  clear hN hnone k3
  go_enter Tryd.func7, Tryd.ntmps7
  go_wp2_with fail
  refine (vawake_any vec1 _ hV).mono ?_
  rintro e w1 ⟨rfl, W1⟩
  have HW1 : Hid (Below w.heap.size w w1) := W1
  have HF : Hid (Calls Tryd.prog 18 #[.slice (some ⟨w1.heap.size, 0, none⟩) 1 1] (w1.alloc (.cells #[.slice ada n ca] 23)) fun e w' => e = .returned (.bool (decide (n ≤ 200))) ∧ w' = (w1.alloc (.cells #[.slice ada n ca] 23))) := few1_any w1 ada n ca (by unfold maxLen; omega)
  clear W1 hV
  go_wp2_with fail
  refine HF.out.mono ?_
  rintro e w2 ⟨rfl, hw2⟩
  have HW2 : Hid (Below w.heap.size w w2) := by show Below _ _ _; rw [hw2]; exact bchain HW1.out (bel1' _ _)
  clear HF hw2 HW1
  rcases Nat.lt_or_ge 200 n with hn | hn
  · rw [decide_eq_false (by omega)]
    go_wp2
    go_ret
    exact ⟨rfl, HW2.out⟩
  rw [decide_eq_true hn]
  have HA2 : Hid (Ar w2 (.slice ada n ca) n f) := HA.out.later HW2.out
  have HCe : Hid (∀ (W : World), Below w2.heap.size w2 W → ∀ ad, ada = some ad → ∀ (j : Nat) (u : Value), (il f n)[j]? = some u → W.cell? (ad.add j) = some u) := fun W hW ad hada j u hj => by
    have hjn : j < n := by
      have := (List.getElem?_eq_some_iff.1 hj).1
      rw [il_len] at this
      exact this
    obtain ⟨b', o', e, c, -, -⟩ := (HA2.out.later hW).at j hjn
    rw [hada] at e
    cases e
    rw [il_get f n j hjn] at hj
    rw [Addr.add_lit, ← hj]
    exact c
  have HBd : Hid (∀ k, k < n → -9223372036854775808 ≤ f k ∧ f k ≤ 9223372036854775807) := fun k hk => by
    obtain ⟨_, _, _, _, _, _, _, _, hx⟩ := HA.out
    exact (hx k hk).2
  clear HA
  go_wp2_with (first
    | (at_make; refine wpList_make_own _ rfl _ _ 23 rfl w2.heap.size 25 i0 (.int .i64 0) 1 Tryd.underlying23 hi hz0 hz1 .i64 .i64 ((n : Int) + 4) (n + 4) rfl rfl (by omega) (by rw [hz2]; omega) (by unfold maxLen; omega) (Nat.le_refl _) ?_; intro w3 hown hgrow; have HB3 : Hid (Below w2.heap.size w2 w3) := (Below.refl _ w2).grown hgrow (Nat.le_refl _) (fun k hk => by cases hk); clear hgrow)
    | (at_builtin; refine wpList_append_fits_any _ rfl _ _ 23 rfl w2.heap.size 25 i0 1 Tryd.underlying23 hi hz1 w2.heap.size 0 (n + 4) [] rfl hown ada n ca (il f n) rfl (by rw [il_len]; omega) HNone.out (HCe.out w3 HB3.out) (il_one1 f n) (by omega) ?_; intro w4 hown4 hgrow4; simp only [Nat.zero_add, List.nil_append] at hown4; have HB4 : Hid (Below w2.heap.size w2 w4) := HB3.out.grown hgrow4 HB3.out.size (fun k hk => by cases hk; exact Nat.le_refl _); have HG4 : Hid (Ar w4 (.slice (some ⟨w2.heap.size, 0, none⟩) n (n + 4)) n f) := (ar_of_own hown4 HBd.out).1; clear hgrow4 hown4 HB3 HCe hown)
    | (go_at_call 12; refine (ClipF_nil most w2.heap.size 0 (n + 4) n f w4 m0 m1 (by omega) HG4.out).mono ?_; rintro e w5 ⟨g, cap, B, rfl, ⟨FF, hX⟩, hg, hb5⟩; have HT5 : Hid (T5 w (.slice ada n ca) (.slice (some ⟨w2.heap.size, 0, none⟩) n (n + 4)) n f w5) := ⟨bchain HW2.out (bchain HB4.out hb5), HA2.out.later (bchain HB4.out hb5), HG4.out.later hb5⟩; have HX5 : Hid (Aw w5 g n cap FF) := hX; have hG4 : w2.heap.size < w4.heap.size ∨ n = 0 := ar_blk HG4.out; clear hX hb5 HG4)
    | (go_at_call 11; refine (ScaleF_nil 4294967296 w2.heap.size 0 (n + 4) n f w5 (by omega) (by omega) (by omega) HT5.out.g).mono ?_; rintro e w6 ⟨g2, rfl, hX2, hg2, hb6⟩; have HT6 : Hid (T5 w (.slice ada n ca) (.slice (some ⟨w2.heap.size, 0, none⟩) n (n + 4)) n f w6) := HT5.out.later hb6; have HX6 : Hid (Rw g n (fun k => .int .i64 (FF k)) w6) := (HX5.out.later hb6).rw; have HY6 : Hid (Rw g2 n (fun k => .int .i64 (clv (rnd (4294967296 * f k) 32))) w6) := hX2.rw; have hG5 : g < w5.heap.size ∨ n = 0 := ar_blk HX5.out.1; clear hX2 hb6 HT5 HX5))
  have hs2 : w.heap.size ≤ w2.heap.size := HW2.out.size
  have hs4 : w2.heap.size ≤ w4.heap.size := HB4.out.size
  go_loopw [60] (fun si wr => ∃ (j : Nat) (hl hs : Nat → Value), j ≤ n ∧ si = .int .i64 (j : Int) ∧ Hid (T5 w (.slice ada n ca) (.slice (some ⟨w2.heap.size, 0, none⟩) n (n + 4)) n f wr) ∧ Hid (Rw g n hl wr) ∧ Hid (Rw g2 n hs wr)) (fun si _ => n - (intOf si).toNat)
  case atStart => exact ⟨0, _, _, by omega, rfl, HT6, HX6, HY6⟩
  case round =>
    clear HT6 HX6 HY6
    obtain ⟨j, hl, hs, hj, rfl, hT, hX, hY⟩ := hrel
    by_cases hlt : j < n
    · have hjI : (j : Int) < (n : Int) := by omega
      have hgg : g ≠ g2 := by omega
      have c1 := hX.out.c j hlt
      have f1 := hX.out.f j hlt
      have c2 := hY.out.c j hlt
      have f2 := hY.out.f j hlt
      have hX' := hX.out.set j (.int .i64 1)
      have hY' := hY.out.far (p := ⟨g, j, none⟩) (.int .i64 1) hgg
      have c2' := hY'.c j hlt
      have f2' := hY'.f j hlt
      have hX2 : Hid (Rw g n (fun k => if k = j then .int .i64 1 else hl k) ((wr.setCell ⟨g, j, none⟩ (.int .i64 1)).setCell ⟨g2, j, none⟩ (.int .i64 2))) := hX'.far (p := ⟨g2, j, none⟩) (.int .i64 2) (fun e => hgg e.symm)
      have hY2 : Hid (Rw g2 n (fun k => if k = j then .int .i64 2 else hs k) ((wr.setCell ⟨g, j, none⟩ (.int .i64 1)).setCell ⟨g2, j, none⟩ (.int .i64 2))) := hY'.set j (.int .i64 2)
      have hT2 : Hid (T5 w (.slice ada n ca) (.slice (some ⟨w2.heap.size, 0, none⟩) n (n + 4)) n f ((wr.setCell ⟨g, j, none⟩ (.int .i64 1)).setCell ⟨g2, j, none⟩ (.int .i64 2))) := (hT.out.set ⟨g, j, none⟩ (.int .i64 1) (by dsimp only; omega) (HNb.out g (by omega)) (fun a n' c' e _ => by cases e; show w2.heap.size ≠ g; omega)).set ⟨g2, j, none⟩ (.int .i64 2) (by dsimp only; omega) (HNb.out g2 (by omega)) (fun a n' c' e _ => by cases e; show w2.heap.size ≠ g2; omega)
      clear hX hY hT hX' hY'
      go_wp2
      go_roundw
      case rel => exact ⟨j + 1, _, _, by omega, by go_num, hT2, hX2, hY2⟩
      case measure => simp [intOf]; omega
    · obtain rfl : j = n := by omega
      have hjI : ¬ (j : Int) < (j : Int) := by omega
      clear hX hY
      rename World => wo
      go_wp2
      go_loopw [72] (fun si wr => ∃ (i : Nat), i ≤ j ∧ si = .int .i64 (i : Int) ∧ wr = wo) (fun si _ => j - (intOf si).toNat)
      case atStart => exact ⟨0, by omega, rfl, rfl⟩
      case round =>
        obtain ⟨i, hij, rfl, rfl⟩ := hrel
        by_cases hlt2 : i < j
        · have hiI : (i : Int) < (j : Int) := by omega
          obtain ⟨b', o', rfl, cA, -, -⟩ := hT.out.a.at i hlt2
          obtain ⟨b3, o3, e3, cG, -, -⟩ := hT.out.g.at i hlt2
          cases e3
          rw [Nat.zero_add] at cG
          go_wp2
          go_roundw
          case rel => exact ⟨i + 1, by omega, by go_num, trivial⟩
          case measure => simp [intOf]; omega
        · obtain rfl : i = j := by omega
          have hiI : ¬ (i : Int) < (i : Int) := by omega
          go_wp2
          go_ret
          exact ⟨rfl, hT.out.B⟩
end Go.Proofs.YtldnnjcfihjkdabDoor
