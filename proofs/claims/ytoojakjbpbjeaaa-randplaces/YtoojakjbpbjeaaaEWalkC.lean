/-
  The contract of regattaref05's Perm.
-/
import Derived.Test.YtoojakjbpbjeaaaEWalkB
import Derived.Test.YtoojakjbpbjeaaaPWalkD
set_option linter.unusedVariables false
set_option linter.unusedSimpArgs false
namespace Go.Proofs.Ytoojakjbpbjeaaa
open Go.RowKit

/-- Two change places. -/
def swp (f : Nat → Nat) (i j : Nat) : Nat → Nat := fun k => if k = j then f i else if k = i then f j else f k
/-- The numbers when so many of n have changed places, from the last one down; J says with which. -/
def pmN (J : Nat → Nat) (n : Nat) : Nat → Nat → Nat
  | 0 => fun k => k
  | m + 1 => swp (pmN J n m) (n - 1 - m) (J (n - 1 - m))
theorem pmN_lt (J : Nat → Nat) (n : Nat) (hJ : ∀ i, i < n → J i ≤ i) (m : Nat) (hm : m ≤ n - 1) (k : Nat) (hk : k < n) : pmN J n m k < n := by
  induction m generalizing k with
  | zero => exact hk
  | succ m ih =>
    have hi := hJ (n - 1 - m) (by omega)
    show swp (pmN J n m) _ _ k < n
    unfold swp
    split
    · exact ih (by omega) _ (by omega)
    · split
      · exact ih (by omega) _ (by omega)
      · exact ih (by omega) _ hk
theorem own_rw {w : World} {base : Nat} {e : TypeId} {v : Value} {n : Nat} {f : Nat → Int} (h : w.ownsRow base e 1 v n (il f n)) (hn : 0 < n) : ∃ g cap, v = .slice (some ⟨g, 0, none⟩) n cap ∧ base ≤ g ∧ n ≤ cap ∧ cap ≤ maxLen ∧ Rw g n (fun k => .int .i64 (f k)) w := by
  rcases h.2 with ⟨_, h0⟩ | ⟨g, cap, cur, rfl, hg, hh, hc1, hc2, hsz, htk⟩
  · omega
  · refine ⟨g, cap, rfl, hg, hc1, hc2, ⟨fun k hk => ?_, fun k hk => by simp [World.frozen?, hh]⟩⟩
    rw [h.cellAt k (by omega), il_get f n k hk]
theorem dinfo_int : (Try.prog.info? 3).map (fun i => (i.zero, i.size, i.bytes)) = some (some (.int .i64 0), 1, 8) := by kernel_rfl
theorem K4.far {q : Nat} {x y z u : Value} {w : World} {p : Addr} (h : K4 q x y z u w) (t : Value) (hp : p.block ≠ q) : K4 q x y z u (w.setCell p t) :=
  ⟨cell_set hp h.c0, cell_set hp h.c1, cell_set hp h.c2, cell_set hp h.c3⟩
theorem swp_rw {g n : Nat} {F : Nat → Nat} {w : World} (r : Rw g n (fun k => .int .i64 ((F k : Nat) : Int)) w) (i j : Nat) : Rw g n (fun k => .int .i64 ((swp F i j k : Nat) : Int)) ((w.setCell ⟨g, i, none⟩ (.int .i64 ((F j : Nat) : Int))).setCell ⟨g, j, none⟩ (.int .i64 ((F i : Nat) : Int))) := by
  refine ((r.set i (.int .i64 ((F j : Nat) : Int))).set j (.int .i64 ((F i : Nat) : Int))).congr (fun k hk => ?_)
  unfold swp
  by_cases h1 : k = j
  · rw [if_pos h1, if_pos h1]
  · rw [if_neg h1, if_neg h1]
    by_cases h2 : k = i
    · rw [if_pos h2, if_pos h2]
    · rw [if_neg h2, if_neg h2]
set_option maxRecDepth 100000 in
set_option maxHeartbeats 8000000 in
theorem refPerm_any (s : Nat) (a b c : Int) (n : Nat) (hk : Ky s a b c) (hn : n ≤ 70000) (w : World) :
    Calls Try.prog 20 #[.agg #[.int .u64 (s : Int), .int .i64 a, .int .i64 b, .int .i64 c], .int .i64 (n : Int)] w fun e w' => ∃ v', e = .returned v' ∧ Ar w' v' n (fun k => ((pmN (fun i : Nat => blN (wdN s a b c (i : Int)) (i + 1)) n (n - 1) k : Nat) : Int)) ∧ Ow w.heap.size v' ∧ Below w.heap.size w w' := by
  obtain ⟨i0, hi, hz0, hz1, hz2⟩ := info_parts dinfo_int
  have HCB : Hid (∀ (i : Nat) (W : World), i < n → Calls Try.prog 14 #[.agg #[.int .u64 (s : Int), .int .i64 a, .int .i64 b, .int .i64 c], .int .i64 (i : Int), .int .i64 ((i : Int) + 1)] W fun e w' => e = .returned (.int .i64 ((blN (wdN s a b c (i : Int)) (i + 1) : Nat) : Int)) ∧ Below W.heap.size W w') := fun i W h => refBelow_any s a b c (i : Int) (i + 1) hk (by omega) (by omega) (by omega) (by omega) W
  have HJ : Hid (∀ i : Nat, i < n → blN (wdN s a b c (i : Int)) (i + 1) ≤ i) := fun i _ => by have := blN_lt (wdN s a b c (i : Int)) (i + 1) (wdN_lt _ _ _ _ _) (by omega); omega
  obtain ⟨J, hJJ⟩ : ∃ J : Nat → Nat, J = fun i : Nat => blN (wdN s a b c (i : Int)) (i + 1) := ⟨_, rfl⟩
  have HCB' : Hid (∀ (i : Nat) (W : World), i < n → Calls Try.prog 14 #[.agg #[.int .u64 (s : Int), .int .i64 a, .int .i64 b, .int .i64 c], .int .i64 (i : Int), .int .i64 ((i : Int) + 1)] W fun e w' => e = .returned (.int .i64 ((J i : Nat) : Int)) ∧ Below W.heap.size W w') := fun i W h => by rw [hJJ]; exact HCB.out i W h
  have HJ' : Hid (∀ i, i < n → J i ≤ i) := fun i h => by rw [hJJ]; exact HJ.out i h
  rw [← hJJ]
  clear HCB HJ hJJ hk
  have Kc : K4 w.heap.size (.int .u64 (s : Int)) (.int .i64 a) (.int .i64 b) (.int .i64 c) (w.alloc (.cells #[.int .u64 (s : Int), .int .i64 a, .int .i64 b, .int .i64 c] 28)) := ⟨by simp [go_sem], by simp [go_sem], by simp [go_sem], by simp [go_sem]⟩
  have hB1 : Hid (Below w.heap.size w (w.alloc (.cells #[.int .u64 (s : Int), .int .i64 a, .int .i64 b, .int .i64 c] 28))) := bel1 w _
  have hsz1 : (w.alloc (.cells #[.int .u64 (s : Int), .int .i64 a, .int .i64 b, .int .i64 c] 28)).heap.size = w.heap.size + 1 := by simp
  go_enter Try.func20, Try.ntmps20
  go_upto_region 3 with fail
  generalize w.alloc (.cells #[.int .u64 (s : Int), .int .i64 a, .int .i64 b, .int .i64 c] 28) = w1 at *
  have HKc : Hid (K4 w.heap.size (.int .u64 (s : Int)) (.int .i64 a) (.int .i64 b) (.int .i64 c) w1) := Kc
  have Hsz1 : Hid (w1.heap.size = w.heap.size + 1) := hsz1
  clear Kc hsz1
  go_loopw [5, 6] (fun s5 si wr => ∃ j : Nat, j ≤ n ∧ si = .int .i64 (j : Int) ∧ wr.ownsRow w1.heap.size 3 1 s5 j (il (fun k => (k : Int)) j) ∧ Hid (Below w1.heap.size w1 wr)) (fun _ si _ => n - (intOf si).toNat)
  case atStart => exact ⟨0, by omega, rfl, World.ownsRow_nil _ _ _ _, Below.refl _ _⟩
  case round =>
    rename World => wr1
    obtain ⟨j, hj, rfl, hown, hW⟩ := hrel
    by_cases hlt : j < n
    · have hjI : (j : Int) < (n : Int) := by omega
      have hsz : w1.heap.size ≤ wr1.heap.size := hW.out.size
      go_wp2_with (at_builtin; refine wpList_append_own _ rfl _ _ 42 rfl w1.heap.size 3 i0 (.int .i64 0) 1 8 Try.underlying42 hi hz0 hz1 hz2 rfl (by decide) _ _ _ rfl (hown.alloc _) ⟨wr1.heap.size, 0, none⟩ 1 1 [.int .i64 (j : Int)] rfl rfl (cell_one_new _ _ _) (ints_oneCell .i64 [(j : Int)]) (by unfold maxLen; omega) (by omega) (by simp; omega) ?_; intro v' w3 hown' hgrow hnil)
      have hown3 : w3.ownsRow w1.heap.size 3 1 v' (j + 1) (il (fun k => (k : Int)) (j + 1)) := by rw [il_succ]; exact hown'
      have HW3 : Hid (Below w1.heap.size w1 w3) := (hW.out.alloc hsz _).grown hgrow (by rw [World.size_alloc]; omega) (fun k hk => (hown.lt k hk).1)
      clear hown' hgrow hnil hown hW
      go_wp2
      go_roundw
      case rel => exact ⟨j + 1, by omega, by go_num, hown3, HW3⟩
      case measure => simp [intOf]; omega
    · obtain rfl : j = n := by omega
      have hjI : ¬ (j : Int) < (j : Int) := by omega
      by_cases h0 : j = 0
      · subst h0
        have HQ : Hid (Ar wr1 u5 0 (fun k => (k : Int)) ∧ Ow w1.heap.size u5) := ar_of_own hown (fun k hk => by omega)
        clear hown
        have HAr : Hid (Ar wr1 u5 0 (fun k => ((pmN J 0 (0 - 1) k : Nat) : Int)) ∧ Ow w.heap.size u5) := by
          obtain ⟨h1, h2⟩ := HQ.out
          obtain ⟨adr, cp, q, o, e, p1, p2, p3, p4⟩ := h1
          exact ⟨⟨adr, cp, q, o, e, p1, p2, p3, fun k hk => by omega⟩, h2.mono (by have := Hsz1.out; omega)⟩
        have HX : Hid (Below w.heap.size w wr1) := bchain hB1.out hW.out
        clear HQ HKc HCB' HJ'
        go_upto_region 7 with fail
        go_loopw [7] (fun si wr => si = .int .i64 (-1) ∧ wr = wr1) (fun _ _ => 0)
        case atStart => exact ⟨by go_num, rfl⟩
        case round =>
          obtain ⟨rfl, rfl⟩ := hrel
          go_wp2
          go_ret
          exact ⟨_, rfl, HAr.out.1, HAr.out.2, HX.out⟩
      · obtain ⟨g, cap, rfl, hg, hc1, hc2, hR⟩ := own_rw hown (by omega)
        have HR : Hid (Rw g j (fun k => .int .i64 ((pmN J j 0 k : Nat) : Int)) wr1) := hR
        clear hown hR
        unfold maxLen at hc2
        have hg0 : w.heap.size < g := by have := Hsz1.out; omega
        go_upto_region 7 with fail
        go_loopw [7] (fun si wr => ∃ (m i : Nat), m + i = j - 1 ∧ si = .int .i64 (i : Int) ∧ Hid (Rw g j (fun k => .int .i64 ((pmN J j m k : Nat) : Int)) wr) ∧ Hid (Below w1.heap.size w1 wr)) (fun si _ => (intOf si).toNat)
        case atStart => exact ⟨0, j - 1, by omega, by go_num; try omega, HR, hW⟩
        case round =>
          obtain ⟨m, i, hmi, rfl, hRw, hWr⟩ := hrel
          have Hmi : Hid (j - 1 - m = i) := by show _ = _; omega
          have hmn : m ≤ j - 1 := by omega
          have hij : i < j := by omega
          by_cases hge : 1 ≤ i
          · have hgI : (1 : Int) ≤ (i : Int) := by omega
            have kc := HKc.out.later hWr.out
            have k0 := kc.c0
            have k1 := kc.c1
            have k2 := kc.c2
            have k3 := kc.c3
            have CB : Hid (Calls Try.prog 14 #[.agg #[.int .u64 (s : Int), .int .i64 a, .int .i64 b, .int .i64 c], .int .i64 (i : Int), .int .i64 ((i : Int) + 1)] wr fun e w' => e = .returned (.int .i64 ((J i : Nat) : Int)) ∧ Below wr.heap.size wr w') := HCB'.out i wr hij
            have hJi := HJ'.out i hij
            have HL : Hid (pmN J j m i < j ∧ pmN J j m (J i) < j) := ⟨pmN_lt J j HJ'.out m hmn i hij, pmN_lt J j HJ'.out m hmn (J i) (by omega)⟩
            clear kc hmi
            go_wp2_with fail
            refine CB.out.mono ?_
            rintro e wz ⟨rfl, hb⟩
            have HRz : Hid (Rw g j (fun k => .int .i64 ((pmN J j m k : Nat) : Int)) wz) := hRw.out.later hb
            have HWz : Hid (Below w1.heap.size w1 wz) := bchain hWr.out hb
            have ci : wz.cell? ⟨g, i, none⟩ = some (.int .i64 ((pmN J j m i : Nat) : Int)) := HRz.out.c i hij
            have fi := HRz.out.f i hij
            have cq : wz.cell? ⟨g, J i, none⟩ = some (.int .i64 ((pmN J j m (J i) : Nat) : Int)) := HRz.out.c (J i) (by omega)
            have fq := HRz.out.f (J i) (by omega)
            have HR2 : Hid (Rw g j (fun k => .int .i64 ((pmN J j (m + 1) k : Nat) : Int)) ((wz.setCell ⟨g, i, none⟩ (.int .i64 ((pmN J j m (J i) : Nat) : Int))).setCell ⟨g, J i, none⟩ (.int .i64 ((pmN J j m i : Nat) : Int)))) := by
              have h := swp_rw HRz.out i (J i)
              have e : pmN J j (m + 1) = swp (pmN J j m) i (J i) := by show swp _ _ _ = _; rw [Hmi.out]
              show Rw _ _ _ _
              rw [e]
              exact h
            have HW2 : Hid (Below w1.heap.size w1 ((wz.setCell ⟨g, i, none⟩ (.int .i64 ((pmN J j m (J i) : Nat) : Int))).setCell ⟨g, J i, none⟩ (.int .i64 ((pmN J j m i : Nat) : Int)))) := (HWz.out.setCell hg _).setCell hg _
            have hmi2 : m + 1 + (i - 1) = j - 1 := by have := Hmi.out; omega
            clear k0 k1 k2 k3 CB hb hRw hWr HRz HWz Hmi
            generalize J i = q at *
            generalize pmN J j m i = x at *
            generalize pmN J j m q = y at *
            by_cases hq : q = i
            · subst hq
              have exy : y = x := by rw [ci] at cq; injection cq with h1; injection h1 with h2 h3; omega
              subst exy
              clear cq fq
              go_wp2
              go_roundw
              case rel => exact ⟨m + 1, q - 1, hmi2, by go_num; try omega, HR2, HW2⟩
              case measure => simp [intOf]; omega
            · have hq2 : ¬ i = q := fun h => hq h.symm
              go_wp2
              go_roundw
              case rel => exact ⟨m + 1, i - 1, hmi2, by go_num; try omega, HR2, HW2⟩
              case measure => simp [intOf]; omega
          · have hgI : ¬ (1 : Int) ≤ (i : Int) := by omega
            obtain rfl : m = j - 1 := by omega
            have HX : Hid (Below w.heap.size w wr) := bchain hB1.out hWr.out
            have HAr : Hid (Ar wr (.slice (some ⟨g, 0, none⟩) j cap) j (fun k => ((pmN J j (j - 1) k : Nat) : Int))) := ⟨_, cap, g, 0, rfl, hc1, by unfold maxLen; omega, fun _ => rfl, fun k hk => ⟨by rw [Nat.zero_add]; exact hRw.out.c k hk, by have := pmN_lt J j HJ'.out (j - 1) (Nat.le_refl _) k hk; dsimp only; omega⟩⟩
            clear hRw hWr HR HCB' HJ' HKc
            go_wp2
            go_ret
            exact ⟨_, rfl, HAr.out, fun a' n' c' e _ => (by cases e; exact Nat.le_of_lt hg0), HX.out⟩
end Go.Proofs.Ytoojakjbpbjeaaa
