/-
  VecRows: a matrix turned about gives the same from the other side.
-/
import Derived.Test.YtldnnjcfihjkdabDoorLawVS
import Derived.Test.YtldnnjcfihjkdabDoorBJ
import Derived.Test.YtldnnjcfihjkdabDoorPWalkC
import Derived.Test.YtldnnjcfihjkdabDoorPWalkP
import Derived.Deep.DrawnRows
import Derived.Deep.RegionHeld3
import Derived.Deep.QuietTactic
import Derived.BigQuiet
set_option linter.unusedVariables false
set_option linter.unusedSimpArgs false
namespace Go.Proofs.YtldnnjcfihjkdabDoor
open Go.RowKit
attribute [local go_sem ↓] Go.wp_at_zero Go.wp_at_succ

/-- The matrix turned about, part by part. -/
def trF (f : Nat → Int) (R C q : Nat) : Int := f (q % R * C + q / R)
theorem tr_at (f : Nat → Int) (R C k i : Nat) (hi : i < R) : trF f R C (k * R + i) = f (i * C + k) := by
  unfold trF
  rw [show (k * R + i) % R = i by rw [Nat.mul_comm, Nat.mul_add_mod, Nat.mod_eq_of_lt hi], show (k * R + i) / R = k by rw [Nat.mul_comm, Nat.mul_add_div (by omega), Nat.div_eq_of_lt hi, Nat.add_zero]]
theorem tr_mv (f g : Nat → Int) (R C i : Nat) (hi : i < R) : vmX (trF f R C) g C R i = mvX f g C i := by
  unfold vmX mvX
  congr 2
  refine dotV_congr _ _ _ _ _ (fun t ht => ?_)
  show g t * trF f R C (t * R + i) = f (i * C + t) * g t
  rw [tr_at f R C t i hi, Int.mul_comm]
theorem mat_nat' {r c : Int} {n : Nat} (h : mtB r c n = true) : ∃ R C : Nat, r = (R : Int) ∧ c = (C : Int) ∧ n = R * C ∧ 1 ≤ R ∧ 1 ≤ C ∧ R * C ≤ 65536 := by
  obtain ⟨a, b, -, -, d, e⟩ := mt_yes h
  obtain ⟨R, rfl⟩ := Int.eq_ofNat_of_zero_le (show 0 ≤ r by omega)
  obtain ⟨C, rfl⟩ := Int.eq_ofNat_of_zero_le (show 0 ≤ c by omega)
  rw [← Int.natCast_mul] at d e
  exact ⟨R, C, rfl, rfl, by omega, by omega, by omega, by omega⟩
theorem ar_some' {w : World} {ad : Option Addr} {n cap : Nat} {f : Nat → Int} (h : Ar w (.slice ad n cap) n f) (hn : 1 ≤ n) : ∃ b o, ad = some ⟨b, o, none⟩ := by
  obtain ⟨b, o, e, -⟩ := h.at 0 hn
  exact ⟨b, o, e⟩
theorem ar_row2 {w : World} {b o n cap : Nat} {f : Nat → Int} (h : Ar w (.slice (some ⟨b, o, none⟩) n cap) n f) (p c cp : Nat) (hp : p + c ≤ n) (hc : c ≤ cp) (hcp : cp ≤ maxLen) : Ar w (.slice (some ⟨b, o + p, none⟩) c cp) c (fun k => f (p + k)) := by
  obtain ⟨_, _, b', o', e, h1, h2, h3, h4⟩ := ar_row h p c hp
  cases e
  exact ⟨_, _, b', o', rfl, hc, hcp, h3, h4⟩
/-- The state while the matrix is turned about: both boxes, and the row that grows. -/
structure RS (w : World) (bt R C L : Nat) (va vA : Value) (f : Nat → Int) (W : World) : Prop where
  B : Below w.heap.size w W
  x : M3 w.heap.size (.int .i64 (R : Int)) (.int .i64 (C : Int)) va W
  t : M3 bt (.int .i64 (C : Int)) (.int .i64 (R : Int)) vA W
  o : W.ownsRow (bt + 1) 25 1 vA L (il (trF f R C) L)
theorem RS.push {w : World} {bt R C L : Nat} {va vA v' : Value} {f : Nat → Int} {W w3 : World} {tmp : Obj} (h : RS w bt R C L va vA f W) (hbt : w.heap.size < bt) (hg : (W.alloc tmp).drew.grownBy w3 vA.ownBlock) (ho : w3.ownsRow (bt + 1) 25 1 v' (L + 1) (il (trF f R C) (L + 1))) : RS w bt R C (L + 1) va v' f (w3.setCell ⟨bt, 2, none⟩ v') := by
  have hr : ∀ k, vA.ownBlock = some k → bt + 1 ≤ k := fun k hk => (h.o.lt k hk).1
  have hb1 := bchain (bel1 W tmp) ((Below.refl _ (W.alloc tmp)).drew)
  have blk : ∀ k, k < W.heap.size → k < bt + 1 → w3.heap[k]? = W.heap[k]? := fun k hk hk2 => (hg.block k (Nat.lt_of_lt_of_le hk hb1.size) (fun e => by have := hr k e.symm; omega)).trans (hb1.block k hk)
  have hx := h.x.block (blk _ h.x.lt (by omega))
  have ht := h.t.block (blk _ h.t.lt (by omega))
  refine ⟨?_, hx.far _ (by dsimp only; omega), ?_, own_set ho (by dsimp only; omega) _⟩
  · exact ((bchain h.B hb1).grown hg (bchain h.B hb1).size (fun k hk => by have := hr k hk; omega)).setCell (by dsimp only; omega) _
  · obtain ⟨c0, c1, c2, f0, f1, f2⟩ := ht
    refine ⟨?_, ?_, ?_, ?_, ?_, ?_⟩ <;> simp [go_sem, c0, c1, c2, f0, f1, f2]
set_option maxRecDepth 100000 in
set_option maxHeartbeats 16000000 in
theorem vecRows_any (r c : Int) (va vx : Value) (n m : Nat) (f g : Nat → Int) (r0 : -9223372036854775808 ≤ r) (r1 : r ≤ 9223372036854775807) (c0 : -9223372036854775808 ≤ c) (c1 : c ≤ 9223372036854775807) (w : World) (hV : VT w) (hA : Ar w va n f) (hB : Ar w vx m g) :
    Calls Tryd.prog 5 #[.agg #[.int .i64 r, .int .i64 c, va], vx] w fun e w' => e = .returned (.bool true) ∧ Below w.heap.size w w' := by
  obtain ⟨i0, hi, hz0, hz1, hz2⟩ := info_parts dinfo_fx
  obtain ⟨ada, ca, ba', oa', rfl, k1, k2, -, -⟩ := id hA
  obtain ⟨adb, cb, bb, ob, rfl, q1, q2, -, -⟩ := id hB
  have hb0 := bel1 w (.cells #[.int .i64 r, .int .i64 c, .slice ada n ca] 34)
  have hs0 : w.heap.size < (w.alloc (.cells #[.int .i64 r, .int .i64 c, .slice ada n ca] 34)).heap.size := by simp
  have HAB : Hid (Ar w (.slice ada n ca) n f ∧ Ar w (.slice adb m cb) m g ∧ VT w) := ⟨hA, hB, hV⟩
  have HM : Hid (M3 w.heap.size (.int .i64 r) (.int .i64 c) (.slice ada n ca) (w.alloc (.cells #[.int .i64 r, .int .i64 c, .slice ada n ca] 34))) := M3.new w _ _ _ _
  have HB0 : Hid (Below w.heap.size w (w.alloc (.cells #[.int .i64 r, .int .i64 c, .slice ada n ca] 34))) := hb0
  clear hA hB hV hb0
  go_enter Tryd.func5, Tryd.ntmps5
  go_upto_region 1 with fail
  generalize w.alloc (.cells #[.int .i64 r, .int .i64 c, .slice ada n ca] 34) = w0 at *
  go_wp2_with fail
  refine (vawake_any vec1 _ (HAB.out.2.2.later HB0.out)).mono ?_
  rintro e w1 ⟨rfl, W1⟩
  have HW1 : Hid (Below w0.heap.size w0 w1) := W1
  have cA := (HM.out.later W1).c2
  have HF : Hid (Calls Tryd.prog 18 #[.slice (some ⟨w1.heap.size, 0, none⟩) 2 2] (w1.alloc (.cells #[.slice ada n ca, .slice adb m cb] 23)) fun e w' => e = .returned (.bool (decide (n ≤ 200) && decide (m ≤ 200))) ∧ w' = (w1.alloc (.cells #[.slice ada n ca, .slice adb m cb] 23))) := few2_any w1 ada adb n m ca cb (by omega) (by omega)
  clear W1
  go_wp2_with fail
  refine HF.out.mono ?_
  rintro e w2 ⟨rfl, hw2⟩
  have HW2 : Hid (Below w0.heap.size w0 w2) := by show Below _ _ _; rw [hw2]; exact bchain HW1.out (bel1' _ _)
  clear HF cA hw2 HW1
  obtain ⟨Rb, hRb⟩ : ∃ R, (decide (n ≤ 200) && decide (m ≤ 200)) = R := ⟨_, rfl⟩
  rw [hRb]
  unfold maxLen at k2 q2
  have HB2 : Hid (Below w.heap.size w w2) := bchain HB0.out HW2.out
  have HM2 : Hid (M3 w.heap.size (.int .i64 r) (.int .i64 c) (.slice ada n ca) w2) := HM.out.later HW2.out
  have hs2 : w.heap.size < w2.heap.size := Nat.lt_of_lt_of_le hs0 HW2.out.size
  clear HB0 HM HW2 hs0
  cases Rb
  · clear hRb
    go_wp2
    go_ret
    exact ⟨rfl, HB2.out⟩
  have hnm : n ≤ 200 ∧ m ≤ 200 := by simpa using hRb
  obtain ⟨hn, hm⟩ := hnm
  clear hRb
  have x0 := HM2.out.c0
  have x1 := HM2.out.c1
  have x2 := HM2.out.c2
  have CR : Hid (∀ W : World, Calls Tryd.prog 17 #[.agg #[.int .i64 r, .int .i64 c, .slice ada n ca]] W fun e w' => e = .returned (.bool (mtB r c n)) ∧ Below W.heap.size W w') := fun W => Right_any r c r0 r1 c0 c1 ada n ca (by omega) W
  obtain ⟨MT, hMT⟩ : ∃ b, mtB r c n = b := ⟨_, rfl⟩
  rw [hMT] at CR
  go_wp2_with fail
  refine (CR.out _).mono ?_
  rintro e w3 ⟨rfl, hb3⟩
  have HB3 : Hid (Below w.heap.size w w3) := bchain HB2.out hb3
  have HM3 : Hid (M3 w.heap.size (.int .i64 r) (.int .i64 c) (.slice ada n ca) w3) := HM2.out.later hb3
  have hs3 : w.heap.size < w3.heap.size := Nat.lt_of_lt_of_le hs2 hb3.size
  clear x0 x1 x2 CR hb3 HB2 HM2 hs2
  cases MT
  · go_wp2
    go_ret
    exact ⟨rfl, HB3.out⟩
  have x0 := HM3.out.c0
  have x1 := HM3.out.c1
  have x2 := HM3.out.c2
  rcases (Classical.em ((m : Int) = c)).symm with hdim | hdim
  · have hbq : ((m : Int) == c) = false := beq_eq_false_iff_ne.2 hdim
    go_wp2
    go_ret
    exact ⟨by first | rfl | simp, HB3.out⟩
  have hbq : ((m : Int) == c) = true := by rw [hdim]; exact beq_self_eq_true _
  obtain ⟨R, C, rfl, rfl, hnRC, hR, hC, hRC⟩ := mat_nat' hMT
  obtain rfl : m = C := by omega
  have hP0 : 1 ≤ n := by rw [hnRC]; exact Nat.mul_pos hR hC
  obtain ⟨ba, oa, rfl⟩ := ar_some' HAB.out.1 hP0
  clear hMT hdim
  have HP : Hid (n = R * m) := hnRC
  have hR2 : R ≤ 200 := by have := Nat.le_mul_of_pos_right R hC; omega
  clear hnRC hRC
  go_upto_region 5 with fail
  clear hbq
  go_quiet (fail)
  have HB4 : Hid (Below w.heap.size w (w3.drewN nq)) := below_drewN HB3.out nq
  have HM4 : Hid (M3 w.heap.size (.int .i64 (R : Int)) (.int .i64 (m : Int)) (.slice (some ⟨ba, oa, none⟩) n ca) (w3.drewN nq)) := HM3.out.later (below_drewN (Below.refl _ _) nq)
  have hs4 : w.heap.size < (w3.drewN nq).heap.size := hs3
  clear HB3 HM3 hs3 x0 x1 x2
  generalize w3.drewN nq = w4 at *
  have HS0 : Hid (RS w w4.heap.size R m 0 (.slice (some ⟨ba, oa, none⟩) n ca) (.slice none 0 0) f (w4.alloc (.cells #[.int .i64 (m : Int), .int .i64 (R : Int), .slice none 0 0] 34))) := ⟨bchain HB4.out (bel1 _ _), HM4.out.later (bel1 _ _), M3.new w4 _ _ _ _, World.ownsRow_nil _ _ _ _⟩
  have HI : Hid (∀ i k, i < R → k < m → i * m + k < n ∧ k * R + i < n) := fun i k hi hk => by
    have a1 := mv_step i R m hi
    have a2 := mv_step k m R hk
    rw [Nat.mul_comm m R] at a2
    have := HP.out
    omega
  have HBd : Hid (∀ q, q < n → -9223372036854775808 ≤ trF f R m q ∧ trF f R m q ≤ 9223372036854775807) := fun q hq => by
    obtain ⟨_, _, _, _, _, _, _, _, hx⟩ := HAB.out.1
    have h1 : q / R < m := by rw [Nat.div_lt_iff_lt_mul (by omega), Nat.mul_comm, ← HP.out]; exact hq
    exact (hx _ (HI.out (q % R) (q / R) (Nat.mod_lt _ (by omega)) h1).1).2
  clear HB4 HM4
  go_wp2
  generalize w4.heap.size = bt at *
  go_loopw [49] (fun s49 wr => ∃ (k L : Nat) (vA : Value), k ≤ m ∧ s49 = .int .i64 (k : Int) ∧ Hid (L = k * R) ∧ Hid (RS w bt R m L (.slice (some ⟨ba, oa, none⟩) n ca) vA f wr)) (fun s49 _ => m - (intOf s49).toNat)
  case atStart => exact ⟨0, 0, .slice none 0 0, by omega, rfl, by show _ = _; simp, HS0⟩
  case round =>
    clear HS0
    obtain ⟨k, L0, vA0, hk, rfl, hL0, hS0⟩ := hrel
    by_cases hlt : k < m
    · have hkI : (k : Int) < (m : Int) := by omega
      rename World => wo
      go_wp2
      go_loopw [53] (fun s53 wr => ∃ (i L : Nat) (vA : Value), i ≤ R ∧ s53 = .int .i64 (i : Int) ∧ Hid (L = k * R + i) ∧ Hid (RS w bt R m L (.slice (some ⟨ba, oa, none⟩) n ca) vA f wr)) (fun s53 _ => R - (intOf s53).toNat)
      case atStart => exact ⟨0, L0, vA0, by omega, rfl, by show _ = _; rw [hL0.out, Nat.add_zero], hS0⟩
      case round =>
        clear hS0 hL0
        obtain ⟨i, L, vA, hiR, rfl, hL, hS⟩ := hrel
        by_cases hlt2 : i < R
        · have hiI : (i : Int) < (R : Int) := by omega
          obtain ⟨p1, p2⟩ := HI.out i k hlt2 hlt
          have hLn : L < n := by rw [hL.out]; exact p2
          obtain ⟨_, _, e0, cF, -, -⟩ := (HAB.out.1.later hS.out.B).at (i * m + k) p1
          cases e0
          rw [← Nat.add_assoc] at cF
          obtain ⟨z, hz⟩ : ∃ z : Nat, i * m = z := ⟨_, rfl⟩
          have hzI : (i : Int) * (m : Int) = (z : Int) := by rw [← hz, Int.natCast_mul]
          have hy : Hid (f (i * m + k) = trF f R m L) := by show _ = _; rw [hL.out, tr_at f R m k i hlt2]
          have hL2 : Hid (L + 1 = k * R + (i + 1)) := by show _ = _; rw [hL.out]; omega
          rw [hy.out] at cF
          rw [hz] at cF p1
          obtain ⟨aA, lA, kA, hvA⟩ := own_slice hS.out.o
          subst hvA
          obtain ⟨y, hyy⟩ : ∃ y, trF f R m L = y := ⟨_, rfl⟩
          rw [hyy] at cF
          have HY : Hid (trF f R m L = y) := hyy
          clear hyy hy hL hz
          have HSd : Hid (RS w bt R m L (.slice (some ⟨ba, oa, none⟩) n ca) (.slice aA lA kA) f wr) := hS
          clear hS
          obtain ⟨zk, hzk0⟩ : ∃ zk, z + k = zk := ⟨_, rfl⟩
          have cFd : wr.drew.cell? ⟨ba, oa + zk, none⟩ = some (.int .i64 y) := by rw [← hzk0, ← Nat.add_assoc]; exact cF
          have hw1 : IntKind.i64.wrap (z : Int) = (z : Int) := by rw [IntKind.wrap_i64]; omega
          have hw2 : IntKind.i64.wrap ((z : Int) + (k : Int)) = (zk : Int) := by rw [IntKind.wrap_i64]; omega
          have hzk1 : (zk : Int) < (n : Int) := by omega
          have hzk2 : zk < n := by omega
          clear hzk0 p1
          have cTd : wr.drew.cell? ⟨bt, 2, none⟩ = some (.slice aA lA kA) := HSd.out.t.c2
          have cTa : (wr.alloc (.cells #[.int .i64 y] 25)).drew.cell? ⟨bt, 2, none⟩ = some (.slice aA lA kA) := cell_later ((bel1 wr _).drew) HSd.out.t.c2
          clear cF
          go_upto_region 13 with fail
          refine wp_region_any (by kernel_rfl) ?_
          change wpAny _ _ _ _ _ _ _ (World.drew _)
          refine wpAny_take (i := 0) (v := ?v1) rfl (by kernel_rfl) (by kernel_rfl) (by kernel_rfl) (fun _ _ _ h => h) (Or.inl ⟨by kernel_rfl, ?h1⟩) ?r1
          case h1 => (intro w; go_simp) <;> with_reducible rfl
          refine wpAny_take (i := 2) (v := ?v2) rfl (by kernel_rfl) (by kernel_rfl) (by kernel_rfl) (fun _ _ _ h => h) (Or.inl ⟨by kernel_rfl, ?h2⟩) ?r2
          case h2 => (intro w; go_simp) <;> with_reducible rfl
          refine wpAny_take (i := 3) (v := ?v3) rfl (by kernel_rfl) (by kernel_rfl) (by kernel_rfl) (fun _ _ _ h => h) (Or.inl ⟨by kernel_rfl, ?h3⟩) ?r3
          case h3 => (intro w; go_simp) <;> with_reducible rfl
          refine wpAny_take (i := 4) (v := ?v4) rfl (by kernel_rfl) (by kernel_rfl) (by kernel_rfl) (fun _ _ _ h => h) (Or.inl ⟨by kernel_rfl, ?h4⟩) ?r4
          case h4 => (intro w; go_simp) <;> with_reducible rfl
          refine wpAny_take (i := 6) (v := ?v5) rfl (by kernel_rfl) (by kernel_rfl) (by kernel_rfl) (fun _ _ _ h => h) (Or.inl ⟨by kernel_rfl, ?h5⟩) ?r5
          case h5 => (intro w; go_simp) <;> with_reducible rfl
          refine wpAny_take (i := 5) (v := ?v6) rfl (by kernel_rfl) (by kernel_rfl) (by kernel_rfl) (fun _ _ _ h => h) (Or.inl ⟨by kernel_rfl, ?h6⟩) ?r6
          case h6 => (intro w; go_simp) <;> with_reducible rfl
          refine wpAny_take (i := 7) (v := ?v7) rfl (by kernel_rfl) (by kernel_rfl) (by kernel_rfl) (fun _ _ _ h => h) (Or.inl ⟨by kernel_rfl, ?h7⟩) ?r7
          case h7 => (intro w; go_simp) <;> with_reducible rfl
          refine wpAny_take (i := 8) (v := ?v8) rfl (by kernel_rfl) (by kernel_rfl) (by kernel_rfl) (fun _ _ _ h => h) (Or.inl ⟨by kernel_rfl, ?h8⟩) ?r8
          case h8 => (intro w; go_simp) <;> with_reducible rfl
          refine wpAny_ready (rs := [1, 9]) (by kernel_rfl) (by simp) ?_
          refine AllReady.cons rfl (fun K hK => ?_) (AllReady.cons rfl (fun K hK => ?_) AllReady.nil)
          · go_simp
            refine hK _ _ ?_
            clear hK K
            refine wpAny_ready (rs := [9]) (by kernel_rfl) (by simp) ?_
            refine AllReady.cons rfl (fun K hK => ?_) AllReady.nil
            go_simp
            refine hK _ _ ?_
            clear hK K
            refine wpAny_ready (rs := [10]) (by kernel_rfl) (by simp) ?_
            refine AllReady.cons rfl (fun K hK => ?_) AllReady.nil
            go_simp
            refine hK _ _ ?_
            clear hK K
            refine wpAny_ready (rs := [11]) (by kernel_rfl) (by simp) ?_
            refine AllReady.cons rfl (fun K hK => ?_) AllReady.nil
            have HO1 : Hid ((wr.alloc (.cells #[.int .i64 y] 25)).drew.ownsRow (bt + 1) 25 1 (.slice aA lA kA) L (il (trF f R m) L)) := (HSd.out.o.alloc _).drew
            refine wp_append_own _ _ _ 23 rfl (bt + 1) 25 i0 (.int .i64 0) 1 8 Tryd.underlying23 hi hz0 hz1 hz2 rfl (by decide) (.slice aA lA kA) L (il (trF f R m) L) rfl HO1.out ⟨wr.heap.size, 0, none⟩ 1 1 [.int .i64 y] rfl rfl (by intro j u hj; match j, hj with | 0, hj => (simp at hj; subst hj; simp [Addr.add, go_sem])) (by intro u hu; simp at hu; subst hu; rfl) (by unfold maxLen; omega) (by omega) (by have := HSd.out.t.lt; simp; omega) (fun v' w5 hown' hgrow hnil => hK _ _ ?_)
            obtain ⟨a9, l9, k9, hv9⟩ := own_slice hown'
            subst hv9
            have hown2 : w5.ownsRow (bt + 1) 25 1 (.slice a9 l9 k9) (L + 1) (il (trF f R m) (L + 1)) := by rw [il_succ, HY.out]; exact hown'
            have HS9 : Hid (RS w bt R m (L + 1) (.slice (some ⟨ba, oa, none⟩) n ca) (.slice a9 l9 k9) f (w5.setCell ⟨bt, 2, none⟩ (.slice a9 l9 k9))) := HSd.out.push (by omega) hgrow hown2
            have hbb : Below (bt + 1) wr w5 := (((Below.refl _ wr).alloc (by have := HSd.out.t.lt; omega) _).drew).grown hgrow (by have := HSd.out.t.lt; simp; omega) (fun q hq => (HSd.out.o.lt q hq).1)
            have y2 : w5.cell? ⟨bt, 2, none⟩ = some (.slice aA lA kA) := (hbb.cell (p := ⟨bt, 2, none⟩) (by dsimp only; omega)).trans HSd.out.t.c2
            have y5 : w5.frozen? ⟨bt, 2, none⟩ = false := (hbb.frozen (p := ⟨bt, 2, none⟩) (by dsimp only; omega)).trans HSd.out.t.f2
            clear hown' hgrow hnil HO1 hown2 hbb hK K cFd cTd cTa HSd hw1 hw2
            refine wpAny_take (i := 12) (v := ?v9) rfl (by kernel_rfl) (by kernel_rfl) (by kernel_rfl) (fun _ _ _ h => h) (Or.inl ⟨by kernel_rfl, ?h9⟩) ?r9
            case h9 => (intro w; go_simp) <;> with_reducible rfl
            refine wpAny_ready (rs := [13]) (by kernel_rfl) (by simp) ?_
            refine AllReady.cons rfl (fun K hK => ?_) AllReady.nil
            go_simp
            refine hK _ _ ?_
            clear hK K
            refine wpAny_done (by kernel_rfl) ?_ _
            generalize w5.setCell ⟨bt, 2, none⟩ (.slice a9 l9 k9) = w6 at *
            go_wp2
            go_roundw
            case rel => exact ⟨i + 1, L + 1, (.slice a9 l9 k9), by omega, by go_num, hL2, HS9⟩
            case measure => simp [intOf]; omega
          · go_simp
            refine hK _ _ ?_
            clear hK K
            refine wpAny_ready (rs := [1, 10]) (by kernel_rfl) (by simp) ?_
            refine AllReady.cons rfl (fun K hK => ?_) (AllReady.cons rfl (fun K hK => ?_) AllReady.nil)
            · go_simp
              refine hK _ _ ?_
              clear hK K
              refine wpAny_ready (rs := [10]) (by kernel_rfl) (by simp) ?_
              refine AllReady.cons rfl (fun K hK => ?_) AllReady.nil
              go_simp
              refine hK _ _ ?_
              clear hK K
              refine wpAny_ready (rs := [11]) (by kernel_rfl) (by simp) ?_
              refine AllReady.cons rfl (fun K hK => ?_) AllReady.nil
              have HO1 : Hid ((wr.alloc (.cells #[.int .i64 y] 25)).drew.ownsRow (bt + 1) 25 1 (.slice aA lA kA) L (il (trF f R m) L)) := (HSd.out.o.alloc _).drew
              refine wp_append_own _ _ _ 23 rfl (bt + 1) 25 i0 (.int .i64 0) 1 8 Tryd.underlying23 hi hz0 hz1 hz2 rfl (by decide) (.slice aA lA kA) L (il (trF f R m) L) rfl HO1.out ⟨wr.heap.size, 0, none⟩ 1 1 [.int .i64 y] rfl rfl (by intro j u hj; match j, hj with | 0, hj => (simp at hj; subst hj; simp [Addr.add, go_sem])) (by intro u hu; simp at hu; subst hu; rfl) (by unfold maxLen; omega) (by omega) (by have := HSd.out.t.lt; simp; omega) (fun v' w5 hown' hgrow hnil => hK _ _ ?_)
              obtain ⟨a9, l9, k9, hv9⟩ := own_slice hown'
              subst hv9
              have hown2 : w5.ownsRow (bt + 1) 25 1 (.slice a9 l9 k9) (L + 1) (il (trF f R m) (L + 1)) := by rw [il_succ, HY.out]; exact hown'
              have HS9 : Hid (RS w bt R m (L + 1) (.slice (some ⟨ba, oa, none⟩) n ca) (.slice a9 l9 k9) f (w5.setCell ⟨bt, 2, none⟩ (.slice a9 l9 k9))) := HSd.out.push (by omega) hgrow hown2
              have hbb : Below (bt + 1) wr w5 := (((Below.refl _ wr).alloc (by have := HSd.out.t.lt; omega) _).drew).grown hgrow (by have := HSd.out.t.lt; simp; omega) (fun q hq => (HSd.out.o.lt q hq).1)
              have y2 : w5.cell? ⟨bt, 2, none⟩ = some (.slice aA lA kA) := (hbb.cell (p := ⟨bt, 2, none⟩) (by dsimp only; omega)).trans HSd.out.t.c2
              have y5 : w5.frozen? ⟨bt, 2, none⟩ = false := (hbb.frozen (p := ⟨bt, 2, none⟩) (by dsimp only; omega)).trans HSd.out.t.f2
              clear hown' hgrow hnil HO1 hown2 hbb hK K cFd cTd cTa HSd hw1 hw2
              refine wpAny_take (i := 12) (v := ?v10) rfl (by kernel_rfl) (by kernel_rfl) (by kernel_rfl) (fun _ _ _ h => h) (Or.inl ⟨by kernel_rfl, ?h10⟩) ?r10
              case h10 => (intro w; go_simp) <;> with_reducible rfl
              refine wpAny_ready (rs := [13]) (by kernel_rfl) (by simp) ?_
              refine AllReady.cons rfl (fun K hK => ?_) AllReady.nil
              go_simp
              refine hK _ _ ?_
              clear hK K
              refine wpAny_done (by kernel_rfl) ?_ _
              generalize w5.setCell ⟨bt, 2, none⟩ (.slice a9 l9 k9) = w6 at *
              go_wp2
              go_roundw
              case rel => exact ⟨i + 1, L + 1, (.slice a9 l9 k9), by omega, by go_num, hL2, HS9⟩
              case measure => simp [intOf]; omega
            · go_simp
              refine hK _ _ ?_
              clear hK K
              refine wpAny_ready (rs := [1]) (by kernel_rfl) (by simp) ?_
              refine AllReady.cons rfl (fun K hK => ?_) AllReady.nil
              go_simp
              refine hK _ _ ?_
              clear hK K
              refine wpAny_ready (rs := [11]) (by kernel_rfl) (by simp) ?_
              refine AllReady.cons rfl (fun K hK => ?_) AllReady.nil
              have HO1 : Hid ((wr.alloc (.cells #[.int .i64 y] 25)).drew.ownsRow (bt + 1) 25 1 (.slice aA lA kA) L (il (trF f R m) L)) := (HSd.out.o.alloc _).drew
              refine wp_append_own _ _ _ 23 rfl (bt + 1) 25 i0 (.int .i64 0) 1 8 Tryd.underlying23 hi hz0 hz1 hz2 rfl (by decide) (.slice aA lA kA) L (il (trF f R m) L) rfl HO1.out ⟨wr.heap.size, 0, none⟩ 1 1 [.int .i64 y] rfl rfl (by intro j u hj; match j, hj with | 0, hj => (simp at hj; subst hj; simp [Addr.add, go_sem])) (by intro u hu; simp at hu; subst hu; rfl) (by unfold maxLen; omega) (by omega) (by have := HSd.out.t.lt; simp; omega) (fun v' w5 hown' hgrow hnil => hK _ _ ?_)
              obtain ⟨a9, l9, k9, hv9⟩ := own_slice hown'
              subst hv9
              have hown2 : w5.ownsRow (bt + 1) 25 1 (.slice a9 l9 k9) (L + 1) (il (trF f R m) (L + 1)) := by rw [il_succ, HY.out]; exact hown'
              have HS9 : Hid (RS w bt R m (L + 1) (.slice (some ⟨ba, oa, none⟩) n ca) (.slice a9 l9 k9) f (w5.setCell ⟨bt, 2, none⟩ (.slice a9 l9 k9))) := HSd.out.push (by omega) hgrow hown2
              have hbb : Below (bt + 1) wr w5 := (((Below.refl _ wr).alloc (by have := HSd.out.t.lt; omega) _).drew).grown hgrow (by have := HSd.out.t.lt; simp; omega) (fun q hq => (HSd.out.o.lt q hq).1)
              have y2 : w5.cell? ⟨bt, 2, none⟩ = some (.slice aA lA kA) := (hbb.cell (p := ⟨bt, 2, none⟩) (by dsimp only; omega)).trans HSd.out.t.c2
              have y5 : w5.frozen? ⟨bt, 2, none⟩ = false := (hbb.frozen (p := ⟨bt, 2, none⟩) (by dsimp only; omega)).trans HSd.out.t.f2
              clear hown' hgrow hnil HO1 hown2 hbb hK K cFd cTd cTa HSd hw1 hw2
              refine wpAny_take (i := 12) (v := ?v11) rfl (by kernel_rfl) (by kernel_rfl) (by kernel_rfl) (fun _ _ _ h => h) (Or.inl ⟨by kernel_rfl, ?h11⟩) ?r11
              case h11 => (intro w; go_simp) <;> with_reducible rfl
              refine wpAny_ready (rs := [13]) (by kernel_rfl) (by simp) ?_
              refine AllReady.cons rfl (fun K hK => ?_) AllReady.nil
              go_simp
              refine hK _ _ ?_
              clear hK K
              refine wpAny_done (by kernel_rfl) ?_ _
              generalize w5.setCell ⟨bt, 2, none⟩ (.slice a9 l9 k9) = w6 at *
              go_wp2
              go_roundw
              case rel => exact ⟨i + 1, L + 1, (.slice a9 l9 k9), by omega, by go_num, hL2, HS9⟩
              case measure => simp [intOf]; omega
        · obtain rfl : i = R := by omega
          have hiI : ¬ (i : Int) < (i : Int) := by omega
          have hL3 : Hid (L = (k + 1) * i) := by show _ = _; rw [hL.out, Nat.succ_mul]
          clear hL
          go_wp2
          go_roundw
          case rel => exact ⟨k + 1, L, vA, by omega, by go_num, hL3, hS⟩
          case measure => simp [intOf]; omega
    · have hkm : k = m := by omega
      subst hkm
      have hkI : ¬ (k : Int) < (k : Int) := by omega
      have hLn : L0 = n := by rw [hL0.out, HP.out, Nat.mul_comm]
      subst hLn
      obtain ⟨ga, cA, hvA, hcA1, hcA2⟩ : ∃ ga cA, vA0 = .slice (some ⟨ga, 0, none⟩) L0 cA ∧ L0 ≤ cA ∧ cA ≤ 9223372036854775807 := by
        rcases id hS0.out.o.2 with ⟨h0, h1⟩ | ⟨g', cap', cur, hv, -, -, h1, h2, -⟩
        · have : L0 = 0 := by first | exact h1 | (have := congrArg List.length h1; rw [il_len] at this; simpa using this)
          omega
        · exact ⟨g', cap', hv, h1, by unfold maxLen at h2; omega⟩
      subst hvA
      have HVA : Hid (Ar wr (.slice (some ⟨ga, 0, none⟩) L0 cA) L0 (trF f R k)) := (ar_of_own hS0.out.o HBd.out).1
      have HS : Hid (Below w.heap.size w wr ∧ M3 bt (.int .i64 (k : Int)) (.int .i64 (R : Int)) (.slice (some ⟨ga, 0, none⟩) L0 cA) wr) := ⟨hS0.out.B, hS0.out.t⟩
      have x0 := hS0.out.x.c0
      have x1 := hS0.out.x.c1
      have x2 := hS0.out.x.c2
      have hRk : R * k ≤ 65536 := by rw [← HP.out]; omega
      have CM := MatVec_nil ba oa ca R k f g (.slice adb k cb) hR hC hRk wr (HAB.out.2.2.later hS0.out.B) (by rw [← HP.out]; exact HAB.out.1.later hS0.out.B) (HAB.out.2.1.later hS0.out.B)
      rw [← HP.out] at CM
      replace CM : Hid (Calls _ _ _ _ _) := CM
      clear hL0 hS0 HBd
      go_wp2_with fail
      refine CM.out.mono ?_
      rintro e w5 ⟨g1, rfl, hl1, hg1, hb5⟩
      have HS5 : Hid (Below w.heap.size w w5 ∧ M3 bt (.int .i64 (k : Int)) (.int .i64 (R : Int)) (.slice (some ⟨ga, 0, none⟩) L0 cA) w5) := ⟨bchain HS.out.1 hb5, HS.out.2.later hb5⟩
      have HVA5 : Hid (Ar w5 (.slice (some ⟨ga, 0, none⟩) L0 cA) L0 (trF f R k)) := HVA.out.later hb5
      have HL5 : Hid (Ar w5 (.slice (some ⟨g1, 0, none⟩) R R) R (mvX f g k)) := hl1
      clear hl1 hg1 hb5 CM x0 x1 x2 HVA HS
      have t0 := HS5.out.2.c0
      have t1 := HS5.out.2.c1
      have t2 := HS5.out.2.c2
      have HPk : Hid (L0 = k * R) := by show _ = _; rw [HP.out, Nat.mul_comm]
      have CV := VecMat_nil ga 0 cA k R (trF f R k) g (.slice adb k cb) hC hR (by rw [← HPk.out]; omega) w5 (HAB.out.2.2.later HS5.out.1) (by rw [← HPk.out]; exact HVA5.out) (HAB.out.2.1.later HS5.out.1)
      rw [← HPk.out] at CV
      replace CV : Hid (Calls _ _ _ _ _) := CV
      go_wp2_with fail
      refine CV.out.mono ?_
      rintro e w6 ⟨g2, rfl, hl2, hg2, hb6⟩
      have HT6 : Hid (Below w.heap.size w w6 ∧ Ar w6 (.slice (some ⟨g1, 0, none⟩) R R) R (mvX f g k) ∧ Ar w6 (.slice (some ⟨g2, 0, none⟩) R R) R (vmX (trF f R k) g k R)) := ⟨bchain HS5.out.1 hb6, HL5.out.later hb6, hl2⟩
      clear hl2 hg2 hb6 CV t0 t1 t2 HS5 HVA5 HL5
      rename World => w7
      go_wp2
      go_loopw [103] (fun si wr => ∃ (i : Nat), i ≤ R ∧ si = .int .i64 (i : Int) ∧ Hid (Below w.heap.size w wr ∧ Ar wr (.slice (some ⟨g1, 0, none⟩) R R) R (mvX f g k) ∧ Ar wr (.slice (some ⟨g2, 0, none⟩) R R) R (vmX (trF f R k) g k R))) (fun si _ => R - (intOf si).toNat)
      case atStart => exact ⟨0, by omega, rfl, HT6⟩
      case round =>
        clear HT6
        obtain ⟨i, hiR, rfl, hT⟩ := hrel
        by_cases hlt2 : i < R
        · have hiI : (i : Int) < (R : Int) := by omega
          have hstep := mv_step i R k hlt2
          rw [← HP.out] at hstep
          obtain ⟨_, _, e1, cL, -, -⟩ := hT.out.2.1.at i hlt2
          cases e1
          rw [Nat.zero_add] at cL
          obtain ⟨z, hz⟩ : ∃ z : Nat, i * k = z := ⟨_, rfl⟩
          have hzI : (i : Int) * (k : Int) = (z : Int) := by rw [← hz, Int.natCast_mul]
          have HArow : Hid (∀ W : World, Below w.heap.size w W → Ar W (.slice (some ⟨ba, oa + z, none⟩) k (ca - z)) k (fun q => f (i * k + q))) := fun W hW => by
            rw [← hz]
            exact ar_row2 (HAB.out.1.later hW) (i * k) k (ca - i * k) hstep (by omega) (by unfold maxLen; omega)
          have HDX : Hid (dX k k (fun q => f (i * k + q)) g = mvX f g k i ∧ dE k k = 0) := by
            have e : dE k k = 0 := by unfold dE; rw [if_neg (by omega), if_pos rfl]
            exact ⟨by unfold dX; rw [if_pos e]; rfl, e⟩
          have hnv : Hid (vmX (trF f R k) g k R i = mvX f g k i) := tr_mv f g R k i hlt2
          rw [hz] at hstep
          have h1 : z ≤ ca := by omega
          have h2 : ¬ ca = z := by omega
          have h3 : z + k ≤ ca := by omega
          clear hz
          obtain ⟨y, hyy⟩ : ∃ y, mvX f g k i = y := ⟨_, rfl⟩
          rw [hyy] at cL HDX hnv
          clear hyy
          have CD := Dot_nil (.slice (some ⟨ba, oa + z, none⟩) k (ca - z)) (.slice adb k cb) k k (fun q => f (i * k + q)) g wr (by omega) (by omega) (HAB.out.2.2.later hT.out.1) (HArow.out wr hT.out.1) (HAB.out.2.1.later hT.out.1)
          rw [HDX.out.1, HDX.out.2] at CD
          replace CD : Hid (Calls _ _ _ _ _) := CD
          go_wp2_with fail
          refine CD.out.mono ?_
          rintro e w8 ⟨rfl, hb8⟩
          have hT8 : Hid (Below w.heap.size w w8 ∧ Ar w8 (.slice (some ⟨g1, 0, none⟩) R R) R (mvX f g k) ∧ Ar w8 (.slice (some ⟨g2, 0, none⟩) R R) R (vmX (trF f R k) g k R)) := ⟨bchain hT.out.1 hb8, hT.out.2.1.later hb8, hT.out.2.2.later hb8⟩
          obtain ⟨_, _, e2, cN, -, -⟩ := hT8.out.2.2.at i hlt2
          cases e2
          rw [Nat.zero_add, hnv.out] at cN
          clear hb8 CD hT cL hnv HDX HArow
          go_wp2
          go_roundw
          case rel => exact ⟨i + 1, by omega, by go_num, hT8⟩
          case measure => simp [intOf]; omega
        · obtain rfl : i = R := by omega
          have hiI : ¬ (i : Int) < (i : Int) := by omega
          go_wp2
          go_ret
          exact ⟨rfl, hT.out.1⟩
end Go.Proofs.YtldnnjcfihjkdabDoor
