/-
  The contract of digits' Int.
-/
import Derived.Test.YtekdpeiemfppiaaDoorGMath3
import Derived.Test.YtekdpeiemfppiaaDoorGWalkV
import Derived.Test.YtekdpeiemfppiaaDoorGWalkW
import Derived.Test.YtekdpeiemfppiaaDoorWalkC
set_option linter.unusedVariables false
set_option linter.unusedSimpArgs false
namespace Go.Proofs.YtekdpeiemfppiaaDoor
open Go.RowKit

/-- A block of three cells. -/
structure Nx (b : Nat) (x y z : Value) (w : World) : Prop where
  c0 : w.cell? ⟨b, 0, none⟩ = some x
  c1 : w.cell? ⟨b, 1, none⟩ = some y
  c2 : w.cell? ⟨b, 2, none⟩ = some z
theorem Nx.new (w : World) (x y z : Value) (t : TypeId) : Nx w.heap.size x y z (w.alloc (.cells #[x, y, z] t)) where
  c0 := by simp [go_sem]
  c1 := by simp [go_sem]
  c2 := by simp [go_sem]
theorem Nx.later {b : Nat} {x y z : Value} {w w' : World} (h : Nx b x y z w) (hb : Below w.heap.size w w') : Nx b x y z w' :=
  ⟨cell_later hb h.c0, cell_later hb h.c1, cell_later hb h.c2⟩
theorem Nx.off {b : Nat} {x y z : Value} {w : World} {p : Addr} (h : Nx b x y z w) (u : Value) (hp : p.block ≠ b) : Nx b x y z (w.setCell p u) where
  c0 := by rw [World.cell?_setCell_other _ _ _ _ (fun e => hp (by rw [e]))]; exact h.c0
  c1 := by rw [World.cell?_setCell_other _ _ _ _ (fun e => hp (by rw [e]))]; exact h.c1
  c2 := by rw [World.cell?_setCell_other _ _ _ _ (fun e => hp (by rw [e]))]; exact h.c2
theorem Nx.blk {b : Nat} {x y z : Value} {w : World} (h : Nx b x y z w) : b < w.heap.size := World.block_lt_of_cell? _ _ h.c0
theorem prX_in (l : List UInt8) : -9223372036854775808 ≤ prX l ∧ prX l ≤ 9223372036854775807 := by
  unfold prX clv
  repeat' split
  all_goals omega
theorem iX_in (l : List UInt8) : -9223372036854775808 ≤ iX l ∧ iX l ≤ 9223372036854775807 := by
  unfold iX
  split
  · split
    · omega
    · rename_i h
      unfold ovv at h
      simp at h
      exact h
  · omega
theorem iOk_no (l : List UInt8) (h : iOk l = false) : iX l = 0 ∧ iE l = 30 := by
  unfold iX iE
  rw [h]
  exact ⟨rfl, rfl⟩
theorem iOk_big (l : List UInt8) (h : iOk l = true) (h2 : ovv (iV l) = true) : iX l = 0 ∧ iE l = 3 := by
  unfold iX iE
  rw [h, h2]
  exact ⟨rfl, rfl⟩
theorem iOk_fit (l : List UInt8) (h : iOk l = true) (h2 : ovv (iV l) = false) : iX l = iV l ∧ iE l = 0 := by
  unfold iX iE
  rw [h, h2]
  exact ⟨rfl, rfl⟩
set_option maxRecDepth 100000 in
set_option maxHeartbeats 4000000 in
theorem gint_any (l : List UInt8) (hl : l.length ≤ 1000) (w : World) :
    Calls Tryd.prog 14 #[.string (bs l)] w fun e w' => e = .returned (.tuple #[.int .i64 (iX l), .int .i64 (iE l)]) ∧ Below w.heap.size w w' := by
  have PA : Hid (∀ W : World, Calls Tryd.prog 24 #[.string (bs l)] W fun e w' => e = .returned (.tuple #[.agg #[.bool (pB l), .string (bs (pA l)), .string (bs (pE l))], .bool (pOk l)]) ∧ Below W.heap.size W w') := fun W => gapart_any l (by omega) W
  have e0 : (ByteArray.mk #[]).toList = [] := ByteArray.toList_mk []
  have e1 : (ByteArray.mk #[45, 48]).toList = [45, 48] := ByteArray.toList_mk [45, 48]
  have e2 := bs_toList l
  have e3 := bs_toList (pE l)
  have za := bs_size (pA l)
  have hk := iOk_is l
  cases hok : pOk l
  · rw [hok] at PA hk
    obtain ⟨r1, r2⟩ := iOk_no l (by rw [hk]; rfl)
    rw [r1, r2]
    clear hk hok
    generalize pA l = qa at *
    generalize pE l = qb at *
    generalize pB l = bel at *
    go_enter Tryd.func14, Tryd.ntmps14
    go_wp2_with fail
    refine (PA.out _).mono ?_
    rintro e w1 ⟨rfl, W1⟩
    clear PA
    go_wp2
    go_ret2
    exact ⟨rfl, W1.alloc W1.size _⟩
  · rw [hok] at PA hk
    by_cases h1 : pE l = []
    · have f1 : (pE l == []) = true := by rw [beq_iff_eq]; exact h1
      rw [decide_eq_true h1] at hk
      by_cases h2 : l = [45, 48]
      · have f2 : (l == [45, 48]) = true := by rw [beq_iff_eq]; exact h2
        obtain ⟨r1, r2⟩ := iOk_no l (by rw [hk, decide_eq_true h2]; rfl)
        rw [r1, r2]
        clear hk hok h1 h2
        generalize pA l = qa at *
        generalize pE l = qb at *
        generalize pB l = bel at *
        go_enter Tryd.func14, Tryd.ntmps14
        go_wp2_with fail
        refine (PA.out _).mono ?_
        rintro e w1 ⟨rfl, W1⟩
        clear PA
        go_wp2
        go_ret2
        exact ⟨rfl, W1.alloc W1.size _⟩
      · have f2 : (l == [45, 48]) = false := by rw [beq_eq_false_iff_ne]; exact h2
        have hio : iOk l = true := by rw [hk, decide_eq_false h2]; rfl
        obtain ⟨q1, q2, q3⟩ := ok_parts3 l hok
        have qd := isD_at _ q1
        have hal : (pA l).length ≤ 9223372036854775807 := by
          unfold pA pS
          rw [List.length_take]
          split
          · rw [List.length_drop]; omega
          · omega
        by_cases h20 : 20 < (pA l).length
        · obtain ⟨r1, r2⟩ := iOk_big l hio (long_big l hok h20)
          have h20' : (20 : Int) < ((pA l).length : Int) := by omega
          rw [r1, r2]
          clear hk hok h1 h2 hio q1 q2 q3 qd h20
          generalize pA l = qa at *
          generalize pE l = qb at *
          generalize pB l = bel at *
          go_enter Tryd.func14, Tryd.ntmps14
          go_wp2_with fail
          refine (PA.out _).mono ?_
          rintro e w1 ⟨rfl, W1⟩
          clear PA
          go_wp2
          go_ret2
          exact ⟨rfl, W1.alloc W1.size _⟩
        · have h20' : ((pA l).length : Int) ≤ 20 := by omega
          have hn := num_small (pA l) qd (by omega)
          have PN : Hid (∀ W : World, Calls Tryd.prog 26 #[.string (bs (pA l))] W fun e w' => e = .returned (.agg #[.int .i64 (hi ((num (pA l) : Nat) : Int)), .int .u64 (lo ((num (pA l) : Nat) : Int))]) ∧ Below W.heap.size W w') := fun W => gcount_any (pA l) qd (by omega) W
          have PS : Hid (∀ W : World, Calls Tryd.prog 33 #[.agg #[.bool (pB l), .string (bs (pA l)), .string (bs (pE l))], .agg #[.int .i64 (hi ((num (pA l) : Nat) : Int)), .int .u64 (lo ((num (pA l) : Nat) : Int))]] W fun e w' => e = .returned (.agg #[.int .i64 (hi (iV l)), .int .u64 (lo (iV l))]) ∧ Below W.heap.size W w') := fun W => gsigned_any (pB l) (bs (pA l)) (bs (pE l)) ((num (pA l) : Nat) : Int) W
          have hv : -100000000000000000000 ≤ iV l ∧ iV l ≤ 100000000000000000000 := by
            unfold iV
            split <;> omega
          have PC : Hid (∀ W : World, Calls Tryd.prog 31 #[.agg #[.int .i64 (hi (iV l)), .int .u64 (lo (iV l))]] W fun e w' => e = .returned (.tuple #[.int .i64 (clv (iV l)), .bool (ovv (iV l))]) ∧ Below W.heap.size W w') := fun W => clamp_any (iV l) (by omega) (by omega) W
          have HR : Hid ((ovv (iV l) = true → iX l = 0 ∧ iE l = 3) ∧ (ovv (iV l) = false → iX l = clv (iV l) ∧ iE l = 0)) := by
            refine ⟨iOk_big l hio, fun h => ?_⟩
            obtain ⟨r1, r2⟩ := iOk_fit l hio h
            refine ⟨?_, r2⟩
            rw [r1]
            unfold ovv at h
            simp at h
            exact (clv_in _ h.1 h.2).1.symm
          obtain ⟨cb0, cb1⟩ : -9223372036854775808 ≤ clv (iV l) ∧ clv (iV l) ≤ 9223372036854775807 := by
            unfold clv
            repeat' split
            all_goals omega
          clear hk hok h1 h2 hio q1 q2 q3 qd h20 hn hv hal
          generalize hi ((num (pA l) : Nat) : Int) = n0 at *
          generalize lo ((num (pA l) : Nat) : Int) = n1 at *
          generalize iX l = rx at *
          generalize iE l = re at *
          generalize hi (iV l) = v0 at *
          generalize lo (iV l) = v1 at *
          generalize clv (iV l) = cv at *
          generalize ovv (iV l) = ov at *
          generalize pA l = qa at *
          generalize pE l = qb at *
          generalize pB l = bel at *
          go_enter Tryd.func14, Tryd.ntmps14
          go_wp2_with fail
          refine (PA.out _).mono ?_
          rintro e w1 ⟨rfl, W1⟩
          clear PA
          go_upto_region 6 with fail
          have CN : Nx w1.heap.size (.bool bel) (.string (bs qa)) (.string (bs qb)) (w1.alloc (.cells #[.bool bel, .string (bs qa), .string (bs qb)] 53)).drew := (Nx.new w1 _ _ _ 53).later (Below.refl _ _).drew
          have CW : Hid (Below w.heap.size w (w1.alloc (.cells #[.bool bel, .string (bs qa), .string (bs qb)] 53)).drew) := (W1.alloc W1.size _).drew
          clear W1
          generalize w1.heap.size = nb at *
          go_region_held3 (fun w' => w'.cell? ⟨nb, 0, none⟩ = some (.bool bel) ∧ w'.cell? ⟨nb, 1, none⟩ = some (.string (bs qa)) ∧ w'.cell? ⟨nb, 2, none⟩ = some (.string (bs qb))) (exact ⟨CN.c0, CN.c1, CN.c2⟩) (first
            | (go_at_call 26; refine (PN.out _).mono ?_; rintro e wz ⟨rfl, hb⟩; replace CN := CN.later hb; replace CW := hidC CW hb; clear hb)
            | (go_at_call 33; refine (PS.out _).mono ?_; rintro e wz ⟨rfl, hb⟩; replace CN := CN.later hb; replace CW := hidC CW hb; clear hb)
            | (go_at_call 31; refine (PC.out _).mono ?_; rintro e wz ⟨rfl, hb⟩; replace CN := CN.later hb; replace CW := hidC CW hb; clear hb))
          clear PN PS PC CN
          cases ov
          · obtain ⟨r1, r2⟩ := HR.out.2 rfl
            clear HR
            subst r1 r2
            go_wp2
            go_ret2
            exact ⟨rfl, CW.out⟩
          · obtain ⟨r1, r2⟩ := HR.out.1 rfl
            clear HR
            subst r1 r2
            go_wp2
            go_ret2
            exact ⟨rfl, CW.out⟩
    · have f1 : (pE l == []) = false := by rw [beq_eq_false_iff_ne]; exact h1
      obtain ⟨r1, r2⟩ := iOk_no l (by rw [hk, decide_eq_false h1]; rfl)
      rw [r1, r2]
      clear hk hok h1
      generalize pA l = qa at *
      generalize pE l = qb at *
      generalize pB l = bel at *
      go_enter Tryd.func14, Tryd.ntmps14
      go_wp2_with fail
      refine (PA.out _).mono ?_
      rintro e w1 ⟨rfl, W1⟩
      clear PA
      go_wp2
      go_ret2
      exact ⟨rfl, W1.alloc W1.size _⟩
end Go.Proofs.YtekdpeiemfppiaaDoor
