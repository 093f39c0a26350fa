/-
  The contract of vec's VecMat.
-/
import Derived.Test.YtldnnjcfihjkdabDoorPWalkO
set_option linter.unusedVariables false
set_option linter.unusedSimpArgs false
namespace Go.Proofs.YtldnnjcfihjkdabDoor
open Go.RowKit

theorem dotV_congr (f g f' g' : Nat → Int) (n : Nat) (h : ∀ k, k < n → f k * g k = f' k * g' k) : dotV f g n = dotV f' g' n := by
  induction n with
  | zero => rfl
  | succ n ih => show dotV f g n + f n * g n = dotV f' g' n + f' n * g' n; rw [ih (fun k hk => h k (by omega)), h n (by omega)]
theorem tu_dot (f gx : Nat → Int) (r c k : Nat) : dotV (fun t => (fun q => f (q % r * c + q / r)) (k * r + t)) gx r = dotV gx (fun t => f (t * c + k)) r := by
  refine dotV_congr _ _ _ _ _ (fun t ht => ?_)
  show f ((k * r + t) % r * c + (k * r + t) / r) * gx t = gx t * f (t * c + k)
  rw [show (k * r + t) % r = t by rw [Nat.mul_comm, Nat.mul_add_mod, Nat.mod_eq_of_lt ht], show (k * r + t) / r = k by rw [Nat.mul_comm, Nat.mul_add_div (by omega), Nat.div_eq_of_lt ht, Nat.add_zero], Int.mul_comm]
theorem tu_mvX (f gx : Nat → Int) (r c : Nat) : mvX (fun q => f (q % r * c + q / r)) gx r = vmX f gx r c := by
  funext k
  unfold mvX vmX
  rw [tu_dot]
theorem tu_mvO (f gx : Nat → Int) (r c : Nat) : mvO (fun q => f (q % r * c + q / r)) gx r = vmO f gx r c := by
  funext k
  unfold mvO vmO
  rw [tu_dot]

set_option maxHeartbeats 4000000 in
theorem VecMat_un (b o ca r c : Nat) (f gx : Nat → Int) (vx : Value) (hr1 : 1 ≤ r) (hc1 : 1 ≤ c) (hrc : r * c ≤ 65536) (d : Nat) (kc : Int) (c0 : 0 ≤ kc) (c1 : kc ≤ 800000000) (w : World) (hT : TabAt w) (hA : Ar w (.slice (some ⟨b, o, none⟩) (r * c) ca) (r * c) f) (hX : Ar w vx r gx) (hx : Nb vx d) (hc : w.cell? ⟨d, 0, none⟩ = some (.int .i64 kc)) (hf : w.frozen? ⟨d, 0, none⟩ = false) :
    Calls Tryd.prog 19 #[.pointer (some ⟨d, 0, none⟩), vx, .agg #[.int .i64 (r : Int), .int .i64 (c : Int), .slice (some ⟨b, o, none⟩) (r * c) ca]] w fun e w' => ∃ g, e = .returned (.tuple #[.slice (some ⟨g, 0, none⟩) c c, .int .i64 0]) ∧ Ar w' (.slice (some ⟨g, 0, none⟩) c c) c (vmX f gx r c) ∧ w.heap.size ≤ g ∧ Un d (kc + cntV (vmO f gx r c) c) w w' := by
  have hr2 : r ≤ 65536 := Nat.le_trans (Nat.le_mul_of_pos_right r hc1) hrc
  have hc2 : c ≤ 65536 := Nat.le_trans (Nat.le_mul_of_pos_left c hr1) hrc
  obtain ⟨adx, cx, bx, ox, rfl, x1, x2, -, -⟩ := id hX
  obtain ⟨_, _, _, _, e0, y1, y2, -, -⟩ := id hA
  cases e0
  have hmt : mtB (r : Int) (c : Int) (r * c) = true := mt_of (by omega) (by omega) (by rw [← Int.natCast_mul]; omega) (by rw [Int.natCast_mul])
  have CR : Hid (∀ W : World, Calls Tryd.prog 17 #[.agg #[.int .i64 (r : Int), .int .i64 (c : Int), .slice (some ⟨b, o, none⟩) (r * c) ca]] W fun e w' => e = .returned (.bool true) ∧ Below W.heap.size W w') := fun W => by
    have h := Right_any (r : Int) (c : Int) (by omega) (by omega) (by omega) (by omega) (some ⟨b, o, none⟩) (r * c) ca (by omega) W
    rw [hmt] at h
    exact h
  have CT : Hid (∀ W : World, Ar W (.slice (some ⟨b, o, none⟩) (r * c) ca) (r * c) f → Calls Tryd.prog 36 #[.agg #[.int .i64 (r : Int), .int .i64 (c : Int), .slice (some ⟨b, o, none⟩) (r * c) ca]] W fun e w' => ∃ M, e = .returned (.agg #[.int .i64 (c : Int), .int .i64 (r : Int), .slice (some ⟨M, 0, none⟩) (r * c) (r * c)]) ∧ Ar w' (.slice (some ⟨M, 0, none⟩) (r * c) (r * c)) (r * c) (fun q => f (q % r * c + q / r)) ∧ W.heap.size ≤ M ∧ Below W.heap.size W w') := fun W h => turned_any b o ca r c f hr1 hc1 hrc W h
  have CRo : Hid (∀ (M : Nat) (W : World), Calls Tryd.prog 35 #[.agg #[.int .i64 (c : Int), .int .i64 (r : Int), .slice (some ⟨M, 0, none⟩) (r * c) (r * c)]] W fun e w' => ∃ g cap', e = .returned (.slice (some ⟨g, 0, none⟩) c cap') ∧ cap' ≤ maxLen ∧ c ≤ cap' ∧ Rw g c (fun k => .slice (some ⟨M, 0 + k * r, none⟩) r r) w' ∧ W.heap.size ≤ g ∧ Below W.heap.size W w') := fun M W => by
    have h := rows_any (c : Int) M 0 (r * c) c r hr1 hc1 (by rw [Nat.mul_comm]; exact hrc) (by rw [Nat.mul_comm]; exact Nat.le_refl _) (by omega) W
    rw [Nat.mul_comm c r] at h
    exact h
  have D1 := B3.new w (.int .i64 (r : Int)) (.int .i64 (c : Int)) (.slice (some ⟨b, o, none⟩) (r * c) ca) 34
  have HB1 : Hid (Below w.heap.size w (w.alloc (.cells #[.int .i64 (r : Int), .int .i64 (c : Int), .slice (some ⟨b, o, none⟩) (r * c) ca] 34))) := bel1 w _
  have HAX : Hid (Ar w (.slice (some ⟨b, o, none⟩) (r * c) ca) (r * c) f ∧ Ar w (.slice adx r cx) r gx ∧ TabAt w) := ⟨hA, hX, hT⟩
  have HU0 : Hid (Un d kc w w ∧ Nb (.slice adx r cx) d) := ⟨Un.same hc hf, hx⟩
  have hd := World.block_lt_of_cell? _ _ hc
  dsimp only at hd
  clear hmt hA hX hT hx hc hf
  unfold maxLen at x2 y2
  obtain ⟨P, hP⟩ : ∃ P, r * c = P := ⟨_, rfl⟩
  rw [hP] at CR CRo CT D1 HB1 y1 hrc HAX ⊢
  have HP : Hid (r * c = P) := hP
  clear hP
  go_enter Tryd.func19, Tryd.ntmps19
  go_wp2_with fail
  refine (CR.out _).mono ?_
  rintro e w2 ⟨rfl, hb2⟩
  have HB2 : Hid (Below w.heap.size w w2) := bchain HB1.out hb2
  have D2 := D1.later hb2
  have y0 := D2.c0
  have y1' := D2.c1
  have y2' := D2.c2
  have CK : Hid (Calls Tryd.prog 21 #[.bool true, .slice (some ⟨w2.heap.size, 0, none⟩) 1 1] (w2.alloc (.cells #[.slice adx r cx] 23)) fun e w' => e = .returned (.int .i64 0) ∧ w' = w2.alloc (.cells #[.slice adx r cx] 23)) := by
    have h := check1_any true w2 adx r cx (by unfold maxLen; omega)
    rw [if_neg (by omega), if_pos rfl] at h
    exact h
  clear hb2 CR D1 HB1
  go_wp2_with fail
  refine CK.out.mono ?_
  rintro e w3 ⟨rfl, hz⟩
  have D3 : B3 w.heap.size (.int .i64 (r : Int)) (.int .i64 (c : Int)) (.slice (some ⟨b, o, none⟩) P ca) w3 := by rw [hz]; exact D2.later (bel1 _ _)
  have HB3 : Hid (Below w.heap.size w w3) := by show Below _ _ _; rw [hz]; exact bchain HB2.out (bel1 _ _)
  clear hz CK HB2 D2 y0 y1' y2'
  have y0 := D3.c0
  have y1' := D3.c1
  have y2' := D3.c2
  go_wp2_with fail
  refine (CT.out _ (HAX.out.1.later HB3.out)).mono ?_
  rintro e w4 ⟨M, rfl, hM, hMw, hb4⟩
  have HM4 : Hid (Ar w4 (.slice (some ⟨M, 0, none⟩) P P) P (fun q => f (q % r * c + q / r))) := hM
  have HB4 : Hid (Below w.heap.size w w4) := bchain HB3.out hb4
  have hs3 : w.heap.size ≤ w3.heap.size := HB3.out.size
  clear hb4 hM HB3 D3 y0 y1' y2' CT
  go_wp2_with fail
  refine (CRo.out M _).mono ?_
  rintro e w5 ⟨g, cap', rfl, h2, h1, hRw, hg, hb5⟩
  have HM5 : Hid (Ar w5 (.slice (some ⟨M, 0, none⟩) P P) P (fun q => f (q % r * c + q / r))) := HM4.out.later hb5
  have HB5 : Hid (Below w.heap.size w w5) := bchain HB4.out hb5
  have hs4 : w.heap.size ≤ w4.heap.size := HB4.out.size
  have CD : Hid (Calls Tryd.prog 34 #[.pointer (some ⟨d, 0, none⟩), .slice (some ⟨g, 0, none⟩) c cap', .slice adx r cx] w5 fun e w' => e = .returned (.slice (some ⟨w5.heap.size + 2, 0, none⟩) c c) ∧ Ar w' (.slice (some ⟨w5.heap.size + 2, 0, none⟩) c c) c (vmX f gx r c) ∧ Un d (kc + cntV (vmO f gx r c) c) w5 w') := by
    have hM' : Ar w5 (.slice (some ⟨M, 0, none⟩) (c * r) P) (c * r) (fun q => f (q % r * c + q / r)) := by rw [Nat.mul_comm, HP.out]; exact HM5.out
    have h := dots_un g cap' M 0 P c r (fun q => f (q % r * c + q / r)) gx (.slice adx r cx) hc1 hr1 (by rw [Nat.mul_comm, HP.out]; exact hrc) h1 h2 d kc c0 (by omega) w5 (HAX.out.2.2.later HB5.out) hRw hM' (HAX.out.2.1.later HB5.out) (fun a n' c' e _ => by cases e; show M ≠ d; omega) HU0.out.2 (by omega) (HU0.out.1.ahead HB5.out).c (HU0.out.1.ahead HB5.out).f
    rw [tu_mvX, tu_mvO] at h
    exact h
  unfold maxLen at h2
  clear hb5 hRw hg HB4 HM4 HM5 CRo
  go_wp2_with fail
  refine CD.out.mono ?_
  rintro e w6 ⟨rfl, hX, hU⟩
  have HX : Hid (Ar w6 (.slice (some ⟨w5.heap.size + 2, 0, none⟩) c c) c (vmX f gx r c)) := hX
  have HU : Hid (Un d (kc + cntV (vmO f gx r c) c) w w6) := Un.after HB5.out hU
  have hs5 : w.heap.size ≤ w5.heap.size := HB5.out.size
  clear hX hU CD HB5 HAX
  go_wp2
  go_ret2
  exact ⟨_, rfl, HX.out, by omega, HU.out⟩

set_option maxHeartbeats 4000000 in
theorem VecMat_nil (b o ca r c : Nat) (f gx : Nat → Int) (vx : Value) (hr1 : 1 ≤ r) (hc1 : 1 ≤ c) (hrc : r * c ≤ 65536) (w : World) (hT : TabAt w) (hA : Ar w (.slice (some ⟨b, o, none⟩) (r * c) ca) (r * c) f) (hX : Ar w vx r gx) :
    Calls Tryd.prog 19 #[.pointer none, vx, .agg #[.int .i64 (r : Int), .int .i64 (c : Int), .slice (some ⟨b, o, none⟩) (r * c) ca]] w fun e w' => ∃ g, e = .returned (.tuple #[.slice (some ⟨g, 0, none⟩) c c, .int .i64 0]) ∧ Ar w' (.slice (some ⟨g, 0, none⟩) c c) c (vmX f gx r c) ∧ w.heap.size ≤ g ∧ Below w.heap.size w w' := by
  have hr2 : r ≤ 65536 := Nat.le_trans (Nat.le_mul_of_pos_right r hc1) hrc
  have hc2 : c ≤ 65536 := Nat.le_trans (Nat.le_mul_of_pos_left c hr1) hrc
  obtain ⟨adx, cx, bx, ox, rfl, x1, x2, -, -⟩ := id hX
  obtain ⟨_, _, _, _, e0, y1, y2, -, -⟩ := id hA
  cases e0
  have hmt : mtB (r : Int) (c : Int) (r * c) = true := mt_of (by omega) (by omega) (by rw [← Int.natCast_mul]; omega) (by rw [Int.natCast_mul])
  have CR : Hid (∀ W : World, Calls Tryd.prog 17 #[.agg #[.int .i64 (r : Int), .int .i64 (c : Int), .slice (some ⟨b, o, none⟩) (r * c) ca]] W fun e w' => e = .returned (.bool true) ∧ Below W.heap.size W w') := fun W => by
    have h := Right_any (r : Int) (c : Int) (by omega) (by omega) (by omega) (by omega) (some ⟨b, o, none⟩) (r * c) ca (by omega) W
    rw [hmt] at h
    exact h
  have CT : Hid (∀ W : World, Ar W (.slice (some ⟨b, o, none⟩) (r * c) ca) (r * c) f → Calls Tryd.prog 36 #[.agg #[.int .i64 (r : Int), .int .i64 (c : Int), .slice (some ⟨b, o, none⟩) (r * c) ca]] W fun e w' => ∃ M, e = .returned (.agg #[.int .i64 (c : Int), .int .i64 (r : Int), .slice (some ⟨M, 0, none⟩) (r * c) (r * c)]) ∧ Ar w' (.slice (some ⟨M, 0, none⟩) (r * c) (r * c)) (r * c) (fun q => f (q % r * c + q / r)) ∧ W.heap.size ≤ M ∧ Below W.heap.size W w') := fun W h => turned_any b o ca r c f hr1 hc1 hrc W h
  have CRo : Hid (∀ (M : Nat) (W : World), Calls Tryd.prog 35 #[.agg #[.int .i64 (c : Int), .int .i64 (r : Int), .slice (some ⟨M, 0, none⟩) (r * c) (r * c)]] W fun e w' => ∃ g cap', e = .returned (.slice (some ⟨g, 0, none⟩) c cap') ∧ cap' ≤ maxLen ∧ c ≤ cap' ∧ Rw g c (fun k => .slice (some ⟨M, 0 + k * r, none⟩) r r) w' ∧ W.heap.size ≤ g ∧ Below W.heap.size W w') := fun M W => by
    have h := rows_any (c : Int) M 0 (r * c) c r hr1 hc1 (by rw [Nat.mul_comm]; exact hrc) (by rw [Nat.mul_comm]; exact Nat.le_refl _) (by omega) W
    rw [Nat.mul_comm c r] at h
    exact h
  have D1 := B3.new w (.int .i64 (r : Int)) (.int .i64 (c : Int)) (.slice (some ⟨b, o, none⟩) (r * c) ca) 34
  have HB1 : Hid (Below w.heap.size w (w.alloc (.cells #[.int .i64 (r : Int), .int .i64 (c : Int), .slice (some ⟨b, o, none⟩) (r * c) ca] 34))) := bel1 w _
  have HAX : Hid (Ar w (.slice (some ⟨b, o, none⟩) (r * c) ca) (r * c) f ∧ Ar w (.slice adx r cx) r gx ∧ TabAt w) := ⟨hA, hX, hT⟩
  skip
  skip
  skip
  clear hmt hA hX hT
  unfold maxLen at x2 y2
  obtain ⟨P, hP⟩ : ∃ P, r * c = P := ⟨_, rfl⟩
  rw [hP] at CR CRo CT D1 HB1 y1 hrc HAX ⊢
  have HP : Hid (r * c = P) := hP
  clear hP
  go_enter Tryd.func19, Tryd.ntmps19
  go_wp2_with fail
  refine (CR.out _).mono ?_
  rintro e w2 ⟨rfl, hb2⟩
  have HB2 : Hid (Below w.heap.size w w2) := bchain HB1.out hb2
  have D2 := D1.later hb2
  have y0 := D2.c0
  have y1' := D2.c1
  have y2' := D2.c2
  have CK : Hid (Calls Tryd.prog 21 #[.bool true, .slice (some ⟨w2.heap.size, 0, none⟩) 1 1] (w2.alloc (.cells #[.slice adx r cx] 23)) fun e w' => e = .returned (.int .i64 0) ∧ w' = w2.alloc (.cells #[.slice adx r cx] 23)) := by
    have h := check1_any true w2 adx r cx (by unfold maxLen; omega)
    rw [if_neg (by omega), if_pos rfl] at h
    exact h
  clear hb2 CR D1 HB1
  go_wp2_with fail
  refine CK.out.mono ?_
  rintro e w3 ⟨rfl, hz⟩
  have D3 : B3 w.heap.size (.int .i64 (r : Int)) (.int .i64 (c : Int)) (.slice (some ⟨b, o, none⟩) P ca) w3 := by rw [hz]; exact D2.later (bel1 _ _)
  have HB3 : Hid (Below w.heap.size w w3) := by show Below _ _ _; rw [hz]; exact bchain HB2.out (bel1 _ _)
  clear hz CK HB2 D2 y0 y1' y2'
  have y0 := D3.c0
  have y1' := D3.c1
  have y2' := D3.c2
  go_wp2_with fail
  refine (CT.out _ (HAX.out.1.later HB3.out)).mono ?_
  rintro e w4 ⟨M, rfl, hM, hMw, hb4⟩
  have HM4 : Hid (Ar w4 (.slice (some ⟨M, 0, none⟩) P P) P (fun q => f (q % r * c + q / r))) := hM
  have HB4 : Hid (Below w.heap.size w w4) := bchain HB3.out hb4
  have hs3 : w.heap.size ≤ w3.heap.size := HB3.out.size
  clear hb4 hM HB3 D3 y0 y1' y2' CT
  go_wp2_with fail
  refine (CRo.out M _).mono ?_
  rintro e w5 ⟨g, cap', rfl, h2, h1, hRw, hg, hb5⟩
  have HM5 : Hid (Ar w5 (.slice (some ⟨M, 0, none⟩) P P) P (fun q => f (q % r * c + q / r))) := HM4.out.later hb5
  have HB5 : Hid (Below w.heap.size w w5) := bchain HB4.out hb5
  have hs4 : w.heap.size ≤ w4.heap.size := HB4.out.size
  have CD : Hid (Calls Tryd.prog 34 #[.pointer none, .slice (some ⟨g, 0, none⟩) c cap', .slice adx r cx] w5 fun e w' => e = .returned (.slice (some ⟨w5.heap.size + 2, 0, none⟩) c c) ∧ Ar w' (.slice (some ⟨w5.heap.size + 2, 0, none⟩) c c) c (vmX f gx r c) ∧ Below w5.heap.size w5 w') := by
    have hM' : Ar w5 (.slice (some ⟨M, 0, none⟩) (c * r) P) (c * r) (fun q => f (q % r * c + q / r)) := by rw [Nat.mul_comm, HP.out]; exact HM5.out
    have h := dots_nil g cap' M 0 P c r (fun q => f (q % r * c + q / r)) gx (.slice adx r cx) hc1 hr1 (by rw [Nat.mul_comm, HP.out]; exact hrc) h1 h2 w5 (HAX.out.2.2.later HB5.out) hRw hM' (HAX.out.2.1.later HB5.out)
    rw [tu_mvX] at h
    exact h
  unfold maxLen at h2
  clear hb5 hRw hg HB4 HM4 HM5 CRo
  go_wp2_with fail
  refine CD.out.mono ?_
  rintro e w6 ⟨rfl, hX, hU⟩
  have HX : Hid (Ar w6 (.slice (some ⟨w5.heap.size + 2, 0, none⟩) c c) c (vmX f gx r c)) := hX
  have HU : Hid (Below w.heap.size w w6) := bchain HB5.out hU
  have hs5 : w.heap.size ≤ w5.heap.size := HB5.out.size
  clear hX hU CD HB5 HAX
  go_wp2
  go_ret2
  exact ⟨_, rfl, HX.out, by omega, HU.out⟩

end Go.Proofs.YtldnnjcfihjkdabDoor
