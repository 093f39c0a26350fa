/-
  Texts of this proof, joined: PWalkB PWalkC PWalkE.
-/
import Derived.Test.YtdfjnbkkdgolnabGreatDoorSX02
import Derived.Test.YtdfjnbkkdgolnabGreatDoorSX03
import Derived.Test.YtdfjnbkkdgolnabGreatDoorSX04
import Derived.Deep.RegionHeld3
import Derived.Deep.QuietTactic
import Derived.BigQuiet
set_option linter.unusedVariables false
set_option linter.unusedSimpArgs false
namespace Go.Proofs.YtdfjnbkkdgolnabGreatDoor
open Go.RowKit

/-- A block of two cells. -/
structure B2 (b : Nat) (x y : Value) (w : World) : Prop where
  c0 : w.cell? ⟨b, 0, none⟩ = some x
  c1 : w.cell? ⟨b, 1, none⟩ = some y
  f0 : w.frozen? ⟨b, 0, none⟩ = false
  f1 : w.frozen? ⟨b, 1, none⟩ = false
theorem B2.new (w : World) (x y : Value) (t : TypeId) : B2 w.heap.size x y (w.alloc (.cells #[x, y] t)) where
  c0 := by simp [go_sem]
  c1 := by simp [go_sem]
  f0 := by simp [go_sem]
  f1 := by simp [go_sem]
theorem B2.later {b : Nat} {x y : Value} {w w' : World} (h : B2 b x y w) (hb : Below w.heap.size w w') : B2 b x y w' where
  c0 := cell_later hb h.c0
  c1 := cell_later hb h.c1
  f0 := frozen_later hb h.c0 h.f0
  f1 := frozen_later hb h.c1 h.f1
theorem B2.far {b : Nat} {x y : Value} {w : World} {p : Addr} (h : B2 b x y w) (u : Value) (hp : p.block ≠ b) : B2 b x y (w.setCell p u) where
  c0 := cell_set hp h.c0
  c1 := cell_set hp h.c1
  f0 := by rw [World.frozen?_setCell]; exact h.f0
  f1 := by rw [World.frozen?_setCell]; exact h.f1
theorem B2.set0 {b : Nat} {x y : Value} {w : World} (h : B2 b x y w) (u : Value) : B2 b u y (w.setCell ⟨b, 0, none⟩ u) := by
  have c0 := h.c0
  have c1 := h.c1
  have f0 := h.f0
  have f1 := h.f1
  exact ⟨by simp [go_sem, c0], by simp [go_sem, c1], by simp [go_sem, f0], by simp [go_sem, f1]⟩
theorem B2.set1 {b : Nat} {x y : Value} {w : World} (h : B2 b x y w) (u : Value) : B2 b x u (w.setCell ⟨b, 1, none⟩ u) := by
  have c0 := h.c0
  have c1 := h.c1
  have f0 := h.f0
  have f1 := h.f1
  exact ⟨by simp [go_sem, c0], by simp [go_sem, c1], by simp [go_sem, f0], by simp [go_sem, f1]⟩

set_option maxHeartbeats 2000000 in
/-- What products' closure answers, its callees' answers given. -/
theorem prod1_of (ts ms ls x y hp lp tp mp lq tr mr lr : Int) (w : World)
    (CM : Hid (∀ W : World, Calls Tryz.prog 66 #[.int .i64 x, .int .i64 y] W fun e w' => e = .returned (.agg #[.int .i64 hp, .int .u64 lp]) ∧ Below W.heap.size W w'))
    (CE : Hid (∀ W : World, Calls Tryz.prog 44 #[.agg #[.int .i64 hp, .int .u64 lp]] W fun e w' => e = .returned (.agg #[.int .i64 tp, .int .u64 mp, .int .u64 lq]) ∧ Below W.heap.size W w'))
    (CP : Hid (∀ W : World, Calls Tryz.prog 65 #[.agg #[.int .i64 ts, .int .u64 ms, .int .u64 ls], .agg #[.int .i64 tp, .int .u64 mp, .int .u64 lq]] W fun e w' => e = .returned (.agg #[.int .i64 tr, .int .u64 mr, .int .u64 lr]) ∧ Below W.heap.size W w')) :
    Calls Tryz.prog 101 #[.agg #[.int .i64 ts, .int .u64 ms, .int .u64 ls], .int .i64 x, .int .i64 y] w fun e w' => e = .returned (.agg #[.int .i64 tr, .int .u64 mr, .int .u64 lr]) ∧ Below w.heap.size w w' := by
  have A0 := (B3.new w (.int .i64 ts) (.int .u64 ms) (.int .u64 ls) 95).later (bel1 _ (.cells #[.int .i64 0, .int .u64 0, .int .u64 0] 95))
  have R0 := B3.new (w.alloc (.cells #[.int .i64 ts, .int .u64 ms, .int .u64 ls] 95)) (.int .i64 0) (.int .u64 0) (.int .u64 0) 95
  have W0 := bel2 w (.cells #[.int .i64 ts, .int .u64 ms, .int .u64 ls] 95) (.cells #[.int .i64 0, .int .u64 0, .int .u64 0] 95)
  simp only [World.size_alloc] at R0
  go_enter Tryz.func101, Tryz.ntmps101
  go_upto_region 1 with fail
  generalize (w.alloc (.cells #[.int .i64 ts, .int .u64 ms, .int .u64 ls] 95)).alloc (.cells #[.int .i64 0, .int .u64 0, .int .u64 0] 95) = w1 at *
  have hd1 : Below w1.heap.size w1 w1.drew := (Below.refl _ _).drew
  have CO := R0.later hd1
  have A := A0.later hd1
  have CW : Hid (Below w.heap.size w w1.drew) := W0.drew
  have CC0 := CO.c0
  have CC1 := CO.c1
  have CC2 := CO.c2
  have CF0 := CO.f0
  have CF1 := CO.f1
  have CF2 := CO.f2
  clear hd1 A0 R0 W0
  go_region_held3 (fun w' => w'.cell? ⟨w.heap.size, 0, none⟩ = some (.int .i64 ts) ∧ w'.cell? ⟨w.heap.size, 1, none⟩ = some (.int .u64 ms) ∧ w'.cell? ⟨w.heap.size, 2, none⟩ = some (.int .u64 ls))
    (first | exact ⟨A.c0, A.c1, A.c2⟩ | (have A' := ((A.far (p := ⟨w.heap.size + 1, 0, none⟩) (.int .i64 tr) (by dsimp only; omega)).far (p := ⟨w.heap.size + 1, 1, none⟩) (.int .u64 mr) (by dsimp only; omega)).far (p := ⟨w.heap.size + 1, 2, none⟩) (.int .u64 lr) (by dsimp only; omega); exact ⟨A'.c0, A'.c1, A'.c2⟩))
    (first
      | (go_at_call 66; refine (CM.out _).mono ?_; rintro e wz ⟨rfl, hb⟩; replace A := A.later hb; replace CC0 := cell_later hb CC0; replace CC1 := cell_later hb CC1; replace CC2 := cell_later hb CC2; replace CF0 := frozen_later hb CO.c0 CF0; replace CF1 := frozen_later hb CO.c1 CF1; replace CF2 := frozen_later hb CO.c2 CF2; replace CO := CO.later hb; replace CW := hidD CW hb; clear hb)
      | (go_at_call 44; refine (CE.out _).mono ?_; rintro e wz ⟨rfl, hb⟩; replace A := A.later hb; replace CC0 := cell_later hb CC0; replace CC1 := cell_later hb CC1; replace CC2 := cell_later hb CC2; replace CF0 := frozen_later hb CO.c0 CF0; replace CF1 := frozen_later hb CO.c1 CF1; replace CF2 := frozen_later hb CO.c2 CF2; replace CO := CO.later hb; replace CW := hidD CW hb; clear hb)
      | (go_at_call 65; refine (CP.out _).mono ?_; rintro e wz ⟨rfl, hb⟩; replace A := A.later hb; replace CC0 := cell_later hb CC0; replace CC1 := cell_later hb CC1; replace CC2 := cell_later hb CC2; replace CF0 := frozen_later hb CO.c0 CF0; replace CF1 := frozen_later hb CO.c1 CF1; replace CF2 := frozen_later hb CO.c2 CF2; replace CO := CO.later hb; replace CW := hidD CW hb; clear hb))
  have W5 := CW.out
  have S0 := ((CO.set0 (.int .i64 tr)).set1 (.int .u64 mr)).set2 (.int .u64 lr)
  have s0 := S0.c0
  have s1 := S0.c1
  have s2 := S0.c2
  clear A CC0 CC1 CC2 CF0 CF1 CF2 CO CW CM CE CP S0
  go_wp2
  exact bodyPost_ret (v := .agg #[.int .i64 tr, .int .u64 mr, .int .u64 lr]) (by simp [results, Tryz.results101, go_sem, s0, s1, s2]) rfl ⟨rfl, ((W5.setCell (by dsimp only; omega) _).setCell (by dsimp only; omega) _).setCell (by dsimp only; omega) _⟩
theorem prod1_any (s x y : Int) (x0 : -9223372036854775808 ≤ x) (x1 : x ≤ 9223372036854775807) (y0 : -9223372036854775808 ≤ y) (y1 : y ≤ 9223372036854775807) (w : World) :
    Calls Tryz.prog 101 #[.agg #[.int .i64 (t3 (s)), .int .u64 (m3 (s)), .int .u64 (lo (s))], .int .i64 x, .int .i64 y] w fun e w' => e = .returned (.agg #[.int .i64 (t3 (s + x * y)), .int .u64 (m3 (s + x * y)), .int .u64 (lo (s + x * y))]) ∧ Below w.heap.size w w' := by
  obtain ⟨p0, p1⟩ := mul_in x y x0 x1 y0 y1
  exact prod1_of _ _ _ x y _ _ _ _ _ _ _ _ w (fun W => mul_any x y x0 x1 y0 y1 W) (fun W => extend_any (x * y) (by omega) (by omega) W) (fun W => plus_any s (x * y) W)

set_option maxRecDepth 100000 in
set_option maxHeartbeats 4000000 in
theorem gatherPairs_any (va vb : Value) (n : Nat) (f g : Nat → Int) (hn : n ≤ 70000) (w : World) (hA : Ar w va n f) (hB : Ar w vb n g) :
    Calls Tryz.prog 100 #[va, vb, .agg #[.int .i64 0, .int .u64 0, .int .u64 0], .func (.func 101) #[] #[]] w fun e w' => e = .returned (.agg #[.int .i64 (t3 (dotV f g n)), .int .u64 (m3 (dotV f g n)), .int .u64 (lo (dotV f g n))]) ∧ Below w.heap.size w w' := by
  obtain ⟨adr, cap, b, o, rfl, k1, k2, k3, k4⟩ := hA
  obtain ⟨adq, caq, bq, oq, rfl, q1, q2, q3, q4⟩ := hB
  unfold maxLen at *
  have HA : Hid (∀ k, k < n → w.cell? ⟨b, o + k, none⟩ = some (.int .i64 (f k)) ∧ -9223372036854775808 ≤ f k ∧ f k ≤ 9223372036854775807) := k4
  have HK : Hid (0 < n → adr = some ⟨b, o, none⟩) := k3
  have HB : Hid (∀ k, k < n → w.cell? ⟨bq, oq + k, none⟩ = some (.int .i64 (g k)) ∧ -9223372036854775808 ≤ g k ∧ g k ≤ 9223372036854775807) := q4
  have HL : Hid (0 < n → adq = some ⟨bq, oq, none⟩) := q3
  clear k3 k4 q3 q4
  go_enter Tryz.func100, Tryz.ntmps100
  go_wp2
  go_loopw [13] (fun si wr => ∃ j : Nat, j ≤ n ∧ si = .int .i64 (j : Int) ∧ B3 w.heap.size (.int .i64 (t3 (dotV f g j))) (.int .u64 (m3 (dotV f g j))) (.int .u64 (lo (dotV f g j))) wr ∧ B3 (w.heap.size + 1) (.int .i64 0) (.int .u64 0) (.int .u64 0) wr ∧ Below w.heap.size w wr) (fun si _ => n - (intOf si).toNat)
  case atStart =>
    have R0 := B3.new (w.alloc (.cells #[.int .i64 0, .int .u64 0, .int .u64 0] 95)) (.int .i64 0) (.int .u64 0) (.int .u64 0) 95
    simp only [World.size_alloc] at R0
    exact ⟨0, by omega, rfl, (B3.new w (.int .i64 0) (.int .u64 0) (.int .u64 0) 95).later (bel1 _ _), R0, bel2 w _ _⟩
  case round =>
    obtain ⟨j, hj, rfl, hS, hR, hW⟩ := hrel
    by_cases hlt : j < n
    · have hjI : (j : Int) < (n : Int) := by omega
      have ea := HK.out (by omega)
      subst ea
      obtain ⟨ca, a0, a1⟩ := HA.out j hlt
      have cA : wr.cell? ⟨b, o + j, none⟩ = some (.int .i64 (f j)) := (hW.cell (World.block_lt_of_cell? _ _ ca)).trans ca
      clear ca
      have eb := HL.out (by omega)
      subst eb
      obtain ⟨cb, b0, b1⟩ := HB.out j hlt
      have cB : wr.cell? ⟨bq, oq + j, none⟩ = some (.int .i64 (g j)) := (hW.cell (World.block_lt_of_cell? _ _ cb)).trans cb
      clear cb
      have CM : Hid (∀ W : World, Calls Tryz.prog 101 #[.agg #[.int .i64 (t3 (dotV f g j)), .int .u64 (m3 (dotV f g j)), .int .u64 (lo (dotV f g j))], .int .i64 (f j), .int .i64 (g j)] W fun e w' => e = .returned (.agg #[.int .i64 (t3 (dotV f g (j + 1))), .int .u64 (m3 (dotV f g (j + 1))), .int .u64 (lo (dotV f g (j + 1)))]) ∧ Below W.heap.size W w') := fun W => prod1_any (dotV f g j) (f j) (g j) a0 a1 b0 b1 W
      clear a0 a1 b0 b1
      generalize t3 (dotV f g j) = tj at *
      generalize m3 (dotV f g j) = mj at *
      generalize lo (dotV f g j) = lj at *
      obtain ⟨tk, htk⟩ : ∃ x, t3 (dotV f g (j + 1)) = x := ⟨_, rfl⟩
      obtain ⟨mk, hmk⟩ : ∃ x, m3 (dotV f g (j + 1)) = x := ⟨_, rfl⟩
      obtain ⟨lk, hlk⟩ : ∃ x, lo (dotV f g (j + 1)) = x := ⟨_, rfl⟩
      rw [htk, hmk, hlk] at CM
      have HE : Hid (t3 (dotV f g (j + 1)) = tk ∧ m3 (dotV f g (j + 1)) = mk ∧ lo (dotV f g (j + 1)) = lk) := ⟨htk, hmk, hlk⟩
      clear htk hmk hlk
      go_upto_region 4 with fail
      have CD := hS.drew
      have CR := hR.drew
      have CV : Hid (Below w.heap.size w wr.drew) := hW.drew
      have xB : wr.drew.cell? ⟨bq, oq + j, none⟩ = some (.int .i64 (g j)) := cB
      have y0 := CD.c0
      have y1 := CD.c1
      have y2 := CD.c2
      clear cA cB hS hR hW
      go_region_with (first
        | (go_at_call 101; refine (CM.out _).mono ?_; rintro e wz ⟨rfl, hb⟩; clear xB y0 y1 y2; replace CD := CD.later hb; replace CR := CR.later hb; replace CV := hidD' CV hb; clear hb; have y0 := CD.c0; have y1 := CD.c1; have y2 := CD.c2; have z0 := CD.f0; have z1 := CD.f1; have z2 := CD.f2))
      all_goals
        have D5 := ((CD.set0 (.int .i64 tk)).set1 (.int .u64 mk)).set2 (.int .u64 lk)
        have R5 := ((CR.far (p := ⟨w.heap.size, 0, none⟩) (.int .i64 tk) (by dsimp only; omega)).far (p := ⟨w.heap.size, 1, none⟩) (.int .u64 mk) (by dsimp only; omega)).far (p := ⟨w.heap.size, 2, none⟩) (.int .u64 lk) (by dsimp only; omega)
        have W5 := ((CV.out.setCell (p := ⟨w.heap.size, 0, none⟩) (Nat.le_refl _) (.int .i64 tk)).setCell (p := ⟨w.heap.size, 1, none⟩) (Nat.le_refl _) (.int .u64 mk)).setCell (p := ⟨w.heap.size, 2, none⟩) (Nat.le_refl _) (.int .u64 lk)
        obtain ⟨rfl, rfl, rfl⟩ := HE.out
        clear CD CR CV CM y0 y1 y2 z0 z1 z2 HE
        go_wp2
        go_roundw
        case rel => exact ⟨j + 1, by omega, by go_num, D5, R5, W5⟩
        case measure => simp [intOf]; omega
    · obtain rfl : j = n := by omega
      have hjI : ¬ (j : Int) < (j : Int) := by omega
      have y0 := hS.c0
      have y1 := hS.c1
      have y2 := hS.c2
      have z0 := hR.c0
      have z1 := hR.c1
      have z2 := hR.c2
      have u0 := hR.f0
      have u1 := hR.f1
      have u2 := hR.f2
      have S0 := ((hR.set0 (.int .i64 (t3 (dotV f g j)))).set1 (.int .u64 (m3 (dotV f g j)))).set2 (.int .u64 (lo (dotV f g j)))
      have s0 := S0.c0
      have s1 := S0.c1
      have s2 := S0.c2
      have W5 := ((hW.setCell (p := ⟨w.heap.size + 1, 0, none⟩) (by dsimp only; omega) (.int .i64 (t3 (dotV f g j)))).setCell (p := ⟨w.heap.size + 1, 1, none⟩) (by dsimp only; omega) (.int .u64 (m3 (dotV f g j)))).setCell (p := ⟨w.heap.size + 1, 2, none⟩) (by dsimp only; omega) (.int .u64 (lo (dotV f g j)))
      clear hS hR hW S0 HA HB HK HL
      go_wp2
      exact bodyPost_ret (v := .agg #[.int .i64 (t3 (dotV f g j)), .int .u64 (m3 (dotV f g j)), .int .u64 (lo (dotV f g j))]) (by simp [results, Tryz.results100, go_sem, s0, s1, s2]) rfl ⟨rfl, W5⟩

set_option maxHeartbeats 1000000 in
theorem products_any (va vb : Value) (n : Nat) (f g : Nat → Int) (hn : n ≤ 70000) (w : World) (hA : Ar w va n f) (hB : Ar w vb n g) :
    Calls Tryz.prog 92 #[va, vb] w fun e w' => e = .returned (.agg #[.int .i64 (t3 (dotV f g n)), .int .u64 (m3 (dotV f g n)), .int .u64 (lo (dotV f g n))]) ∧ Below w.heap.size w w' := by
  have hb0 := bel1 w (.cells #[.int .i64 0, .int .u64 0, .int .u64 0] 95)
  have CG : Hid (Calls Tryz.prog 100 #[va, vb, .agg #[.int .i64 0, .int .u64 0, .int .u64 0], .func (.func 101) #[] #[]] (w.alloc (.cells #[.int .i64 0, .int .u64 0, .int .u64 0] 95)) fun e w' => e = .returned (.agg #[.int .i64 (t3 (dotV f g n)), .int .u64 (m3 (dotV f g n)), .int .u64 (lo (dotV f g n))]) ∧ Below (w.alloc (.cells #[.int .i64 0, .int .u64 0, .int .u64 0] 95)).heap.size (w.alloc (.cells #[.int .i64 0, .int .u64 0, .int .u64 0] 95)) w') := gatherPairs_any va vb n f g hn _ (hA.later hb0) (hB.later hb0)
  have R0 := B3.new w (.int .i64 0) (.int .u64 0) (.int .u64 0) 95
  obtain ⟨adr, cap, b, o, rfl, -, -, -, -⟩ := hA
  obtain ⟨adq, caq, bq, oq, rfl, -, -, -, -⟩ := hB
  generalize t3 (dotV f g n) = tj at *
  generalize m3 (dotV f g n) = mj at *
  generalize lo (dotV f g n) = lj at *
  go_enter Tryz.func92, Tryz.ntmps92
  go_wp2_with fail
  refine CG.out.mono ?_
  rintro e w1 ⟨rfl, hb⟩
  have W1 := bchain hb0 hb
  have R1 := R0.later hb
  have z0 := R1.c0
  have z1 := R1.c1
  have z2 := R1.c2
  have u0 := R1.f0
  have u1 := R1.f1
  have u2 := R1.f2
  have S0 := ((R1.set0 (.int .i64 tj)).set1 (.int .u64 mj)).set2 (.int .u64 lj)
  have s0 := S0.c0
  have s1 := S0.c1
  have s2 := S0.c2
  have W5 := ((W1.setCell (p := ⟨w.heap.size, 0, none⟩) (Nat.le_refl _) (.int .i64 tj)).setCell (p := ⟨w.heap.size, 1, none⟩) (Nat.le_refl _) (.int .u64 mj)).setCell (p := ⟨w.heap.size, 2, none⟩) (Nat.le_refl _) (.int .u64 lj)
  clear R0 R1 S0 hb hb0 W1 CG
  go_wp2
  exact bodyPost_ret (v := .agg #[.int .i64 tj, .int .u64 mj, .int .u64 lj]) (by simp [results, Tryz.results92, go_sem, s0, s1, s2]) rfl ⟨rfl, W5⟩

set_option maxHeartbeats 2000000 in
theorem plus1_of (hs ls x hp lp hr lr : Int) (w : World)
    (CM : Hid (∀ W : World, Calls Tryz.prog 46 #[.int .i64 x] W fun e w' => e = .returned (.agg #[.int .i64 hp, .int .u64 lp]) ∧ Below W.heap.size W w'))
    (CP : Hid (∀ W : World, Calls Tryz.prog 58 #[.agg #[.int .i64 hs, .int .u64 ls], .agg #[.int .i64 hp, .int .u64 lp]] W fun e w' => e = .returned (.agg #[.int .i64 hr, .int .u64 lr]) ∧ Below W.heap.size W w')) :
    Calls Tryz.prog 37 #[.agg #[.int .i64 hs, .int .u64 ls], .int .i64 x] w fun e w' => e = .returned (.agg #[.int .i64 hr, .int .u64 lr]) ∧ Below w.heap.size w w' := by
  have A0 := (B2.new w (.int .i64 hs) (.int .u64 ls) 85).later (bel1 _ (.cells #[.int .i64 0, .int .u64 0] 85))
  have R0 := B2.new (w.alloc (.cells #[.int .i64 hs, .int .u64 ls] 85)) (.int .i64 0) (.int .u64 0) 85
  have W0 := bel2 w (.cells #[.int .i64 hs, .int .u64 ls] 85) (.cells #[.int .i64 0, .int .u64 0] 85)
  simp only [World.size_alloc] at R0
  go_enter Tryz.func37, Tryz.ntmps37
  go_upto_region 1 with fail
  generalize (w.alloc (.cells #[.int .i64 hs, .int .u64 ls] 85)).alloc (.cells #[.int .i64 0, .int .u64 0] 85) = w1 at *
  have hd1 : Below w1.heap.size w1 w1.drew := (Below.refl _ _).drew
  have CO := R0.later hd1
  have A := A0.later hd1
  have CW : Hid (Below w.heap.size w w1.drew) := W0.drew
  have CC0 := CO.c0
  have CC1 := CO.c1
  have CF0 := CO.f0
  have CF1 := CO.f1
  clear hd1 A0 R0 W0
  go_region_held3 (fun w' => w'.cell? ⟨w.heap.size, 0, none⟩ = some (.int .i64 hs) ∧ w'.cell? ⟨w.heap.size, 1, none⟩ = some (.int .u64 ls))
    (first | exact ⟨A.c0, A.c1⟩ | (have A' := (A.far (p := ⟨w.heap.size + 1, 0, none⟩) (.int .i64 hr) (by dsimp only; omega)).far (p := ⟨w.heap.size + 1, 1, none⟩) (.int .u64 lr) (by dsimp only; omega); exact ⟨A'.c0, A'.c1⟩))
    (first
      | (go_at_call 46; refine (CM.out _).mono ?_; rintro e wz ⟨rfl, hb⟩; replace A := A.later hb; replace CC0 := cell_later hb CC0; replace CC1 := cell_later hb CC1; replace CF0 := frozen_later hb CO.c0 CF0; replace CF1 := frozen_later hb CO.c1 CF1; replace CO := CO.later hb; replace CW := hidD CW hb; clear hb)
      | (go_at_call 58; refine (CP.out _).mono ?_; rintro e wz ⟨rfl, hb⟩; replace A := A.later hb; replace CC0 := cell_later hb CC0; replace CC1 := cell_later hb CC1; replace CF0 := frozen_later hb CO.c0 CF0; replace CF1 := frozen_later hb CO.c1 CF1; replace CO := CO.later hb; replace CW := hidD CW hb; clear hb))
  have W5 := CW.out
  have S0 := (CO.set0 (.int .i64 hr)).set1 (.int .u64 lr)
  have s0 := S0.c0
  have s1 := S0.c1
  clear A CC0 CC1 CF0 CF1 CO CW CM CP S0
  go_wp2
  exact bodyPost_ret (v := .agg #[.int .i64 hr, .int .u64 lr]) (by simp [results, Tryz.results37, go_sem, s0, s1]) rfl ⟨rfl, (W5.setCell (by dsimp only; omega) _).setCell (by dsimp only; omega) _⟩
theorem plus1_any (s x : Int) (x0 : -9223372036854775808 ≤ x) (x1 : x ≤ 9223372036854775807) (w : World) :
    Calls Tryz.prog 37 #[.agg #[.int .i64 (hi (s)), .int .u64 (lo (s))], .int .i64 x] w fun e w' => e = .returned (.agg #[.int .i64 (hi (s + x)), .int .u64 (lo (s + x))]) ∧ Below w.heap.size w w' :=
  plus1_of _ _ x _ _ _ _ w (fun W => of_any x x0 x1 W) (fun W => add_any s x W)

set_option maxRecDepth 100000 in
set_option maxHeartbeats 4000000 in
theorem gather_any (va : Value) (n : Nat) (f : Nat → Int) (w : World) (hA : Ar w va n f) :
    Calls Tryz.prog 61 #[va, .agg #[.int .i64 0, .int .u64 0], .func (.func 37) #[] #[]] w fun e w' => e = .returned (.agg #[.int .i64 (hi (sumV f n)), .int .u64 (lo (sumV f n))]) ∧ Below w.heap.size w w' := by
  obtain ⟨adr, cap, b, o, rfl, k1, k2, k3, k4⟩ := hA
  unfold maxLen at *
  have HA : Hid (∀ k, k < n → w.cell? ⟨b, o + k, none⟩ = some (.int .i64 (f k)) ∧ -9223372036854775808 ≤ f k ∧ f k ≤ 9223372036854775807) := k4
  have HK : Hid (0 < n → adr = some ⟨b, o, none⟩) := k3
  clear k3 k4
  go_enter Tryz.func61, Tryz.ntmps61
  go_wp2
  go_loopw [11] (fun si wr => ∃ j : Nat, j ≤ n ∧ si = .int .i64 (j : Int) ∧ B2 w.heap.size (.int .i64 (hi (sumV f j))) (.int .u64 (lo (sumV f j))) wr ∧ B2 (w.heap.size + 1) (.int .i64 0) (.int .u64 0) wr ∧ Below w.heap.size w wr) (fun si _ => n - (intOf si).toNat)
  case atStart =>
    have R0 := B2.new (w.alloc (.cells #[.int .i64 0, .int .u64 0] 85)) (.int .i64 0) (.int .u64 0) 85
    simp only [World.size_alloc] at R0
    exact ⟨0, by omega, rfl, (B2.new w (.int .i64 0) (.int .u64 0) 85).later (bel1 _ _), R0, bel2 w _ _⟩
  case round =>
    obtain ⟨j, hj, rfl, hS, hR, hW⟩ := hrel
    by_cases hlt : j < n
    · have hjI : (j : Int) < (n : Int) := by omega
      have ea := HK.out (by omega)
      subst ea
      obtain ⟨ca, a0, a1⟩ := HA.out j hlt
      have cA : wr.cell? ⟨b, o + j, none⟩ = some (.int .i64 (f j)) := (hW.cell (World.block_lt_of_cell? _ _ ca)).trans ca
      clear ca
      have CM : Hid (∀ W : World, Calls Tryz.prog 37 #[.agg #[.int .i64 (hi (sumV f j)), .int .u64 (lo (sumV f j))], .int .i64 (f j)] W fun e w' => e = .returned (.agg #[.int .i64 (hi (sumV f (j + 1))), .int .u64 (lo (sumV f (j + 1)))]) ∧ Below W.heap.size W w') := fun W => plus1_any (sumV f j) (f j) a0 a1 W
      clear a0 a1
      generalize hi (sumV f j) = tj at *
      generalize lo (sumV f j) = lj at *
      obtain ⟨tk, htk⟩ : ∃ x, hi (sumV f (j + 1)) = x := ⟨_, rfl⟩
      obtain ⟨lk, hlk⟩ : ∃ x, lo (sumV f (j + 1)) = x := ⟨_, rfl⟩
      rw [htk, hlk] at CM
      have HE : Hid (hi (sumV f (j + 1)) = tk ∧ lo (sumV f (j + 1)) = lk) := ⟨htk, hlk⟩
      clear htk hlk
      have y0 := hS.c0
      have y1 := hS.c1
      have HW : Hid (Below w.heap.size w wr) := hW
      clear hW
      go_wp2_with (go_at_call 37; refine (CM.out _).mono ?_; rintro e wz ⟨rfl, hb⟩; clear cA y0 y1; replace hS := hS.later hb; replace hR := hR.later hb; replace HW := hidD' HW hb; clear hb; have y0 := hS.c0; have y1 := hS.c1; have z0 := hS.f0; have z1 := hS.f1)
      have D5 := (hS.set0 (.int .i64 tk)).set1 (.int .u64 lk)
      have R5 := (hR.far (p := ⟨w.heap.size, 0, none⟩) (.int .i64 tk) (by dsimp only; omega)).far (p := ⟨w.heap.size, 1, none⟩) (.int .u64 lk) (by dsimp only; omega)
      have W5 := (HW.out.setCell (p := ⟨w.heap.size, 0, none⟩) (Nat.le_refl _) (.int .i64 tk)).setCell (p := ⟨w.heap.size, 1, none⟩) (Nat.le_refl _) (.int .u64 lk)
      obtain ⟨rfl, rfl⟩ := HE.out
      go_roundw
      case rel => exact ⟨j + 1, by omega, by go_num, D5, R5, W5⟩
      case measure => simp [intOf]; omega
    · obtain rfl : j = n := by omega
      have hjI : ¬ (j : Int) < (j : Int) := by omega
      have y0 := hS.c0
      have y1 := hS.c1
      have z0 := hR.c0
      have z1 := hR.c1
      have u0 := hR.f0
      have u1 := hR.f1
      have S0 := (hR.set0 (.int .i64 (hi (sumV f j)))).set1 (.int .u64 (lo (sumV f j)))
      have s0 := S0.c0
      have s1 := S0.c1
      have W5 := (hW.setCell (p := ⟨w.heap.size + 1, 0, none⟩) (by dsimp only; omega) (.int .i64 (hi (sumV f j)))).setCell (p := ⟨w.heap.size + 1, 1, none⟩) (by dsimp only; omega) (.int .u64 (lo (sumV f j)))
      clear hS hR hW S0 HA HK
      go_wp2
      exact bodyPost_ret (v := .agg #[.int .i64 (hi (sumV f j)), .int .u64 (lo (sumV f j))]) (by simp [results, Tryz.results61, go_sem, s0, s1]) rfl ⟨rfl, W5⟩

set_option maxHeartbeats 1000000 in
theorem total_any (va : Value) (n : Nat) (f : Nat → Int) (w : World) (hA : Ar w va n f) :
    Calls Tryz.prog 41 #[va] w fun e w' => e = .returned (.agg #[.int .i64 (hi (sumV f n)), .int .u64 (lo (sumV f n))]) ∧ Below w.heap.size w w' := by
  have hb0 := bel1 w (.cells #[.int .i64 0, .int .u64 0] 85)
  have CG : Hid (Calls Tryz.prog 61 #[va, .agg #[.int .i64 0, .int .u64 0], .func (.func 37) #[] #[]] (w.alloc (.cells #[.int .i64 0, .int .u64 0] 85)) fun e w' => e = .returned (.agg #[.int .i64 (hi (sumV f n)), .int .u64 (lo (sumV f n))]) ∧ Below (w.alloc (.cells #[.int .i64 0, .int .u64 0] 85)).heap.size (w.alloc (.cells #[.int .i64 0, .int .u64 0] 85)) w') := gather_any va n f _ (hA.later hb0)
  have R0 := B2.new w (.int .i64 0) (.int .u64 0) 85
  obtain ⟨adr, cap, b, o, rfl, -, -, -, -⟩ := hA
  generalize hi (sumV f n) = tj at *
  generalize lo (sumV f n) = lj at *
  go_enter Tryz.func41, Tryz.ntmps41
  go_wp2_with fail
  refine CG.out.mono ?_
  rintro e w1 ⟨rfl, hb⟩
  have W1 := bchain hb0 hb
  have R1 := R0.later hb
  have z0 := R1.c0
  have z1 := R1.c1
  have u0 := R1.f0
  have u1 := R1.f1
  have S0 := (R1.set0 (.int .i64 tj)).set1 (.int .u64 lj)
  have s0 := S0.c0
  have s1 := S0.c1
  have W5 := (W1.setCell (p := ⟨w.heap.size, 0, none⟩) (Nat.le_refl _) (.int .i64 tj)).setCell (p := ⟨w.heap.size, 1, none⟩) (Nat.le_refl _) (.int .u64 lj)
  clear R0 R1 S0 hb hb0 W1 CG
  go_wp2
  exact bodyPost_ret (v := .agg #[.int .i64 tj, .int .u64 lj]) (by simp [results, Tryz.results41, go_sem, s0, s1]) rfl ⟨rfl, W5⟩

set_option maxHeartbeats 1000000 in
theorem vhold_nil (v : Int) (h0 : -170141183460469231731687303715884105728 ≤ v) (h1 : v ≤ 170141183460469231731687303715884105727) (w : World) :
    Calls Tryz.prog 60 #[.pointer none, .agg #[.int .i64 (hi (v)), .int .u64 (lo (v))]] w fun e w' => e = .returned (.int .i64 (clv v)) ∧ Below w.heap.size w w' := by
  obtain ⟨k0, k1⟩ := clv_fit v
  have CC : Hid (∀ W : World, Calls Tryz.prog 80 #[.agg #[.int .i64 (hi (v)), .int .u64 (lo (v))]] W fun e w' => e = .returned (.tuple #[.int .i64 (clv v), .bool (ovv v)]) ∧ Below W.heap.size W w') := fun W => clamp_any v h0 h1 W
  generalize clv v = x at *
  generalize ovv v = y at *
  go_enter Tryz.func60, Tryz.ntmps60
  go_wp2_with fail
  refine (CC.out _).mono ?_
  rintro e w1 ⟨rfl, hb⟩
  have W1 := bchain (bel1 w _) hb
  clear hb
  go_wp2_with fail
  refine (take_nil _ _ _).mono ?_
  rintro e w2 ⟨rfl, hz⟩
  subst hz
  clear CC
  go_wp2
  go_ret
  exact ⟨rfl, W1⟩

set_option maxHeartbeats 1000000 in
theorem vhold_un (v : Int) (h0 : -170141183460469231731687303715884105728 ≤ v) (h1 : v ≤ 170141183460469231731687303715884105727) (d : Nat) (n : Int) (n0 : 0 ≤ n) (n1 : n ≤ 1000000000) (w : World) (c : w.cell? ⟨d, 0, none⟩ = some (.int .i64 n)) (f : w.frozen? ⟨d, 0, none⟩ = false) :
    Calls Tryz.prog 60 #[.pointer (some ⟨d, 0, none⟩), .agg #[.int .i64 (hi (v)), .int .u64 (lo (v))]] w fun e w' => e = .returned (.int .i64 (clv v)) ∧ Un d (n + bi (ovv v)) w w' := by
  obtain ⟨k0, k1⟩ := clv_fit v
  have CC : Hid (∀ W : World, Calls Tryz.prog 80 #[.agg #[.int .i64 (hi (v)), .int .u64 (lo (v))]] W fun e w' => e = .returned (.tuple #[.int .i64 (clv v), .bool (ovv v)]) ∧ Below W.heap.size W w') := fun W => clamp_any v h0 h1 W
  generalize clv v = x at *
  generalize ovv v = y at *
  go_enter Tryz.func60, Tryz.ntmps60
  go_wp2_with fail
  refine (CC.out _).mono ?_
  rintro e w1 ⟨rfl, hb⟩
  have W1 := bchain (bel1 w _) hb
  clear hb
  have c1 := cell_later W1 c
  have f1 := frozen_later W1 c f
  go_wp2_with fail
  refine (take_un d n _ _ n0 n1 _ c1 f1).mono ?_
  rintro e w2 ⟨rfl, hU⟩
  have hV := Un.after W1 hU
  clear hU c1 f1 c f CC
  go_wp2
  go_ret
  exact ⟨rfl, hV⟩

theorem dotV_rng (va vb : Value) (n : Nat) (f g : Nat → Int) (hn : n ≤ 70000) (w : World) (hA : Ar w va n f) (hB : Ar w vb n g) : -3138550867693340381917894711603833208051177722232017256448 ≤ dotV f g n ∧ dotV f g n ≤ 3138550867693340381917894711603833208051177722232017256447 := by
  obtain ⟨_, _, _, _, _, _, _, _, h1⟩ := hA
  obtain ⟨_, _, _, _, _, _, _, _, h2⟩ := hB
  have key : ∀ k, k ≤ n → -((k : Int) * 85070591730234615865843651857942052864) ≤ dotV f g k ∧ dotV f g k ≤ (k : Int) * 85070591730234615865843651857942052864 := by
    intro k
    induction k with
    | zero => intro _; exact ⟨by simp [dotV], by simp [dotV]⟩
    | succ k ih =>
      intro hk
      obtain ⟨i0, i1⟩ := ih (by omega)
      obtain ⟨p0, p1⟩ := mul_in (f k) (g k) (h1 k (by omega)).2.1 (h1 k (by omega)).2.2 (h2 k (by omega)).2.1 (h2 k (by omega)).2.2
      have e : dotV f g (k + 1) = dotV f g k + f k * g k := rfl
      rw [e]
      generalize f k * g k = p at *
      constructor <;> omega
  obtain ⟨a, b⟩ := key n (Nat.le_refl _)
  constructor <;> omega
theorem sumV_small (va : Value) (n : Nat) (f : Nat → Int) (w : World) (hA : Ar w va n f) : -((n : Int) * 9223372036854775808) ≤ sumV f n ∧ sumV f n ≤ (n : Int) * 9223372036854775808 := by
  obtain ⟨_, _, _, _, _, _, _, _, h1⟩ := hA
  have key : ∀ k, k ≤ n → -((k : Int) * 9223372036854775808) ≤ sumV f k ∧ sumV f k ≤ (k : Int) * 9223372036854775808 := by
    intro k
    induction k with
    | zero => intro _; exact ⟨by simp [sumV], by simp [sumV]⟩
    | succ k ih =>
      intro hk
      obtain ⟨i0, i1⟩ := ih (by omega)
      have p0 := (h1 k (by omega)).2.1
      have p1 := (h1 k (by omega)).2.2
      have e : sumV f (k + 1) = sumV f k + f k := rfl
      rw [e]
      constructor <;> omega
  exact key n (Nat.le_refl _)
theorem sumV_rng (va : Value) (n : Nat) (f : Nat → Int) (hn : n ≤ 9223372036854775807) (w : World) (hA : Ar w va n f) : -170141183460469231731687303715884105728 ≤ sumV f n ∧ sumV f n ≤ 170141183460469231731687303715884105727 := by
  obtain ⟨a, b⟩ := sumV_small va n f w hA
  constructor <;> omega
set_option maxHeartbeats 1000000 in
theorem vdot_nil (va vb : Value) (n : Nat) (f g : Nat → Int) (hn : n ≤ 70000) (w : World) (hT : TabAt w) (hA : Ar w va n f) (hB : Ar w vb n g) :
    Calls Tryz.prog 72 #[.pointer none, va, vb] w fun e w' => e = .returned (.int .i64 (clv (rr (dotV f g n) 32))) ∧ Below w.heap.size w w' := by
  have CG : Hid (Calls Tryz.prog 92 #[va, vb] w fun e w' => e = .returned (.agg #[.int .i64 (t3 (dotV f g n)), .int .u64 (m3 (dotV f g n)), .int .u64 (lo (dotV f g n))]) ∧ Below w.heap.size w w') := products_any va vb n f g hn w hA hB
  obtain ⟨r0, r1⟩ := dotV_rng va vb n f g hn w hA hB
  have HN : Hid (∀ W : World, TabAt W → Calls Tryz.prog 47 #[.pointer none, .agg #[.int .i64 (t3 (dotV f g n)), .int .u64 (m3 (dotV f g n)), .int .u64 (lo (dotV f g n))], .int .i64 32] W fun e w' => e = .returned (.int .i64 (clv (rr (dotV f g n) 32))) ∧ Below W.heap.size W w') := fun W h => uNear_nil (dotV f g n) r0 r1 W h
  obtain ⟨k0, k1⟩ := clv_fit (rr (dotV f g n) 32)
  have HT : Hid (TabAt w) := hT
  obtain ⟨adr, cap, b, o, rfl, -, -, -, -⟩ := hA
  obtain ⟨adq, caq, bq, oq, rfl, -, -, -, -⟩ := hB
  clear hT r0 r1
  generalize clv (rr (dotV f g n) 32) = x at *
  generalize t3 (dotV f g n) = tj at *
  generalize m3 (dotV f g n) = mj at *
  generalize lo (dotV f g n) = lj at *
  go_enter Tryz.func72, Tryz.ntmps72
  go_wp2_with fail
  refine CG.out.mono ?_
  rintro e w1 ⟨rfl, W1⟩
  have T1 : Hid (TabAt w1) := HT.out.later W1
  clear CG HT
  go_wp2_with fail
  refine (HN.out _ T1.out).mono ?_
  rintro e w2 ⟨rfl, hb⟩
  have W2 := bchain W1 hb
  clear hb HN T1
  go_wp2
  go_ret
  exact ⟨rfl, W2⟩

set_option maxHeartbeats 1000000 in
theorem vdot_un (va vb : Value) (n : Nat) (f g : Nat → Int) (hn : n ≤ 70000) (d : Nat) (c : Int) (c0 : 0 ≤ c) (c1 : c ≤ 1000000000) (w : World) (hT : TabAt w) (hA : Ar w va n f) (hB : Ar w vb n g) (hc : w.cell? ⟨d, 0, none⟩ = some (.int .i64 c)) (hf : w.frozen? ⟨d, 0, none⟩ = false) :
    Calls Tryz.prog 72 #[.pointer (some ⟨d, 0, none⟩), va, vb] w fun e w' => e = .returned (.int .i64 (clv (rr (dotV f g n) 32))) ∧ Un d (c + bi (ovv (rr (dotV f g n) 32))) w w' := by
  have CG : Hid (Calls Tryz.prog 92 #[va, vb] w fun e w' => e = .returned (.agg #[.int .i64 (t3 (dotV f g n)), .int .u64 (m3 (dotV f g n)), .int .u64 (lo (dotV f g n))]) ∧ Below w.heap.size w w') := products_any va vb n f g hn w hA hB
  obtain ⟨r0, r1⟩ := dotV_rng va vb n f g hn w hA hB
  have HN : Hid (∀ W : World, TabAt W → W.cell? ⟨d, 0, none⟩ = some (.int .i64 c) → W.frozen? ⟨d, 0, none⟩ = false → Calls Tryz.prog 47 #[.pointer (some ⟨d, 0, none⟩), .agg #[.int .i64 (t3 (dotV f g n)), .int .u64 (m3 (dotV f g n)), .int .u64 (lo (dotV f g n))], .int .i64 32] W fun e w' => e = .returned (.int .i64 (clv (rr (dotV f g n) 32))) ∧ Un d (c + bi (ovv (rr (dotV f g n) 32))) W w') := fun W h hc hf => uNear_un (dotV f g n) r0 r1 d c c0 c1 W h hc hf
  obtain ⟨k0, k1⟩ := clv_fit (rr (dotV f g n) 32)
  have HT : Hid (TabAt w) := hT
  obtain ⟨adr, cap, b, o, rfl, -, -, -, -⟩ := hA
  obtain ⟨adq, caq, bq, oq, rfl, -, -, -, -⟩ := hB
  clear hT r0 r1
  generalize clv (rr (dotV f g n) 32) = x at *
  generalize bi (ovv (rr (dotV f g n) 32)) = z at *
  generalize t3 (dotV f g n) = tj at *
  generalize m3 (dotV f g n) = mj at *
  generalize lo (dotV f g n) = lj at *
  go_enter Tryz.func72, Tryz.ntmps72
  go_wp2_with fail
  refine CG.out.mono ?_
  rintro e w1 ⟨rfl, W1⟩
  have T1 : Hid (TabAt w1) := HT.out.later W1
  have x1 := cell_later W1 hc
  have y1 := frozen_later W1 hc hf
  clear CG HT
  go_wp2_with fail
  refine (HN.out _ T1.out x1 y1).mono ?_
  rintro e w2 ⟨rfl, hU⟩
  have hV := Un.after W1 hU
  clear hU HN T1 x1 y1 hc hf
  go_wp2
  go_ret
  exact ⟨rfl, hV⟩

end Go.Proofs.YtdfjnbkkdgolnabGreatDoor
set_option linter.unusedVariables false
set_option linter.unusedSimpArgs false
namespace Go.Proofs.YtdfjnbkkdgolnabGreatDoor
open Go.RowKit


set_option maxHeartbeats 2000000 in
theorem Dot_un (va vb : Value) (n m : Nat) (f g : Nat → Int) (d : Nat) (c : Int) (w : World) (hn : n ≤ 70000) (hm : m ≤ 70000) (c0 : 0 ≤ c) (c1 : c ≤ 900000000) (hV : VT w) (hA : Ar w va n f) (hB : Ar w vb m g) (ha : Nb va d) (hb : Nb vb d) (hU : Uc w d c) :
    Calls Tryz.prog 53 #[.pointer (some ⟨d, 0, none⟩), va, vb] w fun e w' => e = .returned (.tuple #[.int .i64 (dX n m f g), .int .i64 (dE n m)]) ∧ Un d (c + bi (dO n m f g)) w w' := by
  obtain ⟨ada, ca, ba, oa, rfl, k1, k2, -, -⟩ := id hA
  obtain ⟨adb, cb, bb, ob, rfl, q1, q2, -, -⟩ := id hB
  have hb0 := bel1 w (.cells #[.slice ada n ca, .slice adb m cb] 23)
  obtain ⟨hc, hf⟩ := hU
  have hc' := cell_later hb0 hc
  have hf' := frozen_later hb0 hc hf
  unfold maxLen at *
  rcases (show (n = m ∧ n ≤ 65536) ∨ (n = m ∧ 65536 < n) ∨ n ≠ m by omega) with ⟨hnm, hl⟩ | ⟨hnm, hl⟩ | hnm
  · subst hnm
    have hE : dE n n = 0 := by unfold dE; rw [if_neg (by omega), if_pos rfl]
    have hs1 : ¬ (65536 : Int) < (n : Int) := by omega
    have CK : Hid (Calls Tryz.prog 32 #[.bool true, .slice (some ⟨w.heap.size, 0, none⟩) 2 2] (w.alloc (.cells #[.slice ada n ca, .slice adb n cb] 23)) fun e w' => e = .returned (.int .i64 0) ∧ w' = w.alloc (.cells #[.slice ada n ca, .slice adb n cb] 23)) := by
      have h := check2_any true w ada adb n ca n cb (by unfold maxLen; omega) (by unfold maxLen; omega)
      rw [if_neg (by omega), if_pos rfl] at h
      exact h
    have CD : Hid (Calls Tryz.prog 72 #[.pointer (some ⟨d, 0, none⟩), .slice ada n ca, .slice adb n cb] (w.alloc (.cells #[.slice ada n ca, .slice adb n cb] 23)) fun e w' => e = .returned (.int .i64 (clv (rr (dotV f g n) 32))) ∧ Un d (c + bi (ovv (rr (dotV f g n) 32))) (w.alloc (.cells #[.slice ada n ca, .slice adb n cb] 23)) w') := vdot_un _ _ n f g hn d c c0 (by omega) _ (VT.later hV hb0) (hA.later hb0) (hB.later hb0) hc' hf'
    rw [show dX n n f g = clv (rr (dotV f g n) 32) by unfold dX; rw [if_pos hE], show dO n n f g = ovv (rr (dotV f g n) 32) by unfold dO; rw [if_pos hE], hE]
    generalize clv (rr (dotV f g n) 32) = x at *
    generalize bi (ovv (rr (dotV f g n) 32)) = z at *
    clear hA hB hV hc hf ha hb hE
    go_enter Tryz.func53, Tryz.ntmps53
    go_wp2_with fail
    refine CK.out.mono ?_
    rintro e w1 ⟨rfl, hz⟩
    subst hz
    clear CK
    go_wp2_with fail
    refine CD.out.mono ?_
    rintro e w3 ⟨rfl, hU⟩
    have hX := Un.after hb0 hU
    clear hU hc' hf' CD hb0
    go_wp2
    go_ret2
    exact ⟨rfl, hX⟩
  · subst hnm
    have hE : dE n n = 3 := by unfold dE; rw [if_pos (by omega)]
    have CK : Hid (Calls Tryz.prog 32 #[.bool true, .slice (some ⟨w.heap.size, 0, none⟩) 2 2] (w.alloc (.cells #[.slice ada n ca, .slice adb n cb] 23)) fun e w' => e = .returned (.int .i64 3) ∧ w' = w.alloc (.cells #[.slice ada n ca, .slice adb n cb] 23)) := by
      have h := check2_any true w ada adb n ca n cb (by unfold maxLen; omega) (by unfold maxLen; omega)
      rw [if_pos (by omega)] at h
      exact h
    rw [show dX n n f g = 0 by unfold dX; rw [if_neg (by rw [hE]; decide)], show dO n n f g = false by unfold dO; rw [if_neg (by rw [hE]; decide)], hE]
    rw [show c + bi false = c by unfold bi; simp]
    have hX := Un.after hb0 (Un.same hc' hf')
    clear hA hB hV hc hf ha hb hc' hf' hb0 hE
    go_enter Tryz.func53, Tryz.ntmps53
    go_wp2_with fail
    refine CK.out.mono ?_
    rintro e w1 ⟨rfl, hz⟩
    subst hz
    clear CK
    go_wp2
    go_ret2
    exact ⟨rfl, hX⟩
  · have hnI : ((n : Int) == (m : Int)) = false := beq_eq_false_iff_ne.2 (by omega)
    obtain ⟨E, hE⟩ : ∃ E, dE n m = E := ⟨_, rfl⟩
    have hck : (if 65536 < n ∨ 65536 < m then (3 : Int) else if false = true then 0 else 40) = E := by rw [← hE]; unfold dE; rw [if_neg (show ¬ false = true by decide), if_neg hnm]
    have hne : ¬ E = 0 := by rw [← hE]; unfold dE; split <;> simp [hnm]
    have CK : Hid (Calls Tryz.prog 32 #[.bool false, .slice (some ⟨w.heap.size, 0, none⟩) 2 2] (w.alloc (.cells #[.slice ada n ca, .slice adb m cb] 23)) fun e w' => e = .returned (.int .i64 E) ∧ w' = w.alloc (.cells #[.slice ada n ca, .slice adb m cb] 23)) := by
      have h := check2_any false w ada adb n ca m cb (by unfold maxLen; omega) (by unfold maxLen; omega)
      rw [hck] at h
      exact h
    rw [show dX n m f g = 0 by unfold dX; rw [if_neg (by rw [hE]; exact hne)], show dO n m f g = false by unfold dO; rw [if_neg (by rw [hE]; exact hne)], hE]
    rw [show c + bi false = c by unfold bi; simp]
    have hX := Un.after hb0 (Un.same hc' hf')
    clear hA hB hV hc hf ha hb hc' hf' hb0 hE
    go_enter Tryz.func53, Tryz.ntmps53
    go_wp2_with fail
    refine CK.out.mono ?_
    rintro e w1 ⟨rfl, hz⟩
    subst hz
    clear CK
    go_wp2
    go_ret2
    exact ⟨rfl, hX⟩

set_option maxHeartbeats 2000000 in
theorem Sum_un (va : Value) (n : Nat) (f : Nat → Int) (d : Nat) (c : Int) (w : World) (hn : n ≤ 70000) (c0 : 0 ≤ c) (c1 : c ≤ 900000000) (hV : VT w) (hA : Ar w va n f) (ha : Nb va d) (hU : Uc w d c) :
    Calls Tryz.prog 144 #[.pointer (some ⟨d, 0, none⟩), va] w fun e w' => e = .returned (.tuple #[.int .i64 (sX n f), .int .i64 (sE n)]) ∧ Un d (c + bi (sO n f)) w w' := by
  obtain ⟨ada, ca, ba, oa, rfl, k1, k2, -, -⟩ := id hA
  have hb0 := bel1 w (.cells #[.slice ada n ca] 23)
  obtain ⟨hc, hf⟩ := hU
  have hc' := cell_later hb0 hc
  have hf' := frozen_later hb0 hc hf
  unfold maxLen at *
  by_cases hl : n ≤ 65536
  · have hs1 : ¬ (65536 : Int) < (n : Int) := by omega
    have hE : sE n = 0 := by unfold sE; rw [if_neg (by omega)]
    have CK : Hid (Calls Tryz.prog 32 #[.bool true, .slice (some ⟨w.heap.size, 0, none⟩) 1 1] (w.alloc (.cells #[.slice ada n ca] 23)) fun e w' => e = .returned (.int .i64 0) ∧ w' = w.alloc (.cells #[.slice ada n ca] 23)) := by
      have h := check1_any true w ada n ca (by unfold maxLen; omega)
      rw [if_neg (by omega), if_pos rfl] at h
      exact h
    have CT : Hid (Calls Tryz.prog 41 #[.slice ada n ca] (w.alloc (.cells #[.slice ada n ca] 23)) fun e w' => e = .returned (.agg #[.int .i64 (hi (sumV f n)), .int .u64 (lo (sumV f n))]) ∧ Below (w.alloc (.cells #[.slice ada n ca] 23)).heap.size (w.alloc (.cells #[.slice ada n ca] 23)) w') := total_any _ n f _ (hA.later hb0)
    obtain ⟨v0, v1⟩ := sumV_rng _ n f (by omega) w hA
    have CD : Hid (∀ W : World, W.cell? ⟨d, 0, none⟩ = some (.int .i64 c) → W.frozen? ⟨d, 0, none⟩ = false → Calls Tryz.prog 60 #[.pointer (some ⟨d, 0, none⟩), .agg #[.int .i64 (hi (sumV f n)), .int .u64 (lo (sumV f n))]] W fun e w' => e = .returned (.int .i64 (clv (sumV f n))) ∧ Un d (c + bi (ovv (sumV f n))) W w') := fun W x y => vhold_un (sumV f n) v0 v1 d c c0 (by omega) W x y
    clear v0 v1
    rw [show sX n f = clv (sumV f n) by unfold sX; rw [if_pos hE], show sO n f = ovv (sumV f n) by unfold sO; rw [if_pos hE], hE]
    generalize clv (sumV f n) = x at *
    generalize bi (ovv (sumV f n)) = z at *
    generalize hi (sumV f n) = sh at *
    generalize lo (sumV f n) = sl at *
    clear hA hV hc hf ha hE
    go_enter Tryz.func144, Tryz.ntmps144
    go_wp2_with fail
    refine CK.out.mono ?_
    rintro e w1 ⟨rfl, hz⟩
    subst hz
    clear CK
    go_wp2_with fail
    refine CT.out.mono ?_
    rintro e w2 ⟨rfl, hb2⟩
    have W2 := bchain hb0 hb2
    clear CT
    have x2 := cell_later hb2 hc'
    have y2 := frozen_later hb2 hc' hf'
    clear hc' hf' hb2 hb0
    go_wp2_with fail
    refine (CD.out _ x2 y2).mono ?_
    rintro e w3 ⟨rfl, hU⟩
    have hX := Un.after W2 hU
    clear hU x2 y2 CD W2
    go_wp2
    go_ret2
    exact ⟨rfl, hX⟩
  · have hE : sE n = 3 := by unfold sE; rw [if_pos (by omega)]
    have CK : Hid (Calls Tryz.prog 32 #[.bool true, .slice (some ⟨w.heap.size, 0, none⟩) 1 1] (w.alloc (.cells #[.slice ada n ca] 23)) fun e w' => e = .returned (.int .i64 3) ∧ w' = w.alloc (.cells #[.slice ada n ca] 23)) := by
      have h := check1_any true w ada n ca (by unfold maxLen; omega)
      rw [if_pos (by omega)] at h
      exact h
    rw [show sX n f = 0 by unfold sX; rw [if_neg (by rw [hE]; decide)], show sO n f = false by unfold sO; rw [if_neg (by rw [hE]; decide)], hE]
    rw [show c + bi false = c by unfold bi; simp]
    have hX := Un.after hb0 (Un.same hc' hf')
    clear hA hV hc hf ha hc' hf' hb0 hE
    go_enter Tryz.func144, Tryz.ntmps144
    go_wp2_with fail
    refine CK.out.mono ?_
    rintro e w1 ⟨rfl, hz⟩
    subst hz
    clear CK
    go_wp2
    go_ret2
    exact ⟨rfl, hX⟩

set_option maxHeartbeats 2000000 in
theorem Dot_nil (va vb : Value) (n m : Nat) (f g : Nat → Int) (w : World) (hn : n ≤ 70000) (hm : m ≤ 70000) (hV : VT w) (hA : Ar w va n f) (hB : Ar w vb m g) :
    Calls Tryz.prog 53 #[.pointer none, va, vb] w fun e w' => e = .returned (.tuple #[.int .i64 (dX n m f g), .int .i64 (dE n m)]) ∧ Below w.heap.size w w' := by
  obtain ⟨ada, ca, ba, oa, rfl, k1, k2, -, -⟩ := id hA
  obtain ⟨adb, cb, bb, ob, rfl, q1, q2, -, -⟩ := id hB
  have hb0 := bel1 w (.cells #[.slice ada n ca, .slice adb m cb] 23)
  unfold maxLen at *
  rcases (show (n = m ∧ n ≤ 65536) ∨ (n = m ∧ 65536 < n) ∨ n ≠ m by omega) with ⟨hnm, hl⟩ | ⟨hnm, hl⟩ | hnm
  · subst hnm
    have hE : dE n n = 0 := by unfold dE; rw [if_neg (by omega), if_pos rfl]
    have hs1 : ¬ (65536 : Int) < (n : Int) := by omega
    have CK : Hid (Calls Tryz.prog 32 #[.bool true, .slice (some ⟨w.heap.size, 0, none⟩) 2 2] (w.alloc (.cells #[.slice ada n ca, .slice adb n cb] 23)) fun e w' => e = .returned (.int .i64 0) ∧ w' = w.alloc (.cells #[.slice ada n ca, .slice adb n cb] 23)) := by
      have h := check2_any true w ada adb n ca n cb (by unfold maxLen; omega) (by unfold maxLen; omega)
      rw [if_neg (by omega), if_pos rfl] at h
      exact h
    have CD : Hid (Calls Tryz.prog 72 #[.pointer none, .slice ada n ca, .slice adb n cb] (w.alloc (.cells #[.slice ada n ca, .slice adb n cb] 23)) fun e w' => e = .returned (.int .i64 (clv (rr (dotV f g n) 32))) ∧ Below (w.alloc (.cells #[.slice ada n ca, .slice adb n cb] 23)).heap.size (w.alloc (.cells #[.slice ada n ca, .slice adb n cb] 23)) w') := vdot_nil _ _ n f g hn _ (VT.later hV hb0) (hA.later hb0) (hB.later hb0)
    rw [show dX n n f g = clv (rr (dotV f g n) 32) by unfold dX; rw [if_pos hE], hE]
    generalize clv (rr (dotV f g n) 32) = x at *
    clear hA hB hV hE
    go_enter Tryz.func53, Tryz.ntmps53
    go_wp2_with fail
    refine CK.out.mono ?_
    rintro e w1 ⟨rfl, hz⟩
    subst hz
    clear CK
    go_wp2_with fail
    refine CD.out.mono ?_
    rintro e w3 ⟨rfl, hb3⟩
    have hX := bchain hb0 hb3
    clear hb3 CD hb0
    go_wp2
    go_ret2
    exact ⟨rfl, hX⟩
  · subst hnm
    have hE : dE n n = 3 := by unfold dE; rw [if_pos (by omega)]
    have CK : Hid (Calls Tryz.prog 32 #[.bool true, .slice (some ⟨w.heap.size, 0, none⟩) 2 2] (w.alloc (.cells #[.slice ada n ca, .slice adb n cb] 23)) fun e w' => e = .returned (.int .i64 3) ∧ w' = w.alloc (.cells #[.slice ada n ca, .slice adb n cb] 23)) := by
      have h := check2_any true w ada adb n ca n cb (by unfold maxLen; omega) (by unfold maxLen; omega)
      rw [if_pos (by omega)] at h
      exact h
    rw [show dX n n f g = 0 by unfold dX; rw [if_neg (by rw [hE]; decide)], hE]
    clear hA hB hV hE
    go_enter Tryz.func53, Tryz.ntmps53
    go_wp2_with fail
    refine CK.out.mono ?_
    rintro e w1 ⟨rfl, hz⟩
    subst hz
    clear CK
    go_wp2
    go_ret2
    exact ⟨rfl, hb0⟩
  · have hnI : ((n : Int) == (m : Int)) = false := beq_eq_false_iff_ne.2 (by omega)
    obtain ⟨E, hE⟩ : ∃ E, dE n m = E := ⟨_, rfl⟩
    have hck : (if 65536 < n ∨ 65536 < m then (3 : Int) else if false = true then 0 else 40) = E := by rw [← hE]; unfold dE; rw [if_neg (show ¬ false = true by decide), if_neg hnm]
    have hne : ¬ E = 0 := by rw [← hE]; unfold dE; split <;> simp [hnm]
    have CK : Hid (Calls Tryz.prog 32 #[.bool false, .slice (some ⟨w.heap.size, 0, none⟩) 2 2] (w.alloc (.cells #[.slice ada n ca, .slice adb m cb] 23)) fun e w' => e = .returned (.int .i64 E) ∧ w' = w.alloc (.cells #[.slice ada n ca, .slice adb m cb] 23)) := by
      have h := check2_any false w ada adb n ca m cb (by unfold maxLen; omega) (by unfold maxLen; omega)
      rw [hck] at h
      exact h
    rw [show dX n m f g = 0 by unfold dX; rw [if_neg (by rw [hE]; exact hne)], hE]
    clear hA hB hV hE
    go_enter Tryz.func53, Tryz.ntmps53
    go_wp2_with fail
    refine CK.out.mono ?_
    rintro e w1 ⟨rfl, hz⟩
    subst hz
    clear CK
    go_wp2
    go_ret2
    exact ⟨rfl, hb0⟩

set_option maxHeartbeats 2000000 in
theorem Sum_nil (va : Value) (n : Nat) (f : Nat → Int) (w : World) (hn : n ≤ 70000) (hV : VT w) (hA : Ar w va n f) :
    Calls Tryz.prog 144 #[.pointer none, va] w fun e w' => e = .returned (.tuple #[.int .i64 (sX n f), .int .i64 (sE n)]) ∧ Below w.heap.size w w' := by
  obtain ⟨ada, ca, ba, oa, rfl, k1, k2, -, -⟩ := id hA
  have hb0 := bel1 w (.cells #[.slice ada n ca] 23)
  unfold maxLen at *
  by_cases hl : n ≤ 65536
  · have hs1 : ¬ (65536 : Int) < (n : Int) := by omega
    have hE : sE n = 0 := by unfold sE; rw [if_neg (by omega)]
    have CK : Hid (Calls Tryz.prog 32 #[.bool true, .slice (some ⟨w.heap.size, 0, none⟩) 1 1] (w.alloc (.cells #[.slice ada n ca] 23)) fun e w' => e = .returned (.int .i64 0) ∧ w' = w.alloc (.cells #[.slice ada n ca] 23)) := by
      have h := check1_any true w ada n ca (by unfold maxLen; omega)
      rw [if_neg (by omega), if_pos rfl] at h
      exact h
    have CT : Hid (Calls Tryz.prog 41 #[.slice ada n ca] (w.alloc (.cells #[.slice ada n ca] 23)) fun e w' => e = .returned (.agg #[.int .i64 (hi (sumV f n)), .int .u64 (lo (sumV f n))]) ∧ Below (w.alloc (.cells #[.slice ada n ca] 23)).heap.size (w.alloc (.cells #[.slice ada n ca] 23)) w') := total_any _ n f _ (hA.later hb0)
    obtain ⟨v0, v1⟩ := sumV_rng _ n f (by omega) w hA
    have CD : Hid (∀ W : World, Calls Tryz.prog 60 #[.pointer none, .agg #[.int .i64 (hi (sumV f n)), .int .u64 (lo (sumV f n))]] W fun e w' => e = .returned (.int .i64 (clv (sumV f n))) ∧ Below W.heap.size W w') := fun W => vhold_nil (sumV f n) v0 v1 W
    clear v0 v1
    rw [show sX n f = clv (sumV f n) by unfold sX; rw [if_pos hE], hE]
    generalize clv (sumV f n) = x at *
    generalize hi (sumV f n) = sh at *
    generalize lo (sumV f n) = sl at *
    clear hA hV hE
    go_enter Tryz.func144, Tryz.ntmps144
    go_wp2_with fail
    refine CK.out.mono ?_
    rintro e w1 ⟨rfl, hz⟩
    subst hz
    clear CK
    go_wp2_with fail
    refine CT.out.mono ?_
    rintro e w2 ⟨rfl, hb2⟩
    have W2 := bchain hb0 hb2
    clear CT
    clear hb2 hb0
    go_wp2_with fail
    refine (CD.out _).mono ?_
    rintro e w3 ⟨rfl, hb3⟩
    have hX := bchain W2 hb3
    clear hb3 CD W2
    go_wp2
    go_ret2
    exact ⟨rfl, hX⟩
  · have hE : sE n = 3 := by unfold sE; rw [if_pos (by omega)]
    have CK : Hid (Calls Tryz.prog 32 #[.bool true, .slice (some ⟨w.heap.size, 0, none⟩) 1 1] (w.alloc (.cells #[.slice ada n ca] 23)) fun e w' => e = .returned (.int .i64 3) ∧ w' = w.alloc (.cells #[.slice ada n ca] 23)) := by
      have h := check1_any true w ada n ca (by unfold maxLen; omega)
      rw [if_pos (by omega)] at h
      exact h
    rw [show sX n f = 0 by unfold sX; rw [if_neg (by rw [hE]; decide)], hE]
    clear hA hV hE
    go_enter Tryz.func144, Tryz.ntmps144
    go_wp2_with fail
    refine CK.out.mono ?_
    rintro e w1 ⟨rfl, hz⟩
    subst hz
    clear CK
    go_wp2
    go_ret2
    exact ⟨rfl, hb0⟩

end Go.Proofs.YtdfjnbkkdgolnabGreatDoor
set_option linter.unusedVariables false
set_option linter.unusedSimpArgs false
namespace Go.Proofs.YtdfjnbkkdgolnabGreatDoor
open Go.RowKit

theorem Un.setnew {d : Nat} {c : Int} {w w1 : World} (h : Un d c w w1) (a : Addr) (u : Value) (hd : d < w.heap.size) (ha : w.heap.size ≤ a.block) : Un d c w (w1.setCell a u) where
  c := cell_set (by dsimp only; omega) h.c
  f := by rw [World.frozen?_setCell]; exact h.f
  b := fun base w0 h1 h2 h3 => (h.b base w0 h1 h2 h3).setCell (by omega) _
  o := fun b v hb hc => cell_set (by have := World.block_lt_of_cell? _ _ hc; omega) (h.o b v hb hc)
  s := by rw [World.size_setCell]; exact h.s
  k := fun i hi hn => (Below.heap_setCell _ _ _ _ (by omega)).trans (h.k i hi hn)
theorem hmf_any : ∀ (fn : Fn) (first cap : Array Value) (w : World), (Instr.makeFunc fn first cap).run Tryz.prog w = .ok (.func fn first cap) w := fun _ _ _ _ => rfl
theorem cell_new1 (w : World) (x : Value) (t : TypeId) (h : x.oneCell' = true := by rfl) : (w.alloc (.cells #[x] t)).cell? ⟨w.heap.size, 0, none⟩ = some x := by simp [go_sem]

set_option maxHeartbeats 1000000 in
theorem sc1_un (k x : Int) (k0 : -9223372036854775808 ≤ k) (k1 : k ≤ 9223372036854775807) (x0 : -9223372036854775808 ≤ x) (x1 : x ≤ 9223372036854775807) (bu bk : Nat) (d : Nat) (c : Int) (c0 : 0 ≤ c) (c1 : c ≤ 1000000000) (w : World) (hc : w.cell? ⟨d, 0, none⟩ = some (.int .i64 c)) (hf : w.frozen? ⟨d, 0, none⟩ = false) (cu : w.cell? ⟨bu, 0, none⟩ = some (.pointer (some ⟨d, 0, none⟩))) (ck : w.cell? ⟨bk, 0, none⟩ = some (.int .i64 k)) :
    Calls Tryz.prog 89 #[.int .i64 x, .pointer (some ⟨bu, 0, none⟩), .pointer (some ⟨bk, 0, none⟩)] w fun e w' => e = .returned (.int .i64 (clv (rnd (k * x) 32))) ∧ Un d (c + bi (ovv (rnd (k * x) 32))) w w' := by
  have CM : Hid (Calls Tryz.prog 90 #[.pointer (some ⟨d, 0, none⟩), .int .i64 k, .int .i64 x] w fun e w' => e = .returned (.int .i64 (clv (rnd (k * x) 32))) ∧ Un d (c + bi (ovv (rnd (k * x) 32))) w w') := uMul_un k x k0 k1 x0 x1 d c c0 c1 w hc hf
  obtain ⟨r0, r1⟩ := clv_fit (rnd (k * x) 32)
  generalize clv (rnd (k * x) 32) = X at *
  clear hc hf
  go_enter Tryz.func89, Tryz.ntmps89
  go_wp2_with fail
  refine CM.out.mono ?_
  rintro e w1 ⟨rfl, hb⟩
  clear CM cu ck
  go_wp2
  go_ret
  exact ⟨rfl, hb⟩

set_option maxHeartbeats 1000000 in
theorem sc1_nil (k x : Int) (k0 : -9223372036854775808 ≤ k) (k1 : k ≤ 9223372036854775807) (x0 : -9223372036854775808 ≤ x) (x1 : x ≤ 9223372036854775807) (bu bk : Nat) (w : World) (cu : w.cell? ⟨bu, 0, none⟩ = some (.pointer none)) (ck : w.cell? ⟨bk, 0, none⟩ = some (.int .i64 k)) :
    Calls Tryz.prog 89 #[.int .i64 x, .pointer (some ⟨bu, 0, none⟩), .pointer (some ⟨bk, 0, none⟩)] w fun e w' => e = .returned (.int .i64 (clv (rnd (k * x) 32))) ∧ Below w.heap.size w w' := by
  have CM : Hid (Calls Tryz.prog 90 #[.pointer none, .int .i64 k, .int .i64 x] w fun e w' => e = .returned (.int .i64 (clv (rnd (k * x) 32))) ∧ Below w.heap.size w w') := uMul_nil k x k0 k1 x0 x1 w
  obtain ⟨r0, r1⟩ := clv_fit (rnd (k * x) 32)
  generalize clv (rnd (k * x) 32) = X at *
  skip
  go_enter Tryz.func89, Tryz.ntmps89
  go_wp2_with fail
  refine CM.out.mono ?_
  rintro e w1 ⟨rfl, hb⟩
  clear CM cu ck
  go_wp2
  go_ret
  exact ⟨rfl, hb⟩

set_option maxHeartbeats 2000000 in
theorem scaled_un (k : Int) (k0 : -9223372036854775808 ≤ k) (k1 : k ≤ 9223372036854775807) (va : Value) (n : Nat) (f : Nat → Int) (hn : n ≤ 70000) (d : Nat) (c : Int) (c0 : 0 ≤ c) (c1 : c ≤ 900000000) (w : World) (hA : Ar w va n f) (ha : Nb va d) (hc : w.cell? ⟨d, 0, none⟩ = some (.int .i64 c)) (hf : w.frozen? ⟨d, 0, none⟩ = false) :
    Calls Tryz.prog 70 #[.pointer (some ⟨d, 0, none⟩), .int .i64 k, va] w fun e w' => e = .returned (.slice (some ⟨w.heap.size + 2, 0, none⟩) n n) ∧ Ar w' (.slice (some ⟨w.heap.size + 2, 0, none⟩) n n) n (fun i => clv (rnd (k * f i) 32)) ∧ Un d (c + cntV (fun i => ovv (rnd (k * f i) 32)) n) w w' := by
  have hmf := hmf_any
  have hb0 := bel2 w (.cells #[.pointer (some ⟨d, 0, none⟩)] 45) (.cells #[.int .i64 k] 32)
  have cu : ((w.alloc (.cells #[.pointer (some ⟨d, 0, none⟩)] 45)).alloc (.cells #[.int .i64 k] 32)).cell? ⟨w.heap.size, 0, none⟩ = some (.pointer (some ⟨d, 0, none⟩)) := cell_later (bel1 _ _) (cell_new1 w _ _)
  have ck : ((w.alloc (.cells #[.pointer (some ⟨d, 0, none⟩)] 45)).alloc (.cells #[.int .i64 k] 32)).cell? ⟨w.heap.size + 1, 0, none⟩ = some (.int .i64 k) := by have h := cell_new1 (w.alloc (.cells #[.pointer (some ⟨d, 0, none⟩)] 45)) (.int .i64 k) 32; rw [World.size_alloc] at h; exact h
  have hsz : ((w.alloc (.cells #[.pointer (some ⟨d, 0, none⟩)] 45)).alloc (.cells #[.int .i64 k] 32)).heap.size = w.heap.size + 2 := by simp
  have CE : Hid (Calls Tryz.prog 88 #[va, .func (.func 89) #[] #[.pointer (some ⟨w.heap.size, 0, none⟩), .pointer (some ⟨w.heap.size + 1, 0, none⟩)]] ((w.alloc (.cells #[.pointer (some ⟨d, 0, none⟩)] 45)).alloc (.cells #[.int .i64 k] 32)) fun e w' => e = .returned (.slice (some ⟨w.heap.size + 2, 0, none⟩) n n) ∧ Ar w' (.slice (some ⟨w.heap.size + 2, 0, none⟩) n n) n (fun i => clv (rnd (k * f i) 32)) ∧ Un d (c + cntV (fun i => ovv (rnd (k * f i) 32)) n) w w') := by
    have hd := World.block_lt_of_cell? _ _ hc
    dsimp only at hd
    have hc2 := cell_later hb0 hc
    have hf2 := frozen_later hb0 hc hf
    have h := each_scaled (.pointer (some ⟨w.heap.size, 0, none⟩)) (.pointer (some ⟨w.heap.size + 1, 0, none⟩)) (fun j W => Un d (c + cntV (fun i => ovv (rnd (k * f i) 32)) j) ((w.alloc (.cells #[.pointer (some ⟨d, 0, none⟩)] 45)).alloc (.cells #[.int .i64 k] 32)) W) va n f (fun i => clv (rnd (k * f i) 32)) ((w.alloc (.cells #[.pointer (some ⟨d, 0, none⟩)] 45)).alloc (.cells #[.int .i64 k] 32)) hn (hA.later hb0) (by simpa [cntV] using Un.same hc2 hf2) (fun j W W' h hb => h.ahead hb) (fun j W a x hx h => h.setnew a x (by rw [hsz]; omega) hx) (fun j W h => (hA.later hb0).un ha h) (fun j _ => clv_fit _) (fun j W hj hW h => by
      have r := cnt_rng (fun i => ovv (rnd (k * f i) 32)) j
      obtain ⟨_, _, _, _, _, _, _, _, hx⟩ := hA
      have hx := (hx j hj).2
      refine (sc1_un k (f j) k0 k1 hx.1 hx.2 w.heap.size (w.heap.size + 1) d _ (by omega) (by omega) W h.c h.f (h.o _ _ (by dsimp only; omega) cu) (h.o _ _ (by dsimp only; omega) ck)).mono ?_
      rintro e w' ⟨rfl, hU⟩
      refine ⟨rfl, ?_, hU.k _ (by omega) (by rw [hsz]; omega), hU.s⟩
      have e1 : c + cntV (fun i => ovv (rnd (k * f i) 32)) (j + 1) = c + cntV (fun i => ovv (rnd (k * f i) 32)) j + bi (ovv (rnd (k * f j) 32)) := by rw [Int.add_assoc]; rfl
      show Un d (c + cntV (fun i => ovv (rnd (k * f i) 32)) (j + 1)) _ w'
      rw [e1]
      exact h.chain hU)
    refine h.mono ?_
    rintro e w' ⟨rfl, hS, hX⟩
    rw [hsz] at hX ⊢
    exact ⟨rfl, hX, Un.after hb0 hS⟩
  obtain ⟨adr, cap, b, o, rfl, -, -, -, -⟩ := hA
  clear cu ck hb0 hsz ha hc hf
  go_enter Tryz.func70, Tryz.ntmps70
  go_wp2_with fail
  refine CE.out.mono ?_
  rintro e w' ⟨rfl, hX, hU⟩
  have HX : Hid (Ar w' (.slice (some ⟨w.heap.size + 2, 0, none⟩) n n) n (fun i => clv (rnd (k * f i) 32))) := hX
  clear CE hX
  go_wp2
  go_ret
  exact ⟨rfl, HX.out, hU⟩

set_option maxHeartbeats 2000000 in
theorem scaled_nil (k : Int) (k0 : -9223372036854775808 ≤ k) (k1 : k ≤ 9223372036854775807) (va : Value) (n : Nat) (f : Nat → Int) (hn : n ≤ 70000) (w : World) (hA : Ar w va n f) :
    Calls Tryz.prog 70 #[.pointer none, .int .i64 k, va] w fun e w' => e = .returned (.slice (some ⟨w.heap.size + 2, 0, none⟩) n n) ∧ Ar w' (.slice (some ⟨w.heap.size + 2, 0, none⟩) n n) n (fun i => clv (rnd (k * f i) 32)) ∧ Below w.heap.size w w' := by
  have hmf := hmf_any
  have hb0 := bel2 w (.cells #[.pointer none] 45) (.cells #[.int .i64 k] 32)
  have cu : ((w.alloc (.cells #[.pointer none] 45)).alloc (.cells #[.int .i64 k] 32)).cell? ⟨w.heap.size, 0, none⟩ = some (.pointer none) := cell_later (bel1 _ _) (cell_new1 w _ _)
  have ck : ((w.alloc (.cells #[.pointer none] 45)).alloc (.cells #[.int .i64 k] 32)).cell? ⟨w.heap.size + 1, 0, none⟩ = some (.int .i64 k) := by have h := cell_new1 (w.alloc (.cells #[.pointer none] 45)) (.int .i64 k) 32; rw [World.size_alloc] at h; exact h
  have hsz : ((w.alloc (.cells #[.pointer none] 45)).alloc (.cells #[.int .i64 k] 32)).heap.size = w.heap.size + 2 := by simp
  have CE : Hid (Calls Tryz.prog 88 #[va, .func (.func 89) #[] #[.pointer (some ⟨w.heap.size, 0, none⟩), .pointer (some ⟨w.heap.size + 1, 0, none⟩)]] ((w.alloc (.cells #[.pointer none] 45)).alloc (.cells #[.int .i64 k] 32)) fun e w' => e = .returned (.slice (some ⟨w.heap.size + 2, 0, none⟩) n n) ∧ Ar w' (.slice (some ⟨w.heap.size + 2, 0, none⟩) n n) n (fun i => clv (rnd (k * f i) 32)) ∧ Below w.heap.size w w') := by
    have h := each_scaled (.pointer (some ⟨w.heap.size, 0, none⟩)) (.pointer (some ⟨w.heap.size + 1, 0, none⟩)) (fun _ W => Below ((w.alloc (.cells #[.pointer none] 45)).alloc (.cells #[.int .i64 k] 32)).heap.size ((w.alloc (.cells #[.pointer none] 45)).alloc (.cells #[.int .i64 k] 32)) W) va n f (fun i => clv (rnd (k * f i) 32)) ((w.alloc (.cells #[.pointer none] 45)).alloc (.cells #[.int .i64 k] 32)) hn (hA.later hb0) (Below.refl _ _) (fun j W W' h hb => bchain h hb) (fun j W a x hx h => h.setCell hx _) (fun j W h => (hA.later hb0).later h) (fun j _ => clv_fit _) (fun j W hj hW h => by
      obtain ⟨_, _, _, _, _, _, _, _, hx⟩ := hA
      have hx := (hx j hj).2
      refine (sc1_nil k (f j) k0 k1 hx.1 hx.2 w.heap.size (w.heap.size + 1) W (cell_later h cu) (cell_later h ck)).mono ?_
      rintro e w' ⟨rfl, hb⟩
      exact ⟨rfl, bchain h hb, hb.block _ hW, hb.size⟩)
    refine h.mono ?_
    rintro e w' ⟨rfl, hS, hX⟩
    rw [hsz] at hX ⊢
    exact ⟨rfl, hX, bchain hb0 hS⟩
  obtain ⟨adr, cap, b, o, rfl, -, -, -, -⟩ := hA
  clear cu ck hb0 hsz
  go_enter Tryz.func70, Tryz.ntmps70
  go_wp2_with fail
  refine CE.out.mono ?_
  rintro e w' ⟨rfl, hX, hU⟩
  have HX : Hid (Ar w' (.slice (some ⟨w.heap.size + 2, 0, none⟩) n n) n (fun i => clv (rnd (k * f i) 32))) := hX
  clear CE hX
  go_wp2
  go_ret
  exact ⟨rfl, HX.out, hU⟩

set_option maxHeartbeats 2000000 in
theorem paired_of (fv : Value) (ada adb : Option Addr) (n m ca cb : Nat) (hn : n ≤ 70000) (hm : m ≤ 70000) (w : World) (Q : Value → World → Prop)
    (CP : n = m → n ≤ 65536 → Calls Tryz.prog 138 #[.slice ada n ca, .slice adb m cb, fv] (w.alloc (.cells #[.slice ada n ca, .slice adb m cb] 23)) fun e w' => ∃ b, e = .returned (.slice (some ⟨b, 0, none⟩) n n) ∧ Q (.slice (some ⟨b, 0, none⟩) n n) w') :
    Calls Tryz.prog 136 #[.slice ada n ca, .slice adb m cb, fv] w fun e w' => ∃ (ad : Option Addr) (l cp : Nat), e = .returned (.tuple #[.slice ad l cp, .int .i64 (dE n m)]) ∧ (dE n m = 0 → Q (.slice ad l cp) w') ∧ (dE n m ≠ 0 → ad = none ∧ l = 0 ∧ cp = 0 ∧ w' = (w.alloc (.cells #[.slice ada n ca, .slice adb m cb] 23))) := by
  rcases (show (n = m ∧ n ≤ 65536) ∨ (n = m ∧ 65536 < n) ∨ n ≠ m by omega) with ⟨hnm, hl⟩ | ⟨hnm, hl⟩ | hnm
  · subst hnm
    have hE : dE n n = 0 := by unfold dE; rw [if_neg (by omega), if_pos rfl]
    have CK : Hid (Calls Tryz.prog 32 #[.bool true, .slice (some ⟨w.heap.size, 0, none⟩) 2 2] (w.alloc (.cells #[.slice ada n ca, .slice adb n cb] 23)) fun e w' => e = .returned (.int .i64 0) ∧ w' = (w.alloc (.cells #[.slice ada n ca, .slice adb n cb] 23))) := by
      have h := check2_any true w ada adb n ca n cb (by unfold maxLen; omega) (by unfold maxLen; omega)
      rw [if_neg (by omega), if_pos rfl] at h
      exact h
    have HP : Hid (Calls Tryz.prog 138 #[.slice ada n ca, .slice adb n cb, fv] (w.alloc (.cells #[.slice ada n ca, .slice adb n cb] 23)) fun e w' => ∃ b, e = .returned (.slice (some ⟨b, 0, none⟩) n n) ∧ Q (.slice (some ⟨b, 0, none⟩) n n) w') := CP rfl hl
    rw [hE]
    clear CP hE
    go_enter Tryz.func136, Tryz.ntmps136
    go_wp2_with fail
    refine CK.out.mono ?_
    rintro e w1 ⟨rfl, hz⟩
    subst hz
    clear CK
    go_wp2_with fail
    refine HP.out.mono ?_
    rintro e w3 ⟨b, rfl, hQ⟩
    have HQ : Hid (Q (.slice (some ⟨b, 0, none⟩) n n) w3) := hQ
    clear HP hQ
    go_wp2
    go_ret2
    exact ⟨_, _, _, rfl, fun _ => HQ.out, fun h => absurd rfl h⟩
  · subst hnm
    have hE : dE n n = 3 := by unfold dE; rw [if_pos (by omega)]
    have CK : Hid (Calls Tryz.prog 32 #[.bool true, .slice (some ⟨w.heap.size, 0, none⟩) 2 2] (w.alloc (.cells #[.slice ada n ca, .slice adb n cb] 23)) fun e w' => e = .returned (.int .i64 3) ∧ w' = (w.alloc (.cells #[.slice ada n ca, .slice adb n cb] 23))) := by
      have h := check2_any true w ada adb n ca n cb (by unfold maxLen; omega) (by unfold maxLen; omega)
      rw [if_pos (by omega)] at h
      exact h
    rw [hE]
    clear CP hE
    go_enter Tryz.func136, Tryz.ntmps136
    go_wp2_with fail
    refine CK.out.mono ?_
    rintro e w1 ⟨rfl, hz⟩
    subst hz
    clear CK
    go_wp2
    go_ret2
    exact ⟨_, _, _, rfl, fun h => (by cases h), fun _ => ⟨rfl, rfl, rfl, rfl⟩⟩
  · have hnI : ((n : Int) == (m : Int)) = false := beq_eq_false_iff_ne.2 (by omega)
    obtain ⟨E, hE⟩ : ∃ E, dE n m = E := ⟨_, rfl⟩
    have hne : ¬ E = 0 := by rw [← hE]; unfold dE; split <;> simp [hnm]
    have CK : Hid (Calls Tryz.prog 32 #[.bool false, .slice (some ⟨w.heap.size, 0, none⟩) 2 2] (w.alloc (.cells #[.slice ada n ca, .slice adb m cb] 23)) fun e w' => e = .returned (.int .i64 E) ∧ w' = (w.alloc (.cells #[.slice ada n ca, .slice adb m cb] 23))) := by
      have h := check2_any false w ada adb n ca m cb (by unfold maxLen; omega) (by unfold maxLen; omega)
      rw [show (if 65536 < n ∨ 65536 < m then (3 : Int) else if false = true then 0 else 40) = E by rw [← hE]; unfold dE; rw [if_neg (show ¬ false = true by decide), if_neg hnm]] at h
      exact h
    rw [hE]
    clear CP hE
    go_enter Tryz.func136, Tryz.ntmps136
    go_wp2_with fail
    refine CK.out.mono ?_
    rintro e w1 ⟨rfl, hz⟩
    subst hz
    clear CK
    go_wp2
    go_ret2
    exact ⟨_, _, _, rfl, fun h => absurd h hne, fun _ => ⟨rfl, rfl, rfl, rfl⟩⟩

set_option maxHeartbeats 2000000 in
theorem Sub_un (va vb : Value) (n m : Nat) (f g : Nat → Int) (d : Nat) (c : Int) (w : World) (hn : n ≤ 70000) (hm : m ≤ 70000) (c0 : 0 ≤ c) (c1 : c ≤ 800000000) (hA : Ar w va n f) (hB : Ar w vb m g) (ha : Nb va d) (hb : Nb vb d) (hU : Uc w d c) :
    Calls Tryz.prog 135 #[.pointer (some ⟨d, 0, none⟩), va, vb] w fun e w' => ∃ v', e = .returned (.tuple #[v', .int .i64 (dE n m)]) ∧ LL w w' v' n (fun i => clv (f i - g i)) (dE n m) ∧ Un d (c + cE (dE n m) (cntV (fun i => ovv (f i - g i)) n)) w w' := by
  obtain ⟨ada, ca, ba, oa, rfl, x1, x2, -, -⟩ := id hA
  obtain ⟨adb, cb, bb, ob, rfl, y1, y2, -, -⟩ := id hB
  have hb0 := bel1 w (.cells #[.slice ada n ca, .slice adb m cb] 23)
  have hmf := hmf_any
  obtain ⟨hc, hf⟩ := hU
  have hd := World.block_lt_of_cell? _ _ hc
  dsimp only at hd
  have hc' := cell_later hb0 hc
  have hf' := frozen_later hb0 hc hf
  have CP : Hid (Calls Tryz.prog 136 #[.slice ada n ca, .slice adb m cb, .func (.func 137) #[.pointer (some ⟨d, 0, none⟩)] #[]] w fun e w' => ∃ (ad : Option Addr) (l cp : Nat), e = .returned (.tuple #[.slice ad l cp, .int .i64 (dE n m)]) ∧ (dE n m = 0 → (fun v' w' => LL w w' v' n (fun i => clv (f i - g i)) 0 ∧ Un d (c + (cntV (fun i => ovv (f i - g i)) n)) w w') (.slice ad l cp) w') ∧ (dE n m ≠ 0 → ad = none ∧ l = 0 ∧ cp = 0 ∧ w' = (w.alloc (.cells #[.slice ada n ca, .slice adb m cb] 23)))) := by
    refine paired_of _ ada adb n m ca cb hn hm w (fun v' w' => LL w w' v' n (fun i => clv (f i - g i)) 0 ∧ Un d (c + (cntV (fun i => ovv (f i - g i)) n)) w w') ?_
    intro hnm hl
    subst hnm
    have hsz : (w.alloc (.cells #[.slice ada n ca, .slice adb n cb] 23)).heap.size = w.heap.size + 1 := by simp
    have h := pairs_Sub (.pointer (some ⟨d, 0, none⟩)) (fun j W => Un d (c + cntV (fun i => ovv (f i - g i)) j) (w.alloc (.cells #[.slice ada n ca, .slice adb n cb] 23)) W) _ _ n f g (fun i => clv (f i - g i)) (w.alloc (.cells #[.slice ada n ca, .slice adb n cb] 23)) hn (hA.later hb0) (hB.later hb0) (by simpa [cntV] using Un.same hc' hf') (fun j W W' h hb => h.ahead hb) (fun j W a x hx h => h.setnew a x (by rw [hsz]; omega) hx) (fun j W h => ⟨(hA.later hb0).un ha h, (hB.later hb0).un hb h⟩) (fun j _ => clv_fit _) (fun j W hj hW h => by
      have r := cnt_rng (fun i => ovv (f i - g i)) j
      obtain ⟨_, _, _, _, _, _, _, _, hx⟩ := hA
      obtain ⟨_, _, _, _, _, _, _, _, hy⟩ := hB
      have hx := (hx j hj).2
      have hy := (hy j hj).2
      refine (uSub_un (f j) (g j) hx.1 hx.2 hy.1 hy.2 d _ (by omega) (by omega) W h.c h.f).mono ?_
      rintro e w' ⟨rfl, hU⟩
      refine ⟨rfl, ?_, hU.k _ (by omega) (by rw [hsz]; omega), hU.s⟩
      have e1 : c + cntV (fun i => ovv (f i - g i)) (j + 1) = c + cntV (fun i => ovv (f i - g i)) j + bi (ovv (f j - g j)) := by rw [Int.add_assoc]; rfl
      show Un d (c + cntV (fun i => ovv (f i - g i)) (j + 1)) _ w'
      rw [e1]
      exact h.chain hU)
    refine h.mono ?_
    rintro e w' ⟨rfl, hS, hX⟩
    exact ⟨_, rfl, ⟨fun _ => hX, fun h => absurd rfl h, fun a n' cap' e _ => (by cases e; simp)⟩, Un.after hb0 hS⟩
  have HU : Hid (Un d c w (w.alloc (.cells #[.slice ada n ca, .slice adb m cb] 23))) := Un.after hb0 (Un.same hc' hf')
  clear hA hB ha hb hc hf hc' hf' hb0
  go_enter Tryz.func135, Tryz.ntmps135
  go_wp2_with fail
  refine CP.out.mono ?_
  rintro e w1 ⟨ad, l, cp, rfl, hQ, hN⟩
  have HQN : Hid ((dE n m = 0 → (fun v' w' => LL w w' v' n (fun i => clv (f i - g i)) 0 ∧ Un d (c + (cntV (fun i => ovv (f i - g i)) n)) w w') (.slice ad l cp) w1) ∧ (dE n m ≠ 0 → ad = none ∧ l = 0 ∧ cp = 0 ∧ w1 = (w.alloc (.cells #[.slice ada n ca, .slice adb m cb] 23)))) := ⟨hQ, hN⟩
  clear CP hQ hN
  go_wp2
  go_ret2
  by_cases hE : dE n m = 0
  · obtain ⟨h1, h2⟩ := HQN.out.1 hE
    rw [hE]
    exact ⟨_, rfl, h1, (by unfold cE; rw [if_pos rfl]; exact h2)⟩
  · obtain ⟨rfl, rfl, rfl, rfl⟩ := HQN.out.2 hE
    exact ⟨_, rfl, ⟨fun h => absurd h hE, fun _ => ⟨none, 0, rfl⟩, fun a n' cap' e => (by cases e)⟩, (by unfold cE; rw [if_neg hE, Int.add_zero]; exact HU.out)⟩

set_option maxHeartbeats 2000000 in
theorem Sub_nil (va vb : Value) (n m : Nat) (f g : Nat → Int) (w : World) (hn : n ≤ 70000) (hm : m ≤ 70000) (hA : Ar w va n f) (hB : Ar w vb m g) :
    Calls Tryz.prog 135 #[.pointer none, va, vb] w fun e w' => ∃ v', e = .returned (.tuple #[v', .int .i64 (dE n m)]) ∧ LL w w' v' n (fun i => clv (f i - g i)) (dE n m) ∧ Below w.heap.size w w' := by
  obtain ⟨ada, ca, ba, oa, rfl, x1, x2, -, -⟩ := id hA
  obtain ⟨adb, cb, bb, ob, rfl, y1, y2, -, -⟩ := id hB
  have hb0 := bel1 w (.cells #[.slice ada n ca, .slice adb m cb] 23)
  have hmf := hmf_any
  have CP : Hid (Calls Tryz.prog 136 #[.slice ada n ca, .slice adb m cb, .func (.func 137) #[.pointer none] #[]] w fun e w' => ∃ (ad : Option Addr) (l cp : Nat), e = .returned (.tuple #[.slice ad l cp, .int .i64 (dE n m)]) ∧ (dE n m = 0 → (fun v' w' => LL w w' v' n (fun i => clv (f i - g i)) 0 ∧ Below w.heap.size w w') (.slice ad l cp) w') ∧ (dE n m ≠ 0 → ad = none ∧ l = 0 ∧ cp = 0 ∧ w' = (w.alloc (.cells #[.slice ada n ca, .slice adb m cb] 23)))) := by
    refine paired_of _ ada adb n m ca cb hn hm w (fun v' w' => LL w w' v' n (fun i => clv (f i - g i)) 0 ∧ Below w.heap.size w w') ?_
    intro hnm hl
    subst hnm
    have hsz : (w.alloc (.cells #[.slice ada n ca, .slice adb n cb] 23)).heap.size = w.heap.size + 1 := by simp
    have h := pairs_Sub (.pointer none) (fun j W => Below (w.alloc (.cells #[.slice ada n ca, .slice adb n cb] 23)).heap.size (w.alloc (.cells #[.slice ada n ca, .slice adb n cb] 23)) W) _ _ n f g (fun i => clv (f i - g i)) (w.alloc (.cells #[.slice ada n ca, .slice adb n cb] 23)) hn (hA.later hb0) (hB.later hb0) (Below.refl _ _) (fun j W W' h hb => bchain h hb) (fun j W a x hx h => h.setCell hx _) (fun j W h => ⟨(hA.later hb0).later h, (hB.later hb0).later h⟩) (fun j _ => clv_fit _) (fun j W hj hW h => by
      obtain ⟨_, _, _, _, _, _, _, _, hx⟩ := hA
      obtain ⟨_, _, _, _, _, _, _, _, hy⟩ := hB
      have hx := (hx j hj).2
      have hy := (hy j hj).2
      refine (uSub_nil (f j) (g j) hx.1 hx.2 hy.1 hy.2 W).mono ?_
      rintro e w' ⟨rfl, hb⟩
      exact ⟨rfl, bchain h hb, hb.block _ hW, hb.size⟩)
    refine h.mono ?_
    rintro e w' ⟨rfl, hS, hX⟩
    exact ⟨_, rfl, ⟨fun _ => hX, fun h => absurd rfl h, fun a n' cap' e _ => (by cases e; simp)⟩, bchain hb0 hS⟩
  have HU : Hid (Below w.heap.size w (w.alloc (.cells #[.slice ada n ca, .slice adb m cb] 23))) := hb0
  clear hA hB hb0
  go_enter Tryz.func135, Tryz.ntmps135
  go_wp2_with fail
  refine CP.out.mono ?_
  rintro e w1 ⟨ad, l, cp, rfl, hQ, hN⟩
  have HQN : Hid ((dE n m = 0 → (fun v' w' => LL w w' v' n (fun i => clv (f i - g i)) 0 ∧ Below w.heap.size w w') (.slice ad l cp) w1) ∧ (dE n m ≠ 0 → ad = none ∧ l = 0 ∧ cp = 0 ∧ w1 = (w.alloc (.cells #[.slice ada n ca, .slice adb m cb] 23)))) := ⟨hQ, hN⟩
  clear CP hQ hN
  go_wp2
  go_ret2
  by_cases hE : dE n m = 0
  · obtain ⟨h1, h2⟩ := HQN.out.1 hE
    rw [hE]
    exact ⟨_, rfl, h1, h2⟩
  · obtain ⟨rfl, rfl, rfl, rfl⟩ := HQN.out.2 hE
    exact ⟨_, rfl, ⟨fun h => absurd h hE, fun _ => ⟨none, 0, rfl⟩, fun a n' cap' e => (by cases e)⟩, HU.out⟩

end Go.Proofs.YtdfjnbkkdgolnabGreatDoor
