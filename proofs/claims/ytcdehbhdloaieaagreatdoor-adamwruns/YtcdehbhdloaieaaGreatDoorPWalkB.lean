/-
  The contracts of vec's sums of products, sums, and of what holds them.
-/
import Derived.Test.YtcdehbhdloaieaaGreatDoorBI
import Derived.Test.YtcdehbhdloaieaaGreatDoorBH
import Derived.Test.YtcdehbhdloaieaaGreatDoorBD
import Derived.Deep.RegionHeld3
set_option linter.unusedVariables false
set_option linter.unusedSimpArgs false
namespace Go.Proofs.YtcdehbhdloaieaaGreatDoor
open Go.RowKit

/-- A block of two cells. -/
structure B2 (b : Nat) (x y : Value) (w : World) : Prop where
  c0 : w.cell? ⟨b, 0, none⟩ = some x
  c1 : w.cell? ⟨b, 1, none⟩ = some y
  f0 : w.frozen? ⟨b, 0, none⟩ = false
  f1 : w.frozen? ⟨b, 1, none⟩ = false
theorem B2.new (w : World) (x y : Value) (t : TypeId) : B2 w.heap.size x y (w.alloc (.cells #[x, y] t)) where
  c0 := by simp [go_sem]
  c1 := by simp [go_sem]
  f0 := by simp [go_sem]
  f1 := by simp [go_sem]
theorem B2.later {b : Nat} {x y : Value} {w w' : World} (h : B2 b x y w) (hb : Below w.heap.size w w') : B2 b x y w' where
  c0 := cell_later hb h.c0
  c1 := cell_later hb h.c1
  f0 := frozen_later hb h.c0 h.f0
  f1 := frozen_later hb h.c1 h.f1
theorem B2.far {b : Nat} {x y : Value} {w : World} {p : Addr} (h : B2 b x y w) (u : Value) (hp : p.block ≠ b) : B2 b x y (w.setCell p u) where
  c0 := cell_set hp h.c0
  c1 := cell_set hp h.c1
  f0 := by rw [World.frozen?_setCell]; exact h.f0
  f1 := by rw [World.frozen?_setCell]; exact h.f1
theorem B2.set0 {b : Nat} {x y : Value} {w : World} (h : B2 b x y w) (u : Value) : B2 b u y (w.setCell ⟨b, 0, none⟩ u) := by
  have c0 := h.c0
  have c1 := h.c1
  have f0 := h.f0
  have f1 := h.f1
  exact ⟨by simp [go_sem, c0], by simp [go_sem, c1], by simp [go_sem, f0], by simp [go_sem, f1]⟩
theorem B2.set1 {b : Nat} {x y : Value} {w : World} (h : B2 b x y w) (u : Value) : B2 b x u (w.setCell ⟨b, 1, none⟩ u) := by
  have c0 := h.c0
  have c1 := h.c1
  have f0 := h.f0
  have f1 := h.f1
  exact ⟨by simp [go_sem, c0], by simp [go_sem, c1], by simp [go_sem, f0], by simp [go_sem, f1]⟩

set_option maxHeartbeats 2000000 in
/-- What products' closure answers, its callees' answers given. -/
theorem prod1_of (ts ms ls x y hp lp tp mp lq tr mr lr : Int) (w : World)
    (CM : Hid (∀ W : World, Calls Tryz.prog 74 #[.int .i64 x, .int .i64 y] W fun e w' => e = .returned (.agg #[.int .i64 hp, .int .u64 lp]) ∧ Below W.heap.size W w'))
    (CE : Hid (∀ W : World, Calls Tryz.prog 76 #[.agg #[.int .i64 hp, .int .u64 lp]] W fun e w' => e = .returned (.agg #[.int .i64 tp, .int .u64 mp, .int .u64 lq]) ∧ Below W.heap.size W w'))
    (CP : Hid (∀ W : World, Calls Tryz.prog 98 #[.agg #[.int .i64 ts, .int .u64 ms, .int .u64 ls], .agg #[.int .i64 tp, .int .u64 mp, .int .u64 lq]] W fun e w' => e = .returned (.agg #[.int .i64 tr, .int .u64 mr, .int .u64 lr]) ∧ Below W.heap.size W w')) :
    Calls Tryz.prog 97 #[.agg #[.int .i64 ts, .int .u64 ms, .int .u64 ls], .int .i64 x, .int .i64 y] w fun e w' => e = .returned (.agg #[.int .i64 tr, .int .u64 mr, .int .u64 lr]) ∧ Below w.heap.size w w' := by
  have A0 := (B3.new w (.int .i64 ts) (.int .u64 ms) (.int .u64 ls) 124).later (bel1 _ (.cells #[.int .i64 0, .int .u64 0, .int .u64 0] 124))
  have R0 := B3.new (w.alloc (.cells #[.int .i64 ts, .int .u64 ms, .int .u64 ls] 124)) (.int .i64 0) (.int .u64 0) (.int .u64 0) 124
  have W0 := bel2 w (.cells #[.int .i64 ts, .int .u64 ms, .int .u64 ls] 124) (.cells #[.int .i64 0, .int .u64 0, .int .u64 0] 124)
  simp only [World.size_alloc] at R0
  go_enter Tryz.func97, Tryz.ntmps97
  go_upto_region 1 with fail
  generalize (w.alloc (.cells #[.int .i64 ts, .int .u64 ms, .int .u64 ls] 124)).alloc (.cells #[.int .i64 0, .int .u64 0, .int .u64 0] 124) = w1 at *
  have hd1 : Below w1.heap.size w1 w1.drew := (Below.refl _ _).drew
  have CO := R0.later hd1
  have A := A0.later hd1
  have CW : Hid (Below w.heap.size w w1.drew) := W0.drew
  have CC0 := CO.c0
  have CC1 := CO.c1
  have CC2 := CO.c2
  have CF0 := CO.f0
  have CF1 := CO.f1
  have CF2 := CO.f2
  clear hd1 A0 R0 W0
  go_region_held3 (fun w' => w'.cell? ⟨w.heap.size, 0, none⟩ = some (.int .i64 ts) ∧ w'.cell? ⟨w.heap.size, 1, none⟩ = some (.int .u64 ms) ∧ w'.cell? ⟨w.heap.size, 2, none⟩ = some (.int .u64 ls))
    (first | exact ⟨A.c0, A.c1, A.c2⟩ | (have A' := ((A.far (p := ⟨w.heap.size + 1, 0, none⟩) (.int .i64 tr) (by dsimp only; omega)).far (p := ⟨w.heap.size + 1, 1, none⟩) (.int .u64 mr) (by dsimp only; omega)).far (p := ⟨w.heap.size + 1, 2, none⟩) (.int .u64 lr) (by dsimp only; omega); exact ⟨A'.c0, A'.c1, A'.c2⟩))
    (first
      | (go_at_call 74; refine (CM.out _).mono ?_; rintro e wz ⟨rfl, hb⟩; replace A := A.later hb; replace CC0 := cell_later hb CC0; replace CC1 := cell_later hb CC1; replace CC2 := cell_later hb CC2; replace CF0 := frozen_later hb CO.c0 CF0; replace CF1 := frozen_later hb CO.c1 CF1; replace CF2 := frozen_later hb CO.c2 CF2; replace CO := CO.later hb; replace CW := hidD CW hb; clear hb)
      | (go_at_call 76; refine (CE.out _).mono ?_; rintro e wz ⟨rfl, hb⟩; replace A := A.later hb; replace CC0 := cell_later hb CC0; replace CC1 := cell_later hb CC1; replace CC2 := cell_later hb CC2; replace CF0 := frozen_later hb CO.c0 CF0; replace CF1 := frozen_later hb CO.c1 CF1; replace CF2 := frozen_later hb CO.c2 CF2; replace CO := CO.later hb; replace CW := hidD CW hb; clear hb)
      | (go_at_call 98; refine (CP.out _).mono ?_; rintro e wz ⟨rfl, hb⟩; replace A := A.later hb; replace CC0 := cell_later hb CC0; replace CC1 := cell_later hb CC1; replace CC2 := cell_later hb CC2; replace CF0 := frozen_later hb CO.c0 CF0; replace CF1 := frozen_later hb CO.c1 CF1; replace CF2 := frozen_later hb CO.c2 CF2; replace CO := CO.later hb; replace CW := hidD CW hb; clear hb))
  have W5 := CW.out
  have S0 := ((CO.set0 (.int .i64 tr)).set1 (.int .u64 mr)).set2 (.int .u64 lr)
  have s0 := S0.c0
  have s1 := S0.c1
  have s2 := S0.c2
  clear A CC0 CC1 CC2 CF0 CF1 CF2 CO CW CM CE CP S0
  go_wp2
  exact bodyPost_ret (v := .agg #[.int .i64 tr, .int .u64 mr, .int .u64 lr]) (by simp [results, Tryz.results97, go_sem, s0, s1, s2]) rfl ⟨rfl, ((W5.setCell (by dsimp only; omega) _).setCell (by dsimp only; omega) _).setCell (by dsimp only; omega) _⟩
theorem prod1_any (s x y : Int) (x0 : -9223372036854775808 ≤ x) (x1 : x ≤ 9223372036854775807) (y0 : -9223372036854775808 ≤ y) (y1 : y ≤ 9223372036854775807) (w : World) :
    Calls Tryz.prog 97 #[.agg #[.int .i64 (t3 (s)), .int .u64 (m3 (s)), .int .u64 (lo (s))], .int .i64 x, .int .i64 y] w fun e w' => e = .returned (.agg #[.int .i64 (t3 (s + x * y)), .int .u64 (m3 (s + x * y)), .int .u64 (lo (s + x * y))]) ∧ Below w.heap.size w w' := by
  obtain ⟨p0, p1⟩ := mul_in x y x0 x1 y0 y1
  exact prod1_of _ _ _ x y _ _ _ _ _ _ _ _ w (fun W => mul_any x y x0 x1 y0 y1 W) (fun W => extend_any (x * y) (by omega) (by omega) W) (fun W => plus_any s (x * y) W)

set_option maxRecDepth 100000 in
set_option maxHeartbeats 4000000 in
theorem gatherPairs_any (va vb : Value) (n : Nat) (f g : Nat → Int) (hn : n ≤ 70000) (w : World) (hA : Ar w va n f) (hB : Ar w vb n g) :
    Calls Tryz.prog 96 #[va, vb, .agg #[.int .i64 0, .int .u64 0, .int .u64 0], .func (.func 97) #[] #[]] w fun e w' => e = .returned (.agg #[.int .i64 (t3 (dotV f g n)), .int .u64 (m3 (dotV f g n)), .int .u64 (lo (dotV f g n))]) ∧ Below w.heap.size w w' := by
  obtain ⟨adr, cap, b, o, rfl, k1, k2, k3, k4⟩ := hA
  obtain ⟨adq, caq, bq, oq, rfl, q1, q2, q3, q4⟩ := hB
  unfold maxLen at *
  have HA : Hid (∀ k, k < n → w.cell? ⟨b, o + k, none⟩ = some (.int .i64 (f k)) ∧ -9223372036854775808 ≤ f k ∧ f k ≤ 9223372036854775807) := k4
  have HK : Hid (0 < n → adr = some ⟨b, o, none⟩) := k3
  have HB : Hid (∀ k, k < n → w.cell? ⟨bq, oq + k, none⟩ = some (.int .i64 (g k)) ∧ -9223372036854775808 ≤ g k ∧ g k ≤ 9223372036854775807) := q4
  have HL : Hid (0 < n → adq = some ⟨bq, oq, none⟩) := q3
  clear k3 k4 q3 q4
  go_enter Tryz.func96, Tryz.ntmps96
  go_wp2
  go_loopw [13] (fun si wr => ∃ j : Nat, j ≤ n ∧ si = .int .i64 (j : Int) ∧ B3 w.heap.size (.int .i64 (t3 (dotV f g j))) (.int .u64 (m3 (dotV f g j))) (.int .u64 (lo (dotV f g j))) wr ∧ B3 (w.heap.size + 1) (.int .i64 0) (.int .u64 0) (.int .u64 0) wr ∧ Below w.heap.size w wr) (fun si _ => n - (intOf si).toNat)
  case atStart =>
    have R0 := B3.new (w.alloc (.cells #[.int .i64 0, .int .u64 0, .int .u64 0] 124)) (.int .i64 0) (.int .u64 0) (.int .u64 0) 124
    simp only [World.size_alloc] at R0
    exact ⟨0, by omega, rfl, (B3.new w (.int .i64 0) (.int .u64 0) (.int .u64 0) 124).later (bel1 _ _), R0, bel2 w _ _⟩
  case round =>
    obtain ⟨j, hj, rfl, hS, hR, hW⟩ := hrel
    by_cases hlt : j < n
    · have hjI : (j : Int) < (n : Int) := by omega
      have ea := HK.out (by omega)
      subst ea
      obtain ⟨ca, a0, a1⟩ := HA.out j hlt
      have cA : wr.cell? ⟨b, o + j, none⟩ = some (.int .i64 (f j)) := (hW.cell (World.block_lt_of_cell? _ _ ca)).trans ca
      clear ca
      have eb := HL.out (by omega)
      subst eb
      obtain ⟨cb, b0, b1⟩ := HB.out j hlt
      have cB : wr.cell? ⟨bq, oq + j, none⟩ = some (.int .i64 (g j)) := (hW.cell (World.block_lt_of_cell? _ _ cb)).trans cb
      clear cb
      have CM : Hid (∀ W : World, Calls Tryz.prog 97 #[.agg #[.int .i64 (t3 (dotV f g j)), .int .u64 (m3 (dotV f g j)), .int .u64 (lo (dotV f g j))], .int .i64 (f j), .int .i64 (g j)] W fun e w' => e = .returned (.agg #[.int .i64 (t3 (dotV f g (j + 1))), .int .u64 (m3 (dotV f g (j + 1))), .int .u64 (lo (dotV f g (j + 1)))]) ∧ Below W.heap.size W w') := fun W => prod1_any (dotV f g j) (f j) (g j) a0 a1 b0 b1 W
      clear a0 a1 b0 b1
      generalize t3 (dotV f g j) = tj at *
      generalize m3 (dotV f g j) = mj at *
      generalize lo (dotV f g j) = lj at *
      obtain ⟨tk, htk⟩ : ∃ x, t3 (dotV f g (j + 1)) = x := ⟨_, rfl⟩
      obtain ⟨mk, hmk⟩ : ∃ x, m3 (dotV f g (j + 1)) = x := ⟨_, rfl⟩
      obtain ⟨lk, hlk⟩ : ∃ x, lo (dotV f g (j + 1)) = x := ⟨_, rfl⟩
      rw [htk, hmk, hlk] at CM
      have HE : Hid (t3 (dotV f g (j + 1)) = tk ∧ m3 (dotV f g (j + 1)) = mk ∧ lo (dotV f g (j + 1)) = lk) := ⟨htk, hmk, hlk⟩
      clear htk hmk hlk
      go_upto_region 4 with fail
      have CD := hS.drew
      have CR := hR.drew
      have CV : Hid (Below w.heap.size w wr.drew) := hW.drew
      have xB : wr.drew.cell? ⟨bq, oq + j, none⟩ = some (.int .i64 (g j)) := cB
      have y0 := CD.c0
      have y1 := CD.c1
      have y2 := CD.c2
      clear cA cB hS hR hW
      go_region_with (first
        | (go_at_call 97; refine (CM.out _).mono ?_; rintro e wz ⟨rfl, hb⟩; clear xB y0 y1 y2; replace CD := CD.later hb; replace CR := CR.later hb; replace CV := hidD' CV hb; clear hb; have y0 := CD.c0; have y1 := CD.c1; have y2 := CD.c2; have z0 := CD.f0; have z1 := CD.f1; have z2 := CD.f2))
      all_goals
        have D5 := ((CD.set0 (.int .i64 tk)).set1 (.int .u64 mk)).set2 (.int .u64 lk)
        have R5 := ((CR.far (p := ⟨w.heap.size, 0, none⟩) (.int .i64 tk) (by dsimp only; omega)).far (p := ⟨w.heap.size, 1, none⟩) (.int .u64 mk) (by dsimp only; omega)).far (p := ⟨w.heap.size, 2, none⟩) (.int .u64 lk) (by dsimp only; omega)
        have W5 := ((CV.out.setCell (p := ⟨w.heap.size, 0, none⟩) (Nat.le_refl _) (.int .i64 tk)).setCell (p := ⟨w.heap.size, 1, none⟩) (Nat.le_refl _) (.int .u64 mk)).setCell (p := ⟨w.heap.size, 2, none⟩) (Nat.le_refl _) (.int .u64 lk)
        obtain ⟨rfl, rfl, rfl⟩ := HE.out
        clear CD CR CV CM y0 y1 y2 z0 z1 z2 HE
        go_wp2
        go_roundw
        case rel => exact ⟨j + 1, by omega, by go_num, D5, R5, W5⟩
        case measure => simp [intOf]; omega
    · obtain rfl : j = n := by omega
      have hjI : ¬ (j : Int) < (j : Int) := by omega
      have y0 := hS.c0
      have y1 := hS.c1
      have y2 := hS.c2
      have z0 := hR.c0
      have z1 := hR.c1
      have z2 := hR.c2
      have u0 := hR.f0
      have u1 := hR.f1
      have u2 := hR.f2
      have S0 := ((hR.set0 (.int .i64 (t3 (dotV f g j)))).set1 (.int .u64 (m3 (dotV f g j)))).set2 (.int .u64 (lo (dotV f g j)))
      have s0 := S0.c0
      have s1 := S0.c1
      have s2 := S0.c2
      have W5 := ((hW.setCell (p := ⟨w.heap.size + 1, 0, none⟩) (by dsimp only; omega) (.int .i64 (t3 (dotV f g j)))).setCell (p := ⟨w.heap.size + 1, 1, none⟩) (by dsimp only; omega) (.int .u64 (m3 (dotV f g j)))).setCell (p := ⟨w.heap.size + 1, 2, none⟩) (by dsimp only; omega) (.int .u64 (lo (dotV f g j)))
      clear hS hR hW S0 HA HB HK HL
      go_wp2
      exact bodyPost_ret (v := .agg #[.int .i64 (t3 (dotV f g j)), .int .u64 (m3 (dotV f g j)), .int .u64 (lo (dotV f g j))]) (by simp [results, Tryz.results96, go_sem, s0, s1, s2]) rfl ⟨rfl, W5⟩

set_option maxHeartbeats 1000000 in
theorem products_any (va vb : Value) (n : Nat) (f g : Nat → Int) (hn : n ≤ 70000) (w : World) (hA : Ar w va n f) (hB : Ar w vb n g) :
    Calls Tryz.prog 68 #[va, vb] w fun e w' => e = .returned (.agg #[.int .i64 (t3 (dotV f g n)), .int .u64 (m3 (dotV f g n)), .int .u64 (lo (dotV f g n))]) ∧ Below w.heap.size w w' := by
  have hb0 := bel1 w (.cells #[.int .i64 0, .int .u64 0, .int .u64 0] 124)
  have CG : Hid (Calls Tryz.prog 96 #[va, vb, .agg #[.int .i64 0, .int .u64 0, .int .u64 0], .func (.func 97) #[] #[]] (w.alloc (.cells #[.int .i64 0, .int .u64 0, .int .u64 0] 124)) fun e w' => e = .returned (.agg #[.int .i64 (t3 (dotV f g n)), .int .u64 (m3 (dotV f g n)), .int .u64 (lo (dotV f g n))]) ∧ Below (w.alloc (.cells #[.int .i64 0, .int .u64 0, .int .u64 0] 124)).heap.size (w.alloc (.cells #[.int .i64 0, .int .u64 0, .int .u64 0] 124)) w') := gatherPairs_any va vb n f g hn _ (hA.later hb0) (hB.later hb0)
  have R0 := B3.new w (.int .i64 0) (.int .u64 0) (.int .u64 0) 124
  obtain ⟨adr, cap, b, o, rfl, -, -, -, -⟩ := hA
  obtain ⟨adq, caq, bq, oq, rfl, -, -, -, -⟩ := hB
  generalize t3 (dotV f g n) = tj at *
  generalize m3 (dotV f g n) = mj at *
  generalize lo (dotV f g n) = lj at *
  go_enter Tryz.func68, Tryz.ntmps68
  go_wp2_with fail
  refine CG.out.mono ?_
  rintro e w1 ⟨rfl, hb⟩
  have W1 := bchain hb0 hb
  have R1 := R0.later hb
  have z0 := R1.c0
  have z1 := R1.c1
  have z2 := R1.c2
  have u0 := R1.f0
  have u1 := R1.f1
  have u2 := R1.f2
  have S0 := ((R1.set0 (.int .i64 tj)).set1 (.int .u64 mj)).set2 (.int .u64 lj)
  have s0 := S0.c0
  have s1 := S0.c1
  have s2 := S0.c2
  have W5 := ((W1.setCell (p := ⟨w.heap.size, 0, none⟩) (Nat.le_refl _) (.int .i64 tj)).setCell (p := ⟨w.heap.size, 1, none⟩) (Nat.le_refl _) (.int .u64 mj)).setCell (p := ⟨w.heap.size, 2, none⟩) (Nat.le_refl _) (.int .u64 lj)
  clear R0 R1 S0 hb hb0 W1 CG
  go_wp2
  exact bodyPost_ret (v := .agg #[.int .i64 tj, .int .u64 mj, .int .u64 lj]) (by simp [results, Tryz.results68, go_sem, s0, s1, s2]) rfl ⟨rfl, W5⟩

theorem dotV_rng (va vb : Value) (n : Nat) (f g : Nat → Int) (hn : n ≤ 70000) (w : World) (hA : Ar w va n f) (hB : Ar w vb n g) : -3138550867693340381917894711603833208051177722232017256448 ≤ dotV f g n ∧ dotV f g n ≤ 3138550867693340381917894711603833208051177722232017256447 := by
  obtain ⟨_, _, _, _, _, _, _, _, h1⟩ := hA
  obtain ⟨_, _, _, _, _, _, _, _, h2⟩ := hB
  have key : ∀ k, k ≤ n → -((k : Int) * 85070591730234615865843651857942052864) ≤ dotV f g k ∧ dotV f g k ≤ (k : Int) * 85070591730234615865843651857942052864 := by
    intro k
    induction k with
    | zero => intro _; exact ⟨by simp [dotV], by simp [dotV]⟩
    | succ k ih =>
      intro hk
      obtain ⟨i0, i1⟩ := ih (by omega)
      obtain ⟨p0, p1⟩ := mul_in (f k) (g k) (h1 k (by omega)).2.1 (h1 k (by omega)).2.2 (h2 k (by omega)).2.1 (h2 k (by omega)).2.2
      have e : dotV f g (k + 1) = dotV f g k + f k * g k := rfl
      rw [e]
      generalize f k * g k = p at *
      constructor <;> omega
  obtain ⟨a, b⟩ := key n (Nat.le_refl _)
  constructor <;> omega
theorem sumV_small (va : Value) (n : Nat) (f : Nat → Int) (w : World) (hA : Ar w va n f) : -((n : Int) * 9223372036854775808) ≤ sumV f n ∧ sumV f n ≤ (n : Int) * 9223372036854775808 := by
  obtain ⟨_, _, _, _, _, _, _, _, h1⟩ := hA
  have key : ∀ k, k ≤ n → -((k : Int) * 9223372036854775808) ≤ sumV f k ∧ sumV f k ≤ (k : Int) * 9223372036854775808 := by
    intro k
    induction k with
    | zero => intro _; exact ⟨by simp [sumV], by simp [sumV]⟩
    | succ k ih =>
      intro hk
      obtain ⟨i0, i1⟩ := ih (by omega)
      have p0 := (h1 k (by omega)).2.1
      have p1 := (h1 k (by omega)).2.2
      have e : sumV f (k + 1) = sumV f k + f k := rfl
      rw [e]
      constructor <;> omega
  exact key n (Nat.le_refl _)
theorem sumV_rng (va : Value) (n : Nat) (f : Nat → Int) (hn : n ≤ 9223372036854775807) (w : World) (hA : Ar w va n f) : -170141183460469231731687303715884105728 ≤ sumV f n ∧ sumV f n ≤ 170141183460469231731687303715884105727 := by
  obtain ⟨a, b⟩ := sumV_small va n f w hA
  constructor <;> omega
theorem vroot_all (a : Int) (a0 : -3138550867693340381917894711603833208051177722232017256448 ≤ a) (a1 : a ≤ 3138550867693340381917894711603833208051177722232017256447) (w : World) :
    Calls Tryz.prog 67 #[.agg #[.int .i64 (t3 a), .int .u64 (m3 a), .int .u64 (lo a)]] w fun e w' => e = .returned (.tuple #[.int .i64 (rtX a), .bool (rtO a)]) ∧ Below w.heap.size w w' := by
  unfold rtX rtO
  by_cases hn : a < 0
  · rw [if_pos hn, if_pos hn]
    exact root_neg _ _ _ (words_neg a hn (by omega)) w
  · rw [if_neg hn, if_neg hn]
    by_cases hb : 85070591730234615865843651857942052864 ≤ a
    · rw [if_pos hb, if_pos hb]
      exact root_big _ _ _ (words_big a hb (by omega)).1 (words_big a hb (by omega)).2 w
    · rw [if_neg hb, if_neg hb]
      exact root_mid a (by omega) (by omega) w

theorem rtX_fit (V : Int) : -9223372036854775808 ≤ rtX V ∧ rtX V ≤ 9223372036854775807 := by
  unfold rtX
  split
  · omega
  · rename_i h
    split
    · omega
    · have := rt_spec V (by omega) (by omega)
      omega

set_option maxHeartbeats 1000000 in
theorem vnorm_nil (va : Value) (n : Nat) (f : Nat → Int) (hn : n ≤ 70000) (w : World) (hA : Ar w va n f) :
    Calls Tryz.prog 41 #[.pointer none, va] w fun e w' => e = .returned (.int .i64 (rtX (dotV f f n))) ∧ Below w.heap.size w w' := by
  have CG : Hid (Calls Tryz.prog 68 #[va, va] w fun e w' => e = .returned (.agg #[.int .i64 (t3 (dotV f f n)), .int .u64 (m3 (dotV f f n)), .int .u64 (lo (dotV f f n))]) ∧ Below w.heap.size w w') := products_any va va n f f hn w hA hA
  obtain ⟨r0, r1⟩ := dotV_rng va va n f f hn w hA hA
  have CR : Hid (∀ W : World, Calls Tryz.prog 67 #[.agg #[.int .i64 (t3 (dotV f f n)), .int .u64 (m3 (dotV f f n)), .int .u64 (lo (dotV f f n))]] W fun e w' => e = .returned (.tuple #[.int .i64 (rtX (dotV f f n)), .bool (rtO (dotV f f n))]) ∧ Below W.heap.size W w') := fun W => vroot_all (dotV f f n) r0 r1 W
  obtain ⟨k0, k1⟩ := rtX_fit (dotV f f n)
  obtain ⟨adr, cap, b, o, rfl, -, -, -, -⟩ := hA
  clear r0 r1
  generalize rtX (dotV f f n) = x at *
  generalize rtO (dotV f f n) = y at *
  generalize t3 (dotV f f n) = tj at *
  generalize m3 (dotV f f n) = mj at *
  generalize lo (dotV f f n) = lj at *
  go_enter Tryz.func41, Tryz.ntmps41
  go_wp2_with fail
  refine CG.out.mono ?_
  rintro e w1 ⟨rfl, W1⟩
  clear CG
  go_wp2_with fail
  refine (CR.out _).mono ?_
  rintro e w2 ⟨rfl, hb⟩
  have W2 := bchain W1 hb
  clear hb W1 CR
  go_wp2_with fail
  refine (take_nil _ _ _).mono ?_
  rintro e w3 ⟨rfl, hz⟩
  subst hz
  go_wp2
  go_ret
  exact ⟨rfl, W2⟩

set_option maxHeartbeats 1000000 in
theorem vnorm_un (va : Value) (n : Nat) (f : Nat → Int) (hn : n ≤ 70000) (d : Nat) (c : Int) (c0 : 0 ≤ c) (c1 : c ≤ 1000000000) (w : World) (hA : Ar w va n f) (hc : w.cell? ⟨d, 0, none⟩ = some (.int .i64 c)) (hf : w.frozen? ⟨d, 0, none⟩ = false) :
    Calls Tryz.prog 41 #[.pointer (some ⟨d, 0, none⟩), va] w fun e w' => e = .returned (.int .i64 (rtX (dotV f f n))) ∧ Un d (c + bi (rtO (dotV f f n))) w w' := by
  have CG : Hid (Calls Tryz.prog 68 #[va, va] w fun e w' => e = .returned (.agg #[.int .i64 (t3 (dotV f f n)), .int .u64 (m3 (dotV f f n)), .int .u64 (lo (dotV f f n))]) ∧ Below w.heap.size w w') := products_any va va n f f hn w hA hA
  obtain ⟨r0, r1⟩ := dotV_rng va va n f f hn w hA hA
  have CR : Hid (∀ W : World, Calls Tryz.prog 67 #[.agg #[.int .i64 (t3 (dotV f f n)), .int .u64 (m3 (dotV f f n)), .int .u64 (lo (dotV f f n))]] W fun e w' => e = .returned (.tuple #[.int .i64 (rtX (dotV f f n)), .bool (rtO (dotV f f n))]) ∧ Below W.heap.size W w') := fun W => vroot_all (dotV f f n) r0 r1 W
  obtain ⟨k0, k1⟩ := rtX_fit (dotV f f n)
  obtain ⟨adr, cap, b, o, rfl, -, -, -, -⟩ := hA
  clear r0 r1
  generalize rtX (dotV f f n) = x at *
  generalize rtO (dotV f f n) = y at *
  generalize t3 (dotV f f n) = tj at *
  generalize m3 (dotV f f n) = mj at *
  generalize lo (dotV f f n) = lj at *
  go_enter Tryz.func41, Tryz.ntmps41
  go_wp2_with fail
  refine CG.out.mono ?_
  rintro e w1 ⟨rfl, W1⟩
  clear CG
  go_wp2_with fail
  refine (CR.out _).mono ?_
  rintro e w2 ⟨rfl, hb⟩
  have W2 := bchain W1 hb
  have x1 := cell_later W2 hc
  have y1 := frozen_later W2 hc hf
  clear hb W1 CR
  go_wp2_with fail
  refine (take_un d c _ _ c0 c1 _ x1 y1).mono ?_
  rintro e w3 ⟨rfl, hU⟩
  have hV := Un.after W2 hU
  clear hU x1 y1 hc hf
  go_wp2
  go_ret
  exact ⟨rfl, hV⟩
end Go.Proofs.YtcdehbhdloaieaaGreatDoor
