/-
  The contract of regattaref03's Parse, of any text.
-/
import Derived.Test.YtekdpeiemfppiaaDoorDWalkG
set_option linter.unusedVariables false
set_option linter.unusedSimpArgs false
namespace Go.Proofs.YtekdpeiemfppiaaDoor
open Go.RowKit

/-- What stands behind the point. -/
def bE (l : List UInt8) : List UInt8 := if pW l = true then [] else pE l
/-- The number of steps that a text says. -/
def pV (l : List UInt8) : Int := if pB l = true then -((rq (num (pA l ++ bE l) * 4294967296) (bE l).length : Nat) : Int) else ((rq (num (pA l ++ bE l) * 4294967296) (bE l).length : Nat) : Int)
/-- Is it too long? -/
def pL (l : List UInt8) : Bool := decide (20 < (pA l).length) || decide (40 < (bE l).length)
def prX (l : List UInt8) : Int := if pOk l = true then (if pL l = true then 0 else clv (pV l)) else 0
def prH (l : List UInt8) : Bool := if pOk l = true then (if pL l = true then false else ovv (pV l)) else false
def prE (l : List UInt8) : Int := if pOk l = true then (if pL l = true then 31 else 0) else 30
theorem pOk_no (l : List UInt8) (h : pOk l = false) : prX l = 0 ∧ prH l = false ∧ prE l = 30 := by
  unfold prX prH prE
  rw [h]
  exact ⟨rfl, rfl, rfl⟩
theorem pOk_long (l : List UInt8) (h : pOk l = true) (h2 : pL l = true) : prX l = 0 ∧ prH l = false ∧ prE l = 31 := by
  unfold prX prH prE
  rw [h, h2]
  exact ⟨rfl, rfl, rfl⟩
theorem pOk_good (l : List UInt8) (h : pOk l = true) (h2 : pL l = false) : prX l = clv (pV l) ∧ prH l = ovv (pV l) ∧ prE l = 0 := by
  unfold prX prH prE
  rw [h, h2]
  exact ⟨rfl, rfl, rfl⟩

set_option maxRecDepth 100000 in
set_option maxHeartbeats 2000000 in
theorem sparse_fail (l : List UInt8) (x b : List UInt8) (bel : Bool) (P0 : ∀ W : World, Calls Tryd.prog 18 #[.string (bs l)] W fun e w' => e = .returned (.tuple #[.bool bel, .string (bs x), .string (bs b), .bool false]) ∧ Below W.heap.size W w') (w : World) :
    Calls Tryd.prog 13 #[.string (bs l)] w fun e w' => e = .returned (.tuple #[.int .i64 0, .bool false, .int .i64 30]) ∧ Below w.heap.size w w' := by
  have P : Hid (∀ W : World, Calls Tryd.prog 18 #[.string (bs l)] W fun e w' => e = .returned (.tuple #[.bool bel, .string (bs x), .string (bs b), .bool false]) ∧ Below W.heap.size W w') := P0
  clear P0
  go_enter Tryd.func13, Tryd.ntmps13
  go_wp2_with fail
  refine (P.out _).mono ?_
  rintro e w1 ⟨rfl, W1⟩
  clear P
  go_wp2
  exact bodyPost_ret (v := .tuple #[.int .i64 0, .bool false, .int .i64 30]) (by simp [results, Tryd.results13, go_sem]) rfl ⟨rfl, W1⟩
set_option maxRecDepth 100000 in
set_option maxHeartbeats 2000000 in
theorem sparse_long (l : List UInt8) (a b : List UInt8) (bel : Bool) (la : a.length ≤ 1000) (lb : b.length ≤ 1000) (hL : 20 < a.length ∨ 40 < b.length) (P0 : ∀ W : World, Calls Tryd.prog 18 #[.string (bs l)] W fun e w' => e = .returned (.tuple #[.bool bel, .string (bs a), .string (bs b), .bool true]) ∧ Below W.heap.size W w') (w : World) :
    Calls Tryd.prog 13 #[.string (bs l)] w fun e w' => e = .returned (.tuple #[.int .i64 0, .bool false, .int .i64 31]) ∧ Below w.heap.size w w' := by
  have P : Hid (∀ W : World, Calls Tryd.prog 18 #[.string (bs l)] W fun e w' => e = .returned (.tuple #[.bool bel, .string (bs a), .string (bs b), .bool true]) ∧ Below W.heap.size W w') := P0
  have za := bs_size a
  have zb := bs_size b
  clear P0
  by_cases h1 : (20 : Int) < (a.length : Int)
  · clear hL
    go_enter Tryd.func13, Tryd.ntmps13
    go_wp2_with fail
    refine (P.out _).mono ?_
    rintro e w1 ⟨rfl, W1⟩
    clear P
    go_wp2
    exact bodyPost_ret (v := .tuple #[.int .i64 0, .bool false, .int .i64 31]) (by simp [results, Tryd.results13, go_sem]) rfl ⟨rfl, W1⟩
  · have h2 : (40 : Int) < (b.length : Int) := by omega
    clear hL
    go_enter Tryd.func13, Tryd.ntmps13
    go_wp2_with fail
    refine (P.out _).mono ?_
    rintro e w1 ⟨rfl, W1⟩
    clear P
    go_wp2
    exact bodyPost_ret (v := .tuple #[.int .i64 0, .bool false, .int .i64 31]) (by simp [results, Tryd.results13, go_sem]) rfl ⟨rfl, W1⟩
theorem sparse_any (l : List UInt8) (hl : l.length ≤ 1000) (w : World) :
    Calls Tryd.prog 13 #[.string (bs l)] w fun e w' => e = .returned (.tuple #[.int .i64 (prX l), .bool (prH l), .int .i64 (prE l)]) ∧ Below w.heap.size w w' := by
  have PT := sparts_any l (by omega)
  have hlS : (pS l).length ≤ 1000 := by unfold pS; split <;> (try rw [List.length_drop]) <;> omega
  have hlA : (pA l).length ≤ 1000 := by unfold pA; rw [List.length_take]; omega
  have hlE : (bE l).length ≤ 1000 := by unfold bE; split; · simp
                                        · unfold pE; rw [List.length_drop]; omega
  cases hO : pO l
  · have h := pOk_no l (by unfold pOk; rw [hO]; rfl)
    rw [hO] at PT
    rw [h.1, h.2.1, h.2.2]
    exact sparse_fail l [] [] false PT w
  · have PT2 : ∀ W : World, Calls Tryd.prog 18 #[.string (bs l)] W fun e w' => e = .returned (.tuple #[.bool (pB l), .string (bs (pA l)), .string (bs (bE l)), .bool (pW l || isD (pE l))]) ∧ Below W.heap.size W w' := by
      intro W
      have h := PT W
      rw [if_pos hO] at h
      exact h
    cases hK : (pW l || isD (pE l))
    · have h := pOk_no l (by unfold pOk; rw [hO, hK]; rfl)
      rw [hK] at PT2
      rw [h.1, h.2.1, h.2.2]
      exact sparse_fail l _ _ _ PT2 w
    · have hok : pOk l = true := by unfold pOk; rw [hO, hK]; rfl
      rw [hK] at PT2
      have hDA : isD (pA l) = true := by
        unfold pO at hO
        rw [Bool.and_eq_true] at hO
        exact hO.1
      have hDE : ∀ i, i < (bE l).length → 48 ≤ gb (bE l) i ∧ gb (bE l) i ≤ 57 := by
        intro i hi
        unfold bE at hi ⊢
        cases hW : pW l
        · rw [hW] at hK
          rw [hW] at hi
          exact isD_at (pE l) hK i hi
        · rw [hW] at hi
          simp at hi
      cases hL : pL l
      · have h := pOk_good l hok hL
        rw [h.1, h.2.1, h.2.2]
        unfold pL at hL
        rw [Bool.or_eq_false_iff] at hL
        simp at hL
        exact sparse_good l (pB l) (pA l) (bE l) hDA hDE hL.1 hL.2 PT2 w
      · have h := pOk_long l hok hL
        rw [h.1, h.2.1, h.2.2]
        unfold pL at hL
        simp at hL
        exact sparse_long l (pA l) (bE l) (pB l) hlA hlE hL PT2 w
end Go.Proofs.YtekdpeiemfppiaaDoor
