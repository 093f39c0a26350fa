/-
  The contract of regattaref05's Perm.
-/
import Derived.Test.YtaifihfiompgaaaEWalkB
import Derived.Test.YtaifihfiompgaaaPWalkD
set_option linter.unusedVariables false
set_option linter.unusedSimpArgs false
namespace Go.Proofs.Ytaifihfiompgaaa
open Go.RowKit

/-- Two change places. -/
def swp (f : Nat → Nat) (i j : Nat) : Nat → Nat := fun k => if k = j then f i else if k = i then f j else f k
/-- The numbers when so many of n have changed places, from the last one down; J says with which. -/
def pmN (J : Nat → Nat) (n : Nat) : Nat → Nat → Nat
  | 0 => fun k => k
  | m + 1 => swp (pmN J n m) (n - 1 - m) (J (n - 1 - m))
theorem pmN_lt (J : Nat → Nat) (n : Nat) (hJ : ∀ i, i < n → J i ≤ i) (m : Nat) (hm : m ≤ n - 1) (k : Nat) (hk : k < n) : pmN J n m k < n := by
  induction m generalizing k with
  | zero => exact hk
  | succ m ih =>
    have hi := hJ (n - 1 - m) (by omega)
    show swp (pmN J n m) _ _ k < n
    unfold swp
    split
    · exact ih (by omega) _ (by omega)
    · split
      · exact ih (by omega) _ (by omega)
      · exact ih (by omega) _ hk
theorem own_rw {w : World} {base : Nat} {e : TypeId} {v : Value} {n : Nat} {f : Nat → Int} (h : w.ownsRow base e 1 v n (il f n)) (hn : 0 < n) : ∃ g cap, v = .slice (some ⟨g, 0, none⟩) n cap ∧ base ≤ g ∧ n ≤ cap ∧ cap ≤ maxLen ∧ Rw g n (fun k => .int .i64 (f k)) w := by
  rcases h.2 with ⟨_, h0⟩ | ⟨g, cap, cur, rfl, hg, hh, hc1, hc2, hsz, htk⟩
  · omega
  · refine ⟨g, cap, rfl, hg, hc1, hc2, ⟨fun k hk => ?_, fun k hk => by simp [World.frozen?, hh]⟩⟩
    rw [h.cellAt k (by omega), il_get f n k hk]
theorem dinfo_int : (Try.prog.info? 3).map (fun i => (i.zero, i.size, i.bytes)) = some (some (.int .i64 0), 1, 8) := by kernel_rfl
theorem K4.far {q : Nat} {x y z u : Value} {w : World} {p : Addr} (h : K4 q x y z u w) (t : Value) (hp : p.block ≠ q) : K4 q x y z u (w.setCell p t) :=
  ⟨cell_set hp h.c0, cell_set hp h.c1, cell_set hp h.c2, cell_set hp h.c3⟩
theorem swp_rw {g n : Nat} {F : Nat → Nat} {w : World} (r : Rw g n (fun k => .int .i64 ((F k : Nat) : Int)) w) (i j : Nat) : Rw g n (fun k => .int .i64 ((swp F i j k : Nat) : Int)) ((w.setCell ⟨g, i, none⟩ (.int .i64 ((F j : Nat) : Int))).setCell ⟨g, j, none⟩ (.int .i64 ((F i : Nat) : Int))) := by
  refine ((r.set i (.int .i64 ((F j : Nat) : Int))).set j (.int .i64 ((F i : Nat) : Int))).congr (fun k hk => ?_)
  unfold swp
  by_cases h1 : k = j
  · rw [if_pos h1, if_pos h1]
  · rw [if_neg h1, if_neg h1]
    by_cases h2 : k = i
    · rw [if_pos h2, if_pos h2]
    · rw [if_neg h2, if_neg h2]
end Go.Proofs.Ytaifihfiompgaaa
