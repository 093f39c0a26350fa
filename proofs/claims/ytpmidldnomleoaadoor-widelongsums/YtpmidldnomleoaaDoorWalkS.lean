/-
  The contract of regatta/wide's Plus.
-/
import Derived.Test.YtpmidldnomleoaaDoorWalkN
import Derived.Test.YtpmidldnomleoaaDoorWalkO
set_option linter.unusedVariables false
set_option linter.unusedSimpArgs false
namespace Go.Proofs.YtpmidldnomleoaaDoor
open Go.RowKit

/-- Two long numbers' cells. -/
def C6 (w' : World) (p : Nat) (ta ma la tb mb lb : Int) : Prop := w'.cell? ⟨p, 0, none⟩ = some (.int .i64 ta) ∧ w'.cell? ⟨p, 1, none⟩ = some (.int .u64 ma) ∧ w'.cell? ⟨p, 2, none⟩ = some (.int .u64 la) ∧ w'.cell? ⟨p + 1, 0, none⟩ = some (.int .i64 tb) ∧ w'.cell? ⟨p + 1, 1, none⟩ = some (.int .u64 mb) ∧ w'.cell? ⟨p + 1, 2, none⟩ = some (.int .u64 lb)
theorem C6.out {w' : World} {p : Nat} {ta ma la tb mb lb : Int} (h : C6 w' p ta ma la tb mb lb) : w'.cell? ⟨p, 0, none⟩ = some (.int .i64 ta) ∧ w'.cell? ⟨p, 1, none⟩ = some (.int .u64 ma) ∧ w'.cell? ⟨p, 2, none⟩ = some (.int .u64 la) ∧ w'.cell? ⟨p + 1, 0, none⟩ = some (.int .i64 tb) ∧ w'.cell? ⟨p + 1, 1, none⟩ = some (.int .u64 mb) ∧ w'.cell? ⟨p + 1, 2, none⟩ = some (.int .u64 lb) := h
theorem c6_later {w w' : World} {p : Nat} {ta ma la tb mb lb : Int} (h : C6 w p ta ma la tb mb lb) (hb : Below w.heap.size w w') : C6 w' p ta ma la tb mb lb := by
  obtain ⟨h0, h1, h2, h3, h4, h5⟩ := h
  exact ⟨cell_later hb h0, cell_later hb h1, cell_later hb h2, cell_later hb h3, cell_later hb h4, cell_later hb h5⟩
theorem c6_set {w : World} {p : Nat} {ta ma la tb mb lb : Int} (h : C6 w p ta ma la tb mb lb) (o : Nat) (x : Value) : C6 (w.setCell ⟨p + 1 + 1, o, none⟩ x) p ta ma la tb mb lb := by
  obtain ⟨h0, h1, h2, h3, h4, h5⟩ := h
  exact ⟨cell_set (by dsimp only; omega) h0, cell_set (by dsimp only; omega) h1, cell_set (by dsimp only; omega) h2, cell_set (by dsimp only; omega) h3, cell_set (by dsimp only; omega) h4, cell_set (by dsimp only; omega) h5⟩

set_option maxHeartbeats 1000000 in
/-- Plus, its callees' answers given. -/
theorem plus_of (ta ma la ua tb mb lb ub ts ms ls us : Int) (w : World)
    (CA : Hid (∀ W : World, Calls Tryd.prog 21 #[.agg #[.int .i64 ta, .int .u64 ma, .int .u64 la]] W fun e w' => e = .returned (.agg #[.int .u64 la, .int .u64 ma, .int .u64 ua]) ∧ Below W.heap.size W w'))
    (CB : Hid (∀ W : World, Calls Tryd.prog 21 #[.agg #[.int .i64 tb, .int .u64 mb, .int .u64 lb]] W fun e w' => e = .returned (.agg #[.int .u64 lb, .int .u64 mb, .int .u64 ub]) ∧ Below W.heap.size W w'))
    (CP : Hid (∀ W : World, Calls Tryd.prog 22 #[.agg #[.int .u64 la, .int .u64 ma, .int .u64 ua], .agg #[.int .u64 lb, .int .u64 mb, .int .u64 ub]] W fun e w' => e = .returned (.agg #[.int .u64 ls, .int .u64 ms, .int .u64 us]) ∧ Below W.heap.size W w'))
    (CL : Hid (∀ W : World, Calls Tryd.prog 23 #[.agg #[.int .u64 ls, .int .u64 ms, .int .u64 us]] W fun e w' => e = .returned (.agg #[.int .i64 ts, .int .u64 ms, .int .u64 ls]) ∧ Below W.heap.size W w')) :
    Calls Tryd.prog 6 #[.agg #[.int .i64 ta, .int .u64 ma, .int .u64 la], .agg #[.int .i64 tb, .int .u64 mb, .int .u64 lb]] w fun e w' => e = .returned (.agg #[.int .i64 ts, .int .u64 ms, .int .u64 ls]) ∧ Below w.heap.size w w' := by
  have A0 := ((B3.new w (.int .i64 ta) (.int .u64 ma) (.int .u64 la) 25).later (bel1 _ (.cells #[.int .i64 tb, .int .u64 mb, .int .u64 lb] 25))).later (bel1 _ (.cells #[.int .i64 0, .int .u64 0, .int .u64 0] 25))
  have C0 := (B3.new (w.alloc (.cells #[.int .i64 ta, .int .u64 ma, .int .u64 la] 25)) (.int .i64 tb) (.int .u64 mb) (.int .u64 lb) 25).later (bel1 _ (.cells #[.int .i64 0, .int .u64 0, .int .u64 0] 25))
  have R0 := B3.new ((w.alloc (.cells #[.int .i64 ta, .int .u64 ma, .int .u64 la] 25)).alloc (.cells #[.int .i64 tb, .int .u64 mb, .int .u64 lb] 25)) (.int .i64 0) (.int .u64 0) (.int .u64 0) 25
  have W0 := bel3 w (.cells #[.int .i64 ta, .int .u64 ma, .int .u64 la] 25) (.cells #[.int .i64 tb, .int .u64 mb, .int .u64 lb] 25) (.cells #[.int .i64 0, .int .u64 0, .int .u64 0] 25)
  simp only [World.size_alloc] at C0 R0
  go_enter Tryd.func6, Tryd.ntmps6
  go_upto_region 1 with fail
  generalize ((w.alloc (.cells #[.int .i64 ta, .int .u64 ma, .int .u64 la] 25)).alloc (.cells #[.int .i64 tb, .int .u64 mb, .int .u64 lb] 25)).alloc (.cells #[.int .i64 0, .int .u64 0, .int .u64 0] 25) = w1 at *
  have hd1 : Below w1.heap.size w1 w1.drew := (Below.refl _ _).drew
  have CO := R0.later hd1
  have CA0 := A0.later hd1
  have CB0 := C0.later hd1
  have CW : Hid (Below w.heap.size w w1.drew) := W0.drew
  have C : C6 w1.drew w.heap.size ta ma la tb mb lb := ⟨CA0.c0, CA0.c1, CA0.c2, CB0.c0, CB0.c1, CB0.c2⟩
  have CC0 := CO.c0
  have CC1 := CO.c1
  have CC2 := CO.c2
  have CF0 := CO.f0
  have CF1 := CO.f1
  have CF2 := CO.f2
  clear hd1 A0 C0 R0 W0 CA0 CB0
  go_region_held3 (fun w' => w'.cell? ⟨w.heap.size, 0, none⟩ = some (.int .i64 ta) ∧ w'.cell? ⟨w.heap.size, 1, none⟩ = some (.int .u64 ma) ∧ w'.cell? ⟨w.heap.size, 2, none⟩ = some (.int .u64 la) ∧ w'.cell? ⟨w.heap.size + 1, 0, none⟩ = some (.int .i64 tb) ∧ w'.cell? ⟨w.heap.size + 1, 1, none⟩ = some (.int .u64 mb) ∧ w'.cell? ⟨w.heap.size + 1, 2, none⟩ = some (.int .u64 lb))
    (first | exact C.out | exact (c6_set (c6_set (c6_set C _ _) _ _) _ _).out)
    (first
      | (go_at_call 21; (first | (refine (CA.out _).mono ?_; clear CA) | (refine (CB.out _).mono ?_; clear CB)); rintro e wz ⟨rfl, hb⟩; replace C := c6_later C hb; replace CC0 := cell_later hb CC0; replace CC1 := cell_later hb CC1; replace CC2 := cell_later hb CC2; replace CF0 := frozen_later hb CO.c0 CF0; replace CF1 := frozen_later hb CO.c1 CF1; replace CF2 := frozen_later hb CO.c2 CF2; replace CO := CO.later hb; replace CW := hidD CW hb; clear hb)
      | (go_at_call 22; refine (CP.out _).mono ?_; rintro e wz ⟨rfl, hb⟩; replace C := c6_later C hb; replace CC0 := cell_later hb CC0; replace CC1 := cell_later hb CC1; replace CC2 := cell_later hb CC2; replace CF0 := frozen_later hb CO.c0 CF0; replace CF1 := frozen_later hb CO.c1 CF1; replace CF2 := frozen_later hb CO.c2 CF2; replace CO := CO.later hb; replace CW := hidD CW hb; clear hb)
      | (go_at_call 23; refine (CL.out _).mono ?_; rintro e wz ⟨rfl, hb⟩; replace C := c6_later C hb; replace CC0 := cell_later hb CC0; replace CC1 := cell_later hb CC1; replace CC2 := cell_later hb CC2; replace CF0 := frozen_later hb CO.c0 CF0; replace CF1 := frozen_later hb CO.c1 CF1; replace CF2 := frozen_later hb CO.c2 CF2; replace CO := CO.later hb; replace CW := hidD CW hb; clear hb))
  have W5 := CW.out
  have S0 := ((CO.set0 (.int .i64 ts)).set1 (.int .u64 ms)).set2 (.int .u64 ls)
  have s0 := S0.c0
  have s1 := S0.c1
  have s2 := S0.c2
  clear C CC0 CC1 CC2 CF0 CF1 CF2 CO CW CP CL S0
  go_wp2
  exact bodyPost_ret (v := .agg #[.int .i64 ts, .int .u64 ms, .int .u64 ls]) (by simp [results, Tryd.results6, go_sem, s0, s1, s2]) rfl ⟨rfl, ((W5.setCell (by dsimp only; omega) _).setCell (by dsimp only; omega) _).setCell (by dsimp only; omega) _⟩

theorem plus_any (a b : Int) (w : World) :
    Calls Tryd.prog 6 #[.agg #[.int .i64 (t3 a), .int .u64 (m3 a), .int .u64 (lo a)], .agg #[.int .i64 (t3 b), .int .u64 (m3 b), .int .u64 (lo b)]] w fun e w' => e = .returned (.agg #[.int .i64 (t3 (a + b)), .int .u64 (m3 (a + b)), .int .u64 (lo (a + b))]) ∧ Below w.heap.size w w' :=
  plus_of (t3 a) (m3 a) (lo a) (u3 a) (t3 b) (m3 b) (lo b) (u3 b) (t3 (a + b)) (m3 (a + b)) (lo (a + b)) (u3 (a + b)) w (fun W => wordsOf_any a W) (fun W => wordsOf_any b W) (fun W => wplus_any a b W) (fun W => wlong_any (a + b) W)
end Go.Proofs.YtpmidldnomleoaaDoor
