/-
  RandWords: any key and place have the document's word.
-/
import Derived.Test.YtoojakjbpbjeaaaEBase
import Derived.Deep.RegionHeld3
set_option linter.unusedVariables false
set_option linter.unusedSimpArgs false
namespace Go.Proofs.Ytoojakjbpbjeaaa
open Go.RowKit

set_option maxHeartbeats 2000000 in
theorem lkey_any (s : Nat) (a b c : Int) (w : World) :
    Calls Try.prog 12 #[.agg #[.int .u64 (s : Int), .int .i64 a, .int .i64 b, .int .i64 c]] w fun e w' => e = .returned (.agg #[.int .u64 (s : Int), .int .i64 a, .int .i64 b, .int .i64 c]) ∧ Below w.heap.size w w' := by
  have hb0 := bel2 w (.cells #[.int .u64 (s : Int), .int .i64 a, .int .i64 b, .int .i64 c] 24) (.cells #[.int .u64 (s : Int), .int .i64 a, .int .i64 b, .int .i64 c] 28)
  go_enter Try.func12, Try.ntmps12
  go_wp2
  exact bodyPost_ret (v := .agg #[.int .u64 (s : Int), .int .i64 a, .int .i64 b, .int .i64 c]) (by simp [results, Try.results12, go_sem]) rfl ⟨rfl, hb0⟩
set_option maxRecDepth 100000 in
set_option maxHeartbeats 4000000 in
theorem randWords_any (V : Rand1) (s : Nat) (a b c i : Int) (hk : Ky s a b c) (i0 : -9223372036854775808 ≤ i) (i1 : i ≤ 9223372036854775807) (w : World) (hV : RT w) :
    Calls Try.prog 3 #[.agg #[.int .u64 (s : Int), .int .i64 a, .int .i64 b, .int .i64 c], .int .i64 i] w fun e w' => e = .returned (.bool true) ∧ Below w.heap.size w w' := by
  have HW : Hid (∀ W : World, Below w.heap.size w W → Calls Try.prog 10 #[.agg #[.int .u64 (s : Int), .int .i64 a, .int .i64 b, .int .i64 c], .int .i64 i] W fun e w' => e = .returned (.int .u64 ((wdN s a b c i : Nat) : Int)) ∧ Below W.heap.size W w') := fun W hb => V.word s a b c i W hk i0 i1 (hV.later hb)
  have HR : Hid (∀ W : World, Calls Try.prog 11 #[.agg #[.int .u64 (s : Int), .int .i64 a, .int .i64 b, .int .i64 c], .int .i64 i] W fun e w' => e = .returned (.int .u64 ((wdN s a b c i : Nat) : Int)) ∧ Below W.heap.size W w') := fun W => refWord_any s a b c i hk i0 i1 W
  have HL : Hid (∀ W : World, Calls Try.prog 12 #[.agg #[.int .u64 (s : Int), .int .i64 a, .int .i64 b, .int .i64 c]] W fun e w' => e = .returned (.agg #[.int .u64 (s : Int), .int .i64 a, .int .i64 b, .int .i64 c]) ∧ Below W.heap.size W w') := fun W => lkey_any s a b c W
  have HA : Hid (∀ W : World, Below w.heap.size w W → Calls Try.prog 9 #[] W fun e w' => e = .returned (.bool true) ∧ Below W.heap.size W w') := fun W hb => rawake_any V W (hV.later hb)
  generalize wdN s a b c i = X at *
  have hXE : (((X : Nat) : Int) == (X : Int)) = true := by simp
  clear hk i0 i1 hV V
  have K0 : K4 w.heap.size (.int .u64 (s : Int)) (.int .i64 a) (.int .i64 b) (.int .i64 c) (w.alloc (.cells #[.int .u64 (s : Int), .int .i64 a, .int .i64 b, .int .i64 c] 24)) := ⟨by simp [go_sem], by simp [go_sem], by simp [go_sem], by simp [go_sem]⟩
  have B0 : Hid (Below w.heap.size w (w.alloc (.cells #[.int .u64 (s : Int), .int .i64 a, .int .i64 b, .int .i64 c] 24))) := bel1 w _
  go_enter Try.func3, Try.ntmps3
  go_upto_region 1 with fail
  generalize w.alloc (.cells #[.int .u64 (s : Int), .int .i64 a, .int .i64 b, .int .i64 c] 24) = w1 at *
  go_wp2_with fail
  refine (HA.out _ B0.out).mono ?_
  rintro e w2 ⟨rfl, hb⟩
  have B2' : Hid (Below w.heap.size w w2) := bchain B0.out hb
  have K2 := K0.later hb
  clear hb B0 K0 HA
  go_upto_region 3 with fail
  have hd1 : Below w2.heap.size w2 w2.drew := (Below.refl _ _).drew
  have A := K2.later hd1
  have CW : Hid (Below w.heap.size w w2.drew) := bchain B2'.out hd1
  clear hd1 K2 B2'
  go_region_held3 (fun w' => w'.cell? ⟨w.heap.size, 0, none⟩ = some (.int .u64 (s : Int)) ∧ w'.cell? ⟨w.heap.size, 1, none⟩ = some (.int .i64 a) ∧ w'.cell? ⟨w.heap.size, 2, none⟩ = some (.int .i64 b) ∧ w'.cell? ⟨w.heap.size, 3, none⟩ = some (.int .i64 c))
    (exact ⟨A.c0, A.c1, A.c2, A.c3⟩)
    (first
      | (go_at_call 10; refine (HW.out _ CW.out).mono ?_; rintro e wz ⟨rfl, hb⟩; replace A := A.later hb; replace CW : Hid (Below w.heap.size w wz) := bchain CW.out hb; clear hb)
      | (go_at_call 11; refine (HR.out _).mono ?_; rintro e wz ⟨rfl, hb⟩; replace A := A.later hb; replace CW : Hid (Below w.heap.size w wz) := bchain CW.out hb; clear hb)
      | (go_at_call 12; refine (HL.out _).mono ?_; rintro e wz ⟨rfl, hb⟩; replace A := A.later hb; replace CW : Hid (Below w.heap.size w wz) := bchain CW.out hb; clear hb))
  go_wp2
  go_ret
  exact ⟨by first | rfl | simp, CW.out⟩
end Go.Proofs.Ytoojakjbpbjeaaa
