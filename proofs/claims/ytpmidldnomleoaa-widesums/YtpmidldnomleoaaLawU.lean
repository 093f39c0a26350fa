/-
  WideSums: for all wide numbers a, b and every number n of 64 bits the law regattalaw01.WideSums returns true: sums, differences and numbers below 0 are those of whole numbers, wrapped round, and of two the greater is told. No condition.
-/
import Derived.Test.YtpmidldnomleoaaRWalkF
set_option linter.unusedVariables false
set_option linter.unusedSimpArgs false
namespace Go.Proofs.Ytpmidldnomleoaa
open Go.RowKit

theorem Bt.drew {w : World} {v : Value} {m : Nat} {a : Int} (h : Bt w v m a) : Bt w.drew v m a := h.later ((Below.refl _ _).drew)

theorem c8_later {w w' : World} {a0 a1 a2 a3 a4 a5 a6 a7 : Addr} {v0 v1 v2 v3 v4 v5 v6 v7 : Value} (h : w.cell? a0 = some v0 ∧ w.cell? a1 = some v1 ∧ w.cell? a2 = some v2 ∧ w.cell? a3 = some v3 ∧ w.cell? a4 = some v4 ∧ w.cell? a5 = some v5 ∧ w.cell? a6 = some v6 ∧ w.cell? a7 = some v7) (hb : Below w.heap.size w w') : w'.cell? a0 = some v0 ∧ w'.cell? a1 = some v1 ∧ w'.cell? a2 = some v2 ∧ w'.cell? a3 = some v3 ∧ w'.cell? a4 = some v4 ∧ w'.cell? a5 = some v5 ∧ w'.cell? a6 = some v6 ∧ w'.cell? a7 = some v7 := by
  obtain ⟨h0, h1, h2, h3, h4, h5, h6, h7⟩ := h
  exact ⟨cell_later hb h0, cell_later hb h1, cell_later hb h2, cell_later hb h3, cell_later hb h4, cell_later hb h5, cell_later hb h6, cell_later hb h7⟩
theorem hidB {a b c : World} (h : Hid (Below a.heap.size a b)) (k : Below b.heap.size b c) : Hid (Below a.heap.size a c) := bchain h.out k

set_option maxHeartbeats 4000000 in
theorem wideSums_walk (a b n : Int) (a0 : -170141183460469231731687303715884105728 ≤ a) (a1 : a ≤ 170141183460469231731687303715884105727) (b0 : -170141183460469231731687303715884105728 ≤ b) (b1 : b ≤ 170141183460469231731687303715884105727) (n0 : -9223372036854775808 ≤ n) (n1 : n ≤ 9223372036854775807) (w : World) :
    Calls Try.prog 3 #[.agg #[.int .i64 (hi a), .int .u64 (lo a)], .agg #[.int .i64 (hi b), .int .u64 (lo b)], .int .i64 n] w fun e w' => e = .returned (.bool true) ∧ Below w.heap.size w w' := by
  have ra := inr_128 a a0 a1
  have rb := inr_128 b b0 b1
  go_enter Try.func3, Try.ntmps3
  go_wp2_with fail
  refine (awake_any _).mono ?_
  rintro e w1 ⟨rfl, hb⟩
  have W1 : Below w.heap.size w w1 := bchain (bel2 _ _ _) hb
  have X1 := ((Bx.new w (.int .i64 (hi a)) (.int .u64 (lo a)) 24).later (bel1 _ (.cells #[.int .i64 (hi b), .int .u64 (lo b)] 24))).later hb
  have Y1 := (Bx.new (w.alloc (.cells #[.int .i64 (hi a), .int .u64 (lo a)] 24)) (.int .i64 (hi b)) (.int .u64 (lo b)) 24).later hb
  simp only [World.size_alloc] at Y1
  clear hb
  go_upto_region 3 with fail
  have c0 := X1.c0
  have c1 := X1.c1
  have c2 := Y1.c0
  have c3 := Y1.c1
  go_region_held3 (fun w' => w'.cell? ⟨w.heap.size, 0, none⟩ = some (.int .i64 (hi a)) ∧ w'.cell? ⟨w.heap.size, 1, none⟩ = some (.int .u64 (lo a)) ∧ w'.cell? ⟨w.heap.size + 1, 0, none⟩ = some (.int .i64 (hi b)) ∧ w'.cell? ⟨w.heap.size + 1, 1, none⟩ = some (.int .u64 (lo b))) (refine ⟨?_, ?_, ?_, ?_⟩ <;> (repeat (first | assumption | refine cell_later (by assumption) ?_ | refine cell_drew ?_))) (first | (go_at_call_of 9 (hi a); refine (bits_any a _).mono ?_; rintro e w2 ⟨v2, rfl, hown2, hb2⟩) | (go_at_call_of 9 (hi b); refine (bits_any b _).mono ?_; rintro e w3 ⟨v3, rfl, hown3, hb3⟩))
  have hd1 : Below w1.heap.size w1 w1.drew := (Below.refl _ _).drew
  have Ax := (bt_own hown2 (by omega)).later hb3
  have Ay := bt_own hown3 (by omega)
  have X3 := ((X1.later hd1).later hb2).later hb3
  have Y3 := ((Y1.later hd1).later hb2).later hb3
  have W3 := bchain (bchain (bchain W1 hd1) hb2) hb3
  clear hd1 hown2 hown3 hb2 hb3 X1 Y1 W1 c0 c1 c2 c3
  go_wp2_with fail
  refine (radd_any _ _ 128 a b (by omega) (by omega) _ Ax Ay).mono ?_
  rintro e w4 ⟨v4, rfl, hown, hb⟩
  have A4 := bt_own hown (by omega)
  replace Ax := Ax.later hb
  replace Ay := Ay.later hb
  have X4 := X3.later hb
  have Y4 := Y3.later hb
  have W4 := bchain W3 hb
  clear hown hb X3 Y3 W3
  go_wp2_with fail
  refine (wides_any _ (a + b) _ A4).mono ?_
  rintro e w5 ⟨rfl, hb⟩
  replace Ax := Ax.later hb
  replace Ay := Ay.later hb
  have X5 := X4.later hb
  have Y5 := Y4.later hb
  have W5 := bchain W4 hb
  clear hb X4 Y4 W4 A4
  go_wp2_with fail
  refine (rneg_any _ 128 b (by omega) (by omega) _ Ay).mono ?_
  rintro e w6 ⟨v6, rfl, hown, hb⟩
  have A6 := bt_own hown (by omega)
  replace Ax := Ax.later hb
  replace Ay := Ay.later hb
  have X6 := X5.later hb
  have Y6 := Y5.later hb
  have W6 := bchain W5 hb
  clear hown hb X5 Y5 W5
  go_wp2_with fail
  refine (radd_any _ _ 128 a (-b) (by omega) (by omega) _ Ax A6).mono ?_
  rintro e w7 ⟨v7, rfl, hown, hb⟩
  rw [← Int.sub_eq_add_neg] at hown
  have A7 := bt_own hown (by omega)
  replace Ax := Ax.later hb
  replace Ay := Ay.later hb
  have X7 := X6.later hb
  have Y7 := Y6.later hb
  have W7 := bchain W6 hb
  clear hown hb X6 Y6 W6 A6
  go_wp2_with fail
  refine (wides_any _ (a - b) _ A7).mono ?_
  rintro e w8 ⟨rfl, hb⟩
  replace Ax := Ax.later hb
  replace Ay := Ay.later hb
  have X8 := X7.later hb
  have Y8 := Y7.later hb
  have W8 := bchain W7 hb
  clear hb X7 Y7 W7 A7
  go_upto_region 5 with fail
  have S9 := (Bx.new w8 (.int .i64 (hi (a + b))) (.int .u64 (lo (a + b))) 24).later (bel1 _ (.cells #[.int .i64 (hi (a - b)), .int .u64 (lo (a - b))] 24))
  have L9 := Bx.new (w8.alloc (.cells #[.int .i64 (hi (a + b)), .int .u64 (lo (a + b))] 24)) (.int .i64 (hi (a - b))) (.int .u64 (lo (a - b))) 24
  have hb9 := bel2 w8 (.cells #[.int .i64 (hi (a + b)), .int .u64 (lo (a + b))] 24) (.cells #[.int .i64 (hi (a - b)), .int .u64 (lo (a - b))] 24)
  replace Ax := Ax.later hb9
  replace Ay := Ay.later hb9
  have X9 := X8.later hb9
  have Y9 := Y8.later hb9
  have W9 := bchain W8 hb9
  simp only [World.size_alloc] at L9
  clear hb9 X8 Y8 W8
  generalize (w8.alloc (.cells #[.int .i64 (hi (a + b)), .int .u64 (lo (a + b))] 24)).alloc (.cells #[.int .i64 (hi (a - b)), .int .u64 (lo (a - b))] 24) = w9 at *
  generalize w8.heap.size = s at *
  obtain ⟨p, hp⟩ : ∃ p, w.heap.size = p := ⟨_, rfl⟩
  rw [hp] at X9 Y9 ⊢
  have HP : Hid (w.heap.size = p) := hp
  clear hp
  have C : w9.drew.cell? ⟨p, 0, none⟩ = some (.int .i64 (hi a)) ∧ w9.drew.cell? ⟨p, 1, none⟩ = some (.int .u64 (lo a)) ∧ w9.drew.cell? ⟨p + 1, 0, none⟩ = some (.int .i64 (hi b)) ∧ w9.drew.cell? ⟨p + 1, 1, none⟩ = some (.int .u64 (lo b)) ∧ w9.drew.cell? ⟨s, 0, none⟩ = some (.int .i64 (hi (a + b))) ∧ w9.drew.cell? ⟨s, 1, none⟩ = some (.int .u64 (lo (a + b))) ∧ w9.drew.cell? ⟨s + 1, 0, none⟩ = some (.int .i64 (hi (a - b))) ∧ w9.drew.cell? ⟨s + 1, 1, none⟩ = some (.int .u64 (lo (a - b))) := ⟨X9.c0, X9.c1, Y9.c0, Y9.c1, S9.c0, S9.c1, L9.c0, L9.c1⟩
  replace Ax := Ax.drew
  replace Ay := Ay.drew
  have W10 : Hid (Below w.heap.size w w9.drew) := W9.drew
  clear X9 Y9 S9 L9 W9
  go_region_held3 (fun w' => w'.cell? ⟨p, 0, none⟩ = some (.int .i64 (hi a)) ∧ w'.cell? ⟨p, 1, none⟩ = some (.int .u64 (lo a)) ∧ w'.cell? ⟨p + 1, 0, none⟩ = some (.int .i64 (hi b)) ∧ w'.cell? ⟨p + 1, 1, none⟩ = some (.int .u64 (lo b)) ∧ w'.cell? ⟨s, 0, none⟩ = some (.int .i64 (hi (a + b))) ∧ w'.cell? ⟨s, 1, none⟩ = some (.int .u64 (lo (a + b))) ∧ w'.cell? ⟨s + 1, 0, none⟩ = some (.int .i64 (hi (a - b))) ∧ w'.cell? ⟨s + 1, 1, none⟩ = some (.int .u64 (lo (a - b)))) (exact C) (first
    | (go_at_call 13; refine (of_any n n0 n1 _).mono ?_; rintro e wz ⟨rfl, hb⟩; replace Ay := Ay.later hb; replace Ax := Ax.later hb; replace C := c8_later C hb; replace W10 := hidB W10 hb; clear hb)
    | (go_at_call 14; refine (int_any n 128 n0 n1 (by omega) _).mono ?_; rintro e wz ⟨vz, rfl, hown, hb⟩; replace Ay := Ay.later hb; replace Ax := Ax.later hb; replace C := c8_later C hb; replace W10 := hidB W10 hb; clear hb; have AZ := bt_own hown (by omega))
    | (go_at_call 10; refine (wides_any _ _ _ AZ).mono ?_; rintro e wz ⟨rfl, hb⟩; replace Ay := Ay.later hb; replace Ax := Ax.later hb; replace C := c8_later C hb; replace W10 := hidB W10 hb; clear hb; clear AZ)
    | (go_at_call 15; refine (add_any a b _).mono ?_; rintro e wz ⟨rfl, hb⟩; replace Ay := Ay.later hb; replace Ax := Ax.later hb; replace C := c8_later C hb; replace W10 := hidB W10 hb; clear hb)
    | (go_at_call 16; refine (sub_any a b _).mono ?_; rintro e wz ⟨rfl, hb⟩; replace Ay := Ay.later hb; replace Ax := Ax.later hb; replace C := c8_later C hb; replace W10 := hidB W10 hb; clear hb)
    | (go_at_call 17; refine (neg_any b _).mono ?_; rintro e wz ⟨rfl, hb⟩; replace Ay := Ay.later hb; replace Ax := Ax.later hb; replace C := c8_later C hb; replace W10 := hidB W10 hb; clear hb)
    | (go_at_call 12; refine (rneg_any _ 128 b (by omega) (by omega) _ Ay).mono ?_; rintro e wz ⟨vz, rfl, hown, hb⟩; replace Ay := Ay.later hb; replace Ax := Ax.later hb; replace C := c8_later C hb; replace W10 := hidB W10 hb; clear hb; have AZ := bt_own hown (by omega))
    | (go_at_call 18; refine (cmp_any a b a0 a1 b0 b1 _).mono ?_; rintro e wz ⟨rfl, hb⟩; replace Ay := Ay.later hb; replace Ax := Ax.later hb; replace C := c8_later C hb; replace W10 := hidB W10 hb; clear hb)
    | (go_at_call 19; refine (rcmp_any _ _ 128 a b (by omega) (by omega) ra rb _ Ax Ay).mono ?_; rintro e wz ⟨rfl, hb⟩; replace Ay := Ay.later hb; replace Ax := Ax.later hb; replace C := c8_later C hb; replace W10 := hidB W10 hb; clear hb))
  go_wp2
  go_ret
  exact ⟨rfl, W10.out⟩
end Go.Proofs.Ytpmidldnomleoaa
