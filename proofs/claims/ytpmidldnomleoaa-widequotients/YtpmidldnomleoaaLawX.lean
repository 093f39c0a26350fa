/-
  WideQuotients: for every wide number a and every number d of 64 bits the law regattalaw01.WideQuotients returns true: a quotient is the nearest whole number, of two the even one; there is none by 0. No condition.
-/
import Derived.Test.YtpmidldnomleoaaRWalkJ
set_option linter.unusedVariables false
set_option linter.unusedSimpArgs false
namespace Go.Proofs.Ytpmidldnomleoaa
open Go.RowKit

theorem c4_later {w w' : World} {a0 a1 a2 a3 : Addr} {v0 v1 v2 v3 : Value} (h : w.cell? a0 = some v0 ∧ w.cell? a1 = some v1 ∧ w.cell? a2 = some v2 ∧ w.cell? a3 = some v3) (hb : Below w.heap.size w w') : w'.cell? a0 = some v0 ∧ w'.cell? a1 = some v1 ∧ w'.cell? a2 = some v2 ∧ w'.cell? a3 = some v3 := by
  obtain ⟨h0, h1, h2, h3⟩ := h
  exact ⟨cell_later hb h0, cell_later hb h1, cell_later hb h2, cell_later hb h3⟩
theorem hidC {a b c : World} (h : Hid (Below a.heap.size a b)) (k : Below b.heap.size b c) : Hid (Below a.heap.size a c) := bchain h.out k

set_option maxHeartbeats 4000000 in
theorem wideQuotients_walk (a d : Int) (a0 : -170141183460469231731687303715884105728 ≤ a) (a1 : a ≤ 170141183460469231731687303715884105727) (d0 : -9223372036854775808 ≤ d) (d1 : d ≤ 9223372036854775807) (w : World) :
    Calls Try.prog 6 #[.agg #[.int .i64 (hi a), .int .u64 (lo a)], .int .i64 d] w fun e w' => e = .returned (.bool true) ∧ Below w.heap.size w w' := by
  go_enter Try.func6, Try.ntmps6
  go_wp2_with fail
  refine (awake_any _).mono ?_
  rintro e w1 ⟨rfl, hb⟩
  have W1 : Below w.heap.size w w1 := bchain (bel1 _ _) hb
  have B1 := (Bx.new w (.int .i64 (hi a)) (.int .u64 (lo a)) 24).later hb
  clear hb
  have c0 := B1.c0
  have c1 := B1.c1
  by_cases hd : d = 0
  · subst hd
    go_wp2_with fail
    refine (quo_zero _ _ _).mono ?_
    rintro e w2 ⟨rfl, hb⟩
    have W2 := bchain W1 hb
    clear hb W1 B1 c0 c1
    have W3 := bchain W2 (bel1 w2 (.cells #[.int .i64 0, .int .u64 0] 24))
    go_wp2
    go_ret
    exact ⟨rfl, W3⟩
  · have hd' : (d == 0) = false := beq_eq_false_iff_ne.2 hd
    go_wp2_with fail
    refine (quo_any a d a0 a1 d0 d1 hd _).mono ?_
    rintro e w2 ⟨rfl, hb⟩
    have W2 := bchain W1 hb
    have B2 := B1.later hb
    clear hb W1 B1 c0 c1
    go_upto_region 6 with fail
    have L3 := Bx.new w2 (.int .i64 (hi (quo a d))) (.int .u64 (lo (quo a d))) 24
    have B3 := B2.later (bel1 w2 (.cells #[.int .i64 (hi (quo a d)), .int .u64 (lo (quo a d))] 24))
    have W3 := bchain W2 (bel1 w2 (.cells #[.int .i64 (hi (quo a d)), .int .u64 (lo (quo a d))] 24))
    clear B2 W2
    generalize w2.alloc (.cells #[.int .i64 (hi (quo a d)), .int .u64 (lo (quo a d))] 24) = w3 at *
    generalize w2.heap.size = s at *
    obtain ⟨p, hp⟩ : ∃ p, w.heap.size = p := ⟨_, rfl⟩
    rw [hp] at B3 ⊢
    have HP : Hid (w.heap.size = p) := hp
    clear hp
    have C : w3.drew.cell? ⟨p, 0, none⟩ = some (.int .i64 (hi a)) ∧ w3.drew.cell? ⟨p, 1, none⟩ = some (.int .u64 (lo a)) ∧ w3.drew.cell? ⟨s, 0, none⟩ = some (.int .i64 (hi (quo a d))) ∧ w3.drew.cell? ⟨s, 1, none⟩ = some (.int .u64 (lo (quo a d))) := ⟨B3.c0, B3.c1, L3.c0, L3.c1⟩
    have W10 : Hid (Below w.heap.size w w3.drew) := W3.drew
    clear B3 L3 W3
    go_region_held3 (fun w' => w'.cell? ⟨p, 0, none⟩ = some (.int .i64 (hi a)) ∧ w'.cell? ⟨p, 1, none⟩ = some (.int .u64 (lo a)) ∧ w'.cell? ⟨s, 0, none⟩ = some (.int .i64 (hi (quo a d))) ∧ w'.cell? ⟨s, 1, none⟩ = some (.int .u64 (lo (quo a d)))) (exact C) (first
      | (go_at_call 9; refine (bits_any a _).mono ?_; rintro e wz ⟨vz, rfl, hown, hb⟩; replace C := c4_later C hb; replace W10 := hidC W10 hb; clear hb; have AZ := bt_own hown (by omega); clear hown)
      | (go_at_call 30; refine (rquo_any _ a d a0 a1 d0 d1 hd _ AZ).mono ?_; rintro e wz ⟨vz, rfl, AZ2, hb⟩; replace C := c4_later C hb; replace W10 := hidC W10 hb; clear hb; clear AZ)
      | (go_at_call 10; refine (wides_any _ _ _ AZ2).mono ?_; rintro e wz ⟨rfl, hb⟩; replace C := c4_later C hb; replace W10 := hidC W10 hb; clear hb; clear AZ2))
    go_wp2
    go_ret
    exact ⟨rfl, W10.out⟩
end Go.Proofs.Ytpmidldnomleoaa
