/-
  The contracts of regattaref03's Digits and Whole.
-/
import Derived.Test.YtekdpeiemfppiaaDoorSWalkB
import Derived.Laws.BytesArg
import Derived.Laws.Concat
set_option linter.unusedVariables false
set_option linter.unusedSimpArgs false
namespace Go.Proofs.YtekdpeiemfppiaaDoor
open Go.RowKit

/-- A list of bytes as a string. -/
def bs (l : List UInt8) : ByteArray := ⟨l.toArray⟩
/-- The digits of a number. -/
def dl (n : Nat) : List UInt8 := if n < 10 then [UInt8.ofNat (48 + n)] else dl (n / 10) ++ [UInt8.ofNat (48 + n % 10)]
  termination_by n
theorem dl_lt (n : Nat) (h : n < 10) : dl n = [UInt8.ofNat (48 + n)] := by rw [dl, if_pos h]
theorem dl_ge (n : Nat) (h : ¬ n < 10) : dl n = dl (n / 10) ++ [UInt8.ofNat (48 + n % 10)] := by rw [dl, if_neg h]

theorem conv1 (W : World) (p : Nat) (x : Int) (hc : W.cell? ⟨p, 0, none⟩ = some (.int .u8 x)) : (convert 74 9 (.slice (some ⟨p, 0, none⟩) 1 1)).run Tryd.prog W = .ok (.string (bs [UInt8.ofNat x.toNat])) W :=
  run_convert_bytes_arg W 74 5 Tryd.underlying74 Tryd.underlying5 p 0 1 1 [x] rfl (fun i hi => by
    obtain rfl : i = 0 := by omega
    exact hc) 9 Tryd.underlying9
theorem bs_app (a b : List UInt8) : bs a ++ bs b = bs (a ++ b) := ByteArray.mk_append_mk a b
theorem bs_size (a : List UInt8) : (bs a).size = a.length := by unfold bs; rfl
theorem dl_len (n : Nat) (k : Nat) (hk : 1 ≤ k) (h : n < 10 ^ k) : 1 ≤ (dl n).length ∧ (dl n).length ≤ k := by
  induction k generalizing n with
  | zero => omega
  | succ k ih =>
    by_cases hn : n < 10
    · rw [dl_lt n hn]; simp
    · rw [dl_ge n hn, List.length_append]
      by_cases hk0 : k = 0
      · subst hk0; omega
      · have := ih (n / 10) (by omega) (by rw [Nat.pow_succ] at h; omega)
        simp
        omega
theorem dl_len20 (n : Nat) (h : n < 18446744073709551616) : 1 ≤ (dl n).length ∧ (dl n).length ≤ 20 := dl_len n 20 (by omega) (by omega)

set_option maxHeartbeats 1000000 in
theorem sdigits_lt (n : Nat) (h : n < 10) (w : World) :
    Calls Tryd.prog 23 #[.int .u64 (n : Int)] w fun e w' => e = .returned (.string (bs (dl n))) ∧ Below w.heap.size w w' := by
  have h' : (n : Int) < 10 := by omega
  have w1 := wrap_small (48 + (n : Int)) (by omega) (by omega)
  have hcv := conv1 (w.alloc (.cells #[.int .u8 (48 + (n : Int))] 5)) w.heap.size (48 + (n : Int)) (by simp [go_sem])
  rw [dl_lt n h, show 48 + n = (48 + (n : Int)).toNat by omega]
  have W1 := bel1 w (.cells #[.int .u8 (48 + (n : Int))] 5)
  go_enter Tryd.func23, Tryd.ntmps23
  go_wp2
  go_ret
  exact ⟨rfl, W1⟩
theorem wrap_byte (x : Int) (h0 : 0 ≤ x) (h1 : x ≤ 255) : IntKind.u8.wrap x = x := by rw [IntKind.wrap_u8]; omega
theorem hidA' {a b : World} (h : Hid (Below a.heap.size a b)) (o : Obj) : Hid (Below a.heap.size a (b.alloc o)) := h.out.alloc h.out.size o
theorem hidC {a b c : World} (h : Hid (Below a.heap.size a b)) (k : Below b.heap.size b c) : Hid (Below a.heap.size a c) := bchain h.out k
set_option maxHeartbeats 2000000 in
theorem sdigits_any (N : Nat) : ∀ n : Nat, n ≤ N → n < 18446744073709551616 → ∀ w : World,
    Calls Tryd.prog 23 #[.int .u64 (n : Int)] w fun e w' => e = .returned (.string (bs (dl n))) ∧ Below w.heap.size w w' := by
  induction N with
  | zero => intro n hn hlt w; exact sdigits_lt n (by omega) w
  | succ N ih =>
    intro n hn hlt w
    by_cases h10 : n < 10
    · exact sdigits_lt n h10 w
    · have IH : Hid (∀ W : World, Calls Tryd.prog 23 #[.int .u64 ((n : Int) / 10)] W fun e w' => e = .returned (.string (bs (dl (n / 10)))) ∧ Below W.heap.size W w') := by
        intro W
        have h := ih (n / 10) (by omega) (by omega) W
        rw [show ((n / 10 : Nat) : Int) = (n : Int) / 10 by omega] at h
        exact h
      clear ih
      have h' : ¬ (n : Int) < 10 := by omega
      have n0 : (0 : Int) ≤ n := by omega
      have t1 := Int.tmod_eq_emod_of_nonneg (b := 10) n0
      have t2 := Int.tdiv_eq_ediv_of_nonneg (b := 10) n0
      have w1 := wrap_small (48 + (n : Int) % 10) (by omega) (by omega)
      have w2 := wrap_small ((n : Int) / 10) (by omega) (by omega)
      have w3 := wrap_small ((n : Int) % 10) (by omega) (by omega)
      have w4 := wrap_byte (48 + (n : Int) % 10) (by omega) (by omega)
      have r0 : 0 ≤ (n : Int) % 10 := by omega
      have r1 : (n : Int) % 10 ≤ 9 := by omega
      obtain ⟨l0, l1⟩ := dl_len20 (n / 10) (by omega)
      rw [dl_ge n h10, ← bs_app, show 48 + n % 10 = (48 + (n : Int) % 10).toNat by omega]
      have hcv0 : ∀ (W : World) (p : Nat), W.cell? ⟨p, 0, none⟩ = some (.int .u8 (48 + (n : Int) % 10)) → (convert 74 9 (.slice (some ⟨p, 0, none⟩) 1 1)).run Tryd.prog W = .ok (.string (bs [UInt8.ofNat (48 + (n : Int) % 10).toNat])) W := fun W p hc => conv1 W p _ hc
      generalize UInt8.ofNat (48 + (n : Int) % 10).toNat = c at *
      have hcv : ∀ (W : World) (p : Nat), W.cell? ⟨p, 0, none⟩ = some (.int .u8 (48 + (n : Int) % 10)) → (convert 74 9 (.slice (some ⟨p, 0, none⟩) 1 1)).run Tryd.prog W = .ok (.string (bs [c])) W := hcv0
      clear hcv0
      go_enter Tryd.func23, Tryd.ntmps23
      have z1 := bs_size (dl (n / 10))
      have z2 : (bs [c]).size = 1 := bs_size [c]
      have CV : Hid (Below w.heap.size w w.drew) := (Below.refl _ _).drew
      go_upto_region 3 with fail
      go_region_with (go_at_call 23; refine (IH.out _).mono ?_; rintro e wz ⟨rfl, hb⟩; first
        | (have C : wz.cell? ⟨w.heap.size, 0, none⟩ = some (.int .u8 (48 + (n : Int) % 10)) := cell_later (w := w.drew.alloc (.cells #[.int .u8 (48 + (n : Int) % 10)] 5)) hb (by simp [go_sem]); replace CV := hidC (hidA' CV _) hb; clear hb)
        | (replace CV := hidC CV hb; clear hb))
      all_goals
        go_wp2
        go_ret
        first | exact ⟨rfl, CV.out⟩ | exact ⟨rfl, CV.out.alloc CV.out.size _⟩
theorem sdigits (n : Int) (n0 : 0 ≤ n) (n1 : n < 18446744073709551616) (w : World) :
    Calls Tryd.prog 23 #[.int .u64 n] w fun e w' => e = .returned (.string (bs (dl n.toNat))) ∧ Below w.heap.size w w' := by
  have h := sdigits_any n.toNat n.toNat (Nat.le_refl _) (by omega) w
  rw [Int.toNat_of_nonneg n0] at h
  exact h
/-- A whole number's text. -/
def wl (a : Int) : List UInt8 := if a < 0 then 45 :: dl (-a).toNat else dl a.toNat
set_option maxHeartbeats 1000000 in
theorem swholet_any (a : Int) (a0 : -9223372036854775808 ≤ a) (a1 : a ≤ 9223372036854775807) (w : World) :
    Calls Tryd.prog 17 #[.int .i64 a] w fun e w' => e = .returned (.string (bs (wl a))) ∧ Below w.heap.size w w' := by
  unfold wl
  by_cases hn : a < 0
  · rw [if_pos hn, show (45 :: dl (-a).toNat) = [45] ++ dl (-a).toNat from rfl, ← bs_app]
    have e1 : ab a = -a := by unfold ab; rw [if_pos hn]
    have SZ : Hid (∀ W : World, Calls Tryd.prog 22 #[.int .i64 a] W fun e w' => e = .returned (.int .u64 (-a)) ∧ w' = W) := by
      intro W
      have h := ssize_any a a0 a1 W
      rw [e1] at h
      exact h
    have DG : Hid (∀ W : World, Calls Tryd.prog 23 #[.int .u64 (-a)] W fun e w' => e = .returned (.string (bs (dl (-a).toNat))) ∧ Below W.heap.size W w') := fun W => sdigits (-a) (by omega) (by omega) W
    obtain ⟨l0, l1⟩ := dl_len20 (-a).toNat (by omega)
    have z1 := bs_size (dl (-a).toNat)
    generalize dl (-a).toNat = l at *
    go_enter Tryd.func17, Tryd.ntmps17
    go_wp2_with fail
    refine (SZ.out _).mono ?_
    rintro e w1 ⟨rfl, hz⟩
    subst hz
    clear SZ
    go_wp2_with fail
    refine (DG.out _).mono ?_
    rintro e w2 ⟨rfl, W2⟩
    clear DG
    go_wp2
    go_ret
    exact ⟨rfl, W2⟩
  · rw [if_neg hn]
    have DG : Hid (∀ W : World, Calls Tryd.prog 23 #[.int .u64 a] W fun e w' => e = .returned (.string (bs (dl a.toNat))) ∧ Below W.heap.size W w') := fun W => sdigits a (by omega) (by omega) W
    have w1 := wrap_small a (by omega) (by omega)
    go_enter Tryd.func17, Tryd.ntmps17
    go_wp2_with fail
    refine (DG.out _).mono ?_
    rintro e w2 ⟨rfl, W2⟩
    clear DG
    go_wp2
    go_ret
    exact ⟨rfl, W2⟩
end Go.Proofs.YtekdpeiemfppiaaDoor
