/-
  The program's pack: what a writer writes (Uint, Int, Fix, Bytes, Ints, Fixes), and its Done.
-/
import Derived.Test.YtahbpegjdmblaaaPpA
set_option linter.unusedVariables false
set_option linter.unusedSimpArgs false
namespace Go.Proofs.Ytahbpegjdmblaaa
open Go.RowKit

set_option maxRecDepth 100000 in
set_option maxHeartbeats 1000000 in
theorem wuint_any (w : World) (p : Value) (F : Nat → Prop) (s : Sta) (n : Nat) (h : Wp w p F s) (hn : n < 18446744073709551616) :
    Calls Try.prog 28 #[p, .int .u64 (n : Int)] w fun e w' => e = .returned (.tuple #[]) ∧ Af Wp p F (pt s (enU n)) w w' := by
  have HS : Hid (∃ F1, Wp w p F1 (pt s []) ∧ Gr F F1 w ∧ Kp F w w) := ⟨F, by rw [pt_nil h]; exact h, fun _ h => Or.inl h, Kp.refl _ _⟩
  clear h
  go_enter Try.func28, Try.ntmps28
  go_upto_region 0 with fail
  go_loopw [1] (fun s1 wr => ∃ (m : Nat) (l : List Nat), m ≤ n ∧ s1 = .int .u64 (m : Int) ∧ Hid (enU n = l ++ enU m) ∧ Hid (∃ F1, Wp wr p F1 (pt s l) ∧ Gr F F1 w ∧ Kp F w wr)) (fun s1 _ => (intOf s1).toNat)
  case atStart => exact ⟨n, [], by omega, rfl, rfl, HS⟩
  case round =>
    clear HS
    obtain ⟨m, l, hm, rfl, HE, HS⟩ := hrel
    by_cases hge : 128 ≤ m
    · have hgeI : (128 : Int) ≤ (m : Int) := by omega
      obtain ⟨r, hr⟩ : ∃ r, m % 256 = r := ⟨_, rfl⟩
      obtain ⟨x, hx⟩ : ∃ x, m % 128 + 128 = x := ⟨_, rfl⟩
      obtain ⟨d, hd⟩ : ∃ d, m / 128 = d := ⟨_, rfl⟩
      have hw1 : IntKind.u8.wrap (m : Int) = (r : Int) := by rw [IntKind.wrap_u8]; omega
      have hor : bits .or .u8 (r : Int) 128 = (x : Int) := by
        have h := or8p r 128 (by omega) (by omega)
        rw [or_128m r (by omega), show r % 128 + 128 = x by omega] at h
        exact h
      have hd1 : (m : Int) / 128 = (d : Int) := by omega
      have hw4 : IntKind.u64.wrap (d : Int) = (d : Int) := by rw [IntKind.wrap_u64]; omega
      have HE2 : Hid (enU n = (l ++ [x]) ++ enU d) := by
        show _ = _
        rw [HE.out, enU_ge hge, hx, hd, List.append_assoc]
        rfl
      have hdm : d < m := by omega
      clear hr hd hx HE
      go_wp2_with fail
      obtain ⟨F1, hW, hG, hK⟩ := HS.out
      refine (add_any _ p F1 _ _ [x] (hW.later (bel1 _ _)) (bs_one wr x _) (by simp)).mono ?_
      rintro e w1 ⟨rfl, hA⟩
      have HS2 : Hid (∃ F1, Wp w1 p F1 (pt s (l ++ [x])) ∧ Gr F F1 w ∧ Kp F w w1) := by
        rw [pt_pt] at hA
        exact Af.tr hG (hK.alloc _) hA
      clear hA HS hW hG hK
      go_wp2
      go_roundw
      case rel => exact ⟨d, l ++ [x], by omega, rfl, HE2, HS2⟩
      case measure => simp only [intOf]; omega
    · have hgeI : ¬ (128 : Int) ≤ (m : Int) := by omega
      have hw3 : IntKind.u8.wrap (m : Int) = (m : Int) := by rw [IntKind.wrap_u8]; omega
      have HE2 : Hid (enU n = l ++ [m]) := by
        show _ = _
        rw [HE.out, enU_lt (by omega)]
      clear HE
      go_wp2_with fail
      obtain ⟨F1, hW, hG, hK⟩ := HS.out
      refine (add_any _ p F1 _ _ [m] (hW.later (bel1 _ _)) (bs_one wr m _) (by simp)).mono ?_
      rintro e w1 ⟨rfl, hA⟩
      have HS2 : Hid (Af Wp p F (pt s (enU n)) w w1) := by
        rw [pt_pt, ← HE2.out] at hA
        exact Af.tr hG (hK.alloc _) hA
      clear hA HS hW hG hK
      go_wp2
      go_end0
      exact ⟨rfl, HS2.out⟩
set_option maxRecDepth 100000 in
set_option maxHeartbeats 1000000 in
theorem wint_any (w : World) (p : Value) (F : Nat → Prop) (s : Sta) (n : Int) (h : Wp w p F s) (hn : okI n) :
    Calls Try.prog 29 #[p, .int .i64 n] w fun e w' => e = .returned (.tuple #[]) ∧ Af Wp p F (pt s (enI n)) w w' := by
  obtain ⟨h1, h2⟩ := hn
  have hc := ctI_lt h1 h2
  have HW : Hid (Wp w p F s) := h
  have HE : Hid (enI n = enU (ctI n)) := rfl
  clear h
  by_cases hneg : n < 0
  · obtain ⟨q, hq⟩ : ∃ q : Nat, (q : Int) = -n - 1 := ⟨(-n - 1).toNat, by omega⟩
    have hx : IntKind.i64.wrap (-n - 1) = (q : Int) := by rw [IntKind.wrap_i64]; omega
    have hx3 : bits .xor .i64 n (-1) = (q : Int) := by
      have e : BitVec.ofInt 64 (-1 : Int) = BitVec.allOnes 64 := by decide
      show IntKind.i64.wrap ((BitVec.ofInt 64 n ^^^ BitVec.ofInt 64 (-1 : Int)).toNat : Int) = _
      rw [e, BitVec.xor_allOnes, BitVec.toNat_not, BitVec.toNat_ofInt, IntKind.wrap_i64]
      omega
    have hx4 : bits .xor .i64 (-1) n = (q : Int) := by
      have e : BitVec.ofInt 64 (-1 : Int) = BitVec.allOnes 64 := by decide
      show IntKind.i64.wrap ((BitVec.ofInt 64 (-1 : Int) ^^^ BitVec.ofInt 64 n).toNat : Int) = _
      rw [e, BitVec.xor_comm, BitVec.xor_allOnes, BitVec.toNat_not, BitVec.toNat_ofInt, IntKind.wrap_i64]
      omega
    have hq2 : q < 9223372036854775808 := by omega
    have hw1 : IntKind.u64.wrap (q : Int) = (q : Int) := by rw [IntKind.wrap_u64]; omega
    have hw2 : IntKind.u64.wrap ((q : Int) * 2) = ((2 * q : Nat) : Int) := by rw [IntKind.wrap_u64]; omega
    have hor : bits .or .u64 ((2 * q : Nat) : Int) 1 = ((ctI n : Nat) : Int) := by
      have h := or64p (2 * q) 1 (by omega) (by omega)
      have e : 2 * q ||| 1 = ctI n := by
        have e2 : 2 * q ||| 1 = 2 * q + 1 := by
          have := (Nat.two_pow_add_eq_or_of_lt (i := 1) (b := 1) (by decide) q).symm
          simpa [Nat.mul_comm] using this
        rw [e2]
        unfold ctI
        rw [if_pos hneg]
        omega
      rw [e] at h
      exact h
    clear hq
    generalize ctI n = c at *
    generalize 2 * q = q2 at *
    go_enter Try.func29, Try.ntmps29
    go_wp2_with fail
    refine (wuint_any w p F s c HW.out hc).mono ?_
    rintro e w1 ⟨rfl, hA⟩
    have HA : Hid (Af Wp p F (pt s (enU c)) w w1) := hA
    clear hA
    go_wp2
    refine bodyPost_ret (results_none rfl _ _ _) rfl ?_
    exact ⟨rfl, by rw [HE.out]; exact HA.out⟩
  · obtain ⟨q, hq⟩ : ∃ q : Nat, n = (q : Int) := ⟨n.toNat, by omega⟩
    subst hq
    have hneg2 : ¬ (q : Int) < 0 := hneg
    have hw1 : IntKind.u64.wrap (q : Int) = (q : Int) := by rw [IntKind.wrap_u64]; omega
    have hw2 : IntKind.u64.wrap ((q : Int) * 2) = ((ctI q : Nat) : Int) := by
      rw [IntKind.wrap_u64]
      unfold ctI
      rw [if_neg hneg]
      omega
    generalize ctI q = c at *
    go_enter Try.func29, Try.ntmps29
    go_wp2_with fail
    refine (wuint_any w p F s c HW.out hc).mono ?_
    rintro e w1 ⟨rfl, hA⟩
    have HA : Hid (Af Wp p F (pt s (enU c)) w w1) := hA
    clear hA
    go_wp2
    go_end0
    exact ⟨rfl, by rw [HE.out]; exact HA.out⟩
theorem fix_byte (x : Int) (i : Nat) (h1 : -9223372036854775808 ≤ x) (h2 : x ≤ 9223372036854775807) (hi : i < 8) : x / 2 ^ (8 * i) % 256 = ((u64 x / 256 ^ i % 256 : Nat) : Int) := by
  have hu : (u64 x : Int) = x % 18446744073709551616 := by unfold u64; split <;> omega
  generalize u64 x = U at *
  match i, hi with
  | 0, _ => simp; omega
  | 1, _ => simp; omega
  | 2, _ => simp; omega
  | 3, _ => simp; omega
  | 4, _ => simp; omega
  | 5, _ => simp; omega
  | 6, _ => simp; omega
  | 7, _ => simp; omega
theorem enN_take (n : Nat) : ∀ (k i : Nat), i < k → (enN n k).take (i + 1) = (enN n k).take i ++ [n / 256 ^ i % 256] := by
  intro k i hi
  have hget : ∀ (k i n : Nat), i < k → (enN n k)[i]? = some (n / 256 ^ i % 256) := by
    intro k
    induction k with
    | zero => intro i n h; omega
    | succ k ih =>
      intro i n h
      match i with
      | 0 => simp [enN]
      | i + 1 =>
        show (enN (n / 256) k)[i]? = _
        rw [ih i (n / 256) (by omega), Nat.div_div_eq_div_mul, Nat.pow_succ, Nat.mul_comm]
  rw [List.take_add_one, hget k i n hi]
  rfl
set_option maxRecDepth 100000 in
set_option maxHeartbeats 1000000 in
theorem wfix_any (w : World) (p : Value) (F : Nat → Prop) (s : Sta) (n : Int) (h : Wp w p F s) (hn : okI n) :
    Calls Try.prog 30 #[p, .int .i64 n] w fun e w' => e = .returned (.tuple #[]) ∧ Af Wp p F (pt s (enF n)) w w' := by
  obtain ⟨h1, h2⟩ := hn
  have HS : Hid (∃ F1, Wp w p F1 (pt s ((enF n).take 0)) ∧ Gr F F1 w ∧ Kp F w w) := ⟨F, by show Wp w p F (pt s []); rw [pt_nil h]; exact h, fun _ h => Or.inl h, Kp.refl _ _⟩
  clear h
  go_enter Try.func30, Try.ntmps30
  go_upto_region 1 with fail
  go_loopw [5] (fun s5 wr => ∃ j : Nat, j ≤ 8 ∧ s5 = .int .i64 (j : Int) ∧ Hid (∃ F1, Wp wr p F1 (pt s ((enF n).take j)) ∧ Gr F F1 w ∧ Kp F w wr)) (fun s5 _ => 8 - (intOf s5).toNat)
  case atStart => exact ⟨0, by omega, rfl, HS⟩
  case round =>
    clear HS
    obtain ⟨j, hj, rfl, HS⟩ := hrel
    by_cases hj8 : j < 8
    · have hjI : (j : Int) < 8 := by omega
      obtain ⟨x, hx⟩ : ∃ x, u64 n / 256 ^ j % 256 = x := ⟨_, rfl⟩
      have hb := fix_byte n j h1 h2 hj8
      rw [hx] at hb
      have hmul : IntKind.i64.wrap (8 * (j : Int)) = ((8 * j : Nat) : Int) := by rw [IntKind.wrap_i64]; omega
      obtain ⟨y, hy⟩ : ∃ y, n / 2 ^ (8 * j) = y := ⟨_, rfl⟩
      rw [hy] at hb
      have hw1 : IntKind.u8.wrap y = (x : Int) := by rw [IntKind.wrap_u8]; omega
      have h80 : ¬ (((8 * j : Nat) : Int) < 0) := by omega
      have h8 : 8 * j < 64 := by omega
      have hyb : IntKind.i64.wrap y = y := by
        have hp : (1 : Int) ≤ 2 ^ (8 * j) := by
          have : (0 : Int) < 2 ^ (8 * j) := Int.pow_pos (by decide)
          omega
        rw [IntKind.wrap_i64]
        have e1 : y ≤ 9223372036854775807 := by
          rw [← hy]
          by_cases q : 0 ≤ n
          · exact Int.le_trans (Int.ediv_le_self _ q) h2
          · have : n / 2 ^ (8 * j) < 0 := Int.ediv_neg_of_neg_of_pos (by omega) (by omega)
            omega
        have e2 : -9223372036854775808 ≤ y := by
          rw [← hy]
          exact (Int.le_ediv_iff_mul_le (by omega)).2 (by
            have : (-9223372036854775808 : Int) * 2 ^ (8 * j) ≤ -9223372036854775808 * 1 := by
              exact Int.mul_le_mul_of_nonpos_left (by decide) hp
            omega)
        omega
      have HX : Hid ((enF n).take (j + 1) = (enF n).take j ++ [x]) := by
        show _ = _
        unfold enF
        rw [enN_take _ 8 j hj8, hx]
      have hj1 : IntKind.i64.wrap ((j : Int) + 1) = ((j + 1 : Nat) : Int) := by rw [IntKind.wrap_i64]; omega
      clear hx hb
      go_wp2_with fail
      obtain ⟨F1, hW, hG, hK⟩ := HS.out
      refine (add_any _ p F1 _ _ [x] (hW.later (bel1 _ _)) (bs_one wr x _) (by simp)).mono ?_
      rintro e w1 ⟨rfl, hA⟩
      have HS2 : Hid (∃ F1, Wp w1 p F1 (pt s ((enF n).take (j + 1))) ∧ Gr F F1 w ∧ Kp F w w1) := by
        rw [pt_pt, ← HX.out] at hA
        exact Af.tr hG (hK.alloc _) hA
      clear hA HS hW hG hK
      go_wp2
      go_roundw
      case rel => exact ⟨j + 1, by omega, rfl, HS2⟩
      case measure => simp only [intOf]; omega
    · have hjI : ¬ (j : Int) < 8 := by omega
      obtain rfl : j = 8 := by omega
      go_wp2
      go_end0
      refine ⟨rfl, ?_⟩
      have h := HS.out
      rw [List.take_of_length_le (by rw [enF_len]; omega)] at h
      exact h
set_option maxRecDepth 100000 in
set_option maxHeartbeats 1000000 in
theorem wbytes_any (w : World) (p : Value) (F : Nat → Prop) (s : Sta) (v : Value) (l : List Nat) (h : Wp w p F s) (hv : Bs w v l) (hn : Nf F v) (hl : l.length ≤ 2000000) :
    Calls Try.prog 27 #[p, v] w fun e w' => e = .returned (.tuple #[]) ∧ Af Wp p F (pt s (enB l)) w w' := by
  have HW : Hid (Wp w p F s) := h
  have HL : Hid (Bs w v l ∧ Nf F v) := ⟨hv, hn⟩
  obtain ⟨ad, cap, rfl, k1, k2⟩ := hv.len
  obtain ⟨n, hN⟩ : ∃ n, l.length = n := ⟨_, rfl⟩
  have HN : Hid (l.length = n) := hN
  rw [hN] at HL hl k1 ⊢
  have hw1 : IntKind.u64.wrap (n : Int) = (n : Int) := by rw [IntKind.wrap_u64]; omega
  clear h hv hn hN k1 k2
  go_enter Try.func27, Try.ntmps27
  go_wp2_with fail
  refine (wuint_any w p F s n HW.out (by omega)).mono ?_
  rintro e w1 ⟨rfl, hA⟩
  obtain ⟨F1, hW1, hG, hK⟩ := hA
  have HA : Hid (Wp w1 p F1 (pt s (enU n)) ∧ Gr F F1 w ∧ Kp F w w1) := ⟨hW1, hG, hK⟩
  clear hW1 hG hK
  go_wp2_with fail
  refine (add_any _ p F1 _ _ l HA.out.1 (HA.out.2.2.bs HL.out.1 HL.out.2) (by rw [HN.out]; exact hl)).mono ?_
  rintro e w2 ⟨rfl, hA2⟩
  have HA2 : Hid (Af Wp p F (pt s (enB l)) w w2) := by
    rw [pt_pt] at hA2
    have := Af.tr HA.out.2.1 HA.out.2.2 hA2
    show Af Wp p F (pt s (enU l.length ++ l)) w w2
    rw [HN.out]
    exact this
  clear hA2 HA
  go_wp2
  go_end0
  exact ⟨rfl, HA2.out⟩
theorem flat_takeP {α : Type} (l : List α) (d : α) (f : α → List Nat) (j : Nat) (hj : j < l.length) : (l.take (j + 1)).flatMap f = (l.take j).flatMap f ++ f (l.getD j d) := by
  have e : l.getD j d = l[j] := by simp [List.getD, hj]
  rw [List.take_add_one, List.flatMap_append, e]
  simp [hj]
theorem getI_mem {l : List Int} {j : Nat} (h : j < l.length) : l.getD j 0 ∈ l := by
  have e : l.getD j 0 = l[j] := by simp [List.getD, h]
  rw [e]
  exact List.getElem_mem h
set_option maxRecDepth 100000 in
set_option maxHeartbeats 1000000 in
theorem wints_any (w : World) (p : Value) (F : Nat → Prop) (s : Sta) (v : Value) (l : List Int) (h : Wp w p F s) (hv : Is w v l) (hn : Nf F v) (hok : okL l) (hl : l.length ≤ 2000000) :
    Calls Try.prog 31 #[p, v] w fun e w' => e = .returned (.tuple #[]) ∧ Af Wp p F (pt s (enIs l)) w w' := by
  have HW : Hid (Wp w p F s) := h
  have HL : Hid (Is w v l ∧ Nf F v) := ⟨hv, hn⟩
  have HO : Hid (okL l) := hok
  obtain ⟨ad, cap, rfl, k1, k2⟩ := hv.len
  obtain ⟨n, hN⟩ : ∃ n, l.length = n := ⟨_, rfl⟩
  have HN : Hid (l.length = n) := hN
  rw [hN] at HL hl k1 ⊢
  have hw1 : IntKind.u64.wrap (n : Int) = (n : Int) := by rw [IntKind.wrap_u64]; omega
  clear h hv hn hN k1 k2 hok
  go_enter Try.func31, Try.ntmps31
  go_wp2_with fail
  refine (wuint_any w p F s n HW.out (by omega)).mono ?_
  rintro e w1 ⟨rfl, hA⟩
  have HS : Hid (∃ F1, Wp w1 p F1 (pt s (enU n ++ (l.take 0).flatMap enI)) ∧ Gr F F1 w ∧ Kp F w w1) := by
    have e : enU n ++ (l.take 0).flatMap enI = enU n := by simp
    show ∃ F1, _
    rw [e]
    exact hA
  clear hA
  go_upto_region 2 with fail
  go_loopw [13] (fun s13 wr => ∃ j : Nat, j ≤ n ∧ s13 = .int .i64 (j : Int) ∧ Hid (∃ F1, Wp wr p F1 (pt s (enU n ++ (l.take j).flatMap enI)) ∧ Gr F F1 w ∧ Kp F w wr)) (fun s13 _ => n - (intOf s13).toNat)
  case atStart => exact ⟨0, by omega, rfl, HS⟩
  case round =>
    clear HS
    obtain ⟨j, hj, rfl, HS⟩ := hrel
    by_cases hjn : j < n
    · have hjI : (j : Int) < (n : Int) := by omega
      have hj1 : IntKind.i64.wrap ((j : Int) + 1) = ((j + 1 : Nat) : Int) := by rw [IntKind.wrap_i64]; omega
      obtain ⟨F1, hW, hG, hK⟩ := HS.out
      obtain ⟨b, o, rfl, hc⟩ := (hK.is HL.out.1 HL.out.2).cel j (by rw [HN.out]; exact hjn)
      have HX : Hid ((l.take (j + 1)).flatMap enI = (l.take j).flatMap enI ++ enI (l.getD j 0)) := flat_takeP l 0 enI j (by rw [HN.out]; exact hjn)
      have HI : Hid (okI (l.getD j 0)) := HO.out.1 _ (getI_mem (by rw [HN.out]; exact hjn))
      have HA : Hid (Wp wr p F1 (pt s (enU n ++ (l.take j).flatMap enI)) ∧ Gr F F1 w ∧ Kp F w wr) := ⟨hW, hG, hK⟩
      generalize l.getD j 0 = x at *
      clear hW hG hK HS
      go_wp2_with fail
      refine (wint_any wr p F1 _ x HA.out.1 HI.out).mono ?_
      rintro e w2 ⟨rfl, hA2⟩
      have HS2 : Hid (∃ F1, Wp w2 p F1 (pt s (enU n ++ (l.take (j + 1)).flatMap enI)) ∧ Gr F F1 w ∧ Kp F w w2) := by
        rw [pt_pt, List.append_assoc, ← HX.out] at hA2
        exact Af.tr HA.out.2.1 HA.out.2.2 hA2
      clear hA2 HA
      go_wp2
      go_roundw
      case rel => exact ⟨j + 1, by omega, rfl, HS2⟩
      case measure => simp only [intOf]; omega
    · have hjI : ¬ (j : Int) < (n : Int) := by omega
      obtain rfl : j = n := by omega
      go_wp2
      go_end0
      refine ⟨rfl, ?_⟩
      have h := HS.out
      rw [List.take_of_length_le (by rw [HN.out]; omega)] at h
      show Af Wp p F (pt s (enU l.length ++ l.flatMap enI)) w _
      rw [HN.out]
      exact h
set_option maxRecDepth 100000 in
set_option maxHeartbeats 1000000 in
theorem wfixes_any (w : World) (p : Value) (F : Nat → Prop) (s : Sta) (v : Value) (l : List Int) (h : Wp w p F s) (hv : Is w v l) (hn : Nf F v) (hok : okL l) (hl : l.length ≤ 2000000) :
    Calls Try.prog 32 #[p, v] w fun e w' => e = .returned (.tuple #[]) ∧ Af Wp p F (pt s (enFs l)) w w' := by
  have HW : Hid (Wp w p F s) := h
  have HL : Hid (Is w v l ∧ Nf F v) := ⟨hv, hn⟩
  have HO : Hid (okL l) := hok
  obtain ⟨ad, cap, rfl, k1, k2⟩ := hv.len
  obtain ⟨n, hN⟩ : ∃ n, l.length = n := ⟨_, rfl⟩
  have HN : Hid (l.length = n) := hN
  rw [hN] at HL hl k1 ⊢
  have hw1 : IntKind.u64.wrap (n : Int) = (n : Int) := by rw [IntKind.wrap_u64]; omega
  clear h hv hn hN k1 k2 hok
  go_enter Try.func32, Try.ntmps32
  go_wp2_with fail
  refine (wuint_any w p F s n HW.out (by omega)).mono ?_
  rintro e w1 ⟨rfl, hA⟩
  have HS : Hid (∃ F1, Wp w1 p F1 (pt s (enU n ++ (l.take 0).flatMap enF)) ∧ Gr F F1 w ∧ Kp F w w1) := by
    have e : enU n ++ (l.take 0).flatMap enF = enU n := by simp
    show ∃ F1, _
    rw [e]
    exact hA
  clear hA
  go_upto_region 2 with fail
  go_loopw [13] (fun s13 wr => ∃ j : Nat, j ≤ n ∧ s13 = .int .i64 (j : Int) ∧ Hid (∃ F1, Wp wr p F1 (pt s (enU n ++ (l.take j).flatMap enF)) ∧ Gr F F1 w ∧ Kp F w wr)) (fun s13 _ => n - (intOf s13).toNat)
  case atStart => exact ⟨0, by omega, rfl, HS⟩
  case round =>
    clear HS
    obtain ⟨j, hj, rfl, HS⟩ := hrel
    by_cases hjn : j < n
    · have hjI : (j : Int) < (n : Int) := by omega
      have hj1 : IntKind.i64.wrap ((j : Int) + 1) = ((j + 1 : Nat) : Int) := by rw [IntKind.wrap_i64]; omega
      obtain ⟨F1, hW, hG, hK⟩ := HS.out
      obtain ⟨b, o, rfl, hc⟩ := (hK.is HL.out.1 HL.out.2).cel j (by rw [HN.out]; exact hjn)
      have HX : Hid ((l.take (j + 1)).flatMap enF = (l.take j).flatMap enF ++ enF (l.getD j 0)) := flat_takeP l 0 enF j (by rw [HN.out]; exact hjn)
      have HI : Hid (okI (l.getD j 0)) := HO.out.1 _ (getI_mem (by rw [HN.out]; exact hjn))
      have HA : Hid (Wp wr p F1 (pt s (enU n ++ (l.take j).flatMap enF)) ∧ Gr F F1 w ∧ Kp F w wr) := ⟨hW, hG, hK⟩
      generalize l.getD j 0 = x at *
      clear hW hG hK HS
      go_wp2_with fail
      refine (wfix_any wr p F1 _ x HA.out.1 HI.out).mono ?_
      rintro e w2 ⟨rfl, hA2⟩
      have HS2 : Hid (∃ F1, Wp w2 p F1 (pt s (enU n ++ (l.take (j + 1)).flatMap enF)) ∧ Gr F F1 w ∧ Kp F w w2) := by
        rw [pt_pt, List.append_assoc, ← HX.out] at hA2
        exact Af.tr HA.out.2.1 HA.out.2.2 hA2
      clear hA2 HA
      go_wp2
      go_roundw
      case rel => exact ⟨j + 1, by omega, rfl, HS2⟩
      case measure => simp only [intOf]; omega
    · have hjI : ¬ (j : Int) < (n : Int) := by omega
      obtain rfl : j = n := by omega
      go_wp2
      go_end0
      refine ⟨rfl, ?_⟩
      have h := HS.out
      rw [List.take_of_length_le (by rw [HN.out]; omega)] at h
      show Af Wp p F (pt s (enU l.length ++ l.flatMap enF)) w _
      rw [HN.out]
      exact h
set_option maxRecDepth 100000 in
set_option maxHeartbeats 1000000 in
theorem wdone_any (w : World) (p : Value) (F : Nat → Prop) (s : Sta) (h : Wp w p F s) :
    Calls Try.prog 12 #[p] w fun e w' => ∃ v, e = .returned (.tuple #[v, .int .i64 ((dnE s : Nat) : Int)]) ∧ Bs w' v (dnV s) ∧ Ow w.heap.size v ∧ Below w.heap.size w w' := by
  rcases h with ⟨rfl, rfl, hF⟩ | ⟨b, v, rfl, ⟨rfl, h⟩ | ⟨l, rfl, h⟩⟩
  · go_enter Try.func12, Try.ntmps12
    go_wp2
    go_ret2
    exact ⟨.slice none 0 0, rfl, ls_none _ _, (fun a n cap e => by cases e), Below.refl _ _⟩
  · have c1 := h.c1
    clear h
    go_enter Try.func12, Try.ntmps12
    go_wp2
    go_ret2
    exact ⟨.slice none 0 0, rfl, ls_none _ _, (fun a n cap e => by cases e), Below.refl _ _⟩
  · have c0 := h.c0
    have c1 := h.c1
    have HO : Hid (Bs w v l) := h.own.bs.1
    have HN : Hid (l.length ≤ 10000000) := by have := h.le; show _ ≤ _; omega
    obtain ⟨ad, cap, rfl⟩ := h.own.sl
    clear h
    go_enter Try.func12, Try.ntmps12
    go_wp2_with fail
    refine (clone_any w _ l HO.out HN.out).mono ?_
    rintro e w1 ⟨v', rfl, hO, hB⟩
    have HX : Hid (Bs w1 v' l ∧ Ow w.heap.size v' ∧ Below w.heap.size w w1) := ⟨hO.bs.1, hO.bs.2, hB⟩
    obtain ⟨ad2, cap2, rfl⟩ := hO.sl
    clear hO hB
    go_wp2
    go_ret2
    exact ⟨_, rfl, HX.out.1, HX.out.2.1, HX.out.2.2⟩
end Go.Proofs.Ytahbpegjdmblaaa
