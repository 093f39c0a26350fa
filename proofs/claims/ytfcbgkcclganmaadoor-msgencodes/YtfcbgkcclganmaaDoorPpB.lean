/-
  The program's pack: what a writer writes (Uint, Int, Fix, Bytes, Ints, Fixes), and its Done.
-/
import Derived.Test.YtfcbgkcclganmaaDoorPpA
set_option linter.unusedVariables false
set_option linter.unusedSimpArgs false
namespace Go.Proofs.YtfcbgkcclganmaaDoor
open Go.RowKit

set_option maxRecDepth 100000 in
set_option maxHeartbeats 1000000 in
theorem wuint_any (w : World) (p : Value) (F : Nat → Prop) (s : Sta) (n : Nat) (h : Wp w p F s) (hn : n < 18446744073709551616) :
    Calls Tryd.prog 38 #[p, .int .u64 (n : Int)] w fun e w' => e = .returned (.tuple #[]) ∧ Af Wp p F (pt s (enU n)) w w' := by
  have HS : Hid (∃ F1, Wp w p F1 (pt s []) ∧ Gr F F1 w ∧ Kp F w w) := ⟨F, by rw [pt_nil h]; exact h, fun _ h => Or.inl h, Kp.refl _ _⟩
  clear h
  go_enter Tryd.func38, Tryd.ntmps38
  go_upto_region 0 with fail
  go_loopw [1] (fun s1 wr => ∃ (m : Nat) (l : List Nat), m ≤ n ∧ s1 = .int .u64 (m : Int) ∧ Hid (enU n = l ++ enU m) ∧ Hid (∃ F1, Wp wr p F1 (pt s l) ∧ Gr F F1 w ∧ Kp F w wr)) (fun s1 _ => (intOf s1).toNat)
  case atStart => exact ⟨n, [], by omega, rfl, rfl, HS⟩
  case round =>
    clear HS
    obtain ⟨m, l, hm, rfl, HE, HS⟩ := hrel
    by_cases hge : 128 ≤ m
    · have hgeI : (128 : Int) ≤ (m : Int) := by omega
      obtain ⟨r, hr⟩ : ∃ r, m % 256 = r := ⟨_, rfl⟩
      obtain ⟨x, hx⟩ : ∃ x, m % 128 + 128 = x := ⟨_, rfl⟩
      obtain ⟨d, hd⟩ : ∃ d, m / 128 = d := ⟨_, rfl⟩
      have hw1 : IntKind.u8.wrap (m : Int) = (r : Int) := by rw [IntKind.wrap_u8]; omega
      have hor : bits .or .u8 (r : Int) 128 = (x : Int) := by
        have h := or8p r 128 (by omega) (by omega)
        rw [or_128m r (by omega), show r % 128 + 128 = x by omega] at h
        exact h
      have hd1 : (m : Int) / 128 = (d : Int) := by omega
      have hw4 : IntKind.u64.wrap (d : Int) = (d : Int) := by rw [IntKind.wrap_u64]; omega
      have HE2 : Hid (enU n = (l ++ [x]) ++ enU d) := by
        show _ = _
        rw [HE.out, enU_ge hge, hx, hd, List.append_assoc]
        rfl
      have hdm : d < m := by omega
      clear hr hd hx HE
      go_wp2_with fail
      obtain ⟨F1, hW, hG, hK⟩ := HS.out
      refine (add_any _ p F1 _ _ [x] (hW.later (bel1 _ _)) (bs_one wr x _) (by simp)).mono ?_
      rintro e w1 ⟨rfl, hA⟩
      have HS2 : Hid (∃ F1, Wp w1 p F1 (pt s (l ++ [x])) ∧ Gr F F1 w ∧ Kp F w w1) := by
        rw [pt_pt] at hA
        exact Af.tr hG (hK.alloc _) hA
      clear hA HS hW hG hK
      go_wp2
      go_roundw
      case rel => exact ⟨d, l ++ [x], by omega, rfl, HE2, HS2⟩
      case measure => simp only [intOf]; omega
    · have hgeI : ¬ (128 : Int) ≤ (m : Int) := by omega
      have hw3 : IntKind.u8.wrap (m : Int) = (m : Int) := by rw [IntKind.wrap_u8]; omega
      have HE2 : Hid (enU n = l ++ [m]) := by
        show _ = _
        rw [HE.out, enU_lt (by omega)]
      clear HE
      go_wp2_with fail
      obtain ⟨F1, hW, hG, hK⟩ := HS.out
      refine (add_any _ p F1 _ _ [m] (hW.later (bel1 _ _)) (bs_one wr m _) (by simp)).mono ?_
      rintro e w1 ⟨rfl, hA⟩
      have HS2 : Hid (Af Wp p F (pt s (enU n)) w w1) := by
        rw [pt_pt, ← HE2.out] at hA
        exact Af.tr hG (hK.alloc _) hA
      clear hA HS hW hG hK
      go_wp2
      go_end0
      exact ⟨rfl, HS2.out⟩
set_option maxRecDepth 100000 in
set_option maxHeartbeats 1000000 in
theorem wint_any (w : World) (p : Value) (F : Nat → Prop) (s : Sta) (n : Int) (h : Wp w p F s) (hn : okI n) :
    Calls Tryd.prog 21 #[p, .int .i64 n] w fun e w' => e = .returned (.tuple #[]) ∧ Af Wp p F (pt s (enI n)) w w' := by
  obtain ⟨h1, h2⟩ := hn
  have hc := ctI_lt h1 h2
  have HW : Hid (Wp w p F s) := h
  have HE : Hid (enI n = enU (ctI n)) := rfl
  clear h
  by_cases hneg : n < 0
  · obtain ⟨q, hq⟩ : ∃ q : Nat, (q : Int) = -n - 1 := ⟨(-n - 1).toNat, by omega⟩
    have hx : IntKind.i64.wrap (-n - 1) = (q : Int) := by rw [IntKind.wrap_i64]; omega
    have hx3 : bits .xor .i64 n (-1) = (q : Int) := by
      have e : BitVec.ofInt 64 (-1 : Int) = BitVec.allOnes 64 := by decide
      show IntKind.i64.wrap ((BitVec.ofInt 64 n ^^^ BitVec.ofInt 64 (-1 : Int)).toNat : Int) = _
      rw [e, BitVec.xor_allOnes, BitVec.toNat_not, BitVec.toNat_ofInt, IntKind.wrap_i64]
      omega
    have hx4 : bits .xor .i64 (-1) n = (q : Int) := by
      have e : BitVec.ofInt 64 (-1 : Int) = BitVec.allOnes 64 := by decide
      show IntKind.i64.wrap ((BitVec.ofInt 64 (-1 : Int) ^^^ BitVec.ofInt 64 n).toNat : Int) = _
      rw [e, BitVec.xor_comm, BitVec.xor_allOnes, BitVec.toNat_not, BitVec.toNat_ofInt, IntKind.wrap_i64]
      omega
    have hq2 : q < 9223372036854775808 := by omega
    have hw1 : IntKind.u64.wrap (q : Int) = (q : Int) := by rw [IntKind.wrap_u64]; omega
    have hw2 : IntKind.u64.wrap ((q : Int) * 2) = ((2 * q : Nat) : Int) := by rw [IntKind.wrap_u64]; omega
    have hor : bits .or .u64 ((2 * q : Nat) : Int) 1 = ((ctI n : Nat) : Int) := by
      have h := or64p (2 * q) 1 (by omega) (by omega)
      have e : 2 * q ||| 1 = ctI n := by
        have e2 : 2 * q ||| 1 = 2 * q + 1 := by
          have := (Nat.two_pow_add_eq_or_of_lt (i := 1) (b := 1) (by decide) q).symm
          simpa [Nat.mul_comm] using this
        rw [e2]
        unfold ctI
        rw [if_pos hneg]
        omega
      rw [e] at h
      exact h
    clear hq
    generalize ctI n = c at *
    generalize 2 * q = q2 at *
    go_enter Tryd.func21, Tryd.ntmps21
    go_wp2_with fail
    refine (wuint_any w p F s c HW.out hc).mono ?_
    rintro e w1 ⟨rfl, hA⟩
    have HA : Hid (Af Wp p F (pt s (enU c)) w w1) := hA
    clear hA
    go_wp2
    refine bodyPost_ret (results_none rfl _ _ _) rfl ?_
    exact ⟨rfl, by rw [HE.out]; exact HA.out⟩
  · obtain ⟨q, hq⟩ : ∃ q : Nat, n = (q : Int) := ⟨n.toNat, by omega⟩
    subst hq
    have hneg2 : ¬ (q : Int) < 0 := hneg
    have hw1 : IntKind.u64.wrap (q : Int) = (q : Int) := by rw [IntKind.wrap_u64]; omega
    have hw2 : IntKind.u64.wrap ((q : Int) * 2) = ((ctI q : Nat) : Int) := by
      rw [IntKind.wrap_u64]
      unfold ctI
      rw [if_neg hneg]
      omega
    generalize ctI q = c at *
    go_enter Tryd.func21, Tryd.ntmps21
    go_wp2_with fail
    refine (wuint_any w p F s c HW.out hc).mono ?_
    rintro e w1 ⟨rfl, hA⟩
    have HA : Hid (Af Wp p F (pt s (enU c)) w w1) := hA
    clear hA
    go_wp2
    go_end0
    exact ⟨rfl, by rw [HE.out]; exact HA.out⟩
theorem fix_byte (x : Int) (i : Nat) (h1 : -9223372036854775808 ≤ x) (h2 : x ≤ 9223372036854775807) (hi : i < 8) : x / 2 ^ (8 * i) % 256 = ((u64 x / 256 ^ i % 256 : Nat) : Int) := by
  have hu : (u64 x : Int) = x % 18446744073709551616 := by unfold u64; split <;> omega
  generalize u64 x = U at *
  match i, hi with
  | 0, _ => simp; omega
  | 1, _ => simp; omega
  | 2, _ => simp; omega
  | 3, _ => simp; omega
  | 4, _ => simp; omega
  | 5, _ => simp; omega
  | 6, _ => simp; omega
  | 7, _ => simp; omega
theorem enN_take (n : Nat) : ∀ (k i : Nat), i < k → (enN n k).take (i + 1) = (enN n k).take i ++ [n / 256 ^ i % 256] := by
  intro k i hi
  have hget : ∀ (k i n : Nat), i < k → (enN n k)[i]? = some (n / 256 ^ i % 256) := by
    intro k
    induction k with
    | zero => intro i n h; omega
    | succ k ih =>
      intro i n h
      match i with
      | 0 => simp [enN]
      | i + 1 =>
        show (enN (n / 256) k)[i]? = _
        rw [ih i (n / 256) (by omega), Nat.div_div_eq_div_mul, Nat.pow_succ, Nat.mul_comm]
  rw [List.take_add_one, hget k i n hi]
  rfl
set_option maxRecDepth 100000 in
set_option maxHeartbeats 1000000 in
theorem wbytes_any (w : World) (p : Value) (F : Nat → Prop) (s : Sta) (v : Value) (l : List Nat) (h : Wp w p F s) (hv : Bs w v l) (hn : Nf F v) (hl : l.length ≤ 2000000) :
    Calls Tryd.prog 20 #[p, v] w fun e w' => e = .returned (.tuple #[]) ∧ Af Wp p F (pt s (enB l)) w w' := by
  have HW : Hid (Wp w p F s) := h
  have HL : Hid (Bs w v l ∧ Nf F v) := ⟨hv, hn⟩
  obtain ⟨ad, cap, rfl, k1, k2⟩ := hv.len
  obtain ⟨n, hN⟩ : ∃ n, l.length = n := ⟨_, rfl⟩
  have HN : Hid (l.length = n) := hN
  rw [hN] at HL hl k1 ⊢
  have hw1 : IntKind.u64.wrap (n : Int) = (n : Int) := by rw [IntKind.wrap_u64]; omega
  clear h hv hn hN k1 k2
  go_enter Tryd.func20, Tryd.ntmps20
  go_wp2_with fail
  refine (wuint_any w p F s n HW.out (by omega)).mono ?_
  rintro e w1 ⟨rfl, hA⟩
  obtain ⟨F1, hW1, hG, hK⟩ := hA
  have HA : Hid (Wp w1 p F1 (pt s (enU n)) ∧ Gr F F1 w ∧ Kp F w w1) := ⟨hW1, hG, hK⟩
  clear hW1 hG hK
  go_wp2_with fail
  refine (add_any _ p F1 _ _ l HA.out.1 (HA.out.2.2.bs HL.out.1 HL.out.2) (by rw [HN.out]; exact hl)).mono ?_
  rintro e w2 ⟨rfl, hA2⟩
  have HA2 : Hid (Af Wp p F (pt s (enB l)) w w2) := by
    rw [pt_pt] at hA2
    have := Af.tr HA.out.2.1 HA.out.2.2 hA2
    show Af Wp p F (pt s (enU l.length ++ l)) w w2
    rw [HN.out]
    exact this
  clear hA2 HA
  go_wp2
  go_end0
  exact ⟨rfl, HA2.out⟩
theorem flat_takeP {α : Type} (l : List α) (d : α) (f : α → List Nat) (j : Nat) (hj : j < l.length) : (l.take (j + 1)).flatMap f = (l.take j).flatMap f ++ f (l.getD j d) := by
  have e : l.getD j d = l[j] := by simp [List.getD, hj]
  rw [List.take_add_one, List.flatMap_append, e]
  simp [hj]
theorem getI_mem {l : List Int} {j : Nat} (h : j < l.length) : l.getD j 0 ∈ l := by
  have e : l.getD j 0 = l[j] := by simp [List.getD, h]
  rw [e]
  exact List.getElem_mem h
set_option maxRecDepth 100000 in
set_option maxHeartbeats 1000000 in
theorem wdone_any (w : World) (p : Value) (F : Nat → Prop) (s : Sta) (h : Wp w p F s) :
    Calls Tryd.prog 23 #[p] w fun e w' => ∃ v, e = .returned (.tuple #[v, .int .i64 ((dnE s : Nat) : Int)]) ∧ Bs w' v (dnV s) ∧ Ow w.heap.size v ∧ Below w.heap.size w w' := by
  rcases h with ⟨rfl, rfl, hF⟩ | ⟨b, v, rfl, ⟨rfl, h⟩ | ⟨l, rfl, h⟩⟩
  · go_enter Tryd.func23, Tryd.ntmps23
    go_wp2
    go_ret2
    exact ⟨.slice none 0 0, rfl, ls_none _ _, (fun a n cap e => by cases e), Below.refl _ _⟩
  · have c1 := h.c1
    clear h
    go_enter Tryd.func23, Tryd.ntmps23
    go_wp2
    go_ret2
    exact ⟨.slice none 0 0, rfl, ls_none _ _, (fun a n cap e => by cases e), Below.refl _ _⟩
  · have c0 := h.c0
    have c1 := h.c1
    have HO : Hid (Bs w v l) := h.own.bs.1
    have HN : Hid (l.length ≤ 10000000) := by have := h.le; show _ ≤ _; omega
    obtain ⟨ad, cap, rfl⟩ := h.own.sl
    clear h
    go_enter Tryd.func23, Tryd.ntmps23
    go_wp2_with fail
    refine (clone_any w _ l HO.out HN.out).mono ?_
    rintro e w1 ⟨v', rfl, hO, hB⟩
    have HX : Hid (Bs w1 v' l ∧ Ow w.heap.size v' ∧ Below w.heap.size w w1) := ⟨hO.bs.1, hO.bs.2, hB⟩
    obtain ⟨ad2, cap2, rfl⟩ := hO.sl
    clear hO hB
    go_wp2
    go_ret2
    exact ⟨_, rfl, HX.out.1, HX.out.2.1, HX.out.2.2⟩
end Go.Proofs.YtfcbgkcclganmaaDoor
