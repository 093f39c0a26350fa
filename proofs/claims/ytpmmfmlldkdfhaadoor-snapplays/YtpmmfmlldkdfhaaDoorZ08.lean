/-
The document's numbers in bytes, sums, and a slot's head (regattaref16).
The document's head of a slot (regattaref16).
Layer 16's plain snap: what a Save leaves, and what is loaded behind a fall in it.
-/
import Derived.Test.YtpmmfmlldkdfhaaDoorZ04
import Derived.Test.YtpmmfmlldkdfhaaDoorZ07

set_option linter.unusedVariables false
set_option linter.unusedSimpArgs false
namespace Go.Proofs.YtpmmfmlldkdfhaaDoor
open Go.RowKit

theorem enN_take16 (n : Nat) : ∀ (k i : Nat), i < k → (enN n k).take (i + 1) = (enN n k).take i ++ [n / 256 ^ i % 256] := by
  intro k
  induction k generalizing n with
  | zero => intro i hi; omega
  | succ k ih =>
    intro i hi
    cases i with
    | zero => simp [enN]
    | succ i =>
      show (n % 256 :: enN (n / 256) k).take (i + 1 + 1) = (n % 256 :: enN (n / 256) k).take (i + 1) ++ _
      rw [List.take_succ_cons, List.take_succ_cons, ih (n / 256) i (by omega), List.cons_append, Nat.div_div_eq_div_mul, Nat.pow_succ, Nat.mul_comm (256 ^ i) 256]
set_option maxRecDepth 100000 in
set_option maxHeartbeats 2000000 in
theorem refPut (n k : Nat) (hn : n < 18446744073709551616) (hk : k ≤ 8) (w : World) :
    Calls Tryd.prog 50 #[.int .u64 (n : Int), .int .i64 (k : Int)] w fun e w' => ∃ v, e = .returned v ∧ Ob w.heap.size w' v (enN n k) ∧ Below w.heap.size w w' := by
  go_enter Tryd.func50, Tryd.ntmps50
  go_upto_region 3 with fail
  go_loopw [0, 5, 6] (fun s0 s5 s6 wr => ∃ j : Nat, j ≤ k ∧ s6 = .int .i64 (j : Int) ∧ s0 = .int .u64 ((n / 256 ^ j : Nat) : Int) ∧ Hid (Ob w.heap.size wr s5 ((enN n k).take j) ∧ Below w.heap.size w wr)) (fun _ _ s6 _ => k - (intOf s6).toNat)
  case atStart => exact ⟨0, by omega, rfl, by simp, by rw [List.take_zero]; exact ob_nil _ _, Below.refl _ _⟩
  case round =>
    obtain ⟨j, hj, rfl, rfl, HO⟩ := hrel
    obtain ⟨a5, c5, rfl⟩ := HO.out.1.sl
    by_cases hlt : j < k
    · have hjI : (j : Int) < (k : Int) := by omega
      have HE : Hid ((enN n k).take (j + 1) = (enN n k).take j ++ [n / 256 ^ j % 256] ∧ ((enN n k).take j).length ≤ 8) := ⟨enN_take16 n k j hlt, by rw [List.length_take, enN_len]; omega⟩
      have hd : n / 256 ^ (j + 1) = n / 256 ^ j / 256 := by rw [Nat.pow_succ, Nat.div_div_eq_div_mul]
      have hlt2 : n / 256 ^ j ≤ n := Nat.div_le_self _ _
      have HN : Hid (n / 256 ^ (j + 1) = n / 256 ^ j / 256) := hd
      clear hd
      generalize n / 256 ^ j = q at *
      obtain ⟨r, hr⟩ : ∃ r, q % 256 = r := ⟨_, rfl⟩
      obtain ⟨q2, hq2⟩ : ∃ q2, q / 256 = q2 := ⟨_, rfl⟩
      rw [hr] at HE
      rw [hq2] at HN
      have r1 : (q : Int).tmod 256 = (r : Int) := by rw [Int.tmod_eq_emod_of_nonneg (by omega)]; omega
      have r2 : (q : Int).tdiv 256 = (q2 : Int) := by rw [Int.tdiv_eq_ediv_of_nonneg (by omega)]; omega
      have w1 : IntKind.u64.wrap (r : Int) = (r : Int) := by rw [IntKind.wrap_u64]; omega
      have w2 : IntKind.u64.wrap (q2 : Int) = (q2 : Int) := by rw [IntKind.wrap_u64]; omega
      have w3 : IntKind.u8.wrap (r : Int) = (r : Int) := by rw [IntKind.wrap_u8]; omega
      have HL : Hid (Bs (wr.alloc (.cells #[.int .u8 (r : Int)] 5)) (.slice (some ⟨wr.heap.size, 0, none⟩) 1 1) [r]) := bs_one wr r _
      generalize hl : ((enN n k).take j).length = l at *
      have HLl : Hid (((enN n k).take j).length = l) := hl
      clear hr hq2 hl
      go_wp2_with (at_builtin; refine apB rfl _ _ rfl w.heap.size _ ((enN n k).take j) rfl (HO.out.1.later (bel1 _ _)) _ [r] rfl HL.out (by have := HE.out.2; have := HLl.out; simp at *; omega) (by rw [World.size_alloc]; have := HO.out.2.size; omega) ?_; intro v2 w2 hO2 hg2; have HO2 : Hid (Ob w.heap.size w2 v2 ((enN n k).take (j + 1)) ∧ Below w.heap.size w w2) := ⟨by rw [HE.out.1]; exact hO2, hg2.1 _ (HO.out.2.alloc HO.out.2.size _)⟩; clear hO2 hg2)
      go_roundw
      case rel => exact ⟨j + 1, by omega, by go_num, by rw [HN.out], HO2⟩
      case measure => simp [intOf]; omega
    · obtain rfl : j = k := by omega
      have hjI : ¬ (j : Int) < (j : Int) := by omega
      have HF : Hid (Ob w.heap.size wr (.slice a5 ((enN n j).take j).length c5) (enN n j)) := by
        have := HO.out.1
        rw [List.take_of_length_le (by rw [enN_len]; omega)] at this ⊢
        exact this
      generalize ((enN n j).take j).length = l at *
      go_wp2
      go_ret
      exact ⟨_, rfl, HF.out, HO.out.2⟩
/-- A number of at most eight bytes, read from behind. -/
theorem deN_drop (l : List Nat) (i : Nat) (hi : i < l.length) : deN (l.drop i) = l.getD i 0 + 256 * deN (l.drop (i + 1)) := by
  rw [drop_cons hi]
  rfl
set_option maxRecDepth 100000 in
set_option maxHeartbeats 2000000 in
theorem refGet (v : Value) (l : List Nat) (hb : ∀ c ∈ l, c < 256) (hl : l.length ≤ 8) (w : World) (h : Bs w v l) :
    Calls Tryd.prog 53 #[v] w fun e w' => e = .returned (.int .u64 ((deN l : Nat) : Int)) ∧ w' = w := by
  have HL : Hid (Bs w v l ∧ ∀ c ∈ l, c < 256) := ⟨h, hb⟩
  obtain ⟨ad, cap, rfl, k1, k2⟩ := h.len
  obtain ⟨n, hn⟩ : ∃ n, l.length = n := ⟨_, rfl⟩
  have HN : Hid (l.length = n) := hn
  rw [hn] at HL hl k1 ⊢
  clear h hb hn
  have hw0 : IntKind.i64.wrap ((n : Int) - 1) = (n : Int) - 1 := by rw [IntKind.wrap_i64]; omega
  go_enter Tryd.func53, Tryd.ntmps53
  go_upto_region 3 with fail
  go_loopw [3, 4] (fun s3 s4 wr => ∃ j : Nat, j ≤ n ∧ s4 = .int .i64 ((j : Int) - 1) ∧ s3 = .int .u64 ((deN (l.drop j) : Nat) : Int) ∧ wr = w) (fun _ s4 _ => (intOf s4 + 1).toNat)
  case atStart => exact ⟨n, by omega, rfl, by rw [List.drop_of_length_le (by have := HN.out; omega)]; rfl, rfl⟩
  case round =>
    obtain ⟨j, hj, rfl, rfl, hwr⟩ := hrel
    have hwr := hwr.symm
    subst hwr
    cases j with
    | zero =>
      have hjI : ¬ (0 : Int) ≤ ((0 : Nat) : Int) - 1 := by omega
      rw [List.drop_zero]
      go_wp2
      go_ret
      exact ⟨rfl, by trivial⟩
    | succ j =>
      have hjI : (0 : Int) ≤ (j : Int) := by omega
      have hjn : (j : Int) < (n : Int) := by omega
      have hN := HN.out
      obtain ⟨b, o, rfl, ca⟩ := HL.out.1.cel j (by omega)
      have HD : Hid (deN (l.drop j) = l.getD j 0 + 256 * deN (l.drop (j + 1))) := deN_drop l j (by omega)
      have hlt : deN (l.drop j) < 256 ^ 8 := by
        have h1 := deN_lt (l.drop j) (fun c hc => HL.out.2 c (List.mem_of_mem_drop hc))
        have h2 : (256 : Nat) ^ (l.drop j).length ≤ 256 ^ 8 := Nat.pow_le_pow_right (by omega) (by rw [List.length_drop]; omega)
        omega
      have hx : l.getD j 0 < 256 := getD_byte HL.out.2 j
      have hdd := HD.out
      obtain ⟨z, hz⟩ : ∃ z, deN (l.drop j) = z := ⟨_, rfl⟩
      have HZ : Hid (deN (l.drop j) = z) := hz
      rw [hz] at hlt hdd
      clear hz hN HD
      have he : ((j + 1 : Nat) : Int) - 1 = (j : Int) := by omega
      rw [he]
      generalize l.getD j 0 = x at *
      generalize deN (l.drop (j + 1)) = y at *
      obtain ⟨y2, hy2⟩ : ∃ y2, 256 * y = y2 := ⟨_, rfl⟩
      have m1 : (256 : Int) * (y : Int) = (y2 : Int) := by omega
      have m2 : (y : Int) * (256 : Int) = (y2 : Int) := by omega
      have p8 : (256 : Nat) ^ 8 = 18446744073709551616 := by decide
      have w1 : IntKind.u64.wrap (y2 : Int) = (y2 : Int) := by rw [IntKind.wrap_u64]; omega
      have w2 : IntKind.u64.wrap (x : Int) = (x : Int) := by rw [IntKind.wrap_u64]; omega
      have s1 : (y2 : Int) + (x : Int) = (z : Int) := by omega
      have w3 : IntKind.u64.wrap (z : Int) = (z : Int) := by rw [IntKind.wrap_u64]; omega
      have w4 : IntKind.i64.wrap ((j : Int) - 1) = (j : Int) - 1 := by rw [IntKind.wrap_i64]; omega
      clear hy2 hdd he
      go_wp2
      go_roundw
      case rel => exact ⟨j, by omega, rfl, by rw [HZ.out], by trivial⟩
      case measure => simp [intOf]
set_option maxRecDepth 100000 in
set_option maxHeartbeats 1000000 in
theorem refSum16 (l : List Nat) (hb : ∀ c ∈ l, c < 256) (hl : l.length ≤ 100000) (v : Value) (w : World) (h : Bs w v l) :
    Calls Tryd.prog 51 #[v] w fun e w' => e = .returned (.int .u64 ((sm l : Nat) : Int)) ∧ Below w.heap.size w w' := by
  have C : Hid (Calls Tryd.prog 63 #[.int .u32 0, v] w fun e w' => e = .returned (.int .u32 ((sm l : Nat) : Int)) ∧ Below w.heap.size w w') := refMore 0 (by omega) v l.length (fun k => l.getD k 0) hl (fun k => getD_byte hb k) w h
  have hs := sm_lt l
  obtain ⟨ad, cap, rfl, -, -⟩ := h.len
  have w1 : IntKind.u64.wrap ((sm l : Nat) : Int) = ((sm l : Nat) : Int) := by rw [IntKind.wrap_u64]; omega
  clear h hb hl hs
  generalize sm l = s at *
  go_enter Tryd.func51, Tryd.ntmps51
  go_wp2_with fail
  refine C.out.mono ?_
  rintro e w2 ⟨rfl, hb2⟩
  have HB : Hid (Below w.heap.size w w2) := hb2
  clear hb2 C
  go_wp2
  go_ret
  exact ⟨rfl, HB.out⟩
end Go.Proofs.YtpmmfmlldkdfhaaDoor
set_option linter.unusedVariables false
set_option linter.unusedSimpArgs false
namespace Go.Proofs.YtpmmfmlldkdfhaaDoor
open Go.RowKit

set_option maxRecDepth 100000 in
set_option maxHeartbeats 4000000 in
theorem refHead (n : Nat) (hn : n ≤ 4611686018427387904) (v : Value) (l : List Nat) (hb : ∀ c ∈ l, c < 256) (hl : l.length ≤ 100000) (w : World) (h : Bs w v l) :
    Calls Tryd.prog 33 #[.int .i64 (n : Int), v] w fun e w' => ∃ v', e = .returned v' ∧ Bs w' v' (hdB n l) ∧ Ow w.heap.size v' ∧ Below w.heap.size w w' := by
  have HL : Hid (Bs w v l ∧ (∀ c ∈ l, c < 256) ∧ ∃ u, l = u ∧ u.length ≤ 100000) := ⟨h, hb, _, rfl, hl⟩
  obtain ⟨ad, cap, rfl, -, -⟩ := h.len
  have HE : Hid (hdB n l = hd20 n l ++ (enN (sm (hd20 n l)) 4 ++ (List.replicate 96 0 ++ enN n 8)) ∧ hd20 n l = enN n 8 ++ (enN l.length 8 ++ enN (sm l) 4) ∧ (hd20 n l).length = 20) := ⟨rfl, rfl, hd20_len n l⟩
  have HY : Hid (∀ c ∈ hd20 n l, c < 256) := fun c hc => (hdB_ok n l).2 c (by unfold hdB; simp [hc])
  have H8 : Hid (∀ m k, (enN m k).length = k) := enN_len
  have hs := sm_lt l
  have hs2 := sm_lt (hd20 n l)
  have w1 : IntKind.u64.wrap (n : Int) = (n : Int) := by rw [IntKind.wrap_u64]; omega
  generalize hm : l.length = m at *
  have w2 : IntKind.u64.wrap (m : Int) = (m : Int) := by rw [IntKind.wrap_u64]; omega
  clear h hb hm
  go_enter Tryd.func33, Tryd.ntmps33
  go_wp2_with fail
  refine (refPut n 8 (by omega) (by omega) w).mono ?_
  rintro e u1 ⟨v1, rfl, hO, hB⟩
  have H1 : Hid (Ob w.heap.size u1 v1 (enN n 8) ∧ Below w.heap.size w u1) := ⟨hO, hB⟩
  obtain ⟨a1, c1, rfl⟩ := hO.sl
  clear hO hB
  have e8 := H8.out n 8
  rw [e8] at H1 ⊢
  go_wp2_with fail
  refine (refPut m 8 (by omega) (by omega) u1).mono ?_
  rintro e u2 ⟨v2, rfl, hO, hB⟩
  have H2 : Hid (Ob w.heap.size u2 (.slice a1 8 c1) (enN n 8) ∧ Bs u2 v2 (enN m 8) ∧ Below w.heap.size w u2) := ⟨H1.out.1.later hB, hO.bs.1, bchain H1.out.2 hB⟩
  obtain ⟨a2, c2, rfl⟩ := hO.sl
  clear hO hB H1
  go_upto_region 2 with (at_builtin; refine apB rfl _ _ rfl w.heap.size _ (enN n 8) rfl H2.out.1 _ (enN m 8) rfl H2.out.2.1 (by simp [enN_len]) H2.out.2.2.size ?_; intro v3 u3 hO3 hg3; have H3 : Hid (Ob w.heap.size u3 v3 (enN n 8 ++ enN m 8) ∧ Below w.heap.size w u3 ∧ Bs u3 (.slice ad m cap) l) := ⟨hO3, hg3.1 _ H2.out.2.2, HL.out.1.later (hg3.1 _ H2.out.2.2)⟩; obtain ⟨a3, c3, rfl⟩ := hO3.sl; clear hO3 hg3)
  clear H2
  go_wp2_with fail
  refine (refSum16 l HL.out.2.1 (by obtain ⟨u, e, hu⟩ := HL.out.2.2; rw [e]; exact hu) _ _ H3.out.2.2).mono ?_
  rintro e u4 ⟨rfl, hB⟩
  have H4 : Hid (Ob w.heap.size u4 (.slice a3 (enN n 8 ++ enN m 8).length c3) (enN n 8 ++ enN m 8) ∧ Below w.heap.size w u4) := ⟨H3.out.1.later hB, bchain H3.out.2.1 hB⟩
  clear hB H3
  go_wp2_with fail
  refine (refPut (sm l) 4 (by omega) (by omega) u4).mono ?_
  rintro e u5 ⟨v5, rfl, hO, hB⟩
  have H5 : Hid (Ob w.heap.size u5 (.slice a3 (enN n 8 ++ enN m 8).length c3) (enN n 8 ++ enN m 8) ∧ Bs u5 v5 (enN (sm l) 4) ∧ Below w.heap.size w u5) := ⟨H4.out.1.later hB, hO.bs.1, bchain H4.out.2 hB⟩
  obtain ⟨a5, c5, rfl⟩ := hO.sl
  clear hO hB H4
  go_upto_region 3 with (at_builtin; refine apB rfl _ _ rfl w.heap.size _ (enN n 8 ++ enN m 8) rfl H5.out.1 _ (enN (sm l) 4) rfl H5.out.2.1 (by simp [enN_len]) H5.out.2.2.size ?_; intro v6 u6 hO6 hg6; have H6 : Hid (Ob w.heap.size u6 v6 (hd20 n l) ∧ Below w.heap.size w u6 ∧ Bs u6 v6 (hd20 n l)) := ⟨by rw [HE.out.2.1, ← List.append_assoc]; exact hO6, hg6.1 _ H5.out.2.2, by rw [HE.out.2.1, ← List.append_assoc]; exact hO6.bs.1⟩; obtain ⟨a6, c6, rfl⟩ := H6.out.1.sl; clear hO6 hg6)
  clear H5
  go_wp2_with fail
  refine (refSum16 (hd20 n l) HY.out (by have := HE.out.2.2; omega) _ _ H6.out.2.2).mono ?_
  rintro e u7 ⟨rfl, hB⟩
  have H7 : Hid (Ob w.heap.size u7 (.slice a6 (hd20 n l).length c6) (hd20 n l) ∧ Below w.heap.size w u7) := ⟨H6.out.1.later hB, bchain H6.out.2.1 hB⟩
  clear hB H6
  generalize hS2 : sm (hd20 n l) = S2 at *
  go_wp2_with fail
  refine (refPut S2 4 (by omega) (by omega) u7).mono ?_
  rintro e u8 ⟨v8, rfl, hO, hB⟩
  have H8' : Hid (Ob w.heap.size u8 (.slice a6 (hd20 n l).length c6) (hd20 n l) ∧ Bs u8 v8 (enN S2 4) ∧ Below w.heap.size w u8) := ⟨H7.out.1.later hB, hO.bs.1, bchain H7.out.2 hB⟩
  obtain ⟨a8, c8, rfl⟩ := hO.sl
  clear hO hB H7
  go_upto_region 4 with (at_builtin; refine apB rfl _ _ rfl w.heap.size _ (hd20 n l) rfl H8'.out.1 _ (enN S2 4) rfl H8'.out.2.1 (by have := HE.out.2.2; simp [enN_len]; omega) H8'.out.2.2.size ?_; intro v9 u9 hO9 hg9; have H9 : Hid (Ob w.heap.size u9 v9 (hd20 n l ++ enN S2 4) ∧ Below w.heap.size w u9) := ⟨hO9, hg9.1 _ H8'.out.2.2⟩; obtain ⟨a9, c9, rfl⟩ := hO9.sl; clear hO9 hg9)
  clear H8'
  go_upto_region 5 with (at_builtin; refine apZ rfl _ _ rfl w.heap.size _ (hd20 n l ++ enN S2 4) rfl H9.out.1 96 rfl (by omega) (by have := HE.out.2.2; simp [enN_len]; omega) H9.out.2.size ?_; intro v10 u10 hO10 hg10; have H10 : Hid (Ob w.heap.size u10 v10 (hd20 n l ++ enN S2 4 ++ List.replicate 96 0) ∧ Below w.heap.size w u10) := ⟨hO10, hg10.1 _ H9.out.2⟩; obtain ⟨a10, c10, rfl⟩ := hO10.sl; clear hO10 hg10)
  clear H9
  go_wp2_with fail
  refine (refPut n 8 (by omega) (by omega) u10).mono ?_
  rintro e u11 ⟨v11, rfl, hO, hB⟩
  have H11 : Hid (Ob w.heap.size u11 (.slice a10 (hd20 n l ++ enN S2 4 ++ List.replicate 96 0).length c10) (hd20 n l ++ enN S2 4 ++ List.replicate 96 0) ∧ Bs u11 v11 (enN n 8) ∧ Below w.heap.size w u11) := ⟨H10.out.1.later hB, hO.bs.1, bchain H10.out.2 hB⟩
  obtain ⟨a11, c11, rfl⟩ := hO.sl
  clear hO hB H10
  go_wp2_with (at_builtin; refine apB rfl _ _ rfl w.heap.size _ (hd20 n l ++ enN S2 4 ++ List.replicate 96 0) rfl H11.out.1 _ (enN n 8) rfl H11.out.2.1 (by have := HE.out.2.2; simp [enN_len]; omega) H11.out.2.2.size ?_; intro v12 u12 hO12 hg12; have H12 : Hid (Ob w.heap.size u12 v12 (hdB n l) ∧ Below w.heap.size w u12) := ⟨by rw [HE.out.1, ← List.append_assoc, ← List.append_assoc]; exact hO12, hg12.1 _ H11.out.2.2⟩; obtain ⟨a12, c12, rfl⟩ := H12.out.1.sl; clear hO12 hg12)
  go_ret
  exact ⟨_, rfl, H12.out.1.bs.1, H12.out.1.bs.2, H12.out.2⟩
end Go.Proofs.YtpmmfmlldkdfhaaDoor
set_option linter.unusedVariables false
set_option linter.unusedSimpArgs false
namespace Go.Proofs.YtpmmfmlldkdfhaaDoor

/-- The blocks of a text are laid behind a head; nothing else. -/
structure Laid (bl bl1 : List (List Nat)) (a room : Nat) (d : List Nat) : Prop where
  len : bl1.length = bl.length
  txt : ∀ i, i < room → i * 128 < d.length → bl1.getD (a + 1 + i) [] = full (ck d i)
  far : ∀ i, (i < a + 1 ∨ a + 1 + room ≤ i) → bl1.getD i [] = bl.getD i []
/-- How a Save ends: in the text, in the head, or well. -/
inductive SvEnd (bl : List (List Nat)) (a room n : Nat) (d : List Nat) (r : Nat × Nat × Dsk) : Prop
  | text : r.1 = 0 → r.2.1 = 150 → r.2.2.bl = bl → (∀ u ∈ r.2.2.un, a + 1 ≤ u.1 ∧ u.1 < a + 1 + room) → SvEnd bl a room n d r
  | head : Laid bl r.2.2.bl a room d → r.1 = 0 → r.2.1 = 150 → r.2.2.un = [(a, hdB n d)] → SvEnd bl a room n d r
  | well : ∀ bl1, Laid bl bl1 a room d → r.1 = n → r.2.1 = 0 → r.2.2.bl = bl1.set a (hdB n d) → r.2.2.un = [] → r.2.2.dn = false → SvEnd bl a room n d r
theorem full_hd (n : Nat) (d : List Nat) : full (hdB n d) = hdB n d := by
  unfold full
  rw [hdB_len, Nat.sub_self, List.replicate_zero, List.append_nil]
theorem svH_end {bl : List (List Nat)} {a room n : Nat} {d : List Nat} {s : Dsk} (hd : s.dn = false) (hu : s.un = []) (hL : Laid bl s.bl a room d) (ha : a < bl.length) : SvEnd bl a room n d (svH a n d s) := by
  obtain ⟨w1, w2, w3⟩ := wr_step (s := s) (i := a) (b := hdB n d) hd (by rw [hL.len]; exact ha) (by rw [hdB_len]; omega)
  rw [hu, full_hd, List.nil_append] at w2
  rcases w3 with w3 | ⟨w3, w4⟩
  · have e : svH a n d s = (0, 150, wrS s (a : Int) (hdB n d)) := by
      unfold svH
      rw [if_pos (by omega), w3]
    rw [e]
    exact .head (by show Laid bl (wrS s (a : Int) (hdB n d)).bl a room d; rw [w1]; exact hL) rfl rfl w2
  · rcases fl_step w4 with ⟨f1, f2, f3⟩ | ⟨f1, f2, f3, f4⟩
    · have e : svH a n d s = (0, 150, flS (wrS s (a : Int) (hdB n d))) := by
        unfold svH
        rw [if_neg (by omega), if_pos (by omega), f1]
      rw [e]
      exact .head (by show Laid bl (flS (wrS s (a : Int) (hdB n d))).bl a room d; rw [f2, w1]; exact hL) rfl rfl (by show (flS (wrS s (a : Int) (hdB n d))).un = _; rw [f3, w2])
    · have e : svH a n d s = (n, 0, flS (wrS s (a : Int) (hdB n d))) := by
        unfold svH
        rw [if_neg (by omega), if_neg (by omega)]
      rw [e]
      exact .well s.bl hL rfl rfl (by show (flS (wrS s (a : Int) (hdB n d))).bl = _; rw [f2, w1, w2]; rfl) f3 f4
theorem svF_end {a room n : Nat} {d : List Nat} {s : Dsk} (hd : s.dn = false) (hu : s.un = []) (ha : a + 1 + room ≤ s.bl.length) (hl : d.length ≤ room * 128) : SvEnd s.bl a room n d (svF a n d (svW a d ((d.length + 127) / 128) 0 s)) := by
  have hc : (d.length + 127) / 128 ≤ room := by omega
  obtain ⟨hU, h2⟩ := svW_is s.bl a ((d.length + 127) / 128) d (by omega) ((d.length + 127) / 128) 0 s (by omega) hd ⟨rfl, fun u hx => by rw [hu] at hx; cases hx⟩ (fun j hj => by omega)
  generalize svW a d ((d.length + 127) / 128) 0 s = w at *
  rcases h2 with h2 | ⟨h2, h3, h4⟩
  · have e : svF a n d w = (0, 150, w.2) := by unfold svF; rw [if_pos (by omega), h2]
    rw [e]
    exact .text rfl rfl hU.bl (fun u hx => by have := hU.un u hx; omega)
  · rcases fl_step h3 with ⟨f1, f2, f3⟩ | ⟨f1, f2, f3, f4⟩
    · have e : svF a n d w = (0, 150, flS w.2) := by unfold svF; rw [if_neg (by omega), if_pos (by omega), f1]
      rw [e]
      exact .text rfl rfl (by show (flS w.2).bl = _; rw [f2, hU.bl]) (fun u hx => by
        have hx2 : u ∈ (flS w.2).un := hx
        rw [f3] at hx2
        have := hU.un u hx2; omega)
    · have e : svF a n d w = svH a n d (flS w.2) := by unfold svF; rw [if_neg (by omega), if_neg (by omega)]
      rw [e]
      refine svH_end f4 f3 ⟨by rw [f2, lay_len, hU.bl], fun i hi hid => ?_, fun i hi => ?_⟩ (by omega)
      · rw [f2, hU.bl, lay_last _ _ _ (by omega)]
        exact h4 i (by omega)
      · rw [f2, hU.bl, lay_far _ _ _ (fun u hx => by have := hU.un u hx; omega)]
/-- A disk between two lives, with a snap on it. -/
structure SnRest (at_ room N : Nat) (last : List Nat) (s : Dsk) : Prop where
  ok : OkD s
  dn : s.dn = false
  un : s.un = []
  rm : at_ + 2 * (room + 1) ≤ s.bl.length
  rmax : room ≤ 16384
  jv : Jv at_ room N last (bk s)
theorem slA_lt {at_ room which l i : Nat} (hw : which < 2) (h : at_ + 2 * (room + 1) ≤ l) (hi : i ≤ room) : slA at_ room which + i < l := by
  unfold slA
  have : which = 0 ∨ which = 1 := by omega
  rcases this with q | q <;> subst q <;> omega
theorem ldV_same {B B' : Nat → List Nat} {at_ room : Nat} (h : ∀ i, i < at_ + 2 * (room + 1) → B' i = B i) : ldV B' at_ room = ldV B at_ room := by
  have e0 : slt B' at_ room 0 = slt B at_ room 0 := slt_same fun i hi => h _ (slA_lt (by omega) (Nat.le_refl _) hi)
  have e1 : slt B' at_ room 1 = slt B at_ room 1 := slt_same fun i hi => h _ (slA_lt (by omega) (Nat.le_refl _) hi)
  unfold ldV
  rw [e0, e1]
/-- What is loaded from it. -/
theorem SnRest.load {at_ room N : Nat} {last : List Nat} {s : Dsk} (h : SnRest at_ room N last s) : ldV (rb s) at_ room = if N = 0 then ([], 0, 160) else (last, N, 0) := by
  have hr := h.rm
  rw [ldV_same (B := bk s) (fun i hi => rb_bk h.un h.dn (by omega))]
  exact h.jv.load
theorem SnRest.arm {at_ room N : Nat} {last : List Nat} {s : Dsk} (h : SnRest at_ room N last s) (k : Int) : SnRest at_ room N last (arS s k) := ⟨okD_ar h.ok k, h.dn, h.un, h.rm, h.rmax, h.jv⟩
/-- A Save on it, and how it ends. -/
theorem SnRest.save {at_ room N : Nat} {last d : List Nat} {s : Dsk} (h : SnRest at_ room N last s) (hd : d.length ≤ room * 128) (hN : N + 1 ≤ 4611686018427387904) : SvEnd s.bl (slA at_ room ((N + 1) % 2)) room (N + 1) d (svR s at_ room d) := by
  have hn : (ldV (rb s) at_ room).2.1 = N := by
    rw [h.load]
    split
    · rename_i q; exact q.symm
    · rfl
  have e : svR s at_ room d = svF (slA at_ room ((N + 1) % 2)) (N + 1) d (svW (slA at_ room ((N + 1) % 2)) d ((d.length + 127) / 128) 0 s) := by
    unfold svR
    rw [if_neg (by omega), if_neg (by rw [h.dn]; simp), hn]
    unfold svN
    rw [if_neg (by omega)]
  rw [e]
  have hr := h.rm
  have := slA_lt (at_ := at_) (room := room) (which := (N + 1) % 2) (i := room) (by omega) hr (Nat.le_refl _)
  exact svF_end h.dn h.un (by omega) hd
theorem okD_svW (a : Nat) {d : List Nat} (hb : ∀ c ∈ d, c < 256) : ∀ (k i : Nat) (s : Dsk), OkD s → OkD (svW a d k i s).2 := by
  intro k
  induction k with
  | zero => intro i s h; exact h
  | succ k ih =>
    intro i s h
    have h2 := okD_wr h ((a + 1 + i : Nat) : Int) (ck d i) (ck_byte hb i)
    show OkD (if wrE s ((a + 1 + i : Nat) : Int) (ck d i) ≠ 0 then _ else _ : Nat × Dsk).2
    split
    · exact h2
    · exact ih _ _ h2
theorem okD_svR {s : Dsk} (at_ room : Nat) {d : List Nat} (h : OkD s) (hb : ∀ c ∈ d, c < 256) : OkD (svR s at_ room d).2.2 := by
  unfold svR
  split
  · exact h
  · split
    · exact h
    · unfold svN
      split
      · exact h
      · generalize hw : svW _ d _ 0 s = w
        have h1 : OkD w.2 := by rw [← hw]; exact okD_svW _ hb _ _ _ h
        unfold svF
        split
        · exact h1
        · split
          · exact okD_fl h1
          · have h2 := okD_fl h1
            unfold svH
            split
            · exact okD_wr h2 _ _ (hdB_ok _ _).2
            · split
              · exact okD_fl (okD_wr h2 _ _ (hdB_ok _ _).2)
              · exact okD_fl (okD_wr h2 _ _ (hdB_ok _ _).2)
/-- The slots lie apart. -/
theorem slA_apart {at_ room N i j : Nat} (hi : i ≤ room) (hj : j ≤ room) : slA at_ room (N % 2) + i ≠ slA at_ room ((N + 1) % 2) + j := by
  unfold slA
  have : (N % 2 = 0 ∧ (N + 1) % 2 = 1) ∨ (N % 2 = 1 ∧ (N + 1) % 2 = 0) := by omega
  rcases this with ⟨q1, q2⟩ | ⟨q1, q2⟩ <;> rw [q1, q2] <;> omega
/-- The other slot's blocks are out of a slot's reach. -/
theorem slA_out {at_ room N i : Nat} (hi : i ≤ room) : slA at_ room (N % 2) + i < slA at_ room ((N + 1) % 2) ∨ slA at_ room ((N + 1) % 2) + 1 + room ≤ slA at_ room (N % 2) + i := by
  unfold slA
  have : (N % 2 = 0 ∧ (N + 1) % 2 = 1) ∨ (N % 2 = 1 ∧ (N + 1) % 2 = 0) := by omega
  rcases this with ⟨q1, q2⟩ | ⟨q1, q2⟩ <;> rw [q1, q2] <;> omega
theorem getD_set (bl : List (List Nat)) (a i : Nat) (x : List Nat) (ha : a < bl.length) : (bl.set a x).getD i [] = if i = a then x else bl.getD i [] := by
  by_cases q : i = a
  · subst q; simp [List.getD, List.getElem?_set, ha]
  · rw [if_neg q]; simp [List.getD, List.getElem?_set, Ne.symm q]
/-- Behind a Save and a fall: the old text or the new one; the new one, if it ended well. -/
theorem SnRest.life {at_ room N : Nat} {last d : List Nat} {s : Dsk} (h : SnRest at_ room N last s) (hd : d.length ≤ room * 128) (hb : ∀ c ∈ d, c < 256) (hN : N + 1 ≤ 4611686018427387904) (fs : List (Int × Int)) :
    ((svR s at_ room d).2.1 = 0 ∧ (svR s at_ room d).1 = N + 1 ∧ SnRest at_ room (N + 1) d (crS (svR s at_ room d).2.2 fs)) ∨
    ((svR s at_ room d).2.1 = 150 ∧ (svR s at_ room d).1 = 0 ∧ (SnRest at_ room N last (crS (svR s at_ room d).2.2 fs) ∨ SnRest at_ room (N + 1) d (crS (svR s at_ room d).2.2 fs))) := by
  have hE := h.save hd hN
  have hO := okD_cr (okD_svR at_ room (d := d) h.ok hb) fs
  have hr := h.rm
  generalize svR s at_ room d = r at *
  have hA := slA_lt (at_ := at_) (room := room) (which := (N + 1) % 2) (i := room) (by omega) hr (Nat.le_refl _)
  have hA0 : slA at_ room ((N + 1) % 2) < s.bl.length := by omega
  have hX : okb (bk s (slA at_ room ((N + 1) % 2))) := getD_ok h.ok.bl hA0
  have key : ∀ k (bl1 : List (List Nat)), k ≤ 128 → Laid s.bl bl1 (slA at_ room ((N + 1) % 2)) room d → (crS r.2.2 fs).bl = bl1.set (slA at_ room ((N + 1) % 2)) (torn k (hdB (N + 1) d) (bk s (slA at_ room ((N + 1) % 2)))) → (SnRest at_ room N last (crS r.2.2 fs) ∧ k ≠ 128) ∨ SnRest at_ room (N + 1) d (crS r.2.2 fs) := by
    intro k bl1 hk hL hbl
    have hlen : (crS r.2.2 fs).bl.length = s.bl.length := by rw [hbl, List.length_set, hL.len]
    have g : ∀ i, bk (crS r.2.2 fs) i = if i = slA at_ room ((N + 1) % 2) then torn k (hdB (N + 1) d) (bk s (slA at_ room ((N + 1) % 2))) else bl1.getD i [] := fun i => by
      unfold bk
      rw [hbl]
      exact getD_set _ _ _ _ (by rw [hL.len]; exact hA0)
    have hj := h.jv.torn (B' := bk (crS r.2.2 fs)) (d := d) hN hk hd h.rmax hX (fun i hi => by
        have ho := slA_out (at_ := at_) (N := N) hi
        rw [g, if_neg (by omega), hL.far _ (by omega)]
        rfl) (by rw [g, if_pos rfl]) (fun i hi => by
        have := getD_ok hO.bl (i := slA at_ room ((N + 1) % 2) + 1 + i) (by rw [hlen]; omega)
        exact this.1) (fun i hi hid => by
        rw [g, if_neg (by omega)]
        exact hL.txt i hi hid)
    rcases hj with ⟨hj, hk2⟩ | hj
    · exact Or.inl ⟨⟨hO, rfl, rfl, by rw [hlen]; exact hr, h.rmax, hj⟩, hk2⟩
    · exact Or.inr ⟨hO, rfl, rfl, by rw [hlen]; exact hr, h.rmax, hj⟩
  cases hE with
  | text e1 e2 e3 e4 =>
    right
    refine ⟨e2, e1, Or.inl ⟨hO, rfl, rfl, ?_, h.rmax, ?_⟩⟩
    · show _ ≤ (fall _ _ _).length
      rw [fall_len, e3]; exact hr
    · have far : ∀ i, (i < slA at_ room ((N + 1) % 2) + 1 ∨ slA at_ room ((N + 1) % 2) + 1 + room ≤ i) → bk (crS r.2.2 fs) i = bk s i := fun i hi => by
        show (fall r.2.2.un fs r.2.2.bl).getD i [] = _
        rw [fall_far _ _ _ _ (fun u hu => by have := e4 u hu; omega), e3]
        rfl
      refine h.jv.same (fun i hi => far _ ?_) ?_
      · have ho := slA_out (at_ := at_) (N := N) hi
        omega
      · rw [far _ (by omega)]
  | head hL e1 e2 e3 =>
    right
    refine ⟨e2, e1, ?_⟩
    have hx : r.2.2.bl.getD (slA at_ room ((N + 1) % 2)) [] = bk s (slA at_ room ((N + 1) % 2)) := hL.far _ (by omega)
    have hf : ∃ k, k ≤ 128 ∧ (crS r.2.2 fs).bl = r.2.2.bl.set (slA at_ room ((N + 1) % 2)) (torn k (hdB (N + 1) d) (bk s (slA at_ room ((N + 1) % 2)))) := by
      cases fs with
      | nil =>
        refine ⟨0, by omega, ?_⟩
        show fall _ [] _ = _
        rw [fall_nil, ← hx]
        have ht : torn 0 (hdB (N + 1) d) (r.2.2.bl.getD (slA at_ room ((N + 1) % 2)) []) = r.2.2.bl.getD (slA at_ room ((N + 1) % 2)) [] := by unfold torn; simp
        rw [ht]
        have hl : slA at_ room ((N + 1) % 2) < r.2.2.bl.length := by rw [hL.len]; exact hA0
        have e : r.2.2.bl.getD (slA at_ room ((N + 1) % 2)) [] = r.2.2.bl[slA at_ room ((N + 1) % 2)] := by simp [List.getD, hl]
        rw [e, List.set_getElem_self]
      | cons f fs =>
        refine ⟨fn f, fn_le f, ?_⟩
        show fall r.2.2.un (f :: fs) r.2.2.bl = _
        rw [e3, fall_cons, fall_none, hx]
    obtain ⟨k, hk, hk2⟩ := hf
    rcases key k _ hk hL hk2 with q | q
    · exact Or.inl q.1
    · exact Or.inr q
  | well bl1 hL e1 e2 e3 e4 e5 =>
    left
    refine ⟨e2, e1, ?_⟩
    have hbl : (crS r.2.2 fs).bl = bl1.set (slA at_ room ((N + 1) % 2)) (torn 128 (hdB (N + 1) d) (bk s (slA at_ room ((N + 1) % 2)))) := by
      show fall r.2.2.un fs r.2.2.bl = _
      rw [e4, fall_none, e3]
      congr 1
      unfold torn
      rw [List.take_of_length_le (by rw [hdB_len]; omega), List.drop_of_length_le (by rw [hX.1]; omega), List.append_nil]
    rcases key 128 bl1 (by omega) hL hbl with q | q
    · exact absurd rfl q.2
    · exact q
end Go.Proofs.YtpmmfmlldkdfhaaDoor
