/-
  The contracts of rand's Place and Back.
-/
import Derived.Test.YtaifihfiompgaaaHWalkH
set_option linter.unusedVariables false
set_option linter.unusedSimpArgs false
namespace Go.Proofs.Ytaifihfiompgaaa
open Go.RowKit

theorem stps_rnds (f : Nat → Nat → Nat) (j : Nat) (p : Nat × Nat) : stps (rnd1 f) j p = rnds f j p := by
  induction j with
  | zero => rfl
  | succ j ih => show rnd1 f j (stps (rnd1 f) j p) = rnd1 f j (rnds f j p); rw [ih]
theorem tpF_trp (f : Nat → Nat → Nat) (k : Nat) : tpF (rnd1 f) 4 k = trp f (2 ^ k) := by
  funext x
  unfold tpF trp
  rw [stps_rnds]
/-- A swap. -/
def swpP (p : Nat × Nat) : Nat × Nat := (p.2, p.1)
/-- The steps of the trip back. -/
def bop (f : Nat → Nat → Nat) (i : Nat) : Nat × Nat → Nat × Nat := if i = 0 then swpP else if i = 5 then swpP else rnd1 f (4 - i)
theorem tpF_prt (f : Nat → Nat → Nat) (k : Nat) : tpF (bop f) 6 k = prt f (2 ^ k) := by
  funext x
  rfl
theorem rnd1_lt (f : Nat → Nat → Nat) (k t : Nat) (hf : ∀ t r, f t r < 2 ^ k) (p : Nat × Nat) (h1 : p.1 < 2 ^ k) (h2 : p.2 < 2 ^ k) : (rnd1 f t p).1 < 2 ^ k ∧ (rnd1 f t p).2 < 2 ^ k := ⟨h2, Nat.xor_lt_two_pow h1 (hf _ _)⟩
theorem bop_lt (f : Nat → Nat → Nat) (k i : Nat) (hf : ∀ t r, f t r < 2 ^ k) (p : Nat × Nat) (h1 : p.1 < 2 ^ k) (h2 : p.2 < 2 ^ k) : (bop f i p).1 < 2 ^ k ∧ (bop f i p).2 < 2 ^ k := by
  unfold bop
  split
  · exact ⟨h2, h1⟩
  · split
    · exact ⟨h2, h1⟩
    · exact rnd1_lt f k _ hf p h1 h2
theorem stp_round (s : Nat) (a b c : Int) (k t Bb Bk Tb : Nat) (hk : Ky s a b c) (hk8 : k ≤ 8) (ht : t < 4) (w : World)
    (cb : w.cell? ⟨Bb, 0, none⟩ = some (.int .i64 (k : Int))) (ck : K4 Bk (.int .u64 (s : Int)) (.int .i64 a) (.int .i64 b) (.int .i64 c) w) (ct : w.cell? ⟨Tb, 0, none⟩ = some (.int .i64 (t : Int))) : Stp w k (rv Bb Bk Tb) (rnd1 (rfN s a b c (2 ^ k)) t) := by
  have h256 : 2 ^ k ≤ 2 ^ 8 := Nat.pow_le_pow_right (by omega) hk8
  exact Or.inl ⟨Bb, Bk, Tb, rfl, fun u l W hb hu hl => round_any s a b c k t u l Bb Bk Tb hk hk8 ht (by omega) (by omega) W (cell_later hb cb) (ck.later hb) (cell_later hb ct)⟩
theorem stp_swap (w : World) (k : Nat) : Stp w k sv swpP := Or.inr ⟨rfl, fun u l W => swapped_any (u : Int) (l : Int) W⟩
/-- A trip there, travelled. -/
theorem there_any (s : Nat) (a b c : Int) (k n i : Nat) (v : Value) (B : Nat) (hk : Ky s a b c) (k8 : k ≤ 8) (hH : Hf n k) (n1 : n ≤ 65536) (hi : i < n) (w : World) (hT : Trip s a b c k B v w) :
    Calls Try.prog 29 #[v, .int .i64 (k : Int), .int .i64 (n : Int), .int .i64 (i : Int)] w fun e w' => ∃ x : Nat, e = .returned (.int .i64 (x : Int)) ∧ Goes s a b c n i x ∧ Below w.heap.size w w' := by
  obtain ⟨g, cap, Bb, Bk, T, rfl, hc1, hc2, -, hR, cb, ck, ct⟩ := hT
  have hf : ∀ t r, rfN s a b c (2 ^ k) t r < 2 ^ k := fun t r => rfN_lt _ _ _ _ _ _ _ (Nat.two_pow_pos k)
  obtain ⟨M, M1, -, M3, M4⟩ := gets_all (trp (rfN s a b c (2 ^ k)) (2 ^ k)) (prt (rfN s a b c (2 ^ k)) (2 ^ k)) n (2 ^ k * 2 ^ k) i (fun x hx => trp_lt _ k hf x hx) (fun x hx => prt_trp _ k hf x hx) hH.2.1 hi
  refine (travel_any g cap 4 k n i M (fun q => rv Bb Bk (T q)) (rnd1 (rfN s a b c (2 ^ k))) w hH.1 k8 (by omega) hc1 hc2 n1 hi hH.2.1 hR (fun j hj => stp_round s a b c k j Bb Bk (T j) hk k8 hj w cb ck (ct j hj)) (fun j p _ h1 h2 => rnd1_lt _ k j hf p h1 h2) M1 (by rw [tpF_trp]; exact ⟨M3, M4⟩)).mono ?_
  rintro e w' ⟨x, rfl, hG, hb⟩
  rw [tpF_trp] at hG
  exact ⟨x, rfl, ⟨k, hH, hG⟩, hb⟩
/-- A trip back, travelled. -/
theorem home_any (s : Nat) (a b c : Int) (k n i g cap Bb Bk : Nat) (T : Nat → Nat) (hk : Ky s a b c) (k8 : k ≤ 8) (hH : Hf n k) (n1 : n ≤ 65536) (hi : i < n) (w : World) (hc1 : 6 ≤ cap) (hc2 : cap ≤ maxLen) (hR : Rw g 6 (bkV Bb Bk T) w) (cb : w.cell? ⟨Bb, 0, none⟩ = some (.int .i64 (k : Int))) (ck : K4 Bk (.int .u64 (s : Int)) (.int .i64 a) (.int .i64 b) (.int .i64 c) w) (ct : ∀ i, i < 4 → w.cell? ⟨T i, 0, none⟩ = some (.int .i64 (i : Int))) :
    Calls Try.prog 29 #[.slice (some ⟨g, 0, none⟩) 6 cap, .int .i64 (k : Int), .int .i64 (n : Int), .int .i64 (i : Int)] w fun e w' => ∃ x : Nat, e = .returned (.int .i64 (x : Int)) ∧ Comes s a b c n i x ∧ Below w.heap.size w w' := by
  have hf : ∀ t r, rfN s a b c (2 ^ k) t r < 2 ^ k := fun t r => rfN_lt _ _ _ _ _ _ _ (Nat.two_pow_pos k)
  obtain ⟨M, M1, -, M3, M4⟩ := gets_all (prt (rfN s a b c (2 ^ k)) (2 ^ k)) (trp (rfN s a b c (2 ^ k)) (2 ^ k)) n (2 ^ k * 2 ^ k) i (fun x hx => prt_lt _ k hf x hx) (fun x hx => trp_prt _ k hf x hx) hH.2.1 hi
  refine (travel_any g cap 6 k n i M (bkV Bb Bk T) (bop (rfN s a b c (2 ^ k))) w hH.1 k8 (by omega) hc1 hc2 n1 hi hH.2.1 hR (fun j hj => ?_) (fun j p _ h1 h2 => bop_lt _ k j hf p h1 h2) M1 (by rw [tpF_prt]; exact ⟨M3, M4⟩)).mono ?_
  · unfold bkV bop
    by_cases h0 : j = 0
    · rw [if_pos h0, if_pos h0]
      exact stp_swap w k
    · rw [if_neg h0, if_neg h0]
      by_cases h5 : j = 5
      · rw [if_pos h5, if_pos h5]
        exact stp_swap w k
      · rw [if_neg h5, if_neg h5]
        exact stp_round s a b c k (4 - j) Bb Bk (T (4 - j)) hk k8 (by omega) w cb ck (ct (4 - j) (by omega))
  · rintro e w' ⟨x, rfl, hG, hb⟩
    rw [tpF_prt] at hG
    exact ⟨x, rfl, ⟨k, hH, hG⟩, hb⟩
set_option maxRecDepth 100000 in
set_option maxHeartbeats 4000000 in
theorem pPlace_any (s : Nat) (a b c : Int) (n i : Nat) (hk : Ky s a b c) (n0 : 1 ≤ n) (n1 : n ≤ 65536) (hi : i < n) (w : World) :
    Calls Try.prog 25 #[.agg #[.int .u64 (s : Int), .int .i64 a, .int .i64 b, .int .i64 c], .int .i64 (n : Int), .int .i64 (i : Int)] w fun e w' => ∃ x : Nat, e = .returned (.tuple #[.int .i64 (x : Int), .int .i64 0]) ∧ Goes s a b c n i x ∧ Below w.heap.size w w' := by
  have C1 : Hid (∀ W : World, Calls Try.prog 27 #[.int .i64 (n : Int), .int .i64 (i : Int)] W fun e w' => e = .returned (.bool true) ∧ w' = W) := fun W => within_yes n i (by omega) (by omega) (by omega) (by omega) W
  have C2 : Hid (∀ W : World, Calls Try.prog 28 #[.int .i64 (n : Int)] W fun e w' => ∃ k : Nat, e = .returned (.int .i64 (k : Int)) ∧ k ≤ 8 ∧ Hf n k ∧ w' = W) := fun W => halfBits_any n n0 n1 W
  have C3 : Hid (∀ (k : Nat) (W : World), Calls Try.prog 31 #[.agg #[.int .u64 (s : Int), .int .i64 a, .int .i64 b, .int .i64 c], .int .i64 (k : Int)] W fun e w' => ∃ v, e = .returned v ∧ Trip s a b c k W.heap.size v w' ∧ Below W.heap.size W w') := fun k W => rounds_any s a b c k W
  have C4 : Hid (∀ (k : Nat) (v : Value) (B : Nat) (W : World), k ≤ 8 → Hf n k → Trip s a b c k B v W → Calls Try.prog 29 #[v, .int .i64 (k : Int), .int .i64 (n : Int), .int .i64 (i : Int)] W fun e w' => ∃ x : Nat, e = .returned (.int .i64 (x : Int)) ∧ Goes s a b c n i x ∧ Below W.heap.size W w') := fun k v B W k8 hH hT => there_any s a b c k n i v B hk k8 hH n1 hi W hT
  have K0 : K4 w.heap.size (.int .u64 (s : Int)) (.int .i64 a) (.int .i64 b) (.int .i64 c) (w.alloc (.cells #[.int .u64 (s : Int), .int .i64 a, .int .i64 b, .int .i64 c] 51)) := ⟨by simp [go_sem], by simp [go_sem], by simp [go_sem], by simp [go_sem]⟩
  have B0 : Hid (Below w.heap.size w (w.alloc (.cells #[.int .u64 (s : Int), .int .i64 a, .int .i64 b, .int .i64 c] 51))) := bel1 w _
  clear hk
  go_enter Try.func25, Try.ntmps25
  go_wp2_with fail
  generalize w.alloc (.cells #[.int .u64 (s : Int), .int .i64 a, .int .i64 b, .int .i64 c] 51) = w1 at *
  refine (C1.out _).mono ?_
  rintro e w2 ⟨rfl, hz⟩
  subst hz
  clear C1
  go_wp2_with fail
  refine (C2.out _).mono ?_
  rintro e w3 ⟨k, rfl, k8, hH, hz⟩
  subst hz
  have HH : Hid (Hf n k) := hH
  clear C2 hH
  have c0 := K0.c0
  have c1 := K0.c1
  have c2 := K0.c2
  have c3 := K0.c3
  go_wp2_with fail
  refine (C3.out k _).mono ?_
  rintro e w4 ⟨v, rfl, hT, hb⟩
  have B4 : Hid (Below w.heap.size w w4) := bchain B0.out hb
  have HT : Hid (Trip s a b c k w3.heap.size v w4) := hT
  clear C3 hT hb B0 K0 c0 c1 c2 c3
  go_wp2_with fail
  refine (C4.out k v _ _ k8 HH.out HT.out).mono ?_
  rintro e w5 ⟨x, rfl, hG, hb⟩
  have B5 : Hid (Below w.heap.size w w5) := bchain B4.out hb
  have HG : Hid (Goes s a b c n i x) := hG
  clear C4 hG hb B4 HT HH
  go_wp2
  go_ret2
  exact ⟨x, rfl, HG.out, B5.out⟩
set_option maxHeartbeats 1000000 in
theorem pPlace_bad (s : Nat) (a b c n i : Int) (h : n < 1 ∨ 65536 < n ∨ i < 0 ∨ n ≤ i) (w : World) :
    Calls Try.prog 25 #[.agg #[.int .u64 (s : Int), .int .i64 a, .int .i64 b, .int .i64 c], .int .i64 n, .int .i64 i] w fun e w' => e = .returned (.tuple #[.int .i64 0, .int .i64 2]) ∧ Below w.heap.size w w' := by
  have C1 : Hid (∀ W : World, Calls Try.prog 27 #[.int .i64 n, .int .i64 i] W fun e w' => e = .returned (.bool false) ∧ w' = W) := fun W => within_no n i h W
  have B0 : Hid (Below w.heap.size w (w.alloc (.cells #[.int .u64 (s : Int), .int .i64 a, .int .i64 b, .int .i64 c] 51))) := bel1 w _
  clear h
  go_enter Try.func25, Try.ntmps25
  go_wp2_with fail
  refine (C1.out _).mono ?_
  rintro e w2 ⟨rfl, hz⟩
  subst hz
  clear C1
  go_wp2
  go_ret2
  exact ⟨rfl, B0.out⟩
set_option maxHeartbeats 1000000 in
theorem pBack_bad (s : Nat) (a b c n i : Int) (h : n < 1 ∨ 65536 < n ∨ i < 0 ∨ n ≤ i) (w : World) :
    Calls Try.prog 20 #[.agg #[.int .u64 (s : Int), .int .i64 a, .int .i64 b, .int .i64 c], .int .i64 n, .int .i64 i] w fun e w' => e = .returned (.tuple #[.int .i64 0, .int .i64 2]) ∧ Below w.heap.size w w' := by
  have C1 : Hid (∀ W : World, Calls Try.prog 27 #[.int .i64 n, .int .i64 i] W fun e w' => e = .returned (.bool false) ∧ w' = W) := fun W => within_no n i h W
  have B0 : Hid (Below w.heap.size w (w.alloc (.cells #[.int .u64 (s : Int), .int .i64 a, .int .i64 b, .int .i64 c] 51))) := bel1 w _
  clear h
  go_enter Try.func20, Try.ntmps20
  go_wp2_with fail
  refine (C1.out _).mono ?_
  rintro e w2 ⟨rfl, hz⟩
  subst hz
  clear C1
  go_wp2
  go_ret2
  exact ⟨rfl, B0.out⟩
set_option maxRecDepth 100000 in
set_option maxHeartbeats 4000000 in
theorem pBack_any (s : Nat) (a b c : Int) (n i : Nat) (hk : Ky s a b c) (n0 : 1 ≤ n) (n1 : n ≤ 65536) (hi : i < n) (w : World) :
    Calls Try.prog 20 #[.agg #[.int .u64 (s : Int), .int .i64 a, .int .i64 b, .int .i64 c], .int .i64 (n : Int), .int .i64 (i : Int)] w fun e w' => ∃ x : Nat, e = .returned (.tuple #[.int .i64 (x : Int), .int .i64 0]) ∧ Comes s a b c n i x ∧ Below w.heap.size w w' := by
  have C1 : Hid (∀ W : World, Calls Try.prog 27 #[.int .i64 (n : Int), .int .i64 (i : Int)] W fun e w' => e = .returned (.bool true) ∧ w' = W) := fun W => within_yes n i (by omega) (by omega) (by omega) (by omega) W
  have C2 : Hid (∀ W : World, Calls Try.prog 28 #[.int .i64 (n : Int)] W fun e w' => ∃ k : Nat, e = .returned (.int .i64 (k : Int)) ∧ k ≤ 8 ∧ Hf n k ∧ w' = W) := fun W => halfBits_any n n0 n1 W
  have C3 : Hid (∀ (k : Nat) (W : World), Calls Try.prog 31 #[.agg #[.int .u64 (s : Int), .int .i64 a, .int .i64 b, .int .i64 c], .int .i64 (k : Int)] W fun e w' => ∃ v, e = .returned v ∧ Trip s a b c k W.heap.size v w' ∧ Below W.heap.size W w') := fun k W => rounds_any s a b c k W
  have CB : Hid (∀ (g cap Bb Bk : Nat) (T : Nat → Nat) (W : World), Rw g 4 (fun i => rv Bb Bk (T i)) W → Calls Try.prog 30 #[.slice (some ⟨g, 0, none⟩) 4 cap] W fun e w' => ∃ g2 cap2, e = .returned (.slice (some ⟨g2, 0, none⟩) 6 cap2) ∧ 6 ≤ cap2 ∧ cap2 ≤ maxLen ∧ Rw g2 6 (bkV Bb Bk T) w' ∧ Below W.heap.size W w') := fun g cap Bb Bk T W hR => backwards_any g cap Bb Bk T W hR
  have C4 : Hid (∀ (k g cap Bb Bk : Nat) (T : Nat → Nat) (W : World), k ≤ 8 → Hf n k → 6 ≤ cap → cap ≤ maxLen → Rw g 6 (bkV Bb Bk T) W → W.cell? ⟨Bb, 0, none⟩ = some (.int .i64 (k : Int)) → K4 Bk (.int .u64 (s : Int)) (.int .i64 a) (.int .i64 b) (.int .i64 c) W → (∀ i, i < 4 → W.cell? ⟨T i, 0, none⟩ = some (.int .i64 (i : Int))) → Calls Try.prog 29 #[.slice (some ⟨g, 0, none⟩) 6 cap, .int .i64 (k : Int), .int .i64 (n : Int), .int .i64 (i : Int)] W fun e w' => ∃ x : Nat, e = .returned (.int .i64 (x : Int)) ∧ Comes s a b c n i x ∧ Below W.heap.size W w') := fun k g cap Bb Bk T W k8 hH hc1 hc2 hR cb ck ct => home_any s a b c k n i g cap Bb Bk T hk k8 hH n1 hi W hc1 hc2 hR cb ck ct
  have K0 : K4 w.heap.size (.int .u64 (s : Int)) (.int .i64 a) (.int .i64 b) (.int .i64 c) (w.alloc (.cells #[.int .u64 (s : Int), .int .i64 a, .int .i64 b, .int .i64 c] 51)) := ⟨by simp [go_sem], by simp [go_sem], by simp [go_sem], by simp [go_sem]⟩
  have B0 : Hid (Below w.heap.size w (w.alloc (.cells #[.int .u64 (s : Int), .int .i64 a, .int .i64 b, .int .i64 c] 51))) := bel1 w _
  clear hk
  go_enter Try.func20, Try.ntmps20
  go_wp2_with fail
  generalize w.alloc (.cells #[.int .u64 (s : Int), .int .i64 a, .int .i64 b, .int .i64 c] 51) = w1 at *
  refine (C1.out _).mono ?_
  rintro e w2 ⟨rfl, hz⟩
  subst hz
  clear C1
  go_wp2_with fail
  refine (C2.out _).mono ?_
  rintro e w3 ⟨k, rfl, k8, hH, hz⟩
  subst hz
  have HH : Hid (Hf n k) := hH
  clear C2 hH
  have c0 := K0.c0
  have c1 := K0.c1
  have c2 := K0.c2
  have c3 := K0.c3
  go_wp2_with fail
  refine (C3.out k _).mono ?_
  rintro e w4 ⟨v, rfl, hT, hb⟩
  have B4 : Hid (Below w.heap.size w w4) := bchain B0.out hb
  obtain ⟨g, cap, Bb, Bk, T, rfl, hc1, hc2, -, hR, cb, ck, ct⟩ := hT
  have HR : Hid (Rw g 4 (fun i => rv Bb Bk (T i)) w4) := hR
  have HC : Hid (w4.cell? ⟨Bb, 0, none⟩ = some (.int .i64 (k : Int)) ∧ K4 Bk (.int .u64 (s : Int)) (.int .i64 a) (.int .i64 b) (.int .i64 c) w4 ∧ ∀ i, i < 4 → w4.cell? ⟨T i, 0, none⟩ = some (.int .i64 (i : Int))) := ⟨cb, ck, ct⟩
  clear C3 hR cb ck ct hb hc1 hc2 B0 K0 c0 c1 c2 c3
  go_wp2_with fail
  refine (CB.out g cap Bb Bk T _ HR.out).mono ?_
  rintro e w5 ⟨g2, cap2, rfl, hd1, hd2, hR2, hb⟩
  have B5 : Hid (Below w.heap.size w w5) := bchain B4.out hb
  have HR2 : Hid (Rw g2 6 (bkV Bb Bk T) w5 ∧ 6 ≤ cap2 ∧ cap2 ≤ maxLen) := ⟨hR2, hd1, hd2⟩
  have HC2 : Hid (w5.cell? ⟨Bb, 0, none⟩ = some (.int .i64 (k : Int)) ∧ K4 Bk (.int .u64 (s : Int)) (.int .i64 a) (.int .i64 b) (.int .i64 c) w5 ∧ ∀ i, i < 4 → w5.cell? ⟨T i, 0, none⟩ = some (.int .i64 (i : Int))) := ⟨cell_later hb HC.out.1, HC.out.2.1.later hb, fun i hi => cell_later hb (HC.out.2.2 i hi)⟩
  clear CB hR2 hd1 hd2 hb B4 HR HC
  go_wp2_with fail
  refine (C4.out k g2 cap2 Bb Bk T _ k8 HH.out HR2.out.2.1 HR2.out.2.2 HR2.out.1 HC2.out.1 HC2.out.2.1 HC2.out.2.2).mono ?_
  rintro e w6 ⟨x, rfl, hG, hb⟩
  have B6 : Hid (Below w.heap.size w w6) := bchain B5.out hb
  have HG : Hid (Comes s a b c n i x) := hG
  clear C4 hG hb B5 HR2 HC2 HH
  go_wp2
  go_ret2
  exact ⟨x, rfl, HG.out, B6.out⟩
end Go.Proofs.Ytaifihfiompgaaa
