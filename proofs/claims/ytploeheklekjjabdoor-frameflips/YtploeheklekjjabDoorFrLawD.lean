/-
  The law FrameFlips.
-/
import Derived.Test.YtploeheklekjjabDoorFrDefs
import Derived.Test.YtploeheklekjjabDoorCMath4
set_option linter.unusedVariables false
set_option linter.unusedSimpArgs false
namespace Go.Proofs.YtploeheklekjjabDoor
open Go.RowKit

theorem by_set13 {g n : Nat} {F : Nat → Nat} {w : World} (r : Rw g n (by8 F) w) (j x : Nat) : Rw g n (by8 (fun k => if k = j then x else F k)) (w.setCell ⟨g, j, none⟩ (.int .u8 (x : Int))) := by
  refine (r.set j (.int .u8 (x : Int))).congr (fun k hk => ?_)
  unfold by8
  by_cases e : k = j
  · simp [e]
  · simp [e]
theorem by_congr13 {g n : Nat} {F G : Nat → Nat} {w : World} (r : Rw g n (by8 F) w) (e : ∀ k, k < n → F k = G k) : Rw g n (by8 G) w := r.congr (fun k hk => by unfold by8; rw [e k hk])
theorem Bx2.set {b : Nat} {u v : Value} {w : World} (h : Bx2 b u v w) {p : Addr} (hp : p.block ≠ b) (x : Value) : Bx2 b u v (w.setCell p x) :=
  ⟨cell_set hp h.c0, cell_set hp h.c1, by rw [World.frozen?_setCell]; exact h.f0, by rw [World.frozen?_setCell]; exact h.f1⟩
/-- The turned text as a list. -/
def flL (F : Nat → Nat) (n : Nat) : List Nat := (List.range n).map F
theorem flL_len (F : Nat → Nat) (n : Nat) : (flL F n).length = n := by simp [flL]
theorem flL_get (F : Nat → Nat) (n i : Nat) (hi : i < n) : (flL F n).getD i 0 = F i := by
  simp [flL, List.getD, hi]
theorem flL_lt (F : Nat → Nat) (n : Nat) (h : ∀ i, F i < 256) : ∀ c ∈ flL F n, c < 256 := by
  intro c hc
  unfold flL at hc
  obtain ⟨i, -, rfl⟩ := List.mem_map.1 hc
  exact h i
theorem getD_lt13 (l : List Nat) (h : ∀ c ∈ l, c < 256) (i : Nat) : l.getD i 0 < 256 := by
  by_cases hi : i < l.length
  · have e : l.getD i 0 = l[i] := by simp [List.getD, hi]
    rw [e]
    exact h _ (List.getElem_mem hi)
  · have e : l.getD i 0 = 0 := by simp [List.getD, Nat.le_of_not_lt hi]
    rw [e]
    decide
theorem flL_bs {g M cap : Nat} {F : Nat → Nat} {w : World} (r : Rw g M (by8 F) w) (hc : M ≤ cap) (hx : cap ≤ maxLen) : Bs w (.slice (some ⟨g, 0, none⟩) M cap) (flL F M) := by
  unfold Bs
  rw [flL_len]
  have h := r.ls 0 M cap (by omega) hc hx
  exact h.congr (fun k hk => by
    rw [Nat.zero_add]
    unfold by8 b8f
    rw [flL_get F M k hk])
theorem ob_row13 {base : Nat} {w : World} {v : Value} {l : List Nat} (h : Ob base w v l) (hn : 0 < l.length) : ∃ g cap, v = .slice (some ⟨g, 0, none⟩) l.length cap ∧ base ≤ g ∧ l.length ≤ cap ∧ cap ≤ maxLen ∧ Rw g l.length (by8 (fun i => l.getD i 0)) w := by
  unfold Ob at h
  rw [← vl_b8] at h
  exact own_row h hn
theorem mod_eight13 (P : Nat) : (64 + P) / 8 = 8 + P / 8 ∧ (64 + P) % 8 = P % 8 := by omega
set_option maxRecDepth 100000 in
set_option maxHeartbeats 8000000 in
theorem frameFlips_any (V : Fr1) (k : Int) (vp : Value) (l : List Nat) (hb : ∀ c ∈ l, c < 256) (at' : Int) (a1 : at' ≤ 9223372036854775807) (x : Nat) (hx : x < 4294967296) (w : World) (h : Bs w vp l) (hT : FT w) :
    Calls Tryd.prog 3 #[.agg #[.int .i64 k, vp], .int .i64 at', .int .u32 (x : Int)] w fun e w' => e = .returned (.bool true) ∧ Below w.heap.size w w' := by
  have HL : Hid (Bs w vp l) := h
  have HY : Hid (∀ c ∈ l, c < 256) := hb
  have HT : Hid (FT w) := hT
  obtain ⟨ad, cap, rfl, k1, k2⟩ := h.len
  unfold maxLen at k2
  obtain ⟨n, hn⟩ : ∃ n, l.length = n := ⟨_, rfl⟩
  have HN : Hid (l.length = n) := hn
  rw [hn] at HL
  rw [hn] at k1
  rw [hn]
  clear h hn hb hT
  have HX0 : Hid (Bx2 w.heap.size (.int .i64 k) (.slice ad n cap) (w.alloc (.cells #[.int .i64 k, .slice ad n cap] 24)) ∧ Below w.heap.size w (w.alloc (.cells #[.int .i64 k, .slice ad n cap] 24))) := ⟨Bx2.new _ _ _ _, bel1 _ _⟩
  go_enter Tryd.func3, Tryd.ntmps3
  go_wp2_with fail
  refine (awake13 V _ (HT.out.later HX0.out.2)).mono ?_
  rintro e w1 ⟨rfl, hb1⟩
  have HX1 : Hid (Bx2 w.heap.size (.int .i64 k) (.slice ad n cap) w1 ∧ Below w.heap.size w w1) := ⟨HX0.out.1.later hb1, bchain HX0.out.2 hb1⟩
  clear hb1 HX0
  have c0 := HX1.out.1.c0
  have c1 := HX1.out.1.c1
  by_cases q1 : k < 1
  · go_wp2
    go_ret
    exact ⟨rfl, HX1.out.2⟩
  by_cases q2 : 255 < k
  · go_wp2
    go_ret
    exact ⟨rfl, HX1.out.2⟩
  by_cases q3 : 1000 < n
  · have q3I : (1000 : Int) < (n : Int) := by omega
    go_wp2
    go_ret
    exact ⟨rfl, HX1.out.2⟩
  have q3I : ¬ (1000 : Int) < (n : Int) := by omega
  by_cases q4 : at' < 0
  · go_wp2
    go_ret
    exact ⟨rfl, HX1.out.2⟩
  have hw8 : IntKind.i64.wrap (8 * (n : Int)) = 8 * (n : Int) := by rw [IntKind.wrap_i64]; omega
  by_cases q5 : 8 * (n : Int) ≤ at'
  · go_wp2
    go_ret
    exact ⟨rfl, HX1.out.2⟩
  by_cases h3 : x = 0
  · subst h3
    go_wp2
    go_ret
    exact ⟨rfl, HX1.out.2⟩
  have h3' : ¬ (x : Int) = 0 := by omega
  have h3b : ((x : Int) == 0) = false := by simpa using h3'
  obtain ⟨K, hkK⟩ : ∃ K : Nat, k = (K : Int) := ⟨k.toNat, by omega⟩
  have HK : Hid (k = (K : Int) ∧ 1 ≤ K ∧ K ≤ 255) := ⟨hkK, by omega, by omega⟩
  subst hkK
  obtain ⟨p, rfl⟩ : ∃ p : Nat, at' = (p : Int) := ⟨at'.toNat, by omega⟩
  have hpn : p < 8 * n := by omega
  go_wp2_with fail
  refine (V.sealOk _ K _ l HK.out.2.1 HK.out.2.2 (HL.out.later HX1.out.2) HY.out (by have := HN.out; omega) (HT.out.later HX1.out.2)).mono ?_
  rintro e w2 ⟨v2, rfl, hO2, hB2⟩
  have HSl : Hid ((fsl K l).length = n + 12 ∧ ∀ c ∈ fsl K l, c < 256) := ⟨by rw [seal_len, HN.out], seal_byte (by have := HK.out; omega) HY.out (by have := HN.out; omega)⟩
  have HOF : Hid (∀ b : List Nat, b.length = n + 12 → (∀ i, i < 32 → x.testBit i = true → p + i < 8 * n) → (∀ i, i < n + 12 → b.getD i 0 = bF (fun i => (fsl K l).getD i 0) (64 + p) x 32 i) → opE b = 135) := fun b e1 e2 e3 => by
    have e := HN.out
    exact opE_flip (k := K) (by have := HK.out; omega) l (by omega) b (by omega) p x hx h3 (by omega) (fun i a c => by rw [e]; exact e2 i a c) (fun i hi => e3 i (by omega))
  obtain ⟨g, cap2, rfl, hg, hc1, hc2, hrow⟩ := ob_row13 hO2 (by have := HSl.out.1; omega)
  have hgw : w.heap.size < g := Nat.lt_of_lt_of_le (World.block_lt_of_cell? _ _ HX1.out.1.c0) hg
  have HF : Hid (∀ i, (fsl K l).getD i 0 < 256) := getD_lt13 _ HSl.out.2
  have hS := HSl.out.1
  rw [hS] at hrow hc1 ⊢
  generalize hFd : (fun i => (fsl K l).getD i 0) = F at *
  have HF1 : Hid (∀ i, F i < 256) := by rw [← hFd]; exact HF.out
  have HX2 : Hid (Rw g (n + 12) (by8 (bF F (64 + p) x 0)) w2 ∧ Bx2 w.heap.size (.int .i64 (K : Int)) (.slice ad n cap) w2 ∧ Below w.heap.size w w2) := ⟨hrow, HX1.out.1.later hB2, bchain HX1.out.2 hB2⟩
  unfold maxLen at hc2
  clear hrow hB2 hO2 HX1 c0 c1 HF hFd hS hg HSl
  have c1 := HX2.out.2.1.c1
  obtain ⟨M, hM⟩ : ∃ M, n + 12 = M := ⟨_, rfl⟩
  have HM : Hid (n + 12 = M) := hM
  have hMI : IntKind.i64.wrap ((n : Int) + 12) = (M : Int) := by rw [IntKind.wrap_i64]; omega
  rw [hM] at HX2 HOF hc1 ⊢
  clear hM
  have hneM : ((M : Int) != (M : Int)) = false := by simp
  go_upto_region 9 with fail
  go_loopw [64] (fun si wr => ∃ j : Nat, j ≤ 32 ∧ si = .int .i64 (j : Int) ∧ Hid (Rw g M (by8 (bF F (64 + p) x j)) wr ∧ Bx2 w.heap.size (.int .i64 (K : Int)) (.slice ad n cap) wr ∧ Below w.heap.size w wr) ∧ Hid (∀ k, k < j → x.testBit k = true → p + k < 8 * n)) (fun si _ => 32 - (intOf si).toNat)
  case atStart => exact ⟨0, by omega, rfl, HX2, fun k hk => by omega⟩
  case round =>
    clear HX2 c1 hMI hneM
    obtain ⟨j, hj, rfl, HR, HI⟩ := hrel
    have c1 := HR.out.2.1.c1
    by_cases hj2 : j < 32
    · have hjI : (j : Int) < 32 := by omega
      obtain ⟨y, hy⟩ : ∃ y : Nat, x / 2 ^ j % 2 = y := ⟨_, rfl⟩
      have hy2 : y < 2 := by rw [← hy]; exact Nat.mod_lt _ (by omega)
      have hbit : bits BinOp.and IntKind.u32 ((x : Int) / 2 ^ j) 1 = (y : Int) := by
        have h1 : ((x : Int) / 2 ^ j) = ((x / 2 ^ j : Nat) : Int) := by rw [Int.natCast_ediv, Int.natCast_pow]; rfl
        rw [h1, show (1 : Int) = ((1 : Nat) : Int) from rfl, and32 _ _ (Nat.lt_of_le_of_lt (Nat.div_le_self _ _) hx) (by omega), Nat.and_one_is_mod, hy]
      have Htb : Hid (x.testBit j = decide (y = 1)) := by show _ = _; rw [Nat.testBit_eq_decide_div_mod_eq, hy]
      by_cases hy0 : y = 0
      · have hnb : ¬ x.testBit j = true := by rw [Htb.out, hy0]; decide
        have HR1 : Hid (Rw g M (by8 (bF F (64 + p) x (j + 1))) wr ∧ Bx2 w.heap.size (.int .i64 (K : Int)) (.slice ad n cap) wr ∧ Below w.heap.size w wr) := ⟨by_congr13 HR.out.1 (fun k _ => (bF_same F (64 + p) x j k hnb).symm), HR.out.2⟩
        have HI1 : Hid (∀ k, k < j + 1 → x.testBit k = true → p + k < 8 * n) := fun k hk hb => by
          by_cases e : k = j
          · subst e; exact absurd hb hnb
          · exact HI.out k (by omega) hb
        subst hy0
        clear HR HI hy hnb
        go_wp2
        go_roundw
        case rel => exact ⟨j + 1, by omega, by go_num, HR1, HI1⟩
        case measure => simp [intOf]; omega
      · obtain rfl : y = 1 := by omega
        have htb : x.testBit j = true := by rw [Htb.out]; decide
        obtain ⟨P, hP⟩ : ∃ P, p + j = P := ⟨_, rfl⟩
        have hsum : IntKind.i64.wrap ((p : Int) + (j : Int)) = (P : Int) := by rw [IntKind.wrap_i64]; omega
        by_cases hov : 8 * n ≤ P
        · have hov' : 8 * (n : Int) ≤ (P : Int) := by omega
          clear hy
          go_wp2
          go_ret
          exact ⟨rfl, HR.out.2.2⟩
        have hov' : ¬ 8 * (n : Int) ≤ (P : Int) := by omega
        have HI1 : Hid (∀ k, k < j + 1 → x.testBit k = true → p + k < 8 * n) := fun k hk hb => by
          by_cases e : k = j
          · subst e; omega
          · exact HI.out k (by omega) hb
        clear hy HI
        obtain ⟨q, hq⟩ : ∃ q, P / 8 = q := ⟨_, rfl⟩
        obtain ⟨Q, hQ⟩ : ∃ Q, 8 + q = Q := ⟨_, rfl⟩
        obtain ⟨s, hs⟩ : ∃ s, P % 8 = s := ⟨_, rfl⟩
        have hQM : Q < M := by have := HM.out; omega
        have hQi : (64 + p + j) / 8 = Q := by omega
        have hsi : (64 + p + j) % 8 = s := by omega
        have hs8 : s < 8 := by omega
        have hl8 := bF_lt F (64 + p) x HF1.out j Q
        have hpw : 2 ^ s < 256 := Nat.pow_lt_pow_right (n := 8) (by omega) hs8
        have hxor := xor8 (bF F (64 + p) x j Q) (2 ^ s) hl8 hpw
        have hquo : (P : Int).tdiv 8 = (q : Int) := by rw [Int.tdiv_eq_ediv_of_nonneg (by omega)]; omega
        have hrem : (P : Int).tmod 8 = (s : Int) := by rw [Int.tmod_eq_emod_of_nonneg (by omega)]; omega
        have hwq : IntKind.i64.wrap (q : Int) = (q : Int) := by rw [IntKind.wrap_i64]; omega
        have hws : IntKind.i64.wrap (s : Int) = (s : Int) := by rw [IntKind.wrap_i64]; omega
        have hwQ : IntKind.i64.wrap (8 + (q : Int)) = (Q : Int) := by rw [IntKind.wrap_i64]; omega
        have hQI : (Q : Int) < (M : Int) := by omega
        have Hsh : Hid (((2 ^ s : Nat) : Int) = (2 : Int) ^ s % 256) := by
          show _ = _
          have e : ((2 ^ s : Nat) : Int) = (2 : Int) ^ s := by rw [Int.natCast_pow]; rfl
          rw [← e]
          generalize 2 ^ s = m at hpw ⊢
          exact (Int.emod_eq_of_lt (by omega) (by omega)).symm
        go_upto_region 14 with fail
        have hbD : Below wr.heap.size wr wr.drew := (Below.refl _ _).drew
        have hRd : Rw g M (by8 (bF F (64 + p) x j)) wr.drew := HR.out.1.later hbD
        have hcD : wr.drew.cell? ⟨g, Q, none⟩ = some (.int .u8 ((bF F (64 + p) x j Q : Nat) : Int)) := hRd.c Q hQM
        have hfD : wr.drew.frozen? ⟨g, Q, none⟩ = false := hRd.f Q hQM
        have HR2 : Hid (Rw g M (by8 (bF F (64 + p) x (j + 1))) (wr.drew.setCell ⟨g, Q, none⟩ (.int .u8 ((bF F (64 + p) x j Q ^^^ 2 ^ s : Nat) : Int))) ∧ Bx2 w.heap.size (.int .i64 (K : Int)) (.slice ad n cap) (wr.drew.setCell ⟨g, Q, none⟩ (.int .u8 ((bF F (64 + p) x j Q ^^^ 2 ^ s : Nat) : Int))) ∧ Below w.heap.size w (wr.drew.setCell ⟨g, Q, none⟩ (.int .u8 ((bF F (64 + p) x j Q ^^^ 2 ^ s : Nat) : Int)))) :=
          ⟨by_congr13 (by_set13 hRd Q _) (fun k _ => by rw [← bF_step F (64 + p) x j k htb, hQi, hsi]), (HR.out.2.1.later hbD).set (by dsimp only; omega) _, (bchain HR.out.2.2 hbD).setCell (by dsimp only; omega) _⟩
        clear HR hRd hbD c1
        refine wp_region_held_drew (S := fun _ => True) (by kernel_rfl) trivial (fun HS => ?_)
        generalize wr.drew = q0 at *
        generalize bF F (64 + p) x j Q = z at *
        refine wpAnyH_take (i := 0) (v := ?_) rfl (by kernel_rfl) (by kernel_rfl) (by kernel_rfl) (fun _ _ _ h => h) (Or.inl ⟨by kernel_rfl, ?_⟩) HS ?_
        rotate_left
        · (rintro w -; go_simp) <;> with_reducible rfl
        try simp only [Act.put, List.getElem_toArray, List.getElem_cons_succ, List.getElem_cons_zero, List.setIfInBounds_toArray, List.set_cons_zero, List.set_cons_succ]
        refine wpAnyH_take (i := 1) (v := ?_) rfl (by kernel_rfl) (by kernel_rfl) (by kernel_rfl) (fun _ _ _ h => h) (Or.inl ⟨by kernel_rfl, ?_⟩) HS ?_
        rotate_left
        · (rintro w -; go_simp) <;> with_reducible rfl
        try simp only [Act.put, List.getElem_toArray, List.getElem_cons_succ, List.getElem_cons_zero, List.setIfInBounds_toArray, List.set_cons_zero, List.set_cons_succ]
        refine wpAnyH_take (i := 2) (v := ?_) rfl (by kernel_rfl) (by kernel_rfl) (by kernel_rfl) (fun _ _ _ h => h) (Or.inl ⟨by kernel_rfl, ?_⟩) HS ?_
        rotate_left
        · (rintro w -; go_simp) <;> with_reducible rfl
        try simp only [Act.put, List.getElem_toArray, List.getElem_cons_succ, List.getElem_cons_zero, List.setIfInBounds_toArray, List.set_cons_zero, List.set_cons_succ]
        refine wpAnyH_take (i := 3) (v := ?_) rfl (by kernel_rfl) (by kernel_rfl) (by kernel_rfl) (fun _ _ _ h => h) (Or.inl ⟨by kernel_rfl, ?_⟩) HS ?_
        rotate_left
        · (rintro w -; go_simp) <;> with_reducible rfl
        try simp only [Act.put, List.getElem_toArray, List.getElem_cons_succ, List.getElem_cons_zero, List.setIfInBounds_toArray, List.set_cons_zero, List.set_cons_succ]
        refine wpAnyH_take (i := 4) (v := ?_) rfl (by kernel_rfl) (by kernel_rfl) (by kernel_rfl) (fun _ _ _ h => h) (Or.inl ⟨by kernel_rfl, ?_⟩) HS ?_
        rotate_left
        · (rintro w -; go_simp) <;> with_reducible rfl
        try simp only [Act.put, List.getElem_toArray, List.getElem_cons_succ, List.getElem_cons_zero, List.setIfInBounds_toArray, List.set_cons_zero, List.set_cons_succ]
        refine wpAnyH_take (i := 5) (v := ?_) rfl (by kernel_rfl) (by kernel_rfl) (by kernel_rfl) (fun _ _ _ h => h) (Or.inl ⟨by kernel_rfl, ?_⟩) HS ?_
        rotate_left
        · (rintro w -; go_simp) <;> with_reducible rfl
        try simp only [Act.put, List.getElem_toArray, List.getElem_cons_succ, List.getElem_cons_zero, List.setIfInBounds_toArray, List.set_cons_zero, List.set_cons_succ]
        refine wpAnyH_take (i := 6) (v := ?_) rfl (by kernel_rfl) (by kernel_rfl) (by kernel_rfl) (fun _ _ _ h => h) (Or.inl ⟨by kernel_rfl, ?_⟩) HS ?_
        rotate_left
        · (rintro w -; go_simp) <;> with_reducible rfl
        try simp only [Act.put, List.getElem_toArray, List.getElem_cons_succ, List.getElem_cons_zero, List.setIfInBounds_toArray, List.set_cons_zero, List.set_cons_succ]
        refine wpAnyH_take (i := 8) (v := ?_) rfl (by kernel_rfl) (by kernel_rfl) (by kernel_rfl) (fun _ _ _ h => h) (Or.inl ⟨by kernel_rfl, ?_⟩) HS ?_
        rotate_left
        · (rintro w -; go_simp) <;> with_reducible rfl
        try simp only [Act.put, List.getElem_toArray, List.getElem_cons_succ, List.getElem_cons_zero, List.setIfInBounds_toArray, List.set_cons_zero, List.set_cons_succ]
        refine wpAnyH_take (i := 9) (v := ?_) rfl (by kernel_rfl) (by kernel_rfl) (by kernel_rfl) (fun _ _ _ h => h) (Or.inl ⟨by kernel_rfl, ?_⟩) HS ?_
        rotate_left
        · (rintro w -; go_simp) <;> with_reducible rfl
        try simp only [Act.put, List.getElem_toArray, List.getElem_cons_succ, List.getElem_cons_zero, List.setIfInBounds_toArray, List.set_cons_zero, List.set_cons_succ]
        refine wpAnyH_take (i := 10) (v := ?_) rfl (by kernel_rfl) (by kernel_rfl) (by kernel_rfl) (fun _ _ _ h => h) (Or.inl ⟨by kernel_rfl, ?_⟩) HS ?_
        rotate_left
        · (rintro w -; go_simp) <;> with_reducible rfl
        try simp only [Act.put, List.getElem_toArray, List.getElem_cons_succ, List.getElem_cons_zero, List.setIfInBounds_toArray, List.set_cons_zero, List.set_cons_succ]
        refine wpAnyH_take (i := 11) (v := ?_) rfl (by kernel_rfl) (by kernel_rfl) (by kernel_rfl) (fun _ _ _ h => h) (Or.inl ⟨by kernel_rfl, ?_⟩) HS ?_
        rotate_left
        · (rintro w -; go_simp) <;> with_reducible rfl
        try simp only [Act.put, List.getElem_toArray, List.getElem_cons_succ, List.getElem_cons_zero, List.setIfInBounds_toArray, List.set_cons_zero, List.set_cons_succ]
        refine wpAnyH_take (i := 12) (v := ?_) rfl (by kernel_rfl) (by kernel_rfl) (by kernel_rfl) (fun _ _ _ h => h) (Or.inl ⟨by kernel_rfl, ?_⟩) HS ?_
        rotate_left
        · (rintro w -; go_simp) <;> with_reducible rfl
        try simp only [Act.put, List.getElem_toArray, List.getElem_cons_succ, List.getElem_cons_zero, List.setIfInBounds_toArray, List.set_cons_zero, List.set_cons_succ]
        refine wpAnyH_ready (rs := [7]) (by kernel_rfl) (by simp) ?_
        refine AllReadyH.cons rfl (fun K hK => ?_) AllReadyH.nil
        go_simp
        refine hK.out _ _ trivial (fun HS => ?_)
        clear hK K
        try simp only [Act.put, List.getElem_toArray, List.getElem_cons_succ, List.getElem_cons_zero, List.setIfInBounds_toArray, List.set_cons_zero, List.set_cons_succ]
        refine wpAnyH_take (i := 13) (v := ?_) rfl (by kernel_rfl) (by kernel_rfl) (by kernel_rfl) (fun _ _ _ h => h) (Or.inl ⟨by kernel_rfl, ?_⟩) HS ?_
        rotate_left
        · (rintro w -; go_simp) <;> with_reducible rfl
        try simp only [Act.put, List.getElem_toArray, List.getElem_cons_succ, List.getElem_cons_zero, List.setIfInBounds_toArray, List.set_cons_zero, List.set_cons_succ]
        refine wpAnyH_take (i := 14) (v := ?_) rfl (by kernel_rfl) (by kernel_rfl) (by kernel_rfl) (fun _ _ _ h => h) (Or.inl ⟨by kernel_rfl, ?_⟩) HS ?_
        rotate_left
        · (rintro w -; go_simp) <;> with_reducible rfl
        try simp only [Act.put, List.getElem_toArray, List.getElem_cons_succ, List.getElem_cons_zero, List.setIfInBounds_toArray, List.set_cons_zero, List.set_cons_succ]
        refine wpAnyH_ready (rs := [15]) (by kernel_rfl) (by simp) ?_
        refine AllReadyH.cons rfl (fun K hK => ?_) AllReadyH.nil
        go_simp
        refine hK.out _ _ trivial (fun HS => ?_)
        clear hK K
        refine wpAnyH_done (by kernel_rfl) ?_ _
        clear HS
        go_wp2
        go_roundw
        case rel => exact ⟨j + 1, by omega, by go_num, by rw [← hxor, Hsh.out] at HR2; exact HR2, HI1⟩
        case measure => simp [intOf]; omega
    · obtain rfl : j = 32 := by omega
      have hjI : ¬ ((32 : Nat) : Int) < 32 := by omega
      have HB : Hid (Bs wr (.slice (some ⟨g, 0, none⟩) M cap2) (flL (bF F (64 + p) x 32) M) ∧ Below w.heap.size w wr) := ⟨flL_bs HR.out.1 hc1 (by unfold maxLen; omega), HR.out.2.2⟩
      have HE : Hid (opE (flL (bF F (64 + p) x 32) M) = 135 ∧ opN (flL (bF F (64 + p) x 32) M) = 0) := by
        have e := HOF.out (flL (bF F (64 + p) x 32) M) (flL_len _ _) HI.out (fun i hi => flL_get _ _ i hi)
        exact ⟨e, (op_no e (by decide)).2.2⟩
      have HLt : Hid (∀ c ∈ flL (bF F (64 + p) x 32) M, c < 256) := flL_lt _ _ (bF_lt F (64 + p) x HF1.out 32)
      have HLn : Hid ((flL (bF F (64 + p) x 32) M).length ≤ 90000) := by show _ ≤ _; rw [flL_len]; have := HM.out; omega
      clear HR HI HOF
      generalize flL (bF F (64 + p) x 32) M = L at *
      go_wp2_with fail
      refine (V.opn _ _ L HB.out.1 HLt.out HLn.out (HT.out.later HB.out.2)).mono ?_
      rintro e w4 ⟨v4, rfl, hL4, hO4, hB4⟩
      rw [HE.out.1, HE.out.2]
      obtain ⟨ad4, cap4, rfl, -, -⟩ := hL4.len
      have HB4 : Hid (∀ ob : Obj, Below w.heap.size w (w4.alloc ob)) := fun ob => (bchain HB.out.2 hB4).alloc (bchain HB.out.2 hB4).size _
      clear hL4 hO4 hB4 HB
      generalize opK L = z1 at *
      generalize (opP L).length = z3 at *
      go_wp2
      go_ret
      exact ⟨rfl, HB4.out _⟩
end Go.Proofs.YtploeheklekjjabDoor
