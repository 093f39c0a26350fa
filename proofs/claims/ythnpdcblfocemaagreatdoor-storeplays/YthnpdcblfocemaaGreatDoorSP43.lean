/-
  Texts of this proof, joined: TqD TqE.
-/
import Derived.Test.YthnpdcblfocemaaGreatDoorSP42
set_option linter.unusedVariables false
set_option linter.unusedSimpArgs false
namespace Go.Proofs.YthnpdcblfocemaaGreatDoor
open Go.RowKit

theorem results_tmp4 {fn : Func} {t u v x : Tmp} (h : fn.results = #[.tmp t, .tmp u, .tmp v, .tmp x]) (tmps : Array Value) (P : Program) (w : World) :
    (results fn tmps).run P w = .ok (.tuple #[tmps.getD t undef, tmps.getD u undef, tmps.getD v undef, tmps.getD x undef]) w := by
  simp [results, h, go_sem]
set_option maxRecDepth 100000 in
set_option maxHeartbeats 8000000 in
theorem over18N (V : Disk1) (S : Snap1 V) (J : Jour1 V) (w : World) (d : Value) (F : Nat → Prop) (s : Dsk) (room : Int) (hD : V.Dt w d F s) (hm : Bd64 room) (hbl : s.bl.length ≤ 16384) (hno : ¬ (1 ≤ room ∧ room ≤ 16384 ∧ 2 * room + 3 ≤ (s.bl.length : Int))) :
    Calls Tryz.prog 27 #[d, .int .i64 room] w fun e w' => e = .returned (.tuple #[.agg zst18.toArray, .int .i64 2]) ∧ Below w.heap.size w w' := by
  have hz := zero_st18
  by_cases hA : 1 ≤ room ∧ room ≤ 16384 ∧ 0 ≤ (0 : Int) ∧ 0 + 2 * (room + 1) ≤ (s.bl.length : Int)
  · obtain ⟨m, rfl⟩ : ∃ m : Nat, room = (m : Int) := ⟨room.toNat, by omega⟩
    obtain ⟨n, hn⟩ : ∃ n, s.bl.length = n := ⟨_, rfl⟩
    obtain ⟨R1, hR1⟩ : ∃ R1, 1 + m = R1 := ⟨_, rfl⟩
    obtain ⟨R2, hR2⟩ : ∃ R2, 2 * R1 = R2 := ⟨_, rfl⟩
    have y1 : IntKind.i64.wrap (1 + (m : Int)) = (R1 : Int) := by rw [IntKind.wrap_i64]; omega
    have y2 : IntKind.i64.wrap (2 * (R1 : Int)) = (R2 : Int) := by rw [IntKind.wrap_i64]; omega
    have y3 : IntKind.i64.wrap ((n : Int) - (R2 : Int)) = 0 := by rw [IntKind.wrap_i64]; omega
    have HD : Hid (V.Dt w d F s ∧ 1 ≤ m ∧ m ≤ 16384 ∧ s.bl.length = n ∧ R2 ≤ 100000 ∧ 0 + 2 * (m + 1) ≤ n) := ⟨hD, by omega, by omega, hn, by omega, by omega⟩
    clear hD hm hbl hno hn hR1 hR2 hA
    go_enter Tryz.func27, Tryz.ntmps27
    go_upto_region 1 with (refine alV rfl 71 zst18 hz rfl ?_; intro w1 hV1 hB1 hS1)
    have H1 : Hid (Vb w1 w.heap.size 71 zst18 ∧ Below w.heap.size w w1) := ⟨hV1, hB1⟩
    have C := S.newY w1 d F s 0 m (V.dtK HD.out.1 (fun k hk => hB1.block k (V.dtB HD.out.1 k hk)) hB1.size) HD.out.2.1 HD.out.2.2.1 (by rw [HD.out.2.2.2.1]; exact HD.out.2.2.2.2.2)
    rw [show ((0 : Nat) : Int) = 0 from rfl] at C
    clear hV1 hB1 hS1 hz
    go_upto_region 2 with (go_at_call 47; refine C.mono ?_; rintro e w2 ⟨a, G1, rfl, hS, hG, hB⟩; clear C)
    have H2 : Hid (Vb w2 w.heap.size 71 zst18 ∧ Below w.heap.size w w2) := ⟨H1.out.1.later hB, bchain H1.out.2 hB⟩
    have HDt : Hid (V.Dt w2 d F s) := V.dtK HD.out.1 (fun k hk => H2.out.2.block k (V.dtB HD.out.1 k hk)) H2.out.2.size
    clear hS hG hB
    have CB := V.blocks w2 d F s HDt.out
    rw [HD.out.2.2.2.1] at CB
    have CJ := fun (w3 : World) (hB : Below w2.heap.size w2 w3) => J.newN w3 d F s (R2 : Int) 0 (V.dtK HDt.out (fun k hk => hB.block k (V.dtB HDt.out k hk)) hB.size) (by have := HD.out; unfold Bd64; omega) (by unfold Bd64; omega) (by omega)
    go_upto_region 6 with (first
      | (go_at_call 49; refine CB.mono ?_; rintro e w3 ⟨rfl, hB3⟩; clear CB; have C := CJ w3 hB3; have H3 : Hid (Below w2.heap.size w2 w3) := hid5 hB3; clear CJ hB3)
      | (go_at_call 48; refine C.mono ?_; rintro e w4 ⟨rfl, hB⟩; clear C))
    have H4 : Hid (Below w3.heap.size w3 w4) := hB
    clear hB
    have k24 := bchain H3.out H4.out
    have hV4 := H2.out.1.later k24
    go_wp2_with (first
      | (refine bdZ18 rfl rfl ?_)
      | (refine stV rfl 71 _ _ rfl w.heap.size zst18 zst18 rfl rfl hV4 rfl sz_st18 (one_st18 _ _) ?_; intro w5 hV5 hK5 hS5))
    refine bodyPost_ret (v := .tuple #[.agg zst18.toArray, .int .i64 2]) (by refine (res_st18 (p := 4) (u := 5) rfl _ hV5 rfl rfl).trans ?_; rfl) rfl ⟨rfl, hK5.next (bchain H2.out.2 k24) (fun k hk => by omega) (bchain H2.out.2 k24).size⟩
  · have HD : Hid (V.Dt w d F s ∧ Bd64 room) := ⟨hD, hm⟩
    have CS := fun (X : World) (hB : Below w.heap.size w X) => S.newN X d F s 0 room (V.dtK HD.out.1 (fun k hk => hB.block k (V.dtB HD.out.1 k hk)) hB.size) (by unfold Bd64; omega) HD.out.2 hA
    clear hD hm hbl hno hA
    go_enter Tryz.func27, Tryz.ntmps27
    go_upto_region 1 with (refine alV rfl 71 zst18 hz rfl ?_; intro w1 hV1 hB1 hS1)
    have C := CS w1 hB1
    have H1 : Hid (Vb w1 w.heap.size 71 zst18 ∧ Below w.heap.size w w1) := ⟨hV1, hB1⟩
    clear hV1 hB1 hS1 hz CS
    go_upto_region 2 with (go_at_call 47; refine C.mono ?_; rintro e w2 ⟨rfl, hB⟩; clear C)
    have H2 : Hid (Below w.heap.size w w2) := bchain H1.out.2 hB
    have hV2 := H1.out.1.later hB
    clear hB
    go_wp2_with (first
      | (refine bdZ18 rfl rfl ?_)
      | (refine stV rfl 71 _ _ rfl w.heap.size zst18 zst18 rfl rfl hV2 rfl sz_st18 (one_st18 _ _) ?_; intro w5 hV5 hK5 hS5))
    refine bodyPost_ret (v := .tuple #[.agg zst18.toArray, .int .i64 2]) (by refine (res_st18 (p := 4) (u := 5) rfl _ hV5 rfl rfl).trans ?_; rfl) rfl ⟨rfl, hK5.next H2.out (fun k hk => by omega) H2.out.size⟩
set_option maxRecDepth 100000 in
set_option maxHeartbeats 8000000 in
theorem openN18 (V : Disk1) (S : Snap1 V) (J : Jour1 V) (w : World) (d : Value) (F : Nat → Prop) (s : Dsk) (room : Int) (hD : V.Dt w d F s) (hm : Bd64 room) (hbl : s.bl.length ≤ 16384) (hno : ¬ (1 ≤ room ∧ room ≤ 16384 ∧ 2 * room + 3 ≤ (s.bl.length : Int))) :
    Calls Tryz.prog 7 #[d, .int .i64 room] w fun e w' => ∃ vb vl, e = .returned (.tuple #[.pointer none, vb, vl, .int .i64 2]) ∧ Bs w' vb [] ∧ Txs w' vl [] ∧ Below w.heap.size w w' := by
  have hz := zero_st18
  have C := over18N V S J w d F s room hD hm hbl hno
  clear hD hm hbl hno
  go_enter Tryz.func7, Tryz.ntmps7
  go_upto_region 2 with (first
    | (go_at_call 27; refine C.mono ?_; rintro e w1 ⟨rfl, hB1⟩; clear C)
    | (refine alV rfl 71 zst18 hz rfl ?_; intro w2 hV2 hB2 hS2)
    | (refine stV rfl 71 _ _ rfl w1.heap.size zst18 zst18 rfl rfl hV2 rfl sz_st18 (one_st18 _ _) ?_; intro w3 hV3 hK3 hS3))
  have HB : Hid (Below w.heap.size w w3) := bchain hB1 (hK3.next hB2 (fun k hk => by omega) hB2.size)
  clear hB1 hV2 hB2 hS2 hV3 hK3 hS3 hz
  go_wp2
  (try simp only [Exit.inBlock, Exit.then]); refine bodyPost_ret (results_tmp4 rfl _ _ _) rfl ?_
  exact ⟨_, _, rfl, bs_nilS _, txs_nil17 _, HB.out⟩
set_option maxRecDepth 100000 in
set_option maxHeartbeats 8000000 in
theorem openD18 (V : Disk1) (S : Snap1 V) (J : Jour1 V) (B : JourB V J) (w : World) (d : Value) (F : Nat → Prop) (s : Dsk) (room : Nat) (hD : V.Dt w d F s) (hT : S8 w) (h1 : 1 ≤ room) (h2 : room ≤ 16384) (hr : fb18 room + 1 ≤ s.bl.length) (hbl : s.bl.length ≤ 900) (hu : s.un.length ≤ 100) (hd : s.dn = true) :
    Calls Tryz.prog 7 #[d, .int .i64 (room : Int)] w fun e w' => ∃ vb vl, e = .returned (.tuple #[.pointer none, vb, vl, .int .i64 150]) ∧ Bs w' vb [] ∧ Txs w' vl [] ∧ Below w.heap.size w w' := by
  have hz := zero_st18
  have C := over18 V S J w d F s room hD h1 h2 hr (by omega)
  have e2 : kpE18 s = 150 := by unfold kpE18; rw [if_pos hd]
  have HD : Hid (V.Dt w d F s ∧ S8 w ∧ 1 ≤ room ∧ fb18 room + 1 ≤ s.bl.length ∧ s.bl.length ≤ 900 ∧ s.un.length ≤ 100) := ⟨hD, hT, h1, hr, hbl, hu⟩
  clear hD hT h1 h2 hr hbl hu hd
  go_enter Tryz.func7, Tryz.ntmps7
  go_upto_region 2 with (first
    | (go_at_call 27; refine C.mono ?_; rintro e w1 ⟨a, b, G1, G2, rfl, hS, hJ, hG1, hG2, hG3, hB1⟩; clear C)
    | (refine alV rfl 71 zst18 hz rfl ?_; intro w2 hV2 hB2 hS2)
    | (refine stV rfl 71 _ _ rfl w1.heap.size zst18 [.pointer (some a), .pointer (some b)] rfl rfl hV2 rfl sz_st18 (one_st18 _ _) ?_; intro w3 hV3 hK3 hS3))
  have hB3 : Below w1.heap.size w1 w3 := hK3.next hB2 (fun k hk => by omega) hB2.size
  have hB4 := bchain hB1 hB3
  have CK := kept18 V S J B w3 a b d F G1 G2 s room (S.stL hS hB3) (J.jtK hJ (fun k hk => hB3.block k (J.jtB hJ k hk)) hB3.size) (V.dtK HD.out.1 (fun k hk => hB4.block k (V.dtB HD.out.1 k hk)) hB4.size) (fun k hk hg => by have := V.dtB HD.out.1 k hk; have := hG2 k hg; omega) (HD.out.2.1.later hB4) HD.out.2.2.1 HD.out.2.2.2.1 HD.out.2.2.2.2.1 HD.out.2.2.2.2.2
  rw [e2] at CK
  have HB : Hid (Below w.heap.size w w3) := hB4
  clear hB1 hB2 hV2 hS2 hK3 hS3 hz hB3 hB4 hS hJ hG1 hG2 hG3
  go_wp2_with (first
    | (refine ldSt18 rfl _ rfl w1.heap.size [.pointer (some a), .pointer (some b)] rfl hV3 rfl ?_)
    | (go_at_call 28; refine CK.mono ?_; rintro e w4 ⟨vb, vl, rfl, hb, ho, hl, hk⟩; clear CK; have HE : Hid (Below w.heap.size w w4) := hid5 (bchain HB.out hk); clear hb ho hl hk))
  (try simp only [Exit.inBlock, Exit.then]); refine bodyPost_ret (results_tmp4 rfl _ _ _) rfl ?_
  exact ⟨_, _, rfl, bs_nilS _, txs_nil17 _, HE.out⟩
set_option maxRecDepth 100000 in
set_option maxHeartbeats 8000000 in
theorem openY18 (V : Disk1) (S : Snap1 V) (J : Jour1 V) (B : JourB V J) (w : World) (d : Value) (F : Nat → Prop) (s : Dsk) (room : Nat) (hD : V.Dt w d F s) (hT : S8 w) (h1 : 1 ≤ room) (h2 : room ≤ 16384) (hr : fb18 room + 1 ≤ s.bl.length) (hbl : s.bl.length ≤ 900) (hu : s.un.length ≤ 100) (hd : s.dn = false) :
    Calls Tryz.prog 7 #[d, .int .i64 (room : Int)] w fun e w' => ∃ c a b G1 G2 vb vl, e = .returned (.tuple #[.pointer (some ⟨c, 0, none⟩), vb, vl, .int .i64 0]) ∧ Pst w' c a b false ∧ S.St w' (.pointer (some a)) d 0 room G1 ∧ J.Jt w' (.pointer (some b)) d G2 (fb18 room) (s.bl.length - fb18 room) ⟨0, 0, 0⟩ ∧ (∀ k, G1 k → ¬ G2 k) ∧ ¬ G1 c ∧ ¬ G2 c ∧ (∀ k, k = c ∨ G1 k ∨ G2 k → w.heap.size ≤ k) ∧ Told (fun k => k = c ∨ G1 k ∨ G2 k) w w' vb vl (opB s room) (opL s room) ∧ Below w.heap.size w w' := by
  have hz := zero_st18
  have C := over18 V S J w d F s room hD h1 h2 hr (by omega)
  have e2 : kpE18 s = 0 := by unfold kpE18; rw [if_neg (by rw [hd]; simp)]
  have HD : Hid (V.Dt w d F s ∧ S8 w ∧ 1 ≤ room ∧ fb18 room + 1 ≤ s.bl.length ∧ s.bl.length ≤ 900 ∧ s.un.length ≤ 100) := ⟨hD, hT, h1, hr, hbl, hu⟩
  obtain ⟨LB, hLB⟩ : ∃ LB, opB s room = LB := ⟨_, rfl⟩
  obtain ⟨LL, hLL⟩ : ∃ LL, opL s room = LL := ⟨_, rfl⟩
  rw [hLB, hLL]
  have HO : Hid (opB s room = LB ∧ opL s room = LL) := ⟨hLB, hLL⟩
  clear hD hT h1 h2 hr hbl hu hd hLB hLL
  go_enter Tryz.func7, Tryz.ntmps7
  go_upto_region 2 with (first
    | (go_at_call 27; refine C.mono ?_; rintro e w1 ⟨a, b, G1, G2, rfl, hS, hJ, hG1, hG2, hG3, hB1⟩; clear C)
    | (refine alV rfl 71 zst18 hz rfl ?_; intro w2 hV2 hB2 hS2)
    | (refine stV rfl 71 _ _ rfl w1.heap.size zst18 [.pointer (some a), .pointer (some b)] rfl rfl hV2 rfl sz_st18 (one_st18 _ _) ?_; intro w3 hV3 hK3 hS3))
  have hB3 : Below w1.heap.size w1 w3 := hK3.next hB2 (fun k hk => by omega) hB2.size
  have hB4 := bchain hB1 hB3
  have hS3' := S.stL hS hB3
  have hJ3 := J.jtK hJ (fun k hk => hB3.block k (J.jtB hJ k hk)) hB3.size
  have CK := kept18 V S J B w3 a b d F G1 G2 s room hS3' hJ3 (V.dtK HD.out.1 (fun k hk => hB4.block k (V.dtB HD.out.1 k hk)) hB4.size) (fun k hk hg => by have := V.dtB HD.out.1 k hk; have := hG2 k hg; omega) (HD.out.2.1.later hB4) HD.out.2.2.1 HD.out.2.2.2.1 HD.out.2.2.2.2.1 HD.out.2.2.2.2.2
  rw [e2] at CK
  rw [HO.out.1, HO.out.2] at CK
  have H3 : Hid (Below w.heap.size w w3 ∧ S.St w3 (.pointer (some a)) d 0 room G1 ∧ J.Jt w3 (.pointer (some b)) d G2 (fb18 room) (s.bl.length - fb18 room) ⟨0, 0, 0⟩ ∧ (∀ k, G1 k → w.heap.size ≤ k) ∧ (∀ k, G2 k → w.heap.size ≤ k) ∧ (∀ k, G1 k → ¬ G2 k) ∧ Vb w3 w1.heap.size 71 [.pointer (some a), .pointer (some b)]) := ⟨hB4, hS3', hJ3, hG1, hG2, hG3, hV3⟩
  clear hB1 hB2 hV2 hS2 hK3 hS3 hz hB3 hB4 hS hJ hG1 hG2 hG3 hS3' hJ3 hV3 e2
  have hV3 := H3.out.2.2.2.2.2.2
  go_upto_region 5 with (first
    | (refine ldSt18 rfl _ rfl w1.heap.size [.pointer (some a), .pointer (some b)] rfl hV3 rfl ?_)
    | (go_at_call 28; refine CK.mono ?_; rintro e w4 ⟨vb, vl, rfl, hb, ho, hl, hk⟩; clear CK; have HE : Hid (Bs w4 vb LB ∧ Ow w3.heap.size vb ∧ TxB w3.heap.size w4 vl LL ∧ Below w3.heap.size w3 w4) := hid5 ⟨hb, ho, hl, hk⟩; clear hb ho hl hk))
  have hV4 := hV3.later HE.out.2.2.2
  clear hV3
  go_wp2_with (first
    | (refine ldSt18 rfl _ rfl w1.heap.size [.pointer (some a), .pointer (some b)] rfl hV4 rfl ?_)
    | (refine bdO18 rfl _ rfl a b rfl ?_))
  (try simp only [Exit.inBlock, Exit.then]); refine bodyPost_ret (results_tmp4 rfl _ _ _) rfl ?_
  have hk := HE.out.2.2.2
  have s3 := H3.out.1.size
  have s4 := hk.size
  have k5 : Below w4.heap.size w4 (w4.alloc (.cells #[.pointer (some a), .pointer (some b), .bool false] 77)) := bel1 _ _
  have k35 := bchain hk k5
  refine ⟨w4.heap.size, a, b, G1, G2, _, _, rfl, ⟨by simp [go_sem], by simp [go_sem], by simp [go_sem], by simp [go_sem]⟩, S.stL H3.out.2.1 k35, J.jtK H3.out.2.2.1 (fun k hk => k35.block k (J.jtB H3.out.2.2.1 k hk)) k35.size, H3.out.2.2.2.2.2.1, fun g => by have := S.stB H3.out.2.1 _ g; omega, fun g => by have := J.jtB H3.out.2.2.1 _ g; omega, fun k hk => ?_, ?_, bchain (bchain H3.out.1 hk) k5⟩
  · rcases hk with e | e | e
    · omega
    · exact H3.out.2.2.2.1 k e
    · exact H3.out.2.2.2.2.1 k e
  · refine told18 HE.out.1 HE.out.2.1 HE.out.2.2.1 k5 s3 (fun k hk => ?_)
    rcases hk with e | e | e
    · exact Or.inr (by omega)
    · exact Or.inl (S.stB H3.out.2.1 k e)
    · exact Or.inl (J.jtB H3.out.2.2.1 k e)
end Go.Proofs.YthnpdcblfocemaaGreatDoor
set_option linter.unusedVariables false
set_option linter.unusedSimpArgs false
namespace Go.Proofs.YthnpdcblfocemaaGreatDoor
open Go.RowKit

def Stq {V : Disk1} (S : Snap1 V) (J : Jour1 V) (w : World) (q d : Value) (G : Nat → Prop) (room m : Nat) (j : Sst) : Prop :=
  ∃ (c : Nat) (a b : Addr) (G1 G2 : Nat → Prop), q = .pointer (some ⟨c, 0, none⟩) ∧ Pst w c a b j.bg ∧ S.St w (.pointer (some a)) d 0 room G1 ∧ J.Jt w (.pointer (some b)) d G2 (fb18 room) (m - fb18 room) j.j ∧ (∀ k, G1 k → ¬ G2 k) ∧ ¬ G1 c ∧ ¬ G2 c ∧ (∀ k, G k ↔ k = c ∨ G1 k ∨ G2 k) ∧ (j.bg = true → j.j.gen ≠ 0)
structure Bz {V : Disk1} (S : Snap1 V) (J : Jour1 V) (w : World) (c B : Nat) (a b : Addr) (d : Value) (F G F' G1 G2 : Nat → Prop) (s : Dsk) (room m : Nat) (j : Jst) (bg : Bool) (n : Int) (X : World) : Prop where
  p : Pst X c a b bg
  x0 : X.cell? ⟨B, 0, none⟩ = some (.pointer (some ⟨c, 0, none⟩))
  x1 : X.cell? ⟨B + 1, 0, none⟩ = some (.int .i64 n)
  f1 : X.frozen? ⟨B + 1, 0, none⟩ = false
  dd : V.Dt X d F' s
  ss : S.St X (.pointer (some a)) d 0 room G1
  jj : J.Jt X (.pointer (some b)) d G2 (fb18 room) (m - fb18 room) j
  fc : ¬ F' c
  fg1 : ∀ k, F' k → ¬ G1 k
  fg2 : ∀ k, F' k → ¬ G2 k
  g12 : ∀ k, G1 k → ¬ G2 k
  gc1 : ¬ G1 c
  gc2 : ¬ G2 c
  nB : ∀ k, F' k ∨ G1 k ∨ G2 k ∨ k = c → k ≠ B ∧ k ≠ B + 1
  gf : Gr F F' w
  gg : Gr G G2 w
  g1 : ∀ k, G1 k → G k
  gc : G c
  k : Kp (fun k => F k ∨ G k) w X
  hB : w.heap.size ≤ B
theorem Bz.both {V : Disk1} {S : Snap1 V} {J : Jour1 V} {w : World} {c B : Nat} {a b : Addr} {d : Value} {F G F' G1 G2 : Nat → Prop} {s : Dsk} {room m : Nat} {j : Jst} {bg : Bool} {n : Int} {X X' : World} (h : Bz S J w c B a b d F G F' G1 G2 s room m j bg n X) {F'' G3 : Nat → Prop} {s' : Dsk} {j' : Jst} (q1 : V.Dt X' d F'' s') (q2 : J.Jt X' (.pointer (some b)) d G3 (fb18 room) (m - fb18 room) j') (q3 : ∀ k, F'' k → ¬ G3 k) (q4 : Gr F' F'' X) (q5 : Gr G2 G3 X) (q6 : Kp (fun k => F' k ∨ G2 k) X X') :
    Bz S J w c B a b d F G F'' G1 G3 s' room m j' bg n X' := by
  have hs := h.k.size
  have l0 := World.block_lt_of_cell? _ _ h.x0
  have l1 := World.block_lt_of_cell? _ _ h.x1
  have lc := h.p.lt
  have b0 := h.nB B
  have b1 := h.nB (B + 1)
  dsimp only at l0 l1
  have kc := q6.block c lc (fun e => by rcases e with e | e; exact h.fc e; exact h.gc2 e)
  have k0 := q6.block B l0 (fun e => by rcases e with e | e; exact (b0 (Or.inl e)).1 rfl; exact (b0 (Or.inr (Or.inr (Or.inl e)))).1 rfl)
  have k1 := q6.block (B + 1) l1 (fun e => by rcases e with e | e; exact (b1 (Or.inl e)).2 rfl; exact (b1 (Or.inr (Or.inr (Or.inl e)))).2 rfl)
  refine ⟨h.p.kept kc, cell_blk5 (a := ⟨B, 0, none⟩) k0 h.x0, cell_blk5 (a := ⟨B + 1, 0, none⟩) k1 h.x1, frz_blk5 (a := ⟨B + 1, 0, none⟩) k1 h.f1, q1, S.stK h.ss (fun i hi => q6.block i (S.stB h.ss i hi) (fun e => by rcases e with e | e; exact h.fg1 i e hi; exact h.g12 i hi e)), q2, ?_, ?_, q3, ?_, h.gc1, ?_, ?_, ?_, ?_, h.g1, h.gc, ?_, h.hB⟩
  · intro e
    rcases q4 c e with e | e
    · exact h.fc e
    · omega
  · intro k e g
    rcases q4 k e with e | e
    · exact h.fg1 k e g
    · have := S.stB h.ss k g; omega
  · intro k g e
    rcases q5 k e with e | e
    · exact h.g12 k g e
    · have := S.stB h.ss k g; omega
  · intro e
    rcases q5 c e with e | e
    · exact h.gc2 e
    · omega
  · intro k e
    rcases e with e | e | e | e
    · rcases q4 k e with e | e
      · exact h.nB k (Or.inl e)
      · omega
    · exact h.nB k (Or.inr (Or.inl e))
    · rcases q5 k e with e | e
      · exact h.nB k (Or.inr (Or.inr (Or.inl e)))
      · omega
    · exact h.nB k (Or.inr (Or.inr (Or.inr e)))
  · intro k e
    rcases q4 k e with e | e
    · exact h.gf k e
    · exact Or.inr (by omega)
  · intro k e
    rcases q5 k e with e | e
    · exact h.gg k e
    · exact Or.inr (by omega)
  · refine h.k.trans q6 (fun i hi => ?_)
    rcases hi with e | e
    · exact (h.gf i e).imp Or.inl id
    · exact (h.gg i e).imp Or.inr id
theorem Bz.later {V : Disk1} {S : Snap1 V} {J : Jour1 V} {w : World} {c B : Nat} {a b : Addr} {d : Value} {F G F' G1 G2 : Nat → Prop} {s : Dsk} {room m : Nat} {j : Jst} {bg : Bool} {n : Int} {X X' : World} (h : Bz S J w c B a b d F G F' G1 G2 s room m j bg n X) (k : Below X.heap.size X X') : Bz S J w c B a b d F G F' G1 G2 s room m j bg n X' :=
  h.both (V.dtK h.dd (fun i hi => k.block i (V.dtB h.dd i hi)) k.size) (J.jtK h.jj (fun i hi => k.block i (J.jtB h.jj i hi)) k.size) h.fg2 (fun i hi => Or.inl hi) (fun i hi => Or.inl hi) (Kp.of k)
theorem Bz.dsk {V : Disk1} {S : Snap1 V} {J : Jour1 V} {w : World} {c B : Nat} {a b : Addr} {d : Value} {F G F' G1 G2 : Nat → Prop} {s s' : Dsk} {room m : Nat} {j : Jst} {bg : Bool} {n : Int} {X X' : World} (h : Bz S J w c B a b d F G F' G1 G2 s room m j bg n X) (k : Ad V.Dt d F' s' X X') : ∃ F'', Bz S J w c B a b d F G F'' G1 G2 s' room m j bg n X' := by
  obtain ⟨F'', q1, q2, q3⟩ := k
  refine ⟨F'', h.both q1 (J.jtK h.jj (fun i hi => q3.block i (J.jtB h.jj i hi) (fun e => h.fg2 i e hi)) q3.size) (fun i hi hg => ?_) q2 (fun i hi => Or.inl hi) (q3.mono (fun i hi => Or.inl hi))⟩
  rcases q2 i hi with e | e
  · exact h.fg2 i e hg
  · have := J.jtB h.jj i hg; omega
theorem Bz.jr {V : Disk1} {S : Snap1 V} {J : Jour1 V} {w : World} {c B : Nat} {a b : Addr} {d : Value} {F G F' G1 G2 : Nat → Prop} {s : Dsk} {room m : Nat} {j j' : Jst} {bg : Bool} {n : Int} {X X' : World} (h : Bz S J w c B a b d F G F' G1 G2 s room m j bg n X) (k : Nx (fun w' G => J.Jt w' (.pointer (some b)) d G (fb18 room) (m - fb18 room) j') G2 X X') : ∃ G3, Bz S J w c B a b d F G F' G1 G3 s room m j' bg n X' := by
  obtain ⟨G3, q1, q2, q3⟩ := k
  refine ⟨G3, h.both (V.dtK h.dd (fun i hi => q3.block i (V.dtB h.dd i hi) (fun e => h.fg2 i hi e)) q3.size) q1 (fun i hi hg => ?_) (fun i hi => Or.inl hi) q2 (q3.mono (fun i hi => Or.inr hi))⟩
  rcases q2 i hg with e | e
  · exact h.fg2 i hi e
  · have := V.dtB h.dd i hi; omega
theorem Bz.e {V : Disk1} {S : Snap1 V} {J : Jour1 V} {w : World} {c B : Nat} {a b : Addr} {d : Value} {F G F' G1 G2 : Nat → Prop} {s : Dsk} {room m : Nat} {j : Jst} {bg : Bool} {n : Int} {X : World} (h : Bz S J w c B a b d F G F' G1 G2 s room m j bg n X) (n' : Int) : Bz S J w c B a b d F G F' G1 G2 s room m j bg n' (X.setCell ⟨B + 1, 0, none⟩ (.int .i64 n')) := by
  have o : ∀ i, i ≠ B + 1 → (X.setCell ⟨B + 1, 0, none⟩ (.int .i64 n')).heap[i]? = X.heap[i]? := fun i hi => Below.heap_setCell _ _ _ _ hi
  have hz : (X.setCell ⟨B + 1, 0, none⟩ (.int .i64 n')).heap.size = X.heap.size := World.size_setCell _ _ _
  exact ⟨h.p.kept (o c (h.nB c (Or.inr (Or.inr (Or.inr rfl)))).2), cell_blk5 (a := ⟨B, 0, none⟩) (o B (by omega)) h.x0, same5 h.x1, (World.frozen?_setCell _ _ _ _).trans h.f1, V.dtK h.dd (fun i hi => o i (h.nB i (Or.inl hi)).2) (by omega), S.stK h.ss (fun i hi => o i (h.nB i (Or.inr (Or.inl hi))).2), J.jtK h.jj (fun i hi => o i (h.nB i (Or.inr (Or.inr (Or.inl hi)))).2) (by omega), h.fc, h.fg1, h.fg2, h.g12, h.gc1, h.gc2, h.nB, h.gf, h.gg, h.g1, h.gc, h.k.set (Or.inr (by have := h.hB; show _ ≤ B + 1; omega)) _, h.hB⟩
theorem Bz.fin {V : Disk1} {S : Snap1 V} {J : Jour1 V} {w : World} {c B : Nat} {a b : Addr} {d : Value} {F G F' G1 G2 : Nat → Prop} {s : Dsk} {room m : Nat} {j : Jst} {bg : Bool} {n : Int} {X : World} (h : Bz S J w c B a b d F G F' G1 G2 s room m j bg n X) (v : Bool) (hv : v = true → j.gen ≠ 0) :
    (X.setCell ⟨c, 2, none⟩ (.bool v)).cell? ⟨B + 1, 0, none⟩ = some (.int .i64 n) ∧ ∃ F' G', V.Dt (X.setCell ⟨c, 2, none⟩ (.bool v)) d F' s ∧ Stq S J (X.setCell ⟨c, 2, none⟩ (.bool v)) (.pointer (some ⟨c, 0, none⟩)) d G' room m ⟨j, v⟩ ∧ (∀ k, F' k → ¬ G' k) ∧ Gr F F' w ∧ Gr G G' w ∧ Kp (fun k => F k ∨ G k) w (X.setCell ⟨c, 2, none⟩ (.bool v)) := by
  have o : ∀ i, i ≠ c → (X.setCell ⟨c, 2, none⟩ (.bool v)).heap[i]? = X.heap[i]? := fun i hi => Below.heap_setCell _ _ _ _ hi
  have hz : (X.setCell ⟨c, 2, none⟩ (.bool v)).heap.size = X.heap.size := World.size_setCell _ _ _
  have hc := h.nB c (Or.inr (Or.inr (Or.inr rfl)))
  refine ⟨cell_blk5 (a := ⟨B + 1, 0, none⟩) (o (B + 1) (by omega)) h.x1, F', fun k => k = c ∨ G1 k ∨ G2 k, V.dtK h.dd (fun i hi => o i (fun e => h.fc (e ▸ hi))) (by omega), ⟨c, a, b, G1, G2, rfl, h.p.set v, S.stK h.ss (fun i hi => o i (fun e => h.gc1 (e ▸ hi))), J.jtK h.jj (fun i hi => o i (fun e => h.gc2 (e ▸ hi))) (by omega), h.g12, h.gc1, h.gc2, fun _ => Iff.rfl, hv⟩, ?_, h.gf, ?_, h.k.set (Or.inl (Or.inr h.gc)) _⟩
  · intro k hf hg
    rcases hg with e | e | e
    · exact h.fc (e ▸ hf)
    · exact h.fg1 k hf e
    · exact h.fg2 k hf e
  · intro k hg
    rcases hg with e | e | e
    · exact Or.inl (e ▸ h.gc)
    · exact Or.inl (h.g1 k e)
    · exact h.gg k e
theorem bz_start {V : Disk1} {S : Snap1 V} {J : Jour1 V} {w : World} {c : Nat} {a b : Addr} {d : Value} {F G G1 G2 : Nat → Prop} {s : Dsk} {room m : Nat} {j : Sst} (hp : Pst w c a b j.bg) (hS : S.St w (.pointer (some a)) d 0 room G1) (hJ : J.Jt w (.pointer (some b)) d G2 (fb18 room) (m - fb18 room) j.j) (h12 : ∀ k, G1 k → ¬ G2 k) (h1c : ¬ G1 c) (h2c : ¬ G2 c) (hG : ∀ k, G k ↔ k = c ∨ G1 k ∨ G2 k) (hD : V.Dt w d F s) (hd : ∀ k, F k → ¬ G k) :
    Bz S J w c w.heap.size a b d F G F G1 G2 s room m j.j j.bg 0 ((w.alloc (.cells #[.pointer (some ⟨c, 0, none⟩)] 29)).alloc (.cells #[.int .i64 0] 26)) := by
  have k : Below w.heap.size w ((w.alloc (.cells #[.pointer (some ⟨c, 0, none⟩)] 29)).alloc (.cells #[.int .i64 0] 26)) := (bel1 _ _).alloc (by simp) _
  refine ⟨hp.later k, by simp [go_sem], by simp [go_sem], by simp [go_sem], V.dtK hD (fun i hi => k.block i (V.dtB hD i hi)) k.size, S.stL hS k, J.jtK hJ (fun i hi => k.block i (J.jtB hJ i hi)) k.size, fun e => hd c e ((hG c).2 (Or.inl rfl)), fun i e g => hd i e ((hG i).2 (Or.inr (Or.inl g))), fun i e g => hd i e ((hG i).2 (Or.inr (Or.inr g))), h12, h1c, h2c, ?_, fun i hi => Or.inl hi, fun i hi => Or.inl ((hG i).2 (Or.inr (Or.inr hi))), fun i hi => (hG i).2 (Or.inr (Or.inl hi)), (hG c).2 (Or.inl rfl), Kp.of k, Nat.le_refl _⟩
  intro i e
  have hi : i < w.heap.size := by
    rcases e with e | e | e | e
    · exact V.dtB hD i e
    · exact S.stB hS i e
    · exact J.jtB hJ i e
    · rw [e]; exact hp.lt
  omega
set_option maxRecDepth 100000 in
set_option maxHeartbeats 8000000 in
theorem save18 (V : Disk1) (S : Snap1 V) (J : Jour1 V) (w : World) (q d : Value) (F G : Nat → Prop) (s : Dsk) (room m : Nat) (j : Sst) (v : Value) (r : List Nat) (h : Stq S J w q d G room m j) (hD : V.Dt w d F s) (hd : ∀ k, F k → ¬ G k) (hT : S8 w) (hN : ∀ k, F k ∨ G k → Ng8 k) (hm : s.bl.length = m) (h1 : 1 ≤ room) (h2 : room ≤ 16384) (hr : fb18 room + 1 ≤ m) (hm9 : m ≤ 900) (hu : s.un.length ≤ 100) (hv : Bs w v r) (hf : Nf F v) (hg : Nf G v) (hx : ∀ x ∈ r, x < 256) (hl : r.length ≤ 100000) :
    Calls Tryz.prog 13 #[q, v] w fun e w' => e = .returned (.int .i64 (((svS s room j r).1 : Nat) : Int)) ∧ ∃ F' G', V.Dt w' d F' (svS s room j r).2.1 ∧ Stq S J w' q d G' room m (svS s room j r).2.2 ∧ (∀ k, F' k → ¬ G' k) ∧ Gr F F' w ∧ Gr G G' w ∧ Kp (fun k => F k ∨ G k) w w' := by
  obtain ⟨c, a, b, G1, G2, rfl, hp, hS, hJ, h12, h1c, h2c, hG, hgen⟩ := h
  have H0' := bz_start hp hS hJ h12 h1c h2c hG hD hd
  have kA : Below w.heap.size w ((w.alloc (.cells #[.pointer (some ⟨c, 0, none⟩)] 29)).alloc (.cells #[.int .i64 0] 26)) := (bel1 _ _).alloc (by simp) _
  obtain ⟨wA, hwA⟩ : ∃ wA, wA = (w.alloc (.cells #[.pointer (some ⟨c, 0, none⟩)] 29)).alloc (.cells #[.int .i64 0] 26) := ⟨_, rfl⟩
  rw [← hwA] at H0' kA
  have H0 : Hid (Bz S J w c w.heap.size a b d F G F G1 G2 s room m j.j j.bg 0 wA) := H0'
  have C := S.save wA (.pointer (some a)) d F G1 s 0 room v r H0.out.ss H0.out.dd H0.out.fg1 (hT.later kA).1 (fun k hk => (hN k (Or.inl hk)).1) h1 (by unfold fb18 at hr; omega) (by omega) (by omega) (hv.later kA) hf hx hl
  obtain ⟨N, hNn⟩ : ∃ N, (svR s 0 room r).1 = N := ⟨_, rfl⟩
  obtain ⟨en, hen⟩ : ∃ en, (svR s 0 room r).2.1 = en := ⟨_, rfl⟩
  obtain ⟨sv, hsv⟩ : ∃ sv, (svR s 0 room r).2.2 = sv := ⟨_, rfl⟩
  have hnum := svR_num18 s 0 room r
  rw [hNn, hen] at hnum
  rw [hNn, hen, hsv] at C
  have hmf : ∀ (fn : Fn) (first cap : Array Value) (w : World), (Instr.makeFunc fn first cap).run Tryz.prog w = .ok (.func fn first cap) w := fun _ _ _ _ => rfl
  obtain ⟨ad, cap, rfl, -, -⟩ := hv.len
  by_cases h0 : en = 0
  · have hval : svS s room j r = (0, sv, ⟨⟨N, 0, 0⟩, true⟩) := by unfold svS; rw [hen, if_neg (by omega), hsv, hNn]
    rw [hval]
    have HN : Hid (1 ≤ N ∧ N ≤ 4611686018427387904) := hnum h0
    subst h0
    have hmd := made18 H0.out.p
    have x0 := H0.out.x0
    have x1 := H0.out.x1
    have c0 := H0.out.p.c0
    clear H0' kA hp hS hJ h12 h1c h2c hG hgen hD hd hT hN hm h1 h2 hr hm9 hu hv hf hg hx hl hNn hen hsv hnum hval
    go_enter_defers Tryz.func13, Tryz.ntmps13
    go_upto_region 1 with fail
    rw [← hwA]
    clear hwA
    go_upto_region 4 with (go_at_call 31; refine hmd.mono ?_; rintro e w' ⟨rfl, hw⟩; replace hw := hw.symm; subst hw; clear hmd)
    go_upto_region 5 with (go_at_call 37; refine C.mono ?_; rintro e wS ⟨rfl, hA⟩; clear C; have HSx := H0.out.dsk hA; obtain ⟨F1, HS'⟩ := HSx; have HS : Hid (Bz S J w c w.heap.size a b d F G F1 G1 G2 sv room m j.j j.bg 0 wS) := hid5 HS'; have y1 := HS'.x1; have z1 := HS'.f1; clear HS' hA x0 x1 c0)
    have HE : Hid (Bz S J w c w.heap.size a b d F G F1 G1 G2 sv room m j.j j.bg 0 (wS.setCell ⟨w.heap.size + 1, 0, none⟩ (.int .i64 0))) := HS.out.e 0
    clear y1 z1 HS H0
    generalize wS.setCell ⟨w.heap.size + 1, 0, none⟩ (.int .i64 0) = X at *
    have x0 := HE.out.x0
    have x1 := HE.out.x1
    have f1 := HE.out.f1
    have c1 := HE.out.p.c1
    have C := J.begin X (.pointer (some b)) d F1 G2 sv (fb18 room) (m - fb18 room) j.j (N : Int) HE.out.jj HE.out.dd HE.out.fg2 (by have := HN.out; unfold Bd64; omega)
    rw [if_neg (by have := HN.out; omega), if_neg (by have := HN.out; omega), Int.toNat_natCast] at C
    go_wp2_with (go_at_call 38; refine C.mono ?_; rintro e wB ⟨rfl, hA⟩; clear C; have HSx := HE.out.jr hA; obtain ⟨G3, HS'⟩ := HSx; have HB : Hid (Bz S J w c w.heap.size a b d F G F1 G1 G3 sv room m ⟨N, 0, 0⟩ j.bg 0 wB) := hid5 HS'; have y1 := HS'.x1; have z1 := HS'.f1; clear HS' hA x0 x1 f1 c1)
    have HZ : Hid (Bz S J w c w.heap.size a b d F G F1 G1 G3 sv room m ⟨N, 0, 0⟩ j.bg 0 (wB.setCell ⟨w.heap.size + 1, 0, none⟩ (.int .i64 0))) := HB.out.e 0
    clear y1 z1 HB HE
    generalize wB.setCell ⟨w.heap.size + 1, 0, none⟩ (.int .i64 0) = Y at *
    refine leaves_cons (f := 36) (args := #[.pointer (some ⟨w.heap.size + 1, 0, none⟩), .pointer (some ⟨w.heap.size, 0, none⟩)]) (by simp) (by simp [go_sem]) ?_
    refine (savedef18 Y w.heap.size (w.heap.size + 1) c a b j.bg true 0 _ HZ.out.p HZ.out.x0 HZ.out.x1 rfl).mono ?_
    rintro e u' w'' ⟨rfl, rfl, rfl⟩
    have hF := HZ.out.fin true (fun _ => by have := HN.out; show N ≠ 0; omega)
    have z0 := hF.1
    exact ⟨.int .i64 0, by simp [results, Tryz.results13, go_sem, z0], rfl, hF.2⟩
  · have hval : svS s room j r = (en, sv, ⟨j.j, false⟩) := by unfold svS; rw [hen, if_pos h0, hsv]
    rw [hval]
    have e0 : ¬ (en : Int) = 0 := by omega
    have e0B : ((en : Int) == 0) = false := by rw [beq_eq_false_iff_ne]; exact e0
    have hmd := made18 H0.out.p
    have x0 := H0.out.x0
    have x1 := H0.out.x1
    have c0 := H0.out.p.c0
    clear H0' kA hp hS hJ h12 h1c h2c hG hgen hD hd hT hN hm h1 h2 hr hm9 hu hv hf hg hx hl hNn hen hsv hnum hval h0
    go_enter_defers Tryz.func13, Tryz.ntmps13
    go_upto_region 1 with fail
    rw [← hwA]
    clear hwA
    go_upto_region 4 with (go_at_call 31; refine hmd.mono ?_; rintro e w' ⟨rfl, hw⟩; replace hw := hw.symm; subst hw; clear hmd)
    go_upto_region 5 with (go_at_call 37; refine C.mono ?_; rintro e wS ⟨rfl, hA⟩; clear C; have HSx := H0.out.dsk hA; obtain ⟨F1, HS'⟩ := HSx; have HS : Hid (Bz S J w c w.heap.size a b d F G F1 G1 G2 sv room m j.j j.bg 0 wS) := hid5 HS'; have y1 := HS'.x1; have z1 := HS'.f1; clear HS' hA x0 x1 c0)
    have HE : Hid (Bz S J w c w.heap.size a b d F G F1 G1 G2 sv room m j.j j.bg en (wS.setCell ⟨w.heap.size + 1, 0, none⟩ (.int .i64 en))) := HS.out.e en
    clear y1 z1 HS H0
    generalize wS.setCell ⟨w.heap.size + 1, 0, none⟩ (.int .i64 en) = X at *
    have x1 := HE.out.x1
    have f1 := HE.out.f1
    go_wp2
    have HZ : Hid (Bz S J w c w.heap.size a b d F G F1 G1 G2 sv room m j.j j.bg en (X.setCell ⟨w.heap.size + 1, 0, none⟩ (.int .i64 en))) := HE.out.e en
    clear x1 f1 HE
    generalize X.setCell ⟨w.heap.size + 1, 0, none⟩ (.int .i64 en) = Y at *
    refine leaves_cons (f := 36) (args := #[.pointer (some ⟨w.heap.size + 1, 0, none⟩), .pointer (some ⟨w.heap.size, 0, none⟩)]) (by simp) (by simp [go_sem]) ?_
    refine (savedef18 Y w.heap.size (w.heap.size + 1) c a b j.bg false en _ HZ.out.p HZ.out.x0 HZ.out.x1 e0B).mono ?_
    rintro e u' w'' ⟨rfl, rfl, rfl⟩
    have hF := HZ.out.fin false (fun e => by cases e)
    have z0 := hF.1
    exact ⟨.int .i64 en, by simp [results, Tryz.results13, go_sem, z0], rfl, hF.2⟩
end Go.Proofs.YthnpdcblfocemaaGreatDoor
