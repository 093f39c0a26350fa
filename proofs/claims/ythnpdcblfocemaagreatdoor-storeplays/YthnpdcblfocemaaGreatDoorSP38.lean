/-
  Texts of this proof, joined: JqE JqI.
-/
import Derived.Test.YthnpdcblfocemaaGreatDoorSP07
import Derived.Test.YthnpdcblfocemaaGreatDoorSP11
import Derived.Test.YthnpdcblfocemaaGreatDoorSP32
import Derived.Test.YthnpdcblfocemaaGreatDoorSP35
import Derived.Test.YthnpdcblfocemaaGreatDoorSP37
import Derived.Laws.Cover3
import Derived.Laws.ResultCell
set_option linter.unusedVariables false
set_option linter.unusedSimpArgs false
namespace Go.Proofs.YthnpdcblfocemaaGreatDoor
open Go.RowKit

structure Pj (w : World) (c d base size g n b : Nat) : Prop where
  c0 : w.cell? ⟨c, 0, none⟩ = some (.pointer (some ⟨d, 0, none⟩))
  c1 : w.cell? ⟨c, 1, none⟩ = some (.int .i64 (base : Int))
  c2 : w.cell? ⟨c, 2, none⟩ = some (.int .i64 (size : Int))
  c3 : w.cell? ⟨c, 3, none⟩ = some (.int .i64 (g : Int))
  c4 : w.cell? ⟨c, 4, none⟩ = some (.int .i64 (n : Int))
  c5 : w.cell? ⟨c, 5, none⟩ = some (.int .i64 (b : Int))
  f3 : w.frozen? ⟨c, 3, none⟩ = false
  f4 : w.frozen? ⟨c, 4, none⟩ = false
  f5 : w.frozen? ⟨c, 5, none⟩ = false
theorem Pj.kept {w w' : World} {c d base size g n b : Nat} (h : Pj w c d base size g n b) (k : w'.heap[c]? = w.heap[c]?) : Pj w' c d base size g n b :=
  ⟨cell_blk5 (a := ⟨c, 0, none⟩) k h.c0, cell_blk5 (a := ⟨c, 1, none⟩) k h.c1, cell_blk5 (a := ⟨c, 2, none⟩) k h.c2, cell_blk5 (a := ⟨c, 3, none⟩) k h.c3, cell_blk5 (a := ⟨c, 4, none⟩) k h.c4, cell_blk5 (a := ⟨c, 5, none⟩) k h.c5,
    frz_blk5 (a := ⟨c, 3, none⟩) k h.f3, frz_blk5 (a := ⟨c, 4, none⟩) k h.f4, frz_blk5 (a := ⟨c, 5, none⟩) k h.f5⟩
theorem Pj.lt {w : World} {c d base size g n b : Nat} (h : Pj w c d base size g n b) : c < w.heap.size := World.block_lt_of_cell? _ _ h.c0
theorem Pj.later {w w' : World} {c d base size g n b : Nat} (h : Pj w c d base size g n b) (k : Below w.heap.size w w') : Pj w' c d base size g n b := h.kept (k.block _ h.lt)
theorem Pj.next {w : World} {c d base size g n b : Nat} (h : Pj w c d base size g n b) (g' n' b' : Nat) : Pj (((w.setCell ⟨c, 3, none⟩ (.int .i64 (g' : Int))).setCell ⟨c, 4, none⟩ (.int .i64 (n' : Int))).setCell ⟨c, 5, none⟩ (.int .i64 (b' : Int))) c d base size g' n' b' := by
  have e3 := h.c3; have e4 := h.c4; have e5 := h.c5
  refine ⟨?_, ?_, ?_, ?_, ?_, ?_, ?_, ?_, ?_⟩
  · simp [go_sem, h.c0]
  · simp [go_sem, h.c1]
  · simp [go_sem, h.c2]
  · simp [go_sem, h.c3]
  · simp [go_sem, h.c4]
  · simp [go_sem, h.c5]
  · simp [h.f3]
  · simp [h.f4]
  · simp [h.f5]
theorem made17 {w : World} {c d base size g n b : Nat} (h : Pj w c d base size g n b) : Calls Tryz.prog 55 #[.pointer (some ⟨c, 0, none⟩)] w fun e w' => e = .returned (.bool true) ∧ w' = w := by
  have c0 := h.c0
  clear h
  go_enter Tryz.func55, Tryz.ntmps55
  go_wp2
  go_ret
  exact ⟨rfl, rfl⟩
theorem begunN17 {w : World} {c d base size n b : Nat} (h : Pj w c d base size 0 n b) : Calls Tryz.prog 56 #[.pointer (some ⟨c, 0, none⟩)] w fun e w' => e = .returned (.bool false) ∧ w' = w := by
  have hm := made17 h
  have c3 : w.cell? ⟨c, 3, none⟩ = some (.int .i64 0) := h.c3
  clear h
  go_enter Tryz.func56, Tryz.ntmps56
  go_wp2_with (go_at_call 55; refine hm.mono ?_; rintro e w' ⟨rfl, hw⟩; replace hw := hw.symm; subst hw; clear hm)
  go_ret
  exact ⟨rfl, rfl⟩
theorem begunY17 {w : World} {c d base size g n b : Nat} (h : Pj w c d base size g n b) (hg : 1 ≤ g) : Calls Tryz.prog 56 #[.pointer (some ⟨c, 0, none⟩)] w fun e w' => e = .returned (.bool true) ∧ w' = w := by
  have hm := made17 h
  have c3 := h.c3
  have hgI : (0 : Int) < (g : Int) := by omega
  have hgN : 0 < g := by omega
  clear h
  go_enter Tryz.func56, Tryz.ntmps56
  go_wp2_with (go_at_call 55; refine hm.mono ?_; rintro e w' ⟨rfl, hw⟩; replace hw := hw.symm; subst hw; clear hm)
  go_ret
  exact ⟨by simp [hgN], rfl⟩
theorem leftN17 {w : World} {c d base size n b : Nat} (h : Pj w c d base size 0 n b) : Calls Tryz.prog 44 #[.pointer (some ⟨c, 0, none⟩)] w fun e w' => e = .returned (.int .i64 0) ∧ Below w.heap.size w w' := by
  have hb := begunN17 h
  clear h
  go_enter Tryz.func44, Tryz.ntmps44
  go_wp2_with (go_at_call 56; refine hb.mono ?_; rintro e w' ⟨rfl, hw⟩; replace hw := hw.symm; subst hw; clear hb)
  go_ret
  exact ⟨rfl, Below.refl _ _⟩
theorem leftY17 {w : World} {c d base size g n b : Nat} (h : Pj w c d base size g n b) (hg : 1 ≤ g) (hb2 : b ≤ size) (hs : size ≤ 1000000) : Calls Tryz.prog 44 #[.pointer (some ⟨c, 0, none⟩)] w fun e w' => e = .returned (.int .i64 ((size - b : Nat) : Int)) ∧ Below w.heap.size w w' := by
  have hb := begunY17 h hg
  have c2 := h.c2
  have c5 := h.c5
  obtain ⟨r, hr⟩ : ∃ r, size - b = r := ⟨_, rfl⟩
  have y1 : IntKind.i64.wrap ((size : Int) - (b : Int)) = (r : Int) := by rw [IntKind.wrap_i64]; omega
  have HP : Hid (Pj w c d base size g n b) := h
  rw [hr]
  clear h hr hb2 hs
  go_enter Tryz.func44, Tryz.ntmps44
  go_upto_region 3 with (go_at_call 56; refine hb.mono ?_; rintro e w' ⟨rfl, hw⟩; replace hw := hw.symm; subst hw; clear hb)
  go_quiet (fail)
  go_wp2
  go_ret
  exact ⟨rfl, below_drewP (Below.refl _ _) _⟩
set_option maxRecDepth 100000 in
theorem begin17 {w : World} {c d base size g n b : Nat} (h : Pj w c d base size g n b) (k : Nat) (hk : 1 ≤ k) : Calls Tryz.prog 38 #[.pointer (some ⟨c, 0, none⟩), .int .i64 (k : Int)] w fun e w' => e = .returned (.int .i64 0) ∧ Pj w' c d base size k 1 0 ∧ Kp (fun i => i = c) w w' := by
  have hm := made17 h
  have hf := first17 k w
  have HP : Hid (Pj w c d base size g n b) := h
  have hkI : ¬ (k : Int) < 1 := by omega
  have hkB : decide ((k : Int) < 1) = false := decide_eq_false hkI
  unfold plJ at hf
  clear h hk
  go_enter Tryz.func38, Tryz.ntmps38
  go_upto_region 3 with (go_at_call 55; refine hm.mono ?_; rintro e w' ⟨rfl, hw⟩; replace hw := hw.symm; subst hw; clear hm)
  have c3 := HP.out.c3
  go_wp2_with (go_at_call 67; refine hf.mono ?_; rintro e w1 ⟨rfl, hB⟩; have HB : Hid (Below w.heap.size w w1 ∧ Pj w1 c d base size g n b) := hid5 ⟨hB, HP.out.later hB⟩; clear hf hB c3; have c3 := HB.out.2.c3; have c4 := HB.out.2.c4; have c5 := HB.out.2.c5; have f3 := HB.out.2.f3; have f4 := HB.out.2.f4; have f5 := HB.out.2.f5)
  go_ret
  exact ⟨rfl, HB.out.2.next k 1 0, Kp.set (Kp.set (Kp.set (Kp.of (F := fun i => i = c) HB.out.1) (Or.inl rfl) _) (Or.inl rfl) _) (Or.inl rfl) _⟩
set_option maxRecDepth 100000 in
theorem beginE17 {w : World} {c d base size g n b : Nat} (h : Pj w c d base size g n b) (k : Int) (hk : k < 1) : Calls Tryz.prog 38 #[.pointer (some ⟨c, 0, none⟩), .int .i64 k] w fun e w' => e = .returned (.int .i64 2) ∧ w' = w := by
  have hm := made17 h
  have hkB : decide (k < 1) = true := decide_eq_true hk
  clear h
  go_enter Tryz.func38, Tryz.ntmps38
  go_upto_region 3 with (go_at_call 55; refine hm.mono ?_; rintro e w' ⟨rfl, hw⟩; replace hw := hw.symm; subst hw; clear hm)
  go_wp2
  go_ret
  exact ⟨rfl, rfl⟩
set_option maxRecDepth 100000 in
set_option maxHeartbeats 8000000 in
theorem newY17 (w : World) (g : Nat) (F : Nat → Prop) (s : Dsk) (base size : Nat) (hD : PD w (.pointer (some ⟨g, 0, none⟩)) F s) (h1 : 1 ≤ size) (hr : base + size ≤ s.bl.length) :
    Calls Tryz.prog 48 #[.pointer (some ⟨g, 0, none⟩), .int .i64 (base : Int), .int .i64 (size : Int)] w fun e w' => ∃ c, e = .returned (.tuple #[.pointer (some ⟨c, 0, none⟩), .int .i64 0]) ∧ Pj w' c g base size 0 0 0 ∧ w.heap.size ≤ c ∧ Below w.heap.size w w' := by
  have hB := blocks15 w _ F s hD
  have hn : s.bl.length ≤ 16384 := by
    obtain ⟨_, _, _, _, _, h⟩ := hD
    exact h.n2
  obtain ⟨n, hn0⟩ : ∃ n, s.bl.length = n := ⟨_, rfl⟩
  rw [hn0] at hB hn hr
  have b1 : ¬ (n : Int) = 0 := by omega
  have b1B : ((n : Int) == 0) = false := by rw [beq_eq_false_iff_ne]; exact b1
  have b2 : ¬ (size : Int) < 1 := by omega
  have b2B : decide ((size : Int) < 1) = false := decide_eq_false b2
  have b4 : ¬ (base : Int) < 0 := by omega
  have b4B : decide ((base : Int) < 0) = false := decide_eq_false b4
  obtain ⟨L, hL⟩ : ∃ L, n - size = L := ⟨_, rfl⟩
  have y3 : IntKind.i64.wrap ((n : Int) - (size : Int)) = (L : Int) := by rw [IntKind.wrap_i64]; omega
  have b5 : ¬ (L : Int) < (base : Int) := by omega
  have b5B : decide ((L : Int) < (base : Int)) = false := decide_eq_false b5
  clear hD hn hn0 h1 hr hL
  go_enter Tryz.func48, Tryz.ntmps48
  go_upto_region 2 with (go_at_call 49; refine hB.mono ?_; rintro e w1 ⟨rfl, hBw⟩; clear hB)
  have HB : Hid (Below w.heap.size w w1) := hBw
  clear hBw
  go_wp2_with fail
  go_ret2
  exact ⟨_, rfl, ⟨by simp [go_sem], by simp [go_sem], by simp [go_sem], by simp [go_sem], by simp [go_sem], by simp [go_sem], by simp [go_sem], by simp [go_sem], by simp [go_sem]⟩, HB.out.size, bchain HB.out (bel1 _ _)⟩
set_option maxRecDepth 100000 in
set_option maxHeartbeats 8000000 in
theorem newN17 (w : World) (p : Value) (F : Nat → Prop) (s : Dsk) (base size : Int) (hD : PD w p F s) (ha : Bd64 base) (hm : Bd64 size) (hno : ¬ (1 ≤ size ∧ 0 ≤ base ∧ base + size ≤ (s.bl.length : Int))) :
    Calls Tryz.prog 48 #[p, .int .i64 base, .int .i64 size] w fun e w' => e = .returned (.tuple #[.pointer none, .int .i64 2]) ∧ Below w.heap.size w w' := by
  have hB := blocks15 w _ F s hD
  have hn : s.bl.length ≤ 16384 ∧ 1 ≤ s.bl.length := by
    obtain ⟨_, _, _, _, _, h⟩ := hD
    exact ⟨h.n2, h.n1⟩
  obtain ⟨g, rfl⟩ : ∃ g, p = .pointer (some ⟨g, 0, none⟩) := by obtain ⟨g, _, _, _, e, _⟩ := hD; exact ⟨g, e⟩
  obtain ⟨n, hn0⟩ : ∃ n, s.bl.length = n := ⟨_, rfl⟩
  rw [hn0] at hB hn hno
  have b1 : ¬ (n : Int) = 0 := by omega
  have b1B : ((n : Int) == 0) = false := by rw [beq_eq_false_iff_ne]; exact b1
  unfold Bd64 at ha hm
  have hn1 := hn.1
  have hn2 := hn.2
  clear hD hn hn0
  by_cases c1 : size < 1
  · have c1B : decide (size < 1) = true := decide_eq_true c1
    clear hno
    go_enter Tryz.func48, Tryz.ntmps48
    go_upto_region 2 with (go_at_call 49; refine hB.mono ?_; rintro e w1 ⟨rfl, hBw⟩; clear hB)
    have HB : Hid (Below w.heap.size w w1) := hBw
    clear hBw
    go_wp2_with fail
    go_ret2
    exact ⟨rfl, HB.out⟩
  have c1B : decide (size < 1) = false := decide_eq_false c1
  by_cases c3 : base < 0
  · have c3B : decide (base < 0) = true := decide_eq_true c3
    clear hno
    go_enter Tryz.func48, Tryz.ntmps48
    go_upto_region 2 with (go_at_call 49; refine hB.mono ?_; rintro e w1 ⟨rfl, hBw⟩; clear hB)
    have HB : Hid (Below w.heap.size w w1) := hBw
    clear hBw
    go_wp2_with fail
    go_ret2
    exact ⟨rfl, HB.out⟩
  have c3B : decide (base < 0) = false := decide_eq_false c3
  obtain ⟨L, hL⟩ : ∃ L, (n : Int) - size = L := ⟨_, rfl⟩
  have y3 : IntKind.i64.wrap L = L := by rw [IntKind.wrap_i64]; omega
  have b5 : L < base := by omega
  have b5B : decide (L < base) = true := decide_eq_true b5
  clear hno ha hm hn1 hn2
  go_enter Tryz.func48, Tryz.ntmps48
  go_upto_region 2 with (go_at_call 49; refine hB.mono ?_; rintro e w1 ⟨rfl, hBw⟩; clear hB)
  have HB : Hid (Below w.heap.size w w1) := hBw
  clear hBw
  go_wp2_with fail
  go_ret2
  exact ⟨rfl, HB.out⟩
theorem res_rd17 {fn : Func} {p u : Tmp} (hr : fn.results = #[.cell p 134, .tmp u]) (tmps : Array Value) {w : World} {g : Nat} {b : List Nat} (h : Vb w g 134 (b8 b)) (hb : b.length = 128) (hp : tmps.getD p undef = .pointer (some ⟨g, 0, none⟩)) :
    (results fn tmps).run Tryz.prog w = .ok (.tuple #[bkV b, tmps.getD u undef]) w := by
  rw [results_cell_tmp hr tmps Tryz.prog w, hp]
  have e : (b8 b).toArray.size = 128 := by rw [List.size_toArray, b8_len, hb]
  have h2 := run_loadVar_row (P := Tryz.prog) w g 134 134 (b8 b).toArray (0, 0) _ h und_jb17 rfl (by rw [e]; exact sz_jb17)
  simp [asAddr, h2, Result.andThen, bkV]
theorem built_jb17 : Tryz.prog.built 134 [] = some (b8 zr15).toArray := by kernel_rfl
theorem bdJ {ops : Array Oper} {rest : List Oper} {o : Oper} {a : Act} {w : World} {Q : Exit → Act → World → Prop} (hgd : o.guard = none) (ho : o.op = .build 134 #[])
    (h : wpList Tryz.prog ops Q rest (a.put o.dst (bkV zr15)) w) : wpList Tryz.prog ops Q (o :: rest) a w :=
  wpList_plain hgd fun K hK => by
    have hrun : (Instr.build 134 #[]).run Tryz.prog w = .ok (bkV zr15) w := run_build w _ _ _ built_jb17
    unfold Oper.wp
    simp [execOp, ho, hrun, Result.andThen]
    exact hK _ _ h
def rdV (s : Dsk) (i : Nat) : Value := if s.dn = true then bkV zr15 else bkV (rb s i)
def rdN (s : Dsk) : Nat := if s.dn = true then 150 else 0
set_option maxRecDepth 100000 in
set_option maxHeartbeats 8000000 in
theorem read17 (V : Disk1) (w : World) (c d : Nat) (F : Nat → Prop) (s : Dsk) (base size g n b i : Nat) (hP : Pj w c d base size g n b) (hD : V.Dt w (.pointer (some ⟨d, 0, none⟩)) F s) (hi : base + i < s.bl.length) (hbl : s.bl.length ≤ 1000) :
    Calls Tryz.prog 69 #[.pointer (some ⟨c, 0, none⟩), .int .i64 (i : Int)] w fun e w' => e = .returned (.tuple #[rdV s (base + i), .int .i64 ((rdN s : Nat) : Int)]) ∧ Below w.heap.size w w' := by
  have hz := zero_jb17
  obtain ⟨q, hq⟩ : ∃ q, base + i = q := ⟨_, rfl⟩
  have yq : IntKind.i64.wrap ((base : Int) + (i : Int)) = (q : Int) := by rw [IntKind.wrap_i64]; omega
  have HP : Hid (Pj w c d base size g n b ∧ V.Dt w (.pointer (some ⟨d, 0, none⟩)) F s) := ⟨hP, hD⟩
  have HI : Hid (q < s.bl.length) := by show _ < _; omega
  have HO : Hid (OkD s) := V.dtO hD
  rw [hq]
  clear hP hD hi hbl hq
  go_enter Tryz.func69, Tryz.ntmps69
  go_upto_region 1 with (refine alV rfl 134 (b8 zr15) hz rfl ?_; intro w1 hV1 hB1 hS1)
  have HW : Hid (Pj w1.drew c d base size g n b ∧ V.Dt w1.drew (.pointer (some ⟨d, 0, none⟩)) F s ∧ Vb w1.drew w.heap.size 134 (b8 zr15) ∧ Below w.heap.size w w1.drew) :=
    ⟨HP.out.1.later hB1.drew, V.dtK HP.out.2 (fun k hk => hB1.drew.block k (V.dtB HP.out.2 k hk)) hB1.drew.size, hV1, hB1.drew⟩
  clear hV1 hB1 hS1 hz HP
  have x0 := HW.out.1.c0
  have x1 := HW.out.1.c1
  have C := V.read w1.drew _ F s (q : Int) HW.out.2.1
  by_cases hd : s.dn = true
  · have ha : dAsk s (q : Int) = 150 := by unfold dAsk; rw [if_pos hd]
    rw [ha] at C
    have HE : Hid (rdV s q = bkV zr15 ∧ rdN s = 150) := ⟨if_pos hd, if_pos hd⟩
    clear ha hd
    go_region_held3 (fun W => W.cell? ⟨c, 0, none⟩ = some (.pointer (some ⟨d, 0, none⟩)) ∧ W.cell? ⟨c, 1, none⟩ = some (.int .i64 (base : Int)))
      (exact ⟨x0, x1⟩)
      (first | (go_at_call 87; refine C.mono ?_; rintro e X ⟨v, rfl, hL, -, hB⟩; replace x0 := cell_later hB x0; replace x1 := cell_later hB x1; have HX : Hid (Vb X w.heap.size 134 (b8 zr15) ∧ Below w.heap.size w X) := hid5 ⟨HW.out.2.2.1.later hB, bchain HW.out.2.2.2 hB⟩; clear C hL hB))
    go_wp2_with (first
      | (refine bdJ rfl rfl ?_)
      | (refine stV rfl 134 _ _ rfl w.heap.size (b8 zr15) (b8 zr15) rfl rfl HX.out.1 rfl (by rw [b8_len, zr_len]; exact sz_jb17) (b8_one _) ?_; intro wE hVE hKE hSE))
    exact bodyPost_ret (v := .tuple #[bkV zr15, .int .i64 150]) (by refine (res_rd17 (p := 4) (u := 5) rfl _ hVE zr_len rfl).trans ?_; rfl) rfl ⟨by rw [HE.out.1, HE.out.2]; rfl, hKE.next HX.out.2 (fun i hi => by omega) HX.out.2.size⟩
  · have hd2 : s.dn = false := by simpa using hd
    have hok := okD_rb HO.out hd2 q HI.out
    rw [hok.1] at C
    have HE : Hid (rdV s q = bkV (rb s q) ∧ rdN s = 0 ∧ okb (rb s q)) := ⟨if_neg hd, if_neg hd, hok.2⟩
    obtain ⟨x, hx⟩ : ∃ x, rdB s (q : Int) = x := ⟨_, rfl⟩
    rw [hx] at C
    have hx2 : rb s q = x := hx
    rw [hx2] at HE
    clear hd hd2 hok hx hx2
    go_region_held3 (fun W => W.cell? ⟨c, 0, none⟩ = some (.pointer (some ⟨d, 0, none⟩)) ∧ W.cell? ⟨c, 1, none⟩ = some (.int .i64 (base : Int)))
      (exact ⟨x0, x1⟩)
      (first | (go_at_call 87; refine C.mono ?_; rintro e X ⟨v, rfl, hL, -, hB⟩; replace x0 := cell_later hB x0; replace x1 := cell_later hB x1; have HX : Hid (Vb X w.heap.size 134 (b8 zr15) ∧ Below w.heap.size w X) := hid5 ⟨HW.out.2.2.1.later hB, bchain HW.out.2.2.2 hB⟩; have HL : Hid (Bs X v x) := hid5 hL; clear C hL hB))
    obtain ⟨av, cv, rfl, l1, l2⟩ := HL.out.len
    have hl := HE.out.2.2.1
    rw [hl] at l1 HL ⊢
    obtain ⟨gx, ox, rfl, -⟩ := HL.out.cel 0 (by omega)
    have hat : ∀ W, (Instr.arrayAt 134 (.slice (some ⟨gx, ox, none⟩) 128 cv)).run Tryz.prog W = .ok (.pointer (some ⟨gx, ox, none⟩)) W := fun W => run_arrayAt W 134 5 128 _ 128 cv und_jb17 (by omega)
    have hra : X.rangeAt gx ox (b8 x) := fun j v hv => by
      have hj : j < x.length := by have := (List.getElem?_eq_some_iff.1 hv).1; rw [b8_len] at this; exact this
      obtain ⟨g', o', e', hc⟩ := HL.out.cel j (by omega)
      cases e'
      rw [b8_cell x j hj] at hv
      rw [← hv]
      exact hc
    have HR : Hid (X.rangeAt gx ox (b8 x)) := hra
    clear hl hra
    go_wp2_with (first
      | (refine ldJ rfl _ rfl gx ox x rfl HR.out HE.out.2.2.1 ?_)
      | (refine stV rfl 134 _ _ rfl w.heap.size (b8 zr15) (b8 x) rfl rfl HX.out.1 (by rw [b8_len, b8_len, HE.out.2.2.1, zr_len]) (by rw [b8_len, HE.out.2.2.1]; exact sz_jb17) (b8_one _) ?_; intro wE hVE hKE hSE))
    exact bodyPost_ret (v := .tuple #[bkV x, .int .i64 0]) (by refine (res_rd17 (p := 4) (u := 5) rfl _ hVE HE.out.2.2.1 rfl).trans ?_; rfl) rfl ⟨by rw [HE.out.1, HE.out.2.1]; rfl, hKE.next HX.out.2 (fun i hi => by omega) HX.out.2.size⟩
end Go.Proofs.YthnpdcblfocemaaGreatDoor
set_option linter.unusedVariables false
set_option linter.unusedSimpArgs false
namespace Go.Proofs.YthnpdcblfocemaaGreatDoor
open Go.RowKit

theorem btg_iff {h : List Nat} (hh : okb h) {a b c d e : Nat} (ha : a < 256 ^ 4) (hb : b < 256 ^ 2) (hc : c < 256 ^ 2) (hd : d < 256 ^ 8) (he : e < 256 ^ 8) :
    h.drop 104 = jtl a b c d e ↔ (gt h 104 4 = a ∧ gt h 108 2 = b ∧ gt h 110 2 = c ∧ gt h 112 8 = d ∧ gt h 120 8 = e) := by
  have pc : ∀ p k, p + k ≤ 128 → ((h.drop p).take k).length = k := fun p k hp => by rw [List.length_take, List.length_drop, hh.1]; omega
  have pb : ∀ p k, ∀ x ∈ (h.drop p).take k, x < 256 := fun p k x hx => hh.2 x (List.mem_of_mem_drop (List.mem_of_mem_take hx))
  have pe : ∀ p k, p + k ≤ 128 → enN (gt h p k) k = (h.drop p).take k := fun p k hp => by
    have h1 := en_de ((h.drop p).take k) (pb p k)
    rw [pc p k hp] at h1
    exact h1
  have cut : h.drop 104 = (h.drop 104).take 4 ++ ((h.drop 108).take 2 ++ ((h.drop 110).take 2 ++ ((h.drop 112).take 8 ++ (h.drop 120).take 8))) := by
    have st : ∀ p k, h.drop p = (h.drop p).take k ++ h.drop (p + k) := fun p k => by rw [← List.drop_drop, List.take_append_drop]
    have e5 : h.drop 120 = (h.drop 120).take 8 := by rw [List.take_of_length_le (by rw [List.length_drop, hh.1]; omega)]
    have e4 : h.drop 112 = (h.drop 112).take 8 ++ (h.drop 120).take 8 := (st 112 8).trans (by rw [← e5])
    have e3 : h.drop 110 = (h.drop 110).take 2 ++ ((h.drop 112).take 8 ++ (h.drop 120).take 8) := (st 110 2).trans (by rw [← e4])
    have e2 : h.drop 108 = (h.drop 108).take 2 ++ ((h.drop 110).take 2 ++ ((h.drop 112).take 8 ++ (h.drop 120).take 8)) := (st 108 2).trans (by rw [← e3])
    exact (st 104 4).trans (by rw [← e2])
  constructor
  · intro hq
    rw [cut] at hq
    unfold jtl at hq
    obtain ⟨q1, hq⟩ := List.append_inj hq (by rw [pc 104 4 (by omega), enN_len])
    obtain ⟨q2, hq⟩ := List.append_inj hq (by rw [pc 108 2 (by omega), enN_len])
    obtain ⟨q3, hq⟩ := List.append_inj hq (by rw [pc 110 2 (by omega), enN_len])
    obtain ⟨q4, q5⟩ := List.append_inj hq (by rw [pc 112 8 (by omega), enN_len])
    refine ⟨?_, ?_, ?_, ?_, ?_⟩
    · show deN _ = _; rw [q1]; exact de_en 4 _ ha
    · show deN _ = _; rw [q2]; exact de_en 2 _ hb
    · show deN _ = _; rw [q3]; exact de_en 2 _ hc
    · show deN _ = _; rw [q4]; exact de_en 8 _ hd
    · show deN _ = _; rw [q5]; exact de_en 8 _ he
  · rintro ⟨rfl, rfl, rfl, rfl, rfl⟩
    rw [cut]
    unfold jtl
    rw [pe 104 4 (by omega), pe 108 2 (by omega), pe 110 2 (by omega), pe 112 8 (by omega), pe 120 8 (by omega)]
theorem und_u6417 : Tryz.prog.underlying 137 = some (.int .u64) := by kernel_rfl
theorem plainU64 : Tryz.prog.plainKey 137 = true := by kernel_rfl
theorem cellsU64 : Tryz.prog.cellsOf 137 = 1 := by kernel_rfl
theorem eq_items17 (f g : Nat → Nat) (xs ys : Array Value) (hx : ∀ j, j < 5 → xs[j]? = some (.int .u64 (f j : Int))) (hy : ∀ j, j < 5 → ys[j]? = some (.int .u64 (g j : Int))) (W : World) : ∀ is : List Nat, (∀ i ∈ is, i < 5) → (Op.eqItems 9999 137 1 xs ys is).run Tryz.prog W = .ok (is.all (fun i => f i == g i)) W := by
  intro is
  induction is with
  | nil => intro _; rfl
  | cons j is ih =>
    intro h
    have hj := h j (by simp)
    have p1 : (part 137 xs (j * 1)).run Tryz.prog W = .ok (.int .u64 (f j : Int)) W := run_part_plain W plainU64 (by rw [Nat.mul_one]; exact hx j hj)
    have p2 : (part 137 ys (j * 1)).run Tryz.prog W = .ok (.int .u64 (g j : Int)) W := run_part_plain W plainU64 (by rw [Nat.mul_one]; exact hy j hj)
    have p3 : (Op.equalIn 9999 137 (.int .u64 (f j : Int)) (.int .u64 (g j : Int))).run Tryz.prog W = .ok ((f j : Int) == (g j : Int)) W := run_equalIn_int W 9998 137 .u64 .u64 _ _ und_u6417
    have ih2 := ih (fun i hi => h i (by simp [hi]))
    have e : ((f j : Int) == (g j : Int)) = (f j == g j) := by
      rw [Bool.eq_iff_iff, beq_iff_eq, beq_iff_eq]; omega
    simp only [Op.eqItems, Sem.run_bind, p1, p2, p3, Result.andThen_ok, List.all_cons, e]
    cases hz : (f j == g j)
    · rfl
    · simpa using ih2
def tgF (a b c d e : Nat) : Nat → Nat | 0 => a | 1 => b | 2 => c | 3 => d | _ => e
theorem tgF_get (a b c d e : Nat) : ∀ j, j < 5 → (tgL a b c d e).toArray[j]? = some (.int .u64 (tgF a b c d e j : Int)) := by
  intro j hj
  have : j = 0 ∨ j = 1 ∨ j = 2 ∨ j = 3 ∨ j = 4 := by omega
  rcases this with rfl | rfl | rfl | rfl | rfl <;> rfl
set_option maxRecDepth 100000 in
theorem eq_tag17 (a b c d e a' b' c' d' e' : Nat) (W : World) : (Op.equalIn 10000 139 (tgV a b c d e) (tgV a' b' c' d' e')).run Tryz.prog W = .ok (decide (a = a' ∧ b = b' ∧ c = c' ∧ d = d' ∧ e = e')) W := by
  obtain ⟨i0, hi⟩ : ∃ i, Tryz.prog.info? 137 = some i := by
    have h : (Tryz.prog.info? 137).isSome = true := by kernel_rfl
    exact Option.isSome_iff_exists.1 h
  have h := run_equalIn_array W 9999 (tgL a b c d e).toArray (tgL a' b' c' d' e').toArray und_tg17 hi
  rw [cellsU64, eq_items17 _ _ _ _ (tgF_get a b c d e) (tgF_get a' b' c' d' e') W _ (fun i hi => List.mem_range.1 hi)] at h
  refine h.trans ?_
  congr 1
  rw [Bool.eq_iff_iff, decide_eq_true_iff]
  show ((tgF a b c d e 0 == tgF a' b' c' d' e' 0) && ((tgF a b c d e 1 == tgF a' b' c' d' e' 1) && ((tgF a b c d e 2 == tgF a' b' c' d' e' 2) && ((tgF a b c d e 3 == tgF a' b' c' d' e' 3) && ((tgF a b c d e 4 == tgF a' b' c' d' e' 4) && true))))) = true ↔ _
  simp [tgF]
theorem idxT (a b c d e : Nat) (W : World) : (Instr.index 139 (tgV a b c d e) (.int .i64 0)).run Tryz.prog W = .ok (.int .u64 (a : Int)) W := by
  have p := run_part_plain (P := Tryz.prog) (e := 137) W plainU64 (show (tgL a b c d e).toArray[0]? = some (.int .u64 (a : Int)) from rfl)
  have hz := Tryz.sizeOf137 W
  have h1 : (0 : Int) ≤ (0 : Int) ∧ (0 : Int) < ((5 : Nat) : Int) := by omega
  unfold tgV
  simp only [Instr.index, asIntOf, Sem.run_bind, Sem.run_pure, Result.andThen_ok, run_underlying und_tg17, if_pos h1, hz, Int.toNat_zero, Nat.zero_mul]
  exact p
def rct (D : List Nat) (z k : Nat) : List Nat := D.take (min (k * 104) z) ++ List.replicate (z - min (k * 104) z) 0
theorem rct_zero (D : List Nat) (z : Nat) : rct D z 0 = List.replicate z 0 := by simp [rct]
theorem rct_all (D : List Nat) (z k : Nat) (h : z ≤ k * 104) : rct D z k = D.take z := by
  unfold rct
  rw [Nat.min_eq_right h, Nat.sub_self, List.replicate_zero, List.append_nil]
theorem rct_len (D : List Nat) (z k : Nat) (h : z ≤ D.length) : (rct D z k).length = z := by
  unfold rct
  rw [List.length_append, List.length_take, List.length_replicate]
  omega
theorem flat_at {B : Nat → List Nat} {p t k e : Nat} (h : ∀ i, i < t → (B (p + i)).length = 128) (hk : k < t) (he : e ≤ 104) : (((List.range t).flatMap fun i => (B (p + i)).take 104).drop (k * 104)).take e = (B (p + k)).take e := by
  obtain ⟨r, rfl⟩ : ∃ r, t = k + 1 + r := ⟨t - (k + 1), by omega⟩
  have h1 := jal_len (B := B) (p := p) (t := k) (fun i hi => h i (by omega))
  have hb : ((B (p + k)).take 104).length = 104 := by rw [List.length_take, h k (by omega)]; omega
  rw [List.range_add, List.flatMap_append, List.range_succ, List.flatMap_append, List.append_assoc, ← h1, List.drop_left]
  simp only [List.flatMap_cons, List.flatMap_nil, List.append_nil]
  rw [List.take_append_of_le_length (by omega), List.take_take, Nat.min_eq_left he]
theorem rct_step {B : Nat → List Nat} {p t z k : Nat} (h : ∀ i, i < t → (B (p + i)).length = 128) (hk : k < t) (hz : k * 104 ≤ z) (hz2 : z ≤ t * 104) :
    splice (b8 (rct ((List.range t).flatMap fun i => (B (p + i)).take 104) z k)) (k * 104) (b8 ((B (p + k)).take (min 104 (z - k * 104)))) = b8 (rct ((List.range t).flatMap fun i => (B (p + i)).take 104) z (k + 1)) := by
  have hf := flat_at (e := min 104 (z - k * 104)) h hk (Nat.min_le_left _ _)
  have hl := jal_len h
  obtain ⟨D, hD⟩ : ∃ D, ((List.range t).flatMap fun i => (B (p + i)).take 104) = D := ⟨_, rfl⟩
  rw [hD] at hf hl ⊢
  obtain ⟨e, he⟩ : ∃ e, min 104 (z - k * 104) = e := ⟨_, rfl⟩
  rw [he] at hf ⊢
  have h1 : min (k * 104) z = k * 104 := Nat.min_eq_left hz
  have h2 : min ((k + 1) * 104) z = k * 104 + e := by omega
  have h3 : ((B (p + k)).take e).length = e := by rw [List.length_take, h k hk]; omega
  have e1 : D.take (k * 104 + e) = D.take (k * 104) ++ (B (p + k)).take e := by rw [List.take_add, hf]
  have hkl : (D.take (k * 104)).length = k * 104 := by rw [List.length_take, hl]; omega
  unfold rct splice
  rw [h1, h2, e1, b8_len, h3]
  have b1 : (b8 (D.take (k * 104) ++ List.replicate (z - k * 104) 0)).take (k * 104) = b8 (D.take (k * 104)) := by
    rw [b8_app, List.take_append_of_le_length (by rw [b8_len]; omega), List.take_of_length_le (by rw [b8_len]; omega)]
  have b2 : (b8 (D.take (k * 104) ++ List.replicate (z - k * 104) 0)).drop (k * 104 + e) = b8 (List.replicate (z - (k * 104 + e)) 0) := by
    rw [b8_app, List.drop_append, b8_len, hkl, List.drop_of_length_le (by rw [b8_len]; omega), List.nil_append]
    unfold b8
    rw [List.map_replicate, List.map_replicate, List.drop_replicate]
    congr 1
    omega
  rw [b1, b2, b8_app, b8_app, List.append_assoc]
theorem make17 (n : Nat) (hn : n ≤ 2000000) (w : World) : (Instr.makeSlice 30 (.int .u64 (n : Int)) (.int .u64 (n : Int))).run Tryz.prog w = .ok (.slice (some ⟨w.heap.size, 0, none⟩) n n) (w.alloc (.cells (b8 (List.replicate n 0)).toArray 5)) := by
  obtain ⟨i0, hi, hz0, hz1, hz2⟩ := info_parts dinfo_byte
  have h := run_make (P := Tryz.prog) w 30 5 i0 (.int .u8 0) Tryz.underlying30 hi hz0 .u64 .u64 (n : Int) (n : Int) (by omega) (by omega) (by rw [hz2]; omega) (by omega)
  rw [hz1, Nat.mul_one] at h
  refine h.trans ?_
  have e : madeCells #[.int .u8 0] n = (b8 (List.replicate n 0)).toArray := by
    refine Array.ext (by simp [madeCells, b8]) (fun i h1 h2 => ?_)
    simp [madeCells, b8, Nat.mod_one]
  rw [← e]
  rfl
end Go.Proofs.YthnpdcblfocemaaGreatDoor
