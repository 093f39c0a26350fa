/-
The program's frame: Seal.
The program's frame: Open.
The document's reader (regattaref12.R): Ints, Fixes.
What layer 12 must give (pack): a writer and a reader, whatever they are made of.
-/
import Derived.Test.YtfcbgkcclganmaaDoorZ15
import Derived.Test.YtfcbgkcclganmaaDoorZ04

set_option linter.unusedVariables false
set_option linter.unusedSimpArgs false
namespace Go.Proofs.YtfcbgkcclganmaaDoor
open Go.RowKit

/-- The sum of one text. -/
theorem ofOne (w : World) (ad : Option Addr) (n cap : Nat) (l : List Nat) (t : TypeId) (h : Bs w (.slice ad n cap) l) (hn : l.length = n) (hb : ∀ c ∈ l, c < 256) (hl : l.length ≤ 100000) (hT : TbAt w) :
    Calls Tryd.prog 37 #[.slice (some ⟨w.heap.size, 0, none⟩) 1 1] (w.alloc (.cells #[.slice ad n cap] t)) fun e w' => e = .returned (.int .u32 ((sm l : Nat) : Int)) ∧ Below w.heap.size w w' := by
  subst hn
  exact (of11 _ 1 _ _ _ (by omega) (fun _ => hl) (fun _ k => getD_byte hb k) (hT.later (bel1 _ _)) (lb_one w ad l.length cap (fun k => l.getD k 0) t (bs_ls h))).mono fun e w' h => ⟨h.1, bchain (bel1 _ _) h.2⟩
theorem idxA (xs : Array Value) (v : Value) (j : Nat) (h : j < 3) (hx : xs[j]? = some v) (W : World) : (Instr.index 75 (.agg xs) (.int .i64 (j : Int))).run Tryd.prog W = .ok v W := by
  have p := run_part_plain (P := Tryd.prog) (e := 5) W (by kernel_rfl) hx
  have hz := Tryd.sizeOf5 W
  have h1 : (0 : Int) ≤ (j : Int) ∧ (j : Int) < ((3 : Nat) : Int) := by omega
  simp only [Instr.index, asIntOf, Sem.run_bind, Sem.run_pure, Result.andThen_ok, run_underlying Tryd.underlying75, if_pos h1, hz, Int.toNat_natCast, Nat.mul_one, p]
theorem make_cap (c : Nat) (hc : c ≤ 2000000) (w : World) : ∃ w', (Instr.makeSlice 22 (.int .i64 0) (.int .i64 (c : Int))).run Tryd.prog w = .ok (.slice (some ⟨w.heap.size, 0, none⟩) 0 c) w' ∧ Ob w.heap.size w' (.slice (some ⟨w.heap.size, 0, none⟩) 0 c) [] ∧ Below w.heap.size w w' := by
  obtain ⟨i0, hti, hi0, hi1, hi2⟩ := byteInfo
  obtain ⟨w', h1, h2, h3⟩ := run_make_own (P := Tryd.prog) w w.heap.size 22 5 i0 (.int .u8 0) 1 Tryd.underlying22 hti hi0 hi1 .i64 .i64 c (by rw [hi2]; omega) (by unfold maxLen; omega) (Nat.le_refl _)
  exact ⟨w', h1, h2, (Below.refl _ _).grown h3 (Nat.le_refl _) (fun k hk => by cases hk)⟩
set_option maxRecDepth 100000 in
set_option maxHeartbeats 4000000 in
theorem sealKind13 (w : World) (k : Int) (v : Value) (l : List Nat) (hk : k < 1 ∨ 255 < k) (h : Bs w v l) (hT : FT w) :
    Calls Tryd.prog 18 #[.int .i64 k, v] w fun e w' => ∃ v', e = .returned (.tuple #[v', .int .i64 133]) ∧ Bs w' v' [] ∧ Below w.heap.size w w' := by
  clear h hT
  by_cases q : k < 1
  · clear hk
    go_enter Tryd.func18, Tryd.ntmps18
    go_wp2
    go_ret2
    exact ⟨_, rfl, (ob_nil 0 _).bs.1, Below.refl _ _⟩
  · have q2 : 255 < k := by omega
    clear hk
    go_enter Tryd.func18, Tryd.ntmps18
    go_wp2
    go_ret2
    exact ⟨_, rfl, (ob_nil 0 _).bs.1, Below.refl _ _⟩
set_option maxRecDepth 100000 in
set_option maxHeartbeats 4000000 in
theorem sealSize13 (w : World) (k : Nat) (v : Value) (l : List Nat) (h1 : 1 ≤ k) (h2 : k ≤ 255) (h : Bs w v l) (hl : 65536 < l.length) (hT : FT w) :
    Calls Tryd.prog 18 #[.int .i64 (k : Int), v] w fun e w' => ∃ v', e = .returned (.tuple #[v', .int .i64 134]) ∧ Bs w' v' [] ∧ Below w.heap.size w w' := by
  obtain ⟨ad, cap, rfl, k1, k2⟩ := h.len
  unfold maxLen at k2
  clear h hT
  have q1 : ¬ (k : Int) < 1 := by omega
  have q2 : ¬ 255 < (k : Int) := by omega
  have q3 : (65536 : Int) < (l.length : Int) := by omega
  generalize l.length = n at *
  go_enter Tryd.func18, Tryd.ntmps18
  go_wp2
  go_ret2
  exact ⟨_, rfl, (ob_nil 0 _).bs.1, Below.refl _ _⟩
set_option maxRecDepth 100000 in
set_option maxHeartbeats 4000000 in
theorem sealOk13 (w : World) (k : Nat) (v : Value) (l : List Nat) (h1 : 1 ≤ k) (h2 : k ≤ 255) (h : Bs w v l) (hb : ∀ c ∈ l, c < 256) (hl : l.length ≤ 65536) (hT : FT w) :
    Calls Tryd.prog 18 #[.int .i64 (k : Int), v] w fun e w' => ∃ v', e = .returned (.tuple #[v', .int .i64 0]) ∧ Ob w.heap.size w' v' (fsl k l) ∧ Below w.heap.size w w' := by
  have HL : Hid (Bs w v l) := h
  have HB : Hid (∀ c ∈ l, c < 256) := hb
  have HT : Hid (FT w) := hT
  obtain ⟨ad, cap, rfl, k1, k2⟩ := h.len
  unfold maxLen at k2
  obtain ⟨n, hn⟩ : ∃ n, l.length = n := ⟨_, rfl⟩
  have HN : Hid (l.length = n) := hn
  rw [hn] at k1 hl HL ⊢
  have q1 : ¬ (k : Int) < 1 := by omega
  have q2 : ¬ 255 < (k : Int) := by omega
  have q3 : ¬ (65536 : Int) < (n : Int) := by omega
  obtain ⟨c, hc⟩ : ∃ c, 8 + n + 4 = c := ⟨_, rfl⟩
  have hc1 : IntKind.i64.wrap (8 + (n : Int)) = 8 + (n : Int) := by rw [IntKind.wrap_i64]; omega
  have hc2 : IntKind.i64.wrap (8 + (n : Int) + 4) = (c : Int) := by rw [IntKind.wrap_i64]; omega
  obtain ⟨w1, hmk, hO1, hB1⟩ := make_cap c (by omega) w
  have HO1 : Hid (Ob w.heap.size w1 (.slice (some ⟨w.heap.size, 0, none⟩) 0 c) [] ∧ Below w.heap.size w w1) := ⟨hO1, hB1⟩
  have g0 : w1.cell? ⟨0, 0, none⟩ = some (.int .u8 82) := (hT.later hB1).ah 0 (by omega)
  have g1 : w1.cell? ⟨0, 1, none⟩ = some (.int .u8 71) := (hT.later hB1).ah 1 (by omega)
  have g2 : w1.cell? ⟨0, 2, none⟩ = some (.int .u8 1) := (hT.later hB1).ah 2 (by omega)
  have hwk : IntKind.u8.wrap (k : Int) = (k : Int) := by rw [IntKind.wrap_u8]; omega
  have hwn : IntKind.u32.wrap (n : Int) = (n : Int) := by rw [IntKind.wrap_u32]; omega
  clear h hn hb hT hc hO1 hB1
  go_enter Tryd.func18, Tryd.ntmps18
  go_upto_region 7 with fail
  go_loopw [6, 26] (fun s6 s26 wr => ∃ j : Nat, j ≤ 3 ∧ s26 = .int .i64 (j : Int) ∧ Hid (Ob w.heap.size wr s6 (ahd.take j) ∧ Below w.heap.size w wr)) (fun _ s26 _ => 3 - (intOf s26).toNat)
  case atStart => exact ⟨0, by omega, rfl, HO1.out.1, HO1.out.2⟩
  case round =>
    obtain ⟨j, hj, rfl, HW⟩ := hrel
    clear HO1 g0 g1 g2 hmk
    by_cases hlt : j < 3
    · have hcs : j = 0 ∨ j = 1 ∨ j = 2 := by omega
      rcases hcs with rfl | rfl | rfl
      · have HA : Hid (ahd.take 0 ++ [82] = ahd.take (0 + 1) ∧ (ahd.take 0).length ≤ 3) := ⟨rfl, by decide⟩
        have xi : (Instr.index 75 (.agg #[.int .u8 82, .int .u8 71, .int .u8 1]) (.int .i64 0)).run Tryd.prog wr = .ok (.int .u8 82) wr := idxA _ _ 0 (by omega) rfl wr
        go_upto_region 10 with (at_builtin; refine apB rfl _ _ rfl w.heap.size u6 (ahd.take 0) rfl (HW.out.1.later (bel1 _ _)) _ [82] rfl (bs_one wr 82 _) (by have := HA.out.2; rw [List.length_singleton]; omega) (by rw [World.size_alloc]; have := HW.out.2.size; omega) ?_; intro v2 w2 hO2 hg2)
        have HW2 : Hid (Ob w.heap.size w2 v2 (ahd.take (0 + 1)) ∧ Below w.heap.size w w2) := ⟨by rw [← HA.out.1]; exact hO2, hg2.1 _ (HW.out.2.alloc HW.out.2.size _)⟩
        clear hO2 hg2 HW xi
        go_wp2
        go_roundw
        case rel => exact ⟨1, by omega, by first | rfl | go_num, HW2⟩
        case measure => first | (simp [intOf]; done) | (simp [intOf]; omega)
      · have HA : Hid (ahd.take 1 ++ [71] = ahd.take (1 + 1) ∧ (ahd.take 1).length ≤ 3) := ⟨rfl, by decide⟩
        have xi : (Instr.index 75 (.agg #[.int .u8 82, .int .u8 71, .int .u8 1]) (.int .i64 1)).run Tryd.prog wr = .ok (.int .u8 71) wr := idxA _ _ 1 (by omega) rfl wr
        go_upto_region 10 with (at_builtin; refine apB rfl _ _ rfl w.heap.size u6 (ahd.take 1) rfl (HW.out.1.later (bel1 _ _)) _ [71] rfl (bs_one wr 71 _) (by have := HA.out.2; rw [List.length_singleton]; omega) (by rw [World.size_alloc]; have := HW.out.2.size; omega) ?_; intro v2 w2 hO2 hg2)
        have HW2 : Hid (Ob w.heap.size w2 v2 (ahd.take (1 + 1)) ∧ Below w.heap.size w w2) := ⟨by rw [← HA.out.1]; exact hO2, hg2.1 _ (HW.out.2.alloc HW.out.2.size _)⟩
        clear hO2 hg2 HW xi
        go_wp2
        go_roundw
        case rel => exact ⟨2, by omega, by first | rfl | go_num, HW2⟩
        case measure => first | (simp [intOf]; done) | (simp [intOf]; omega)
      · have HA : Hid (ahd.take 2 ++ [1] = ahd.take (2 + 1) ∧ (ahd.take 2).length ≤ 3) := ⟨rfl, by decide⟩
        have xi : (Instr.index 75 (.agg #[.int .u8 82, .int .u8 71, .int .u8 1]) (.int .i64 2)).run Tryd.prog wr = .ok (.int .u8 1) wr := idxA _ _ 2 (by omega) rfl wr
        go_upto_region 10 with (at_builtin; refine apB rfl _ _ rfl w.heap.size u6 (ahd.take 2) rfl (HW.out.1.later (bel1 _ _)) _ [1] rfl (bs_one wr 1 _) (by have := HA.out.2; rw [List.length_singleton]; omega) (by rw [World.size_alloc]; have := HW.out.2.size; omega) ?_; intro v2 w2 hO2 hg2)
        have HW2 : Hid (Ob w.heap.size w2 v2 (ahd.take (2 + 1)) ∧ Below w.heap.size w w2) := ⟨by rw [← HA.out.1]; exact hO2, hg2.1 _ (HW.out.2.alloc HW.out.2.size _)⟩
        clear hO2 hg2 HW xi
        go_wp2
        go_roundw
        case rel => exact ⟨3, by omega, by first | rfl | go_num, HW2⟩
        case measure => first | (simp [intOf]; done) | (simp [intOf]; omega)
    · obtain rfl : j = 3 := by omega
      obtain ⟨ad3, cap3, e3⟩ := HW.out.1.sl
      subst e3
      have HW3 : Hid (Ob w.heap.size wr (.slice ad3 3 cap3) [82, 71, 1] ∧ Below w.heap.size w wr) := HW.out
      have HX : Hid ([82, 71, 1] ++ [k] = [82, 71, 1, k]) := rfl
      have hl3 : (ahd.take 3).length = 3 := rfl
      rw [hl3]
      clear HW hl3
      go_upto_region 12 with (at_builtin; refine apB rfl _ _ rfl w.heap.size _ [82, 71, 1] rfl (HW3.out.1.later (bel1 _ _)) _ [k] rfl (bs_one wr k _) (by simp) (by rw [World.size_alloc]; have := HW3.out.2.size; omega) ?_; intro v4 w4 hO4 hg4; rw [HX.out] at hO4; obtain ⟨ad4, cap4, rfl⟩ := hO4.sl)
      have HO4 : Hid (Ob w.heap.size w4 (.slice ad4 4 cap4) [82, 71, 1, k] ∧ Below w.heap.size w w4) := ⟨hO4, hg4.1 _ (HW3.out.2.alloc HW3.out.2.size _)⟩
      clear hO4 hg4 HW3
      go_wp2_with fail
      refine (withNumber_any w4 w.heap.size _ _ n HO4.out.1 HO4.out.2.size (by simp) (by omega)).mono ?_
      rintro e w5 ⟨v5, rfl, hO5, hg5⟩
      obtain ⟨X, hX⟩ : ∃ X, [82, 71, 1, k] ++ four n = X := ⟨_, rfl⟩
      have HXl : Hid (X.length = 8) := by
        show _ = _
        rw [← hX]
        rfl
      have HE : Hid (X ++ l = hd k l) := by
        show _ = _
        rw [← hX]
        unfold hd
        rw [HN.out]
        simp
      rw [hX] at hO5
      obtain ⟨ad5, cap5, rfl⟩ := hO5.sl
      have HO5 : Hid (Ob w.heap.size w5 (.slice ad5 X.length cap5) X ∧ Below w.heap.size w w5) := ⟨hO5, hg5.1 _ HO4.out.2⟩
      clear hO5 hg5 HO4 hX HX
      go_upto_region 14 with (at_builtin; refine apB rfl _ _ rfl w.heap.size _ X rfl HO5.out.1 _ l rfl (HL.out.later HO5.out.2) (by have := HN.out; have := HXl.out; omega) HO5.out.2.size ?_; intro v6 w6 hO6 hg6; rw [HE.out] at hO6; obtain ⟨ad6, cap6, rfl⟩ := hO6.sl)
      have HO6 : Hid (Ob w.heap.size w6 (.slice ad6 (hd k l).length cap6) (hd k l) ∧ Below w.heap.size w w6) := ⟨hO6, hg6.1 _ HO5.out.2⟩
      have HLH : Hid ((hd k l).length ≤ 80000 ∧ (∀ c ∈ hd k l, c < 256)) := ⟨by rw [hd_len, HN.out]; omega, hd_byte (by omega) HB.out (by have := HN.out; omega)⟩
      clear hO6 hg6 HO5 HXl HE
      have HFS : Hid (fsl k l = hd k l ++ four (sm (hd k l))) := rfl
      generalize hd k l = H at *
      obtain ⟨hlen, hhl⟩ : ∃ hlen, H.length = hlen := ⟨_, rfl⟩
      have HHL : Hid (H.length = hlen) := hhl
      rw [hhl] at HO6 ⊢
      clear hhl
      go_wp2_with fail
      refine (ofOne w6 ad6 hlen cap6 H _ HO6.out.1.bs.1 HHL.out HLH.out.2 (by have := HLH.out.1; omega) (HT.out.later HO6.out.2).tb).mono ?_
      rintro e w7 ⟨rfl, hB7⟩
      have HO7 : Hid (Ob w.heap.size w7 (.slice ad6 hlen cap6) H ∧ Below w.heap.size w w7) := ⟨HO6.out.1.later hB7, bchain HO6.out.2 hB7⟩
      clear hB7 HO6
      go_wp2_with fail
      refine (withNumber_any w7 w.heap.size _ H (sm H) HO7.out.1 HO7.out.2.size (by have := HLH.out.1; omega) (sm_lt _)).mono ?_
      rintro e w8 ⟨v8, rfl, hO8, hg8⟩
      have HO8 : Hid (Ob w.heap.size w8 v8 (H ++ four (sm H)) ∧ Below w.heap.size w w8) := ⟨hO8, hg8.1 _ HO7.out.2⟩
      clear hO8 hg8 HO7
      go_wp2
      go_ret2
      exact ⟨_, rfl, by rw [HFS.out]; exact HO8.out.1, HO8.out.2⟩
end Go.Proofs.YtfcbgkcclganmaaDoor
set_option linter.unusedVariables false
set_option linter.unusedSimpArgs false
namespace Go.Proofs.YtfcbgkcclganmaaDoor
open Go.RowKit

theorem bs_take {w : World} {ad : Option Addr} {n cap : Nat} {l : List Nat} (h : Bs w (.slice ad n cap) l) (q : Nat) (hq : q ≤ l.length) : Bs w (.slice ad q cap) (l.take q) := by
  obtain ⟨adr, c, b, o, e, h3, h4, h5, h6⟩ := h
  injection e with e1 e2 e3
  subst e1 e3
  have hl : (l.take q).length = q := by rw [List.length_take]; omega
  refine ⟨_, cap, b, o, by rw [hl], by rw [hl]; omega, h4, fun hp => h5 (by rw [hl] at hp; omega), fun k hk => ?_⟩
  rw [hl] at hk
  rw [h6 k (by omega)]
  unfold b8f
  congr 3
  simp [List.getD, List.getElem?_take, hk]
theorem four_n4 {l : List Nat} (hb : ∀ c ∈ l, c < 256) (p : Nat) (hp : p + 4 ≤ l.length) : (l.drop p).take 4 = four (n4 l p) := by
  have h0 := getD_byte hb p
  have h1 := getD_byte hb (p + 1)
  have h2 := getD_byte hb (p + 2)
  have h3 := getD_byte hb (p + 3)
  have e : (l.drop p).take 4 = [l.getD p 0, l.getD (p + 1) 0, l.getD (p + 2) 0, l.getD (p + 3) 0] := by
    rw [drop_cons (by omega : p < l.length), drop_cons (by omega : p + 1 < l.length), drop_cons (by omega : p + 1 + 1 < l.length), drop_cons (by omega : p + 1 + 1 + 1 < l.length)]
    rfl
  rw [e]
  unfold four n4
  congr 1
  · omega
  congr 1
  · omega
  congr 1
  · omega
  congr 1
  omega
theorem n4_lt {l : List Nat} (hb : ∀ c ∈ l, c < 256) (p : Nat) : n4 l p < 4294967296 := by
  have h0 := getD_byte hb p
  have h1 := getD_byte hb (p + 1)
  have h2 := getD_byte hb (p + 2)
  have h3 := getD_byte hb (p + 3)
  unfold n4
  omega
theorem number4 (w : World) (v : Value) (l : List Nat) (h : Bs w v l) (hb : ∀ c ∈ l, c < 256) (hl : l.length ≤ 1000000) (hp : 8 ≤ l.length) :
    Calls Tryd.prog 47 #[v, .int .i64 4] w fun e w' => e = .returned (.int .u32 ((nn l : Nat) : Int)) ∧ w' = w := numberAt_any w v l 4 h hb hl (by omega)
set_option maxRecDepth 100000 in
set_option maxHeartbeats 8000000 in
theorem open13 (w : World) (v : Value) (l : List Nat) (h : Bs w v l) (hb : ∀ c ∈ l, c < 256) (hl : l.length ≤ 90000) (hT : FT w) :
    Calls Tryd.prog 30 #[v] w fun e w' => ∃ vp, e = .returned (.tuple #[.agg #[.int .i64 ((opK l : Nat) : Int), vp], .int .i64 ((opN l : Nat) : Int), .int .i64 ((opE l : Nat) : Int)]) ∧ Bs w' vp (opP l) ∧ Ow w.heap.size vp ∧ Below w.heap.size w w' := by
  have HL : Hid (Bs w v l) := h
  have HY : Hid (∀ c ∈ l, c < 256) := hb
  obtain ⟨ad, cap, rfl, k1, k2⟩ := h.len
  unfold maxLen at k2
  obtain ⟨n, hn⟩ : ∃ n, l.length = n := ⟨_, rfl⟩
  have HN : Hid (l.length = n) := hn
  rw [hn] at k1 hl HL ⊢
  have HX : Hid (Bx2 w.heap.size (.int .i64 0) (.slice none 0 0) (w.alloc (.cells #[.int .i64 0, .slice none 0 0] 62))) := Bx2.new _ _ _ _
  have HB0 : Hid (Below w.heap.size w (w.alloc (.cells #[.int .i64 0, .slice none 0 0] 62)) ∧ Bs (w.alloc (.cells #[.int .i64 0, .slice none 0 0] 62)) (.slice ad n cap) l ∧ FT (w.alloc (.cells #[.int .i64 0, .slice none 0 0] 62))) := ⟨bel1 _ _, HL.out.later (bel1 _ _), hT.later (bel1 _ _)⟩
  clear h hn hb hT
  go_enter Tryd.func30, Tryd.ntmps30
  go_upto_region 1 with fail
  generalize w.alloc (.cells #[.int .i64 0, .slice none 0 0] 62) = W0 at *
  have z0 := HX.out.c0
  have z1 := HX.out.c1
  have f0 := HX.out.f0
  have f1 := HX.out.f1
  have HB : Hid (Below w.heap.size w W0) := HB0.out.1
  go_wp2_with fail
  refine (beginning_any W0 _ l HB0.out.2.1 HY.out (by have := HN.out; omega) HB0.out.2.2.ah).mono ?_
  rintro e w1 ⟨E, rfl, hBg, rfl⟩
  by_cases hE : E ≠ 0
  · have hEI : ¬ (E : Int) = 0 := by omega
    have HE : Hid (opE l = E) := hBg.no hE
    clear hBg
    have HO : Hid (opK l = 0 ∧ opP l = [] ∧ opN l = 0) := op_no HE.out hE
    go_wp2
    exact bodyPost_ret (v := .tuple #[.agg #[.int .i64 0, .slice none 0 0], .int .i64 0, .int .i64 (E : Int)]) (by simp [results, Tryd.results30, go_sem, z0, z1, f0, f1]) rfl ⟨.slice none 0 0, by rw [HE.out, HO.out.1, HO.out.2.2]; rfl, by rw [HO.out.2.1]; exact (ob_nil 0 _).bs.1, fun a n c e => (by cases e), (HB.out.setCell (by dsimp only; omega) _).setCell (by dsimp only; omega) _⟩
  obtain rfl : E = 0 := by omega
  clear hE
  have HBg : Hid (Bg l 0) := hBg
  clear hBg
  by_cases h8 : n < 8
  · have h8I : (n : Int) < 8 := by omega
    have HE : Hid (opE l = 130) := by
      have hN := HN.out
      by_cases h3 : l.length ≤ 3
      · exact HBg.out.lo rfl h3
      · exact opE_l8 (HBg.out.hd rfl (by omega)) (by omega)
    have HO : Hid (opK l = 0 ∧ opP l = [] ∧ opN l = 0) := op_no HE.out (by omega)
    go_wp2
    exact bodyPost_ret (v := .tuple #[.agg #[.int .i64 0, .slice none 0 0], .int .i64 0, .int .i64 130]) (by simp [results, Tryd.results30, go_sem, z0, z1, f0, f1]) rfl ⟨.slice none 0 0, by rw [HE.out, HO.out.1, HO.out.2.2]; rfl, by rw [HO.out.2.1]; exact (ob_nil 0 _).bs.1, fun a n c e => (by cases e), (HB.out.setCell (by dsimp only; omega) _).setCell (by dsimp only; omega) _⟩
  have h8I : ¬ (n : Int) < 8 := by omega
  have HQ : Hid (Hd4 l) := HBg.out.hd rfl (by have := HN.out; omega)
  clear HBg
  go_upto_region 6 with fail
  go_wp2_with fail
  refine (number4 _ _ l HB0.out.2.1 HY.out (by have := HN.out; omega) (by have := HN.out; omega)).mono ?_
  rintro e w1 ⟨rfl, rfl⟩
  obtain ⟨m, hm⟩ : ∃ m, nn l = m := ⟨_, rfl⟩
  have HMm : Hid (nn l = m) := hm
  rw [hm]
  clear hm
  by_cases hm1 : 65536 < m
  · have hm1I : (65536 : Int) < (m : Int) := by omega
    have HE : Hid (opE l = 134) := opE_n HQ.out (by have := HN.out; omega) (by rw [HMm.out]; exact hm1)
    have HO : Hid (opK l = 0 ∧ opP l = [] ∧ opN l = 0) := op_no HE.out (by omega)
    go_wp2
    exact bodyPost_ret (v := .tuple #[.agg #[.int .i64 0, .slice none 0 0], .int .i64 0, .int .i64 134]) (by simp [results, Tryd.results30, go_sem, z0, z1, f0, f1]) rfl ⟨.slice none 0 0, by rw [HE.out, HO.out.1, HO.out.2.2]; rfl, by rw [HO.out.2.1]; exact (ob_nil 0 _).bs.1, fun a n c e => (by cases e), (HB.out.setCell (by dsimp only; omega) _).setCell (by dsimp only; omega) _⟩
  have hm1I : ¬ (65536 : Int) < (m : Int) := by omega
  obtain ⟨M8, hM8⟩ : ∃ M8, m + 8 = M8 := ⟨_, rfl⟩
  obtain ⟨M12, hM12⟩ : ∃ M12, m + 12 = M12 := ⟨_, rfl⟩
  have HM8 : Hid (M8 = m + 8 ∧ M12 = m + 12) := ⟨by omega, by omega⟩
  have w1m : IntKind.i64.wrap (m : Int) = (m : Int) := by rw [IntKind.wrap_i64]; omega
  have w2m : IntKind.i64.wrap (8 + (m : Int)) = (M8 : Int) := by rw [IntKind.wrap_i64]; omega
  have p12 : IntKind.i64.wrap ((M8 : Int) + 4) = (M12 : Int) := by rw [IntKind.wrap_i64]; omega
  by_cases hm2 : n < M12
  · have hm2I : (n : Int) < (M12 : Int) := by omega
    have HE : Hid (opE l = 130) := opE_ln HQ.out (by have := HN.out; omega) (by rw [HMm.out]; omega) (by rw [HMm.out]; have := HN.out; omega)
    clear hM8 hM12
    have HO : Hid (opK l = 0 ∧ opP l = [] ∧ opN l = 0) := op_no HE.out (by omega)
    go_wp2
    exact bodyPost_ret (v := .tuple #[.agg #[.int .i64 0, .slice none 0 0], .int .i64 0, .int .i64 130]) (by simp [results, Tryd.results30, go_sem, z0, z1, f0, f1]) rfl ⟨.slice none 0 0, by rw [HE.out, HO.out.1, HO.out.2.2]; rfl, by rw [HO.out.2.1]; exact (ob_nil 0 _).bs.1, fun a n c e => (by cases e), (HB.out.setCell (by dsimp only; omega) _).setCell (by dsimp only; omega) _⟩
  have hm2I : ¬ (n : Int) < (M12 : Int) := by omega
  have hMc : (M8 : Int) ≤ (cap : Int) := by omega
  have hM0 : (0 : Int) ≤ (M8 : Int) := by omega
  obtain ⟨a, ha⟩ : ∃ a, n4 l M8 = a := ⟨_, rfl⟩
  obtain ⟨b, hb⟩ : ∃ b, sm (l.take M8) = b := ⟨_, rfl⟩
  have HAB : Hid (n4 l M8 = a ∧ sm (l.take M8) = b) := ⟨ha, hb⟩
  have HT4 : Hid ((l.drop M8).take 4 = four a) := by
    show _ = _
    rw [← ha]
    exact four_n4 HY.out M8 (by have := HN.out; omega)
  have HTl : Hid ((l.take M8).length = M8 ∧ (l.take M8).length ≤ 100000 ∧ ∀ c ∈ l.take M8, c < 256) := ⟨by rw [List.length_take]; have := HN.out; omega, by rw [List.length_take]; have := HN.out; omega, fun c hc => HY.out c (List.mem_of_mem_take hc)⟩
  have HgL : Hid (∀ (g o : Nat), ad = some ⟨g, o, none⟩ → g < w.heap.size) := fun g o e => by
    have := HL.out.lo ⟨g, o, none⟩ n cap (by rw [e]) (by omega)
    exact this
  clear hM8 hM12 ha hb
  go_upto_region 12 with fail
  have hbD : Below w1.heap.size w1 w1.drew := (Below.refl _ _).drew
  have HXb : Hid (Bx2 w.heap.size (.int .i64 0) (.slice none 0 0) w1.drew) := HX.out.later hbD
  have HBb : Hid (Below w.heap.size w w1.drew ∧ Bs w1.drew (.slice ad n cap) l ∧ FT w1.drew) := ⟨bchain HB0.out.1 hbD, HB0.out.2.1.later hbD, HB0.out.2.2.later hbD⟩
  refine wp_region_held_drew (S := fun _ => True) (by kernel_rfl) trivial (fun HS => ?_)
  clear hbD HX HB0 z0 z1 f0 f1 HB
  generalize w1.drew = q0 at *
  have HRT : Hid (Below w.heap.size w (q0.alloc (.cells #[.slice ad M8 cap] 22)) ∧ Bs (q0.alloc (.cells #[.slice ad M8 cap] 22)) (.slice ad n cap) l) := ⟨bchain HBb.out.1 (bel1 _ _), HBb.out.2.1.later (bel1 _ _)⟩
  refine wpAnyH_take (i := 0) (v := ?v1) rfl (by kernel_rfl) (by kernel_rfl) (by kernel_rfl) (fun _ _ _ h => h) (Or.inl ⟨by kernel_rfl, ?h1⟩) HS ?r1
  case h1 => (rintro w n0; go_simp) <;> with_reducible rfl
  try simp only [Act.put, List.getElem_toArray, List.getElem_cons_succ, List.getElem_cons_zero, List.setIfInBounds_toArray, List.set_cons_zero, List.set_cons_succ]
  refine wpAnyH_take (i := 1) (v := ?v2) rfl (by kernel_rfl) (by kernel_rfl) (by kernel_rfl) (fun _ _ _ h => h) (Or.inl ⟨by kernel_rfl, ?h2⟩) HS ?r2
  case h2 => (rintro w n0; go_simp) <;> with_reducible rfl
  try simp only [Act.put, List.getElem_toArray, List.getElem_cons_succ, List.getElem_cons_zero, List.setIfInBounds_toArray, List.set_cons_zero, List.set_cons_succ]
  refine wpAnyH_take (i := 3) (v := ?v3) rfl (by kernel_rfl) (by kernel_rfl) (by kernel_rfl) (fun _ _ _ h => h) (Or.inl ⟨by kernel_rfl, ?h3⟩) HS ?r3
  case h3 => (rintro w n0; go_simp) <;> with_reducible rfl
  try simp only [Act.put, List.getElem_toArray, List.getElem_cons_succ, List.getElem_cons_zero, List.setIfInBounds_toArray, List.set_cons_zero, List.set_cons_succ]
  refine wpAnyH_take (i := 4) (v := ?v4) rfl (by kernel_rfl) (by kernel_rfl) (by kernel_rfl) (fun _ _ _ h => h) (Or.inl ⟨by kernel_rfl, ?h4⟩) HS ?r4
  case h4 => (rintro w n0; go_simp) <;> with_reducible rfl
  try simp only [Act.put, List.getElem_toArray, List.getElem_cons_succ, List.getElem_cons_zero, List.setIfInBounds_toArray, List.set_cons_zero, List.set_cons_succ]
  refine wpAnyH_take (i := 5) (v := ?v5) rfl (by kernel_rfl) (by kernel_rfl) (by kernel_rfl) (fun _ _ _ h => h) (Or.inl ⟨by kernel_rfl, ?h5⟩) HS ?r5
  case h5 => (rintro w n0; go_simp) <;> with_reducible rfl
  try simp only [Act.put, List.getElem_toArray, List.getElem_cons_succ, List.getElem_cons_zero, List.setIfInBounds_toArray, List.set_cons_zero, List.set_cons_succ]
  by_cases hab : a = b
  · have hneB : ((a : Int) != (b : Int)) = false := by subst hab; simp
    have hneI : (a : Int) = (b : Int) := by omega
    have HE : Hid (opE l = 0) := opE_ok HQ.out (by rw [HMm.out]; omega) (by rw [HMm.out]; have := HN.out; have := HM8.out; omega) (by rw [HMm.out, ← HM8.out.1, HT4.out, HAB.out.2, hab])
    subst hab
    clear hneI
    refine wpAnyH_ready (rs := [2, 6]) (by kernel_rfl) (by simp) ?_
    refine AllReadyH.cons rfl (fun K hK => ?ba) (AllReadyH.cons rfl (fun K hK => ?bb) AllReadyH.nil)
    case' ba =>
      go_simp
      refine (numberAt_any q0 _ l M8 HBb.out.2.1 HY.out (by have := HN.out; omega) (by have := HN.out; have := HM8.out; omega)).mono ?_
      rintro e q1 ⟨rfl, rfl⟩
      rw [HAB.out.1]
      refine hK.out _ _ trivial (fun HS => ?_)
      clear hK K
      try simp only [Act.put, List.getElem_toArray, List.getElem_cons_succ, List.getElem_cons_zero, List.setIfInBounds_toArray, List.set_cons_zero, List.set_cons_succ]
      refine wpAnyH_ready (rs := [6]) (by kernel_rfl) (by simp) ?_
      refine AllReadyH.cons rfl (fun K hK => ?_) AllReadyH.nil
      go_simp
      refine hK.out _ _ trivial (fun HS => ?_)
      clear hK K
      try simp only [Act.put, List.getElem_toArray, List.getElem_cons_succ, List.getElem_cons_zero, List.setIfInBounds_toArray, List.set_cons_zero, List.set_cons_succ]
    case' bb =>
      go_simp
      refine hK.out _ _ trivial (fun HS => ?_)
      clear hK K
      try simp only [Act.put, List.getElem_toArray, List.getElem_cons_succ, List.getElem_cons_zero, List.setIfInBounds_toArray, List.set_cons_zero, List.set_cons_succ]
      refine wpAnyH_ready (rs := [2]) (by kernel_rfl) (by simp) ?_
      refine AllReadyH.cons rfl (fun K hK => ?_) AllReadyH.nil
      go_simp
      refine (numberAt_any _ _ l M8 HRT.out.2 HY.out (by have := HN.out; omega) (by have := HN.out; have := HM8.out; omega)).mono ?_
      rintro e q1 ⟨rfl, rfl⟩
      rw [HAB.out.1]
      refine hK.out _ _ trivial (fun HS => ?_)
      clear hK K
      try simp only [Act.put, List.getElem_toArray, List.getElem_cons_succ, List.getElem_cons_zero, List.setIfInBounds_toArray, List.set_cons_zero, List.set_cons_succ]
    all_goals
      refine wpAnyH_ready (rs := [7]) (by kernel_rfl) (by simp) ?_
      refine AllReadyH.cons rfl (fun K hK => ?_) AllReadyH.nil
      go_simp
      refine (ofOne _ ad M8 cap (l.take M8) _ (bs_take HBb.out.2.1 M8 (by have := HN.out; have := HM8.out; omega)) HTl.out.1 HTl.out.2.2 HTl.out.2.1 HBb.out.2.2.tb).mono ?_
      rintro e q3 ⟨rfl, hB3⟩
      rw [HAB.out.2]
      have HXe : Hid (Bx2 w.heap.size (.int .i64 0) (.slice none 0 0) q3) := HXb.out.later hB3
      have HBe : Hid (Below w.heap.size w q3 ∧ Bs q3 (.slice ad n cap) l) := ⟨bchain HBb.out.1 hB3, HBb.out.2.1.later hB3⟩
      refine hK.out _ _ trivial (fun HS => ?_)
      clear hK K hB3 HXb HBb HRT
      try simp only [Act.put, List.getElem_toArray, List.getElem_cons_succ, List.getElem_cons_zero, List.setIfInBounds_toArray, List.set_cons_zero, List.set_cons_succ]
      refine wpAnyH_take (i := 8) (v := ?_) rfl (by kernel_rfl) (by kernel_rfl) (by kernel_rfl) (fun _ _ _ h => h) (Or.inl ⟨by kernel_rfl, ?_⟩) HS ?_
      rotate_left
      · (rintro w n0; go_simp) <;> with_reducible rfl
      try simp only [Act.put, List.getElem_toArray, List.getElem_cons_succ, List.getElem_cons_zero, List.setIfInBounds_toArray, List.set_cons_zero, List.set_cons_succ]
      refine wpAnyH_take (i := 9) (v := ?_) rfl (by kernel_rfl) (by kernel_rfl) (by kernel_rfl) (fun _ _ _ h => h) (Or.inl ⟨by kernel_rfl, ?_⟩) HS ?_
      rotate_left
      · (rintro w n0; go_simp) <;> with_reducible rfl
      try simp only [Act.put, List.getElem_toArray, List.getElem_cons_succ, List.getElem_cons_zero, List.setIfInBounds_toArray, List.set_cons_zero, List.set_cons_succ]
      refine wpAnyH_done (by kernel_rfl) ?_ _
      clear HS
      have z0 := HXe.out.c0
      have z1 := HXe.out.c1
      have f0 := HXe.out.f0
      have f1 := HXe.out.f1
      have HB : Hid (Below w.heap.size w q3) := HBe.out.1
      obtain ⟨x3, hx3⟩ : ∃ x, l.getD 3 0 = x := ⟨_, rfl⟩
      have HO : Hid (opK l = x3 ∧ opP l = (l.drop 8).take m ∧ opN l = M12) := ⟨by rw [(op_yes HE.out).1, hx3], by rw [(op_yes HE.out).2.1, HMm.out], by rw [(op_yes HE.out).2.2, HMm.out, HM8.out.2]⟩
      obtain ⟨g, o, e3, c3⟩ := HBe.out.2.cel 3 (by have := HN.out; omega)
      subst e3
      have hgw := HgL.out g o rfl
      have b3 := getD_byte HY.out 3
      rw [hx3] at c3 b3
      clear hx3
      have n3 : (3 : Int) < (n : Int) := by omega
      have wx : IntKind.i64.wrap (x3 : Int) = (x3 : Int) := by rw [IntKind.wrap_i64]; omega
      obtain ⟨T, hT⟩ : ∃ T, (l.drop 8).take m = T := ⟨_, rfl⟩
      have HTT : Hid ((l.drop 8).take m = T) := hT
      have hsv := sv_bs HBe.out.2 8 M8 (by have := HM8.out; omega) (by have := HN.out; have := HM8.out; omega)
      rw [show M8 - 8 = m by have := HM8.out; omega, hT] at hsv
      have HTm : Hid (T.length ≤ 70000) := by
        show _ ≤ _
        rw [← hT, List.length_take]
        omega
      obtain ⟨a8, c8, e8, -, -⟩ := hsv.len
      have s6 : ∀ W : World, (Instr.slice 22 (.slice (some ⟨g, o, none⟩) n cap) (some (.int .i64 8)) (some (.int .i64 (M8 : Int))) none).run Tryd.prog W = .ok (.slice a8 T.length c8) W := fun W => by rw [← e8]; exact slice_run W _ n cap 8 M8 (by have := HM8.out; omega) (by have := HM8.out; omega)
      rw [e8] at hsv
      have HSV : Hid (Bs q3 (.slice a8 T.length c8) T) := hsv
      clear hT hsv e8
      go_upto_region 14 with fail
      have hbD : Below q3.heap.size q3 q3.drew := (Below.refl _ _).drew
      have HX5 : Hid (Bx2 w.heap.size (.int .i64 0) (.slice none 0 0) q3.drew) := HXe.out.later hbD
      have HB5 : Hid (Below w.heap.size w q3.drew ∧ Bs q3.drew (.slice a8 T.length c8) T) := ⟨bchain HBe.out.1 hbD, HSV.out.later hbD⟩
      have c3d := cell_later hbD c3
      refine wp_region_held_drew (S := fun W => W.cell? ⟨g, o + 3, none⟩ = some (.int .u8 (x3 : Int))) (by kernel_rfl) c3d (fun HS => ?_)
      clear hbD HXe HBe HSV z0 z1 f0 f1 HB c3 c3d
      generalize q3.drew = q4 at *
      refine wpAnyH_take (i := 0) (v := ?_) rfl (by kernel_rfl) (by kernel_rfl) (by kernel_rfl) (fun _ _ _ h => h) (Or.inl ⟨by kernel_rfl, ?_⟩) HS ?_
      rotate_left
      · (rintro w n0; go_simp) <;> with_reducible rfl
      try simp only [Act.put, List.getElem_toArray, List.getElem_cons_succ, List.getElem_cons_zero, List.setIfInBounds_toArray, List.set_cons_zero, List.set_cons_succ]
      refine wpAnyH_take (i := 1) (v := ?_) rfl (by kernel_rfl) (by kernel_rfl) (by kernel_rfl) (fun _ _ _ h => h) (Or.inl ⟨by kernel_rfl, ?_⟩) HS ?_
      rotate_left
      · (rintro w n0; go_simp) <;> with_reducible rfl
      try simp only [Act.put, List.getElem_toArray, List.getElem_cons_succ, List.getElem_cons_zero, List.setIfInBounds_toArray, List.set_cons_zero, List.set_cons_succ]
      refine wpAnyH_take (i := 2) (v := ?_) rfl (by kernel_rfl) (by kernel_rfl) (by kernel_rfl) (fun _ _ _ h => h) (Or.inl ⟨by kernel_rfl, ?_⟩) HS ?_
      rotate_left
      · (rintro w n0; go_simp) <;> with_reducible rfl
      try simp only [Act.put, List.getElem_toArray, List.getElem_cons_succ, List.getElem_cons_zero, List.setIfInBounds_toArray, List.set_cons_zero, List.set_cons_succ]
      refine wpAnyH_take (i := 3) (v := ?_) rfl (by kernel_rfl) (by kernel_rfl) (by kernel_rfl) (fun _ _ _ h => h) (Or.inl ⟨by kernel_rfl, ?_⟩) HS ?_
      rotate_left
      · (rintro w n0; go_simp) <;> with_reducible rfl
      try simp only [Act.put, List.getElem_toArray, List.getElem_cons_succ, List.getElem_cons_zero, List.setIfInBounds_toArray, List.set_cons_zero, List.set_cons_succ]
      refine wpAnyH_take (i := 4) (v := ?_) rfl (by kernel_rfl) (by kernel_rfl) (by kernel_rfl) (fun _ _ _ h => h) (Or.inl ⟨by kernel_rfl, ?_⟩) HS ?_
      rotate_left
      · (rintro w n0; go_simp) <;> with_reducible rfl
      try simp only [Act.put, List.getElem_toArray, List.getElem_cons_succ, List.getElem_cons_zero, List.setIfInBounds_toArray, List.set_cons_zero, List.set_cons_succ]
      refine wpAnyH_take (i := 5) (v := ?_) rfl (by kernel_rfl) (by kernel_rfl) (by kernel_rfl) (fun _ _ _ h => h) (Or.inl ⟨by kernel_rfl, ?_⟩) HS ?_
      rotate_left
      · (rintro w n0; go_simp) <;> with_reducible rfl
      try simp only [Act.put, List.getElem_toArray, List.getElem_cons_succ, List.getElem_cons_zero, List.setIfInBounds_toArray, List.set_cons_zero, List.set_cons_succ]
      refine wpAnyH_take (i := 6) (v := ?_) rfl (by kernel_rfl) (by kernel_rfl) (by kernel_rfl) (fun _ _ _ h => h) (Or.inl ⟨by kernel_rfl, ?_⟩) HS ?_
      rotate_left
      · (rintro w n0; go_simp) <;> with_reducible rfl
      try simp only [Act.put, List.getElem_toArray, List.getElem_cons_succ, List.getElem_cons_zero, List.setIfInBounds_toArray, List.set_cons_zero, List.set_cons_succ]
      refine wpAnyH_take (i := 9) (v := ?_) rfl (by kernel_rfl) (by kernel_rfl) (by kernel_rfl) (fun _ _ _ h => h) (Or.inl ⟨by kernel_rfl, ?_⟩) HS ?_
      rotate_left
      · (rintro w n0; go_simp) <;> with_reducible rfl
      try simp only [Act.put, List.getElem_toArray, List.getElem_cons_succ, List.getElem_cons_zero, List.setIfInBounds_toArray, List.set_cons_zero, List.set_cons_succ]
      refine wpAnyH_take (i := 10) (v := ?_) rfl (by kernel_rfl) (by kernel_rfl) (by kernel_rfl) (fun _ _ _ h => h) (Or.inl ⟨by kernel_rfl, ?_⟩) HS ?_
      rotate_left
      · (rintro w n0; go_simp) <;> with_reducible rfl
      try simp only [Act.put, List.getElem_toArray, List.getElem_cons_succ, List.getElem_cons_zero, List.setIfInBounds_toArray, List.set_cons_zero, List.set_cons_succ]
      refine wpAnyH_ready (rs := [7]) (by kernel_rfl) (by simp) ?_
      refine AllReadyH.cons rfl (fun K hK => ?_) AllReadyH.nil
      go_simp
      refine (clone_any _ _ T HB5.out.2 (by have := HTm.out; omega)).mono ?_
      rintro e q6 ⟨v6, rfl, hO6, hB6⟩
      obtain ⟨ad6, cap6, rfl⟩ := hO6.sl
      have HX6 : Hid (Bx2 w.heap.size (.int .i64 0) (.slice none 0 0) q6) := HX5.out.later hB6
      have HB6 : Hid (Below w.heap.size w q6 ∧ Ow q4.heap.size (.slice ad6 T.length cap6) ∧ Bs q6 (.slice ad6 T.length cap6) T ∧ w.heap.size < q4.heap.size) := ⟨bchain HB5.out.1 hB6, hO6.bs.2, hO6.bs.1, World.block_lt_of_cell? _ _ HX5.out.c0⟩
      refine hK.out _ _ (cell_later hB6 HS) (fun HS => ?_)
      clear hK K hO6 hB6 HX5 HB5 s6
      try simp only [Act.put, List.getElem_toArray, List.getElem_cons_succ, List.getElem_cons_zero, List.setIfInBounds_toArray, List.set_cons_zero, List.set_cons_succ]
      refine wpAnyH_take (i := 8) (v := ?_) rfl (by kernel_rfl) (by kernel_rfl) (by kernel_rfl) (fun _ _ _ h => h) (Or.inl ⟨by kernel_rfl, ?_⟩) HS ?_
      rotate_left
      · (rintro w n0; go_simp) <;> with_reducible rfl
      try simp only [Act.put, List.getElem_toArray, List.getElem_cons_succ, List.getElem_cons_zero, List.setIfInBounds_toArray, List.set_cons_zero, List.set_cons_succ]
      have z0 := HX6.out.c0
      have z1 := HX6.out.c1
      have f0 := HX6.out.f0
      have f1 := HX6.out.f1
      refine wpAnyH_ready (rs := [11]) (by kernel_rfl) (by simp) ?_
      refine AllReadyH.cons rfl (fun K hK => ?_) AllReadyH.nil
      go_simp
      refine hK.out _ _ ((World.cell?_setCell_far _ _ _ _ (by dsimp only; omega)).trans ((World.cell?_setCell_far _ _ _ _ (by dsimp only; omega)).trans HS)) (fun HS => ?_)
      clear hK K
      try simp only [Act.put, List.getElem_toArray, List.getElem_cons_succ, List.getElem_cons_zero, List.setIfInBounds_toArray, List.set_cons_zero, List.set_cons_succ]
      refine wpAnyH_take (i := 12) (v := ?_) rfl (by kernel_rfl) (by kernel_rfl) (by kernel_rfl) (fun _ _ _ h => h) (Or.inl ⟨by kernel_rfl, ?_⟩) HS ?_
      rotate_left
      · (rintro w n0; go_simp) <;> with_reducible rfl
      try simp only [Act.put, List.getElem_toArray, List.getElem_cons_succ, List.getElem_cons_zero, List.setIfInBounds_toArray, List.set_cons_zero, List.set_cons_succ]
      refine wpAnyH_take (i := 13) (v := ?_) rfl (by kernel_rfl) (by kernel_rfl) (by kernel_rfl) (fun _ _ _ h => h) (Or.inl ⟨by kernel_rfl, ?_⟩) HS ?_
      rotate_left
      · (rintro w n0; go_simp) <;> with_reducible rfl
      try simp only [Act.put, List.getElem_toArray, List.getElem_cons_succ, List.getElem_cons_zero, List.setIfInBounds_toArray, List.set_cons_zero, List.set_cons_succ]
      refine wpAnyH_done (by kernel_rfl) ?_ _
      clear HS
      have HR6 : Hid (Bs ((q6.setCell ⟨w.heap.size, 0, none⟩ (.int .i64 (x3 : Int))).setCell ⟨w.heap.size, 1, none⟩ (.slice ad6 T.length cap6)) (.slice ad6 T.length cap6) T) := by
        have hnb : Nb (.slice ad6 T.length cap6) w.heap.size := ow_apart HB6.out.2.1 HB6.out.2.2.2
        exact Ls.set (Ls.set HB6.out.2.2.1 _ _ hnb) _ _ hnb
      go_wp2
      exact bodyPost_ret (v := .tuple #[.agg #[.int .i64 (x3 : Int), .slice ad6 T.length cap6], .int .i64 (M12 : Int), .int .i64 0]) (by simp [results, Tryd.results30, go_sem, z0, z1, f0, f1]) rfl ⟨.slice ad6 T.length cap6, by rw [HE.out, HO.out.1, HO.out.2.2]; rfl, by rw [HO.out.2.1, HTT.out]; exact HR6.out, HB6.out.2.1.low (Nat.le_of_lt HB6.out.2.2.2), (HB6.out.1.setCell (by dsimp only; omega) _).setCell (by dsimp only; omega) _⟩
  · have hneB : ((a : Int) != (b : Int)) = true := by simp; omega
    have hneI : ¬ (a : Int) = (b : Int) := by omega
    have HE : Hid (opE l = 135) := opE_s HQ.out (by rw [HMm.out]; omega) (by rw [HMm.out]; have := HN.out; have := HM8.out; omega) (by rw [HMm.out, ← HM8.out.1, HT4.out, HAB.out.2]; exact fun q => hab (four_eq q).symm)
    clear hab
    refine wpAnyH_ready (rs := [2, 6]) (by kernel_rfl) (by simp) ?_
    refine AllReadyH.cons rfl (fun K hK => ?bc) (AllReadyH.cons rfl (fun K hK => ?bd) AllReadyH.nil)
    case' bc =>
      go_simp
      refine (numberAt_any q0 _ l M8 HBb.out.2.1 HY.out (by have := HN.out; omega) (by have := HN.out; have := HM8.out; omega)).mono ?_
      rintro e q1 ⟨rfl, rfl⟩
      rw [HAB.out.1]
      refine hK.out _ _ trivial (fun HS => ?_)
      clear hK K
      try simp only [Act.put, List.getElem_toArray, List.getElem_cons_succ, List.getElem_cons_zero, List.setIfInBounds_toArray, List.set_cons_zero, List.set_cons_succ]
      refine wpAnyH_ready (rs := [6]) (by kernel_rfl) (by simp) ?_
      refine AllReadyH.cons rfl (fun K hK => ?_) AllReadyH.nil
      go_simp
      refine hK.out _ _ trivial (fun HS => ?_)
      clear hK K
      try simp only [Act.put, List.getElem_toArray, List.getElem_cons_succ, List.getElem_cons_zero, List.setIfInBounds_toArray, List.set_cons_zero, List.set_cons_succ]
    case' bd =>
      go_simp
      refine hK.out _ _ trivial (fun HS => ?_)
      clear hK K
      try simp only [Act.put, List.getElem_toArray, List.getElem_cons_succ, List.getElem_cons_zero, List.setIfInBounds_toArray, List.set_cons_zero, List.set_cons_succ]
      refine wpAnyH_ready (rs := [2]) (by kernel_rfl) (by simp) ?_
      refine AllReadyH.cons rfl (fun K hK => ?_) AllReadyH.nil
      go_simp
      refine (numberAt_any _ _ l M8 HRT.out.2 HY.out (by have := HN.out; omega) (by have := HN.out; have := HM8.out; omega)).mono ?_
      rintro e q1 ⟨rfl, rfl⟩
      rw [HAB.out.1]
      refine hK.out _ _ trivial (fun HS => ?_)
      clear hK K
      try simp only [Act.put, List.getElem_toArray, List.getElem_cons_succ, List.getElem_cons_zero, List.setIfInBounds_toArray, List.set_cons_zero, List.set_cons_succ]
    all_goals
      refine wpAnyH_ready (rs := [7]) (by kernel_rfl) (by simp) ?_
      refine AllReadyH.cons rfl (fun K hK => ?_) AllReadyH.nil
      go_simp
      refine (ofOne _ ad M8 cap (l.take M8) _ (bs_take HBb.out.2.1 M8 (by have := HN.out; have := HM8.out; omega)) HTl.out.1 HTl.out.2.2 HTl.out.2.1 HBb.out.2.2.tb).mono ?_
      rintro e q3 ⟨rfl, hB3⟩
      rw [HAB.out.2]
      have HXe : Hid (Bx2 w.heap.size (.int .i64 0) (.slice none 0 0) q3) := HXb.out.later hB3
      have HBe : Hid (Below w.heap.size w q3 ∧ Bs q3 (.slice ad n cap) l) := ⟨bchain HBb.out.1 hB3, HBb.out.2.1.later hB3⟩
      refine hK.out _ _ trivial (fun HS => ?_)
      clear hK K hB3 HXb HBb HRT
      try simp only [Act.put, List.getElem_toArray, List.getElem_cons_succ, List.getElem_cons_zero, List.setIfInBounds_toArray, List.set_cons_zero, List.set_cons_succ]
      refine wpAnyH_take (i := 8) (v := ?_) rfl (by kernel_rfl) (by kernel_rfl) (by kernel_rfl) (fun _ _ _ h => h) (Or.inl ⟨by kernel_rfl, ?_⟩) HS ?_
      rotate_left
      · (rintro w n0; go_simp) <;> with_reducible rfl
      try simp only [Act.put, List.getElem_toArray, List.getElem_cons_succ, List.getElem_cons_zero, List.setIfInBounds_toArray, List.set_cons_zero, List.set_cons_succ]
      refine wpAnyH_take (i := 9) (v := ?_) rfl (by kernel_rfl) (by kernel_rfl) (by kernel_rfl) (fun _ _ _ h => h) (Or.inl ⟨by kernel_rfl, ?_⟩) HS ?_
      rotate_left
      · (rintro w n0; go_simp) <;> with_reducible rfl
      try simp only [Act.put, List.getElem_toArray, List.getElem_cons_succ, List.getElem_cons_zero, List.setIfInBounds_toArray, List.set_cons_zero, List.set_cons_succ]
      refine wpAnyH_done (by kernel_rfl) ?_ _
      clear HS
      have z0 := HXe.out.c0
      have z1 := HXe.out.c1
      have f0 := HXe.out.f0
      have f1 := HXe.out.f1
      have HB : Hid (Below w.heap.size w q3) := HBe.out.1
      have HO : Hid (opK l = 0 ∧ opP l = [] ∧ opN l = 0) := op_no HE.out (by omega)
      go_wp2
      exact bodyPost_ret (v := .tuple #[.agg #[.int .i64 0, .slice none 0 0], .int .i64 0, .int .i64 135]) (by simp [results, Tryd.results30, go_sem, z0, z1, f0, f1]) rfl ⟨.slice none 0 0, by rw [HE.out, HO.out.1, HO.out.2.2]; rfl, by rw [HO.out.2.1]; exact (ob_nil 0 _).bs.1, fun a n c e => (by cases e), (HB.out.setCell (by dsimp only; omega) _).setCell (by dsimp only; omega) _⟩
theorem fr1 : Fr1 := ⟨sealOk13, sealKind13, sealSize13, open13⟩
end Go.Proofs.YtfcbgkcclganmaaDoor
set_option linter.unusedVariables false
set_option linter.unusedSimpArgs false
namespace Go.Proofs.YtfcbgkcclganmaaDoor
open Go.RowKit

theorem pvS_err {each : Nat} {s : Sta} {x : Nat} (h : pn (rS each) s = .error x) : pv (rS each) 0 s = 0 := by
  rcases pnS_err h with rfl | ⟨r, rfl, h2 | ⟨n, t, h2, h3, rfl⟩⟩
  · rfl
  · exact pv_no (rS_no h2)
  · exact pv_no (rS_lack h2 h3)
end Go.Proofs.YtfcbgkcclganmaaDoor
set_option linter.unusedVariables false
set_option linter.unusedSimpArgs false
namespace Go.Proofs.YtfcbgkcclganmaaDoor
open Go.RowKit

/-- What a call with an object leaves: its new state with what is its own, all else as it was. -/
def Af (T : World → Value → (Nat → Prop) → Sta → Prop) (p : Value) (F : Nat → Prop) (s : Sta) (w w' : World) : Prop := ∃ F' : Nat → Prop, T w' p F' s ∧ Gr F F' w ∧ Kp F w w'
/-- What is one's own stays above. -/
theorem Gr.up {F F' : Nat → Prop} {w : World} {B : Nat} (h : Gr F F' w) (hF : ∀ i, F i → B ≤ i) (hB : B ≤ w.heap.size) : ∀ i, F' i → B ≤ i := fun i hi => by
  rcases h i hi with q | q
  · exact hF i q
  · omega
/-- Two things apart stay so. -/
theorem Gr.apart {F F' G : Nat → Prop} {w : World} (h : Gr F F' w) (hn : ∀ i, F i → ¬ G i) (hG : ∀ i, G i → i < w.heap.size) : ∀ i, F' i → ¬ G i := fun i hi q => by
  rcases h i hi with q2 | q2
  · exact hn i q2 q
  · have := hG i q; omega
/-- A box of a thing. -/
structure B7 (b : Nat) (v0 v1 v2 v3 v4 v5 v6 : Value) (w : World) : Prop where
  c0 : w.cell? ⟨b, 0, none⟩ = some v0
  c1 : w.cell? ⟨b, 1, none⟩ = some v1
  c2 : w.cell? ⟨b, 2, none⟩ = some v2
  c3 : w.cell? ⟨b, 3, none⟩ = some v3
  c4 : w.cell? ⟨b, 4, none⟩ = some v4
  c5 : w.cell? ⟨b, 5, none⟩ = some v5
  c6 : w.cell? ⟨b, 6, none⟩ = some v6
theorem B7.new (w : World) (v0 v1 v2 v3 v4 v5 v6 : Value) (t : TypeId) : B7 w.heap.size v0 v1 v2 v3 v4 v5 v6 (w.alloc (.cells #[v0, v1, v2, v3, v4, v5, v6] t)) :=
  ⟨by simp [go_sem], by simp [go_sem], by simp [go_sem], by simp [go_sem], by simp [go_sem], by simp [go_sem], by simp [go_sem]⟩
theorem B7.later {b : Nat} {v0 v1 v2 v3 v4 v5 v6 : Value} {w w' : World} (h : B7 b v0 v1 v2 v3 v4 v5 v6 w) (k : Below w.heap.size w w') : B7 b v0 v1 v2 v3 v4 v5 v6 w' :=
  ⟨cell_later k h.c0, cell_later k h.c1, cell_later k h.c2, cell_later k h.c3, cell_later k h.c4, cell_later k h.c5, cell_later k h.c6⟩
theorem B7.kept {b : Nat} {v0 v1 v2 v3 v4 v5 v6 : Value} {w w' : World} {F : Nat → Prop} (h : B7 b v0 v1 v2 v3 v4 v5 v6 w) (k : Kp F w w') (hb : ¬ F b) : B7 b v0 v1 v2 v3 v4 v5 v6 w' :=
  ⟨k.cell hb h.c0, k.cell hb h.c1, k.cell hb h.c2, k.cell hb h.c3, k.cell hb h.c4, k.cell hb h.c5, k.cell hb h.c6⟩
theorem B7.drew {b : Nat} {v0 v1 v2 v3 v4 v5 v6 : Value} {w : World} (h : B7 b v0 v1 v2 v3 v4 v5 v6 w) : B7 b v0 v1 v2 v3 v4 v5 v6 w.drew := ⟨h.c0, h.c1, h.c2, h.c3, h.c4, h.c5, h.c6⟩
end Go.Proofs.YtfcbgkcclganmaaDoor
