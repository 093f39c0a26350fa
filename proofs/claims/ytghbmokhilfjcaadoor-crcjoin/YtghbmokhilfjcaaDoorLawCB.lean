/-
  The laws of layer 11: CrcJoin, CrcOf.
-/
import Derived.Test.YtghbmokhilfjcaaDoorLawCA
import Derived.Laws.AppendOwnNone
set_option linter.unusedVariables false
set_option linter.unusedSimpArgs false
namespace Go.Proofs.YtghbmokhilfjcaaDoor
open Go.RowKit

set_option maxRecDepth 100000 in
set_option maxHeartbeats 8000000 in
theorem crcJoin_any (V : Crc1) (a b : Nat) (ha : a < 4294967296) (hb : b < 4294967296) (n : Int) (w : World) (hT : TbAt w) (hP : PwAt w) :
    Calls Tryd.prog 5 #[.int .u32 (a : Int), .int .u32 (b : Int), .int .i64 n] w fun e w' => e = .returned (.bool true) ∧ Below w.heap.size w w' := by
  have HT : Hid (TbAt w ∧ PwAt w) := ⟨hT, hP⟩
  clear hT hP
  go_enter Tryd.func5, Tryd.ntmps5
  go_wp2_with fail
  refine (awake11 V _ HT.out.1).mono ?_
  rintro e w1 ⟨rfl, hb1⟩
  have HB1 : Hid (Below w.heap.size w w1) := hb1
  clear hb1
  by_cases h1 : 300 < n
  · by_cases h2 : n < 2147483648
    · go_wp2
      go_ret
      exact ⟨rfl, HB1.out⟩
    · have CE : Hid (Calls Tryd.prog 14 #[.int .u32 (a : Int), .int .u32 (b : Int), .int .i64 n] w1 fun e w' => e = .returned (.tuple #[.int .u32 0, .int .i64 2]) ∧ Below w1.heap.size w1 w') := V.joinE _ _ n w1 (Or.inr (by omega)) (HT.out.1.later HB1.out)
      have h2' : ¬ n < 2147483648 := h2
      have h3 : 2147483648 ≤ n := by omega
      have h4 : ¬ n < 0 := by omega
      go_wp2_with fail
      refine CE.out.mono ?_
      rintro e w2 ⟨rfl, hb2⟩
      have HB2 : Hid (Below w.heap.size w w2) := bchain HB1.out hb2
      clear hb2 CE
      go_wp2
      go_ret
      exact ⟨rfl, HB2.out⟩
  by_cases h0 : n < 0
  · have CE : Hid (Calls Tryd.prog 14 #[.int .u32 (a : Int), .int .u32 (b : Int), .int .i64 n] w1 fun e w' => e = .returned (.tuple #[.int .u32 0, .int .i64 2]) ∧ Below w1.heap.size w1 w') := V.joinE _ _ n w1 (Or.inl h0) (HT.out.1.later HB1.out)
    go_wp2_with fail
    refine CE.out.mono ?_
    rintro e w2 ⟨rfl, hb2⟩
    have HB2 : Hid (Below w.heap.size w w2) := bchain HB1.out hb2
    clear hb2 CE
    go_wp2
    go_ret
    exact ⟨rfl, HB2.out⟩
  obtain ⟨m, hm⟩ : ∃ m : Nat, n = (m : Int) := ⟨n.toNat, by omega⟩
  have h3 : ¬ 2147483648 ≤ n := by omega
  have CJ : Hid (Calls Tryd.prog 14 #[.int .u32 (a : Int), .int .u32 (b : Int), .int .i64 n] w1 fun e w' => e = .returned (.tuple #[.int .u32 ((cZs (8 * m) a ^^^ b : Nat) : Int), .int .i64 0]) ∧ Below w1.heap.size w1 w') := by
    rw [hm]
    exact V.join a b m w1 ha hb (by omega) (HT.out.1.later HB1.out)
  have CO : Hid (∀ W : World, Below w.heap.size w W → Calls Tryd.prog 15 #[.int .u32 (a : Int), .int .i64 n] W fun e w' => e = .returned (.int .u32 ((cZs (8 * m) a : Nat) : Int)) ∧ Below W.heap.size W w') := fun W h => by
    rw [hm]
    exact refOver a m ha (by omega) W (HT.out.2.later h)
  have hx := xor32 (cZs (8 * m) a) b (cZs_lt _ _ ha) hb
  generalize cZs (8 * m) a ^^^ b = r at *
  generalize cZs (8 * m) a = z at *
  clear hm
  go_wp2_with fail
  refine CJ.out.mono ?_
  rintro e w2 ⟨rfl, hb2⟩
  have HB2 : Hid (Below w.heap.size w w2) := bchain HB1.out hb2
  clear hb2 CJ HB1
  go_wp2_with fail
  refine (CO.out _ HB2.out).mono ?_
  rintro e w3 ⟨rfl, hb3⟩
  have HB3 : Hid (Below w.heap.size w w3) := bchain HB2.out hb3
  clear hb3 CO HB2
  go_wp2
  go_ret
  exact ⟨by first | rfl | simp, HB3.out⟩
set_option maxRecDepth 100000 in
set_option maxHeartbeats 8000000 in
theorem crcOf_any (V : Crc1) (v : Value) (K : Nat) (ns : Nat → Nat) (fs : Nat → Nat → Nat) (hf : ∀ j k, fs j k < 256) (w : World) (hL : Lb w v K ns fs) (hT : TbAt w) (hP : PwAt w) :
    Calls Tryd.prog 3 #[v] w fun e w' => e = .returned (.bool true) ∧ Below w.heap.size w w' := by
  obtain ⟨i0, hti, hi0, hi1, hi2⟩ := info_parts dinfo_byte
  have HT : Hid (TbAt w ∧ PwAt w ∧ Lb w v K ns fs) := ⟨hT, hP, hL⟩
  obtain ⟨ad, cap, rfl, l1, l2⟩ := hL.len
  unfold maxLen at l2
  clear hT hP hL
  go_enter Tryd.func3, Tryd.ntmps3
  go_wp2_with fail
  refine (awake11 V _ HT.out.1).mono ?_
  rintro e w1 ⟨rfl, hb1⟩
  have HB1 : Hid (Below w.heap.size w w1) := hb1
  clear hb1
  by_cases hK : 20 < K
  · have hK' : (20 : Int) < (K : Int) := by omega
    go_wp2
    go_ret
    exact ⟨rfl, HB1.out⟩
  have hK' : ¬ (20 : Int) < (K : Int) := by omega
  go_upto_region 7 with fail
  go_loopw [3, 13] (fun s3 si wr => ∃ j : Nat, j ≤ K ∧ si = .int .i64 (j : Int) ∧ wr.ownsRow w.heap.size 5 1 s3 (cA ns fs j).1 (vl (by8 (cA ns fs j).2) (cA ns fs j).1) ∧ Hid (Below w.heap.size w wr) ∧ Hid ((∀ q, q < j → ns q ≤ 300) ∧ (cA ns fs j).1 ≤ 300 * j)) (fun _ si _ => K - (intOf si).toNat)
  case atStart => exact ⟨0, by omega, rfl, World.ownsRow_nil _ _ _ _, HB1, ⟨fun q hq => by omega, by show 0 ≤ 300 * 0; omega⟩⟩
  case round =>
    clear HB1
    obtain ⟨j, hj, rfl, hown, HW, HN⟩ := hrel
    by_cases hlt : j < K
    · have hjI : (j : Int) < (K : Int) := by omega
      obtain ⟨b, o, cp, ad2, ca2, e1, hc, hl2⟩ := (HT.out.2.2.later HW.out).spot j hlt
      cases e1
      have HL2 : Hid (Ls wr (.slice ad2 (ns j) ca2) (ns j) (by8 (fs j))) := hl2
      obtain ⟨ad3, ca3, e3, m1, m2⟩ := hl2.len
      cases e3
      unfold maxLen at m2
      by_cases h3 : 300 < ns j
      · have h3' : (300 : Int) < ((ns j : Nat) : Int) := by omega
        clear hown hl2
        go_wp2
        go_ret
        exact ⟨rfl, HW.out⟩
      have h3' : ¬ (300 : Int) < ((ns j : Nat) : Int) := by omega
      have HN2 : Hid ((∀ q, q < j + 1 → ns q ≤ 300) ∧ (cA ns fs (j + 1)).1 ≤ 300 * (j + 1)) := by
        refine ⟨fun q hq => ?_, ?_⟩
        · by_cases e : q = j
          · subst e; omega
          · exact HN.out.1 q (by omega)
        · show (cA ns fs j).1 + ns j ≤ _
          have := HN.out.2
          omega
      have HS : Hid ((cA ns fs (j + 1)).1 = (cA ns fs j).1 + ns j ∧ vl (by8 (cA ns fs (j + 1)).2) ((cA ns fs j).1 + ns j) = vl (by8 (cA ns fs j).2) (cA ns fs j).1 ++ vl (by8 (fs j)) (ns j)) := by
        refine ⟨rfl, ?_⟩
        rw [vl_add]
        congr 1
        · exact vl_congr _ _ _ (fun k hk => by show Value.int .u8 _ = Value.int .u8 _; show Value.int .u8 ((jn (cA ns fs j).2 (fs j) (cA ns fs j).1 k : Nat) : Int) = _; unfold jn; rw [if_pos hk])
        · exact vl_congr _ _ _ (fun k hk => by show Value.int .u8 ((jn (cA ns fs j).2 (fs j) (cA ns fs j).1 ((cA ns fs j).1 + k) : Nat) : Int) = _; unfold jn; rw [if_neg (by omega), Nat.add_sub_cancel_left]; rfl)
      have hNs := HN.out.2
      have hsz := HW.out.size
      have HO : Hid (wr.ownsRow w.heap.size 5 1 u3 (cA ns fs j).1 (vl (by8 (cA ns fs j).2) (cA ns fs j).1)) := hown
      cases ad2 with
      | none =>
        obtain ⟨e0, e1⟩ := HL2.out.nil
        have HO2 : Hid (wr.ownsRow w.heap.size 5 1 u3 (cA ns fs (j + 1)).1 (vl (by8 (cA ns fs (j + 1)).2) (cA ns fs (j + 1)).1)) := by
          show World.ownsRow _ _ _ _ _ _ _
          rw [HS.out.1, HS.out.2, e0]
          show wr.ownsRow _ _ _ _ _ (_ ++ [])
          rw [List.append_nil]
          exact HO.out
        rw [e0, e1] at hc
        rw [e0] at h3'
        go_wp2_with (at_builtin; refine wpList_append_own_none rfl _ _ 24 rfl w.heap.size 5 i0 1 Tryd.underlying24 hti _ _ _ rfl hown rfl ?_)
        go_roundw
        case rel => exact ⟨j + 1, by omega, by go_num, HO2.out, HW, HN2⟩
        case measure => simp [intOf]; omega
      | some a =>
        have hnews := ls_news HL2.out
        go_wp2_with (at_builtin; refine wpList_append_own _ rfl _ _ 24 rfl w.heap.size 5 i0 (.int .u8 0) 1 1 Tryd.underlying24 hti hi0 hi1 hi2 rfl (by decide) _ _ _ rfl hown a (ns j) ca2 (vl (by8 (fs j)) (ns j)) rfl (by rw [vl_len, Nat.mul_one]) hnews (vl_one _ _ (fun _ => rfl)) (by unfold maxLen; omega) (by omega) (by omega) ?_; intro v' w3 hown' hgrow hnil)
        have HO2 : Hid (w3.ownsRow w.heap.size 5 1 v' (cA ns fs (j + 1)).1 (vl (by8 (cA ns fs (j + 1)).2) (cA ns fs (j + 1)).1)) := by
          show World.ownsRow _ _ _ _ _ _ _
          rw [HS.out.1, HS.out.2]
          exact hown'
        have HW2 : Hid (Below w.heap.size w w3) := HW.out.grown hgrow hsz (fun k hk => (HO.out.lt k hk).1)
        clear hown' hgrow hnil hown HO HW hnews
        go_wp2
        go_roundw
        case rel => exact ⟨j + 1, by omega, by go_num, HO2.out, HW2, HN2⟩
        case measure => simp [intOf]; omega
    · obtain rfl : j = K := by omega
      have hjI : ¬ (j : Int) < (j : Int) := by omega
      have HA : Hid (Ls wr u3 (cA ns fs j).1 (by8 (cA ns fs j).2)) := (ls_of_own hown).1
      obtain ⟨ad5, ca5, e5, -, -⟩ := HA.out.len
      subst e5
      have hcA := HN.out.2
      have CO : Hid (∀ W : World, Below w.heap.size w W → Calls Tryd.prog 10 #[.slice ad j cap] W fun e w' => e = .returned (.int .u32 ((cS (cA ns fs j).2 (cA ns fs j).1 : Nat) : Int)) ∧ Below W.heap.size W w') := fun W h => by
        let ns' : Nat → Nat := fun q => if q < j then ns q else 0
        have hns : ∀ q, ns' q ≤ 100000 := fun q => by
          by_cases hq : q < j
          · have e : ns' q = ns q := if_pos hq
            have := HN.out.1 q hq
            omega
          · have e : ns' q = 0 := if_neg hq
            omega
        have q := V.of (.slice ad j cap) j ns' fs W (by omega) hns hf (HT.out.1.later h) (by
          obtain ⟨adr, c', b', o', h1, h2, h3, h4, h5⟩ := HT.out.2.2.later h
          refine ⟨adr, c', b', o', h1, h2, h3, h4, fun q hq => ?_⟩
          have e : ns' q = ns q := if_pos hq
          rw [e]
          exact h5 q hq)
        have e : cF ns' fs 4294967295 j = cF ns fs 4294967295 j := by
          have : ∀ q, q ≤ j → cF ns' fs 4294967295 q = cF ns fs 4294967295 q := by
            intro q
            induction q with
            | zero => intro _; rfl
            | succ q ih =>
              intro hq
              show cR (cBt (fs q)) (cF ns' fs 4294967295 q) (8 * ns' q) = cR (cBt (fs q)) (cF ns fs 4294967295 q) (8 * ns q)
              rw [ih (by omega), show ns' q = ns q from if_pos (by omega)]
          exact this j (Nat.le_refl _)
        rw [e, cF_cA] at q
        exact q
      have CR : Hid (∀ W : World, Below wr.heap.size wr W → Calls Tryd.prog 11 #[.slice ad5 (cA ns fs j).1 ca5] W fun e w' => e = .returned (.int .u32 ((cS (cA ns fs j).2 (cA ns fs j).1 : Nat) : Int)) ∧ Below W.heap.size W w') := fun W h => refOf _ _ _ (by omega) (cA_lt ns fs j hf j) W (HA.out.later h) (HT.out.2.1.later (bchain HW.out h))
      clear hown HA
      generalize cS (cA ns fs j).2 (cA ns fs j).1 = r at *
      go_wp2_with fail
      refine (CO.out _ HW.out).mono ?_
      rintro e w2 ⟨rfl, hb2⟩
      have D2 := CR.out _ hb2
      have HB2 : Hid (Below w.heap.size w w2) := bchain HW.out hb2
      clear hb2 CO CR
      go_wp2_with fail
      refine D2.mono ?_
      rintro e w3 ⟨rfl, hb3⟩
      have HB3 : Hid (Below w.heap.size w w3) := bchain HB2.out hb3
      clear hb3 D2 HB2
      go_wp2
      go_ret
      exact ⟨by first | rfl | simp, HB3.out⟩
end Go.Proofs.YtghbmokhilfjcaaDoor
