/-
  The document's disk (regattaref15): Read, Flush.
-/
import Derived.Test.YtnchmnemclbfcaaDkRefC
set_option linter.unusedVariables false
set_option linter.unusedSimpArgs false
namespace Go.Proofs.Ytnchmnemclbfcaa
open Go.RowKit

/-- A block's text; a write that is under way. -/
theorem Rd5.atB {w : World} {b n cap : Nat} {aB : Option Addr} {vU : Value} {cs ds : List Value} {F : Nat → Prop} {s : Dsk} (h : Rd5 w b (.slice aB n cap) vU cs ds F s) (k : Nat) (hk : k < s.bl.length) : ∃ (g : Nat) (x : Value), aB = some ⟨g, 0, none⟩ ∧ w.cell? ⟨g, k, none⟩ = some x ∧ w.frozen? ⟨g, k, none⟩ = false ∧ Tq w F b (.slice aB n cap) vU x (s.bl.getD k []) ∧ g ≠ b ∧ vU.ownBlock ≠ some g := by
  obtain ⟨x, e, t⟩ := h.tB k hk
  have hr := h.rB
  rcases id hr.2 with ⟨_, h0⟩ | ⟨g, c, cur, hv, hg, hh, r⟩
  · omega
  · injection hv with v1 v2 v3
    subst v1
    subst v2
    have hc := hr.cellAt k (by omega)
    have hf := hr.frozenAt k
    exact ⟨g, x, rfl, by rw [hc]; exact e, hf, t, (h.gB g rfl).2, h.gBU g rfl⟩
theorem Rd5.atU {w : World} {b m cap : Nat} {aU : Option Addr} {vB : Value} {cs ds : List Value} {F : Nat → Prop} {s : Dsk} (h : Rd5 w b vB (.slice aU m cap) cs ds F s) (k : Nat) (hk : k < s.un.length) : ∃ (g : Nat) (x : Value), aU = some ⟨g, 0, none⟩ ∧ w.cell? ⟨g, k * 2, none⟩ = some (.int .i64 (((s.un.getD k (0, [])).1 : Nat) : Int)) ∧ w.cell? ⟨g, k * 2 + 1, none⟩ = some x ∧ Tq w F b vB (.slice aU m cap) x (s.un.getD k (0, [])).2 ∧ g ≠ b ∧ vB.ownBlock ≠ some g := by
  obtain ⟨x, e1, e2, t⟩ := h.tU k hk
  have hr := h.rU
  rcases id hr.2 with ⟨_, h0⟩ | ⟨g, c, cur, hv, hg, hh, r⟩
  · omega
  · injection hv with v1 v2 v3
    subst v1
    subst v2
    have hc := hr.cellAt (k * 2) (by omega)
    have hc2 := hr.cellAt (k * 2 + 1) (by omega)
    exact ⟨g, x, rfl, by rw [hc]; exact e1, by rw [hc2]; exact e2, t, (h.gU g rfl).2, fun e => h.gBU g e rfl⟩
theorem take_more {un : List (Nat × List Nat)} {j : Nat} (hj : j < un.length) : un.take (j + 1) = un.take j ++ [un.getD j (0, [])] := by
  rw [List.take_add_one]
  congr 1
  simp [List.getD, hj]
theorem lastU_more {un : List (Nat × List Nat)} {j : Nat} (hj : j < un.length) (i : Nat) (d : List Nat) : lastU (un.take (j + 1)) i d = if (un.getD j (0, [])).1 = i then (un.getD j (0, [])).2 else lastU (un.take j) i d := by
  rw [take_more hj]
  unfold lastU
  rw [List.foldl_append]
  rfl
set_option maxRecDepth 100000 in
set_option maxHeartbeats 8000000 in
theorem refRead {w : World} {p : Value} {F : Nat → Prop} {s : Dsk} (h : RD w p F s) (i : Int) (hu : s.un.length ≤ 100000) :
    Calls Try.prog 26 #[p, .int .i64 i] w fun e w' => ∃ v, e = .returned (.tuple #[v, .int .i64 ((dAsk s i : Nat) : Int)]) ∧ Bs w v (rdB s i) ∧ w' = w := by
  obtain ⟨b, vB, vU, cs, ds, rfl, h, hd⟩ := h
  have HR : Hid (Rd5 w b vB vU cs ds F s) := h
  obtain ⟨aB, pB, rfl⟩ := h.sB
  obtain ⟨aU, pU, rfl⟩ := h.sU
  have HE : Hid (rdB s i = if dAsk s i ≠ 0 then [] else lastU s.un i.toNat (s.bl.getD i.toNat [])) := rfl
  obtain ⟨m, hm⟩ : ∃ m, s.un.length = m := ⟨_, rfl⟩
  obtain ⟨n, hn⟩ : ∃ n, s.bl.length = n := ⟨_, rfl⟩
  have HM : Hid (s.un.length = m ∧ m ≤ 100000 ∧ s.bl.length = n) := ⟨hm, by omega, hn⟩
  have c0 := h.c0
  have c1 := h.c1
  rw [hm] at HR c1
  rw [hn] at HR c0
  clear h hd hm hn hu
  go_enter Try.func26, Try.ntmps26
  go_wp2_with fail
  refine (refAsked HR.out i).mono ?_
  rintro e w1 ⟨rfl, hw1⟩
  subst hw1
  by_cases hA : dAsk s i ≠ 0
  · rw [if_pos hA] at HE
    obtain ⟨A, hAA⟩ : ∃ A, dAsk s i = A := ⟨_, rfl⟩
    rw [hAA] at hA ⊢
    have hAI : ¬ (A : Int) = 0 := by omega
    have HAk : Hid (dAsk s i = A) := hAA
    clear hAA
    go_wp2
    go_ret2
    exact ⟨.slice none 0 0, by rw [HAk.out]; rfl, by rw [HE.out]; exact (ob_nil 0 _).bs.1, rfl⟩
  have hA0 : dAsk s i = 0 := by omega
  rw [if_neg hA] at HE
  have HLt := hid5 (dAsk_lt hA0)
  rw [hA0]
  have HAk : Hid (dAsk s i = 0) := hA0
  clear hA hA0
  obtain ⟨I, rfl⟩ : ∃ I : Nat, i = (I : Int) := ⟨i.toNat, by have := HLt.out; omega⟩
  have HI : Hid (I < s.bl.length) := by have := HLt.out.2.2; rw [Int.toNat_natCast] at this; exact this
  rw [Int.toNat_natCast] at HE
  clear HLt
  have hmI : IntKind.i64.wrap ((m : Int) - 1) = (m : Int) - 1 := by have := HM.out; rw [IntKind.wrap_i64]; omega
  go_upto_region 5 with fail
  go_loopw [7] (fun s7 wr => ∃ j : Nat, j ≤ m ∧ s7 = .int .i64 ((j : Int) - 1) ∧ wr = w1 ∧ Hid (lastU s.un I (s.bl.getD I []) = lastU (s.un.take j) I (s.bl.getD I []))) (fun s7 _ => ((intOf s7) + 1).toNat)
  case atStart => exact ⟨m, Nat.le_refl _, rfl, rfl, by show _ = _; rw [List.take_of_length_le (by have := HM.out; omega)]⟩
  case round =>
    obtain ⟨j, hj, rfl, hwr, HP⟩ := hrel
    have hwr2 := hwr.symm
    subst hwr2
    clear hwr
    by_cases hj0 : j = 0
    · subst hj0
      have HPe : Hid (rdB s (I : Int) = s.bl.getD I []) := by
        show _ = _
        rw [HE.out, HP.out]
        rfl
      obtain ⟨g, x, rfl, cx, -, tx, -⟩ := HR.out.atB I HI.out
      obtain ⟨T, hTT⟩ : ∃ T, s.bl.getD I [] = T := ⟨_, rfl⟩
      have tx1 := tx.1
      rw [hTT] at tx1 HPe
      have HT : Hid (Bs w1 x T) := tx1
      obtain ⟨ax, px, rfl, -, -⟩ := tx1.len
      clear hTT tx1
      have hIn : (I : Int) < (n : Int) := by have h1 := HI.out; have h2 := HM.out; omega
      have hI0 : (0 : Int) ≤ (I : Int) := by omega
      clear tx HP hmI
      generalize T.length = L at *
      go_wp2
      go_ret2
      exact ⟨.slice ax L px, by rw [HAk.out]; rfl, by rw [HPe.out]; exact HT.out, rfl⟩
    · obtain ⟨k, rfl⟩ : ∃ k, j = k + 1 := ⟨j - 1, by omega⟩
      have hkI : (((k + 1 : Nat) : Int) - 1) = (k : Int) := by omega
      rw [hkI]
      have hkm : k < s.un.length := by have := HM.out; omega
      have HLm := hid5 (lastU_more hkm I (s.bl.getD I []))
      obtain ⟨g, x, rfl, ca, cx, tx, -⟩ := HR.out.atU k hkm
      obtain ⟨T, hTT⟩ : ∃ T, (s.un.getD k (0, [])).2 = T := ⟨_, rfl⟩
      have tx1 := tx.1
      rw [hTT] at tx1 HLm
      have HT : Hid (Bs w1 x T) := tx1
      obtain ⟨ax, px, rfl, -, -⟩ := tx1.len
      clear hTT tx1
      have hk0 : (0 : Int) ≤ (k : Int) := by omega
      have hkmI : (k : Int) < (m : Int) := by omega
      have hks : IntKind.i64.wrap ((k : Int) - 1) = (k : Int) - 1 := by have := HM.out; rw [IntKind.wrap_i64]; omega
      clear tx hkm hkI hj0 hmI
      obtain ⟨a, ha⟩ : ∃ a, (s.un.getD k (0, [])).1 = a := ⟨_, rfl⟩
      rw [ha] at ca HLm
      clear ha
      by_cases hai : a = I
      · subst hai
        rw [if_pos rfl] at HLm
        have HPe : Hid (rdB s (a : Int) = T) := by
          show _ = _
          rw [HE.out, HP.out, HLm.out]
        clear HLm HP
        generalize T.length = L at *
        go_wp2
        go_ret2
        exact ⟨.slice ax L px, by rw [HAk.out]; rfl, by rw [HPe.out]; exact HT.out, rfl⟩
      · have haiI : ¬ (a : Int) = (I : Int) := by omega
        rw [if_neg hai] at HLm
        have HP2 : Hid (lastU s.un I (s.bl.getD I []) = lastU (s.un.take k) I (s.bl.getD I [])) := by
          show _ = _
          rw [HP.out, HLm.out]
        clear HLm HP
        go_wp2
        go_roundw
        case rel => exact ⟨k, by omega, rfl, by trivial, HP2⟩
        case measure => simp only [intOf]; omega
end Go.Proofs.Ytnchmnemclbfcaa
