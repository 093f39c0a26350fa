/-
  The document's reader (regattaref12.R): Fix, Size.
-/
import Derived.Test.YtahbpegjdmblaaaPkRefD
set_option linter.unusedVariables false
set_option linter.unusedSimpArgs false
namespace Go.Proofs.Ytahbpegjdmblaaa
open Go.RowKit

theorem getD_take8 (m : List Nat) (i : Nat) (h : i < 8) : (m.take 8).getD i 0 = m.getD i 0 := by
  simp [List.getD, List.getElem?_take, h]
theorem eight_at {l : List Nat} {p i : Nat} (hp : p + 8 ≤ l.length) (hi : i < 8) : deN (((l.drop p).take 8).drop i) = l.getD (p + i) 0 + 256 * deN (((l.drop p).take 8).drop (i + 1)) := by
  have hl : ((l.drop p).take 8).length = 8 := by rw [List.length_take, List.length_drop]; omega
  rw [drop_cons (by omega), getD_take8 _ _ hi, getD_drop]
  rfl
theorem eight_lt {l : List Nat} (hb : ∀ c ∈ l, c < 256) (p i : Nat) (hi : i ≤ 8) : deN (((l.drop p).take 8).drop i) < 256 ^ (8 - i) := by
  have h := deN_lt (((l.drop p).take 8).drop i) (fun c hc => hb c (List.mem_of_mem_drop (List.mem_of_mem_take (List.mem_of_mem_drop hc))))
  have h2 : (((l.drop p).take 8).drop i).length ≤ 8 - i := by rw [List.length_drop, List.length_take]; omega
  exact Nat.lt_of_lt_of_le h (Nat.pow_le_pow_right (by omega) h2)
theorem rF_ok {l : List Nat} (h : 8 ≤ l.length) : rF l = .ok (s64 (deN (l.take 8)), l.drop 8) := by unfold rF; rw [if_neg (by omega)]
theorem rF_no {l : List Nat} (h : l.length < 8) : rF l = .error 120 := by unfold rF; rw [if_pos h]
theorem s64_wrap (n : Nat) (hn : n < 18446744073709551616) : IntKind.i64.wrap (n : Int) = s64 n := by
  rw [IntKind.wrap_i64]; unfold s64; split <;> omega
set_option maxRecDepth 100000 in
set_option maxHeartbeats 8000000 in
theorem refRFix1 (b : Nat) (x : Nat) (hx : 0 < x) (w : World) (c2 : w.cell? ⟨b, 2, none⟩ = some (.int .i64 (x : Int))) :
    Calls Try.prog 38 #[.pointer (some ⟨b, 0, none⟩)] w fun e w' => e = .returned (.int .i64 0) ∧ w' = w := by
  have hx1 : ¬ (x : Int) = 0 := by omega
  go_enter Try.func38, Try.ntmps38
  go_wp2
  go_ret
  exact ⟨rfl, rfl⟩
set_option maxRecDepth 100000 in
set_option maxHeartbeats 8000000 in
theorem refRFix0 (b : Nat) (l : List Nat) (v : Value) (p : Nat) (w : World) (hb : ∀ c ∈ l, c < 256) (hl : l.length ≤ 1000000) (h : R0 b l v p 0 w) :
    Calls Try.prog 38 #[.pointer (some ⟨b, 0, none⟩)] w fun e w' => e = .returned (.int .i64 (pv rF 0 (.ok (l.drop p)))) ∧ Rr b l v (pn rF (.ok (l.drop p))) w' ∧ Kp (· = b) w w' := by
  have HR : Hid (R0 b l v p 0 w) := h
  obtain ⟨ad, cap, rfl, k1, k2⟩ := h.bs.len
  unfold maxLen at k2
  have c0 := h.c0
  have c1 := h.c1
  have c2 := h.c2
  have hple := h.le
  obtain ⟨n, hN⟩ : ∃ n, l.length = n := ⟨_, rfl⟩
  have HN : Hid (l.length = n) := hN
  rw [hN] at k1 hl HR c0 hple ⊢
  clear h hN
  obtain ⟨d, hd⟩ : ∃ d, n - p = d := ⟨_, rfl⟩
  have hsub : IntKind.i64.wrap ((n : Int) - (p : Int)) = (d : Int) := by rw [IntKind.wrap_i64]; omega
  by_cases h8 : d < 8
  · have h8I : (d : Int) < 8 := by omega
    have HX : Hid (rF (l.drop p) = .error 120) := rF_no (by have := HN.out; rw [List.length_drop]; omega)
    have HV : Hid (pv rF 0 (.ok (l.drop p)) = 0) := pv_no HX.out
    have HP : Hid (pn rF (.ok (l.drop p)) = .error 120) := pn_no HX.out
    clear HX hd
    go_enter Try.func38, Try.ntmps38
    go_upto_region 3 with fail
    go_quiet (fail)
    have HR2 : Hid (R0 b l (.slice ad n cap) p 0 (w.drewN nq)) := HR.out.drew nq
    have HK2 : Hid (Kp (· = b) w (w.drewN nq)) := (Kp.refl _ _).drewN nq
    clear HR c0 c1 c2
    generalize w.drewN nq = wa at *
    go_wp2_with fail
    refine (refFail b 120 _ (HR2.out.c2) (HR2.out.f2)).mono ?_
    rintro e w4 ⟨rfl, rfl⟩
    go_wp2
    go_ret
    exact ⟨by rw [HV.out]; rfl, ⟨p, 120, HR2.out.setE 120, by rw [HP.out]; exact ⟨rfl, by omega, by omega⟩⟩, kset HK2.out _⟩
  · have h8I : ¬ (d : Int) < 8 := by omega
    have hp8 : p + 8 ≤ n := by omega
    have HX : Hid (rF (l.drop p) = .ok (s64 (deN ((l.drop p).take 8)), (l.drop p).drop 8)) := rF_ok (by have := HN.out; rw [List.length_drop]; omega)
    have HV : Hid (pv rF 0 (.ok (l.drop p)) = s64 (deN ((l.drop p).take 8))) := pv_ok HX.out
    have HP : Hid (pn rF (.ok (l.drop p)) = .ok (l.drop (p + 8))) := by
      show _ = _
      rw [pn_ok HX.out, List.drop_drop]
    have HT : Hid (∀ i, i < 8 → deN (((l.drop p).take 8).drop i) = l.getD (p + i) 0 + 256 * deN (((l.drop p).take 8).drop (i + 1))) := fun i hi => eight_at (by have := HN.out; omega) hi
    have HB : Hid (∀ i, i ≤ 8 → deN (((l.drop p).take 8).drop i) < 256 ^ (8 - i)) := fun i hi => eight_lt hb p i hi
    have HZ : Hid (deN (((l.drop p).take 8).drop 8) = 0) := by
      show _ = _
      rw [List.drop_eq_nil_of_le (by rw [List.length_take]; omega)]
      rfl
    clear HX hd
    go_enter Try.func38, Try.ntmps38
    go_upto_region 3 with fail
    go_quiet (fail)
    have HR2 : Hid (R0 b l (.slice ad n cap) p 0 (w.drewN nq)) := HR.out.drew nq
    have HK2 : Hid (Kp (· = b) w (w.drewN nq)) := (Kp.refl _ _).drewN nq
    clear HR c0 c1 c2
    generalize w.drewN nq = wa at *
    go_upto_region 8 with fail
    go_loopw [3, 4] (fun s3 s4 wr => ∃ j : Nat, j ≤ 8 ∧ s4 = .int .i64 ((j : Int) - 1) ∧ s3 = .int .u64 ((deN (((l.drop p).take 8).drop j) : Nat) : Int) ∧ Hid (R0 b l (.slice ad n cap) p 0 wr) ∧ Hid (Kp (· = b) w wr)) (fun _ s4 _ => (intOf s4 + 1).toNat)
    case atStart => exact ⟨8, by omega, rfl, by rw [HZ.out]; rfl, HR2, HK2⟩
    case round =>
      clear HR2 HK2 HZ
      obtain ⟨j, hj, rfl, rfl, HR3, HK3⟩ := hrel
      by_cases h0 : j = 0
      · subst h0
        have hlt : deN ((l.drop p).take 8) < 18446744073709551616 := HB.out 0 (by omega)
        have hw := s64_wrap _ hlt
        rw [List.drop_zero]
        generalize deN ((l.drop p).take 8) = N at *
        generalize s64 N = Z at *
        have c1 := HR3.out.c1
        have f1 := HR3.out.f1
        have hpp : IntKind.i64.wrap ((p : Int) + 8) = ((p + 8 : Nat) : Int) := by rw [IntKind.wrap_i64]; omega
        have HR4 : Hid (R0 b l (.slice ad n cap) (p + 8) 0 (wr.setCell ⟨b, 1, none⟩ (.int .i64 ((p + 8 : Nat) : Int)))) := HR3.out.setAt (p + 8) (by have := HN.out; omega)
        clear HT HB
        go_wp2
        go_ret
        exact ⟨by rw [HV.out]; rfl, ⟨p + 8, 0, HR4.out, by rw [HP.out]; exact ⟨rfl, rfl⟩⟩, kset HK3.out _⟩
      · obtain ⟨i, rfl⟩ : ∃ i, j = i + 1 := ⟨j - 1, by omega⟩
        have e : (((i + 1 : Nat) : Int) - 1) = (i : Int) := by omega
        rw [e]
        have hN := HN.out
        obtain ⟨g, o, rfl, ca⟩ := HR3.out.bs.cel (p + i) (by omega)
        have hc := getD_byte hb (p + i)
        have HS := HT.out i (by omega)
        have hlt := HB.out (i + 1) hj
        have hlt2 : 256 ^ (8 - (i + 1)) ≤ 72057594037927936 := Nat.le_trans (Nat.pow_le_pow_right (by omega) (show 8 - (i + 1) ≤ 7 by omega)) (by decide)
        have HS2 : Hid (deN (((l.drop p).take 8).drop i) = l.getD (p + i) 0 + 256 * deN (((l.drop p).take 8).drop (i + 1))) := HS
        clear HS
        generalize l.getD (p + i) 0 = c at *
        generalize deN (((l.drop p).take 8).drop (i + 1)) = M at *
        have c0 := HR3.out.c0
        have c1 := HR3.out.c1
        have hm1 : IntKind.u64.wrap (256 * (M : Int)) = ((256 * M : Nat) : Int) := by rw [IntKind.wrap_u64]; omega
        have hm2 : IntKind.u64.wrap (c : Int) = (c : Int) := by rw [IntKind.wrap_u64]; omega
        have hm3 : IntKind.u64.wrap (((256 * M : Nat) : Int) + (c : Int)) = ((c + 256 * M : Nat) : Int) := by rw [IntKind.wrap_u64]; omega
        have hm5 : IntKind.u64.wrap (256 * (M : Int) + (c : Int)) = ((c + 256 * M : Nat) : Int) := by rw [IntKind.wrap_u64]; omega
        have HM5 : Hid (IntKind.u64.wrap (256 * (M : Int) + (c : Int)) = ((c + 256 * M : Nat) : Int)) := hm5
        clear hm5
        have hm4 : IntKind.i64.wrap ((p : Int) + (i : Int)) = ((p + i : Nat) : Int) := by rw [IntKind.wrap_i64]; omega
        have hi0 : (0 : Int) ≤ (i : Int) := by omega
        have hpi : ((p + i : Nat) : Int) < (n : Int) := by omega
        have hpi2 : ¬ ((p + i : Nat) : Int) < 0 := by omega
        have hidx : ((p + i : Nat) : Int).toNat = p + i := by omega
        clear hlt hlt2 hN
        go_upto_region 10 with fail
        go_quiet (fail)
        have HR4 : Hid (R0 b l (.slice (some ⟨g, o, none⟩) n cap) p 0 (wr.drewN nq)) := HR3.out.drew nq
        have HK4 : Hid (Kp (· = b) w (wr.drewN nq)) := HK3.out.drewN nq
        clear HR3 HK3 c0 c1 ca
        generalize wr.drewN nq = wb at *
        go_wp2
        go_roundw
        case rel => exact ⟨i, by omega, by go_num, by rw [HS2.out, ← HM5.out], HR4, HK4⟩
        case measure => simp [intOf]
theorem refRFix (b : Nat) (l : List Nat) (v : Value) (s : Sta) (w : World) (hb : ∀ c ∈ l, c < 256) (hl : l.length ≤ 1000000) (h : Rr b l v s w) :
    Calls Try.prog 38 #[.pointer (some ⟨b, 0, none⟩)] w fun e w' => e = .returned (.int .i64 (pv rF 0 s)) ∧ Rr b l v (pn rF s) w' ∧ Kp (· = b) w w' := by
  cases s with
  | ok r =>
    obtain ⟨p, h1, rfl⟩ := h.ok
    exact refRFix0 b l v p w hb hl h1
  | error x =>
    obtain ⟨hx, hx2, p, h1⟩ := h.error
    refine (refRFix1 b x hx w h1.c2).mono fun e w' q => ?_
    obtain ⟨q1, rfl⟩ := q
    exact ⟨q1, h, Kp.refl _ _⟩
end Go.Proofs.Ytahbpegjdmblaaa
