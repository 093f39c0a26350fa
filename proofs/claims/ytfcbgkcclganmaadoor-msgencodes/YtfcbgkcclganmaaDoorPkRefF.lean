/-
  The document's reader (regattaref12.R): Size.
-/
import Derived.Test.YtfcbgkcclganmaaDoorPkRefE
set_option linter.unusedVariables false
set_option linter.unusedSimpArgs false
namespace Go.Proofs.YtfcbgkcclganmaaDoor
open Go.RowKit

/-- A count of things of so many bytes at least. -/
def rS (each : Nat) : Rdr Nat := fun l => match rU l with
  | .ok (n, t) => if t.length / each < n then .error 120 else .ok (n, t)
  | .error e => .error e
theorem rS_no {each : Nat} {l : List Nat} {e : Nat} (h : rU l = .error e) : rS each l = .error e := by simp [rS, h]
theorem rS_lack {each : Nat} {l t : List Nat} {n : Nat} (h : rU l = .ok (n, t)) (h2 : t.length / each < n) : rS each l = .error 120 := by simp only [rS, h]; rw [if_pos h2]
theorem rS_ok {each : Nat} {l t : List Nat} {n : Nat} (h : rU l = .ok (n, t)) (h2 : ¬ t.length / each < n) : rS each l = .ok (n, t) := by simp only [rS, h]; rw [if_neg h2]
theorem pnU_err {s : Sta} {x : Nat} (h : pn rU s = .error x) (each : Nat) : pn (rS each) s = .error x ∧ pv (rS each) 0 s = 0 := by
  cases s with
  | error y => cases h; exact ⟨rfl, rfl⟩
  | ok r =>
    cases hU : rU r with
    | error e => rw [pn_no hU] at h; cases h; exact ⟨pn_no (rS_no hU), pv_no (rS_no hU)⟩
    | ok z => rw [pn_ok hU] at h; cases h
theorem pnU_ok {s : Sta} {t : List Nat} (h : pn rU s = .ok t) : ∃ r, s = .ok r ∧ rU r = .ok (pv rU 0 s, t) := by
  cases s with
  | error y => cases h
  | ok r =>
    cases hU : rU r with
    | error e => rw [pn_no hU] at h; cases h
    | ok z =>
      obtain ⟨n, t'⟩ := z
      rw [pn_ok hU] at h
      cases h
      exact ⟨r, rfl, by rw [pv_ok hU, hU]⟩
set_option maxRecDepth 100000 in
set_option maxHeartbeats 8000000 in
theorem refRSize (each : Nat) (he : each = 1 ∨ each = 8) (b : Nat) (l : List Nat) (v : Value) (s : Sta) (w : World) (hb : ∀ c ∈ l, c < 256) (hl : l.length ≤ 1000000) (h : Rr b l v s w) :
    Calls Tryd.prog 52 #[.pointer (some ⟨b, 0, none⟩), .int .i64 (each : Int)] w fun e w' => e = .returned (.int .i64 ((pv (rS each) 0 s : Nat) : Int)) ∧ Rr b l v (pn (rS each) s) w' ∧ Kp (· = b) w w' := by
  have C := refRUint b l v s w hb hl h
  have hlt := pvU_lt (h.byt hb)
  have HU : Hid (∀ t, pn rU s = .ok t → ∃ r, s = .ok r ∧ rU r = .ok (pv rU 0 s, t)) := fun t q => pnU_ok q
  have HX : Hid (∀ x, pn rU s = .error x → pn (rS each) s = .error x ∧ pv (rS each) 0 s = 0) := fun x q => pnU_err q each
  generalize pv rU 0 s = m at *
  generalize pn rU s = s1 at *
  obtain ⟨ad, cap, rfl, k1, k2⟩ := h.len
  unfold maxLen at k2
  obtain ⟨n, hN⟩ : ∃ n, l.length = n := ⟨_, rfl⟩
  have HN : Hid (l.length = n) := hN
  rw [hN] at k1 hl C ⊢
  clear h hN
  go_enter Tryd.func52, Tryd.ntmps52
  go_upto_region 1 with fail
  go_upto_region 2 with fail
  refine C.mono ?_
  rintro e w1 ⟨rfl, h1, hk⟩
  have HK : Hid (Kp (· = b) w w1) := hk
  clear hk C
  cases s1 with
  | error x =>
    obtain ⟨e1, e2⟩ := HX.out x rfl
    have HV : Hid (pv (rS each) 0 s = 0) := e2
    have HP : Hid (pn (rS each) s = .error x) := e1
    obtain ⟨hx, hx2, p, h2⟩ := h1.error
    have HR : Hid (R0 b l (.slice ad n cap) p x w1) := h2
    have c2 := h2.c2
    have hxI : ¬ (x : Int) = 0 := by omega
    have hxb : ((x : Int) == 0) = false := by simp; omega
    have hxd : decide ((x : Int) = 0) = false := by simp; omega
    clear h1 h2 HX HU e1 e2
    go_upto_region 2 with fail
    go_quiet (fail)
    have HR2 : Hid (R0 b l (.slice ad n cap) p x (w1.drewN nq)) := HR.out.drew nq
    have HK2 : Hid (Kp (· = b) w (w1.drewN nq)) := HK.out.drewN nq
    clear HR HK c2
    generalize w1.drewN nq = wa at *
    have c2 := HR2.out.c2
    go_wp2
    go_ret
    exact ⟨by rw [HV.out]; rfl, ⟨p, x, HR2.out, by rw [HP.out]; exact ⟨rfl, hx, hx2⟩⟩, HK2.out⟩
  | ok t =>
    obtain ⟨r, rfl, hr⟩ := HU.out t rfl
    obtain ⟨p, h2, hd⟩ := h1.ok
    have HR : Hid (R0 b l (.slice ad n cap) p 0 w1) := h2
    have c0 := h2.c0
    have c1 := h2.c1
    have c2 := h2.c2
    have hple := h2.le
    have hN := HN.out
    rw [hN] at hple
    have htl : t.length = n - p := by rw [← hd, List.length_drop, hN]
    obtain ⟨d, hd2⟩ : ∃ d, n - p = d := ⟨_, rfl⟩
    obtain ⟨q, hq⟩ : ∃ q, d / each = q := ⟨_, rfl⟩
    have hsub : IntKind.i64.wrap ((n : Int) - (p : Int)) = (d : Int) := by rw [IntKind.wrap_i64]; omega
    have heI : ¬ (each : Int) = 0 := by omega
    have hquo : (d : Int).tdiv (each : Int) = (q : Int) := by
      rw [Int.tdiv_eq_ediv_of_nonneg (by omega), ← hq, Int.natCast_ediv]
    have hqd : q ≤ d := by rw [← hq]; exact Nat.div_le_self _ _
    have hw1 : IntKind.i64.wrap (q : Int) = (q : Int) := by rw [IntKind.wrap_i64]; omega
    have hw2 : IntKind.u64.wrap (q : Int) = (q : Int) := by rw [IntKind.wrap_u64]; omega
    have HD : Hid (l.drop p = t) := hd
    have hz : (0 : Int) = 0 := rfl
    by_cases hm : q < m
    · have hmI : (q : Int) < (m : Int) := by omega
      have hS : rS each r = .error 120 := rS_lack hr (by rw [htl, hd2, hq]; exact hm)
      have HV : Hid (pv (rS each) 0 (.ok r) = 0) := pv_no hS
      have HP : Hid (pn (rS each) (.ok r) = .error 120) := pn_no hS
      clear h1 h2 HX HU hS hr hd htl hd2 hq hN hz
      go_upto_region 2 with fail
      go_quiet (fail)
      have HR2 : Hid (R0 b l (.slice ad n cap) p 0 (w1.drewN nq)) := HR.out.drew nq
      have HK2 : Hid (Kp (· = b) w (w1.drewN nq)) := HK.out.drewN nq
      clear HR HK c0 c1 c2
      generalize w1.drewN nq = wa at *
      go_wp2_with fail
      refine (refFail b 120 _ (HR2.out.c2) (HR2.out.f2)).mono ?_
      rintro e w4 ⟨rfl, rfl⟩
      have HR3 : Hid (R0 b l (.slice ad n cap) p 120 (wa.setCell ⟨b, 2, none⟩ (.int .i64 ((120 : Nat) : Int)))) := HR2.out.setE 120
      have c2 : (wa.setCell ⟨b, 2, none⟩ (.int .i64 120)).cell? ⟨b, 2, none⟩ = some (.int .i64 120) := HR3.out.c2
      go_wp2
      go_ret
      exact ⟨by rw [HV.out]; rfl, ⟨p, 120, HR3.out, by rw [HP.out]; exact ⟨rfl, by omega, by omega⟩⟩, kset HK2.out _⟩
    · have hmI : ¬ (q : Int) < (m : Int) := by omega
      have hS : rS each r = .ok (m, t) := rS_ok hr (by rw [htl, hd2, hq]; exact hm)
      have HV : Hid (pv (rS each) 0 (.ok r) = m) := pv_ok hS
      have HP : Hid (pn (rS each) (.ok r) = .ok t) := pn_ok hS
      have hw3 : IntKind.i64.wrap (m : Int) = (m : Int) := by rw [IntKind.wrap_i64]; omega
      clear h1 h2 HX HU hS hr hd htl hd2 hq hN hz
      go_upto_region 2 with fail
      go_quiet (fail)
      have HR2 : Hid (R0 b l (.slice ad n cap) p 0 (w1.drewN nq)) := HR.out.drew nq
      have HK2 : Hid (Kp (· = b) w (w1.drewN nq)) := HK.out.drewN nq
      clear HR HK c0 c1 c2
      generalize w1.drewN nq = wa at *
      have c2 := HR2.out.c2
      go_wp2
      go_ret
      exact ⟨by rw [HV.out]; rfl, ⟨p, 0, HR2.out, by rw [HP.out]; exact ⟨rfl, HD.out⟩⟩, HK2.out⟩
end Go.Proofs.YtfcbgkcclganmaaDoor
