/-
The document's reader (regattaref12.R): Uint whatever its state, Int, Done, Size.
The document's reader (regattaref12.R): Fix, Size.
The document's reader (regattaref12.R): Size.
The document's reader (regattaref12.R): Bytes.
Two texts, and two lists of numbers, held against each other (regattaref11.Same, regattaref04.Same); numbers copied (regattalaw12.wide, plain).
The document's sum (regattaref11): number, bits.
-/
import Derived.Test.YtfcbgkcclganmaaDoorZ03
import Derived.Test.YtfcbgkcclganmaaDoorZ02
import Derived.Test.YtfcbgkcclganmaaDoorZ01

set_option linter.unusedVariables false
set_option linter.unusedSimpArgs false
namespace Go.Proofs.YtfcbgkcclganmaaDoor
open Go.RowKit

theorem Rr.ok {b : Nat} {l r : List Nat} {v : Value} {w : World} (h : Rr b l v (.ok r) w) : ∃ p, R0 b l v p 0 w ∧ l.drop p = r := by
  obtain ⟨p, e, h1, rfl, h3⟩ := h
  exact ⟨p, h1, h3⟩
theorem Rr.error {b x : Nat} {l : List Nat} {v : Value} {w : World} (h : Rr b l v (.error x) w) : 0 < x ∧ x < 1000 ∧ ∃ p, R0 b l v p x w := by
  obtain ⟨p, e, h1, rfl, h3, h4⟩ := h
  exact ⟨h3, h4, p, h1⟩
theorem Rr.len {b : Nat} {l : List Nat} {v : Value} {s : Sta} {w : World} (h : Rr b l v s w) : ∃ (ad : Option Addr) (cap : Nat), v = .slice ad l.length cap ∧ l.length ≤ cap ∧ cap ≤ maxLen := by
  obtain ⟨p, e, h1, -⟩ := h
  exact h1.bs.len
set_option maxRecDepth 100000 in
set_option maxHeartbeats 8000000 in
theorem refRUint1 (b : Nat) (x : Nat) (hx : 0 < x) (w : World) (c2 : w.cell? ⟨b, 2, none⟩ = some (.int .i64 (x : Int))) :
    Calls Tryd.prog 51 #[.pointer (some ⟨b, 0, none⟩)] w fun e w' => e = .returned (.int .u64 0) ∧ w' = w := by
  have hx1 : ¬ (x : Int) = 0 := by omega
  go_enter Tryd.func51, Tryd.ntmps51
  go_upto_region 3 with fail
  go_loopw [3, 4] (fun s3 s4 wr => s3 = .int .u64 0 ∧ s4 = .int .i64 0 ∧ wr = w) (fun _ s4 _ => 0)
  case atStart => exact ⟨rfl, rfl, rfl⟩
  case round =>
    obtain ⟨rfl, rfl, rfl⟩ := hrel
    go_wp2
    go_ret
    exact ⟨rfl, rfl⟩
theorem refRUint (b : Nat) (l : List Nat) (v : Value) (s : Sta) (w : World) (hb : ∀ c ∈ l, c < 256) (hl : l.length ≤ 1000000) (h : Rr b l v s w) :
    Calls Tryd.prog 51 #[.pointer (some ⟨b, 0, none⟩)] w fun e w' => e = .returned (.int .u64 ((pv rU 0 s : Nat) : Int)) ∧ Rr b l v (pn rU s) w' ∧ Kp (· = b) w w' := by
  cases s with
  | ok r =>
    obtain ⟨p, h1, rfl⟩ := h.ok
    exact refRUint0 b l v p w hb hl h1
  | error x =>
    obtain ⟨hx, hx2, p, h1⟩ := h.error
    refine (refRUint1 b x hx w h1.c2).mono fun e w' q => ?_
    obtain ⟨q1, rfl⟩ := q
    exact ⟨q1, h, Kp.refl _ _⟩
theorem bytes_drop {l : List Nat} (hb : ∀ c ∈ l, c < 256) (p : Nat) : ∀ c ∈ l.drop p, c < 256 := fun c hc => hb c (List.mem_of_mem_drop hc)
/-- What is left are bytes. -/
def Byt (s : Sta) : Prop := match s with
  | .ok r => ∀ c ∈ r, c < 256
  | .error _ => True
theorem Rr.byt {b : Nat} {l : List Nat} {v : Value} {s : Sta} {w : World} (h : Rr b l v s w) (hb : ∀ c ∈ l, c < 256) : Byt s := by
  cases s with
  | ok r =>
    obtain ⟨p, h1, rfl⟩ := h.ok
    exact bytes_drop hb p
  | error x => trivial
theorem pvU_lt {s : Sta} (h : Byt s) : pv rU 0 s < 18446744073709551616 := by
  cases s with
  | error x => show (0 : Nat) < _; omega
  | ok r =>
    cases hU : rU r with
    | error e => rw [pv_no hU]; omega
    | ok z =>
      obtain ⟨n, t⟩ := z
      rw [pv_ok hU]
      exact (en_rU h hU).2
theorem pvI_eq (s : Sta) : pv rI 0 s = ofC (pv rU 0 s) := by
  cases s with
  | error x => show (0 : Int) = ofC 0; decide
  | ok r =>
    cases hU : rU r with
    | error e => rw [pv_no hU, pv_no (rI_no hU)]; rfl
    | ok z =>
      obtain ⟨n, t⟩ := z
      rw [pv_ok hU, pv_ok (rI_ok hU)]
theorem pnI_eq (s : Sta) : pn rI s = pn rU s := by
  cases s with
  | error x => rfl
  | ok r =>
    cases hU : rU r with
    | error e => rw [pn_no hU, pn_no (rI_no hU)]
    | ok z =>
      obtain ⟨n, t⟩ := z
      rw [pn_ok hU, pn_ok (rI_ok hU)]
set_option maxRecDepth 100000 in
set_option maxHeartbeats 8000000 in
theorem refRInt (b : Nat) (l : List Nat) (v : Value) (s : Sta) (w : World) (hb : ∀ c ∈ l, c < 256) (hl : l.length ≤ 1000000) (h : Rr b l v s w) :
    Calls Tryd.prog 33 #[.pointer (some ⟨b, 0, none⟩)] w fun e w' => e = .returned (.int .i64 (pv rI 0 s)) ∧ Rr b l v (pn rI s) w' ∧ Kp (· = b) w w' := by
  have C := refRUint b l v s w hb hl h
  have hlt := pvU_lt (h.byt hb)
  rw [pvI_eq, pnI_eq]
  generalize pv rU 0 s = n at *
  have HO : Hid (ofC n = if n % 2 = 1 then -((n / 2 : Nat) : Int) - 1 else ((n / 2 : Nat) : Int)) := rfl
  generalize ofC n = z at *
  obtain ⟨d, hd⟩ : ∃ d, n / 2 = d := ⟨_, rfl⟩
  obtain ⟨m, hm⟩ : ∃ m, n % 2 = m := ⟨_, rfl⟩
  rw [hd, hm] at HO
  have hdI : (n : Int).tdiv 2 = (d : Int) := by rw [Int.tdiv_eq_ediv_of_nonneg (by omega)]; omega
  have hmI : (n : Int).tmod 2 = (m : Int) := by rw [Int.tmod_eq_emod_of_nonneg (by omega)]; omega
  have hw1 : IntKind.u64.wrap (d : Int) = (d : Int) := by rw [IntKind.wrap_u64]; omega
  have hw2 : IntKind.u64.wrap (m : Int) = (m : Int) := by rw [IntKind.wrap_u64]; omega
  have hw3 : IntKind.i64.wrap (d : Int) = (d : Int) := by rw [IntKind.wrap_i64]; omega
  have hw4 : IntKind.i64.wrap (-(d : Int)) = -(d : Int) := by rw [IntKind.wrap_i64]; omega
  have hw5 : IntKind.i64.wrap (-(d : Int) - 1) = -(d : Int) - 1 := by rw [IntKind.wrap_i64]; omega
  have hm3 : m = 0 ∨ m = 1 := by omega
  clear hd hm h
  rcases hm3 with rfl | rfl
  · have HZ : Hid (z = (d : Int)) := HO.out.trans (if_neg (by decide))
    clear HO
    go_enter Tryd.func33, Tryd.ntmps33
    go_wp2_with fail
    refine C.mono ?_
    rintro e w1 ⟨rfl, h1, h2⟩
    have H1 : Hid (Rr b l v (pn rU s) w1 ∧ Kp (· = b) w w1) := ⟨h1, h2⟩
    clear h1 h2 C
    go_wp2
    go_ret
    exact ⟨by rw [HZ.out]; rfl, H1.out.1, H1.out.2⟩
  · have HZ : Hid (z = -(d : Int) - 1) := HO.out.trans (if_pos rfl)
    clear HO
    go_enter Tryd.func33, Tryd.ntmps33
    go_wp2_with fail
    refine C.mono ?_
    rintro e w1 ⟨rfl, h1, h2⟩
    have H1 : Hid (Rr b l v (pn rU s) w1 ∧ Kp (· = b) w w1) := ⟨h1, h2⟩
    clear h1 h2 C
    go_wp2
    go_ret
    exact ⟨by rw [HZ.out]; rfl, H1.out.1, H1.out.2⟩
set_option maxRecDepth 100000 in
set_option maxHeartbeats 8000000 in
theorem refRDone (b : Nat) (l : List Nat) (v : Value) (s : Sta) (w : World) (hl : l.length ≤ 1000000) (h : Rr b l v s w) :
    Calls Tryd.prog 35 #[.pointer (some ⟨b, 0, none⟩)] w fun e w' => e = .returned (.int .i64 ((rdE s : Nat) : Int)) ∧ Below w.heap.size w w' := by
  cases s with
  | ok r =>
    obtain ⟨p, h1, hr⟩ := h.ok
    obtain ⟨ad, cap, rfl, k1, k2⟩ := h1.bs.len
    have c0 := h1.c0
    have c1 := h1.c1
    have c2 := h1.c2
    have HR : Hid (l.drop p = r) := hr
    obtain ⟨n, hN⟩ : ∃ n, l.length = n := ⟨_, rfl⟩
    have HN : Hid (l.length = n) := hN
    rw [hN] at c0
    have hrl : r.length = n - p := by rw [← hr, List.length_drop, hN]
    clear h h1 hr hN
    by_cases hp : p < n
    · have hpI : (p : Int) < (n : Int) := by omega
      have HE : Hid (rdE (.ok r) = 122) := by
        show (if r.length = 0 then 0 else 122) = 122
        rw [if_neg (by omega)]
      clear hrl
      go_enter Tryd.func35, Tryd.ntmps35
      go_upto_region 1 with fail
      go_quiet (fail)
      go_wp2
      go_ret
      exact ⟨by rw [HE.out]; rfl, below_drewN (Below.refl _ _) _⟩
    · have hpI : ¬ (p : Int) < (n : Int) := by omega
      have HE : Hid (rdE (.ok r) = 0) := by
        show (if r.length = 0 then 0 else 122) = 0
        rw [if_pos (by omega)]
      clear hrl
      go_enter Tryd.func35, Tryd.ntmps35
      go_upto_region 1 with fail
      go_quiet (fail)
      go_wp2
      go_ret
      exact ⟨by rw [HE.out]; rfl, below_drewN (Below.refl _ _) _⟩
  | error x =>
    obtain ⟨hx, hx2, p, h1⟩ := h.error
    have c2 := h1.c2
    have hxI : ¬ (x : Int) = 0 := by omega
    have hxb : ((x : Int) == 0) = false := by simp; omega
    have hxd : decide ((x : Int) = 0) = false := by simp; omega
    have HE : Hid (rdE (.error x) = x) := rfl
    clear h h1
    go_enter Tryd.func35, Tryd.ntmps35
    go_upto_region 1 with fail
    go_quiet (fail)
    go_wp2
    go_ret
    exact ⟨by rw [HE.out]; rfl, below_drewN (Below.refl _ _) _⟩
end Go.Proofs.YtfcbgkcclganmaaDoor
set_option linter.unusedVariables false
set_option linter.unusedSimpArgs false
namespace Go.Proofs.YtfcbgkcclganmaaDoor
open Go.RowKit

theorem getD_take8 (m : List Nat) (i : Nat) (h : i < 8) : (m.take 8).getD i 0 = m.getD i 0 := by
  simp [List.getD, List.getElem?_take, h]
theorem eight_at {l : List Nat} {p i : Nat} (hp : p + 8 ≤ l.length) (hi : i < 8) : deN (((l.drop p).take 8).drop i) = l.getD (p + i) 0 + 256 * deN (((l.drop p).take 8).drop (i + 1)) := by
  have hl : ((l.drop p).take 8).length = 8 := by rw [List.length_take, List.length_drop]; omega
  rw [drop_cons (by omega), getD_take8 _ _ hi, getD_drop]
  rfl
theorem eight_lt {l : List Nat} (hb : ∀ c ∈ l, c < 256) (p i : Nat) (hi : i ≤ 8) : deN (((l.drop p).take 8).drop i) < 256 ^ (8 - i) := by
  have h := deN_lt (((l.drop p).take 8).drop i) (fun c hc => hb c (List.mem_of_mem_drop (List.mem_of_mem_take (List.mem_of_mem_drop hc))))
  have h2 : (((l.drop p).take 8).drop i).length ≤ 8 - i := by rw [List.length_drop, List.length_take]; omega
  exact Nat.lt_of_lt_of_le h (Nat.pow_le_pow_right (by omega) h2)
theorem rF_ok {l : List Nat} (h : 8 ≤ l.length) : rF l = .ok (s64 (deN (l.take 8)), l.drop 8) := by unfold rF; rw [if_neg (by omega)]
theorem rF_no {l : List Nat} (h : l.length < 8) : rF l = .error 120 := by unfold rF; rw [if_pos h]
theorem s64_wrap (n : Nat) (hn : n < 18446744073709551616) : IntKind.i64.wrap (n : Int) = s64 n := by
  rw [IntKind.wrap_i64]; unfold s64; split <;> omega
end Go.Proofs.YtfcbgkcclganmaaDoor
set_option linter.unusedVariables false
set_option linter.unusedSimpArgs false
namespace Go.Proofs.YtfcbgkcclganmaaDoor
open Go.RowKit

/-- A count of things of so many bytes at least. -/
def rS (each : Nat) : Rdr Nat := fun l => match rU l with
  | .ok (n, t) => if t.length / each < n then .error 120 else .ok (n, t)
  | .error e => .error e
theorem rS_no {each : Nat} {l : List Nat} {e : Nat} (h : rU l = .error e) : rS each l = .error e := by simp [rS, h]
theorem rS_lack {each : Nat} {l t : List Nat} {n : Nat} (h : rU l = .ok (n, t)) (h2 : t.length / each < n) : rS each l = .error 120 := by simp only [rS, h]; rw [if_pos h2]
theorem rS_ok {each : Nat} {l t : List Nat} {n : Nat} (h : rU l = .ok (n, t)) (h2 : ¬ t.length / each < n) : rS each l = .ok (n, t) := by simp only [rS, h]; rw [if_neg h2]
theorem pnU_err {s : Sta} {x : Nat} (h : pn rU s = .error x) (each : Nat) : pn (rS each) s = .error x ∧ pv (rS each) 0 s = 0 := by
  cases s with
  | error y => cases h; exact ⟨rfl, rfl⟩
  | ok r =>
    cases hU : rU r with
    | error e => rw [pn_no hU] at h; cases h; exact ⟨pn_no (rS_no hU), pv_no (rS_no hU)⟩
    | ok z => rw [pn_ok hU] at h; cases h
theorem pnU_ok {s : Sta} {t : List Nat} (h : pn rU s = .ok t) : ∃ r, s = .ok r ∧ rU r = .ok (pv rU 0 s, t) := by
  cases s with
  | error y => cases h
  | ok r =>
    cases hU : rU r with
    | error e => rw [pn_no hU] at h; cases h
    | ok z =>
      obtain ⟨n, t'⟩ := z
      rw [pn_ok hU] at h
      cases h
      exact ⟨r, rfl, by rw [pv_ok hU, hU]⟩
set_option maxRecDepth 100000 in
set_option maxHeartbeats 8000000 in
theorem refRSize (each : Nat) (he : each = 1 ∨ each = 8) (b : Nat) (l : List Nat) (v : Value) (s : Sta) (w : World) (hb : ∀ c ∈ l, c < 256) (hl : l.length ≤ 1000000) (h : Rr b l v s w) :
    Calls Tryd.prog 52 #[.pointer (some ⟨b, 0, none⟩), .int .i64 (each : Int)] w fun e w' => e = .returned (.int .i64 ((pv (rS each) 0 s : Nat) : Int)) ∧ Rr b l v (pn (rS each) s) w' ∧ Kp (· = b) w w' := by
  have C := refRUint b l v s w hb hl h
  have hlt := pvU_lt (h.byt hb)
  have HU : Hid (∀ t, pn rU s = .ok t → ∃ r, s = .ok r ∧ rU r = .ok (pv rU 0 s, t)) := fun t q => pnU_ok q
  have HX : Hid (∀ x, pn rU s = .error x → pn (rS each) s = .error x ∧ pv (rS each) 0 s = 0) := fun x q => pnU_err q each
  generalize pv rU 0 s = m at *
  generalize pn rU s = s1 at *
  obtain ⟨ad, cap, rfl, k1, k2⟩ := h.len
  unfold maxLen at k2
  obtain ⟨n, hN⟩ : ∃ n, l.length = n := ⟨_, rfl⟩
  have HN : Hid (l.length = n) := hN
  rw [hN] at k1 hl C ⊢
  clear h hN
  go_enter Tryd.func52, Tryd.ntmps52
  go_upto_region 1 with fail
  go_upto_region 2 with fail
  refine C.mono ?_
  rintro e w1 ⟨rfl, h1, hk⟩
  have HK : Hid (Kp (· = b) w w1) := hk
  clear hk C
  cases s1 with
  | error x =>
    obtain ⟨e1, e2⟩ := HX.out x rfl
    have HV : Hid (pv (rS each) 0 s = 0) := e2
    have HP : Hid (pn (rS each) s = .error x) := e1
    obtain ⟨hx, hx2, p, h2⟩ := h1.error
    have HR : Hid (R0 b l (.slice ad n cap) p x w1) := h2
    have c2 := h2.c2
    have hxI : ¬ (x : Int) = 0 := by omega
    have hxb : ((x : Int) == 0) = false := by simp; omega
    have hxd : decide ((x : Int) = 0) = false := by simp; omega
    clear h1 h2 HX HU e1 e2
    go_upto_region 2 with fail
    go_quiet (fail)
    have HR2 : Hid (R0 b l (.slice ad n cap) p x (w1.drewN nq)) := HR.out.drew nq
    have HK2 : Hid (Kp (· = b) w (w1.drewN nq)) := HK.out.drewN nq
    clear HR HK c2
    generalize w1.drewN nq = wa at *
    have c2 := HR2.out.c2
    go_wp2
    go_ret
    exact ⟨by rw [HV.out]; rfl, ⟨p, x, HR2.out, by rw [HP.out]; exact ⟨rfl, hx, hx2⟩⟩, HK2.out⟩
  | ok t =>
    obtain ⟨r, rfl, hr⟩ := HU.out t rfl
    obtain ⟨p, h2, hd⟩ := h1.ok
    have HR : Hid (R0 b l (.slice ad n cap) p 0 w1) := h2
    have c0 := h2.c0
    have c1 := h2.c1
    have c2 := h2.c2
    have hple := h2.le
    have hN := HN.out
    rw [hN] at hple
    have htl : t.length = n - p := by rw [← hd, List.length_drop, hN]
    obtain ⟨d, hd2⟩ : ∃ d, n - p = d := ⟨_, rfl⟩
    obtain ⟨q, hq⟩ : ∃ q, d / each = q := ⟨_, rfl⟩
    have hsub : IntKind.i64.wrap ((n : Int) - (p : Int)) = (d : Int) := by rw [IntKind.wrap_i64]; omega
    have heI : ¬ (each : Int) = 0 := by omega
    have hquo : (d : Int).tdiv (each : Int) = (q : Int) := by
      rw [Int.tdiv_eq_ediv_of_nonneg (by omega), ← hq, Int.natCast_ediv]
    have hqd : q ≤ d := by rw [← hq]; exact Nat.div_le_self _ _
    have hw1 : IntKind.i64.wrap (q : Int) = (q : Int) := by rw [IntKind.wrap_i64]; omega
    have hw2 : IntKind.u64.wrap (q : Int) = (q : Int) := by rw [IntKind.wrap_u64]; omega
    have HD : Hid (l.drop p = t) := hd
    have hz : (0 : Int) = 0 := rfl
    by_cases hm : q < m
    · have hmI : (q : Int) < (m : Int) := by omega
      have hS : rS each r = .error 120 := rS_lack hr (by rw [htl, hd2, hq]; exact hm)
      have HV : Hid (pv (rS each) 0 (.ok r) = 0) := pv_no hS
      have HP : Hid (pn (rS each) (.ok r) = .error 120) := pn_no hS
      clear h1 h2 HX HU hS hr hd htl hd2 hq hN hz
      go_upto_region 2 with fail
      go_quiet (fail)
      have HR2 : Hid (R0 b l (.slice ad n cap) p 0 (w1.drewN nq)) := HR.out.drew nq
      have HK2 : Hid (Kp (· = b) w (w1.drewN nq)) := HK.out.drewN nq
      clear HR HK c0 c1 c2
      generalize w1.drewN nq = wa at *
      go_wp2_with fail
      refine (refFail b 120 _ (HR2.out.c2) (HR2.out.f2)).mono ?_
      rintro e w4 ⟨rfl, rfl⟩
      have HR3 : Hid (R0 b l (.slice ad n cap) p 120 (wa.setCell ⟨b, 2, none⟩ (.int .i64 ((120 : Nat) : Int)))) := HR2.out.setE 120
      have c2 : (wa.setCell ⟨b, 2, none⟩ (.int .i64 120)).cell? ⟨b, 2, none⟩ = some (.int .i64 120) := HR3.out.c2
      go_wp2
      go_ret
      exact ⟨by rw [HV.out]; rfl, ⟨p, 120, HR3.out, by rw [HP.out]; exact ⟨rfl, by omega, by omega⟩⟩, kset HK2.out _⟩
    · have hmI : ¬ (q : Int) < (m : Int) := by omega
      have hS : rS each r = .ok (m, t) := rS_ok hr (by rw [htl, hd2, hq]; exact hm)
      have HV : Hid (pv (rS each) 0 (.ok r) = m) := pv_ok hS
      have HP : Hid (pn (rS each) (.ok r) = .ok t) := pn_ok hS
      have hw3 : IntKind.i64.wrap (m : Int) = (m : Int) := by rw [IntKind.wrap_i64]; omega
      clear h1 h2 HX HU hS hr hd htl hd2 hq hN hz
      go_upto_region 2 with fail
      go_quiet (fail)
      have HR2 : Hid (R0 b l (.slice ad n cap) p 0 (w1.drewN nq)) := HR.out.drew nq
      have HK2 : Hid (Kp (· = b) w (w1.drewN nq)) := HK.out.drewN nq
      clear HR HK c0 c1 c2
      generalize w1.drewN nq = wa at *
      have c2 := HR2.out.c2
      go_wp2
      go_ret
      exact ⟨by rw [HV.out]; rfl, ⟨p, 0, HR2.out, by rw [HP.out]; exact ⟨rfl, HD.out⟩⟩, HK2.out⟩
end Go.Proofs.YtfcbgkcclganmaaDoor
set_option linter.unusedVariables false
set_option linter.unusedSimpArgs false
namespace Go.Proofs.YtfcbgkcclganmaaDoor
open Go.RowKit

theorem pnS_ok {each : Nat} {s : Sta} {t : List Nat} (h : pn (rS each) s = .ok t) : ∃ r, s = .ok r ∧ rU r = .ok (pv (rS each) 0 s, t) ∧ ¬ t.length / each < pv (rS each) 0 s := by
  cases s with
  | error y => cases h
  | ok r =>
    cases hU : rU r with
    | error e => rw [pn_no (rS_no hU)] at h; cases h
    | ok z =>
      obtain ⟨n, t'⟩ := z
      by_cases hn : t'.length / each < n
      · rw [pn_no (rS_lack hU hn)] at h; cases h
      · have hS := rS_ok hU hn
        rw [pn_ok hS] at h
        cases h
        exact ⟨r, rfl, by rw [pv_ok hS, hU], by rw [pv_ok hS]; exact hn⟩
theorem pnS_err {each : Nat} {s : Sta} {x : Nat} (h : pn (rS each) s = .error x) : s = .error x ∨ ∃ r, s = .ok r ∧ (rU r = .error x ∨ ∃ n t, rU r = .ok (n, t) ∧ t.length / each < n ∧ x = 120) := by
  cases s with
  | error y => cases h; exact Or.inl rfl
  | ok r =>
    right
    refine ⟨r, rfl, ?_⟩
    cases hU : rU r with
    | error e => rw [pn_no (rS_no hU)] at h; cases h; exact Or.inl rfl
    | ok z =>
      obtain ⟨n, t'⟩ := z
      by_cases hn : t'.length / each < n
      · rw [pn_no (rS_lack hU hn)] at h; cases h; exact Or.inr ⟨n, t', rfl, hn, rfl⟩
      · rw [pn_ok (rS_ok hU hn)] at h; cases h
theorem sB_err {s : Sta} {x : Nat} (h : pn (rS 1) s = .error x) : pn rB s = .error x ∧ pv rB [] s = [] := by
  rcases pnS_err h with rfl | ⟨r, rfl, h2 | ⟨n, t, h2, h3, rfl⟩⟩
  · exact ⟨rfl, rfl⟩
  · exact ⟨pn_no (rB_no h2), pv_no (rB_no h2)⟩
  · rw [Nat.div_one] at h3
    exact ⟨pn_no (rB_lack h2 h3), pv_no (rB_lack h2 h3)⟩
theorem sIs_err {s : Sta} {x : Nat} (h : pn (rS 1) s = .error x) : pn rIs s = .error x ∧ pv rIs [] s = [] := by
  rcases pnS_err h with rfl | ⟨r, rfl, h2 | ⟨n, t, h2, h3, rfl⟩⟩
  · exact ⟨rfl, rfl⟩
  · exact ⟨pn_no (rIs_no h2), pv_no (rIs_no h2)⟩
  · rw [Nat.div_one] at h3
    exact ⟨pn_no (rIs_lack h2 h3), pv_no (rIs_lack h2 h3)⟩
theorem sFs_err {s : Sta} {x : Nat} (h : pn (rS 8) s = .error x) : pn rFs s = .error x ∧ pv rFs [] s = [] := by
  rcases pnS_err h with rfl | ⟨r, rfl, h2 | ⟨n, t, h2, h3, rfl⟩⟩
  · exact ⟨rfl, rfl⟩
  · exact ⟨pn_no (rFs_no h2), pv_no (rFs_no h2)⟩
  · exact ⟨pn_no (rFs_lack h2 h3), pv_no (rFs_lack h2 h3)⟩
/-- What the region of Bytes reads. -/
def Rd2 (b : Nat) (v : Value) (p : Nat) (w : World) : Prop := w.cell? ⟨b, 0, none⟩ = some v ∧ w.cell? ⟨b, 1, none⟩ = some (.int .i64 (p : Int))
set_option maxRecDepth 100000 in
set_option maxHeartbeats 8000000 in
theorem refRBytes (b : Nat) (l : List Nat) (v : Value) (s : Sta) (w : World) (hb : ∀ c ∈ l, c < 256) (hl : l.length ≤ 1000000) (h : Rr b l v s w) :
    Calls Tryd.prog 34 #[.pointer (some ⟨b, 0, none⟩)] w fun e w' => ∃ v', e = .returned v' ∧ Bs w' v' (pv rB [] s) ∧ Ow w.heap.size v' ∧ Rr b l v (pn rB s) w' ∧ Kp (· = b) w w' := by
  have C := refRSize 1 (Or.inl rfl) b l v s w hb hl h
  have HU : Hid (∀ t, pn (rS 1) s = .ok t → ∃ r, s = .ok r ∧ rU r = .ok (pv (rS 1) 0 s, t) ∧ ¬ t.length / 1 < pv (rS 1) 0 s) := fun t q => pnS_ok q
  have HX : Hid (∀ x, pn (rS 1) s = .error x → pn rB s = .error x ∧ pv rB [] s = []) := fun x q => sB_err q
  generalize pv (rS 1) 0 s = m at *
  generalize pn (rS 1) s = s1 at *
  have hbw : b < w.heap.size := by
    obtain ⟨p, e, h1, -⟩ := h
    exact World.block_lt_of_cell? _ _ h1.c0
  obtain ⟨ad, cap, rfl, k1, k2⟩ := h.len
  unfold maxLen at k2
  obtain ⟨n, hN⟩ : ∃ n, l.length = n := ⟨_, rfl⟩
  have HN : Hid (l.length = n) := hN
  rw [hN] at k1 hl C ⊢
  clear h hN
  go_enter Tryd.func34, Tryd.ntmps34
  go_wp2_with fail
  refine C.mono ?_
  rintro e w1 ⟨rfl, h1, hk⟩
  have HK : Hid (Kp (· = b) w w1) := hk
  have hsz : w.heap.size ≤ w1.heap.size := hk.size
  clear hk C
  cases s1 with
  | error x =>
    obtain ⟨e1, e2⟩ := HX.out x rfl
    have HV : Hid (pv rB [] s = []) := e2
    have HP : Hid (pn rB s = .error x) := e1
    obtain ⟨hx, hx2, p, h2⟩ := h1.error
    have HR : Hid (R0 b l (.slice ad n cap) p x w1) := h2
    have c2 := h2.c2
    have hxI : ¬ (x : Int) = 0 := by omega
    clear h1 h2 HX HU e1 e2
    go_wp2
    go_ret
    exact ⟨_, rfl, by rw [HV.out]; exact (ob_nil 0 _).bs.1, fun a n c e => by (cases e), ⟨p, x, HR.out, by rw [HP.out]; exact ⟨rfl, hx, hx2⟩⟩, HK.out⟩
  | ok t =>
    obtain ⟨r, rfl, hr, hm⟩ := HU.out t rfl
    rw [Nat.div_one] at hm
    obtain ⟨p, h2, hd⟩ := h1.ok
    have HR : Hid (R0 b l (.slice ad n cap) p 0 w1) := h2
    have c2 := h2.c2
    have hple := h2.le
    have hN := HN.out
    rw [hN] at hple
    have htl : t.length = n - p := by rw [← hd, List.length_drop, hN]
    obtain ⟨q, hq⟩ : ∃ q, p + m = q := ⟨_, rfl⟩
    have hB : rB r = .ok (t.take m, t.drop m) := rB_ok hr (by omega)
    have HV : Hid (pv rB [] (.ok r) = (l.drop p).take (q - p)) := by
      show _ = _
      rw [pv_ok hB, hd, show q - p = m by omega]
    have HP : Hid (pn rB (.ok r) = .ok (l.drop q)) := by
      show _ = _
      rw [pn_ok hB, ← hd, List.drop_drop, hq]
    have hpq : p ≤ q := by omega
    have hqn : q ≤ n := by omega
    have hadd : IntKind.i64.wrap ((p : Int) + (m : Int)) = (q : Int) := by rw [IntKind.wrap_i64]; omega
    have HS1 := slice_run (p := p) (q := q) (ad := ad) (n := n) (cap := cap)
    have hs1 : ∀ W : World, (Instr.sliceAt 22 (.slice ad n cap) (some (.int .i64 (p : Int))) (some (.int .i64 (q : Int))) none).run Tryd.prog W = .ok (sv ad p q cap) W := fun W => sliceAt_run W ad n cap p q hpq (by omega)
    have hs2 : ∀ W : World, (Instr.slice 22 (.slice ad n cap) (some (.int .i64 (p : Int))) (some (.int .i64 (q : Int))) none).run Tryd.prog W = .ok (sv ad p q cap) W := fun W => slice_run W ad n cap p q hpq (by omega)
    obtain ⟨T, hT⟩ : ∃ T, (l.drop p).take (q - p) = T := ⟨_, rfl⟩
    have HT : Hid ((l.drop p).take (q - p) = T) := hT
    rw [hT] at HV
    have HTl : Hid (T.length ≤ 1000000) := by
      show _ ≤ _
      rw [← hT, List.length_take]
      omega
    clear hT
    have HQ : Hid (p ≤ q ∧ q ≤ n ∧ q = p + m ∧ n ≤ 1000000) := ⟨hpq, hqn, by omega, hl⟩
    clear h1 h2 HX HU hr hd htl hq hN hm hB HS1 hpq hqn hple
    go_upto_region 5 with fail
    clear c2
    have hbD : Below w1.heap.size w1 w1.drew := (Below.refl _ _).drew
    have HS0 : Rd2 b (.slice ad n cap) p w1.drew := ⟨HR.out.c0, HR.out.c1⟩
    have HR2 : Hid (R0 b l (.slice ad n cap) p 0 w1.drew) := HR.out.later hbD
    have HK2 : Hid (Kp (· = b) w w1.drew) := HK.out.drew
    refine wp_region_held_drew (S := Rd2 b (.slice ad n cap) p) (by kernel_rfl) HS0 (fun HS => ?_)
    clear hbD HS0 HR HK
    have hsz2 : w.heap.size ≤ w1.drew.heap.size := hsz
    generalize w1.drew = q0 at *
    refine wpAnyH_take (i := 0) (v := ?v1) rfl (by kernel_rfl) (by kernel_rfl) (by kernel_rfl) (fun _ _ _ h => h) (Or.inl ⟨by kernel_rfl, ?h1⟩) HS ?r1
    case h1 => (rintro w ⟨n0, n1⟩; go_simp) <;> with_reducible rfl
    try simp only [Act.put, List.getElem_toArray, List.getElem_cons_succ, List.getElem_cons_zero, List.setIfInBounds_toArray, List.set_cons_zero, List.set_cons_succ]
    refine wpAnyH_take (i := 1) (v := ?v2) rfl (by kernel_rfl) (by kernel_rfl) (by kernel_rfl) (fun _ _ _ h => h) (Or.inl ⟨by kernel_rfl, ?h2⟩) HS ?r2
    case h2 => (rintro w ⟨n0, n1⟩; go_simp) <;> with_reducible rfl
    try simp only [Act.put, List.getElem_toArray, List.getElem_cons_succ, List.getElem_cons_zero, List.setIfInBounds_toArray, List.set_cons_zero, List.set_cons_succ]
    refine wpAnyH_take (i := 2) (v := ?v3) rfl (by kernel_rfl) (by kernel_rfl) (by kernel_rfl) (fun _ _ _ h => h) (Or.inl ⟨by kernel_rfl, ?h3⟩) HS ?r3
    case h3 => (rintro w ⟨n0, n1⟩; go_simp) <;> with_reducible rfl
    try simp only [Act.put, List.getElem_toArray, List.getElem_cons_succ, List.getElem_cons_zero, List.setIfInBounds_toArray, List.set_cons_zero, List.set_cons_succ]
    refine wpAnyH_take (i := 3) (v := ?v4) rfl (by kernel_rfl) (by kernel_rfl) (by kernel_rfl) (fun _ _ _ h => h) (Or.inl ⟨by kernel_rfl, ?h4⟩) HS ?r4
    case h4 => (rintro w ⟨n0, n1⟩; go_simp) <;> with_reducible rfl
    try simp only [Act.put, List.getElem_toArray, List.getElem_cons_succ, List.getElem_cons_zero, List.setIfInBounds_toArray, List.set_cons_zero, List.set_cons_succ]
    refine wpAnyH_take (i := 4) (v := ?v5) rfl (by kernel_rfl) (by kernel_rfl) (by kernel_rfl) (fun _ _ _ h => h) (Or.inl ⟨by kernel_rfl, ?h5⟩) HS ?r5
    case h5 => (rintro w ⟨n0, n1⟩; go_simp) <;> with_reducible rfl
    try simp only [Act.put, List.getElem_toArray, List.getElem_cons_succ, List.getElem_cons_zero, List.setIfInBounds_toArray, List.set_cons_zero, List.set_cons_succ]
    refine wpAnyH_take (i := 5) (v := ?v6) rfl (by kernel_rfl) (by kernel_rfl) (by kernel_rfl) (fun _ _ _ h => h) (Or.inl ⟨by kernel_rfl, ?h6⟩) HS ?r6
    case h6 => (rintro w ⟨n0, n1⟩; go_simp) <;> with_reducible rfl
    try simp only [Act.put, List.getElem_toArray, List.getElem_cons_succ, List.getElem_cons_zero, List.setIfInBounds_toArray, List.set_cons_zero, List.set_cons_succ]
    refine wpAnyH_take (i := 6) (v := ?v7) rfl (by kernel_rfl) (by kernel_rfl) (by kernel_rfl) (fun _ _ _ h => h) (Or.inl ⟨by kernel_rfl, ?h7⟩) HS ?r7
    case h7 => (rintro w ⟨n0, n1⟩; go_simp) <;> with_reducible rfl
    try simp only [Act.put, List.getElem_toArray, List.getElem_cons_succ, List.getElem_cons_zero, List.setIfInBounds_toArray, List.set_cons_zero, List.set_cons_succ]
    refine wpAnyH_take (i := 7) (v := ?v8) rfl (by kernel_rfl) (by kernel_rfl) (by kernel_rfl) (fun _ _ _ h => h) (Or.inl ⟨by kernel_rfl, ?h8⟩) HS ?r8
    case h8 => (rintro w ⟨n0, n1⟩; go_simp) <;> with_reducible rfl
    try simp only [Act.put, List.getElem_toArray, List.getElem_cons_succ, List.getElem_cons_zero, List.setIfInBounds_toArray, List.set_cons_zero, List.set_cons_succ]
    refine wpAnyH_take (i := 8) (v := ?v9) rfl (by kernel_rfl) (by kernel_rfl) (by kernel_rfl) (fun _ _ _ h => h) (Or.inl ⟨by kernel_rfl, ?h9⟩) HS ?r9
    case h9 => (rintro w ⟨n0, n1⟩; go_simp) <;> with_reducible rfl
    try simp only [Act.put, List.getElem_toArray, List.getElem_cons_succ, List.getElem_cons_zero, List.setIfInBounds_toArray, List.set_cons_zero, List.set_cons_succ]
    refine wpAnyH_take (i := 9) (v := ?v10) rfl (by kernel_rfl) (by kernel_rfl) (by kernel_rfl) (fun _ _ _ h => h) (Or.inl ⟨by kernel_rfl, ?h10⟩) HS ?r10
    case h10 => (rintro w ⟨n0, n1⟩; go_simp) <;> with_reducible rfl
    try simp only [Act.put, List.getElem_toArray, List.getElem_cons_succ, List.getElem_cons_zero, List.setIfInBounds_toArray, List.set_cons_zero, List.set_cons_succ]
    refine wpAnyH_take (i := 10) (v := ?v11) rfl (by kernel_rfl) (by kernel_rfl) (by kernel_rfl) (fun _ _ _ h => h) (Or.inl ⟨by kernel_rfl, ?h11⟩) HS ?r11
    case h11 => (rintro w ⟨n0, n1⟩; go_simp) <;> with_reducible rfl
    try simp only [Act.put, List.getElem_toArray, List.getElem_cons_succ, List.getElem_cons_zero, List.setIfInBounds_toArray, List.set_cons_zero, List.set_cons_succ]
    refine wpAnyH_take (i := 11) (v := ?v12) rfl (by kernel_rfl) (by kernel_rfl) (by kernel_rfl) (fun _ _ _ h => h) (Or.inl ⟨by kernel_rfl, ?h12⟩) HS ?r12
    case h12 => (rintro w ⟨n0, n1⟩; go_simp) <;> with_reducible rfl
    try simp only [Act.put, List.getElem_toArray, List.getElem_cons_succ, List.getElem_cons_zero, List.setIfInBounds_toArray, List.set_cons_zero, List.set_cons_succ]
    refine wpAnyH_take (i := 12) (v := ?v13) rfl (by kernel_rfl) (by kernel_rfl) (by kernel_rfl) (fun _ _ _ h => h) (Or.inl ⟨by kernel_rfl, ?h13⟩) HS ?r13
    case h13 => (rintro w ⟨n0, n1⟩; go_simp) <;> with_reducible rfl
    try simp only [Act.put, List.getElem_toArray, List.getElem_cons_succ, List.getElem_cons_zero, List.setIfInBounds_toArray, List.set_cons_zero, List.set_cons_succ]
    refine wpAnyH_take (i := 13) (v := ?v14) rfl (by kernel_rfl) (by kernel_rfl) (by kernel_rfl) (fun _ _ _ h => h) (Or.inl ⟨by kernel_rfl, ?h14⟩) HS ?r14
    case h14 => (rintro w ⟨n0, n1⟩; go_simp) <;> with_reducible rfl
    try simp only [Act.put, List.getElem_toArray, List.getElem_cons_succ, List.getElem_cons_zero, List.setIfInBounds_toArray, List.set_cons_zero, List.set_cons_succ]
    refine wpAnyH_take (i := 14) (v := ?v15) rfl (by kernel_rfl) (by kernel_rfl) (by kernel_rfl) (fun _ _ _ h => h) (Or.inl ⟨by kernel_rfl, ?h15⟩) HS ?r15
    case h15 => (rintro w ⟨n0, n1⟩; go_simp) <;> with_reducible rfl
    try simp only [Act.put, List.getElem_toArray, List.getElem_cons_succ, List.getElem_cons_zero, List.setIfInBounds_toArray, List.set_cons_zero, List.set_cons_succ]
    refine wpAnyH_take (i := 15) (v := ?v16) rfl (by kernel_rfl) (by kernel_rfl) (by kernel_rfl) (fun _ _ _ h => h) (Or.inl ⟨by kernel_rfl, ?h16⟩) HS ?r16
    case h16 => (rintro w ⟨n0, n1⟩; go_simp) <;> with_reducible rfl
    try simp only [Act.put, List.getElem_toArray, List.getElem_cons_succ, List.getElem_cons_zero, List.setIfInBounds_toArray, List.set_cons_zero, List.set_cons_succ]
    refine wpAnyH_ready (rs := [16]) (by kernel_rfl) (by simp) ?_
    refine AllReadyH.cons rfl (fun K hK => ?_) AllReadyH.nil
    rw [if_pos (by kernel_rfl)]
    refine apB_op _ _ rfl q0.heap.size _ [] rfl (ob_nil _ _) (sv ad p q cap) T rfl (by rw [← HT.out]; exact sv_bs HR2.out.bs p q HQ.out.1 (by have := HQ.out; have := HN.out; omega)) (by have := HTl.out; simp; omega) (Nat.le_refl _) ?_
    intro v' w3 hO3 hg
    rw [List.nil_append] at hO3
    have hb3 : Below q0.heap.size q0 w3 := hg.1 _ (Below.refl _ _)
    have HK3 : Hid (Kp (· = b) w w3) := HK2.out.trans (Kp.of (F := fun _ => False) hb3) (fun i hi => hi.elim)
    have HR3 : Hid (R0 b l (.slice ad n cap) p 0 w3) := HR2.out.later hb3
    have HO3 : Hid (Bs w3 v' T ∧ Ow w.heap.size v') := ⟨hO3.bs.1, hO3.bs.2.low hsz2⟩
    obtain ⟨ad3, cap3, rfl⟩ := hO3.sl
    refine hK.out _ _ ⟨HR3.out.c0, HR3.out.c1⟩ (fun HS => ?_)
    clear hK K HR2 HK2 hO3 hg hb3 hs1 hs2
    try simp only [Act.put, List.getElem_toArray, List.getElem_cons_succ, List.getElem_cons_zero, List.setIfInBounds_toArray, List.set_cons_zero, List.set_cons_succ]
    refine wpAnyH_take (i := 17) (v := ?v17) rfl (by kernel_rfl) (by kernel_rfl) (by kernel_rfl) (fun _ _ _ h => h) (Or.inl ⟨by kernel_rfl, ?h17⟩) HS ?r17
    case h17 => (rintro w ⟨n0, n1⟩; go_simp) <;> with_reducible rfl
    try simp only [Act.put, List.getElem_toArray, List.getElem_cons_succ, List.getElem_cons_zero, List.setIfInBounds_toArray, List.set_cons_zero, List.set_cons_succ]
    refine wpAnyH_done (by kernel_rfl) ?_ _
    clear HS
    have HR4 : Hid (R0 b l (.slice ad n cap) q 0 (w3.setCell ⟨b, 1, none⟩ (.int .i64 (q : Int)))) := HR3.out.setAt q (by have := HQ.out; have := HN.out; omega)
    have c1 := HR3.out.c1
    have f1 := HR3.out.f1
    have hnb : Nb (.slice ad3 T.length cap3) b := ow_apart HO3.out.2 hbw
    have HO4 : Hid (Bs (w3.setCell ⟨b, 1, none⟩ (.int .i64 (q : Int))) (.slice ad3 T.length cap3) T) := Ls.set HO3.out.1 _ _ hnb
    clear hnb
    go_wp2
    go_ret
    exact ⟨_, rfl, by rw [HV.out]; exact HO4.out, HO3.out.2, ⟨q, 0, HR4.out, by rw [HP.out]; exact ⟨rfl, rfl⟩⟩, kset HK3.out _⟩
end Go.Proofs.YtfcbgkcclganmaaDoor
set_option linter.unusedVariables false
set_option linter.unusedSimpArgs false
namespace Go.Proofs.YtfcbgkcclganmaaDoor
open Go.RowKit

theorem below_drewP {B : Nat} {a w : World} (h : Below B a w) (k : Nat) : Below B a (w.drewN k) := ⟨h.os, h.tape, h.output, h.size, h.block⟩
theorem neF {x y : Int} (h : x = y) : (x != y) = false := by simp [h]
theorem neT {x y : Int} (h : ¬ x = y) : (x != y) = true := by simp [h]
theorem ext0 {α : Type} (d : α) {l m : List α} (h1 : l.length = m.length) (h2 : ∀ k, k < l.length → l.getD k d = m.getD k d) : l = m := by
  apply List.ext_getElem h1
  intro k q1 q2
  have := h2 k q1
  simpa [List.getD, q1, q2] using this
set_option maxRecDepth 100000 in
set_option maxHeartbeats 4000000 in
theorem sameB (va vb : Value) (l m : List Nat) (w : World) (hA : Bs w va l) (hB : Bs w vb m) :
    Calls Tryd.prog 12 #[va, vb] w fun e w' => e = .returned (.bool (decide (l = m))) ∧ Below w.heap.size w w' := by
  have HA : Hid (Bs w va l) := hA
  have HB : Hid (Bs w vb m) := hB
  obtain ⟨ad, cap, rfl, k1, k2⟩ := hA.len
  obtain ⟨bd, bap, rfl, q1, q2⟩ := hB.len
  unfold maxLen at k2 q2
  clear hA hB
  by_cases hlen : l.length = m.length
  · have HE : Hid (l.length = m.length) := hlen
    have hne : ((l.length : Int) != (m.length : Int)) = false := by simp [hlen]
    have hnI : (l.length : Int) = (m.length : Int) := by omega
    obtain ⟨n, hn⟩ : ∃ n, l.length = n := ⟨_, rfl⟩
    obtain ⟨n2, hn2⟩ : ∃ n2, m.length = n2 := ⟨_, rfl⟩
    have HN : Hid (l.length = n ∧ m.length = n) := ⟨hn, by omega⟩
    rw [hn, hn2] at hlen
    rw [hn] at k1 HA ⊢
    rw [hn2] at q1 HB ⊢
    subst hlen
    clear hn hn2 hnI HE hne
    go_enter Tryd.func12, Tryd.ntmps12
    go_upto_region 4 with fail
    go_loopw [5] (fun s5 wr => ∃ j : Nat, j ≤ n ∧ s5 = .int .i64 (j : Int) ∧ Hid (∀ k, k < j → l.getD k 0 = m.getD k 0) ∧ Hid (Below w.heap.size w wr)) (fun s5 _ => n - (intOf s5).toNat)
    case atStart => exact ⟨0, by omega, rfl, fun k hk => by omega, Below.refl _ _⟩
    case round =>
      obtain ⟨j, hj, rfl, HS, HW⟩ := hrel
      by_cases hlt : j < n
      · have hjI : (j : Int) < (n : Int) := by omega
        have hN := HN.out
        obtain ⟨b, o, rfl, ca⟩ := HA.out.cel j (by omega)
        obtain ⟨b2, o2, rfl, cb⟩ := HB.out.cel j (by omega)
        have cA := cell_later HW.out ca
        have cB := cell_later HW.out cb
        by_cases heq : l.getD j 0 = m.getD j 0
        · have HS2 : Hid (∀ k, k < j + 1 → l.getD k 0 = m.getD k 0) := fun k hk => by
            by_cases e : k = j
            · subst e; exact heq
            · exact HS.out k (by omega)
          have hne : (((l.getD j 0 : Nat) : Int) != ((m.getD j 0 : Nat) : Int)) = false := neF (by rw [heq])
          have heq2 : ((l.getD j 0 : Nat) : Int) = ((m.getD j 0 : Nat) : Int) := by rw [heq]
          clear ca cb HS hN heq
          generalize l.getD j 0 = x at *
          generalize m.getD j 0 = y at *
          go_wp2
          go_quiet (fail)
          go_wp2
          go_roundw
          case rel => exact ⟨j + 1, by omega, by go_num, HS2, below_drewP HW.out _⟩
          case measure => simp [intOf]; omega
        · have HF : Hid (decide (l = m) = false) := by
            show _ = _
            simp only [decide_eq_false_iff_not]
            intro e
            exact heq (by rw [e])
          have hne : (((l.getD j 0 : Nat) : Int) != ((m.getD j 0 : Nat) : Int)) = true := neT (by omega)
          have heq2 : ¬ ((l.getD j 0 : Nat) : Int) = ((m.getD j 0 : Nat) : Int) := by omega
          clear ca cb HS hN heq
          generalize l.getD j 0 = x at *
          generalize m.getD j 0 = y at *
          go_wp2
          go_quiet (fail)
          go_wp2
          go_ret
          exact ⟨by rw [HF.out]; rfl, below_drewP HW.out _⟩
      · obtain rfl : j = n := by omega
        have hjI : ¬ (j : Int) < (j : Int) := by omega
        have HF : Hid (decide (l = m) = true) := by
          show _ = _
          simp only [decide_eq_true_eq]
          have hN := HN.out
          exact ext0 0 (by omega) (fun k hk => HS.out k (by omega))
        go_wp2
        go_ret
        exact ⟨by rw [HF.out]; rfl, HW.out⟩
  · have hne : ((l.length : Int) != (m.length : Int)) = true := neT (by omega)
    have hnI : ¬ (l.length : Int) = (m.length : Int) := by omega
    have HF : Hid (decide (l = m) = false) := by
      show _ = _
      simp only [decide_eq_false_iff_not]
      intro e
      exact hlen (by rw [e])
    rw [HF.out]
    clear HA HB
    go_enter Tryd.func12, Tryd.ntmps12
    go_wp2
    go_ret
    exact ⟨rfl, Below.refl _ _⟩
theorem is_take_succ {l : List Int} {j : Nat} (h : j < l.length) : l.take (j + 1) = l.take j ++ [l.getD j 0] := by
  rw [List.take_add_one]
  simp [List.getD, h]
theorem make_i64 (n : Nat) (hn : n ≤ 1000000) (w : World) : (Instr.makeSlice 88 (.int .i64 0) (.int .i64 (n : Int))).run Tryd.prog w = .ok (.slice (some ⟨w.heap.size, 0, none⟩) 0 n) (w.alloc (.cells (madeCells #[.int .i64 0] n) 3)) := by
  obtain ⟨i0, hi, hz0, hz1, hz2⟩ := i64Info
  have h := run_make (P := Tryd.prog) w 88 3 i0 (.int .i64 0) Tryd.underlying88 hi hz0 .i64 .i64 0 (n : Int) (by omega) (by omega) (by rw [hz2]; omega) (by omega)
  rw [hz1, Nat.mul_one] at h
  exact h
theorem oi_made (n : Nat) (hn : n ≤ 1000000) (w : World) : Oi w.heap.size (w.alloc (.cells (madeCells #[.int .i64 0] n) 3)) (.slice (some ⟨w.heap.size, 0, none⟩) 0 n) [] :=
  World.ownsRow_made w _ n (Nat.le_refl _) (by unfold maxLen; omega) (by rw [size_madeCells, Nat.mul_one])
end Go.Proofs.YtfcbgkcclganmaaDoor
set_option linter.unusedVariables false
set_option linter.unusedSimpArgs false
namespace Go.Proofs.YtfcbgkcclganmaaDoor
open Go.RowKit

set_option maxRecDepth 100000 in
set_option maxHeartbeats 4000000 in
theorem refBits (v : Value) (n : Nat) (f : Nat → Nat) (hn : n ≤ 100000) (hf : ∀ k, f k < 256) (w : World) (hl : Ls w v n (by8 f)) :
    Calls Tryd.prog 54 #[v] w fun e w' => ∃ v', e = .returned v' ∧ Ls w' v' (8 * n) (nt (cBt f)) ∧ w'.ownsRow w.heap.size 3 1 v' (8 * n) (vl (nt (cBt f)) (8 * n)) ∧ Below w.heap.size w w' := by
  obtain ⟨i0, hti, hi0, hi1, hi2⟩ := info_parts dinfo_int
  have HL : Hid (Ls w v n (by8 f)) := hl
  obtain ⟨ad, cap, rfl, l1, l2⟩ := hl.len
  unfold maxLen at l2
  clear hl
  go_enter Tryd.func54, Tryd.ntmps54
  go_upto_region 3 with fail
  go_loopw [3, 4] (fun s3 s4 wr => ∃ j : Nat, j ≤ n ∧ s4 = .int .i64 (j : Int) ∧ wr.ownsRow w.heap.size 3 1 s3 (8 * j) (vl (nt (cBt f)) (8 * j)) ∧ Hid (Below w.heap.size w wr)) (fun _ s4 _ => n - (intOf s4).toNat)
  case atStart => exact ⟨0, by omega, rfl, World.ownsRow_nil _ _ _ _, Below.refl _ _⟩
  case round =>
    obtain ⟨j, hj, rfl, hown, HW⟩ := hrel
    by_cases hlt : j < n
    · have hjI : (j : Int) < (n : Int) := by omega
      have HO : Hid (wr.ownsRow w.heap.size 3 1 u3 (8 * j) (vl (nt (cBt f)) (8 * j))) := hown
      clear hown
      rename World => wo
      go_upto_region 6 with fail
      go_loopw [3, 5] (fun s3 s5 wr => ∃ k : Nat, k ≤ 8 ∧ s5 = .int .i64 (k : Int) ∧ wr.ownsRow w.heap.size 3 1 s3 (8 * j + k) (vl (nt (cBt f)) (8 * j + k)) ∧ Hid (Below w.heap.size w wr)) (fun _ s5 _ => 8 - (intOf s5).toNat)
      case atStart => exact ⟨0, by omega, rfl, HO.out, HW⟩
      case round =>
        clear HO HW
        obtain ⟨k, hk, rfl, hown, HW⟩ := hrel
        by_cases hk8 : k < 8
        · have hkI : (k : Int) < 8 := by omega
          obtain ⟨b, o, cp, e1, hc⟩ := (HL.out.later HW.out).spot j hlt
          cases e1
          have hc' : wr.cell? ⟨b, o + j, none⟩ = some (.int .u8 ((f j : Nat) : Int)) := hc
          have hfj := hf j
          have HB : Hid (nt (cBt f) (8 * j + k) = .int .i64 ((f j / 2 ^ k % 2 : Nat) : Int)) := by
            show Value.int .i64 ((cBt f (8 * j + k) : Nat) : Int) = _
            unfold cBt
            rw [show (8 * j + k) / 8 = j by omega, show (8 * j + k) % 8 = k by omega]
          obtain ⟨y, hy⟩ : ∃ y : Nat, f j / 2 ^ k % 2 = y := ⟨_, rfl⟩
          have hy2 : y < 2 := by rw [← hy]; exact Nat.mod_lt _ (by omega)
          have hbit : bits BinOp.and IntKind.u8 (((f j : Nat) : Int) / 2 ^ k) 1 = (y : Int) := by
            have h1 : (((f j : Nat) : Int) / 2 ^ k) = ((f j / 2 ^ k : Nat) : Int) := by rw [Int.natCast_ediv, Int.natCast_pow]; rfl
            rw [h1, show (1 : Int) = ((1 : Nat) : Int) from rfl, and8 _ _ (Nat.lt_of_le_of_lt (Nat.div_le_self _ _) hfj) (by omega), Nat.and_one_is_mod, hy]
          have hw64 : wrap64 (y : Int) = (y : Int) := by unfold wrap64; omega
          rw [hy] at HB
          have HO : Hid (wr.ownsRow w.heap.size 3 1 u3 (8 * j + k) (vl (nt (cBt f)) (8 * j + k))) := hown
          have hsz := HW.out.size
          clear hc hy
          go_wp2_with (at_builtin; refine wpList_append_own _ rfl _ _ 88 rfl w.heap.size 3 i0 (.int .i64 0) 1 8 Tryd.underlying88 hti hi0 hi1 hi2 rfl (by decide) _ _ _ rfl (hown.alloc _) ⟨wr.heap.size, 0, none⟩ 1 1 [.int .i64 (y : Int)] rfl rfl (cell_one _ _ _ rfl) (ints_oneCell .i64 [(y : Int)]) (by unfold maxLen; omega) (by omega) (by simp; omega) ?_; intro v' w3 hown' hgrow hnil)
          have hown3 : w3.ownsRow w.heap.size 3 1 v' (8 * j + (k + 1)) (vl (nt (cBt f)) (8 * j + (k + 1))) := by rw [← Nat.add_assoc, vl_succ, HB.out]; exact hown'
          have HW3 : Hid (Below w.heap.size w w3) := below_grow HO.out HW.out hgrow
          clear hown' hgrow hnil hown HO HW
          go_wp2
          go_roundw
          case rel => exact ⟨k + 1, by omega, by go_num, hown3, HW3⟩
          case measure => simp [intOf]; omega
        · obtain rfl : k = 8 := by omega
          have hkI : ¬ ((8 : Nat) : Int) < 8 := by omega
          have HO : Hid (wr.ownsRow w.heap.size 3 1 u3 (8 * (j + 1)) (vl (nt (cBt f)) (8 * (j + 1)))) := by rw [show 8 * (j + 1) = 8 * j + 8 by omega]; exact hown
          clear hown
          go_wp2
          go_roundw
          case rel => exact ⟨j + 1, by omega, by go_num, HO.out, HW⟩
          case measure => simp [intOf]; omega
    · obtain rfl : j = n := by omega
      have hjI : ¬ (j : Int) < (j : Int) := by omega
      have HO : Hid (wr.ownsRow w.heap.size 3 1 u3 (8 * j) (vl (nt (cBt f)) (8 * j))) := hown
      clear hown
      go_wp2
      go_ret
      exact ⟨_, rfl, (ls_of_own HO.out).1, HO.out, HW.out⟩
end Go.Proofs.YtfcbgkcclganmaaDoor
