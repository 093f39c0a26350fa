/-
  The document's reader (regattaref12.R): Uint whatever its state, Int, Done, Size.
-/
import Derived.Test.YtfcbgkcclganmaaDoorPkRefC
set_option linter.unusedVariables false
set_option linter.unusedSimpArgs false
namespace Go.Proofs.YtfcbgkcclganmaaDoor
open Go.RowKit

theorem Rr.ok {b : Nat} {l r : List Nat} {v : Value} {w : World} (h : Rr b l v (.ok r) w) : ∃ p, R0 b l v p 0 w ∧ l.drop p = r := by
  obtain ⟨p, e, h1, rfl, h3⟩ := h
  exact ⟨p, h1, h3⟩
theorem Rr.error {b x : Nat} {l : List Nat} {v : Value} {w : World} (h : Rr b l v (.error x) w) : 0 < x ∧ x < 1000 ∧ ∃ p, R0 b l v p x w := by
  obtain ⟨p, e, h1, rfl, h3, h4⟩ := h
  exact ⟨h3, h4, p, h1⟩
theorem Rr.len {b : Nat} {l : List Nat} {v : Value} {s : Sta} {w : World} (h : Rr b l v s w) : ∃ (ad : Option Addr) (cap : Nat), v = .slice ad l.length cap ∧ l.length ≤ cap ∧ cap ≤ maxLen := by
  obtain ⟨p, e, h1, -⟩ := h
  exact h1.bs.len
set_option maxRecDepth 100000 in
set_option maxHeartbeats 8000000 in
theorem refRUint1 (b : Nat) (x : Nat) (hx : 0 < x) (w : World) (c2 : w.cell? ⟨b, 2, none⟩ = some (.int .i64 (x : Int))) :
    Calls Tryd.prog 51 #[.pointer (some ⟨b, 0, none⟩)] w fun e w' => e = .returned (.int .u64 0) ∧ w' = w := by
  have hx1 : ¬ (x : Int) = 0 := by omega
  go_enter Tryd.func51, Tryd.ntmps51
  go_upto_region 3 with fail
  go_loopw [3, 4] (fun s3 s4 wr => s3 = .int .u64 0 ∧ s4 = .int .i64 0 ∧ wr = w) (fun _ s4 _ => 0)
  case atStart => exact ⟨rfl, rfl, rfl⟩
  case round =>
    obtain ⟨rfl, rfl, rfl⟩ := hrel
    go_wp2
    go_ret
    exact ⟨rfl, rfl⟩
theorem refRUint (b : Nat) (l : List Nat) (v : Value) (s : Sta) (w : World) (hb : ∀ c ∈ l, c < 256) (hl : l.length ≤ 1000000) (h : Rr b l v s w) :
    Calls Tryd.prog 51 #[.pointer (some ⟨b, 0, none⟩)] w fun e w' => e = .returned (.int .u64 ((pv rU 0 s : Nat) : Int)) ∧ Rr b l v (pn rU s) w' ∧ Kp (· = b) w w' := by
  cases s with
  | ok r =>
    obtain ⟨p, h1, rfl⟩ := h.ok
    exact refRUint0 b l v p w hb hl h1
  | error x =>
    obtain ⟨hx, hx2, p, h1⟩ := h.error
    refine (refRUint1 b x hx w h1.c2).mono fun e w' q => ?_
    obtain ⟨q1, rfl⟩ := q
    exact ⟨q1, h, Kp.refl _ _⟩
theorem bytes_drop {l : List Nat} (hb : ∀ c ∈ l, c < 256) (p : Nat) : ∀ c ∈ l.drop p, c < 256 := fun c hc => hb c (List.mem_of_mem_drop hc)
/-- What is left are bytes. -/
def Byt (s : Sta) : Prop := match s with
  | .ok r => ∀ c ∈ r, c < 256
  | .error _ => True
theorem Rr.byt {b : Nat} {l : List Nat} {v : Value} {s : Sta} {w : World} (h : Rr b l v s w) (hb : ∀ c ∈ l, c < 256) : Byt s := by
  cases s with
  | ok r =>
    obtain ⟨p, h1, rfl⟩ := h.ok
    exact bytes_drop hb p
  | error x => trivial
theorem pvU_lt {s : Sta} (h : Byt s) : pv rU 0 s < 18446744073709551616 := by
  cases s with
  | error x => show (0 : Nat) < _; omega
  | ok r =>
    cases hU : rU r with
    | error e => rw [pv_no hU]; omega
    | ok z =>
      obtain ⟨n, t⟩ := z
      rw [pv_ok hU]
      exact (en_rU h hU).2
theorem pvI_eq (s : Sta) : pv rI 0 s = ofC (pv rU 0 s) := by
  cases s with
  | error x => show (0 : Int) = ofC 0; decide
  | ok r =>
    cases hU : rU r with
    | error e => rw [pv_no hU, pv_no (rI_no hU)]; rfl
    | ok z =>
      obtain ⟨n, t⟩ := z
      rw [pv_ok hU, pv_ok (rI_ok hU)]
theorem pnI_eq (s : Sta) : pn rI s = pn rU s := by
  cases s with
  | error x => rfl
  | ok r =>
    cases hU : rU r with
    | error e => rw [pn_no hU, pn_no (rI_no hU)]
    | ok z =>
      obtain ⟨n, t⟩ := z
      rw [pn_ok hU, pn_ok (rI_ok hU)]
set_option maxRecDepth 100000 in
set_option maxHeartbeats 8000000 in
theorem refRInt (b : Nat) (l : List Nat) (v : Value) (s : Sta) (w : World) (hb : ∀ c ∈ l, c < 256) (hl : l.length ≤ 1000000) (h : Rr b l v s w) :
    Calls Tryd.prog 33 #[.pointer (some ⟨b, 0, none⟩)] w fun e w' => e = .returned (.int .i64 (pv rI 0 s)) ∧ Rr b l v (pn rI s) w' ∧ Kp (· = b) w w' := by
  have C := refRUint b l v s w hb hl h
  have hlt := pvU_lt (h.byt hb)
  rw [pvI_eq, pnI_eq]
  generalize pv rU 0 s = n at *
  have HO : Hid (ofC n = if n % 2 = 1 then -((n / 2 : Nat) : Int) - 1 else ((n / 2 : Nat) : Int)) := rfl
  generalize ofC n = z at *
  obtain ⟨d, hd⟩ : ∃ d, n / 2 = d := ⟨_, rfl⟩
  obtain ⟨m, hm⟩ : ∃ m, n % 2 = m := ⟨_, rfl⟩
  rw [hd, hm] at HO
  have hdI : (n : Int).tdiv 2 = (d : Int) := by rw [Int.tdiv_eq_ediv_of_nonneg (by omega)]; omega
  have hmI : (n : Int).tmod 2 = (m : Int) := by rw [Int.tmod_eq_emod_of_nonneg (by omega)]; omega
  have hw1 : IntKind.u64.wrap (d : Int) = (d : Int) := by rw [IntKind.wrap_u64]; omega
  have hw2 : IntKind.u64.wrap (m : Int) = (m : Int) := by rw [IntKind.wrap_u64]; omega
  have hw3 : IntKind.i64.wrap (d : Int) = (d : Int) := by rw [IntKind.wrap_i64]; omega
  have hw4 : IntKind.i64.wrap (-(d : Int)) = -(d : Int) := by rw [IntKind.wrap_i64]; omega
  have hw5 : IntKind.i64.wrap (-(d : Int) - 1) = -(d : Int) - 1 := by rw [IntKind.wrap_i64]; omega
  have hm3 : m = 0 ∨ m = 1 := by omega
  clear hd hm h
  rcases hm3 with rfl | rfl
  · have HZ : Hid (z = (d : Int)) := HO.out.trans (if_neg (by decide))
    clear HO
    go_enter Tryd.func33, Tryd.ntmps33
    go_wp2_with fail
    refine C.mono ?_
    rintro e w1 ⟨rfl, h1, h2⟩
    have H1 : Hid (Rr b l v (pn rU s) w1 ∧ Kp (· = b) w w1) := ⟨h1, h2⟩
    clear h1 h2 C
    go_wp2
    go_ret
    exact ⟨by rw [HZ.out]; rfl, H1.out.1, H1.out.2⟩
  · have HZ : Hid (z = -(d : Int) - 1) := HO.out.trans (if_pos rfl)
    clear HO
    go_enter Tryd.func33, Tryd.ntmps33
    go_wp2_with fail
    refine C.mono ?_
    rintro e w1 ⟨rfl, h1, h2⟩
    have H1 : Hid (Rr b l v (pn rU s) w1 ∧ Kp (· = b) w w1) := ⟨h1, h2⟩
    clear h1 h2 C
    go_wp2
    go_ret
    exact ⟨by rw [HZ.out]; rfl, H1.out.1, H1.out.2⟩
set_option maxRecDepth 100000 in
set_option maxHeartbeats 8000000 in
theorem refRDone (b : Nat) (l : List Nat) (v : Value) (s : Sta) (w : World) (hl : l.length ≤ 1000000) (h : Rr b l v s w) :
    Calls Tryd.prog 35 #[.pointer (some ⟨b, 0, none⟩)] w fun e w' => e = .returned (.int .i64 ((rdE s : Nat) : Int)) ∧ Below w.heap.size w w' := by
  cases s with
  | ok r =>
    obtain ⟨p, h1, hr⟩ := h.ok
    obtain ⟨ad, cap, rfl, k1, k2⟩ := h1.bs.len
    have c0 := h1.c0
    have c1 := h1.c1
    have c2 := h1.c2
    have HR : Hid (l.drop p = r) := hr
    obtain ⟨n, hN⟩ : ∃ n, l.length = n := ⟨_, rfl⟩
    have HN : Hid (l.length = n) := hN
    rw [hN] at c0
    have hrl : r.length = n - p := by rw [← hr, List.length_drop, hN]
    clear h h1 hr hN
    by_cases hp : p < n
    · have hpI : (p : Int) < (n : Int) := by omega
      have HE : Hid (rdE (.ok r) = 122) := by
        show (if r.length = 0 then 0 else 122) = 122
        rw [if_neg (by omega)]
      clear hrl
      go_enter Tryd.func35, Tryd.ntmps35
      go_upto_region 1 with fail
      go_quiet (fail)
      go_wp2
      go_ret
      exact ⟨by rw [HE.out]; rfl, below_drewN (Below.refl _ _) _⟩
    · have hpI : ¬ (p : Int) < (n : Int) := by omega
      have HE : Hid (rdE (.ok r) = 0) := by
        show (if r.length = 0 then 0 else 122) = 0
        rw [if_pos (by omega)]
      clear hrl
      go_enter Tryd.func35, Tryd.ntmps35
      go_upto_region 1 with fail
      go_quiet (fail)
      go_wp2
      go_ret
      exact ⟨by rw [HE.out]; rfl, below_drewN (Below.refl _ _) _⟩
  | error x =>
    obtain ⟨hx, hx2, p, h1⟩ := h.error
    have c2 := h1.c2
    have hxI : ¬ (x : Int) = 0 := by omega
    have hxb : ((x : Int) == 0) = false := by simp; omega
    have hxd : decide ((x : Int) = 0) = false := by simp; omega
    have HE : Hid (rdE (.error x) = x) := rfl
    clear h h1
    go_enter Tryd.func35, Tryd.ntmps35
    go_upto_region 1 with fail
    go_quiet (fail)
    go_wp2
    go_ret
    exact ⟨by rw [HE.out]; rfl, below_drewN (Below.refl _ _) _⟩
end Go.Proofs.YtfcbgkcclganmaaDoor
