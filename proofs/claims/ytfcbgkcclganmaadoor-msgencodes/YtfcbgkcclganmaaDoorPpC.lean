/-
  The program's pack: a reader in memory; what it takes; a count, a whole number, a Fix, a text.
-/
import Derived.Test.YtfcbgkcclganmaaDoorPpA
import Derived.Test.YtfcbgkcclganmaaDoorPkRefC
import Derived.Laws.BitsAllLaws
set_option linter.unusedVariables false
set_option linter.unusedSimpArgs false
namespace Go.Proofs.YtfcbgkcclganmaaDoor
open Go.RowKit

/-- A list that lies in these blocks, and not in that one. -/
def Lf (F : Nat → Prop) (b : Nat) (v : Value) : Prop := ∀ (a : Addr) (n cap : Nat), v = .slice (some a) n cap → 0 < n → F a.block ∧ a.block ≠ b
/-- A reader that has these bytes left. -/
structure Ro (w : World) (b : Nat) (F : Nat → Prop) (l : List Nat) : Prop where
  lt : ∀ k, F k → k < w.heap.size
  fb : F b
  c0 : w.cell? ⟨b, 0, none⟩ = some (.bool true)
  c1 : ∃ v, w.cell? ⟨b, 1, none⟩ = some v ∧ Bs w v l ∧ Lf F b v
  c2 : w.cell? ⟨b, 2, none⟩ = some (.int .i64 0)
  f1 : w.frozen? ⟨b, 1, none⟩ = false
  f2 : w.frozen? ⟨b, 2, none⟩ = false
  yt : ∀ c ∈ l, c < 256
  le : l.length ≤ 10000000
theorem Lf.nf {F : Nat → Prop} {b : Nat} {v : Value} (h : Lf F b v) : Nf (fun i => i = b) v := fun a n cap e hn q => (h a n cap e hn).2 q
theorem Ro.kept {w w' : World} {b : Nat} {F : Nat → Prop} {l : List Nat} (h : Ro w b F l) (k : ∀ k, F k → w'.heap[k]? = w.heap[k]?) (hs : w.heap.size ≤ w'.heap.size) : Ro w' b F l := by
  refine ⟨fun i hi => Nat.lt_of_lt_of_le (h.lt i hi) hs, h.fb, cell_blk (k b h.fb) h.c0, ?_, cell_blk (k b h.fb) h.c2, frz_blk (k b h.fb) h.f1, frz_blk (k b h.fb) h.f2, h.yt, h.le⟩
  obtain ⟨v, h1, h2, h3⟩ := h.c1
  refine ⟨v, cell_blk (k b h.fb) h1, ?_, h3⟩
  obtain ⟨adr, cap, q, o, rfl, h4, h5, h6, h7⟩ := h2
  refine ⟨adr, cap, q, o, rfl, h4, h5, h6, fun j hj => ?_⟩
  have e := h6 (by omega)
  subst e
  exact cell_blk (k q (h3 ⟨q, o, none⟩ _ cap rfl (by omega)).1) (h7 j hj)
theorem Ro.later {w w' : World} {b : Nat} {F : Nat → Prop} {l : List Nat} (h : Ro w b F l) (hb : Below w.heap.size w w') : Ro w' b F l := h.kept (fun k hk => hb.block k (h.lt k hk)) hb.size
theorem sl_h (w : World) (ad : Option Addr) (n cap q : Nat) (h2 : q ≤ cap) :
    (Instr.slice 22 (.slice ad n cap) none (some (.int .u64 (q : Int))) none).run Tryd.prog w = .ok (sv ad 0 q cap) w := by
  have ht : Tryd.prog.underlying 22 = some (.slice (Tryd.prog.elem 22)) := by kernel_rfl
  have hs : (sizeOf (Tryd.prog.elem 22)).run Tryd.prog w = .ok 1 w := by
    obtain ⟨i0, hti, hi0, hi1, hi2⟩ := byteInfo
    have e : Tryd.prog.elem 22 = 5 := by kernel_rfl
    rw [e]
    simp [sizeOf, typeInfo, hti, hi1]
  rw [run_slice_h w 22 ad n cap ht .u64 (q : Int) (by omega) (by omega), hs]
  simp [Result.andThen, sliced, sv]
theorem sl_l (w : World) (ad : Option Addr) (n cap p : Nat) (h2 : p ≤ n) :
    (Instr.slice 22 (.slice ad n cap) (some (.int .u64 (p : Int))) none none).run Tryd.prog w = .ok (sv ad p n cap) w := by
  have ht : Tryd.prog.underlying 22 = some (.slice (Tryd.prog.elem 22)) := by kernel_rfl
  have hs : (sizeOf (Tryd.prog.elem 22)).run Tryd.prog w = .ok 1 w := by
    obtain ⟨i0, hti, hi0, hi1, hi2⟩ := byteInfo
    have e : Tryd.prog.elem 22 = 5 := by kernel_rfl
    rw [e]
    simp [sizeOf, typeInfo, hti, hi1]
  rw [run_slice_l w 22 ad n cap ht .u64 (p : Int) (by omega) (by omega), hs]
  simp [Result.andThen, sliced, sv]
theorem sv_lf {F : Nat → Prop} {b : Nat} {ad : Option Addr} {n cap : Nat} (p q : Nat) (hq : q ≤ n) (h : Lf F b (.slice ad n cap)) : Lf F b (sv ad p q cap) := by
  intro a m c e hm
  unfold sv at e
  cases ad with
  | none => split at e <;> cases e
  | some d =>
    have hd := h d n cap rfl
    split at e
    · injection e with e1 e2 e3
      injection e1 with e1
      subst e1
      exact hd (by omega)
    · injection e with e1 e2 e3
      injection e1 with e1
      have hb : a.block = d.block := by
        rw [← e1]
        show (d.add p).block = d.block
        unfold Addr.add
        split <;> rfl
      rw [hb]
      exact hd (by omega)
set_option maxRecDepth 100000 in
set_option maxHeartbeats 1000000 in
theorem take_lack (b n : Nat) (F : Nat → Prop) (l : List Nat) (w : World) (h : Ro w b F l) (hn : l.length < n) (hn2 : n < 18446744073709551616) :
    Calls Tryd.prog 69 #[.pointer (some ⟨b, 0, none⟩), .int .u64 (n : Int)] w fun e w' => e = .panicked [{ v := .iface 28 (.int .i64 120), recovered := false }] ∧ w' = w := by
  obtain ⟨v, c1, hb, -⟩ := h.c1
  obtain ⟨ad, cap, rfl, -, -⟩ := hb.len
  have hle := h.le
  obtain ⟨m, hm⟩ : ∃ m, l.length = m := ⟨_, rfl⟩
  rw [hm] at c1 hn hle
  have hw : IntKind.u64.wrap (m : Int) = (m : Int) := by rw [IntKind.wrap_u64]; omega
  have hI : (m : Int) < (n : Int) := by omega
  clear hb h hm hn hle
  go_enter Tryd.func69, Tryd.ntmps69
  go_wp2
  exact ⟨rfl, rfl, rfl⟩
set_option maxRecDepth 100000 in
set_option maxHeartbeats 1000000 in
theorem take_some (b n : Nat) (F : Nat → Prop) (l : List Nat) (w : World) (h : Ro w b F l) (hn : n ≤ l.length) :
    Calls Tryd.prog 69 #[.pointer (some ⟨b, 0, none⟩), .int .u64 (n : Int)] w fun e w' => ∃ v, e = .returned v ∧ Bs w' v (l.take n) ∧ Lf F b v ∧ Ro w' b F (l.drop n) ∧ Kp (fun i => i = b) w w' := by
  obtain ⟨v, c1, hb, hf⟩ := h.c1
  obtain ⟨ad, cap, rfl, k1, k2⟩ := hb.len
  have hle := h.le
  have f1 := h.f1
  have HB : Hid (Bs w (sv ad 0 n cap) (l.take n) ∧ Lf F b (sv ad 0 n cap) ∧ Bs w (sv ad n l.length cap) (l.drop n) ∧ Lf F b (sv ad n l.length cap)) := by
    have h1 := sv_bs hb 0 n (Nat.zero_le _) hn
    have h2 := sv_bs hb n l.length hn (Nat.le_refl _)
    rw [List.drop_zero, Nat.sub_zero] at h1
    rw [List.take_of_length_le (by rw [List.length_drop]; omega)] at h2
    exact ⟨h1, sv_lf 0 n hn hf, h2, sv_lf n _ (Nat.le_refl _) hf⟩
  have HR : Hid (Ro w b F l) := h
  obtain ⟨m, hm⟩ : ∃ m, l.length = m := ⟨_, rfl⟩
  rw [hm] at c1 hn hle HB k1
  have s1 : (Instr.slice 22 (.slice ad m cap) none (some (.int .u64 (n : Int))) none).run Tryd.prog w = .ok (sv ad 0 n cap) w := sl_h w ad m cap n (by omega)
  have s2 : (Instr.slice 22 (.slice ad m cap) (some (.int .u64 (n : Int))) none none).run Tryd.prog w = .ok (sv ad n m cap) w := sl_l w ad m cap n (by omega)
  obtain ⟨A1, m1, d1, hs1⟩ : ∃ A1 m1 d1, sv ad 0 n cap = .slice A1 m1 d1 := ⟨_, _, _, rfl⟩
  obtain ⟨A2, m2, d2, hs2⟩ : ∃ A2 m2 d2, sv ad n m cap = .slice A2 m2 d2 := ⟨_, _, _, rfl⟩
  rw [hs1] at s1 HB
  rw [hs2] at s2 HB
  have hw : IntKind.u64.wrap (m : Int) = (m : Int) := by rw [IntKind.wrap_u64]; omega
  have hI : ¬ (m : Int) < (n : Int) := by omega
  clear hb h hm hn hle hs1 hs2 hf k1 k2
  go_enter Tryd.func69, Tryd.ntmps69
  go_wp2
  go_ret
  have hK : Kp (fun i => i = b) w (w.setCell ⟨b, 1, none⟩ (.slice A2 m2 d2)) := (Kp.refl (fun i => i = b) w).set (p := ⟨b, 1, none⟩) (Or.inl rfl) _
  have hR := HR.out
  obtain ⟨x1, x2, x3, x4⟩ := HB.out
  refine ⟨_, rfl, hK.bs x1 x2.nf, x2, ⟨?_, hR.fb, ?_, ⟨_, World.cell?_setCell_same' _ _ _ (by rw [c1]; rfl), hK.bs x3 x4.nf, x4⟩, ?_, ?_, ?_, fun c hc => hR.yt c (List.mem_of_mem_drop hc), ?_⟩, hK⟩
  · intro k hk; rw [World.size_setCell]; exact hR.lt k hk
  · rw [World.cell?_setCell_other _ _ _ _ (by simp)]; exact hR.c0
  · rw [World.cell?_setCell_other _ _ _ _ (by simp)]; exact hR.c2
  · rw [World.frozen?_setCell]; exact hR.f1
  · rw [World.frozen?_setCell]; exact hR.f2
  · rw [List.length_drop]; have := hR.le; omega
/-- How a reading ends: a thing and what is left, or an error. -/
def EndR {α : Type} (b : Nat) (F : Nat → Prop) (A : α → Value → World → Prop) (w : World) (r : Except Nat (α × List Nat)) (e : Ending) (w' : World) : Prop :=
  Kp (fun i => i = b) w w' ∧ match r with
  | .ok (x, t) => ∃ v, e = .returned v ∧ A x v w' ∧ Ro w' b F t
  | .error x => e = .panicked [{ v := .iface 28 (.int .i64 (x : Int)), recovered := false }] ∧ ∃ t, Ro w' b F t
theorem EndR.good {α : Type} {b : Nat} {F : Nat → Prop} {A : α → Value → World → Prop} {w w' : World} {r : Except Nat (α × List Nat)} {e : Ending} {x : α} {t : List Nat} (h : EndR b F A w r e w') (hr : r = .ok (x, t)) : Kp (fun i => i = b) w w' ∧ ∃ v, e = .returned v ∧ A x v w' ∧ Ro w' b F t := by subst hr; exact h
theorem EndR.bad {α : Type} {b : Nat} {F : Nat → Prop} {A : α → Value → World → Prop} {w w' : World} {r : Except Nat (α × List Nat)} {e : Ending} {x : Nat} (h : EndR b F A w r e w') (hr : r = .error x) : Kp (fun i => i = b) w w' ∧ e = .panicked [{ v := .iface 28 (.int .i64 (x : Int)), recovered := false }] ∧ ∃ t, Ro w' b F t := by subst hr; exact h
theorem EndR.mkGood {α : Type} {b : Nat} {F : Nat → Prop} {A : α → Value → World → Prop} {w w' : World} {r : Except Nat (α × List Nat)} {e : Ending} {x : α} {t : List Nat} (hr : r = .ok (x, t)) (h : Kp (fun i => i = b) w w' ∧ ∃ v, e = .returned v ∧ A x v w' ∧ Ro w' b F t) : EndR b F A w r e w' := by subst hr; exact h
theorem EndR.mkBad {α : Type} {b : Nat} {F : Nat → Prop} {A : α → Value → World → Prop} {w w' : World} {r : Except Nat (α × List Nat)} {e : Ending} {x : Nat} (hr : r = .error x) (h : Kp (fun i => i = b) w w' ∧ e = .panicked [{ v := .iface 28 (.int .i64 (x : Int)), recovered := false }] ∧ ∃ t, Ro w' b F t) : EndR b F A w r e w' := by subst hr; exact h
def AU (x : Nat) (v : Value) (_ : World) : Prop := v = .int .u64 (x : Int)
def AI (x : Int) (v : Value) (_ : World) : Prop := v = .int .i64 x
set_option maxRecDepth 100000 in
set_option maxHeartbeats 2000000 in
theorem count_any (b : Nat) (F : Nat → Prop) (l : List Nat) (w : World) (h : Ro w b F l) :
    Calls Tryd.prog 67 #[.pointer (some ⟨b, 0, none⟩)] w fun e w' => EndR b F AU w (rU l) e w' := by
  have HR : Hid (Ro w b F l) := h
  clear h
  go_enter Tryd.func67, Tryd.ntmps67
  go_upto_region 4 with fail
  go_loopw [3, 4] (fun s3 s4 wr => ∃ k a p t, k ≤ 9 ∧ p = 7 * k ∧ s3 = .int .u64 ((a : Nat) : Int) ∧ s4 = .int .i64 ((p : Nat) : Int) ∧ Hid (a < 2 ^ (7 * k)) ∧ Hid (Ro wr b F t) ∧ Hid (rdU t k a = rU l) ∧ Hid (Kp (fun i => i = b) w wr)) (fun _ s4 _ => 100 - (intOf s4).toNat)
  case atStart => exact ⟨0, 0, 0, l, by omega, rfl, rfl, rfl, by show (0 : Nat) < 1; omega, HR, rfl, Kp.refl _ _⟩
  case round =>
    clear HR
    obtain ⟨k, a, p, t, hk, hp, rfl, rfl, HA, HR, HE, HK⟩ := hrel
    cases t with
    | nil =>
      have HX : Hid (rU l = .error 120) := by show _ = _; rw [← HE.out]; rfl
      clear hp
      go_wp2_with fail
      refine (take_lack b 1 F _ _ HR.out (by simp) (by omega)).mono ?_
      rintro e w1 ⟨rfl, rfl⟩
      go_wp2
      exact ⟨rfl, EndR.mkBad HX.out ⟨HK.out, rfl, _, HR.out⟩⟩
    | cons c t =>
      have hc : c < 256 := HR.out.yt c (List.mem_cons_self ..)
      have HP : Hid (p = 7 * k) := hp
      clear hp
      go_wp2_with fail
      refine (take_some b 1 F _ _ HR.out (by simp)).mono ?_
      rintro e w1 ⟨v1, rfl, hb1, -, hR1, hK1⟩
      have HR1 : Hid (Ro w1 b F t) := hR1
      have HK1 : Hid (Kp (fun i => i = b) w w1) := HK.out.trans hK1 (fun i hi => Or.inl hi)
      obtain ⟨g, o, cap, e1, c1⟩ := hb1.at 0 (by simp)
      have e2 : v1 = .slice (some ⟨g, o, none⟩) 1 cap := by simpa using e1
      have c2 : w1.cell? ⟨g, o, none⟩ = some (.int .u8 (c : Int)) := by simpa using c1
      subst e2
      clear hR1 hK1 HR HK hb1 e1 c1
      by_cases hz : c = 0 ∧ 0 < k
      · have HX : Hid (rU l = .error 121) := by
          show _ = _
          rw [← HE.out]
          exact rd_long (by omega) (by omega) hz
        have hzI : (c : Int) = 0 := by omega
        have hkI : (0 : Int) < (p : Int) := by have := HP.out; omega
        go_wp2
        exact ⟨rfl, EndR.mkBad HX.out ⟨HK1.out, rfl, _, HR1.out⟩⟩
      · by_cases q1 : k = 9 ∧ 1 < c
        · have HX : Hid (rU l = .error 121) := by show _ = _; rw [← HE.out]; exact rd_form q1
          have q2I : (1 : Int) < (c : Int) := by omega
          have hpI : (p : Int) = 63 := by have := HP.out; omega
          have hzI : ¬ (c : Int) = 0 := by omega
          have hkI : (0 : Int) < (p : Int) := by omega
          go_wp2
          exact ⟨rfl, EndR.mkBad HX.out ⟨HK1.out, rfl, _, HR1.out⟩⟩
        · obtain ⟨x, hx⟩ : ∃ x, c % 128 = x := ⟨_, rfl⟩
          have hx2 : x < 128 := by omega
          obtain ⟨s1, s2⟩ := sum7 hk HA.out hx2 hx q1
          obtain ⟨y, hy⟩ : ∃ y, x * 2 ^ (7 * k) = y := ⟨_, rfl⟩
          obtain ⟨s, hs⟩ : ∃ s, a + c % 128 * 2 ^ (7 * k) = s := ⟨_, rfl⟩
          have HS : Hid (a + y = s) := by
            show _ = _
            rw [← hs, hx, hy]
          have hand : bits .andNot .u8 (c : Int) 128 = (x : Int) := by
            have h := u8_andNot_nat c 128 hc (by omega)
            rw [show 255 - 128 = 127 by rfl, and_127, hx] at h
            exact h
          have hw2 : IntKind.u64.wrap (x : Int) = (x : Int) := by rw [IntKind.wrap_u64]; omega
          have hyI : (x : Int) * 2 ^ p = (y : Int) := by rw [← hy, Int.natCast_mul, Int.natCast_pow, HP.out]; rfl
          have hor : bits .or .u64 (a : Int) (y : Int) = (s : Int) := by
            rw [or64p a y (by omega) (by omega), ← hy, or_plus HA.out, hy, HS.out]
          rw [hy] at s1 s2
          have hw3 : IntKind.u64.wrap (y : Int) = (y : Int) := by rw [IntKind.wrap_u64]; omega
          have h70 : ¬ ((p : Int) < 0) := by omega
          have h64 : p < 64 := by have := HP.out; omega
          have hcnd : ∀ A B C D : Bool, A = decide ((0 : Int) < (p : Int)) → B = decide ((c : Int) = 0) → C = decide ((p : Int) = 63) → D = decide ((1 : Int) < (c : Int)) → (A && B || C && D) = false := by
            intro A B C D hA hB hC hD
            subst hA hB hC hD
            have := HP.out
            simp
            omega
          by_cases hc2 : c < 128
          · have HX : Hid (rU l = .ok (s, t)) := by show _ = _; rw [← HE.out, rd_last q1 hc2 hz, hs]
            have hc2I : (c : Int) < 128 := by omega
            have fin : Hid (EndR b F AU w (rU l) (.returned (.int .u64 (s : Int))) w1) := EndR.mkGood HX.out ⟨HK1.out, _, rfl, rfl, HR1.out⟩
            clear HX HE HS hs hcnd
            by_cases h9 : k = 9
            · have hpI : (p : Int) = 63 := by have := HP.out; omega
              have hcI : ¬ (1 : Int) < (c : Int) := by omega
              have hkI : (0 : Int) < (p : Int) := by omega
              have hzI : ¬ (c : Int) = 0 := by omega
              have hy5 : (x : Int) * 9223372036854775808 = (y : Int) := by
                have e : y = x * 9223372036854775808 := by rw [← hy, h9]
                omega
              have hdd : (((c : Int) == 0) || decide ((1 : Int) < (c : Int))) = false := by simp; omega
              clear h9 hyI hy
              go_wp2
              go_ret
              exact fin.out
            · have hpI : ¬ (p : Int) = 63 := by have := HP.out; omega
              by_cases hk0 : 0 < k
              · have hkI : (0 : Int) < (p : Int) := by have := HP.out; omega
                have hzI : ¬ (c : Int) = 0 := by omega
                go_wp2
                go_ret
                exact fin.out
              · have hkI : ¬ (0 : Int) < (p : Int) := by have := HP.out; omega
                go_wp2
                go_ret
                exact fin.out
          · have HX : Hid (rdU t (k + 1) s = rU l) := by show _ = _; rw [← HE.out, rd_more q1 hc2, hs]
            have hc2I : ¬ (c : Int) < 128 := by omega
            have hpI : ¬ (p : Int) = 63 := by have := HP.out; omega
            have hzI : ¬ (c : Int) = 0 := by omega
            have HA2 : Hid (s < 2 ^ (7 * (k + 1))) := by
              show _ < _
              rw [← HS.out, ← hy]
              exact next7 HA.out hx2
            have hp1 : IntKind.i64.wrap ((p : Int) + 7) = ((p + 7 : Nat) : Int) := by have := HP.out; rw [IntKind.wrap_i64]; omega
            clear HE HS hs HA hcnd
            by_cases hk0 : 0 < k
            · have hkI : (0 : Int) < (p : Int) := by have := HP.out; omega
              go_wp2
              go_roundw
              case rel => exact ⟨k + 1, s, p + 7, t, by omega, by have := HP.out; omega, rfl, rfl, HA2, HR1, HX, HK1⟩
              case measure => have := HP.out; simp [intOf]; omega
            · have hkI : ¬ (0 : Int) < (p : Int) := by have := HP.out; omega
              go_wp2
              go_roundw
              case rel => exact ⟨k + 1, s, p + 7, t, by omega, by have := HP.out; omega, rfl, rfl, HA2, HR1, HX, HK1⟩
              case measure => have := HP.out; simp [intOf]; omega
end Go.Proofs.YtfcbgkcclganmaaDoor
