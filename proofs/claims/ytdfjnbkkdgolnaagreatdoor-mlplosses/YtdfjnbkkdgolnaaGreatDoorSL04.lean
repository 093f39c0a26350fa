/-
  Texts of this proof, joined: EMathA LMath PWalkD LWalkA LWalkC LMath2 LRow LWalkH LWalkE LWalkF LWalkE2.
-/
import Derived.Test.YtdfjnbkkdgolnaaGreatDoorProg
import Derived.Test.YtdfjnbkkdgolnaaGreatDoorSL03
import Derived.Laws.MakeOwn
import Derived.OwnWalk
import Derived.Deep.QuietTactic
import Derived.BigQuiet
import Derived.Deep.RegionHeld3
import Derived.Maps.AppendAt
set_option linter.unusedVariables false
set_option linter.unusedSimpArgs false
namespace Go.Proofs.YtdfjnbkkdgolnaaGreatDoor
/-- So many steps. -/
def itr (g : Nat → Nat) : Nat → Nat → Nat
  | 0, x => x
  | m + 1, x => g (itr g m x)
theorem itr_lt (g : Nat → Nat) (N : Nat) (hg : ∀ x, x < N → g x < N) (x : Nat) (hx : x < N) (m : Nat) : itr g m x < N := by
  induction m with
  | zero => exact hx
  | succ m ih => exact hg _ ih
/-- Steps back undo steps. -/
theorem itr_back (g u : Nat → Nat) (N : Nat) (hg : ∀ x, x < N → g x < N) (hu : ∀ x, x < N → u (g x) = x) (x : Nat) (hx : x < N) (m k : Nat) (hk : k ≤ m) : itr u k (itr g m x) = itr g (m - k) x := by
  induction k with
  | zero => simp [itr]
  | succ k ih =>
    show u (itr u k (itr g m x)) = _
    rw [ih (by omega), show m - k = (m - (k + 1)) + 1 by omega]
    exact hu _ (itr_lt g N hg x hx _)
theorem least (P : Nat → Prop) [DecidablePred P] (m : Nat) (h : P m) : ∃ q, P q ∧ q ≤ m ∧ ∀ k, k < q → ¬ P k := by
  induction m using Nat.strongRecOn with
  | _ m ih =>
    by_cases hk : ∃ k, k < m ∧ P k
    · obtain ⟨k, hk, hp⟩ := hk
      obtain ⟨q, h1, h2, h3⟩ := ih k hk hp
      exact ⟨q, h1, by omega, h3⟩
    · exact ⟨m, h, Nat.le_refl _, fun k hk' hp => hk ⟨k, hk', hp⟩⟩
/-- x is where i comes to first below n. -/
def Gets (g : Nat → Nat) (n i x : Nat) : Prop := ∃ m, 1 ≤ m ∧ itr g m i = x ∧ x < n ∧ ∀ k, 1 ≤ k → k < m → n ≤ itr g k i
theorem Gets.one {g : Nat → Nat} {n i x y : Nat} (h : Gets g n i x) (h' : Gets g n i y) : x = y := by
  obtain ⟨m, a1, a2, a3, a4⟩ := h
  obtain ⟨q, b1, b2, b3, b4⟩ := h'
  rcases Nat.lt_trichotomy m q with hl | rfl | hl
  · have := b4 m a1 hl; omega
  · omega
  · have := a4 q b1 hl; omega
theorem Gets.back {g u : Nat → Nat} {n i x N : Nat} (hg : ∀ x, x < N → g x < N) (hu : ∀ x, x < N → u (g x) = x) (hn : n ≤ N) (hi : i < n) (h : Gets g n i x) : Gets u n x i := by
  obtain ⟨m, a1, a2, a3, a4⟩ := h
  subst a2
  refine ⟨m, a1, ?_, hi, fun k k1 k2 => ?_⟩
  · rw [itr_back g u N hg hu i (by omega) m m (Nat.le_refl _), Nat.sub_self]; rfl
  · rw [itr_back g u N hg hu i (by omega) m k (by omega)]
    exact a4 (m - k) (by omega) (by omega)
/-- A round: t's number of r to l. -/
def rnd1 (f : Nat → Nat → Nat) (t : Nat) (p : Nat × Nat) : Nat × Nat := (p.2, p.1 ^^^ f t p.2)
def dnr1 (f : Nat → Nat → Nat) (t : Nat) (p : Nat × Nat) : Nat × Nat := (p.2 ^^^ f t p.1, p.1)
theorem dnr_rnd (f : Nat → Nat → Nat) (t : Nat) (p : Nat × Nat) : dnr1 f t (rnd1 f t p) = p := by
  unfold dnr1 rnd1
  simp [Nat.xor_assoc, Nat.xor_self]
theorem rnd_dnr (f : Nat → Nat → Nat) (t : Nat) (p : Nat × Nat) : rnd1 f t (dnr1 f t p) = p := by
  unfold dnr1 rnd1
  simp [Nat.xor_assoc, Nat.xor_self]
/-- So many rounds, from 0 on. -/
def rnds (f : Nat → Nat → Nat) : Nat → Nat × Nat → Nat × Nat
  | 0, p => p
  | t + 1, p => rnd1 f t (rnds f t p)
/-- So many rounds back, down to 0. -/
def dnrs (f : Nat → Nat → Nat) : Nat → Nat × Nat → Nat × Nat
  | 0, p => p
  | t + 1, p => dnrs f t (dnr1 f t p)
theorem dnrs_rnds (f : Nat → Nat → Nat) (t : Nat) (p : Nat × Nat) : dnrs f t (rnds f t p) = p := by
  induction t with
  | zero => rfl
  | succ t ih => show dnrs f t (dnr1 f t (rnd1 f t (rnds f t p))) = p; rw [dnr_rnd, ih]
theorem rnds_dnrs (f : Nat → Nat → Nat) (t : Nat) (p : Nat × Nat) : rnds f t (dnrs f t p) = p := by
  induction t generalizing p with
  | zero => rfl
  | succ t ih => show rnd1 f t (rnds f t (dnrs f t (dnr1 f t p))) = p; rw [ih, rnd_dnr]
theorem rnds_lt (f : Nat → Nat → Nat) (b : Nat) (hf : ∀ t r, f t r < 2 ^ b) (t : Nat) (p : Nat × Nat) (h : p.1 < 2 ^ b ∧ p.2 < 2 ^ b) : (rnds f t p).1 < 2 ^ b ∧ (rnds f t p).2 < 2 ^ b := by
  induction t with
  | zero => exact h
  | succ t ih => exact ⟨ih.2, Nat.xor_lt_two_pow ih.1 (hf _ _)⟩
theorem dnrs_lt (f : Nat → Nat → Nat) (b : Nat) (hf : ∀ t r, f t r < 2 ^ b) (t : Nat) (p : Nat × Nat) (h : p.1 < 2 ^ b ∧ p.2 < 2 ^ b) : (dnrs f t p).1 < 2 ^ b ∧ (dnrs f t p).2 < 2 ^ b := by
  induction t generalizing p with
  | zero => exact h
  | succ t ih => exact ih _ ⟨Nat.xor_lt_two_pow h.2 (hf _ _), h.1⟩
/-- A trip, and one back. -/
def trp (f : Nat → Nat → Nat) (S x : Nat) : Nat := (rnds f 4 (x / S, x % S)).1 * S + (rnds f 4 (x / S, x % S)).2
def prt (f : Nat → Nat → Nat) (S x : Nat) : Nat := (dnrs f 4 (x / S, x % S)).1 * S + (dnrs f 4 (x / S, x % S)).2
theorem joined (S : Nat) (p : Nat × Nat) (h : p.2 < S) : ((p.1 * S + p.2) / S, (p.1 * S + p.2) % S) = p := by
  have h1 : (p.1 * S + p.2) / S = p.1 := by
    rw [Nat.mul_comm, Nat.mul_add_div (by omega), Nat.div_eq_of_lt h, Nat.add_zero]
  have h2 : (p.1 * S + p.2) % S = p.2 := by rw [Nat.mul_comm, Nat.mul_add_mod, Nat.mod_eq_of_lt h]
  rw [h1, h2]
theorem parts_lt (b x : Nat) (hx : x < 2 ^ b * 2 ^ b) : x / 2 ^ b < 2 ^ b ∧ x % 2 ^ b < 2 ^ b :=
  ⟨Nat.div_lt_of_lt_mul hx, Nat.mod_lt _ (Nat.two_pow_pos b)⟩
theorem join_lt (S l r : Nat) (hl : l < S) (hr : r < S) : l * S + r < S * S := by
  have := Nat.mul_le_mul_right S (show l + 1 ≤ S by omega)
  rw [Nat.succ_mul] at this
  omega
theorem trp_lt (f : Nat → Nat → Nat) (b : Nat) (hf : ∀ t r, f t r < 2 ^ b) (x : Nat) (hx : x < 2 ^ b * 2 ^ b) : trp f (2 ^ b) x < 2 ^ b * 2 ^ b := by
  obtain ⟨h1, h2⟩ := rnds_lt f b hf 4 (x / 2 ^ b, x % 2 ^ b) (parts_lt b x hx)
  exact join_lt _ _ _ h1 h2
theorem prt_lt (f : Nat → Nat → Nat) (b : Nat) (hf : ∀ t r, f t r < 2 ^ b) (x : Nat) (hx : x < 2 ^ b * 2 ^ b) : prt f (2 ^ b) x < 2 ^ b * 2 ^ b := by
  obtain ⟨h1, h2⟩ := dnrs_lt f b hf 4 (x / 2 ^ b, x % 2 ^ b) (parts_lt b x hx)
  exact join_lt _ _ _ h1 h2
theorem prt_trp (f : Nat → Nat → Nat) (b : Nat) (hf : ∀ t r, f t r < 2 ^ b) (x : Nat) (hx : x < 2 ^ b * 2 ^ b) : prt f (2 ^ b) (trp f (2 ^ b) x) = x := by
  obtain ⟨h1, h2⟩ := rnds_lt f b hf 4 (x / 2 ^ b, x % 2 ^ b) (parts_lt b x hx)
  unfold prt trp
  rw [joined _ _ h2, dnrs_rnds]
  dsimp only
  rw [Nat.mul_comm]
  exact Nat.div_add_mod x (2 ^ b)
theorem trp_prt (f : Nat → Nat → Nat) (b : Nat) (hf : ∀ t r, f t r < 2 ^ b) (x : Nat) (hx : x < 2 ^ b * 2 ^ b) : trp f (2 ^ b) (prt f (2 ^ b) x) = x := by
  obtain ⟨h1, h2⟩ := dnrs_lt f b hf 4 (x / 2 ^ b, x % 2 ^ b) (parts_lt b x hx)
  unfold prt trp
  rw [joined _ _ h2, rnds_dnrs]
  dsimp only
  rw [Nat.mul_comm]
  exact Nat.div_add_mod x (2 ^ b)
end Go.Proofs.YtdfjnbkkdgolnaaGreatDoor
set_option linter.unusedVariables false
set_option linter.unusedSimpArgs false
namespace Go.Proofs.YtdfjnbkkdgolnaaGreatDoor

/-- How many parameters a layer has. -/
def lyN (z : Nat → Nat) (l : Nat) : Nat := z l * z (l + 1) + z (l + 1)
/-- Where a layer's parameters begin. -/
def fsN (z : Nat → Nat) : Nat → Nat
  | 0 => 0
  | l + 1 => fsN z l + lyN z l
/-- Sizes that are right. -/
def Szs (z : Nat → Nat) (m : Nat) : Prop := 2 ≤ m ∧ m ≤ 6 ∧ ∀ i, i < m → 1 ≤ z i ∧ z i ≤ 64
theorem lyN_le (z : Nat → Nat) (m l : Nat) (h : ∀ i, i < m → 1 ≤ z i ∧ z i ≤ 64) (hl : l + 1 < m) : lyN z l ≤ 4160 ∧ 2 ≤ lyN z l := by
  have h1 := h l (by omega)
  have h2 := h (l + 1) hl
  have h3 : z l * z (l + 1) ≤ 64 * 64 := Nat.mul_le_mul h1.2 h2.2
  have h4 : 1 * 1 ≤ z l * z (l + 1) := Nat.mul_le_mul h1.1 h2.1
  unfold lyN
  omega
theorem fsN_le (z : Nat → Nat) (m l : Nat) (h : ∀ i, i < m → 1 ≤ z i ∧ z i ≤ 64) (hl : l < m) : fsN z l ≤ 4160 * l := by
  induction l with
  | zero => exact Nat.le_refl _
  | succ l ih =>
    have h1 := ih (by omega)
    have h2 := (lyN_le z m l h hl).1
    show fsN z l + lyN z l ≤ _
    omega
theorem fsN_mono (z : Nat → Nat) {a b : Nat} (h : a ≤ b) : fsN z a ≤ fsN z b := by
  induction b with
  | zero => obtain rfl : a = 0 := by omega
            exact Nat.le_refl _
  | succ b ih =>
    rcases Nat.lt_or_ge a (b + 1) with h1 | h1
    · have := ih (by omega)
      show _ ≤ fsN z b + lyN z b
      omega
    · obtain rfl : a = b + 1 := by omega
      exact Nat.le_refl _
end Go.Proofs.YtdfjnbkkdgolnaaGreatDoor
set_option linter.unusedVariables false
set_option linter.unusedSimpArgs false
namespace Go.Proofs.YtdfjnbkkdgolnaaGreatDoor
open Go.RowKit

/-- A row of so many cells. -/
structure Rw (b n : Nat) (h : Nat → Value) (w : World) : Prop where
  c : ∀ k, k < n → w.cell? ⟨b, k, none⟩ = some (h k)
  f : ∀ k, k < n → w.frozen? ⟨b, k, none⟩ = false
theorem Rw.later {b n : Nat} {h : Nat → Value} {w w' : World} (r : Rw b n h w) (hb : Below w.heap.size w w') : Rw b n h w' :=
  ⟨fun k hk => cell_later hb (r.c k hk), fun k hk => frozen_later hb (r.c k hk) (r.f k hk)⟩
theorem Rw.block {b n : Nat} {h : Nat → Value} {w w' : World} (r : Rw b n h w) (hb : w'.heap[b]? = w.heap[b]?) : Rw b n h w' :=
  ⟨fun k hk => (World.cell?_of_block (w := w) hb).trans (r.c k hk), fun k hk => (World.frozen?_of_block (w := w) hb).trans (r.f k hk)⟩
theorem Rw.far {b n : Nat} {h : Nat → Value} {w : World} {p : Addr} (r : Rw b n h w) (u : Value) (hp : p.block ≠ b) : Rw b n h (w.setCell p u) :=
  ⟨fun k hk => cell_set hp (r.c k hk), fun k hk => by rw [World.frozen?_setCell]; exact r.f k hk⟩
theorem Rw.set {b n : Nat} {h : Nat → Value} {w : World} (r : Rw b n h w) (j : Nat) (u : Value) : Rw b n (fun k => if k = j then u else h k) (w.setCell ⟨b, j, none⟩ u) := by
  refine ⟨fun k hk => ?_, fun k hk => by rw [World.frozen?_setCell]; exact r.f k hk⟩
  by_cases e : k = j
  · subst e
    simp only [if_true]
    exact World.cell?_setCell_same' _ _ _ (by rw [r.c k hk]; rfl)
  · simp only [if_neg e]
    exact (World.cell?_setCell_other _ _ _ _ (by first | (simp; done) | (simp; omega))).trans (r.c k hk)
theorem Rw.congr {b n : Nat} {h g : Nat → Value} {w : World} (r : Rw b n h w) (e : ∀ k, k < n → h k = g k) : Rw b n g w :=
  ⟨fun k hk => by rw [r.c k hk, e k hk], r.f⟩
theorem made_get (z : Value) (n k : Nat) (hk : k < n) : (madeCells #[z] n)[k]? = some z := by
  unfold madeCells
  rw [Array.getElem?_map, Array.getElem?_eq_getElem (by simpa using hk)]
  simp [Nat.mod_one]
theorem Rw.made (w : World) (z : Value) (n : Nat) (t : TypeId) : Rw w.heap.size n (fun _ => z) (w.alloc (.cells (madeCells #[z] n) t)) := by
  refine ⟨fun k hk => ?_, fun k hk => ?_⟩
  · have := made_get z n k hk
    simp [go_sem, this]
  · simp [go_sem]
theorem dinfo_fx : (Tryz.prog.info? 41).map (fun i => (i.zero, i.size, i.bytes)) = some (some (.int .i64 0), 1, 8) := by kernel_rfl
theorem make_fx (n : Nat) (hn : n ≤ 1000000) (w : World) : (Instr.makeSlice 23 (.int .i64 (n : Int)) (.int .i64 (n : Int))).run Tryz.prog w = .ok (.slice (some ⟨w.heap.size, 0, none⟩) n n) (w.alloc (.cells (madeCells #[.int .i64 0] n) 41)) := by
  obtain ⟨i0, hi, hz0, hz1, hz2⟩ := info_parts dinfo_fx
  have h := run_make (P := Tryz.prog) w 23 41 i0 (.int .i64 0) Tryz.underlying23 hi hz0 .i64 .i64 (n : Int) (n : Int) (by omega) (by omega) (by rw [hz2]; omega) (by omega)
  rw [hz1, Nat.mul_one] at h
  exact h
theorem Ar.at {w : World} {adr : Option Addr} {n cap : Nat} {f : Nat → Int} (h : Ar w (.slice adr n cap) n f) (j : Nat) (hj : j < n) : ∃ b o, adr = some ⟨b, o, none⟩ ∧ w.cell? ⟨b, o + j, none⟩ = some (.int .i64 (f j)) ∧ -9223372036854775808 ≤ f j ∧ f j ≤ 9223372036854775807 := by
  obtain ⟨ad, ca, b, o, e, -, -, h3, h4⟩ := h
  cases e
  exact ⟨b, o, h3 (by omega), (h4 j hj).1, (h4 j hj).2⟩
theorem Rw.ar {b n : Nat} {F : Nat → Int} {w : World} (r : Rw b n (fun k => .int .i64 (F k)) w) (hn : n ≤ 1000000) (hF : ∀ k, k < n → -9223372036854775808 ≤ F k ∧ F k ≤ 9223372036854775807) : Ar w (.slice (some ⟨b, 0, none⟩) n n) n F :=
  ⟨some ⟨b, 0, none⟩, n, b, 0, rfl, Nat.le_refl _, by unfold maxLen; omega, fun _ => rfl, fun k hk => ⟨by rw [Nat.zero_add]; exact r.c k hk, hF k hk⟩⟩

set_option maxRecDepth 100000 in
set_option maxHeartbeats 4000000 in
theorem each_scaled (p q : Value) (S : Nat → World → Prop) (va : Value) (n : Nat) (f F : Nat → Int) (w : World) (hn : n ≤ 70000) (hA : Ar w va n f)
    (S0 : S 0 w) (SL : ∀ j W W', S j W → Below W.heap.size W W' → S j W') (SS : ∀ j W (a : Addr) u, w.heap.size ≤ a.block → S j W → S j (W.setCell a u)) (SA : ∀ j W, S j W → Ar W va n f) (hF : ∀ k, k < n → -9223372036854775808 ≤ F k ∧ F k ≤ 9223372036854775807)
    (HS : ∀ j W, j < n → w.heap.size < W.heap.size → S j W → Calls Tryz.prog 152 #[.int .i64 (f j), p, q] W fun e w' => e = .returned (.int .i64 (F j)) ∧ S (j + 1) w' ∧ w'.heap[w.heap.size]? = W.heap[w.heap.size]? ∧ W.heap.size ≤ w'.heap.size) :
    Calls Tryz.prog 151 #[va, .func (.func 152) #[] #[p, q]] w fun e w' => e = .returned (.slice (some ⟨w.heap.size, 0, none⟩) n n) ∧ S n w' ∧ Ar w' (.slice (some ⟨w.heap.size, 0, none⟩) n n) n F := by
  obtain ⟨adr, cap, b, o, rfl, k1, k2, -, -⟩ := id hA
  unfold maxLen at *
  have hmk := make_fx n (by omega)
  have hR0 := Rw.made w (.int .i64 0) n 41
  have hS0 : Hid (S 0 (w.alloc (.cells (madeCells #[.int .i64 0] n) 41))) := SL 0 _ _ S0 (bel1 _ _)
  have hz0 : w.heap.size < (w.alloc (.cells (madeCells #[.int .i64 0] n) 41)).heap.size := by rw [World.size_alloc]; omega
  have HSA : Hid (∀ j W, S j W → Ar W (.slice adr n cap) n f) := SA
  have HHS : Hid (∀ j W, j < n → w.heap.size < W.heap.size → S j W → Calls Tryz.prog 152 #[.int .i64 (f j), p, q] W fun e w' => e = .returned (.int .i64 (F j)) ∧ S (j + 1) w' ∧ w'.heap[w.heap.size]? = W.heap[w.heap.size]? ∧ W.heap.size ≤ w'.heap.size) := HS
  have HSS : Hid (∀ j W (a : Addr) u, w.heap.size ≤ a.block → S j W → S j (W.setCell a u)) := SS
  have HF : Hid (∀ k, k < n → -9223372036854775808 ≤ F k ∧ F k ≤ 9223372036854775807) := hF
  clear SA HS SS SL S0 hF hA
  go_enter Tryz.func151, Tryz.ntmps151
  go_upto_region 3 with fail
  generalize w.alloc (.cells (madeCells #[.int .i64 0] n) 41) = w0 at *
  clear hmk
  go_loopw [13] (fun si wr => ∃ j : Nat, j ≤ n ∧ si = .int .i64 (j : Int) ∧ Hid (S j wr) ∧ Hid (Rw w.heap.size n (fun k => if k < j then .int .i64 (F k) else .int .i64 0) wr) ∧ w.heap.size < wr.heap.size) (fun si _ => n - (intOf si).toNat)
  case atStart =>
    exact ⟨0, by omega, rfl, hS0, hR0.congr (fun k hk => by simp), hz0⟩
  case round =>
    obtain ⟨j, hj, rfl, hS, hR, hz⟩ := hrel
    by_cases hlt : j < n
    · have hjI : (j : Int) < (n : Int) := by omega
      obtain ⟨b, o, rfl, cA, -, -⟩ := (HSA.out j wr hS.out).at j hlt
      have CM : Hid (Calls Tryz.prog 152 #[.int .i64 (f j), p, q] wr fun e w' => e = .returned (.int .i64 (F j)) ∧ S (j + 1) w' ∧ w'.heap[w.heap.size]? = wr.heap[w.heap.size]? ∧ wr.heap.size ≤ w'.heap.size) := HHS.out j wr hlt hz hS.out
      clear hS
      go_wp2_with (go_at_call 152; refine CM.out.mono ?_; rintro e wz ⟨rfl, hSz, hbz, hsz⟩; have HSz : Hid (S (j + 1) wz) := hSz; have HRz := hR.out.block hbz; have cz : wz.cell? ⟨w.heap.size, j, none⟩ = some (.int .i64 0) := (by have := HRz.c j hlt; rw [if_neg (by omega)] at this; exact this); have fz := HRz.f j hlt; replace HRz : Hid _ := HRz; clear hSz hbz hR cA)
      have hS2 : Hid (S (j + 1) (wz.setCell ⟨w.heap.size, j, none⟩ (.int .i64 (F j)))) := HSS.out _ _ _ _ (Nat.le_refl _) HSz.out
      have hR2 : Hid (Rw w.heap.size n (fun k => if k < j + 1 then .int .i64 (F k) else .int .i64 0) (wz.setCell ⟨w.heap.size, j, none⟩ (.int .i64 (F j)))) := (HRz.out.set j (.int .i64 (F j))).congr (fun k hk => by
        by_cases e : k = j
        · subst e; simp
        · rw [if_neg e]
          by_cases e2 : k < j
          · rw [if_pos e2, if_pos (by omega)]
          · rw [if_neg e2, if_neg (by omega)])
      have hz2 : w.heap.size < (wz.setCell ⟨w.heap.size, j, none⟩ (.int .i64 (F j))).heap.size := by rw [World.size_setCell]; omega
      go_roundw
      case rel => exact ⟨j + 1, by omega, by go_num, hS2, hR2, hz2⟩
      case measure => simp [intOf]; omega
    · obtain rfl : j = n := by omega
      have hjI : ¬ (j : Int) < (j : Int) := by omega
      have hAr : Hid (Ar wr (.slice (some ⟨w.heap.size, 0, none⟩) j j) j F) := (hR.out.congr (fun k hk => by rw [if_pos hk])).ar (by omega) HF.out
      clear hR
      go_wp2
      go_ret
      exact ⟨rfl, hS.out, hAr.out⟩

set_option maxRecDepth 100000 in
set_option maxHeartbeats 4000000 in
theorem pairs_Sub (p : Value) (S : Nat → World → Prop) (va vb : Value) (n : Nat) (f g F : Nat → Int) (w : World) (hn : n ≤ 70000) (hA : Ar w va n f) (hB : Ar w vb n g)
    (S0 : S 0 w) (SL : ∀ j W W', S j W → Below W.heap.size W W' → S j W') (SS : ∀ j W (a : Addr) u, w.heap.size ≤ a.block → S j W → S j (W.setCell a u)) (SA : ∀ j W, S j W → Ar W va n f ∧ Ar W vb n g) (hF : ∀ k, k < n → -9223372036854775808 ≤ F k ∧ F k ≤ 9223372036854775807)
    (HS : ∀ j W, j < n → w.heap.size < W.heap.size → S j W → Calls Tryz.prog 193 #[p, .int .i64 (f j), .int .i64 (g j)] W fun e w' => e = .returned (.int .i64 (F j)) ∧ S (j + 1) w' ∧ w'.heap[w.heap.size]? = W.heap[w.heap.size]? ∧ W.heap.size ≤ w'.heap.size) :
    Calls Tryz.prog 194 #[va, vb, .func (.func 193) #[p] #[]] w fun e w' => e = .returned (.slice (some ⟨w.heap.size, 0, none⟩) n n) ∧ S n w' ∧ Ar w' (.slice (some ⟨w.heap.size, 0, none⟩) n n) n F := by
  obtain ⟨adr, cap, b, o, rfl, k1, k2, -, -⟩ := id hA
  obtain ⟨adq, caq, bq, oq, rfl, q1, q2, -, -⟩ := id hB
  unfold maxLen at *
  have hmk := make_fx n (by omega)
  have hR0 := Rw.made w (.int .i64 0) n 41
  have hS0 : Hid (S 0 (w.alloc (.cells (madeCells #[.int .i64 0] n) 41))) := SL 0 _ _ S0 (bel1 _ _)
  have hz0 : w.heap.size < (w.alloc (.cells (madeCells #[.int .i64 0] n) 41)).heap.size := by rw [World.size_alloc]; omega
  have HSA : Hid (∀ j W, S j W → Ar W (.slice adr n cap) n f ∧ Ar W (.slice adq n caq) n g) := SA
  have HHS : Hid (∀ j W, j < n → w.heap.size < W.heap.size → S j W → Calls Tryz.prog 193 #[p, .int .i64 (f j), .int .i64 (g j)] W fun e w' => e = .returned (.int .i64 (F j)) ∧ S (j + 1) w' ∧ w'.heap[w.heap.size]? = W.heap[w.heap.size]? ∧ W.heap.size ≤ w'.heap.size) := HS
  have HSS : Hid (∀ j W (a : Addr) u, w.heap.size ≤ a.block → S j W → S j (W.setCell a u)) := SS
  have HF : Hid (∀ k, k < n → -9223372036854775808 ≤ F k ∧ F k ≤ 9223372036854775807) := hF
  clear SA HS SS SL S0 hF hA hB
  go_enter Tryz.func194, Tryz.ntmps194
  go_upto_region 3 with fail
  generalize w.alloc (.cells (madeCells #[.int .i64 0] n) 41) = w0 at *
  clear hmk
  go_loopw [15] (fun si wr => ∃ j : Nat, j ≤ n ∧ si = .int .i64 (j : Int) ∧ Hid (S j wr) ∧ Hid (Rw w.heap.size n (fun k => if k < j then .int .i64 (F k) else .int .i64 0) wr) ∧ w.heap.size < wr.heap.size) (fun si _ => n - (intOf si).toNat)
  case atStart =>
    exact ⟨0, by omega, rfl, hS0, hR0.congr (fun k hk => by simp), hz0⟩
  case round =>
    obtain ⟨j, hj, rfl, hS, hR, hz⟩ := hrel
    by_cases hlt : j < n
    · have hjI : (j : Int) < (n : Int) := by omega
      obtain ⟨b, o, rfl, cA, -, -⟩ := (HSA.out j wr hS.out).1.at j hlt
      obtain ⟨bq, oq, rfl, cB, -, -⟩ := (HSA.out j wr hS.out).2.at j hlt
      have CM : Hid (Calls Tryz.prog 193 #[p, .int .i64 (f j), .int .i64 (g j)] wr fun e w' => e = .returned (.int .i64 (F j)) ∧ S (j + 1) w' ∧ w'.heap[w.heap.size]? = wr.heap[w.heap.size]? ∧ wr.heap.size ≤ w'.heap.size) := HHS.out j wr hlt hz hS.out
      clear hS
      go_wp2_with (go_at_call 193; refine CM.out.mono ?_; rintro e wz ⟨rfl, hSz, hbz, hsz⟩; have HSz : Hid (S (j + 1) wz) := hSz; have HRz := hR.out.block hbz; have cz : wz.cell? ⟨w.heap.size, j, none⟩ = some (.int .i64 0) := (by have := HRz.c j hlt; rw [if_neg (by omega)] at this; exact this); have fz := HRz.f j hlt; replace HRz : Hid _ := HRz; clear hSz hbz hR cA cB)
      have hS2 : Hid (S (j + 1) (wz.setCell ⟨w.heap.size, j, none⟩ (.int .i64 (F j)))) := HSS.out _ _ _ _ (Nat.le_refl _) HSz.out
      have hR2 : Hid (Rw w.heap.size n (fun k => if k < j + 1 then .int .i64 (F k) else .int .i64 0) (wz.setCell ⟨w.heap.size, j, none⟩ (.int .i64 (F j)))) := (HRz.out.set j (.int .i64 (F j))).congr (fun k hk => by
        by_cases e : k = j
        · subst e; simp
        · rw [if_neg e]
          by_cases e2 : k < j
          · rw [if_pos e2, if_pos (by omega)]
          · rw [if_neg e2, if_neg (by omega)])
      have hz2 : w.heap.size < (wz.setCell ⟨w.heap.size, j, none⟩ (.int .i64 (F j))).heap.size := by rw [World.size_setCell]; omega
      go_roundw
      case rel => exact ⟨j + 1, by omega, by go_num, hS2, hR2, hz2⟩
      case measure => simp [intOf]; omega
    · obtain rfl : j = n := by omega
      have hjI : ¬ (j : Int) < (j : Int) := by omega
      have hAr : Hid (Ar wr (.slice (some ⟨w.heap.size, 0, none⟩) j j) j F) := (hR.out.congr (fun k hk => by rw [if_pos hk])).ar (by omega) HF.out
      clear hR
      go_wp2
      go_ret
      exact ⟨rfl, hS.out, hAr.out⟩

end Go.Proofs.YtdfjnbkkdgolnaaGreatDoor
set_option linter.unusedVariables false
set_option linter.unusedSimpArgs false
namespace Go.Proofs.YtdfjnbkkdgolnaaGreatDoor
open Go.RowKit

/-- How far sizes are right. -/
def szB (f : Nat → Int) (m : Nat) : Prop := ∀ i, i < m → 1 ≤ f i ∧ f i ≤ 64
end Go.Proofs.YtdfjnbkkdgolnaaGreatDoor
set_option linter.unusedVariables false
set_option linter.unusedSimpArgs false
namespace Go.Proofs.YtdfjnbkkdgolnaaGreatDoor
open Go.RowKit

/-- Where a weight stands, and an offset. -/
def wtN (z : Nat → Nat) (l u i : Nat) : Nat := fsN z l + u * z l + i
def ofN (z : Nat → Nat) (l u : Nat) : Nat := fsN z l + z l * z (l + 1) + u
theorem wtN_lt (z : Nat → Nat) (l u i : Nat) (hu : u < z (l + 1)) (hi : i < z l) : wtN z l u i < fsN z (l + 1) := by
  have h : (u + 1) * z l ≤ z (l + 1) * z l := Nat.mul_le_mul_right _ hu
  rw [Nat.succ_mul, Nat.mul_comm (z (l + 1))] at h
  show fsN z l + u * z l + i < fsN z l + (z l * z (l + 1) + z (l + 1))
  omega
theorem ofN_lt (z : Nat → Nat) (l u : Nat) (hu : u < z (l + 1)) : ofN z l u < fsN z (l + 1) := by
  show fsN z l + z l * z (l + 1) + u < fsN z l + (z l * z (l + 1) + z (l + 1))
  omega
end Go.Proofs.YtdfjnbkkdgolnaaGreatDoor
set_option linter.unusedVariables false
set_option linter.unusedSimpArgs false
namespace Go.Proofs.YtdfjnbkkdgolnaaGreatDoor

/-- The exact sum of a layer's output. -/
def linN (z : Nat → Nat) (p v : Nat → Int) (l u : Nat) : Int := p (ofN z l u) * 4294967296 + dotV (fun i => p (wtN z l u i)) v (z l)
/-- What is below 0 becomes 0 where it is hidden. -/
def hidV (h : Bool) (v : Int) : Int := if h = true then (if v < 0 then 0 else v) else v
/-- The values of a net: the input first. -/
def vN (z : Nat → Nat) (m : Nat) (p x : Nat → Int) : Nat → Nat → Int
  | 0 => x
  | l + 1 => fun u => hidV (decide (l + 2 < m)) (clv (rr (linN z p (vN z m p x l) l u) 32))
/-- Is a layer's output held? -/
def vO (z : Nat → Nat) (m : Nat) (p x : Nat → Int) (l u : Nat) : Bool := ovv (rr (linN z p (vN z m p x l) l u) 32)
/-- How many are held ahead of a layer. -/
def vC (z : Nat → Nat) (m : Nat) (p x : Nat → Int) : Nat → Int
  | 0 => 0
  | l + 1 => vC z m p x l + cntV (vO z m p x l) (z (l + 1))
/-- Squared: the distance, and whether it is held. -/
def dsX (y t : Nat → Int) (i : Nat) : Int := clv (y i - t i)
def dsO (y t : Nat → Int) (i : Nat) : Bool := ovv (y i - t i)
/-- Hinge: the product, what lacks, and whether they are held. -/
def mpX (y t : Nat → Int) (i : Nat) : Int := clv (rr (t i * y i) 32)
def mpO (y t : Nat → Int) (i : Nat) : Bool := ovv (rr (t i * y i) 32)
def hgX (y t : Nat → Int) (i : Nat) : Int := clv (4294967296 - mpX y t i)
def hgO (y t : Nat → Int) (i : Nat) : Bool := ovv (4294967296 - mpX y t i)
/-- What is above 0, else 0. -/
def posV (f : Nat → Int) (i : Nat) : Int := if 0 < f i then f i else 0
/-- The loss, exact; rounded; how many are held of it and ahead of it. s: squared. -/
def lsS (s : Bool) (y t : Nat → Int) (n : Nat) : Int := if s = true then rr (dotV (dsX y t) (dsX y t) n) 33 else sumV (posV (hgX y t)) n
def lsX (s : Bool) (y t : Nat → Int) (n : Nat) : Int := clv (lsS s y t n)
def lsP (s : Bool) (y t : Nat → Int) (n : Nat) : Int := if s = true then cntV (dsO y t) n else cntV (mpO y t) n + cntV (hgO y t) n
def lsC (s : Bool) (y t : Nat → Int) (n : Nat) : Int := lsP s y t n + bi (ovv (lsS s y t n))
/-- The slope, and how many are held of it. -/
def slX (s : Bool) (y t : Nat → Int) (i : Nat) : Int := if s = true then dsX y t i else if 0 < hgX y t i then clv (0 - t i) else 0
def slO (y t : Nat → Int) (i : Nat) : Bool := if 0 < hgX y t i then ovv (0 - t i) else false
def slC (s : Bool) (y t : Nat → Int) (n : Nat) : Int := if s = true then cntV (dsO y t) n else cntV (mpO y t) n + cntV (hgO y t) n + cntV (slO y t) n
/-- The slope ahead of a layer. -/
def ahS (z : Nat → Nat) (p s : Nat → Int) (l i : Nat) : Int := dotV s (fun u => p (wtN z l u i)) (z (l + 1))
def ahX (z : Nat → Nat) (p s v : Nat → Int) (l i : Nat) : Int := if 0 < v i then clv (rr (ahS z p s l i) 32) else 0
def ahO (z : Nat → Nat) (p s v : Nat → Int) (l i : Nat) : Bool := if 0 < v i then ovv (rr (ahS z p s l i) 32) else false
/-- The slopes, k layers back from the last one's outputs: V the values. -/
def sB (z : Nat → Nat) (m : Nat) (p : Nat → Int) (V : Nat → Nat → Int) (s0 : Nat → Int) : Nat → Nat → Int
  | 0 => s0
  | k + 1 => ahX z p (sB z m p V s0 k) (V (m - 2 - k)) (m - 2 - k)
/-- The slope at the outputs of layer l. -/
def sL (z : Nat → Nat) (m : Nat) (p : Nat → Int) (V : Nat → Nat → Int) (s0 : Nat → Int) (l : Nat) : Nat → Int := sB z m p V s0 (m - 2 - l)
/-- A weight's part of the gradient. -/
def gwX (s v : Nat → Int) (u i : Nat) : Int := clv (rr (s u * v i) 32)
def gwO (s v : Nat → Int) (u i : Nat) : Bool := ovv (rr (s u * v i) 32)
/-- The gradient is told by its parts. -/
def Grd (z : Nat → Nat) (m : Nat) (V S : Nat → Nat → Int) (G : Nat → Int) : Prop := ∀ l, l + 1 < m → ∀ u, u < z (l + 1) → (∀ i, i < z l → G (wtN z l u i) = gwX (S l) (V l) u i) ∧ G (ofN z l u) = S l u
/-- How many are held of a layer's weights' parts: row by row. -/
def grC (s v : Nat → Int) (n : Nat) : Nat → Int
  | 0 => 0
  | u + 1 => grC s v n u + cntV (gwO s v u) n
/-- How many are held in going back: k layers done. -/
def bkC (z : Nat → Nat) (m : Nat) (p : Nat → Int) (V S : Nat → Nat → Int) : Nat → Int
  | 0 => 0
  | k + 1 => bkC z m p V S k + grC (S (m - 2 - k)) (V (m - 2 - k)) (z (m - 2 - k)) (z (m - 1 - k)) + (if m - 2 - k = 0 then 0 else cntV (ahO z p (S (m - 2 - k)) (V (m - 2 - k)) (m - 2 - k)) (z (m - 2 - k)))
/-- Each place of the parameters is a weight's or an offset's, of one layer. -/
theorem place_of (z : Nat → Nat) (m j : Nat) (hz : ∀ i, i < m → 1 ≤ z i) (hj : j < fsN z (m - 1)) : ∃ l, l + 1 < m ∧ ((∃ u i, u < z (l + 1) ∧ i < z l ∧ j = wtN z l u i) ∨ ∃ u, u < z (l + 1) ∧ j = ofN z l u) := by
  have key : ∀ k, k < m → j < fsN z k → ∃ l, l + 1 < m ∧ ((∃ u i, u < z (l + 1) ∧ i < z l ∧ j = wtN z l u i) ∨ ∃ u, u < z (l + 1) ∧ j = ofN z l u) := fun k => by
    induction k with
    | zero => intro _ h; exact absurd h (Nat.not_lt_zero _)
    | succ k ih =>
      intro hk hlt
      rcases Nat.lt_or_ge j (fsN z k) with h | h
      · exact ih (by omega) h
      · refine ⟨k, hk, ?_⟩
        have hlt2 : j < fsN z k + (z k * z (k + 1) + z (k + 1)) := hlt
        have hzk := hz k (by omega)
        rcases Nat.lt_or_ge j (fsN z k + z k * z (k + 1)) with h1 | h1
        · left
          refine ⟨(j - fsN z k) / z k, (j - fsN z k) % z k, ?_, Nat.mod_lt _ (by omega), ?_⟩
          · rw [Nat.div_lt_iff_lt_mul (by omega), Nat.mul_comm]; omega
          · unfold wtN
            have := Nat.div_add_mod (j - fsN z k) (z k)
            rw [Nat.mul_comm] at this
            omega
        · right
          exact ⟨j - (fsN z k + z k * z (k + 1)), by omega, by unfold ofN; omega⟩
  rcases Nat.eq_zero_or_pos m with h0 | h0
  · subst h0
    exact absurd hj (Nat.not_lt_zero _)
  · exact key (m - 1) (by omega) hj
/-- The gradient is one. -/
theorem Grd.one {z : Nat → Nat} {m : Nat} {V S : Nat → Nat → Int} {G H : Nat → Int} (hz : ∀ i, i < m → 1 ≤ z i) (g : Grd z m V S G) (h : Grd z m V S H) (j : Nat) (hj : j < fsN z (m - 1)) : G j = H j := by
  obtain ⟨l, hl, ⟨u, i, hu, hi, rfl⟩ | ⟨u, hu, rfl⟩⟩ := place_of z m j hz hj
  · rw [(g l hl u hu).1 i hi, (h l hl u hu).1 i hi]
  · rw [(g l hl u hu).2, (h l hl u hu).2]
theorem sL_last (z : Nat → Nat) (m : Nat) (p : Nat → Int) (V : Nat → Nat → Int) (s0 : Nat → Int) : sL z m p V s0 (m - 2) = s0 := by
  unfold sL
  rw [Nat.sub_self]
  rfl
theorem sL_step (z : Nat → Nat) (m : Nat) (p : Nat → Int) (V : Nat → Nat → Int) (s0 : Nat → Int) (l : Nat) (hl : l + 2 < m) : sL z m p V s0 l = ahX z p (sL z m p V s0 (l + 1)) (V (l + 1)) (l + 1) := by
  unfold sL
  obtain ⟨k, hk⟩ : ∃ k, m - 2 - l = k + 1 := ⟨m - 2 - l - 1, by omega⟩
  have e : m - 2 - (l + 1) = k := by omega
  have e2 : m - 2 - k = l + 1 := by omega
  rw [hk, e]
  show ahX z p (sB z m p V s0 k) (V (m - 2 - k)) (m - 2 - k) = _
  rw [e2]
theorem hidV_rng (h : Bool) (v : Int) (hv : -9223372036854775808 ≤ v ∧ v ≤ 9223372036854775807) : -9223372036854775808 ≤ hidV h v ∧ hidV h v ≤ 9223372036854775807 := by
  unfold hidV
  split
  · split <;> omega
  · exact hv
theorem vN_rng (z : Nat → Nat) (m : Nat) (p x : Nat → Int) (l u : Nat) (hx : ∀ i, i < z 0 → -9223372036854775808 ≤ x i ∧ x i ≤ 9223372036854775807) (hu : u < z l) : -9223372036854775808 ≤ vN z m p x l u ∧ vN z m p x l u ≤ 9223372036854775807 := by
  cases l with
  | zero => exact hx u hu
  | succ l => exact hidV_rng _ _ (clv_rng _)
theorem slX_rng (s : Bool) (y t : Nat → Int) (i : Nat) : -9223372036854775808 ≤ slX s y t i ∧ slX s y t i ≤ 9223372036854775807 := by
  unfold slX
  split
  · exact clv_rng _
  · split
    · exact clv_rng _
    · omega
theorem ahX_rng (z : Nat → Nat) (p s v : Nat → Int) (l i : Nat) : -9223372036854775808 ≤ ahX z p s v l i ∧ ahX z p s v l i ≤ 9223372036854775807 := by
  unfold ahX
  split
  · exact clv_rng _
  · omega
theorem vC_rng (z : Nat → Nat) (m : Nat) (p x : Nat → Int) (l : Nat) (hz : ∀ i, i < m → z i ≤ 64) (hl : l < m) : 0 ≤ vC z m p x l ∧ vC z m p x l ≤ 64 * (l : Int) := by
  induction l with
  | zero => exact ⟨Int.le_refl _, Int.le_refl _⟩
  | succ l ih =>
    have h1 := ih (by omega)
    have h2 := cnt_rng (vO z m p x l) (z (l + 1))
    have h3 := hz (l + 1) hl
    show 0 ≤ vC z m p x l + cntV (vO z m p x l) (z (l + 1)) ∧ vC z m p x l + cntV (vO z m p x l) (z (l + 1)) ≤ _
    omega
theorem slX_sq (y t : Nat → Int) (i : Nat) : slX true y t i = clv (y i - t i) := by unfold slX dsX; rw [if_pos rfl]
theorem slX_hg (y t : Nat → Int) (i : Nat) : slX false y t i = if 0 < hgX y t i then clv (0 - t i) else 0 := by unfold slX; rw [if_neg (by simp)]
theorem slC_sq (y t : Nat → Int) (n : Nat) : slC true y t n = cntV (dsO y t) n := by unfold slC; rw [if_pos rfl]
theorem slC_hg (y t : Nat → Int) (n : Nat) : slC false y t n = cntV (mpO y t) n + cntV (hgO y t) n + cntV (slO y t) n := by unfold slC; rw [if_neg (by simp)]
theorem slO_hg (y t : Nat → Int) (i : Nat) : slO y t i = if 0 < hgX y t i then ovv (0 - t i) else false := by unfold slO; rfl
theorem lsS_sq (y t : Nat → Int) (n : Nat) : lsS true y t n = rr (dotV (dsX y t) (dsX y t) n) 33 := by unfold lsS; rw [if_pos rfl]
theorem lsS_hg (y t : Nat → Int) (n : Nat) : lsS false y t n = sumV (posV (hgX y t)) n := by unfold lsS; rw [if_neg (by simp)]
theorem lsP_sq (y t : Nat → Int) (n : Nat) : lsP true y t n = cntV (dsO y t) n := by unfold lsP; rw [if_pos rfl]
theorem lsP_hg (y t : Nat → Int) (n : Nat) : lsP false y t n = cntV (mpO y t) n + cntV (hgO y t) n := by unfold lsP; rw [if_neg (by simp)]
end Go.Proofs.YtdfjnbkkdgolnaaGreatDoor
set_option linter.unusedVariables false
set_option linter.unusedSimpArgs false
namespace Go.Proofs.YtdfjnbkkdgolnaaGreatDoor
open Go.RowKit

theorem un_far {d : Nat} {c : Int} {w wr : World} {p : Addr} (h : Un d c w wr) (hd : d < w.heap.size) (hp : w.heap.size ≤ p.block) (u : Value) : Un d c w (wr.setCell p u) := by
  have blk : ∀ i, i < w.heap.size → (wr.setCell p u).heap[i]? = wr.heap[i]? := fun i hi => Below.heap_setCell _ _ _ _ (by omega)
  refine ⟨(World.cell?_of_block (w := wr) (blk d hd)).trans h.c, (World.frozen?_of_block (w := wr) (blk d hd)).trans h.f, ?_, ?_, ?_, ?_⟩
  · intro base w0 h1 h2 h3
    exact (h.b base w0 h1 h2 h3).setCell (by omega) u
  · intro a v ha hc
    have hb := World.block_lt_of_cell? _ _ hc
    exact (World.cell?_of_block (w := wr) (blk a.block hb)).trans (h.o a v ha hc)
  · have := h.s
    simp [World.setCell]
    omega
  · intro i hi hn
    exact (blk i hi).trans (h.k i hi hn)
theorem un6 {d : Nat} {c : Int} {w wr : World} {b : Nat} (h : Un d c w wr) (hd : d < w.heap.size) (hb : w.heap.size ≤ b) (y : Nat → Int) : Un d c w ((((((wr.setCell ⟨b, 0, none⟩ (.int .u64 (y 0))).setCell ⟨b, 1, none⟩ (.int .u64 (y 1))).setCell ⟨b, 2, none⟩ (.int .u64 (y 2))).setCell ⟨b, 3, none⟩ (.int .u64 (y 3))).setCell ⟨b, 4, none⟩ (.int .u64 (y 4))).setCell ⟨b, 5, none⟩ (.int .u64 (y 5))) :=
  un_far (un_far (un_far (un_far (un_far (un_far h hd hb _) hd hb _) hd hb _) hd hb _) hd hb _) hd hb _
theorem un6N {d : Nat} {c : Int} {w wr : World} {b : Nat} (h : Un d c w wr) (hd : d < w.heap.size) (hb : w.heap.size ≤ b) (y : Nat → Int) : Un d c w ((((((wr.setCell ⟨b, 6, none⟩ (.int .u64 (y 0))).setCell ⟨b, 7, none⟩ (.int .u64 (y 1))).setCell ⟨b, 8, none⟩ (.int .u64 (y 2))).setCell ⟨b, 9, none⟩ (.int .u64 (y 3))).setCell ⟨b, 10, none⟩ (.int .u64 (y 4))).setCell ⟨b, 11, none⟩ (.int .u64 (y 5))) :=
  un_far (un_far (un_far (un_far (un_far (un_far h hd hb _) hd hb _) hd hb _) hd hb _) hd hb _) hd hb _
theorem B12.block {b : Nat} {x y : Nat → Int} {w w' : World} (h : B12 b x y w) (e : w'.heap[b]? = w.heap[b]?) : B12 b x y w' :=
  ⟨fun k hk => (World.cell?_of_block (w := w) e).trans (h.c k hk), fun k hk => (World.cell?_of_block (w := w) e).trans (h.d k hk), fun k hk => (World.frozen?_of_block (w := w) e).trans (h.f k hk), fun k hk => (World.frozen?_of_block (w := w) e).trans (h.g k hk)⟩
theorem B12.un {b : Nat} {x y : Nat → Int} {w w' : World} {d : Nat} {c : Int} (h : B12 b x y w) (hU : Un d c w w') (hb : b ≠ d) : B12 b x y w' := h.block (hU.k b h.lt hb)
theorem sm_mono {p q V B B' : Int} (h : Sm p q V B) (hB : B ≤ B') : Sm p q V B' := ⟨h.p0, h.q0, by have := h.p1; omega, by have := h.q1; omega, h.v⟩
/-- A list's number at a place, with its address. -/
theorem Ar.spot {w : World} {v : Value} {n : Nat} {f : Nat → Int} (h : Ar w v n f) (j : Nat) (hj : j < n) : ∃ (b o cap : Nat), v = .slice (some ⟨b, o, none⟩) n cap ∧ cap ≤ maxLen ∧ n ≤ cap ∧ (∀ k, k < n → w.cell? ⟨b, o + k, none⟩ = some (.int .i64 (f k))) ∧ ∀ k, k < n → -9223372036854775808 ≤ f k ∧ f k ≤ 9223372036854775807 := by
  obtain ⟨adr, cap, b, o, h1, h2, h3, h4, h5⟩ := h
  have e := h4 (by omega)
  subst e
  exact ⟨b, o, cap, h1, h3, h2, fun k hk => (h5 k hk).1, fun k hk => (h5 k hk).2⟩
theorem Ar.spare {w : World} {v : Value} {n : Nat} {f : Nat → Int} (h : Ar w v n f) {d : Nat} (hd : w.heap.size ≤ d) : Nb v d := by
  intro a n' cap e hn
  obtain ⟨adr, ca, b, o, e2, h2, h3, h4, h5⟩ := h
  rw [e] at e2
  cases e2
  have e3 := h4 (by omega)
  cases e3
  have := World.block_lt_of_cell? _ _ (h5 0 (by omega)).1
  dsimp only at *
  omega
theorem Ar.stay {w w' : World} {v : Value} {n : Nat} {f : Nat → Int} (h : Ar w v n f) (hk : ∀ (a : Addr) (n' cap : Nat), v = .slice (some a) n' cap → 0 < n' → w'.heap[a.block]? = w.heap[a.block]?) : Ar w' v n f := by
  obtain ⟨adr, cap, b, o, e, h1, h2, h3, h4⟩ := h
  refine ⟨adr, cap, b, o, e, h1, h2, h3, fun k hk' => ⟨?_, (h4 k hk').2⟩⟩
  have e2 := h3 (by omega)
  subst e2
  exact (World.cell?_of_block (w := w) (a := ⟨b, o + k, none⟩) (hk ⟨b, o, none⟩ n cap e (by omega))).trans (h4 k hk').1
/-- A list of lists that grows: its parts lie apart from the unit and from the list itself. -/
def Alg (w : World) (B d : Nat) (v : Value) (j : Nat) (ns : Nat → Nat) (fs : Nat → Nat → Int) : Prop :=
  ∃ xs : List Value, w.ownsRow B 35 1 v j xs ∧ ∀ k, k < j → ∃ va : Value, xs[k]? = some va ∧ Ar w va (ns k) (fs k) ∧ Nb va d ∧ ∀ g, v.ownBlock = some g → Nb va g
theorem Alg.later {w w' : World} {B d : Nat} {v : Value} {j : Nat} {ns : Nat → Nat} {fs : Nat → Nat → Int} (h : Alg w B d v j ns fs) (hb : Below w.heap.size w w') : Alg w' B d v j ns fs := by
  obtain ⟨xs, h1, h2⟩ := h
  exact ⟨xs, own_later h1 hb, fun k hk => by obtain ⟨va, e, a, c, g⟩ := h2 k hk; exact ⟨va, e, a.later hb, c, g⟩⟩
theorem Alg.un {w w' : World} {B d : Nat} {v : Value} {j : Nat} {ns : Nat → Nat} {fs : Nat → Nat → Int} {c : Int} (h : Alg w B d v j ns fs) (hU : Un d c w w') (hd : d < B) : Alg w' B d v j ns fs := by
  obtain ⟨xs, h1, h2⟩ := h
  exact ⟨xs, own_un h1 hU hd, fun k hk => by obtain ⟨va, e, a, x, g⟩ := h2 k hk; exact ⟨va, e, a.un x hU, x, g⟩⟩
/-- A list of lists, apart from a unit. -/
def Ls (w : World) (d : Nat) (v : Value) (m : Nat) (ns : Nat → Nat) (fs : Nat → Nat → Int) : Prop :=
  ∃ (g cap : Nat), v = .slice (some ⟨g, 0, none⟩) m cap ∧ m ≤ cap ∧ cap ≤ maxLen ∧ g ≠ d ∧ ∀ k, k < m → ∃ va : Value, w.cell? ⟨g, k, none⟩ = some va ∧ Ar w va (ns k) (fs k) ∧ Nb va d
theorem Alg.ls {w : World} {B d : Nat} {v : Value} {j : Nat} {ns : Nat → Nat} {fs : Nat → Nat → Int} (h : Alg w B d v j ns fs) (hj : 0 < j) (hd : d < B) : Ls w d v j ns fs := by
  obtain ⟨xs, h1, h2⟩ := h
  rcases id h1.2 with ⟨_, h0⟩ | ⟨g, cap, cur, rfl, hg, hh, hc1, hc2, hsz, htk⟩
  · omega
  · refine ⟨g, cap, rfl, hc1, hc2, by omega, fun k hk => ?_⟩
    obtain ⟨va, e, a, x, _⟩ := h2 k hk
    exact ⟨va, (h1.cellAt k (by omega)).trans e, a, x⟩
theorem Ls.later {w w' : World} {d : Nat} {v : Value} {m : Nat} {ns : Nat → Nat} {fs : Nat → Nat → Int} (h : Ls w d v m ns fs) (hb : Below w.heap.size w w') : Ls w' d v m ns fs := by
  obtain ⟨g, cap, e, h1, h2, h3, h4⟩ := h
  exact ⟨g, cap, e, h1, h2, h3, fun k hk => by obtain ⟨va, c, a, x⟩ := h4 k hk; exact ⟨va, cell_later hb c, a.later hb, x⟩⟩
theorem Ls.un {w w' : World} {d : Nat} {v : Value} {m : Nat} {ns : Nat → Nat} {fs : Nat → Nat → Int} {c : Int} (h : Ls w d v m ns fs) (hU : Un d c w w') : Ls w' d v m ns fs := by
  obtain ⟨g, cap, e, h1, h2, h3, h4⟩ := h
  exact ⟨g, cap, e, h1, h2, h3, fun k hk => by obtain ⟨va, cc, a, x⟩ := h4 k hk; exact ⟨va, hU.o _ _ h3 cc, a.un x hU, x⟩⟩
theorem Bx.un {b : Nat} {x y : Value} {w w' : World} {d : Nat} {c : Int} (h : Bx b x y w) (hU : Un d c w w') (hb : b ≠ d) : Bx b x y w' := by
  have e := hU.k b (World.block_lt_of_cell? _ _ h.c0) hb
  exact ⟨(World.cell?_of_block (w := w) e).trans h.c0, (World.cell?_of_block (w := w) e).trans h.c1, (World.frozen?_of_block (w := w) e).trans h.f0, (World.frozen?_of_block (w := w) e).trans h.f1⟩
end Go.Proofs.YtdfjnbkkdgolnaaGreatDoor
set_option linter.unusedVariables false
set_option linter.unusedSimpArgs false
namespace Go.Proofs.YtdfjnbkkdgolnaaGreatDoor
open Go.RowKit
theorem Rw.un {b n : Nat} {h : Nat → Value} {w w' : World} {d : Nat} {c : Int} (r : Rw b n h w) (hU : Un d c w w') (hb : b ≠ d) (hl : b < w.heap.size) : Rw b n h w' := r.block (hU.k b hl hb)
end Go.Proofs.YtdfjnbkkdgolnaaGreatDoor
set_option linter.unusedVariables false
set_option linter.unusedSimpArgs false
namespace Go.Proofs.YtdfjnbkkdgolnaaGreatDoor
open Go.RowKit

set_option maxRecDepth 100000 in
set_option maxHeartbeats 2000000 in
theorem lack_any (y t : Int) (y0 : -9223372036854775808 ≤ y) (y1 : y ≤ 9223372036854775807) (t0 : -9223372036854775808 ≤ t) (t1 : t ≤ 9223372036854775807) (d : Nat) (c : Int) (c0 : 0 ≤ c) (c1 : c ≤ 999999000) (w : World) (hc : w.cell? ⟨d, 0, none⟩ = some (.int .i64 c)) (hf : w.frozen? ⟨d, 0, none⟩ = false) :
    Calls Tryz.prog 53 #[.pointer (some ⟨d, 0, none⟩), .int .i64 y, .int .i64 t] w fun e w' => e = .returned (.int .i64 (clv (4294967296 - clv (rr (t * y) 32)))) ∧ Un d (c + bi (ovv (rr (t * y) 32)) + bi (ovv (4294967296 - clv (rr (t * y) 32)))) w w' := by
  have e32 : rr (t * y) 32 = rnd (t * y) 32 := rfl
  rw [e32]
  obtain ⟨mr1, mr2⟩ := clv_rng (rnd (t * y) 32)
  have C1 : Hid (∀ W : World, Calls Tryz.prog 56 #[.int .i64 t, .int .i64 y] W fun e w' => e = .returned (.tuple #[.int .i64 (clv (rnd (t * y) 32)), .bool (ovv (rnd (t * y) 32))]) ∧ Below W.heap.size W w') := rfmul_any t y t0 t1 y0 y1
  have HU0 : Hid (Un d c w w) := Un.same hc hf
  clear hc hf e32
  generalize ovv (rnd (t * y) 32) = mo at *
  generalize clv (rnd (t * y) 32) = mv at *
  have C2 : Hid (∀ W : World, Calls Tryz.prog 52 #[.int .i64 4294967296, .int .i64 mv] W fun e w' => e = .returned (.tuple #[.int .i64 (clv (4294967296 - mv)), .bool (ovv (4294967296 - mv))]) ∧ Below W.heap.size W w') := rfsub_any 4294967296 mv (by omega) (by omega) mr1 mr2
  generalize ovv (4294967296 - mv) = ho at *
  generalize clv (4294967296 - mv) = hv at *
  have b1 := bi_rng mo
  have b2 := bi_rng ho
  go_enter Tryz.func53, Tryz.ntmps53
  go_wp2_with fail
  refine (C1.out _).mono ?_
  rintro e w1 ⟨rfl, hb⟩
  have HU1 : Hid (Un d c w w1) := HU0.out.ahead hb
  clear hb HU0 C1
  go_wp2_with fail
  refine (utake_any d c mv mo c0 (by omega) w1 HU1.out.c HU1.out.f).mono ?_
  rintro e w2 ⟨rfl, hu⟩
  have HU2 : Hid (Un d (c + bi mo) w w2) := HU1.out.chain hu
  clear hu HU1
  go_wp2_with fail
  refine (C2.out _).mono ?_
  rintro e w3 ⟨rfl, hb⟩
  have HU3 : Hid (Un d (c + bi mo) w w3) := HU2.out.ahead hb
  clear hb HU2 C2
  go_wp2_with fail
  refine (utake_any d (c + bi mo) hv ho (by omega) (by omega) w3 HU3.out.c HU3.out.f).mono ?_
  rintro e w4 ⟨rfl, hu⟩
  have HU4 : Hid (Un d (c + bi mo + bi ho) w w4) := HU3.out.chain hu
  clear hu HU3
  go_wp2
  go_ret
  exact ⟨rfl, HU4.out⟩
set_option maxRecDepth 100000 in
set_option maxHeartbeats 4000000 in
theorem slope_sq (va vb : Value) (n : Nat) (f g : Nat → Int) (d : Nat) (c : Int) (hn : n ≤ 70000) (c0 : 0 ≤ c) (c1 : c ≤ 900000000) (w : World) (hA : Ar w va n f) (hB : Ar w vb n g) (nA : Nb va d) (nB : Nb vb d) (hc : w.cell? ⟨d, 0, none⟩ = some (.int .i64 c)) (hf : w.frozen? ⟨d, 0, none⟩ = false) :
    Calls Tryz.prog 29 #[.pointer (some ⟨d, 0, none⟩), .int .i64 1, va, vb] w fun e w' => ∃ v', e = .returned v' ∧ Ar w' v' n (slX true f g) ∧ Ow w.heap.size v' ∧ Un d (c + slC true f g n) w w' := by
  obtain ⟨i0, hi, hz0, hz1, hz2⟩ := info_parts dinfo_i64
  have hd := World.block_lt_of_cell? _ _ hc
  obtain ⟨adr, cap, b, o, rfl, x1, x2, x3, x4⟩ := hA
  obtain ⟨adq, caq, bq, oq, rfl, y1, y2, y3, y4⟩ := hB
  unfold maxLen at *
  have HA : Hid (∀ j, j < n → adr = some ⟨b, o, none⟩ ∧ b ≠ d ∧ w.cell? ⟨b, o + j, none⟩ = some (.int .i64 (f j)) ∧ -9223372036854775808 ≤ f j ∧ f j ≤ 9223372036854775807) := fun j hj => by
    have e := x3 (by omega)
    refine ⟨e, ?_, x4 j hj⟩
    subst e
    exact nA _ _ _ rfl (by omega)
  have HB : Hid (∀ j, j < n → adq = some ⟨bq, oq, none⟩ ∧ bq ≠ d ∧ w.cell? ⟨bq, oq + j, none⟩ = some (.int .i64 (g j)) ∧ -9223372036854775808 ≤ g j ∧ g j ≤ 9223372036854775807) := fun j hj => by
    have e := y3 (by omega)
    refine ⟨e, ?_, y4 j hj⟩
    subst e
    exact nB _ _ _ rfl (by omega)
  have U0 : Hid (Un d c w w) := Un.same hc hf
  clear x3 x4 nA hc hf y3 y4 nB
  obtain ⟨RX, hRX⟩ : ∃ r : Nat → Int, r = slX true f g := ⟨_, rfl⟩
  obtain ⟨RO, hRO⟩ : ∃ r : Nat → Bool, r = dsO f g := ⟨_, rfl⟩
  have HR : Hid (∀ i, clv (f i - g i) = RX i ∧ ovv (f i - g i) = RO i) := fun i => by rw [hRX, hRO]; exact ⟨(slX_sq f g i).symm, rfl⟩
  have HG : Hid (∀ i, -9223372036854775808 ≤ RX i ∧ RX i ≤ 9223372036854775807) := fun i => by rw [hRX]; exact slX_rng _ _ _ _
  have hsC : slC true f g n = cntV RO n := by rw [hRO]; exact slC_sq f g n
  rw [hsC, ← hRX]
  clear hRX hRO hsC
  go_enter Tryz.func29, Tryz.ntmps29
  go_wp2
  go_loopw [9, 10] (fun so si wr => ∃ j : Nat, j ≤ n ∧ si = .int .i64 (j : Int) ∧ wr.ownsRow w.heap.size 2 1 so j (il RX j) ∧ Hid (Un d (c + cntV RO j) w wr)) (fun _ si _ => n - (intOf si).toNat)
  case atStart => exact ⟨0, by omega, rfl, World.ownsRow_nil _ _ _ _, by show Un d (c + 0) w w; rw [Int.add_zero]; exact U0.out⟩
  case round =>
    obtain ⟨j, hj, rfl, hown, hU⟩ := hrel
    by_cases hlt : j < n
    · have hjI : (j : Int) < (n : Int) := by omega
      obtain ⟨ea, na, ca, a0, a1⟩ := HA.out j hlt
      subst ea
      have cA : wr.cell? ⟨b, o + j, none⟩ = some (.int .i64 (f j)) := hU.out.o _ _ na ca
      obtain ⟨eb, nb, cb, b0, b1⟩ := HB.out j hlt
      subst eb
      have cB : wr.cell? ⟨bq, oq + j, none⟩ = some (.int .i64 (g j)) := hU.out.o _ _ nb cb
      have hcr := cnt_rng RO j
      obtain ⟨rx, ro⟩ := HR.out j
      have HC : Hid (Un d (c + cntV RO j) w wr ∧ wr.ownsRow w.heap.size 2 1 u9 j (il RX j)) := ⟨hU.out, hown⟩
      have CM : Hid (∀ W : World, Calls Tryz.prog 52 #[.int .i64 (f j), .int .i64 (g j)] W fun e w' => e = .returned (.tuple #[.int .i64 (RX j), .bool (RO j)]) ∧ Below W.heap.size W w') := by
        intro W
        rw [← rx, ← ro]
        exact rfsub_any (f j) (g j) a0 a1 b0 b1 W
      clear rx ro ca cb hU hown
      go_upto_region 6 with fail
      have CC : wr.drew.cell? ⟨b, o + j, none⟩ = some (.int .i64 (f j)) ∧ wr.drew.cell? ⟨bq, oq + j, none⟩ = some (.int .i64 (g j)) := ⟨cA, cB⟩
      have HD : Hid (Un d (c + cntV RO j) w wr.drew ∧ wr.drew.ownsRow w.heap.size 2 1 u9 j (il RX j)) := ⟨HC.out.1.ahead ((Below.refl _ _).drew), own_later HC.out.2 ((Below.refl _ _).drew)⟩
      clear HC cA cB
      go_region_held3 (fun w' => w'.cell? ⟨b, o + j, none⟩ = some (.int .i64 (f j)) ∧ w'.cell? ⟨bq, oq + j, none⟩ = some (.int .i64 (g j))) (exact CC) (first
        | (go_at_call 52; refine (CM.out _).mono ?_; rintro e wz ⟨rfl, hb⟩; replace CC := cc_later CC hb; replace HD := hidUO HD hb; clear hb))
      clear CC
      have ct := HD.out.1.c
      have ft := HD.out.1.f
      go_wp2_with fail
      refine (utake_any d (c + cntV RO j) (RX j) (RO j) (by omega) (by omega) _ ct ft).mono ?_
      rintro e w2 ⟨rfl, hU2⟩
      have hown2 : w2.ownsRow w.heap.size 2 1 u9 j (il RX j) := own_un HD.out.2 hU2 hd
      have HU2 : Hid (Un d (c + cntV RO (j + 1)) w w2) := by
        have e : c + cntV RO (j + 1) = c + cntV RO j + bi (RO j) := by show c + (cntV RO j + bi (RO j)) = _; omega
        show Un _ _ _ _
        rw [e]
        exact HD.out.1.chain hU2
      have hsz : w.heap.size ≤ w2.heap.size := HU2.out.s
      clear ct ft hU2 HD
      go_wp2_with (at_builtin; refine wpList_append_own _ rfl _ _ 35 rfl w.heap.size 2 i0 (.int .i64 0) 1 8 Tryz.underlying35 hi hz0 hz1 hz2 rfl (by decide) _ _ _ rfl (hown2.alloc _) ⟨w2.heap.size, 0, none⟩ 1 1 [.int .i64 (RX j)] rfl rfl (cell_one_new _ _ _) (ints_oneCell .i64 [RX j]) (by unfold maxLen; omega) (by omega) (by simp; omega) ?_; intro v' w3 hown' hgrow hnil)
      have hown3 : w3.ownsRow w.heap.size 2 1 v' (j + 1) (il RX (j + 1)) := by rw [il_succ]; exact hown'
      have HU3 : Hid (Un d (c + cntV RO (j + 1)) w w3) := HU2.out.grow hd hgrow (fun k hk => (hown2.lt k hk).1)
      clear hown' hgrow hnil hown2 HU2
      go_wp2
      go_roundw
      case rel => exact ⟨j + 1, by omega, by go_num, hown3, HU3⟩
      case measure => simp [intOf]; omega
    · obtain rfl : j = n := by omega
      have HQ : Hid (Ar wr u9 j RX ∧ Ow w.heap.size u9) := ar_of_own hown (fun k hk => HG.out k)
      have hjj : ¬ (j : Int) < (j : Int) := by omega
      clear hown
      go_wp2
      go_ret
      exact ⟨_, rfl, HQ.out.1, HQ.out.2, hU.out⟩
end Go.Proofs.YtdfjnbkkdgolnaaGreatDoor
set_option linter.unusedVariables false
set_option linter.unusedSimpArgs false
namespace Go.Proofs.YtdfjnbkkdgolnaaGreatDoor
open Go.RowKit

set_option maxRecDepth 100000 in
set_option maxHeartbeats 8000000 in
theorem loss_sq (va vb : Value) (n : Nat) (f g : Nat → Int) (d : Nat) (c : Int) (hn : n ≤ 70000) (c0 : 0 ≤ c) (c1 : c ≤ 900000000) (w : World) (hA : Ar w va n f) (hB : Ar w vb n g) (nA : Nb va d) (nB : Nb vb d) (hc : w.cell? ⟨d, 0, none⟩ = some (.int .i64 c)) (hf : w.frozen? ⟨d, 0, none⟩ = false) :
    Calls Tryz.prog 28 #[.pointer (some ⟨d, 0, none⟩), .int .i64 1, va, vb] w fun e w' => e = .returned (.int .i64 (lsX true f g n)) ∧ Un d (c + lsC true f g n) w w' := by
  have hd := World.block_lt_of_cell? _ _ hc
  obtain ⟨adr, cap, b, o, rfl, x1, x2, x3, x4⟩ := hA
  obtain ⟨adq, caq, bq, oq, rfl, y1, y2, y3, y4⟩ := hB
  unfold maxLen at *
  have HA : Hid (∀ j, j < n → adr = some ⟨b, o, none⟩ ∧ b ≠ d ∧ w.cell? ⟨b, o + j, none⟩ = some (.int .i64 (f j)) ∧ -9223372036854775808 ≤ f j ∧ f j ≤ 9223372036854775807) := fun j hj => by
    have e := x3 (by omega)
    refine ⟨e, ?_, x4 j hj⟩
    subst e
    exact nA _ _ _ rfl (by omega)
  have HB : Hid (∀ j, j < n → adq = some ⟨bq, oq, none⟩ ∧ bq ≠ d ∧ w.cell? ⟨bq, oq + j, none⟩ = some (.int .i64 (g j)) ∧ -9223372036854775808 ≤ g j ∧ g j ≤ 9223372036854775807) := fun j hj => by
    have e := y3 (by omega)
    refine ⟨e, ?_, y4 j hj⟩
    subst e
    exact nB _ _ _ rfl (by omega)
  have U0 : Hid (Un d c w w) := Un.same hc hf
  clear x3 x4 nA hc hf y3 y4 nB
  obtain ⟨LP, hLP0⟩ : ∃ x : Int, lsP true f g n = x := ⟨_, rfl⟩
  have hLP : Hid (cntV (dsO f g) n = LP) := by show _ = _; rw [← lsP_sq]; exact hLP0
  obtain ⟨RX, hRX⟩ : ∃ x : Int, lsX true f g n = x := ⟨_, rfl⟩
  obtain ⟨RO, hRO⟩ : ∃ x : Bool, ovv (lsS true f g n) = x := ⟨_, rfl⟩
  have HR : Hid (clv (rr (dotV (dsX f g) (dsX f g) n) 33) = RX ∧ ovv (rr (dotV (dsX f g) (dsX f g) n) 33) = RO) := by show _ ∧ _; rw [← lsS_sq]; exact ⟨hRX, hRO⟩
  have hCC : lsC true f g n = LP + bi RO := by unfold lsC; rw [hLP0, hRO]
  rw [hCC, hRX]
  clear hRX hRO hLP0 hCC
  have HDs : Hid (∀ i, clv (f i - g i) = dsX f g i ∧ ovv (f i - g i) = dsO f g i) := fun i => ⟨rfl, rfl⟩
  have HDr : Hid (∀ i, -9223372036854775808 ≤ dsX f g i ∧ dsX f g i ≤ 9223372036854775807) := fun i => clv_rng _
  generalize dsX f g = DX at *
  generalize dsO f g = DO at *
  go_enter Tryz.func28, Tryz.ntmps28
  go_wp2
  go_loopw [10] (fun si wr => ∃ (j : Nat) (p q : Int), j ≤ n ∧ si = .int .i64 (j : Int) ∧ B12 w.heap.size (dg p) (dg q) wr ∧ Hid (Sm p q (dotV DX DX j) ((j : Int) * 85070591730234615865843651857942052864)) ∧ Hid (Un d (c + cntV DO j) w wr)) (fun si _ => n - (intOf si).toNat)
  case atStart =>
    refine ⟨0, 0, 0, by omega, rfl, ?_, ⟨by omega, by omega, by omega, by omega, rfl⟩, by show Un d (c + 0) w _; rw [Int.add_zero]; exact U0.out.ahead (bel1 _ _)⟩
    have h := B12.new w (dg 0) (dg 0) 108
    simp only [dg_zero] at h
    exact B12.noughts h
  case round =>
    obtain ⟨j, p, q, hj, rfl, hS, hSm, hU⟩ := hrel
    by_cases hlt : j < n
    · have hjI : (j : Int) < (n : Int) := by omega
      obtain ⟨ea, na, ca, a0, a1⟩ := HA.out j hlt
      subst ea
      have cA : wr.cell? ⟨b, o + j, none⟩ = some (.int .i64 (f j)) := hU.out.o _ _ na ca
      obtain ⟨eb, nb, cb, b0, b1⟩ := HB.out j hlt
      subst eb
      have cB : wr.cell? ⟨bq, oq + j, none⟩ = some (.int .i64 (g j)) := hU.out.o _ _ nb cb
      have hcr := cnt_rng DO j
      obtain ⟨rx, ro⟩ := HDs.out j
      obtain ⟨r0, r1⟩ := HDr.out j
      have CS : Hid (∀ W : World, Calls Tryz.prog 52 #[.int .i64 (f j), .int .i64 (g j)] W fun e w' => e = .returned (.tuple #[.int .i64 (DX j), .bool (DO j)]) ∧ Below W.heap.size W w') := by
        intro W
        rw [← rx, ← ro]
        exact rfsub_any (f j) (g j) a0 a1 b0 b1 W
      have CM : Hid (∀ W : World, Calls Tryz.prog 47 #[.agg #[.int .u64 (dg (p) 0), .int .u64 (dg (p) 1), .int .u64 (dg (p) 2), .int .u64 (dg (p) 3), .int .u64 (dg (p) 4), .int .u64 (dg (p) 5), .int .u64 (dg (q) 0), .int .u64 (dg (q) 1), .int .u64 (dg (q) 2), .int .u64 (dg (q) 3), .int .u64 (dg (q) 4), .int .u64 (dg (q) 5)], .int .i64 (DX j), .int .i64 (DX j)] W fun e w' => ∃ p' q', e = .returned (.agg #[.int .u64 (dg (p') 0), .int .u64 (dg (p') 1), .int .u64 (dg (p') 2), .int .u64 (dg (p') 3), .int .u64 (dg (p') 4), .int .u64 (dg (p') 5), .int .u64 (dg (q') 0), .int .u64 (dg (q') 1), .int .u64 (dg (q') 2), .int .u64 (dg (q') 3), .int .u64 (dg (q') 4), .int .u64 (dg (q') 5)]) ∧ Sm p' q' (dotV DX DX (j + 1)) (((j + 1 : Nat) : Int) * 85070591730234615865843651857942052864) ∧ Below W.heap.size W w') := by
        intro W
        refine (smul_any p q _ _ (DX j) (DX j) hSm.out r0 r1 r0 r1 W).mono ?_
        rintro e w' ⟨p', q', rfl, h, hb⟩
        exact ⟨p', q', rfl, sm_mono h (by omega), hb⟩
      have HC : Hid (Un d (c + cntV DO j) w wr ∧ B12 w.heap.size (dg p) (dg q) wr) := ⟨hU.out, hS⟩
      clear rx ro ca cb hU hS hSm r0 r1
      go_upto_region 6 with fail
      have CC : wr.drew.cell? ⟨b, o + j, none⟩ = some (.int .i64 (f j)) ∧ wr.drew.cell? ⟨bq, oq + j, none⟩ = some (.int .i64 (g j)) := ⟨cA, cB⟩
      have HD : Hid (Un d (c + cntV DO j) w wr.drew ∧ B12 w.heap.size (dg p) (dg q) wr.drew) := ⟨HC.out.1.ahead ((Below.refl _ _).drew), HC.out.2.later ((Below.refl _ _).drew)⟩
      clear HC cA cB
      go_region_held3 (fun w' => w'.cell? ⟨b, o + j, none⟩ = some (.int .i64 (f j)) ∧ w'.cell? ⟨bq, oq + j, none⟩ = some (.int .i64 (g j))) (exact CC) (first
        | (go_at_call 52; refine (CS.out _).mono ?_; rintro e wz ⟨rfl, hb⟩; replace CC := cc_later CC hb; replace HD : Hid (Un d (c + cntV DO j) w wz ∧ B12 w.heap.size (dg p) (dg q) wz) := ⟨HD.out.1.ahead hb, HD.out.2.later hb⟩; clear hb))
      clear CC CS
      have ct := HD.out.1.c
      have ft := HD.out.1.f
      go_wp2_with fail
      refine (utake_any d (c + cntV DO j) (DX j) (DO j) (by omega) (by omega) _ ct ft).mono ?_
      rintro e w2 ⟨rfl, hU2⟩
      have hS2 : B12 w.heap.size (dg p) (dg q) w2 := HD.out.2.un hU2 (by omega)
      have HU2 : Hid (Un d (c + cntV DO (j + 1)) w w2) := by
        have e : c + cntV DO (j + 1) = c + cntV DO j + bi (DO j) := by show c + (cntV DO j + bi (DO j)) = _; omega
        show Un _ _ _ _
        rw [e]
        exact HD.out.1.chain hU2
      clear ct ft hU2 HD
      have x0 : w2.cell? ⟨w.heap.size, 0, none⟩ = some (.int .u64 (dg p 0)) := hS2.c 0 (by omega); have x1 : w2.cell? ⟨w.heap.size, 1, none⟩ = some (.int .u64 (dg p 1)) := hS2.c 1 (by omega); have x2 : w2.cell? ⟨w.heap.size, 2, none⟩ = some (.int .u64 (dg p 2)) := hS2.c 2 (by omega); have x3 : w2.cell? ⟨w.heap.size, 3, none⟩ = some (.int .u64 (dg p 3)) := hS2.c 3 (by omega); have x4 : w2.cell? ⟨w.heap.size, 4, none⟩ = some (.int .u64 (dg p 4)) := hS2.c 4 (by omega); have x5 : w2.cell? ⟨w.heap.size, 5, none⟩ = some (.int .u64 (dg p 5)) := hS2.c 5 (by omega); have x6 : w2.cell? ⟨w.heap.size, 6, none⟩ = some (.int .u64 (dg q 0)) := hS2.d 0 (by omega); have x7 : w2.cell? ⟨w.heap.size, 7, none⟩ = some (.int .u64 (dg q 1)) := hS2.d 1 (by omega); have x8 : w2.cell? ⟨w.heap.size, 8, none⟩ = some (.int .u64 (dg q 2)) := hS2.d 2 (by omega); have x9 : w2.cell? ⟨w.heap.size, 9, none⟩ = some (.int .u64 (dg q 3)) := hS2.d 3 (by omega); have x10 : w2.cell? ⟨w.heap.size, 10, none⟩ = some (.int .u64 (dg q 4)) := hS2.d 4 (by omega); have x11 : w2.cell? ⟨w.heap.size, 11, none⟩ = some (.int .u64 (dg q 5)) := hS2.d 5 (by omega); have xf0 : w2.frozen? ⟨w.heap.size, 0, none⟩ = false := hS2.f 0 (by omega); have xf1 : w2.frozen? ⟨w.heap.size, 1, none⟩ = false := hS2.f 1 (by omega); have xf2 : w2.frozen? ⟨w.heap.size, 2, none⟩ = false := hS2.f 2 (by omega); have xf3 : w2.frozen? ⟨w.heap.size, 3, none⟩ = false := hS2.f 3 (by omega); have xf4 : w2.frozen? ⟨w.heap.size, 4, none⟩ = false := hS2.f 4 (by omega); have xf5 : w2.frozen? ⟨w.heap.size, 5, none⟩ = false := hS2.f 5 (by omega); have xf6 : w2.frozen? ⟨w.heap.size, 6, none⟩ = false := hS2.g 0 (by omega); have xf7 : w2.frozen? ⟨w.heap.size, 7, none⟩ = false := hS2.g 1 (by omega); have xf8 : w2.frozen? ⟨w.heap.size, 8, none⟩ = false := hS2.g 2 (by omega); have xf9 : w2.frozen? ⟨w.heap.size, 9, none⟩ = false := hS2.g 3 (by omega); have xf10 : w2.frozen? ⟨w.heap.size, 10, none⟩ = false := hS2.g 4 (by omega); have xf11 : w2.frozen? ⟨w.heap.size, 11, none⟩ = false := hS2.g 5 (by omega)
      go_wp2_with fail
      refine (CM.out _).mono ?_
      rintro e w3 ⟨p', q', rfl, hSm, hb⟩
      clear x0 x1 x2 x3 x4 x5 x6 x7 x8 x9 x10 x11 xf0 xf1 xf2 xf3 xf4 xf5 xf6 xf7 xf8 xf9 xf10 xf11
      have hS3 := hS2.later hb
      have HU3 : Hid (Un d (c + cntV DO (j + 1)) w w3) := HU2.out.ahead hb
      have HSm : Hid (Sm p' q' (dotV DX DX (j + 1)) (((j + 1 : Nat) : Int) * 85070591730234615865843651857942052864)) := hSm
      clear hb hS2 HU2 hSm CM
      have D5 := (hS3.allP (dg p')).allN (dg q')
      have HU5 : Hid (Un d (c + cntV DO (j + 1)) w _) := un6N (un6 HU3.out hd (Nat.le_refl _) (dg p')) hd (Nat.le_refl _) (dg q')
      have x0 : w3.cell? ⟨w.heap.size, 0, none⟩ = some (.int .u64 (dg p 0)) := hS3.c 0 (by omega); have x1 : w3.cell? ⟨w.heap.size, 1, none⟩ = some (.int .u64 (dg p 1)) := hS3.c 1 (by omega); have x2 : w3.cell? ⟨w.heap.size, 2, none⟩ = some (.int .u64 (dg p 2)) := hS3.c 2 (by omega); have x3 : w3.cell? ⟨w.heap.size, 3, none⟩ = some (.int .u64 (dg p 3)) := hS3.c 3 (by omega); have x4 : w3.cell? ⟨w.heap.size, 4, none⟩ = some (.int .u64 (dg p 4)) := hS3.c 4 (by omega); have x5 : w3.cell? ⟨w.heap.size, 5, none⟩ = some (.int .u64 (dg p 5)) := hS3.c 5 (by omega); have x6 : w3.cell? ⟨w.heap.size, 6, none⟩ = some (.int .u64 (dg q 0)) := hS3.d 0 (by omega); have x7 : w3.cell? ⟨w.heap.size, 7, none⟩ = some (.int .u64 (dg q 1)) := hS3.d 1 (by omega); have x8 : w3.cell? ⟨w.heap.size, 8, none⟩ = some (.int .u64 (dg q 2)) := hS3.d 2 (by omega); have x9 : w3.cell? ⟨w.heap.size, 9, none⟩ = some (.int .u64 (dg q 3)) := hS3.d 3 (by omega); have x10 : w3.cell? ⟨w.heap.size, 10, none⟩ = some (.int .u64 (dg q 4)) := hS3.d 4 (by omega); have x11 : w3.cell? ⟨w.heap.size, 11, none⟩ = some (.int .u64 (dg q 5)) := hS3.d 5 (by omega); have xf0 : w3.frozen? ⟨w.heap.size, 0, none⟩ = false := hS3.f 0 (by omega); have xf1 : w3.frozen? ⟨w.heap.size, 1, none⟩ = false := hS3.f 1 (by omega); have xf2 : w3.frozen? ⟨w.heap.size, 2, none⟩ = false := hS3.f 2 (by omega); have xf3 : w3.frozen? ⟨w.heap.size, 3, none⟩ = false := hS3.f 3 (by omega); have xf4 : w3.frozen? ⟨w.heap.size, 4, none⟩ = false := hS3.f 4 (by omega); have xf5 : w3.frozen? ⟨w.heap.size, 5, none⟩ = false := hS3.f 5 (by omega); have xf6 : w3.frozen? ⟨w.heap.size, 6, none⟩ = false := hS3.g 0 (by omega); have xf7 : w3.frozen? ⟨w.heap.size, 7, none⟩ = false := hS3.g 1 (by omega); have xf8 : w3.frozen? ⟨w.heap.size, 8, none⟩ = false := hS3.g 2 (by omega); have xf9 : w3.frozen? ⟨w.heap.size, 9, none⟩ = false := hS3.g 3 (by omega); have xf10 : w3.frozen? ⟨w.heap.size, 10, none⟩ = false := hS3.g 4 (by omega); have xf11 : w3.frozen? ⟨w.heap.size, 11, none⟩ = false := hS3.g 5 (by omega)
      clear hS3 HU3
      go_wp2
      go_roundw
      case rel => exact ⟨j + 1, p', q', by omega, by go_num, D5, HSm, HU5⟩
      case measure => simp [intOf]; omega
    · obtain rfl : j = n := by omega
      have hjI : ¬ (j : Int) < (j : Int) := by omega
      have CE : Hid (∀ W : World, Calls Tryz.prog 48 #[.agg #[.int .u64 (dg (p) 0), .int .u64 (dg (p) 1), .int .u64 (dg (p) 2), .int .u64 (dg (p) 3), .int .u64 (dg (p) 4), .int .u64 (dg (p) 5), .int .u64 (dg (q) 0), .int .u64 (dg (q) 1), .int .u64 (dg (q) 2), .int .u64 (dg (q) 3), .int .u64 (dg (q) 4), .int .u64 (dg (q) 5)], .int .i64 33] W fun e w' => e = .returned (.tuple #[.int .i64 RX, .bool RO]) ∧ Below W.heap.size W w') := by
        intro W
        rw [← HR.out.1, ← HR.out.2]
        exact sround_of p q _ _ 33 (by omega) hSm.out (by omega) W
      have hcr := cnt_rng DO j
      have cR := hU.out.c
      have fR := hU.out.f
      clear hSm HR
      have x0 : wr.cell? ⟨w.heap.size, 0, none⟩ = some (.int .u64 (dg p 0)) := hS.c 0 (by omega); have x1 : wr.cell? ⟨w.heap.size, 1, none⟩ = some (.int .u64 (dg p 1)) := hS.c 1 (by omega); have x2 : wr.cell? ⟨w.heap.size, 2, none⟩ = some (.int .u64 (dg p 2)) := hS.c 2 (by omega); have x3 : wr.cell? ⟨w.heap.size, 3, none⟩ = some (.int .u64 (dg p 3)) := hS.c 3 (by omega); have x4 : wr.cell? ⟨w.heap.size, 4, none⟩ = some (.int .u64 (dg p 4)) := hS.c 4 (by omega); have x5 : wr.cell? ⟨w.heap.size, 5, none⟩ = some (.int .u64 (dg p 5)) := hS.c 5 (by omega); have x6 : wr.cell? ⟨w.heap.size, 6, none⟩ = some (.int .u64 (dg q 0)) := hS.d 0 (by omega); have x7 : wr.cell? ⟨w.heap.size, 7, none⟩ = some (.int .u64 (dg q 1)) := hS.d 1 (by omega); have x8 : wr.cell? ⟨w.heap.size, 8, none⟩ = some (.int .u64 (dg q 2)) := hS.d 2 (by omega); have x9 : wr.cell? ⟨w.heap.size, 9, none⟩ = some (.int .u64 (dg q 3)) := hS.d 3 (by omega); have x10 : wr.cell? ⟨w.heap.size, 10, none⟩ = some (.int .u64 (dg q 4)) := hS.d 4 (by omega); have x11 : wr.cell? ⟨w.heap.size, 11, none⟩ = some (.int .u64 (dg q 5)) := hS.d 5 (by omega); have xf0 : wr.frozen? ⟨w.heap.size, 0, none⟩ = false := hS.f 0 (by omega); have xf1 : wr.frozen? ⟨w.heap.size, 1, none⟩ = false := hS.f 1 (by omega); have xf2 : wr.frozen? ⟨w.heap.size, 2, none⟩ = false := hS.f 2 (by omega); have xf3 : wr.frozen? ⟨w.heap.size, 3, none⟩ = false := hS.f 3 (by omega); have xf4 : wr.frozen? ⟨w.heap.size, 4, none⟩ = false := hS.f 4 (by omega); have xf5 : wr.frozen? ⟨w.heap.size, 5, none⟩ = false := hS.f 5 (by omega); have xf6 : wr.frozen? ⟨w.heap.size, 6, none⟩ = false := hS.g 0 (by omega); have xf7 : wr.frozen? ⟨w.heap.size, 7, none⟩ = false := hS.g 1 (by omega); have xf8 : wr.frozen? ⟨w.heap.size, 8, none⟩ = false := hS.g 2 (by omega); have xf9 : wr.frozen? ⟨w.heap.size, 9, none⟩ = false := hS.g 3 (by omega); have xf10 : wr.frozen? ⟨w.heap.size, 10, none⟩ = false := hS.g 4 (by omega); have xf11 : wr.frozen? ⟨w.heap.size, 11, none⟩ = false := hS.g 5 (by omega)
      clear hS
      go_wp2_with fail
      refine (CE.out _).mono ?_
      rintro e w2 ⟨rfl, hb⟩
      clear x0 x1 x2 x3 x4 x5 x6 x7 x8 x9 x10 x11 xf0 xf1 xf2 xf3 xf4 xf5 xf6 xf7 xf8 xf9 xf10 xf11
      have HU2 := hU.out.ahead hb
      have HU3 : Hid (Un d (c + LP) w w2) := by have h := HU2; rw [hLP.out] at h; exact h
      clear HU2 hb cR fR CE hU
      have c2 := HU3.out.c
      have f2 := HU3.out.f
      have hLr : 0 ≤ LP ∧ LP ≤ 200000 := by rw [← hLP.out]; omega
      clear hcr hLP
      go_wp2_with fail
      refine (utake_any d (c + LP) RX RO (by omega) (by omega) _ c2 f2).mono ?_
      rintro e w3 ⟨rfl, hU3⟩
      have U4 : Hid (Un d (c + (LP + bi RO)) w w3) := by show Un _ _ _ _; rw [← Int.add_assoc]; exact HU3.out.chain hU3
      clear hU3 c2 f2 HU3
      go_wp2
      go_ret
      exact ⟨rfl, U4.out⟩
end Go.Proofs.YtdfjnbkkdgolnaaGreatDoor
set_option linter.unusedVariables false
set_option linter.unusedSimpArgs false
namespace Go.Proofs.YtdfjnbkkdgolnaaGreatDoor
open Go.RowKit

/-- How many are held of the first j of a hinge's slope. -/
def hsC (f g : Nat → Int) (j : Nat) : Int := cntV (mpO f g) j + cntV (hgO f g) j + cntV (slO f g) j
theorem hsC_succ (f g : Nat → Int) (j : Nat) : hsC f g (j + 1) = hsC f g j + bi (mpO f g j) + bi (hgO f g j) + bi (slO f g j) := by
  show cntV (mpO f g) j + bi (mpO f g j) + (cntV (hgO f g) j + bi (hgO f g j)) + (cntV (slO f g) j + bi (slO f g j)) = cntV (mpO f g) j + cntV (hgO f g) j + cntV (slO f g) j + _ + _ + _
  omega
theorem hsC_rng (f g : Nat → Int) (j : Nat) : 0 ≤ hsC f g j ∧ hsC f g j ≤ 3 * (j : Int) := by
  have h1 := cnt_rng (mpO f g) j
  have h2 := cnt_rng (hgO f g) j
  have h3 := cnt_rng (slO f g) j
  unfold hsC
  omega
set_option maxRecDepth 100000 in
set_option maxHeartbeats 4000000 in
theorem slope_hg (va vb : Value) (n : Nat) (f g : Nat → Int) (d : Nat) (c : Int) (hn : n ≤ 70000) (c0 : 0 ≤ c) (c1 : c ≤ 900000000) (w : World) (hA : Ar w va n f) (hB : Ar w vb n g) (nA : Nb va d) (nB : Nb vb d) (hc : w.cell? ⟨d, 0, none⟩ = some (.int .i64 c)) (hf : w.frozen? ⟨d, 0, none⟩ = false) :
    Calls Tryz.prog 29 #[.pointer (some ⟨d, 0, none⟩), .int .i64 2, va, vb] w fun e w' => ∃ v', e = .returned v' ∧ Ar w' v' n (slX false f g) ∧ Ow w.heap.size v' ∧ Un d (c + slC false f g n) w w' := by
  obtain ⟨i0, hi, hz0, hz1, hz2⟩ := info_parts dinfo_i64
  have hd := World.block_lt_of_cell? _ _ hc
  obtain ⟨adr, cap, b, o, rfl, x1, x2, x3, x4⟩ := hA
  obtain ⟨adq, caq, bq, oq, rfl, y1, y2, y3, y4⟩ := hB
  unfold maxLen at *
  have HA : Hid (∀ j, j < n → adr = some ⟨b, o, none⟩ ∧ b ≠ d ∧ w.cell? ⟨b, o + j, none⟩ = some (.int .i64 (f j)) ∧ -9223372036854775808 ≤ f j ∧ f j ≤ 9223372036854775807) := fun j hj => by
    have e := x3 (by omega)
    refine ⟨e, ?_, x4 j hj⟩
    subst e
    exact nA _ _ _ rfl (by omega)
  have HB : Hid (∀ j, j < n → adq = some ⟨bq, oq, none⟩ ∧ bq ≠ d ∧ w.cell? ⟨bq, oq + j, none⟩ = some (.int .i64 (g j)) ∧ -9223372036854775808 ≤ g j ∧ g j ≤ 9223372036854775807) := fun j hj => by
    have e := y3 (by omega)
    refine ⟨e, ?_, y4 j hj⟩
    subst e
    exact nB _ _ _ rfl (by omega)
  have U0 : Hid (Un d c w w) := Un.same hc hf
  clear x3 x4 nA hc hf y3 y4 nB
  have HR : Hid (∀ i, slX false f g i = if 0 < hgX f g i then clv (0 - g i) else 0) := fun i => slX_hg f g i
  have HRO : Hid (∀ i, slO f g i = if 0 < hgX f g i then ovv (0 - g i) else false) := fun i => slO_hg f g i
  have HG : Hid (∀ i, -9223372036854775808 ≤ slX false f g i ∧ slX false f g i ≤ 9223372036854775807) := fun i => slX_rng _ _ _ _
  have hsC0 : slC false f g n = hsC f g n := slC_hg f g n
  rw [hsC0]
  clear hsC0
  have HLk : Hid (∀ (j : Nat) (W : World), j < n → 0 ≤ c + hsC f g j → c + hsC f g j ≤ 999999000 → W.cell? ⟨d, 0, none⟩ = some (.int .i64 (c + hsC f g j)) → W.frozen? ⟨d, 0, none⟩ = false → Calls Tryz.prog 53 #[.pointer (some ⟨d, 0, none⟩), .int .i64 (f j), .int .i64 (g j)] W fun e w' => e = .returned (.int .i64 (hgX f g j)) ∧ Un d (c + hsC f g j + bi (mpO f g j) + bi (hgO f g j)) W w') := fun j W hj h0 h1 hc hf => lack_any (f j) (g j) (HA.out j hj).2.2.2.1 (HA.out j hj).2.2.2.2 (HB.out j hj).2.2.2.1 (HB.out j hj).2.2.2.2 d _ h0 h1 W hc hf
  generalize slX false f g = RX at *
  go_enter Tryz.func29, Tryz.ntmps29
  go_wp2
  go_loopw [9, 10] (fun so si wr => ∃ j : Nat, j ≤ n ∧ si = .int .i64 (j : Int) ∧ wr.ownsRow w.heap.size 2 1 so j (il RX j) ∧ Hid (Un d (c + hsC f g j) w wr)) (fun _ si _ => n - (intOf si).toNat)
  case atStart => exact ⟨0, by omega, rfl, World.ownsRow_nil _ _ _ _, by show Un d (c + 0) w w; rw [Int.add_zero]; exact U0.out⟩
  case round =>
    obtain ⟨j, hj, rfl, hown, hU⟩ := hrel
    by_cases hlt : j < n
    · have hjI : (j : Int) < (n : Int) := by omega
      obtain ⟨ea, na, ca, a0, a1⟩ := HA.out j hlt
      subst ea
      have cA : wr.cell? ⟨b, o + j, none⟩ = some (.int .i64 (f j)) := hU.out.o _ _ na ca
      obtain ⟨eb, nb, cb, b0, b1⟩ := HB.out j hlt
      subst eb
      have cB : wr.cell? ⟨bq, oq + j, none⟩ = some (.int .i64 (g j)) := hU.out.o _ _ nb cb
      have hcr := hsC_rng f g j
      have rx := HR.out j
      have ro := HRO.out j
      have hsu := hsC_succ f g j
      have CM : Hid (∀ W : World, Calls Tryz.prog 52 #[.int .i64 0, .int .i64 (g j)] W fun e w' => e = .returned (.tuple #[.int .i64 (clv (0 - g j)), .bool (ovv (0 - g j))]) ∧ Below W.heap.size W w') := rfsub_any 0 (g j) (by omega) (by omega) b0 b1
      have CL : Hid (∀ (W : World), W.cell? ⟨d, 0, none⟩ = some (.int .i64 (c + hsC f g j)) → W.frozen? ⟨d, 0, none⟩ = false → Calls Tryz.prog 53 #[.pointer (some ⟨d, 0, none⟩), .int .i64 (f j), .int .i64 (g j)] W fun e w' => e = .returned (.int .i64 (hgX f g j)) ∧ Un d (c + hsC f g j + bi (mpO f g j) + bi (hgO f g j)) W w') := fun W hc hf => HLk.out j W hlt (by omega) (by omega) hc hf
      have bm := bi_rng (mpO f g j)
      have bh := bi_rng (hgO f g j)
      generalize hsC f g (j + 1) = C2 at *
      have Hsu : Hid (C2 = hsC f g j + bi (mpO f g j) + bi (hgO f g j) + bi (slO f g j)) := hsu
      have HC2 : Hid (∀ W W' : World, Un d (c + C2) W W' → Un d (c + hsC f g (j + 1)) W W') := fun W W' h => by rw [hsC_succ, ← Hsu.out]; exact h
      have HC : Hid (Un d (c + hsC f g j) w wr ∧ wr.ownsRow w.heap.size 2 1 u9 j (il RX j)) := ⟨hU.out, hown⟩
      clear hsu ca cb hU hown
      generalize hsC f g j = C1 at *
      go_upto_region 8 with fail
      have CC : wr.drew.cell? ⟨b, o + j, none⟩ = some (.int .i64 (f j)) ∧ wr.drew.cell? ⟨bq, oq + j, none⟩ = some (.int .i64 (g j)) := ⟨cA, cB⟩
      have HD : Hid (∃ C, Un d C w wr.drew ∧ wr.drew.ownsRow w.heap.size 2 1 u9 j (il RX j)) := ⟨_, HC.out.1.ahead ((Below.refl _ _).drew), own_later HC.out.2 ((Below.refl _ _).drew)⟩
      have HE : Hid (Un d (c + C1) w wr.drew ∧ wr.drew.ownsRow w.heap.size 2 1 u9 j (il RX j)) := ⟨HC.out.1.ahead ((Below.refl _ _).drew), own_later HC.out.2 ((Below.refl _ _).drew)⟩
      clear HC cA cB HD
      go_region_held3 (fun w' => w'.cell? ⟨b, o + j, none⟩ = some (.int .i64 (f j)) ∧ w'.cell? ⟨bq, oq + j, none⟩ = some (.int .i64 (g j))) (exact CC) (first
        | (go_at_call 53; refine (CL.out _ HE.out.1.c HE.out.1.f).mono ?_; rintro e wz ⟨rfl, hu⟩; replace CC := And.intro (hu.o _ _ na CC.1) (hu.o _ _ nb CC.2); have HF : Hid (Un d (c + C1 + bi (mpO f g j) + bi (hgO f g j)) w wz ∧ wz.ownsRow w.heap.size 2 1 u9 j (il RX j)) := ⟨HE.out.1.chain hu, own_un HE.out.2 hu hd⟩; clear hu HE CL))
      have cB2 := CC.2
      clear CC
      by_cases hp : 0 < hgX f g j
      · rw [if_pos hp] at rx ro
        have Hrx : Hid (RX j = clv (0 - g j) ∧ slO f g j = ovv (0 - g j)) := ⟨rx, ro⟩
        clear HR HRO HLk rx ro
        go_wp2_with fail
        refine (CM.out _).mono ?_
        rintro e wy ⟨rfl, hb⟩
        have HG2 : Hid (Un d (c + C1 + bi (mpO f g j) + bi (hgO f g j)) w wy ∧ wy.ownsRow w.heap.size 2 1 u9 j (il RX j)) := hidUO HF hb
        clear HF hb CM cB2
        have ct := HG2.out.1.c
        have ft := HG2.out.1.f
        rw [← Hrx.out.1, ← Hrx.out.2]
        clear Hrx
        go_wp2_with fail
        refine (utake_any d (c + C1 + bi (mpO f g j) + bi (hgO f g j)) (RX j) (slO f g j) (by omega) (by omega) _ ct ft).mono ?_
        rintro e w2 ⟨rfl, hU2⟩
        have hown2 : w2.ownsRow w.heap.size 2 1 u9 j (il RX j) := own_un HG2.out.2 hU2 hd
        have HU2 : Hid (Un d (c + C2) w w2) := by
          have e : c + C2 = c + C1 + bi (mpO f g j) + bi (hgO f g j) + bi (slO f g j) := by have := Hsu.out; omega
          show Un _ _ _ _
          rw [e]
          exact HG2.out.1.chain hU2
        have hsz : w.heap.size ≤ w2.heap.size := HU2.out.s
        clear ct ft hU2 HG2
        go_wp2_with (at_builtin; refine wpList_append_own _ rfl _ _ 35 rfl w.heap.size 2 i0 (.int .i64 0) 1 8 Tryz.underlying35 hi hz0 hz1 hz2 rfl (by decide) _ _ _ rfl (hown2.alloc _) ⟨w2.heap.size, 0, none⟩ 1 1 [.int .i64 (RX j)] rfl rfl (cell_one_new _ _ _) (ints_oneCell .i64 [RX j]) (by unfold maxLen; omega) (by omega) (by simp; omega) ?_; intro v' w3 hown' hgrow hnil)
        have hown3 : w3.ownsRow w.heap.size 2 1 v' (j + 1) (il RX (j + 1)) := by rw [il_succ]; exact hown'
        have HU3 : Hid (Un d (c + hsC f g (j + 1)) w w3) := HC2.out _ _ (HU2.out.grow hd hgrow (fun k hk => (hown2.lt k hk).1))
        clear hown' hgrow hnil hown2 HU2
        go_wp2
        go_roundw
        case rel => exact ⟨j + 1, by omega, by go_num, hown3, HU3⟩
        case measure => simp [intOf]; omega
      · rw [if_neg hp] at rx ro
        have HU2 : Hid (Un d (c + C2) w wz) := by
          have e : c + C2 = c + C1 + bi (mpO f g j) + bi (hgO f g j) := by
            have h := Hsu.out
            rw [ro] at h
            have : bi false = 0 := rfl
            omega
          show Un _ _ _ _
          rw [e]
          exact HF.out.1
        have hown2 := HF.out.2
        have hsz : w.heap.size ≤ wz.heap.size := HU2.out.s
        have Hrx : Hid (RX j = 0) := rx
        clear HF CM cB2 rx ro
        go_wp2_with (at_builtin; refine wpList_append_own _ rfl _ _ 35 rfl w.heap.size 2 i0 (.int .i64 0) 1 8 Tryz.underlying35 hi hz0 hz1 hz2 rfl (by decide) _ _ _ rfl (hown2.alloc _) ⟨wz.heap.size, 0, none⟩ 1 1 [.int .i64 0] rfl rfl (cell_one_new _ _ _) (ints_oneCell .i64 [0]) (by unfold maxLen; omega) (by omega) (by simp; omega) ?_; intro v' w3 hown' hgrow hnil)
        have hown3 : w3.ownsRow w.heap.size 2 1 v' (j + 1) (il RX (j + 1)) := by rw [il_succ, Hrx.out]; exact hown'
        have HU3 : Hid (Un d (c + hsC f g (j + 1)) w w3) := HC2.out _ _ (HU2.out.grow hd hgrow (fun k hk => (hown2.lt k hk).1))
        clear hown' hgrow hnil hown2 HU2
        go_wp2
        go_roundw
        case rel => exact ⟨j + 1, by omega, by go_num, hown3, HU3⟩
        case measure => simp [intOf]; omega
    · obtain rfl : j = n := by omega
      have HQ : Hid (Ar wr u9 j RX ∧ Ow w.heap.size u9) := ar_of_own hown (fun k hk => HG.out k)
      have hjj : ¬ (j : Int) < (j : Int) := by omega
      clear hown
      go_wp2
      go_ret
      exact ⟨_, rfl, HQ.out.1, HQ.out.2, hU.out⟩
end Go.Proofs.YtdfjnbkkdgolnaaGreatDoor
