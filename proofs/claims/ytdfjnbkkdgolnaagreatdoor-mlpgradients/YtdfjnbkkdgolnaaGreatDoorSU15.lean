/-
  Texts of this proof, joined: NWalkA NWalkC NWalkJ.
-/
import Derived.Test.YtdfjnbkkdgolnaaGreatDoorSU07
import Derived.Test.YtdfjnbkkdgolnaaGreatDoorSU09
import Derived.Test.YtdfjnbkkdgolnaaGreatDoorSU10
import Derived.Test.YtdfjnbkkdgolnaaGreatDoorSU14
import Derived.Maps.AppendAt
import Derived.Deep.RegionHeld3
set_option linter.unusedVariables false
set_option linter.unusedSimpArgs false
namespace Go.Proofs.YtdfjnbkkdgolnaaGreatDoor
open Go.RowKit

/-- Is a size outside? -/
def osB (x : Int) : Bool := decide (x < 1) || decide (64 < x)
theorem osB_yes {x : Int} (h : ¬ (1 ≤ x ∧ x ≤ 64)) : osB x = true := by unfold osB; simp; omega
theorem osB_no {x : Int} (h : 1 ≤ x ∧ x ≤ 64) : osB x = false := by unfold osB; simp; omega
set_option maxHeartbeats 1000000 in
theorem pOutside_any (x : Int) (w : World) :
    Calls Tryz.prog 36 #[.int .i64 x] w fun e w' => e = .returned (.bool (osB x)) ∧ w' = w := by
  by_cases h1 : x < 1
  · rw [osB_yes (by omega)]
    go_enter Tryz.func36, Tryz.ntmps36
    go_wp2
    go_ret
    exact ⟨rfl, rfl⟩
  · by_cases h2 : 64 < x
    · rw [osB_yes (by omega)]
      go_enter Tryz.func36, Tryz.ntmps36
      go_wp2
      go_ret
      exact ⟨rfl, rfl⟩
    · rw [osB_no (by omega)]
      go_enter Tryz.func36, Tryz.ntmps36
      go_wp2
      go_ret
      exact ⟨rfl, rfl⟩
/-- Is one of so many outside? -/
def osX (f : Nat → Int) (m : Nat) : Bool := (List.range m).any (fun k => osB (f k))
theorem osX_yes {f : Nat → Int} {m k : Nat} (hk : k < m) (h : osB (f k) = true) : osX f m = true := List.any_eq_true.2 ⟨k, List.mem_range.2 hk, h⟩
theorem osX_no {f : Nat → Int} {m : Nat} (h : ∀ k, k < m → osB (f k) = false) : osX f m = false := by
  rw [Bool.eq_false_iff]
  intro e
  obtain ⟨k, hk, h2⟩ := List.any_eq_true.1 e
  rw [h k (List.mem_range.1 hk)] at h2
  cases h2
theorem osX_sz {f : Nat → Int} {m : Nat} (h : szB f m) : osX f m = false := osX_no (fun k hk => osB_no (h k hk))
theorem osX_bad {f : Nat → Int} {m : Nat} (h : ¬ szB f m) : osX f m = true := by
  cases e : osX f m with
  | true => rfl
  | false =>
    refine absurd (fun k hk => ?_) h
    refine Classical.byContradiction fun hc => ?_
    rw [osX_yes hk (osB_yes hc)] at e
    cases e
set_option maxRecDepth 100000 in
set_option maxHeartbeats 2000000 in
theorem pIndex7_any (va : Value) (m : Nat) (f : Nat → Int) (w : World) (hA : Ar w va m f) :
    Calls Tryz.prog 62 #[va, .func (.func 36) #[] #[]] w fun e w' => ∃ i : Int, e = .returned (.int .i64 i) ∧ (osX f m = true → 0 ≤ i) ∧ (osX f m = false → i < 0) ∧ w' = w := by
  obtain ⟨adr, cap, b, o, rfl, k1, k2, k3, k4⟩ := hA
  unfold maxLen at k2
  have HC : Hid (∀ k, k < m → w.cell? ⟨b, o + k, none⟩ = some (.int .i64 (f k))) := fun k hk => (k4 k hk).1
  have HK : Hid (0 < m → adr = some ⟨b, o, none⟩) := k3
  clear k3 k4
  go_enter Tryz.func62, Tryz.ntmps62
  go_wp2
  go_loopw [8] (fun s8 wr => ∃ j : Nat, j ≤ m ∧ s8 = .int .i64 (j : Int) ∧ Hid (∀ k, k < j → osB (f k) = false) ∧ wr = w) (fun s8 _ => m - (intOf s8).toNat)
  case atStart => exact ⟨0, by omega, rfl, fun k hk => by omega, rfl⟩
  case round =>
    obtain ⟨j, hj, rfl, hA, rfl⟩ := hrel
    by_cases hlt : j < m
    · have hjI : (j : Int) < (m : Int) := by omega
      have ea := HK.out (by omega)
      subst ea
      have hcell := HC.out j hlt
      have CT : Hid (∀ W : World, Calls Tryz.prog 36 #[.int .i64 (f j)] W fun e w' => e = .returned (.bool (osB (f j))) ∧ w' = W) := fun W => pOutside_any (f j) W
      cases hb : osB (f j) with
      | true =>
        rw [hb] at CT
        have HF : Hid (osX f m = true) := osX_yes hlt hb
        clear hb hA
        go_wp2_with (go_at_call 36; refine (CT.out _).mono ?_; rintro e wz ⟨rfl, hz⟩; subst hz)
        go_ret
        exact ⟨_, rfl, fun _ => by omega, fun h => (by rw [HF.out] at h; cases h), rfl⟩
      | false =>
        rw [hb] at CT
        have HA2 : Hid (∀ k, k < j + 1 → osB (f k) = false) := fun k hk => by
          rcases Nat.lt_or_ge k j with h | h
          · exact hA.out k h
          · obtain rfl : k = j := by omega
            exact hb
        clear hb hA
        go_wp2_with (go_at_call 36; refine (CT.out _).mono ?_; rintro e wz ⟨rfl, hz⟩; subst hz)
        go_roundw
        case rel => exact ⟨j + 1, by omega, by go_num, HA2, trivial⟩
        case measure => simp [intOf]; omega
    · have HF : Hid (osX f m = false) := osX_no (fun k hk => hA.out k (by omega))
      have hjI : ¬ (j : Int) < (m : Int) := by omega
      clear hA
      go_wp2
      go_ret
      exact ⟨_, rfl, fun h => (by rw [HF.out] at h; cases h), fun _ => by omega, rfl⟩
set_option maxHeartbeats 1000000 in
theorem pContains7_any (va : Value) (m : Nat) (f : Nat → Int) (w : World) (hA : Ar w va m f) :
    Calls Tryz.prog 35 #[va, .func (.func 36) #[] #[]] w fun e w' => e = .returned (.bool (osX f m)) ∧ w' = w := by
  have CI : Hid (Calls Tryz.prog 62 #[va, .func (.func 36) #[] #[]] w fun e w' => ∃ i : Int, e = .returned (.int .i64 i) ∧ (osX f m = true → 0 ≤ i) ∧ (osX f m = false → i < 0) ∧ w' = w) := pIndex7_any va m f w hA
  obtain ⟨adr, cap, g, o, rfl, -, -, -, -⟩ := hA
  generalize osX f m = B at *
  cases B
  · go_enter Tryz.func35, Tryz.ntmps35
    go_wp2_with fail
    refine CI.out.mono ?_
    rintro e wz ⟨i, rfl, -, h1, hz⟩
    subst hz
    have h2 : ¬ (0 : Int) ≤ i := by have := h1 (by trivial); omega
    clear CI h1
    go_wp2
    go_ret
    exact ⟨by simp [h2], rfl⟩
  · go_enter Tryz.func35, Tryz.ntmps35
    go_wp2_with fail
    refine CI.out.mono ?_
    rintro e wz ⟨i, rfl, h1, -, hz⟩
    subst hz
    have h2 : (0 : Int) ≤ i := h1 (by trivial)
    clear CI h1
    go_wp2
    go_ret
    exact ⟨by simp [h2], rfl⟩
set_option maxRecDepth 100000 in
set_option maxHeartbeats 4000000 in
theorem pCount_no (va : Value) (m : Nat) (f : Nat → Int) (w : World) (hA : Ar w va m f) (hz : ¬ (2 ≤ m ∧ m ≤ 6 ∧ szB f m)) :
    Calls Tryz.prog 11 #[va] w fun e w' => e = .returned (.tuple #[.int .i64 0, .int .i64 70]) ∧ w' = w := by
  have CI : Hid (Calls Tryz.prog 35 #[va, .func (.func 36) #[] #[]] w fun e w' => e = .returned (.bool (osX f m)) ∧ w' = w) := pContains7_any va m f w hA
  obtain ⟨adr, cap, b, o, rfl, k1, k2, -, -⟩ := hA
  unfold maxLen at k2
  by_cases h2 : m < 2
  · have q1 : (m : Int) < 2 := by omega
    clear CI hz
    go_enter Tryz.func11, Tryz.ntmps11
    go_wp2
    go_ret2
    exact ⟨rfl, rfl⟩
  by_cases h6 : 6 < m
  · have q1 : ¬ (m : Int) < 2 := by omega
    have q2 : (6 : Int) < (m : Int) := by omega
    clear CI hz
    go_enter Tryz.func11, Tryz.ntmps11
    go_wp2
    go_ret2
    exact ⟨rfl, rfl⟩
  have q1 : ¬ (m : Int) < 2 := by omega
  have q2 : ¬ (6 : Int) < (m : Int) := by omega
  rw [osX_bad (fun h => hz ⟨by omega, by omega, h⟩)] at CI
  clear hz
  go_enter Tryz.func11, Tryz.ntmps11
  go_wp2_with fail
  refine CI.out.mono ?_
  rintro e wz ⟨rfl, hz⟩
  subst hz
  clear CI
  go_wp2
  go_ret2
  exact ⟨rfl, rfl⟩
set_option maxRecDepth 100000 in
set_option maxHeartbeats 4000000 in
theorem pCount_yes (va : Value) (m : Nat) (z : Nat → Nat) (w : World) (hA : Ar w va m (fun i => ((z i : Nat) : Int))) (hz : Szs z m) :
    Calls Tryz.prog 11 #[va] w fun e w' => e = .returned (.tuple #[.int .i64 ((fsN z (m - 1) : Nat) : Int), .int .i64 0]) ∧ w' = w := by
  have CI : Hid (Calls Tryz.prog 35 #[va, .func (.func 36) #[] #[]] w fun e w' => e = .returned (.bool (osX (fun i => ((z i : Nat) : Int)) m)) ∧ w' = w) := pContains7_any va m _ w hA
  obtain ⟨adr, cap, b, o, rfl, k1, k2, k3, k4⟩ := hA
  unfold maxLen at k2
  obtain ⟨m2, m6, hz⟩ := hz
  rw [osX_sz (fun i hi => by have := hz i hi; omega)] at CI
  have ha := k3 (by omega)
  subst ha
  obtain ⟨M, rfl⟩ : ∃ M, m = M + 1 := ⟨m - 1, by omega⟩
  have HX : Hid (∀ i, i < M + 1 → w.cell? ⟨b, o + i, none⟩ = some (.int .i64 ((z i : Nat) : Int))) := fun i hi => (k4 i hi).1
  have HZ : Hid (∀ i, i < M + 1 → 1 ≤ z i ∧ z i ≤ 64) := hz
  clear k3 k4 hz
  have q1 : ¬ ((M + 1 : Nat) : Int) < 2 := by omega
  have q2 : ¬ (6 : Int) < ((M + 1 : Nat) : Int) := by omega
  have q3 : (1 : Int) ≤ ((M + 1 : Nat) : Int) := by omega
  rw [Nat.add_sub_cancel]
  go_enter Tryz.func11, Tryz.ntmps11
  go_wp2_with fail
  refine CI.out.mono ?_
  rintro e wz ⟨rfl, hz⟩
  subst hz
  clear CI
  go_upto_region 5 with fail
  go_loopw [4, 22] (fun s3 si wr => ∃ i v : Nat, i ≤ M ∧ si = .int .i64 (i : Int) ∧ s3 = .int .i64 (v : Int) ∧ Hid (v = fsN z i) ∧ wr = wz) (fun _ si _ => M - (intOf si).toNat)
  case atStart => exact ⟨0, 0, by omega, rfl, rfl, rfl, rfl⟩
  case round =>
    obtain ⟨i, v, hi, rfl, rfl, HV, rfl⟩ := hrel
    by_cases hlt : i < M
    · have hiI : (i : Int) < (M : Int) := by omega
      have hiJ : (i : Int) < ((M + 1 : Nat) : Int) := by omega
      have cA : wr.cell? ⟨b, o + i, none⟩ = some (.int .i64 ((z i : Nat) : Int)) := HX.out i (by omega)
      have cB : wr.cell? ⟨b, o + 1 + i, none⟩ = some (.int .i64 ((z (i + 1) : Nat) : Int)) := by rw [show o + 1 + i = o + (i + 1) by omega]; exact HX.out (i + 1) (by omega)
      obtain ⟨z1, z2⟩ := HZ.out i (by omega)
      obtain ⟨y1, y2⟩ := HZ.out (i + 1) (by omega)
      have hvb : v ≤ 4160 * 6 := by
        have h := fsN_le z (M + 1) i HZ.out (by omega)
        rw [HV.out]; omega
      have HV2 : Hid (v + (z i + 1) * z (i + 1) = fsN z (i + 1)) := by
        show _ = fsN z i + (z i * z (i + 1) + z (i + 1))
        rw [HV.out, Nat.succ_mul]
      have hpb : (z i + 1) * z (i + 1) ≤ 65 * 64 := Nat.mul_le_mul (by omega) y2
      have epr : (((z i + 1 : Nat) : Nat) : Int) * ((z (i + 1) : Nat) : Int) = (((z i + 1) * z (i + 1) : Nat) : Int) := by rw [Int.natCast_mul]
      have w0 : IntKind.i64.wrap (((z i : Nat) : Int) + 1) = ((z i + 1 : Nat) : Int) := by rw [IntKind.wrap_i64]; omega
      generalize (z i + 1) * z (i + 1) = pr at *
      generalize z i + 1 = zc at *
      generalize z i = za at *
      generalize z (i + 1) = zb at *
      have w2 : IntKind.i64.wrap ((pr : Nat) : Int) = (pr : Int) := by rw [IntKind.wrap_i64]; omega
      have w4 : IntKind.i64.wrap ((v : Int) + (pr : Int)) = ((v + pr : Nat) : Int) := by rw [IntKind.wrap_i64]; omega
      generalize v + pr = vv at *
      go_wp2
      go_roundw
      case rel => exact ⟨i + 1, vv, by omega, by go_num, rfl, HV2, trivial⟩
      case measure => simp [intOf]; omega
    · obtain rfl : i = M := by omega
      have hiI : ¬ (i : Int) < (i : Int) := by omega
      have HV' : Hid (fsN z i = v) := HV.out.symm
      go_wp2
      go_ret2
      exact ⟨by show Ending.returned (Value.tuple #[.int .i64 (v : Int), .int .i64 0]) = _; rw [HV'.out], rfl⟩
set_option maxHeartbeats 1000000 in
theorem pChk_no (vs vp : Value) (m lp : Nat) (f P : Nat → Int) (w : World) (hA : Ar w vs m f) (hP : Ar w vp lp P) (hz : ¬ (2 ≤ m ∧ m ≤ 6 ∧ szB f m)) :
    Calls Tryz.prog 37 #[vs, vp] w fun e w' => e = .returned (.int .i64 70) ∧ w' = w := by
  have CI : Hid (Calls Tryz.prog 11 #[vs] w fun e w' => e = .returned (.tuple #[.int .i64 0, .int .i64 70]) ∧ w' = w) := pCount_no vs m f w hA hz
  obtain ⟨adr, cap, b, o, rfl, -, -, -, -⟩ := hA
  obtain ⟨adp, cpp, bp, op, rfl, -, -, -, -⟩ := hP
  clear hz
  go_enter Tryz.func37, Tryz.ntmps37
  go_wp2_with fail
  refine CI.out.mono ?_
  rintro e wz ⟨rfl, hz⟩
  subst hz
  clear CI
  go_wp2
  go_ret
  exact ⟨rfl, rfl⟩
set_option maxHeartbeats 1000000 in
theorem pChk_yes (vs vp : Value) (m lp : Nat) (z : Nat → Nat) (P : Nat → Int) (w : World) (hA : Ar w vs m (fun i => ((z i : Nat) : Int))) (hP : Ar w vp lp P) (hz : Szs z m) :
    Calls Tryz.prog 37 #[vs, vp] w fun e w' => e = .returned (.int .i64 (if lp = fsN z (m - 1) then 0 else 40)) ∧ w' = w := by
  have CI : Hid (Calls Tryz.prog 11 #[vs] w fun e w' => e = .returned (.tuple #[.int .i64 ((fsN z (m - 1) : Nat) : Int), .int .i64 0]) ∧ w' = w) := pCount_yes vs m z w hA hz
  obtain ⟨adr, cap, b, o, rfl, -, -, -, -⟩ := hA
  obtain ⟨adp, cpp, bp, op, rfl, -, -, -, -⟩ := hP
  clear hz
  generalize fsN z (m - 1) = cp at *
  by_cases h : lp = cp
  · rw [if_pos h]
    subst h
    go_enter Tryz.func37, Tryz.ntmps37
    go_wp2_with fail
    refine CI.out.mono ?_
    rintro e wz ⟨rfl, hz⟩
    subst hz
    clear CI
    go_wp2
    go_ret
    exact ⟨rfl, rfl⟩
  · rw [if_neg h]
    have hI : ¬ (lp : Int) = (cp : Int) := by omega
    go_enter Tryz.func37, Tryz.ntmps37
    go_wp2_with fail
    refine CI.out.mono ?_
    rintro e wz ⟨rfl, hz⟩
    subst hz
    clear CI
    go_wp2
    go_ret
    exact ⟨rfl, rfl⟩
end Go.Proofs.YtdfjnbkkdgolnaaGreatDoor
set_option linter.unusedVariables false
set_option linter.unusedSimpArgs false
namespace Go.Proofs.YtdfjnbkkdgolnaaGreatDoor
open Go.RowKit

theorem cell_four_new (w : World) (x y u v : Value) (t : TypeId) : ∀ j q, [x, y, u, v][j]? = some q → (w.alloc (.cells #[x, y, u, v] t)).cell? ((⟨w.heap.size, 0, none⟩ : Addr).add j) = some q := by
  intro j q h
  rcases j with _ | _ | _ | _ | j
  all_goals simp at h
  all_goals subst h
  all_goals simp [go_sem, Addr.add]
theorem dinfo_ly : (Tryz.prog.info? 94).map (fun i => (i.zero, i.size, i.bytes)) = some (some (.agg #[.int .i64 0, .int .i64 0, .slice none 0 0, .slice none 0 0]), 4, 64) := by kernel_rfl
/-- The weights and the offsets of layer k, in a list that lies at b, o. -/
def lyA (b o cap : Nat) (z : Nat → Nat) (k : Nat) : Value := .slice (some ⟨b, o + fsN z k, none⟩) (z (k + 1) * z k) (cap - fsN z k)
def lyB (b o cap : Nat) (z : Nat → Nat) (k : Nat) : Value := .slice (some ⟨b, o + fsN z k + z (k + 1) * z k, none⟩) (z (k + 1)) (cap - fsN z k - z (k + 1) * z k)
/-- The cells of the first layers. -/
def lyL (b o cap : Nat) (z : Nat → Nat) : Nat → List Value
  | 0 => []
  | k + 1 => lyL b o cap z k ++ [.int .i64 ((z (k + 1) : Nat) : Int), .int .i64 ((z k : Nat) : Int), lyA b o cap z k, lyB b o cap z k]
theorem lyL_len (b o cap : Nat) (z : Nat → Nat) (k : Nat) : (lyL b o cap z k).length = k * 4 := by
  induction k with
  | zero => rfl
  | succ k ih => show (lyL b o cap z k ++ _).length = _; rw [List.length_append, ih]; simp; omega
theorem lyL_get (b o cap : Nat) (z : Nat → Nat) (n k : Nat) (hk : k < n) : (lyL b o cap z n)[k * 4]? = some (.int .i64 ((z (k + 1) : Nat) : Int)) ∧ (lyL b o cap z n)[k * 4 + 1]? = some (.int .i64 ((z k : Nat) : Int)) ∧ (lyL b o cap z n)[k * 4 + 2]? = some (lyA b o cap z k) ∧ (lyL b o cap z n)[k * 4 + 3]? = some (lyB b o cap z k) := by
  induction n with
  | zero => omega
  | succ n ih =>
    show (lyL b o cap z n ++ _)[k * 4]? = _ ∧ (lyL b o cap z n ++ _)[k * 4 + 1]? = _ ∧ (lyL b o cap z n ++ _)[k * 4 + 2]? = _ ∧ (lyL b o cap z n ++ _)[k * 4 + 3]? = _
    have hl := lyL_len b o cap z n
    rcases Nat.lt_or_ge k n with h | h
    · obtain ⟨h1, h2, h3, h4⟩ := ih h
      refine ⟨?_, ?_, ?_, ?_⟩
      · rw [List.getElem?_append_left (by omega)]; exact h1
      · rw [List.getElem?_append_left (by omega)]; exact h2
      · rw [List.getElem?_append_left (by omega)]; exact h3
      · rw [List.getElem?_append_left (by omega)]; exact h4
    · obtain rfl : k = n := by omega
      refine ⟨?_, ?_, ?_, ?_⟩
      · rw [List.getElem?_append_right (by omega), hl, Nat.sub_self]; rfl
      · rw [List.getElem?_append_right (by omega), hl, show k * 4 + 1 - k * 4 = 1 by omega]; rfl
      · rw [List.getElem?_append_right (by omega), hl, show k * 4 + 2 - k * 4 = 2 by omega]; rfl
      · rw [List.getElem?_append_right (by omega), hl, show k * 4 + 3 - k * 4 = 3 by omega]; rfl
/-- A list of layers in memory: what lies at b, o is cut into them. -/
def Lyr (w : World) (v : Value) (M : Nat) (z : Nat → Nat) (b o cap : Nat) : Prop :=
  ∃ (g cL : Nat), v = .slice (some ⟨g, 0, none⟩) M cL ∧ M ≤ cL ∧ cL ≤ maxLen ∧ ∀ k, k < M → w.cell? ⟨g, k * 4, none⟩ = some (.int .i64 ((z (k + 1) : Nat) : Int)) ∧ w.cell? ⟨g, k * 4 + 1, none⟩ = some (.int .i64 ((z k : Nat) : Int)) ∧ w.cell? ⟨g, k * 4 + 2, none⟩ = some (lyA b o cap z k) ∧ w.cell? ⟨g, k * 4 + 3, none⟩ = some (lyB b o cap z k)
theorem Lyr.later {w w' : World} {v : Value} {M : Nat} {z : Nat → Nat} {b o cap : Nat} (h : Lyr w v M z b o cap) (hb : Below w.heap.size w w') : Lyr w' v M z b o cap := by
  obtain ⟨g, cL, e, h1, h2, h3⟩ := h
  exact ⟨g, cL, e, h1, h2, fun k hk => by obtain ⟨a1, a2, a3, a4⟩ := h3 k hk; exact ⟨cell_later hb a1, cell_later hb a2, cell_later hb a3, cell_later hb a4⟩⟩
theorem lyr_of_own {w : World} {base : Nat} {v : Value} {M : Nat} {z : Nat → Nat} {b o cap : Nat} (h : w.ownsRow base 94 4 v M (lyL b o cap z M)) (hM : 0 < M) : Lyr w v M z b o cap ∧ Ow base v := by
  rcases id h.2 with ⟨_, h0⟩ | ⟨g, cL, cur, rfl, hg, hh, hc1, hc2, hsz, htk⟩
  · omega
  · have hl := lyL_len b o cap z M
    refine ⟨⟨g, cL, rfl, hc1, hc2, fun k hk => ?_⟩, fun a n c e hn => by cases e; exact hg⟩
    obtain ⟨a1, a2, a3, a4⟩ := lyL_get b o cap z M k hk
    exact ⟨(h.cellAt _ (by omega)).trans a1, (h.cellAt _ (by omega)).trans a2, (h.cellAt _ (by omega)).trans a3, (h.cellAt _ (by omega)).trans a4⟩
set_option maxRecDepth 100000 in
set_option maxHeartbeats 8000000 in
theorem layersOf_any (vs : Value) (m b o cp cap : Nat) (z : Nat → Nat) (w : World) (hA : Ar w vs m (fun i => ((z i : Nat) : Int))) (hz : Szs z m) (hcp : cp = fsN z (m - 1)) (hc1 : cp ≤ cap) (hc2 : cap ≤ maxLen) :
    Calls Tryz.prog 38 #[vs, .slice (some ⟨b, o, none⟩) cp cap] w fun e w' => ∃ g cL, e = .returned (.slice (some ⟨g, 0, none⟩) (m - 1) cL) ∧ Lyr w' (.slice (some ⟨g, 0, none⟩) (m - 1) cL) (m - 1) z b o cap ∧ w.heap.size ≤ g ∧ Below w.heap.size w w' := by
  obtain ⟨i0, hti, hy0, hy1, hy2⟩ := info_parts dinfo_ly
  obtain ⟨adr, cas, bs, os, rfl, k1, k2, k3, k4⟩ := hA
  unfold maxLen at k2 hc2
  obtain ⟨m2, m6, hz⟩ := hz
  have ha := k3 (by omega)
  subst ha
  obtain ⟨M, rfl⟩ : ∃ M, m = M + 1 := ⟨m - 1, by omega⟩
  rw [Nat.add_sub_cancel] at hcp ⊢
  have HX : Hid (∀ i, i < M + 1 → w.cell? ⟨bs, os + i, none⟩ = some (.int .i64 ((z i : Nat) : Int))) := fun i hi => (k4 i hi).1
  have HZ : Hid (∀ i, i < M + 1 → 1 ≤ z i ∧ z i ≤ 64) := hz
  have HCP : Hid (cp = fsN z M ∧ cp ≤ 20800) := ⟨hcp, by have := fsN_le z (M + 1) M hz (by omega); omega⟩
  have q3 : (1 : Int) ≤ ((M + 1 : Nat) : Int) := by omega
  clear k3 k4 hz hcp
  go_enter Tryz.func38, Tryz.ntmps38
  go_upto_region 3 with fail
  go_loopw [1, 5, 12] (fun s1 s5 si wr => ∃ i : Nat, i ≤ M ∧ si = .int .i64 (i : Int) ∧ (∃ q : Nat, s1 = .slice (some ⟨b, q, none⟩) (cp - fsN z i) (cap - fsN z i) ∧ Hid (i < M → q = o + fsN z i)) ∧ Hid (wr.ownsRow w.heap.size 94 4 s5 i (lyL b o cap z i)) ∧ Hid (Below w.heap.size w wr)) (fun _ _ si _ => M - (intOf si).toNat)
  case atStart => exact ⟨0, by omega, rfl, ⟨o, rfl, fun _ => rfl⟩, World.ownsRow_nil _ _ _ _, Below.refl _ _⟩
  case round =>
    obtain ⟨i, hi, rfl, ⟨q, rfl, Hq⟩, HO, HW⟩ := hrel
    by_cases hlt : i < M
    · have eq0 := Hq.out hlt
      subst eq0
      clear Hq
      have hiI : (i : Int) < (M : Int) := by omega
      have hiJ : (i : Int) < ((M + 1 : Nat) : Int) := by omega
      have cA : wr.cell? ⟨bs, os + i, none⟩ = some (.int .i64 ((z i : Nat) : Int)) := cell_later HW.out (HX.out i (by omega))
      have cB : wr.cell? ⟨bs, os + 1 + i, none⟩ = some (.int .i64 ((z (i + 1) : Nat) : Int)) := by rw [show os + 1 + i = os + (i + 1) by omega]; exact cell_later HW.out (HX.out (i + 1) (by omega))
      have HXa : Hid (w.cell? ⟨bs, os + i, none⟩ = some (.int .i64 ((z i : Nat) : Int))) := HX.out i (by omega)
      obtain ⟨z1, z2⟩ := HZ.out i (by omega)
      obtain ⟨y1, y2⟩ := HZ.out (i + 1) (by omega)
      have hstep : fsN z (i + 1) = fsN z i + (z i * z (i + 1) + z (i + 1)) := rfl
      have hmono := fsN_mono z (show i + 1 ≤ M from hlt)
      have hcp := HCP.out
      have hwb : z (i + 1) * z i ≤ 64 * 64 := Nat.mul_le_mul y2 z2
      have ewt : ((z (i + 1) : Nat) : Int) * ((z i : Nat) : Int) = ((z (i + 1) * z i : Nat) : Int) := by rw [Int.natCast_mul]
      rw [Nat.mul_comm (z i)] at hstep
      obtain ⟨R, hR⟩ : ∃ R, R = lyL b o cap z i ++ [.int .i64 ((z (i + 1) : Nat) : Int), .int .i64 ((z i : Nat) : Int), lyA b o cap z i, lyB b o cap z i] := ⟨_, rfl⟩
      have HR : Hid (R = lyL b o cap z (i + 1)) := hR
      obtain ⟨Fi, hFi⟩ : ∃ q, fsN z i = q := ⟨_, rfl⟩
      obtain ⟨wt, hwt⟩ : ∃ q, z (i + 1) * z i = q := ⟨_, rfl⟩
      unfold lyA lyB at hR
      have HF : Hid (fsN z (i + 1) = Fi + (wt + z (i + 1))) := by show _ = _; rw [hstep, hFi, hwt]
      rw [hFi, hwt] at hR
      rw [hFi, hwt] at hstep
      rw [hwt] at ewt hwb
      rw [hFi]
      generalize z i = za at *
      generalize z (i + 1) = zb at *
      clear hFi hwt
      obtain ⟨wz, hwz⟩ : ∃ q, wt + zb = q := ⟨_, rfl⟩
      obtain ⟨KF, hKF⟩ : ∃ q, cap - Fi = q := ⟨_, rfl⟩
      obtain ⟨LF, hLF⟩ : ∃ q, cp - Fi = q := ⟨_, rfl⟩
      obtain ⟨oF, hoF⟩ : ∃ q, o + Fi = q := ⟨_, rfl⟩
      have hiK : (i : Int) < (M : Int) + 1 := by omega
      have v1 : (wt : Int) ≤ (KF : Int) := by omega
      have v2 : (wz : Int) ≤ (KF : Int) := by omega
      have v3 : (wt : Int) ≤ (wz : Int) := by omega
      have v4 : (wz : Int) ≤ (LF : Int) := by omega
      have v6 : ¬ KF = wt := by omega
      have v5 : (LF : Int) ≤ (KF : Int) := by omega
      have w2 : IntKind.i64.wrap ((wt : Nat) : Int) = (wt : Int) := by rw [IntKind.wrap_i64]; omega
      have w4 : IntKind.i64.wrap ((wt : Int) + (zb : Int)) = (wz : Int) := by rw [IntKind.wrap_i64]; omega
      have HN : Hid (wt + zb = wz ∧ cap - Fi = KF ∧ cp - Fi = LF ∧ o + Fi = oF ∧ Fi + wz ≤ cp ∧ cp ≤ cap) := ⟨hwz, hKF, hLF, hoF, by omega, hc1⟩
      rw [hKF, hLF, hoF]
      rw [hKF, hoF] at hR
      clear hwz hKF hLF hoF
      clear hstep hmono hcp
      go_upto_region 6 with fail
      have HW2 : Hid (Below w.heap.size w wr.drew) := HW.out.drew
      have HO2 : Hid (wr.drew.ownsRow w.heap.size 94 4 u5 i (lyL b o cap z i)) := own_later HO.out (Below.refl _ _).drew
      refine wp_region_held_drew (S := fun W' => W'.cell? ⟨bs, os + i, none⟩ = some (.int .i64 (za : Int))) (by kernel_rfl) cA (fun HS => ?_)
      clear cA cB HW HO
      generalize wr.drew = wd at *
      refine wpAnyH_take (i := 0) (v := ?v1) rfl (by kernel_rfl) (by kernel_rfl) (by kernel_rfl) (fun _ _ _ h => h) (Or.inl ⟨by kernel_rfl, ?h1⟩) HS ?r1
      case h1 => (rintro w s1; go_simp) <;> with_reducible rfl
      try simp only [Act.put, List.getElem_toArray, List.getElem_cons_succ, List.getElem_cons_zero, List.setIfInBounds_toArray, List.set_cons_zero, List.set_cons_succ]
      refine wpAnyH_take (i := 1) (v := ?v2) rfl (by kernel_rfl) (by kernel_rfl) (by kernel_rfl) (fun _ _ _ h => h) (Or.inl ⟨by kernel_rfl, ?h2⟩) HS ?r2
      case h2 => (rintro w s1; go_simp) <;> with_reducible rfl
      try simp only [Act.put, List.getElem_toArray, List.getElem_cons_succ, List.getElem_cons_zero, List.setIfInBounds_toArray, List.set_cons_zero, List.set_cons_succ]
      refine wpAnyH_take (i := 2) (v := ?v3) rfl (by kernel_rfl) (by kernel_rfl) (by kernel_rfl) (fun _ _ _ h => h) (Or.inl ⟨by kernel_rfl, ?h3⟩) HS ?r3
      case h3 => (rintro w s1; go_simp) <;> with_reducible rfl
      try simp only [Act.put, List.getElem_toArray, List.getElem_cons_succ, List.getElem_cons_zero, List.setIfInBounds_toArray, List.set_cons_zero, List.set_cons_succ]
      refine wpAnyH_take (i := 3) (v := ?v4) rfl (by kernel_rfl) (by kernel_rfl) (by kernel_rfl) (fun _ _ _ h => h) (Or.inl ⟨by kernel_rfl, ?h4⟩) HS ?r4
      case h4 => (rintro w s1; go_simp) <;> with_reducible rfl
      try simp only [Act.put, List.getElem_toArray, List.getElem_cons_succ, List.getElem_cons_zero, List.setIfInBounds_toArray, List.set_cons_zero, List.set_cons_succ]
      refine wpAnyH_take (i := 4) (v := ?v5) rfl (by kernel_rfl) (by kernel_rfl) (by kernel_rfl) (fun _ _ _ h => h) (Or.inl ⟨by kernel_rfl, ?h5⟩) HS ?r5
      case h5 => (rintro w s1; go_simp) <;> with_reducible rfl
      try simp only [Act.put, List.getElem_toArray, List.getElem_cons_succ, List.getElem_cons_zero, List.setIfInBounds_toArray, List.set_cons_zero, List.set_cons_succ]
      refine wpAnyH_take (i := 5) (v := ?v6) rfl (by kernel_rfl) (by kernel_rfl) (by kernel_rfl) (fun _ _ _ h => h) (Or.inl ⟨by kernel_rfl, ?h6⟩) HS ?r6
      case h6 => (rintro w s1; go_simp) <;> with_reducible rfl
      try simp only [Act.put, List.getElem_toArray, List.getElem_cons_succ, List.getElem_cons_zero, List.setIfInBounds_toArray, List.set_cons_zero, List.set_cons_succ]
      refine wpAnyH_take (i := 6) (v := ?v7) rfl (by kernel_rfl) (by kernel_rfl) (by kernel_rfl) (fun _ _ _ h => h) (Or.inl ⟨by kernel_rfl, ?h7⟩) HS ?r7
      case h7 => (rintro w s1; go_simp) <;> with_reducible rfl
      try simp only [Act.put, List.getElem_toArray, List.getElem_cons_succ, List.getElem_cons_zero, List.setIfInBounds_toArray, List.set_cons_zero, List.set_cons_succ]
      refine wpAnyH_take (i := 7) (v := ?v8) rfl (by kernel_rfl) (by kernel_rfl) (by kernel_rfl) (fun _ _ _ h => h) (Or.inl ⟨by kernel_rfl, ?h8⟩) HS ?r8
      case h8 => (rintro w s1; go_simp) <;> with_reducible rfl
      try simp only [Act.put, List.getElem_toArray, List.getElem_cons_succ, List.getElem_cons_zero, List.setIfInBounds_toArray, List.set_cons_zero, List.set_cons_succ]
      refine wpAnyH_take (i := 8) (v := ?v9) rfl (by kernel_rfl) (by kernel_rfl) (by kernel_rfl) (fun _ _ _ h => h) (Or.inl ⟨by kernel_rfl, ?h9⟩) HS ?r9
      case h9 => (rintro w s1; go_simp) <;> with_reducible rfl
      try simp only [Act.put, List.getElem_toArray, List.getElem_cons_succ, List.getElem_cons_zero, List.setIfInBounds_toArray, List.set_cons_zero, List.set_cons_succ]
      refine wpAnyH_take (i := 9) (v := ?v10) rfl (by kernel_rfl) (by kernel_rfl) (by kernel_rfl) (fun _ _ _ h => h) (Or.inl ⟨by kernel_rfl, ?h10⟩) HS ?r10
      case h10 => (rintro w s1; go_simp) <;> with_reducible rfl
      try simp only [Act.put, List.getElem_toArray, List.getElem_cons_succ, List.getElem_cons_zero, List.setIfInBounds_toArray, List.set_cons_zero, List.set_cons_succ]
      refine wpAnyH_take (i := 10) (v := ?v11) rfl (by kernel_rfl) (by kernel_rfl) (by kernel_rfl) (fun _ _ _ h => h) (Or.inl ⟨by kernel_rfl, ?h11⟩) HS ?r11
      case h11 => (rintro w s1; go_simp) <;> with_reducible rfl
      try simp only [Act.put, List.getElem_toArray, List.getElem_cons_succ, List.getElem_cons_zero, List.setIfInBounds_toArray, List.set_cons_zero, List.set_cons_succ]
      refine wpAnyH_take (i := 11) (v := ?v12) rfl (by kernel_rfl) (by kernel_rfl) (by kernel_rfl) (fun _ _ _ h => h) (Or.inl ⟨by kernel_rfl, ?h12⟩) HS ?r12
      case h12 => (rintro w s1; go_simp) <;> with_reducible rfl
      try simp only [Act.put, List.getElem_toArray, List.getElem_cons_succ, List.getElem_cons_zero, List.setIfInBounds_toArray, List.set_cons_zero, List.set_cons_succ]
      refine wpAnyH_take (i := 12) (v := ?v13) rfl (by kernel_rfl) (by kernel_rfl) (by kernel_rfl) (fun _ _ _ h => h) (Or.inl ⟨by kernel_rfl, ?h13⟩) HS ?r13
      case h13 => (rintro w s1; go_simp) <;> with_reducible rfl
      try simp only [Act.put, List.getElem_toArray, List.getElem_cons_succ, List.getElem_cons_zero, List.setIfInBounds_toArray, List.set_cons_zero, List.set_cons_succ]
      refine wpAnyH_take (i := 13) (v := ?v14) rfl (by kernel_rfl) (by kernel_rfl) (by kernel_rfl) (fun _ _ _ h => h) (Or.inl ⟨by kernel_rfl, ?h14⟩) HS ?r14
      case h14 => (rintro w s1; go_simp) <;> with_reducible rfl
      try simp only [Act.put, List.getElem_toArray, List.getElem_cons_succ, List.getElem_cons_zero, List.setIfInBounds_toArray, List.set_cons_zero, List.set_cons_succ]
      refine wpAnyH_take (i := 14) (v := ?v15) rfl (by kernel_rfl) (by kernel_rfl) (by kernel_rfl) (fun _ _ _ h => h) (Or.inl ⟨by kernel_rfl, ?h15⟩) HS ?r15
      case h15 => (rintro w s1; go_simp) <;> with_reducible rfl
      try simp only [Act.put, List.getElem_toArray, List.getElem_cons_succ, List.getElem_cons_zero, List.setIfInBounds_toArray, List.set_cons_zero, List.set_cons_succ]
      refine wpAnyH_take (i := 15) (v := ?v16) rfl (by kernel_rfl) (by kernel_rfl) (by kernel_rfl) (fun _ _ _ h => h) (Or.inl ⟨by kernel_rfl, ?h16⟩) HS ?r16
      case h16 => (rintro w s1; go_simp) <;> with_reducible rfl
      try simp only [Act.put, List.getElem_toArray, List.getElem_cons_succ, List.getElem_cons_zero, List.setIfInBounds_toArray, List.set_cons_zero, List.set_cons_succ]
      refine wpAnyH_take (i := 16) (v := ?v17) rfl (by kernel_rfl) (by kernel_rfl) (by kernel_rfl) (fun _ _ _ h => h) (Or.inl ⟨by kernel_rfl, ?h17⟩) HS ?r17
      case h17 => (rintro w s1; go_simp) <;> with_reducible rfl
      try simp only [Act.put, List.getElem_toArray, List.getElem_cons_succ, List.getElem_cons_zero, List.setIfInBounds_toArray, List.set_cons_zero, List.set_cons_succ]
      refine wpAnyH_ready (rs := [17]) (by kernel_rfl) (by simp) ?_
      refine AllReadyH.cons rfl (fun K hK => ?_) AllReadyH.nil
      go_simp
      refine hK.out _ _ (cell_later (bel1 _ _) HS) (fun HS => ?_)
      clear hK K
      refine wpAnyH_ready (rs := [18]) (by kernel_rfl) (by simp) ?_
      refine AllReadyH.cons rfl (fun K hK => ?_) AllReadyH.nil
      rw [if_pos (by kernel_rfl)]
      refine wp_append_own _ _ _ 91 rfl w.heap.size 94 i0 (.agg #[.int .i64 0, .int .i64 0, .slice none 0 0, .slice none 0 0]) 4 64 Tryz.underlying91 hti hy0 hy1 hy2 rfl (by decide) u5 i (lyL b o cap z i) rfl (HO2.out.alloc _) ⟨wd.heap.size, 0, none⟩ 1 1 [.int .i64 (zb : Int), .int .i64 (za : Int), .slice (some ⟨b, oF, none⟩) wt KF, .slice (some ⟨b, oF + wt, none⟩) (wz - wt) (KF - wt)] rfl rfl (cell_four_new _ _ _ _ _ _) (by intro q hq; simp only [List.mem_cons, List.not_mem_nil, or_false] at hq; rcases hq with rfl | rfl | rfl | rfl <;> rfl) (by unfold maxLen; omega) (by omega) (by have := HW2.out.size; rw [World.size_alloc]; omega) (fun v' w9 hown' hgrow hnil => ?_)
      have HW9 : Hid (Below w.heap.size w w9) := below_own HW2.out HW2.out.size HO2.out hgrow
      refine hK.out _ _ (cell_later HW9.out HXa.out) (fun HS => ?_)
      clear hK K hgrow hnil
      refine wpAnyH_take (i := 19) (v := ?v18) rfl (by kernel_rfl) (by kernel_rfl) (by kernel_rfl) (fun _ _ _ h => h) (Or.inl ⟨by kernel_rfl, ?h18⟩) HS ?r18
      case h18 => (rintro w s1; go_simp) <;> with_reducible rfl
      try simp only [Act.put, List.getElem_toArray, List.getElem_cons_succ, List.getElem_cons_zero, List.setIfInBounds_toArray, List.set_cons_zero, List.set_cons_succ]
      refine wpAnyH_done (by kernel_rfl) ?_ _
      clear HS
      have HO9 : Hid (w9.ownsRow w.heap.size 94 4 v' (i + 1) (lyL b o cap z (i + 1))) := by
        have e : wz - wt = zb := by have := HN.out; omega
        rw [e] at hown'
        show w9.ownsRow w.heap.size 94 4 v' (i + 1) (lyL b o cap z (i + 1))
        rw [← HR.out, hR]
        exact hown'
      clear hown' hR HO2 HW2
      have HN2 : Hid (fsN z (i + 1) < fsN z M ∨ i + 1 = M) := by
        show _ ∨ _
        rcases Nat.lt_or_ge (i + 1) M with h | h
        · left
          have h1 := fsN_mono z (show i + 1 + 1 ≤ M from h)
          have h2 := (lyN_le z (M + 1) (i + 1) HZ.out (by omega)).2
          have h3 : fsN z (i + 1 + 1) = fsN z (i + 1) + lyN z (i + 1) := rfl
          omega
        · right; omega
      by_cases hq : KF = wz
      · have hq2 : wz ≤ wz := Nat.le_refl _
        subst hq
        go_wp2
        go_roundw
        case rel =>
          have e1 := HN.out
          have e2 := HF.out
          have e3 := HN2.out
          have e4 := HCP.out
          refine ⟨i + 1, by omega, by go_num, ⟨oF, ?_, fun h => by omega⟩, HO9, HW9⟩
          rw [show cp - fsN z (i + 1) = LF - KF by omega, show cap - fsN z (i + 1) = KF - KF by omega]
          first | rfl | simp
        case measure => simp [intOf]; omega
      · go_wp2
        go_roundw
        case rel =>
          have e1 := HN.out
          have e2 := HF.out
          refine ⟨i + 1, by omega, by go_num, ⟨oF + wz, ?_, fun _ => by omega⟩, HO9, HW9⟩
          rw [show cp - fsN z (i + 1) = LF - wz by omega, show cap - fsN z (i + 1) = KF - wz by omega]
        case measure => simp [intOf]; omega
    · obtain rfl : i = M := by omega
      have hiI : ¬ (i : Int) < (i : Int) := by omega
      obtain ⟨HL, HOw⟩ := lyr_of_own HO.out (by omega)
      obtain ⟨g, cL, rfl, l1, l2, l3⟩ := id HL
      have HL' : Hid (Lyr wr (.slice (some ⟨g, 0, none⟩) i cL) i z b o cap ∧ w.heap.size ≤ g) := ⟨HL, HOw _ _ _ rfl (by omega)⟩
      clear HL HOw l3 HO
      go_wp2
      go_ret
      exact ⟨g, cL, rfl, HL'.out.1, HL'.out.2, HW.out⟩
end Go.Proofs.YtdfjnbkkdgolnaaGreatDoor
set_option linter.unusedVariables false
set_option linter.unusedSimpArgs false
namespace Go.Proofs.YtdfjnbkkdgolnaaGreatDoor
open Go.RowKit

/-- A list of lists that grows, of memory behind a place. -/
def AlF (w : World) (B : Nat) (v : Value) (j : Nat) (ns : Nat → Nat) (fs : Nat → Nat → Int) : Prop :=
  ∃ xs : List Value, w.ownsRow B 23 1 v j xs ∧ ∀ k, k < j → ∃ va : Value, xs[k]? = some va ∧ Ar w va (ns k) (fs k) ∧ Ow B va ∧ ∀ g, v.ownBlock = some g → Nb va g
/-- A list of lists, of memory behind a place. -/
def Vls (B : Nat) (w : World) (v : Value) (m : Nat) (ns : Nat → Nat) (fs : Nat → Nat → Int) : Prop :=
  ∃ (g cap : Nat), v = .slice (some ⟨g, 0, none⟩) m cap ∧ m ≤ cap ∧ cap ≤ maxLen ∧ B ≤ g ∧ ∀ k, k < m → ∃ va : Value, w.cell? ⟨g, k, none⟩ = some va ∧ Ar w va (ns k) (fs k) ∧ Ow B va ∧ Nb va g
theorem AlF.vls {w : World} {B : Nat} {v : Value} {j : Nat} {ns : Nat → Nat} {fs : Nat → Nat → Int} (h : AlF w B v j ns fs) (hj : 0 < j) : Vls B w v j ns fs := by
  obtain ⟨xs, h1, h2⟩ := h
  rcases id h1.2 with ⟨_, h0⟩ | ⟨g, cap, cur, rfl, hg, hh, hc1, hc2, hsz, htk⟩
  · omega
  · refine ⟨g, cap, rfl, hc1, hc2, hg, fun k hk => ?_⟩
    obtain ⟨va, e, a, x, q⟩ := h2 k hk
    exact ⟨va, (h1.cellAt k (by omega)).trans e, a, x, q g rfl⟩
theorem AlF.later {w w' : World} {B : Nat} {v : Value} {j : Nat} {ns : Nat → Nat} {fs : Nat → Nat → Int} (h : AlF w B v j ns fs) (hb : Below w.heap.size w w') : AlF w' B v j ns fs := by
  obtain ⟨xs, h1, h2⟩ := h
  exact ⟨xs, own_later h1 hb, fun k hk => by obtain ⟨va, e, a, c, g⟩ := h2 k hk; exact ⟨va, e, a.later hb, c, g⟩⟩
theorem AlF.ux {w w' : World} {B : Nat} {v : Value} {j : Nat} {ns : Nat → Nat} {fs : Nat → Nat → Int} {p : Option Addr} {c : Int} (h : AlF w B v j ns fs) (hU : Ux p c w w') (hn : ∀ g, B ≤ g → Nu g p) : AlF w' B v j ns fs := by
  obtain ⟨xs, h1, h2⟩ := h
  exact ⟨xs, own_ux h1 hU hn, fun k hk => by obtain ⟨va, e, a, x, g⟩ := h2 k hk; exact ⟨va, e, a.ux (fun d e a n cap e2 h0 => hn _ (x a n cap e2 h0) d e) hU, x, g⟩⟩
theorem vlf_grow {w w3 : World} {B : Nat} {v v' va : Value} {j : Nat} {ns : Nat → Nat} {fs : Nat → Nat → Int} {o : Obj} {xs : List Value} (h1 : w.ownsRow B 23 1 v j xs) (h2 : ∀ k, k < j → ∃ va : Value, xs[k]? = some va ∧ Ar w va (ns k) (fs k) ∧ Ow B va ∧ ∀ g, v.ownBlock = some g → Nb va g)
    (hA : Ar w va (ns j) (fs j)) (hO : Ow B va) (hN : ∀ g, v.ownBlock = some g → Nb va g)
    (hown : w3.ownsRow B 23 1 v' (j + 1) (xs ++ [va])) (hgrow : (w.alloc o).grownBy w3 v.ownBlock) (hat : v'.ownBlock = v.ownBlock ∨ v'.ownBlock = some (w.alloc o).heap.size) : AlF w3 B v' (j + 1) ns fs := by
  have hlen : xs.length = j := by have := h1.1; omega
  have key : ∀ k (x : Value), Ar w x (ns k) (fs k) → (∀ g, v.ownBlock = some g → Nb x g) → Ar w3 x (ns k) (fs k) ∧ ∀ g, v'.ownBlock = some g → Nb x g := fun k x hx hn => by
    refine ⟨hx.stay (fun a n' cap e h0 => ?_), fun g hg => ?_⟩
    · have hlt : a.block < w.heap.size := by
        rcases Nat.lt_or_ge a.block w.heap.size with h | h
        · exact h
        · exact absurd rfl (hx.spare h a n' cap e h0)
      rw [hgrow.block a.block (by rw [World.size_alloc]; omega) (fun e2 => hn a.block e2.symm a n' cap e h0 rfl), Below.heap_alloc _ _ _ (by omega)]
    · rcases hat with h | h
      · exact hn g (h.symm.trans hg)
      · rw [h] at hg
        obtain rfl := Option.some.inj hg
        exact hx.spare (by rw [World.size_alloc]; omega)
  refine ⟨xs ++ [va], hown, fun k hk => ?_⟩
  rcases Nat.lt_or_ge k j with h | h
  · obtain ⟨x, e, a, c, g⟩ := h2 k h
    obtain ⟨p, q⟩ := key k x a g
    exact ⟨x, by rw [List.getElem?_append_left (by omega)]; exact e, p, c, q⟩
  · obtain rfl : k = j := by omega
    obtain ⟨p, q⟩ := key k va hA hN
    exact ⟨va, by rw [List.getElem?_append_right (by omega), hlen]; simp, p, hO, q⟩
theorem own_one (w : World) (B : Nat) (x : Value) (t : TypeId) (hB : B ≤ w.heap.size) : (w.alloc (.cells #[x] t)).ownsRow B t 1 (.slice (some ⟨w.heap.size, 0, none⟩) 1 1) 1 [x] :=
  ⟨rfl, Or.inr ⟨w.heap.size, 1, #[x], rfl, hB, heap_alloc_new w _, Nat.le_refl _, by unfold maxLen; omega, rfl, rfl⟩⟩
/-- A layer's lists. -/
theorem lyA_ar {w : World} {b o cp cap : Nat} {P : Nat → Int} {z : Nat → Nat} {m l : Nat} (h : Ar w (.slice (some ⟨b, o, none⟩) cp cap) cp P) (hcp : cp = fsN z (m - 1)) (hl : l + 1 < m) (hc : cp ≤ cap) (hc2 : cap ≤ maxLen) : Ar w (lyA b o cap z l) (z (l + 1) * z l) (fun i => P (fsN z l + i)) := by
  have h1 : fsN z (l + 1) = fsN z l + (z l * z (l + 1) + z (l + 1)) := rfl
  have h2 := fsN_mono z (show l + 1 ≤ m - 1 by omega)
  rw [Nat.mul_comm (z l)] at h1
  exact h.part (fsN z l) (z (l + 1) * z l) _ (by omega) (by omega) (by omega)
theorem lyB_ar {w : World} {b o cp cap : Nat} {P : Nat → Int} {z : Nat → Nat} {m l : Nat} (h : Ar w (.slice (some ⟨b, o, none⟩) cp cap) cp P) (hcp : cp = fsN z (m - 1)) (hl : l + 1 < m) (hc : cp ≤ cap) (hc2 : cap ≤ maxLen) : Ar w (lyB b o cap z l) (z (l + 1)) (fun i => P (fsN z l + z (l + 1) * z l + i)) := by
  have h1 : fsN z (l + 1) = fsN z l + (z l * z (l + 1) + z (l + 1)) := rfl
  have h2 := fsN_mono z (show l + 1 ≤ m - 1 by omega)
  rw [Nat.mul_comm (z l)] at h1
  have h3 := h.part (fsN z l + z (l + 1) * z l) (z (l + 1)) (cap - fsN z l - z (l + 1) * z l) (by omega) (by omega) (by omega)
  unfold lyB
  rw [Nat.add_assoc o]
  exact h3
theorem outS_lin (z : Nat → Nat) (P V : Nat → Int) (l u : Nat) : outS (z l) (fun i => P (fsN z l + i)) (fun i => P (fsN z l + z (l + 1) * z l + i)) V u = linN z P V l u := by
  unfold outS linN ofN
  rw [Nat.mul_comm (z l)]
  rw [dot_congr (fun i => P (fsN z l + (u * z l + i))) V (fun i => P (wtN z l u i)) V (z l) (fun k _ => ⟨by show P (fsN z l + (u * z l + k)) = P (fsN z l + u * z l + k); rw [Nat.add_assoc], rfl⟩)]
theorem raisV_hid (v : Int) : raisV v = hidV true v := by unfold raisV hidV; rw [if_pos rfl]
set_option maxRecDepth 100000 in
set_option maxHeartbeats 16000000 in
theorem forward_any (vL vx : Value) (m b o cp cap : Nat) (z : Nat → Nat) (P x : Nat → Int) (p : Option Addr) (c : Int) (c0 : 0 ≤ c) (c1 : c ≤ 600000000) (w : World) (hL : Lyr w vL (m - 1) z b o cap) (nL : Nv vL p) (hP : Ar w (.slice (some ⟨b, o, none⟩) cp cap) cp P) (nP : Nu b p) (hX : Ar w vx (z 0) x) (nX : Nv vx p) (hz : Szs z m) (hcp : cp = fsN z (m - 1)) (hp : Up p c w) (hT : TabAt w) :
    Calls Tryz.prog 45 #[.pointer p, vL, vx] w fun e w' => ∃ v', e = .returned v' ∧ Vls w.heap.size w' v' m z (vN z m P x) ∧ Ux p (c + vC z m P x (m - 1)) w w' := by
  obtain ⟨i1, hti1, hy3, hy4, hy5⟩ := info_parts dinfo_fs
  obtain ⟨m2, m6, hz6⟩ := id hz
  obtain ⟨hcc1, hcc2⟩ : cp ≤ cap ∧ cap ≤ maxLen := by obtain ⟨_, _, _, _, e, h2, h3, _⟩ := hP; cases e; exact ⟨h2, h3⟩
  obtain ⟨gL, cL, rfl, l1, l2, l3⟩ := id hL
  unfold maxLen at l2
  have hnL : Nu gL p := nL.nu (by omega)
  have HL : Hid (∀ k, k + 1 < m → w.cell? ⟨gL, k * 4, none⟩ = some (.int .i64 ((z (k + 1) : Nat) : Int)) ∧ w.cell? ⟨gL, k * 4 + 1, none⟩ = some (.int .i64 ((z k : Nat) : Int)) ∧ w.cell? ⟨gL, k * 4 + 2, none⟩ = some (lyA b o cap z k) ∧ w.cell? ⟨gL, k * 4 + 3, none⟩ = some (lyB b o cap z k)) := fun k hk => l3 k (by omega)
  have HP : Hid (Ar w (.slice (some ⟨b, o, none⟩) cp cap) cp P ∧ Nv (.slice (some ⟨b, o, none⟩) cp cap) p) := ⟨hP, nP.nv _ _ _⟩
  have HUp : Hid (Up p c w ∧ TabAt w) := ⟨hp, hT⟩
  have HNw : Hid (∀ g, w.heap.size ≤ g → Nu g p) := fun g hg => hp.lt hg
  have HZ : Hid (∀ i, i < m → 1 ≤ z i ∧ z i ≤ 64) := hz6
  have HCP : Hid (cp = fsN z (m - 1) ∧ cp ≤ cap ∧ cap ≤ maxLen) := ⟨hcp, hcc1, hcc2⟩
  have HvC : Hid (∀ l, l < m → 0 ≤ vC z m P x l ∧ vC z m P x l ≤ 64 * (l : Int)) := fun l hl => vC_rng z m P x l (fun i hi => (hz6 i hi).2) hl
  have HvS : Hid (∀ l, vC z m P x (l + 1) = vC z m P x l + cntV (vO z m P x l) (z (l + 1))) := fun l => rfl
  have HV1 : Hid (∀ l u, vN z m P x (l + 1) u = hidV (decide (l + 2 < m)) (clv (rr (linN z P (vN z m P x l) l u) 32))) := fun l u => rfl
  have HVr : Hid (∀ l u, u < z l → -9223372036854775808 ≤ vN z m P x l u ∧ vN z m P x l u ≤ 9223372036854775807) := fun l u hu => vN_rng z m P x l u hX.rng hu
  have CC := clone_any vx (z 0) x (by have := (hz6 0 (by omega)).2; omega) w hX
  have HV0 : Hid (vN z m P x 0 = x) := rfl
  have HvO : Hid (∀ l u, vO z m P x l u = ovv (rr (linN z P (vN z m P x l) l u) 32)) := fun l u => rfl
  have HvC0 : Hid (vC z m P x 0 = 0) := rfl
  obtain ⟨adx, cax, bx, ox, rfl, -, -, -, -⟩ := hX
  generalize vN z m P x = V at *
  generalize vC z m P x = VC at *
  generalize vO z m P x = VO at *
  obtain ⟨M, hM⟩ : ∃ M, m = M + 1 := ⟨m - 1, by omega⟩
  have HM : Hid (m = M + 1) := hM
  rw [show m - 1 = M by omega] at HCP ⊢
  have M1 : 1 ≤ M := by omega
  have M5 : M ≤ 5 := by omega
  have hML : M ≤ cL := by omega
  have wM : IntKind.i64.wrap ((M : Int) - 1) = (M : Int) - 1 := by rw [IntKind.wrap_i64]; omega
  clear l1 l3 hL nL hP hp hT nX hz hz6 hcp hcc1 hcc2 hM m2 m6
  go_enter Tryz.func45, Tryz.ntmps45
  go_wp2_with fail
  refine CC.mono ?_
  rintro e w1 ⟨ad1, cp1, rfl, hA1, hO1, h1⟩
  obtain ⟨w2, hw2⟩ : ∃ w2, w2 = w1.alloc (.cells #[.slice ad1 (z 0) cp1] 23) := ⟨_, rfl⟩
  have HU2 : Hid (Ux p c w w2) := by rw [hw2]; exact HUp.out.1.ux (bchain h1 (bel1 _ _))
  have hs1 := h1.size
  have HAl2 : Hid (AlF w2 w.heap.size (.slice (some ⟨w1.heap.size, 0, none⟩) 1 1) 1 z V) := by
    rw [hw2]
    refine ⟨[.slice ad1 (z 0) cp1], own_one w1 _ _ _ hs1, fun k hk => ?_⟩
    obtain rfl : k = 0 := by omega
    exact ⟨_, rfl, by rw [HV0.out]; exact hA1.later (bel1 _ _), hO1, fun g hg => by cases hg; exact hA1.spare (Nat.le_refl _)⟩
  clear CC hA1 hO1 h1
  go_upto_region 3 with fail
  rw [← hw2]
  clear hw2
  go_loopw [7, 16] (fun s7 si wr => ∃ l : Nat, l ≤ M ∧ si = .int .i64 (l : Int) ∧ Hid (AlF wr w.heap.size s7 (l + 1) z V) ∧ Hid (Ux p (c + VC l) w wr)) (fun _ si _ => M - (intOf si).toNat)
  case atStart => exact ⟨0, by omega, rfl, HAl2, by rw [HvC0.out, Int.add_zero]; exact HU2.out⟩
  case round =>
    rename World => wo
    obtain ⟨l, hl, rfl, HAl, HU⟩ := hrel
    clear HAl2 HU2 hs1
    by_cases hlt : l < M
    · have hlI : (l : Int) < (M : Int) := by omega
      obtain ⟨y0, y1, y2, y3⟩ := HL.out l (by have := HM.out; omega)
      have q0 := HU.out.cell hnL y0
      have q1 := HU.out.cell hnL y1
      have q2 := HU.out.cell hnL y2
      have q3 := HU.out.cell hnL y3
      obtain ⟨z1, z2⟩ := HZ.out l (by have := HM.out; omega)
      obtain ⟨x1, x2⟩ := HZ.out (l + 1) (by have := HM.out; omega)
      obtain ⟨gv, cv, hu7, v1, v2, v3, v4⟩ := HAl.out.vls (by omega)
      subst hu7
      unfold maxLen at v2
      obtain ⟨vl, hvl, hAl, hOl, hNl⟩ := v4 l (by omega)
      obtain ⟨adl, cl, bl, ol, rfl, -, -, -, -⟩ := id hAl
      obtain ⟨w3, hw3⟩ : ∃ w3, w3 = wo.alloc (.cells #[.int .i64 ((z (l + 1) : Nat) : Int), .int .i64 ((z l : Nat) : Int), lyA b o cap z l, lyB b o cap z l] 94) := ⟨_, rfl⟩
      have hb3 : Below wo.heap.size wo w3 := by rw [hw3]; exact bel1 _ _
      have hso := HU.out.size
      have HB3 : B4 wo.heap.size (.int .i64 ((z (l + 1) : Nat) : Int)) (.int .i64 ((z l : Nat) : Int)) (lyA b o cap z l) (lyB b o cap z l) w3.drew := by rw [hw3]; exact (B4.new wo _ _ _ _ _).later (Below.refl _ _).drew
      have HU3 : Hid (Ux p (c + VC l) w w3.drew) := (HU.out.later hb3).drew
      have HAl3 : Hid (AlF w3.drew w.heap.size (.slice (some ⟨gv, 0, none⟩) (l + 1) cv) (l + 1) z V) := (HAl.out.later hb3).later (Below.refl _ _).drew
      have hvl3 : w3.drew.cell? ⟨gv, l, none⟩ = some (.slice adl (z l) cl) := cell_later (bchain hb3 (Below.refl _ _).drew) hvl
      have hgvlt : gv < wo.heap.size := World.block_lt_of_cell? _ _ hvl
      have hAl3 : Ar w3.drew (.slice adl (z l) cl) (z l) (V l) := hAl.later (bchain hb3 (Below.refl _ _).drew)
      have hvc := HvC.out l (by have := HM.out; omega)
      have hnl : Nv (.slice adl (z l) cl) p := HUp.out.1.ow hOl
      have CO := outputs_any (z (l + 1)) (z l) b (o + fsN z l) (cap - fsN z l) (fun i => P (fsN z l + i)) (fun i => P (fsN z l + z (l + 1) * z l + i)) (V l) (some ⟨b, o + fsN z l + z (l + 1) * z l, none⟩) (cap - fsN z l - z (l + 1) * z l) (.slice adl (z l) cl) p (c + VC l) (by omega) (by omega) (by omega) (by omega) (by omega) w3.drew
        (lyA_ar (m := m) (HP.out.1.ux HP.out.2 HU3.out) (by rw [HM.out, Nat.add_sub_cancel]; exact HCP.out.1) (by have := HM.out; omega) HCP.out.2.1 HCP.out.2.2)
        (lyB_ar (m := m) (HP.out.1.ux HP.out.2 HU3.out) (by rw [HM.out, Nat.add_sub_cancel]; exact HCP.out.1) (by have := HM.out; omega) HCP.out.2.1 HCP.out.2.2)
        hAl3 (nP.nv _ _ _) (nP.nv _ _ _) hnl HU3.out.up (HUp.out.2.ux HUp.out.1 HU3.out)
      have eO : (fun k => ovv (rr (outS (z l) (fun i => P (fsN z l + i)) (fun i => P (fsN z l + z (l + 1) * z l + i)) (V l) k) 32)) = VO l := funext (fun k => by rw [outS_lin, HvO.out])
      rw [eO] at CO
      have eR : (fun k => Value.int .i64 (clv (rr (outS (z l) (fun i => P (fsN z l + i)) (fun i => P (fsN z l + z (l + 1) * z l + i)) (V l) k) 32))) = (fun k => Value.int .i64 (clv (rr (linN z P (V l) l k) 32))) := funext (fun k => by rw [outS_lin])
      rw [eR] at CO
      have HvS' : Hid (c + VC (l + 1) = c + VC l + cntV (VO l) (z (l + 1))) := by show _ = _; rw [HvS.out, Int.add_assoc]
      have hlA : lyA b o cap z l = .slice (some ⟨b, o + fsN z l, none⟩) (z (l + 1) * z l) (cap - fsN z l) := rfl
      have hlB : lyB b o cap z l = .slice (some ⟨b, o + fsN z l + z (l + 1) * z l, none⟩) (z (l + 1)) (cap - fsN z l - z (l + 1) * z l) := rfl
      rw [hlA] at q2
      rw [hlB] at q3
      rw [hlA, hlB] at hw3 HB3
      clear hlA hlB eO eR HU y0 y1 y2 y3 v4 hvl hAl hAl3 HAl
      generalize cap - fsN z l - z (l + 1) * z l = kB at *
      generalize o + fsN z l + z (l + 1) * z l = qB at *
      generalize z (l + 1) * z l = nA at *
      generalize cap - fsN z l = kA at *
      generalize o + fsN z l = qA at *
      have hll : (l : Int) < (l : Int) + 1 := by omega
      have nWo : Nu wo.heap.size p := HNw.out _ hso
      have nGv : Nu gv p := HNw.out _ v3
      go_upto_region 5 with fail
      rw [← hw3]
      clear hw3 q0 q1 q2 q3 hb3
      refine wp_region_held_drew (S := fun W' => W'.cell? ⟨wo.heap.size, 0, none⟩ = some (.int .i64 ((z (l + 1) : Nat) : Int)) ∧ W'.cell? ⟨wo.heap.size, 1, none⟩ = some (.int .i64 ((z l : Nat) : Int)) ∧ W'.cell? ⟨wo.heap.size, 2, none⟩ = some (.slice (some ⟨b, qA, none⟩) nA kA) ∧ W'.cell? ⟨wo.heap.size, 3, none⟩ = some (.slice (some ⟨b, qB, none⟩) (z (l + 1)) kB) ∧ W'.cell? ⟨gv, l, none⟩ = some (.slice adl (z l) cl)) (by kernel_rfl) ⟨HB3.c0, HB3.c1, HB3.c2, HB3.c3, hvl3⟩ (fun HS => ?_)
      generalize w3.drew = wd at *
      clear hvl3
      refine wpAnyH_take (i := 0) (v := ?v1) rfl (by kernel_rfl) (by kernel_rfl) (by kernel_rfl) (fun _ _ _ h => h) (Or.inl ⟨by kernel_rfl, ?h1⟩) HS ?r1
      case h1 => (rintro w ⟨e0, e1, e2, e3, e4⟩; go_simp) <;> with_reducible rfl
      try simp only [Act.put, List.getElem_toArray, List.getElem_cons_succ, List.getElem_cons_zero, List.setIfInBounds_toArray, List.set_cons_zero, List.set_cons_succ]
      refine wpAnyH_take (i := 1) (v := ?v2) rfl (by kernel_rfl) (by kernel_rfl) (by kernel_rfl) (fun _ _ _ h => h) (Or.inl ⟨by kernel_rfl, ?h2⟩) HS ?r2
      case h2 => (rintro w ⟨e0, e1, e2, e3, e4⟩; go_simp) <;> with_reducible rfl
      try simp only [Act.put, List.getElem_toArray, List.getElem_cons_succ, List.getElem_cons_zero, List.setIfInBounds_toArray, List.set_cons_zero, List.set_cons_succ]
      refine wpAnyH_take (i := 2) (v := ?v3) rfl (by kernel_rfl) (by kernel_rfl) (by kernel_rfl) (fun _ _ _ h => h) (Or.inl ⟨by kernel_rfl, ?h3⟩) HS ?r3
      case h3 => (rintro w ⟨e0, e1, e2, e3, e4⟩; go_simp) <;> with_reducible rfl
      try simp only [Act.put, List.getElem_toArray, List.getElem_cons_succ, List.getElem_cons_zero, List.setIfInBounds_toArray, List.set_cons_zero, List.set_cons_succ]
      refine wpAnyH_take (i := 3) (v := ?v4) rfl (by kernel_rfl) (by kernel_rfl) (by kernel_rfl) (fun _ _ _ h => h) (Or.inl ⟨by kernel_rfl, ?h4⟩) HS ?r4
      case h4 => (rintro w ⟨e0, e1, e2, e3, e4⟩; go_simp) <;> with_reducible rfl
      try simp only [Act.put, List.getElem_toArray, List.getElem_cons_succ, List.getElem_cons_zero, List.setIfInBounds_toArray, List.set_cons_zero, List.set_cons_succ]
      refine wpAnyH_take (i := 4) (v := ?v5) rfl (by kernel_rfl) (by kernel_rfl) (by kernel_rfl) (fun _ _ _ h => h) (Or.inl ⟨by kernel_rfl, ?h5⟩) HS ?r5
      case h5 => (rintro w ⟨e0, e1, e2, e3, e4⟩; go_simp) <;> with_reducible rfl
      try simp only [Act.put, List.getElem_toArray, List.getElem_cons_succ, List.getElem_cons_zero, List.setIfInBounds_toArray, List.set_cons_zero, List.set_cons_succ]
      refine wpAnyH_take (i := 5) (v := ?v6) rfl (by kernel_rfl) (by kernel_rfl) (by kernel_rfl) (fun _ _ _ h => h) (Or.inl ⟨by kernel_rfl, ?h6⟩) HS ?r6
      case h6 => (rintro w ⟨e0, e1, e2, e3, e4⟩; go_simp) <;> with_reducible rfl
      try simp only [Act.put, List.getElem_toArray, List.getElem_cons_succ, List.getElem_cons_zero, List.setIfInBounds_toArray, List.set_cons_zero, List.set_cons_succ]
      refine wpAnyH_ready (rs := [6]) (by kernel_rfl) (by simp) ?_
      refine AllReadyH.cons rfl (fun K hK => ?_) AllReadyH.nil
      go_simp
      refine CO.mono ?_
      rintro e w4 ⟨g4, rfl, hR4, hg4, h4⟩
      refine hK.out _ _ ⟨h4.cell nWo HS.1, h4.cell nWo HS.2.1, h4.cell nWo HS.2.2.1, h4.cell nWo HS.2.2.2.1, h4.cell nGv HS.2.2.2.2⟩ (fun HS => ?_)
      clear hK K
      refine wpAnyH_take (i := 7) (v := ?v7) rfl (by kernel_rfl) (by kernel_rfl) (by kernel_rfl) (fun _ _ _ h => h) (Or.inl ⟨by kernel_rfl, ?h7⟩) HS ?r7
      case h7 => (rintro w ⟨e0, e1, e2, e3, e4⟩; go_simp) <;> with_reducible rfl
      try simp only [Act.put, List.getElem_toArray, List.getElem_cons_succ, List.getElem_cons_zero, List.setIfInBounds_toArray, List.set_cons_zero, List.set_cons_succ]
      refine wpAnyH_done (by kernel_rfl) ?_ _
      clear HS
      by_cases hh : l + 2 < m
      · have hhI : (l : Int) < (M : Int) - 1 := by have := HM.out; omega
        have CR := raise_any g4 (z (l + 1)) _ (by omega) w4 hR4 p _ wd h4 hg4
        have eV : (fun k => Value.int .i64 (raisV (clv (rr (linN z P (V l) l k) 32)))) = (fun k => Value.int .i64 (V (l + 1) k)) := funext (fun k => by rw [HV1.out, decide_eq_true hh, raisV_hid])
        rw [eV] at CR
        clear eV hR4 h4
        go_wp2_with fail
        refine CR.mono ?_
        rintro e w5 ⟨rfl, hR5, hU5, -, -⟩
        clear CR
        have HAl5 := HAl3.out.ux hU5 HNw.out
        have HU5 : Hid (Ux p (c + VC (l + 1)) w w5) := by rw [HvS'.out]; exact HU3.out.chain hU5
        have HA5 : Ar w5 (.slice (some ⟨g4, 0, none⟩) (z (l + 1)) (z (l + 1))) (z (l + 1)) (V (l + 1)) := hR5.ar (by omega) (fun k hk => HVr.out (l + 1) k hk)
        have hsd : wo.heap.size < wd.heap.size := World.block_lt_of_cell? _ _ HB3.c0
        obtain ⟨xs, hr1, hr2⟩ := HAl5
        have hsz5 := HU5.out.size
        have hO5 : Ow w.heap.size (.slice (some ⟨g4, 0, none⟩) (z (l + 1)) (z (l + 1))) := fun a n' cap' e h0 => by cases e; dsimp only; omega
        have hN5 : ∀ g', (Value.slice (some ⟨gv, 0, none⟩) (l + 1) cv).ownBlock = some g' → Nb (.slice (some ⟨g4, 0, none⟩) (z (l + 1)) (z (l + 1))) g' := fun g' hg' => by cases hg'; intro a n' cap' e h0; cases e; dsimp only; omega
        clear HAl3 HU3 hU5 hR5 HB3 CO
        go_wp2_with (at_builtin; refine wpList_append_own_at _ rfl _ _ 31 rfl w.heap.size 23 i1 (.slice none 0 0) 1 24 Tryz.underlying31 hti1 hy3 hy4 hy5 rfl (by decide) _ _ _ rfl (hr1.alloc _) ⟨w5.heap.size, 0, none⟩ 1 1 [.slice (some ⟨g4, 0, none⟩) (z (l + 1)) (z (l + 1))] rfl rfl (cell_one_new _ _ _) (by simp [Value.oneCell']) (by unfold maxLen; omega) (by omega) (by simp; omega) ?_; intro v' w8 hown' hgrow hnil hat)
        have HAl8 : Hid (AlF w8 w.heap.size v' (l + 1 + 1) z V) := vlf_grow hr1 hr2 HA5 hO5 hN5 hown' hgrow hat
        have HU8 : Hid (Ux p (c + VC (l + 1)) w w8) := HU5.out.grow hgrow (fun k hk => (hr1.lt k hk).1)
        clear hown' hgrow hnil hat hr1 hr2 HU5 HA5 hO5 hN5
        go_wp2
        go_roundw
        case rel => exact ⟨l + 1, by omega, by go_num, HAl8, HU8⟩
        case measure => simp [intOf]; omega
      · have hhI : ¬ (l : Int) < (M : Int) - 1 := by have := HM.out; omega
        have eV : (fun k => Value.int .i64 (clv (rr (linN z P (V l) l k) 32))) = (fun k => Value.int .i64 (V (l + 1) k)) := funext (fun k => by rw [HV1.out, decide_eq_false hh]; unfold hidV; rw [if_neg (by decide)])
        rw [eV] at hR4
        have hR5 := hR4
        have hU5 := h4
        clear eV hR4 h4
        have HAl5 := HAl3.out.ux hU5 HNw.out
        have HU5 : Hid (Ux p (c + VC (l + 1)) w w4) := by rw [HvS'.out]; exact HU3.out.chain hU5
        have HA5 : Ar w4 (.slice (some ⟨g4, 0, none⟩) (z (l + 1)) (z (l + 1))) (z (l + 1)) (V (l + 1)) := hR5.ar (by omega) (fun k hk => HVr.out (l + 1) k hk)
        have hsd : wo.heap.size < wd.heap.size := World.block_lt_of_cell? _ _ HB3.c0
        obtain ⟨xs, hr1, hr2⟩ := HAl5
        have hsz5 := HU5.out.size
        have hO5 : Ow w.heap.size (.slice (some ⟨g4, 0, none⟩) (z (l + 1)) (z (l + 1))) := fun a n' cap' e h0 => by cases e; dsimp only; omega
        have hN5 : ∀ g', (Value.slice (some ⟨gv, 0, none⟩) (l + 1) cv).ownBlock = some g' → Nb (.slice (some ⟨g4, 0, none⟩) (z (l + 1)) (z (l + 1))) g' := fun g' hg' => by cases hg'; intro a n' cap' e h0; cases e; dsimp only; omega
        clear HAl3 HU3 hU5 hR5 HB3 CO
        go_wp2_with (at_builtin; refine wpList_append_own_at _ rfl _ _ 31 rfl w.heap.size 23 i1 (.slice none 0 0) 1 24 Tryz.underlying31 hti1 hy3 hy4 hy5 rfl (by decide) _ _ _ rfl (hr1.alloc _) ⟨w4.heap.size, 0, none⟩ 1 1 [.slice (some ⟨g4, 0, none⟩) (z (l + 1)) (z (l + 1))] rfl rfl (cell_one_new _ _ _) (by simp [Value.oneCell']) (by unfold maxLen; omega) (by omega) (by simp; omega) ?_; intro v' w8 hown' hgrow hnil hat)
        have HAl8 : Hid (AlF w8 w.heap.size v' (l + 1 + 1) z V) := vlf_grow hr1 hr2 HA5 hO5 hN5 hown' hgrow hat
        have HU8 : Hid (Ux p (c + VC (l + 1)) w w8) := HU5.out.grow hgrow (fun k hk => (hr1.lt k hk).1)
        clear hown' hgrow hnil hat hr1 hr2 HU5 HA5 hO5 hN5
        go_wp2
        go_roundw
        case rel => exact ⟨l + 1, by omega, by go_num, HAl8, HU8⟩
        case measure => simp [intOf]; omega
    · obtain rfl : l = M := by omega
      have hlI : ¬ (l : Int) < (l : Int) := by omega
      have HQ : Hid (Vls w.heap.size wo u7 m z V) := by rw [HM.out]; exact HAl.out.vls (by omega)
      obtain ⟨gv, cv, hu7, -, -, -, -⟩ := id HQ.out
      subst hu7
      clear HAl
      go_wp2
      go_ret
      exact ⟨_, rfl, HQ.out, HU.out⟩
end Go.Proofs.YtdfjnbkkdgolnaaGreatDoor
