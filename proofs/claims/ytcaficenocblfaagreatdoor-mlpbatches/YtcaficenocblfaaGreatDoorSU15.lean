/-
  Texts of this proof, joined: NWalkC NWalkJ NWalkH.
-/
import Derived.Test.YtcaficenocblfaaGreatDoorSU08
import Derived.Test.YtcaficenocblfaaGreatDoorSU10
import Derived.Test.YtcaficenocblfaaGreatDoorSU11
import Derived.Test.YtcaficenocblfaaGreatDoorSU13
import Derived.Test.YtcaficenocblfaaGreatDoorSU14
import Derived.Maps.AppendAt
import Derived.Deep.RegionHeld3
set_option linter.unusedVariables false
set_option linter.unusedSimpArgs false
namespace Go.Proofs.YtcaficenocblfaaGreatDoor
open Go.RowKit

theorem cell_four_new (w : World) (x y u v : Value) (t : TypeId) : ∀ j q, [x, y, u, v][j]? = some q → (w.alloc (.cells #[x, y, u, v] t)).cell? ((⟨w.heap.size, 0, none⟩ : Addr).add j) = some q := by
  intro j q h
  rcases j with _ | _ | _ | _ | j
  all_goals simp at h
  all_goals subst h
  all_goals simp [go_sem, Addr.add]
theorem dinfo_ly : (Tryz.prog.info? 87).map (fun i => (i.zero, i.size, i.bytes)) = some (some (.agg #[.int .i64 0, .int .i64 0, .slice none 0 0, .slice none 0 0]), 4, 64) := by kernel_rfl
def lyA (b o cap : Nat) (z : Nat → Nat) (k : Nat) : Value := .slice (some ⟨b, o + fsN z k, none⟩) (z (k + 1) * z k) (cap - fsN z k)
def lyB (b o cap : Nat) (z : Nat → Nat) (k : Nat) : Value := .slice (some ⟨b, o + fsN z k + z (k + 1) * z k, none⟩) (z (k + 1)) (cap - fsN z k - z (k + 1) * z k)
def lyL (b o cap : Nat) (z : Nat → Nat) : Nat → List Value
  | 0 => []
  | k + 1 => lyL b o cap z k ++ [.int .i64 ((z (k + 1) : Nat) : Int), .int .i64 ((z k : Nat) : Int), lyA b o cap z k, lyB b o cap z k]
theorem lyL_len (b o cap : Nat) (z : Nat → Nat) (k : Nat) : (lyL b o cap z k).length = k * 4 := by
  induction k with
  | zero => rfl
  | succ k ih => show (lyL b o cap z k ++ _).length = _; rw [List.length_append, ih]; simp; omega
theorem lyL_get (b o cap : Nat) (z : Nat → Nat) (n k : Nat) (hk : k < n) : (lyL b o cap z n)[k * 4]? = some (.int .i64 ((z (k + 1) : Nat) : Int)) ∧ (lyL b o cap z n)[k * 4 + 1]? = some (.int .i64 ((z k : Nat) : Int)) ∧ (lyL b o cap z n)[k * 4 + 2]? = some (lyA b o cap z k) ∧ (lyL b o cap z n)[k * 4 + 3]? = some (lyB b o cap z k) := by
  induction n with
  | zero => omega
  | succ n ih =>
    show (lyL b o cap z n ++ _)[k * 4]? = _ ∧ (lyL b o cap z n ++ _)[k * 4 + 1]? = _ ∧ (lyL b o cap z n ++ _)[k * 4 + 2]? = _ ∧ (lyL b o cap z n ++ _)[k * 4 + 3]? = _
    have hl := lyL_len b o cap z n
    rcases Nat.lt_or_ge k n with h | h
    · obtain ⟨h1, h2, h3, h4⟩ := ih h
      refine ⟨?_, ?_, ?_, ?_⟩
      · rw [List.getElem?_append_left (by omega)]; exact h1
      · rw [List.getElem?_append_left (by omega)]; exact h2
      · rw [List.getElem?_append_left (by omega)]; exact h3
      · rw [List.getElem?_append_left (by omega)]; exact h4
    · obtain rfl : k = n := by omega
      refine ⟨?_, ?_, ?_, ?_⟩
      · rw [List.getElem?_append_right (by omega), hl, Nat.sub_self]; rfl
      · rw [List.getElem?_append_right (by omega), hl, show k * 4 + 1 - k * 4 = 1 by omega]; rfl
      · rw [List.getElem?_append_right (by omega), hl, show k * 4 + 2 - k * 4 = 2 by omega]; rfl
      · rw [List.getElem?_append_right (by omega), hl, show k * 4 + 3 - k * 4 = 3 by omega]; rfl
def Lyr (w : World) (v : Value) (M : Nat) (z : Nat → Nat) (b o cap : Nat) : Prop :=
  ∃ (g cL : Nat), v = .slice (some ⟨g, 0, none⟩) M cL ∧ M ≤ cL ∧ cL ≤ maxLen ∧ ∀ k, k < M → w.cell? ⟨g, k * 4, none⟩ = some (.int .i64 ((z (k + 1) : Nat) : Int)) ∧ w.cell? ⟨g, k * 4 + 1, none⟩ = some (.int .i64 ((z k : Nat) : Int)) ∧ w.cell? ⟨g, k * 4 + 2, none⟩ = some (lyA b o cap z k) ∧ w.cell? ⟨g, k * 4 + 3, none⟩ = some (lyB b o cap z k)
theorem lyr_of_own {w : World} {base : Nat} {v : Value} {M : Nat} {z : Nat → Nat} {b o cap : Nat} (h : w.ownsRow base 87 4 v M (lyL b o cap z M)) (hM : 0 < M) : Lyr w v M z b o cap ∧ Ow base v := by
  rcases id h.2 with ⟨_, h0⟩ | ⟨g, cL, cur, rfl, hg, hh, hc1, hc2, hsz, htk⟩
  · omega
  · have hl := lyL_len b o cap z M
    refine ⟨⟨g, cL, rfl, hc1, hc2, fun k hk => ?_⟩, fun a n c e hn => by cases e; exact hg⟩
    obtain ⟨a1, a2, a3, a4⟩ := lyL_get b o cap z M k hk
    exact ⟨(h.cellAt _ (by omega)).trans a1, (h.cellAt _ (by omega)).trans a2, (h.cellAt _ (by omega)).trans a3, (h.cellAt _ (by omega)).trans a4⟩
set_option maxRecDepth 100000 in
set_option maxHeartbeats 8000000 in
theorem layersOf_any (vs : Value) (m b o cp cap : Nat) (z : Nat → Nat) (w : World) (hA : Ar w vs m (fun i => ((z i : Nat) : Int))) (hz : Szs z m) (hcp : cp = fsN z (m - 1)) (hc1 : cp ≤ cap) (hc2 : cap ≤ maxLen) :
    Calls Tryz.prog 28 #[vs, .slice (some ⟨b, o, none⟩) cp cap] w fun e w' => ∃ g cL, e = .returned (.slice (some ⟨g, 0, none⟩) (m - 1) cL) ∧ Lyr w' (.slice (some ⟨g, 0, none⟩) (m - 1) cL) (m - 1) z b o cap ∧ w.heap.size ≤ g ∧ Below w.heap.size w w' := by
  obtain ⟨i0, hti, hy0, hy1, hy2⟩ := info_parts dinfo_ly
  obtain ⟨adr, cas, bs, os, rfl, k1, k2, k3, k4⟩ := hA
  unfold maxLen at k2 hc2
  obtain ⟨m2, m6, hz⟩ := hz
  have ha := k3 (by omega)
  subst ha
  obtain ⟨M, rfl⟩ : ∃ M, m = M + 1 := ⟨m - 1, by omega⟩
  rw [Nat.add_sub_cancel] at hcp ⊢
  have HX : Hid (∀ i, i < M + 1 → w.cell? ⟨bs, os + i, none⟩ = some (.int .i64 ((z i : Nat) : Int))) := fun i hi => (k4 i hi).1
  have HZ : Hid (∀ i, i < M + 1 → 1 ≤ z i ∧ z i ≤ 64) := hz
  have HCP : Hid (cp = fsN z M ∧ cp ≤ 20800) := ⟨hcp, by have := fsN_le z (M + 1) M hz (by omega); omega⟩
  have q3 : (1 : Int) ≤ ((M + 1 : Nat) : Int) := by omega
  clear k3 k4 hz hcp
  go_enter Tryz.func28, Tryz.ntmps28
  go_upto_region 3 with fail
  go_loopw [1, 5, 12] (fun s1 s5 si wr => ∃ i : Nat, i ≤ M ∧ si = .int .i64 (i : Int) ∧ (∃ q : Nat, s1 = .slice (some ⟨b, q, none⟩) (cp - fsN z i) (cap - fsN z i) ∧ Hid (i < M → q = o + fsN z i)) ∧ Hid (wr.ownsRow w.heap.size 87 4 s5 i (lyL b o cap z i)) ∧ Hid (Below w.heap.size w wr)) (fun _ _ si _ => M - (intOf si).toNat)
  case atStart => exact ⟨0, by omega, rfl, ⟨o, rfl, fun _ => rfl⟩, World.ownsRow_nil _ _ _ _, Below.refl _ _⟩
  case round =>
    obtain ⟨i, hi, rfl, ⟨q, rfl, Hq⟩, HO, HW⟩ := hrel
    by_cases hlt : i < M
    · have eq0 := Hq.out hlt
      subst eq0
      clear Hq
      have hiI : (i : Int) < (M : Int) := by omega
      have hiJ : (i : Int) < ((M + 1 : Nat) : Int) := by omega
      have cA : wr.cell? ⟨bs, os + i, none⟩ = some (.int .i64 ((z i : Nat) : Int)) := cell_later HW.out (HX.out i (by omega))
      have cB : wr.cell? ⟨bs, os + 1 + i, none⟩ = some (.int .i64 ((z (i + 1) : Nat) : Int)) := by rw [show os + 1 + i = os + (i + 1) by omega]; exact cell_later HW.out (HX.out (i + 1) (by omega))
      have HXa : Hid (w.cell? ⟨bs, os + i, none⟩ = some (.int .i64 ((z i : Nat) : Int))) := HX.out i (by omega)
      obtain ⟨z1, z2⟩ := HZ.out i (by omega)
      obtain ⟨y1, y2⟩ := HZ.out (i + 1) (by omega)
      have hstep : fsN z (i + 1) = fsN z i + (z i * z (i + 1) + z (i + 1)) := rfl
      have hmono := fsN_mono z (show i + 1 ≤ M from hlt)
      have hcp := HCP.out
      have hwb : z (i + 1) * z i ≤ 64 * 64 := Nat.mul_le_mul y2 z2
      have ewt : ((z (i + 1) : Nat) : Int) * ((z i : Nat) : Int) = ((z (i + 1) * z i : Nat) : Int) := by rw [Int.natCast_mul]
      rw [Nat.mul_comm (z i)] at hstep
      obtain ⟨R, hR⟩ : ∃ R, R = lyL b o cap z i ++ [.int .i64 ((z (i + 1) : Nat) : Int), .int .i64 ((z i : Nat) : Int), lyA b o cap z i, lyB b o cap z i] := ⟨_, rfl⟩
      have HR : Hid (R = lyL b o cap z (i + 1)) := hR
      obtain ⟨Fi, hFi⟩ : ∃ q, fsN z i = q := ⟨_, rfl⟩
      obtain ⟨wt, hwt⟩ : ∃ q, z (i + 1) * z i = q := ⟨_, rfl⟩
      unfold lyA lyB at hR
      have HF : Hid (fsN z (i + 1) = Fi + (wt + z (i + 1))) := by show _ = _; rw [hstep, hFi, hwt]
      rw [hFi, hwt] at hR
      rw [hFi, hwt] at hstep
      rw [hwt] at ewt hwb
      rw [hFi]
      generalize z i = za at *
      generalize z (i + 1) = zb at *
      clear hFi hwt
      obtain ⟨wz, hwz⟩ : ∃ q, wt + zb = q := ⟨_, rfl⟩
      obtain ⟨KF, hKF⟩ : ∃ q, cap - Fi = q := ⟨_, rfl⟩
      obtain ⟨LF, hLF⟩ : ∃ q, cp - Fi = q := ⟨_, rfl⟩
      obtain ⟨oF, hoF⟩ : ∃ q, o + Fi = q := ⟨_, rfl⟩
      have hiK : (i : Int) < (M : Int) + 1 := by omega
      have v1 : (wt : Int) ≤ (KF : Int) := by omega
      have v2 : (wz : Int) ≤ (KF : Int) := by omega
      have v3 : (wt : Int) ≤ (wz : Int) := by omega
      have v4 : (wz : Int) ≤ (LF : Int) := by omega
      have v6 : ¬ KF = wt := by omega
      have v5 : (LF : Int) ≤ (KF : Int) := by omega
      have w2 : IntKind.i64.wrap ((wt : Nat) : Int) = (wt : Int) := by rw [IntKind.wrap_i64]; omega
      have w4 : IntKind.i64.wrap ((wt : Int) + (zb : Int)) = (wz : Int) := by rw [IntKind.wrap_i64]; omega
      have HN : Hid (wt + zb = wz ∧ cap - Fi = KF ∧ cp - Fi = LF ∧ o + Fi = oF ∧ Fi + wz ≤ cp ∧ cp ≤ cap) := ⟨hwz, hKF, hLF, hoF, by omega, hc1⟩
      rw [hKF, hLF, hoF]
      rw [hKF, hoF] at hR
      clear hwz hKF hLF hoF
      clear hstep hmono hcp
      go_upto_region 6 with fail
      have HW2 : Hid (Below w.heap.size w wr.drew) := HW.out.drew
      have HO2 : Hid (wr.drew.ownsRow w.heap.size 87 4 u5 i (lyL b o cap z i)) := own_later HO.out (Below.refl _ _).drew
      refine wp_region_held_drew (S := fun W' => W'.cell? ⟨bs, os + i, none⟩ = some (.int .i64 (za : Int))) (by kernel_rfl) cA (fun HS => ?_)
      clear cA cB HW HO
      generalize wr.drew = wd at *
      refine wpAnyH_take (i := 0) (v := ?v1) rfl (by kernel_rfl) (by kernel_rfl) (by kernel_rfl) (fun _ _ _ h => h) (Or.inl ⟨by kernel_rfl, ?h1⟩) HS ?r1
      case h1 => (rintro w s1; go_simp) <;> with_reducible rfl
      try simp only [Act.put, List.getElem_toArray, List.getElem_cons_succ, List.getElem_cons_zero, List.setIfInBounds_toArray, List.set_cons_zero, List.set_cons_succ]
      refine wpAnyH_take (i := 1) (v := ?v2) rfl (by kernel_rfl) (by kernel_rfl) (by kernel_rfl) (fun _ _ _ h => h) (Or.inl ⟨by kernel_rfl, ?h2⟩) HS ?r2
      case h2 => (rintro w s1; go_simp) <;> with_reducible rfl
      try simp only [Act.put, List.getElem_toArray, List.getElem_cons_succ, List.getElem_cons_zero, List.setIfInBounds_toArray, List.set_cons_zero, List.set_cons_succ]
      refine wpAnyH_take (i := 2) (v := ?v3) rfl (by kernel_rfl) (by kernel_rfl) (by kernel_rfl) (fun _ _ _ h => h) (Or.inl ⟨by kernel_rfl, ?h3⟩) HS ?r3
      case h3 => (rintro w s1; go_simp) <;> with_reducible rfl
      try simp only [Act.put, List.getElem_toArray, List.getElem_cons_succ, List.getElem_cons_zero, List.setIfInBounds_toArray, List.set_cons_zero, List.set_cons_succ]
      refine wpAnyH_take (i := 3) (v := ?v4) rfl (by kernel_rfl) (by kernel_rfl) (by kernel_rfl) (fun _ _ _ h => h) (Or.inl ⟨by kernel_rfl, ?h4⟩) HS ?r4
      case h4 => (rintro w s1; go_simp) <;> with_reducible rfl
      try simp only [Act.put, List.getElem_toArray, List.getElem_cons_succ, List.getElem_cons_zero, List.setIfInBounds_toArray, List.set_cons_zero, List.set_cons_succ]
      refine wpAnyH_take (i := 4) (v := ?v5) rfl (by kernel_rfl) (by kernel_rfl) (by kernel_rfl) (fun _ _ _ h => h) (Or.inl ⟨by kernel_rfl, ?h5⟩) HS ?r5
      case h5 => (rintro w s1; go_simp) <;> with_reducible rfl
      try simp only [Act.put, List.getElem_toArray, List.getElem_cons_succ, List.getElem_cons_zero, List.setIfInBounds_toArray, List.set_cons_zero, List.set_cons_succ]
      refine wpAnyH_take (i := 5) (v := ?v6) rfl (by kernel_rfl) (by kernel_rfl) (by kernel_rfl) (fun _ _ _ h => h) (Or.inl ⟨by kernel_rfl, ?h6⟩) HS ?r6
      case h6 => (rintro w s1; go_simp) <;> with_reducible rfl
      try simp only [Act.put, List.getElem_toArray, List.getElem_cons_succ, List.getElem_cons_zero, List.setIfInBounds_toArray, List.set_cons_zero, List.set_cons_succ]
      refine wpAnyH_take (i := 6) (v := ?v7) rfl (by kernel_rfl) (by kernel_rfl) (by kernel_rfl) (fun _ _ _ h => h) (Or.inl ⟨by kernel_rfl, ?h7⟩) HS ?r7
      case h7 => (rintro w s1; go_simp) <;> with_reducible rfl
      try simp only [Act.put, List.getElem_toArray, List.getElem_cons_succ, List.getElem_cons_zero, List.setIfInBounds_toArray, List.set_cons_zero, List.set_cons_succ]
      refine wpAnyH_take (i := 7) (v := ?v8) rfl (by kernel_rfl) (by kernel_rfl) (by kernel_rfl) (fun _ _ _ h => h) (Or.inl ⟨by kernel_rfl, ?h8⟩) HS ?r8
      case h8 => (rintro w s1; go_simp) <;> with_reducible rfl
      try simp only [Act.put, List.getElem_toArray, List.getElem_cons_succ, List.getElem_cons_zero, List.setIfInBounds_toArray, List.set_cons_zero, List.set_cons_succ]
      refine wpAnyH_take (i := 8) (v := ?v9) rfl (by kernel_rfl) (by kernel_rfl) (by kernel_rfl) (fun _ _ _ h => h) (Or.inl ⟨by kernel_rfl, ?h9⟩) HS ?r9
      case h9 => (rintro w s1; go_simp) <;> with_reducible rfl
      try simp only [Act.put, List.getElem_toArray, List.getElem_cons_succ, List.getElem_cons_zero, List.setIfInBounds_toArray, List.set_cons_zero, List.set_cons_succ]
      refine wpAnyH_take (i := 9) (v := ?v10) rfl (by kernel_rfl) (by kernel_rfl) (by kernel_rfl) (fun _ _ _ h => h) (Or.inl ⟨by kernel_rfl, ?h10⟩) HS ?r10
      case h10 => (rintro w s1; go_simp) <;> with_reducible rfl
      try simp only [Act.put, List.getElem_toArray, List.getElem_cons_succ, List.getElem_cons_zero, List.setIfInBounds_toArray, List.set_cons_zero, List.set_cons_succ]
      refine wpAnyH_take (i := 10) (v := ?v11) rfl (by kernel_rfl) (by kernel_rfl) (by kernel_rfl) (fun _ _ _ h => h) (Or.inl ⟨by kernel_rfl, ?h11⟩) HS ?r11
      case h11 => (rintro w s1; go_simp) <;> with_reducible rfl
      try simp only [Act.put, List.getElem_toArray, List.getElem_cons_succ, List.getElem_cons_zero, List.setIfInBounds_toArray, List.set_cons_zero, List.set_cons_succ]
      refine wpAnyH_take (i := 11) (v := ?v12) rfl (by kernel_rfl) (by kernel_rfl) (by kernel_rfl) (fun _ _ _ h => h) (Or.inl ⟨by kernel_rfl, ?h12⟩) HS ?r12
      case h12 => (rintro w s1; go_simp) <;> with_reducible rfl
      try simp only [Act.put, List.getElem_toArray, List.getElem_cons_succ, List.getElem_cons_zero, List.setIfInBounds_toArray, List.set_cons_zero, List.set_cons_succ]
      refine wpAnyH_take (i := 12) (v := ?v13) rfl (by kernel_rfl) (by kernel_rfl) (by kernel_rfl) (fun _ _ _ h => h) (Or.inl ⟨by kernel_rfl, ?h13⟩) HS ?r13
      case h13 => (rintro w s1; go_simp) <;> with_reducible rfl
      try simp only [Act.put, List.getElem_toArray, List.getElem_cons_succ, List.getElem_cons_zero, List.setIfInBounds_toArray, List.set_cons_zero, List.set_cons_succ]
      refine wpAnyH_take (i := 13) (v := ?v14) rfl (by kernel_rfl) (by kernel_rfl) (by kernel_rfl) (fun _ _ _ h => h) (Or.inl ⟨by kernel_rfl, ?h14⟩) HS ?r14
      case h14 => (rintro w s1; go_simp) <;> with_reducible rfl
      try simp only [Act.put, List.getElem_toArray, List.getElem_cons_succ, List.getElem_cons_zero, List.setIfInBounds_toArray, List.set_cons_zero, List.set_cons_succ]
      refine wpAnyH_take (i := 14) (v := ?v15) rfl (by kernel_rfl) (by kernel_rfl) (by kernel_rfl) (fun _ _ _ h => h) (Or.inl ⟨by kernel_rfl, ?h15⟩) HS ?r15
      case h15 => (rintro w s1; go_simp) <;> with_reducible rfl
      try simp only [Act.put, List.getElem_toArray, List.getElem_cons_succ, List.getElem_cons_zero, List.setIfInBounds_toArray, List.set_cons_zero, List.set_cons_succ]
      refine wpAnyH_take (i := 15) (v := ?v16) rfl (by kernel_rfl) (by kernel_rfl) (by kernel_rfl) (fun _ _ _ h => h) (Or.inl ⟨by kernel_rfl, ?h16⟩) HS ?r16
      case h16 => (rintro w s1; go_simp) <;> with_reducible rfl
      try simp only [Act.put, List.getElem_toArray, List.getElem_cons_succ, List.getElem_cons_zero, List.setIfInBounds_toArray, List.set_cons_zero, List.set_cons_succ]
      refine wpAnyH_take (i := 16) (v := ?v17) rfl (by kernel_rfl) (by kernel_rfl) (by kernel_rfl) (fun _ _ _ h => h) (Or.inl ⟨by kernel_rfl, ?h17⟩) HS ?r17
      case h17 => (rintro w s1; go_simp) <;> with_reducible rfl
      try simp only [Act.put, List.getElem_toArray, List.getElem_cons_succ, List.getElem_cons_zero, List.setIfInBounds_toArray, List.set_cons_zero, List.set_cons_succ]
      refine wpAnyH_ready (rs := [17]) (by kernel_rfl) (by simp) ?_
      refine AllReadyH.cons rfl (fun K hK => ?_) AllReadyH.nil
      go_simp
      refine hK.out _ _ (cell_later (bel1 _ _) HS) (fun HS => ?_)
      clear hK K
      refine wpAnyH_ready (rs := [18]) (by kernel_rfl) (by simp) ?_
      refine AllReadyH.cons rfl (fun K hK => ?_) AllReadyH.nil
      rw [if_pos (by kernel_rfl)]
      refine wp_append_own _ _ _ 79 rfl w.heap.size 87 i0 (.agg #[.int .i64 0, .int .i64 0, .slice none 0 0, .slice none 0 0]) 4 64 Tryz.underlying79 hti hy0 hy1 hy2 rfl (by decide) u5 i (lyL b o cap z i) rfl (HO2.out.alloc _) ⟨wd.heap.size, 0, none⟩ 1 1 [.int .i64 (zb : Int), .int .i64 (za : Int), .slice (some ⟨b, oF, none⟩) wt KF, .slice (some ⟨b, oF + wt, none⟩) (wz - wt) (KF - wt)] rfl rfl (cell_four_new _ _ _ _ _ _) (by intro q hq; simp only [List.mem_cons, List.not_mem_nil, or_false] at hq; rcases hq with rfl | rfl | rfl | rfl <;> rfl) (by unfold maxLen; omega) (by omega) (by have := HW2.out.size; rw [World.size_alloc]; omega) (fun v' w9 hown' hgrow hnil => ?_)
      have HW9 : Hid (Below w.heap.size w w9) := below_own HW2.out HW2.out.size HO2.out hgrow
      refine hK.out _ _ (cell_later HW9.out HXa.out) (fun HS => ?_)
      clear hK K hgrow hnil
      refine wpAnyH_take (i := 19) (v := ?v18) rfl (by kernel_rfl) (by kernel_rfl) (by kernel_rfl) (fun _ _ _ h => h) (Or.inl ⟨by kernel_rfl, ?h18⟩) HS ?r18
      case h18 => (rintro w s1; go_simp) <;> with_reducible rfl
      try simp only [Act.put, List.getElem_toArray, List.getElem_cons_succ, List.getElem_cons_zero, List.setIfInBounds_toArray, List.set_cons_zero, List.set_cons_succ]
      refine wpAnyH_done (by kernel_rfl) ?_ _
      clear HS
      have HO9 : Hid (w9.ownsRow w.heap.size 87 4 v' (i + 1) (lyL b o cap z (i + 1))) := by
        have e : wz - wt = zb := by have := HN.out; omega
        rw [e] at hown'
        show w9.ownsRow w.heap.size 87 4 v' (i + 1) (lyL b o cap z (i + 1))
        rw [← HR.out, hR]
        exact hown'
      clear hown' hR HO2 HW2
      have HN2 : Hid (fsN z (i + 1) < fsN z M ∨ i + 1 = M) := by
        show _ ∨ _
        rcases Nat.lt_or_ge (i + 1) M with h | h
        · left
          have h1 := fsN_mono z (show i + 1 + 1 ≤ M from h)
          have h2 := (lyN_le z (M + 1) (i + 1) HZ.out (by omega)).2
          have h3 : fsN z (i + 1 + 1) = fsN z (i + 1) + lyN z (i + 1) := rfl
          omega
        · right; omega
      by_cases hq : KF = wz
      · have hq2 : wz ≤ wz := Nat.le_refl _
        subst hq
        go_wp2
        go_roundw
        case rel =>
          have e1 := HN.out
          have e2 := HF.out
          have e3 := HN2.out
          have e4 := HCP.out
          refine ⟨i + 1, by omega, by go_num, ⟨oF, ?_, fun h => by omega⟩, HO9, HW9⟩
          rw [show cp - fsN z (i + 1) = LF - KF by omega, show cap - fsN z (i + 1) = KF - KF by omega]
          first | rfl | simp
        case measure => simp [intOf]; omega
      · go_wp2
        go_roundw
        case rel =>
          have e1 := HN.out
          have e2 := HF.out
          refine ⟨i + 1, by omega, by go_num, ⟨oF + wz, ?_, fun _ => by omega⟩, HO9, HW9⟩
          rw [show cp - fsN z (i + 1) = LF - wz by omega, show cap - fsN z (i + 1) = KF - wz by omega]
        case measure => simp [intOf]; omega
    · obtain rfl : i = M := by omega
      have hiI : ¬ (i : Int) < (i : Int) := by omega
      obtain ⟨HL, HOw⟩ := lyr_of_own HO.out (by omega)
      obtain ⟨g, cL, rfl, l1, l2, l3⟩ := id HL
      have HL' : Hid (Lyr wr (.slice (some ⟨g, 0, none⟩) i cL) i z b o cap ∧ w.heap.size ≤ g) := ⟨HL, HOw _ _ _ rfl (by omega)⟩
      clear HL HOw l3 HO
      go_wp2
      go_ret
      exact ⟨g, cL, rfl, HL'.out.1, HL'.out.2, HW.out⟩
end Go.Proofs.YtcaficenocblfaaGreatDoor
set_option linter.unusedVariables false
set_option linter.unusedSimpArgs false
namespace Go.Proofs.YtcaficenocblfaaGreatDoor
open Go.RowKit

def AlF (w : World) (B : Nat) (v : Value) (j : Nat) (ns : Nat → Nat) (fs : Nat → Nat → Int) : Prop :=
  ∃ xs : List Value, w.ownsRow B 23 1 v j xs ∧ ∀ k, k < j → ∃ va : Value, xs[k]? = some va ∧ Ar w va (ns k) (fs k) ∧ Ow B va ∧ ∀ g, v.ownBlock = some g → Nb va g
def Vls (B : Nat) (w : World) (v : Value) (m : Nat) (ns : Nat → Nat) (fs : Nat → Nat → Int) : Prop :=
  ∃ (g cap : Nat), v = .slice (some ⟨g, 0, none⟩) m cap ∧ m ≤ cap ∧ cap ≤ maxLen ∧ B ≤ g ∧ ∀ k, k < m → ∃ va : Value, w.cell? ⟨g, k, none⟩ = some va ∧ Ar w va (ns k) (fs k) ∧ Ow B va ∧ Nb va g
theorem AlF.vls {w : World} {B : Nat} {v : Value} {j : Nat} {ns : Nat → Nat} {fs : Nat → Nat → Int} (h : AlF w B v j ns fs) (hj : 0 < j) : Vls B w v j ns fs := by
  obtain ⟨xs, h1, h2⟩ := h
  rcases id h1.2 with ⟨_, h0⟩ | ⟨g, cap, cur, rfl, hg, hh, hc1, hc2, hsz, htk⟩
  · omega
  · refine ⟨g, cap, rfl, hc1, hc2, hg, fun k hk => ?_⟩
    obtain ⟨va, e, a, x, q⟩ := h2 k hk
    exact ⟨va, (h1.cellAt k (by omega)).trans e, a, x, q g rfl⟩
theorem AlF.later {w w' : World} {B : Nat} {v : Value} {j : Nat} {ns : Nat → Nat} {fs : Nat → Nat → Int} (h : AlF w B v j ns fs) (hb : Below w.heap.size w w') : AlF w' B v j ns fs := by
  obtain ⟨xs, h1, h2⟩ := h
  exact ⟨xs, own_later h1 hb, fun k hk => by obtain ⟨va, e, a, c, g⟩ := h2 k hk; exact ⟨va, e, a.later hb, c, g⟩⟩
theorem AlF.ux {w w' : World} {B : Nat} {v : Value} {j : Nat} {ns : Nat → Nat} {fs : Nat → Nat → Int} {p : Option Addr} {c : Int} (h : AlF w B v j ns fs) (hU : Ux p c w w') (hn : ∀ g, B ≤ g → Nu g p) : AlF w' B v j ns fs := by
  obtain ⟨xs, h1, h2⟩ := h
  exact ⟨xs, own_ux h1 hU hn, fun k hk => by obtain ⟨va, e, a, x, g⟩ := h2 k hk; exact ⟨va, e, a.ux (fun d e a n cap e2 h0 => hn _ (x a n cap e2 h0) d e) hU, x, g⟩⟩
theorem vlf_grow {w w3 : World} {B : Nat} {v v' va : Value} {j : Nat} {ns : Nat → Nat} {fs : Nat → Nat → Int} {o : Obj} {xs : List Value} (h1 : w.ownsRow B 23 1 v j xs) (h2 : ∀ k, k < j → ∃ va : Value, xs[k]? = some va ∧ Ar w va (ns k) (fs k) ∧ Ow B va ∧ ∀ g, v.ownBlock = some g → Nb va g)
    (hA : Ar w va (ns j) (fs j)) (hO : Ow B va) (hN : ∀ g, v.ownBlock = some g → Nb va g)
    (hown : w3.ownsRow B 23 1 v' (j + 1) (xs ++ [va])) (hgrow : (w.alloc o).grownBy w3 v.ownBlock) (hat : v'.ownBlock = v.ownBlock ∨ v'.ownBlock = some (w.alloc o).heap.size) : AlF w3 B v' (j + 1) ns fs := by
  have hlen : xs.length = j := by have := h1.1; omega
  have key : ∀ k (x : Value), Ar w x (ns k) (fs k) → (∀ g, v.ownBlock = some g → Nb x g) → Ar w3 x (ns k) (fs k) ∧ ∀ g, v'.ownBlock = some g → Nb x g := fun k x hx hn => by
    refine ⟨hx.stay (fun a n' cap e h0 => ?_), fun g hg => ?_⟩
    · have hlt : a.block < w.heap.size := by
        rcases Nat.lt_or_ge a.block w.heap.size with h | h
        · exact h
        · exact absurd rfl (hx.spare h a n' cap e h0)
      rw [hgrow.block a.block (by rw [World.size_alloc]; omega) (fun e2 => hn a.block e2.symm a n' cap e h0 rfl), Below.heap_alloc _ _ _ (by omega)]
    · rcases hat with h | h
      · exact hn g (h.symm.trans hg)
      · rw [h] at hg
        obtain rfl := Option.some.inj hg
        exact hx.spare (by rw [World.size_alloc]; omega)
  refine ⟨xs ++ [va], hown, fun k hk => ?_⟩
  rcases Nat.lt_or_ge k j with h | h
  · obtain ⟨x, e, a, c, g⟩ := h2 k h
    obtain ⟨p, q⟩ := key k x a g
    exact ⟨x, by rw [List.getElem?_append_left (by omega)]; exact e, p, c, q⟩
  · obtain rfl : k = j := by omega
    obtain ⟨p, q⟩ := key k va hA hN
    exact ⟨va, by rw [List.getElem?_append_right (by omega), hlen]; simp, p, hO, q⟩
theorem own_one (w : World) (B : Nat) (x : Value) (t : TypeId) (hB : B ≤ w.heap.size) : (w.alloc (.cells #[x] t)).ownsRow B t 1 (.slice (some ⟨w.heap.size, 0, none⟩) 1 1) 1 [x] :=
  ⟨rfl, Or.inr ⟨w.heap.size, 1, #[x], rfl, hB, heap_alloc_new w _, Nat.le_refl _, by unfold maxLen; omega, rfl, rfl⟩⟩
theorem lyA_ar {w : World} {b o cp cap : Nat} {P : Nat → Int} {z : Nat → Nat} {m l : Nat} (h : Ar w (.slice (some ⟨b, o, none⟩) cp cap) cp P) (hcp : cp = fsN z (m - 1)) (hl : l + 1 < m) (hc : cp ≤ cap) (hc2 : cap ≤ maxLen) : Ar w (lyA b o cap z l) (z (l + 1) * z l) (fun i => P (fsN z l + i)) := by
  have h1 : fsN z (l + 1) = fsN z l + (z l * z (l + 1) + z (l + 1)) := rfl
  have h2 := fsN_mono z (show l + 1 ≤ m - 1 by omega)
  rw [Nat.mul_comm (z l)] at h1
  exact h.part (fsN z l) (z (l + 1) * z l) _ (by omega) (by omega) (by omega)
theorem lyB_ar {w : World} {b o cp cap : Nat} {P : Nat → Int} {z : Nat → Nat} {m l : Nat} (h : Ar w (.slice (some ⟨b, o, none⟩) cp cap) cp P) (hcp : cp = fsN z (m - 1)) (hl : l + 1 < m) (hc : cp ≤ cap) (hc2 : cap ≤ maxLen) : Ar w (lyB b o cap z l) (z (l + 1)) (fun i => P (fsN z l + z (l + 1) * z l + i)) := by
  have h1 : fsN z (l + 1) = fsN z l + (z l * z (l + 1) + z (l + 1)) := rfl
  have h2 := fsN_mono z (show l + 1 ≤ m - 1 by omega)
  rw [Nat.mul_comm (z l)] at h1
  have h3 := h.part (fsN z l + z (l + 1) * z l) (z (l + 1)) (cap - fsN z l - z (l + 1) * z l) (by omega) (by omega) (by omega)
  unfold lyB
  rw [Nat.add_assoc o]
  exact h3
theorem outS_lin (z : Nat → Nat) (P V : Nat → Int) (l u : Nat) : outS (z l) (fun i => P (fsN z l + i)) (fun i => P (fsN z l + z (l + 1) * z l + i)) V u = linN z P V l u := by
  unfold outS linN ofN
  rw [Nat.mul_comm (z l)]
  rw [dot_congr (fun i => P (fsN z l + (u * z l + i))) V (fun i => P (wtN z l u i)) V (z l) (fun k _ => ⟨by show P (fsN z l + (u * z l + k)) = P (fsN z l + u * z l + k); rw [Nat.add_assoc], rfl⟩)]
theorem raisV_hid (v : Int) : raisV v = hidV true v := by unfold raisV hidV; rw [if_pos rfl]
set_option maxRecDepth 100000 in
set_option maxHeartbeats 16000000 in
theorem forward_any (vL vx : Value) (m b o cp cap : Nat) (z : Nat → Nat) (P x : Nat → Int) (p : Option Addr) (c : Int) (c0 : 0 ≤ c) (c1 : c ≤ 600000000) (w : World) (hL : Lyr w vL (m - 1) z b o cap) (nL : Nv vL p) (hP : Ar w (.slice (some ⟨b, o, none⟩) cp cap) cp P) (nP : Nu b p) (hX : Ar w vx (z 0) x) (nX : Nv vx p) (hz : Szs z m) (hcp : cp = fsN z (m - 1)) (hp : Up p c w) (hT : TabAt w) :
    Calls Tryz.prog 29 #[.pointer p, vL, vx] w fun e w' => ∃ v', e = .returned v' ∧ Vls w.heap.size w' v' m z (vN z m P x) ∧ Ux p (c + vC z m P x (m - 1)) w w' := by
  obtain ⟨i1, hti1, hy3, hy4, hy5⟩ := info_parts dinfo_fs
  obtain ⟨m2, m6, hz6⟩ := id hz
  obtain ⟨hcc1, hcc2⟩ : cp ≤ cap ∧ cap ≤ maxLen := by obtain ⟨_, _, _, _, e, h2, h3, _⟩ := hP; cases e; exact ⟨h2, h3⟩
  obtain ⟨gL, cL, rfl, l1, l2, l3⟩ := id hL
  unfold maxLen at l2
  have hnL : Nu gL p := nL.nu (by omega)
  have HL : Hid (∀ k, k + 1 < m → w.cell? ⟨gL, k * 4, none⟩ = some (.int .i64 ((z (k + 1) : Nat) : Int)) ∧ w.cell? ⟨gL, k * 4 + 1, none⟩ = some (.int .i64 ((z k : Nat) : Int)) ∧ w.cell? ⟨gL, k * 4 + 2, none⟩ = some (lyA b o cap z k) ∧ w.cell? ⟨gL, k * 4 + 3, none⟩ = some (lyB b o cap z k)) := fun k hk => l3 k (by omega)
  have HP : Hid (Ar w (.slice (some ⟨b, o, none⟩) cp cap) cp P ∧ Nv (.slice (some ⟨b, o, none⟩) cp cap) p) := ⟨hP, nP.nv _ _ _⟩
  have HUp : Hid (Up p c w ∧ TabAt w) := ⟨hp, hT⟩
  have HNw : Hid (∀ g, w.heap.size ≤ g → Nu g p) := fun g hg => hp.lt hg
  have HZ : Hid (∀ i, i < m → 1 ≤ z i ∧ z i ≤ 64) := hz6
  have HCP : Hid (cp = fsN z (m - 1) ∧ cp ≤ cap ∧ cap ≤ maxLen) := ⟨hcp, hcc1, hcc2⟩
  have HvC : Hid (∀ l, l < m → 0 ≤ vC z m P x l ∧ vC z m P x l ≤ 64 * (l : Int)) := fun l hl => vC_rng z m P x l (fun i hi => (hz6 i hi).2) hl
  have HvS : Hid (∀ l, vC z m P x (l + 1) = vC z m P x l + cntV (vO z m P x l) (z (l + 1))) := fun l => rfl
  have HV1 : Hid (∀ l u, vN z m P x (l + 1) u = hidV (decide (l + 2 < m)) (clv (rr (linN z P (vN z m P x l) l u) 32))) := fun l u => rfl
  have HVr : Hid (∀ l u, u < z l → -9223372036854775808 ≤ vN z m P x l u ∧ vN z m P x l u ≤ 9223372036854775807) := fun l u hu => vN_rng z m P x l u hX.rng hu
  have CC := clone_any vx (z 0) x (by have := (hz6 0 (by omega)).2; omega) w hX
  have HV0 : Hid (vN z m P x 0 = x) := rfl
  have HvO : Hid (∀ l u, vO z m P x l u = ovv (rr (linN z P (vN z m P x l) l u) 32)) := fun l u => rfl
  have HvC0 : Hid (vC z m P x 0 = 0) := rfl
  obtain ⟨adx, cax, bx, ox, rfl, -, -, -, -⟩ := hX
  generalize vN z m P x = V at *
  generalize vC z m P x = VC at *
  generalize vO z m P x = VO at *
  obtain ⟨M, hM⟩ : ∃ M, m = M + 1 := ⟨m - 1, by omega⟩
  have HM : Hid (m = M + 1) := hM
  rw [show m - 1 = M by omega] at HCP ⊢
  have M1 : 1 ≤ M := by omega
  have M5 : M ≤ 5 := by omega
  have hML : M ≤ cL := by omega
  have wM : IntKind.i64.wrap ((M : Int) - 1) = (M : Int) - 1 := by rw [IntKind.wrap_i64]; omega
  clear l1 l3 hL nL hP hp hT nX hz hz6 hcp hcc1 hcc2 hM m2 m6
  go_enter Tryz.func29, Tryz.ntmps29
  go_wp2_with fail
  refine CC.mono ?_
  rintro e w1 ⟨ad1, cp1, rfl, hA1, hO1, h1⟩
  obtain ⟨w2, hw2⟩ : ∃ w2, w2 = w1.alloc (.cells #[.slice ad1 (z 0) cp1] 23) := ⟨_, rfl⟩
  have HU2 : Hid (Ux p c w w2) := by rw [hw2]; exact HUp.out.1.ux (bchain h1 (bel1 _ _))
  have hs1 := h1.size
  have HAl2 : Hid (AlF w2 w.heap.size (.slice (some ⟨w1.heap.size, 0, none⟩) 1 1) 1 z V) := by
    rw [hw2]
    refine ⟨[.slice ad1 (z 0) cp1], own_one w1 _ _ _ hs1, fun k hk => ?_⟩
    obtain rfl : k = 0 := by omega
    exact ⟨_, rfl, by rw [HV0.out]; exact hA1.later (bel1 _ _), hO1, fun g hg => by cases hg; exact hA1.spare (Nat.le_refl _)⟩
  clear CC hA1 hO1 h1
  go_upto_region 3 with fail
  rw [← hw2]
  clear hw2
  go_loopw [7, 16] (fun s7 si wr => ∃ l : Nat, l ≤ M ∧ si = .int .i64 (l : Int) ∧ Hid (AlF wr w.heap.size s7 (l + 1) z V) ∧ Hid (Ux p (c + VC l) w wr)) (fun _ si _ => M - (intOf si).toNat)
  case atStart => exact ⟨0, by omega, rfl, HAl2, by rw [HvC0.out, Int.add_zero]; exact HU2.out⟩
  case round =>
    rename World => wo
    obtain ⟨l, hl, rfl, HAl, HU⟩ := hrel
    clear HAl2 HU2 hs1
    by_cases hlt : l < M
    · have hlI : (l : Int) < (M : Int) := by omega
      obtain ⟨y0, y1, y2, y3⟩ := HL.out l (by have := HM.out; omega)
      have q0 := HU.out.cell hnL y0
      have q1 := HU.out.cell hnL y1
      have q2 := HU.out.cell hnL y2
      have q3 := HU.out.cell hnL y3
      obtain ⟨z1, z2⟩ := HZ.out l (by have := HM.out; omega)
      obtain ⟨x1, x2⟩ := HZ.out (l + 1) (by have := HM.out; omega)
      obtain ⟨gv, cv, hu7, v1, v2, v3, v4⟩ := HAl.out.vls (by omega)
      subst hu7
      unfold maxLen at v2
      obtain ⟨vl, hvl, hAl, hOl, hNl⟩ := v4 l (by omega)
      obtain ⟨adl, cl, bl, ol, rfl, -, -, -, -⟩ := id hAl
      obtain ⟨w3, hw3⟩ : ∃ w3, w3 = wo.alloc (.cells #[.int .i64 ((z (l + 1) : Nat) : Int), .int .i64 ((z l : Nat) : Int), lyA b o cap z l, lyB b o cap z l] 87) := ⟨_, rfl⟩
      have hb3 : Below wo.heap.size wo w3 := by rw [hw3]; exact bel1 _ _
      have hso := HU.out.size
      have HB3 : B4 wo.heap.size (.int .i64 ((z (l + 1) : Nat) : Int)) (.int .i64 ((z l : Nat) : Int)) (lyA b o cap z l) (lyB b o cap z l) w3.drew := by rw [hw3]; exact (B4.new wo _ _ _ _ _).later (Below.refl _ _).drew
      have HU3 : Hid (Ux p (c + VC l) w w3.drew) := (HU.out.later hb3).drew
      have HAl3 : Hid (AlF w3.drew w.heap.size (.slice (some ⟨gv, 0, none⟩) (l + 1) cv) (l + 1) z V) := (HAl.out.later hb3).later (Below.refl _ _).drew
      have hvl3 : w3.drew.cell? ⟨gv, l, none⟩ = some (.slice adl (z l) cl) := cell_later (bchain hb3 (Below.refl _ _).drew) hvl
      have hgvlt : gv < wo.heap.size := World.block_lt_of_cell? _ _ hvl
      have hAl3 : Ar w3.drew (.slice adl (z l) cl) (z l) (V l) := hAl.later (bchain hb3 (Below.refl _ _).drew)
      have hvc := HvC.out l (by have := HM.out; omega)
      have hnl : Nv (.slice adl (z l) cl) p := HUp.out.1.ow hOl
      have CO := outputs_any (z (l + 1)) (z l) b (o + fsN z l) (cap - fsN z l) (fun i => P (fsN z l + i)) (fun i => P (fsN z l + z (l + 1) * z l + i)) (V l) (some ⟨b, o + fsN z l + z (l + 1) * z l, none⟩) (cap - fsN z l - z (l + 1) * z l) (.slice adl (z l) cl) p (c + VC l) (by omega) (by omega) (by omega) (by omega) (by omega) w3.drew
        (lyA_ar (m := m) (HP.out.1.ux HP.out.2 HU3.out) (by rw [HM.out, Nat.add_sub_cancel]; exact HCP.out.1) (by have := HM.out; omega) HCP.out.2.1 HCP.out.2.2)
        (lyB_ar (m := m) (HP.out.1.ux HP.out.2 HU3.out) (by rw [HM.out, Nat.add_sub_cancel]; exact HCP.out.1) (by have := HM.out; omega) HCP.out.2.1 HCP.out.2.2)
        hAl3 (nP.nv _ _ _) (nP.nv _ _ _) hnl HU3.out.up (HUp.out.2.ux HUp.out.1 HU3.out)
      have eO : (fun k => ovv (rr (outS (z l) (fun i => P (fsN z l + i)) (fun i => P (fsN z l + z (l + 1) * z l + i)) (V l) k) 32)) = VO l := funext (fun k => by rw [outS_lin, HvO.out])
      rw [eO] at CO
      have eR : (fun k => Value.int .i64 (clv (rr (outS (z l) (fun i => P (fsN z l + i)) (fun i => P (fsN z l + z (l + 1) * z l + i)) (V l) k) 32))) = (fun k => Value.int .i64 (clv (rr (linN z P (V l) l k) 32))) := funext (fun k => by rw [outS_lin])
      rw [eR] at CO
      have HvS' : Hid (c + VC (l + 1) = c + VC l + cntV (VO l) (z (l + 1))) := by show _ = _; rw [HvS.out, Int.add_assoc]
      have hlA : lyA b o cap z l = .slice (some ⟨b, o + fsN z l, none⟩) (z (l + 1) * z l) (cap - fsN z l) := rfl
      have hlB : lyB b o cap z l = .slice (some ⟨b, o + fsN z l + z (l + 1) * z l, none⟩) (z (l + 1)) (cap - fsN z l - z (l + 1) * z l) := rfl
      rw [hlA] at q2
      rw [hlB] at q3
      rw [hlA, hlB] at hw3 HB3
      clear hlA hlB eO eR HU y0 y1 y2 y3 v4 hvl hAl hAl3 HAl
      generalize cap - fsN z l - z (l + 1) * z l = kB at *
      generalize o + fsN z l + z (l + 1) * z l = qB at *
      generalize z (l + 1) * z l = nA at *
      generalize cap - fsN z l = kA at *
      generalize o + fsN z l = qA at *
      have hll : (l : Int) < (l : Int) + 1 := by omega
      have nWo : Nu wo.heap.size p := HNw.out _ hso
      have nGv : Nu gv p := HNw.out _ v3
      go_upto_region 5 with fail
      rw [← hw3]
      clear hw3 q0 q1 q2 q3 hb3
      refine wp_region_held_drew (S := fun W' => W'.cell? ⟨wo.heap.size, 0, none⟩ = some (.int .i64 ((z (l + 1) : Nat) : Int)) ∧ W'.cell? ⟨wo.heap.size, 1, none⟩ = some (.int .i64 ((z l : Nat) : Int)) ∧ W'.cell? ⟨wo.heap.size, 2, none⟩ = some (.slice (some ⟨b, qA, none⟩) nA kA) ∧ W'.cell? ⟨wo.heap.size, 3, none⟩ = some (.slice (some ⟨b, qB, none⟩) (z (l + 1)) kB) ∧ W'.cell? ⟨gv, l, none⟩ = some (.slice adl (z l) cl)) (by kernel_rfl) ⟨HB3.c0, HB3.c1, HB3.c2, HB3.c3, hvl3⟩ (fun HS => ?_)
      generalize w3.drew = wd at *
      clear hvl3
      refine wpAnyH_take (i := 0) (v := ?v1) rfl (by kernel_rfl) (by kernel_rfl) (by kernel_rfl) (fun _ _ _ h => h) (Or.inl ⟨by kernel_rfl, ?h1⟩) HS ?r1
      case h1 => (rintro w ⟨e0, e1, e2, e3, e4⟩; go_simp) <;> with_reducible rfl
      try simp only [Act.put, List.getElem_toArray, List.getElem_cons_succ, List.getElem_cons_zero, List.setIfInBounds_toArray, List.set_cons_zero, List.set_cons_succ]
      refine wpAnyH_take (i := 1) (v := ?v2) rfl (by kernel_rfl) (by kernel_rfl) (by kernel_rfl) (fun _ _ _ h => h) (Or.inl ⟨by kernel_rfl, ?h2⟩) HS ?r2
      case h2 => (rintro w ⟨e0, e1, e2, e3, e4⟩; go_simp) <;> with_reducible rfl
      try simp only [Act.put, List.getElem_toArray, List.getElem_cons_succ, List.getElem_cons_zero, List.setIfInBounds_toArray, List.set_cons_zero, List.set_cons_succ]
      refine wpAnyH_take (i := 2) (v := ?v3) rfl (by kernel_rfl) (by kernel_rfl) (by kernel_rfl) (fun _ _ _ h => h) (Or.inl ⟨by kernel_rfl, ?h3⟩) HS ?r3
      case h3 => (rintro w ⟨e0, e1, e2, e3, e4⟩; go_simp) <;> with_reducible rfl
      try simp only [Act.put, List.getElem_toArray, List.getElem_cons_succ, List.getElem_cons_zero, List.setIfInBounds_toArray, List.set_cons_zero, List.set_cons_succ]
      refine wpAnyH_take (i := 3) (v := ?v4) rfl (by kernel_rfl) (by kernel_rfl) (by kernel_rfl) (fun _ _ _ h => h) (Or.inl ⟨by kernel_rfl, ?h4⟩) HS ?r4
      case h4 => (rintro w ⟨e0, e1, e2, e3, e4⟩; go_simp) <;> with_reducible rfl
      try simp only [Act.put, List.getElem_toArray, List.getElem_cons_succ, List.getElem_cons_zero, List.setIfInBounds_toArray, List.set_cons_zero, List.set_cons_succ]
      refine wpAnyH_take (i := 4) (v := ?v5) rfl (by kernel_rfl) (by kernel_rfl) (by kernel_rfl) (fun _ _ _ h => h) (Or.inl ⟨by kernel_rfl, ?h5⟩) HS ?r5
      case h5 => (rintro w ⟨e0, e1, e2, e3, e4⟩; go_simp) <;> with_reducible rfl
      try simp only [Act.put, List.getElem_toArray, List.getElem_cons_succ, List.getElem_cons_zero, List.setIfInBounds_toArray, List.set_cons_zero, List.set_cons_succ]
      refine wpAnyH_take (i := 5) (v := ?v6) rfl (by kernel_rfl) (by kernel_rfl) (by kernel_rfl) (fun _ _ _ h => h) (Or.inl ⟨by kernel_rfl, ?h6⟩) HS ?r6
      case h6 => (rintro w ⟨e0, e1, e2, e3, e4⟩; go_simp) <;> with_reducible rfl
      try simp only [Act.put, List.getElem_toArray, List.getElem_cons_succ, List.getElem_cons_zero, List.setIfInBounds_toArray, List.set_cons_zero, List.set_cons_succ]
      refine wpAnyH_ready (rs := [6]) (by kernel_rfl) (by simp) ?_
      refine AllReadyH.cons rfl (fun K hK => ?_) AllReadyH.nil
      go_simp
      refine CO.mono ?_
      rintro e w4 ⟨g4, rfl, hR4, hg4, h4⟩
      refine hK.out _ _ ⟨h4.cell nWo HS.1, h4.cell nWo HS.2.1, h4.cell nWo HS.2.2.1, h4.cell nWo HS.2.2.2.1, h4.cell nGv HS.2.2.2.2⟩ (fun HS => ?_)
      clear hK K
      refine wpAnyH_take (i := 7) (v := ?v7) rfl (by kernel_rfl) (by kernel_rfl) (by kernel_rfl) (fun _ _ _ h => h) (Or.inl ⟨by kernel_rfl, ?h7⟩) HS ?r7
      case h7 => (rintro w ⟨e0, e1, e2, e3, e4⟩; go_simp) <;> with_reducible rfl
      try simp only [Act.put, List.getElem_toArray, List.getElem_cons_succ, List.getElem_cons_zero, List.setIfInBounds_toArray, List.set_cons_zero, List.set_cons_succ]
      refine wpAnyH_done (by kernel_rfl) ?_ _
      clear HS
      by_cases hh : l + 2 < m
      · have hhI : (l : Int) < (M : Int) - 1 := by have := HM.out; omega
        have CR := raise_any g4 (z (l + 1)) _ (by omega) w4 hR4 p _ wd h4 hg4
        have eV : (fun k => Value.int .i64 (raisV (clv (rr (linN z P (V l) l k) 32)))) = (fun k => Value.int .i64 (V (l + 1) k)) := funext (fun k => by rw [HV1.out, decide_eq_true hh, raisV_hid])
        rw [eV] at CR
        clear eV hR4 h4
        go_wp2_with fail
        refine CR.mono ?_
        rintro e w5 ⟨rfl, hR5, hU5, -, -⟩
        clear CR
        have HAl5 := HAl3.out.ux hU5 HNw.out
        have HU5 : Hid (Ux p (c + VC (l + 1)) w w5) := by rw [HvS'.out]; exact HU3.out.chain hU5
        have HA5 : Ar w5 (.slice (some ⟨g4, 0, none⟩) (z (l + 1)) (z (l + 1))) (z (l + 1)) (V (l + 1)) := hR5.ar (by omega) (fun k hk => HVr.out (l + 1) k hk)
        have hsd : wo.heap.size < wd.heap.size := World.block_lt_of_cell? _ _ HB3.c0
        obtain ⟨xs, hr1, hr2⟩ := HAl5
        have hsz5 := HU5.out.size
        have hO5 : Ow w.heap.size (.slice (some ⟨g4, 0, none⟩) (z (l + 1)) (z (l + 1))) := fun a n' cap' e h0 => by cases e; dsimp only; omega
        have hN5 : ∀ g', (Value.slice (some ⟨gv, 0, none⟩) (l + 1) cv).ownBlock = some g' → Nb (.slice (some ⟨g4, 0, none⟩) (z (l + 1)) (z (l + 1))) g' := fun g' hg' => by cases hg'; intro a n' cap' e h0; cases e; dsimp only; omega
        clear HAl3 HU3 hU5 hR5 HB3 CO
        go_wp2_with (at_builtin; refine wpList_append_own_at _ rfl _ _ 60 rfl w.heap.size 23 i1 (.slice none 0 0) 1 24 Tryz.underlying60 hti1 hy3 hy4 hy5 rfl (by decide) _ _ _ rfl (hr1.alloc _) ⟨w5.heap.size, 0, none⟩ 1 1 [.slice (some ⟨g4, 0, none⟩) (z (l + 1)) (z (l + 1))] rfl rfl (cell_one_new _ _ _) (by simp [Value.oneCell']) (by unfold maxLen; omega) (by omega) (by simp; omega) ?_; intro v' w8 hown' hgrow hnil hat)
        have HAl8 : Hid (AlF w8 w.heap.size v' (l + 1 + 1) z V) := vlf_grow hr1 hr2 HA5 hO5 hN5 hown' hgrow hat
        have HU8 : Hid (Ux p (c + VC (l + 1)) w w8) := HU5.out.grow hgrow (fun k hk => (hr1.lt k hk).1)
        clear hown' hgrow hnil hat hr1 hr2 HU5 HA5 hO5 hN5
        go_wp2
        go_roundw
        case rel => exact ⟨l + 1, by omega, by go_num, HAl8, HU8⟩
        case measure => simp [intOf]; omega
      · have hhI : ¬ (l : Int) < (M : Int) - 1 := by have := HM.out; omega
        have eV : (fun k => Value.int .i64 (clv (rr (linN z P (V l) l k) 32))) = (fun k => Value.int .i64 (V (l + 1) k)) := funext (fun k => by rw [HV1.out, decide_eq_false hh]; unfold hidV; rw [if_neg (by decide)])
        rw [eV] at hR4
        have hR5 := hR4
        have hU5 := h4
        clear eV hR4 h4
        have HAl5 := HAl3.out.ux hU5 HNw.out
        have HU5 : Hid (Ux p (c + VC (l + 1)) w w4) := by rw [HvS'.out]; exact HU3.out.chain hU5
        have HA5 : Ar w4 (.slice (some ⟨g4, 0, none⟩) (z (l + 1)) (z (l + 1))) (z (l + 1)) (V (l + 1)) := hR5.ar (by omega) (fun k hk => HVr.out (l + 1) k hk)
        have hsd : wo.heap.size < wd.heap.size := World.block_lt_of_cell? _ _ HB3.c0
        obtain ⟨xs, hr1, hr2⟩ := HAl5
        have hsz5 := HU5.out.size
        have hO5 : Ow w.heap.size (.slice (some ⟨g4, 0, none⟩) (z (l + 1)) (z (l + 1))) := fun a n' cap' e h0 => by cases e; dsimp only; omega
        have hN5 : ∀ g', (Value.slice (some ⟨gv, 0, none⟩) (l + 1) cv).ownBlock = some g' → Nb (.slice (some ⟨g4, 0, none⟩) (z (l + 1)) (z (l + 1))) g' := fun g' hg' => by cases hg'; intro a n' cap' e h0; cases e; dsimp only; omega
        clear HAl3 HU3 hU5 hR5 HB3 CO
        go_wp2_with (at_builtin; refine wpList_append_own_at _ rfl _ _ 60 rfl w.heap.size 23 i1 (.slice none 0 0) 1 24 Tryz.underlying60 hti1 hy3 hy4 hy5 rfl (by decide) _ _ _ rfl (hr1.alloc _) ⟨w4.heap.size, 0, none⟩ 1 1 [.slice (some ⟨g4, 0, none⟩) (z (l + 1)) (z (l + 1))] rfl rfl (cell_one_new _ _ _) (by simp [Value.oneCell']) (by unfold maxLen; omega) (by omega) (by simp; omega) ?_; intro v' w8 hown' hgrow hnil hat)
        have HAl8 : Hid (AlF w8 w.heap.size v' (l + 1 + 1) z V) := vlf_grow hr1 hr2 HA5 hO5 hN5 hown' hgrow hat
        have HU8 : Hid (Ux p (c + VC (l + 1)) w w8) := HU5.out.grow hgrow (fun k hk => (hr1.lt k hk).1)
        clear hown' hgrow hnil hat hr1 hr2 HU5 HA5 hO5 hN5
        go_wp2
        go_roundw
        case rel => exact ⟨l + 1, by omega, by go_num, HAl8, HU8⟩
        case measure => simp [intOf]; omega
    · obtain rfl : l = M := by omega
      have hlI : ¬ (l : Int) < (l : Int) := by omega
      have HQ : Hid (Vls w.heap.size wo u7 m z V) := by rw [HM.out]; exact HAl.out.vls (by omega)
      obtain ⟨gv, cv, hu7, -, -, -, -⟩ := id HQ.out
      subst hu7
      clear HAl
      go_wp2
      go_ret
      exact ⟨_, rfl, HQ.out, HU.out⟩
end Go.Proofs.YtcaficenocblfaaGreatDoor
set_option linter.unusedVariables false
set_option linter.unusedSimpArgs false
namespace Go.Proofs.YtcaficenocblfaaGreatDoor
open Go.RowKit

set_option maxHeartbeats 1000000 in
theorem measureOf_sq (w : World) : Calls Tryz.prog 18 #[.int .i64 1] w fun e w' => e = .returned (.iface 90 (.agg #[])) ∧ w' = w := by
  go_enter Tryz.func18, Tryz.ntmps18
  go_wp2
  go_ret
  exact ⟨rfl, rfl⟩
set_option maxHeartbeats 1000000 in
theorem measureOf_hg (w : World) : Calls Tryz.prog 18 #[.int .i64 2] w fun e w' => e = .returned (.iface 91 (.agg #[])) ∧ w' = w := by
  go_enter Tryz.func18, Tryz.ntmps18
  go_wp2
  go_ret
  exact ⟨rfl, rfl⟩
set_option maxHeartbeats 1000000 in
theorem measureOf_no (L : Int) (h1 : ¬ L = 1) (h2 : ¬ L = 2) (w : World) : Calls Tryz.prog 18 #[.int .i64 L] w fun e w' => e = .returned .nilIface ∧ w' = w := by
  go_enter Tryz.func18, Tryz.ntmps18
  go_wp2
  go_ret
  exact ⟨rfl, rfl⟩
set_option maxHeartbeats 2000000 in
theorem lack_ux (y t : Nat → Int) (i : Nat) (y0 : -9223372036854775808 ≤ y i ∧ y i ≤ 9223372036854775807) (t0 : -9223372036854775808 ≤ t i ∧ t i ≤ 9223372036854775807) (p : Option Addr) (c : Int) (c0 : 0 ≤ c) (c1 : c ≤ 800000000) (w : World) (hp : Up p c w) :
    Calls Tryz.prog 170 #[.agg #[], .pointer p, .int .i64 (y i), .int .i64 (t i)] w fun e w' => e = .returned (.int .i64 (hgX y t i)) ∧ Ux p (c + bi (mpO y t i) + bi (hgO y t i)) w w' := by
  have C1 : Hid (∀ W, Up p c W → Calls Tryz.prog 110 #[.pointer p, .int .i64 (t i), .int .i64 (y i)] W fun e w' => e = .returned (.int .i64 (mpX y t i)) ∧ Ux p (c + bi (mpO y t i)) W w') := fun W h => mul_ux (t i) (y i) t0.1 t0.2 y0.1 y0.2 p c c0 (by omega) W h
  have hm := clv_rng (rr (t i * y i) 32)
  have hb : 0 ≤ bi (mpO y t i) ∧ bi (mpO y t i) ≤ 1 := by unfold bi; split <;> omega
  have C2 : Hid (∀ W, Up p (c + bi (mpO y t i)) W → Calls Tryz.prog 164 #[.pointer p, .int .i64 4294967296, .int .i64 (mpX y t i)] W fun e w' => e = .returned (.int .i64 (hgX y t i)) ∧ Ux p (c + bi (mpO y t i) + bi (hgO y t i)) W w') := fun W h => sub_ux 4294967296 (mpX y t i) (by omega) (by omega) hm.1 hm.2 p _ (by omega) (by omega) W h
  have HUp : Hid (Up p c w) := hp
  obtain ⟨w1, hw1⟩ : ∃ w1, w1 = w.alloc (.cells #[] 91) := ⟨_, rfl⟩
  have HU1 : Hid (Ux p c w w1) := by rw [hw1]; exact hp.ux (bel1 _ _)
  clear hm hp hb
  generalize mpX y t i = mp at *
  generalize hgX y t i = hgv at *
  go_enter Tryz.func170, Tryz.ntmps170
  go_upto_region 1 with fail
  rw [← hw1]
  clear hw1
  go_wp2_with fail
  refine (C1.out _ HU1.out.up).mono ?_
  rintro e w2 ⟨rfl, h2⟩
  have HU2 : Hid (Ux p (c + bi (mpO y t i)) w w2) := HU1.out.chain h2
  clear C1 HU1 h2
  go_wp2_with fail
  refine (C2.out _ HU2.out.up).mono ?_
  rintro e w3 ⟨rfl, h3⟩
  have HU3 : Hid (Ux p (c + bi (mpO y t i) + bi (hgO y t i)) w w3) := HU2.out.chain h3
  clear C2 HU2 h3
  go_wp2
  go_ret
  exact ⟨rfl, HU3.out⟩
set_option maxHeartbeats 2000000 in
theorem sqSlope_ux (vy vt : Value) (n : Nat) (y t : Nat → Int) (hn : n ≤ 65536) (p : Option Addr) (c : Int) (c0 : 0 ≤ c) (c1 : c ≤ 800000000) (w : World) (hY : Ar w vy n y) (hT : Ar w vt n t) (ny : Nv vy p) (nt : Nv vt p) (hp : Up p c w) :
    Calls Tryz.prog 161 #[.agg #[], .pointer p, vy, vt] w fun e w' => ∃ v', e = .returned v' ∧ Ar w' v' n (slX true y t) ∧ Ow w.heap.size v' ∧ Ux p (c + slC true y t n) w w' := by
  obtain ⟨w1, hw1⟩ : ∃ w1, w1 = w.alloc (.cells #[] 90) := ⟨_, rfl⟩
  have hb1 : Below w.heap.size w w1 := by rw [hw1]; exact bel1 _ _
  have CS := vsub_ux vy vt n y t hn p c c0 c1 w1 (hY.later hb1) (hT.later hb1) ny nt (hp.later hb1)
  have HU1 : Hid (Ux p c w w1) := hp.ux hb1
  have hs1 := hb1.size
  have HC : Hid (slC true y t n = cntV (fun i => ovv (y i - t i)) n) := slC_sq y t n
  obtain ⟨ady, cy, b1, o1, rfl, -, -, -, -⟩ := hY
  obtain ⟨adt, ct, b2, o2, rfl, -, -, -, -⟩ := hT
  clear hb1 hp ny nt
  go_enter Tryz.func161, Tryz.ntmps161
  go_upto_region 1 with fail
  rw [← hw1]
  clear hw1
  go_wp2_with fail
  refine CS.mono ?_
  rintro e w2 ⟨⟨v', rfl, hL⟩, h2⟩
  have hA := hL.1 rfl
  have HA : Hid (Ar w2 v' n (slX true y t)) := hA.congr (fun k _ => (slX_sq y t k).symm)
  have HO : Hid (Ow w.heap.size v') := fun a n cap e hn => Nat.le_trans hs1 (hL.2.2 a n cap e hn)
  have HU2 : Hid (Ux p (c + slC true y t n) w w2) := by rw [HC.out]; exact HU1.out.chain h2
  obtain ⟨ad', c', b', o', rfl, -, -, -, -⟩ := hA
  clear CS hL h2 HU1
  go_wp2
  go_ret
  exact ⟨_, rfl, HA.out, HO.out, HU2.out⟩
theorem lo0 : t3 0 = 0 ∧ m3 0 = 0 ∧ lo 0 = 0 := ⟨by unfold t3; omega, by unfold m3; omega, by unfold lo; omega⟩
set_option maxHeartbeats 2000000 in
theorem sqFar_ux (vy vt : Value) (n : Nat) (y t : Nat → Int) (hn : n ≤ 65536) (p : Option Addr) (c : Int) (c0 : 0 ≤ c) (c1 : c ≤ 700000000) (w : World) (hY : Ar w vy n y) (hT : Ar w vt n t) (ny : Nv vy p) (nt : Nv vt p) (hp : Up p c w) (hTab : TabAt w) :
    Calls Tryz.prog 160 #[.agg #[], .pointer p, vy, vt] w fun e w' => e = .returned (.int .i64 (lsX true y t n)) ∧ Ux p (c + lsC true y t n) w w' := by
  obtain ⟨w1, hw1⟩ : ∃ w1, w1 = w.alloc (.cells #[] 90) := ⟨_, rfl⟩
  have hb1 : Below w.heap.size w w1 := by rw [hw1]; exact bel1 _ _
  have CS := sqSlope_ux vy vt n y t hn p c c0 (by omega) w1 (hY.later hb1) (hT.later hb1) ny nt (hp.later hb1)
  have HU1 : Hid (Ux p c w w1) := hp.ux hb1
  have HUp : Hid (Up p c w ∧ TabAt w) := ⟨hp, hTab⟩
  have hs1 := hb1.size
  have hcn := cnt_rng (dsO y t) n
  have eC : slC true y t n = cntV (dsO y t) n := slC_sq y t n
  obtain ⟨ady, cy, b1, o1, rfl, -, -, -, -⟩ := hY
  obtain ⟨adt, ct, b2, o2, rfl, -, -, -, -⟩ := hT
  clear hb1 hp ny nt hTab
  go_enter Tryz.func160, Tryz.ntmps160
  go_upto_region 1 with fail
  rw [← hw1]
  clear hw1
  go_wp2_with fail
  refine CS.mono ?_
  rintro e w2 ⟨v', rfl, hA, hO, h2⟩
  have HU2 : Hid (Ux p (c + slC true y t n) w w2) := HU1.out.chain h2
  have CW := wProd_any 0 v' v' n (slX true y t) (slX true y t) (by omega) w2 hA hA
  have hdb := dot_bnd (slX true y t) (slX true y t) n hA.rng hA.rng
  obtain ⟨D, hD⟩ : ∃ D, dotV (slX true y t) (slX true y t) n = D := ⟨_, rfl⟩
  have HD : Hid (D = dotV (dsX y t) (dsX y t) n) := by
    show _ = _
    rw [← hD]
    exact dot_congr _ _ _ _ n (fun k _ => ⟨slX_sq y t k, slX_sq y t k⟩)
  rw [hD, Int.zero_add] at CW
  rw [hD] at hdb
  rw [lo0.1, lo0.2.1, lo0.2.2] at CW
  have CN : Hid (∀ W, Ux p (c + slC true y t n) w W → Calls Tryz.prog 83 #[.pointer p, .agg #[.int .i64 (t3 D), .int .u64 (m3 D), .int .u64 (lo D)], .int .i64 33] W fun e w' => e = .returned (.int .i64 (clv (rr D 33))) ∧ Ux p (c + slC true y t n + bi (ovv (rr D 33))) W w') := fun W h => near33_ux D (by omega) (by omega) p _ (by omega) (by omega) W (HUp.out.2.ux HUp.out.1 h) h.up
  obtain ⟨ad', c', b', o', rfl, -, -, -, -⟩ := id hA
  clear CS h2 HU1 hA hO hD hdb
  generalize t3 D = d1 at *
  generalize m3 D = d2 at *
  generalize lo D = d3 at *
  go_wp2_with fail
  refine CW.mono ?_
  rintro e w3 ⟨rfl, h3⟩
  have HU3 : Hid (Ux p (c + slC true y t n) w w3) := HU2.out.later h3
  clear CW h3 HU2
  go_wp2_with fail
  refine (CN.out _ HU3.out).mono ?_
  rintro e w4 ⟨rfl, h4⟩
  have HU4 : Hid (Ux p (c + slC true y t n + bi (ovv (rr D 33))) w w4) := HU3.out.chain h4
  clear h4 HU3 CN
  go_wp2
  go_ret
  have eX : clv (rr D 33) = lsX true y t n := by rw [HD.out]; unfold lsX; rw [lsS_sq]
  have eO : c + slC true y t n + bi (ovv (rr D 33)) = c + lsC true y t n := by rw [HD.out, eC]; unfold lsC; rw [lsS_sq, lsP_sq, Int.add_assoc]
  exact ⟨by show Ending.returned (Value.int .i64 (clv (rr D 33))) = _; rw [eX], by rw [← eO]; exact HU4.out⟩
set_option maxRecDepth 100000 in
set_option maxHeartbeats 8000000 in
theorem hgFar_ux (vy vt : Value) (n : Nat) (y t : Nat → Int) (hn : n ≤ 65536) (p : Option Addr) (c : Int) (c0 : 0 ≤ c) (c1 : c ≤ 700000000) (w : World) (hY : Ar w vy n y) (hT : Ar w vt n t) (ny : Nv vy p) (nt : Nv vt p) (hp : Up p c w) (hTab : TabAt w) :
    Calls Tryz.prog 168 #[.agg #[], .pointer p, vy, vt] w fun e w' => e = .returned (.int .i64 (lsX false y t n)) ∧ Ux p (c + lsC false y t n) w w' := by
  have HYr : Hid (∀ k, k < n → -9223372036854775808 ≤ y k ∧ y k ≤ 9223372036854775807) := hY.rng
  have HTr : Hid (∀ k, k < n → -9223372036854775808 ≤ t k ∧ t k ≤ 9223372036854775807) := hT.rng
  have HUp : Hid (Up p c w ∧ TabAt w) := ⟨hp, hTab⟩
  obtain ⟨ady, cy, b1, o1, rfl, y2, y3, y4, y5⟩ := id hY
  obtain ⟨adt, ct, b2, o2, rfl, t2, t3', t4, t5⟩ := id hT
  have HY5 : Hid (∀ k, k < n → ady = some ⟨b1, o1, none⟩ ∧ Nu b1 p ∧ w.cell? ⟨b1, o1 + k, none⟩ = some (.int .i64 (y k))) := fun k hk => by
    have e := y4 (by omega)
    subst e
    exact ⟨rfl, ny.nu (by omega), (y5 k hk).1⟩
  have HT5 : Hid (∀ k, k < n → adt = some ⟨b2, o2, none⟩ ∧ Nu b2 p ∧ w.cell? ⟨b2, o2 + k, none⟩ = some (.int .i64 (t k))) := fun k hk => by
    have e := t4 (by omega)
    subst e
    exact ⟨rfl, nt.nu (by omega), (t5 k hk).1⟩
  have HCk : Hid (∀ k, 0 ≤ cntV (mpO y t) k + cntV (hgO y t) k ∧ cntV (mpO y t) k + cntV (hgO y t) k ≤ 2 * (k : Int)) := fun k => by
    have h1 := cnt_rng (mpO y t) k
    have h2 := cnt_rng (hgO y t) k
    omega
  obtain ⟨w1, hw1⟩ : ∃ w1, w1 = w.alloc (.cells #[] 91) := ⟨_, rfl⟩
  have hs1 : w1.heap.size = w.heap.size + 1 := by rw [hw1, World.size_alloc]
  obtain ⟨w2, hw2⟩ : ∃ w2, w2 = w1.alloc (.cells (madeCells #[.int .i64 0] n) 36) := ⟨_, rfl⟩
  have HU2 : Hid (Ux p c w w2) := by rw [hw2, hw1]; exact hp.ux (bel2 _ _ _)
  have HR2 : Hid (Rw w1.heap.size n (fun _ => .int .i64 0) w2) := by rw [hw2]; exact Rw.made w1 (.int .i64 0) n 36
  have HNs : Hid (Nu (w.heap.size + 1) p) := hp.lt (by omega)
  have hmk := make_fx n (by omega)
  clear y4 y5 t4 t5 hY hT ny nt hp hTab
  go_enter Tryz.func168, Tryz.ntmps168
  go_upto_region 3 with fail
  rw [← hw1, ← hw2]
  rw [hs1] at HR2
  clear hw1 hw2 hmk hs1
  go_loopw [18] (fun si wr => ∃ j : Nat, j ≤ n ∧ si = .int .i64 (j : Int) ∧ Hid (Rw (w.heap.size + 1) n (fun k => if k < j then .int .i64 (posV (hgX y t) k) else .int .i64 0) wr) ∧ Hid (Ux p (c + (cntV (mpO y t) j + cntV (hgO y t) j)) w wr)) (fun si _ => n - (intOf si).toNat)
  case atStart => exact ⟨0, by omega, rfl, HR2.out.congr (fun k hk => by simp), by show Ux p (c + (0 + 0)) w w2; rw [Int.add_zero, Int.add_zero]; exact HU2.out⟩
  case round =>
    obtain ⟨j, hj, rfl, HR, HU⟩ := hrel
    by_cases hlt : j < n
    · have hjI : (j : Int) < (n : Int) := by omega
      obtain ⟨rfl, hnY, cY⟩ := HY5.out j hlt
      obtain ⟨rfl, hnT, cT⟩ := HT5.out j hlt
      have cY2 : wr.drew.cell? ⟨b1, o1 + j, none⟩ = some (.int .i64 (y j)) := HU.out.drew.cell hnY cY
      have cT2 : wr.drew.cell? ⟨b2, o2 + j, none⟩ = some (.int .i64 (t j)) := HU.out.drew.cell hnT cT
      have hltY : b1 < w.heap.size := World.block_lt_of_cell? _ _ cY
      have hltT : b2 < w.heap.size := World.block_lt_of_cell? _ _ cT
      have hcn := HCk.out j
      obtain ⟨cj, hcj⟩ : ∃ cj, c + (cntV (mpO y t) j + cntV (hgO y t) j) = cj := ⟨_, rfl⟩
      have HUd : Hid (Ux p cj w wr.drew) := by rw [← hcj]; exact HU.out.drew
      have HRd : Hid (Rw (w.heap.size + 1) n (fun k => if k < j then .int .i64 (posV (hgX y t) k) else .int .i64 0) wr.drew) := HR.out.later (Below.refl _ _).drew
      have Hcj : Hid (cj + bi (mpO y t j) + bi (hgO y t j) = c + (cntV (mpO y t) (j + 1) + cntV (hgO y t) (j + 1))) := by
        show _ = c + (cntV (mpO y t) j + bi (mpO y t j) + (cntV (hgO y t) j + bi (hgO y t j)))
        omega
      have CL : Hid (∀ W, Ux p cj w W → Calls Tryz.prog 170 #[.agg #[], .pointer p, .int .i64 (y j), .int .i64 (t j)] W fun e w' => e = .returned (.int .i64 (hgX y t j)) ∧ Ux p (cj + bi (mpO y t j) + bi (hgO y t j)) W w') := fun W h => lack_ux y t j (HYr.out j hlt) (HTr.out j hlt) p cj (by omega) (by omega) W h.up
      have hpv : posV (hgX y t) j = if 0 < hgX y t j then hgX y t j else 0 := rfl
      obtain ⟨RX, hRX⟩ : ∃ r, posV (hgX y t) j = r := ⟨_, rfl⟩
      have HRX : Hid (posV (hgX y t) j = RX) := hRX
      rw [hRX] at hpv
      generalize hgX y t j = LK at *
      clear hRX hcn hcj HU HR cY cT
      go_upto_region 5 with fail
      refine wp_region_held_drew (S := fun W' => W'.cell? ⟨b1, o1 + j, none⟩ = some (.int .i64 (y j)) ∧ W'.cell? ⟨b2, o2 + j, none⟩ = some (.int .i64 (t j))) (by kernel_rfl) ⟨cY2, cT2⟩ (fun HS => ?_)
      generalize wr.drew = wd at *
      clear cY2 cT2
      refine wpAnyH_take (i := 0) (v := ?v1) rfl (by kernel_rfl) (by kernel_rfl) (by kernel_rfl) (fun _ _ _ h => h) (Or.inl ⟨by kernel_rfl, ?h1⟩) HS ?r1
      case h1 => (rintro w ⟨e0, e1⟩; go_simp) <;> with_reducible rfl
      try simp only [Act.put, List.getElem_toArray, List.getElem_cons_succ, List.getElem_cons_zero, List.setIfInBounds_toArray, List.set_cons_zero, List.set_cons_succ]
      refine wpAnyH_take (i := 1) (v := ?v2) rfl (by kernel_rfl) (by kernel_rfl) (by kernel_rfl) (fun _ _ _ h => h) (Or.inl ⟨by kernel_rfl, ?h2⟩) HS ?r2
      case h2 => (rintro w ⟨e0, e1⟩; go_simp) <;> with_reducible rfl
      try simp only [Act.put, List.getElem_toArray, List.getElem_cons_succ, List.getElem_cons_zero, List.setIfInBounds_toArray, List.set_cons_zero, List.set_cons_succ]
      refine wpAnyH_take (i := 2) (v := ?v3) rfl (by kernel_rfl) (by kernel_rfl) (by kernel_rfl) (fun _ _ _ h => h) (Or.inl ⟨by kernel_rfl, ?h3⟩) HS ?r3
      case h3 => (rintro w ⟨e0, e1⟩; go_simp) <;> with_reducible rfl
      try simp only [Act.put, List.getElem_toArray, List.getElem_cons_succ, List.getElem_cons_zero, List.setIfInBounds_toArray, List.set_cons_zero, List.set_cons_succ]
      refine wpAnyH_take (i := 3) (v := ?v4) rfl (by kernel_rfl) (by kernel_rfl) (by kernel_rfl) (fun _ _ _ h => h) (Or.inl ⟨by kernel_rfl, ?h4⟩) HS ?r4
      case h4 => (rintro w ⟨e0, e1⟩; go_simp) <;> with_reducible rfl
      try simp only [Act.put, List.getElem_toArray, List.getElem_cons_succ, List.getElem_cons_zero, List.setIfInBounds_toArray, List.set_cons_zero, List.set_cons_succ]
      refine wpAnyH_take (i := 4) (v := ?v5) rfl (by kernel_rfl) (by kernel_rfl) (by kernel_rfl) (fun _ _ _ h => h) (Or.inl ⟨by kernel_rfl, ?h5⟩) HS ?r5
      case h5 => (rintro w ⟨e0, e1⟩; go_simp) <;> with_reducible rfl
      try simp only [Act.put, List.getElem_toArray, List.getElem_cons_succ, List.getElem_cons_zero, List.setIfInBounds_toArray, List.set_cons_zero, List.set_cons_succ]
      refine wpAnyH_take (i := 5) (v := ?v6) rfl (by kernel_rfl) (by kernel_rfl) (by kernel_rfl) (fun _ _ _ h => h) (Or.inl ⟨by kernel_rfl, ?h6⟩) HS ?r6
      case h6 => (rintro w ⟨e0, e1⟩; go_simp) <;> with_reducible rfl
      try simp only [Act.put, List.getElem_toArray, List.getElem_cons_succ, List.getElem_cons_zero, List.setIfInBounds_toArray, List.set_cons_zero, List.set_cons_succ]
      refine wpAnyH_take (i := 6) (v := ?v7) rfl (by kernel_rfl) (by kernel_rfl) (by kernel_rfl) (fun _ _ _ h => h) (Or.inl ⟨by kernel_rfl, ?h7⟩) HS ?r7
      case h7 => (rintro w ⟨e0, e1⟩; go_simp) <;> with_reducible rfl
      try simp only [Act.put, List.getElem_toArray, List.getElem_cons_succ, List.getElem_cons_zero, List.setIfInBounds_toArray, List.set_cons_zero, List.set_cons_succ]
      refine wpAnyH_take (i := 7) (v := ?v8) rfl (by kernel_rfl) (by kernel_rfl) (by kernel_rfl) (fun _ _ _ h => h) (Or.inl ⟨by kernel_rfl, ?h8⟩) HS ?r8
      case h8 => (rintro w ⟨e0, e1⟩; go_simp) <;> with_reducible rfl
      try simp only [Act.put, List.getElem_toArray, List.getElem_cons_succ, List.getElem_cons_zero, List.setIfInBounds_toArray, List.set_cons_zero, List.set_cons_succ]
      refine wpAnyH_take (i := 8) (v := ?v9) rfl (by kernel_rfl) (by kernel_rfl) (by kernel_rfl) (fun _ _ _ h => h) (Or.inl ⟨by kernel_rfl, ?h9⟩) HS ?r9
      case h9 => (rintro w ⟨e0, e1⟩; go_simp) <;> with_reducible rfl
      try simp only [Act.put, List.getElem_toArray, List.getElem_cons_succ, List.getElem_cons_zero, List.setIfInBounds_toArray, List.set_cons_zero, List.set_cons_succ]
      refine wpAnyH_take (i := 9) (v := ?v10) rfl (by kernel_rfl) (by kernel_rfl) (by kernel_rfl) (fun _ _ _ h => h) (Or.inl ⟨by kernel_rfl, ?h10⟩) HS ?r10
      case h10 => (rintro w ⟨e0, e1⟩; go_simp) <;> with_reducible rfl
      try simp only [Act.put, List.getElem_toArray, List.getElem_cons_succ, List.getElem_cons_zero, List.setIfInBounds_toArray, List.set_cons_zero, List.set_cons_succ]
      refine wpAnyH_take (i := 10) (v := ?v11) rfl (by kernel_rfl) (by kernel_rfl) (by kernel_rfl) (fun _ _ _ h => h) (Or.inl ⟨by kernel_rfl, ?h11⟩) HS ?r11
      case h11 => (rintro w ⟨e0, e1⟩; go_simp) <;> with_reducible rfl
      try simp only [Act.put, List.getElem_toArray, List.getElem_cons_succ, List.getElem_cons_zero, List.setIfInBounds_toArray, List.set_cons_zero, List.set_cons_succ]
      refine wpAnyH_take (i := 11) (v := ?v12) rfl (by kernel_rfl) (by kernel_rfl) (by kernel_rfl) (fun _ _ _ h => h) (Or.inl ⟨by kernel_rfl, ?h12⟩) HS ?r12
      case h12 => (rintro w ⟨e0, e1⟩; go_simp) <;> with_reducible rfl
      try simp only [Act.put, List.getElem_toArray, List.getElem_cons_succ, List.getElem_cons_zero, List.setIfInBounds_toArray, List.set_cons_zero, List.set_cons_succ]
      refine wpAnyH_ready (rs := [12]) (by kernel_rfl) (by simp) ?_
      refine AllReadyH.cons rfl (fun K hK => ?_) AllReadyH.nil
      go_simp
      refine (CL.out _ HUd.out).mono ?_
      rintro e w7 ⟨rfl, h7⟩
      refine hK.out _ _ ⟨h7.cell hnY HS.1, h7.cell hnT HS.2⟩ (fun HS => ?_)
      clear hK K
      have HR7 : Hid (Rw (w.heap.size + 1) n (fun k => if k < j then .int .i64 (posV (hgX y t) k) else .int .i64 0) w7) := HRd.out.ux HNs.out h7
      have HU7 : Hid (Ux p (c + (cntV (mpO y t) (j + 1) + cntV (hgO y t) (j + 1))) w w7) := by rw [← Hcj.out]; exact HUd.out.chain h7
      have cz : w7.cell? ⟨w.heap.size + 1, j, none⟩ = some (.int .i64 0) := by have := HR7.out.c j hlt; rw [if_neg (by omega)] at this; exact this
      have fz := HR7.out.f j hlt
      have hmax : max LK 0 = RX := by rw [hpv]; split <;> omega
      clear h7 HUd HRd CL Hcj
      refine wpAnyH_take (i := 13) (v := ?v13) rfl (by kernel_rfl) (by kernel_rfl) (by kernel_rfl) (fun _ _ _ h => h) (Or.inl ⟨by kernel_rfl, ?h13⟩) HS ?r13
      case h13 => (rintro w ⟨e0, e1⟩; go_simp) <;> with_reducible rfl
      try simp only [Act.put, List.getElem_toArray, List.getElem_cons_succ, List.getElem_cons_zero, List.setIfInBounds_toArray, List.set_cons_zero, List.set_cons_succ]
      refine wpAnyH_take (i := 14) (v := ?v14) rfl (by kernel_rfl) (by kernel_rfl) (by kernel_rfl) (fun _ _ _ h => h) (Or.inl ⟨by kernel_rfl, ?h14⟩) HS ?r14
      case h14 => (rintro w ⟨e0, e1⟩; go_simp) <;> with_reducible rfl
      try simp only [Act.put, List.getElem_toArray, List.getElem_cons_succ, List.getElem_cons_zero, List.setIfInBounds_toArray, List.set_cons_zero, List.set_cons_succ]
      refine wpAnyH_ready (rs := [15]) (by kernel_rfl) (by simp) ?_
      refine AllReadyH.cons rfl (fun K hK => ?_) AllReadyH.nil
      go_simp
      refine hK.out _ _ ⟨cell_set (by dsimp only; omega) HS.1, cell_set (by dsimp only; omega) HS.2⟩ (fun HS => ?_)
      clear hK K HS
      refine wpAnyH_done (by kernel_rfl) ?_ _
      rw [← hpv]
      have HR10 : Hid (Rw (w.heap.size + 1) n (fun k => if k < j + 1 then .int .i64 (posV (hgX y t) k) else .int .i64 0) (w7.setCell ⟨w.heap.size + 1, j, none⟩ (.int .i64 RX))) := (HR7.out.set j (.int .i64 RX)).congr (fun k hk => by
        by_cases e : k = j
        · subst e; simp [HRX.out]
        · rw [if_neg e]
          by_cases e2 : k < j
          · rw [if_pos e2, if_pos (by omega)]
          · rw [if_neg e2, if_neg (by omega)])
      have HU10 : Hid (Ux p (c + (cntV (mpO y t) (j + 1) + cntV (hgO y t) (j + 1))) w (w7.setCell ⟨w.heap.size + 1, j, none⟩ (.int .i64 RX))) := HU7.out.far _ (by dsimp only; omega)
      clear HR7 HU7 cz fz
      generalize w7.setCell ⟨w.heap.size + 1, j, none⟩ (.int .i64 RX) = wf at *
      go_wp2
      go_roundw
      case rel => exact ⟨j + 1, by omega, by go_num, HR10, HU10⟩
      case measure => simp [intOf]; omega
    · obtain rfl : j = n := by omega
      have hjI : ¬ (j : Int) < (j : Int) := by omega
      have hAr : Ar wr (.slice (some ⟨w.heap.size + 1, 0, none⟩) j j) j (posV (hgX y t)) := (HR.out.congr (fun k hk => by rw [if_pos hk])).ar (by omega) (fun k _ => by have := clv_rng (4294967296 - mpX y t k); unfold posV hgX; split <;> omega)
      have hcn := HCk.out j
      have CS := sum_ux (.slice (some ⟨w.heap.size + 1, 0, none⟩) j j) j (posV (hgX y t)) hn p (c + (cntV (mpO y t) j + cntV (hgO y t) j)) (by omega) (by omega) wr (HUp.out.2.ux HUp.out.1 HU.out) hAr (HNs.out.nv _ _ _) HU.out.up
      clear HR hAr hcn
      go_wp2_with fail
      refine CS.mono ?_
      rintro e w4 ⟨rfl, h4⟩
      have HU4 : Hid (Ux p (c + lsC false y t j) w w4) := by
        have e : c + lsC false y t j = c + (cntV (mpO y t) j + cntV (hgO y t) j) + bi (ovv (sumV (posV (hgX y t)) j)) := by unfold lsC; rw [lsS_hg, lsP_hg, Int.add_assoc c]
        rw [e]
        exact HU.out.chain h4
      clear CS h4 HU
      go_wp2
      go_ret
      exact ⟨by show Ending.returned (Value.int .i64 (clv (sumV (posV (hgX y t)) j))) = _; unfold lsX; rw [lsS_hg], HU4.out⟩
set_option maxRecDepth 100000 in
set_option maxHeartbeats 8000000 in
theorem hgSlope_ux (vy vt : Value) (n : Nat) (y t : Nat → Int) (hn : n ≤ 65536) (p : Option Addr) (c : Int) (c0 : 0 ≤ c) (c1 : c ≤ 700000000) (w : World) (hY : Ar w vy n y) (hT : Ar w vt n t) (ny : Nv vy p) (nt : Nv vt p) (hp : Up p c w) :
    Calls Tryz.prog 169 #[.agg #[], .pointer p, vy, vt] w fun e w' => ∃ v', e = .returned v' ∧ Ar w' v' n (slX false y t) ∧ Ow w.heap.size v' ∧ Ux p (c + slC false y t n) w w' := by
  have HYr : Hid (∀ k, k < n → -9223372036854775808 ≤ y k ∧ y k ≤ 9223372036854775807) := hY.rng
  have HTr : Hid (∀ k, k < n → -9223372036854775808 ≤ t k ∧ t k ≤ 9223372036854775807) := hT.rng
  have HUp : Hid (Up p c w) := hp
  obtain ⟨ady, cy, b1, o1, rfl, y2, y3, y4, y5⟩ := id hY
  obtain ⟨adt, ct, b2, o2, rfl, t2, t3', t4, t5⟩ := id hT
  have HY5 : Hid (∀ k, k < n → ady = some ⟨b1, o1, none⟩ ∧ Nu b1 p ∧ w.cell? ⟨b1, o1 + k, none⟩ = some (.int .i64 (y k))) := fun k hk => by
    have e := y4 (by omega)
    subst e
    exact ⟨rfl, ny.nu (by omega), (y5 k hk).1⟩
  have HT5 : Hid (∀ k, k < n → adt = some ⟨b2, o2, none⟩ ∧ Nu b2 p ∧ w.cell? ⟨b2, o2 + k, none⟩ = some (.int .i64 (t k))) := fun k hk => by
    have e := t4 (by omega)
    subst e
    exact ⟨rfl, nt.nu (by omega), (t5 k hk).1⟩
  obtain ⟨CT, hCT⟩ : ∃ CT : Nat → Int, CT = fun k => cntV (mpO y t) k + cntV (hgO y t) k + cntV (slO y t) k := ⟨_, rfl⟩
  have HCk : Hid (∀ k, 0 ≤ CT k ∧ CT k ≤ 3 * (k : Int)) := fun k => by
    have h1 := cnt_rng (mpO y t) k
    have h2 := cnt_rng (hgO y t) k
    have h3 := cnt_rng (slO y t) k
    rw [hCT]
    show 0 ≤ cntV (mpO y t) k + cntV (hgO y t) k + cntV (slO y t) k ∧ cntV (mpO y t) k + cntV (hgO y t) k + cntV (slO y t) k ≤ _
    omega
  have HCs : Hid (∀ k, CT (k + 1) = CT k + bi (mpO y t k) + bi (hgO y t k) + bi (slO y t k)) := fun k => by
    rw [hCT]
    show cntV (mpO y t) k + bi (mpO y t k) + (cntV (hgO y t) k + bi (hgO y t k)) + (cntV (slO y t) k + bi (slO y t k)) = _
    dsimp only
    omega
  have HC0 : Hid (CT 0 = 0) := by show _ = _; rw [hCT]; rfl
  have HCn : Hid (slC false y t n = CT n) := by show _ = _; rw [hCT, slC_hg]
  clear hCT
  obtain ⟨w1, hw1⟩ : ∃ w1, w1 = w.alloc (.cells #[] 91) := ⟨_, rfl⟩
  have hs1 : w1.heap.size = w.heap.size + 1 := by rw [hw1, World.size_alloc]
  obtain ⟨w2, hw2⟩ : ∃ w2, w2 = w1.alloc (.cells (madeCells #[.int .i64 0] n) 36) := ⟨_, rfl⟩
  have HU2 : Hid (Ux p c w w2) := by rw [hw2, hw1]; exact hp.ux (bel2 _ _ _)
  have HR2 : Hid (Rw w1.heap.size n (fun _ => .int .i64 0) w2) := by rw [hw2]; exact Rw.made w1 (.int .i64 0) n 36
  have HNs : Hid (Nu (w.heap.size + 1) p) := hp.lt (by omega)
  have hmk := make_fx n (by omega)
  clear y4 y5 t4 t5 hY hT ny nt hp
  go_enter Tryz.func169, Tryz.ntmps169
  go_upto_region 3 with fail
  rw [← hw1, ← hw2]
  rw [hs1] at HR2
  clear hw1 hw2 hmk hs1
  go_loopw [16] (fun si wr => ∃ j : Nat, j ≤ n ∧ si = .int .i64 (j : Int) ∧ Hid (Rw (w.heap.size + 1) n (fun k => if k < j then .int .i64 (slX false y t k) else .int .i64 0) wr) ∧ Hid (Ux p (c + CT j) w wr)) (fun si _ => n - (intOf si).toNat)
  case atStart => exact ⟨0, by omega, rfl, HR2.out.congr (fun k hk => by simp), by rw [HC0.out, Int.add_zero]; exact HU2.out⟩
  case round =>
    obtain ⟨j, hj, rfl, HR, HU⟩ := hrel
    by_cases hlt : j < n
    · have hjI : (j : Int) < (n : Int) := by omega
      obtain ⟨rfl, hnY, cY⟩ := HY5.out j hlt
      obtain ⟨rfl, hnT, cT⟩ := HT5.out j hlt
      have cY2 : wr.drew.cell? ⟨b1, o1 + j, none⟩ = some (.int .i64 (y j)) := HU.out.drew.cell hnY cY
      have cT2 : wr.drew.cell? ⟨b2, o2 + j, none⟩ = some (.int .i64 (t j)) := HU.out.drew.cell hnT cT
      have hcn := HCk.out j
      have HcS := HCs.out j
      obtain ⟨cj, hcj⟩ : ∃ cj, c + CT j = cj := ⟨_, rfl⟩
      have cj0 : 0 ≤ cj ∧ cj ≤ 750000000 := by omega
      have HUd : Hid (Ux p cj w wr.drew) := by rw [← hcj]; exact HU.out.drew
      have HRd : Hid (Rw (w.heap.size + 1) n (fun k => if k < j then .int .i64 (slX false y t k) else .int .i64 0) wr.drew) := HR.out.later (Below.refl _ _).drew
      obtain ⟨ck, hck⟩ : ∃ ck, cj + bi (mpO y t j) + bi (hgO y t j) = ck := ⟨_, rfl⟩
      have hb1 := bi_rng (mpO y t j)
      have hb2 := bi_rng (hgO y t j)
      have ck0 : 0 ≤ ck ∧ ck ≤ 800000000 := by omega
      have Hck : Hid (c + CT (j + 1) = ck + bi (slO y t j)) := by show _ = _; omega
      have CL : Hid (∀ W, Ux p cj w W → Calls Tryz.prog 170 #[.agg #[], .pointer p, .int .i64 (y j), .int .i64 (t j)] W fun e w' => e = .returned (.int .i64 (hgX y t j)) ∧ Ux p ck W w') := fun W h => by rw [← hck]; exact lack_ux y t j (HYr.out j hlt) (HTr.out j hlt) p cj cj0.1 (by omega) W h.up
      have hsx := slX_hg y t j
      have hso := slO_hg y t j
      obtain ⟨RX, hRX⟩ : ∃ r, slX false y t j = r := ⟨_, rfl⟩
      have HRX : Hid (slX false y t j = RX) := hRX
      rw [hRX] at hsx
      generalize hgX y t j = LK at *
      clear hRX hcn hcj HU HR hck hb1 hb2 HcS cY cT
      go_upto_region 5 with fail
      refine wp_region_held_drew (S := fun W' => W'.cell? ⟨b1, o1 + j, none⟩ = some (.int .i64 (y j)) ∧ W'.cell? ⟨b2, o2 + j, none⟩ = some (.int .i64 (t j))) (by kernel_rfl) ⟨cY2, cT2⟩ (fun HS => ?_)
      generalize wr.drew = wd at *
      clear cY2 cT2
      refine wpAnyH_take (i := 0) (v := ?v15) rfl (by kernel_rfl) (by kernel_rfl) (by kernel_rfl) (fun _ _ _ h => h) (Or.inl ⟨by kernel_rfl, ?h15⟩) HS ?r15
      case h15 => (rintro w ⟨e0, e1⟩; go_simp) <;> with_reducible rfl
      try simp only [Act.put, List.getElem_toArray, List.getElem_cons_succ, List.getElem_cons_zero, List.setIfInBounds_toArray, List.set_cons_zero, List.set_cons_succ]
      refine wpAnyH_take (i := 1) (v := ?v16) rfl (by kernel_rfl) (by kernel_rfl) (by kernel_rfl) (fun _ _ _ h => h) (Or.inl ⟨by kernel_rfl, ?h16⟩) HS ?r16
      case h16 => (rintro w ⟨e0, e1⟩; go_simp) <;> with_reducible rfl
      try simp only [Act.put, List.getElem_toArray, List.getElem_cons_succ, List.getElem_cons_zero, List.setIfInBounds_toArray, List.set_cons_zero, List.set_cons_succ]
      refine wpAnyH_take (i := 2) (v := ?v17) rfl (by kernel_rfl) (by kernel_rfl) (by kernel_rfl) (fun _ _ _ h => h) (Or.inl ⟨by kernel_rfl, ?h17⟩) HS ?r17
      case h17 => (rintro w ⟨e0, e1⟩; go_simp) <;> with_reducible rfl
      try simp only [Act.put, List.getElem_toArray, List.getElem_cons_succ, List.getElem_cons_zero, List.setIfInBounds_toArray, List.set_cons_zero, List.set_cons_succ]
      refine wpAnyH_take (i := 3) (v := ?v18) rfl (by kernel_rfl) (by kernel_rfl) (by kernel_rfl) (fun _ _ _ h => h) (Or.inl ⟨by kernel_rfl, ?h18⟩) HS ?r18
      case h18 => (rintro w ⟨e0, e1⟩; go_simp) <;> with_reducible rfl
      try simp only [Act.put, List.getElem_toArray, List.getElem_cons_succ, List.getElem_cons_zero, List.setIfInBounds_toArray, List.set_cons_zero, List.set_cons_succ]
      refine wpAnyH_take (i := 4) (v := ?v19) rfl (by kernel_rfl) (by kernel_rfl) (by kernel_rfl) (fun _ _ _ h => h) (Or.inl ⟨by kernel_rfl, ?h19⟩) HS ?r19
      case h19 => (rintro w ⟨e0, e1⟩; go_simp) <;> with_reducible rfl
      try simp only [Act.put, List.getElem_toArray, List.getElem_cons_succ, List.getElem_cons_zero, List.setIfInBounds_toArray, List.set_cons_zero, List.set_cons_succ]
      refine wpAnyH_take (i := 5) (v := ?v20) rfl (by kernel_rfl) (by kernel_rfl) (by kernel_rfl) (fun _ _ _ h => h) (Or.inl ⟨by kernel_rfl, ?h20⟩) HS ?r20
      case h20 => (rintro w ⟨e0, e1⟩; go_simp) <;> with_reducible rfl
      try simp only [Act.put, List.getElem_toArray, List.getElem_cons_succ, List.getElem_cons_zero, List.setIfInBounds_toArray, List.set_cons_zero, List.set_cons_succ]
      refine wpAnyH_take (i := 6) (v := ?v21) rfl (by kernel_rfl) (by kernel_rfl) (by kernel_rfl) (fun _ _ _ h => h) (Or.inl ⟨by kernel_rfl, ?h21⟩) HS ?r21
      case h21 => (rintro w ⟨e0, e1⟩; go_simp) <;> with_reducible rfl
      try simp only [Act.put, List.getElem_toArray, List.getElem_cons_succ, List.getElem_cons_zero, List.setIfInBounds_toArray, List.set_cons_zero, List.set_cons_succ]
      refine wpAnyH_take (i := 7) (v := ?v22) rfl (by kernel_rfl) (by kernel_rfl) (by kernel_rfl) (fun _ _ _ h => h) (Or.inl ⟨by kernel_rfl, ?h22⟩) HS ?r22
      case h22 => (rintro w ⟨e0, e1⟩; go_simp) <;> with_reducible rfl
      try simp only [Act.put, List.getElem_toArray, List.getElem_cons_succ, List.getElem_cons_zero, List.setIfInBounds_toArray, List.set_cons_zero, List.set_cons_succ]
      refine wpAnyH_take (i := 8) (v := ?v23) rfl (by kernel_rfl) (by kernel_rfl) (by kernel_rfl) (fun _ _ _ h => h) (Or.inl ⟨by kernel_rfl, ?h23⟩) HS ?r23
      case h23 => (rintro w ⟨e0, e1⟩; go_simp) <;> with_reducible rfl
      try simp only [Act.put, List.getElem_toArray, List.getElem_cons_succ, List.getElem_cons_zero, List.setIfInBounds_toArray, List.set_cons_zero, List.set_cons_succ]
      refine wpAnyH_take (i := 9) (v := ?v24) rfl (by kernel_rfl) (by kernel_rfl) (by kernel_rfl) (fun _ _ _ h => h) (Or.inl ⟨by kernel_rfl, ?h24⟩) HS ?r24
      case h24 => (rintro w ⟨e0, e1⟩; go_simp) <;> with_reducible rfl
      try simp only [Act.put, List.getElem_toArray, List.getElem_cons_succ, List.getElem_cons_zero, List.setIfInBounds_toArray, List.set_cons_zero, List.set_cons_succ]
      refine wpAnyH_ready (rs := [10]) (by kernel_rfl) (by simp) ?_
      refine AllReadyH.cons rfl (fun K hK => ?_) AllReadyH.nil
      go_simp
      refine (CL.out _ HUd.out).mono ?_
      rintro e w7 ⟨rfl, h7⟩
      refine hK.out _ _ ⟨h7.cell hnY HS.1, h7.cell hnT HS.2⟩ (fun HS => ?_)
      clear hK K
      have HR7 : Hid (Rw (w.heap.size + 1) n (fun k => if k < j then .int .i64 (slX false y t k) else .int .i64 0) w7) := HRd.out.ux HNs.out h7
      have HU7 : Hid (Ux p ck w w7) := HUd.out.chain h7
      have cz : w7.cell? ⟨w.heap.size + 1, j, none⟩ = some (.int .i64 0) := by have := HR7.out.c j hlt; rw [if_neg (by omega)] at this; exact this
      have fz := HR7.out.f j hlt
      clear h7 HUd HRd CL
      refine wpAnyH_take (i := 11) (v := ?v25) rfl (by kernel_rfl) (by kernel_rfl) (by kernel_rfl) (fun _ _ _ h => h) (Or.inl ⟨by kernel_rfl, ?h25⟩) HS ?r25
      case h25 => (rintro w ⟨e0, e1⟩; go_simp) <;> with_reducible rfl
      try simp only [Act.put, List.getElem_toArray, List.getElem_cons_succ, List.getElem_cons_zero, List.setIfInBounds_toArray, List.set_cons_zero, List.set_cons_succ]
      refine wpAnyH_done (by kernel_rfl) ?_ _
      have cT7 := HS.2
      clear HS cz fz
      by_cases hpos : 0 < LK
      · rw [if_pos hpos] at hsx hso
        have C1 := fneg_any (t j) (HTr.out j hlt).1 (HTr.out j hlt).2 w7
        have en : -(t j) = 0 - t j := by omega
        rw [en, ← hsx, ← hso] at C1
        clear hsx hso en
        generalize slO y t j = sO at *
        go_wp2_with fail
        refine C1.mono ?_
        rintro e w8 ⟨rfl, h8⟩
        have HU8 : Hid (Ux p ck w w8) := HU7.out.later h8
        have HR8 : Hid (Rw (w.heap.size + 1) n (fun k => if k < j then .int .i64 (slX false y t k) else .int .i64 0) w8) := HR7.out.later h8
        have C2 := take_ux RX sO p ck ck0.1 (by omega) w8 HU8.out.up
        clear C1 h8 HU7 HR7 cT7
        go_wp2_with fail
        refine C2.mono ?_
        rintro e w9 ⟨rfl, h9⟩
        have HU9 : Hid (Ux p (c + CT (j + 1)) w w9) := by rw [Hck.out]; exact HU8.out.chain h9
        have HR9 : Hid (Rw (w.heap.size + 1) n (fun k => if k < j then .int .i64 (slX false y t k) else .int .i64 0) w9) := HR8.out.ux HNs.out h9
        have cz : w9.cell? ⟨w.heap.size + 1, j, none⟩ = some (.int .i64 0) := by have := HR9.out.c j hlt; rw [if_neg (by omega)] at this; exact this
        have fz := HR9.out.f j hlt
        have HR10 : Hid (Rw (w.heap.size + 1) n (fun k => if k < j + 1 then .int .i64 (slX false y t k) else .int .i64 0) (w9.setCell ⟨w.heap.size + 1, j, none⟩ (.int .i64 RX))) := (HR9.out.set j (.int .i64 RX)).congr (fun k hk => by
          by_cases e : k = j
          · subst e; simp [HRX.out]
          · rw [if_neg e]
            by_cases e2 : k < j
            · rw [if_pos e2, if_pos (by omega)]
            · rw [if_neg e2, if_neg (by omega)])
        have HU10 : Hid (Ux p (c + CT (j + 1)) w (w9.setCell ⟨w.heap.size + 1, j, none⟩ (.int .i64 RX))) := HU9.out.far _ (by dsimp only; omega)
        clear C2 h9 HU8 HR8 HU9 HR9
        go_wp2
        go_roundw
        case rel => exact ⟨j + 1, by omega, by go_num, HR10, HU10⟩
        case measure => simp [intOf]; omega
      · rw [if_neg hpos] at hsx hso
        have HR10 : Hid (Rw (w.heap.size + 1) n (fun k => if k < j + 1 then .int .i64 (slX false y t k) else .int .i64 0) w7) := HR7.out.congr (fun k hk => by
          by_cases e2 : k < j
          · rw [if_pos e2, if_pos (by omega)]
          · rw [if_neg e2]
            by_cases e : k = j
            · subst e; rw [if_pos (by omega), HRX.out, hsx]
            · rw [if_neg (by omega)])
        have HU10 : Hid (Ux p (c + CT (j + 1)) w w7) := by
          rw [Hck.out, hso]
          show Ux p (ck + 0) w w7
          rw [Int.add_zero]
          exact HU7.out
        clear HR7 HU7 hsx hso Hck HRX
        go_wp2
        go_roundw
        case rel => exact ⟨j + 1, by omega, by go_num, HR10, HU10⟩
        case measure => simp [intOf]; omega
    · obtain rfl : j = n := by omega
      have hjI : ¬ (j : Int) < (j : Int) := by omega
      have hAr : Hid (Ar wr (.slice (some ⟨w.heap.size + 1, 0, none⟩) j j) j (slX false y t)) := (HR.out.congr (fun k hk => by rw [if_pos hk])).ar (by omega) (fun k _ => slX_rng _ _ _ _)
      clear HR
      go_wp2
      go_ret
      exact ⟨_, rfl, hAr.out, fun a n cap e _ => by cases e; dsimp only; omega, by rw [HCn.out]; exact HU.out⟩
end Go.Proofs.YtcaficenocblfaaGreatDoor
