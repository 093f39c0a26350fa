/-
  Lists of things in memory; few of them (regattalaw12.few).
-/
import Derived.Test.YtahbpegjdmblaaaPkLawB
set_option linter.unusedVariables false
set_option linter.unusedSimpArgs false
namespace Go.Proofs.Ytahbpegjdmblaaa
open Go.RowKit

def th0 : Th := ⟨0, 0, 0, 0, [], [], []⟩
/-- A thing in memory, from a cell on. -/
structure Tc (w : World) (b o : Nat) (t : Th) (vb vl vf : Value) : Prop where
  c0 : w.cell? ⟨b, o, none⟩ = some (.int .i64 t.k)
  c1 : w.cell? ⟨b, o + 1, none⟩ = some (.int .u64 (t.u : Int))
  c2 : w.cell? ⟨b, o + 2, none⟩ = some (.int .i64 t.n)
  c3 : w.cell? ⟨b, o + 3, none⟩ = some (.int .i64 t.x)
  c4 : w.cell? ⟨b, o + 4, none⟩ = some vb
  c5 : w.cell? ⟨b, o + 5, none⟩ = some vl
  c6 : w.cell? ⟨b, o + 6, none⟩ = some vf
  b : Bs w vb t.b
  l : Is w vl t.l
  f : Is w vf t.f
theorem Tc.upto {B : Nat} {w w' : World} {b o : Nat} {t : Th} {vb vl vf : Value} (h : Tc w b o t vb vl vf) (hb : Below w.heap.size w w') : Tc w' b o t vb vl vf :=
  ⟨cell_later hb h.c0, cell_later hb h.c1, cell_later hb h.c2, cell_later hb h.c3, cell_later hb h.c4, cell_later hb h.c5, cell_later hb h.c6, h.b.later hb, h.l.later hb, h.f.later hb⟩
theorem Tc.later {w w' : World} {b o : Nat} {t : Th} {vb vl vf : Value} (h : Tc w b o t vb vl vf) (hb : Below w.heap.size w w') : Tc w' b o t vb vl vf :=
  ⟨cell_later hb h.c0, cell_later hb h.c1, cell_later hb h.c2, cell_later hb h.c3, cell_later hb h.c4, cell_later hb h.c5, cell_later hb h.c6, h.b.later hb, h.l.later hb, h.f.later hb⟩
/-- A list of things in memory. -/
def Ts (w : World) (v : Value) (ts : List Th) : Prop := ∃ (adr : Option Addr) (cap b o : Nat), v = .slice adr ts.length cap ∧ ts.length ≤ cap ∧ cap ≤ maxLen ∧ (0 < ts.length → adr = some ⟨b, o, none⟩) ∧ ∀ j, j < ts.length → ∃ vb vl vf, Tc w b (o + j * 7) (ts.getD j th0) vb vl vf
theorem Ts.later {w w' : World} {v : Value} {ts : List Th} (h : Ts w v ts) (hb : Below w.heap.size w w') : Ts w' v ts := by
  obtain ⟨adr, cap, b, o, h1, h2, h3, h4, h5⟩ := h
  refine ⟨adr, cap, b, o, h1, h2, h3, h4, fun j hj => ?_⟩
  obtain ⟨vb, vl, vf, h6⟩ := h5 j hj
  exact ⟨vb, vl, vf, h6.later hb⟩
theorem Ts.len {w : World} {v : Value} {ts : List Th} (h : Ts w v ts) : ∃ (ad : Option Addr) (cap : Nat), v = .slice ad ts.length cap ∧ ts.length ≤ cap ∧ cap ≤ maxLen := by
  obtain ⟨adr, cap, b, o, h1, h2, h3, h4, h5⟩ := h
  exact ⟨adr, cap, h1, h2, h3⟩
theorem Ts.cel {w : World} {ad : Option Addr} {n cap : Nat} {ts : List Th} (h : Ts w (.slice ad n cap) ts) (j : Nat) (hj : j < ts.length) : ∃ (b o : Nat) (vb vl vf : Value), ad = some ⟨b, o, none⟩ ∧ Tc w b (o + j * 7) (ts.getD j th0) vb vl vf := by
  obtain ⟨adr, c, b, o, h1, h2, h3, h4, h5⟩ := h
  injection h1 with e1 e2 e3
  obtain ⟨vb, vl, vf, h6⟩ := h5 j hj
  exact ⟨b, o, vb, vl, vf, e1.trans (h4 (by omega)), h6⟩
def shortT (t : Th) : Bool := decide (t.b.length ≤ 300) && (decide (t.l.length ≤ 100) && decide (t.f.length ≤ 100))
def fewB (ts : List Th) : Bool := decide (ts.length ≤ 40) && ts.all shortT
theorem few_yes {ts : List Th} (h : fewB ts = true) : ts.length ≤ 40 ∧ ∀ t ∈ ts, t.b.length ≤ 300 ∧ t.l.length ≤ 100 ∧ t.f.length ≤ 100 := by
  unfold fewB shortT at h
  simpa using h
theorem few_no {ts : List Th} {t : Th} (h : t ∈ ts) (h2 : ¬ (t.b.length ≤ 300 ∧ t.l.length ≤ 100 ∧ t.f.length ≤ 100)) : fewB ts = false := by
  cases e : fewB ts with
  | false => rfl
  | true => exact absurd ((few_yes e).2 t h) h2
theorem getT_mem {ts : List Th} {j : Nat} (h : j < ts.length) : ts.getD j th0 ∈ ts := by
  have e : ts.getD j th0 = ts[j] := by simp [List.getD, h]
  rw [e]
  exact List.getElem_mem h
set_option maxRecDepth 100000 in
set_option maxHeartbeats 8000000 in
theorem few12 (v : Value) (ts : List Th) (w : World) (h : Ts w v ts) :
    Calls Try.prog 10 #[v] w fun e w' => e = .returned (.bool (fewB ts)) ∧ Below w.heap.size w w' := by
  have HT : Hid (Ts w v ts) := h
  obtain ⟨ad, cap, rfl, k1, k2⟩ := h.len
  unfold maxLen at k2
  obtain ⟨n, hn⟩ : ∃ n, ts.length = n := ⟨_, rfl⟩
  have HN : Hid (ts.length = n) := hn
  rw [hn] at k1 HT ⊢
  clear h hn
  by_cases h40 : 40 < n
  · have h40I : (40 : Int) < (n : Int) := by omega
    have HF : Hid (fewB ts = false) := by
      cases e : fewB ts with
      | false => rfl
      | true => have := (few_yes e).1; have := HN.out; omega
    go_enter Try.func10, Try.ntmps10
    go_wp2
    go_ret
    exact ⟨by rw [HF.out]; rfl, Below.refl _ _⟩
  · have h40I : ¬ (40 : Int) < (n : Int) := by omega
    go_enter Try.func10, Try.ntmps10
    go_upto_region 4 with fail
    go_loopw [10] (fun s10 wr => ∃ j : Nat, j ≤ n ∧ s10 = .int .i64 (j : Int) ∧ Hid (∀ i, i < j → shortT (ts.getD i th0) = true) ∧ Hid (Below w.heap.size w wr)) (fun s10 _ => n - (intOf s10).toNat)
    case atStart => exact ⟨0, by omega, rfl, fun i hi => by omega, Below.refl _ _⟩
    case round =>
      obtain ⟨j, hj, rfl, HS, HB⟩ := hrel
      by_cases hlt : j < n
      · have hjI : (j : Int) < (n : Int) := by omega
        have hN := HN.out
        obtain ⟨b, o, vb, vl, vf, rfl, hc⟩ := HT.out.cel j (by omega)
        have HM : Hid (ts.getD j th0 ∈ ts) := getT_mem (by omega)
        have hd := hc.later HB.out
        have d0 := hd.c0
        have d1 := hd.c1
        have d2 := hd.c2
        have d3 := hd.c3
        have d4 := hd.c4
        have d5 := hd.c5
        have d6 := hd.c6
        obtain ⟨a1, p1, rfl, -, -⟩ := hd.b.len
        obtain ⟨a2, p2, rfl, -, -⟩ := hd.l.len
        obtain ⟨a3, p3, rfl, -, -⟩ := hd.f.len
        have HSS : Hid (shortT (ts.getD j th0) = true → ∀ i, i < j + 1 → shortT (ts.getD i th0) = true) := fun q i hi => by
          by_cases e : i = j
          · subst e; exact q
          · exact HS.out i (by omega)
        generalize ts.getD j th0 = t at *
        clear hc hd hN
        by_cases q1 : 300 < t.b.length
        · have q1I : (300 : Int) < (t.b.length : Int) := by omega
          have HF : Hid (fewB ts = false) := few_no HM.out (by omega)
          go_wp2
          go_ret
          exact ⟨by rw [HF.out]; rfl, HB.out.alloc HB.out.size _⟩
        · have q1I : ¬ (300 : Int) < (t.b.length : Int) := by omega
          by_cases q2 : 100 < t.l.length
          · have q2I : (100 : Int) < (t.l.length : Int) := by omega
            have HF : Hid (fewB ts = false) := few_no HM.out (by omega)
            go_wp2
            go_ret
            exact ⟨by rw [HF.out]; rfl, HB.out.alloc HB.out.size _⟩
          · have q2I : ¬ (100 : Int) < (t.l.length : Int) := by omega
            by_cases q3 : 100 < t.f.length
            · have q3I : (100 : Int) < (t.f.length : Int) := by omega
              have HF : Hid (fewB ts = false) := few_no HM.out (by omega)
              go_wp2
              go_ret
              exact ⟨by rw [HF.out]; rfl, HB.out.alloc HB.out.size _⟩
            · have q3I : ¬ (100 : Int) < (t.f.length : Int) := by omega
              have HS2 : Hid (∀ i, i < j + 1 → shortT (ts.getD i th0) = true) := HSS.out (by
                unfold shortT
                simp
                omega)
              clear HS
              go_wp2
              go_roundw
              case rel => exact ⟨j + 1, by omega, by go_num, HS2, HB.out.alloc HB.out.size _⟩
              case measure => simp [intOf]; omega
      · obtain rfl : j = n := by omega
        have hjI : ¬ (j : Int) < (j : Int) := by omega
        have HF : Hid (fewB ts = true) := by
          show _ = _
          unfold fewB
          have hN := HN.out
          simp only [Bool.and_eq_true, decide_eq_true_eq, List.all_eq_true]
          refine ⟨by omega, fun t ht => ?_⟩
          obtain ⟨i, hi, rfl⟩ := List.getElem_of_mem ht
          have := HS.out i (by omega)
          simpa [List.getD, hi] using this
        go_wp2
        go_ret
        exact ⟨by rw [HF.out]; rfl, HB.out⟩
/-- Things' forms, one behind the other. -/
def fms (ts : List Th) : List Nat := ts.flatMap Th.form
theorem forms_take {ts : List Th} {j : Nat} (h : j < ts.length) : fms (ts.take (j + 1)) = fms (ts.take j) ++ (ts.getD j th0).form := by
  have e : ts.take (j + 1) = ts.take j ++ [ts.getD j th0] := by
    rw [List.take_add_one]
    simp [List.getD, h]
  unfold fms
  rw [e, List.flatMap_append]
  simp
theorem form_len {t : Th} (g : t.good) (h : t.b.length ≤ 300 ∧ t.l.length ≤ 100 ∧ t.f.length ≤ 100) : t.form.length ≤ 1010 := by
  rcases kinds t.k with q | q | q | q | q | q | q
  · rw [form_1 q]; have := enU_ten g.u; omega
  · rw [form_2 q]; have := enI_ten g.n; omega
  · rw [form_3 q, enF_len]; omega
  · rw [form_4 q]
    unfold enB
    have := enU_ten g.b.2
    rw [List.length_append]
    omega
  · rw [form_5 q]
    unfold enIs
    have h1 := enU_ten g.l.2
    have h2 := flat_len (en := enI) (c := 10) t.l (fun x hx => enI_ten (g.l.1 x hx))
    rw [List.length_append]
    omega
  · rw [form_6 q]
    unfold enFs
    have h1 := enU_ten g.f.2
    have h2 := flat_eight t.f
    rw [List.length_append]
    omega
  · rw [form_0 q]; simp
theorem forms_len : ∀ ts : List Th, (∀ t ∈ ts, t.form.length ≤ 1010) → (fms ts).length ≤ 1010 * ts.length := by
  intro l
  induction l with
  | nil => intro _; simp [fms]
  | cons x l ih =>
    intro h
    have h1 := h x (by simp)
    have h2 := ih (fun y hy => h y (by simp [hy]))
    unfold fms at *
    rw [List.flatMap_cons, List.length_append, List.length_cons, Nat.mul_add]
    omega
set_option maxRecDepth 100000 in
set_option maxHeartbeats 8000000 in
theorem forms12 (v : Value) (ts : List Th) (w : World) (h : Ts w v ts) (hg : ∀ t ∈ ts, t.good) (hf : fewB ts = true) :
    Calls Try.prog 14 #[v] w fun e w' => ∃ v', e = .returned v' ∧ Bs w' v' (fms ts) ∧ Below w.heap.size w w' := by
  have HT : Hid (Ts w v ts) := h
  have HG : Hid (∀ t ∈ ts, t.good) := hg
  have HF : Hid (ts.length ≤ 40 ∧ ∀ t ∈ ts, t.b.length ≤ 300 ∧ t.l.length ≤ 100 ∧ t.f.length ≤ 100) := few_yes hf
  obtain ⟨ad, cap, rfl, k1, k2⟩ := h.len
  unfold maxLen at k2
  obtain ⟨n, hn⟩ : ∃ n, ts.length = n := ⟨_, rfl⟩
  have HN : Hid (ts.length = n) := hn
  rw [hn] at k1 HT ⊢
  clear h hn hg hf
  go_enter Try.func14, Try.ntmps14
  go_upto_region 3 with fail
  go_loopw [3, 8] (fun s3 s8 wr => ∃ j : Nat, j ≤ n ∧ s8 = .int .i64 (j : Int) ∧ Hid (Ob w.heap.size wr s3 (fms (ts.take j))) ∧ Hid (Below w.heap.size w wr)) (fun _ s8 _ => n - (intOf s8).toNat)
  case atStart => exact ⟨0, by omega, rfl, ob_nil _ _, Below.refl _ _⟩
  case round =>
    obtain ⟨j, hj, rfl, HO, HB⟩ := hrel
    by_cases hlt : j < n
    · have hjI : (j : Int) < (n : Int) := by omega
      have hN := HN.out
      obtain ⟨b, o, vb, vl, vf, rfl, hc⟩ := HT.out.cel j (by omega)
      have hM : ts.getD j th0 ∈ ts := getT_mem (by omega)
      have HS : Hid (fms (ts.take (j + 1)) = fms (ts.take j) ++ (ts.getD j th0).form) := forms_take (by omega)
      have HLn : Hid ((fms (ts.take j)).length ≤ 1000000) := by
        have h1 := forms_len (ts.take j) (fun t ht => form_len (HG.out t (List.mem_of_mem_take ht)) (HF.out.2 t (List.mem_of_mem_take ht)))
        rw [List.length_take] at h1
        show _ ≤ _
        have := HF.out.1
        omega
      have HGt := hidI (HG.out _ hM)
      have HFt := hidI (HF.out.2 _ hM)
      have hd := hc.later HB.out
      have d0 := hd.c0
      have d1 := hd.c1
      have d2 := hd.c2
      have d3 := hd.c3
      have d4 := hd.c4
      have d5 := hd.c5
      have d6 := hd.c6
      obtain ⟨a1, p1, rfl, -, -⟩ := hd.b.len
      obtain ⟨a2, p2, rfl, -, -⟩ := hd.l.len
      obtain ⟨a3, p3, rfl, -, -⟩ := hd.f.len
      generalize ts.getD j th0 = t at *
      have HD : Hid (∀ o : Obj, Bs (wr.alloc o) (.slice a1 t.b.length p1) t.b ∧ Is (wr.alloc o) (.slice a2 t.l.length p2) t.l ∧ Is (wr.alloc o) (.slice a3 t.f.length p3) t.f) := fun o => ⟨hd.b.later (bel1 wr o), hd.l.later (bel1 wr o), hd.f.later (bel1 wr o)⟩
      clear hc hd hN hM
      go_wp2_with fail
      refine (form12 t HGt.out (by have := HFt.out; omega) _ _ _ _ (HD.out _).1 (HD.out _).2.1 (HD.out _).2.2).mono ?_
      rintro e wx ⟨vx, rfl, hO2, hB2⟩
      have HL2 : Hid (Bs wx vx t.form ∧ t.form.length ≤ 1010) := ⟨hO2.bs.1, form_len HGt.out HFt.out⟩
      have hB3 := bchain (bel1 wr _) hB2
      have HO2 : Hid (Ob w.heap.size wx u3 (fms (ts.take j))) := HO.out.later hB3
      have HB2 : Hid (Below w.heap.size w wx) := bchain HB.out hB3
      obtain ⟨ad2, cap2, rfl⟩ := hO2.sl
      clear hO2 hB2 hB3 HO HB d0 d1 d2 d3 d4 d5 d6 HD
      go_wp2_with (at_builtin; refine apB rfl _ _ rfl w.heap.size _ _ rfl HO2.out _ _ rfl HL2.out.1 (by have := HLn.out; have := HL2.out.2; omega) HB2.out.size ?_; intro v' w3 hO3 hg)
      have HO3 : Hid (Ob w.heap.size w3 v' (fms (ts.take (j + 1)))) := by
        show Ob _ _ _ _
        rw [HS.out]
        exact hO3
      have HB3 : Hid (Below w.heap.size w w3) := hg.1 _ HB2.out
      clear hO3 hg HO2 HB2 HS
      go_wp2
      go_roundw
      case rel => exact ⟨j + 1, by omega, by go_num, HO3, HB3⟩
      case measure => simp [intOf]; omega
    · obtain rfl : j = n := by omega
      have hjI : ¬ (j : Int) < (j : Int) := by omega
      have HO4 : Hid (Ob w.heap.size wr u3 (fms ts)) := by
        have h := HO.out
        rw [List.take_of_length_le (by have := HN.out; omega)] at h
        exact h
      obtain ⟨ad2, cap2, rfl⟩ := HO4.out.sl
      clear HO
      go_wp2
      go_ret
      exact ⟨_, rfl, HO4.out.bs.1, HB.out⟩
end Go.Proofs.Ytahbpegjdmblaaa
