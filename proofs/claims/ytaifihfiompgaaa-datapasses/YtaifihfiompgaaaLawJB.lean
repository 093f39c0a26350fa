/-
  DataBatches: which examples a step looks at is the document's, and the list that is handed in stays.
-/
import Derived.Test.YtaifihfiompgaaaLawJO
set_option linter.unusedVariables false
set_option linter.unusedSimpArgs false
namespace Go.Proofs.Ytaifihfiompgaaa
open Go.RowKit

/-- A block of five cells. -/
structure K5 (b : Nat) (x y z u v : Value) (w : World) : Prop where
  c0 : w.cell? ⟨b, 0, none⟩ = some x
  c1 : w.cell? ⟨b, 1, none⟩ = some y
  c2 : w.cell? ⟨b, 2, none⟩ = some z
  c3 : w.cell? ⟨b, 3, none⟩ = some u
  c4 : w.cell? ⟨b, 4, none⟩ = some v
theorem K5.later {b : Nat} {x y z u v : Value} {w w' : World} (h : K5 b x y z u v w) (hb : Below w.heap.size w w') : K5 b x y z u v w' :=
  ⟨cell_later hb h.c0, cell_later hb h.c1, cell_later hb h.c2, cell_later hb h.c3, cell_later hb h.c4⟩
theorem ar_news {w : World} {b o m : Nat} {f : Nat → Int} (h : ∀ k, k < m → w.cell? ⟨b, o + k, none⟩ = some (.int .i64 (f k)) ∧ -9223372036854775808 ≤ f k ∧ f k ≤ 9223372036854775807) : ∀ j u, (il f m)[j]? = some u → w.cell? ((⟨b, o, none⟩ : Addr).add j) = some u := by
  intro j u hj
  have hjm : j < m := by have := (List.getElem?_eq_some_iff.1 hj).1; rw [il_len] at this; exact this
  rw [il_get f m j hjm] at hj
  have e : (⟨b, o, none⟩ : Addr).add j = ⟨b, o + j, none⟩ := by simp [Addr.add]
  rw [e, (h j hjm).1]
  exact hj
theorem il_one (f : Nat → Int) (m : Nat) : ∀ u ∈ il f m, u.oneCell' = true := by
  intro u hu
  unfold il at hu
  rw [List.mem_map] at hu
  obtain ⟨k, -, rfl⟩ := hu
  rfl
set_option maxRecDepth 100000 in
set_option maxHeartbeats 4000000 in
theorem dataBatches_any (V : Data1) (V2 : Data2) (s : Nat) (x r t z : Int) (va : Value) (m : Nat) (f : Nat → Int) (hs : s < 18446744073709551616) (w : World) (hA : Ar w va m f) (hV : RT w) :
    Calls Try.prog 4 #[.agg #[.int .u64 (s : Int), .int .i64 x, .int .i64 r, .int .i64 t, .int .i64 z], va] w fun e w' => e = .returned (.bool true) ∧ Below w.heap.size w w' := by
  have HA : Hid (∀ U : World, Below w.heap.size w U → Calls Try.prog 8 #[] U fun e w' => e = .returned (.bool true) ∧ Below U.heap.size U w') := fun U hb => dawake_any V V2 U (hV.later hb)
  have K0 : K5 w.heap.size (.int .u64 (s : Int)) (.int .i64 x) (.int .i64 r) (.int .i64 t) (.int .i64 z) (w.alloc (.cells #[.int .u64 (s : Int), .int .i64 x, .int .i64 r, .int .i64 t, .int .i64 z] 35)) := ⟨by simp [go_sem], by simp [go_sem], by simp [go_sem], by simp [go_sem], by simp [go_sem]⟩
  have B0 : Hid (Below w.heap.size w (w.alloc (.cells #[.int .u64 (s : Int), .int .i64 x, .int .i64 r, .int .i64 t, .int .i64 z] 35))) := bel1 w _
  have HAr : Hid (Ar w va m f) := hA
  obtain ⟨adr, cap, b, o, rfl, x1, x2, x3, x4⟩ := hA
  unfold maxLen at x2
  have HX : Hid ((0 < m → adr = some ⟨b, o, none⟩) ∧ ∀ k, k < m → w.cell? ⟨b, o + k, none⟩ = some (.int .i64 (f k)) ∧ -9223372036854775808 ≤ f k ∧ f k ≤ 9223372036854775807) := ⟨x3, x4⟩
  clear x3 x4
  obtain ⟨i0, hti, hy0, hy1, hy2⟩ := info_parts dinfo_int
  go_enter Try.func4, Try.ntmps4
  go_wp2_with fail
  generalize w.alloc (.cells #[.int .u64 (s : Int), .int .i64 x, .int .i64 r, .int .i64 t, .int .i64 z] 35) = w1 at *
  refine (HA.out _ B0.out).mono ?_
  rintro e w2 ⟨rfl, hb⟩
  have B2 : Hid (Below w.heap.size w w2) := bchain B0.out hb
  have K2 := K0.later hb
  clear hb B0 K0 HA
  by_cases hbig : 300 < m
  · have hbI : (300 : Int) < (m : Int) := by omega
    go_wp2
    go_ret
    exact ⟨rfl, B2.out⟩
  have hbI : ¬ (300 : Int) < (m : Int) := by omega
  have hs2 : w.heap.size ≤ w2.heap.size := B2.out.size
  have Hbig : Hid (m ≤ 300) := by show _ ≤ _; omega
  go_upto_region 5 with fail
  go_cut [5] (fun s5 wc => Hid (Ar wc s5 m f) ∧ Hid (Below w2.heap.size w2 wc))
  case first =>
    by_cases h0 : m = 0
    · subst h0
      have hl : ∀ (a : Addr) (U : World), Sem.run Try.prog (loadCellsFrom a 0 0 #[]) U = .ok #[] U := fun _ _ => rfl
      have hst : ∀ (a : Addr) (U : World), Sem.run Try.prog (storeCells a [] ) U = .ok () U := fun _ _ => rfl
      have HN : Hid (Ar (w2.alloc (.cells #[] 3)) (.slice (some ⟨w2.heap.size, 0, none⟩) 0 0) 0 f) := ⟨_, 0, w2.heap.size, 0, rfl, Nat.le_refl _, by unfold maxLen; omega, fun h => absurd h (by omega), fun k hk => absurd hk (by omega)⟩
      have HNb : Hid (Below w2.heap.size w2 (w2.alloc (.cells #[] 3))) := bel1 _ _
      cases adr
      · go_wp2_with fail
        go_meet
        exact ⟨HN, HNb⟩
      · go_wp2_with fail
        go_meet
        exact ⟨HN, HNb⟩
    · have ha := HX.out.1 (by omega)
      subst ha
      have HO : (w2.alloc (.cells #[] 3)).ownsRow w2.heap.size 3 1 (.slice (some ⟨w2.heap.size, 0, none⟩) 0 0) 0 [] := World.ownsRow_made w2 #[] 0 (Nat.le_refl _) (by unfold maxLen; omega) rfl
      have hB3 : Hid (Below w.heap.size w (w2.alloc (.cells #[] 3))) := bchain B2.out (bel1 _ _)
      have hN := ar_news (w := w2.alloc (.cells #[] 3)) (b := b) (o := o) (m := m) (f := f) (fun k hk => ⟨cell_later hB3.out (HX.out.2 k hk).1, (HX.out.2 k hk).2⟩)
      have hm300 := Hbig.out
      go_wp2_with (at_builtin; refine wpList_append_own _ rfl _ _ 26 rfl w2.heap.size 3 i0 (.int .i64 0) 1 8 Try.underlying26 hti hy0 hy1 hy2 rfl (by decide) _ _ _ rfl HO ⟨b, o, none⟩ m cap (il f m) rfl (by rw [il_len, Nat.mul_one]) hN (il_one f m) (by unfold maxLen; omega) (by omega) (by rw [World.size_alloc]; omega) ?_; intro v' w3 hown' hgrow hnil; have HA3 : Hid (Ar w3 v' m f) := (by rw [Nat.zero_add, List.nil_append] at hown'; exact (ar_of_own hown' (fun k hk => (HX.out.2 k hk).2)).1); have HW3 : Hid (Below w2.heap.size w2 w3) := (bel1 w2 _).grown hgrow (by rw [World.size_alloc]; omega) (fun k hk => (HO.lt k hk).1); clear hown' hgrow hnil HO hN)
      go_meet
      exact ⟨HA3, HW3⟩
  case rest =>
    rename World => w3
    obtain ⟨HG3, HW3⟩ := hcut
    have B3 : Hid (Below w.heap.size w w3) := bchain B2.out HW3.out
    have K3 := K2.later HW3.out
    clear B2 K2 HW3
    have c0 := K3.c0
    have c1 := K3.c1
    have c2 := K3.c2
    have c3 := K3.c3
    have c4 := K3.c4
    have HSm : Hid (∀ (U : World) (va vb : Value) (M : Nat) (h : Nat → Int), M ≤ 70000 → Ar U va M h → Ar U vb M h → Calls Try.prog 11 #[va, vb] U fun e w' => e = .returned (.bool true) ∧ Below U.heap.size U w') := fun U va vb M h hM h1 h2 => isame_yes va vb M h hM U h1 h2
    by_cases hgood : Akd x r t z (m : Int)
    · have HAk : Hid (∀ U : World, Calls Try.prog 14 #[.int .i64 x, .int .i64 r, .int .i64 t, .int .i64 z, .int .i64 (m : Int)] U fun e w' => e = .returned (.bool true) ∧ w' = U) := fun U => asked_yes x r t z (m : Int) hgood U
      obtain ⟨a1, a2, a3, a4, a5, a6, a7, a8, a9, a10⟩ := hgood
      obtain ⟨x', rfl⟩ : ∃ y : Nat, x = (y : Int) := ⟨x.toNat, by omega⟩
      obtain ⟨r', rfl⟩ : ∃ y : Nat, r = (y : Int) := ⟨r.toNat, by omega⟩
      obtain ⟨t', rfl⟩ : ∃ y : Nat, t = (y : Int) := ⟨t.toNat, by omega⟩
      obtain ⟨z', rfl⟩ : ∃ y : Nat, z = (y : Int) := ⟨z.toNat, by omega⟩
      obtain ⟨PL, hPL⟩ := pls_ex s x' r' t' z' m (by omega)
      have HBt : Hid (∀ (U : World) (va : Value), Below w.heap.size w U → Ar U va m f → Calls Try.prog 13 #[.int .u64 (s : Int), .int .i64 (x' : Int), .int .i64 (r' : Int), .int .i64 (t' : Int), .int .i64 (z' : Int), va] U fun e w' => ∃ v', e = .returned (.tuple #[v', .int .i64 0]) ∧ Ar w' v' z' (fun k => f (PL k)) ∧ Ow U.heap.size v' ∧ Below U.heap.size U w') := fun U va hb hA => V2.batch s x' r' t' z' m va f PL U hs (by omega) (by omega) (by omega) (by omega) (by omega) (by omega) (by omega) hA hPL (hV.later hb)
      have HRb : Hid (∀ (U : World) (va : Value), Ar U va m f → Calls Try.prog 15 #[.int .u64 (s : Int), .int .i64 (x' : Int), .int .i64 (r' : Int), .int .i64 (t' : Int), .int .i64 (z' : Int), va] U fun e w' => ∃ v', e = .returned v' ∧ Ar w' v' z' (fun k => f (PL k)) ∧ Ow U.heap.size v' ∧ Below U.heap.size U w') := fun U va hA => refBatch_any s x' r' t' z' m va f PL hs (by omega) (by omega) (by omega) (by omega) (by omega) (by omega) (by omega) U hA hPL
      have hz7 : z' ≤ 70000 := by omega
      have hm7 : m ≤ 70000 := by omega
      clear hPL V V2 hV
      generalize (fun k => f (PL k)) = h at *
      go_wp2_with fail
      refine (HBt.out _ _ B3.out HG3.out).mono ?_
      rintro e w4 ⟨v', rfl, hA4, -, hb⟩
      have B4 : Hid (Below w.heap.size w w4) := bchain B3.out hb
      have K4 := K3.later hb
      have H4 : Hid (Ar w4 u5 m f ∧ Ar w4 v' z' h) := ⟨HG3.out.later hb, hA4⟩
      clear c0 c1 c2 c3 c4 hb hA4 B3 K3 HBt HG3
      go_wp2_with fail
      refine (HSm.out _ _ _ m f hm7 H4.out.1 (HAr.out.later B4.out)).mono ?_
      rintro e w5 ⟨rfl, hb⟩
      have B5 : Hid (Below w.heap.size w w5) := bchain B4.out hb
      have K5 := K4.later hb
      have H5 : Hid (Ar w5 v' z' h) := H4.out.2.later hb
      clear hb B4 K4 H4
      have c0 := K5.c0
      have c1 := K5.c1
      have c2 := K5.c2
      have c3 := K5.c3
      have c4 := K5.c4
      go_wp2_with fail
      refine (HAk.out _).mono ?_
      rintro e w6 ⟨rfl, hz⟩
      subst hz
      clear HAk
      go_wp2_with fail
      refine (HRb.out _ _ (HAr.out.later B5.out)).mono ?_
      rintro e w7 ⟨vr, rfl, hA7, -, hb⟩
      have B7 : Hid (Below w.heap.size w w7) := bchain B5.out hb
      have H7 : Hid (Ar w7 v' z' h ∧ Ar w7 vr z' h) := ⟨H5.out.later hb, hA7⟩
      clear c0 c1 c2 c3 c4 hb hA7 B5 K5 H5 HRb
      go_wp2_with fail
      refine (HSm.out _ _ _ z' h hz7 H7.out.1 H7.out.2).mono ?_
      rintro e w8 ⟨rfl, hb⟩
      have B8 : Hid (Below w.heap.size w w8) := bchain B7.out hb
      clear hb B7 H7 HSm
      go_wp2
      go_ret
      exact ⟨by first | rfl | simp, B8.out⟩
    · have HAk : Hid (∀ U : World, Calls Try.prog 14 #[.int .i64 x, .int .i64 r, .int .i64 t, .int .i64 z, .int .i64 (m : Int)] U fun e w' => e = .returned (.bool false) ∧ w' = U) := fun U => asked_no x r t z (m : Int) hgood U
      have HBt : Hid (∀ (U : World) (va : Value), Below w.heap.size w U → Ar U va m f → Calls Try.prog 13 #[.int .u64 (s : Int), .int .i64 x, .int .i64 r, .int .i64 t, .int .i64 z, va] U fun e w' => ∃ (ad : Option Addr) (cap : Nat), e = .returned (.tuple #[.slice ad 0 cap, .int .i64 2]) ∧ Below U.heap.size U w') := fun U va hb hA => V2.batchE s m x r t z va f U (by have := Hbig.out; omega) hA hgood (hV.later hb)
      have hm7 : m ≤ 70000 := by have := Hbig.out; omega
      clear hgood V V2 hV
      go_wp2_with fail
      refine (HBt.out _ _ B3.out HG3.out).mono ?_
      rintro e w4 ⟨ad, cp, rfl, hb⟩
      have B4 : Hid (Below w.heap.size w w4) := bchain B3.out hb
      have K4 := K3.later hb
      have H4 : Hid (Ar w4 u5 m f) := HG3.out.later hb
      clear c0 c1 c2 c3 c4 hb B3 K3 HBt HG3
      go_wp2_with fail
      refine (HSm.out _ _ _ m f hm7 H4.out (HAr.out.later B4.out)).mono ?_
      rintro e w5 ⟨rfl, hb⟩
      have B5 : Hid (Below w.heap.size w w5) := bchain B4.out hb
      have K5 := K4.later hb
      clear hb B4 K4 H4
      have c0 := K5.c0
      have c1 := K5.c1
      have c2 := K5.c2
      have c3 := K5.c3
      have c4 := K5.c4
      go_wp2_with fail
      refine (HAk.out _).mono ?_
      rintro e w6 ⟨rfl, hz⟩
      subst hz
      clear HAk
      go_wp2
      go_ret
      exact ⟨by first | rfl | simp, B5.out⟩
end Go.Proofs.Ytaifihfiompgaaa
