/-
  DataPasses: gone through batch by batch, each example of a worker comes once in each pass.
-/
import Derived.Test.YtaifihfiompgaaaLawJS
import Derived.Test.YtaifihfiompgaaaLawJB
set_option linter.unusedVariables false
set_option linter.unusedSimpArgs false
namespace Go.Proofs.Ytaifihfiompgaaa
open Go.RowKit

/-- Which ones were seen. -/
def snj (F : Nat → Nat) : Nat → Nat → Bool
  | 0, _ => false
  | j + 1, q => if q = F j then true else snj F j q
theorem snj_no (F : Nat → Nat) (j q : Nat) (h : ∀ k, k < j → F k ≠ q) : snj F j q = false := by
  induction j with
  | zero => rfl
  | succ j ih =>
    show (if q = F j then true else snj F j q) = false
    rw [if_neg (fun e => h j (by omega) e.symm)]
    exact ih (fun k hk => h k (by omega))
theorem own_somej {w : World} {base : Nat} {e : TypeId} {v : Value} {n : Nat} {xs : List Value} (h : w.ownsRow base e 1 v n xs) (hn : 0 < n) : ∃ g cap, v = .slice (some ⟨g, 0, none⟩) n cap ∧ base ≤ g ∧ n ≤ cap ∧ cap ≤ maxLen := by
  rcases h.2 with ⟨_, h0⟩ | ⟨g, cap, cur, rfl, hg, hh, hc1, hc2, hsz, htk⟩
  · omega
  · exact ⟨g, cap, rfl, hg, hc1, hc2⟩
/-- A list's length. -/
def slen : Value → Nat
  | .slice _ n _ => n
  | _ => 0
theorem il_add (f : Nat → Int) (a b : Nat) : il f (a + b) = il f a ++ il (fun k => f (a + k)) b := by
  induction b with
  | zero => unfold il; simp
  | succ b ih => rw [← Nat.add_assoc, il_succ, ih, il_succ, List.append_assoc]
/-- The places of all batches, one behind the other. -/
theorem plc_ex (s x r n : Nat) (hn : 1 ≤ n) : ∃ P : Nat → Nat, ∀ q, Goes s 2 (x : Int) (65536 * (r : Int) + ((q / n : Nat) : Int)) n (q % n) (P q) := by
  classical
  exact ⟨fun q => Classical.choose (goes_ex s 2 (x : Int) (65536 * (r : Int) + ((q / n : Nat) : Int)) n (q % n) (Nat.mod_lt _ (by omega))), fun q => Classical.choose_spec (goes_ex s 2 (x : Int) (65536 * (r : Int) + ((q / n : Nat) : Int)) n (q % n) (Nat.mod_lt _ (by omega)))⟩
/-- In one pass no two are the same. -/
theorem plc_inj (s x r n : Nat) (P : Nat → Nat) (hP : ∀ q, Goes s 2 (x : Int) (65536 * (r : Int) + ((q / n : Nat) : Int)) n (q % n) (P q)) (c u v : Nat) (hu : u < n) (hv : v < n) (h : P (c * n + u) = P (c * n + v)) : u = v := by
  have e1 : (c * n + u) / n = c ∧ (c * n + u) % n = u := by rw [Nat.mul_comm, Nat.mul_add_div (by omega), Nat.div_eq_of_lt hu, Nat.mul_add_mod, Nat.mod_eq_of_lt hu]; exact ⟨by omega, rfl⟩
  have e2 : (c * n + v) / n = c ∧ (c * n + v) % n = v := by rw [Nat.mul_comm, Nat.mul_add_div (by omega), Nat.div_eq_of_lt hv, Nat.mul_add_mod, Nat.mod_eq_of_lt hv]; exact ⟨by omega, rfl⟩
  have h1 := hP (c * n + u)
  have h2 := hP (c * n + v)
  rw [e1.1, e1.2] at h1
  rw [e2.1, e2.2, ← h] at h2
  exact (h1.comes hu).one (h2.comes hv)
set_option maxRecDepth 100000 in
set_option maxHeartbeats 8000000 in
theorem dataPasses_any (V : Data1) (V2 : Data2) (s : Nat) (x r t z n : Int) (hs : s < 18446744073709551616) (w : World) (hV : RT w) :
    Calls Try.prog 7 #[.agg #[.int .u64 (s : Int), .int .i64 x, .int .i64 r, .int .i64 t, .int .i64 z], .int .i64 n] w fun e w' => e = .returned (.bool true) ∧ Below w.heap.size w w' := by
  have HA : Hid (∀ U : World, Below w.heap.size w U → Calls Try.prog 8 #[] U fun e w' => e = .returned (.bool true) ∧ Below U.heap.size U w') := fun U hb => dawake_any V V2 U (hV.later hb)
  have K0 : K5 w.heap.size (.int .u64 (s : Int)) (.int .i64 x) (.int .i64 r) (.int .i64 t) (.int .i64 z) (w.alloc (.cells #[.int .u64 (s : Int), .int .i64 x, .int .i64 r, .int .i64 t, .int .i64 z] 35)) := ⟨by simp [go_sem], by simp [go_sem], by simp [go_sem], by simp [go_sem], by simp [go_sem]⟩
  have B0 : Hid (Below w.heap.size w (w.alloc (.cells #[.int .u64 (s : Int), .int .i64 x, .int .i64 r, .int .i64 t, .int .i64 z] 35))) := bel1 w _
  obtain ⟨i0, hti, hy0, hy1, hy2⟩ := info_parts dinfo_int
  go_enter Try.func7, Try.ntmps7
  go_wp2_with fail
  generalize w.alloc (.cells #[.int .u64 (s : Int), .int .i64 x, .int .i64 r, .int .i64 t, .int .i64 z] 35) = w1 at *
  refine (HA.out _ B0.out).mono ?_
  rintro e w2 ⟨rfl, hb⟩
  have B2 : Hid (Below w.heap.size w w2) := bchain B0.out hb
  have K2 := K0.later hb
  clear hb B0 K0 HA
  by_cases n1 : n < 1
  · go_wp2
    go_ret
    exact ⟨rfl, B2.out⟩
  by_cases n60 : 60 < n
  · go_wp2
    go_ret
    exact ⟨rfl, B2.out⟩
  have c1 := K2.c1
  have c2 := K2.c2
  have c4 := K2.c4
  by_cases hgood : Akd x r 0 z n
  rotate_left 1
  · have HAk : Hid (∀ U : World, Calls Try.prog 14 #[.int .i64 x, .int .i64 r, .int .i64 0, .int .i64 z, .int .i64 n] U fun e w' => e = .returned (.bool false) ∧ w' = U) := fun U => asked_no x r 0 z n hgood U
    clear hgood V V2 hV
    go_wp2_with fail
    refine (HAk.out _).mono ?_
    rintro e w3 ⟨rfl, hz⟩
    subst hz
    go_wp2
    go_ret
    exact ⟨rfl, B2.out⟩
  have HAk : Hid (∀ U : World, Calls Try.prog 14 #[.int .i64 x, .int .i64 r, .int .i64 0, .int .i64 z, .int .i64 n] U fun e w' => e = .returned (.bool true) ∧ w' = U) := fun U => asked_yes x r 0 z n hgood U
  obtain ⟨a1, a2, a3, a4, -, -, a7, a8, a9, a10⟩ := hgood
  obtain ⟨x', rfl⟩ : ∃ y : Nat, x = (y : Int) := ⟨x.toNat, by omega⟩
  obtain ⟨r', rfl⟩ : ∃ y : Nat, r = (y : Int) := ⟨r.toNat, by omega⟩
  obtain ⟨z', rfl⟩ : ∃ y : Nat, z = (y : Int) := ⟨z.toNat, by omega⟩
  obtain ⟨n', rfl⟩ : ∃ y : Nat, n = (y : Int) := ⟨n.toNat, by omega⟩
  obtain ⟨P, hP⟩ := plc_ex s x' r' n' (by omega)
  have HPl : Hid (∀ q, P q < n') := fun q => (hP q).lt
  have HPi : Hid (∀ c u v, u < n' → v < n' → P (c * n' + u) = P (c * n' + v) → u = v) := fun c u v hu hv h => plc_inj s x' r' n' P hP c u v hu hv h
  have HBt : Hid (∀ (y : Nat) (U : World) (va : Value), y < 12 → Below w.heap.size w U → Ar U va n' (fun i => 1000 + (i : Int)) → Calls Try.prog 13 #[.int .u64 (s : Int), .int .i64 (x' : Int), .int .i64 (r' : Int), .int .i64 (y : Int), .int .i64 (z' : Int), va] U fun e w' => ∃ v', e = .returned (.tuple #[v', .int .i64 0]) ∧ Ar w' v' z' (fun k => 1000 + ((P (y * z' + k) : Nat) : Int)) ∧ Below U.heap.size U w') := fun y U va hy hb hA => by
    refine (V2.batch s x' r' y z' n' va (fun i => 1000 + (i : Int)) (fun k => P (y * z' + k)) U hs (by omega) (by omega) (by omega) (by omega) (by omega) (by omega) (by omega) hA (fun k hk => hP (y * z' + k)) (hV.later hb)).mono ?_
    rintro e w' ⟨v', rfl, hA', -, hb'⟩
    exact ⟨v', rfl, hA', hb'⟩
  clear hP V V2 hV
  go_wp2_with fail
  refine (HAk.out _).mono ?_
  rintro e w3 ⟨rfl, hz⟩
  subst hz
  clear HAk
  have hn60 : n' ≤ 60 := by omega
  have hn1 : 1 ≤ n' := by omega
  have hz1 : 1 ≤ z' := by omega
  have hz64 : z' ≤ 64 := by omega
  have HK3 : Hid (K5 w.heap.size (.int .u64 (s : Int)) (.int .i64 (x' : Int)) (.int .i64 (r' : Int)) (.int .i64 t) (.int .i64 (z' : Int)) w3) := K2
  clear c1 c2 c4 K2 a1 a2 a3 a4 a7 a8 a9 a10
  go_upto_region 7 with fail
  go_loopw [5, 34] (fun s5 si wr => ∃ i : Nat, i ≤ n' ∧ si = .int .i64 (i : Int) ∧ Hid (wr.ownsRow w3.heap.size 3 1 s5 i (il (fun q => 1000 + (q : Int)) i)) ∧ Hid (Below w3.heap.size w3 wr)) (fun _ si _ => n' - (intOf si).toNat)
  case atStart => exact ⟨0, by omega, rfl, World.ownsRow_nil _ _ _ _, Below.refl _ _⟩
  case round =>
    rename World => wa
    obtain ⟨i, hi, rfl, HO, HW⟩ := hrel
    by_cases hlt : i < n'
    · have hiI : (i : Int) < (n' : Int) := by omega
      have hsz : w3.heap.size ≤ wa.heap.size := HW.out.size
      have hown := HO.out
      go_wp2_with (at_builtin; refine wpList_append_own _ rfl _ _ 26 rfl w3.heap.size 3 i0 (.int .i64 0) 1 8 Try.underlying26 hti hy0 hy1 hy2 rfl (by decide) _ _ _ rfl (hown.alloc _) ⟨wa.heap.size, 0, none⟩ 1 1 [.int .i64 (1000 + (i : Int))] rfl rfl (cell_one_new _ _ _) (ints_oneCell .i64 [1000 + (i : Int)]) (by unfold maxLen; omega) (by omega) (by simp; omega) ?_; intro v' wb hown' hgrow hnil; have HO2 : Hid (wb.ownsRow w3.heap.size 3 1 v' (i + 1) (il (fun q => 1000 + (q : Int)) (i + 1))) := (by rw [il_succ]; exact hown'); have HW2 : Hid (Below w3.heap.size w3 wb) := (HW.out.alloc hsz _).grown hgrow (by rw [World.size_alloc]; omega) (fun k hk => (HO.out.lt k hk).1); clear hown' hgrow hnil hown HO HW)
      go_roundw
      case rel => exact ⟨i + 1, by omega, by go_num, HO2, HW2⟩
      case measure => simp [intOf]; omega
    · obtain rfl : i = n' := by omega
      have hiI : ¬ (i : Int) < (i : Int) := by omega
      have HAo : Hid (Ar wa u5 i (fun q => 1000 + (q : Int))) := (ar_of_own HO.out (fun k hk => by omega)).1
      have BWa : Hid (Below w.heap.size w wa) := bchain B2.out HW.out
      have HKa : Hid (K5 w.heap.size (.int .u64 (s : Int)) (.int .i64 (x' : Int)) (.int .i64 (r' : Int)) (.int .i64 t) (.int .i64 (z' : Int)) wa) := HK3.out.later HW.out
      clear HO HW B2 HK3
      go_upto_region 13 with fail
      go_loopw [7, 43] (fun s7 si wr => ∃ y : Nat, y ≤ 12 ∧ si = .int .i64 (y : Int) ∧ Hid (wr.ownsRow wa.heap.size 3 1 s7 (y * z') (il (fun q => 1000 + ((P q : Nat) : Int)) (y * z'))) ∧ Hid (Below wa.heap.size wa wr)) (fun _ si _ => 12 - (intOf si).toNat)
      case atStart => exact ⟨0, by omega, rfl, by rw [Nat.zero_mul]; exact World.ownsRow_nil _ _ _ _, Below.refl _ _⟩
      case round =>
        rename World => wb
        obtain ⟨y, hy, rfl, HO, HW⟩ := hrel
        by_cases hlt : y < 12
        · have hyI : (y : Int) < 12 := by omega
          have BW : Hid (Below w.heap.size w wb) := bchain BWa.out HW.out
          have CM : Hid (Calls Try.prog 13 #[.int .u64 (s : Int), .int .i64 (x' : Int), .int .i64 (r' : Int), .int .i64 (y : Int), .int .i64 (z' : Int), u5] wb fun e w' => ∃ v', e = .returned (.tuple #[v', .int .i64 0]) ∧ Ar w' v' z' (fun k => 1000 + ((P (y * z' + k) : Nat) : Int)) ∧ Below wb.heap.size wb w') := HBt.out y wb u5 hlt BW.out (HAo.out.later HW.out)
          have kb := HKa.out.later HW.out
          have c0 := kb.c0
          have c1 := kb.c1
          have c2 := kb.c2
          have c4 := kb.c4
          have Hkb : Hid (K5 w.heap.size (.int .u64 (s : Int)) (.int .i64 (x' : Int)) (.int .i64 (r' : Int)) (.int .i64 t) (.int .i64 (z' : Int)) wb) := kb
          have hyz : y * z' + z' ≤ 768 := by have h1 : y * z' ≤ 11 * 64 := Nat.mul_le_mul (by omega) hz64; omega
          obtain ⟨T, hT⟩ : ∃ T, y * z' = T := ⟨_, rfl⟩
          have HT : Hid ((y + 1) * z' = T + z') := by show _ = _; rw [Nat.succ_mul, hT]
          rw [hT] at HO CM hyz
          clear hT kb
          go_wp2_with fail
          refine CM.out.mono ?_
          rintro e wc ⟨v', rfl, hA, hb⟩
          have HOc : Hid (wc.ownsRow wa.heap.size 3 1 u7 T (il (fun q => 1000 + ((P q : Nat) : Int)) T)) := own_later HO.out hb
          have HWc : Hid (Below wa.heap.size wa wc) := bchain HW.out hb
          have hsc : wa.heap.size ≤ wc.heap.size := HWc.out.size
          have kc := Hkb.out.later hb
          obtain ⟨adr, cap, b, o, rfl, x1, x2, x3, x4⟩ := hA
          unfold maxLen at x2
          have ha := x3 (by omega)
          subst ha
          have hN := ar_news (w := wc) (b := b) (o := o) (m := z') (f := fun k => 1000 + ((P (T + k) : Nat) : Int)) x4
          have ezz : (((z' : Nat) : Int) != (z' : Int)) = false := by simp
          clear c0 c1 c2 c4 hb x3 x4 CM HO HW BW Hkb
          have c4 := kc.c4
          clear kc
          have hown := HOc.out
          go_wp2_with (at_builtin; refine wpList_append_own _ rfl _ _ 26 rfl wa.heap.size 3 i0 (.int .i64 0) 1 8 Try.underlying26 hti hy0 hy1 hy2 rfl (by decide) _ _ _ rfl hown ⟨b, o, none⟩ z' cap (il (fun k => 1000 + ((P (T + k) : Nat) : Int)) z') rfl (by rw [il_len, Nat.mul_one]) hN (il_one _ z') (by unfold maxLen; omega) (by omega) hsc ?_; intro v2 wd hown' hgrow hnil; have HO2 : Hid (wd.ownsRow wa.heap.size 3 1 v2 ((y + 1) * z') (il (fun q => 1000 + ((P q : Nat) : Int)) ((y + 1) * z'))) := (by rw [HT.out, il_add]; exact hown'); have HW2 : Hid (Below wa.heap.size wa wd) := HWc.out.grown hgrow hsc (fun k hk => (HOc.out.lt k hk).1); clear hown' hgrow hnil hown HOc HWc hN c4)
          go_roundw
          case rel => exact ⟨y + 1, by omega, by go_num, HO2, HW2⟩
          case measure => simp [intOf]; omega
        · obtain rfl : y = 12 := by omega
          have hyI : ¬ ((12 : Nat) : Int) < 12 := by omega
          obtain ⟨Tt, hTt⟩ : ∃ T, 12 * z' = T := ⟨_, rfl⟩
          rw [hTt] at HO
          have hTb : 12 ≤ Tt ∧ Tt ≤ 768 := by omega
          obtain ⟨g, cap, rfl, hg, hc1, hc2⟩ := own_somej HO.out (by omega)
          unfold maxLen at hc2
          have HXb : Hid (∀ q, q < Tt → wb.cell? ⟨g, q, none⟩ = some (.int .i64 (1000 + ((P q : Nat) : Int)))) := fun q hq => by rw [HO.out.cellAt q (by omega), il_get _ _ _ hq]
          have BWb : Hid (Below w.heap.size w wb) := bchain BWa.out HW.out
          clear HO HW HBt HAo hTt HKa
          have hmk := make_blj i (by omega)
          have hgb : g < wb.heap.size := World.block_lt_of_cell? _ _ (HXb.out 0 (by omega))
          go_upto_region 20 with fail
          go_loopw [7] (fun s7 wr => ∃ (ad : Option Addr) (len cp : Nat), s7 = .slice ad len cp ∧ len ≤ cp ∧ cp ≤ 9223372036854775807 ∧ Hid (i ≤ len → ∃ c, ad = some ⟨g, c * i, none⟩ ∧ c * i + len = Tt) ∧ Hid (Below wb.heap.size wb wr)) (fun s7 _ => slen s7)
          case atStart => exact ⟨_, Tt, cap, rfl, hc1, by omega, fun _ => ⟨0, by rw [Nat.zero_mul], by omega⟩, Below.refl _ _⟩
          case round =>
            rename World => wr
            obtain ⟨ad, len, cp, rfl, hlc, hcp, HD, HW⟩ := hrel
            by_cases hge : i ≤ len
            · have hgI : (i : Int) ≤ (len : Int) := by omega
              obtain ⟨c, rfl, hcl⟩ := HD.out hge
              obtain ⟨ci, hci⟩ : ∃ ci, c * i = ci := ⟨_, rfl⟩
              have Hci : Hid ((c + 1) * i = ci + i) := by show _ = _; rw [Nat.succ_mul, hci]
              obtain ⟨F, hF⟩ : ∃ F : Nat → Nat, F = fun u => P (ci + u) := ⟨_, rfl⟩
              have HFl : Hid (∀ u, u < i → F u < i) := fun u hu => by rw [hF]; exact HPl.out _
              have HFi : Hid (∀ u v, u < i → v < i → F u = F v → u = v) := fun u v hu hv h => HPi.out c u v hu hv (by rw [hF] at h; rw [hci]; exact h)
              have HFx : Hid (∀ u, u < i → wb.cell? ⟨g, ci + u, none⟩ = some (.int .i64 (1000 + ((F u : Nat) : Int)))) := fun u hu => by rw [hF]; exact HXb.out (ci + u) (by omega)
              rw [hci] at hcl
              rw [hci]
              clear hF hci HD
              have hR0 : Hid (Rw wr.heap.size i (fun _ => .bool false) (wr.alloc (.cells (madeCells #[.bool false] i) 4))) := Rw.made wr (.bool false) i 4
              have hsw : wb.heap.size ≤ wr.heap.size := HW.out.size
              have HW4 : Hid (Below wb.heap.size wb (wr.alloc (.cells (madeCells #[.bool false] i) 4))) := HW.out.alloc hsw _
              have hicp : (i : Int) ≤ (cp : Int) := by omega
              have hicp' : i ≤ cp := by omega
              go_upto_region 23 with fail
              obtain ⟨gs, hgs⟩ : ∃ gs, wr.heap.size = gs := ⟨_, rfl⟩
              rw [hgs] at hR0 hsw
              rw [hgs]
              generalize wr.alloc (.cells (madeCells #[.bool false] i) 4) = w4 at *
              go_loopw [83] (fun si wi => ∃ j : Nat, j ≤ i ∧ si = .int .i64 (j : Int) ∧ Hid (Rw gs i (fun q => .bool (snj F j q)) wi) ∧ Hid (Below wb.heap.size wb wi)) (fun si _ => i - (intOf si).toNat)
              case atStart => exact ⟨0, by omega, rfl, hR0, HW4⟩
              case round =>
                rename World => wi
                obtain ⟨j, hj, rfl, HRi, HWi⟩ := hrel
                by_cases hji : j < i
                · have hjI : (j : Int) < (i : Int) := by omega
                  have cx : wi.cell? ⟨g, ci + j, none⟩ = some (.int .i64 (1000 + ((F j : Nat) : Int))) := cell_later HWi.out (HFx.out j hji)
                  have hFl := HFl.out j hji
                  have hsn := snj_no F j (F j) (fun k hk e => by have := HFi.out k j (by omega) hji e; omega)
                  have cS : wi.cell? ⟨gs, F j, none⟩ = some (.bool false) := by have h := HRi.out.c (F j) hFl; rw [hsn] at h; exact h
                  have fS := HRi.out.f (F j) hFl
                  have HR2 : Hid (Rw gs i (fun q => .bool (snj F (j + 1) q)) (wi.setCell ⟨gs, F j, none⟩ (.bool true))) := (HRi.out.set (F j) (.bool true)).congr (fun q hq => by
                    show _ = Value.bool (if q = F j then true else snj F j q)
                    split <;> rfl)
                  have HW2 : Hid (Below wb.heap.size wb (wi.setCell ⟨gs, F j, none⟩ (.bool true))) := HWi.out.setCell (by dsimp only; omega) _
                  clear hsn HRi HWi
                  generalize F j = cc at *
                  obtain ⟨X, hX⟩ : ∃ X : Int, 1000 + (cc : Int) = X := ⟨_, rfl⟩
                  rw [hX] at cx
                  have X1 : ¬ X < 1000 := by omega
                  have X2 : ¬ 1000 + (i : Int) ≤ X := by omega
                  have X3 : X - 1000 = (cc : Int) := by omega
                  have X4 : (cc : Int) < (i : Int) := by omega
                  have X5 : X ≤ 2000 := by omega
                  clear hX
                  go_wp2
                  go_roundw
                  case rel => exact ⟨j + 1, by omega, by go_num, HR2, HW2⟩
                  case measure => simp [intOf]; omega
                · have hjI : ¬ (j : Int) < (i : Int) := by omega
                  clear HRi
                  have hi1 : 1 ≤ i := hn1
                  have hilen : i ≤ len := hge
                  by_cases hce : cp = i
                  · have hlen : len - i = 0 := by omega
                    go_wp2
                    go_roundw
                    case rel => exact ⟨_, 0, 0, rfl, by omega, by omega, fun h => absurd h (by omega), HWi⟩
                    case measure => simp [slen]; omega
                  · have hce' : ¬ cp = i := hce
                    have hce2 : ¬ i = cp := fun h => hce h.symm
                    go_wp2
                    go_roundw
                    case rel => exact ⟨_, len - i, cp - i, rfl, by omega, by omega, fun h => ⟨c + 1, by rw [Hci.out], by rw [Hci.out]; omega⟩, HWi⟩
                    case measure => simp [slen]; omega
            · have hgI : ¬ (i : Int) ≤ (len : Int) := by omega
              have BX : Hid (Below w.heap.size w wr) := bchain BWb.out HW.out
              go_wp2
              go_ret
              exact ⟨rfl, BX.out⟩
end Go.Proofs.Ytaifihfiompgaaa
