/-
  The laws of layer 15: DiskMixes.
-/
import Derived.Test.YtnchmnemclbfcaaDkAll
import Derived.Test.YtnchmnemclbfcaaDkLawB
set_option linter.unusedVariables false
set_option linter.unusedSimpArgs false
namespace Go.Proofs.Ytnchmnemclbfcaa
open Go.RowKit

/-- A list of texts in memory. -/
def Txs (w : World) (v : Value) (ls : List (List Nat)) : Prop :=
  ∃ (ad : Option Addr) (cap b o : Nat), v = .slice ad ls.length cap ∧ ls.length ≤ cap ∧ cap ≤ maxLen ∧ (0 < ls.length → ad = some ⟨b, o, none⟩) ∧ ∀ j, j < ls.length → ∃ x, w.cell? ⟨b, o + j, none⟩ = some x ∧ Bs w x (ls.getD j [])
theorem Txs.len {w : World} {v : Value} {ls : List (List Nat)} (h : Txs w v ls) : ∃ ad cap, v = .slice ad ls.length cap ∧ ls.length ≤ cap ∧ cap ≤ maxLen := by
  obtain ⟨ad, cap, b, o, h1, h2, h3, -⟩ := h
  exact ⟨ad, cap, h1, h2, h3⟩
theorem Txs.cel {w : World} {ad : Option Addr} {n cap : Nat} {ls : List (List Nat)} (h : Txs w (.slice ad n cap) ls) (j : Nat) (hj : j < ls.length) : ∃ b o x, ad = some ⟨b, o, none⟩ ∧ w.cell? ⟨b, o + j, none⟩ = some x ∧ Bs w x (ls.getD j []) := by
  obtain ⟨ad', cap', b, o, e, h2, h3, h4, h5⟩ := h
  injection e with e1 e2 e3
  obtain ⟨x, q⟩ := h5 j hj
  exact ⟨b, o, x, by rw [e1]; exact h4 (by omega), q⟩
/-- Writes to the one block, none of them flushed. -/
structure Mx (ts : List (List Nat)) (j : Nat) (s : Dsk) : Prop where
  len : s.bl.length = 1
  ok : okb (s.bl.getD 0 [])
  mix : Mix ts (s.bl.getD 0 [])
  ar : s.ar = false
  dn : s.dn = false
  un : ∀ u ∈ s.un, u.1 = 0 ∧ okb u.2 ∧ u.2 ∈ ts
  le : s.un.length ≤ j
theorem Mix.more {ts : List (List Nat)} {b : List Nat} (h : Mix ts b) (t : List Nat) : Mix (ts ++ [t]) b := fun j hj => by
  obtain ⟨w, h1, h2⟩ := h j hj
  exact ⟨w, by simp [h1], h2⟩
theorem mx_start {l : List Nat} (hl : l.length ≤ 128) (hb : ∀ c ∈ l, c < 256) : Mx [full l] 0 (flS ⟨(dNew 1).bl, [(0, full l)], false, 0, false⟩) := by
  have h := fls_start (n := 1) (i := 0) (by omega) l
  have hs := h.2.1.is
  refine ⟨?_, by rw [hs]; exact full_ok hl hb, by rw [hs]; exact fun j hj => ⟨full l, by simp, rfl⟩, rfl, rfl, (fun u hu => by cases hu), by rw [h.2.2]; exact Nat.le_refl _⟩
  show (lay _ _).length = 1
  rw [lay_len]
  rfl
theorem mx_wr {ts : List (List Nat)} {j : Nat} {s : Dsk} (h : Mx ts j s) {b : List Nat} (hl : b.length ≤ 128) (hb : ∀ c ∈ b, c < 256) : wrE s 0 b = 0 ∧ Mx (ts ++ [full b]) (j + 1) (wrS s 0 b) := by
  have h1 := h.len
  have ha : dAsk s 0 = 0 := by unfold dAsk; rw [h.dn, if_neg (by simp), if_neg (by omega)]
  have hg : dGo s = true := by unfold dGo; rw [h.ar]; rfl
  constructor
  · unfold wrE
    rw [ha, if_neg (by omega), if_neg (by omega), if_pos hg]
  · have e : wrS s 0 b = { s with un := s.un ++ [(0, full b)] } := by
      unfold wrS
      rw [ha, if_neg (by omega)]
      unfold dGone
      rw [if_neg (by simp [h.ar])]
      rfl
    rw [e]
    refine ⟨h.len, h.ok, h.mix.more _, h.ar, h.dn, fun u hu => ?_, ?_⟩
    · rcases List.mem_append.1 hu with q | q
      · obtain ⟨a1, a2, a3⟩ := h.un u q
        exact ⟨a1, a2, by simp [a3]⟩
      · obtain rfl : u = (0, full b) := by simpa using q
        exact ⟨rfl, full_ok hl hb, by simp⟩
    · show (s.un ++ [(0, full b)]).length ≤ j + 1
      have := h.le
      rw [List.length_append]
      simp
      omega
theorem mx_cr {ts : List (List Nat)} {j : Nat} {s : Dsk} (h : Mx ts j s) (fs : List (Int × Int)) (hs : OkD s) : Mix ts (rdB (crS s fs) 0) ∧ okb (rdB (crS s fs) 0) ∧ dAsk (crS s fs) 0 = 0 ∧ (crS s fs).dn = false ∧ (crS s fs).un = [] := by
  have h1 := h.len
  have hl : (crS s fs).bl.length = 1 := by show (fall _ _ _).length = 1; rw [fall_len, h1]
  have ha : dAsk (crS s fs) 0 = 0 := by unfold dAsk; rw [show (crS s fs).dn = false from rfl, if_neg (by simp), if_neg (by omega)]
  have hr : rdB (crS s fs) 0 = (fall s.un fs s.bl).getD 0 [] := by
    unfold rdB
    rw [ha, if_neg (by omega)]
    rfl
  rw [hr]
  refine ⟨mix_fall ts s.un fs s.bl h1 h.un h.ok h.mix, ?_, ha, rfl, rfl⟩
  exact getD_ok (fall_ok _ _ _ hs.bl hs.un) (by rw [fall_len, h1]; omega)
theorem DkA.ok {V : Disk1} {w0 w : World} {p : Value} {s : Dsk} {v : Value} {ts : List (List Nat)} (h : DkA V w0 w p s v ts) : OkD s := h.dw.ok
set_option maxRecDepth 100000 in
set_option maxHeartbeats 8000000 in
theorem diskMixes_any (V : Disk1) (v : Value) (l : List Nat) (hb : ∀ c ∈ l, c < 256) (vl' : Value) (ls : List (List Nat)) (hbl : ∀ j, j < ls.length → ∀ c ∈ ls.getD j [], c < 256) (vf : Value) (fs : List (Int × Int)) (w : World) (h : Bs w v l) (hx : Txs w vl' ls) (hf : Fts w vf fs) :
    Calls Try.prog 6 #[v, vl', vf] w fun e w' => e = .returned (.bool true) ∧ Below w.heap.size w w' := by
  have HL : Hid (Bs w v l ∧ Txs w vl' ls ∧ Fts w vf fs) := ⟨h, hx, hf⟩
  have HY : Hid ((∀ c ∈ l, c < 256) ∧ ∀ j, j < ls.length → ∀ c ∈ ls.getD j [], c < 256) := ⟨hb, hbl⟩
  obtain ⟨ad, cap, rfl, k1, k2⟩ := h.len
  obtain ⟨al, cpl, rfl, k3, k4⟩ := hx.len
  obtain ⟨af, cpf, rfl, k5, k6⟩ := hf.len
  unfold maxLen at k2 k4 k6
  obtain ⟨n, hn⟩ : ∃ n, l.length = n := ⟨_, rfl⟩
  obtain ⟨m, hm⟩ : ∃ m, ls.length = m := ⟨_, rfl⟩
  obtain ⟨q, hq⟩ : ∃ q, fs.length = q := ⟨_, rfl⟩
  have HN : Hid (l.length = n ∧ ls.length = m ∧ fs.length = q) := ⟨hn, hm, hq⟩
  rw [hn] at k1
  rw [hm] at k3
  rw [hq] at k5
  rw [hn, hm, hq] at HL ⊢
  clear h hx hf hn hm hq hb hbl
  go_enter Try.func6, Try.ntmps6
  go_wp2_with fail
  refine (awake15 V w).mono ?_
  rintro e w1 ⟨rfl, hb1⟩
  have HB1 : Hid (Below w.heap.size w w1) := hb1
  clear hb1
  by_cases q1 : 128 < n
  · have q1I : (128 : Int) < (n : Int) := by omega
    go_wp2
    go_ret
    exact ⟨rfl, HB1.out⟩
  have q1I : ¬ (128 : Int) < (n : Int) := by omega
  by_cases q2 : 20 < m
  · have q2I : (20 : Int) < (m : Int) := by omega
    go_wp2
    go_ret
    exact ⟨rfl, HB1.out⟩
  have q2I : ¬ (20 : Int) < (m : Int) := by omega
  by_cases q3 : 100 < q
  · have q3I : (100 : Int) < (q : Int) := by omega
    go_wp2
    go_ret
    exact ⟨rfl, HB1.out⟩
  have q3I : ¬ (100 : Int) < (q : Int) := by omega
  have HQ : Hid (n ≤ 128 ∧ m ≤ 20 ∧ q ≤ 100) := ⟨by omega, by omega, by omega⟩
  go_wp2_with fail
  refine (dwNew V w w1 1 (by omega) (by omega) HB1.out).mono ?_
  rintro e w3 ⟨p, rfl, hD3⟩
  have HD3 : Hid (Dw V w w3 p (dNew 1)) := hD3
  clear hD3 HB1
  go_wp2_with fail
  refine (dwWrite (HD3.out.old (Ls.lo HL.out.1)) 0 (HL.out.1.later HD3.out.bel) HY.out.1 (by have := HN.out; have := HQ.out; omega) (Nat.zero_le _)).mono ?_
  rintro e w4 ⟨rfl, hD4⟩
  obtain ⟨e4, f4⟩ := wr_new (n := 1) (i := 0) (by omega) (b := l) (by have := HN.out; have := HQ.out; omega)
  rw [show ((0 : Nat) : Int) = 0 from rfl] at e4 f4
  rw [f4]
  rw [e4] at hD4
  have HG5 : Hid (flE ⟨(dNew 1).bl, [(0, full l)], false, 0, false⟩ = 0 ∧ Mx [full l] 0 (flS ⟨(dNew 1).bl, [(0, full l)], false, 0, false⟩)) := ⟨rfl, mx_start (by have := HN.out; have := HQ.out; omega) HY.out.1⟩
  have HD4 : Hid (Dw V w w4 p ⟨(dNew 1).bl, [(0, full l)], false, 0, false⟩) := hD4
  clear hD4 HD3 e4 f4
  go_wp2_with fail
  refine (dwFlush HD4.out (show 1 ≤ 1000 by omega)).mono ?_
  rintro e w5 ⟨rfl, hD5⟩
  rw [HG5.out.1]
  generalize flS ⟨(dNew 1).bl, [(0, full l)], false, 0, false⟩ = s5 at *
  have HD5 : Hid (Dw V w w5 p s5) := hD5
  have HS5 : Hid (Mx [full l] 0 s5) := HG5.out.2
  clear hD5 HD4 HG5
  go_wp2_with fail
  refine (refFull _ l (by have := HN.out; have := HQ.out; omega) _ (HL.out.1.later HD5.out.bel)).mono ?_
  rintro e w6 ⟨v6, rfl, hL6, hO6, hb6⟩
  have HK6 : Hid (∀ ty, ty = 32 → DkA V w (w6.alloc (.cells #[v6] ty)) p s5 (.slice (some ⟨w6.heap.size, 0, none⟩) 1 1) [full l]) := fun ty hty => DkA.first HD5.out hb6 hL6 hO6 ty hty
  obtain ⟨a6, c6, rfl, -, -⟩ := hL6.len
  generalize (full l).length = n6 at *
  clear hL6 hO6 hb6 HD5
  go_upto_region 10 with fail
  have HK7 := HK6.out _ rfl
  have HKA : Hid (DkA V w (w6.alloc (.cells #[.slice a6 n6 c6] 32)) p s5 (.slice (some ⟨w6.heap.size, 0, none⟩) 1 1) [full l]) := HK7
  clear HK6 HK7
  generalize w6.alloc (.cells #[.slice a6 n6 c6] 32) = w7 at *
  have HT0 : Hid (∀ t ∈ [full l], t.length = 128) := fun t ht => by
    obtain rfl : t = full l := by simpa using ht
    exact full_len (by have := HN.out; have := HQ.out; omega)
  go_loopw [9, 56] (fun s9 s56 wr => ∃ (j : Nat) (s : Dsk) (ts : List (List Nat)), j ≤ m ∧ s56 = .int .i64 (j : Int) ∧ Hid (DkA V w wr p s s9 ts) ∧ Hid (Mx ts j s ∧ ts.length = j + 1) ∧ Hid (∀ t ∈ ts, t.length = 128)) (fun _ s56 _ => m - (intOf s56).toNat)
  case atStart => exact ⟨0, s5, [full l], by omega, rfl, HKA, ⟨HS5.out, rfl⟩, HT0⟩
  case round =>
    obtain ⟨j, s, ts, hj, rfl, HD, HA, HT⟩ := hrel
    obtain ⟨ad9, cp9, rfl⟩ := HD.out.sl
    have htl := HA.out.2
    rw [htl] at HD ⊢
    by_cases hlt : j < m
    · have hjI : (j : Int) < (m : Int) := by omega
      have hM := HN.out.2.1
      obtain ⟨b, o, x, rfl, c0, hX⟩ := HL.out.2.1.cel j (by omega)
      have HX : Hid (Bs w x (ls.getD j []) ∧ Lo w.heap.size x ∧ ∀ c ∈ ls.getD j [], c < 256) := ⟨hX, Ls.lo hX, HY.out.2 j (by omega)⟩
      obtain ⟨a1, p1, rfl, -, -⟩ := hX.len
      have x0 := cell_later HD.out.bel c0
      clear c0 hX hM
      generalize ls.getD j [] = bb at *
      obtain ⟨nb, hnb⟩ : ∃ nb, bb.length = nb := ⟨_, rfl⟩
      have HNb : Hid (bb.length = nb) := hnb
      rw [hnb] at x0 HX
      clear hnb
      by_cases q4 : 128 < nb
      · have q4I : (128 : Int) < (nb : Int) := by omega
        have HBx : Hid (Below w.heap.size w wr) := HD.out.bel
        clear HD
        go_wp2
        go_ret
        exact ⟨rfl, HBx.out⟩
      have q4I : ¬ (128 : Int) < (nb : Int) := by omega
      have HB4 : Hid (nb ≤ 128) := by show _ ≤ _; omega
      go_wp2_with fail
      refine (dkWrite HD.out HX.out.2.1 0 (HX.out.1.later HD.out.bel) HX.out.2.2 (by have := HNb.out; have := HB4.out; omega) (by have := HA.out.1.le; have := HQ.out; omega)).mono ?_
      rintro e w8 ⟨rfl, hD8⟩
      obtain ⟨e8, f8⟩ := mx_wr HA.out.1 (b := bb) (by have := HNb.out; have := HB4.out; omega) HX.out.2.2
      rw [e8]
      generalize wrS s 0 bb = s8 at *
      have HD8 : Hid (DkA V w w8 p s8 (.slice ad9 (j + 1) cp9) ts) := hD8
      have HA8 : Hid (Mx (ts ++ [full bb]) (j + 1) s8) := f8
      clear hD8 e8 f8 HD x0
      go_wp2_with fail
      refine (refFull _ bb (by have := HNb.out; have := HB4.out; omega) _ (HX.out.1.later HD8.out.bel)).mono ?_
      rintro e w9 ⟨v9, rfl, hL9, hO9, hb9⟩
      obtain ⟨a9, c9, rfl, -, -⟩ := hL9.len
      have HF9 : Hid (Bs w9 (.slice a9 (full bb).length c9) (full bb) ∧ Ow w8.heap.size (.slice a9 (full bb).length c9) ∧ Below w8.heap.size w8 w9 ∧ DkA V w w9 p s8 (.slice ad9 (j + 1) cp9) ts) := ⟨hL9, hO9, hb9, HD8.out.later hb9⟩
      have HT9 : Hid (∀ t ∈ ts ++ [full bb], t.length = 128) := fun t ht => by
        rcases List.mem_append.1 ht with r | r
        · exact HT.out t r
        · obtain rfl : t = full bb := by simpa using r
          exact full_len (by have := HNb.out; have := HB4.out; omega)
      clear hL9 hO9 hb9
      generalize full bb = fb at *
      generalize fb.length = nfb at *
      go_wp2_with (at_builtin; refine apDk rfl _ _ rfl V w p s8 (.slice ad9 (j + 1) cp9) ts rfl HF9.out.2.2.2 w8 HD8.out HF9.out.2.2.1 a9 nfb c9 fb HF9.out.1 HF9.out.2.1 _ rfl (by have := HA.out.2; have := HQ.out; omega) ?_; intro v10 w10 hK10)
      have HK10 : Hid (DkA V w w10 p s8 v10 (ts ++ [fb])) := hK10
      clear hK10 HF9 HD8
      go_wp2
      go_roundw
      case rel => exact ⟨j + 1, s8, ts ++ [fb], by omega, by go_num, HK10, ⟨HA8.out, by rw [List.length_append]; have := HA.out.2; simp; omega⟩, HT9⟩
      case measure => simp [intOf]; omega
    · obtain rfl : j = m := by omega
      have hjI : ¬ (j : Int) < (j : Int) := by omega
      go_wp2_with fail
      refine (dkCrash HD.out HL.out.2.2.lo (HL.out.2.2.later HD.out.bel) (by have := HN.out; have := HQ.out; omega) (by have := HA.out.1.le; have := HQ.out; omega)).mono ?_
      rintro e w8 ⟨rfl, hD8⟩
      have HC : Hid (Mix ts (rdB (crS s fs) 0) ∧ okb (rdB (crS s fs) 0) ∧ dAsk (crS s fs) 0 = 0 ∧ (crS s fs).dn = false ∧ (crS s fs).un = []) := mx_cr HA.out.1 fs HD.out.ok
      generalize crS s fs = s8 at *
      have HD8 : Hid (DkA V w w8 p s8 (.slice ad9 (j + 1) cp9) ts) := hD8
      clear hD8 HD
      go_wp2_with fail
      refine (dkDown HD8.out).mono ?_
      rintro e w9 ⟨rfl, hD9⟩
      rw [HC.out.2.2.2.1]
      have HD9 : Hid (DkA V w w9 p s8 (.slice ad9 (j + 1) cp9) ts) := hD9
      clear hD9 HD8
      go_wp2_with fail
      refine (dkUnder HD9.out (by rw [HC.out.2.2.2.2]; exact Nat.zero_le _)).mono ?_
      rintro e w10 ⟨v10, rfl, hL10, hD10⟩
      rw [HC.out.2.2.2.2] at hL10
      obtain ⟨a10, c10, rfl, -, -⟩ := hL10.len
      rw [show (List.map (fun u : Nat × List Nat => ((u.1 : Nat) : Int)) []).length = 0 from rfl] at hL10 ⊢
      have HD10 : Hid (DkA V w w10 p s8 (.slice ad9 (j + 1) cp9) ts) := hD10
      clear hD10 HD9 hL10
      go_wp2_with fail
      refine (dwRead HD10.out.dw 0).mono ?_
      rintro e w11 ⟨v11, rfl, hL11, -, hb11⟩
      rw [HC.out.2.2.1]
      have HR : Hid (Bs w11 v11 (rdB s8 0) ∧ (rdB s8 0).length = 128 ∧ Mix ts (rdB s8 0) ∧ DkA V w w11 p s8 (.slice ad9 (j + 1) cp9) ts) := ⟨hL11, HC.out.2.1.1, HC.out.1, HD10.out.later hb11⟩
      obtain ⟨a11, c11, rfl, -, -⟩ := hL11.len
      have h128 := HR.out.2.1
      have HR2 : Hid ((rdB s8 0).length = 128) := h128
      rw [h128] at HR ⊢
      generalize rdB s8 0 = R at *
      clear hL11 hb11 HD10 h128
      go_upto_region 24 with fail
      go_loopw [101] (fun s101 wr => ∃ i : Nat, i ≤ 128 ∧ s101 = .int .i64 (i : Int) ∧ wr = w11) (fun s101 _ => 128 - (intOf s101).toNat)
      case atStart => exact ⟨0, by omega, rfl, rfl⟩
      case round =>
        obtain ⟨i, hi, rfl, hwr⟩ := hrel
        have hwr := hwr.symm
        subst hwr
        by_cases hil : i < 128
        · have hiI : (i : Int) < 128 := by omega
          obtain ⟨g1, o1, rfl, y0⟩ := HR.out.1.cel i (by have := HR2.out; omega)
          have HMi : Hid (∃ t ∈ ts, R.getD i 0 = t.getD i 0) := HR.out.2.2.1 i hil
          generalize R.getD i 0 = ch at *
          go_upto_region 28 with fail
          go_loopw [16, 108] (fun s16 s108 wr => ∃ (k : Nat) (B : Bool), k ≤ j + 1 ∧ s108 = .int .i64 (k : Int) ∧ s16 = .bool B ∧ wr = w11 ∧ Hid (B = true ↔ ∃ z, z < k ∧ ch = (ts.getD z []).getD i 0)) (fun _ s108 _ => j + 1 - (intOf s108).toNat)
          case atStart => exact ⟨0, false, by omega, rfl, rfl, rfl, ⟨(fun e => by cases e), (fun ⟨z, hz, _⟩ => by omega)⟩⟩
          case round =>
            obtain ⟨k, B, hk, rfl, rfl, hwr, HBk⟩ := hrel
            have hwr := hwr.symm
            subst hwr
            by_cases hkl : k < j + 1
            · have hkI : (k : Int) < ((j + 1 : Nat) : Int) := by omega
              have htl := HA.out.2
              obtain ⟨g2, x, e2, z0, hX⟩ := HR.out.2.2.2.cel k (by omega)
              cases e2
              have hxl : (ts.getD k []).length = 128 := HT.out _ (by
                have e : ts.getD k [] = ts[k]'(by omega) := by simp [List.getD, show k < ts.length by omega]
                rw [e]
                exact List.getElem_mem _)
              obtain ⟨a3, p3, rfl, -, -⟩ := hX.len
              rw [hxl] at hX z0
              obtain ⟨g3, o3, rfl, z1⟩ := hX.cel i (by omega)
              have HB2 : Hid (∀ B' : Bool, (B' = true ↔ B = true ∨ (ts.getD k []).getD i 0 = ch) → (B' = true ↔ ∃ z, z < k + 1 ∧ ch = (ts.getD z []).getD i 0)) := fun B' hB' => by
                rw [hB', HBk.out]
                constructor
                · rintro (⟨z, hz, e⟩ | e)
                  · exact ⟨z, by omega, e⟩
                  · exact ⟨k, by omega, e.symm⟩
                · rintro ⟨z, hz, e⟩
                  by_cases q : z = k
                  · subst q; exact Or.inr e.symm
                  · exact Or.inl ⟨z, by omega, e⟩
              clear hX hxl htl HBk
              generalize (ts.getD k []).getD i 0 = y at *
              cases B with
              | true =>
                have HB3 : Hid (true = true ↔ ∃ z, z < k + 1 ∧ ch = (ts.getD z []).getD i 0) := HB2.out true (by simp)
                go_wp2
                go_roundw
                case rel => exact ⟨k + 1, true, by omega, by go_num, rfl, by trivial, HB3⟩
                case measure => simp [intOf]; omega
              | false =>
                by_cases qy : y = ch
                · have hyB : (((y : Nat) : Int) == ((ch : Nat) : Int)) = true := by simp [qy]
                  have HB3 : Hid (true = true ↔ ∃ z, z < k + 1 ∧ ch = (ts.getD z []).getD i 0) := HB2.out true (by simp [qy])
                  go_wp2
                  go_roundw
                  case rel => exact ⟨k + 1, true, by omega, by go_num, by simp [hyB], by trivial, HB3⟩
                  case measure => simp [intOf]; omega
                · have hyB : (((y : Nat) : Int) == ((ch : Nat) : Int)) = false := by simp; omega
                  have HB3 : Hid (false = true ↔ ∃ z, z < k + 1 ∧ ch = (ts.getD z []).getD i 0) := HB2.out false (by simp [qy])
                  go_wp2
                  go_roundw
                  case rel => exact ⟨k + 1, false, by omega, by go_num, by simp [hyB], by trivial, HB3⟩
                  case measure => simp [intOf]; omega
            · obtain rfl : k = j + 1 := by omega
              have hkI : ¬ ((j + 1 : Nat) : Int) < ((j + 1 : Nat) : Int) := by omega
              obtain rfl : B = true := HBk.out.2 (by
                obtain ⟨t, ht, e⟩ := HMi.out
                obtain ⟨z, hz, rfl⟩ := List.getElem_of_mem ht
                exact ⟨z, by have := HA.out.2; omega, by rw [e]; simp [List.getD, hz]⟩)
              clear HBk
              go_wp2
              go_roundw
              case rel => exact ⟨i + 1, by omega, by go_num, by trivial⟩
              case measure => simp [intOf]; omega
        · obtain rfl : i = 128 := by omega
          have hiI : ¬ ((128 : Nat) : Int) < 128 := by omega
          have HBf : Hid (Below w.heap.size w w11) := HR.out.2.2.2.bel
          go_wp2
          go_ret
          exact ⟨rfl, HBf.out⟩
end Go.Proofs.Ytnchmnemclbfcaa
