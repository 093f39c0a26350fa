/-
  The laws of layer 17: JournalFalls.
-/
import Derived.Test.YtkbpcmjdfaokhaaDoorZ24
import Derived.Test.YtkbpcmjdfaokhaaDoorYJnLawO
import Derived.Test.YtkbpcmjdfaokhaaDoorZ06

set_option linter.unusedVariables false
set_option linter.unusedSimpArgs false
namespace Go.Proofs.YtkbpcmjdfaokhaaDoor
open Go.RowKit

/-- An Append in a life. -/
theorem japp_go {base size g i : Nat} {rs : List (List Nat)} {used : Nat} {s : Dsk} (h : JIn base size g i rs used s) (hg : g ≠ 0) {r : List Nat} (hr : ∀ c ∈ r, c < 256) (hl : r.length ≤ 262144) :
    japp s base size ⟨g, rs.length, used⟩ r = (170, s, ⟨g, rs.length, used⟩) ∨
    (∃ s', japp s base size ⟨g, rs.length, used⟩ r = (0, s', ⟨g, (rs ++ [r]).length, used + prt r.length⟩) ∧ JIn base size g i (rs ++ [r]) (used + prt r.length) s') ∨
    (∃ s', japp s base size ⟨g, rs.length, used⟩ r = (150, s', ⟨0, rs.length, used⟩) ∧ JFl base size g i rs used r s') := by
  by_cases hroom : size - used < prt r.length
  · exact Or.inl (japp_full hg hl hroom)
  · have e : (jput s base ⟨g, rs.length, used⟩ r) = jfl (jwr (base + used) r (rs.length + 1) g (prt r.length) 0 s) := rfl
    have hu := h.us
    right
    rcases h.app hr hl (by omega) with ⟨q1, q2⟩ | ⟨q1, q2⟩
    · refine Or.inl ⟨_, ?_, q2⟩
      unfold japp
      rw [if_neg hg, if_neg (by omega), if_neg hroom, e, if_neg (by rw [q1]; simp)]
      simp
    · refine Or.inr ⟨_, ?_, q2⟩
      unfold japp
      rw [if_neg hg, if_neg (by omega), if_neg hroom, e, if_pos (by rw [q1]; simp), q1]
/-- A list of one's own is appended to none. -/
theorem apNone17 {ops : Array Oper} {rest : List Oper} {o : Oper} {a : Act} {w0 w : World} {Q : Exit → Act → World → Prop} (hgd : o.guard = none) (s x : Operand)
    (ho : o.op = .call { callee := .builtin .append, args := #[s, x], argTypes := #[53, 53] })
    (hs : a.eval s = .slice none 0 0) (v : Value) (ls : List (List Nat)) (hT : KpO w0 w v ls) (hx : a.eval x = v) (hlen : ls.length ≤ 100000) (hbase : w0.heap.size ≤ w.heap.size)
    (h : ∀ v' w', KpO w0 w' v' ls → Below w.heap.size w w' → (∀ g, v'.ownBlock = some g → w.heap.size ≤ g) → wpList Tryd.prog ops Q rest (a.put o.dst v') w') : wpList Tryd.prog ops Q (o :: rest) a w := by
  obtain ⟨i0, hti, hy0, hy1, hy2⟩ := info_parts dinfo_bys
  obtain ⟨cs, h5, h6⟩ := hT
  rcases id h5.2 with ⟨rfl, h0⟩ | ⟨g, c, cur, rfl, hbg, hg, hnc, hcm, hcs, htake⟩
  · refine wpList_append_own_none hgd s x 53 ho w0.heap.size 40 i0 1 Tryd.underlying53 hti (.slice none 0 0) 0 [] hs (World.ownsRow_nil _ _ _ _) hx ?_
    exact h _ w ⟨cs, h5, h6⟩ (Below.refl _ _) (fun g hg => by cases hg)
  · refine wpList_append_own_at _ hgd s x 53 ho w.heap.size 40 i0 (.slice none 0 0) 1 24 Tryd.underlying53 hti hy0 hy1 hy2 rfl (by decide) (.slice none 0 0) 0 [] hs (World.ownsRow_nil _ _ _ _) ⟨g, 0, none⟩ ls.length c cs hx h5.1
      (fun j u hj => by
        have hjl : j < cs.length := (List.getElem?_eq_some_iff.1 hj).1
        rw [Addr.add_mid, Nat.zero_add, h5.cellAt j (by rw [← h5.1]; exact hjl)]
        exact hj)
      (fun u hu => by
        obtain ⟨k, hk⟩ := List.getElem?_of_mem hu
        have hkl : k < cs.length := (List.getElem?_eq_some_iff.1 hk).1
        obtain ⟨y, e1, e2⟩ := h6 k (by have := h5.1; omega)
        rw [e1] at hk
        cases hk
        obtain ⟨ad, cap, e, -, -⟩ := e2.len
        rw [e]
        rfl) (by unfold maxLen; omega) (by omega) (Nat.le_refl _) ?_
    intro v' w' hown hgrow _ _
    have hgs := hgrow.size
    rw [Nat.zero_add, List.nil_append] at hown
    refine h v' w' ⟨cs, ⟨hown.1, ?_⟩, h6⟩ ⟨hgrow.os, hgrow.tape, hgrow.output, hgs, fun k hk => hgrow.block k hk (by simp [Value.ownBlock])⟩ (fun g' hg' => (hown.lt g' hg').1)
    rcases hown.2 with q | ⟨g', c', cur', e1, e2, r⟩
    · exact Or.inl q
    · exact Or.inr ⟨g', c', cur', e1, Nat.le_trans hbase e2, r⟩
/-- A journal on a disk, beside blocks that are newer than the disk. -/
theorem jdNewB {V : Disk1} (J : Jour1 V) {w0 w wC : World} {d : Value} {s : Dsk} (h : Dw V w0 w d s) (k : Below w.heap.size w wC) (base size : Nat) (h1 : 1 ≤ size) (hr : base + size ≤ s.bl.length) :
    Calls Tryd.prog 10 #[d, .int .i64 (base : Int), .int .i64 (size : Int)] wC fun e w' => ∃ a, e = .returned (.tuple #[.pointer (some a), .int .i64 0]) ∧ P2 (JD V J d (.pointer (some a)) base size s ⟨0, 0, 0⟩) Nil2 w0 w' (fun i => w.heap.size ≤ i ∧ i < wC.heap.size) ∧ Below wC.heap.size wC w' := by
  obtain ⟨F, k1, k2, k3⟩ := h
  have hF := fun q hq => V.dtB k1 q hq
  have k1' : V.Dt wC d F s := V.dtK k1 (fun q hq => k.block q (hF q hq)) k.size
  have hs0 := k3.size
  have hs1 := k.size
  refine (J.newY wC d F s base size k1' h1 hr).mono fun e w' ⟨a, G, e1, e2, e3, e4⟩ => ⟨a, e1, ⟨fun q => F q ∨ G q, fun _ => False, ⟨F, G, V.dtK k1' (fun q hq => e4.block q (V.dtB k1' q hq)) e4.size, e2, fun q hf hg => ?_, rfl⟩, fun q h => h.elim, fun q hq => ?_, fun q h => h.elim, fun q _ h => h.elim, fun q hq => ?_, bchain (bchain k3 k) e4⟩, e4⟩
  · have := hF q hf; have := e3 q hg; omega
  · rcases hq with hq | hq
    · exact k2 q hq
    · have := e3 q hq; omega
  · have := e4.size
    refine ⟨fun q2 => ?_, fun h => h.elim, by omega, by omega⟩
    rcases q2 with q2 | q2
    · have := hF q q2; omega
    · have := e3 q q2; omega
/-- A life in a box. -/
structure Bl17 (bx : Nat) (v0 : Value) (n : Int) (v2 : Value) (w : World) : Prop where
  z0 : w.cell? ⟨bx, 0, none⟩ = some v0
  z1 : w.cell? ⟨bx, 1, none⟩ = some (.int .i64 n)
  z2 : w.cell? ⟨bx, 2, none⟩ = some v2
theorem Bl17.kept {bx : Nat} {v0 : Value} {n : Int} {v2 : Value} {w w' : World} (h : Bl17 bx v0 n v2 w) (k : w'.heap[bx]? = w.heap[bx]?) : Bl17 bx v0 n v2 w' :=
  ⟨cell_blk5 (a := ⟨bx, 0, none⟩) k h.z0, cell_blk5 (a := ⟨bx, 1, none⟩) k h.z1, cell_blk5 (a := ⟨bx, 2, none⟩) k h.z2⟩
theorem Bl17.later {bx : Nat} {v0 : Value} {n : Int} {v2 : Value} {w w' : World} (h : Bl17 bx v0 n v2 w) (k : Below w.heap.size w w') : Bl17 bx v0 n v2 w' := h.kept (k.block bx (World.block_lt_of_cell? _ _ h.z0))
/-- In a life, between two appends. -/
structure Fal17 (V : Disk1) (J : Jour1 V) (d q : Value) (n g i bx : Nat) (v0 : Value) (nn : Int) (v2 : Value) (w0 w : World) (v : Value) (ls : List (List Nat)) (used : Nat) (s : Dsk) : Prop where
  p : P2 (JD V J d q 0 n s ⟨g, ls.length, used⟩) Nil2 w0 w (fun k => k = bx ∨ v.ownBlock = some k)
  k : KpO w0 w v ls
  i : JIn 0 n g i ls used s
  q : Jq n s
  b : Bl17 bx v0 nn v2 w
  o : ∀ g, v.ownBlock = some g → bx < g
/-- Behind the appends of a life, ahead of the fall. -/
structure Tl17 (V : Disk1) (J : Jour1 V) (d q : Value) (n g bx : Nat) (v0 : Value) (nn : Int) (v2 : Value) (fs : List (Int × Int)) (w0 w : World) (v v' : Value) (ls ms rd : List (List Nat)) (j : Jst) (s : Dsk) : Prop where
  p : P2 (JD V J d q 0 n s j) Nil2 w0 w (fun k => k = bx ∨ v.ownBlock = some k ∨ v'.ownBlock = some k)
  k : KpO w0 w v ls
  k' : KpO w0 w v' ms
  q : Jq n s
  b : Bl17 bx v0 nn v2 w
  r : JRest 0 n g (crS s fs)
  e : jread (rb (crS s fs)) 0 n g = rd
  c : rd = ls ∨ (rd = ms ∧ ms ≠ [])
/-- Between two lives. -/
def Lif17 (V : Disk1) (d : Value) (n i : Nat) (w0 w : World) (s : Dsk) : Prop := Dw V w0 w d s ∧ JRest 0 n i s ∧ Jq n s
set_option maxRecDepth 100000 in
set_option maxHeartbeats 32000000 in
theorem journalFalls_any {V : Disk1} (J : Jour1 V) (size : Int) (hs : Bd64 size) (vl : Value) (os : List Lfj) (hbt : ∀ j, j < os.length → (∀ k, k < (os.getD j lfj0).ts.length → ∀ c ∈ (os.getD j lfj0).ts.getD k [], c < 256) ∧ Bd64 (os.getD j lfj0).n) (w : World) (ht : Lvj w vl os) (hT : JT w) :
    Calls Tryd.prog 5 #[.int .i64 size, vl] w fun e w' => e = .returned (.bool true) ∧ Below w.heap.size w w' := by
  have HL : Hid (Lvj w vl os ∧ ∀ j, j < os.length → (∀ k, k < (os.getD j lfj0).ts.length → ∀ c ∈ (os.getD j lfj0).ts.getD k [], c < 256) ∧ Bd64 (os.getD j lfj0).n) := ⟨ht, hbt⟩
  obtain ⟨al, cl, rfl, k3, k4⟩ := ht.len
  unfold maxLen at k4
  obtain ⟨m, hm⟩ : ∃ m, os.length = m := ⟨_, rfl⟩
  have HM : Hid (os.length = m) := hm
  rw [hm] at k3 HL ⊢
  have HT : Hid (JT w) := hT
  clear ht hm hbt hT
  go_enter Tryd.func5, Tryd.ntmps5
  go_wp2_with fail
  refine (awake17 J w HT.out).mono ?_
  rintro e w1 ⟨rfl, hb1⟩
  have HB1 : Hid (Below w.heap.size w w1) := hb1
  clear hb1
  by_cases q1 : size < 1
  · go_wp2
    go_ret
    exact ⟨rfl, HB1.out⟩
  by_cases q2 : 20 < size
  · go_wp2
    go_ret
    exact ⟨rfl, HB1.out⟩
  by_cases q3 : 20 < m
  · have q3I : (20 : Int) < (m : Int) := by omega
    go_wp2
    go_ret
    exact ⟨rfl, HB1.out⟩
  have q3I : ¬ (20 : Int) < (m : Int) := by omega
  obtain ⟨n, rfl⟩ : ∃ n : Nat, size = (n : Int) := ⟨size.toNat, by omega⟩
  have HN : Hid (1 ≤ n ∧ n ≤ 20) := ⟨by omega, by omega⟩
  go_wp2_with fail
  refine (dwNew V w w1 n HN.out.1 (by have := HN.out; omega) HB1.out).mono ?_
  rintro e w2 ⟨d, rfl, hD2⟩
  have HO2 : Hid (Lif17 V d n 0 w w2 (dNew n)) := ⟨hD2, jrest_new (by omega), jq_new n⟩
  clear hD2 HB1
  go_upto_region 9 with fail
  go_loopw [42] (fun s42 wr => ∃ (i : Nat) (s : Dsk), i ≤ m ∧ s42 = .int .i64 (i : Int) ∧ Hid (Lif17 V d n i w wr s)) (fun s42 _ => m - (intOf s42).toNat)
  case atStart => exact ⟨0, dNew n, by omega, rfl, HO2.out⟩
  case round =>
    obtain ⟨i, s, hi, rfl, HO⟩ := hrel
    clear HO2
    by_cases hlt : i < m
    · have hiI : (i : Int) < (m : Int) := by omega
      have hi0 : (0 : Int) ≤ (i : Int) := by omega
      obtain ⟨b, o, vb, vf, rfl, c0, c1, c2, hT, hF⟩ := HL.out.1.cel i (by have := HM.out; omega)
      have HXb := hid5 (HL.out.2 i (by have := HM.out; omega))
      have hbe := HO.out.1.bel
      have z0 := cell_later hbe c0
      have z1 := cell_later hbe c1
      have z2 := cell_later hbe c2
      generalize (os.getD i lfj0).ts = ts at *
      generalize (os.getD i lfj0).n = nn at *
      generalize (os.getD i lfj0).fs = fs at *
      obtain ⟨at_, ct, rfl, -, -⟩ := hT.len
      obtain ⟨af, cf, rfl, -, -⟩ := hF.len
      obtain ⟨nt, hnt⟩ : ∃ nt, ts.length = nt := ⟨_, rfl⟩
      obtain ⟨nf, hnf⟩ : ∃ nf, fs.length = nf := ⟨_, rfl⟩
      have HX : Hid (Txs w (.slice at_ nt ct) ts ∧ Fts w (.slice af nf cf) fs ∧ ts.length = nt ∧ fs.length = nf) := ⟨by rw [← hnt]; exact hT, by rw [← hnf]; exact hF, hnt, hnf⟩
      rw [hnt] at z0
      rw [hnf] at z2
      clear hT hF c0 c1 c2 hnt hnf hbe
      have w1i : IntKind.i64.wrap ((i : Int) + 1) = ((i + 1 : Nat) : Int) := by rw [IntKind.wrap_i64]; omega
      obtain ⟨wC, hwC⟩ : ∃ wC, wC = wr.alloc (.cells #[.slice at_ nt ct, .int .i64 nn, .slice af nf cf] 61) := ⟨_, rfl⟩
      have HC : Hid (Lif17 V d n i w wC s ∧ wC.cell? ⟨wr.heap.size, 0, none⟩ = some (.slice at_ nt ct) ∧ wC.cell? ⟨wr.heap.size, 1, none⟩ = some (.int .i64 nn) ∧ wC.cell? ⟨wr.heap.size, 2, none⟩ = some (.slice af nf cf) ∧ w.heap.size ≤ wr.heap.size ∧ wr.heap.size < wC.heap.size) := by
        rw [hwC]
        exact ⟨⟨HO.out.1.later (bel1 _ _), HO.out.2.1, HO.out.2.2⟩, by simp [go_sem], by simp [go_sem], by simp [go_sem], HO.out.1.bel.size, by simp⟩
      have HNw : Hid (Calls Tryd.prog 10 #[d, .int .i64 0, .int .i64 (n : Int)] wC fun e w' => ∃ a, e = .returned (.tuple #[.pointer (some a), .int .i64 0]) ∧ P2 (JD V J d (.pointer (some a)) 0 n s ⟨0, 0, 0⟩) Nil2 w w' (fun k => k = wr.heap.size) ∧ Below wC.heap.size wC w') := by
        have h := jdNewB J HO.out.1 (wC := wC) (by rw [hwC]; exact bel1 _ _) 0 n HN.out.1 (by have := HO.out.2.1.rm; omega)
        exact h.mono fun e w' ⟨a, e1, e2, e3⟩ => ⟨a, e1, e2.weak (fun k hk => ⟨by omega, by rw [hk, hwC]; simp⟩), e3⟩
      go_upto_region 11 with fail
      rw [← hwC]
      clear hwC z0 z1 z2 HO
      obtain ⟨bx, hbx⟩ : ∃ bx, wr.heap.size = bx := ⟨_, rfl⟩
      rw [hbx] at HC HNw ⊢
      clear hbx
      have z0 := HC.out.2.1
      have z1 := HC.out.2.2.1
      have z2 := HC.out.2.2.2.1
      by_cases q4 : 12 < nt
      · have q4I : (12 : Int) < (nt : Int) := by omega
        have HBf : Hid (Below w.heap.size w wC) := HC.out.1.1.bel
        go_wp2
        go_ret
        exact ⟨rfl, HBf.out⟩
      have q4I : ¬ (12 : Int) < (nt : Int) := by omega
      by_cases q5 : 60 < nf
      · have q5I : (60 : Int) < (nf : Int) := by omega
        have HBf : Hid (Below w.heap.size w wC) := HC.out.1.1.bel
        go_wp2
        go_ret
        exact ⟨rfl, HBf.out⟩
      have q5I : ¬ (60 : Int) < (nf : Int) := by omega
      go_upto_region 13 with fail
      clear z0 z1 z2
      go_wp2_with fail
      refine HNw.out.mono ?_
      rintro e w3 ⟨aq, rfl, hD3, hb3⟩
      have HD3 : Hid (P2 (JD V J d (.pointer (some aq)) 0 n s ⟨0, 0, 0⟩) Nil2 w w3 (fun k => k = bx) ∧ Bl17 bx (.slice at_ nt ct) nn (.slice af nf cf) w3 ∧ bx < w3.heap.size) := ⟨hD3, (Bl17.mk HC.out.2.1 HC.out.2.2.1 HC.out.2.2.2.1).later hb3, by have := HC.out.2.2.2.2.2; have := hb3.size; omega⟩
      have HJr : Hid (JRest 0 n i s ∧ Jq n s ∧ n ≤ 20 ∧ i < 20) := ⟨HC.out.1.2.1, HC.out.1.2.2, HN.out.2, by omega⟩
      clear hD3 hb3 HC HNw
      have ER : Hid (rdE17 s ((i + 1 : Nat) : Int) = 0 ∧ rdL17 s 0 n ((i + 1 : Nat) : Int) = []) := by
        have hd := HJr.out.1.dn
        refine ⟨?_, ?_⟩
        · unfold rdE17; rw [if_neg (by omega), if_neg (by rw [hd]; simp)]
        · unfold rdL17; rw [if_neg (by omega), if_neg (by rw [hd]; simp), Int.toNat_natCast]; exact (HJr.out.1.begin (g := i + 1)).read (by omega) (by have := HJr.out.2.2.2; omega)
      go_wp2_with fail
      refine (jdRead owns_nil HD3.out.1 HT.out HJr.out.2.1 (by omega) (by have := HJr.out.2.2.1; omega) ((i + 1 : Nat) : Int) ⟨by omega, by omega⟩).mono ?_
      rintro e w4 ⟨v4, rfl, hT4, hb4⟩
      rw [ER.out.2] at hT4
      rw [ER.out.1]
      obtain ⟨a4, p4, rfl, -, -⟩ := hT4.len
      rw [show ([] : List (List Nat)).length = 0 from rfl]
      have HD4 : Hid (P2 (JD V J d (.pointer (some aq)) 0 n s ⟨0, 0, 0⟩) Nil2 w w4 (fun k => k = bx) ∧ Bl17 bx (.slice at_ nt ct) nn (.slice af nf cf) w4 ∧ bx < w4.heap.size) := ⟨(HD3.out.1.later (jd_owns _ _ _ _ _ _ _ _) owns_nil hb4).weak (fun _ h => Or.inl h), HD3.out.2.1.later hb4, Nat.lt_of_lt_of_le HD3.out.2.2 hb4.size⟩
      clear hT4 hb4 HD3 ER
      go_wp2_with fail
      refine (jdBegin owns_nil HD4.out.1 ((i + 1 : Nat) : Int) ⟨by omega, by omega⟩).mono ?_
      rintro e w5 ⟨rfl, hD5, hK5⟩
      rw [if_neg (by omega)]
      rw [if_neg (by omega), Int.toNat_natCast] at hD5
      have HD5 : Hid (P2 (JD V J d (.pointer (some aq)) 0 n s ⟨i + 1, 0, 0⟩) Nil2 w w5 (fun k => k = bx) ∧ Bl17 bx (.slice at_ nt ct) nn (.slice af nf cf) w5 ∧ bx < w5.heap.size) := ⟨hD5, HD4.out.2.1.kept (hK5 bx rfl), by obtain ⟨_, _, _, _, _, _, _, q, _⟩ := hD5; exact (q bx rfl).2.2.2⟩
      clear hD5 hK5 HD4
      have z1 := HD5.out.2.1.z1
      go_wp2_with fail
      refine (jdArm owns_nil HD5.out.1 nn HXb.out.2).mono ?_
      rintro e w6 ⟨rfl, hD6, hK6⟩
      have HF6 : Hid (Fal17 V J d (.pointer (some aq)) n (i + 1) i bx (.slice at_ nt ct) nn (.slice af nf cf) w w6 (.slice none 0 0) [] 0 (arS s nn)) :=
        ⟨hD6.weak (fun k hk => by rcases hk with q | q; exact q; cases q), kpo_nil w w6, (HJr.out.1.begin (g := i + 1)).ar nn, jq_ar HJr.out.2.1 nn, HD5.out.2.1.kept (hK6 bx rfl), fun g hg => by cases hg⟩
      clear hD6 hK6 HD5 z1
      have z0 := HF6.out.b.z0
      go_upto_region 20 with fail
      clear z0
      go_loopw [13, 14, 95] (fun s13 s14 s95 wr => ∃ (jx : Nat) (ls : List (List Nat)) (used : Nat) (s' : Dsk), jx ≤ nt ∧ ls.length ≤ jx ∧ s14 = .slice none 0 0 ∧ s95 = .int .i64 (jx : Int) ∧ Hid (Fal17 V J d (.pointer (some aq)) n (i + 1) i bx (.slice at_ nt ct) nn (.slice af nf cf) w wr s13 ls used s')) (fun _ _ s95 _ => nt - (intOf s95).toNat)
      case atStart => exact ⟨0, [], 0, arS s nn, by omega, by simp, rfl, rfl, HF6.out⟩
      case round =>
        obtain ⟨jx, ls, used, s', hjx, hlj, rfl, rfl, HO⟩ := hrel
        clear HF6
        obtain ⟨aT, cT, rfl⟩ := (HO.out.k.txo HO.out.p.bel).sl
        by_cases hl2 : jx < nt
        · have hjI : (jx : Int) < (nt : Int) := by omega
          have hj0 : (0 : Int) ≤ (jx : Int) := by omega
          obtain ⟨b2, o2, x, rfl, c0, hx⟩ := HX.out.1.cel jx (by have := HX.out.2.2.1; omega)
          have HXr : Hid (∀ c ∈ ts.getD jx [], c < 256) := HXb.out.1 jx (by have := HX.out.2.2.1; omega)
          have y0 := cell_later HO.out.p.bel c0
          generalize ts.getD jx [] = r at *
          obtain ⟨ax, cx, rfl, -, -⟩ := hx.len
          obtain ⟨nr, hnr⟩ : ∃ nr, r.length = nr := ⟨_, rfl⟩
          have HXt : Hid (Bs w (.slice ax nr cx) r ∧ r.length = nr) := ⟨by rw [← hnr]; exact hx, hnr⟩
          rw [hnr] at y0
          clear hnr hx c0
          by_cases q7 : 700 < nr
          · have q7I : (700 : Int) < (nr : Int) := by omega
            have HBf : Hid (Below w.heap.size w wr) := HO.out.p.bel
            go_wp2_with fail
            go_ret
            exact ⟨rfl, HBf.out⟩
          have q7I : ¬ (700 : Int) < (nr : Int) := by omega
          have husn := HO.out.i.us
          have hjb : JB n 12 ⟨i + 1, ls.length, used⟩ := ⟨husn, by show ls.length ≤ 12; omega, by show i + 1 < _; omega⟩
          have HAp := jdAppend owns_nil HO.out.p HT.out HO.out.q hjb (by omega) (by have := HN.out; omega) (by omega) (HXt.out.1.later HO.out.p.bel) (Ls.lo HXt.out.1).ou HXr.out (by have := HXt.out.2; omega)
          have hjq := jq_app HO.out.q hjb (base := 0) (by omega) r (by have := HXt.out.2; omega)
          obtain ⟨L, hL⟩ : ∃ L, ls.length = L := ⟨_, rfl⟩
          rcases japp_go HO.out.i (by omega) HXr.out (by have := HXt.out.2; omega) with e1 | ⟨s2, e1, e2⟩ | ⟨s2, e1, e2⟩
          · rw [e1] at HAp hjq
            clear e1 hjb
            rw [hL]
            go_wp2_with fail
            refine HAp.mono ?_
            rintro e w7 ⟨rfl, hD7, hK7⟩
            have HF7 : Hid (Fal17 V J d (.pointer (some aq)) n (i + 1) i bx (.slice (some ⟨b2, o2, none⟩) nt ct) nn (.slice af nf cf) w w7 (.slice aT L cT) ls used s') := by
              have h := HO.out
              rw [hL] at h hD7 hK7
              exact ⟨by rw [hL]; exact hD7, h.k.kn hK7 (fun g hg => Or.inr hg), h.i, h.q, h.b.kept (hK7 bx (Or.inl rfl)), h.o⟩
            clear hD7 hK7 HAp HO hjq y0
            go_wp2_with fail
            go_roundw
            case rel => exact ⟨jx + 1, ls, used, s', by omega, by omega, rfl, by first | rfl | go_num, HF7.out⟩
            case measure => simp only [intOf]; omega
          · rw [e1] at HAp hjq
            clear e1 hjb
            rw [hL]
            go_wp2_with fail
            refine HAp.mono ?_
            rintro e w7 ⟨rfl, hD7, hK7⟩
            have HO7 : Hid (P2 (JD V J d (.pointer (some aq)) 0 n s2 ⟨i + 1, (ls ++ [r]).length, used + prt r.length⟩) Nil2 w w7 (fun k => k = bx ∨ Value.ownBlock (.slice aT L cT) = some k) ∧ KpO w w7 (.slice aT L cT) ls ∧ Bl17 bx (.slice (some ⟨b2, o2, none⟩) nt ct) nn (.slice af nf cf) w7 ∧ (∀ g, Value.ownBlock (.slice aT L cT) = some g → bx < g) ∧ JIn 0 n (i + 1) i (ls ++ [r]) (used + prt r.length) s2 ∧ Jq n s2 ∧ bx < w7.heap.size) := by
              have h := HO.out
              rw [hL] at h hD7 hK7
              exact ⟨hD7, h.k.kn hK7 (fun g hg => Or.inr hg), h.b.kept (hK7 bx (Or.inl rfl)), h.o, e2, hjq, by obtain ⟨_, _, _, _, _, _, _, q, _⟩ := hD7; exact (q bx (Or.inl rfl)).2.2.2⟩
            clear hD7 hK7 HAp HO hjq e2 y0
            go_upto_region 31 with (at_builtin; (refine apKp rfl _ _ rfl (w0 := w) (.slice aT L cT) ls rfl HO7.out.2.1 ax nr cx r HXt.out.1 _ rfl (by omega) HO7.out.1.bel.size ?_; intro v8 w8 hT8 hg8 hk8 hb8; have HF8 : Hid (Fal17 V J d (.pointer (some aq)) n (i + 1) i bx (.slice (some ⟨b2, o2, none⟩) nt ct) nn (.slice af nf cf) w w8 v8 (ls ++ [r]) (used + prt r.length) s2) := ⟨HO7.out.1.grow (jd_owns _ _ _ _ _ _ _ _) owns_nil (fun i hi hn => hk8 i hi (fun q => hn (Or.inr q))) hg8.2 (hg8.1 _ HO7.out.1.bel) (fun i hi => by rcases hi with q | q; exact Or.inl (Or.inl q); exact (hb8 i q).imp Or.inr (fun q2 => ⟨q2, hT8.lt i q⟩)), hT8, HO7.out.2.2.2.2.1, HO7.out.2.2.2.2.2.1, HO7.out.2.2.1.kept (hk8 bx HO7.out.2.2.2.2.2.2 (fun q => by have := HO7.out.2.2.2.1 bx q; omega)), fun g hg => by rcases hb8 g hg with q | q; exact HO7.out.2.2.2.1 g q; have := HO7.out.2.2.2.2.2.2; omega⟩; clear hT8 hg8 hk8 hb8))
            clear HO7
            have hl1 : (ls ++ [r]).length ≤ jx + 1 := by rw [List.length_append]; simp; omega
            go_wp2_with fail
            go_roundw
            case rel => exact ⟨jx + 1, ls ++ [r], _, s2, by omega, hl1, rfl, by first | rfl | go_num, HF8.out⟩
            case measure => simp only [intOf]; omega
          · rw [e1] at HAp hjq
            clear e1 hjb
            rw [hL]
            go_wp2_with fail
            refine HAp.mono ?_
            rintro e w7 ⟨rfl, hD7, hK7⟩
            have HO7 : Hid (P2 (JD V J d (.pointer (some aq)) 0 n s2 ⟨0, ls.length, used⟩) Nil2 w w7 (fun k => k = bx ∨ Value.ownBlock (.slice aT L cT) = some k) ∧ KpO w w7 (.slice aT L cT) ls ∧ Bl17 bx (.slice (some ⟨b2, o2, none⟩) nt ct) nn (.slice af nf cf) w7 ∧ (∀ g, Value.ownBlock (.slice aT L cT) = some g → bx < g) ∧ JFl 0 n (i + 1) i ls used r s2 ∧ Jq n s2 ∧ bx < w7.heap.size) := by
              have h := HO.out
              rw [hL] at h hK7
              have h2 := hD7
              rw [hL] at h2
              exact ⟨by rw [hL]; exact h2, h.k.kn hK7 (fun g hg => Or.inr hg), h.b.kept (hK7 bx (Or.inl rfl)), h.o, e2, hjq, by obtain ⟨_, _, _, _, _, _, _, q, _⟩ := hD7; exact (q bx (Or.inl rfl)).2.2.2⟩
            clear hD7 hK7 HAp HO hjq e2 y0
            rw [hL] at HO7
            go_upto_region 32 with (first
              | (at_builtin; (refine apNone17 rfl _ _ rfl (w0 := w) rfl (.slice aT L cT) ls HO7.out.2.1 rfl (by omega) HO7.out.1.bel.size ?_; intro v8 w8 hT8 hg8 hb8; have HO8 : Hid (P2 (JD V J d (.pointer (some aq)) 0 n s2 ⟨0, L, used⟩) Nil2 w w8 (fun k => k = bx ∨ Value.ownBlock (.slice aT L cT) = some k ∨ v8.ownBlock = some k) ∧ KpO w w8 (.slice aT L cT) ls ∧ KpO w w8 v8 ls ∧ Bl17 bx (.slice (some ⟨b2, o2, none⟩) nt ct) nn (.slice af nf cf) w8 ∧ (∀ g, v8.ownBlock = some g → bx < g ∧ Value.ownBlock (.slice aT L cT) ≠ some g) ∧ bx < w8.heap.size) := ⟨HO7.out.1.grow (jd_owns _ _ _ _ _ _ _ _) owns_nil (fun i hi _ => hg8.block i hi) hg8.size (bchain HO7.out.1.bel hg8) (fun i hi => by rcases hi with q | q | q; exact Or.inl (Or.inl q); exact Or.inl (Or.inr q); exact Or.inr ⟨hb8 i q, hT8.lt i q⟩), HO7.out.2.1.later hg8, hT8, HO7.out.2.2.1.later hg8, fun g hg => ⟨by have := hb8 g hg; have := HO7.out.2.2.2.2.2.2; omega, fun q => by have := hb8 g hg; have := HO7.out.2.1.lt g q; omega⟩, by have := hg8.size; have := HO7.out.2.2.2.2.2.2; omega⟩; clear hT8 hg8 hb8; obtain ⟨a8, c8, rfl⟩ := (HO8.out.2.2.1.txo HO8.out.1.bel).sl; rw [hL] at HO8))
              | (at_builtin; (refine apKp rfl _ _ rfl (w0 := w) (.slice a8 L c8) ls rfl HO8.out.2.2.1 ax nr cx r HXt.out.1 _ rfl (by omega) HO8.out.1.bel.size ?_; intro v9 w9 hT9 hg9 hk9 hb9; have HO9 : Hid (P2 (JD V J d (.pointer (some aq)) 0 n s2 ⟨0, L, used⟩) Nil2 w w9 (fun k => k = bx ∨ Value.ownBlock (.slice aT L cT) = some k ∨ v9.ownBlock = some k) ∧ KpO w w9 (.slice aT L cT) ls ∧ KpO w w9 v9 (ls ++ [r]) ∧ Bl17 bx (.slice (some ⟨b2, o2, none⟩) nt ct) nn (.slice af nf cf) w9) := ⟨HO8.out.1.grow (jd_owns _ _ _ _ _ _ _ _) owns_nil (fun i hi hn => hk9 i hi (fun q => hn (Or.inr (Or.inr q)))) hg9.2 (hg9.1 _ HO8.out.1.bel) (fun i hi => by rcases hi with q | q | q; exact Or.inl (Or.inl q); exact Or.inl (Or.inr (Or.inl q)); exact (hb9 i q).imp (fun q2 => Or.inr (Or.inr q2)) (fun q2 => ⟨q2, hT9.lt i q⟩)), HO8.out.2.1.kn (N := fun k => Value.ownBlock (.slice aT L cT) = some k) (fun k hk => hk9 k (HO8.out.2.1.lt k hk) (fun q => (HO8.out.2.2.2.2.1 k q).2 hk)) (fun g hg => hg), hT9, HO8.out.2.2.2.1.kept (hk9 bx HO8.out.2.2.2.2.2 (fun q => by have := (HO8.out.2.2.2.2.1 bx q).1; omega))⟩; clear hT9 hg9 hk9 hb9)))
            have hcr := HO7.out.2.2.2.2.1.crash (by omega) (by omega) HXr.out (by have := HXt.out.2; omega) fs
            obtain ⟨rd, hrd0⟩ : ∃ rd, jread (rb (crS s2 fs)) 0 n (i + 1) = rd := ⟨_, rfl⟩
            have HT : Hid (Tl17 V J d (.pointer (some aq)) n (i + 1) bx (.slice (some ⟨b2, o2, none⟩) nt ct) nn (.slice af nf cf) fs w w9 (.slice aT L cT) v9 ls (ls ++ [r]) rd ⟨0, L, used⟩ s2) :=
              ⟨HO9.out.1, HO9.out.2.1, HO9.out.2.2.1, HO7.out.2.2.2.2.2.1, HO9.out.2.2.2, hcr.1, hrd0, by rw [← hrd0]; rcases hcr.2 with q | q; exact Or.inl q; exact Or.inr ⟨q, by simp⟩⟩
            clear hcr hrd0 HO7 HO8 HO9
            generalize (⟨0, L, used⟩ : Jst) = jT at *
            generalize hmsd : ls ++ [r] = ms at *
            clear hmsd
            generalize s2 = sT at *
            clear hL
            obtain ⟨aS, cS, hS⟩ := (HT.out.k.txo HT.out.p.bel).sl
            rw [hS] at HT ⊢
            clear hS
            obtain ⟨aM, cM, rfl⟩ := (HT.out.k'.txo HT.out.p.bel).sl
            obtain ⟨nS, hnS⟩ : ∃ nS, ls.length = nS := ⟨_, rfl⟩
            obtain ⟨nM, hnM⟩ : ∃ nM, ms.length = nM := ⟨_, rfl⟩
            have HLn : Hid (ls.length = nS ∧ ms.length = nM) := ⟨hnS, hnM⟩
            have z2 := HT.out.b.z2
            rw [hnS, hnM] at HT
            simp only [hnS, hnM]
            clear hnS hnM
            go_wp2_with fail
            refine (jdCrash owns_nil HT.out.p HT.out.q.le (HX.out.2.1.later HT.out.p.bel) (Fts.lo HX.out.2.1).ou (by have := HX.out.2.2.2; omega)).mono ?_
            rintro e y1 ⟨rfl, hD, hK⟩
            have HD1 : Hid (P2 (JD V J d (.pointer (some aq)) 0 n (crS sT fs) jT) Nil2 w y1 (fun k => k = bx ∨ Value.ownBlock (.slice aS nS cS) = some k ∨ Value.ownBlock (.slice aM nM cM) = some k) ∧ KpO w y1 (.slice aS nS cS) ls ∧ KpO w y1 (.slice aM nM cM) ms) := ⟨hD, HT.out.k.kn hK (fun g hg => Or.inr (Or.inl hg)), HT.out.k'.kn hK (fun g hg => Or.inr (Or.inr hg))⟩
            have HRr : Hid (JRest 0 n (i + 1) (crS sT fs) ∧ Jq n (crS sT fs) ∧ (rd = ls ∨ (rd = ms ∧ ms ≠ []))) := ⟨HT.out.r, jq_cr HT.out.q fs, HT.out.c⟩
            have ER : Hid (rdE17 (crS sT fs) ((i + 1 : Nat) : Int) = 0 ∧ rdL17 (crS sT fs) 0 n ((i + 1 : Nat) : Int) = rd) := by
              have hd : (crS sT fs).dn = false := rfl
              refine ⟨?_, ?_⟩
              · unfold rdE17; rw [if_neg (by omega), if_neg (by rw [hd]; simp)]
              · unfold rdL17; rw [if_neg (by omega), if_neg (by rw [hd]; simp), Int.toNat_natCast]; exact HT.out.e
            clear hD hK z2 HT
            go_wp2_with fail
            refine (jdRead owns_nil HD1.out.1 HT.out HRr.out.2.1 (by omega) (by have := HN.out; omega) ((i + 1 : Nat) : Int) ⟨by omega, by omega⟩).mono ?_
            rintro e y2 ⟨vn, rfl, hTn, hbn⟩
            rw [ER.out.2] at hTn
            rw [ER.out.1]
            have HD2 : Hid (Dw V w y2 d (crS sT fs) ∧ Txs y2 vn rd ∧ Txs y2 (.slice aS nS cS) ls ∧ Txs y2 (.slice aM nM cM) ms) := ⟨HD1.out.1.dw.later hbn, hTn, ((HD1.out.2.1.later hbn).txo (bchain HD1.out.1.bel hbn)).txs, ((HD1.out.2.2.later hbn).txo (bchain HD1.out.1.bel hbn)).txs⟩
            clear hTn hbn HD1 ER
            go_wp2_with fail
            refine (texts17 _ _ _ _ y2 HD2.out.2.1 HD2.out.2.2.1).mono ?_
            rintro e y3 ⟨rfl, hb3⟩
            by_cases hrd : rd = ls
            · rw [decide_eq_true hrd]
              have HE3 : Hid (Lif17 V d n (i + 1) w y3 (crS sT fs)) := ⟨HD2.out.1.later hb3, HRr.out.1, HRr.out.2.1⟩
              clear hb3 HD2 hrd
              go_wp2_with fail
              go_roundw
              case rel => exact ⟨i + 1, crS sT fs, by omega, by first | rfl | go_num, HE3.out⟩
              case measure => simp only [intOf]; omega
            · rw [decide_eq_false hrd]
              have HD3 : Hid (Dw V w y3 d (crS sT fs) ∧ Txs y3 vn rd ∧ Txs y3 (.slice aM nM cM) ms) := ⟨HD2.out.1.later hb3, HD2.out.2.1.later hb3, HD2.out.2.2.2.later hb3⟩
              have HM2 : Hid (rd = ms) := by
                rcases HRr.out.2.2 with q | q
                · exact absurd q hrd
                · exact q.1
              have hM0 : 0 < nM := by
                have h := HLn.out.2
                rcases HRr.out.2.2 with q | q
                · exact absurd q hrd
                · have := List.length_pos_iff.2 q.2; omega
              have hM1 : ((nM : Int) == 0) = false := by simp; omega
              have hM2 : ¬ (nM : Int) = 0 := by omega
              clear hb3 HD2 hrd
              go_wp2_with fail
              refine (texts17 _ _ _ _ y3 HD3.out.2.1 HD3.out.2.2).mono ?_
              rintro e y4 ⟨rfl, hb4⟩
              rw [decide_eq_true HM2.out]
              have HE3 : Hid (Lif17 V d n (i + 1) w y4 (crS sT fs)) := ⟨HD3.out.1.later hb4, HRr.out.1, HRr.out.2.1⟩
              clear hb4 HD3
              go_wp2_with fail
              go_roundw
              case rel => exact ⟨i + 1, crS sT fs, by omega, by first | rfl | go_num, HE3.out⟩
              case measure => simp only [intOf]; omega
        · obtain rfl : jx = nt := by omega
          have hjI : ¬ (jx : Int) < (jx : Int) := by omega
          have z2 := HO.out.b.z2
          obtain ⟨L, hL⟩ : ∃ L, ls.length = L := ⟨_, rfl⟩
          rw [hL]
          go_wp2_with fail
          refine (jdCrash owns_nil HO.out.p HO.out.q.le (HX.out.2.1.later HO.out.p.bel) (Fts.lo HX.out.2.1).ou (by have := HX.out.2.2.2; omega)).mono ?_
          rintro e y1 ⟨rfl, hD, hK⟩
          have hin := HO.out.i.cr fs
          have HD1 : Hid (P2 (JD V J d (.pointer (some aq)) 0 n (crS s' fs) ⟨i + 1, ls.length, used⟩) Nil2 w y1 (fun k => k = bx ∨ Value.ownBlock (.slice aT L cT) = some k) ∧ KpO w y1 (.slice aT L cT) ls ∧ JRest 0 n (i + 1) (crS s' fs) ∧ Jq n (crS s' fs) ∧ rdE17 (crS s' fs) ((i + 1 : Nat) : Int) = 0 ∧ rdL17 (crS s' fs) 0 n ((i + 1 : Nat) : Int) = ls) := by
            have h := HO.out.k
            have hd : (crS s' fs).dn = false := rfl
            rw [hL] at h hK hD
            refine ⟨by rw [hL]; exact hD, h.kn hK (fun g hg => Or.inr hg), hin.rest (by omega) (by omega), jq_cr HO.out.q fs, ?_, ?_⟩
            · unfold rdE17; rw [if_neg (by omega), if_neg (by rw [hd]; simp)]
            · unfold rdL17; rw [if_neg (by omega), if_neg (by rw [hd]; simp), Int.toNat_natCast]; exact hin.read (by omega) (by omega)
          clear hD hK z2 HO hin
          go_wp2_with fail
          refine (jdRead owns_nil HD1.out.1 HT.out HD1.out.2.2.2.1 (by omega) (by have := HN.out; omega) ((i + 1 : Nat) : Int) ⟨by omega, by omega⟩).mono ?_
          rintro e y2 ⟨vn, rfl, hTn, hbn⟩
          rw [HD1.out.2.2.2.2.2] at hTn
          rw [HD1.out.2.2.2.2.1]
          have HD2 : Hid (Dw V w y2 d (crS s' fs) ∧ Txs y2 vn ls ∧ Txs y2 (.slice aT L cT) ls ∧ JRest 0 n (i + 1) (crS s' fs) ∧ Jq n (crS s' fs)) := ⟨HD1.out.1.dw.later hbn, hTn, ((HD1.out.2.1.later hbn).txo (bchain HD1.out.1.bel hbn)).txs, HD1.out.2.2.1, HD1.out.2.2.2.1⟩
          clear hTn hbn HD1
          go_wp2_with fail
          refine (texts17 _ _ _ _ y2 HD2.out.2.1 HD2.out.2.2.1).mono ?_
          rintro e y3 ⟨rfl, hb3⟩
          rw [decide_eq_true rfl]
          have HE3 : Hid (Lif17 V d n (i + 1) w y3 (crS s' fs)) := ⟨HD2.out.1.later hb3, HD2.out.2.2.2.1, HD2.out.2.2.2.2⟩
          clear hb3 HD2
          go_wp2_with fail
          go_roundw
          case rel => exact ⟨i + 1, crS s' fs, by omega, by first | rfl | go_num, HE3.out⟩
          case measure => simp only [intOf]; omega
    · obtain rfl : i = m := by omega
      have hiI : ¬ (i : Int) < (i : Int) := by omega
      have HBf : Hid (Below w.heap.size w wr) := HO.out.1.bel
      go_wp2
      go_ret
      exact ⟨rfl, HBf.out⟩
end Go.Proofs.YtkbpcmjdfaokhaaDoor
