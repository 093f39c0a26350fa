/-
Layer 15: a disk, and a list of texts of one's own beside it that grows.
Layer 15: the steps of a play in memory; few.
The laws of layer 15: DiskFlushed.
The laws of layer 15: DiskMixes.
Lives of layer 17's law in memory.
Layer 17: the table that the journal reads.
-/
import Derived.Test.YtkbpcmjdfaokhaaDoorZ05
import Derived.Test.YtkbpcmjdfaokhaaDoorZ02

set_option linter.unusedVariables false
set_option linter.unusedSimpArgs false
namespace Go.Proofs.YtkbpcmjdfaokhaaDoor
open Go.RowKit

/-- A disk, and the texts that the law has gathered. -/
def DkA (V : Disk1) (w0 w : World) (p : Value) (s : Dsk) (v : Value) (ts : List (List Nat)) : Prop :=
  ∃ F : Nat → Prop, V.Dt w p F s ∧ (∀ k, F k → w0.heap.size ≤ k) ∧ Below w0.heap.size w0 w ∧ (∀ g, v.ownBlock = some g → ¬ F g) ∧
    ∃ cs : List Value, w.ownsRow w0.heap.size 40 1 v ts.length cs ∧ ∀ k, k < ts.length → ∃ x : Value, cs[k]? = some x ∧ Bs w x (ts.getD k []) ∧ Nf F x ∧ ∀ g, v.ownBlock = some g → Nb x g
theorem DkA.dw {V : Disk1} {w0 w : World} {p : Value} {s : Dsk} {v : Value} {ts : List (List Nat)} (h : DkA V w0 w p s v ts) : Dw V w0 w p s := by
  obtain ⟨F, h1, h2, h3, -⟩ := h
  exact ⟨F, h1, h2, h3⟩
theorem DkA.bel {V : Disk1} {w0 w : World} {p : Value} {s : Dsk} {v : Value} {ts : List (List Nat)} (h : DkA V w0 w p s v ts) : Below w0.heap.size w0 w := h.dw.bel
theorem DkA.sl {V : Disk1} {w0 w : World} {p : Value} {s : Dsk} {v : Value} {ts : List (List Nat)} (h : DkA V w0 w p s v ts) : ∃ ad cap, v = .slice ad ts.length cap := by
  obtain ⟨F, h1, h2, h3, h4, cs, h5, h6⟩ := h
  exact own_sl h5
theorem DkA.later {V : Disk1} {w0 w w' : World} {p : Value} {s : Dsk} {v : Value} {ts : List (List Nat)} (h : DkA V w0 w p s v ts) (k : Below w.heap.size w w') : DkA V w0 w' p s v ts := by
  obtain ⟨F, h1, h2, h3, h4, cs, h5, h6⟩ := h
  refine ⟨F, V.dtK h1 (fun i hi => k.block i (V.dtB h1 i hi)) k.size, h2, bchain h3 k, h4, cs, own_later h5 k, fun j hj => ?_⟩
  obtain ⟨x, e1, e2, e3, e4⟩ := h6 j hj
  exact ⟨x, e1, e2.later k, e3, e4⟩
theorem own_block15 {w w' : World} {B : Nat} {e : TypeId} {s : Nat} {v : Value} {n : Nat} {xs : List Value} (h : w.ownsRow B e s v n xs) (k : ∀ g, v.ownBlock = some g → w'.heap[g]? = w.heap[g]?) : w'.ownsRow B e s v n xs := by
  refine ⟨h.1, ?_⟩
  rcases h.2 with h0 | ⟨g, cap, cur, hv, hg, hh, r⟩
  · exact Or.inl h0
  · exact Or.inr ⟨g, cap, cur, hv, hg, (k g (by rw [hv]; rfl)).trans hh, r⟩
/-- A call with the disk. -/
theorem DkA.next {V : Disk1} {w0 w w' : World} {p : Value} {s' : Dsk} {v : Value} {ts : List (List Nat)} {F : Nat → Prop} (h2 : ∀ k, F k → w0.heap.size ≤ k) (h3 : Below w0.heap.size w0 w) (h4 : ∀ g, v.ownBlock = some g → ¬ F g) (cs : List Value) (h5 : w.ownsRow w0.heap.size 40 1 v ts.length cs) (h6 : ∀ k, k < ts.length → ∃ x : Value, cs[k]? = some x ∧ Bs w x (ts.getD k []) ∧ Nf F x ∧ ∀ g, v.ownBlock = some g → Nb x g) (h : Ad V.Dt p F s' w w') : DkA V w0 w' p s' v ts := by
  obtain ⟨F', q1, q2, q3⟩ := h
  have hB := h3.size
  have hg : ∀ g, v.ownBlock = some g → g < w.heap.size := fun g hg => (World.ownsRow.lt h5 g hg).2
  refine ⟨F', q1, fun k hk => by rcases q2 k hk with q | q; exact h2 k q; omega, q3.next h3 h2 hB, fun g hg' q => ?_, cs, own_block15 h5 (fun g hg' => q3.block g (hg g hg') (h4 g hg')), fun j hj => ?_⟩
  · have := hg g hg'
    rcases q2 g q with r | r
    · exact h4 g hg' r
    · omega
  · obtain ⟨x, e1, e2, e3, e4⟩ := h6 j hj
    refine ⟨x, e1, q3.ls e2 e3, fun a n c e hn q => ?_, e4⟩
    have := Ls.lo e2 a n c e hn
    rcases q2 _ q with r | r
    · exact e3 a n c e hn r
    · omega
theorem dkWrite {V : Disk1} {w0 w : World} {p : Value} {s : Dsk} {va : Value} {ts : List (List Nat)} (h : DkA V w0 w p s va ts) {v : Value} {b : List Nat} (hlo : Lo w0.heap.size v) (i : Int) (hv : Bs w v b) (hb : ∀ c ∈ b, c < 256) (hl : b.length ≤ 2000000) (hu : s.un.length ≤ 1000) : Calls Tryd.prog 29 #[p, .int .i64 i, v] w fun e w' => e = .returned (.int .i64 ((wrE s i b : Nat) : Int)) ∧ DkA V w0 w' p (wrS s i b) va ts := by
  obtain ⟨F, h1, h2, h3, h4, cs, h5, h6⟩ := h
  exact (V.write w p F s i v b h1 hv (fun a n c e hn q => by have := hlo a n c e hn; have := h2 _ q; omega) hb hl hu).mono fun e w' ⟨q1, q2⟩ => ⟨q1, DkA.next h2 h3 h4 cs h5 h6 q2⟩
theorem dkCrash {V : Disk1} {w0 w : World} {p : Value} {s : Dsk} {va : Value} {ts : List (List Nat)} (h : DkA V w0 w p s va ts) {v : Value} {fs : List (Int × Int)} (hlo : Lo w0.heap.size v) (hv : Fts w v fs) (hl : fs.length ≤ 1000) (hu : s.un.length ≤ 1000) : Calls Tryd.prog 20 #[p, v] w fun e w' => e = .returned (.int .i64 0) ∧ DkA V w0 w' p (crS s fs) va ts := by
  obtain ⟨F, h1, h2, h3, h4, cs, h5, h6⟩ := h
  exact (V.crash w p F s v fs h1 hv (fun a n c e hn q => by have := hlo a n c e hn; have := h2 _ q; omega) hl hu).mono fun e w' ⟨q1, q2⟩ => ⟨q1, DkA.next h2 h3 h4 cs h5 h6 q2⟩
theorem dkDown {V : Disk1} {w0 w : World} {p : Value} {s : Dsk} {va : Value} {ts : List (List Nat)} (h : DkA V w0 w p s va ts) : Calls Tryd.prog 35 #[p] w fun e w' => e = .returned (.bool s.dn) ∧ DkA V w0 w' p s va ts := by
  have h' := h
  obtain ⟨F, h1, -⟩ := h
  exact (V.down w p F s h1).mono fun e w' ⟨q1, q2⟩ => ⟨q1, h'.later q2⟩
/-- The first text. -/
theorem DkA.first {V : Disk1} {w0 w1 w : World} {p : Value} {s : Dsk} (h : Dw V w0 w1 p s) (k : Below w1.heap.size w1 w) {x : Value} {t : List Nat} (hx : Bs w x t) (ho : Ow w1.heap.size x) (ty : TypeId) (hty : ty = 40) : DkA V w0 (w.alloc (.cells #[x] ty)) p s (.slice (some ⟨w.heap.size, 0, none⟩) 1 1) [t] := by
  subst hty
  obtain ⟨F, h1, h2, h3⟩ := h
  have hb := bchain k (bel1 w (.cells #[x] 40))
  have hs := k.size
  have hs0 := h3.size
  refine ⟨F, V.dtK h1 (fun i hi => hb.block i (V.dtB h1 i hi)) hb.size, h2, bchain h3 hb, fun g hg q => ?_, [x], ⟨rfl, Or.inr ⟨w.heap.size, 1, #[x], rfl, by omega, heap_alloc_new w _, Nat.le_refl _, by unfold maxLen; omega, rfl, rfl⟩⟩, fun j hj => ?_⟩
  · have := V.dtB h1 g q
    have e : w.heap.size = g := Option.some.inj hg
    omega
  · have hj0 : j < 1 := hj
    obtain rfl : j = 0 := by omega
    refine ⟨x, rfl, hx.later (bel1 _ _), fun a n c e hn q => ?_, fun g hg a n c e hn q => ?_⟩
    · have := ho a n c e hn
      have := V.dtB h1 _ q
      omega
    · have := Ls.lo hx a n c e hn
      have e : w.heap.size = g := Option.some.inj hg
      omega
theorem dinfo_bys : (Tryd.prog.info? 40).map (fun i => (i.zero, i.size, i.bytes)) = some (some (.slice none 0 0), 1, 24) := by kernel_rfl
theorem tx_left {ts : List (List Nat)} {t : List Nat} {k : Nat} (h : k < ts.length) : (ts ++ [t]).getD k [] = ts.getD k [] := by simp [List.getD, List.getElem?_append, h]
theorem tx_end {ts : List (List Nat)} {t : List Nat} : (ts ++ [t]).getD ts.length [] = t := by simp [List.getD]
/-- A text is appended. -/
theorem apDk {ops : Array Oper} {rest : List Oper} {o : Oper} {a : Act} {w : World} {Q : Exit → Act → World → Prop} (hgd : o.guard = none) (s x : Operand)
    (ho : o.op = .call { callee := .builtin .append, args := #[s, x], argTypes := #[53, 53] })
    (V : Disk1) (w0 : World) (p : Value) (st : Dsk) (v : Value) (ts : List (List Nat)) (hs : a.eval s = v) (hF : DkA V w0 w p st v ts) (w1 : World) (hD : DkA V w0 w1 p st v ts) (hk : Below w1.heap.size w1 w) (ad : Option Addr) (n cap : Nat) (t : List Nat) (hp : Bs w (.slice ad n cap) t) (hO : Ow w1.heap.size (.slice ad n cap)) (ty : TypeId) (hx : a.eval x = .slice (some ⟨w.heap.size, 0, none⟩) 1 1)
    (hlen : ts.length ≤ 100000)
    (h : ∀ v' w', DkA V w0 w' p st v' (ts ++ [t]) → wpList Tryd.prog ops Q rest (a.put o.dst v') w') : wpList Tryd.prog ops Q (o :: rest) a (w.alloc (.cells #[.slice ad n cap] ty)) := by
  obtain ⟨i0, hti, hy0, hy1, hy2⟩ := info_parts dinfo_bys
  obtain ⟨F, h1, h2, h3, h4, cs, h5, h6⟩ := hD
  have hb1 := bchain h3 hk
  have hs1 := hk.size
  have hs0 := h3.size
  have h5w := own_later h5 hk
  have hg1 : ∀ g, v.ownBlock = some g → g < w1.heap.size := fun g hg => (World.ownsRow.lt h5 g hg).2
  refine wpList_append_own_at _ hgd s x 53 ho w0.heap.size 40 i0 (.slice none 0 0) 1 24 Tryd.underlying53 hti hy0 hy1 hy2 rfl (by decide) v ts.length cs hs (own_later h5w (bel1 _ _)) ⟨w.heap.size, 0, none⟩ 1 1 [.slice ad n cap] hx rfl
    (fun j u hj => by
      rcases j with _ | j
      · simp at hj; subst hj; simp [go_sem, Addr.add]
      · simp at hj)
    (fun u hu => by simp only [List.mem_cons, List.not_mem_nil, or_false] at hu; rcases hu with rfl; rfl) (by unfold maxLen; omega) (by omega) (by rw [World.size_alloc]; omega) ?_
  intro v' w' hown hgrow _ hat
  have hgs := hgrow.size
  rw [World.size_alloc] at hgs
  have hkb : ∀ i, i < w.heap.size → v.ownBlock ≠ some i → w'.heap[i]? = w.heap[i]? := fun i hi hne => by
    rw [hgrow.block i (by rw [World.size_alloc]; omega) (fun e2 => hne e2.symm), Below.heap_alloc _ _ _ hi]
  have hbs : ∀ (y : Value) (l : List Nat), Bs w y l → (∀ g, v.ownBlock = some g → Nb y g) → Bs w' y l := fun y l hy hn => by
    obtain ⟨adr, cap, b, q, rfl, z2, z3, z4, z5⟩ := id hy
    refine ⟨adr, cap, b, q, rfl, z2, z3, z4, fun k hk => ?_⟩
    have e := z4 (by omega)
    subst e
    have hlt := Ls.lo hy ⟨b, q, none⟩ l.length cap rfl (by omega)
    exact (World.cell?_of_block (w := w) (a := ⟨b, q + k, none⟩) (hkb b hlt (fun e2 => hn b e2 ⟨b, q, none⟩ l.length cap rfl (by omega) rfl))).trans (z5 k hk)
  have hnew : ∀ (y : Value) (l : List Nat), Bs w y l → (∀ g, v.ownBlock = some g → Nb y g) → ∀ g, v'.ownBlock = some g → Nb y g := fun y l hy hn g hg => by
    rcases hat with q | q
    · exact hn g (q.symm.trans hg)
    · rw [q, World.size_alloc] at hg
      intro a n c e h0 e2
      have := Ls.lo hy a n c e h0
      have := Option.some.inj hg
      omega
  refine h v' w' ⟨F, V.dtK h1 (fun i hi => ?_) (by omega), h2, ?_, fun g hg q => ?_, cs ++ [.slice ad n cap], by rw [List.length_append]; exact hown, fun j hj => ?_⟩
  · have hi1 := V.dtB h1 i hi
    rw [hkb i (by omega) (fun e => h4 i e hi), hk.block i hi1]
  · exact (hb1.alloc (by omega) _).grown hgrow (by rw [World.size_alloc]; omega) (fun g hg => (World.ownsRow.lt h5 g hg).1)
  · rcases hat with e | e
    · exact h4 g (e.symm.trans hg) q
    · rw [e, World.size_alloc] at hg
      have := V.dtB h1 g q
      have := Option.some.inj hg
      omega
  · rw [List.length_append] at hj
    have hcl : cs.length = ts.length := by have := h5.1; omega
    rcases Nat.lt_or_ge j ts.length with q | q
    · obtain ⟨y, e1, e2, e3, e4⟩ := h6 j q
      have e2w := e2.later hk
      rw [tx_left q]
      exact ⟨y, by rw [List.getElem?_append_left (by omega)]; exact e1, hbs y _ e2w e4, e3, hnew y _ e2w e4⟩
    · have hj1 : j < ts.length + 1 := hj
      obtain rfl : j = ts.length := by omega
      rw [tx_end]
      have hN : ∀ g, v.ownBlock = some g → Nb (.slice ad n cap) g := fun g hg => ow_apart hO (hg1 g hg)
      exact ⟨_, by rw [List.getElem?_append_right (by omega), hcl, Nat.sub_self]; rfl, hbs _ _ hp hN, fun a n c e hn q => by have := hO a n c e hn; have := V.dtB h1 _ q; omega, hnew _ _ hp hN⟩
/-- A text of the list. -/
theorem DkA.cel {V : Disk1} {w0 w : World} {p : Value} {s : Dsk} {ad : Option Addr} {n cap : Nat} {ts : List (List Nat)} (h : DkA V w0 w p s (.slice ad n cap) ts) (j : Nat) (hj : j < ts.length) : ∃ (g : Nat) (x : Value), ad = some ⟨g, 0, none⟩ ∧ w.cell? ⟨g, j, none⟩ = some x ∧ Bs w x (ts.getD j []) := by
  obtain ⟨F, h1, h2, h3, h4, cs, h5, h6⟩ := h
  obtain ⟨x, e1, e2, -⟩ := h6 j hj
  rcases id h5.2 with ⟨_, h0⟩ | ⟨g, c, cur, hv, hg, hh, r⟩
  · omega
  · injection hv with v1 v2 v3
    subst v1
    subst v2
    have := h5.cellAt j (by omega)
    exact ⟨g, x, rfl, by rw [this]; exact e1, e2⟩
end Go.Proofs.YtkbpcmjdfaokhaaDoor
set_option linter.unusedVariables false
set_option linter.unusedSimpArgs false
namespace Go.Proofs.YtkbpcmjdfaokhaaDoor
open Go.RowKit

/-- A step of a play. -/
structure Opv where
  k : Int
  i : Int
  b : List Nat
  fs : List (Int × Int)
def op0 : Opv := ⟨0, 0, [], []⟩
/-- A list of steps in memory. -/
def Ops (w : World) (v : Value) (os : List Opv) : Prop :=
  ∃ (ad : Option Addr) (cap b o : Nat), v = .slice ad os.length cap ∧ os.length ≤ cap ∧ cap ≤ maxLen ∧ (0 < os.length → ad = some ⟨b, o, none⟩) ∧
    ∀ j, j < os.length → ∃ vb vf, w.cell? ⟨b, o + j * 4, none⟩ = some (.int .i64 (os.getD j op0).k) ∧ w.cell? ⟨b, o + j * 4 + 1, none⟩ = some (.int .i64 (os.getD j op0).i) ∧ w.cell? ⟨b, o + j * 4 + 2, none⟩ = some vb ∧ w.cell? ⟨b, o + j * 4 + 3, none⟩ = some vf ∧ Bs w vb (os.getD j op0).b ∧ Fts w vf (os.getD j op0).fs
theorem Ops.len {w : World} {v : Value} {os : List Opv} (h : Ops w v os) : ∃ ad cap, v = .slice ad os.length cap ∧ os.length ≤ cap ∧ cap ≤ maxLen := by
  obtain ⟨ad, cap, b, o, h1, h2, h3, -⟩ := h
  exact ⟨ad, cap, h1, h2, h3⟩
theorem Ops.cel {w : World} {ad : Option Addr} {n cap : Nat} {os : List Opv} (h : Ops w (.slice ad n cap) os) (j : Nat) (hj : j < os.length) :
    ∃ b o vb vf, ad = some ⟨b, o, none⟩ ∧ w.cell? ⟨b, o + j * 4, none⟩ = some (.int .i64 (os.getD j op0).k) ∧ w.cell? ⟨b, o + j * 4 + 1, none⟩ = some (.int .i64 (os.getD j op0).i) ∧ w.cell? ⟨b, o + j * 4 + 2, none⟩ = some vb ∧ w.cell? ⟨b, o + j * 4 + 3, none⟩ = some vf ∧ Bs w vb (os.getD j op0).b ∧ Fts w vf (os.getD j op0).fs := by
  obtain ⟨ad', cap', b, o, e, h2, h3, h4, h5⟩ := h
  injection e with e1 e2 e3
  obtain ⟨vb, vf, q⟩ := h5 j hj
  exact ⟨b, o, vb, vf, by rw [e1]; exact h4 (by omega), q⟩
theorem Ops.later {w w' : World} {v : Value} {os : List Opv} (h : Ops w v os) (k : Below w.heap.size w w') : Ops w' v os := by
  obtain ⟨ad, cap, b, o, h1, h2, h3, h4, h5⟩ := h
  refine ⟨ad, cap, b, o, h1, h2, h3, h4, fun j hj => ?_⟩
  obtain ⟨vb, vf, q0, q1, q2, q3, q4, q5⟩ := h5 j hj
  exact ⟨vb, vf, cell_later k q0, cell_later k q1, cell_later k q2, cell_later k q3, q4.later k, q5.later k⟩
theorem Fts.len {w : World} {v : Value} {fs : List (Int × Int)} (h : Fts w v fs) : ∃ ad cap, v = .slice ad fs.length cap ∧ fs.length ≤ cap ∧ cap ≤ maxLen := by
  obtain ⟨ad, cap, b, o, h1, h2, h3, -⟩ := h
  exact ⟨ad, cap, h1, h2, h3⟩
theorem Fts.lo {w : World} {v : Value} {fs : List (Int × Int)} (h : Fts w v fs) : Lo w.heap.size v := by
  obtain ⟨ad, cap, b, o, rfl, h2, h3, h4, h5⟩ := h
  intro a n c e hn
  injection e with e1 e2 e3
  have := h4 (by omega)
  rw [this] at e1
  cases e1
  exact World.block_lt_of_cell? _ _ (h5 0 (by omega)).1
/-- So few that a play goes through with them. -/
def Few (os : List Opv) : Prop := os.length ≤ 80 ∧ ∀ j, j < os.length → (os.getD j op0).b.length ≤ 300 ∧ (os.getD j op0).fs.length ≤ 100
/-- What few answers. -/
def FwE (os : List Opv) (w : World) (e : Ending) (w' : World) : Prop := ∃ B : Bool, e = .returned (.bool B) ∧ (B = true → Few os) ∧ Below w.heap.size w w'
theorem FwE.no {os : List Opv} {w w' : World} (hb : Below w.heap.size w w') : FwE os w (.returned (.bool false)) w' := ⟨false, rfl, (fun q => by cases q), hb⟩
theorem FwE.yes {os : List Opv} {w w' : World} (h : Few os) (hb : Below w.heap.size w w') : FwE os w (.returned (.bool true)) w' := ⟨true, rfl, fun _ => h, hb⟩
end Go.Proofs.YtkbpcmjdfaokhaaDoor
set_option linter.unusedVariables false
set_option linter.unusedSimpArgs false
namespace Go.Proofs.YtkbpcmjdfaokhaaDoor
open Go.RowKit

theorem dAsk_new {n : Nat} {i : Nat} (h : i < n) : dAsk (dNew n) (i : Int) = 0 := by
  have e : (dNew n).bl.length = n := List.length_replicate
  unfold dAsk
  rw [e, if_neg (by simp [dNew]), if_neg (by omega)]
theorem wr_new {n i : Nat} (h : i < n) {b : List Nat} (hb : b.length ≤ 128) : wrS (dNew n) (i : Int) b = ⟨(dNew n).bl, [(i, full b)], false, 0, false⟩ ∧ wrE (dNew n) (i : Int) b = 0 := by
  have ha := dAsk_new h
  constructor
  · unfold wrS
    rw [ha, if_neg (by omega)]
    rfl
  · unfold wrE
    rw [ha, if_neg (by omega), if_neg (by omega)]
    rfl
theorem fls_start {n i : Nat} (h : i < n) (b : List Nat) : flE ⟨(dNew n).bl, [(i, full b)], false, 0, false⟩ = 0 ∧ Fls i (full b) (flS ⟨(dNew n).bl, [(i, full b)], false, 0, false⟩) ∧ (flS ⟨(dNew n).bl, [(i, full b)], false, 0, false⟩).un.length = 0 := by
  have e : (dNew n).bl.length = n := List.length_replicate
  refine ⟨rfl, ⟨?_, ?_, fun u hu => by cases hu⟩, rfl⟩
  · show i < (lay _ _).length
    rw [lay_len, e]
    exact h
  · show (lay [(i, full b)] (dNew n).bl).getD i [] = full b
    rw [lay_last _ _ _ (by rw [e]; exact h)]
    simp [lastU]
end Go.Proofs.YtkbpcmjdfaokhaaDoor
set_option linter.unusedVariables false
set_option linter.unusedSimpArgs false
namespace Go.Proofs.YtkbpcmjdfaokhaaDoor
open Go.RowKit

/-- A list of texts in memory. -/
def Txs (w : World) (v : Value) (ls : List (List Nat)) : Prop :=
  ∃ (ad : Option Addr) (cap b o : Nat), v = .slice ad ls.length cap ∧ ls.length ≤ cap ∧ cap ≤ maxLen ∧ (0 < ls.length → ad = some ⟨b, o, none⟩) ∧ ∀ j, j < ls.length → ∃ x, w.cell? ⟨b, o + j, none⟩ = some x ∧ Bs w x (ls.getD j [])
theorem Txs.len {w : World} {v : Value} {ls : List (List Nat)} (h : Txs w v ls) : ∃ ad cap, v = .slice ad ls.length cap ∧ ls.length ≤ cap ∧ cap ≤ maxLen := by
  obtain ⟨ad, cap, b, o, h1, h2, h3, -⟩ := h
  exact ⟨ad, cap, h1, h2, h3⟩
theorem Txs.cel {w : World} {ad : Option Addr} {n cap : Nat} {ls : List (List Nat)} (h : Txs w (.slice ad n cap) ls) (j : Nat) (hj : j < ls.length) : ∃ b o x, ad = some ⟨b, o, none⟩ ∧ w.cell? ⟨b, o + j, none⟩ = some x ∧ Bs w x (ls.getD j []) := by
  obtain ⟨ad', cap', b, o, e, h2, h3, h4, h5⟩ := h
  injection e with e1 e2 e3
  obtain ⟨x, q⟩ := h5 j hj
  exact ⟨b, o, x, by rw [e1]; exact h4 (by omega), q⟩
/-- Writes to the one block, none of them flushed. -/
structure Mx (ts : List (List Nat)) (j : Nat) (s : Dsk) : Prop where
  len : s.bl.length = 1
  ok : okb (s.bl.getD 0 [])
  mix : Mix ts (s.bl.getD 0 [])
  ar : s.ar = false
  dn : s.dn = false
  un : ∀ u ∈ s.un, u.1 = 0 ∧ okb u.2 ∧ u.2 ∈ ts
  le : s.un.length ≤ j
theorem Mix.more {ts : List (List Nat)} {b : List Nat} (h : Mix ts b) (t : List Nat) : Mix (ts ++ [t]) b := fun j hj => by
  obtain ⟨w, h1, h2⟩ := h j hj
  exact ⟨w, by simp [h1], h2⟩
theorem mx_start {l : List Nat} (hl : l.length ≤ 128) (hb : ∀ c ∈ l, c < 256) : Mx [full l] 0 (flS ⟨(dNew 1).bl, [(0, full l)], false, 0, false⟩) := by
  have h := fls_start (n := 1) (i := 0) (by omega) l
  have hs := h.2.1.is
  refine ⟨?_, by rw [hs]; exact full_ok hl hb, by rw [hs]; exact fun j hj => ⟨full l, by simp, rfl⟩, rfl, rfl, (fun u hu => by cases hu), by rw [h.2.2]; exact Nat.le_refl _⟩
  show (lay _ _).length = 1
  rw [lay_len]
  rfl
theorem mx_wr {ts : List (List Nat)} {j : Nat} {s : Dsk} (h : Mx ts j s) {b : List Nat} (hl : b.length ≤ 128) (hb : ∀ c ∈ b, c < 256) : wrE s 0 b = 0 ∧ Mx (ts ++ [full b]) (j + 1) (wrS s 0 b) := by
  have h1 := h.len
  have ha : dAsk s 0 = 0 := by unfold dAsk; rw [h.dn, if_neg (by simp), if_neg (by omega)]
  have hg : dGo s = true := by unfold dGo; rw [h.ar]; rfl
  constructor
  · unfold wrE
    rw [ha, if_neg (by omega), if_neg (by omega), if_pos hg]
  · have e : wrS s 0 b = { s with un := s.un ++ [(0, full b)] } := by
      unfold wrS
      rw [ha, if_neg (by omega)]
      unfold dGone
      rw [if_neg (by simp [h.ar])]
      rfl
    rw [e]
    refine ⟨h.len, h.ok, h.mix.more _, h.ar, h.dn, fun u hu => ?_, ?_⟩
    · rcases List.mem_append.1 hu with q | q
      · obtain ⟨a1, a2, a3⟩ := h.un u q
        exact ⟨a1, a2, by simp [a3]⟩
      · obtain rfl : u = (0, full b) := by simpa using q
        exact ⟨rfl, full_ok hl hb, by simp⟩
    · show (s.un ++ [(0, full b)]).length ≤ j + 1
      have := h.le
      rw [List.length_append]
      simp
      omega
theorem mx_cr {ts : List (List Nat)} {j : Nat} {s : Dsk} (h : Mx ts j s) (fs : List (Int × Int)) (hs : OkD s) : Mix ts (rdB (crS s fs) 0) ∧ okb (rdB (crS s fs) 0) ∧ dAsk (crS s fs) 0 = 0 ∧ (crS s fs).dn = false ∧ (crS s fs).un = [] := by
  have h1 := h.len
  have hl : (crS s fs).bl.length = 1 := by show (fall _ _ _).length = 1; rw [fall_len, h1]
  have ha : dAsk (crS s fs) 0 = 0 := by unfold dAsk; rw [show (crS s fs).dn = false from rfl, if_neg (by simp), if_neg (by omega)]
  have hr : rdB (crS s fs) 0 = (fall s.un fs s.bl).getD 0 [] := by
    unfold rdB
    rw [ha, if_neg (by omega)]
    rfl
  rw [hr]
  refine ⟨mix_fall ts s.un fs s.bl h1 h.un h.ok h.mix, ?_, ha, rfl, rfl⟩
  exact getD_ok (fall_ok _ _ _ hs.bl hs.un) (by rw [fall_len, h1]; omega)
theorem DkA.ok {V : Disk1} {w0 w : World} {p : Value} {s : Dsk} {v : Value} {ts : List (List Nat)} (h : DkA V w0 w p s v ts) : OkD s := h.dw.ok
end Go.Proofs.YtkbpcmjdfaokhaaDoor
set_option linter.unusedVariables false
set_option linter.unusedSimpArgs false
namespace Go.Proofs.YtkbpcmjdfaokhaaDoor
open Go.RowKit

/-- A life: texts, behind how many calls the power goes, what becomes of what is under way. -/
structure Lfj where
  ts : List (List Nat)
  n : Int
  fs : List (Int × Int)
def lfj0 : Lfj := ⟨[], 0, []⟩
/-- A list of lives in memory. -/
def Lvj (w : World) (v : Value) (os : List Lfj) : Prop :=
  ∃ (ad : Option Addr) (cap b o : Nat), v = .slice ad os.length cap ∧ os.length ≤ cap ∧ cap ≤ maxLen ∧ (0 < os.length → ad = some ⟨b, o, none⟩) ∧
    ∀ j, j < os.length → ∃ vb vf, w.cell? ⟨b, o + j * 3, none⟩ = some vb ∧ w.cell? ⟨b, o + j * 3 + 1, none⟩ = some (.int .i64 (os.getD j lfj0).n) ∧ w.cell? ⟨b, o + j * 3 + 2, none⟩ = some vf ∧ Txs w vb (os.getD j lfj0).ts ∧ Fts w vf (os.getD j lfj0).fs
theorem Lvj.len {w : World} {v : Value} {os : List Lfj} (h : Lvj w v os) : ∃ ad cap, v = .slice ad os.length cap ∧ os.length ≤ cap ∧ cap ≤ maxLen := by
  obtain ⟨ad, cap, b, o, h1, h2, h3, -⟩ := h
  exact ⟨ad, cap, h1, h2, h3⟩
theorem Lvj.cel {w : World} {ad : Option Addr} {n cap : Nat} {os : List Lfj} (h : Lvj w (.slice ad n cap) os) (j : Nat) (hj : j < os.length) :
    ∃ b o vb vf, ad = some ⟨b, o, none⟩ ∧ w.cell? ⟨b, o + j * 3, none⟩ = some vb ∧ w.cell? ⟨b, o + j * 3 + 1, none⟩ = some (.int .i64 (os.getD j lfj0).n) ∧ w.cell? ⟨b, o + j * 3 + 2, none⟩ = some vf ∧ Txs w vb (os.getD j lfj0).ts ∧ Fts w vf (os.getD j lfj0).fs := by
  obtain ⟨ad', cap', b, o, e, h2, h3, h4, h5⟩ := h
  injection e with e1 e2 e3
  obtain ⟨vb, vf, q⟩ := h5 j hj
  exact ⟨b, o, vb, vf, by rw [e1]; exact h4 (by omega), q⟩
end Go.Proofs.YtkbpcmjdfaokhaaDoor
set_option linter.unusedVariables false
set_option linter.unusedSimpArgs false
namespace Go.Proofs.YtkbpcmjdfaokhaaDoor
open Go.RowKit

/-- How many bytes each number of a block has. -/
def JT (w : World) : Prop := w.cell? ⟨0, 0, none⟩ = some (.int .i64 4) ∧ w.cell? ⟨0, 1, none⟩ = some (.int .i64 2) ∧ w.cell? ⟨0, 2, none⟩ = some (.int .i64 2) ∧ w.cell? ⟨0, 3, none⟩ = some (.int .i64 8) ∧ w.cell? ⟨0, 4, none⟩ = some (.int .i64 8)
theorem JT.lt {w : World} (h : JT w) : 0 < w.heap.size := World.block_lt_of_cell? _ _ h.1
theorem JT.later {w w' : World} (h : JT w) (k : Below w.heap.size w w') : JT w' := ⟨cell_later k h.1, cell_later k h.2.1, cell_later k h.2.2.1, cell_later k h.2.2.2.1, cell_later k h.2.2.2.2⟩
theorem JT.kept {w w' : World} (h : JT w) (k : w'.heap[(0 : Nat)]? = w.heap[(0 : Nat)]?) : JT w' := by
  have kc : ∀ (i : Nat) (v : Value), w.cell? ⟨0, i, none⟩ = some v → w'.cell? ⟨0, i, none⟩ = some v := fun i v hv => (World.cell?_of_block (a := ⟨0, i, none⟩) k).trans hv
  exact ⟨kc _ _ h.1, kc _ _ h.2.1, kc _ _ h.2.2.1, kc _ _ h.2.2.2.1, kc _ _ h.2.2.2.2⟩
end Go.Proofs.YtkbpcmjdfaokhaaDoor
