/-
  Texts of this proof, joined: DkAll DkOps DkLawC JnTx JnRefA JnRefB JnRefC JnRefD DkRefF DkTwo JnTab JnTwo JnPlay JnHelp JnLawS JnAwake.
-/
import Derived.Test.YthnpdcblfocemaaDoorSU00
import Derived.Test.YthnpdcblfocemaaDoorSU02
import Derived.Test.YthnpdcblfocemaaDoorSU03
import Derived.Lib.SlBytesConst
import Derived.Deep.DeepCutAuto
import Derived.BigQuiet
import Derived.Laws.AppendOwn
import Derived.Laws.BytesArg
set_option linter.unusedVariables false
set_option linter.unusedSimpArgs false
namespace Go.Proofs.YthnpdcblfocemaaDoor
open Go.RowKit

def DkA (V : Disk1) (w0 w : World) (p : Value) (s : Dsk) (v : Value) (ts : List (List Nat)) : Prop :=
  ∃ F : Nat → Prop, V.Dt w p F s ∧ (∀ k, F k → w0.heap.size ≤ k) ∧ Below w0.heap.size w0 w ∧ (∀ g, v.ownBlock = some g → ¬ F g) ∧
    ∃ cs : List Value, w.ownsRow w0.heap.size 22 1 v ts.length cs ∧ ∀ k, k < ts.length → ∃ x : Value, cs[k]? = some x ∧ Bs w x (ts.getD k []) ∧ Nf F x ∧ ∀ g, v.ownBlock = some g → Nb x g
theorem DkA.dw {V : Disk1} {w0 w : World} {p : Value} {s : Dsk} {v : Value} {ts : List (List Nat)} (h : DkA V w0 w p s v ts) : Dw V w0 w p s := by
  obtain ⟨F, h1, h2, h3, -⟩ := h
  exact ⟨F, h1, h2, h3⟩
theorem DkA.bel {V : Disk1} {w0 w : World} {p : Value} {s : Dsk} {v : Value} {ts : List (List Nat)} (h : DkA V w0 w p s v ts) : Below w0.heap.size w0 w := h.dw.bel
theorem DkA.sl {V : Disk1} {w0 w : World} {p : Value} {s : Dsk} {v : Value} {ts : List (List Nat)} (h : DkA V w0 w p s v ts) : ∃ ad cap, v = .slice ad ts.length cap := by
  obtain ⟨F, h1, h2, h3, h4, cs, h5, h6⟩ := h
  exact own_sl h5
theorem DkA.later {V : Disk1} {w0 w w' : World} {p : Value} {s : Dsk} {v : Value} {ts : List (List Nat)} (h : DkA V w0 w p s v ts) (k : Below w.heap.size w w') : DkA V w0 w' p s v ts := by
  obtain ⟨F, h1, h2, h3, h4, cs, h5, h6⟩ := h
  refine ⟨F, V.dtK h1 (fun i hi => k.block i (V.dtB h1 i hi)) k.size, h2, bchain h3 k, h4, cs, own_later h5 k, fun j hj => ?_⟩
  obtain ⟨x, e1, e2, e3, e4⟩ := h6 j hj
  exact ⟨x, e1, e2.later k, e3, e4⟩
theorem own_block15 {w w' : World} {B : Nat} {e : TypeId} {s : Nat} {v : Value} {n : Nat} {xs : List Value} (h : w.ownsRow B e s v n xs) (k : ∀ g, v.ownBlock = some g → w'.heap[g]? = w.heap[g]?) : w'.ownsRow B e s v n xs := by
  refine ⟨h.1, ?_⟩
  rcases h.2 with h0 | ⟨g, cap, cur, hv, hg, hh, r⟩
  · exact Or.inl h0
  · exact Or.inr ⟨g, cap, cur, hv, hg, (k g (by rw [hv]; rfl)).trans hh, r⟩
theorem DkA.next {V : Disk1} {w0 w w' : World} {p : Value} {s' : Dsk} {v : Value} {ts : List (List Nat)} {F : Nat → Prop} (h2 : ∀ k, F k → w0.heap.size ≤ k) (h3 : Below w0.heap.size w0 w) (h4 : ∀ g, v.ownBlock = some g → ¬ F g) (cs : List Value) (h5 : w.ownsRow w0.heap.size 22 1 v ts.length cs) (h6 : ∀ k, k < ts.length → ∃ x : Value, cs[k]? = some x ∧ Bs w x (ts.getD k []) ∧ Nf F x ∧ ∀ g, v.ownBlock = some g → Nb x g) (h : Ad V.Dt p F s' w w') : DkA V w0 w' p s' v ts := by
  obtain ⟨F', q1, q2, q3⟩ := h
  have hB := h3.size
  have hg : ∀ g, v.ownBlock = some g → g < w.heap.size := fun g hg => (World.ownsRow.lt h5 g hg).2
  refine ⟨F', q1, fun k hk => by rcases q2 k hk with q | q; exact h2 k q; omega, q3.next h3 h2 hB, fun g hg' q => ?_, cs, own_block15 h5 (fun g hg' => q3.block g (hg g hg') (h4 g hg')), fun j hj => ?_⟩
  · have := hg g hg'
    rcases q2 g q with r | r
    · exact h4 g hg' r
    · omega
  · obtain ⟨x, e1, e2, e3, e4⟩ := h6 j hj
    refine ⟨x, e1, q3.ls e2 e3, fun a n c e hn q => ?_, e4⟩
    have := Ls.lo e2 a n c e hn
    rcases q2 _ q with r | r
    · exact e3 a n c e hn r
    · omega
theorem DkA.first {V : Disk1} {w0 w1 w : World} {p : Value} {s : Dsk} (h : Dw V w0 w1 p s) (k : Below w1.heap.size w1 w) {x : Value} {t : List Nat} (hx : Bs w x t) (ho : Ow w1.heap.size x) (ty : TypeId) (hty : ty = 22) : DkA V w0 (w.alloc (.cells #[x] ty)) p s (.slice (some ⟨w.heap.size, 0, none⟩) 1 1) [t] := by
  subst hty
  obtain ⟨F, h1, h2, h3⟩ := h
  have hb := bchain k (bel1 w (.cells #[x] 22))
  have hs := k.size
  have hs0 := h3.size
  refine ⟨F, V.dtK h1 (fun i hi => hb.block i (V.dtB h1 i hi)) hb.size, h2, bchain h3 hb, fun g hg q => ?_, [x], ⟨rfl, Or.inr ⟨w.heap.size, 1, #[x], rfl, by omega, heap_alloc_new w _, Nat.le_refl _, by unfold maxLen; omega, rfl, rfl⟩⟩, fun j hj => ?_⟩
  · have := V.dtB h1 g q
    have e : w.heap.size = g := Option.some.inj hg
    omega
  · have hj0 : j < 1 := hj
    obtain rfl : j = 0 := by omega
    refine ⟨x, rfl, hx.later (bel1 _ _), fun a n c e hn q => ?_, fun g hg a n c e hn q => ?_⟩
    · have := ho a n c e hn
      have := V.dtB h1 _ q
      omega
    · have := Ls.lo hx a n c e hn
      have e : w.heap.size = g := Option.some.inj hg
      omega
theorem dinfo_bys : (Tryd.prog.info? 22).map (fun i => (i.zero, i.size, i.bytes)) = some (some (.slice none 0 0), 1, 24) := by kernel_rfl
theorem DkA.cel {V : Disk1} {w0 w : World} {p : Value} {s : Dsk} {ad : Option Addr} {n cap : Nat} {ts : List (List Nat)} (h : DkA V w0 w p s (.slice ad n cap) ts) (j : Nat) (hj : j < ts.length) : ∃ (g : Nat) (x : Value), ad = some ⟨g, 0, none⟩ ∧ w.cell? ⟨g, j, none⟩ = some x ∧ Bs w x (ts.getD j []) := by
  obtain ⟨F, h1, h2, h3, h4, cs, h5, h6⟩ := h
  obtain ⟨x, e1, e2, -⟩ := h6 j hj
  rcases id h5.2 with ⟨_, h0⟩ | ⟨g, c, cur, hv, hg, hh, r⟩
  · omega
  · injection hv with v1 v2 v3
    subst v1
    subst v2
    have := h5.cellAt j (by omega)
    exact ⟨g, x, rfl, by rw [this]; exact e1, e2⟩
end Go.Proofs.YthnpdcblfocemaaDoor
set_option linter.unusedVariables false
set_option linter.unusedSimpArgs false
namespace Go.Proofs.YthnpdcblfocemaaDoor
open Go.RowKit

structure Opv where
  k : Int
  i : Int
  b : List Nat
  fs : List (Int × Int)
def op0 : Opv := ⟨0, 0, [], []⟩
def Ops (w : World) (v : Value) (os : List Opv) : Prop :=
  ∃ (ad : Option Addr) (cap b o : Nat), v = .slice ad os.length cap ∧ os.length ≤ cap ∧ cap ≤ maxLen ∧ (0 < os.length → ad = some ⟨b, o, none⟩) ∧
    ∀ j, j < os.length → ∃ vb vf, w.cell? ⟨b, o + j * 4, none⟩ = some (.int .i64 (os.getD j op0).k) ∧ w.cell? ⟨b, o + j * 4 + 1, none⟩ = some (.int .i64 (os.getD j op0).i) ∧ w.cell? ⟨b, o + j * 4 + 2, none⟩ = some vb ∧ w.cell? ⟨b, o + j * 4 + 3, none⟩ = some vf ∧ Bs w vb (os.getD j op0).b ∧ Fts w vf (os.getD j op0).fs
theorem Ops.len {w : World} {v : Value} {os : List Opv} (h : Ops w v os) : ∃ ad cap, v = .slice ad os.length cap ∧ os.length ≤ cap ∧ cap ≤ maxLen := by
  obtain ⟨ad, cap, b, o, h1, h2, h3, -⟩ := h
  exact ⟨ad, cap, h1, h2, h3⟩
theorem Ops.cel {w : World} {ad : Option Addr} {n cap : Nat} {os : List Opv} (h : Ops w (.slice ad n cap) os) (j : Nat) (hj : j < os.length) :
    ∃ b o vb vf, ad = some ⟨b, o, none⟩ ∧ w.cell? ⟨b, o + j * 4, none⟩ = some (.int .i64 (os.getD j op0).k) ∧ w.cell? ⟨b, o + j * 4 + 1, none⟩ = some (.int .i64 (os.getD j op0).i) ∧ w.cell? ⟨b, o + j * 4 + 2, none⟩ = some vb ∧ w.cell? ⟨b, o + j * 4 + 3, none⟩ = some vf ∧ Bs w vb (os.getD j op0).b ∧ Fts w vf (os.getD j op0).fs := by
  obtain ⟨ad', cap', b, o, e, h2, h3, h4, h5⟩ := h
  injection e with e1 e2 e3
  obtain ⟨vb, vf, q⟩ := h5 j hj
  exact ⟨b, o, vb, vf, by rw [e1]; exact h4 (by omega), q⟩
theorem Ops.later {w w' : World} {v : Value} {os : List Opv} (h : Ops w v os) (k : Below w.heap.size w w') : Ops w' v os := by
  obtain ⟨ad, cap, b, o, h1, h2, h3, h4, h5⟩ := h
  refine ⟨ad, cap, b, o, h1, h2, h3, h4, fun j hj => ?_⟩
  obtain ⟨vb, vf, q0, q1, q2, q3, q4, q5⟩ := h5 j hj
  exact ⟨vb, vf, cell_later k q0, cell_later k q1, cell_later k q2, cell_later k q3, q4.later k, q5.later k⟩
theorem Fts.len {w : World} {v : Value} {fs : List (Int × Int)} (h : Fts w v fs) : ∃ ad cap, v = .slice ad fs.length cap ∧ fs.length ≤ cap ∧ cap ≤ maxLen := by
  obtain ⟨ad, cap, b, o, h1, h2, h3, -⟩ := h
  exact ⟨ad, cap, h1, h2, h3⟩
theorem Fts.lo {w : World} {v : Value} {fs : List (Int × Int)} (h : Fts w v fs) : Lo w.heap.size v := by
  obtain ⟨ad, cap, b, o, rfl, h2, h3, h4, h5⟩ := h
  intro a n c e hn
  injection e with e1 e2 e3
  have := h4 (by omega)
  rw [this] at e1
  cases e1
  exact World.block_lt_of_cell? _ _ (h5 0 (by omega)).1
def Few (os : List Opv) : Prop := os.length ≤ 80 ∧ ∀ j, j < os.length → (os.getD j op0).b.length ≤ 300 ∧ (os.getD j op0).fs.length ≤ 100
def FwE (os : List Opv) (w : World) (e : Ending) (w' : World) : Prop := ∃ B : Bool, e = .returned (.bool B) ∧ (B = true → Few os) ∧ Below w.heap.size w w'
theorem FwE.no {os : List Opv} {w w' : World} (hb : Below w.heap.size w w') : FwE os w (.returned (.bool false)) w' := ⟨false, rfl, (fun q => by cases q), hb⟩
theorem FwE.yes {os : List Opv} {w w' : World} (h : Few os) (hb : Below w.heap.size w w') : FwE os w (.returned (.bool true)) w' := ⟨true, rfl, fun _ => h, hb⟩
end Go.Proofs.YthnpdcblfocemaaDoor
set_option linter.unusedVariables false
set_option linter.unusedSimpArgs false
namespace Go.Proofs.YthnpdcblfocemaaDoor
open Go.RowKit

def Txs (w : World) (v : Value) (ls : List (List Nat)) : Prop :=
  ∃ (ad : Option Addr) (cap b o : Nat), v = .slice ad ls.length cap ∧ ls.length ≤ cap ∧ cap ≤ maxLen ∧ (0 < ls.length → ad = some ⟨b, o, none⟩) ∧ ∀ j, j < ls.length → ∃ x, w.cell? ⟨b, o + j, none⟩ = some x ∧ Bs w x (ls.getD j [])
theorem Txs.len {w : World} {v : Value} {ls : List (List Nat)} (h : Txs w v ls) : ∃ ad cap, v = .slice ad ls.length cap ∧ ls.length ≤ cap ∧ cap ≤ maxLen := by
  obtain ⟨ad, cap, b, o, h1, h2, h3, -⟩ := h
  exact ⟨ad, cap, h1, h2, h3⟩
theorem Txs.cel {w : World} {ad : Option Addr} {n cap : Nat} {ls : List (List Nat)} (h : Txs w (.slice ad n cap) ls) (j : Nat) (hj : j < ls.length) : ∃ b o x, ad = some ⟨b, o, none⟩ ∧ w.cell? ⟨b, o + j, none⟩ = some x ∧ Bs w x (ls.getD j []) := by
  obtain ⟨ad', cap', b, o, e, h2, h3, h4, h5⟩ := h
  injection e with e1 e2 e3
  obtain ⟨x, q⟩ := h5 j hj
  exact ⟨b, o, x, by rw [e1]; exact h4 (by omega), q⟩
theorem Mix.more {ts : List (List Nat)} {b : List Nat} (h : Mix ts b) (t : List Nat) : Mix (ts ++ [t]) b := fun j hj => by
  obtain ⟨w, h1, h2⟩ := h j hj
  exact ⟨w, by simp [h1], h2⟩
theorem DkA.ok {V : Disk1} {w0 w : World} {p : Value} {s : Dsk} {v : Value} {ts : List (List Nat)} (h : DkA V w0 w p s v ts) : OkD s := h.dw.ok
end Go.Proofs.YthnpdcblfocemaaDoor
set_option linter.unusedVariables false
set_option linter.unusedSimpArgs false
namespace Go.Proofs.YthnpdcblfocemaaDoor
open Go.RowKit

def TxO (base : Nat) (w : World) (v : Value) (ls : List (List Nat)) : Prop :=
  ∃ cs : List Value, w.ownsRow base 22 1 v ls.length cs ∧ ∀ k, k < ls.length → ∃ x : Value, cs[k]? = some x ∧ Bs w x (ls.getD k []) ∧ ∀ g, v.ownBlock = some g → Nb x g
theorem txo_nil (base : Nat) (w : World) : TxO base w (.slice none 0 0) [] := ⟨[], World.ownsRow_nil _ _ _ _, fun k hk => by simp at hk⟩
theorem TxO.sl {base : Nat} {w : World} {v : Value} {ls : List (List Nat)} (h : TxO base w v ls) : ∃ ad cap, v = .slice ad ls.length cap := by
  obtain ⟨cs, h5, h6⟩ := h
  exact own_sl h5
theorem TxO.later {base : Nat} {w w' : World} {v : Value} {ls : List (List Nat)} (h : TxO base w v ls) (k : Below w.heap.size w w') : TxO base w' v ls := by
  obtain ⟨cs, h5, h6⟩ := h
  refine ⟨cs, own_later h5 k, fun j hj => ?_⟩
  obtain ⟨x, e1, e2, e3⟩ := h6 j hj
  exact ⟨x, e1, e2.later k, e3⟩
theorem TxO.low {base base' : Nat} {w : World} {v : Value} {ls : List (List Nat)} (h : TxO base w v ls) (hl : base' ≤ base) : TxO base' w v ls := by
  obtain ⟨cs, ⟨h1, h2⟩, h6⟩ := h
  refine ⟨cs, ⟨h1, ?_⟩, h6⟩
  rcases h2 with h0 | ⟨g, cap, cur, hv, hg, hh, r⟩
  · exact Or.inl h0
  · exact Or.inr ⟨g, cap, cur, hv, Nat.le_trans hl hg, hh, r⟩
theorem TxO.kn {base : Nat} {w w' : World} {v : Value} {ls : List (List Nat)} (h : TxO base w v ls) (k1 : ∀ g, v.ownBlock = some g → w'.heap[g]? = w.heap[g]?) (k2 : ∀ x l, Bs w x l → (∃ k, k < ls.length ∧ l = ls.getD k []) → Bs w' x l) : TxO base w' v ls := by
  obtain ⟨cs, h5, h6⟩ := h
  refine ⟨cs, own_block15 h5 k1, fun j hj => ?_⟩
  obtain ⟨x, e1, e2, e3⟩ := h6 j hj
  exact ⟨x, e1, k2 x _ e2 ⟨j, hj, rfl⟩, e3⟩
theorem TxO.txs {base : Nat} {w : World} {v : Value} {ls : List (List Nat)} (h : TxO base w v ls) : Txs w v ls := by
  obtain ⟨cs, h5, h6⟩ := h
  have hc := h5.1
  rcases h5.2 with ⟨rfl, h0⟩ | ⟨g, cap, cur, rfl, hg, hh, hc1, hc2, hsz, htk⟩
  · exact ⟨none, 0, 0, 0, by rw [h0], by omega, by unfold maxLen; omega, fun h => by omega, fun j hj => by omega⟩
  · refine ⟨_, cap, g, 0, rfl, hc1, hc2, fun _ => rfl, fun j hj => ?_⟩
    obtain ⟨x, e1, e2, -⟩ := h6 j hj
    refine ⟨x, ?_, e2⟩
    rw [Nat.zero_add]
    exact (h5.cellAt j (by omega)).trans e1
end Go.Proofs.YthnpdcblfocemaaDoor
set_option linter.unusedVariables false
set_option linter.unusedSimpArgs false
namespace Go.Proofs.YthnpdcblfocemaaDoor
open Go.RowKit
theorem Ob.sn {b : Nat} {w : World} {v : Value} {l : List Nat} (h : Ob b w v l) (n : Nat) (hn : l.length = n) : ∃ a c, v = .slice a n c := by
  obtain ⟨a, c, rfl⟩ := h.sl
  exact ⟨a, c, by rw [hn]⟩
end Go.Proofs.YthnpdcblfocemaaDoor
set_option linter.unusedVariables false
set_option linter.unusedSimpArgs false
namespace Go.Proofs.YthnpdcblfocemaaDoor
open Go.RowKit

structure RJ (w : World) (c : Nat) (p : Value) (base size : Nat) (j : Jst) : Prop where
  c0 : w.cell? ⟨c, 0, none⟩ = some p
  c1 : w.cell? ⟨c, 1, none⟩ = some (.int .i64 (base : Int))
  c2 : w.cell? ⟨c, 2, none⟩ = some (.int .i64 (size : Int))
  c3 : w.cell? ⟨c, 3, none⟩ = some (.int .i64 (j.gen : Int))
  c4 : w.cell? ⟨c, 4, none⟩ = some (.int .i64 (j.n : Int))
  c5 : w.cell? ⟨c, 5, none⟩ = some (.int .i64 (j.next : Int))
  f : ∀ k, k < 6 → w.frozen? ⟨c, k, none⟩ = false
theorem RJ.lt {w : World} {c : Nat} {p : Value} {base size : Nat} {j : Jst} (h : RJ w c p base size j) : c < w.heap.size := World.block_lt_of_cell? _ _ h.c0
theorem RJ.kept {w w' : World} {c : Nat} {p : Value} {base size : Nat} {j : Jst} (h : RJ w c p base size j) (k : w'.heap[c]? = w.heap[c]?) : RJ w' c p base size j :=
  ⟨cell_blk5 (a := ⟨c, 0, none⟩) k h.c0, cell_blk5 (a := ⟨c, 1, none⟩) k h.c1, cell_blk5 (a := ⟨c, 2, none⟩) k h.c2, cell_blk5 (a := ⟨c, 3, none⟩) k h.c3, cell_blk5 (a := ⟨c, 4, none⟩) k h.c4, cell_blk5 (a := ⟨c, 5, none⟩) k h.c5, fun i hi => frz_blk5 (a := ⟨c, i, none⟩) k (h.f i hi)⟩
theorem RJ.later {w w' : World} {c : Nat} {p : Value} {base size : Nat} {j : Jst} (h : RJ w c p base size j) (k : Below w.heap.size w w') : RJ w' c p base size j := h.kept (k.block _ h.lt)
theorem gt_lt4 {h : List Nat} (hb : ∀ c ∈ h, c < 256) (p : Nat) : gt h p 4 < 4294967296 := by
  have h1 := deN_lt ((h.drop p).take 4) (fun c hc => hb c (List.mem_of_mem_drop (List.mem_of_mem_take hc)))
  have h2 : ((h.drop p).take 4).length ≤ 4 := List.length_take_le _ _
  have h3 : 256 ^ ((h.drop p).take 4).length ≤ 256 ^ 4 := Nat.pow_le_pow_right (by omega) h2
  unfold gt
  omega
theorem jal_len {B : Nat → List Nat} {p t : Nat} (h : ∀ i, i < t → (B (p + i)).length = 128) : ((List.range t).flatMap fun i => (B (p + i)).take 104).length = t * 104 := by
  induction t with
  | zero => rfl
  | succ t ih =>
    rw [List.range_succ, List.flatMap_append, List.length_append, ih (fun i hi => h i (by omega))]
    have := h t (by omega)
    simp [this]
    omega
end Go.Proofs.YthnpdcblfocemaaDoor
set_option linter.unusedVariables false
set_option linter.unusedSimpArgs false
namespace Go.Proofs.YthnpdcblfocemaaDoor
open Go.RowKit
def rdE17 (s : Dsk) (gen : Int) : Nat := if gen < 1 then 2 else if s.dn = true then 150 else 0
def rdL17 (s : Dsk) (base size : Nat) (gen : Int) : List (List Nat) := if gen < 1 then [] else if s.dn = true then [] else jread (rb s) base size gen.toNat
theorem RJ.gn {w : World} {c : Nat} {p : Value} {base size : Nat} {j : Jst} (h : RJ w c p base size j) (x : Nat) : RJ (w.setCell ⟨c, 3, none⟩ (.int .i64 (x : Int))) c p base size { j with gen := x } :=
  ⟨far5 h.c0 (by decide), far5 h.c1 (by decide), far5 h.c2 (by decide), same5 h.c3, far5 h.c4 (by decide), far5 h.c5 (by decide), fun k hk => (World.frozen?_setCell _ _ _ _).trans (h.f k hk)⟩
theorem RJ.nx {w : World} {c : Nat} {p : Value} {base size : Nat} {j : Jst} (h : RJ w c p base size j) (x : Nat) : RJ (w.setCell ⟨c, 5, none⟩ (.int .i64 (x : Int))) c p base size { j with next := x } :=
  ⟨far5 h.c0 (by decide), far5 h.c1 (by decide), far5 h.c2 (by decide), far5 h.c3 (by decide), far5 h.c4 (by decide), same5 h.c5, fun k hk => (World.frozen?_setCell _ _ _ _).trans (h.f k hk)⟩
end Go.Proofs.YthnpdcblfocemaaDoor
set_option linter.unusedVariables false
set_option linter.unusedSimpArgs false
namespace Go.Proofs.YthnpdcblfocemaaDoor
open Go.RowKit
theorem jwr_next (p : Nat) (r : List Nat) (n gen k i : Nat) (s : Dsk) : jwr p r n gen (k + 1) i s = if wrE s ((p + i : Nat) : Int) (jblk r i n gen) ≠ 0 then (wrE s ((p + i : Nat) : Int) (jblk r i n gen), wrS s ((p + i : Nat) : Int) (jblk r i n gen)) else jwr p r n gen k (i + 1) (wrS s ((p + i : Nat) : Int) (jblk r i n gen)) := rfl
end Go.Proofs.YthnpdcblfocemaaDoor
set_option linter.unusedVariables false
set_option linter.unusedSimpArgs false
namespace Go.Proofs.YthnpdcblfocemaaDoor
open Go.RowKit
theorem Fts.cel {w : World} {ad : Option Addr} {n cap : Nat} {fs : List (Int × Int)} (h : Fts w (.slice ad n cap) fs) (j : Nat) (hj : j < fs.length) : ∃ b o, ad = some ⟨b, o, none⟩ ∧ w.cell? ⟨b, o + j * 2, none⟩ = some (.int .i64 (fs.getD j (0, 0)).1) ∧ w.cell? ⟨b, o + j * 2 + 1, none⟩ = some (.int .i64 (fs.getD j (0, 0)).2) := by
  obtain ⟨ad', cap', b, o, e, h2, h3, h4, h5⟩ := h
  injection e with e1 e2 e3
  exact ⟨b, o, by rw [e1]; exact h4 (by omega), h5 j hj⟩
theorem Fts.kp {w w' : World} {v : Value} {fs : List (Int × Int)} {F : Nat → Prop} (h : Fts w v fs) (k : Kp F w w') (hn : Nf F v) : Fts w' v fs := by
  obtain ⟨ad, cap, b, o, rfl, h2, h3, h4, h5⟩ := h
  refine ⟨ad, cap, b, o, rfl, h2, h3, h4, fun j hj => ?_⟩
  have e := h4 (by omega)
  subst e
  have hb := hn ⟨b, o, none⟩ _ cap rfl (by omega)
  exact ⟨k.cell (a := ⟨b, o + j * 2, none⟩) hb (h5 j hj).1, k.cell (a := ⟨b, o + j * 2 + 1, none⟩) hb (h5 j hj).2⟩
end Go.Proofs.YthnpdcblfocemaaDoor
set_option linter.unusedVariables false
set_option linter.unusedSimpArgs false
namespace Go.Proofs.YthnpdcblfocemaaDoor
open Go.RowKit

def Kn (N : Nat → Prop) (w w' : World) : Prop := ∀ k, N k → w'.heap[k]? = w.heap[k]?
def Ou (B : Nat) (N : Nat → Prop) (v : Value) : Prop := ∀ (a : Addr) (n cap : Nat), v = .slice (some a) n cap → 0 < n → a.block < B ∨ N a.block
theorem Ou.up {B : Nat} {N N' : Nat → Prop} {v : Value} (h : Ou B N v) (k : ∀ k, N k → N' k) : Ou B N' v := fun a n c e hn => (h a n c e hn).imp id (k _)
theorem Lo.ou {B : Nat} {N : Nat → Prop} {v : Value} (h : Lo B v) : Ou B N v := fun a n c e hn => Or.inl (h a n c e hn)
end Go.Proofs.YthnpdcblfocemaaDoor
set_option linter.unusedVariables false
set_option linter.unusedSimpArgs false
namespace Go.Proofs.YthnpdcblfocemaaDoor
open Go.RowKit

def JT (w : World) : Prop := w.cell? ⟨0, 0, none⟩ = some (.int .i64 4) ∧ w.cell? ⟨0, 1, none⟩ = some (.int .i64 2) ∧ w.cell? ⟨0, 2, none⟩ = some (.int .i64 2) ∧ w.cell? ⟨0, 3, none⟩ = some (.int .i64 8) ∧ w.cell? ⟨0, 4, none⟩ = some (.int .i64 8)
theorem JT.lt {w : World} (h : JT w) : 0 < w.heap.size := World.block_lt_of_cell? _ _ h.1
theorem JT.later {w w' : World} (h : JT w) (k : Below w.heap.size w w') : JT w' := ⟨cell_later k h.1, cell_later k h.2.1, cell_later k h.2.2.1, cell_later k h.2.2.2.1, cell_later k h.2.2.2.2⟩
theorem JT.kept {w w' : World} (h : JT w) (k : w'.heap[(0 : Nat)]? = w.heap[(0 : Nat)]?) : JT w' := by
  have kc : ∀ (i : Nat) (v : Value), w.cell? ⟨0, i, none⟩ = some v → w'.cell? ⟨0, i, none⟩ = some v := fun i v hv => (World.cell?_of_block (a := ⟨0, i, none⟩) k).trans hv
  exact ⟨kc _ _ h.1, kc _ _ h.2.1, kc _ _ h.2.2.1, kc _ _ h.2.2.2.1, kc _ _ h.2.2.2.2⟩
end Go.Proofs.YthnpdcblfocemaaDoor
set_option linter.unusedVariables false
set_option linter.unusedSimpArgs false
namespace Go.Proofs.YthnpdcblfocemaaDoor
open Go.RowKit

structure Owns (T : World → (Nat → Prop) → Prop) : Prop where
  lt : ∀ {w : World} {F : Nat → Prop}, T w F → ∀ k, F k → k < w.heap.size
  kept : ∀ {w w' : World} {F : Nat → Prop}, T w F → (∀ k, F k → w'.heap[k]? = w.heap[k]?) → w.heap.size ≤ w'.heap.size → T w' F
theorem Owns.later {T : World → (Nat → Prop) → Prop} (o : Owns T) {w w' : World} {F : Nat → Prop} (h : T w F) (k : Below w.heap.size w w') : T w' F := o.kept h (fun i hi => k.block i (o.lt h i hi)) k.size
def Nx (T : World → (Nat → Prop) → Prop) (F : Nat → Prop) (w w' : World) : Prop := ∃ F' : Nat → Prop, T w' F' ∧ Gr F F' w ∧ Kp F w w'
def P2 (S T : World → (Nat → Prop) → Prop) (w0 w : World) (N : Nat → Prop) : Prop :=
  ∃ F G : Nat → Prop, S w F ∧ T w G ∧ (∀ k, F k → w0.heap.size ≤ k) ∧ (∀ k, G k → w0.heap.size ≤ k) ∧ (∀ k, F k → ¬ G k) ∧ (∀ k, N k → ¬ F k ∧ ¬ G k ∧ w0.heap.size ≤ k ∧ k < w.heap.size) ∧ Below w0.heap.size w0 w
def Nil2 : World → (Nat → Prop) → Prop := fun _ F => ∀ k, ¬ F k
theorem owns_nil : Owns Nil2 := ⟨fun h k hk => absurd hk (h k), fun h _ _ => h⟩
theorem P2.bel {S T : World → (Nat → Prop) → Prop} {w0 w : World} {N : Nat → Prop} (h : P2 S T w0 w N) : Below w0.heap.size w0 w := by
  obtain ⟨F, G, -, -, -, -, -, -, h⟩ := h
  exact h
theorem P2.weak {S T : World → (Nat → Prop) → Prop} {w0 w : World} {N N' : Nat → Prop} (h : P2 S T w0 w N) (k : ∀ k, N' k → N k) : P2 S T w0 w N' := by
  obtain ⟨F, G, h1, h2, h3, h4, h5, h6, h7⟩ := h
  exact ⟨F, G, h1, h2, h3, h4, h5, fun i hi => h6 i (k i hi), h7⟩
theorem P2.later {S T : World → (Nat → Prop) → Prop} (oS : Owns S) (oT : Owns T) {w0 w w' : World} {N : Nat → Prop} (h : P2 S T w0 w N) (k : Below w.heap.size w w') : P2 S T w0 w' (fun i => N i ∨ (w.heap.size ≤ i ∧ i < w'.heap.size)) := by
  obtain ⟨F, G, h1, h2, h3, h4, h5, h6, h7⟩ := h
  have hs := k.size
  refine ⟨F, G, oS.later h1 k, oT.later h2 k, h3, h4, h5, fun i hi => ?_, bchain h7 k⟩
  rcases hi with q | q
  · obtain ⟨a, b, c, e⟩ := h6 i q
    exact ⟨a, b, c, by omega⟩
  · exact ⟨fun e => by have := oS.lt h1 i e; omega, fun e => by have := oT.lt h2 i e; omega, by have := h7.size; omega, q.2⟩
theorem P2.set {S T : World → (Nat → Prop) → Prop} (oS : Owns S) (oT : Owns T) {w0 w : World} {N : Nat → Prop} (h : P2 S T w0 w N) {p : Addr} (hp : N p.block) (u : Value) : P2 S T w0 (w.setCell p u) N := by
  obtain ⟨F, G, h1, h2, h3, h4, h5, h6, h7⟩ := h
  obtain ⟨q1, q2, q3, q4⟩ := h6 _ hp
  have o : ∀ k, k ≠ p.block → (w.setCell p u).heap[k]? = w.heap[k]? := fun k hk => Below.heap_setCell _ _ _ _ hk
  refine ⟨F, G, oS.kept h1 (fun i hi => o i (fun e => q1 (by rw [← e]; exact hi))) (by rw [World.size_setCell]; exact Nat.le_refl _), oT.kept h2 (fun i hi => o i (fun e => q2 (by rw [← e]; exact hi))) (by rw [World.size_setCell]; exact Nat.le_refl _), h3, h4, h5, fun i hi => ?_, h7.setCell q3 u⟩
  rw [World.size_setCell]
  exact h6 i hi
theorem P2.left {S T : World → (Nat → Prop) → Prop} (oT : Owns T) {w0 w : World} {N : Nat → Prop} (h : P2 S T w0 w N) : ∃ F, S w F ∧ (∀ k, F k → w0.heap.size ≤ k) ∧ (∀ k, N k → ¬ F k) ∧ ∀ (S' : World → (Nat → Prop) → Prop) (w' : World), Nx S' F w w' → P2 S' T w0 w' N ∧ Kn N w w' := by
  obtain ⟨F, G, h1, h2, h3, h4, h5, h6, h7⟩ := h
  refine ⟨F, h1, h3, fun k hk => (h6 k hk).1, fun S' w' hn => ?_⟩
  obtain ⟨F', q1, q2, q3⟩ := hn
  have hB := h7.size
  refine ⟨⟨F', G, q1, oT.kept h2 (fun k hk => q3.block k (oT.lt h2 k hk) (fun e => h5 k e hk)) q3.size, fun k hk => ?_, h4, fun k hk hg => ?_, fun k hk => ?_, q3.next h7 h3 hB⟩, fun k hk => q3.block k (h6 k hk).2.2.2 (h6 k hk).1⟩
  · rcases q2 k hk with q | q
    · exact h3 k q
    · omega
  · rcases q2 k hk with q | q
    · exact h5 k q hg
    · have := oT.lt h2 k hg; omega
  · obtain ⟨a, b, c, e⟩ := h6 k hk
    refine ⟨fun q => ?_, b, c, Nat.lt_of_lt_of_le e q3.size⟩
    rcases q2 k q with q | q
    · exact a q
    · omega
theorem nf_ou {F N : Nat → Prop} {B : Nat} {v : Value} (h : Ou B N v) (h1 : ∀ k, F k → B ≤ k) (h2 : ∀ k, N k → ¬ F k) : Nf F v := fun a n c e hn q => by
  rcases h a n c e hn with l | l
  · have := h1 _ q; omega
  · exact h2 _ l q
structure Jour1 (V : Disk1) where
  Jt : World → Value → Value → (Nat → Prop) → Nat → Nat → Jst → Prop
  jtK : ∀ {w w' : World} {q d : Value} {G : Nat → Prop} {base size : Nat} {j : Jst}, Jt w q d G base size j → (∀ k, G k → w'.heap[k]? = w.heap[k]?) → w.heap.size ≤ w'.heap.size → Jt w' q d G base size j
  jtB : ∀ {w : World} {q d : Value} {G : Nat → Prop} {base size : Nat} {j : Jst}, Jt w q d G base size j → ∀ k, G k → k < w.heap.size
  newY : ∀ (w : World) (d : Value) (F : Nat → Prop) (s : Dsk) (base size : Nat), V.Dt w d F s → 1 ≤ size → base + size ≤ s.bl.length →
    Calls Tryd.prog 33 #[d, .int .i64 (base : Int), .int .i64 (size : Int)] w fun e w' => ∃ a G, e = .returned (.tuple #[.pointer (some a), .int .i64 0]) ∧ Jt w' (.pointer (some a)) d G base size ⟨0, 0, 0⟩ ∧ (∀ k, G k → w.heap.size ≤ k) ∧ Below w.heap.size w w'
  newN : ∀ (w : World) (d : Value) (F : Nat → Prop) (s : Dsk) (base size : Int), V.Dt w d F s → Bd64 base → Bd64 size → ¬ (1 ≤ size ∧ 0 ≤ base ∧ base + size ≤ (s.bl.length : Int)) →
    Calls Tryd.prog 33 #[d, .int .i64 base, .int .i64 size] w fun e w' => e = .returned (.tuple #[.pointer none, .int .i64 2]) ∧ Below w.heap.size w w'
  read : ∀ (w : World) (q d : Value) (F G : Nat → Prop) (s : Dsk) (base size : Nat) (j : Jst) (gen : Int), Jt w q d G base size j → V.Dt w d F s → (∀ k, F k → ¬ G k) → JT w → base + size ≤ s.bl.length → s.bl.length ≤ 1000 → s.un.length ≤ 400 → Bd64 gen →
    Calls Tryd.prog 36 #[q, .int .i64 gen] w fun e w' => ∃ v, e = .returned (.tuple #[v, .int .i64 ((rdE17 s gen : Nat) : Int)]) ∧ Txs w' v (rdL17 s base size gen) ∧ Below w.heap.size w w'
  begin : ∀ (w : World) (q d : Value) (F G : Nat → Prop) (s : Dsk) (base size : Nat) (j : Jst) (gen : Int), Jt w q d G base size j → V.Dt w d F s → (∀ k, F k → ¬ G k) → Bd64 gen →
    Calls Tryd.prog 24 #[q, .int .i64 gen] w fun e w' => e = .returned (.int .i64 ((if gen < 1 then 2 else 0 : Nat) : Int)) ∧ Nx (fun w' G => Jt w' q d G base size (if gen < 1 then j else ⟨gen.toNat, 0, 0⟩)) G w w'
  append : ∀ (w : World) (q d : Value) (F G : Nat → Prop) (s : Dsk) (base size : Nat) (j : Jst) (v : Value) (r : List Nat), Jt w q d G base size j → V.Dt w d F s → (∀ k, F k → ¬ G k) → JT w → (∀ k, F k → k ≠ 0) → (∀ k, G k → k ≠ 0) → base + size ≤ s.bl.length → s.bl.length ≤ 900 → s.un.length ≤ 100 → j.next ≤ size → j.n ≤ 1000000 → j.gen < 9223372036854775808 → Bs w v r → Nf F v → Nf G v → (∀ x ∈ r, x < 256) → r.length ≤ 1000000 →
    Calls Tryd.prog 27 #[q, v] w fun e w' => e = .returned (.int .i64 (((japp s base size j r).1 : Nat) : Int)) ∧ ∃ F' G', V.Dt w' d F' (japp s base size j r).2.1 ∧ Jt w' q d G' base size (japp s base size j r).2.2 ∧ (∀ k, F' k → ¬ G' k) ∧ Gr F F' w ∧ Gr G G' w ∧ Kp (fun k => F k ∨ G k) w w'
  left : ∀ (w : World) (q d : Value) (F G : Nat → Prop) (s : Dsk) (base size : Nat) (j : Jst), Jt w q d G base size j → V.Dt w d F s → j.next ≤ size →
    Calls Tryd.prog 28 #[q] w fun e w' => e = .returned (.int .i64 ((if j.gen = 0 then 0 else size - j.next : Nat) : Int)) ∧ Below w.heap.size w w'
def JD (V : Disk1) (J : Jour1 V) (d q : Value) (base size : Nat) (s : Dsk) (j : Jst) : World → (Nat → Prop) → Prop := fun w A => ∃ F G : Nat → Prop, V.Dt w d F s ∧ J.Jt w q d G base size j ∧ (∀ k, F k → ¬ G k) ∧ A = fun k => F k ∨ G k
end Go.Proofs.YthnpdcblfocemaaDoor
set_option linter.unusedVariables false
set_option linter.unusedSimpArgs false
namespace Go.Proofs.YthnpdcblfocemaaDoor
open Go.RowKit

theorem jwr_jq (p : Nat) (r : List Nat) (n gen : Nat) : ∀ (k i : Nat) (s : Dsk), s.dn = false → p + i + k ≤ s.bl.length → ((jwr p r n gen k i s).1 = 0 ∧ (jwr p r n gen k i s).2.dn = false ∨ (jwr p r n gen k i s).1 ≠ 0 ∧ (jwr p r n gen k i s).2.dn = true) ∧ (jwr p r n gen k i s).2.bl.length = s.bl.length ∧ (jwr p r n gen k i s).2.un.length ≤ s.un.length + k := by
  intro k
  induction k with
  | zero => intro i s hd _; exact ⟨Or.inl ⟨rfl, hd⟩, rfl, Nat.le_refl _⟩
  | succ k ih =>
    intro i s hd hl
    have h1 := bl_wr s ((p + i : Nat) : Int) (jblk r i n gen)
    obtain ⟨-, -, w3⟩ := wr_step (s := s) (i := p + i) (b := jblk r i n gen) hd (by omega) (by rw [jblk_len]; omega)
    rw [jwr_next]
    by_cases q : wrE s ((p + i : Nat) : Int) (jblk r i n gen) ≠ 0
    · rw [if_pos q]
      refine ⟨Or.inr ⟨q, ?_⟩, h1.1, by have := h1.2; dsimp only; omega⟩
      rcases w3 with w3 | w3
      · exact wrE_down w3
      · exact absurd w3.1 q
    · rw [if_neg q]
      have hd2 : (wrS s ((p + i : Nat) : Int) (jblk r i n gen)).dn = false := by
        rcases w3 with w3 | w3
        · exact absurd w3 (by omega)
        · exact w3.2
      obtain ⟨g1, g2, g3⟩ := ih (i + 1) _ hd2 (by rw [h1.1]; omega)
      exact ⟨g1, by rw [g2, h1.1], by have := h1.2; omega⟩
theorem jwr_down (p : Nat) (r : List Nat) (n gen k i : Nat) {s : Dsk} (hd : s.dn = true) : jwr p r n gen (k + 1) i s = (150, s) := by
  have a : dAsk s ((p + i : Nat) : Int) = 150 := by unfold dAsk; rw [if_pos hd]
  have e1 : wrE s ((p + i : Nat) : Int) (jblk r i n gen) = 150 := by unfold wrE; rw [a]; rfl
  have e2 : wrS s ((p + i : Nat) : Int) (jblk r i n gen) = s := by unfold wrS; rw [if_pos (Or.inl (by rw [a]; decide))]
  rw [jwr_next, e1, e2]
  rfl
structure JB (size k : Nat) (j : Jst) : Prop where
  nx : j.next ≤ size
  n : j.n ≤ k
  gen : j.gen < 9223372036854775808
theorem JB.up {size k k' : Nat} {j : Jst} (h : JB size k j) (hk : k ≤ k') : JB size k' j := ⟨h.nx, Nat.le_trans h.n hk, h.gen⟩
theorem jb_new (size : Nat) : JB size 0 ⟨0, 0, 0⟩ := ⟨Nat.zero_le _, Nat.zero_le _, by decide⟩
theorem jb_app {s : Dsk} {base size k : Nat} {j : Jst} (h : JB size k j) (r : List Nat) : JB size (k + 1) (japp s base size j r).2.2 := by
  unfold japp
  have hn := h.nx
  have h2 := h.n
  by_cases g1 : j.gen = 0
  · rw [if_pos g1]; exact h.up (by omega)
  rw [if_neg g1]
  by_cases g2 : 262144 < r.length
  · rw [if_pos g2]; exact h.up (by omega)
  rw [if_neg g2]
  by_cases g3 : size - j.next < prt r.length
  · rw [if_pos g3]; exact h.up (by omega)
  rw [if_neg g3]
  by_cases g4 : (jput s base j r).1 ≠ 0
  · rw [if_pos g4]; exact ⟨hn, by show j.n ≤ _; omega, by show 0 < _; omega⟩
  · rw [if_neg g4]; exact ⟨by show j.next + prt r.length ≤ _; omega, by show j.n + 1 ≤ _; omega, h.gen⟩
theorem jq_app {s : Dsk} {m base size k : Nat} {j : Jst} (h : Jq m s) (hb : JB size k j) (hr : base + size ≤ m) (r : List Nat) (hl : r.length ≤ 6000) : Jq m (japp s base size j r).2.1 := by
  unfold japp
  have hn := hb.nx
  have hp : prt r.length ≤ 60 := by unfold prt; omega
  have hpp := prt_pos r.length
  by_cases g1 : j.gen = 0
  · rw [if_pos g1]; exact h
  rw [if_neg g1]
  by_cases g2 : 262144 < r.length
  · rw [if_pos g2]; exact h
  rw [if_neg g2]
  by_cases g3 : size - j.next < prt r.length
  · rw [if_pos g3]; exact h
  rw [if_neg g3]
  have key : Jq m (jput s base j r).2 := by
    unfold jput
    obtain ⟨P, hP⟩ : ∃ P, prt r.length = P + 1 := ⟨prt r.length - 1, by omega⟩
    by_cases hd : s.dn = true
    · rw [hP, jwr_down _ _ _ _ _ _ hd]
      exact h
    · have hd : s.dn = false := by simpa using hd
      obtain ⟨w1, w2, w3⟩ := jwr_jq (base + j.next) r (j.n + 1) j.gen (prt r.length) 0 s hd (by rw [h.bl]; omega)
      rw [h.un hd] at w3
      rw [h.bl] at w2
      simp only [List.length_nil, Nat.zero_add] at w3
      generalize jwr (base + j.next) r (j.n + 1) j.gen (prt r.length) 0 s = w at *
      unfold jfl
      by_cases g4 : w.1 ≠ 0
      · rw [if_pos g4]
        rcases w1 with w1 | w1
        · exact absurd w1.1 g4
        · exact ⟨fun q => (by rw [w1.2] at q; cases q), by omega, w2⟩
      · rw [if_neg g4]
        exact jq_fl (by omega) w2
  by_cases g4 : (jput s base j r).1 ≠ 0
  · rw [if_pos g4]; exact key
  · rw [if_neg g4]; exact key
end Go.Proofs.YthnpdcblfocemaaDoor
set_option linter.unusedVariables false
set_option linter.unusedSimpArgs false
namespace Go.Proofs.YthnpdcblfocemaaDoor
open Go.RowKit

def Fev17 (os : List Opv) : Prop := os.length ≤ 60 ∧ ∀ j, j < os.length → (os.getD j op0).b.length ≤ 1000 ∧ (os.getD j op0).fs.length ≤ 40
def FwF17 (os : List Opv) (w : World) (e : Ending) (w' : World) : Prop := ∃ B : Bool, e = .returned (.bool B) ∧ (B = true → Fev17 os) ∧ Below w.heap.size w w'
theorem FwF17.no {os : List Opv} {w w' : World} (hb : Below w.heap.size w w') : FwF17 os w (.returned (.bool false)) w' := ⟨false, rfl, (fun q => by cases q), hb⟩
theorem FwF17.yes {os : List Opv} {w w' : World} (h : Fev17 os) (hb : Below w.heap.size w w') : FwF17 os w (.returned (.bool true)) w' := ⟨true, rfl, fun _ => h, hb⟩
end Go.Proofs.YthnpdcblfocemaaDoor
set_option linter.unusedVariables false
set_option linter.unusedSimpArgs false
namespace Go.Proofs.YthnpdcblfocemaaDoor
open Go.RowKit
theorem Txs.later {w w' : World} {v : Value} {ls : List (List Nat)} (h : Txs w v ls) (k : Below w.heap.size w w') : Txs w' v ls := by
  obtain ⟨ad, cap, b, o, h1, h2, h3, h4, h5⟩ := h
  exact ⟨ad, cap, b, o, h1, h2, h3, h4, fun j hj => by
    obtain ⟨x, e1, e2⟩ := h5 j hj
    exact ⟨x, cell_later k e1, e2.later k⟩⟩
structure Bx (bo : Nat) (k i : Int) (vb vf : Value) (w : World) : Prop where
  y0 : w.cell? ⟨bo, 0, none⟩ = some (.int .i64 k)
  y1 : w.cell? ⟨bo, 1, none⟩ = some (.int .i64 i)
  y2 : w.cell? ⟨bo, 2, none⟩ = some vb
  y3 : w.cell? ⟨bo, 3, none⟩ = some vf
theorem kn_cell {N : Nat → Prop} {w w' : World} (h : Kn N w w') {a : Addr} {v : Value} (hn : N a.block) (hc : w.cell? a = some v) : w'.cell? a = some v := (World.cell?_of_block (w := w) (h _ hn)).trans hc
theorem Bx.kn {N : Nat → Prop} {bo : Nat} {k i : Int} {vb vf : Value} {w w' : World} (h : Bx bo k i vb vf w) (K : Kn N w w') (ho : N bo) : Bx bo k i vb vf w' :=
  ⟨kn_cell K (a := ⟨bo, 0, none⟩) ho h.y0, kn_cell K (a := ⟨bo, 1, none⟩) ho h.y1, kn_cell K (a := ⟨bo, 2, none⟩) ho h.y2, kn_cell K (a := ⟨bo, 3, none⟩) ho h.y3⟩
theorem Bx.later {bo : Nat} {k i : Int} {vb vf : Value} {w w' : World} (h : Bx bo k i vb vf w) (K : Below w.heap.size w w') : Bx bo k i vb vf w' :=
  ⟨cell_later K h.y0, cell_later K h.y1, cell_later K h.y2, cell_later K h.y3⟩
end Go.Proofs.YthnpdcblfocemaaDoor
set_option linter.unusedVariables false
set_option linter.unusedSimpArgs false
namespace Go.Proofs.YthnpdcblfocemaaDoor
open Go.RowKit
theorem P2.dw {V : Disk1} {J : Jour1 V} {T : World → (Nat → Prop) → Prop} {w0 w : World} {N : Nat → Prop} {d q : Value} {base size : Nat} {s : Dsk} {j : Jst} (h : P2 (JD V J d q base size s j) T w0 w N) : Dw V w0 w d s := by
  obtain ⟨A, B, ⟨F, G, h1, h2, h3, rfl⟩, -, h4, -, -, -, h5⟩ := h
  exact ⟨F, h1, fun k hk => h4 k (Or.inl hk), h5⟩
theorem ow_ou {B0 B n : Nat} {v : Value} (h : Ow B v) (hl : Lo n v) : Ou B0 (fun i => False ∨ (B ≤ i ∧ i < n)) v := fun a n c e hn => Or.inr (Or.inr ⟨h a n c e hn, hl a n c e hn⟩)
end Go.Proofs.YthnpdcblfocemaaDoor
