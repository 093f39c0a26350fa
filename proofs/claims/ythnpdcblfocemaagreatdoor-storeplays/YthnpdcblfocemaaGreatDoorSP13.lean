/-
  Texts of this proof, joined: JnTwo JnPlay DkStepA JnLawS JnAwake JnOrd StMath StMath2 StCalm.
-/
import Derived.Test.YthnpdcblfocemaaGreatDoorSP03
import Derived.Test.YthnpdcblfocemaaGreatDoorSP07
import Derived.Test.YthnpdcblfocemaaGreatDoorSP09
import Derived.Test.YthnpdcblfocemaaGreatDoorSP11
import Derived.Test.YthnpdcblfocemaaGreatDoorSP12
import Derived.Laws.AppendOwn
import Derived.Laws.BytesArg
import Derived.Lib.SlBytesConst
set_option linter.unusedVariables false
set_option linter.unusedSimpArgs false
namespace Go.Proofs.YthnpdcblfocemaaGreatDoor
open Go.RowKit

structure Owns (T : World → (Nat → Prop) → Prop) : Prop where
  lt : ∀ {w : World} {F : Nat → Prop}, T w F → ∀ k, F k → k < w.heap.size
  kept : ∀ {w w' : World} {F : Nat → Prop}, T w F → (∀ k, F k → w'.heap[k]? = w.heap[k]?) → w.heap.size ≤ w'.heap.size → T w' F
theorem Owns.later {T : World → (Nat → Prop) → Prop} (o : Owns T) {w w' : World} {F : Nat → Prop} (h : T w F) (k : Below w.heap.size w w') : T w' F := o.kept h (fun i hi => k.block i (o.lt h i hi)) k.size
def Nx (T : World → (Nat → Prop) → Prop) (F : Nat → Prop) (w w' : World) : Prop := ∃ F' : Nat → Prop, T w' F' ∧ Gr F F' w ∧ Kp F w w'
def P2 (S T : World → (Nat → Prop) → Prop) (w0 w : World) (N : Nat → Prop) : Prop :=
  ∃ F G : Nat → Prop, S w F ∧ T w G ∧ (∀ k, F k → w0.heap.size ≤ k) ∧ (∀ k, G k → w0.heap.size ≤ k) ∧ (∀ k, F k → ¬ G k) ∧ (∀ k, N k → ¬ F k ∧ ¬ G k ∧ w0.heap.size ≤ k ∧ k < w.heap.size) ∧ Below w0.heap.size w0 w
def Nil2 : World → (Nat → Prop) → Prop := fun _ F => ∀ k, ¬ F k
theorem owns_nil : Owns Nil2 := ⟨fun h k hk => absurd hk (h k), fun h _ _ => h⟩
theorem P2.swap {S T : World → (Nat → Prop) → Prop} {w0 w : World} {N : Nat → Prop} (h : P2 S T w0 w N) : P2 T S w0 w N := by
  obtain ⟨F, G, h1, h2, h3, h4, h5, h6, h7⟩ := h
  exact ⟨G, F, h2, h1, h4, h3, fun k hg hf => h5 k hf hg, fun k hk => ⟨(h6 k hk).2.1, (h6 k hk).1, (h6 k hk).2.2⟩, h7⟩
theorem P2.bel {S T : World → (Nat → Prop) → Prop} {w0 w : World} {N : Nat → Prop} (h : P2 S T w0 w N) : Below w0.heap.size w0 w := by
  obtain ⟨F, G, -, -, -, -, -, -, h⟩ := h
  exact h
theorem P2.weak {S T : World → (Nat → Prop) → Prop} {w0 w : World} {N N' : Nat → Prop} (h : P2 S T w0 w N) (k : ∀ k, N' k → N k) : P2 S T w0 w N' := by
  obtain ⟨F, G, h1, h2, h3, h4, h5, h6, h7⟩ := h
  exact ⟨F, G, h1, h2, h3, h4, h5, fun i hi => h6 i (k i hi), h7⟩
theorem P2.later {S T : World → (Nat → Prop) → Prop} (oS : Owns S) (oT : Owns T) {w0 w w' : World} {N : Nat → Prop} (h : P2 S T w0 w N) (k : Below w.heap.size w w') : P2 S T w0 w' (fun i => N i ∨ (w.heap.size ≤ i ∧ i < w'.heap.size)) := by
  obtain ⟨F, G, h1, h2, h3, h4, h5, h6, h7⟩ := h
  have hs := k.size
  refine ⟨F, G, oS.later h1 k, oT.later h2 k, h3, h4, h5, fun i hi => ?_, bchain h7 k⟩
  rcases hi with q | q
  · obtain ⟨a, b, c, e⟩ := h6 i q
    exact ⟨a, b, c, by omega⟩
  · exact ⟨fun e => by have := oS.lt h1 i e; omega, fun e => by have := oT.lt h2 i e; omega, by have := h7.size; omega, q.2⟩
theorem P2.left {S T : World → (Nat → Prop) → Prop} (oT : Owns T) {w0 w : World} {N : Nat → Prop} (h : P2 S T w0 w N) : ∃ F, S w F ∧ (∀ k, F k → w0.heap.size ≤ k) ∧ (∀ k, N k → ¬ F k) ∧ ∀ (S' : World → (Nat → Prop) → Prop) (w' : World), Nx S' F w w' → P2 S' T w0 w' N ∧ Kn N w w' := by
  obtain ⟨F, G, h1, h2, h3, h4, h5, h6, h7⟩ := h
  refine ⟨F, h1, h3, fun k hk => (h6 k hk).1, fun S' w' hn => ?_⟩
  obtain ⟨F', q1, q2, q3⟩ := hn
  have hB := h7.size
  refine ⟨⟨F', G, q1, oT.kept h2 (fun k hk => q3.block k (oT.lt h2 k hk) (fun e => h5 k e hk)) q3.size, fun k hk => ?_, h4, fun k hk hg => ?_, fun k hk => ?_, q3.next h7 h3 hB⟩, fun k hk => q3.block k (h6 k hk).2.2.2 (h6 k hk).1⟩
  · rcases q2 k hk with q | q
    · exact h3 k q
    · omega
  · rcases q2 k hk with q | q
    · exact h5 k q hg
    · have := oT.lt h2 k hg; omega
  · obtain ⟨a, b, c, e⟩ := h6 k hk
    refine ⟨fun q => ?_, b, c, Nat.lt_of_lt_of_le e q3.size⟩
    rcases q2 k q with q | q
    · exact a q
    · omega
theorem nf_ou {F N : Nat → Prop} {B : Nat} {v : Value} (h : Ou B N v) (h1 : ∀ k, F k → B ≤ k) (h2 : ∀ k, N k → ¬ F k) : Nf F v := fun a n c e hn q => by
  rcases h a n c e hn with l | l
  · have := h1 _ q; omega
  · exact h2 _ l q
structure Jour1 (V : Disk1) where
  Jt : World → Value → Value → (Nat → Prop) → Nat → Nat → Jst → Prop
  jtK : ∀ {w w' : World} {q d : Value} {G : Nat → Prop} {base size : Nat} {j : Jst}, Jt w q d G base size j → (∀ k, G k → w'.heap[k]? = w.heap[k]?) → w.heap.size ≤ w'.heap.size → Jt w' q d G base size j
  jtB : ∀ {w : World} {q d : Value} {G : Nat → Prop} {base size : Nat} {j : Jst}, Jt w q d G base size j → ∀ k, G k → k < w.heap.size
  newY : ∀ (w : World) (d : Value) (F : Nat → Prop) (s : Dsk) (base size : Nat), V.Dt w d F s → 1 ≤ size → base + size ≤ s.bl.length →
    Calls Tryz.prog 48 #[d, .int .i64 (base : Int), .int .i64 (size : Int)] w fun e w' => ∃ a G, e = .returned (.tuple #[.pointer (some a), .int .i64 0]) ∧ Jt w' (.pointer (some a)) d G base size ⟨0, 0, 0⟩ ∧ (∀ k, G k → w.heap.size ≤ k) ∧ Below w.heap.size w w'
  newN : ∀ (w : World) (d : Value) (F : Nat → Prop) (s : Dsk) (base size : Int), V.Dt w d F s → Bd64 base → Bd64 size → ¬ (1 ≤ size ∧ 0 ≤ base ∧ base + size ≤ (s.bl.length : Int)) →
    Calls Tryz.prog 48 #[d, .int .i64 base, .int .i64 size] w fun e w' => e = .returned (.tuple #[.pointer none, .int .i64 2]) ∧ Below w.heap.size w w'
  read : ∀ (w : World) (q d : Value) (F G : Nat → Prop) (s : Dsk) (base size : Nat) (j : Jst) (gen : Int), Jt w q d G base size j → V.Dt w d F s → (∀ k, F k → ¬ G k) → JT w → base + size ≤ s.bl.length → s.bl.length ≤ 1000 → s.un.length ≤ 400 → Bd64 gen →
    Calls Tryz.prog 51 #[q, .int .i64 gen] w fun e w' => ∃ v, e = .returned (.tuple #[v, .int .i64 ((rdE17 s gen : Nat) : Int)]) ∧ Txs w' v (rdL17 s base size gen) ∧ Below w.heap.size w w'
  begin : ∀ (w : World) (q d : Value) (F G : Nat → Prop) (s : Dsk) (base size : Nat) (j : Jst) (gen : Int), Jt w q d G base size j → V.Dt w d F s → (∀ k, F k → ¬ G k) → Bd64 gen →
    Calls Tryz.prog 38 #[q, .int .i64 gen] w fun e w' => e = .returned (.int .i64 ((if gen < 1 then 2 else 0 : Nat) : Int)) ∧ Nx (fun w' G => Jt w' q d G base size (if gen < 1 then j else ⟨gen.toNat, 0, 0⟩)) G w w'
  append : ∀ (w : World) (q d : Value) (F G : Nat → Prop) (s : Dsk) (base size : Nat) (j : Jst) (v : Value) (r : List Nat), Jt w q d G base size j → V.Dt w d F s → (∀ k, F k → ¬ G k) → JT w → (∀ k, F k → k ≠ 0) → (∀ k, G k → k ≠ 0) → base + size ≤ s.bl.length → s.bl.length ≤ 900 → s.un.length ≤ 100 → j.next ≤ size → j.n ≤ 1000000 → j.gen < 9223372036854775808 → Bs w v r → Nf F v → Nf G v → (∀ x ∈ r, x < 256) → r.length ≤ 1000000 →
    Calls Tryz.prog 34 #[q, v] w fun e w' => e = .returned (.int .i64 (((japp s base size j r).1 : Nat) : Int)) ∧ ∃ F' G', V.Dt w' d F' (japp s base size j r).2.1 ∧ Jt w' q d G' base size (japp s base size j r).2.2 ∧ (∀ k, F' k → ¬ G' k) ∧ Gr F F' w ∧ Gr G G' w ∧ Kp (fun k => F k ∨ G k) w w'
  left : ∀ (w : World) (q d : Value) (F G : Nat → Prop) (s : Dsk) (base size : Nat) (j : Jst), Jt w q d G base size j → V.Dt w d F s → j.next ≤ size →
    Calls Tryz.prog 44 #[q] w fun e w' => e = .returned (.int .i64 ((if j.gen = 0 then 0 else size - j.next : Nat) : Int)) ∧ Below w.heap.size w w'
end Go.Proofs.YthnpdcblfocemaaGreatDoor
set_option linter.unusedVariables false
set_option linter.unusedSimpArgs false
namespace Go.Proofs.YthnpdcblfocemaaGreatDoor
open Go.RowKit

theorem jwr_jq (p : Nat) (r : List Nat) (n gen : Nat) : ∀ (k i : Nat) (s : Dsk), s.dn = false → p + i + k ≤ s.bl.length → ((jwr p r n gen k i s).1 = 0 ∧ (jwr p r n gen k i s).2.dn = false ∨ (jwr p r n gen k i s).1 ≠ 0 ∧ (jwr p r n gen k i s).2.dn = true) ∧ (jwr p r n gen k i s).2.bl.length = s.bl.length ∧ (jwr p r n gen k i s).2.un.length ≤ s.un.length + k := by
  intro k
  induction k with
  | zero => intro i s hd _; exact ⟨Or.inl ⟨rfl, hd⟩, rfl, Nat.le_refl _⟩
  | succ k ih =>
    intro i s hd hl
    have h1 := bl_wr s ((p + i : Nat) : Int) (jblk r i n gen)
    obtain ⟨-, -, w3⟩ := wr_step (s := s) (i := p + i) (b := jblk r i n gen) hd (by omega) (by rw [jblk_len]; omega)
    rw [jwr_next]
    by_cases q : wrE s ((p + i : Nat) : Int) (jblk r i n gen) ≠ 0
    · rw [if_pos q]
      refine ⟨Or.inr ⟨q, ?_⟩, h1.1, by have := h1.2; dsimp only; omega⟩
      rcases w3 with w3 | w3
      · exact wrE_down w3
      · exact absurd w3.1 q
    · rw [if_neg q]
      have hd2 : (wrS s ((p + i : Nat) : Int) (jblk r i n gen)).dn = false := by
        rcases w3 with w3 | w3
        · exact absurd w3 (by omega)
        · exact w3.2
      obtain ⟨g1, g2, g3⟩ := ih (i + 1) _ hd2 (by rw [h1.1]; omega)
      exact ⟨g1, by rw [g2, h1.1], by have := h1.2; omega⟩
theorem jwr_down (p : Nat) (r : List Nat) (n gen k i : Nat) {s : Dsk} (hd : s.dn = true) : jwr p r n gen (k + 1) i s = (150, s) := by
  have a : dAsk s ((p + i : Nat) : Int) = 150 := by unfold dAsk; rw [if_pos hd]
  have e1 : wrE s ((p + i : Nat) : Int) (jblk r i n gen) = 150 := by unfold wrE; rw [a]; rfl
  have e2 : wrS s ((p + i : Nat) : Int) (jblk r i n gen) = s := by unfold wrS; rw [if_pos (Or.inl (by rw [a]; decide))]
  rw [jwr_next, e1, e2]
  rfl
structure JB (size k : Nat) (j : Jst) : Prop where
  nx : j.next ≤ size
  n : j.n ≤ k
  gen : j.gen < 9223372036854775808
theorem JB.up {size k k' : Nat} {j : Jst} (h : JB size k j) (hk : k ≤ k') : JB size k' j := ⟨h.nx, Nat.le_trans h.n hk, h.gen⟩
theorem jb_new (size : Nat) : JB size 0 ⟨0, 0, 0⟩ := ⟨Nat.zero_le _, Nat.zero_le _, by decide⟩
theorem jb_app {s : Dsk} {base size k : Nat} {j : Jst} (h : JB size k j) (r : List Nat) : JB size (k + 1) (japp s base size j r).2.2 := by
  unfold japp
  have hn := h.nx
  have h2 := h.n
  by_cases g1 : j.gen = 0
  · rw [if_pos g1]; exact h.up (by omega)
  rw [if_neg g1]
  by_cases g2 : 262144 < r.length
  · rw [if_pos g2]; exact h.up (by omega)
  rw [if_neg g2]
  by_cases g3 : size - j.next < prt r.length
  · rw [if_pos g3]; exact h.up (by omega)
  rw [if_neg g3]
  by_cases g4 : (jput s base j r).1 ≠ 0
  · rw [if_pos g4]; exact ⟨hn, by show j.n ≤ _; omega, by show 0 < _; omega⟩
  · rw [if_neg g4]; exact ⟨by show j.next + prt r.length ≤ _; omega, by show j.n + 1 ≤ _; omega, h.gen⟩
theorem jq_app {s : Dsk} {m base size k : Nat} {j : Jst} (h : Jq m s) (hb : JB size k j) (hr : base + size ≤ m) (r : List Nat) (hl : r.length ≤ 6000) : Jq m (japp s base size j r).2.1 := by
  unfold japp
  have hn := hb.nx
  have hp : prt r.length ≤ 60 := by unfold prt; omega
  have hpp := prt_pos r.length
  by_cases g1 : j.gen = 0
  · rw [if_pos g1]; exact h
  rw [if_neg g1]
  by_cases g2 : 262144 < r.length
  · rw [if_pos g2]; exact h
  rw [if_neg g2]
  by_cases g3 : size - j.next < prt r.length
  · rw [if_pos g3]; exact h
  rw [if_neg g3]
  have key : Jq m (jput s base j r).2 := by
    unfold jput
    obtain ⟨P, hP⟩ : ∃ P, prt r.length = P + 1 := ⟨prt r.length - 1, by omega⟩
    by_cases hd : s.dn = true
    · rw [hP, jwr_down _ _ _ _ _ _ hd]
      exact h
    · have hd : s.dn = false := by simpa using hd
      obtain ⟨w1, w2, w3⟩ := jwr_jq (base + j.next) r (j.n + 1) j.gen (prt r.length) 0 s hd (by rw [h.bl]; omega)
      rw [h.un hd] at w3
      rw [h.bl] at w2
      simp only [List.length_nil, Nat.zero_add] at w3
      generalize jwr (base + j.next) r (j.n + 1) j.gen (prt r.length) 0 s = w at *
      unfold jfl
      by_cases g4 : w.1 ≠ 0
      · rw [if_pos g4]
        rcases w1 with w1 | w1
        · exact absurd w1.1 g4
        · exact ⟨fun q => (by rw [w1.2] at q; cases q), by omega, w2⟩
      · rw [if_neg g4]
        exact jq_fl (by omega) w2
  by_cases g4 : (jput s base j r).1 ≠ 0
  · rw [if_pos g4]; exact key
  · rw [if_neg g4]; exact key
end Go.Proofs.YthnpdcblfocemaaGreatDoor
set_option linter.unusedVariables false
set_option linter.unusedSimpArgs false
namespace Go.Proofs.YthnpdcblfocemaaGreatDoor
open Go.RowKit

def ftc : List (Int × Int) → List Value
  | [] => []
  | f :: fs => .int .i64 f.1 :: .int .i64 f.2 :: ftc fs
theorem ftc_app (a b : List (Int × Int)) : ftc (a ++ b) = ftc a ++ ftc b := by
  induction a with
  | nil => rfl
  | cons f fs ih => simp only [List.cons_append, ftc, ih]
theorem ftc_at : ∀ (fs : List (Int × Int)) (j : Nat), j < fs.length → (ftc fs)[j * 2]? = some (.int .i64 (fs.getD j (0, 0)).1) ∧ (ftc fs)[j * 2 + 1]? = some (.int .i64 (fs.getD j (0, 0)).2) := by
  intro fs
  induction fs with
  | nil => intro j hj; simp at hj
  | cons f fs ih =>
    intro j hj
    cases j with
    | zero => exact ⟨rfl, rfl⟩
    | succ j =>
      have h := ih j (by simpa using hj)
      have e1 : (j + 1) * 2 = j * 2 + 1 + 1 := by omega
      refine ⟨?_, ?_⟩
      · rw [e1]; simpa [ftc, List.getD] using h.1
      · rw [show (j + 1) * 2 + 1 = j * 2 + 1 + 1 + 1 by omega]; simpa [ftc, List.getD] using h.2
theorem own_fts {w : World} {base : Nat} {T : TypeId} {v : Value} {fs : List (Int × Int)} (h : w.ownsRow base T 2 v fs.length (ftc fs)) : Fts w v fs ∧ Ow base v := by
  rcases id h.2 with ⟨rfl, h0⟩ | ⟨g, c, cur, rfl, hg, hh, hc1, hc2, r⟩
  · have e : fs = [] := List.eq_nil_of_length_eq_zero h0
    subst e
    exact ⟨fts_nil w, fun a n cap e => by cases e⟩
  · refine ⟨⟨_, c, g, 0, rfl, hc1, hc2, fun _ => rfl, fun j hj => ?_⟩, fun a n cap e hn => by cases e; exact hg⟩
    obtain ⟨e1, e2⟩ := ftc_at fs j hj
    rw [Nat.zero_add]
    exact ⟨(h.cellAt (j * 2) (by omega)).trans e1, (h.cellAt (j * 2 + 1) (by omega)).trans e2⟩
theorem dinfo_ft : (Tryz.prog.info? 101).map (fun i => (i.zero, i.size, i.bytes)) = some (some (.agg #[.int .i64 0, .int .i64 0]), 2, 16) := by kernel_rfl
theorem fs_more {fs : List (Int × Int)} {j : Nat} (hj : j < fs.length) : fs.take j ++ [fs.getD j (0, 0)] = fs.take (j + 1) := by
  rw [List.take_add_one]
  congr 1
  simp [List.getD, hj]
end Go.Proofs.YthnpdcblfocemaaGreatDoor
set_option linter.unusedVariables false
set_option linter.unusedSimpArgs false
namespace Go.Proofs.YthnpdcblfocemaaGreatDoor
open Go.RowKit
theorem Txs.later {w w' : World} {v : Value} {ls : List (List Nat)} (h : Txs w v ls) (k : Below w.heap.size w w') : Txs w' v ls := by
  obtain ⟨ad, cap, b, o, h1, h2, h3, h4, h5⟩ := h
  exact ⟨ad, cap, b, o, h1, h2, h3, h4, fun j hj => by
    obtain ⟨x, e1, e2⟩ := h5 j hj
    exact ⟨x, cell_later k e1, e2.later k⟩⟩
end Go.Proofs.YthnpdcblfocemaaGreatDoor
set_option linter.unusedVariables false
set_option linter.unusedSimpArgs false
namespace Go.Proofs.YthnpdcblfocemaaGreatDoor
open Go.RowKit
theorem ow_ou {B0 B n : Nat} {v : Value} (h : Ow B v) (hl : Lo n v) : Ou B0 (fun i => False ∨ (B ≤ i ∧ i < n)) v := fun a n c e hn => Or.inr (Or.inr ⟨h a n c e hn, hl a n c e hn⟩)
end Go.Proofs.YthnpdcblfocemaaGreatDoor
set_option linter.unusedVariables false
set_option linter.unusedSimpArgs false
namespace Go.Proofs.YthnpdcblfocemaaGreatDoor
open Go.RowKit

theorem gone_on {s : Dsk} (h : s.ar = false) : dGo s = true ∧ dGone s = s := by
  constructor
  · unfold dGo; rw [h]; rfl
  · unfold dGone; rw [h]; simp
theorem wr_on {s : Dsk} {i : Nat} {b : List Nat} (hd : s.dn = false) (ha : s.ar = false) (hi : i < s.bl.length) (hb : b.length ≤ 128) : wrE s (i : Int) b = 0 ∧ (wrS s (i : Int) b).ar = false ∧ (wrS s (i : Int) b).dn = false ∧ (wrS s (i : Int) b).bl.length = s.bl.length := by
  have a : dAsk s (i : Int) = 0 := by unfold dAsk; rw [if_neg (by rw [hd]; simp), if_neg (by omega)]
  have e : wrS s (i : Int) b = { s with un := s.un ++ [(i, full b)] } := by
    unfold wrS
    rw [if_neg (by rw [a]; omega), (gone_on (s := { s with un := s.un ++ [(((i : Nat) : Int).toNat, full b)] }) ha).2]
    rfl
  refine ⟨?_, by rw [e]; exact ha, by rw [e]; exact hd, by rw [e]⟩
  unfold wrE
  rw [if_neg (by rw [a]; simp), if_neg (by omega), if_pos (gone_on ha).1]
theorem jwr_on (p : Nat) (r : List Nat) (n gen : Nat) : ∀ (k i : Nat) (s : Dsk), s.dn = false → s.ar = false → p + i + k ≤ s.bl.length → (jwr p r n gen k i s).1 = 0 ∧ (jwr p r n gen k i s).2.ar = false ∧ (jwr p r n gen k i s).2.dn = false := by
  intro k
  induction k with
  | zero => intro i s h1 h2 _; exact ⟨rfl, h2, h1⟩
  | succ k ih =>
    intro i s h1 h2 hl
    obtain ⟨a1, a2, a3, a4⟩ := wr_on (s := s) (i := p + i) (b := jblk r i n gen) h1 h2 (by omega) (by rw [jblk_len]; omega)
    rw [jwr_next, if_neg (by rw [a1]; simp)]
    exact ih (i + 1) _ a3 a2 (by rw [a4]; omega)
theorem fl_on {s : Dsk} (hd : s.dn = false) (ha : s.ar = false) : flE s = 0 ∧ (flS s).ar = false := by
  constructor
  · unfold flE; rw [if_neg (by rw [hd]; simp), if_pos (gone_on ha).1]
  · unfold flS; rw [if_neg (by rw [hd]; simp), if_pos (gone_on ha).1, (gone_on ha).2]; exact ha
theorem japp_on {base size g i : Nat} {rs : List (List Nat)} {used : Nat} {s : Dsk} (h : JIn base size g i rs used s) (ha : s.ar = false) (hg : g ≠ 0) {r : List Nat} (hr : ∀ c ∈ r, c < 256) (hl : r.length ≤ 262144) (hroom : used + prt r.length ≤ size) :
    ∃ s', japp s base size ⟨g, rs.length, used⟩ r = (0, s', ⟨g, (rs ++ [r]).length, used + prt r.length⟩) ∧ JIn base size g i (rs ++ [r]) (used + prt r.length) s' ∧ s'.ar = false := by
  have hrm := h.rm
  obtain ⟨w1, w2, w3⟩ := jwr_on (base + used) r (rs.length + 1) g (prt r.length) 0 s h.dn ha (by omega)
  have f := fl_on w3 w2
  have e : (jput s base ⟨g, rs.length, used⟩ r) = (flE (jwr (base + used) r (rs.length + 1) g (prt r.length) 0 s).2, flS (jwr (base + used) r (rs.length + 1) g (prt r.length) 0 s).2) := by
    show jfl _ = _
    unfold jfl
    rw [if_neg (by rw [w1]; simp)]
  refine ⟨flS (jwr (base + used) r (rs.length + 1) g (prt r.length) 0 s).2, ?_, ?_, f.2⟩
  · unfold japp
    rw [if_neg hg, if_neg (by omega), if_neg (by show ¬ size - used < _; omega), e, if_neg (by rw [f.1]; simp)]
    simp
  · rcases h.app hr hl hroom with q | q
    · have e2 : jfl (jwr (base + used) r (rs.length + 1) g (prt r.length) 0 s) = (flE (jwr (base + used) r (rs.length + 1) g (prt r.length) 0 s).2, flS (jwr (base + used) r (rs.length + 1) g (prt r.length) 0 s).2) := e
      rw [e2] at q
      exact q.2
    · have e2 : jfl (jwr (base + used) r (rs.length + 1) g (prt r.length) 0 s) = (flE (jwr (base + used) r (rs.length + 1) g (prt r.length) 0 s).2, flS (jwr (base + used) r (rs.length + 1) g (prt r.length) 0 s).2) := e
      rw [e2] at q
      have := q.1
      have := f.1
      dsimp only at *
      omega
def KpO (w0 w : World) (v : Value) (ls : List (List Nat)) : Prop :=
  ∃ cs : List Value, w.ownsRow w0.heap.size 30 1 v ls.length cs ∧ ∀ k, k < ls.length → ∃ x : Value, cs[k]? = some x ∧ Bs w0 x (ls.getD k [])
theorem kpo_nil (w0 w : World) : KpO w0 w (.slice none 0 0) [] := ⟨[], World.ownsRow_nil _ _ _ _, fun k hk => by simp at hk⟩
theorem KpO.txo {w0 w : World} {v : Value} {ls : List (List Nat)} (h : KpO w0 w v ls) (hb : Below w0.heap.size w0 w) : TxO w0.heap.size w v ls := by
  obtain ⟨cs, h1, h2⟩ := h
  refine ⟨cs, h1, fun k hk => ?_⟩
  obtain ⟨x, e1, e2⟩ := h2 k hk
  refine ⟨x, e1, e2.later hb, fun g hg a n c e h0 e3 => ?_⟩
  have q1 := (World.ownsRow.lt h1 g hg).1
  have q2 := Ls.lo e2 a n c e h0
  omega
end Go.Proofs.YthnpdcblfocemaaGreatDoor
set_option linter.unusedVariables false
set_option linter.unusedSimpArgs false
namespace Go.Proofs.YthnpdcblfocemaaGreatDoor

structure Wt (R : Nat → Prop) (bl : List (List Nat)) (s : Dsk) : Prop where
  far : ∀ x, ¬ R x → s.bl.getD x [] = bl.getD x []
  un : ∀ u ∈ s.un, R u.1
  len : s.bl.length = bl.length
theorem wt_id (R : Nat → Prop) {s : Dsk} (h : s.un = []) : Wt R s.bl s := ⟨fun _ _ => rfl, fun u hu => by rw [h] at hu; (cases hu), rfl⟩
theorem wt_wr {R : Nat → Prop} {bl : List (List Nat)} {s : Dsk} (h : Wt R bl s) (i : Nat) (hi : R i) (b : List Nat) : Wt R bl (wrS s (i : Int) b) := by
  unfold wrS
  split
  · exact h
  · obtain ⟨e1, e2⟩ := dGone_bl { s with un := s.un ++ [(((i : Nat) : Int).toNat, full b)] }
    refine ⟨fun x hx => by rw [e1]; exact h.far x hx, fun u hu => ?_, by rw [e1]; exact h.len⟩
    rw [e2] at hu
    rcases List.mem_append.1 hu with q | q
    · exact h.un u q
    · have : u = (((i : Nat) : Int).toNat, full b) := by simpa using q
      rw [this, Int.toNat_natCast]
      exact hi
theorem wt_fl {R : Nat → Prop} {bl : List (List Nat)} {s : Dsk} (h : Wt R bl s) : Wt R bl (flS s) := by
  unfold flS
  split
  · exact h
  · split
    · refine ⟨fun x hx => ?_, fun u hu => by (cases hu), by rw [lay_len]; exact h.len⟩
      rw [lay_far _ x _ (fun u hu e => hx (by rw [← e]; exact h.un u hu))]
      exact h.far x hx
    · obtain ⟨e1, e2⟩ := dGone_bl s
      exact ⟨fun x hx => by rw [e1]; exact h.far x hx, fun u hu => by rw [e2] at hu; exact h.un u hu, by rw [e1]; exact h.len⟩
theorem wt_cr {R : Nat → Prop} {bl : List (List Nat)} {s : Dsk} (h : Wt R bl s) (fs : List (Int × Int)) : Wt R bl (crS s fs) := by
  refine ⟨fun x hx => ?_, fun u hu => by (cases hu), by show (fall s.un fs s.bl).length = _; rw [fall_len]; exact h.len⟩
  show (fall s.un fs s.bl).getD x [] = _
  rw [fall_far _ x _ _ (fun u hu e => hx (by rw [← e]; exact h.un u hu))]
  exact h.far x hx
theorem wt_jwr {R : Nat → Prop} {bl : List (List Nat)} (p : Nat) (r : List Nat) (n gen : Nat) : ∀ (k i : Nat) (s : Dsk), (∀ j, j < k → R (p + (i + j))) → Wt R bl s → Wt R bl (jwr p r n gen k i s).2 := by
  intro k
  induction k with
  | zero => intro i s _ h; exact h
  | succ k ih =>
    intro i s hR h
    have h2 := wt_wr h (p + i) (hR 0 (by omega)) (jblk r i n gen)
    rw [jwr_next]
    split
    · exact h2
    · exact ih (i + 1) _ (fun j hj => by have := hR (j + 1) (by omega); rwa [show i + (j + 1) = i + 1 + j by omega] at this) h2
theorem wt_japp {R : Nat → Prop} {bl : List (List Nat)} {s : Dsk} (h : Wt R bl s) (base size : Nat) (j : Jst) (r : List Nat) (hR : ∀ x, base ≤ x → R x) : Wt R bl (japp s base size j r).2.1 := by
  have key : Wt R bl (jput s base j r).2 := by
    unfold jput jfl
    have h2 := wt_jwr (bl := bl) (base + j.next) r (j.n + 1) j.gen (prt r.length) 0 s (fun j2 _ => hR _ (by omega)) h
    split
    · exact h2
    · exact wt_fl h2
  unfold japp
  repeat' split
  all_goals first | exact h | exact key
theorem wt_svW {R : Nat → Prop} {bl : List (List Nat)} (a : Nat) (d : List Nat) : ∀ (k i : Nat) (s : Dsk), (∀ j, j < k → R (a + 1 + (i + j))) → Wt R bl s → Wt R bl (svW a d k i s).2 := by
  intro k
  induction k with
  | zero => intro i s _ h; exact h
  | succ k ih =>
    intro i s hR h
    have h2 := wt_wr h (a + 1 + i) (hR 0 (by omega)) (ck d i)
    have e : svW a d (k + 1) i s = if wrE s ((a + 1 + i : Nat) : Int) (ck d i) ≠ 0 then (wrE s ((a + 1 + i : Nat) : Int) (ck d i), wrS s ((a + 1 + i : Nat) : Int) (ck d i)) else svW a d k (i + 1) (wrS s ((a + 1 + i : Nat) : Int) (ck d i)) := rfl
    rw [e]
    split
    · exact h2
    · exact ih (i + 1) _ (fun j hj => by have := hR (j + 1) (by omega); rwa [show i + (j + 1) = i + 1 + j by omega] at this) h2
theorem wt_svR {R : Nat → Prop} {bl : List (List Nat)} {s : Dsk} (h : Wt R bl s) (at_ room : Nat) (d : List Nat) (hR : ∀ x, x < at_ + 2 * (room + 1) → R x) : Wt R bl (svR s at_ room d).2.2 := by
  unfold svR
  split
  · exact h
  rename_i hd
  split
  · exact h
  generalize (ldV (rb s) at_ room).2.1 + 1 = N
  unfold svN
  split
  · exact h
  have hA : ∀ i, i ≤ room → R (slA at_ room (N % 2) + i) := fun i hi => hR _ (slA_lt (by omega) (Nat.le_refl _) hi)
  generalize slA at_ room (N % 2) = a at *
  have h1 := wt_svW (bl := bl) a d ((d.length + 127) / 128) 0 s (fun j hj => by have := hA (1 + (0 + j)) (by omega); rwa [← Nat.add_assoc a] at this) h
  generalize svW a d ((d.length + 127) / 128) 0 s = w at *
  unfold svF
  split
  · exact h1
  split
  · exact wt_fl h1
  have h2 := wt_wr (wt_fl h1) a (hA 0 (by omega)) (hdB N d)
  unfold svH
  split
  · exact h2
  split
  · exact wt_fl h2
  · exact wt_fl h2
theorem svR_down {s : Dsk} {at_ room : Nat} {d : List Nat} (hr : at_ + 2 * (room + 1) ≤ s.bl.length) (h : (svR s at_ room d).2.1 = 150) : (svR s at_ room d).2.2.dn = true := by
  unfold svR at h ⊢
  by_cases g1 : room * 128 < d.length
  · rw [if_pos g1] at h; exact absurd (show (161 : Nat) = 150 from h) (by omega)
  rw [if_neg g1] at h ⊢
  by_cases g2 : s.dn = true
  · rw [if_pos g2]; exact g2
  rw [if_neg g2] at h ⊢
  have hd : s.dn = false := by simpa using g2
  generalize (ldV (rb s) at_ room).2.1 + 1 = N at *
  unfold svN at h ⊢
  by_cases g3 : 4611686018427387904 < N
  · rw [if_pos g3] at h; exact absurd (show (3 : Nat) = 150 from h) (by omega)
  rw [if_neg g3] at h ⊢
  have hA := slA_lt (at_ := at_) (room := room) (which := N % 2) (l := s.bl.length) (i := room) (by omega) hr (Nat.le_refl _)
  generalize slA at_ room (N % 2) = a at *
  obtain ⟨w1, w2, w3⟩ := svW_jq a d ((d.length + 127) / 128) 0 s hd (by omega)
  generalize svW a d ((d.length + 127) / 128) 0 s = w at *
  unfold svF at h ⊢
  by_cases g4 : w.1 ≠ 0
  · rw [if_pos g4]
    rcases w1 with w1 | w1
    · exact absurd w1.1 g4
    · exact w1.2
  rw [if_neg g4] at h ⊢
  by_cases g5 : flE w.2 ≠ 0
  · rw [if_pos g5]; exact flE_down g5
  rw [if_neg g5] at h ⊢
  unfold svH at h ⊢
  by_cases g6 : wrE (flS w.2) (a : Int) (hdB N d) ≠ 0
  · rw [if_pos g6] at h ⊢; exact wrE_down h
  rw [if_neg g6] at h ⊢
  by_cases g7 : flE (wrS (flS w.2) (a : Int) (hdB N d)) ≠ 0
  · rw [if_pos g7]; exact flE_down g7
  · rw [if_neg g7] at h; exact absurd (show (0 : Nat) = 150 from h) (by omega)
theorem flat_congr18 {f g : Nat → List Nat} : ∀ k, (∀ i, i < k → f i = g i) → (List.range k).flatMap f = (List.range k).flatMap g := by
  intro k h
  exact flat_congr _ (fun i hi => h i (List.mem_range.1 hi))
theorem jrec_same18 {B B' : Nat → List Nat} {base size at_ n gen : Nat} (h : ∀ x, x < size → B' (base + x) = B (base + x)) : jrec B' base size at_ n gen = jrec B base size at_ n gen := by
  unfold jrec
  by_cases g1 : size ≤ at_
  · rw [if_pos g1, if_pos g1]
  rw [if_neg g1, if_neg g1, h at_ (by omega)]
  generalize hg : gt (B (base + at_)) 104 4 = m
  by_cases g2 : 262144 < m ∨ size - at_ < prt m
  · rw [if_pos g2, if_pos g2]
  rw [if_neg g2, if_neg g2]
  have hp : ∀ i, i < prt m → B' (base + at_ + i) = B (base + at_ + i) := fun i hi => by
    have := h (at_ + i) (by omega)
    rwa [← Nat.add_assoc] at this
  have ej : jall B' (base + at_) m = jall B (base + at_) m := by
    unfold jall
    rw [flat_congr18 _ (fun i hi => by rw [hp i hi])]
  by_cases g3 : ∀ i, i < prt m → (B (base + at_ + i)).drop 104 = jtl m (prt m) i n gen
  · rw [if_pos g3, if_pos (fun i hi => by rw [hp i hi]; exact g3 i hi), ej]
  · rw [if_neg g3, if_neg (fun q => g3 (fun i hi => by rw [← hp i hi]; exact q i hi))]
theorem jread_same {B B' : Nat → List Nat} {base size gen : Nat} (h : ∀ x, x < size → B' (base + x) = B (base + x)) : jread B' base size gen = jread B base size gen := by
  unfold jread
  have key : ∀ f a n, jrds B' base size gen f a n = jrds B base size gen f a n := by
    intro f
    induction f with
    | zero => intro a n; rfl
    | succ f ih =>
      intro a n
      have e := jrec_same18 (at_ := a) (n := n) (gen := gen) h
      cases q : jrec B base size a n gen with
      | none => rw [jrds_none q, jrds_none (e.trans q)]
      | some r => rw [jrds_some q, jrds_some (e.trans q), ih]
  exact key _ _ _
end Go.Proofs.YthnpdcblfocemaaGreatDoor
set_option linter.unusedVariables false
set_option linter.unusedSimpArgs false
namespace Go.Proofs.YthnpdcblfocemaaGreatDoor

structure Sst where
  j : Jst
  bg : Bool
def fb18 (room : Nat) : Nat := 2 * room + 2
def fz18 (s : Dsk) (room : Nat) : Nat := s.bl.length - fb18 room
def opB (s : Dsk) (room : Nat) : List Nat := (ldW s 0 room).1
def opL (s : Dsk) (room : Nat) : List (List Nat) := if (ldW s 0 room).2.2 ≠ 0 then [] else rdL17 s (fb18 room) (fz18 s room) (((ldW s 0 room).2.1 : Nat) : Int)
def svS (s : Dsk) (room : Nat) (j : Sst) (d : List Nat) : Nat × Dsk × Sst :=
  if (svR s 0 room d).2.1 ≠ 0 then ((svR s 0 room d).2.1, (svR s 0 room d).2.2, ⟨j.j, false⟩) else (0, (svR s 0 room d).2.2, ⟨⟨(svR s 0 room d).1, 0, 0⟩, true⟩)
def apS (s : Dsk) (room : Nat) (j : Sst) (r : List Nat) : Nat × Dsk × Sst :=
  if j.bg = false then (180, s, j) else ((japp s (fb18 room) (fz18 s room) j.j r).1, (japp s (fb18 room) (fz18 s room) j.j r).2.1, ⟨(japp s (fb18 room) (fz18 s room) j.j r).2.2, if (japp s (fb18 room) (fz18 s room) j.j r).1 = 150 then false else true⟩)
theorem svR_len (s : Dsk) (room : Nat) (d : List Nat) : (svR s 0 room d).2.2.bl.length = s.bl.length := (wt_svR (R := fun _ => True) (bl := s.bl) ⟨fun x h => absurd trivial h, fun _ _ => trivial, rfl⟩ 0 room d (fun _ _ => trivial)).len
structure SRest (m room N : Nat) (last : List Nat) (rs : List (List Nat)) (s : Dsk) : Prop where
  bl : s.bl.length = m
  sn : SnRest 0 room N last s
  jr : JRest (fb18 room) (m - fb18 room) N s
  z : N = 0 → last = [] ∧ rs = []
  rd : 1 ≤ N → jread (rb s) (fb18 room) (m - fb18 room) N = rs
structure SIn (m room N : Nat) (last : List Nat) (rs : List (List Nat)) (used : Nat) (s : Dsk) : Prop where
  bl : s.bl.length = m
  sn : SnRest 0 room N last s
  ji : JIn (fb18 room) (m - fb18 room) N (N - 1) rs used s
  n1 : 1 ≤ N
theorem SIn.rest {m room N : Nat} {last : List Nat} {rs : List (List Nat)} {used : Nat} {s : Dsk} (h : SIn m room N last rs used s) (hN : N < 256) : SRest m room N last rs s := by
  have h1 := h.n1
  exact ⟨h.bl, h.sn, h.ji.rest (by omega) hN, fun q => by omega, fun _ => h.ji.read (by omega) hN⟩
theorem srest_new {m room : Nat} (h : fb18 room + 1 ≤ m) (hr : room ≤ 16384) : SRest m room 0 [] [] (dNew m) :=
  ⟨List.length_replicate, rest_new (by unfold fb18 at h; omega) hr, jrest_new (by omega), fun _ => ⟨rfl, rfl⟩, fun q => by omega⟩
theorem SRest.opB {m room N : Nat} {last : List Nat} {rs : List (List Nat)} {s : Dsk} (h : SRest m room N last rs s) : Go.Proofs.YthnpdcblfocemaaGreatDoor.opB s room = last ∧ Go.Proofs.YthnpdcblfocemaaGreatDoor.opL s room = rs := by
  have e := h.sn.load
  have e2 : ldW s 0 room = if N = 0 then ([], 0, 160) else (last, N, 0) := by
    unfold ldW
    rw [if_neg (by rw [h.sn.dn]; simp)]
    exact e
  unfold Go.Proofs.YthnpdcblfocemaaGreatDoor.opB Go.Proofs.YthnpdcblfocemaaGreatDoor.opL fz18
  rw [e2]
  by_cases q : N = 0
  · rw [if_pos q]
    obtain ⟨z1, z2⟩ := h.z q
    rw [if_pos (by show (160 : Nat) ≠ 0; omega)]
    exact ⟨z1.symm, z2.symm⟩
  · rw [if_neg q, if_neg (by simp)]
    refine ⟨rfl, ?_⟩
    unfold rdL17
    show (if ((N : Nat) : Int) < 1 then _ else _) = _
    rw [if_neg (by omega), if_neg (by rw [h.sn.dn]; simp), Int.toNat_natCast, h.bl]
    exact h.rd (by omega)
theorem SnRest.same {room N : Nat} {last : List Nat} {s s' : Dsk} (h : SnRest 0 room N last s) (ho : OkD s') (hd : s'.dn = false) (hu : s'.un = []) (hl : s'.bl.length = s.bl.length) (hb : ∀ x, x < fb18 room → bk s' x = bk s x) : SnRest 0 room N last s' := by
  unfold fb18 at hb
  refine ⟨ho, hd, hu, by rw [hl]; exact h.rm, h.rmax, h.jv.same (fun i hi => hb _ ?_) ?_⟩
  · have := slA_lt (at_ := 0) (room := room) (which := N % 2) (l := 2 * room + 2) (i := i) (by omega) (by omega) hi
    exact this
  · rw [hb]
    have := slA_lt (at_ := 0) (room := room) (which := (N + 1) % 2) (l := 2 * room + 2) (i := 0) (by omega) (by omega) (by omega)
    exact this
theorem JRest.same {base size i : Nat} {s s' : Dsk} (h : JRest base size i s) (ho : OkD s') (hd : s'.dn = false) (hu : s'.un = []) (hl : s'.bl.length = s.bl.length) (hb : ∀ x, base ≤ x → bk s' x = bk s x) : JRest base size i s' :=
  ⟨ho, hd, hu, by rw [hl]; exact h.rm, fun x hx => by rw [hb _ (by omega)]; exact h.old x hx⟩
theorem JRest.up {base size i k : Nat} {s : Dsk} (h : JRest base size i s) (hk : i ≤ k) : JRest base size k s := ⟨h.ok, h.dn, h.un, h.rm, fun x hx => Nat.le_trans (h.old x hx) hk⟩
theorem JRest.none {base size i g : Nat} {s : Dsk} (h : JRest base size i s) (hg : i < g) (hg2 : g < 256) : jread (rb s) base size g = [] := h.begin.read hg hg2
theorem jread_rest {base size g i : Nat} {s s' : Dsk} (h : JRest base size i s) (h' : JRest base size i s') (hb : ∀ x, base ≤ x → bk s' x = bk s x) : jread (rb s') base size g = jread (rb s) base size g := by
  refine jread_same (fun x hx => ?_)
  rw [rb_bk h'.un h'.dn (by have := h'.rm; omega), rb_bk h.un h.dn (by have := h.rm; omega)]
  exact hb _ (by omega)
theorem SnRest.saved {room N : Nat} {last d : List Nat} {s : Dsk} (h : SnRest 0 room N last s) (hd : d.length ≤ room * 128) (hb : ∀ c ∈ d, c < 256) (hN : N + 1 ≤ 4611686018427387904) (h0 : (svR s 0 room d).2.1 = 0) :
    (svR s 0 room d).1 = N + 1 ∧ SnRest 0 room (N + 1) d (svR s 0 room d).2.2 := by
  rcases h.life hd hb hN [] with ⟨l1, l2, l3⟩ | ⟨l1, _⟩
  · refine ⟨l2, ?_⟩
    have hE := h.save hd hN
    have hO := okD_svR 0 room (d := d) h.ok hb
    cases hE with
    | text e1 e2 e3 e4 => omega
    | head hL e1 e2 e3 => omega
    | well bl1 hL e1 e2 e3 e4 e5 =>
      have e : (crS (svR s 0 room d).2.2 []).bl = (svR s 0 room d).2.2.bl := by show fall _ [] _ = _; rw [fall_nil]
      have hrm := l3.rm
      have hjv := l3.jv
      have eb : bk (crS (svR s 0 room d).2.2 []) = bk (svR s 0 room d).2.2 := by funext i; unfold bk; rw [e]
      rw [e] at hrm
      rw [eb] at hjv
      exact ⟨hO, e5, e4, hrm, h.rmax, hjv⟩
  · omega
theorem SRest.save {m room N : Nat} {last d : List Nat} {rs : List (List Nat)} {s : Dsk} (h : SRest m room N last rs s) (j : Sst) (hd : d.length ≤ room * 128) (hb : ∀ c ∈ d, c < 256) (hN : N + 1 < 256) :
    (∃ s', svS s room j d = (0, s', ⟨⟨N + 1, 0, 0⟩, true⟩) ∧ SIn m room (N + 1) d [] 0 s') ∨
    (∃ s', svS s room j d = (150, s', ⟨j.j, false⟩) ∧ s'.dn = true ∧ s'.bl.length = m ∧ ∀ fs, SRest m room N last rs (crS s' fs) ∨ SRest m room (N + 1) d [] (crS s' fs)) := by
  have hw := wt_svR (wt_id (fun x => x < fb18 room) h.sn.un) 0 room d (fun x hx => by unfold fb18; omega)
  have hO := okD_svR 0 room (d := d) h.sn.ok hb
  have hlen : (svR s 0 room d).2.2.bl.length = m := by rw [svR_len, h.bl]
  have hcr : ∀ fs, (∀ x, fb18 room ≤ x → bk (crS (svR s 0 room d).2.2 fs) x = bk s x) := fun fs x hx => (wt_cr hw fs).far x (by omega)
  have hJ : ∀ fs, JRest (fb18 room) (m - fb18 room) N (crS (svR s 0 room d).2.2 fs) := fun fs => h.jr.same (okD_cr hO fs) rfl rfl (wt_cr hw fs).len (hcr fs)
  have hlc : ∀ fs, (crS (svR s 0 room d).2.2 fs).bl.length = m := fun fs => by rw [(wt_cr hw fs).len, h.bl]
  by_cases h0 : (svR s 0 room d).2.1 = 0
  · left
    obtain ⟨e1, e2⟩ := h.sn.saved hd hb (by omega) h0
    refine ⟨(svR s 0 room d).2.2, ?_, hlen, e2, ?_, by omega⟩
    · unfold svS
      rw [if_neg (by omega), e1]
    · have hJ2 : JRest (fb18 room) (m - fb18 room) N (svR s 0 room d).2.2 := h.jr.same hO e2.dn e2.un hw.len (fun x hx => hw.far x (by omega))
      exact hJ2.begin
  · right
    have h150 : (svR s 0 room d).2.1 = 150 := by
      rcases h.sn.life hd hb (by omega) [] with ⟨q, _⟩ | ⟨q, _⟩
      · exact absurd q h0
      · exact q
    refine ⟨(svR s 0 room d).2.2, ?_, svR_down h.sn.rm h150, hlen, fun fs => ?_⟩
    · unfold svS
      rw [if_pos h0, h150]
    · rcases h.sn.life hd hb (by omega) fs with ⟨q, _⟩ | ⟨_, _, q⟩
      · omega
      · rcases q with q | q
        · exact Or.inl ⟨hlc fs, q, hJ fs, h.z, fun z => by rw [jread_rest h.jr (hJ fs) (hcr fs)]; exact h.rd z⟩
        · exact Or.inr ⟨hlc fs, q, (hJ fs).up (by omega), fun z => by omega, fun _ => (hJ fs).none (by omega) hN⟩
theorem apS_off {s : Dsk} {room : Nat} {j : Sst} {r : List Nat} (h : j.bg = false) : apS s room j r = (180, s, j) := by
  unfold apS
  rw [if_pos h]
end Go.Proofs.YthnpdcblfocemaaGreatDoor
set_option linter.unusedVariables false
set_option linter.unusedSimpArgs false
namespace Go.Proofs.YthnpdcblfocemaaGreatDoor

theorem SRest.calm {m room N : Nat} {last d : List Nat} {rs : List (List Nat)} {s : Dsk} (h : SRest m room N last rs s) (hc : Calm s) (j : Sst) (hd : d.length ≤ room * 128) (hb : ∀ c ∈ d, c < 256) (hN : N + 1 < 256) :
    ∃ s', svS s room j d = (0, s', ⟨⟨N + 1, 0, 0⟩, true⟩) ∧ SIn m room (N + 1) d [] 0 s' ∧ Calm s' := by
  obtain ⟨c1, c2⟩ := calm_svR 0 room d hc
  rcases h.save j hd hb hN with ⟨s', e, e2⟩ | ⟨s', e, _⟩
  · refine ⟨s', e, e2, ?_⟩
    have h2 : (svS s room j d).2.1 = (svR s 0 room d).2.2 := by unfold svS; split <;> rfl
    rw [e] at h2
    have h3 : s' = (svR s 0 room d).2.2 := h2
    rw [h3]
    exact c1
  · exfalso
    apply c2
    have h2 : (svS s room j d).1 = 150 := by rw [e]
    unfold svS at h2
    split at h2
    · exact h2
    · exact absurd (show (0 : Nat) = 150 from h2) (by omega)
theorem SIn.calm {m room N : Nat} {last r : List Nat} {rs : List (List Nat)} {used : Nat} {s : Dsk} (h : SIn m room N last rs used s) (hc : Calm s) (hr : ∀ c ∈ r, c < 256) (hl : r.length ≤ 262144) (hroom : used + prt r.length ≤ m - fb18 room) :
    ∃ s', apS s room ⟨⟨N, rs.length, used⟩, true⟩ r = (0, s', ⟨⟨N, (rs ++ [r]).length, used + prt r.length⟩, true⟩) ∧ SIn m room N last (rs ++ [r]) (used + prt r.length) s' ∧ Calm s' := by
  have hn := h.n1
  have hw := wt_japp (wt_id (fun x => fb18 room ≤ x) h.sn.un) (fb18 room) (m - fb18 room) ⟨N, rs.length, used⟩ r (fun x hx => hx)
  obtain ⟨s', e, e2, e3⟩ := japp_on h.ji hc.ar (by omega) hr hl hroom
  rw [e] at hw
  dsimp only at hw
  refine ⟨s', ?_, ⟨by rw [hw.len, h.bl], h.sn.same e2.ok e2.dn e2.un hw.len (fun x hx => hw.far x (by omega)), e2, hn⟩, e3, e2.dn⟩
  unfold apS fz18
  rw [if_neg (by simp), h.bl, e]
  rfl
theorem calm_new18 (n : Nat) : Calm (dNew n) := ⟨rfl, rfl⟩
end Go.Proofs.YthnpdcblfocemaaGreatDoor
