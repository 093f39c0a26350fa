/-
  Texts of this proof, joined: JnMath SnPlay JnMath2.
-/
import Derived.Test.YthnpdcblfocemaaDoorSU02
set_option linter.unusedVariables false
set_option linter.unusedSimpArgs false
namespace Go.Proofs.YthnpdcblfocemaaDoor

def prt (n : Nat) : Nat := max 1 ((n + 103) / 104)
theorem prt_pos (n : Nat) : 1 ≤ prt n := Nat.le_max_left _ _
theorem prt_room (n : Nat) : n ≤ prt n * 104 := by unfold prt; omega
theorem prt_le (n : Nat) : prt n ≤ n + 1 := by unfold prt; omega
def jcd (r : List Nat) (i : Nat) : List Nat := (r.drop (i * 104)).take 104
def jck (r : List Nat) (i : Nat) : List Nat := jcd r i ++ List.replicate (104 - (jcd r i).length) 0
def jtl (len parts i n gen : Nat) : List Nat := enN len 4 ++ (enN parts 2 ++ (enN i 2 ++ (enN n 8 ++ enN gen 8)))
def jblk (r : List Nat) (i n gen : Nat) : List Nat := jck r i ++ jtl r.length (prt r.length) i n gen
theorem jcd_len (r : List Nat) (i : Nat) : (jcd r i).length ≤ 104 := by unfold jcd; rw [List.length_take]; omega
theorem jck_len (r : List Nat) (i : Nat) : (jck r i).length = 104 := by
  have := jcd_len r i
  unfold jck
  rw [List.length_append, List.length_replicate]
  omega
theorem jtl_len (a b c d e : Nat) : (jtl a b c d e).length = 24 := by simp [jtl, enN_len]
theorem jblk_len (r : List Nat) (i n gen : Nat) : (jblk r i n gen).length = 128 := by unfold jblk; rw [List.length_append, jck_len, jtl_len]
theorem jtl_byte (a b c d e : Nat) : ∀ x ∈ jtl a b c d e, x < 256 := by
  intro x hx
  simp only [jtl, List.mem_append] at hx
  rcases hx with q | q | q | q | q <;> exact enN_byte _ _ x q
theorem jblk_ok {r : List Nat} (hr : ∀ c ∈ r, c < 256) (i n gen : Nat) : okb (jblk r i n gen) := by
  refine ⟨jblk_len r i n gen, fun c hc => ?_⟩
  unfold jblk jck at hc
  rcases List.mem_append.1 hc with q | q
  · rcases List.mem_append.1 q with q | q
    · unfold jcd at q
      exact hr c (List.mem_of_mem_drop (List.mem_of_mem_take q))
    · rw [(List.mem_replicate.1 q).2]; omega
  · exact jtl_byte _ _ _ _ _ c q
theorem full_blk (r : List Nat) (i n gen : Nat) : full (jblk r i n gen) = jblk r i n gen := by
  unfold full
  rw [jblk_len, Nat.sub_self, List.replicate_zero, List.append_nil]
theorem jblk_drop (r : List Nat) (i n gen : Nat) : (jblk r i n gen).drop 104 = jtl r.length (prt r.length) i n gen := by
  unfold jblk
  rw [List.drop_append_of_le_length (by rw [jck_len]; omega), List.drop_of_length_le (by rw [jck_len]; omega), List.nil_append]
theorem jblk_take (r : List Nat) (i n gen : Nat) : (jblk r i n gen).take 104 = jck r i := by
  unfold jblk
  rw [List.take_append_of_le_length (by rw [jck_len]; omega), List.take_of_length_le (by rw [jck_len]; omega)]
theorem jtl_gen {a b c d e : Nat} (he : e < 256 ^ 8) : deN (((jtl a b c d e).drop 16).take 8) = e := by
  have h1 : (jtl a b c d e).drop 16 = enN e 8 := by
    unfold jtl
    rw [← List.append_assoc, ← List.append_assoc, ← List.append_assoc, List.drop_append_of_le_length (by simp [enN_len]), List.drop_of_length_le (by simp [enN_len]), List.nil_append]
  rw [h1, List.take_of_length_le (by rw [enN_len]; omega), de_en 8 _ he]
theorem gen_of {x : List Nat} {a b c d e : Nat} (h : x.drop 104 = jtl a b c d e) (he : e < 256 ^ 8) : gt x 120 8 = e := by
  unfold gt
  have e1 : x.drop 120 = (x.drop 104).drop 16 := by rw [List.drop_drop]
  rw [e1, h]
  exact jtl_gen he
theorem len_of {x : List Nat} {a b c d e : Nat} (h : x.drop 104 = jtl a b c d e) (ha : a < 256 ^ 4) : gt x 104 4 = a := by
  unfold gt
  rw [h]
  unfold jtl
  rw [List.take_append_of_le_length (by rw [enN_len]; omega), List.take_of_length_le (by rw [enN_len]; omega), de_en 4 _ ha]
def jall (B : Nat → List Nat) (p bytes : Nat) : List Nat := ((List.range (prt bytes)).flatMap fun i => (B (p + i)).take 104).take bytes
def jrec (B : Nat → List Nat) (base size at_ n gen : Nat) : Option (List Nat) :=
  if size ≤ at_ then none else
  if 262144 < gt (B (base + at_)) 104 4 ∨ size - at_ < prt (gt (B (base + at_)) 104 4) then none else
  if ∀ i, i < prt (gt (B (base + at_)) 104 4) → (B (base + at_ + i)).drop 104 = jtl (gt (B (base + at_)) 104 4) (prt (gt (B (base + at_)) 104 4)) i n gen then some (jall B (base + at_) (gt (B (base + at_)) 104 4)) else none
def jrds (B : Nat → List Nat) (base size gen : Nat) : Nat → Nat → Nat → List (List Nat)
  | 0, _, _ => []
  | f + 1, at_, n => match jrec B base size at_ n gen with
    | none => []
    | some r => r :: jrds B base size gen f (at_ + prt r.length) (n + 1)
def jread (B : Nat → List Nat) (base size gen : Nat) : List (List Nat) := jrds B base size gen size 0 1
theorem jrds_none {B : Nat → List Nat} {base size gen at_ n : Nat} (h : jrec B base size at_ n gen = none) (f : Nat) : jrds B base size gen f at_ n = [] := by
  cases f with
  | zero => rfl
  | succ f => show (match jrec B base size at_ n gen with | none => [] | some r => _) = _; rw [h]
theorem jrds_some {B : Nat → List Nat} {base size gen at_ n : Nat} {r : List Nat} (h : jrec B base size at_ n gen = some r) (f : Nat) : jrds B base size gen (f + 1) at_ n = r :: jrds B base size gen f (at_ + prt r.length) (n + 1) := by
  show (match jrec B base size at_ n gen with | none => [] | some r => _) = _; rw [h]
def Stands (B : Nat → List Nat) (p n gen : Nat) (r : List Nat) : Prop := ∀ i, i < prt r.length → B (p + i) = jblk r i n gen
theorem flat_parts (r : List Nat) : ∀ k, k * 104 ≤ r.length + 104 → ((List.range k).flatMap fun i => jck r i).take r.length = r.take (k * 104) := by
  have key : ∀ k, (k - 1) * 104 ≤ r.length → (List.range k).flatMap (fun i => jck r i) = r.take (k * 104) ++ List.replicate (k * 104 - r.length) 0 := by
    intro k
    induction k with
    | zero => intro _; simp
    | succ k ih =>
      intro hk
      rw [List.range_succ, List.flatMap_append, ih (by omega)]
      have e1 : k * 104 - r.length = 0 := by omega
      rw [e1, List.replicate_zero, List.append_nil]
      have e2 : List.flatMap (fun i => jck r i) [k] = jck r k := by simp
      rw [e2]
      unfold jck jcd
      have e3 : (k + 1) * 104 = k * 104 + 104 := by omega
      rw [← List.append_assoc, e3, List.take_add]
      congr 2
      rw [List.length_take, List.length_drop]
      omega
  intro k hk
  rw [key k (by omega)]
  by_cases q : k * 104 ≤ r.length
  · rw [show k * 104 - r.length = 0 by omega, List.replicate_zero, List.append_nil, List.take_take, Nat.min_eq_right q]
  · rw [List.take_of_length_le (l := r) (by omega), List.take_append_of_le_length (by omega), List.take_of_length_le (by omega)]
theorem flat_congr {f g : Nat → List Nat} : ∀ l : List Nat, (∀ i ∈ l, f i = g i) → l.flatMap f = l.flatMap g := by
  intro l
  induction l with
  | nil => intro _; rfl
  | cons a l ih => intro h; rw [List.flatMap_cons, List.flatMap_cons, h a (by simp), ih (fun i hi => h i (by simp [hi]))]
theorem jall_stands {B : Nat → List Nat} {p n gen : Nat} {r : List Nat} (h : Stands B p n gen r) : jall B p r.length = r := by
  unfold jall
  have e : (List.range (prt r.length)).flatMap (fun i => (B (p + i)).take 104) = (List.range (prt r.length)).flatMap (fun i => jck r i) := by
    refine flat_congr _ fun i hi => ?_
    rw [h i (List.mem_range.1 hi), jblk_take]
  rw [e, flat_parts r _ (by unfold prt; omega), List.take_of_length_le (prt_room _)]
theorem jrec_stands {B : Nat → List Nat} {base size at_ n gen : Nat} {r : List Nat} (h : Stands B (base + at_) n gen r) (hs : at_ + prt r.length ≤ size) (hl : r.length ≤ 262144) : jrec B base size at_ n gen = some r := by
  have hp := prt_pos r.length
  have h0 := h 0 (by omega)
  rw [Nat.add_zero] at h0
  have hb : gt (B (base + at_)) 104 4 = r.length := len_of (by rw [h0]; exact jblk_drop _ _ _ _) (by have : (256 : Nat) ^ 4 = 4294967296 := by decide
                                                                                                     omega)
  unfold jrec
  rw [if_neg (by omega), hb, if_neg (by omega), if_pos (fun i hi => by rw [h i hi]; exact jblk_drop _ _ _ _), jall_stands h]
theorem jrec_gen {B : Nat → List Nat} {base size at_ n gen : Nat} {r : List Nat} (hg : gen < 256 ^ 8) (h : jrec B base size at_ n gen = some r) : at_ < size ∧ ∀ i, i < prt (gt (B (base + at_)) 104 4) → gt (B (base + at_ + i)) 120 8 = gen := by
  unfold jrec at h
  split at h
  · cases h
  · split at h
    · cases h
    · split at h
      · rename_i h1 h2 h3
        exact ⟨by omega, fun i hi => gen_of (h3 i hi) hg⟩
      · cases h
theorem jrec_other {B : Nat → List Nat} {base size at_ n gen : Nat} (hg : gen < 256 ^ 8) (h : at_ < size → gt (B (base + at_)) 120 8 ≠ gen) : jrec B base size at_ n gen = none := by
  cases e : jrec B base size at_ n gen with
  | none => rfl
  | some r =>
    obtain ⟨h1, h2⟩ := jrec_gen hg e
    have h3 := h2 0 (by have := prt_pos (gt (B (base + at_)) 104 4); omega)
    rw [Nat.add_zero] at h3
    exact absurd h3 (h h1)
inductive Row (B : Nat → List Nat) (base gen : Nat) : List (List Nat) → Nat → Nat → Nat → Prop
  | nil (at_ n : Nat) : Row B base gen [] at_ at_ n
  | cons {r : List Nat} {rs : List (List Nat)} {at_ e n : Nat} : Stands B (base + at_) n gen r → r.length ≤ 262144 → Row B base gen rs (at_ + prt r.length) e (n + 1) → Row B base gen (r :: rs) at_ e n
theorem Row.le {B : Nat → List Nat} {base gen : Nat} {rs : List (List Nat)} {a e n : Nat} (h : Row B base gen rs a e n) : a + rs.length ≤ e := by
  induction h with
  | nil => simp
  | cons h1 h2 h3 ih => rename_i r rs a e n; have := prt_pos r.length; simp; omega
theorem Row.app {B : Nat → List Nat} {base gen : Nat} {rs : List (List Nat)} {a e n : Nat} (h : Row B base gen rs a e n) {r : List Nat} (h1 : Stands B (base + e) (n + rs.length) gen r) (h2 : r.length ≤ 262144) : Row B base gen (rs ++ [r]) a (e + prt r.length) n := by
  induction h with
  | nil a n => exact .cons (by simpa using h1) h2 (.nil _ _)
  | cons g1 g2 g3 ih => exact .cons g1 g2 (ih (by rw [show ∀ (x : Nat) (l : List (List Nat)) (y : List Nat), x + 1 + l.length = x + (y :: l).length from fun x l y => by simp; omega]; exact h1))
theorem Row.same {B B' : Nat → List Nat} {base gen : Nat} {rs : List (List Nat)} {a e n : Nat} (h : Row B base gen rs a e n) (k : ∀ i, a ≤ i → i < e → B' (base + i) = B (base + i)) : Row B' base gen rs a e n := by
  induction h with
  | nil a n => exact .nil a n
  | cons g1 g2 g3 ih =>
    rename_i r rs a e n
    have hl := g3.le
    refine .cons (fun i hi => ?_) g2 (ih (fun i hi hi2 => k i (by omega) hi2))
    have := k (a + i) (by omega) (by omega)
    rw [← Nat.add_assoc] at this
    rw [this]
    exact g1 i hi
theorem jrds_row {B : Nat → List Nat} {base size gen : Nat} {rs : List (List Nat)} {a e n : Nat} (h : Row B base gen rs a e n) (he : e ≤ size) : ∀ f, rs.length ≤ f → jrds B base size gen f a n = rs ++ jrds B base size gen (f - rs.length) e (n + rs.length) := by
  induction h with
  | nil a n => intro f _; simp
  | cons g1 g2 g3 ih =>
    rename_i r rs a e n
    intro f hf
    have hl := g3.le
    cases f with
    | zero => simp at hf
    | succ f =>
      rw [jrds_some (jrec_stands g1 (by omega) g2) f, ih he f (by simpa using hf)]
      simp only [List.cons_append, List.length_cons]
      rw [show f + 1 - (rs.length + 1) = f - rs.length by omega, show n + 1 + rs.length = n + (rs.length + 1) by omega]
theorem jread_row {B : Nat → List Nat} {base size gen : Nat} {rs : List (List Nat)} {e : Nat} (h : Row B base gen rs 0 e 1) (he : e ≤ size) (hn : jrec B base size e (1 + rs.length) gen = none) : jread B base size gen = rs := by
  unfold jread
  have hl := h.le
  rw [jrds_row h he size (by omega), jrds_none hn, List.append_nil]
end Go.Proofs.YthnpdcblfocemaaDoor
set_option linter.unusedVariables false
set_option linter.unusedSimpArgs false
namespace Go.Proofs.YthnpdcblfocemaaDoor

theorem wrE_down {s : Dsk} {i : Int} {b : List Nat} (h : wrE s i b = 150) : (wrS s i b).dn = true := by
  unfold wrE at h
  unfold wrS
  by_cases q : dAsk s i ≠ 0
  · rw [if_pos q] at h
    rw [if_pos (Or.inl q)]
    unfold dAsk at h
    by_cases d : s.dn = true
    · exact d
    · rw [if_neg d] at h
      split at h <;> omega
  · rw [if_neg q] at h
    by_cases l : 128 < b.length
    · rw [if_pos l] at h; omega
    · rw [if_neg l] at h
      rw [if_neg (by rintro (x | x); exact q x; exact l x)]
      by_cases g : dGo s = true
      · rw [if_pos g] at h; omega
      · unfold dGo at g
        unfold dGone
        cases ha : s.ar with
        | false => rw [ha] at g; simp at g
        | true =>
          rw [ha] at g
          have : s.lf = 0 := by simpa using g
          simp [ha, this]
theorem flE_down {s : Dsk} (h : flE s ≠ 0) : (flS s).dn = true := by
  unfold flE at h
  unfold flS
  by_cases d : s.dn = true
  · rw [if_pos d]; exact d
  · rw [if_neg d] at h ⊢
    by_cases g : dGo s = true
    · rw [if_pos g] at h; exact absurd rfl h
    · rw [if_neg g]
      unfold dGo at g
      unfold dGone
      cases ha : s.ar with
      | false => rw [ha] at g; simp at g
      | true =>
        rw [ha] at g
        have : s.lf = 0 := by simpa using g
        simp [ha, this]
theorem flE_none {s : Dsk} (h : flE s = 0) : (flS s).un = [] ∧ (flS s).dn = false := by
  unfold flE at h
  unfold flS
  by_cases d : s.dn = true
  · rw [if_pos d] at h; omega
  · rw [if_neg d] at h ⊢
    by_cases g : dGo s = true
    · rw [if_pos g]
      refine ⟨rfl, ?_⟩
      show (dGone s).dn = false
      rw [dGo_gone g]
      simpa using d
    · rw [if_neg g] at h; omega
theorem bl_wr (s : Dsk) (i : Int) (b : List Nat) : (wrS s i b).bl.length = s.bl.length ∧ (wrS s i b).un.length ≤ s.un.length + 1 := by
  unfold wrS
  split
  · exact ⟨rfl, by omega⟩
  · rw [(dGone_bl _).1, (dGone_bl _).2]
    exact ⟨rfl, by simp⟩
theorem bl_fl (s : Dsk) : (flS s).bl.length = s.bl.length ∧ (flS s).un.length ≤ s.un.length := by
  unfold flS
  split
  · exact ⟨rfl, Nat.le_refl _⟩
  · split
    · exact ⟨by rw [lay_len], Nat.zero_le _⟩
    · rw [(dGone_bl _).1, (dGone_bl _).2]; exact ⟨rfl, Nat.le_refl _⟩
structure Jq (n : Nat) (s : Dsk) : Prop where
  un : s.dn = false → s.un = []
  le : s.un.length ≤ 60
  bl : s.bl.length = n
theorem jq_fl {n : Nat} {s : Dsk} (hu : s.un.length ≤ 60) (hb : s.bl.length = n) : Jq n (flS s) := by
  have h := bl_fl s
  refine ⟨fun q => ?_, by omega, by omega⟩
  by_cases e : flE s = 0
  · exact (flE_none e).1
  · rw [flE_down e] at q; cases q
theorem jq_cr {n : Nat} {s : Dsk} (h : Jq n s) (fs : List (Int × Int)) : Jq n (crS s fs) := ⟨fun _ => rfl, Nat.zero_le _, by show (fall s.un fs s.bl).length = n; rw [fall_len, h.bl]⟩
theorem jq_ar {n : Nat} {s : Dsk} (h : Jq n s) (k : Int) : Jq n (arS s k) := ⟨h.un, h.le, h.bl⟩
theorem svW_jq (a : Nat) (d : List Nat) : ∀ (k i : Nat) (s : Dsk), s.dn = false → a + 1 + i + k ≤ s.bl.length → ((svW a d k i s).1 = 0 ∧ (svW a d k i s).2.dn = false ∨ (svW a d k i s).1 ≠ 0 ∧ (svW a d k i s).2.dn = true) ∧ (svW a d k i s).2.bl.length = s.bl.length ∧ (svW a d k i s).2.un.length ≤ s.un.length + k := by
  intro k
  induction k with
  | zero => intro i s hd _; exact ⟨Or.inl ⟨rfl, hd⟩, rfl, Nat.le_refl _⟩
  | succ k ih =>
    intro i s hd hl
    have h1 := bl_wr s ((a + 1 + i : Nat) : Int) (ck d i)
    obtain ⟨-, -, w3⟩ := wr_step (s := s) (i := a + 1 + i) (b := ck d i) hd (by omega) (ck_len d i)
    by_cases q : wrE s ((a + 1 + i : Nat) : Int) (ck d i) ≠ 0
    · have e : svW a d (k + 1) i s = (wrE s ((a + 1 + i : Nat) : Int) (ck d i), wrS s ((a + 1 + i : Nat) : Int) (ck d i)) := by
        show (if _ then _ else _) = _
        rw [if_pos q]
      rw [e]
      refine ⟨Or.inr ⟨q, ?_⟩, h1.1, by have := h1.2; dsimp only; omega⟩
      rcases w3 with w3 | w3
      · exact wrE_down w3
      · exact absurd w3.1 q
    · have e : svW a d (k + 1) i s = svW a d k (i + 1) (wrS s ((a + 1 + i : Nat) : Int) (ck d i)) := by
        show (if _ then _ else _) = _
        rw [if_neg q]
      rw [e]
      have hd2 : (wrS s ((a + 1 + i : Nat) : Int) (ck d i)).dn = false := by
        rcases w3 with w3 | w3
        · exact absurd w3 (by omega)
        · exact w3.2
      obtain ⟨g1, g2, g3⟩ := ih (i + 1) _ hd2 (by rw [h1.1]; omega)
      exact ⟨g1, by rw [g2, h1.1], by have := h1.2; omega⟩
theorem jq_sv {n at_ room : Nat} {s : Dsk} {d : List Nat} (h : Jq n s) (hr : at_ + 2 * (room + 1) ≤ n) (hroom : room ≤ 50) : Jq n (svR s at_ room d).2.2 := by
  unfold svR
  by_cases g1 : room * 128 < d.length
  · rw [if_pos g1]; exact h
  rw [if_neg g1]
  by_cases g2 : s.dn = true
  · rw [if_pos g2]; exact h
  rw [if_neg g2]
  have hd : s.dn = false := by simpa using g2
  generalize (ldV (rb s) at_ room).2.1 + 1 = N
  unfold svN
  by_cases g3 : 4611686018427387904 < N
  · rw [if_pos g3]; exact h
  rw [if_neg g3]
  have hA := slA_lt (at_ := at_) (room := room) (which := N % 2) (l := n) (i := room) (by omega) hr (Nat.le_refl _)
  generalize slA at_ room (N % 2) = a at *
  have hc : (d.length + 127) / 128 ≤ room := by omega
  have hu := h.un hd
  obtain ⟨w1, w2, w3⟩ := svW_jq a d ((d.length + 127) / 128) 0 s hd (by rw [h.bl]; omega)
  rw [hu] at w3
  simp only [List.length_nil, Nat.zero_add] at w3
  rw [h.bl] at w2
  generalize svW a d ((d.length + 127) / 128) 0 s = w at *
  unfold svF
  by_cases g4 : w.1 ≠ 0
  · rw [if_pos g4]
    rcases w1 with w1 | w1
    · exact absurd w1.1 g4
    · exact ⟨fun q => (by rw [w1.2] at q; cases q), (by dsimp only; omega), w2⟩
  rw [if_neg g4]
  have f1 := bl_fl w.2
  by_cases g5 : flE w.2 ≠ 0
  · rw [if_pos g5]
    exact ⟨fun q => (by rw [flE_down g5] at q; cases q), (by dsimp only; omega), (by dsimp only; omega)⟩
  rw [if_neg g5]
  obtain ⟨f2, f3⟩ := flE_none (by simpa using g5)
  generalize flS w.2 = s3 at *
  unfold svH
  have b1 := bl_wr s3 (a : Int) (hdB N d)
  rw [f2] at b1
  obtain ⟨-, -, v3⟩ := wr_step (s := s3) (i := a) (b := hdB N d) f3 (by omega) (by rw [hdB_len]; omega)
  by_cases g6 : wrE s3 (a : Int) (hdB N d) ≠ 0
  · rw [if_pos g6]
    refine ⟨fun q => ?_, by have := b1.2; simp at this; dsimp only; omega, by have := b1.1; dsimp only; omega⟩
    rcases v3 with v3 | v3
    · rw [wrE_down v3] at q; cases q
    · exact absurd v3.1 g6
  rw [if_neg g6]
  have f4 := bl_fl (wrS s3 (a : Int) (hdB N d))
  have hJ : Jq n (flS (wrS s3 (a : Int) (hdB N d))) := jq_fl (by have := b1.2; simp at this; omega) (by have := b1.1; omega)
  by_cases g7 : flE (wrS s3 (a : Int) (hdB N d)) ≠ 0
  · rw [if_pos g7]; exact hJ
  · rw [if_neg g7]; exact hJ
theorem jq_new (n : Nat) : Jq n (dNew n) := ⟨fun _ => rfl, Nat.zero_le _, List.length_replicate⟩
end Go.Proofs.YthnpdcblfocemaaDoor
set_option linter.unusedVariables false
set_option linter.unusedSimpArgs false
namespace Go.Proofs.YthnpdcblfocemaaDoor

structure Jst where
  gen : Nat
  n : Nat
  next : Nat
def jwr (p : Nat) (r : List Nat) (n gen : Nat) : Nat → Nat → Dsk → Nat × Dsk
  | 0, _, s => (0, s)
  | k + 1, i, s => if wrE s ((p + i : Nat) : Int) (jblk r i n gen) ≠ 0 then (wrE s ((p + i : Nat) : Int) (jblk r i n gen), wrS s ((p + i : Nat) : Int) (jblk r i n gen)) else jwr p r n gen k (i + 1) (wrS s ((p + i : Nat) : Int) (jblk r i n gen))
def jfl (w : Nat × Dsk) : Nat × Dsk := if w.1 ≠ 0 then w else (flE w.2, flS w.2)
def jput (s : Dsk) (base : Nat) (j : Jst) (r : List Nat) : Nat × Dsk := jfl (jwr (base + j.next) r (j.n + 1) j.gen (prt r.length) 0 s)
def japp (s : Dsk) (base size : Nat) (j : Jst) (r : List Nat) : Nat × Dsk × Jst :=
  if j.gen = 0 then (180, s, j) else if 262144 < r.length then (3, s, j) else if size - j.next < prt r.length then (170, s, j) else
  if (jput s base j r).1 ≠ 0 then ((jput s base j r).1, (jput s base j r).2, { j with gen := 0 }) else (0, (jput s base j r).2, ⟨j.gen, j.n + 1, j.next + prt r.length⟩)
structure Jun (bl : List (List Nat)) (p cnt : Nat) (r : List Nat) (n gen : Nat) (s : Dsk) : Prop where
  bl : s.bl = bl
  un : ∀ u ∈ s.un, ∃ j, j < cnt ∧ u = (p + j, jblk r j n gen)
theorem jwr_is (bl : List (List Nat)) (p cnt : Nat) (r : List Nat) (n gen : Nat) (hl : p + cnt ≤ bl.length) : ∀ (k i : Nat) (s : Dsk), i + k = cnt → s.dn = false → Jun bl p cnt r n gen s → (∀ j, j < i → lastU s.un (p + j) (bl.getD (p + j) []) = jblk r j n gen) →
    Jun bl p cnt r n gen (jwr p r n gen k i s).2 ∧ ((jwr p r n gen k i s).1 = 150 ∨ ((jwr p r n gen k i s).1 = 0 ∧ (jwr p r n gen k i s).2.dn = false ∧ ∀ j, j < cnt → lastU (jwr p r n gen k i s).2.un (p + j) (bl.getD (p + j) []) = jblk r j n gen)) := by
  intro k
  induction k with
  | zero =>
    intro i s hi hd hU hj
    have e : i = cnt := by omega
    subst e
    exact ⟨hU, Or.inr ⟨rfl, hd, hj⟩⟩
  | succ k ih =>
    intro i s hi hd hU hj
    obtain ⟨w1, w2, w3⟩ := wr_step (s := s) (i := p + i) (b := jblk r i n gen) hd (by rw [hU.bl]; omega) (by rw [jblk_len]; omega)
    rw [full_blk] at w2
    have hU2 : Jun bl p cnt r n gen (wrS s ((p + i : Nat) : Int) (jblk r i n gen)) := ⟨by rw [w1]; exact hU.bl, fun u hu => by
      rw [w2] at hu
      rcases List.mem_append.1 hu with q | q
      · exact hU.un u q
      · exact ⟨i, by omega, by simpa using q⟩⟩
    rcases w3 with w3 | ⟨w3, w4⟩
    · have e : jwr p r n gen (k + 1) i s = (150, wrS s ((p + i : Nat) : Int) (jblk r i n gen)) := by
        show (if wrE s ((p + i : Nat) : Int) (jblk r i n gen) ≠ 0 then _ else _) = _
        rw [if_pos (by omega), w3]
      rw [e]
      exact ⟨hU2, Or.inl rfl⟩
    · have e : jwr p r n gen (k + 1) i s = jwr p r n gen k (i + 1) (wrS s ((p + i : Nat) : Int) (jblk r i n gen)) := by
        show (if wrE s ((p + i : Nat) : Int) (jblk r i n gen) ≠ 0 then _ else _) = _
        rw [if_neg (by omega)]
      rw [e]
      refine ih (i + 1) _ (by omega) w4 hU2 (fun j hji => ?_)
      rw [w2, lastU_app]
      by_cases q : j = i
      · subst q; exact if_pos rfl
      · rw [if_neg (by show ¬ p + i = p + j; omega)]
        exact hj j (by omega)
structure JIn (base size g i : Nat) (rs : List (List Nat)) (used : Nat) (s : Dsk) : Prop where
  ok : OkD s
  dn : s.dn = false
  un : s.un = []
  rm : base + size ≤ s.bl.length
  row : Row (bk s) base g rs 0 used 1
  us : used ≤ size
  old : ∀ x, used ≤ x → x < size → gt (bk s (base + x)) 120 8 ≤ i
structure JFl (base size g i : Nat) (rs : List (List Nat)) (used : Nat) (r : List Nat) (s : Dsk) : Prop where
  ok : OkD s
  rm : base + size ≤ s.bl.length
  row : Row (bk s) base g rs 0 used 1
  us : used + prt r.length ≤ size
  old : ∀ x, used ≤ x → x < size → gt (bk s (base + x)) 120 8 ≤ i
  un : ∀ u ∈ s.un, ∃ j, j < prt r.length ∧ u = (base + used + j, jblk r j (rs.length + 1) g)
theorem okD_jwr (p : Nat) {r : List Nat} (hr : ∀ c ∈ r, c < 256) (n gen : Nat) : ∀ (k i : Nat) (s : Dsk), OkD s → OkD (jwr p r n gen k i s).2 := by
  intro k
  induction k with
  | zero => intro i s h; exact h
  | succ k ih =>
    intro i s h
    have h2 := okD_wr h ((p + i : Nat) : Int) (jblk r i n gen) (jblk_ok hr i n gen).2
    show OkD (if wrE s ((p + i : Nat) : Int) (jblk r i n gen) ≠ 0 then _ else _ : Nat × Dsk).2
    split
    · exact h2
    · exact ih _ _ h2
theorem JIn.app {base size g i : Nat} {rs : List (List Nat)} {used : Nat} {s : Dsk} (h : JIn base size g i rs used s) {r : List Nat} (hr : ∀ c ∈ r, c < 256) (hl : r.length ≤ 262144) (hroom : used + prt r.length ≤ size) :
    ((jfl (jwr (base + used) r (rs.length + 1) g (prt r.length) 0 s)).1 = 0 ∧ JIn base size g i (rs ++ [r]) (used + prt r.length) (jfl (jwr (base + used) r (rs.length + 1) g (prt r.length) 0 s)).2) ∨
    ((jfl (jwr (base + used) r (rs.length + 1) g (prt r.length) 0 s)).1 = 150 ∧ JFl base size g i rs used r (jfl (jwr (base + used) r (rs.length + 1) g (prt r.length) 0 s)).2) := by
  have hO := okD_jwr (base + used) hr (rs.length + 1) g (prt r.length) 0 s h.ok
  obtain ⟨hU, h2⟩ := jwr_is s.bl (base + used) (prt r.length) r (rs.length + 1) g (by have := h.rm; omega) (prt r.length) 0 s (by omega) h.dn ⟨rfl, fun u hx => by rw [h.un] at hx; cases hx⟩ (fun j hj => by omega)
  generalize jwr (base + used) r (rs.length + 1) g (prt r.length) 0 s = w at *
  have hbk : bk w.2 = bk s := by unfold bk; rw [hU.bl]
  rcases h2 with h2 | ⟨h2, h3, h4⟩
  · right
    have e : jfl w = w := by unfold jfl; rw [if_pos (by omega)]
    rw [e]
    exact ⟨h2, hO, by rw [hU.bl]; exact h.rm, by rw [hbk]; exact h.row, hroom, by rw [hbk]; exact h.old, hU.un⟩
  · have e : jfl w = (flE w.2, flS w.2) := by unfold jfl; rw [if_neg (by omega)]
    rw [e]
    dsimp only
    rcases fl_step h3 with ⟨f1, f2, f3⟩ | ⟨f1, f2, f3, f4⟩
    · right
      have hbk2 : bk (flS w.2) = bk s := by unfold bk; rw [f2, hU.bl]
      exact ⟨f1, okD_fl hO, by rw [f2, hU.bl]; exact h.rm, by rw [hbk2]; exact h.row, hroom, by rw [hbk2]; exact h.old, by rw [f3]; exact hU.un⟩
    · left
      have hfar : ∀ x, (x < base + used ∨ base + used + prt r.length ≤ x) → bk (flS w.2) x = bk s x := fun x hx => by
        unfold bk
        rw [f2, hU.bl, lay_far _ _ _ (fun u hu => by
          obtain ⟨j, hj, rfl⟩ := hU.un u hu
          dsimp only
          omega)]
      have hnew : ∀ j, j < prt r.length → bk (flS w.2) (base + used + j) = jblk r j (rs.length + 1) g := fun j hj => by
        unfold bk
        rw [f2, hU.bl, lay_last _ _ _ (by have := h.rm; omega)]
        exact h4 j hj
      refine ⟨f1, okD_fl hO, f4, f3, by rw [f2, lay_len, hU.bl]; exact h.rm, ?_, hroom, fun x h1 h2 => ?_⟩
      · refine Row.app (h.row.same (fun x _ hx => hfar _ (Or.inl (by omega)))) (fun j hj => ?_) hl
        rw [Nat.add_comm 1 rs.length]
        exact hnew j hj
      · rw [hfar _ (Or.inr (by omega))]
        exact h.old x (by omega) h2
theorem deN_none : ∀ t : List Nat, deN t = 0 → t = List.replicate t.length 0 := by
  intro t
  induction t with
  | nil => intro _; rfl
  | cons c t ih =>
    intro h
    have h2 : c + 256 * deN t = 0 := h
    have h3 := ih (by omega)
    have h4 : c = 0 := by omega
    rw [h4, List.length_cons, List.replicate_succ, ← h3]
theorem deN_small {l : List Nat} (h : deN l < 256) {t : Nat} (ht : 1 ≤ t) : l.drop t = List.replicate (l.length - t) 0 := by
  cases l with
  | nil => simp
  | cons c l =>
    have h2 : c + 256 * deN l < 256 := h
    have h3 := deN_none l (by omega)
    obtain ⟨u, rfl⟩ : ∃ u, t = u + 1 := ⟨t - 1, by omega⟩
    rw [List.drop_succ_cons, h3, List.drop_replicate]
    simp
theorem last_small {X : List Nat} (hX : X.length = 128) (h : gt X 120 8 < 256) {k : Nat} (hk : 121 ≤ k) : X.drop k = List.replicate (128 - k) 0 := by
  unfold gt at h
  rw [List.take_of_length_le (by rw [List.length_drop]; omega)] at h
  have e : X.drop k = (X.drop 120).drop (k - 120) := by rw [List.drop_drop]; congr 1; omega
  rw [e, deN_small h (by omega), List.length_drop, hX]
  congr 1
  omega
theorem torn_gen {k g : Nat} {H X : List Nat} (hH : okb H) (hX : okb X) (hg : gt H 120 8 = g) (h256 : g < 256) (h : X = H ∨ gt X 120 8 < g) (hk : k ≤ 128) : torn k H X = H ∨ gt (torn k H X) 120 8 < g := by
  rcases h with rfl | h
  · left; unfold torn; exact List.take_append_drop k X
  · by_cases q : k ≤ 120
    · right
      unfold gt at h ⊢
      rw [torn_high hH.1 q (by omega)]
      exact h
    · left
      unfold torn
      rw [last_small hX.1 (by omega) (k := k) (by omega), ← last_small hH.1 (by omega) (k := k) (by omega)]
      exact List.take_append_drop k H
theorem fall_keeps (P : Nat → List Nat → Prop) : ∀ (un : List (Nat × List Nat)) (fs : List (Int × Int)) (bl : List (List Nat)), (∀ u ∈ un, ∀ k X, k ≤ 128 → P u.1 X → P u.1 (torn k u.2 X)) → (∀ u ∈ un, u.1 < bl.length) → ∀ x, P x (bl.getD x []) → P x ((fall un fs bl).getD x []) := by
  intro un
  induction un with
  | nil => intro fs bl _ _ x h; exact h
  | cons u un ih =>
    intro fs bl h1 h2 x h
    cases fs with
    | nil => rw [fall_nil]; exact h
    | cons f fs =>
      rw [fall_cons]
      refine ih fs _ (fun v hv => h1 v (by simp [hv])) (fun v hv => by rw [List.length_set]; exact h2 v (by simp [hv])) x ?_
      have hu := h2 u (by simp)
      by_cases q : u.1 = x
      · subst q
        have e : (bl.set u.1 (torn (fn f) u.2 (bl.getD u.1 []))).getD u.1 [] = torn (fn f) u.2 (bl.getD u.1 []) := by simp [List.getD, List.getElem?_set, hu]
        rw [e]
        exact h1 u (by simp) (fn f) _ (fn_le f) h
      · have e : (bl.set u.1 (torn (fn f) u.2 (bl.getD u.1 []))).getD x [] = bl.getD x [] := by simp [List.getD, List.getElem?_set, q]
        rw [e]
        exact h
structure JRest (base size i : Nat) (s : Dsk) : Prop where
  ok : OkD s
  dn : s.dn = false
  un : s.un = []
  rm : base + size ≤ s.bl.length
  old : ∀ x, x < size → gt (bk s (base + x)) 120 8 ≤ i
theorem JRest.begin {base size i g : Nat} {s : Dsk} (h : JRest base size i s) : JIn base size g i [] 0 s := ⟨h.ok, h.dn, h.un, h.rm, .nil 0 1, Nat.zero_le _, fun x _ hx => h.old x hx⟩
theorem Row.gens {B : Nat → List Nat} {base gen : Nat} {rs : List (List Nat)} {a e n : Nat} (h : Row B base gen rs a e n) (hg : gen < 256 ^ 8) : ∀ x, a ≤ x → x < e → gt (B (base + x)) 120 8 = gen := by
  induction h with
  | nil a n => intro x h1 h2; omega
  | cons g1 g2 g3 ih =>
    rename_i r rs a e n
    intro x h1 h2
    by_cases q : x < a + prt r.length
    · have := g1 (x - a) (by omega)
      rw [show base + a + (x - a) = base + x by omega] at this
      rw [this]
      exact gen_of (jblk_drop _ _ _ _) hg
    · exact ih x (by omega) h2
theorem lt_eight {g : Nat} (h : g < 256) : g < 256 ^ 8 := Nat.lt_of_lt_of_le h (by decide)
theorem JIn.read {base size g i : Nat} {rs : List (List Nat)} {used : Nat} {s : Dsk} (h : JIn base size g i rs used s) (hi : i < g) (hg : g < 256) : jread (rb s) base size g = rs := by
  have hB : ∀ x, x < size → rb s (base + x) = bk s (base + x) := fun x hx => rb_bk h.un h.dn (by have := h.rm; omega)
  have hr : Row (rb s) base g rs 0 used 1 := h.row.same (fun x _ hx => hB x (by have := h.us; omega))
  refine jread_row hr h.us (jrec_other (lt_eight hg) (fun hx => ?_))
  rw [hB used hx]
  have := h.old used (Nat.le_refl _) hx
  omega
theorem JIn.other {base size g i : Nat} {rs : List (List Nat)} {used : Nat} {s : Dsk} (h : JIn base size g i rs used s) (hg : g < 256) {f : Nat} (hf : f < 256) (h1 : f ≠ g) (h2 : i < f) : jread (rb s) base size f = [] := by
  have hB : ∀ x, x < size → rb s (base + x) = bk s (base + x) := fun x hx => rb_bk h.un h.dn (by have := h.rm; omega)
  refine jrds_none (jrec_other (lt_eight hf) (fun hx => ?_)) _
  rw [hB 0 hx]
  by_cases q : 0 < used
  · rw [h.row.gens (lt_eight hg) 0 (Nat.le_refl _) q]; exact fun e => h1 e.symm
  · have := h.old 0 (by omega) hx; omega
theorem JIn.rest {base size g i : Nat} {rs : List (List Nat)} {used : Nat} {s : Dsk} (h : JIn base size g i rs used s) (hi : i ≤ g) (hg : g < 256) : JRest base size g s := ⟨h.ok, h.dn, h.un, h.rm, fun x hx => by
  by_cases q : x < used
  · rw [h.row.gens (lt_eight hg) x (Nat.zero_le _) q]; exact Nat.le_refl _
  · exact Nat.le_trans (h.old x (by omega) hx) hi⟩
theorem JRest.ar {base size i : Nat} {s : Dsk} (h : JRest base size i s) (k : Int) : JRest base size i (arS s k) := ⟨okD_ar h.ok k, h.dn, h.un, h.rm, h.old⟩
theorem JIn.ar {base size g i : Nat} {rs : List (List Nat)} {used : Nat} {s : Dsk} (h : JIn base size g i rs used s) (k : Int) : JIn base size g i rs used (arS s k) := ⟨okD_ar h.ok k, h.dn, h.un, h.rm, h.row, h.us, h.old⟩
theorem JFl.crash {base size g i : Nat} {rs : List (List Nat)} {used : Nat} {r : List Nat} {s : Dsk} (h : JFl base size g i rs used r s) (hi : i < g) (hg : g < 256) (hr : ∀ c ∈ r, c < 256) (hl : r.length ≤ 262144) (fs : List (Int × Int)) :
    JRest base size g (crS s fs) ∧ (jread (rb (crS s fs)) base size g = rs ∨ jread (rb (crS s fs)) base size g = rs ++ [r]) := by
  have hrm := h.rm
  have hus := h.us
  have hpp := prt_pos r.length
  have hlen : (crS s fs).bl.length = s.bl.length := fall_len _ _ _
  have hO := okD_cr h.ok fs
  have hgen : ∀ j, gt (jblk r j (rs.length + 1) g) 120 8 = g := fun j => gen_of (jblk_drop _ _ _ _) (lt_eight hg)
  have hin : ∀ x, x < prt r.length → (bk (crS s fs) (base + used + x) = jblk r x (rs.length + 1) g ∨ gt (bk (crS s fs) (base + used + x)) 120 8 < g) := by
    intro x hx
    have key := fall_keeps (fun y X => okb X ∧ (y = base + used + x → X = jblk r x (rs.length + 1) g ∨ gt X 120 8 < g)) s.un fs s.bl ?_ (fun u hu => (h.ok.un u hu).1) (base + used + x) ⟨getD_ok h.ok.bl (by omega), fun _ => Or.inr ?_⟩
    · exact key.2 rfl
    · intro u hu k X hk hP
      obtain ⟨j, hj, rfl⟩ := h.un u hu
      refine ⟨torn_ok hk (jblk_ok hr _ _ _) hP.1, fun e => ?_⟩
      have e2 : j = x := by dsimp only at e; omega
      subst e2
      exact torn_gen (jblk_ok hr _ _ _) hP.1 (hgen j) hg (hP.2 e) hk
    · have := h.old (used + x) (by omega) (by omega)
      rw [← Nat.add_assoc] at this
      exact Nat.lt_of_le_of_lt this hi
  have hfar : ∀ x, (x < base + used ∨ base + used + prt r.length ≤ x) → bk (crS s fs) x = bk s x := fun x hx => by
    show (fall s.un fs s.bl).getD x [] = s.bl.getD x []
    exact fall_far _ _ _ _ (fun u hu => by
      obtain ⟨j, hj, rfl⟩ := h.un u hu
      dsimp only
      omega)
  have hold : ∀ x, x < size → gt (bk (crS s fs) (base + x)) 120 8 ≤ g := fun x hx => by
    by_cases q1 : x < used
    · rw [hfar _ (Or.inl (by omega)), h.row.gens (lt_eight hg) x (Nat.zero_le _) q1]; exact Nat.le_refl _
    · by_cases q2 : x < used + prt r.length
      · have := hin (x - used) (by omega)
        rw [show base + used + (x - used) = base + x by omega] at this
        rcases this with e | e
        · rw [e, hgen]; exact Nat.le_refl _
        · omega
      · rw [hfar _ (Or.inr (by omega))]
        have := h.old x (by omega) hx
        omega
  refine ⟨⟨hO, rfl, rfl, by rw [hlen]; exact hrm, hold⟩, ?_⟩
  have hB : ∀ x, x < size → rb (crS s fs) (base + x) = bk (crS s fs) (base + x) := fun x hx => rb_bk rfl rfl (by rw [hlen]; omega)
  have hrow : Row (rb (crS s fs)) base g rs 0 used 1 := h.row.same (fun x _ hx => by rw [hB x (by omega), hfar _ (Or.inl (by omega))])
  by_cases q : ∀ x, x < prt r.length → bk (crS s fs) (base + used + x) = jblk r x (rs.length + 1) g
  · right
    have hrow2 := hrow.app (r := r) (fun x hx => by
      rw [Nat.add_comm 1 rs.length, ← q x hx, show base + used + x = base + (used + x) by omega, hB _ (by omega)]) hl
    refine jread_row hrow2 hus (jrec_other (lt_eight hg) (fun hx => ?_))
    rw [hB _ hx, hfar _ (Or.inr (by omega))]
    have := h.old _ (by omega) hx
    omega
  · left
    refine jread_row hrow (by omega) ?_
    cases e : jrec (rb (crS s fs)) base size used (1 + rs.length) g with
    | none => rfl
    | some r2 =>
      exfalso
      obtain ⟨h1, h2⟩ := jrec_gen (lt_eight hg) e
      refine q (fun x hx => ?_)
      have h0 := h2 0 (by have := prt_pos (gt (rb (crS s fs) (base + used)) 104 4); omega)
      rw [Nat.add_zero, hB used h1] at h0
      have hz := hin 0 (by omega)
      rw [Nat.add_zero] at hz
      have e0 : bk (crS s fs) (base + used) = jblk r 0 (rs.length + 1) g := by
        rcases hz with z | z
        · exact z
        · omega
      have hln : gt (rb (crS s fs) (base + used)) 104 4 = r.length := by
        rw [hB used h1, e0]
        exact len_of (jblk_drop _ _ _ _) (by have : (256 : Nat) ^ 4 = 4294967296 := by decide
                                             omega)
      have hx2 := h2 x (by rw [hln]; exact hx)
      rw [show base + used + x = base + (used + x) by omega, hB _ (by omega)] at hx2
      rcases hin x hx with z | z
      · exact z
      · rw [show base + used + x = base + (used + x) by omega] at z; omega
theorem jrest_new {base size n : Nat} (h : base + size ≤ n) : JRest base size 0 (dNew n) := by
  refine ⟨okD_new n, rfl, rfl, by show _ ≤ (List.replicate n _).length; rw [List.length_replicate]; exact h, fun x hx => ?_⟩
  have e : bk (dNew n) (base + x) = List.replicate 128 0 := by
    show (List.replicate n (List.replicate 128 0)).getD (base + x) [] = _
    simp [List.getD, List.getElem?_replicate, show base + x < n by omega]
  rw [e, gt_zero]
  exact Nat.le_refl _
end Go.Proofs.YthnpdcblfocemaaDoor
