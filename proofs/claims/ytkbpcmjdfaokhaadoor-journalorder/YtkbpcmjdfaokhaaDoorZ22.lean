/-
Layer 17: each call, with the program's journal and with the document's.
Layer 15: the law's fates; bytes that are spoilt.
Layer 17: the law's fates, few, same and texts.
-/
import Derived.Test.YtkbpcmjdfaokhaaDoorZ21
import Derived.Test.YtkbpcmjdfaokhaaDoorZ04
import Derived.Laws.AppendOwn

set_option linter.unusedVariables false
set_option linter.unusedSimpArgs false
namespace Go.Proofs.YtkbpcmjdfaokhaaDoor
open Go.RowKit

theorem jdAppend {V : Disk1} {J : Jour1 V} {T : World → (Nat → Prop) → Prop} (oT : Owns T) {w0 w : World} {N : Nat → Prop} {d q : Value} {base size m k : Nat} {s : Dsk} {j : Jst} (h : P2 (JD V J d q base size s j) T w0 w N) (hT : JT w0) (hq : Jq m s) (hb : JB size k j) (hr : base + size ≤ m) (hm : m ≤ 900) (hk : k ≤ 1000000) {v : Value} {r : List Nat} (hv : Bs w v r) (ho : Ou w0.heap.size N v) (hx : ∀ x ∈ r, x < 256) (hl : r.length ≤ 1000000) :
    Calls Tryd.prog 18 #[q, v] w fun e w' => e = .returned (.int .i64 (((japp s base size j r).1 : Nat) : Int)) ∧ P2 (JD V J d q base size (japp s base size j r).2.1 (japp s base size j r).2.2) T w0 w' N ∧ Kn N w w' := by
  have hB0 := h.bel
  obtain ⟨A, ⟨F, G, h1, h2, h3, rfl⟩, h4, h5, h6⟩ := h.left oT
  have a1 := hq.bl
  have a2 := hq.le
  have a3 := hb.n
  refine (J.append w q d F G s base size j v r h2 h1 h3 (hT.later hB0) (fun k hk e => by have := h4 k (Or.inl hk); have := hT.lt; omega) (fun k hk e => by have := h4 k (Or.inr hk); have := hT.lt; omega) (by omega) (by omega) (by omega) hb.nx (by omega) hb.gen hv (nf_ou ho (fun k hk => h4 k (Or.inl hk)) (fun k hk q => h5 k hk (Or.inl q))) (nf_ou ho (fun k hk => h4 k (Or.inr hk)) (fun k hk q => h5 k hk (Or.inr q))) hx hl).mono fun e w' ⟨e1, F', G', q1, q2, q3, q4, q5, q6⟩ => ⟨e1, h6 _ w' ⟨fun k => F' k ∨ G' k, ⟨F', G', q1, q2, q3, rfl⟩, fun k hk => ?_, q6⟩⟩
  rcases hk with hk | hk
  · rcases q4 k hk with e | e
    · exact Or.inl (Or.inl e)
    · exact Or.inr e
  · rcases q5 k hk with e | e
    · exact Or.inl (Or.inr e)
    · exact Or.inr e
theorem jrAppend {S : World → (Nat → Prop) → Prop} (oS : Owns S) {w0 w : World} {N : Nat → Prop} {r0 : Value} {c base size m k : Nat} {s : Dsk} {j : Jst} (h : P2 S (JR r0 c base size s j) w0 w N) (hq : Jq m s) (hb : JB size k j) (hr : base + size ≤ m) (hm : m ≤ 900) (hk : k ≤ 1000000) {v : Value} {r : List Nat} (hv : Bs w v r) (ho : Ou w0.heap.size N v) (hx : ∀ x ∈ r, x < 256) (hl : r.length ≤ 1000000) :
    Calls Tryd.prog 23 #[.pointer (some ⟨c, 0, none⟩), v] w fun e w' => e = .returned (.int .i64 (((japp s base size j r).1 : Nat) : Int)) ∧ P2 S (JR r0 c base size (japp s base size j r).2.1 (japp s base size j r).2.2) w0 w' N ∧ Kn N w w' := by
  obtain ⟨A, ⟨H, h1, h2, h3, rfl⟩, h4, h5, h6⟩ := h.swap.left oS
  have a1 := hq.bl
  have a2 := hq.le
  have a3 := hb.n
  refine (refAppend17 h2 h1 h3 (by omega) hb.nx (by omega) (fun hd => by rw [hq.un hd]; simp; omega) v r hv hx hl (nf_ou ho (fun k hk => h4 k (Or.inl hk)) (fun k hk q => h5 k hk (Or.inl q))) (by omega) hb.gen).mono fun e w' ⟨e1, H', q1, q2, q3, q4⟩ => ?_
  have hnc : ¬ H' c := fun hc => by
    rcases q2 c hc with e | e
    · exact h3 e
    · have := h2.lt; omega
  obtain ⟨z1, z2⟩ := h6 (JR r0 c base size (japp s base size j r).2.1 (japp s base size j r).2.2) w' ⟨fun k => H' k ∨ k = c, ⟨H', q1, q3, hnc, rfl⟩, fun k hk => by
    rcases hk with hk | hk
    · rcases q2 k hk with e | e
      · exact Or.inl (Or.inl e)
      · exact Or.inr e
    · exact Or.inl (Or.inr hk), q4⟩
  exact ⟨e1, z1.swap, z2⟩
theorem jdRead {V : Disk1} {J : Jour1 V} {T : World → (Nat → Prop) → Prop} (oT : Owns T) {w0 w : World} {N : Nat → Prop} {d q : Value} {base size m : Nat} {s : Dsk} {j : Jst} (h : P2 (JD V J d q base size s j) T w0 w N) (hT : JT w0) (hq : Jq m s) (hr : base + size ≤ m) (hm : m ≤ 900) (gen : Int) (hg : Bd64 gen) :
    Calls Tryd.prog 16 #[q, .int .i64 gen] w fun e w' => ∃ v, e = .returned (.tuple #[v, .int .i64 ((rdE17 s gen : Nat) : Int)]) ∧ Txs w' v (rdL17 s base size gen) ∧ Below w.heap.size w w' := by
  have hB0 := h.bel
  obtain ⟨A, ⟨F, G, h1, h2, h3, rfl⟩, h4, h5, h6⟩ := h.left oT
  have a1 := hq.bl
  have a2 := hq.le
  exact J.read w q d F G s base size j gen h2 h1 h3 (hT.later hB0) (by omega) (by omega) (by omega) hg
theorem jrRead {S : World → (Nat → Prop) → Prop} (oS : Owns S) {w0 w : World} {N : Nat → Prop} {r0 : Value} {c base size m : Nat} {s : Dsk} {j : Jst} (h : P2 S (JR r0 c base size s j) w0 w N) (hq : Jq m s) (hr : base + size ≤ m) (hm : m ≤ 900) (gen : Int) (hg : Bd64 gen) :
    Calls Tryd.prog 24 #[.pointer (some ⟨c, 0, none⟩), .int .i64 gen] w fun e w' => ∃ v, e = .returned (.tuple #[v, .int .i64 ((rdE17 s gen : Nat) : Int)]) ∧ Txs w' v (rdL17 s base size gen) ∧ Below w.heap.size w w' := by
  obtain ⟨A, ⟨H, h1, h2, h3, rfl⟩, h4, h5, h6⟩ := h.swap.left oS
  have a1 := hq.bl
  have a2 := hq.le
  exact (refRead17 h2 h1 (by omega) (by omega) (by omega) gen (by have := hg.2; omega)).mono fun e w' ⟨v, e1, e2, e3⟩ => ⟨v, e1, e2.txs, e3⟩
theorem jdBegin {V : Disk1} {J : Jour1 V} {T : World → (Nat → Prop) → Prop} (oT : Owns T) {w0 w : World} {N : Nat → Prop} {d q : Value} {base size : Nat} {s : Dsk} {j : Jst} (h : P2 (JD V J d q base size s j) T w0 w N) (gen : Int) (hg : Bd64 gen) :
    Calls Tryd.prog 17 #[q, .int .i64 gen] w fun e w' => e = .returned (.int .i64 ((if gen < 1 then 2 else 0 : Nat) : Int)) ∧ P2 (JD V J d q base size s (if gen < 1 then j else ⟨gen.toNat, 0, 0⟩)) T w0 w' N ∧ Kn N w w' := by
  obtain ⟨A, ⟨F, G, h1, h2, h3, rfl⟩, h4, h5, h6⟩ := h.left oT
  refine (J.begin w q d F G s base size j gen h2 h1 h3 hg).mono fun e w' ⟨e1, G', q2, q3, q4⟩ => ⟨e1, h6 _ w' ⟨fun k => F k ∨ G' k, ⟨F, G', V.dtK h1 (fun k hk => q4.block k (V.dtB h1 k hk) (fun q => h3 k hk q)) q4.size, q2, fun k hk hg => ?_, rfl⟩, fun k hk => ?_, q4.mono (fun _ h => Or.inr h)⟩⟩
  · rcases q3 k hg with e | e
    · exact h3 k hk e
    · have := V.dtB h1 k hk; omega
  · rcases hk with hk | hk
    · exact Or.inl (Or.inl hk)
    · rcases q3 k hk with e | e
      · exact Or.inl (Or.inr e)
      · exact Or.inr e
theorem jrBegin {S : World → (Nat → Prop) → Prop} (oS : Owns S) {w0 w : World} {N : Nat → Prop} {r0 : Value} {c base size : Nat} {s : Dsk} {j : Jst} (h : P2 S (JR r0 c base size s j) w0 w N) (gen : Int) (hg : Bd64 gen) :
    Calls Tryd.prog 25 #[.pointer (some ⟨c, 0, none⟩), .int .i64 gen] w fun e w' => e = .returned (.int .i64 ((if gen < 1 then 2 else 0 : Nat) : Int)) ∧ P2 S (JR r0 c base size s (if gen < 1 then j else ⟨gen.toNat, 0, 0⟩)) w0 w' N ∧ Kn N w w' := by
  obtain ⟨A, ⟨H, h1, h2, h3, rfl⟩, h4, h5, h6⟩ := h.swap.left oS
  refine (refBegin17 h2 gen (by have := hg.2; omega)).mono fun e w' ⟨e1, q2, q3⟩ => ?_
  obtain ⟨z1, z2⟩ := h6 (JR r0 c base size s (if gen < 1 then j else ⟨gen.toNat, 0, 0⟩)) w' ⟨fun k => H k ∨ k = c, ⟨H, h1.kept (fun k hk => q3.block k (h1.lt k hk) (fun e => h3 (e ▸ hk))) q3.size, q2, h3, rfl⟩, fun k hk => Or.inl hk, q3.mono (fun _ h => Or.inr h)⟩
  exact ⟨e1, z1.swap, z2⟩
/-- A call of the disk alone: the program's. -/
theorem jdDisk {V : Disk1} {J : Jour1 V} {T : World → (Nat → Prop) → Prop} (oT : Owns T) {w0 w : World} {N : Nat → Prop} {d q : Value} {base size : Nat} {s s' : Dsk} {j : Jst} {f : FuncId} {xs : Array Value} {K : Ending → Prop} (h : P2 (JD V J d q base size s j) T w0 w N) (hc : ∀ F : Nat → Prop, V.Dt w d F s → (∀ k, F k → w0.heap.size ≤ k) → (∀ k, N k → ¬ F k) → Calls Tryd.prog f xs w fun e w' => K e ∧ Ad V.Dt d F s' w w') :
    Calls Tryd.prog f xs w fun e w' => K e ∧ P2 (JD V J d q base size s' j) T w0 w' N ∧ Kn N w w' := by
  obtain ⟨A, ⟨F, G, h1, h2, h3, rfl⟩, h4, h5, h6⟩ := h.left oT
  exact (hc F h1 (fun k hk => h4 k (Or.inl hk)) (fun k hk q => h5 k hk (Or.inl q))).mono fun e w' ⟨e1, e2⟩ => ⟨e1, h6 _ w' (jd_disk h2 h3 e2)⟩
/-- The document's. -/
theorem jrDisk {S : World → (Nat → Prop) → Prop} (oS : Owns S) {w0 w : World} {N : Nat → Prop} {r0 : Value} {c base size : Nat} {s s' : Dsk} {j : Jst} {f : FuncId} {xs : Array Value} {K : Ending → Prop} (h : P2 S (JR r0 c base size s j) w0 w N) (hc : ∀ F : Nat → Prop, RD w r0 F s → (∀ k, F k → w0.heap.size ≤ k) → (∀ k, N k → ¬ F k) → Calls Tryd.prog f xs w fun e w' => K e ∧ Ad RD r0 F s' w w') :
    Calls Tryd.prog f xs w fun e w' => K e ∧ P2 S (JR r0 c base size s' j) w0 w' N ∧ Kn N w w' := by
  obtain ⟨A, ⟨H, h1, h2, h3, rfl⟩, h4, h5, h6⟩ := h.swap.left oS
  refine (hc H h1 (fun k hk => h4 k (Or.inl hk)) (fun k hk q => h5 k hk (Or.inl q))).mono fun e w' ⟨e1, e2⟩ => ?_
  obtain ⟨z1, z2⟩ := h6 _ w' (jr_disk h2 h3 e2)
  exact ⟨e1, z1.swap, z2⟩
end Go.Proofs.YtkbpcmjdfaokhaaDoor
set_option linter.unusedVariables false
set_option linter.unusedSimpArgs false
namespace Go.Proofs.YtkbpcmjdfaokhaaDoor
open Go.RowKit

/-- Fates as cells. -/
def ftc : List (Int × Int) → List Value
  | [] => []
  | f :: fs => .int .i64 f.1 :: .int .i64 f.2 :: ftc fs
theorem ftc_app (a b : List (Int × Int)) : ftc (a ++ b) = ftc a ++ ftc b := by
  induction a with
  | nil => rfl
  | cons f fs ih => simp only [List.cons_append, ftc, ih]
theorem ftc_at : ∀ (fs : List (Int × Int)) (j : Nat), j < fs.length → (ftc fs)[j * 2]? = some (.int .i64 (fs.getD j (0, 0)).1) ∧ (ftc fs)[j * 2 + 1]? = some (.int .i64 (fs.getD j (0, 0)).2) := by
  intro fs
  induction fs with
  | nil => intro j hj; simp at hj
  | cons f fs ih =>
    intro j hj
    cases j with
    | zero => exact ⟨rfl, rfl⟩
    | succ j =>
      have h := ih j (by simpa using hj)
      have e1 : (j + 1) * 2 = j * 2 + 1 + 1 := by omega
      refine ⟨?_, ?_⟩
      · rw [e1]; simpa [ftc, List.getD] using h.1
      · rw [show (j + 1) * 2 + 1 = j * 2 + 1 + 1 + 1 by omega]; simpa [ftc, List.getD] using h.2
theorem own_fts {w : World} {base : Nat} {T : TypeId} {v : Value} {fs : List (Int × Int)} (h : w.ownsRow base T 2 v fs.length (ftc fs)) : Fts w v fs ∧ Ow base v := by
  rcases id h.2 with ⟨rfl, h0⟩ | ⟨g, c, cur, rfl, hg, hh, hc1, hc2, r⟩
  · have e : fs = [] := List.eq_nil_of_length_eq_zero h0
    subst e
    exact ⟨fts_nil w, fun a n cap e => by cases e⟩
  · refine ⟨⟨_, c, g, 0, rfl, hc1, hc2, fun _ => rfl, fun j hj => ?_⟩, fun a n cap e hn => by cases e; exact hg⟩
    obtain ⟨e1, e2⟩ := ftc_at fs j hj
    rw [Nat.zero_add]
    exact ⟨(h.cellAt (j * 2) (by omega)).trans e1, (h.cellAt (j * 2 + 1) (by omega)).trans e2⟩
theorem dinfo_ft : (Tryd.prog.info? 112).map (fun i => (i.zero, i.size, i.bytes)) = some (some (.agg #[.int .i64 0, .int .i64 0]), 2, 16) := by kernel_rfl
theorem fs_more {fs : List (Int × Int)} {j : Nat} (hj : j < fs.length) : fs.take j ++ [fs.getD j (0, 0)] = fs.take (j + 1) := by
  rw [List.take_add_one]
  congr 1
  simp [List.getD, hj]
end Go.Proofs.YtkbpcmjdfaokhaaDoor
set_option linter.unusedVariables false
set_option linter.unusedSimpArgs false
namespace Go.Proofs.YtkbpcmjdfaokhaaDoor
open Go.RowKit

/-- The disks of both sides alone. -/
theorem P2.d2 {V : Disk1} {J : Jour1 V} {w0 w : World} {d q r : Value} {c base size b2 z2 : Nat} {s t : Dsk} {j jt : Jst} {N : Nat → Prop} (h : P2 (JD V J d q base size s j) (JR r c b2 z2 t jt) w0 w N) : D2 V w0 w d r s t N := by
  obtain ⟨A, B, ⟨F, G, h1, h2, h3, rfl⟩, ⟨H, g1, g2, g3, rfl⟩, h4, h5, h6, h7, h8⟩ := h
  exact ⟨F, H, h1, g1, fun k hk => h4 k (Or.inl hk), fun k hk => h5 k (Or.inl hk), fun k hk hh => h6 k (Or.inl hk) (Or.inl hh), fun k hk => ⟨fun q => (h7 k hk).1 (Or.inl q), fun q => (h7 k hk).2.1 (Or.inl q), (h7 k hk).2.2⟩, h8⟩
set_option maxRecDepth 100000 in
set_option maxHeartbeats 8000000 in
theorem fates17 (v : Value) (fs : List (Int × Int)) (hl : fs.length ≤ 1000) (w : World) (h : Fts w v fs) :
    Calls Tryd.prog 28 #[v] w fun e w' => ∃ v', e = .returned v' ∧ Fts w' v' fs ∧ Ow w.heap.size v' ∧ Below w.heap.size w w' := by
  have HL : Hid (Fts w v fs) := h
  obtain ⟨ad, cap, rfl, k1, k2⟩ := h.len
  unfold maxLen at k2
  obtain ⟨i0, hti, hy0, hy1, hy2⟩ := info_parts dinfo_ft
  obtain ⟨n, hn⟩ : ∃ n, fs.length = n := ⟨_, rfl⟩
  have HN : Hid (fs.length = n ∧ n ≤ 1000) := ⟨hn, by omega⟩
  rw [hn] at k1 HL ⊢
  clear h hn hl
  go_enter Tryd.func28, Tryd.ntmps28
  go_upto_region 3 with fail
  go_loopw [3, 8] (fun s3 s8 wr => ∃ j : Nat, j ≤ n ∧ s8 = .int .i64 (j : Int) ∧ Hid (wr.ownsRow w.heap.size 112 2 s3 j (ftc (fs.take j)) ∧ Below w.heap.size w wr)) (fun _ s8 _ => n - (intOf s8).toNat)
  case atStart => exact ⟨0, by omega, rfl, World.ownsRow_nil _ _ _ _, Below.refl _ _⟩
  case round =>
    obtain ⟨j, hj, rfl, HW⟩ := hrel
    by_cases hlt : j < n
    · have hjI : (j : Int) < (n : Int) := by omega
      have hj0 : (0 : Int) ≤ (j : Int) := by omega
      have hjm : j < fs.length := by have := HN.out; omega
      obtain ⟨bf, of, rfl, c0, c1⟩ := HL.out.cel j hjm
      have x0 := cell_later HW.out.2 c0
      have x1 := cell_later HW.out.2 c1
      have HS := hid5 (fs_more hjm)
      obtain ⟨f, hf⟩ : ∃ f, fs.getD j (0, 0) = f := ⟨_, rfl⟩
      rw [hf] at x0 x1 HS
      obtain ⟨f1, f2⟩ := f
      dsimp only at x0 x1
      clear c0 c1 hf hjm
      go_upto_region 6 with (at_builtin; refine wpList_append_own _ rfl _ _ 79 rfl w.heap.size 112 i0 (.agg #[.int .i64 0, .int .i64 0]) 2 16 Tryd.underlying79 hti hy0 hy1 hy2 rfl (by decide) u3 j (ftc (fs.take j)) rfl ((own_later (own_later HW.out.1 (bel1 _ _)) (bel1 _ _))) ⟨wr.heap.size + 1, 0, none⟩ 1 1 [.int .i64 f1, .int .i64 f2] (by first | rfl | (simp [World.size_alloc]; done)) rfl (fun k u hk => by (rcases k with _ | _ | k <;> simp at hk <;> (try subst hk) <;> simp [go_sem, Addr.add])) (fun u hu => by simp only [List.mem_cons, List.not_mem_nil, or_false] at hu; rcases hu with rfl | rfl <;> rfl) (by have := HN.out; unfold maxLen; omega) (by have := HN.out; omega) (by rw [World.size_alloc, World.size_alloc]; have := HW.out.2.size; omega) ?_; intro v3 w3 hown hg3 _)
      have HW3 : Hid (w3.ownsRow w.heap.size 112 2 v3 (j + 1) (ftc (fs.take (j + 1))) ∧ Below w.heap.size w w3) := by
        refine ⟨by rw [← HS.out, ftc_app]; exact hown, ?_⟩
        exact (((HW.out.2.alloc HW.out.2.size _).alloc (by rw [World.size_alloc]; have := HW.out.2.size; omega) _)).grown hg3 (by rw [World.size_alloc, World.size_alloc]; have := HW.out.2.size; omega) (fun k hk => (HW.out.1.lt k hk).1)
      clear hown hg3 HW HS x0 x1
      go_wp2
      go_roundw
      case rel => exact ⟨j + 1, by omega, by go_num, HW3⟩
      case measure => simp [intOf]; omega
    · obtain rfl : j = n := by omega
      have hjI : ¬ (j : Int) < (j : Int) := by omega
      have HE : Hid (Fts wr u3 fs ∧ Ow w.heap.size u3) := by
        have h1 := HW.out.1
        rw [List.take_of_length_le (by have := HN.out; omega)] at h1
        have e := HN.out.1
        rw [← e] at h1
        exact own_fts h1
      go_wp2
      go_ret
      exact ⟨_, rfl, HE.out.1, HE.out.2, HW.out.2⟩

/-- So few that a play goes through with them. -/
def Fev17 (os : List Opv) : Prop := os.length ≤ 60 ∧ ∀ j, j < os.length → (os.getD j op0).b.length ≤ 1000 ∧ (os.getD j op0).fs.length ≤ 40
/-- What few answers. -/
def FwF17 (os : List Opv) (w : World) (e : Ending) (w' : World) : Prop := ∃ B : Bool, e = .returned (.bool B) ∧ (B = true → Fev17 os) ∧ Below w.heap.size w w'
theorem FwF17.no {os : List Opv} {w w' : World} (hb : Below w.heap.size w w') : FwF17 os w (.returned (.bool false)) w' := ⟨false, rfl, (fun q => by cases q), hb⟩
theorem FwF17.yes {os : List Opv} {w w' : World} (h : Fev17 os) (hb : Below w.heap.size w w') : FwF17 os w (.returned (.bool true)) w' := ⟨true, rfl, fun _ => h, hb⟩
set_option maxRecDepth 100000 in
set_option maxHeartbeats 8000000 in
theorem few17 (v : Value) (os : List Opv) (w : World) (h : Ops w v os) :
    Calls Tryd.prog 8 #[v] w fun e w' => FwF17 os w e w' := by
  have HL : Hid (Ops w v os) := h
  obtain ⟨ad, cap, rfl, k1, k2⟩ := h.len
  unfold maxLen at k2
  obtain ⟨m, hm⟩ : ∃ m, os.length = m := ⟨_, rfl⟩
  have HM : Hid (os.length = m) := hm
  rw [hm] at k1 HL ⊢
  clear h hm
  go_enter Tryd.func8, Tryd.ntmps8
  by_cases q1 : 60 < m
  · have q1I : (60 : Int) < (m : Int) := by omega
    go_wp2
    go_ret
    exact FwF17.no (Below.refl _ _)
  have q1I : ¬ (60 : Int) < (m : Int) := by omega
  go_upto_region 4 with fail
  go_loopw [10] (fun s10 wr => ∃ j : Nat, j ≤ m ∧ s10 = .int .i64 (j : Int) ∧ Hid (∀ k, k < j → (os.getD k op0).b.length ≤ 1000 ∧ (os.getD k op0).fs.length ≤ 40) ∧ Hid (Below w.heap.size w wr)) (fun s10 _ => m - (intOf s10).toNat)
  case atStart => exact ⟨0, by omega, rfl, fun k hk => by omega, Below.refl _ _⟩
  case round =>
    obtain ⟨j, hj, rfl, HF, HB⟩ := hrel
    by_cases hlt : j < m
    · have hjI : (j : Int) < (m : Int) := by omega
      have hM := HM.out
      obtain ⟨b, o, vb, vf, rfl, c0, c1, c2, c3, hB, hF⟩ := HL.out.cel j (by omega)
      obtain ⟨a1, p1, rfl, -, -⟩ := hB.len
      obtain ⟨a2, p2, rfl, -, -⟩ := hF.len
      have x0 := cell_later HB.out c0
      have x1 := cell_later HB.out c1
      have x2 := cell_later HB.out c2
      have x3 := cell_later HB.out c3
      have HF2 : Hid ((os.getD j op0).b.length ≤ 1000 → (os.getD j op0).fs.length ≤ 40 → ∀ k, k < j + 1 → (os.getD k op0).b.length ≤ 1000 ∧ (os.getD k op0).fs.length ≤ 40) := fun h1 h2 k hk => by
        by_cases e : k = j
        · subst e; exact ⟨h1, h2⟩
        · exact HF.out k (by omega)
      have HB2 : Hid (∀ ob : Obj, Below w.heap.size w (wr.alloc ob)) := fun ob => bchain HB.out (bel1 _ _)
      clear c0 c1 c2 c3 hB hF hM HF HB
      generalize (os.getD j op0).k = kk at *
      generalize (os.getD j op0).i = ii at *
      generalize (os.getD j op0).b.length = nb at *
      generalize (os.getD j op0).fs.length = nf at *
      by_cases q2 : 1000 < nb
      · have q2I : (1000 : Int) < (nb : Int) := by omega
        go_wp2
        go_ret
        exact FwF17.no (HB2.out _)
      have q2I : ¬ (1000 : Int) < (nb : Int) := by omega
      by_cases q3 : 40 < nf
      · have q3I : (40 : Int) < (nf : Int) := by omega
        go_wp2
        go_ret
        exact FwF17.no (HB2.out _)
      have q3I : ¬ (40 : Int) < (nf : Int) := by omega
      have HF3 := HF2.out (by omega) (by omega)
      have HF4 : Hid (∀ k, k < j + 1 → (os.getD k op0).b.length ≤ 1000 ∧ (os.getD k op0).fs.length ≤ 40) := HF3
      clear HF2 HF3
      go_wp2
      go_roundw
      case rel => exact ⟨j + 1, by omega, by go_num, HF4, HB2.out _⟩
      case measure => simp [intOf]; omega
    · obtain rfl : j = m := by omega
      have hjI : ¬ (j : Int) < (j : Int) := by omega
      have HP : Hid (Fev17 os) := ⟨by have := HM.out; omega, fun k hk => HF.out k (by have := HM.out; omega)⟩
      go_wp2
      go_ret
      exact FwF17.yes HP.out HB.out
set_option maxRecDepth 100000 in
set_option maxHeartbeats 8000000 in
theorem same17 {V : Disk1} {w0 w : World} {d r : Value} {s : Dsk} {N : Nat → Prop} (h : D2 V w0 w d r s s N) (hbl : s.bl.length ≤ 1000) :
    Calls Tryd.prog 14 #[d, r] w fun e w' => e = .returned (.bool true) ∧ Below w.heap.size w w' := by
  have HD : Hid (D2 V w0 w d r s s N) := h
  obtain ⟨br, vB, vU, cs, ds, G2, er, hR⟩ := h.ref
  obtain ⟨aB, pB, rfl⟩ := hR.sB
  subst er
  have z0 := hR.c0
  obtain ⟨nb, hnb⟩ : ∃ nb, s.bl.length = nb := ⟨_, rfl⟩
  have HNb : Hid (s.bl.length = nb) := hnb
  rw [hnb] at z0 hR hbl
  have HR : Hid (∃ vU cs ds G, Rd5 w br (.slice aB nb pB) vU cs ds G s) := ⟨_, _, _, _, hR⟩
  clear h hR hnb
  go_enter Tryd.func14, Tryd.ntmps14
  go_upto_region 2 with fail
  go_loopw [14] (fun s14 wr => ∃ j : Nat, j ≤ nb ∧ s14 = .int .i64 (j : Int) ∧ Hid (Below w.heap.size w wr)) (fun s14 _ => nb - (intOf s14).toNat)
  case atStart => exact ⟨0, by omega, rfl, Below.refl _ _⟩
  case round =>
    obtain ⟨j, hj, rfl, HB⟩ := hrel
    by_cases hlt : j < nb
    · have hjI : (j : Int) < (nb : Int) := by omega
      have hjB : j < s.bl.length := by have := HNb.out; omega
      have HDr : Hid (D2 V w0 wr d (.pointer (some ⟨br, 0, none⟩)) s s (fun _ => False)) := (HD.out.later HB.out).weak (fun k hk => hk.elim)
      obtain ⟨vU, cs, ds, G, hR⟩ := HR.out
      have hR := hR.later HB.out
      obtain ⟨gB, xo, eB, co, -, tx, -⟩ := hR.atB j hjB
      subst eB
      obtain ⟨T, hT⟩ : ∃ T, s.bl.getD j [] = T := ⟨_, rfl⟩
      have HT : Hid (s.bl.getD j [] = T) := hT
      have tx1 := tx.1
      rw [hT] at tx1
      obtain ⟨ax, px, ex, -, -⟩ := tx1.len
      subst ex
      have HX : Hid (Bs wr (.slice ax T.length px) T) := tx1
      clear hR tx tx1 hT
      generalize T.length = L at *
      go_wp2_with fail
      refine (d2Safe HDr.out j hjB).mono ?_
      rintro e t2 ⟨v2, rfl, hB2, hO2, hW2⟩
      rw [HT.out] at hB2
      have HX2 : Hid (Bs t2 v2 T ∧ Bs t2 (.slice ax L px) T ∧ Below w.heap.size w t2) := ⟨hB2, HX.out.later hW2, bchain HB.out hW2⟩
      obtain ⟨a2, p2, rfl, -, -⟩ := hB2.len
      clear hB2 hO2 hW2 HX HDr
      generalize T.length = L2 at *
      go_wp2_with fail
      refine (sameB _ _ _ _ t2 HX2.out.1 HX2.out.2.1).mono ?_
      rintro e t3 ⟨rfl, hW3⟩
      rw [decide_eq_true (rfl : T = T)]
      have HB3 : Hid (Below w.heap.size w t3) := bchain HX2.out.2.2 hW3
      clear hW3 HX2 co
      go_wp2
      go_roundw
      case rel => exact ⟨j + 1, by omega, by first | rfl | go_num, HB3⟩
      case measure => simp only [intOf]; omega
    · obtain rfl : j = nb := by omega
      have hjI : ¬ (j : Int) < (j : Int) := by omega
      have z4 : wr.cell? ⟨br, 4, none⟩ = some (.bool s.dn) := by
        obtain ⟨vU, cs, ds, G, hR⟩ := HR.out
        exact (hR.later HB.out).c4
      go_upto_region 8 with fail
      have HDr : Hid (D2 V w0 wr.drew d (.pointer (some ⟨br, 0, none⟩)) s s (fun _ => False) ∧ Below w.heap.size w wr.drew) := ⟨(HD.out.later (HB.out.drew)).weak (fun k hk => hk.elim), HB.out.drew⟩
      refine wp_region_held_drew (S := fun W => W.cell? ⟨br, 4, none⟩ = some (.bool s.dn)) (by kernel_rfl) z4 (fun HS => ?_)
      clear z0 z4
      generalize wr.drew = q0 at *
      refine wpAnyH_take (i := 0) (v := ?v1) rfl (by kernel_rfl) (by kernel_rfl) (by kernel_rfl) (fun _ _ _ h => h) (Or.inl ⟨by kernel_rfl, ?h1⟩) HS ?r1
      case h1 => (rintro w n0; go_simp) <;> with_reducible rfl
      try simp only [Act.put, List.getElem_toArray, List.getElem_cons_succ, List.getElem_cons_zero, List.setIfInBounds_toArray, List.set_cons_zero, List.set_cons_succ]
      refine wpAnyH_take (i := 2) (v := ?v2) rfl (by kernel_rfl) (by kernel_rfl) (by kernel_rfl) (fun _ _ _ h => h) (Or.inl ⟨by kernel_rfl, ?h2⟩) HS ?r2
      case h2 => (rintro w n0; go_simp) <;> with_reducible rfl
      try simp only [Act.put, List.getElem_toArray, List.getElem_cons_succ, List.getElem_cons_zero, List.setIfInBounds_toArray, List.set_cons_zero, List.set_cons_succ]
      refine wpAnyH_take (i := 3) (v := ?v3) rfl (by kernel_rfl) (by kernel_rfl) (by kernel_rfl) (fun _ _ _ h => h) (Or.inl ⟨by kernel_rfl, ?h3⟩) HS ?r3
      case h3 => (rintro w n0; go_simp) <;> with_reducible rfl
      try simp only [Act.put, List.getElem_toArray, List.getElem_cons_succ, List.getElem_cons_zero, List.setIfInBounds_toArray, List.set_cons_zero, List.set_cons_succ]
      refine wpAnyH_take (i := 4) (v := ?v4) rfl (by kernel_rfl) (by kernel_rfl) (by kernel_rfl) (fun _ _ _ h => h) (Or.inl ⟨by kernel_rfl, ?h4⟩) HS ?r4
      case h4 => (rintro w n0; go_simp) <;> with_reducible rfl
      try simp only [Act.put, List.getElem_toArray, List.getElem_cons_succ, List.getElem_cons_zero, List.setIfInBounds_toArray, List.set_cons_zero, List.set_cons_succ]
      refine wpAnyH_take (i := 5) (v := ?v5) rfl (by kernel_rfl) (by kernel_rfl) (by kernel_rfl) (fun _ _ _ h => h) (Or.inl ⟨by kernel_rfl, ?h5⟩) HS ?r5
      case h5 => (rintro w n0; go_simp) <;> with_reducible rfl
      try simp only [Act.put, List.getElem_toArray, List.getElem_cons_succ, List.getElem_cons_zero, List.setIfInBounds_toArray, List.set_cons_zero, List.set_cons_succ]
      refine wpAnyH_ready (rs := [1]) (by kernel_rfl) (by simp) ?_
      refine AllReadyH.cons rfl (fun K hK => ?_) AllReadyH.nil
      go_simp
      refine (d2Down HDr.out.1).mono ?_
      rintro e q1 ⟨rfl, hW⟩
      have HB2 : Hid (Below w.heap.size w q1) := bchain HDr.out.2 hW
      refine hK.out _ _ (cell_later hW HS) (fun HS => ?_)
      clear hK K hW HDr
      generalize s.dn = dn at *
      try simp only [Act.put, List.getElem_toArray, List.getElem_cons_succ, List.getElem_cons_zero, List.setIfInBounds_toArray, List.set_cons_zero, List.set_cons_succ]
      have hdn : (dn == dn) = true := by simp
      refine wpAnyH_take (i := 6) (v := ?v6) rfl (by kernel_rfl) (by kernel_rfl) (by kernel_rfl) (fun _ _ _ h => h) (Or.inl ⟨by kernel_rfl, ?h6⟩) HS ?r6
      case h6 => (rintro w n0; go_simp) <;> with_reducible rfl
      try simp only [Act.put, List.getElem_toArray, List.getElem_cons_succ, List.getElem_cons_zero, List.setIfInBounds_toArray, List.set_cons_zero, List.set_cons_succ]
      refine wpAnyH_take (i := 7) (v := ?v7) rfl (by kernel_rfl) (by kernel_rfl) (by kernel_rfl) (fun _ _ _ h => h) (Or.inl ⟨by kernel_rfl, ?h7⟩) HS ?r7
      case h7 => (rintro w n0; go_simp) <;> with_reducible rfl
      try simp only [Act.put, List.getElem_toArray, List.getElem_cons_succ, List.getElem_cons_zero, List.setIfInBounds_toArray, List.set_cons_zero, List.set_cons_succ]
      refine wpAnyH_done (by kernel_rfl) ?_ _
      clear HS
      go_wp2
      go_ret
      exact ⟨rfl, HB2.out⟩
end Go.Proofs.YtkbpcmjdfaokhaaDoor
