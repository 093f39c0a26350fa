/-
  Texts of this proof, joined: StStep StHelp SnAwake.
-/
import Derived.Test.YthnpdcblfocemaaGreatDoorSP03
import Derived.Test.YthnpdcblfocemaaGreatDoorSP13
import Derived.Test.YthnpdcblfocemaaGreatDoorSP15
import Derived.Laws.BytesArg
import Derived.Lib.SlBytesConst
set_option linter.unusedVariables false
set_option linter.unusedSimpArgs false
namespace Go.Proofs.YthnpdcblfocemaaGreatDoor
open Go.RowKit

def SD (V : Disk1) (S : Store1 V) (d q : Value) (room m : Nat) (s : Dsk) (j : Sst) : World → (Nat → Prop) → Prop := fun w A => ∃ F G : Nat → Prop, V.Dt w d F s ∧ S.St w q d G room m j ∧ (∀ k, F k → ¬ G k) ∧ A = fun k => F k ∨ G k
def SR (r : Value) (c g room m : Nat) (s : Dsk) (j : Sst) : World → (Nat → Prop) → Prop := fun w A => ∃ H : Nat → Prop, RD w r H s ∧ RS w c g r room m j ∧ ¬ H c ∧ ¬ H g ∧ A = fun k => H k ∨ k = c ∨ k = g
theorem sd_owns (V : Disk1) (S : Store1 V) (d q : Value) (room m : Nat) (s : Dsk) (j : Sst) : Owns (SD V S d q room m s j) where
  lt := by
    rintro w A ⟨F, G, h1, h2, h3, rfl⟩ k (hk | hk)
    · exact V.dtB h1 k hk
    · exact S.stB h2 k hk
  kept := by
    rintro w w' A ⟨F, G, h1, h2, h3, rfl⟩ hk hs
    exact ⟨F, G, V.dtK h1 (fun k q => hk k (Or.inl q)) hs, S.stK h2 (fun k q => hk k (Or.inr q)) hs, h3, rfl⟩
theorem sr_owns (r : Value) (c g room m : Nat) (s : Dsk) (j : Sst) : Owns (SR r c g room m s j) where
  lt := by
    rintro w A ⟨H, h1, h2, h3, h4, rfl⟩ k (hk | rfl | rfl)
    · exact h1.lt k hk
    · exact h2.lt
    · exact h2.j.lt
  kept := by
    rintro w w' A ⟨H, h1, h2, h3, h4, rfl⟩ hk hs
    exact ⟨H, h1.kept (fun k q => hk k (Or.inl q)) hs, h2.kept (hk c (Or.inr (Or.inl rfl))) (hk g (Or.inr (Or.inr rfl))), h3, h4, rfl⟩
structure SB (m room k : Nat) (j : Sst) : Prop where
  jb : JB (m - fb18 room) k j.j
  bg : j.bg = true → j.j.gen ≠ 0
theorem sb_new (m room : Nat) : SB m room 0 ⟨⟨0, 0, 0⟩, false⟩ := ⟨jb_new _, fun h => by cases h⟩
theorem SB.up {m room k k' : Nat} {j : Sst} (h : SB m room k j) (hk : k ≤ k') : SB m room k' j := ⟨h.jb.up hk, h.bg⟩
theorem sb_save {m room k : Nat} {j : Sst} (h : SB m room k j) (s : Dsk) (d : List Nat) : SB m room k (svS s room j d).2.2 := by
  unfold svS
  by_cases q : (svR s 0 room d).2.1 ≠ 0
  · rw [if_pos q]; exact ⟨h.jb, fun h => by cases h⟩
  · rw [if_neg q]
    have hn := svR_num (s := s) (at_ := 0) (room := room) (d := d) (by omega)
    exact ⟨⟨Nat.zero_le _, Nat.zero_le _, by show (svR s 0 room d).1 < _; omega⟩, fun _ => by show (svR s 0 room d).1 ≠ 0; omega⟩
theorem jwr_err (p : Nat) (r : List Nat) (n gen : Nat) : ∀ (k i : Nat) (s : Dsk), p + i + k ≤ s.bl.length → (jwr p r n gen k i s).1 = 0 ∨ (jwr p r n gen k i s).1 = 150 := by
  intro k
  induction k with
  | zero => intro i s _; exact Or.inl rfl
  | succ k ih =>
    intro i s hl
    have h1 := bl_wr s ((p + i : Nat) : Int) (jblk r i n gen)
    rw [jwr_next]
    by_cases q : wrE s ((p + i : Nat) : Int) (jblk r i n gen) ≠ 0
    · rw [if_pos q]
      right
      show wrE s ((p + i : Nat) : Int) (jblk r i n gen) = 150
      by_cases hd : s.dn = true
      · have a : dAsk s ((p + i : Nat) : Int) = 150 := by unfold dAsk; rw [if_pos hd]
        unfold wrE
        rw [a]
        rfl
      · obtain ⟨-, -, w3⟩ := wr_step (s := s) (i := p + i) (b := jblk r i n gen) (by simpa using hd) (by omega) (by rw [jblk_len]; omega)
        rcases w3 with w3 | w3
        · exact w3
        · exact absurd w3.1 q
    · rw [if_neg q]
      exact ih (i + 1) _ (by rw [h1.1]; omega)
theorem japp_err {s : Dsk} {base size : Nat} {j : Jst} {r : List Nat} (hr : base + size ≤ s.bl.length) (hn : j.next ≤ size) (hg : j.gen ≠ 0) (h : (japp s base size j r).1 ≠ 150) : (japp s base size j r).2.2.gen ≠ 0 := by
  unfold japp at h ⊢
  rw [if_neg hg] at h ⊢
  by_cases g2 : 262144 < r.length
  · rw [if_pos g2]; exact hg
  rw [if_neg g2] at h ⊢
  by_cases g3 : size - j.next < prt r.length
  · rw [if_pos g3]; exact hg
  rw [if_neg g3] at h ⊢
  by_cases g4 : (jput s base j r).1 ≠ 0
  · rw [if_pos g4] at h
    exfalso
    apply h
    show (jput s base j r).1 = 150
    unfold jput at g4 ⊢
    have e := jwr_err (base + j.next) r (j.n + 1) j.gen (prt r.length) 0 s (by omega)
    generalize jwr (base + j.next) r (j.n + 1) j.gen (prt r.length) 0 s = w at *
    unfold jfl at g4 ⊢
    by_cases g5 : w.1 ≠ 0
    · rw [if_pos g5]; rcases e with e | e
      · exact absurd e g5
      · exact e
    · rw [if_neg g5] at g4 ⊢
      have g6 : flE w.2 ≠ 0 := g4
      show flE w.2 = 150
      unfold flE at g6 ⊢
      by_cases d : w.2.dn = true
      · rw [if_pos d]
      · rw [if_neg d] at g6 ⊢
        by_cases o : dGo w.2 = true
        · rw [if_pos o] at g6; exact absurd rfl g6
        · rw [if_neg o]
  · rw [if_neg g4]; exact hg
theorem sb_app {m room k : Nat} {j : Sst} (h : SB m room k j) {s : Dsk} (hm : s.bl.length = m) (hr : fb18 room + 1 ≤ m) (r : List Nat) : SB m room (k + 1) (apS s room j r).2.2 := by
  unfold apS fz18
  by_cases q : j.bg = false
  · rw [if_pos q]; exact h.up (by omega)
  · rw [if_neg q, hm]
    have q2 : j.bg = true := by simpa using q
    have hb := jb_app (s := s) (base := fb18 room) h.jb r
    refine ⟨hb, fun e => ?_⟩
    have e2 : (if (japp s (fb18 room) (m - fb18 room) j.j r).1 = 150 then false else true) = true := e
    refine japp_err (by omega) h.jb.nx (h.bg q2) (fun e3 => ?_)
    rw [if_pos e3] at e2
    cases e2
theorem jq_save {m room : Nat} {s : Dsk} {j : Sst} {d : List Nat} (h : Jq m s) (hr : fb18 room + 1 ≤ m) (h50 : room ≤ 50) : Jq m (svS s room j d).2.1 := by
  have h2 := jq_sv (d := d) (at_ := 0) h (by unfold fb18 at hr; omega) h50
  unfold svS
  split
  · exact h2
  · exact h2
theorem jq_append {m room k : Nat} {s : Dsk} {j : Sst} {r : List Nat} (h : Jq m s) (hb : SB m room k j) (hr : fb18 room + 1 ≤ m) (hl : r.length ≤ 6000) : Jq m (apS s room j r).2.1 := by
  unfold apS fz18
  split
  · exact h
  · rw [h.bl]
    exact jq_app h hb.jb (by omega) r hl
theorem sdSave {V : Disk1} {S : Store1 V} {T : World → (Nat → Prop) → Prop} (oT : Owns T) {w0 w : World} {N : Nat → Prop} {d q : Value} {room m : Nat} {s : Dsk} {j : Sst} (h : P2 (SD V S d q room m s j) T w0 w N) (hT : S8 w0) (hq : Jq m s) (h1 : 1 ≤ room) (h50 : room ≤ 50) (hr : fb18 room + 1 ≤ m) (hm : m ≤ 900) {v : Value} {r : List Nat} (hv : Bs w v r) (ho : Ou w0.heap.size N v) (hx : ∀ x ∈ r, x < 256) (hl : r.length ≤ 100000) :
    Calls Tryz.prog 13 #[q, v] w fun e w' => e = .returned (.int .i64 (((svS s room j r).1 : Nat) : Int)) ∧ P2 (SD V S d q room m (svS s room j r).2.1 (svS s room j r).2.2) T w0 w' N ∧ Kn N w w' := by
  have hbe := h.bel
  obtain ⟨A, ⟨F, G, k1, k2, k3, rfl⟩, h4, h5, h6⟩ := h.left oT
  have a1 := hq.bl
  have a2 := hq.le
  refine (S.save w q d F G s room m j v r k2 k1 k3 (hT.later hbe) (fun k hk => ⟨fun e => by have := h4 k hk; have := old_lt hT.1; omega, fun e => by have := h4 k hk; have := hT.2.lt; omega⟩) a1 h1 (by omega) hr hm (by omega) hv (nf_ou ho (fun k hk => h4 k (Or.inl hk)) (fun k hk q => h5 k hk (Or.inl q))) (nf_ou ho (fun k hk => h4 k (Or.inr hk)) (fun k hk q => h5 k hk (Or.inr q))) hx hl).mono fun e w' ⟨e1, F', G', q1, q2, q3, q4, q5, q6⟩ => ⟨e1, h6 _ w' ⟨fun k => F' k ∨ G' k, ⟨F', G', q1, q2, q3, rfl⟩, fun k hk => ?_, q6⟩⟩
  rcases hk with hk | hk
  · rcases q4 k hk with e | e
    · exact Or.inl (Or.inl e)
    · exact Or.inr e
  · rcases q5 k hk with e | e
    · exact Or.inl (Or.inr e)
    · exact Or.inr e
theorem sdAppend {V : Disk1} {S : Store1 V} {T : World → (Nat → Prop) → Prop} (oT : Owns T) {w0 w : World} {N : Nat → Prop} {d q : Value} {room m k : Nat} {s : Dsk} {j : Sst} (h : P2 (SD V S d q room m s j) T w0 w N) (hT : S8 w0) (hq : Jq m s) (hb : SB m room k j) (hk : k ≤ 1000000) (hr : fb18 room + 1 ≤ m) (hm : m ≤ 900) {v : Value} {r : List Nat} (hv : Bs w v r) (ho : Ou w0.heap.size N v) (hx : ∀ x ∈ r, x < 256) (hl : r.length ≤ 1000000) :
    Calls Tryz.prog 11 #[q, v] w fun e w' => e = .returned (.int .i64 (((apS s room j r).1 : Nat) : Int)) ∧ P2 (SD V S d q room m (apS s room j r).2.1 (apS s room j r).2.2) T w0 w' N ∧ Kn N w w' := by
  have hbe := h.bel
  obtain ⟨A, ⟨F, G, k1, k2, k3, rfl⟩, h4, h5, h6⟩ := h.left oT
  have a1 := hq.bl
  have a2 := hq.le
  have a3 := hb.jb.n
  refine (S.append w q d F G s room m j v r k2 k1 k3 (hT.later hbe) (fun k hk => ⟨fun e => by have := h4 k hk; have := old_lt hT.1; omega, fun e => by have := h4 k hk; have := hT.2.lt; omega⟩) a1 hr hm (by omega) hb.jb.nx (by omega) hb.jb.gen hv (nf_ou ho (fun k hk => h4 k (Or.inl hk)) (fun k hk q => h5 k hk (Or.inl q))) (nf_ou ho (fun k hk => h4 k (Or.inr hk)) (fun k hk q => h5 k hk (Or.inr q))) hx hl).mono fun e w' ⟨e1, F', G', q1, q2, q3, q4, q5, q6⟩ => ⟨e1, h6 _ w' ⟨fun k => F' k ∨ G' k, ⟨F', G', q1, q2, q3, rfl⟩, fun k hk => ?_, q6⟩⟩
  rcases hk with hk | hk
  · rcases q4 k hk with e | e
    · exact Or.inl (Or.inl e)
    · exact Or.inr e
  · rcases q5 k hk with e | e
    · exact Or.inl (Or.inr e)
    · exact Or.inr e
theorem sdLeft {V : Disk1} {S : Store1 V} {T : World → (Nat → Prop) → Prop} (oT : Owns T) {w0 w : World} {N : Nat → Prop} {d q : Value} {room m k : Nat} {s : Dsk} {j : Sst} (h : P2 (SD V S d q room m s j) T w0 w N) (hq : Jq m s) (hb : SB m room k j) :
    Calls Tryz.prog 22 #[q] w fun e w' => e = .returned (.int .i64 ((if j.bg = false then 0 else (m - fb18 room) - j.j.next : Nat) : Int)) ∧ Below w.heap.size w w' := by
  obtain ⟨A, ⟨F, G, k1, k2, k3, rfl⟩, h4, h5, h6⟩ := h.left oT
  exact S.left w q d F G s room m j k2 k1 hq.bl hb.jb.nx hb.bg
theorem sdBegun {V : Disk1} {S : Store1 V} {T : World → (Nat → Prop) → Prop} (oT : Owns T) {w0 w : World} {N : Nat → Prop} {d q : Value} {room m : Nat} {s : Dsk} {j : Sst} (h : P2 (SD V S d q room m s j) T w0 w N) :
    Calls Tryz.prog 24 #[q] w fun e w' => e = .returned (.bool j.bg) ∧ Below w.heap.size w w' := by
  obtain ⟨A, ⟨F, G, k1, k2, k3, rfl⟩, h4, h5, h6⟩ := h.left oT
  exact S.begun w q d G room m j k2
theorem sdDisk {V : Disk1} {S : Store1 V} {T : World → (Nat → Prop) → Prop} (oT : Owns T) {w0 w : World} {N : Nat → Prop} {d q : Value} {room m : Nat} {s s' : Dsk} {j : Sst} {f : FuncId} {xs : Array Value} {K : Ending → Prop} (h : P2 (SD V S d q room m s j) T w0 w N) (hc : ∀ F : Nat → Prop, V.Dt w d F s → (∀ k, F k → w0.heap.size ≤ k) → (∀ k, N k → ¬ F k) → Calls Tryz.prog f xs w fun e w' => K e ∧ Ad V.Dt d F s' w w') :
    Calls Tryz.prog f xs w fun e w' => K e ∧ P2 (SD V S d q room m s' j) T w0 w' N ∧ Kn N w w' := by
  obtain ⟨A, ⟨F, G, h1, h2, h3, rfl⟩, h4, h5, h6⟩ := h.left oT
  refine (hc F h1 (fun k hk => h4 k (Or.inl hk)) (fun k hk q => h5 k hk (Or.inl q))).mono fun e w' ⟨e1, F', q1, q2, q3⟩ => ⟨e1, h6 _ w' ⟨fun k => F' k ∨ G k, ⟨F', G, q1, S.stK h2 (fun k hk => q3.block k (S.stB h2 k hk) (fun e => h3 k e hk)) q3.size, fun k hk hg => ?_, rfl⟩, fun k hk => ?_, q3.mono (fun _ h => Or.inl h)⟩⟩
  · rcases q2 k hk with e | e
    · exact h3 k e hg
    · have := S.stB h2 k hg; omega
  · rcases hk with hk | hk
    · rcases q2 k hk with e | e
      · exact Or.inl (Or.inl e)
      · exact Or.inr e
    · exact Or.inl (Or.inr hk)
theorem sdOpen {V : Disk1} {S : Store1 V} {T : World → (Nat → Prop) → Prop} (oT : Owns T) {w0 w : World} {N : Nat → Prop} {d q : Value} {room m : Nat} {s : Dsk} {j : Sst} (h : P2 (SD V S d q room m s j) T w0 w N) (hT : S8 w0) (hq : Jq m s) (h1 : 1 ≤ room) (h50 : room ≤ 50) (hr : fb18 room + 1 ≤ m) (hm : m ≤ 900) (hd : s.dn = false) :
    Calls Tryz.prog 7 #[d, .int .i64 (room : Int)] w fun e w' => ∃ (a : Addr) (vb vl : Value) (T2 : Nat → Prop), e = .returned (.tuple #[.pointer (some a), vb, vl, .int .i64 0]) ∧ P2 (SD V S d (.pointer (some a)) room m s ⟨⟨0, 0, 0⟩, false⟩) T w0 w' (fun k => N k ∨ T2 k) ∧ P2 (SD V S d q room m s j) T w0 w' (fun k => N k ∨ T2 k) ∧ (∀ k, T2 k → w.heap.size ≤ k ∧ k < w'.heap.size) ∧ (∀ w'' : World, (∀ k, T2 k → w''.heap[k]? = w'.heap[k]?) → Bs w'' vb (opB s room) ∧ Txs w'' vl (opL s room)) ∧ Below w.heap.size w w' := by
  have hbe := h.bel
  have hq0 := h
  obtain ⟨A, B, ⟨F, G, k1, k2, k3, rfl⟩, g2, g3, g4, g5, g6, g7⟩ := h
  have a1 := hq.bl
  have a2 := hq.le
  refine (S.openY w d F s room k1 (hT.later hbe) h1 (by omega) (by omega) (by omega) (by omega) hd).mono fun e w' ⟨a, G', vb, vl, e1, e2, e3, ⟨T2, cs, e4, e5⟩, e6⟩ => ⟨a, vb, vl, T2, e1, ⟨fun k => F k ∨ G' k, B, ⟨F, G', V.dtK k1 (fun k hk => e6.block k (V.dtB k1 k hk)) e6.size, by rw [← a1]; exact e2, fun k hf hg => ?_, rfl⟩, oT.later g2 e6, fun k hk => ?_, g4, fun k hk hb => ?_, fun k hk => ?_, bchain g7 e6⟩, (hq0.later (sd_owns V S d q room m s j) oT e6).weak (fun k hk => hk.imp id (fun q => ⟨(e4 k q).1, (e4 k q).2.1⟩)), fun k hk => ⟨(e4 k hk).1, (e4 k hk).2.1⟩, fun w'' hk => ⟨(e5 w'' hk).1, (e5 w'' hk).2.txs⟩, e6⟩
  · have := V.dtB k1 k hf; have := e3 k hg; omega
  · have := g7.size
    rcases hk with hk | hk
    · exact g3 k (Or.inl hk)
    · have := e3 k hk; omega
  · rcases hk with hk | hk
    · exact g5 k (Or.inl hk) hb
    · have := e3 k hk; have := oT.lt g2 k hb; omega
  · have hs := e6.size
    have hs7 := g7.size
    rcases hk with hk | hk
    · obtain ⟨x1, x2, x3, x4⟩ := g6 k hk
      refine ⟨fun q => ?_, x2, x3, by omega⟩
      rcases q with q | q
      · exact x1 (Or.inl q)
      · have := e3 k q; omega
    · obtain ⟨x1, x2, x3⟩ := e4 k hk
      refine ⟨fun q => ?_, fun q => ?_, by omega, x2⟩
      · rcases q with q | q
        · have := V.dtB k1 k q; omega
        · exact x3 q
      · have := oT.lt g2 k q; omega
theorem dwOpen {V : Disk1} (S : Store1 V) {w0 w : World} {d : Value} {s : Dsk} {m room : Nat} (h : Dw V w0 w d s) (hT : S8 w0) (hq : Jq m s) (h1 : 1 ≤ room) (h50 : room ≤ 50) (hr : fb18 room + 1 ≤ m) (hm : m ≤ 900) (hd : s.dn = false) :
    Calls Tryz.prog 7 #[d, .int .i64 (room : Int)] w fun e w' => ∃ a vb vl, e = .returned (.tuple #[.pointer (some a), vb, vl, .int .i64 0]) ∧ P2 (SD V S d (.pointer (some a)) room m s ⟨⟨0, 0, 0⟩, false⟩) Nil2 w0 w' (fun _ => False) ∧ Bs w' vb (opB s room) ∧ Txs w' vl (opL s room) ∧ Below w.heap.size w w' := by
  obtain ⟨F, k1, k2, k3⟩ := h
  have a1 := hq.bl
  have a2 := hq.le
  refine (S.openY w d F s room k1 (hT.later k3) h1 (by omega) (by omega) (by omega) (by omega) hd).mono fun e w' ⟨a, G', vb, vl, e1, e2, e3, e4, e6⟩ => ⟨a, vb, vl, e1, ⟨fun k => F k ∨ G' k, fun _ => False, ⟨F, G', V.dtK k1 (fun k hk => e6.block k (V.dtB k1 k hk)) e6.size, by rw [← a1]; exact e2, fun k hf hg => ?_, rfl⟩, fun k h => h.elim, fun k hk => ?_, fun k h => h.elim, fun k _ h => h.elim, fun k h => h.elim, bchain k3 e6⟩, e4.now.1, e4.now.2, e6⟩
  · have := V.dtB k1 k hf; have := e3 k hg; omega
  · have := k3.size
    rcases hk with hk | hk
    · exact k2 k hk
    · have := e3 k hk; omega
theorem sdDown {V : Disk1} {S : Store1 V} {T : World → (Nat → Prop) → Prop} (oT : Owns T) {w0 w : World} {N : Nat → Prop} {d q : Value} {room m : Nat} {s : Dsk} {j : Sst} (h : P2 (SD V S d q room m s j) T w0 w N) (hT : S8 w0) (hq : Jq m s) (h1 : 1 ≤ room) (h50 : room ≤ 50) (hr : fb18 room + 1 ≤ m) (hm : m ≤ 900) (hd : s.dn = true) :
    Calls Tryz.prog 7 #[d, .int .i64 (room : Int)] w fun e w' => ∃ vb vl, e = .returned (.tuple #[.pointer none, vb, vl, .int .i64 150]) ∧ Bs w' vb [] ∧ Txs w' vl [] ∧ P2 (SD V S d q room m s j) T w0 w' N ∧ Below w.heap.size w w' := by
  have hq0 := h
  obtain ⟨A, ⟨F, G, k1, k2, k3, rfl⟩, h4, h5, h6⟩ := h.left oT
  have a1 := hq.bl
  have a2 := hq.le
  exact (S.openD w d F s room k1 (hT.later hq0.bel) h1 (by omega) (by omega) (by omega) (by omega) hd).mono fun e w' ⟨vb, vl, e1, e2, e3, e4⟩ => ⟨vb, vl, e1, e2, e3, (hq0.later (sd_owns V S d q room m s j) oT e4).weak (fun k hk => Or.inl hk), e4⟩
theorem srSave {S : World → (Nat → Prop) → Prop} (oS : Owns S) {w0 w : World} {N : Nat → Prop} {r0 : Value} {c g room m : Nat} {s : Dsk} {j : Sst} (h : P2 S (SR r0 c g room m s j) w0 w N) (hq : Jq m s) (h1 : 1 ≤ room) (hr : fb18 room + 1 ≤ m) (hm : m ≤ 900) {v : Value} {r : List Nat} (hv : Bs w v r) (ho : Ou w0.heap.size N v) (hx : ∀ x ∈ r, x < 256) (hl : r.length ≤ 100000) :
    Calls Tryz.prog 14 #[.pointer (some ⟨c, 0, none⟩), v] w fun e w' => e = .returned (.int .i64 (((svS s room j r).1 : Nat) : Int)) ∧ P2 S (SR r0 c g room m (svS s room j r).2.1 (svS s room j r).2.2) w0 w' N ∧ Kn N w w' := by
  obtain ⟨A, ⟨H, k1, k2, k3, k4, rfl⟩, h4, h5, h6⟩ := h.swap.left oS
  have a1 := hq.bl
  have a2 := hq.le
  refine (refSave18 k2 k1 k3 k4 a1 h1 hr hm (by omega) v r hv (nf_ou ho (fun k hk => h4 k (Or.inl hk)) (fun k hk q => h5 k hk (Or.inl q))) (nf_ou ho (fun k hk => h4 k (Or.inr hk)) (fun k hk q => h5 k hk (Or.inr q))) hx hl).mono fun e w' ⟨e1, H', q1, q2, q3, q4⟩ => ?_
  have hc' : ¬ H' c := fun q => by
    rcases q2 c q with e | e
    · exact k3 e
    · have := k2.lt; omega
  have hg' : ¬ H' g := fun q => by
    rcases q2 g q with e | e
    · exact k4 e
    · have := k2.j.lt; omega
  obtain ⟨z1, z2⟩ := h6 (SR r0 c g room m (svS s room j r).2.1 (svS s room j r).2.2) w' ⟨fun k => H' k ∨ k = c ∨ k = g, ⟨H', q1, q3, hc', hg', rfl⟩, fun k hk => by
    rcases hk with hk | hk
    · rcases q2 k hk with e | e
      · exact Or.inl (Or.inl e)
      · exact Or.inr e
    · exact Or.inl (Or.inr hk), q4⟩
  exact ⟨e1, z1.swap, z2⟩
theorem srAppend {S : World → (Nat → Prop) → Prop} (oS : Owns S) {w0 w : World} {N : Nat → Prop} {r0 : Value} {c g room m k : Nat} {s : Dsk} {j : Sst} (h : P2 S (SR r0 c g room m s j) w0 w N) (hq : Jq m s) (hb : SB m room k j) (hk : k ≤ 1000000) (hr : fb18 room + 1 ≤ m) (hm : m ≤ 900) {v : Value} {r : List Nat} (hv : Bs w v r) (ho : Ou w0.heap.size N v) (hx : ∀ x ∈ r, x < 256) (hl : r.length ≤ 1000000) :
    Calls Tryz.prog 12 #[.pointer (some ⟨c, 0, none⟩), v] w fun e w' => e = .returned (.int .i64 (((apS s room j r).1 : Nat) : Int)) ∧ P2 S (SR r0 c g room m (apS s room j r).2.1 (apS s room j r).2.2) w0 w' N ∧ Kn N w w' := by
  obtain ⟨A, ⟨H, k1, k2, k3, k4, rfl⟩, h4, h5, h6⟩ := h.swap.left oS
  have a1 := hq.bl
  have a2 := hq.le
  have a3 := hb.jb.n
  refine (refAppend18 k2 k1 k3 k4 a1 hr hm (by omega) hb.jb.nx (by omega) hb.jb.gen v r hv (nf_ou ho (fun k hk => h4 k (Or.inl hk)) (fun k hk q => h5 k hk (Or.inl q))) hx hl).mono fun e w' ⟨e1, H', q1, q2, q3, q4⟩ => ?_
  have hc' : ¬ H' c := fun q => by
    rcases q2 c q with e | e
    · exact k3 e
    · have := k2.lt; omega
  have hg' : ¬ H' g := fun q => by
    rcases q2 g q with e | e
    · exact k4 e
    · have := k2.j.lt; omega
  obtain ⟨z1, z2⟩ := h6 (SR r0 c g room m (apS s room j r).2.1 (apS s room j r).2.2) w' ⟨fun k => H' k ∨ k = c ∨ k = g, ⟨H', q1, q3, hc', hg', rfl⟩, fun k hk => by
    rcases hk with hk | hk
    · rcases q2 k hk with e | e
      · exact Or.inl (Or.inl e)
      · exact Or.inr e
    · exact Or.inl (Or.inr hk), q4⟩
  exact ⟨e1, z1.swap, z2⟩
theorem srLeft {S : World → (Nat → Prop) → Prop} (oS : Owns S) {w0 w : World} {N : Nat → Prop} {r0 : Value} {c g room m k : Nat} {s : Dsk} {j : Sst} (h : P2 S (SR r0 c g room m s j) w0 w N) (hm : m ≤ 900) (hb : SB m room k j) :
    Calls Tryz.prog 23 #[.pointer (some ⟨c, 0, none⟩)] w fun e w' => e = .returned (.int .i64 ((if j.bg = false then 0 else (m - fb18 room) - j.j.next : Nat) : Int)) ∧ Below w.heap.size w w' := by
  obtain ⟨A, ⟨H, k1, k2, k3, k4, rfl⟩, h4, h5, h6⟩ := h.swap.left oS
  exact refLeft18 k2 hm hb.jb.nx
theorem srDisk {S : World → (Nat → Prop) → Prop} (oS : Owns S) {w0 w : World} {N : Nat → Prop} {r0 : Value} {c g room m : Nat} {s s' : Dsk} {j : Sst} {f : FuncId} {xs : Array Value} {K : Ending → Prop} (h : P2 S (SR r0 c g room m s j) w0 w N) (hc : ∀ F : Nat → Prop, RD w r0 F s → (∀ k, F k → w0.heap.size ≤ k) → (∀ k, N k → ¬ F k) → Calls Tryz.prog f xs w fun e w' => K e ∧ Ad RD r0 F s' w w') :
    Calls Tryz.prog f xs w fun e w' => K e ∧ P2 S (SR r0 c g room m s' j) w0 w' N ∧ Kn N w w' := by
  obtain ⟨A, ⟨H, h1, h2, h3, h33, rfl⟩, h4, h5, h6⟩ := h.swap.left oS
  refine (hc H h1 (fun k hk => h4 k (Or.inl hk)) (fun k hk q => h5 k hk (Or.inl q))).mono fun e w' ⟨e1, H', q1, q2, q3⟩ => ?_
  have hc' : ¬ H' c := fun q => by
    rcases q2 c q with e | e
    · exact h3 e
    · have := h2.lt; omega
  have hg' : ¬ H' g := fun q => by
    rcases q2 g q with e | e
    · exact h33 e
    · have := h2.j.lt; omega
  obtain ⟨z1, z2⟩ := h6 (SR r0 c g room m s' j) w' ⟨fun k => H' k ∨ k = c ∨ k = g, ⟨H', q1, h2.kept (q3.block c h2.lt h3) (q3.block g h2.j.lt h33), hc', hg', rfl⟩, fun k hk => by
    rcases hk with hk | hk
    · rcases q2 k hk with e | e
      · exact Or.inl (Or.inl e)
      · exact Or.inr e
    · exact Or.inl (Or.inr hk), q3.mono (fun _ h => Or.inl h)⟩
  exact ⟨e1, z1.swap, z2⟩
theorem srOpen {S : World → (Nat → Prop) → Prop} (oS : Owns S) {w0 w : World} {N : Nat → Prop} {r0 : Value} {c g room m : Nat} {s : Dsk} {j : Sst} (h : P2 S (SR r0 c g room m s j) w0 w N) (hq : Jq m s) (h1 : 1 ≤ room) (hr : fb18 room + 1 ≤ m) (hm : m ≤ 900) :
    Calls Tryz.prog 10 #[r0, .int .i64 (room : Int)] w fun e w' => ∃ c' g' vb vl, e = .returned (.tuple #[.pointer (some ⟨c', 0, none⟩), vb, vl]) ∧ P2 S (SR r0 c' g' room m s ⟨⟨0, 0, 0⟩, false⟩) w0 w' N ∧ Bs w' vb (opB s room) ∧ Txs w' vl (opL s room) ∧ Below w.heap.size w w' := by
  obtain ⟨A, B, g1, ⟨H, k1, k2, k3, k4, rfl⟩, g3, g4, g5, g6, g7⟩ := h
  have a1 := hq.bl
  have a2 := hq.le
  refine (refOpen18 k1 room h1 (by omega) (by omega) (by omega)).mono fun e w' ⟨c', g', vb, vl, e1, e2, e3, e4, e5, e6, e7⟩ => ⟨c', g', vb, vl, e1, ⟨A, fun k => H k ∨ k = c' ∨ k = g', oS.later g1 e7, ⟨H, k1.later e7, by rw [← a1]; exact e2, fun q => ?_, fun q => ?_, rfl⟩, g3, fun k hk => ?_, fun k hk hb => ?_, fun k hk => ?_, bchain g7 e7⟩, e5, e6, e7⟩
  · have := k1.lt _ q; omega
  · have := k1.lt _ q; omega
  · have := g7.size
    rcases hk with hk | rfl | rfl
    · exact g4 k (Or.inl hk)
    · omega
    · omega
  · have := oS.lt g1 k hk
    rcases hb with hb | rfl | rfl
    · exact g5 k hk (Or.inl hb)
    · omega
    · omega
  · obtain ⟨x1, x2, x3, x4⟩ := g6 k hk
    have hs := e7.size
    refine ⟨x1, fun q => ?_, x3, by omega⟩
    rcases q with q | rfl | rfl
    · exact x2 (Or.inl q)
    · omega
    · omega
theorem P2.sdw {V : Disk1} {S : Store1 V} {T : World → (Nat → Prop) → Prop} {w0 w : World} {N : Nat → Prop} {d q : Value} {room m : Nat} {s : Dsk} {j : Sst} (h : P2 (SD V S d q room m s j) T w0 w N) : Dw V w0 w d s := by
  obtain ⟨A, B, ⟨F, G, h1, h2, h3, rfl⟩, -, h4, -, -, -, h5⟩ := h
  exact ⟨F, h1, fun k hk => h4 k (Or.inl hk), h5⟩
theorem P2.sd2 {V : Disk1} {S : Store1 V} {w0 w : World} {d q r : Value} {c g room m room' m' : Nat} {s t : Dsk} {j jt : Sst} {N : Nat → Prop} (h : P2 (SD V S d q room m s j) (SR r c g room' m' t jt) w0 w N) : D2 V w0 w d r s t N := by
  obtain ⟨A, B, ⟨F, G, h1, h2, h3, rfl⟩, ⟨H, g1, g2, g3, g33, rfl⟩, h4, h5, h6, h7, h8⟩ := h
  exact ⟨F, H, h1, g1, fun k hk => h4 k (Or.inl hk), fun k hk => h5 k (Or.inl hk), fun k hk hh => h6 k (Or.inl hk) (Or.inl hh), fun k hk => ⟨fun q => (h7 k hk).1 (Or.inl q), fun q => (h7 k hk).2.1 (Or.inl q), (h7 k hk).2.2⟩, h8⟩
end Go.Proofs.YthnpdcblfocemaaGreatDoor
set_option linter.unusedVariables false
set_option linter.unusedSimpArgs false
namespace Go.Proofs.YthnpdcblfocemaaGreatDoor
open Go.RowKit

set_option maxRecDepth 100000 in
set_option maxHeartbeats 8000000 in
theorem fates18 (v : Value) (fs : List (Int × Int)) (hl : fs.length ≤ 1000) (w : World) (h : Fts w v fs) :
    Calls Tryz.prog 19 #[v] w fun e w' => ∃ v', e = .returned v' ∧ Fts w' v' fs ∧ Ow w.heap.size v' ∧ Below w.heap.size w w' := by
  have HL : Hid (Fts w v fs) := h
  obtain ⟨ad, cap, rfl, k1, k2⟩ := h.len
  unfold maxLen at k2
  obtain ⟨i0, hti, hy0, hy1, hy2⟩ := info_parts dinfo_ft
  obtain ⟨n, hn⟩ : ∃ n, fs.length = n := ⟨_, rfl⟩
  have HN : Hid (fs.length = n ∧ n ≤ 1000) := ⟨hn, by omega⟩
  rw [hn] at k1 HL ⊢
  clear h hn hl
  go_enter Tryz.func19, Tryz.ntmps19
  go_upto_region 3 with fail
  go_loopw [3, 8] (fun s3 s8 wr => ∃ j : Nat, j ≤ n ∧ s8 = .int .i64 (j : Int) ∧ Hid (wr.ownsRow w.heap.size 101 2 s3 j (ftc (fs.take j)) ∧ Below w.heap.size w wr)) (fun _ s8 _ => n - (intOf s8).toNat)
  case atStart => exact ⟨0, by omega, rfl, World.ownsRow_nil _ _ _ _, Below.refl _ _⟩
  case round =>
    obtain ⟨j, hj, rfl, HW⟩ := hrel
    by_cases hlt : j < n
    · have hjI : (j : Int) < (n : Int) := by omega
      have hj0 : (0 : Int) ≤ (j : Int) := by omega
      have hjm : j < fs.length := by have := HN.out; omega
      obtain ⟨bf, of, rfl, c0, c1⟩ := HL.out.cel j hjm
      have x0 := cell_later HW.out.2 c0
      have x1 := cell_later HW.out.2 c1
      have HS := hid5 (fs_more hjm)
      obtain ⟨f, hf⟩ : ∃ f, fs.getD j (0, 0) = f := ⟨_, rfl⟩
      rw [hf] at x0 x1 HS
      obtain ⟨f1, f2⟩ := f
      dsimp only at x0 x1
      clear c0 c1 hf hjm
      go_upto_region 6 with (at_builtin; refine wpList_append_own _ rfl _ _ 48 rfl w.heap.size 101 i0 (.agg #[.int .i64 0, .int .i64 0]) 2 16 Tryz.underlying48 hti hy0 hy1 hy2 rfl (by decide) u3 j (ftc (fs.take j)) rfl ((own_later (own_later HW.out.1 (bel1 _ _)) (bel1 _ _))) ⟨wr.heap.size + 1, 0, none⟩ 1 1 [.int .i64 f1, .int .i64 f2] (by first | rfl | (simp [World.size_alloc]; done)) rfl (fun k u hk => by (rcases k with _ | _ | k <;> simp at hk <;> (try subst hk) <;> simp [go_sem, Addr.add])) (fun u hu => by simp only [List.mem_cons, List.not_mem_nil, or_false] at hu; rcases hu with rfl | rfl <;> rfl) (by have := HN.out; unfold maxLen; omega) (by have := HN.out; omega) (by rw [World.size_alloc, World.size_alloc]; have := HW.out.2.size; omega) ?_; intro v3 w3 hown hg3 _)
      have HW3 : Hid (w3.ownsRow w.heap.size 101 2 v3 (j + 1) (ftc (fs.take (j + 1))) ∧ Below w.heap.size w w3) := by
        refine ⟨by rw [← HS.out, ftc_app]; exact hown, ?_⟩
        exact (((HW.out.2.alloc HW.out.2.size _).alloc (by rw [World.size_alloc]; have := HW.out.2.size; omega) _)).grown hg3 (by rw [World.size_alloc, World.size_alloc]; have := HW.out.2.size; omega) (fun k hk => (HW.out.1.lt k hk).1)
      clear hown hg3 HW HS x0 x1
      go_wp2
      go_roundw
      case rel => exact ⟨j + 1, by omega, by go_num, HW3⟩
      case measure => simp [intOf]; omega
    · obtain rfl : j = n := by omega
      have hjI : ¬ (j : Int) < (j : Int) := by omega
      have HE : Hid (Fts wr u3 fs ∧ Ow w.heap.size u3) := by
        have h1 := HW.out.1
        rw [List.take_of_length_le (by have := HN.out; omega)] at h1
        have e := HN.out.1
        rw [← e] at h1
        exact own_fts h1
      go_wp2
      go_ret
      exact ⟨_, rfl, HE.out.1, HE.out.2, HW.out.2⟩

def Fev18 (os : List Opv) : Prop := os.length ≤ 60 ∧ ∀ j, j < os.length → (os.getD j op0).b.length ≤ 1000 ∧ (os.getD j op0).fs.length ≤ 40
def FwF18 (os : List Opv) (w : World) (e : Ending) (w' : World) : Prop := ∃ B : Bool, e = .returned (.bool B) ∧ (B = true → Fev18 os) ∧ Below w.heap.size w w'
theorem FwF18.no {os : List Opv} {w w' : World} (hb : Below w.heap.size w w') : FwF18 os w (.returned (.bool false)) w' := ⟨false, rfl, (fun q => by cases q), hb⟩
theorem FwF18.yes {os : List Opv} {w w' : World} (h : Fev18 os) (hb : Below w.heap.size w w') : FwF18 os w (.returned (.bool true)) w' := ⟨true, rfl, fun _ => h, hb⟩
set_option maxRecDepth 100000 in
set_option maxHeartbeats 8000000 in
theorem few18 (v : Value) (os : List Opv) (w : World) (h : Ops w v os) :
    Calls Tryz.prog 5 #[v] w fun e w' => FwF18 os w e w' := by
  have HL : Hid (Ops w v os) := h
  obtain ⟨ad, cap, rfl, k1, k2⟩ := h.len
  unfold maxLen at k2
  obtain ⟨m, hm⟩ : ∃ m, os.length = m := ⟨_, rfl⟩
  have HM : Hid (os.length = m) := hm
  rw [hm] at k1 HL ⊢
  clear h hm
  go_enter Tryz.func5, Tryz.ntmps5
  by_cases q1 : 60 < m
  · have q1I : (60 : Int) < (m : Int) := by omega
    go_wp2
    go_ret
    exact FwF18.no (Below.refl _ _)
  have q1I : ¬ (60 : Int) < (m : Int) := by omega
  go_upto_region 4 with fail
  go_loopw [10] (fun s10 wr => ∃ j : Nat, j ≤ m ∧ s10 = .int .i64 (j : Int) ∧ Hid (∀ k, k < j → (os.getD k op0).b.length ≤ 1000 ∧ (os.getD k op0).fs.length ≤ 40) ∧ Hid (Below w.heap.size w wr)) (fun s10 _ => m - (intOf s10).toNat)
  case atStart => exact ⟨0, by omega, rfl, fun k hk => by omega, Below.refl _ _⟩
  case round =>
    obtain ⟨j, hj, rfl, HF, HB⟩ := hrel
    by_cases hlt : j < m
    · have hjI : (j : Int) < (m : Int) := by omega
      have hM := HM.out
      obtain ⟨b, o, vb, vf, rfl, c0, c1, c2, c3, hB, hF⟩ := HL.out.cel j (by omega)
      obtain ⟨a1, p1, rfl, -, -⟩ := hB.len
      obtain ⟨a2, p2, rfl, -, -⟩ := hF.len
      have x0 := cell_later HB.out c0
      have x1 := cell_later HB.out c1
      have x2 := cell_later HB.out c2
      have x3 := cell_later HB.out c3
      have HF2 : Hid ((os.getD j op0).b.length ≤ 1000 → (os.getD j op0).fs.length ≤ 40 → ∀ k, k < j + 1 → (os.getD k op0).b.length ≤ 1000 ∧ (os.getD k op0).fs.length ≤ 40) := fun h1 h2 k hk => by
        by_cases e : k = j
        · subst e; exact ⟨h1, h2⟩
        · exact HF.out k (by omega)
      have HB2 : Hid (∀ ob : Obj, Below w.heap.size w (wr.alloc ob)) := fun ob => bchain HB.out (bel1 _ _)
      clear c0 c1 c2 c3 hB hF hM HF HB
      generalize (os.getD j op0).k = kk at *
      generalize (os.getD j op0).i = ii at *
      generalize (os.getD j op0).b.length = nb at *
      generalize (os.getD j op0).fs.length = nf at *
      by_cases q2 : 1000 < nb
      · have q2I : (1000 : Int) < (nb : Int) := by omega
        go_wp2
        go_ret
        exact FwF18.no (HB2.out _)
      have q2I : ¬ (1000 : Int) < (nb : Int) := by omega
      by_cases q3 : 40 < nf
      · have q3I : (40 : Int) < (nf : Int) := by omega
        go_wp2
        go_ret
        exact FwF18.no (HB2.out _)
      have q3I : ¬ (40 : Int) < (nf : Int) := by omega
      have HF3 := HF2.out (by omega) (by omega)
      have HF4 : Hid (∀ k, k < j + 1 → (os.getD k op0).b.length ≤ 1000 ∧ (os.getD k op0).fs.length ≤ 40) := HF3
      clear HF2 HF3
      go_wp2
      go_roundw
      case rel => exact ⟨j + 1, by omega, by go_num, HF4, HB2.out _⟩
      case measure => simp [intOf]; omega
    · obtain rfl : j = m := by omega
      have hjI : ¬ (j : Int) < (j : Int) := by omega
      have HP : Hid (Fev18 os) := ⟨by have := HM.out; omega, fun k hk => HF.out k (by have := HM.out; omega)⟩
      go_wp2
      go_ret
      exact FwF18.yes HP.out HB.out
set_option maxRecDepth 100000 in
set_option maxHeartbeats 8000000 in
theorem texts18 (va vb : Value) (xs ys : List (List Nat)) (w : World) (ha : Txs w va xs) (hb : Txs w vb ys) :
    Calls Tryz.prog 21 #[va, vb] w fun e w' => e = .returned (.bool (decide (xs = ys))) ∧ Below w.heap.size w w' := by
  have HA : Hid (Txs w va xs ∧ Txs w vb ys) := ⟨ha, hb⟩
  obtain ⟨aa, ca, rfl, a1, a2⟩ := ha.len
  obtain ⟨ab, cb, rfl, b1, b2⟩ := hb.len
  unfold maxLen at a2 b2
  obtain ⟨n, hn⟩ : ∃ n, xs.length = n := ⟨_, rfl⟩
  obtain ⟨m, hm⟩ : ∃ m, ys.length = m := ⟨_, rfl⟩
  have HN : Hid (xs.length = n ∧ ys.length = m) := ⟨hn, hm⟩
  rw [hn, hm] at HA
  rw [hn] at a1 ⊢
  rw [hm] at b1 ⊢
  clear ha hb hn hm
  go_enter Tryz.func21, Tryz.ntmps21
  by_cases q1 : n = m
  · subst q1
    have q1I : (n : Int) = (n : Int) := rfl
    go_upto_region 4 with fail
    go_loopw [14] (fun s14 wr => ∃ j : Nat, j ≤ n ∧ s14 = .int .i64 (j : Int) ∧ Hid (Below w.heap.size w wr ∧ ∀ k, k < j → xs.getD k [] = ys.getD k [])) (fun s14 _ => n - (intOf s14).toNat)
    case atStart => exact ⟨0, by omega, rfl, Below.refl _ _, fun k hk => by omega⟩
    case round =>
      obtain ⟨j, hj, rfl, HB⟩ := hrel
      by_cases hlt : j < n
      · have hjI : (j : Int) < (n : Int) := by omega
        have hj0 : (0 : Int) ≤ (j : Int) := by omega
        obtain ⟨b1, o1, x, rfl, c1, hx⟩ := HA.out.1.cel j (by have := HN.out.1; omega)
        obtain ⟨b2, o2, y, rfl, c2, hy⟩ := HA.out.2.cel j (by have := HN.out.2; omega)
        have z1 := cell_later HB.out.1 c1
        have z2 := cell_later HB.out.1 c2
        have HXY : Hid (Bs wr x (xs.getD j []) ∧ Bs wr y (ys.getD j [])) := ⟨hx.later HB.out.1, hy.later HB.out.1⟩
        obtain ⟨ax, px, ex, -, -⟩ := hx.len
        obtain ⟨ay, py, ey, -, -⟩ := hy.len
        subst ex ey
        clear hx hy c1 c2
        have HS : Hid (∀ k, k < j → xs.getD k [] = ys.getD k []) := HB.out.2
        obtain ⟨X, hX⟩ : ∃ X, xs.getD j [] = X := ⟨_, rfl⟩
        obtain ⟨Y, hY⟩ : ∃ Y, ys.getD j [] = Y := ⟨_, rfl⟩
        rw [hX, hY] at HXY
        rw [hX] at z1
        rw [hY] at z2
        have HXe : Hid (xs.getD j [] = X ∧ ys.getD j [] = Y) := ⟨hX, hY⟩
        clear hX hY
        generalize X.length = L1 at *
        generalize Y.length = L2 at *
        go_wp2_with fail
        refine (sameB _ _ _ _ wr HXY.out.1 HXY.out.2).mono ?_
        rintro e w2 ⟨rfl, hW2⟩
        have HB2 : Hid (Below w.heap.size w w2) := bchain HB.out.1 hW2
        clear hW2 z1 z2
        by_cases he : X = Y
        · rw [decide_eq_true he]
          have HS2 : Hid (Below w.heap.size w w2 ∧ ∀ k, k < j + 1 → xs.getD k [] = ys.getD k []) := ⟨HB2.out, fun k hk => by
            by_cases e : k = j
            · subst e; rw [HXe.out.1, HXe.out.2, he]
            · exact HS.out k (by omega)⟩
          go_wp2_with fail
          go_roundw
          case rel => exact ⟨j + 1, by omega, by first | rfl | go_num, HS2⟩
          case measure => simp only [intOf]; omega
        · rw [decide_eq_false he]
          have HF : Hid (decide (xs = ys) = false) := decide_eq_false (fun e => he (by rw [← HXe.out.1, ← HXe.out.2, e]))
          go_wp2_with fail
          go_ret
          rw [HF.out]
          exact ⟨rfl, HB2.out⟩
      · obtain rfl : j = n := by omega
        have hjI : ¬ (j : Int) < (j : Int) := by omega
        have HF : Hid (decide (xs = ys) = true) := by
          refine decide_eq_true (List.ext_getElem (by have := HN.out; omega) (fun k h1 h2 => ?_))
          have := HB.out.2 k (by have := HN.out.1; omega)
          simpa [List.getD, h1, h2] using this
        go_wp2_with fail
        go_ret
        rw [HF.out]
        exact ⟨rfl, HB.out.1⟩
  · have q1I : ¬ (n : Int) = (m : Int) := by omega
    have HF : Hid (decide (xs = ys) = false) := by
      show _ = _
      refine decide_eq_false (fun e => q1 ?_)
      have := HN.out
      rw [e] at this
      omega
    go_wp2_with fail
    go_ret
    rw [HF.out]
    exact ⟨rfl, Below.refl _ _⟩
end Go.Proofs.YthnpdcblfocemaaGreatDoor
set_option linter.unusedVariables false
set_option linter.unusedSimpArgs false
namespace Go.Proofs.YthnpdcblfocemaaGreatDoor
open Go.RowKit
theorem bs_letter (w : World) (x : Nat) (t : TypeId) (fr : Nat × Nat) : Bs (w.alloc (.cells #[.int .u8 (x : Int)] t fr)) (.slice (some ⟨w.heap.size, 0, none⟩) 1 1) [x] :=
  ⟨_, 1, w.heap.size, 0, rfl, Nat.le_refl _, ⟨by unfold maxLen; omega, fun e => by cases e⟩, fun _ => rfl, fun k hk => by
    have hk0 : k < 1 := hk
    obtain rfl : k = 0 := by omega
    rw [Nat.zero_add, World.cell?_alloc_mark]
    rfl⟩
theorem ow_here {B : Nat} {b o n cap : Nat} (h : B ≤ b) : Ow B (.slice (some ⟨b, o, none⟩) n cap) := fun a n c e hn => by cases e; exact h
end Go.Proofs.YthnpdcblfocemaaGreatDoor
