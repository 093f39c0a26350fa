/-
  Texts of this proof, joined: JnRefC JnRefD.
-/
import Derived.Test.YthnpdcblfocemaaGreatDoorSP08
import Derived.Test.YthnpdcblfocemaaGreatDoorSP09
import Derived.Test.YthnpdcblfocemaaGreatDoorSP10
set_option linter.unusedVariables false
set_option linter.unusedSimpArgs false
namespace Go.Proofs.YthnpdcblfocemaaGreatDoor
open Go.RowKit

theorem jrec_room {B : Nat → List Nat} {base size at_ n gen : Nat} {r : List Nat} (hB : ∀ x, x < base + size → (B x).length = 128) (h : jrec B base size at_ n gen = some r) : at_ + prt r.length ≤ size ∧ r.length ≤ 262144 := by
  unfold jrec at h
  by_cases h1 : size ≤ at_
  · rw [if_pos h1] at h; cases h
  rw [if_neg h1] at h
  generalize gt (B (base + at_)) 104 4 = m at h
  by_cases h2 : 262144 < m ∨ size - at_ < prt m
  · rw [if_pos h2] at h; cases h
  rw [if_neg h2] at h
  have hl : (jall B (base + at_) m).length = m := by
    unfold jall
    rw [List.length_take, jal_len (fun i hi => hB _ (by omega))]
    have := prt_room m
    omega
  split at h
  · injection h with h
    rw [← h, hl]
    omega
  · cases h
def rdE17 (s : Dsk) (gen : Int) : Nat := if gen < 1 then 2 else if s.dn = true then 150 else 0
def rdL17 (s : Dsk) (base size : Nat) (gen : Int) : List (List Nat) := if gen < 1 then [] else if s.dn = true then [] else jread (rb s) base size gen.toNat
set_option maxRecDepth 100000 in
set_option maxHeartbeats 8000000 in
theorem refRead17 {w : World} {c : Nat} {p : Value} {F : Nat → Prop} {s : Dsk} {base size : Nat} {j : Jst} (hJ : RJ w c p base size j) (hD : RD w p F s) (hr : base + size ≤ s.bl.length) (hbl : s.bl.length ≤ 20000) (hu : s.un.length ≤ 100000) (gen : Int) (hg : gen < 9223372036854775808) :
    Calls Tryz.prog 30 #[.pointer (some ⟨c, 0, none⟩), .int .i64 gen] w fun e w' => ∃ v, e = .returned (.tuple #[v, .int .i64 ((rdE17 s gen : Nat) : Int)]) ∧ TxO w.heap.size w' v (rdL17 s base size gen) ∧ Below w.heap.size w w' := by
  have hp : ∃ b, p = .pointer (some ⟨b, 0, none⟩) ∧ w.cell? ⟨b, 4, none⟩ = some (.bool s.dn) := by
    obtain ⟨b, _, _, _, _, rfl, h, _⟩ := hD
    exact ⟨b, rfl, h.c4⟩
  obtain ⟨b, rfl, c4⟩ := hp
  have c0 := hJ.c0
  have HJ : Hid (RJ w c (.pointer (some ⟨b, 0, none⟩)) base size j ∧ RD w (.pointer (some ⟨b, 0, none⟩)) F s) := ⟨hJ, hD⟩
  have HU : Hid (s.un.length ≤ 100000 ∧ OkD s ∧ base + size ≤ s.bl.length ∧ s.bl.length ≤ 20000) := ⟨hu, hD.ok, hr, hbl⟩
  have hsz : base + size ≤ 20000 := by omega
  clear hJ hD hu hr hbl
  go_enter Tryz.func30, Tryz.ntmps30
  by_cases h1 : gen < 1
  · have HN : Hid (rdE17 s gen = 2 ∧ rdL17 s base size gen = []) := by constructor <;> (first | (unfold rdE17; rw [if_pos h1]) | (unfold rdL17; rw [if_pos h1]))
    rw [HN.out.1, HN.out.2]
    go_wp2_with fail
    go_ret2
    exact ⟨_, rfl, txo_nil _ _, Below.refl _ _⟩
  obtain ⟨g, rfl⟩ : ∃ g : Nat, gen = (g : Int) := ⟨gen.toNat, by omega⟩
  by_cases h2 : s.dn = true
  · have HN : Hid (rdE17 s g = 150 ∧ rdL17 s base size g = []) := by constructor <;> (first | (unfold rdE17; rw [if_neg h1, if_pos h2]) | (unfold rdL17; rw [if_neg h1, if_pos h2]))
    rw [HN.out.1, HN.out.2]
    rw [h2] at c4
    go_wp2_with fail
    go_ret2
    exact ⟨_, rfl, txo_nil _ _, Below.refl _ _⟩
  have h3 : s.dn = false := by simpa using h2
  have HN : Hid (rdE17 s g = 0 ∧ rdL17 s base size g = jrds (rb s) base size g size 0 1) := by
    constructor
    · unfold rdE17; rw [if_neg h1, if_neg h2]
    · unfold rdL17 jread; rw [if_neg h1, if_neg h2, Int.toNat_natCast]
  rw [HN.out.1, HN.out.2]
  rw [h3] at c4
  have HB : Hid (s.dn = false ∧ ∀ x, x < base + size → (rb s x).length = 128) := ⟨h3, fun x hx => (okD_rb HU.out.2.1 h3 x (by have := HU.out.2.2.1; omega)).2.1⟩
  clear h2 h3 HN
  go_upto_region 7 with fail
  clear c0 c4
  go_loopw [6, 7] (fun s6 s7 wr => ∃ (ls : List (List Nat)) (a : Nat), s7 = .int .i64 (a : Int) ∧ a ≤ size ∧ ls.length ≤ a ∧ Hid (TxO w.heap.size wr s6 ls ∧ Below w.heap.size w wr ∧ jrds (rb s) base size g size 0 1 = ls ++ jrds (rb s) base size g (size - ls.length) a (1 + ls.length))) (fun _ s7 _ => size + 1 - (intOf s7).toNat)
  case atStart => exact ⟨[], 0, rfl, by omega, by simp, txo_nil _ _, Below.refl _ _, rfl⟩
  case round =>
    obtain ⟨ls, a, rfl, ha, hla, HT⟩ := hrel
    obtain ⟨aT, cT, rfl⟩ := HT.out.1.sl
    obtain ⟨L, hL⟩ : ∃ L, ls.length = L := ⟨_, rfl⟩
    have HLn : Hid (ls.length = L) := hL
    rw [hL] at HT hla ⊢
    clear hL
    have u1 : IntKind.i64.wrap ((L : Int) + 1) = ((L + 1 : Nat) : Int) := by rw [IntKind.wrap_i64]; omega
    go_wp2_with fail
    refine (refRecord (HJ.out.1.later HT.out.2.1) (HJ.out.2.later HT.out.2.1) HU.out.2.2.1 HU.out.2.2.2 HB.out.1 HU.out.1 a (L + 1) g (by omega) (by omega) (by omega)).mono ?_
    rintro e w2 ⟨v, bb, rfl, hR, hB2⟩
    rcases hR with ⟨hn, rfl⟩ | ⟨r, hn, rfl, hr1, hr2⟩
    · have HF : Hid (TxO w.heap.size w2 (.slice aT L cT) (jrds (rb s) base size g size 0 1) ∧ Below w.heap.size w w2) := by
        refine ⟨?_, bchain HT.out.2.1 hB2⟩
        rw [HT.out.2.2, jrds_none (by rw [Nat.add_comm]; exact hn), List.append_nil]
        exact HT.out.1.later hB2
      clear hB2 hn
      go_wp2_with fail
      go_ret2
      exact ⟨_, rfl, HF.out⟩
    · have hrm := jrec_room HB.out.2 hn
      have hpp := prt_pos r.length
      obtain ⟨ad, cap, rfl, k1, k2⟩ := hr1.len
      have HT2 : Hid (TxO w.heap.size w2 (.slice aT L cT) ls ∧ Bs w2 (.slice ad r.length cap) r ∧ Below w.heap.size w w2 ∧ (∀ g', Value.ownBlock (.slice aT L cT) = some g' → Nb (.slice ad r.length cap) g') ∧ jrds (rb s) base size g size 0 1 = (ls ++ [r]) ++ jrds (rb s) base size g (size - (L + 1)) (a + prt r.length) (1 + (L + 1))) := by
        refine ⟨HT.out.1.later hB2, hr1, bchain HT.out.2.1 hB2, fun g' hg' x n' c' e h0 e2 => ?_, ?_⟩
        · have q1 := (own_ge HT.out.1 g' hg').2
          have q2 := hr2 x n' c' e h0
          omega
        · have e : size - L = size - (L + 1) + 1 := by omega
          rw [HT.out.2.2, e, jrds_some (by rw [Nat.add_comm]; exact hn), List.append_assoc]
          rfl
      obtain ⟨m, hm⟩ : ∃ m, r.length = m := ⟨_, rfl⟩
      rw [hm] at HT2 hrm hpp ⊢
      have HRm : Hid (r.length = m) := hm
      clear hn hB2 hr1 hr2 HT hm k1 k2
      go_upto_region 11 with (at_builtin; go_loud (refine apTx rfl _ _ rfl w.heap.size (.slice aT L cT) ls rfl HT2.out.1 ad m cap r HT2.out.2.1 HT2.out.2.2.2.1 _ rfl (by have := HLn.out; omega) HT2.out.2.2.1.size ?_; intro v3 w3 hT3 hg3 _ _; have HT3 : Hid (TxO w.heap.size w3 v3 (ls ++ [r]) ∧ Below w.heap.size w w3) := ⟨hT3, hg3.1 _ HT2.out.2.2.1⟩; clear hT3 hg3))
      obtain ⟨aV, cV, rfl⟩ := HT3.out.1.sl
      go_wp2_with fail
      refine (refParts m (by omega) w3).mono ?_
      rintro e wx ⟨rfl, hwx⟩
      have hwx := hwx.symm
      subst hwx
      obtain ⟨P, hP⟩ : ∃ P, prt m = P := ⟨_, rfl⟩
      have HF : Hid (jrds (rb s) base size g size 0 1 = (ls ++ [r]) ++ jrds (rb s) base size g (size - (L + 1)) (a + P) (1 + (L + 1))) := by show _ = _; rw [← hP]; exact HT2.out.2.2.2.2
      rw [hP] at hrm hpp ⊢
      have HL1 : Hid ((ls ++ [r]).length = L + 1) := by show _ = _; rw [List.length_append, HLn.out]; rfl
      obtain ⟨a2, ha2⟩ : ∃ a2, a + P = a2 := ⟨_, rfl⟩
      rw [ha2] at HF
      have u2 : (a : Int) + (P : Int) = (a2 : Int) := by omega
      have u3 : IntKind.i64.wrap (a2 : Int) = (a2 : Int) := by rw [IntKind.wrap_i64]; omega
      clear hP HT2
      go_wp2_with fail
      go_roundw
      case rel => exact ⟨ls ++ [r], a2, rfl, by omega, by have := HL1.out; omega, by have h := HT3.out.1; rw [List.length_append] at h; exact h, HT3.out.2, by rw [HL1.out]; exact HF.out⟩
      case measure => simp only [intOf]; omega
theorem RJ.gn {w : World} {c : Nat} {p : Value} {base size : Nat} {j : Jst} (h : RJ w c p base size j) (x : Nat) : RJ (w.setCell ⟨c, 3, none⟩ (.int .i64 (x : Int))) c p base size { j with gen := x } :=
  ⟨far5 h.c0 (by decide), far5 h.c1 (by decide), far5 h.c2 (by decide), same5 h.c3, far5 h.c4 (by decide), far5 h.c5 (by decide), fun k hk => (World.frozen?_setCell _ _ _ _).trans (h.f k hk)⟩
theorem RJ.nm {w : World} {c : Nat} {p : Value} {base size : Nat} {j : Jst} (h : RJ w c p base size j) (x : Nat) : RJ (w.setCell ⟨c, 4, none⟩ (.int .i64 (x : Int))) c p base size { j with n := x } :=
  ⟨far5 h.c0 (by decide), far5 h.c1 (by decide), far5 h.c2 (by decide), far5 h.c3 (by decide), same5 h.c4, far5 h.c5 (by decide), fun k hk => (World.frozen?_setCell _ _ _ _).trans (h.f k hk)⟩
theorem RJ.nx {w : World} {c : Nat} {p : Value} {base size : Nat} {j : Jst} (h : RJ w c p base size j) (x : Nat) : RJ (w.setCell ⟨c, 5, none⟩ (.int .i64 (x : Int))) c p base size { j with next := x } :=
  ⟨far5 h.c0 (by decide), far5 h.c1 (by decide), far5 h.c2 (by decide), far5 h.c3 (by decide), far5 h.c4 (by decide), same5 h.c5, fun k hk => (World.frozen?_setCell _ _ _ _).trans (h.f k hk)⟩
set_option maxRecDepth 100000 in
set_option maxHeartbeats 4000000 in
theorem refBegin17 {w : World} {c : Nat} {p : Value} {base size : Nat} {j : Jst} (hJ : RJ w c p base size j) (gen : Int) (hg : gen < 9223372036854775808) :
    Calls Tryz.prog 40 #[.pointer (some ⟨c, 0, none⟩), .int .i64 gen] w fun e w' => e = .returned (.int .i64 ((if gen < 1 then 2 else 0 : Nat) : Int)) ∧ RJ w' c p base size (if gen < 1 then j else ⟨gen.toNat, 0, 0⟩) ∧ Kp (fun k => k = c) w w' := by
  have HJ : Hid (RJ w c p base size j) := hJ
  have f3 := hJ.f 3 (by omega)
  have f4 := hJ.f 4 (by omega)
  have f5 := hJ.f 5 (by omega)
  have c3 := hJ.c3
  have c4 := hJ.c4
  have c5 := hJ.c5
  clear hJ
  go_enter Tryz.func40, Tryz.ntmps40
  by_cases h1 : gen < 1
  · rw [if_pos h1, if_pos h1]
    go_wp2_with fail
    go_ret
    exact ⟨rfl, HJ.out, Kp.refl _ _⟩
  · obtain ⟨g, rfl⟩ : ∃ g : Nat, gen = (g : Int) := ⟨gen.toNat, by omega⟩
    rw [if_neg h1, if_neg h1, Int.toNat_natCast]
    go_wp2_with fail
    go_ret
    refine ⟨rfl, ?_, (((Kp.refl (fun k => k = c) w).set (p := ⟨c, 3, none⟩) (Or.inl rfl) _).set (p := ⟨c, 4, none⟩) (Or.inl rfl) _).set (p := ⟨c, 5, none⟩) (Or.inl rfl) _⟩
    exact ((HJ.out.gn g).nm 0).nx 0
end Go.Proofs.YthnpdcblfocemaaGreatDoor
set_option linter.unusedVariables false
set_option linter.unusedSimpArgs false
namespace Go.Proofs.YthnpdcblfocemaaGreatDoor
open Go.RowKit

theorem wrS_room {s : Dsk} {m : Nat} (h1 : s.un.length ≤ 1000) (h2 : s.dn = false → s.un.length + (m + 1) ≤ 1000) (i : Int) (b : List Nat) : (wrS s i b).un.length ≤ 1000 ∧ ((wrS s i b).dn = false → (wrS s i b).un.length + m ≤ 1000) := by
  have h3 := (bl_wr s i b).2
  cases hd : s.dn
  · have := h2 hd
    exact ⟨by omega, fun _ => by omega⟩
  · have e : wrS s i b = s := by
      unfold wrS
      rw [if_pos (Or.inl (by unfold dAsk; rw [if_pos hd]; decide))]
    rw [e]
    exact ⟨h1, fun q => by rw [hd] at q; cases q⟩
theorem jwr_next (p : Nat) (r : List Nat) (n gen k i : Nat) (s : Dsk) : jwr p r n gen (k + 1) i s = if wrE s ((p + i : Nat) : Int) (jblk r i n gen) ≠ 0 then (wrE s ((p + i : Nat) : Int) (jblk r i n gen), wrS s ((p + i : Nat) : Int) (jblk r i n gen)) else jwr p r n gen k (i + 1) (wrS s ((p + i : Nat) : Int) (jblk r i n gen)) := rfl
theorem RD.out {w w' : World} {p : Value} {F : Nat → Prop} {s : Dsk} {c : Nat} (h : RD w p F s) (hF : ¬ F c) (hk : ∀ k, k ≠ c → w'.heap[k]? = w.heap[k]?) (hs : w.heap.size ≤ w'.heap.size) : RD w' p F s := h.kept (fun k hk2 => hk k (fun e => hF (e ▸ hk2))) hs
set_option maxRecDepth 100000 in
set_option maxHeartbeats 8000000 in
theorem refAppend17 {w : World} {c : Nat} {p : Value} {F : Nat → Prop} {s : Dsk} {base size : Nat} {j : Jst} (hJ : RJ w c p base size j) (hD : RD w p F s) (hF : ¬ F c) (hsz : base + size ≤ 20000) (hnx : j.next ≤ size) (hu : s.un.length ≤ 1000) (hu2 : s.dn = false → s.un.length + size ≤ 1000) (v : Value) (r : List Nat) (hv : Bs w v r) (hb : ∀ x ∈ r, x < 256) (hl : r.length ≤ 1000000) (hN : Nf F v) (hn : j.n ≤ 1000000) (hg : j.gen < 9223372036854775808) :
    Calls Tryz.prog 35 #[.pointer (some ⟨c, 0, none⟩), v] w fun e w' => e = .returned (.int .i64 (((japp s base size j r).1 : Nat) : Int)) ∧ ∃ F', RD w' p F' (japp s base size j r).2.1 ∧ Gr F F' w ∧ RJ w' c p base size (japp s base size j r).2.2 ∧ Kp (fun k => F k ∨ k = c) w w' := by
  have HJ : Hid (RJ w c p base size j ∧ ¬ F c ∧ Nf F v) := ⟨hJ, hF, hN⟩
  have HD : Hid (RD w p F s) := hD
  have HU : Hid (s.un.length ≤ 1000 ∧ (s.dn = false → s.un.length + size ≤ 1000)) := ⟨hu, hu2⟩
  have HL : Hid (Bs w v r ∧ ∀ x ∈ r, x < 256) := ⟨hv, hb⟩
  obtain ⟨ad, cap, rfl, k1, k2⟩ := hv.len
  unfold maxLen at k2
  obtain ⟨m, hm⟩ : ∃ m, r.length = m := ⟨_, rfl⟩
  rw [hm] at k1 hl HL HJ ⊢
  obtain ⟨G, hG⟩ : ∃ G, j.gen = G := ⟨_, rfl⟩
  obtain ⟨X, hX⟩ : ∃ X, j.next = X := ⟨_, rfl⟩
  obtain ⟨N, hNN⟩ : ∃ N, j.n = N := ⟨_, rfl⟩
  obtain ⟨P, hP⟩ : ∃ P, prt m = P := ⟨_, rfl⟩
  have HEq : Hid (r.length = m ∧ prt m = P ∧ j.gen = G ∧ j.next = X ∧ j.n = N) := ⟨hm, hP, hG, hX, hNN⟩
  rw [hG] at hg
  rw [hX] at hnx
  rw [hNN] at hn
  have hpm := prt_le m
  have hpp := prt_pos m
  rw [hP] at hpm hpp
  have x0 := hJ.c0
  have x2 := hJ.c2
  have x3 := hJ.c3
  have x5 := hJ.c5
  rw [hG] at x3
  rw [hX] at x5
  have HC : Hid (∀ w' : World, Calls Tryz.prog 54 #[.int .i64 (m : Int)] w' fun e w'' => e = .returned (.int .i64 (P : Int)) ∧ w'' = w') := fun w' => by
    have := refParts m (by omega) w'
    rw [hP] at this
    exact this
  clear hJ hD hF hu hu2 hv hb hN hm hG hX hNN hP
  go_enter Tryz.func35, Tryz.ntmps35
  by_cases h1 : G = 0
  · have HN : Hid (japp s base size j r = (180, s, j)) := by show _ = _; unfold japp; rw [if_pos (by have := HEq.out.2.2.1; omega)]
    rw [HN.out]
    subst h1
    have h1I : ((0 : Nat) : Int) = 0 := rfl
    go_wp2_with fail
    go_ret
    exact ⟨rfl, F, HD.out, fun _ h => Or.inl h, HJ.out.1, Kp.refl _ _⟩
  have h1I : ¬ (G : Int) = 0 := by omega
  by_cases h2 : 262144 < m
  · have HN : Hid (japp s base size j r = (3, s, j)) := by show _ = _; unfold japp; rw [if_neg (by have := HEq.out.2.2.1; omega), if_pos (by have := HEq.out.1; omega)]
    rw [HN.out]
    have h2I : (262144 : Int) < (m : Int) := by omega
    go_wp2_with fail
    go_ret
    exact ⟨rfl, F, HD.out, fun _ h => Or.inl h, HJ.out.1, Kp.refl _ _⟩
  have h2I : ¬ (262144 : Int) < (m : Int) := by omega
  have HE : Hid (japp s base size j r = if size - X < P then (170, s, j) else if (jput s base j r).1 ≠ 0 then ((jput s base j r).1, (jput s base j r).2, { j with gen := 0 }) else (0, (jput s base j r).2, ⟨G, N + 1, X + P⟩)) := by
    show _ = _
    unfold japp
    rw [if_neg (by have := HEq.out.2.2.1; omega), if_neg (by have := HEq.out.1; omega), HEq.out.1, HEq.out.2.1, HEq.out.2.2.1, HEq.out.2.2.2.1, HEq.out.2.2.2.2]
  obtain ⟨R, hR⟩ : ∃ R, size - X = R := ⟨_, rfl⟩
  rw [hR] at HE
  have z2 : (size : Int) - (X : Int) = (R : Int) := by omega
  have z3 : IntKind.i64.wrap (R : Int) = (R : Int) := by rw [IntKind.wrap_i64]; omega
  go_wp2_with fail
  refine (HC.out w).mono ?_
  rintro e wx ⟨rfl, hwx⟩
  have hwx := hwx.symm
  subst hwx
  go_upto_region 6 with fail
  by_cases h3 : R < P
  · have h3I : (R : Int) < (P : Int) := by omega
    go_quiet (fail)
    go_wp2_with fail
    go_ret
    rw [HE.out, if_pos h3]
    have hb1 : Below w.heap.size w (w.drewN nq) := below_drewP (Below.refl _ _) nq
    exact ⟨rfl, F, HD.out.later hb1, fun _ h => Or.inl h, HJ.out.1.later hb1, Kp.of hb1⟩
  have h3I : ¬ (R : Int) < (P : Int) := by omega
  rw [if_neg h3] at HE
  go_quiet (fail)
  have hb1 : Below w.heap.size w (w.drewN nq) := below_drewP (Below.refl _ _) nq
  have HK0 : Hid (Kp F w (w.drewN nq) ∧ RD (w.drewN nq) p F s) := ⟨Kp.of hb1, HD.out.later hb1⟩
  clear hb1 x0 x2 x3 x5 HD
  generalize w.drewN nq = q0 at *
  go_upto_region 10 with fail
  obtain ⟨B1, hB1⟩ : ∃ B1, base + X = B1 := ⟨_, rfl⟩
  have y1 : (base : Int) + (X : Int) = (B1 : Int) := by omega
  have y2 : IntKind.i64.wrap (B1 : Int) = (B1 : Int) := by rw [IntKind.wrap_i64]; omega
  have y3 : IntKind.i64.wrap ((N : Int) + 1) = ((N + 1 : Nat) : Int) := by rw [IntKind.wrap_i64]; omega
  have HW : Hid (jput s base j r = jfl (jwr B1 r (N + 1) G P 0 s)) := by
    show _ = _
    unfold jput
    rw [HEq.out.1, HEq.out.2.1, HEq.out.2.2.1, HEq.out.2.2.2.1, HEq.out.2.2.2.2, hB1]
  have hBP : B1 + P ≤ 20000 := by omega
  clear hB1
  go_loopw [6, 7] (fun s6 s7 wr => ∃ (i E : Nat) (S : Dsk) (F2 : Nat → Prop), s6 = .int .i64 (E : Int) ∧ s7 = .int .i64 (i : Int) ∧ i ≤ P ∧ Hid (RD wr p F2 S ∧ Gr F F2 w ∧ Kp F w wr ∧ S.un.length ≤ 1000 ∧ (S.dn = false → S.un.length + (P - i) ≤ 1000) ∧ jwr B1 r (N + 1) G P 0 s = if E ≠ 0 then (E, S) else jwr B1 r (N + 1) G (P - i) i S)) (fun _ s7 _ => P - (intOf s7).toNat)
  case atStart => exact ⟨0, 0, s, F, rfl, rfl, by omega, HK0.out.2, fun _ h => Or.inl h, HK0.out.1, HU.out.1, fun h => by have := HU.out.2 h; omega, rfl⟩
  case round =>
    obtain ⟨i, E, S, F2, rfl, rfl, hi, HI⟩ := hrel
    have HnF : Hid (¬ F2 c) := fun h => by
      rcases HI.out.2.1 c h with q | q
      · exact HJ.out.2.1 q
      · have := HJ.out.1.lt; omega
    have HJr : Hid (RJ wr c p base size j) := HJ.out.1.kept (HI.out.2.2.1.block c HJ.out.1.lt HJ.out.2.1)
    by_cases hgo : i < P ∧ E = 0
    · obtain ⟨hlt, rfl⟩ := hgo
      have hI5 : (i : Int) < (P : Int) := by omega
      obtain ⟨Q, hQ⟩ : ∃ Q, B1 + i = Q := ⟨_, rfl⟩
      have u1 : (B1 : Int) + (i : Int) = (Q : Int) := by omega
      have u2 : IntKind.i64.wrap (Q : Int) = (Q : Int) := by rw [IntKind.wrap_i64]; omega
      have u3 : IntKind.i64.wrap ((i : Int) + 1) = ((i + 1 : Nat) : Int) := by rw [IntKind.wrap_i64]; omega
      obtain ⟨b, hb⟩ : ∃ b, jblk r i (N + 1) G = b := ⟨_, rfl⟩
      have HSt : Hid (jwr B1 r (N + 1) G (P - i) i S = if wrE S (Q : Int) b ≠ 0 then (wrE S (Q : Int) b, wrS S (Q : Int) b) else jwr B1 r (N + 1) G (P - (i + 1)) (i + 1) (wrS S (Q : Int) b)) := by
        show _ = _
        have e : P - i = P - (i + 1) + 1 := by omega
        rw [e, jwr_next, hQ, hb]
      have HBk : Hid (jblk r i (N + 1) G = b ∧ ∀ x ∈ b, x < 256) := ⟨hb, by rw [← hb]; exact (jblk_ok HL.out.2 i (N + 1) G).2⟩
      have HBs : Hid (Bs wr.drew (.slice ad m cap) r) := (HI.out.2.2.1.bs HL.out.1 HJ.out.2.2).later (Below.refl wr.heap.size wr).drew
      have HD4 : Hid (RD wr.drew p F2 S) := HI.out.1.later (Below.refl wr.heap.size wr).drew
      have HK4 : Hid (Kp F w wr.drew) := HI.out.2.2.1.drew
      have x0 := cell_later (Below.refl wr.heap.size wr).drew HJr.out.c0
      have x1 := cell_later (Below.refl wr.heap.size wr).drew HJr.out.c1
      have x3 := cell_later (Below.refl wr.heap.size wr).drew HJr.out.c3
      have x4 := cell_later (Below.refl wr.heap.size wr).drew HJr.out.c4
      have x5 := cell_later (Below.refl wr.heap.size wr).drew HJr.out.c5
      rw [HEq.out.2.2.1] at x3
      rw [HEq.out.2.2.2.2] at x4
      rw [HEq.out.2.2.2.1] at x5
      clear hQ hb
      go_upto_region 12 with fail
      go_region_held3 (fun w' => w'.cell? ⟨c, 0, none⟩ = some p ∧ w'.cell? ⟨c, 1, none⟩ = some (.int .i64 (base : Int)) ∧ w'.cell? ⟨c, 3, none⟩ = some (.int .i64 (G : Int)) ∧ w'.cell? ⟨c, 4, none⟩ = some (.int .i64 (N : Int)) ∧ w'.cell? ⟨c, 5, none⟩ = some (.int .i64 (X : Int)))
        (exact ⟨x0, x1, x3, x4, x5⟩)
        (first
          | (go_at_call 61; refine (refBlock _ r i (N + 1) G HL.out.2 (by have := HEq.out.1; omega) (by omega) (by omega) hg _ HBs.out).mono ?_; rintro e wz ⟨v8, rfl, hY, hO8, hb8⟩; replace x0 := cell_later hb8 x0; replace x1 := cell_later hb8 x1; replace x3 := cell_later hb8 x3; replace x4 := cell_later hb8 x4; replace x5 := cell_later hb8 x5; have HD5 : Hid (RD wz p F2 S ∧ Kp F w wz ∧ Bs wz v8 b) := ⟨HD4.out.later hb8, HK4.out.trans (Kp.of (F := F) hb8) (fun _ h => Or.inl h), by have h := hY; rw [HBk.out.1] at h; exact h⟩; clear hY hO8 hb8)
          | (go_at_call 60; refine (refWrite HD5.out.1 (Q : Int) v8 b HD5.out.2.2 HBk.out.2 HI.out.2.2.2.1).mono ?_; rintro e wy ⟨rfl, F3, hD6, hG6, hK6⟩; replace x0 := hK6.cell HnF.out x0; replace x1 := hK6.cell HnF.out x1; replace x3 := hK6.cell HnF.out x3; replace x4 := hK6.cell HnF.out x4; replace x5 := hK6.cell HnF.out x5; have HD6 : Hid (RD wy p F3 (wrS S (Q : Int) b) ∧ Gr F2 F3 wz ∧ Kp F2 wz wy) := ⟨hD6, hG6, hK6⟩; clear hD6 hG6 hK6))
      have HF6 : Hid (Gr F F3 w ∧ Kp F w wy) := by
        have hs := HD5.out.2.1.size
        refine ⟨fun k hk => ?_, HD5.out.2.1.trans HD6.out.2.2 (fun k hk => HI.out.2.1 k hk)⟩
        rcases HD6.out.2.1 k hk with q | q
        · exact HI.out.2.1 k q
        · exact Or.inr (by omega)
      have HI2 : Hid (RD wy p F3 (wrS S (Q : Int) b) ∧ Gr F F3 w ∧ Kp F w wy ∧ (wrS S (Q : Int) b).un.length ≤ 1000 ∧ ((wrS S (Q : Int) b).dn = false → (wrS S (Q : Int) b).un.length + (P - (i + 1)) ≤ 1000) ∧ jwr B1 r (N + 1) G P 0 s = if wrE S (Q : Int) b ≠ 0 then (wrE S (Q : Int) b, wrS S (Q : Int) b) else jwr B1 r (N + 1) G (P - (i + 1)) (i + 1) (wrS S (Q : Int) b)) := by
        have hroom := wrS_room (m := P - (i + 1)) HI.out.2.2.2.1 (fun h => by have := HI.out.2.2.2.2.1 h; omega) (Q : Int) b
        refine ⟨HD6.out.1, HF6.out.1, HF6.out.2, hroom.1, hroom.2, ?_⟩
        have h := HI.out.2.2.2.2.2
        rw [if_neg (by simp), HSt.out] at h
        exact h
      generalize wrE S (Q : Int) b = E2 at *
      generalize wrS S (Q : Int) b = S2 at *
      clear HD6 HD5 HF6 HSt x0 x1 x3 x4 x5
      go_wp2_with fail
      go_roundw
      case rel => exact ⟨i + 1, E2, S2, F3, rfl, by first | rfl | go_num, by omega, HI2⟩
      case measure => simp only [intOf]; omega
    · have HWr : Hid (jwr B1 r (N + 1) G P 0 s = (E, S)) := by
        show _ = _
        rw [HI.out.2.2.2.2.2]
        by_cases e : E = 0
        · subst e
          have e2 : P - i = 0 := by omega
          rw [if_neg (by simp), e2]
          rfl
        · rw [if_pos e]
      have x0 := HJr.out.c0
      have x3 := HJr.out.c3
      have f3 := HJr.out.f 3 (by omega)
      rw [HEq.out.2.2.1] at x3
      have hx : (i < P ∧ E ≠ 0) ∨ (¬ i < P ∧ E ≠ 0) ∨ (¬ i < P ∧ E = 0) := by omega
      rcases hx with ⟨q1, q2⟩ | ⟨q1, q2⟩ | ⟨q1, rfl⟩
      · have hI5 : (i : Int) < (P : Int) := by omega
        have hI6 : ¬ (E : Int) = 0 := by omega
        have HR : Hid (japp s base size j r = (E, S, { j with gen := 0 })) := by show _ = _; rw [HE.out, HW.out, HWr.out, jfl, if_pos q2, if_pos q2]
        go_wp2_with fail
        go_ret
        rw [HR.out]
        exact ⟨rfl, F2, HI.out.1.out HnF.out (fun k hk => out5 hk) (by rw [World.size_setCell]; exact Nat.le_refl _), HI.out.2.1, HJr.out.gn 0, (HI.out.2.2.1.mono (G := fun k => F k ∨ k = c) (fun _ h => Or.inl h)).set (p := ⟨c, 3, none⟩) (Or.inl (Or.inr rfl)) _⟩
      · have hI5 : ¬ (i : Int) < (P : Int) := by omega
        have hI6 : ¬ (E : Int) = 0 := by omega
        have HR : Hid (japp s base size j r = (E, S, { j with gen := 0 })) := by show _ = _; rw [HE.out, HW.out, HWr.out, jfl, if_pos q2, if_pos q2]
        go_wp2_with fail
        go_ret
        rw [HR.out]
        exact ⟨rfl, F2, HI.out.1.out HnF.out (fun k hk => out5 hk) (by rw [World.size_setCell]; exact Nat.le_refl _), HI.out.2.1, HJr.out.gn 0, (HI.out.2.2.1.mono (G := fun k => F k ∨ k = c) (fun _ h => Or.inl h)).set (p := ⟨c, 3, none⟩) (Or.inl (Or.inr rfl)) _⟩
      · have hI5 : ¬ (i : Int) < (P : Int) := by omega
        go_wp2_with fail
        refine (refFlush HI.out.1 (by have := HI.out.2.2.2.1; omega)).mono ?_
        rintro e wf ⟨rfl, F3, hD6, hG6, hK6⟩
        have hs6 := HI.out.2.2.1.size
        have HD6 : Hid (RD wf p F3 (flS S) ∧ Gr F F3 w ∧ Kp F w wf ∧ ¬ F3 c ∧ RJ wf c p base size j) := by
          have hG : Gr F F3 w := fun k hk => by
            rcases hG6 k hk with q | q
            · exact HI.out.2.1 k q
            · exact Or.inr (by omega)
          have hK : Kp F w wf := HI.out.2.2.1.trans hK6 (fun k hk => HI.out.2.1 k hk)
          refine ⟨hD6, hG, hK, fun h => ?_, HJ.out.1.kept (hK.block c HJ.out.1.lt HJ.out.2.1)⟩
          rcases hG c h with q | q
          · exact HJ.out.2.1 q
          · have := HJ.out.1.lt; omega
        clear hD6 hG6 hK6 hs6 x0 x3 f3
        have x3 := HD6.out.2.2.2.2.c3
        have x4 := HD6.out.2.2.2.2.c4
        have x5 := HD6.out.2.2.2.2.c5
        have f3 := HD6.out.2.2.2.2.f 3 (by omega)
        have f4 := HD6.out.2.2.2.2.f 4 (by omega)
        have f5 := HD6.out.2.2.2.2.f 5 (by omega)
        rw [HEq.out.2.2.1] at x3
        rw [HEq.out.2.2.2.2] at x4
        rw [HEq.out.2.2.2.1] at x5
        have hj0 : jfl (0, S) = (flE S, flS S) := by unfold jfl; rw [if_neg (by simp)]
        obtain ⟨Z, hZ⟩ : ∃ Z, X + P = Z := ⟨_, rfl⟩
        rw [hZ] at HE
        by_cases hfl : flE S = 0
        · have HR : Hid (japp s base size j r = (0, flS S, { j with n := N + 1, next := Z })) := by
            show _ = _
            rw [HE.out, HW.out, HWr.out, hj0, if_neg (fun h => h hfl), ← HEq.out.2.2.1]
          rw [hfl]
          have t1 : (X : Int) + (P : Int) = (Z : Int) := by omega
          have t2 : IntKind.i64.wrap (Z : Int) = (Z : Int) := by rw [IntKind.wrap_i64]; omega
          have x5b : (wf.setCell ⟨c, 4, none⟩ (.int .i64 ((N + 1 : Nat) : Int))).cell? ⟨c, 5, none⟩ = some (.int .i64 (X : Int)) := far5 x5 (by decide)
          go_wp2_with fail
          go_ret
          rw [HR.out]
          exact ⟨rfl, F3, HD6.out.1.out HD6.out.2.2.2.1 (fun k hk => (out5 hk).trans (out5 hk)) (by rw [World.size_setCell, World.size_setCell]; exact Nat.le_refl _), HD6.out.2.1, (HD6.out.2.2.2.2.nm (N + 1)).nx Z, ((HD6.out.2.2.1.mono (G := fun k => F k ∨ k = c) (fun _ h => Or.inl h)).set (p := ⟨c, 4, none⟩) (Or.inl (Or.inr rfl)) _).set (p := ⟨c, 5, none⟩) (Or.inl (Or.inr rfl)) _⟩
        · have hfI : ¬ ((flE S : Nat) : Int) = 0 := by omega
          have HR : Hid (japp s base size j r = (flE S, flS S, { j with gen := 0 })) := by show _ = _; rw [HE.out, HW.out, HWr.out, hj0, if_pos hfl]
          generalize flE S = E2 at *
          go_wp2_with fail
          go_ret
          rw [HR.out]
          exact ⟨rfl, F3, HD6.out.1.out HD6.out.2.2.2.1 (fun k hk => out5 hk) (by rw [World.size_setCell]; exact Nat.le_refl _), HD6.out.2.1, HD6.out.2.2.2.2.gn 0, (HD6.out.2.2.1.mono (G := fun k => F k ∨ k = c) (fun _ h => Or.inl h)).set (p := ⟨c, 3, none⟩) (Or.inl (Or.inr rfl)) _⟩
end Go.Proofs.YthnpdcblfocemaaGreatDoor
