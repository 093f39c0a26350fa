/-
  Texts of this proof, joined: StArm StMd.
-/
import Derived.Test.YthnpdcblfocemaaDoorSU05
import Derived.Test.YthnpdcblfocemaaDoorSU06
set_option linter.unusedVariables false
set_option linter.unusedSimpArgs false
namespace Go.Proofs.YthnpdcblfocemaaDoor
open Go.RowKit

theorem sdArm {V : Disk1} {S : Store1 V} {T : World → (Nat → Prop) → Prop} (oT : Owns T) {w0 w : World} {N : Nat → Prop} {d q : Value} {room m : Nat} {s : Dsk} {j : Sst} (h : P2 (SD V S d q room m s j) T w0 w N) (n : Int) (hn : Bd64 n) :
    Calls Tryd.prog 14 #[d, .int .i64 n] w fun e w' => e = .returned (.tuple #[]) ∧ P2 (SD V S d q room m (arS s n) j) T w0 w' N ∧ Kn N w w' := sdDisk (K := fun e => e = .returned (.tuple #[])) oT h (fun F h1 h2 h3 => V.arm w d F s n h1 hn)
theorem sdCrash {V : Disk1} {S : Store1 V} {T : World → (Nat → Prop) → Prop} (oT : Owns T) {w0 w : World} {N : Nat → Prop} {d q : Value} {room m : Nat} {s : Dsk} {j : Sst} (h : P2 (SD V S d q room m s j) T w0 w N) (hu : s.un.length ≤ 60) {v : Value} {fs : List (Int × Int)} (hv : Fts w v fs) (ho : Ou w0.heap.size N v) (hl : fs.length ≤ 1000) :
    Calls Tryd.prog 15 #[d, v] w fun e w' => e = .returned (.int .i64 0) ∧ P2 (SD V S d q room m (crS s fs) j) T w0 w' N ∧ Kn N w w' := sdDisk (K := fun e => e = .returned (.int .i64 0)) oT h (fun F h1 h2 h3 => V.crash w d F s v fs h1 hv (nf_ou ho h2 h3) hl (by omega))
end Go.Proofs.YthnpdcblfocemaaDoor
set_option linter.unusedVariables false
set_option linter.unusedSimpArgs false
namespace Go.Proofs.YthnpdcblfocemaaDoor

def Md18 (room m : Nat) (sv ad : Bool) (last nx : List Nat) (rs : List (List Nat)) (N : Nat) (js : Sst) (s : Dsk) (j : Nat) : Prop :=
  (sv = false ∧ ad = false ∧ ∃ used, js = ⟨⟨N, rs.length, used⟩, true⟩ ∧ SIn m room N last rs used s) ∨
  (sv = false ∧ ad = false ∧ js.bg = false ∧ SRest m room N last rs s) ∨
  (js.bg = false ∧ s.dn = true ∧ sv = true ∧ ad = false ∧ N + 1 ≤ j ∧ ∀ fs, SRest m room N last rs (crS s fs) ∨ SRest m room (N + 1) nx [] (crS s fs)) ∨
  (js.bg = false ∧ s.dn = true ∧ sv = false ∧ ad = true ∧ rs.length + 1 ≤ j ∧ ∀ fs, SRest m room N last rs (crS s fs) ∨ SRest m room N last (rs ++ [nx]) (crS s fs))
structure Mq18 (room m : Nat) (sv ad : Bool) (last nx : List Nat) (rs : List (List Nat)) (N : Nat) (js : Sst) (s : Dsk) (j : Nat) : Prop where
  q : Jq m s
  b : SB m room j js
  n : N ≤ j
  r : rs.length ≤ j
  md : Md18 room m sv ad last nx rs N js s j
theorem Md18.up {room m : Nat} {sv ad : Bool} {last nx : List Nat} {rs : List (List Nat)} {N : Nat} {js : Sst} {s : Dsk} {j j' : Nat} (h : Md18 room m sv ad last nx rs N js s j) (hj : j ≤ j') : Md18 room m sv ad last nx rs N js s j' := by
  rcases h with h | h | ⟨h1, h2, h3, h4, h5, h6⟩ | ⟨h1, h2, h3, h4, h5, h6⟩
  · exact Or.inl h
  · exact Or.inr (Or.inl h)
  · exact Or.inr (Or.inr (Or.inl ⟨h1, h2, h3, h4, by omega, h6⟩))
  · exact Or.inr (Or.inr (Or.inr ⟨h1, h2, h3, h4, by omega, h6⟩))
theorem Mq18.up {room m : Nat} {sv ad : Bool} {last nx : List Nat} {rs : List (List Nat)} {N : Nat} {js : Sst} {s : Dsk} {j : Nat} (h : Mq18 room m sv ad last nx rs N js s j) : Mq18 room m sv ad last nx rs N js s (j + 1) :=
  ⟨h.q, h.b.up (by omega), by have := h.n; omega, by have := h.r; omega, h.md.up (by omega)⟩
theorem mq_new {m room : Nat} (h : fb18 room + 1 ≤ m) (hr : room ≤ 16384) : Mq18 room m false false [] [] [] 0 ⟨⟨0, 0, 0⟩, false⟩ (dNew m) 0 :=
  ⟨jq_new m, sb_new m room, Nat.le_refl _, Nat.le_refl _, Or.inr (Or.inl ⟨rfl, rfl, rfl, srest_new h hr⟩)⟩
theorem Mq18.app {room m : Nat} {sv ad : Bool} {last nx bb : List Nat} {rs : List (List Nat)} {N : Nat} {js : Sst} {s : Dsk} {j : Nat} (h : Mq18 room m sv ad last nx rs N js s j) (hj : j < 200) (hb : ∀ c ∈ bb, c < 256) (hl : bb.length ≤ 6000) (hr : fb18 room + 1 ≤ m) :
    (∃ E, E ≠ 0 ∧ E ≠ 150 ∧ apS s room js bb = (E, s, js)) ∨
    (∃ s' js', apS s room js bb = (0, s', js') ∧ sv = false ∧ ad = false ∧ Mq18 room m false false last nx (rs ++ [bb]) N js' s' (j + 1)) ∨
    (∃ s' js', apS s room js bb = (150, s', js') ∧ sv = false ∧ ad = false ∧ Mq18 room m false true last bb rs N js' s' (j + 1)) := by
  have hq := jq_append (r := bb) h.q h.b hr hl
  have hs := sb_app h.b (s := s) h.q.bl hr bb
  have hn := h.n
  have hrj := h.r
  rcases h.md with ⟨h1, h2, used, rfl, h4⟩ | ⟨h1, h2, h3, h4⟩ | ⟨h1, h2, h3, h4, h5, h6⟩ | ⟨h1, h2, h3, h4, h5, h6⟩
  · rcases h4.app (by omega) hb (by omega) with e | ⟨s', e, e2⟩ | ⟨s', e, e2, e3, e4⟩
    · exact Or.inl ⟨170, by omega, by omega, e⟩
    · rw [e] at hq hs
      refine Or.inr (Or.inl ⟨s', _, e, h1, h2, hq, hs, by omega, by rw [List.length_append]; simp; omega, Or.inl ⟨rfl, rfl, used + prt bb.length, rfl, e2⟩⟩)
    · rw [e] at hq hs
      exact Or.inr (Or.inr ⟨s', _, e, h1, h2, hq, hs, by omega, by omega, Or.inr (Or.inr (Or.inr ⟨rfl, e2, rfl, rfl, by omega, e4⟩))⟩)
  · exact Or.inl ⟨180, by omega, by omega, apS_off h3⟩
  · exact Or.inl ⟨180, by omega, by omega, apS_off h1⟩
  · exact Or.inl ⟨180, by omega, by omega, apS_off h1⟩
theorem Mq18.save {room m : Nat} {sv ad : Bool} {last nx bb : List Nat} {rs : List (List Nat)} {N : Nat} {js : Sst} {s : Dsk} {j : Nat} (h : Mq18 room m sv ad last nx rs N js s j) (hj : j < 200) (hb : ∀ c ∈ bb, c < 256) (hr : fb18 room + 1 ≤ m) (h50 : room ≤ 50) :
    (∃ js', svS s room js bb = (161, s, js') ∧ Mq18 room m sv ad last nx rs N js' s (j + 1)) ∨
    (∃ js', svS s room js bb = (150, s, js') ∧ (sv = true ∨ ad = true) ∧ Mq18 room m sv ad last nx rs N js' s (j + 1)) ∨
    (∃ s' js', svS s room js bb = (0, s', js') ∧ sv = false ∧ ad = false ∧ Mq18 room m false false bb nx [] (N + 1) js' s' (j + 1)) ∨
    (∃ s' js', svS s room js bb = (150, s', js') ∧ sv = false ∧ ad = false ∧ Mq18 room m true false last bb rs N js' s' (j + 1)) := by
  have hq := jq_save (d := bb) (j := js) h.q hr h50
  have hs := (sb_save h.b s bb).up (show j ≤ j + 1 by omega)
  have hn := h.n
  have hrj := h.r
  by_cases hlong : room * 128 < bb.length
  · have e := svS_long (s := s) (j := js) hlong
    rw [e] at hs
    left
    refine ⟨_, e, h.q, hs, by omega, by omega, ?_⟩
    rcases h.md with ⟨h1, h2, used, rfl, h4⟩ | ⟨h1, h2, h3, h4⟩ | ⟨h1, h2, h3, h4, h5, h6⟩ | ⟨h1, h2, h3, h4, h5, h6⟩
    · exact Or.inr (Or.inl ⟨h1, h2, rfl, h4.rest (by omega)⟩)
    · exact Or.inr (Or.inl ⟨h1, h2, rfl, h4⟩)
    · exact Or.inr (Or.inr (Or.inl ⟨rfl, h2, h3, h4, by omega, h6⟩))
    · exact Or.inr (Or.inr (Or.inr ⟨rfl, h2, h3, h4, by omega, h6⟩))
  have key : sv = false → ad = false → SRest m room N last rs s → 
      (∃ s' js', svS s room js bb = (0, s', js') ∧ sv = false ∧ ad = false ∧ Mq18 room m false false bb nx [] (N + 1) js' s' (j + 1)) ∨
      (∃ s' js', svS s room js bb = (150, s', js') ∧ sv = false ∧ ad = false ∧ Mq18 room m true false last bb rs N js' s' (j + 1)) := by
    intro h1 h2 h4
    rcases h4.save js (by omega) hb (by omega) with ⟨s', e, e2⟩ | ⟨s', e, e2, e3, e4⟩
    · rw [e] at hq hs
      exact Or.inl ⟨s', _, e, h1, h2, hq, hs, by omega, Nat.zero_le _, Or.inl ⟨rfl, rfl, 0, rfl, e2⟩⟩
    · rw [e] at hq hs
      exact Or.inr ⟨s', _, e, h1, h2, hq, hs, by omega, by omega, Or.inr (Or.inr (Or.inl ⟨rfl, e2, rfl, rfl, by omega, e4⟩))⟩
  rcases h.md with ⟨h1, h2, used, hjs, h4⟩ | ⟨h1, h2, h3, h4⟩ | ⟨h1, h2, h3, h4, h5, h6⟩ | ⟨h1, h2, h3, h4, h5, h6⟩
  · exact Or.inr (Or.inr (key h1 h2 (h4.rest (by omega))))
  · exact Or.inr (Or.inr (key h1 h2 h4))
  · have e := svS_down (j := js) hlong h2
    rw [e] at hs
    exact Or.inr (Or.inl ⟨_, e, Or.inl h3, h.q, hs, by omega, by omega, Or.inr (Or.inr (Or.inl ⟨rfl, h2, h3, h4, by omega, h6⟩))⟩)
  · have e := svS_down (j := js) hlong h2
    rw [e] at hs
    exact Or.inr (Or.inl ⟨_, e, Or.inr h4, h.q, hs, by omega, by omega, Or.inr (Or.inr (Or.inr ⟨rfl, h2, h3, h4, by omega, h6⟩))⟩)
theorem Mq18.arm {room m : Nat} {sv ad : Bool} {last nx : List Nat} {rs : List (List Nat)} {N : Nat} {js : Sst} {s : Dsk} {j : Nat} (h : Mq18 room m sv ad last nx rs N js s j) (k : Int) : Mq18 room m sv ad last nx rs N js (arS s k) (j + 1) := by
  have hu := h.up
  refine ⟨jq_ar h.q k, hu.b, hu.n, hu.r, ?_⟩
  rcases hu.md with ⟨h1, h2, used, h3, h4⟩ | ⟨h1, h2, h3, h4⟩ | ⟨h1, h2, h3, h4, h5, h6⟩ | ⟨h1, h2, h3, h4, h5, h6⟩
  · exact Or.inl ⟨h1, h2, used, h3, h4.arm k⟩
  · exact Or.inr (Or.inl ⟨h1, h2, h3, h4.arm k⟩)
  · exact Or.inr (Or.inr (Or.inl ⟨h1, h2, h3, h4, h5, h6⟩))
  · exact Or.inr (Or.inr (Or.inr ⟨h1, h2, h3, h4, h5, h6⟩))
theorem Mq18.crash {room m : Nat} {sv ad : Bool} {last nx : List Nat} {rs : List (List Nat)} {N : Nat} {js : Sst} {s : Dsk} {j : Nat} (h : Mq18 room m sv ad last nx rs N js s j) (hj : j < 200) (fs : List (Int × Int)) :
    ∃ (last' : List Nat) (rs' : List (List Nat)) (N' : Nat), opB (crS s fs) room = last' ∧ opL (crS s fs) room = rs' ∧ Mq18 room m false false last' [] rs' N' ⟨⟨0, 0, 0⟩, false⟩ (crS s fs) (j + 1) ∧
      ((last' = last ∧ rs' = rs) ∨ (sv = true ∧ last' = nx ∧ rs' = []) ∨ (sv = false ∧ ad = true ∧ last' = last ∧ rs' = rs ++ [nx])) := by
  have hn := h.n
  have hr := h.r
  have fin : ∀ (last' : List Nat) (rs' : List (List Nat)) (N' : Nat), N' ≤ j → rs'.length ≤ j → SRest m room N' last' rs' (crS s fs) → Mq18 room m false false last' [] rs' N' ⟨⟨0, 0, 0⟩, false⟩ (crS s fs) (j + 1) := fun last' rs' N' h1 h2 h3 =>
    ⟨jq_cr h.q fs, (sb_new m room).up (by omega), by omega, by omega, Or.inr (Or.inl ⟨rfl, rfl, rfl, h3⟩)⟩
  rcases h.md with ⟨h1, h2, used, rfl, h4⟩ | ⟨h1, h2, h3, h4⟩ | ⟨h1, h2, h3, h4, h5, h6⟩ | ⟨h1, h2, h3, h4, h5, h6⟩
  · have hR := (h4.rest (by omega)).crash fs
    exact ⟨last, rs, N, hR.opB.1, hR.opB.2, fin _ _ _ hn hr hR, Or.inl ⟨rfl, rfl⟩⟩
  · have hR := h4.crash fs
    exact ⟨last, rs, N, hR.opB.1, hR.opB.2, fin _ _ _ hn hr hR, Or.inl ⟨rfl, rfl⟩⟩
  · rcases h6 fs with hR | hR
    · exact ⟨last, rs, N, hR.opB.1, hR.opB.2, fin _ _ _ hn hr hR, Or.inl ⟨rfl, rfl⟩⟩
    · exact ⟨nx, [], N + 1, hR.opB.1, hR.opB.2, fin _ _ _ h5 (Nat.zero_le _) hR, Or.inr (Or.inl ⟨h3, rfl, rfl⟩)⟩
  · rcases h6 fs with hR | hR
    · exact ⟨last, rs, N, hR.opB.1, hR.opB.2, fin _ _ _ hn hr hR, Or.inl ⟨rfl, rfl⟩⟩
    · exact ⟨last, rs ++ [nx], N, hR.opB.1, hR.opB.2, fin _ _ _ hn (by rw [List.length_append]; exact h5) hR, Or.inr (Or.inr ⟨h3, h4, rfl, rfl⟩)⟩
end Go.Proofs.YthnpdcblfocemaaDoor
