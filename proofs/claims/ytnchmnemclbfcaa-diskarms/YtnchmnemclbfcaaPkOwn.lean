/-
  Layer 12's memory: where a longer list lies; a copy of bytes (bytes.Clone).
-/
import Derived.Test.YtnchmnemclbfcaaPkBase
set_option linter.unusedVariables false
set_option linter.unusedSimpArgs false
namespace Go.Proofs.Ytnchmnemclbfcaa
open Go.RowKit

/-- A list of one's own, while its block is as it was. -/
theorem own_block {w w' : World} {B : Nat} {e : TypeId} {s : Nat} {v : Value} {n : Nat} {xs : List Value} (h : w.ownsRow B e s v n xs) (hk : ∀ k, v.ownBlock = some k → w'.heap[k]? = w.heap[k]?) : w'.ownsRow B e s v n xs := by
  refine ⟨h.1, ?_⟩
  rcases h.2 with h0 | ⟨g, cap, cur, rfl, hg, hh, r⟩
  · exact Or.inl h0
  · exact Or.inr ⟨g, cap, cur, rfl, hg, (hk g rfl).trans hh, r⟩
/-- Where the longer list lies: in its old block, or in a new one. -/
theorem run_append_where (w : World) (ty : TypeId) (v : Value) (l : List Nat) (hO : Ob 0 w v l) (vx : Value) (m : List Nat) (hL : Bs w vx m) (hlen : l.length + m.length ≤ 1073741824) :
    ∃ v' w', (Builtin.append_ #[32, 32] ty #[v, vx]).run Try.prog w = .ok v' w' ∧ Ob 0 w' v' (l ++ m) ∧ w.grownBy w' v.ownBlock ∧ ∀ k, v'.ownBlock = some k → v.ownBlock = some k ∨ w.heap.size ≤ k := by
  obtain ⟨i0, hti, hi0, hi1, hi2⟩ := byteInfo
  obtain ⟨ad, cap, e, h1, h2⟩ := hL.len
  subst e
  cases ad with
  | none =>
    obtain ⟨e0, e1⟩ := Ls.nil hL
    obtain rfl : m = [] := List.eq_nil_of_length_eq_zero e0
    subst e1
    have hr := run_append_owned_none (P := Try.prog) (w := w) 0 32 ty 5 i0 1 Try.underlying32 hti v _ _ hO
    refine ⟨v, w, hr, ?_, ⟨rfl, rfl, rfl, Nat.le_refl _, fun _ _ _ => rfl⟩, fun k hk => Or.inl hk⟩
    rw [List.append_nil]; exact hO
  | some ad =>
    have hnews := ls_news hL
    have hall : ∀ base, base ≤ w.heap.size → w.ownsRow base 5 1 v l.length (b8 l) → ∃ v' w', (Builtin.append_ #[32, 32] ty #[v, .slice (some ad) m.length cap]).run Try.prog w = .ok v' w' ∧ w'.ownsRow base 5 1 v' (l.length + m.length) (b8 l ++ b8 m) ∧ w.grownBy w' v.ownBlock := by
      intro base hb hO
      obtain ⟨v', w', e1, e2, e3, -⟩ := run_append_own (P := Try.prog) w base 32 ty 5 i0 (.int .u8 0) 1 1 Try.underlying32 hti hi0 hi1 hi2 rfl (by decide) v l.length (b8 l) hO ad m.length cap (b8 m) (by rw [b8_len, Nat.mul_one]) (by rw [← vl_b8]; exact hnews) (b8_one m) (by unfold maxLen; omega) (by omega) hb
      exact ⟨v', w', e1, e2, e3⟩
    obtain ⟨v', w', e1, e2, e3⟩ := hall 0 (Nat.zero_le _) hO
    refine ⟨v', w', e1, by unfold Ob; rw [List.length_append, b8_app]; exact e2, e3, ?_⟩
    rcases hO.2 with ⟨rfl, hn⟩ | ⟨g, c, cur, rfl, hbg, hg, hnc, hcm, hcs, htake⟩
    · have hl : l = [] := List.eq_nil_of_length_eq_zero hn
      subst hl
      obtain ⟨v2, w2, f1, f2, -⟩ := hall w.heap.size (Nat.le_refl _) (World.ownsRow_nil _ _ _ _)
      rw [e1] at f1
      cases f1
      exact fun k hk => Or.inr (f2.lt k hk).1
    · by_cases hroom : l.length + m.length ≤ c
      · have hfit : l.length * i0.size + (b8 m).length ≤ cur.size := by rw [b8_len, hcs, hi1]; omega
        have hr := run_append_room (P := Try.prog) w 32 ty 5 i0 Try.underlying32 hti g l.length c cur hg ad m.length cap (b8 m) (by rw [b8_len, hi1, Nat.mul_one]) (by rw [← vl_b8]; exact hnews) (b8_one m) hroom hfit
        rw [e1] at hr
        cases hr
        exact fun k hk => Or.inl hk
      · have hr := run_append_grow (P := Try.prog) w 32 ty 5 i0 (.int .u8 0) Try.underlying32 hti hi0 ⟨g, 0, none⟩ l.length c (b8 l) (by rw [b8_len, hi1, Nat.mul_one]) (World.ownsRow.cells hO (g := g) rfl) ad m.length cap (b8 m) (by rw [b8_len, hi1, Nat.mul_one]) (by rw [← vl_b8]; exact hnews) (by omega) (by omega) (growslice_fits (by omega) (by rw [hi2]; omega))
        rw [e1] at hr
        cases hr
        intro k hk
        simp [Value.ownBlock] at hk
        exact Or.inr (by omega)
theorem apW {ops : Array Oper} {rest : List Oper} {o : Oper} {a : Act} {w : World} {Q : Exit → Act → World → Prop} (hgd : o.guard = none) (s x : Operand)
    (ho : o.op = .call { callee := .builtin .append, args := #[s, x], argTypes := #[32, 32] })
    (v : Value) (l : List Nat) (hs : a.eval s = v) (hO : Ob 0 w v l) (vx : Value) (m : List Nat) (hx : a.eval x = vx) (hL : Bs w vx m) (hlen : l.length + m.length ≤ 1073741824)
    (h : ∀ v' w', Ob 0 w' v' (l ++ m) → w.grownBy w' v.ownBlock → (∀ k, v'.ownBlock = some k → v.ownBlock = some k ∨ w.heap.size ≤ k) → wpList Try.prog ops Q rest (a.put o.dst v') w') : wpList Try.prog ops Q (o :: rest) a w :=
  wpList_plain hgd fun _ hK => by
    obtain ⟨v', w', hr, h2, h3, h4⟩ := run_append_where w o.type v l hO vx m hL hlen
    unfold Oper.wp execOp
    simp only [ho, resolve, invoke, builtin, Sem.run_bind, Sem.run_pure, Result.andThen_ok, List.map_toArray, List.map_cons, List.map_nil, hs, hx, hr]
    exact hK _ _ (h v' w' h2 h3 h4)
set_option maxRecDepth 100000 in
set_option maxHeartbeats 1000000 in
theorem clone_any (w : World) (v : Value) (l : List Nat) (h : Bs w v l) (hl : l.length ≤ 10000000) :
    Calls Try.prog 33 #[v] w fun e w' => ∃ v', e = .returned v' ∧ Ob w.heap.size w' v' l ∧ Below w.heap.size w w' := by
  obtain ⟨ad, cap, rfl, k1, k2⟩ := h.len
  have HL : Hid (Bs w (.slice ad l.length cap) l) := h
  have hnil : ∀ (a : Option Addr) (n c : Nat), (binOp .eql 32 (.slice a n c) (.slice none 0 0)).run Try.prog w = .ok (.bool a.isNone) w := fun a n c => Lib.run_eql_slice_nil w 32 5 a n c 0 0 Try.underlying32
  cases ad with
  | none =>
    obtain ⟨e0, e1⟩ := Ls.nil h
    obtain rfl : l = [] := List.eq_nil_of_length_eq_zero e0
    subst e1
    clear h
    go_enter Try.func33, Try.ntmps33
    go_wp2
    go_ret
    exact ⟨_, rfl, ob_nil _ _, Below.refl _ _⟩
  | some a =>
    clear h
    obtain ⟨n, hN⟩ : ∃ n, l.length = n := ⟨_, rfl⟩
    have HN : Hid (l.length = n) := hN
    rw [hN] at HL hl k1 ⊢
    clear hN
    have HO0 : Hid (Ob w.heap.size (w.alloc (.cells #[] 5)) (.slice (some ⟨w.heap.size, 0, none⟩) 0 0) []) := World.ownsRow_made w #[] 0 (Nat.le_refl _) (by unfold maxLen; omega) rfl
    go_enter Try.func33, Try.ntmps33
    go_wp2_with (at_builtin; refine apB rfl _ _ rfl w.heap.size _ [] rfl HO0.out _ l rfl (HL.out.later (bel1 _ _)) (by have := HN.out; simp; omega) (by simp) ?_; intro v2 w2 hO2 hg2; rw [List.nil_append] at hO2; obtain ⟨ad5, cap5, rfl⟩ := hO2.sl)
    go_ret
    exact ⟨_, rfl, hO2, hg2.1 _ (bel1 _ _)⟩
end Go.Proofs.Ytnchmnemclbfcaa
