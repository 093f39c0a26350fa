/-
  Texts of this proof, joined: HMath LawMH0.
-/
import Derived.Test.YtdfjnbkkdgolnabGreatDoorSX04
import Derived.Test.YtdfjnbkkdgolnabGreatDoorSX06
import Derived.Test.YtdfjnbkkdgolnabGreatDoorSX08
import Derived.Test.YtdfjnbkkdgolnabGreatDoorSX11
set_option linter.unusedVariables false
set_option linter.unusedSimpArgs false
namespace Go.Proofs.YtdfjnbkkdgolnabGreatDoor

/-- The first k pairs of places (s, t) change what lies there. -/
def swQ (s t : Nat → Nat) (P : Nat → Int) : Nat → (Nat → Int) → Nat → Int
  | 0, Q => Q
  | k + 1, Q => fun a => if a = t k then P (s k) else if a = s k then P (t k) else swQ s t P k Q a
theorem swQ_out (s t : Nat → Nat) (P Q : Nat → Int) (a : Nat) : ∀ k, (∀ k', k' < k → a ≠ s k' ∧ a ≠ t k') → swQ s t P k Q a = Q a
  | 0, _ => rfl
  | k + 1, h => by
    show (if a = t k then P (s k) else if a = s k then P (t k) else swQ s t P k Q a) = Q a
    rw [if_neg (h k (by omega)).2, if_neg (h k (by omega)).1]
    exact swQ_out s t P Q a k (fun k' hk' => h k' (by omega))
theorem swQ_in (s t : Nat → Nat) (P Q : Nat → Int) (n : Nat) (hst : ∀ a b, a < n → b < n → s a ≠ t b) (hs : ∀ a b, a < n → b < n → a ≠ b → s a ≠ s b) (ht : ∀ a b, a < n → b < n → a ≠ b → t a ≠ t b) (q : Nat) :
    ∀ k, k ≤ n → q < k → swQ s t P k Q (s q) = P (t q) ∧ swQ s t P k Q (t q) = P (s q)
  | 0, _, h => by omega
  | k + 1, hn, h => by
    show (if s q = t k then P (s k) else if s q = s k then P (t k) else swQ s t P k Q (s q)) = P (t q) ∧ (if t q = t k then P (s k) else if t q = s k then P (t k) else swQ s t P k Q (t q)) = P (s q)
    by_cases e : q = k
    · subst e
      rw [if_neg (hst q q (by omega) (by omega)), if_pos rfl, if_pos rfl]
      exact ⟨rfl, rfl⟩
    · have ih := swQ_in s t P Q n hst hs ht q k (by omega) (by omega)
      rw [if_neg (hst q k (by omega) (by omega)), if_neg (hs q k (by omega) (by omega) e), if_neg (ht q k (by omega) (by omega) e), if_neg (fun h' => hst k q (by omega) (by omega) h'.symm)]
      exact ih
theorem row_ne {u i k k' n : Nat} (h : u ≠ i) (hk : k < n) (hk' : k' < n) : u * n + k ≠ i * n + k' := by
  intro e
  rcases Nat.lt_or_ge u i with h1 | h1
  · have h2 : (u + 1) * n ≤ i * n := Nat.mul_le_mul_right _ h1
    rw [Nat.succ_mul] at h2
    omega
  · have h2 : (i + 1) * n ≤ u * n := Nat.mul_le_mul_right _ (by omega)
    rw [Nat.succ_mul] at h2
    omega
/-- The places that change: first the weights to the two, then their offsets, then the weights from them. -/
def h1s (z : Nat → Nat) (i : Nat) : Nat → Nat := fun k => i * z 0 + k
def h2s (z : Nat → Nat) (i : Nat) : Nat → Nat := fun _ => z 0 * z 1 + i
def h3s (z : Nat → Nat) (i : Nat) : Nat → Nat := fun o => z 0 * z 1 + z 1 + o * z 1 + i
def hQ1 (z : Nat → Nat) (P : Nat → Int) (i j k : Nat) : Nat → Int := swQ (h1s z i) (h1s z j) P k P
def hQ2 (z : Nat → Nat) (P : Nat → Int) (i j : Nat) : Nat → Int := swQ (h2s z i) (h2s z j) P 1 (hQ1 z P i j (z 0))
def hQ3 (z : Nat → Nat) (P : Nat → Int) (i j k : Nat) : Nat → Int := swQ (h3s z i) (h3s z j) P k (hQ2 z P i j)
theorem row_le {u n m : Nat} (h : u < m) : u * n + n ≤ n * m := by
  have h2 : (u + 1) * n ≤ m * n := Nat.mul_le_mul_right _ h
  rw [Nat.succ_mul, Nat.mul_comm m] at h2
  exact h2
theorem hidQ_v (z : Nat → Nat) (P x : Nat → Int) (i j : Nat) (hi : i < z 1) (hj : j < z 1) (hij : i ≠ j) (o : Nat) (ho : o < z 2) : vN z 3 (hQ3 z P i j (z 2)) x 2 o = vN z 3 P x 2 o := by
  have E1 : ∀ u k, wtN z 0 u k = u * z 0 + k := fun u k => by show 0 + u * z 0 + k = _; omega
  have E2 : ∀ q u, wtN z 1 q u = z 0 * z 1 + z 1 + q * z 1 + u := fun q u => by show 0 + (z 0 * z 1 + z 1) + q * z 1 + u = _; omega
  have E3 : ∀ u, ofN z 0 u = z 0 * z 1 + u := fun u => by show 0 + z 0 * z 1 + u = _; omega
  have E4 : ∀ q, ofN z 1 q = z 0 * z 1 + z 1 + z 1 * z 2 + q := fun q => by show 0 + (z 0 * z 1 + z 1) + z 1 * z 2 + q = _; omega
  have out3 : ∀ a, a < z 0 * z 1 + z 1 → hQ3 z P i j (z 2) a = hQ2 z P i j a := fun a ha => swQ_out _ _ _ _ _ _ (fun k' _ => ⟨by unfold h3s; omega, by unfold h3s; omega⟩)
  have out2 : ∀ a, (a < z 0 * z 1 ∨ z 0 * z 1 + z 1 ≤ a) → hQ2 z P i j a = hQ1 z P i j (z 0) a := fun a ha => swQ_out _ _ _ _ _ _ (fun k' _ => ⟨by unfold h2s; omega, by unfold h2s; omega⟩)
  have in1 : ∀ k, k < z 0 → hQ1 z P i j (z 0) (i * z 0 + k) = P (j * z 0 + k) ∧ hQ1 z P i j (z 0) (j * z 0 + k) = P (i * z 0 + k) := fun k hk => swQ_in (h1s z i) (h1s z j) P P (z 0) (fun a b ha hb => row_ne hij ha hb) (fun a b _ _ h => by unfold h1s; omega) (fun a b _ _ h => by unfold h1s; omega) k (z 0) (Nat.le_refl _) hk
  have in2 : hQ2 z P i j (z 0 * z 1 + i) = P (z 0 * z 1 + j) ∧ hQ2 z P i j (z 0 * z 1 + j) = P (z 0 * z 1 + i) := swQ_in (h2s z i) (h2s z j) P _ 1 (fun a b _ _ => by unfold h2s; omega) (fun a b _ _ h => by omega) (fun a b _ _ h => by omega) 0 1 (by omega) (by omega)
  have r3 : ∀ a b, a ≠ b → ∀ u v, u < z 1 → v < z 1 → z 0 * z 1 + z 1 + a * z 1 + u ≠ z 0 * z 1 + z 1 + b * z 1 + v := fun a b h u v hu hv e => row_ne (n := z 1) h hu hv (by omega)
  have in3 : ∀ k, k < z 2 → hQ3 z P i j (z 2) (z 0 * z 1 + z 1 + k * z 1 + i) = P (z 0 * z 1 + z 1 + k * z 1 + j) ∧ hQ3 z P i j (z 2) (z 0 * z 1 + z 1 + k * z 1 + j) = P (z 0 * z 1 + z 1 + k * z 1 + i) := fun k hk => swQ_in (h3s z i) (h3s z j) P _ (z 2) (fun a b _ _ => by
      by_cases e : a = b
      · subst e; unfold h3s; omega
      · exact r3 a b e i j hi hj) (fun a b _ _ h => r3 a b h i i hi hi) (fun a b _ _ h => r3 a b h j j hj hj) k (z 2) (Nat.le_refl _) hk
  refine hidden_v z P _ x i j hi hj (fun u k hu hk => ?_) (fun u hu => ?_) (fun q u hq hu => ?_) (fun q hq => ?_) o ho
  · rw [E1, E1]
    have hl := row_le (n := z 0) hu
    rw [out3 _ (by omega), out2 _ (Or.inl (by omega))]
    unfold swpN
    by_cases e1 : u = i
    · subst e1; rw [if_pos rfl]; exact (in1 k hk).1
    · rw [if_neg e1]
      by_cases e2 : u = j
      · subst e2; rw [if_pos rfl]; exact (in1 k hk).2
      · rw [if_neg e2]; exact swQ_out _ _ _ _ _ _ (fun k' hk' => ⟨row_ne e1 hk hk', row_ne e2 hk hk'⟩)
  · rw [E3, E3, out3 _ (by omega)]
    unfold swpN
    by_cases e1 : u = i
    · subst e1; rw [if_pos rfl]; exact in2.1
    · rw [if_neg e1]
      by_cases e2 : u = j
      · subst e2; rw [if_pos rfl]; exact in2.2
      · rw [if_neg e2]
        refine (swQ_out _ _ _ _ _ _ (fun k' _ => ⟨by unfold h2s; omega, by unfold h2s; omega⟩)).trans (swQ_out _ _ _ _ _ _ (fun k' hk' => ?_))
        have h1 := row_le (n := z 0) hi
        have h2 := row_le (n := z 0) hj
        exact ⟨by unfold h1s; omega, by unfold h1s; omega⟩
  · rw [E2, E2]
    unfold swpN
    by_cases e1 : u = i
    · subst e1; rw [if_pos rfl]; exact (in3 q hq).1
    · rw [if_neg e1]
      by_cases e2 : u = j
      · subst e2; rw [if_pos rfl]; exact (in3 q hq).2
      · rw [if_neg e2]
        refine (swQ_out _ _ _ _ _ _ (fun k' hk' => ?_)).trans ((out2 _ (Or.inr (by omega))).trans (swQ_out _ _ _ _ _ _ (fun k' hk' => ?_)))
        · by_cases e : q = k'
          · subst e; exact ⟨by unfold h3s; omega, by unfold h3s; omega⟩
          · exact ⟨r3 q k' e u i hu hi, r3 q k' e u j hu hj⟩
        · have h1 := row_le (n := z 0) hi
          have h2 := row_le (n := z 0) hj
          exact ⟨by unfold h1s; omega, by unfold h1s; omega⟩
  · rw [E4]
    refine (swQ_out _ _ _ _ _ _ (fun k' hk' => ?_)).trans ((out2 _ (Or.inr (by omega))).trans (swQ_out _ _ _ _ _ _ (fun k' hk' => ?_)))
    · have h1 := row_le (n := z 1) hk'
      exact ⟨by unfold h3s; omega, by unfold h3s; omega⟩
    · have h1 := row_le (n := z 0) hi
      have h2 := row_le (n := z 0) hj
      exact ⟨by unfold h1s; omega, by unfold h1s; omega⟩
end Go.Proofs.YtdfjnbkkdgolnabGreatDoor
set_option linter.unusedVariables false
set_option linter.unusedSimpArgs false
namespace Go.Proofs.YtdfjnbkkdgolnabGreatDoor
open Go.RowKit

theorem own_rw7 {w : World} {base : Nat} {e : TypeId} {v : Value} {n : Nat} {f : Nat → Int} (h : w.ownsRow base e 1 v n (il f n)) (hn : 0 < n) : ∃ g cap, v = .slice (some ⟨g, 0, none⟩) n cap ∧ base ≤ g ∧ n ≤ cap ∧ cap ≤ maxLen ∧ Rw g n (fun k => .int .i64 (f k)) w := by
  rcases h.2 with ⟨_, h0⟩ | ⟨g, cap, cur, rfl, hg, hh, hc1, hc2, hsz, htk⟩
  · omega
  · refine ⟨g, cap, rfl, hg, hc1, hc2, ⟨fun k hk => ?_, fun k hk => by simp [World.frozen?, hh]⟩⟩
    rw [h.cellAt k (by omega), il_get f n k hk]
theorem Bx.far7 {b : Nat} {x y : Value} {w : World} {p : Addr} (h : Bx b x y w) (u : Value) (hp : p.block ≠ b) : Bx b x y (w.setCell p u) where
  c0 := cell_set hp h.c0
  c1 := cell_set hp h.c1
  f0 := by rw [World.frozen?_setCell]; exact h.f0
  f1 := by rw [World.frozen?_setCell]; exact h.f1
theorem Rw.swq {g n : Nat} {s t : Nat → Nat} {P Q : Nat → Int} {k : Nat} {w : World} (r : Rw g n (fun a => .int .i64 (swQ s t P k Q a)) w) : Rw g n (fun a => .int .i64 (swQ s t P (k + 1) Q a)) ((w.setCell ⟨g, s k, none⟩ (.int .i64 (P (t k)))).setCell ⟨g, t k, none⟩ (.int .i64 (P (s k)))) := by
  refine ((r.set (s k) _).set (t k) _).congr (fun a ha => ?_)
  show (if a = t k then _ else if a = s k then _ else _) = Value.int .i64 (if a = t k then P (s k) else if a = s k then P (t k) else swQ s t P k Q a)
  by_cases h1 : a = t k
  · rw [if_pos h1, if_pos h1]
  · rw [if_neg h1, if_neg h1]
    by_cases h2 : a = s k
    · rw [if_pos h2, if_pos h2]
    · rw [if_neg h2, if_neg h2]
theorem swQ_mem (s t : Nat → Nat) (P Q : Nat → Int) (L H : Int) (a : Nat) (hQ : L ≤ Q a ∧ Q a ≤ H) : ∀ k, (∀ k', k' < k → (L ≤ P (s k') ∧ P (s k') ≤ H) ∧ (L ≤ P (t k') ∧ P (t k') ≤ H)) → L ≤ swQ s t P k Q a ∧ swQ s t P k Q a ≤ H
  | 0, _ => hQ
  | k + 1, hP => by
    show L ≤ (if a = t k then P (s k) else if a = s k then P (t k) else swQ s t P k Q a) ∧ (if a = t k then P (s k) else if a = s k then P (t k) else swQ s t P k Q a) ≤ H
    by_cases h1 : a = t k
    · rw [if_pos h1]; exact (hP k (by omega)).1
    · rw [if_neg h1]
      by_cases h2 : a = s k
      · rw [if_pos h2]; exact (hP k (by omega)).2
      · rw [if_neg h2]; exact swQ_mem s t P Q L H a hQ k (fun k' hk' => hP k' (by omega))
theorem hQ3_mem (z : Nat → Nat) (P : Nat → Int) (i j lp : Nat) (L H : Int) (hi : i < z 1) (hj : j < z 1) (hlp : lp = z 0 * z 1 + z 1 + (z 1 * z 2 + z 2)) (hP : ∀ a, a < lp → L ≤ P a ∧ P a ≤ H) (a : Nat) (ha : a < lp) : L ≤ hQ3 z P i j (z 2) a ∧ hQ3 z P i j (z 2) a ≤ H := by
  have ri := row_le (n := z 0) hi
  have rj := row_le (n := z 0) hj
  refine swQ_mem _ _ _ _ L H a (swQ_mem _ _ _ _ L H a (swQ_mem _ _ _ _ L H a (hP a ha) (z 0) (fun k' hk' => ?_)) 1 (fun k' hk' => ?_)) (z 2) (fun k' hk' => ?_)
  · exact ⟨hP _ (by unfold h1s; omega), hP _ (by unfold h1s; omega)⟩
  · exact ⟨hP _ (by unfold h2s; omega), hP _ (by unfold h2s; omega)⟩
  · have rk := row_le (n := z 1) hk'
    exact ⟨hP _ (by unfold h3s; omega), hP _ (by unfold h3s; omega)⟩
set_option maxRecDepth 100000 in
set_option maxHeartbeats 4000000 in
theorem same7_any (va vb : Value) (n : Nat) (f g : Nat → Int) (hn : n ≤ 70000) (w : World) (hA : Ar w va n f) (hB' : Ar w vb n g) (hfg : ∀ k, k < n → g k = f k) :
    Calls Tryz.prog 14 #[va, vb] w fun e w' => e = .returned (.bool true) ∧ w' = w := by
  have hB := hB'.congr hfg
  clear hB' hfg
  obtain ⟨adr, cap, b, o, rfl, k1, k2, k3, k4⟩ := hA
  obtain ⟨adq, caq, bq, oq, rfl, q1, q2, q3, q4⟩ := hB
  have HA : Hid (∀ k, k < n → w.cell? ⟨b, o + k, none⟩ = some (.int .i64 (f k)) ∧ w.cell? ⟨bq, oq + k, none⟩ = some (.int .i64 (f k))) := fun k hk => ⟨(k4 k hk).1, (q4 k hk).1⟩
  have HK : Hid (0 < n → adr = some ⟨b, o, none⟩ ∧ adq = some ⟨bq, oq, none⟩) := fun h => ⟨k3 h, q3 h⟩
  unfold maxLen at k2 q2
  have hnn : ((n : Int) != (n : Int)) = false := by simp
  clear k3 k4 q3 q4
  go_enter Tryz.func14, Tryz.ntmps14
  go_upto_region 4 with fail
  go_loopw [14] (fun s14 wr => ∃ j : Nat, j ≤ n ∧ s14 = .int .i64 (j : Int) ∧ wr = w) (fun s14 _ => n - (intOf s14).toNat)
  case atStart => exact ⟨0, by omega, rfl, rfl⟩
  case round =>
    obtain ⟨j, hj, rfl, rfl⟩ := hrel
    by_cases hlt : j < n
    · have hjI : (j : Int) < (n : Int) := by omega
      obtain ⟨ea, eb⟩ := HK.out (by omega)
      subst ea eb
      obtain ⟨cA, cB⟩ := HA.out j hlt
      have hne : ((f j) != (f j)) = false := by simp
      go_wp2
      go_roundw
      case rel => exact ⟨j + 1, by omega, by go_num, trivial⟩
      case measure => simp [intOf]; omega
    · have hjI : ¬ (j : Int) < (n : Int) := by omega
      go_wp2
      go_ret
      exact ⟨rfl, rfl⟩
end Go.Proofs.YtdfjnbkkdgolnabGreatDoor
