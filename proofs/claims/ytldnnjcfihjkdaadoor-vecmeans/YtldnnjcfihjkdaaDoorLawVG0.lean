/-
  VecMeans: the mean of vectors, part by part.
-/
import Derived.Test.YtldnnjcfihjkdaaDoorPWalkT
import Derived.Test.YtldnnjcfihjkdaaDoorBK
import Derived.Test.YtldnnjcfihjkdaaDoorBJ
import Derived.Test.YtldnnjcfihjkdaaDoorLawVS
import Derived.Maps.AppendAt
set_option linter.unusedVariables false
set_option linter.unusedSimpArgs false
namespace Go.Proofs.YtldnnjcfihjkdaaDoor
open Go.RowKit
attribute [local go_sem ↓] Go.wp_at_zero Go.wp_at_succ

/-- A list of lists. -/
def Lt (w : World) (v : Value) (K : Nat) (ns : Nat → Nat) (fs : Nat → Nat → Int) : Prop :=
  ∃ (adr : Option Addr) (cap g o : Nat), v = .slice adr K cap ∧ K ≤ cap ∧ cap ≤ maxLen ∧ (0 < K → adr = some ⟨g, o, none⟩) ∧ ∀ k, k < K → ∃ (ad : Option Addr) (ca : Nat), w.cell? ⟨g, o + k, none⟩ = some (.slice ad (ns k) ca) ∧ Ar w (.slice ad (ns k) ca) (ns k) (fs k)
theorem Ar.len {w : World} {ad : Option Addr} {n ca : Nat} {f : Nat → Int} (h : Ar w (.slice ad n ca) n f) : n ≤ maxLen := by
  obtain ⟨_, _, _, _, e, h1, h2, _, _⟩ := h
  cases e
  omega
theorem Lt.hs {w : World} {v : Value} {K : Nat} {ns : Nat → Nat} {fs : Nat → Nat → Int} (h : Lt w v K ns fs) : Hs w v K ns := by
  obtain ⟨adr, cap, g, o, e, k1, k2, k3, k4⟩ := h
  exact ⟨adr, cap, g, o, e, k1, k2, k3, fun k hk => by obtain ⟨ad, ca, h1, h2⟩ := k4 k hk; exact ⟨h2.len, ad, ca, h1⟩⟩
set_option maxRecDepth 100000 in
set_option maxHeartbeats 2000000 in
theorem few3_any (v : Value) (m : Nat) (ns : Nat → Nat) (w : World) (hH : Hs w v m ns) :
    Calls Tryd.prog 10 #[v] w fun e w' => e = .returned (.bool (fewB ns m)) ∧ w' = w := by
  obtain ⟨adr, cap, g, o, rfl, k1, k2, k3, k4⟩ := hH
  have HC : Hid (∀ k, k < m → ns k ≤ maxLen ∧ ∃ (ad : Option Addr) (ca : Nat), w.cell? ⟨g, o + k, none⟩ = some (.slice ad (ns k) ca)) := k4
  have HK : Hid (0 < m → adr = some ⟨g, o, none⟩) := k3
  unfold maxLen at k2
  clear k3 k4
  obtain ⟨R, hR⟩ : ∃ R, fewB ns m = R := ⟨_, rfl⟩
  have HR : Hid (fewB ns m = R) := hR
  rw [hR]
  clear hR
  go_enter Tryd.func10, Tryd.ntmps10
  go_wp2
  go_loopw [7] (fun s7 wr => ∃ j : Nat, j ≤ m ∧ s7 = .int .i64 (j : Int) ∧ Hid (∀ k, k < j → ns k ≤ 200) ∧ wr = w) (fun s7 _ => m - (intOf s7).toNat)
  case atStart => exact ⟨0, by omega, rfl, fun k hk => by omega, rfl⟩
  case round =>
    obtain ⟨j, hj, rfl, hA, rfl⟩ := hrel
    by_cases hlt : j < m
    · have hjI : (j : Int) < (m : Int) := by omega
      have ea := HK.out (by omega)
      subst ea
      obtain ⟨hl, ad, ca, hcell⟩ := HC.out j hlt
      unfold maxLen at hl
      by_cases h200 : ns j ≤ 200
      · have h2 : ((ns j : Nat) : Int) ≤ 200 := by omega
        have HA2 : Hid (∀ k, k < j + 1 → ns k ≤ 200) := fun k hk => by
          rcases Nat.lt_or_ge k j with h | h
          · exact hA.out k h
          · obtain rfl : k = j := by omega
            exact h200
        clear hA h200
        go_wp2
        go_roundw
        case rel => exact ⟨j + 1, by omega, by go_num, HA2, trivial⟩
        case measure => simp [intOf]; omega
      · have h2 : (200 : Int) < ((ns j : Nat) : Int) := by omega
        have HF : Hid (R = false) := by show _ = _; rw [← HR.out]; exact few_no ns m j hlt (by omega)
        clear hA h200 HR
        go_wp2
        go_ret
        exact ⟨by rw [HF.out]; rfl, rfl⟩
    · have HF : Hid (R = true) := by
        show _ = _
        rw [← HR.out]
        unfold fewB
        rw [List.all_eq_true]
        intro k hk
        rw [decide_eq_true_iff]
        exact hA.out k (by have := List.mem_range.1 hk; omega)
      have hjI : ¬ (j : Int) < (m : Int) := by omega
      clear hA HR
      go_wp2
      go_ret
      exact ⟨by rw [HF.out]; rfl, rfl⟩
theorem few_le (ns : Nat → Nat) (m : Nat) (h : fewB ns m = true) (k : Nat) (hk : k < m) : ns k ≤ 200 := of_decide_eq_true (List.all_eq_true.1 h k (List.mem_range.2 hk))
theorem Ar.keep {w w' : World} {v : Value} {n : Nat} {f : Nat → Int} (h : Ar w v n f) (hk : ∀ (a : Addr) (n' cap : Nat), v = .slice (some a) n' cap → 0 < n' → w'.heap[a.block]? = w.heap[a.block]?) : Ar w' v n f := by
  obtain ⟨adr, cap, b, o, e, h1, h2, h3, h4⟩ := h
  refine ⟨adr, cap, b, o, e, h1, h2, h3, fun k hk' => ⟨?_, (h4 k hk').2⟩⟩
  have e2 := h3 (by omega)
  subst e2
  exact (World.cell?_of_block (w := w) (a := ⟨b, o + k, none⟩) (hk ⟨b, o, none⟩ n cap e (by omega))).trans (h4 k hk').1
/-- A list of lists that is one's own. -/
def Al (w : World) (B : Nat) (v : Value) (j : Nat) (ns : Nat → Nat) (fs : Nat → Nat → Int) : Prop :=
  ∃ xs : List Value, w.ownsRow B 38 1 v j xs ∧ ∀ k, k < j → ∃ va : Value, xs[k]? = some va ∧ Ar w va (ns k) (fs k) ∧ Ow B va ∧ ∀ g, v.ownBlock = some g → Nb va g
theorem Al.later {w w' : World} {B : Nat} {v : Value} {j : Nat} {ns : Nat → Nat} {fs : Nat → Nat → Int} (h : Al w B v j ns fs) (hb : Below w.heap.size w w') : Al w' B v j ns fs := by
  obtain ⟨xs, h1, h2⟩ := h
  exact ⟨xs, own_later h1 hb, fun k hk => by obtain ⟨va, e, a, c, d⟩ := h2 k hk; exact ⟨va, e, a.later hb, c, d⟩⟩
theorem al_grow {w w3 : World} {B : Nat} {v v' va : Value} {j : Nat} {ns : Nat → Nat} {fs : Nat → Nat → Int} {o : Obj} {xs : List Value} (h1 : w.ownsRow B 38 1 v j xs) (h2 : ∀ k, k < j → ∃ va : Value, xs[k]? = some va ∧ Ar w va (ns k) (fs k) ∧ Ow B va ∧ ∀ g, v.ownBlock = some g → Nb va g)
    (hA : Ar w va (ns j) (fs j)) (hO : Ow B va) (hN : ∀ g, v.ownBlock = some g → Nb va g)
    (hown : w3.ownsRow B 38 1 v' (j + 1) (xs ++ [va])) (hgrow : (w.alloc o).grownBy w3 v.ownBlock) (hat : v'.ownBlock = v.ownBlock ∨ v'.ownBlock = some (w.alloc o).heap.size) : Al w3 B v' (j + 1) ns fs := by
  have hlen : xs.length = j := by have := h1.1; omega
  have key : ∀ k (x : Value), Ar w x (ns k) (fs k) → (∀ g, v.ownBlock = some g → Nb x g) → Ar w3 x (ns k) (fs k) ∧ ∀ g, v'.ownBlock = some g → Nb x g := fun k x hx hn => by
    refine ⟨hx.keep (fun a n' cap e h0 => ?_), fun g hg => ?_⟩
    · have hlt : a.block < w.heap.size := by
        rcases Nat.lt_or_ge a.block w.heap.size with h | h
        · exact h
        · exact absurd rfl (hx.nb h a n' cap e h0)
      rw [hgrow.block a.block (by rw [World.size_alloc]; omega) (fun e2 => hn a.block e2.symm a n' cap e h0 rfl), Below.heap_alloc _ _ _ (by omega)]
    · rcases hat with h | h
      · exact hn g (h.symm.trans hg)
      · rw [h] at hg
        obtain rfl := Option.some.inj hg
        exact hx.nb (by rw [World.size_alloc]; omega)
  refine ⟨xs ++ [va], hown, fun k hk => ?_⟩
  rcases Nat.lt_or_ge k j with h | h
  · obtain ⟨x, e, a, c, d⟩ := h2 k h
    obtain ⟨p, q⟩ := key k x a d
    exact ⟨x, by rw [List.getElem?_append_left (by omega)]; exact e, p, c, q⟩
  · obtain rfl : k = j := by omega
    obtain ⟨p, q⟩ := key k va hA hN
    exact ⟨va, by rw [List.getElem?_append_right (by omega), hlen]; simp, p, hO, q⟩
theorem al_as {w : World} {B d : Nat} {v : Value} {K n : Nat} {ns : Nat → Nat} {fs : Nat → Nat → Int} (h : Al w B v K ns fs) (hK : 0 < K) (hd : d < B) (hns : ∀ k, k < K → ns k = n) : ∃ g cap, v = .slice (some ⟨g, 0, none⟩) K cap ∧ K ≤ cap ∧ cap ≤ maxLen ∧ As w d g 0 K n fs := by
  obtain ⟨xs, h1, h2⟩ := h
  rcases h1.2 with ⟨_, h0⟩ | ⟨g, cap, cur, rfl, hg, hh, hc1, hc2, hsz, htk⟩
  · omega
  · refine ⟨g, cap, rfl, hc1, hc2, ⟨fun k hk => ?_, by omega⟩⟩
    obtain ⟨va, e, a, c, -⟩ := h2 k hk
    refine ⟨va, ?_, by rw [hns k hk] at a; exact a, c.nb hd⟩
    rw [Nat.zero_add]
    have h3 : cur[k]? = some va := by
      rw [← htk, List.getElem?_take, if_pos (by omega), Array.getElem?_toList] at e
      exact e
    simp [World.cell?, hh, h3]
theorem dinfo_is : (Tryd.prog.info? 38).map (fun i => (i.zero, i.size, i.bytes)) = some (some (.slice none 0 0), 1, 24) := by kernel_rfl
end Go.Proofs.YtldnnjcfihjkdaaDoor
