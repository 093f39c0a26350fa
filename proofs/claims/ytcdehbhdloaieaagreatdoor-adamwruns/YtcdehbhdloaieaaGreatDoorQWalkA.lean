/-
  The contracts of sched: what is right, rates.
-/
import Derived.Test.YtcdehbhdloaieaaGreatDoorQMath
import Derived.Test.YtcdehbhdloaieaaGreatDoorBH
import Derived.Test.YtcdehbhdloaieaaGreatDoorBE
import Derived.Test.YtcdehbhdloaieaaGreatDoorBC
import Derived.Deep.RegionHeld3
set_option linter.unusedVariables false
set_option linter.unusedSimpArgs false
namespace Go.Proofs.YtcdehbhdloaieaaGreatDoor
open Go.RowKit

/-- A yes or no. -/
def Tel (e : Ending) (p : Prop) : Prop := ∃ B : Bool, e = .returned (.bool B) ∧ (B = true ↔ p)
theorem tel_yes {p : Prop} (h : p) : Tel (.returned (.bool true)) p := ⟨true, rfl, by simp [h]⟩
theorem tel_no {p : Prop} (h : ¬ p) : Tel (.returned (.bool false)) p := ⟨false, rfl, by simp [h]⟩
theorem Tel.yes {e : Ending} {p : Prop} (h : Tel e p) (hp : p) : e = .returned (.bool true) := by
  obtain ⟨B, rfl, hB⟩ := h
  rw [hB.2 hp]
theorem Tel.no {e : Ending} {p : Prop} (h : Tel e p) (hp : ¬ p) : e = .returned (.bool false) := by
  obtain ⟨B, rfl, hB⟩ := h
  cases B
  · rfl
  · exact absurd (hB.1 rfl) hp
/-- Three cells of a struct. -/
structure Q3 (b : Nat) (x y z : Value) (w : World) : Prop where
  c0 : w.cell? ⟨b, 0, none⟩ = some x
  c1 : w.cell? ⟨b, 1, none⟩ = some y
  c2 : w.cell? ⟨b, 2, none⟩ = some z
theorem Q3.later {b : Nat} {x y z : Value} {w w' : World} (h : Q3 b x y z w) (hb : Below w.heap.size w w') : Q3 b x y z w' := ⟨cell_later hb h.c0, cell_later hb h.c1, cell_later hb h.c2⟩
theorem Q3.new (w : World) (x y z : Value) (t : TypeId) : Q3 w.heap.size x y z (w.alloc (.cells #[x, y, z] t)) := ⟨by simp [go_sem], by simp [go_sem], by simp [go_sem]⟩
/-- Four cells of a struct. -/
structure Q4 (b : Nat) (x y z u : Value) (w : World) : Prop where
  c0 : w.cell? ⟨b, 0, none⟩ = some x
  c1 : w.cell? ⟨b, 1, none⟩ = some y
  c2 : w.cell? ⟨b, 2, none⟩ = some z
  c3 : w.cell? ⟨b, 3, none⟩ = some u
theorem Q4.later {b : Nat} {x y z u : Value} {w w' : World} (h : Q4 b x y z u w) (hb : Below w.heap.size w w') : Q4 b x y z u w' := ⟨cell_later hb h.c0, cell_later hb h.c1, cell_later hb h.c2, cell_later hb h.c3⟩
theorem Q4.new (w : World) (x y z u : Value) (t : TypeId) : Q4 w.heap.size x y z u (w.alloc (.cells #[x, y, z, u] t)) := ⟨by simp [go_sem], by simp [go_sem], by simp [go_sem], by simp [go_sem]⟩
/-- Is a number between two others? -/
def wiB (n a b : Int) : Bool := decide (a ≤ n) && decide (n ≤ b)
theorem wiB_yes {n a b : Int} (h : a ≤ n ∧ n ≤ b) : wiB n a b = true := by unfold wiB; simp; omega
theorem wiB_no {n a b : Int} (h : ¬ (a ≤ n ∧ n ≤ b)) : wiB n a b = false := by unfold wiB; simp; omega
set_option maxHeartbeats 1000000 in
theorem within_any (n a b : Int) (w : World) :
    Calls Tryz.prog 61 #[.int .i64 n, .int .i64 a, .int .i64 b] w fun e w' => e = .returned (.bool (wiB n a b)) ∧ w' = w := by
  by_cases h1 : a ≤ n
  · by_cases h2 : n ≤ b
    · rw [wiB_yes ⟨h1, h2⟩]
      go_enter Tryz.func61, Tryz.ntmps61
      go_wp2
      go_ret
      exact ⟨rfl, rfl⟩
    · rw [wiB_no (by omega)]
      go_enter Tryz.func61, Tryz.ntmps61
      go_wp2
      go_ret
      exact ⟨rfl, rfl⟩
  · rw [wiB_no (by omega)]
    go_enter Tryz.func61, Tryz.ntmps61
    go_wp2
    go_ret
    exact ⟨rfl, rfl⟩
/-- A list of drops in memory. -/
def Drp (w : World) (v : Value) (n : Nat) (at' fa : Nat → Int) : Prop :=
  ∃ (adr : Option Addr) (cap b o : Nat), v = .slice adr n cap ∧ n ≤ cap ∧ cap ≤ maxLen ∧ (0 < n → adr = some ⟨b, o, none⟩) ∧ ∀ k, k < n → (w.cell? ⟨b, o + k * 2, none⟩ = some (.int .i64 (at' k)) ∧ w.cell? ⟨b, o + k * 2 + 1, none⟩ = some (.int .i64 (fa k))) ∧ (-9223372036854775808 ≤ at' k ∧ at' k ≤ 9223372036854775807) ∧ -9223372036854775808 ≤ fa k ∧ fa k ≤ 9223372036854775807
theorem Drp.later {w w' : World} {v : Value} {n : Nat} {at' fa : Nat → Int} (h : Drp w v n at' fa) (hb : Below w.heap.size w w') : Drp w' v n at' fa := by
  obtain ⟨adr, cap, b, o, e, h1, h2, h3, h4⟩ := h
  exact ⟨adr, cap, b, o, e, h1, h2, h3, fun k hk => by obtain ⟨⟨a1, a2⟩, a3⟩ := h4 k hk; exact ⟨⟨cell_later hb a1, cell_later hb a2⟩, a3⟩⟩
/-- A drop that is right behind the one ahead. -/
def okD (at' fa : Nat → Int) (k : Nat) : Prop := (1 ≤ at' k ∧ at' k ≤ 1048576 ∧ 0 ≤ fa k ∧ fa k ≤ 4294967296) ∧ (0 < k → at' (k - 1) < at' k)
/-- How far the drops have come. -/
def ahV (at' : Nat → Int) (j : Nat) : Int := if j = 0 then 0 else at' (j - 1)
theorem ahV_succ (at' : Nat → Int) (j : Nat) : ahV at' (j + 1) = at' j := by unfold ahV; rw [if_neg (by omega), Nat.add_sub_cancel]
theorem okD_iff {at' fa : Nat → Int} {j : Nat} (h : ∀ k, k < j → okD at' fa k) : okD at' fa j ↔ ahV at' j < at' j ∧ at' j ≤ 1048576 ∧ 0 ≤ fa j ∧ fa j ≤ 4294967296 := by
  unfold okD ahV
  rcases Nat.eq_zero_or_pos j with e | e
  · subst e
    simp
    omega
  · rw [if_neg (by omega)]
    have := (h (j - 1) (by omega)).1.1
    constructor
    · rintro ⟨⟨a, b, c, d⟩, f⟩
      exact ⟨f e, b, c, d⟩
    · rintro ⟨a, b, c, d⟩
      exact ⟨⟨by omega, b, c, d⟩, fun _ => a⟩
set_option maxRecDepth 100000 in
set_option maxHeartbeats 4000000 in
theorem rightDrops_any (v : Value) (n : Nat) (at' fa : Nat → Int) (w : World) (hA : Drp w v n at' fa) :
    Calls Tryz.prog 91 #[v] w fun e w' => Tel e (RD n at' fa) ∧ Below w.heap.size w w' := by
  obtain ⟨adr, cap, b, o, rfl, k1, k2, k3, k4⟩ := hA
  unfold maxLen at k2
  by_cases hn : 16 < n
  · have hnI : (16 : Int) < (n : Int) := by omega
    have HF : Hid (¬ RD n at' fa) := fun h => by have := h.1; omega
    clear k3 k4
    go_enter Tryz.func91, Tryz.ntmps91
    go_wp2
    go_ret
    exact ⟨tel_no HF.out, Below.refl _ _⟩
  have hnI : ¬ (16 : Int) < (n : Int) := by omega
  have HC : Hid (∀ k, k < n → w.cell? ⟨b, o + k * 2, none⟩ = some (.int .i64 (at' k)) ∧ w.cell? ⟨b, o + k * 2 + 1, none⟩ = some (.int .i64 (fa k))) := fun k hk => (k4 k hk).1
  have HK : Hid (0 < n → adr = some ⟨b, o, none⟩) := k3
  have HN : Hid (n ≤ 16) := by show n ≤ 16; omega
  clear k3 k4
  go_enter Tryz.func91, Tryz.ntmps91
  go_wp2
  go_loopw [3, 11] (fun s3 si wr => ∃ (j : Nat) (ah : Int), j ≤ n ∧ si = .int .i64 (j : Int) ∧ s3 = .int .i64 ah ∧ Hid (ah = ahV at' j) ∧ Hid (∀ k, k < j → okD at' fa k) ∧ Hid (Below w.heap.size w wr)) (fun _ si _ => n - (intOf si).toNat)
  case atStart => exact ⟨0, 0, by omega, rfl, rfl, rfl, fun k hk => by omega, Below.refl _ _⟩
  case round =>
    obtain ⟨j, ah, hj, rfl, rfl, HA, HO, HW⟩ := hrel
    by_cases hlt : j < n
    · have hjI : (j : Int) < (n : Int) := by omega
      have ea := HK.out (by omega)
      subst ea
      have c0 := cell_later HW.out (HC.out j hlt).1
      have c1 := cell_later HW.out (HC.out j hlt).2
      have HI : Hid (okD at' fa j ↔ ah < at' j ∧ at' j ≤ 1048576 ∧ 0 ≤ fa j ∧ fa j ≤ 4294967296) := by show _ ↔ _; rw [HA.out]; exact okD_iff HO.out
      have HS : Hid (ahV at' (j + 1) = at' j) := ahV_succ at' j
      have HB2 : Hid (Below w.heap.size w (wr.alloc (.cells #[.int .i64 (at' j), .int .i64 (fa j)] 78))) := bchain HW.out (bel1 _ _)
      obtain ⟨x, hx⟩ : ∃ x, at' j = x := ⟨_, rfl⟩
      obtain ⟨y, hy⟩ : ∃ y, fa j = y := ⟨_, rfl⟩
      rw [hx] at c0 HI HS HB2
      rw [hy] at c1 HI HB2
      clear hx hy HA HW
      have HNo : Hid (¬ (ah < x ∧ x ≤ 1048576 ∧ 0 ≤ y ∧ y ≤ 4294967296) → ¬ RD n at' fa) := fun h h' => h (HI.out.1 (h'.2 j hlt))
      by_cases g1 : x ≤ ah
      · go_wp2
        go_ret
        exact ⟨tel_no (HNo.out (by omega)), HB2.out⟩
      by_cases g2 : 1048576 < x
      · go_wp2
        go_ret
        exact ⟨tel_no (HNo.out (by omega)), HB2.out⟩
      by_cases g3 : y < 0
      · go_wp2
        go_ret
        exact ⟨tel_no (HNo.out (by omega)), HB2.out⟩
      by_cases g4 : 4294967296 < y
      · go_wp2
        go_ret
        exact ⟨tel_no (HNo.out (by omega)), HB2.out⟩
      have HO2 : Hid (∀ k, k < j + 1 → okD at' fa k) := fun k hk => by
        rcases Nat.lt_or_ge k j with h | h
        · exact HO.out k h
        · obtain rfl : k = j := by omega
          exact HI.out.2 (by omega)
      clear HI HO HNo
      go_wp2
      go_roundw
      case rel => exact ⟨j + 1, x, by omega, by go_num, rfl, HS.out.symm, HO2, HB2⟩
      case measure => simp [intOf]; omega
    · have hjI : ¬ (j : Int) < (n : Int) := by omega
      have HF : Hid (RD n at' fa) := ⟨HN.out, fun k hk => HO.out k (by omega)⟩
      clear HO HA
      go_wp2
      go_ret
      exact ⟨tel_yes HF.out, HW.out⟩
end Go.Proofs.YtcdehbhdloaieaaGreatDoor
