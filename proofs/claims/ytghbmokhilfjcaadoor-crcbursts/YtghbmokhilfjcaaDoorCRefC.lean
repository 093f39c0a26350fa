/-
  The document's sum (regattaref11): what is left of a polynomial.
-/
import Derived.Test.YtghbmokhilfjcaaDoorCRow
import Derived.Test.YtghbmokhilfjcaaDoorCRefA
set_option linter.unusedVariables false
set_option linter.unusedSimpArgs false
namespace Go.Proofs.YtghbmokhilfjcaaDoor
open Go.RowKit

/-- The powers of the polynomial, as the document's text lays them. -/
def PwAt (w : World) : Prop := ∀ m, m < 14 → w.cell? ⟨1, m, none⟩ = some (.int .i64 ((pw m : Nat) : Int))
theorem PwAt.later {w w' : World} (h : PwAt w) (hb : Below w.heap.size w w') : PwAt w' := fun m hm => cell_later hb (h m hm)
theorem PwAt.wr {b : Nat} {w w' : World} (h : PwAt w) (hW : Wr b w w') (hb : 1 ≠ b) : PwAt w' := fun m hm => hW.cell hb (h m hm)
set_option maxRecDepth 100000 in
set_option maxHeartbeats 8000000 in
theorem refLeft (g n cap : Nat) (f : Nat → Nat) (hf : ∀ k, f k < 2) (hn : n ≤ 1000000) (w : World) (hr : Rw g (n + 32) (nt f) w) (hc1 : n + 32 ≤ cap) (hc2 : cap ≤ maxLen) (hP : PwAt w) (hg : 1 ≠ g) :
    Calls Tryd.prog 19 #[.slice (some ⟨g, 0, none⟩) (n + 32) cap] w fun e w' => e = .returned (.slice (some ⟨g, n, none⟩) 32 (cap - n)) ∧ Rw g (n + 32) (nt (lF f n)) w' ∧ Wr g w w' := by
  unfold maxLen at hc2
  obtain ⟨N, hN⟩ : ∃ N, n + 32 = N := ⟨_, rfl⟩
  have HN : Hid (n + 32 = N) := hN
  have hNn : N ≤ 1000032 := by omega
  have hN32 : 32 ≤ N := by omega
  have HR0 : Hid (Rw g N (nt (lF f 0)) w) := by
    show Rw g N (nt (lF f 0)) w
    rw [← hN]
    exact nt_congr hr (fun k _ => (lF_zero f hf k).symm)
  have HP : Hid (PwAt w) := hP
  rw [hN] at hc1 ⊢
  clear hr hP hN
  go_enter Tryd.func19, Tryd.ntmps19
  go_upto_region 2 with fail
  go_loopw [3] (fun s3 wr => ∃ i : Nat, i ≤ n ∧ s3 = .int .i64 (i : Int) ∧ Hid (Rw g N (nt (lF f i)) wr ∧ Wr g w wr)) (fun s3 _ => n - (intOf s3).toNat)
  case atStart => exact ⟨0, by omega, rfl, ⟨HR0.out, Wr.same g w⟩⟩
  case round =>
    clear HR0
    obtain ⟨i, hi, rfl, HR⟩ := hrel
    have hNe := HN.out
    by_cases hlt : i < n
    · have hiI : (i : Int) + 32 < (N : Int) := by omega
      have hci : wr.cell? ⟨g, i, none⟩ = some (.int .i64 ((lF f i i : Nat) : Int)) := HR.out.1.c i (by omega)
      have hfi := HR.out.1.f i (by omega)
      by_cases h0 : lF f i i = 0
      · have HR1 : Hid (Rw g N (nt (lF f (i + 1))) wr ∧ Wr g w wr) := ⟨nt_congr HR.out.1 (fun k _ => (lF_even f hf i h0 k).symm), HR.out.2⟩
        rw [h0] at hci
        clear HR hNe
        go_wp2
        go_roundw
        case rel => exact ⟨i + 1, by omega, by go_num, HR1⟩
        case measure => simp [intOf]; omega
      · have hx : ¬ ((lF f i i : Nat) : Int) = 0 := by omega
        have HO : Hid (∀ k, k < N → gF f i 14 k = lF f (i + 1) k) := fun k _ => (lF_odd f hf i h0 k).symm
        have HG0 : Hid (Rw g N (nt (gF f i 0)) (wr.setCell ⟨g, i, none⟩ (.int .i64 0)) ∧ Wr g w (wr.setCell ⟨g, i, none⟩ (.int .i64 0))) := ⟨nt_congr (nt_set HR.out.1 i 0) (fun k _ => (gF_zero f i k).symm), HR.out.2.set i _⟩
        generalize lF f i i = x at *
        clear HR hNe h0
        go_upto_region 7 with fail
        generalize wr.setCell ⟨g, i, none⟩ (.int .i64 0) = w2 at *
        clear hci hfi
        rename World => wo
        go_loopw [4] (fun s4 wr => ∃ m : Nat, m ≤ 14 ∧ s4 = .int .i64 (m : Int) ∧ Hid (Rw g N (nt (gF f i m)) wr ∧ Wr g w wr)) (fun s4 _ => 14 - (intOf s4).toNat)
        case atStart => exact ⟨0, by omega, rfl, HG0⟩
        case round =>
          clear HG0
          obtain ⟨m, hm, rfl, HG⟩ := hrel
          have hNe := HN.out
          by_cases hm14 : m < 14
          · have hmI : (m : Int) < 14 := by omega
            have hpl := pw_le m hm14
            have hcp : wr.cell? ⟨1, m, none⟩ = some (.int .i64 ((pw m : Nat) : Int)) := HP.out.wr HG.out.2 hg m hm14
            obtain ⟨a, ha⟩ : ∃ a, i + 32 - pw m = a := ⟨_, rfl⟩
            have haN : a < N := by omega
            have hca : wr.cell? ⟨g, a, none⟩ = some (.int .i64 ((gF f i m a : Nat) : Int)) := HG.out.1.c a haN
            have hfa := HG.out.1.f a haN
            have hlt2 := gF_lt f hf i m a
            have HS : Hid (∀ k, k < N → (if k = a then 1 - gF f i m a else gF f i m k) = gF f i (m + 1) k) := fun k _ => by rw [gF_step f i m k hm14, ha]
            have hsum : (i : Int) + 32 - ((pw m : Nat) : Int) = (a : Int) := by omega
            have HG1 : Hid (Rw g N (nt (gF f i (m + 1))) (wr.setCell ⟨g, a, none⟩ (.int .i64 ((1 - gF f i m a : Nat) : Int))) ∧ Wr g w (wr.setCell ⟨g, a, none⟩ (.int .i64 ((1 - gF f i m a : Nat) : Int)))) := ⟨nt_congr (nt_set HG.out.1 a _) HS.out, HG.out.2.set a _⟩
            have hone : (1 : Int) - ((gF f i m a : Nat) : Int) = ((1 - gF f i m a : Nat) : Int) := by omega
            generalize gF f i m a = y at *
            have hwa : IntKind.i64.wrap ((i : Int) + 32 - ((pw m : Nat) : Int)) = (a : Int) := by rw [IntKind.wrap_i64]; omega
            generalize pw m = p at *
            clear HS HG ha hNe
            go_wp2
            go_roundw
            case rel => exact ⟨m + 1, by omega, by go_num, by first | exact HG1 | (rw [← hone] at HG1; exact HG1)⟩
            case measure => simp [intOf]; omega
          · obtain rfl : m = 14 := by omega
            have hmI : ¬ ((14 : Nat) : Int) < 14 := by omega
            have HR1 : Hid (Rw g N (nt (lF f (i + 1))) wr ∧ Wr g w wr) := ⟨nt_congr HG.out.1 HO.out, HG.out.2⟩
            clear HG hNe
            go_wp2
            go_roundw
            case rel => exact ⟨i + 1, by omega, by go_num, HR1⟩
            case measure => simp [intOf]; omega
    · obtain rfl : i = n := by omega
      have hiI : ¬ (i : Int) + 32 < (N : Int) := by omega
      have hsl : (N : Int) - 32 = (i : Int) := by omega
      have hr1 : (0 : Int) ≤ (i : Int) := by omega
      go_wp2
      go_ret
      exact ⟨by show Ending.returned (Value.slice (some ⟨g, i, none⟩) (N - i) (cap - i)) = _; rw [show N - i = 32 by omega], HR.out⟩
end Go.Proofs.YtghbmokhilfjcaaDoor
