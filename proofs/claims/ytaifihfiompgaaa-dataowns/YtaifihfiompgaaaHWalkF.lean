/-
  The contract of rand's travel.
-/
import Derived.Test.YtaifihfiompgaaaHWalkE
import Derived.Test.YtaifihfiompgaaaEDraw
import Derived.ScopeJumps
import Derived.WalkMore
import Derived.Deep.RegionHeld3
import Derived.Deep.QuietTactic
import Derived.BigQuiet
set_option linter.unusedVariables false
set_option linter.unusedSimpArgs false
namespace Go.Proofs.Ytaifihfiompgaaa
open Go.RowKit

theorem least' (p : Nat → Prop) (h : ∃ n, p n) : ∃ q, p q ∧ ∀ k, k < q → ¬ p k := by
  classical
  obtain ⟨m, hm⟩ := h
  obtain ⟨q, h1, -, h3⟩ := least p m hm
  exact ⟨q, h1, h3⟩
theorem jump_mono {l : Nat} {J J' : Act → World → Prop} {Q : Exit → Act → World → Prop} (h : ∀ a w, J a w → J' a w) : ∀ e a w, Exit.jump l J Q e a w → Exit.jump l J' Q e a w := fun e a w hh => by
  cases e with
  | goto l' => exact ⟨hh.1, h _ _ hh.2⟩
  | _ => exact hh
/-- A label at the beginning that is gone back to: what holds at it, with a number that gets less. -/
theorem wp_again {P : Program} {Q : Exit → Act → World → Prop} {a : Act} {w : World} {c : Code} (l : Nat) (J : Nat → Act → World → Prop) (N : Nat) (h0 : J N a w)
    (pass : ∀ n a w, J n a w → c.wp P (Exit.jump l (fun a' w' => ∃ n', n' < n ∧ J n' a' w') Q) a w) : (Code.scope ((Code.label l).seq c)).wp P Q a w := by
  obtain ⟨mu, hmu⟩ : ∃ mu : Act → World → Nat, ∀ a w, (∃ n, J n a w) → J (mu a w) a w ∧ ∀ k, J k a w → mu a w ≤ k := by
    classical
    refine ⟨fun a w => if h : ∃ n, J n a w then Classical.choose (least' (fun n => J n a w) h) else 0, fun a w h => ?_⟩
    have hs := Classical.choose_spec (least' (fun n => J n a w) h)
    simp only [dif_pos h]
    exact ⟨hs.1, fun k hk => Nat.le_of_not_lt (fun hlt => hs.2 k hlt hk)⟩
  have hp : ∀ a w, (∃ n, J n a w) → c.wp P (Exit.jump l (fun a' w' => (∃ n, J n a' w') ∧ mu a' w' < mu a w) Q) a w := fun a w h => by
    obtain ⟨h1, h2⟩ := hmu a w h
    refine Code.wp_mono (jump_mono (fun a' w' ⟨n', hlt, hJ⟩ => ⟨⟨n', hJ⟩, ?_⟩)) (pass _ a w h1)
    exact Nat.lt_of_le_of_lt ((hmu a' w' ⟨n', hJ⟩).2 n' hJ) hlt
  refine wp_scope_jumps (rest := Code.skip.seq c) l (fun a w => ∃ n, J n a w) mu (by simp [findLabel]) ?_ ?_
  · exact wp_seq (wp_label (Code.wp_mono (jump_mono (fun _ _ h => h.1)) (hp a w ⟨N, h0⟩)))
  · intro a w hJ
    exact wp_seq (wp_skip (hp a w hJ))
/-- A swap as a value. -/
def sv : Value := .func (.func 35) #[] #[]
/-- A step of a trip as a value. -/
def Stp (w : World) (k : Nat) (v : Value) (f : Nat × Nat → Nat × Nat) : Prop :=
  (∃ Bb Bk Tb, v = rv Bb Bk Tb ∧ ∀ (u l : Nat) (W : World), Below w.heap.size w W → u < 2 ^ k → l < 2 ^ k → Calls Try.prog 37 #[.agg #[.int .i64 (u : Int), .int .i64 (l : Int)], .pointer (some ⟨Bb, 0, none⟩), .pointer (some ⟨Bk, 0, none⟩), .pointer (some ⟨Tb, 0, none⟩)] W fun e w' => e = .returned (.agg #[.int .i64 (((f (u, l)).1 : Nat) : Int), .int .i64 (((f (u, l)).2 : Nat) : Int)]) ∧ Below W.heap.size W w') ∨
  (v = sv ∧ ∀ (u l : Nat) (W : World), Calls Try.prog 35 #[.agg #[.int .i64 (u : Int), .int .i64 (l : Int)]] W fun e w' => e = .returned (.agg #[.int .i64 (((f (u, l)).1 : Nat) : Int), .int .i64 (((f (u, l)).2 : Nat) : Int)]) ∧ Below W.heap.size W w')
/-- So many steps. -/
def stps (op : Nat → Nat × Nat → Nat × Nat) : Nat → Nat × Nat → Nat × Nat
  | 0, p => p
  | j + 1, p => op j (stps op j p)
/-- A trip. -/
def tpF (op : Nat → Nat × Nat → Nat × Nat) (m k x : Nat) : Nat := (stps op m (x / 2 ^ k, x % 2 ^ k)).1 * 2 ^ k + (stps op m (x / 2 ^ k, x % 2 ^ k)).2
theorem or63 (a b : Nat) (ha : a < 9223372036854775808) (hb : b < 9223372036854775808) : bits .or .i64 (a : Int) (b : Int) = ((a ||| b : Nat) : Int) := by
  have hx : a ||| b < 2 ^ 63 := Nat.or_lt_two_pow (by omega) (by omega)
  have h1 : (BitVec.ofInt 64 (a : Int)).toNat = a := by
    rw [BitVec.ofInt_natCast, BitVec.toNat_ofNat]; exact Nat.mod_eq_of_lt (by omega)
  have h2 : (BitVec.ofInt 64 (b : Int)).toNat = b := by
    rw [BitVec.ofInt_natCast, BitVec.toNat_ofNat]; exact Nat.mod_eq_of_lt (by omega)
  show IntKind.i64.wrap ((BitVec.ofInt 64 (a : Int) ||| BitVec.ofInt 64 (b : Int)).toNat : Int) = _
  rw [BitVec.toNat_or, h1, h2, IntKind.wrap_i64]
  omega
theorem or_join (l r k : Nat) (hr : r < 2 ^ k) : l * 2 ^ k ||| r = l * 2 ^ k + r := by
  rw [← Nat.shiftLeft_eq, Nat.shiftLeft_add_eq_or_of_lt hr]
set_option maxRecDepth 100000 in
set_option maxHeartbeats 8000000 in
theorem travel_any (g cap m k n x0 M : Nat) (F : Nat → Value) (op : Nat → Nat × Nat → Nat × Nat) (w : World) (k1 : 1 ≤ k) (k8 : k ≤ 8) (hm : m ≤ 6) (hm2 : m ≤ cap) (hcap : cap ≤ maxLen) (hn : n ≤ 65536) (hx0 : x0 < n) (hnk : n ≤ 2 ^ k * 2 ^ k) (hR : Rw g m F w) (hF : ∀ j, j < m → Stp w k (F j) (op j)) (hop : ∀ j p, j < m → p.1 < 2 ^ k → p.2 < 2 ^ k → (op j p).1 < 2 ^ k ∧ (op j p).2 < 2 ^ k)
    (M1 : 1 ≤ M) (hM : itr (tpF op m k) M x0 < n ∧ ∀ q, 1 ≤ q → q < M → n ≤ itr (tpF op m k) q x0) :
    Calls Try.prog 29 #[.slice (some ⟨g, 0, none⟩) m cap, .int .i64 (k : Int), .int .i64 (n : Int), .int .i64 (x0 : Int)] w fun e w' => ∃ x : Nat, e = .returned (.int .i64 (x : Int)) ∧ Gets (tpF op m k) n x0 x ∧ Below w.heap.size w w' := by
  unfold maxLen at hcap
  have h256 : 2 ^ k ≤ 2 ^ 8 := Nat.pow_le_pow_right (by omega) k8
  have hpos : 0 < 2 ^ k := Nat.two_pow_pos k
  obtain ⟨S, hS⟩ : ∃ S, 2 ^ k = S := ⟨_, rfl⟩
  have HS : Hid (2 ^ k = S) := hS
  have HR : Hid (Rw g m F w) := hR
  have HF : Hid (∀ j, j < m → Stp w k (F j) (op j)) := hF
  have Hop : Hid (∀ j p, j < m → p.1 < S → p.2 < S → (op j p).1 < S ∧ (op j p).2 < S) := by rw [hS] at hop; exact hop
  have HM : Hid (itr (tpF op m k) M x0 < n ∧ ∀ q, 1 ≤ q → q < M → n ≤ itr (tpF op m k) q x0) := hM
  have HnS : Hid (n ≤ S * S) := by rw [hS] at hnk; exact hnk
  rw [hS] at h256 hpos
  clear hR hF hop hM hnk hS
  go_enter Try.func29, Try.ntmps29
  go_wp2
  refine wp_again 0 (fun N a' w' => ∃ (q x : Nat) (u4 u5 u6 u7 u8 u9 u10 u11 u12 u13 u14 u15 u16 u17 u18 u19 u20 u21 u22 u23 u24 u25 u26 u27 u28 u29 u30 u31 u32 u33 u34 u35 u36 u37 u38 u39 u40 : Value), a' = { tmps := #[.slice (some ⟨g, 0, none⟩) m cap, .int .i64 (k : Int), .int .i64 (n : Int), .int .i64 (x : Int), u4, u5, u6, u7, u8, u9, u10, u11, u12, u13, u14, u15, u16, u17, u18, u19, u20, u21, u22, u23, u24, u25, u26, u27, u28, u29, u30, u31, u32, u33, u34, u35, u36, u37, u38, u39, u40], defers := [] } ∧ N + q = M ∧ q < M ∧ itr (tpF op m k) q x0 = x ∧ x < S * S ∧ Below w.heap.size w w') M ⟨0, x0, _, _, _, _, _, _, _, _, _, _, _, _, _, _, _, _, _, _, _, _, _, _, _, _, _, _, _, _, _, _, _, _, _, _, _, _, _, rfl, by omega, by omega, rfl, by have := HnS.out; omega, Below.refl _ _⟩ ?_
  rintro N a' w' ⟨q, x, u4, u5, u6, u7, u8, u9, u10, u11, u12, u13, u14, u15, u16, u17, u18, u19, u20, u21, u22, u23, u24, u25, u26, u27, u28, u29, u30, u31, u32, u33, u34, u35, u36, u37, u38, u39, u40, rfl, hNq, hqM, hx, hxS, hW⟩
  have HX : Hid (itr (tpF op m k) q x0 = x) := hx
  have HW : Hid (Below w.heap.size w w') := hW
  have hSS : S * S ≤ 65536 := Nat.mul_le_mul h256 h256
  have hxx : x < 65536 := by omega
  have HXS : Hid (x < S * S) := hxS
  clear hx hW hxS hSS
  have hdl : x / S < S := Nat.div_lt_of_lt_mul HXS.out
  have hml : x % S < S := Nat.mod_lt _ hpos
  have CL : Hid (∀ W : World, Calls Try.prog 34 #[.int .i64 (k : Int), .int .u64 (x : Int)] W fun e w' => e = .returned (.int .i64 ((x % S : Nat) : Int)) ∧ w' = W) := fun W => by rw [← HS.out]; exact lowest_any k x k8 (by omega) W
  have HT : Hid (∀ l r : Nat, stps op m (x / S, x % S) = (l, r) → tpF op m k x = l * S + r) := fun l r h => by unfold tpF; rw [HS.out, h]
  have ed : (x : Int) / (2 : Int) ^ k = ((x / S : Nat) : Int) := by rw [show (2 : Int) ^ k = ((S : Nat) : Int) by rw [← HS.out, Int.natCast_pow]; rfl, Int.natCast_ediv]
  have e6 : min k 64 = k := by omega
  have hk0 : (0 : Int) ≤ (k : Int) := by omega
  have eu : IntKind.u64.wrap (x : Int) = (x : Int) := by rw [IntKind.wrap_u64]; omega
  obtain ⟨l0, hl0⟩ : ∃ l, x / S = l := ⟨_, rfl⟩
  obtain ⟨r0, hr0⟩ : ∃ l, x % S = l := ⟨_, rfl⟩
  rw [hl0] at hdl ed HT
  rw [hr0] at hml HT CL
  clear hl0 hr0
  go_wp2_with fail
  have hd1 : Below w'.heap.size w' w'.drew := (Below.refl _ _).drew
  have HW1 : Hid (Below w.heap.size w w'.drew) := bchain HW.out hd1
  have Hsz : Hid (w.heap.size ≤ w'.heap.size) := HW.out.size
  have HW0 : Hid (Below w.heap.size w w') := HW.out
  clear hd1 HW
  have HBx : Hid (Bx w'.heap.size (.int .i64 (l0 : Int)) (.int .i64 (r0 : Int)) (w'.alloc (.cells #[.int .i64 (l0 : Int), .int .i64 (r0 : Int)] 69)).drew) := (Bx.new w' (.int .i64 (l0 : Int)) (.int .i64 (r0 : Int)) 69).later ((Below.refl _ _).drew)
  have HW2 : Hid (Below w.heap.size w (w'.alloc (.cells #[.int .i64 (l0 : Int), .int .i64 (r0 : Int)] 69)).drew) := (HW0.out.alloc Hsz.out _).drew
  go_cut [9] (fun s9 wc => ∃ hb : Nat, s9 = .pointer (some ⟨hb, 0, none⟩) ∧ w.heap.size ≤ hb ∧ Hid (Bx hb (.int .i64 (l0 : Int)) (.int .i64 (r0 : Int)) wc) ∧ Hid (Below w.heap.size w wc))
  case first =>
    go_region_held3 (fun _ => True) (exact trivial)
      (first | (go_at_call 34; refine (CL.out _).mono ?_; rintro e wy ⟨rfl, hy⟩; subst hy))
    all_goals (go_wp2_with fail; go_meet; exact ⟨_, rfl, Hsz.out, HBx, HW2⟩)
  case rest =>
    rename World => wb
    obtain ⟨hb, rfl, hbs, HB, HWb⟩ := hcut
    clear HBx HW2 HW0 HW1 CL ed eu Hsz
    go_upto_region 3 with fail
    go_loopw [22] (fun si wr => ∃ (j l r : Nat), j ≤ m ∧ si = .int .i64 (j : Int) ∧ l < S ∧ r < S ∧ Hid (stps op j (l0, r0) = (l, r)) ∧ Hid (Bx hb (.int .i64 (l : Int)) (.int .i64 (r : Int)) wr) ∧ Hid (Below w.heap.size w wr)) (fun si _ => m - (intOf si).toNat)
    case atStart => exact ⟨0, l0, r0, by omega, rfl, hdl, hml, rfl, HB, HWb⟩
    case round =>
      rename World => wr
      obtain ⟨j, l, r, hj, rfl, hl, hr, HSt, HBr, HWr⟩ := hrel
      by_cases hlt : j < m
      · have hjI : (j : Int) < (m : Int) := by omega
        have cj : wr.cell? ⟨g, j, none⟩ = some (F j) := (HR.out.later HWr.out).c j hlt
        have b0 := HBr.out.c0
        have b1 := HBr.out.c1
        have b2 := HBr.out.f0
        have b3 := HBr.out.f1
        obtain ⟨l2, r2, he⟩ : ∃ l2 r2, op j (l, r) = (l2, r2) := ⟨_, _, rfl⟩
        have ho := Hop.out j (l, r) hlt hl hr
        rw [he] at ho
        obtain ⟨hl2, hr2⟩ := ho
        have HSt2 : Hid (stps op (j + 1) (l0, r0) = (l2, r2)) := by show op j (stps op j (l0, r0)) = _; rw [HSt.out, he]
        rcases HF.out j hlt with ⟨Bb, Bk, Tb, hv, hc⟩ | ⟨hv, hc⟩
        · rw [hv] at cj
          unfold rv at cj
          clear hv
          have CM : Hid (Calls Try.prog 37 #[.agg #[.int .i64 (l : Int), .int .i64 (r : Int)], .pointer (some ⟨Bb, 0, none⟩), .pointer (some ⟨Bk, 0, none⟩), .pointer (some ⟨Tb, 0, none⟩)] wr fun e w' => e = .returned (.agg #[.int .i64 (l2 : Int), .int .i64 (r2 : Int)]) ∧ Below wr.heap.size wr w') := by
            have h := hc l r wr HWr.out (by rw [HS.out]; exact hl) (by rw [HS.out]; exact hr)
            rw [he] at h
            exact h
          clear hc he
          go_wp2_with (go_at_call 37; refine CM.out.mono ?_; rintro e wz ⟨rfl, hbz⟩; have HBz := HBr.out.later hbz; have y0 := HBz.c0; have y1 := HBz.c1; have y2 := HBz.f0; have y3 := HBz.f1; have HB2 : Hid (Bx hb (.int .i64 (l2 : Int)) (.int .i64 (r2 : Int)) ((wz.setCell ⟨hb, 0, none⟩ (.int .i64 (l2 : Int))).setCell ⟨hb, 1, none⟩ (.int .i64 (r2 : Int)))) := HBz.set _ _; have HW2 : Hid (Below w.heap.size w ((wz.setCell ⟨hb, 0, none⟩ (.int .i64 (l2 : Int))).setCell ⟨hb, 1, none⟩ (.int .i64 (r2 : Int)))) := ((bchain HWr.out hbz).setCell hbs _).setCell hbs _; clear hbz HBz b0 b1 b2 b3 cj)
          go_roundw
          case rel => exact ⟨j + 1, l2, r2, by omega, by go_num, hl2, hr2, HSt2, HB2, HW2⟩
          case measure => simp [intOf]; omega
        · rw [hv] at cj
          unfold sv at cj
          clear hv
          have CM : Hid (Calls Try.prog 35 #[.agg #[.int .i64 (l : Int), .int .i64 (r : Int)]] wr fun e w' => e = .returned (.agg #[.int .i64 (l2 : Int), .int .i64 (r2 : Int)]) ∧ Below wr.heap.size wr w') := by
            have h := hc l r wr
            rw [he] at h
            exact h
          clear hc he
          go_wp2_with (go_at_call 35; refine CM.out.mono ?_; rintro e wz ⟨rfl, hbz⟩; have HBz := HBr.out.later hbz; have y0 := HBz.c0; have y1 := HBz.c1; have y2 := HBz.f0; have y3 := HBz.f1; have HB2 : Hid (Bx hb (.int .i64 (l2 : Int)) (.int .i64 (r2 : Int)) ((wz.setCell ⟨hb, 0, none⟩ (.int .i64 (l2 : Int))).setCell ⟨hb, 1, none⟩ (.int .i64 (r2 : Int)))) := HBz.set _ _; have HW2 : Hid (Below w.heap.size w ((wz.setCell ⟨hb, 0, none⟩ (.int .i64 (l2 : Int))).setCell ⟨hb, 1, none⟩ (.int .i64 (r2 : Int)))) := ((bchain HWr.out hbz).setCell hbs _).setCell hbs _; clear hbz HBz b0 b1 b2 b3 cj)
          go_roundw
          case rel => exact ⟨j + 1, l2, r2, by omega, by go_num, hl2, hr2, HSt2, HB2, HW2⟩
          case measure => simp [intOf]; omega
      · obtain rfl : j = m := by omega
        have hjI : ¬ (j : Int) < (j : Int) := by omega
        have hTx := HT.out l r HSt.out
        have b0 := HBr.out.c0
        have b1 := HBr.out.c1
        have hle : l * S ≤ 65536 := Nat.mul_le_mul (show l ≤ 256 by omega) h256
        have hoj : l * S ||| r = l * S + r := by rw [← HS.out]; exact or_join l r k (by rw [HS.out]; exact hr)
        have hor := or63 (l * S) r (by omega) (by omega)
        rw [hoj] at hor
        have esl : IntKind.i64.wrap ((l : Int) * (2 : Int) ^ k) = ((l * S : Nat) : Int) := by rw [show (2 : Int) ^ k = ((S : Nat) : Int) by rw [← HS.out, Int.natCast_pow]; rfl, ← Int.natCast_mul, IntKind.wrap_i64]; omega
        have HX2 : Hid (itr (tpF op j k) (q + 1) x0 = l * S + r) := by show tpF op j k (itr (tpF op j k) q x0) = _; rw [HX.out, hTx]
        have HJ2 : Hid (l * S + r < S * S) := join_lt S l r hl hr
        generalize l * S = ls at *
        obtain ⟨y, hy⟩ : ∃ y, ls + r = y := ⟨_, rfl⟩
        rw [hy] at hor HX2 HJ2
        have hyb : y ≤ 66000 := by omega
        clear hTx hoj hy
        have HWd : Hid (∀ q, Below w.heap.size w (wr.drewN q)) := fun q => below_drewN HWr.out q
        go_upto_region 7 with fail
        by_cases hge : n ≤ y
        · have hgI : (n : Int) ≤ (y : Int) := by omega
          have hqM2 : q + 1 < M := by
            rcases Nat.lt_or_ge (q + 1) M with h | h
            · exact h
            · have e : q + 1 = M := by omega
              have h1 := HM.out.1
              rw [← e, HX2.out] at h1
              omega
          go_quiet (fail)
          go_wp2_with fail
          go_step3
          show (0 : Nat) = 0 ∧ _
          exact ⟨rfl, N - 1, by omega, q + 1, y, _, _, _, _, _, _, _, _, _, _, _, _, _, _, _, _, _, _, _, _, _, _, _, _, _, _, _, _, _, _, _, _, _, _, _, _, _, rfl, by omega, hqM2, HX2.out, HJ2.out, HWd.out _⟩
        · have hgI : ¬ (n : Int) ≤ (y : Int) := by omega
          have HG : Hid (Gets (tpF op j k) n x0 y) := ⟨q + 1, by omega, HX2.out, by omega, fun p p1 p2 => HM.out.2 p p1 (by omega)⟩
          go_quiet (fail)
          go_wp2
          simp only [Exit.jump]
          go_ret
          exact ⟨y, rfl, HG.out, HWd.out _⟩
end Go.Proofs.Ytaifihfiompgaaa
