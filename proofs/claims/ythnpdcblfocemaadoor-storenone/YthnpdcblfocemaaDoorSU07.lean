/-
  Texts of this proof, joined: StAwake StFrame StLawN DqA.
-/
import Derived.Test.YthnpdcblfocemaaDoorRows
import Derived.Test.YthnpdcblfocemaaDoorSU00
import Derived.Test.YthnpdcblfocemaaDoorSU01
import Derived.Test.YthnpdcblfocemaaDoorSU04
import Derived.Test.YthnpdcblfocemaaDoorSU05
import Derived.Test.YthnpdcblfocemaaDoorSU06
import Derived.Test.YthnpdcblfocemaaDoorTie
import Derived.WalkKit
import Derived.ProofKit
import Derived.OpenShut
import Derived.ChangeOld
import Derived.Below
import Derived.Lib.SmallJoins
import Derived.Deep.SlicePairs
import Derived.Carry
import Derived.Lib.LaidTab
import Derived.LaidMore
import Derived.Stop.LaidErr
import Derived.Stop.Joined
import Derived.MapKept
import Derived.ChangeMaps5
set_option linter.unusedVariables false
set_option linter.unusedSimpArgs false
namespace Go.Proofs.YthnpdcblfocemaaDoor
open Go.RowKit

structure Aw18 (s1 s2 : Dsk) : Prop where
  e0 : apS (dNew 9) 1 ⟨⟨0, 0, 0⟩, false⟩ [114] = (180, dNew 9, ⟨⟨0, 0, 0⟩, false⟩)
  e1 : svS (dNew 9) 1 ⟨⟨0, 0, 0⟩, false⟩ [98] = (0, s1, ⟨⟨1, 0, 0⟩, true⟩)
  e2 : apS s1 1 ⟨⟨1, 0, 0⟩, true⟩ [114] = (0, s2, ⟨⟨1, 1, 1⟩, true⟩)
  j0 : Jq 9 (dNew 9)
  j1 : Jq 9 s1
  j2 : Jq 9 s2
  b1 : SB 9 1 0 ⟨⟨1, 0, 0⟩, true⟩
  d2 : s2.dn = false
  b : opB s2 1 = [98]
  l : opL s2 1 = [[114]]
theorem aw18 : ∃ s1 s2, Aw18 s1 s2 := by
  have h0 := srest_new (m := 9) (room := 1) (by decide) (by decide)
  obtain ⟨s1, e1, h1, c1⟩ := h0.calm (calm_new18 9) ⟨⟨0, 0, 0⟩, false⟩ (d := [98]) (by decide) (by decide) (by decide)
  obtain ⟨s2, e2, h2, c2⟩ := h1.calm c1 (r := [114]) (by decide) (by decide) (by decide)
  have hr := h2.rest (by decide)
  obtain ⟨o1, o2⟩ := hr.opB
  have q0 := jq_new 9
  have q1 : Jq 9 s1 := by
    have := jq_save (d := [98]) (j := ⟨⟨0, 0, 0⟩, false⟩) (room := 1) q0 (by decide) (by decide)
    rw [e1] at this
    exact this
  have b1 : SB 9 1 0 ⟨⟨1, 0, 0⟩, true⟩ := ⟨⟨Nat.zero_le _, Nat.zero_le _, by decide⟩, fun _ => by decide⟩
  have q2 : Jq 9 s2 := by
    have := jq_append (r := [114]) q1 b1 (by decide) (by decide)
    have e2' : apS s1 1 ⟨⟨1, 0, 0⟩, true⟩ [114] = (0, s2, ⟨⟨1, 1, 1⟩, true⟩) := e2
    rw [e2'] at this
    exact this
  exact ⟨s1, s2, apS_off rfl, e1, e2, q0, q1, q2, b1, c2.dn, o1, o2⟩
theorem sdSaveY {V : Disk1} {S : Store1 V} {w0 w w1 : World} {d q : Value} {room m : Nat} {s : Dsk} {j : Sst} (h : P2 (SD V S d q room m s j) Nil2 w0 w (fun _ => False)) (k : Below w.heap.size w w1) (hT : S8 w0) (hq : Jq m s) (h1 : 1 ≤ room) (h50 : room ≤ 50) (hr : fb18 room + 1 ≤ m) (hm : m ≤ 900) {v : Value} {r : List Nat} (hv : Bs w1 v r) (ho : Ow w.heap.size v) (hx : ∀ x ∈ r, x < 256) (hl : r.length ≤ 100000) :
    Calls Tryd.prog 8 #[q, v] w1 fun e w' => e = .returned (.int .i64 (((svS s room j r).1 : Nat) : Int)) ∧ P2 (SD V S d q room m (svS s room j r).2.1 (svS s room j r).2.2) Nil2 w0 w' (fun _ => False) :=
  (sdSave owns_nil (h.later (sd_owns _ _ _ _ _ _ _ _) owns_nil k) hT hq h1 h50 hr hm hv (ow_ou ho (Ls.lo hv)) hx hl).mono fun e w' ⟨e1, e2, _⟩ => ⟨e1, e2.weak (fun _ h => h.elim)⟩
theorem sdAppendY {V : Disk1} {S : Store1 V} {w0 w w1 : World} {d q : Value} {room m k : Nat} {s : Dsk} {j : Sst} (h : P2 (SD V S d q room m s j) Nil2 w0 w (fun _ => False)) (k1 : Below w.heap.size w w1) (hT : S8 w0) (hq : Jq m s) (hb : SB m room k j) (hk : k ≤ 1000000) (hr : fb18 room + 1 ≤ m) (hm : m ≤ 900) {v : Value} {r : List Nat} (hv : Bs w1 v r) (ho : Ow w.heap.size v) (hx : ∀ x ∈ r, x < 256) (hl : r.length ≤ 1000000) :
    Calls Tryd.prog 9 #[q, v] w1 fun e w' => e = .returned (.int .i64 (((apS s room j r).1 : Nat) : Int)) ∧ P2 (SD V S d q room m (apS s room j r).2.1 (apS s room j r).2.2) Nil2 w0 w' (fun _ => False) :=
  (sdAppend owns_nil (h.later (sd_owns _ _ _ _ _ _ _ _) owns_nil k1) hT hq hb hk hr hm hv (ow_ou ho (Ls.lo hv)) hx hl).mono fun e w' ⟨e1, e2, _⟩ => ⟨e1, e2.weak (fun _ h => h.elim)⟩
set_option maxRecDepth 100000 in
set_option maxHeartbeats 8000000 in
theorem awake18 {V : Disk1} (S : Store1 V) (w : World) (hT : S8 w) :
    Calls Tryd.prog 6 #[] w fun e w' => e = .returned (.bool true) ∧ Below w.heap.size w w' := by
  obtain ⟨s1, s2, hS⟩ := aw18
  have HS : Hid (Aw18 s1 s2) := hS
  have HT : Hid (S8 w) := hT
  clear hS hT
  have kc := fun (w : World) (C : Array Value) (n c : Nat) => Lib.run_convert_bytes_const (P := Tryd.prog) w 22 5 C n c Tryd.underlying22 Tryd.underlying5
  go_enter Tryd.func6, Tryd.ntmps6
  go_wp2_with fail
  refine (dwNew V w w 9 (by omega) (by omega) (Below.refl _ _)).mono ?_
  rintro e w1 ⟨p, rfl, hD1⟩
  have HD1 : Hid (Dw V w w1 p (dNew 9)) := hD1
  clear hD1
  go_wp2_with fail
  refine (dwOpen S HD1.out HT.out (jq_new 9) (room := 1) (by omega) (by omega) (by decide) (by decide) rfl).mono ?_
  rintro e w2 ⟨a, vb, vl, rfl, hD2, -, -, -⟩
  have HD2 : Hid (P2 (SD V S p (.pointer (some a)) 1 9 (dNew 9) ⟨⟨0, 0, 0⟩, false⟩) Nil2 w w2 (fun _ => False)) := hD2
  clear hD2 HD1
  go_wp2_with fail
  refine (sdAppendY HD2.out (bel1 _ _) HT.out HS.out.j0 (sb_new 9 1) (by decide) (by decide) (by decide) (bs_letter w2 114 _ _) (ow_here (Nat.le_refl _)) (by decide) (by decide)).mono ?_
  rintro e w3 ⟨rfl, hD3⟩
  rw [HS.out.e0] at hD3 ⊢
  have HD3 : Hid (P2 (SD V S p (.pointer (some a)) 1 9 (dNew 9) ⟨⟨0, 0, 0⟩, false⟩) Nil2 w w3 (fun _ => False)) := hD3
  clear hD3 HD2
  go_wp2_with fail
  refine (sdSaveY HD3.out (bel1 _ _) HT.out HS.out.j0 (by decide) (by decide) (by decide) (by decide) (bs_letter w3 98 _ _) (ow_here (Nat.le_refl _)) (by decide) (by decide)).mono ?_
  rintro e w4 ⟨rfl, hD4⟩
  rw [HS.out.e1] at hD4 ⊢
  have HD4 : Hid (P2 (SD V S p (.pointer (some a)) 1 9 s1 ⟨⟨1, 0, 0⟩, true⟩) Nil2 w w4 (fun _ => False)) := hD4
  clear hD4 HD3
  go_wp2_with fail
  refine (sdAppendY HD4.out (bel1 _ _) HT.out HS.out.j1 HS.out.b1 (by decide) (by decide) (by decide) (bs_letter w4 114 _ _) (ow_here (Nat.le_refl _)) (by decide) (by decide)).mono ?_
  rintro e w5 ⟨rfl, hD5⟩
  rw [HS.out.e2] at hD5 ⊢
  have HD5 : Hid (Dw V w w5 p s2) := hD5.sdw
  clear hD5 HD4
  go_wp2_with fail
  refine (dwOpen S HD5.out HT.out HS.out.j2 (room := 1) (by omega) (by omega) (by decide) (by decide) HS.out.d2).mono ?_
  rintro e w6 ⟨a2, vb, vl, rfl, hD6, hB6, hT6, -⟩
  rw [HS.out.b] at hB6
  rw [HS.out.l] at hT6
  have HB6 : Hid (Below w.heap.size w w6) := hD6.bel
  obtain ⟨a5, c5, rfl, -, -⟩ := hB6.len
  obtain ⟨g2, o2, e2, cb⟩ := hB6.cel 0 (by decide)
  subst e2
  obtain ⟨at_, ct, rfl, -, -⟩ := hT6.len
  obtain ⟨b1, o1, x, e1, c1, hx⟩ := hT6.cel 0 (by decide)
  subst e1
  have hx' : Bs w6 x [114] := hx
  obtain ⟨ax, cx, rfl, -, -⟩ := hx'.len
  obtain ⟨gx, ox, e5, d0⟩ := hx'.cel 0 (by decide)
  subst e5
  have kv : ∀ (L : Nat) (g o c : Nat), w6.cell? ⟨g, o, none⟩ = some (.int .u8 (L : Int)) → (convert 22 9 (.slice (some ⟨g, o, none⟩) 1 c)).run Tryd.prog w6 = .ok (.string (strOfNums [L])) w6 := fun L g o c hW => run_convert_bytes_arg (P := Tryd.prog) w6 22 5 Tryd.underlying22 Tryd.underlying5 g o 1 c [L] rfl (fun i hi => by
    obtain rfl : i = 0 := by omega
    exact hW) 9 Tryd.underlying9
  have kv1 : (convert 22 9 (.slice (some ⟨g2, o2, none⟩) 1 c5)).run Tryd.prog w6 = .ok (.string ⟨#[98]⟩) w6 := kv 98 g2 o2 c5 cb
  have kv2 : (convert 22 9 (.slice (some ⟨gx, ox, none⟩) 1 cx)).run Tryd.prog w6 = .ok (.string ⟨#[114]⟩) w6 := kv 114 gx ox cx d0
  have c1' : w6.cell? ⟨b1, o1, none⟩ = some (.slice (some ⟨gx, ox, none⟩) 1 cx) := c1
  have hl1 : ([[114]] : List (List Nat)).length = 1 := rfl
  have hl2 : ([98] : List Nat).length = 1 := rfl
  rw [hl1]
  try rw [hl2]
  clear hB6 hT6 hx hx' hD6 kv c1 d0 cb HD5 hl1 hl2
  go_wp2_with fail
  go_ret
  exact ⟨rfl, HB6.out⟩
end Go.Proofs.YthnpdcblfocemaaDoor
set_option linter.unusedVariables false
namespace Go.Proofs.YthnpdcblfocemaaDoor
open Go.ChangeShapes Go.WideShapes Go.ChangeAt Go.RowKit Go.Joins

theorem own : ownKnob Tryd.prog.godebug = none := by kernel_rfl
theorem laidOutV : laidOutB Tryd.prog = true := by kernel_rfl
theorem cellsByte : Tryd.prog.cellsOf 5 = 1 := by kernel_rfl
theorem cellsBys : Tryd.prog.cellsOf 22 = 1 := by kernel_rfl
theorem cellsInt : Tryd.prog.cellsOf 3 = 1 := by kernel_rfl
theorem add_noneV (b o n : Nat) : (⟨b, o, none⟩ : Addr).add n = ⟨b, o + n, none⟩ := by
  unfold Addr.add
  split
  · subst n; rfl
  · rfl
theorem mk_len {α : Type} (n : Nat) (f : Nat → α) : ((List.range n).map f).length = n := by simp
theorem mk_get {α : Type} (n : Nat) (f : Nat → α) (d : α) (k : Nat) (hk : k < n) : ((List.range n).map f).getD k d = f k := by
  simp [List.getD, hk]
theorem bs_mk {w : World} {v : Value} {n : Nat} {f : Nat → Nat} (h : Ls w v n (fun k => .int .u8 ((f k : Nat) : Int))) : Bs w v ((List.range n).map f) := by
  unfold Bs
  rw [mk_len]
  exact Ls.congr h (fun k hk => by unfold b8f; rw [mk_get n f 0 k hk])
set_option maxRecDepth 100000 in
theorem bytes_raw {H : Type} {enc : TypeId × Value → H} {w : World} {fuel : Nat} {v : Value} {x : DataW H × List MemPlace}
    (h : DataW.trod enc Tryd.prog w 0 (fun _ => true) true fuel 22 [v] = some x) : ∃ l : List Nat, okB l ∧ Bs w v l := by
  rcases Go.Deep.open_slice Tryd.underlying22 h with h0 | ⟨a, len, cap, m, n, D, Pl, hc, hb, hl, hm, hmm, -, hx⟩
  · have hc := h0.1
    simp at hc
    subst hc
    exact ⟨[], ⟨fun c hc => (by cases hc), by simp⟩, ls_none w _⟩
  · simp at hc
    subst hc
    simp only [if_true] at hmm
    subst hmm
    obtain ⟨ab, ao, spot⟩ := a
    have hint : ∀ i, i < len → ∃ q : Nat, w.cell? ((⟨ab, ao, spot⟩ : Addr).add i) = some (.int .u8 (q : Int)) ∧ q < 256 := fun i hi => by
      obtain ⟨cs', h1, h2⟩ := hx i (by omega)
      rw [cellsByte] at h1
      obtain ⟨_, hlen, hcell⟩ := World.cells?_some h1
      obtain ⟨x, e0, _, wx⟩ := DataW.trod_int Tryd.underlying5 h2
      subst e0
      have e1 := hcell 0 (by omega)
      rw [Go.Deep.add_add] at e1
      have hb := bounds_u8 wx
      obtain ⟨y, rfl⟩ : ∃ y : Nat, x = (y : Int) := ⟨x.toNat, by omega⟩
      exact ⟨y, by simpa using e1, by omega⟩
    obtain ⟨q, hq⟩ := Go.Deep.choose_lt hint
    have hmx : m ≤ 9223372036854775807 := hm
    refine ⟨(List.range len).map q, ⟨fun c hc => ?_, by rw [mk_len]; omega⟩, bs_mk ⟨some ⟨ab, ao, spot⟩, m, ab, ao, rfl, hl, ⟨hm, fun e => by cases e⟩, ?_, ?_⟩⟩
    · obtain ⟨k, hk, rfl⟩ := List.mem_map.1 hc
      exact (hq k (List.mem_range.1 hk)).2
    · intro h0
      have hspot : spot = none := by simpa [Addr.add] using World.cell?_spot (hq 0 h0).1
      rw [hspot]
    · intro j hj
      have hspot : spot = none := by simpa [Addr.add] using World.cell?_spot (hq 0 (by omega)).1
      subst hspot
      obtain ⟨d0, d1⟩ := hq j hj
      rw [add_noneV] at d0
      exact d0
set_option maxRecDepth 100000 in
theorem open_bytes {H : Type} {enc : TypeId × Value → H} {w : World} {v : Value} {d : DataW H} {p : List MemPlace} {r : Reach} {b0 : Nat}
    (hv : Value.okWide Tryd.prog w r b0 22 v) (h : DataW.Trod enc Tryd.prog w 0 (fun _ => true) true 22 v d p) : ∃ l : List Nat, okB l ∧ Bs w v l := by
  obtain ⟨adr, len, cap, rfl⟩ := okWide_slice Tryd.underlying22 hv
  obtain ⟨fuel, h⟩ := h
  exact bytes_raw (by simpa [Value.cells] using h)
theorem cellsFate : Tryd.prog.cellsOf 74 = 2 := by kernel_rfl
theorem cellsFates : Tryd.prog.cellsOf 46 = 1 := by kernel_rfl
theorem cellsOp : Tryd.prog.cellsOf 48 = 4 := by kernel_rfl
set_option maxRecDepth 100000 in
theorem fates_raw {H : Type} {enc : TypeId × Value → H} {w : World} {fuel : Nat} {v : Value} {x : DataW H × List MemPlace}
    (h : DataW.trod enc Tryd.prog w 0 (fun _ => true) true fuel 46 [v] = some x) : ∃ fs : List (Int × Int), Fts w v fs := by
  rcases Go.Deep.open_slice Tryd.underlying46 h with h0 | ⟨a, len, cap, m, n, D, Pl, hc, hb, hl, hm, hmm, -, hx⟩
  · have hc := h0.1
    simp at hc
    subst hc
    exact ⟨[], fts_nil w⟩
  · simp at hc
    subst hc
    simp only [if_true] at hmm
    subst hmm
    obtain ⟨ab, ao, spot⟩ := a
    have hint : ∀ i, i < len → ∃ q : Int × Int, w.cell? ((⟨ab, ao, spot⟩ : Addr).add (i * 2)) = some (.int .i64 q.1) ∧ w.cell? ((⟨ab, ao, spot⟩ : Addr).add (i * 2 + 1)) = some (.int .i64 q.2) := fun i hi => by
      obtain ⟨cs', h1, h2⟩ := hx i (by omega)
      rw [cellsFate] at h1
      obtain ⟨_, hlen, hcell⟩ := World.cells?_some h1
      obtain ⟨c0, c1, rfl⟩ : ∃ c0 c1, cs' = [c0, c1] := by
        match cs', hlen with
        | [a, b], _ => exact ⟨a, b, rfl⟩
      obtain ⟨xs, n', -, -, -, hxl, hxx⟩ := DataW.trod_struct Tryd.underlying74 h2
      obtain ⟨y0, y1, rfl⟩ : ∃ y0 y1, xs = [y0, y1] := by
        match xs, hxl with
        | [a, b], _ => exact ⟨a, b, rfl⟩
      have t0 := hxx 0 _ rfl
      have t1 := hxx 1 _ rfl
      simp [cellsInt] at t0 t1
      obtain ⟨k0, e0, -, w0⟩ := DataW.trod_int Tryd.underlying3 t0
      obtain ⟨k1, e1, -, w1⟩ := DataW.trod_int Tryd.underlying3 t1
      simp at e0 e1
      subst e0 e1
      have f0 := hcell 0 (by omega)
      have f1 := hcell 1 (by omega)
      rw [Go.Deep.add_add] at f0 f1
      exact ⟨(k0, k1), by simpa using f0, by simpa using f1⟩
    obtain ⟨q, hq⟩ := Go.Deep.choose_lt hint
    refine ⟨(List.range len).map q, some ⟨ab, ao, spot⟩, m, ab, ao, by rw [mk_len], by rw [mk_len]; exact hl, hm, ?_, ?_⟩
    · intro h0
      rw [mk_len] at h0
      have hspot : spot = none := by simpa [Addr.add] using World.cell?_spot (hq 0 h0).1
      rw [hspot]
    · intro j hj
      rw [mk_len] at hj
      have hspot : spot = none := by simpa [Addr.add] using World.cell?_spot (hq 0 (by omega)).1
      subst hspot
      obtain ⟨d0, d1⟩ := hq j hj
      rw [add_noneV] at d0 d1
      rw [mk_get len q (0, 0) j hj]
      exact ⟨d0, by rw [Nat.add_assoc]; exact d1⟩
set_option maxRecDepth 100000 in
theorem open_ops {H : Type} {enc : TypeId × Value → H} {w : World} {r : Reach} {b0 : Nat} {v : Value} {d : DataW H} {p : List MemPlace}
    (hv : Value.okWide Tryd.prog w r b0 40 v) (h : DataW.Trod enc Tryd.prog w 0 (fun _ => true) true 40 v d p) : ∃ os : List Opv, ((∀ j, j < os.length → ∀ c ∈ (os.getD j op0).b, c < 256) ∧ ∀ j, j < os.length → Bd64 (os.getD j op0).i) ∧ Ops w v os := by
  obtain ⟨adr, len, cap, rfl⟩ := okWide_slice Tryd.underlying40 hv
  obtain ⟨fuel, h⟩ := h
  rcases Go.Deep.open_slice Tryd.underlying40 h with h0 | ⟨a, len', cap', m, n, D, Pl, hc, hb, hl, hm, hmm, -, hx⟩
  · have hc := h0.1
    simp [Value.cells] at hc
    obtain ⟨rfl, rfl, rfl⟩ := hc
    exact ⟨[], ⟨fun t ht => (by simp at ht), fun t ht => (by simp at ht)⟩, none, 0, 0, 0, rfl, Nat.le_refl _, Nat.zero_le _, fun h => by simp at h, fun j hj => by simp at hj⟩
  · simp [Value.cells] at hc
    obtain ⟨rfl, rfl, rfl⟩ := hc
    simp only [if_true] at hmm
    subst hmm
    obtain ⟨ab, ao, spot⟩ := a
    have hint : ∀ i, i < len → ∃ q : Opv × (Value × Value), (w.cell? ((⟨ab, ao, spot⟩ : Addr).add (i * 4)) = some (.int .i64 q.1.k) ∧ w.cell? ((⟨ab, ao, spot⟩ : Addr).add (i * 4 + 1)) = some (.int .i64 q.1.i) ∧ w.cell? ((⟨ab, ao, spot⟩ : Addr).add (i * 4 + 2)) = some q.2.1 ∧ w.cell? ((⟨ab, ao, spot⟩ : Addr).add (i * 4 + 3)) = some q.2.2) ∧ (Bs w q.2.1 q.1.b ∧ Fts w q.2.2 q.1.fs) ∧ okB q.1.b ∧ Bd64 q.1.i := fun i hi => by
      obtain ⟨cs', h1, h2⟩ := hx i (by omega)
      rw [cellsOp] at h1
      obtain ⟨_, hlen, hcell⟩ := World.cells?_some h1
      obtain ⟨c0, c1, c2, c3, rfl⟩ : ∃ c0 c1 c2 c3, cs' = [c0, c1, c2, c3] := by
        match cs', hlen with
        | [a, b, c, d], _ => exact ⟨a, b, c, d, rfl⟩
      obtain ⟨xs, n', -, -, -, hxl, hxx⟩ := DataW.trod_struct Tryd.underlying48 h2
      obtain ⟨y0, y1, y2, y3, rfl⟩ : ∃ y0 y1 y2 y3, xs = [y0, y1, y2, y3] := by
        match xs, hxl with
        | [a, b, c, d], _ => exact ⟨a, b, c, d, rfl⟩
      have t0 := hxx 0 _ rfl
      have t1 := hxx 1 _ rfl
      have t2 := hxx 2 _ rfl
      have t3 := hxx 3 _ rfl
      simp [cellsInt, cellsBys, cellsFates] at t0 t1 t2 t3
      obtain ⟨k0, e0, -, w0⟩ := DataW.trod_int Tryd.underlying3 t0
      obtain ⟨k1, e1, -, w1⟩ := DataW.trod_int Tryd.underlying3 t1
      obtain ⟨lb, gb, hB⟩ := bytes_raw t2
      obtain ⟨ff, hF⟩ := fates_raw t3
      simp at e0 e1
      subst e0 e1
      have f0 := hcell 0 (by omega)
      have f1 := hcell 1 (by omega)
      have f2 := hcell 2 (by omega)
      have f3 := hcell 3 (by omega)
      rw [Go.Deep.add_add] at f0 f1 f2 f3
      exact ⟨(⟨k0, k1, lb, ff⟩, c2, c3), ⟨by simpa using f0, by simpa using f1, by simpa using f2, by simpa using f3⟩, ⟨hB, hF⟩, gb, bounds_i64 w1⟩
    haveI : Inhabited (Opv × (Value × Value)) := ⟨(op0, .bool false, .bool false)⟩
    obtain ⟨q, hq⟩ := Go.Deep.choose_lt hint
    refine ⟨(List.range len).map (fun i => (q i).1), ⟨fun j hj => ?_, fun j hj => ?_⟩, some ⟨ab, ao, spot⟩, m, ab, ao, by rw [mk_len], by rw [mk_len]; exact hl, hm, ?_, ?_⟩
    · rw [mk_len] at hj
      rw [mk_get len (fun i => (q i).1) op0 j hj]
      exact (hq j hj).2.2.1.1
    · rw [mk_len] at hj
      rw [mk_get len (fun i => (q i).1) op0 j hj]
      exact (hq j hj).2.2.2
    · intro h0
      rw [mk_len] at h0
      have hspot : spot = none := by simpa [Addr.add] using World.cell?_spot (hq 0 h0).1.1
      rw [hspot]
    · intro j hj
      rw [mk_len] at hj
      have hspot : spot = none := by simpa [Addr.add] using World.cell?_spot (hq 0 (by omega)).1.1
      subst hspot
      obtain ⟨⟨d0, d1, d2, d3⟩, ⟨z1, z2⟩, -⟩ := hq j hj
      rw [add_noneV] at d0 d1 d2 d3
      refine ⟨(q j).2.1, (q j).2.2, ?_⟩
      rw [mk_get len (fun i => (q i).1) op0 j hj]
      exact ⟨d0, by rw [Nat.add_assoc]; exact d1, by rw [Nat.add_assoc]; exact d2, by rw [Nat.add_assoc]; exact d3, z1, z2⟩
def laidA : List (String × DataW Unit) := [("regatta/crc.halves", Rows.laid_regatta_crc_halves), ("regatta/journal.widths", Rows.laid_regatta_journal_widths)]
theorem gTbN : Tryd.prog.globalNamed "regatta/crc.halves" = some 1 := by kernel_rfl
theorem tTbN : (Tryd.prog.globals[1]?).map (·.type) = some 137 := by kernel_rfl
theorem cellsTb : Tryd.prog.cellsOf 137 = 16 := by kernel_rfl
theorem cellsU32 : Tryd.prog.cellsOf 121 = 1 := by kernel_rfl
def tbZ : List Int := (List.range 16).map (fun i => ((cZs 4 i : Nat) : Int))
theorem tb_datum : (Rows.laid_regatta_crc_halves : DataW Unit) = Lib.tabData .u32 tbZ := by kernel_rfl
theorem tb_head {rest : List (String × DataW Unit)} {W : World} (h : laidMet Tryd.prog (("regatta/crc.halves", Rows.laid_regatta_crc_halves) :: rest) W) : TbAt W := by
  rw [tb_datum] at h
  have hT := Lib.tabIs_of_head gTbN tTbN Tryd.underlying137 Tryd.underlying121 cellsU32 cellsTb h
  intro j hj
  have hc := hT.cell gTbN j (by unfold tbZ; rw [List.length_map, List.length_range]; exact hj)
  rw [hc]
  simp [tbZ, List.getD, hj]
theorem gWdN : Tryd.prog.globalNamed "regatta/journal.widths" = some 0 := by kernel_rfl
theorem tWdN : (Tryd.prog.globals[0]?).map (·.type) = some 119 := by kernel_rfl
theorem undWdN : Tryd.prog.underlying 119 = some (.array 5 3) := by kernel_rfl
theorem cellsWd : Tryd.prog.cellsOf 119 = 5 := by kernel_rfl
def wdZ : List Int := [4, 2, 2, 8, 8]
theorem wd_datum : (Rows.laid_regatta_journal_widths : DataW Unit) = Lib.tabData .i64 wdZ := by kernel_rfl
theorem wd_head {rest : List (String × DataW Unit)} {W : World} (h : laidMet Tryd.prog (("regatta/journal.widths", Rows.laid_regatta_journal_widths) :: rest) W) : JT W := by
  rw [wd_datum] at h
  have hT := Lib.tabIs_of_head gWdN tWdN undWdN Tryd.underlying3 cellsInt cellsWd h
  exact ⟨hT.cell gWdN 0 (by decide), hT.cell gWdN 1 (by decide), hT.cell gWdN 2 (by decide), hT.cell gWdN 3 (by decide), hT.cell gWdN 4 (by decide)⟩
theorem tabs_of_A {W : World} (h : laidMetH Tryd.prog laidA W) : S8 W := by
  rw [MakeChecks.laidMetH_plain _ _ _ (by kernel_rfl)] at h
  exact ⟨tb_head h, wd_head (laidMet.tail h)⟩
theorem door_A (os : Os) (args : Array Value) : laidMetH Tryd.prog laidA ((World.doorLaid Tryd.prog 400 os).forCall (fun _ _ => 0) ⟨#[], args, []⟩).memory :=
  laidMetH_of_parts3 (fuel := 8) (laidMet_of_run' 8 (by kernel_rfl) (by kernel_rfl)) (by kernel_rfl) (by kernel_rfl)
end Go.Proofs.YthnpdcblfocemaaDoor
set_option linter.unusedVariables false
set_option linter.unusedSimpArgs false
namespace Go.Proofs.YthnpdcblfocemaaDoor
open Go.RowKit

set_option maxRecDepth 100000 in
set_option maxHeartbeats 8000000 in
theorem storeNone_any {V : Disk1} (S : Store1 V) (Z : Store0) (room : Int) (h1 : Bd64 room) (v : Value) (l : List Nat) (w : World) (h : Bs w v l) (hT : S8 w) :
    Calls Tryd.prog 3 #[.int .i64 room, v] w fun e w' => e = .returned (.bool true) ∧ Below w.heap.size w w' := by
  have HL : Hid (Bs w v l) := h
  have HA : Hid (Bd64 room) := h1
  have HT : Hid (S8 w) := hT
  obtain ⟨ad, cap, rfl, -, -⟩ := h.len
  obtain ⟨n, hn⟩ : ∃ n, l.length = n := ⟨_, rfl⟩
  have HN : Hid (l.length = n) := hn
  rw [hn] at HL ⊢
  clear h h1 hn hT
  go_enter Tryd.func3, Tryd.ntmps3
  go_wp2_with fail
  refine (awake18 S w HT.out).mono ?_
  rintro e w1 ⟨rfl, hb1⟩
  have HB1 : Hid (Below w.heap.size w w1) := hb1
  clear hb1
  by_cases g1 : 1000 < n
  · have g1I : (1000 : Int) < (n : Int) := by omega
    go_wp2
    go_ret
    exact ⟨rfl, HB1.out⟩
  have g1I : ¬ (1000 : Int) < (n : Int) := by omega
  go_wp2_with fail
  refine (Z.opn w1 room HA.out).mono ?_
  rintro e w3 ⟨vb, vl, rfl, hB, hT3, hb3⟩
  have HB3 : Hid (Below w.heap.size w w3) := bchain HB1.out hb3
  obtain ⟨ab, cb, rfl, -, -⟩ := hB.len
  obtain ⟨al, cl, rfl, -, -⟩ := hT3.len
  rw [show ([] : List Nat).length = 0 from rfl, show ([] : List (List Nat)).length = 0 from rfl]
  clear hb3 HB1 hB hT3
  obtain ⟨w4, hw4⟩ : ∃ w4, w4 = w3.alloc (.cells #[.pointer none, .pointer none, .bool false] 35) := ⟨_, rfl⟩
  obtain ⟨w5, hw5⟩ : ∃ w5, w5 = w4.alloc (.cells #[.pointer none, .pointer (some ⟨w3.heap.size, 0, none⟩)] 25) := ⟨_, rfl⟩
  have s4 : w4.heap.size = w3.heap.size + 1 := by rw [hw4]; simp
  have H5 : Hid (Below w.heap.size w w5 ∧ ∀ j, j < 2 → ∃ qo, w5.cell? ⟨w3.heap.size + 1, j, none⟩ = some (.pointer qo) ∧ Z.Qt w5 (.pointer qo)) := by
    have b4 : Below w3.heap.size w3 w4 := by rw [hw4]; exact bel1 _ _
    have b5 : Below w4.heap.size w4 w5 := by rw [hw5]; exact bel1 _ _
    have z4 : Z.Qt w4 (.pointer (some ⟨w3.heap.size, 0, none⟩)) := by rw [hw4]; exact Z.qZ w3
    refine ⟨bchain (bchain HB3.out b4) b5, fun j hj => ?_⟩
    rw [← s4]
    have : j = 0 ∨ j = 1 := by omega
    rcases this with rfl | rfl
    · exact ⟨none, by rw [hw5]; simp [go_sem], Z.qN w5⟩
    · exact ⟨_, by rw [hw5]; simp [go_sem], Z.qL z4 b5⟩
  go_upto_region 11 with fail
  rw [← hw4, ← hw5]
  clear hw4 hw5 s4 HB3
  generalize w3.heap.size + 1 = bl at *
  go_loopw [45] (fun s45 wr => ∃ j : Nat, j ≤ 2 ∧ s45 = .int .i64 (j : Int) ∧ Hid (Below w5.heap.size w5 wr)) (fun s45 _ => 2 - (intOf s45).toNat)
  case atStart => exact ⟨0, by omega, rfl, Below.refl _ _⟩
  case round =>
    obtain ⟨j, hj, rfl, HB⟩ := hrel
    by_cases hlt : j < 2
    · have hjI : (j : Int) < (2 : Int) := by omega
      have hj0 : (0 : Int) ≤ (j : Int) := by omega
      obtain ⟨qo, c0, hq⟩ := H5.out.2 j hlt
      have x0 := cell_later HB.out c0
      have HQ : Hid (Z.Qt wr (.pointer qo)) := Z.qL hq HB.out
      clear c0 hq
      go_wp2_with fail
      refine (Z.save wr _ _ l HQ.out (HL.out.later (bchain H5.out.1 HB.out)) (by have := HN.out; omega)).mono ?_
      rintro e w6 ⟨rfl, hb6⟩
      have HB6 : Hid (Below w5.heap.size w5 w6 ∧ Z.Qt w6 (.pointer qo)) := ⟨bchain HB.out hb6, Z.qL HQ.out hb6⟩
      clear hb6 HB HQ x0
      go_wp2_with fail
      refine (Z.append w6 _ _ l HB6.out.2 (HL.out.later (bchain H5.out.1 HB6.out.1)) (by have := HN.out; omega)).mono ?_
      rintro e w7 ⟨rfl, hb7⟩
      have HB7 : Hid (Below w5.heap.size w5 w7 ∧ Z.Qt w7 (.pointer qo)) := ⟨bchain HB6.out.1 hb7, Z.qL HB6.out.2 hb7⟩
      clear hb7 HB6
      go_wp2_with fail
      refine (Z.left w7 _ HB7.out.2).mono ?_
      rintro e w8 ⟨rfl, hb8⟩
      have HB8 : Hid (Below w5.heap.size w5 w8 ∧ Z.Qt w8 (.pointer qo)) := ⟨bchain HB7.out.1 hb8, Z.qL HB7.out.2 hb8⟩
      clear hb8 HB7
      go_wp2_with fail
      refine (Z.begun w8 _ HB8.out.2).mono ?_
      rintro e w9 ⟨rfl, hb9⟩
      have HB9 : Hid (Below w5.heap.size w5 w9) := bchain HB8.out.1 hb9
      clear hb9 HB8
      go_wp2
      go_roundw
      case rel => exact ⟨j + 1, by omega, by go_num, HB9⟩
      case measure => simp [intOf]; omega
    · obtain rfl : j = 2 := by omega
      have HE : Hid (Below w.heap.size w wr) := bchain H5.out.1 HB.out
      clear HB
      go_wp2
      go_ret
      exact ⟨rfl, HE.out⟩
end Go.Proofs.YthnpdcblfocemaaDoor
set_option linter.unusedVariables false
set_option linter.unusedSimpArgs false
namespace Go.Proofs.YthnpdcblfocemaaDoor
open Go.RowKit Go.MapKept Go.ChangeMaps

def zr15 : List Nat := List.replicate 128 0
theorem zr_len : zr15.length = 128 := by unfold zr15; rw [List.length_replicate]
theorem zr_get (j : Nat) : zr15.getD j 0 = 0 := by
  unfold zr15
  rw [List.getD_eq_getElem?_getD, List.getElem?_replicate]
  split <;> rfl
def bkV (b : List Nat) : Value := .agg (b8 b).toArray
def key15 (i : Nat) : Value := .int .i64 (i : Int)
theorem key15_inj {i j : Nat} (h : key15 i = key15 j) : i = j := by
  unfold key15 at h
  injection h with _ h
  omega
structure Ent (es : Array MapEntry) (bl : List (List Nat)) : Prop where
  all : ∀ e ∈ es.toList, ∃ i, i < bl.length ∧ e.key = key15 i ∧ e.val = bkV (bl.getD i [])
  two : es.toList.Pairwise fun x y => x.key ≠ y.key
  non : ∀ i, i < bl.length → (∀ e ∈ es.toList, e.key ≠ key15 i) → bl.getD i [] = zr15
def Mz (w : World) (M : Nat) (bl : List (List Nat)) : Prop := ∃ es clock, w.heap[M]? = some (.map es clock) ∧ Ent es bl
theorem Mz.lt {w : World} {M : Nat} {bl : List (List Nat)} (h : Mz w M bl) : M < w.heap.size := by
  obtain ⟨es, c, h, -⟩ := h
  exact (Array.getElem?_eq_some_iff.1 h).1
theorem Mz.kept {w w' : World} {M : Nat} {bl : List (List Nat)} (h : Mz w M bl) (k : w'.heap[M]? = w.heap[M]?) : Mz w' M bl := by
  obtain ⟨es, c, h1, h2⟩ := h
  exact ⟨es, c, k.trans h1, h2⟩
theorem Mz.fro {w : World} {M : Nat} {bl : List (List Nat)} (h : Mz w M bl) (o : Nat) : w.cell? ⟨M, o, none⟩ = none := by
  obtain ⟨es, c, h1, h2⟩ := h
  simp [World.cell?, h1]
theorem Mz.made (w : World) (n : Nat) : Mz (w.alloc (.map #[] 0)) w.heap.size (List.replicate n zr15) :=
  ⟨#[], 0, (heap_alloc w _).1, fun e he => by simp at he, by simp, fun i hi _ => by
    rw [List.length_replicate] at hi
    simp [List.getD, hi]⟩
theorem und_map15 : Tryd.prog.underlying 63 = some (.map 3 68) := by kernel_rfl
theorem und_int15 : Tryd.prog.underlying 3 = some (.int .i64) := by kernel_rfl
theorem info_blk15 : (Tryd.prog.info? 68).map (fun i => (i.zero, i.size)) = some (some (bkV zr15), 128) := by kernel_rfl
theorem zero_blk15 (w : World) : (zeroValue 68).run Tryd.prog w = .ok (bkV zr15) w := by
  have h := info_blk15
  cases hq : Tryd.prog.info? 68 with
  | none => rw [hq] at h; simp at h
  | some i =>
    rw [hq] at h
    simp only [Option.map_some, Option.some.injEq, Prod.mk.injEq] at h
    simp [zeroValue, typeInfo, hq, h.1]
theorem isKey15 (i : Nat) : IsKey (.int .i64) (key15 i) := by unfold key15; simp [IsKey]
theorem Ent.keys {es : Array MapEntry} {bl : List (List Nat)} (h : Ent es bl) : ∀ x ∈ es.toList, IsKey (.int .i64) x.key := fun x hx => by
  obtain ⟨i, _, e, _⟩ := h.all x hx
  rw [e]
  exact isKey15 i
theorem map_look {w : World} {M : Nat} {bl : List (List Nat)} (h : Mz w M bl) (i : Nat) (hi : i < bl.length) :
    (Instr.lookup 63 (.map (some M)) (key15 i) false).run Tryd.prog w = .ok (bkV (bl.getD i [])) w := by
  obtain ⟨es, clock, hb, H⟩ := h
  rcases findNow_spec (isKey15 i) es.toList 0 H.keys with ⟨h1, h2⟩ | ⟨j, e0, h1, h2, h3⟩
  · rw [H.non i hi h2]
    simp [Instr.lookup, run_underlying und_map15, MapKept.run_getObj_map hb, run_checkKey und_int15 (isKey15 i), run_findKey und_int15 h1, zero_blk15, Result.andThen] <;> kernel_rfl
  · obtain ⟨i', hi', e1, e2⟩ := H.all e0 (List.mem_of_getElem? h2)
    have : i' = i := key15_inj (e1.symm.trans h3)
    subst this
    simp [Instr.lookup, run_underlying und_map15, MapKept.run_getObj_map hb, run_checkKey und_int15 (isKey15 i'), run_findKey und_int15 h1, Result.andThen, e2]
theorem ent_mem_set {es : Array MapEntry} {bl : List (List Nat)} (H : Ent es bl) {j : Nat} {e0 : MapEntry} (h2 : es.toList[j]? = some e0) (u : MapEntry) {x : MapEntry} (hx : x ∈ es.toList.set j u) : x = u ∨ (x ∈ es.toList ∧ x.key ≠ e0.key) := by
  obtain ⟨k, hk, ex⟩ := List.getElem_of_mem hx
  rw [List.getElem_set] at ex
  split at ex
  · exact Or.inl ex.symm
  · rename_i hne
    have hk' : k < es.toList.length := by simpa using hk
    obtain ⟨hj, ej⟩ := List.getElem?_eq_some_iff.1 h2
    refine Or.inr ⟨ex ▸ List.getElem_mem hk', ?_⟩
    have hp := List.pairwise_iff_getElem.1 H.two
    rw [← ex, ← ej]
    rcases Nat.lt_or_gt_of_ne hne with q | q
    · exact fun e => hp j k hj hk' q e.symm
    · exact hp k j hk' hj q
theorem ent_get {bl : List (List Nat)} (i : Nat) (b : List Nat) (hi : i < bl.length) : (bl.set i b).getD i [] = b := by simp [List.getD, List.getElem?_set, hi]
theorem ent_ne {bl : List (List Nat)} {i k : Nat} (b : List Nat) (h : i ≠ k) : (bl.set i b).getD k [] = bl.getD k [] := by simp [List.getD, List.getElem?_set, h]
theorem map_put {w : World} {M : Nat} {bl : List (List Nat)} (h : Mz w M bl) (i : Nat) (b : List Nat) (hi : i < bl.length) :
    ∃ w', (Instr.mapUpdate 63 (.map (some M)) (key15 i) (bkV b)).run Tryd.prog w = .ok () w' ∧ Mz w' M (bl.set i b) ∧ Kp (fun k => k = M) w w' := by
  obtain ⟨es, clock, hb, H⟩ := h
  have kp : ∀ o, Kp (fun k => k = M) w (setBlock w M o) := fun o => ⟨rfl, rfl, rfl, by simp [setBlock], fun k _ hn => heap_setBlock_other hb o hn⟩
  rcases findNow_spec (isKey15 i) es.toList 0 H.keys with ⟨h1, h2⟩ | ⟨j, e0, h1, h2, h3⟩
  · refine ⟨setBlock w M (.map (es.push ⟨key15 i, bkV b, clock⟩) (clock + 1)), ?_, ⟨_, _, heap_setBlock_same hb _, fun x hx => ?_, ?_, fun k hk hn => ?_⟩, kp _⟩
    · simp [Instr.mapUpdate, run_underlying und_map15, MapKept.run_getObj_map hb, run_checkKey und_int15 (isKey15 i), run_findKey und_int15 h1, MapKept.run_setObj_map _ hb, Result.andThen, setBlock]
    · simp only [Array.toList_push, List.mem_append, List.mem_singleton] at hx
      rw [List.length_set]
      rcases hx with hx | rfl
      · obtain ⟨k, hk, e1, e2⟩ := H.all x hx
        have hne : i ≠ k := fun e => h2 x hx (by rw [e1, e])
        exact ⟨k, hk, e1, by rw [ent_ne b hne]; exact e2⟩
      · exact ⟨i, hi, rfl, by rw [ent_get i b hi]⟩
    · rw [Array.toList_push, List.pairwise_append]
      refine ⟨H.two, by simp, fun x hx y hy => ?_⟩
      rw [List.mem_singleton] at hy
      subst hy
      exact h2 x hx
    · rw [List.length_set] at hk
      have hne : i ≠ k := fun e => hn ⟨key15 i, bkV b, clock⟩ (by simp) (by rw [e])
      rw [ent_ne b hne]
      exact H.non k hk (fun e he => hn e (by simp [he]))
  · have hj : es[j]? = some e0 := by simpa using h2
    have hlist : (es.modify j (fun e' => { e' with key := key15 i, val := bkV b })).toList = es.toList.set j { e0 with key := key15 i, val := bkV b } := by rw [Array.toList_modify, modify_eq_set _ _ _ _ h2]
    have hjl : j < es.toList.length := (List.getElem?_eq_some_iff.1 h2).1
    refine ⟨setBlock w M (.map (es.modify j (fun e' => { e' with key := key15 i, val := bkV b })) clock), ?_, ⟨_, _, heap_setBlock_same hb _, fun x hx => ?_, ?_, fun k hk hn => ?_⟩, kp _⟩
    · simp [Instr.mapUpdate, run_underlying und_map15, MapKept.run_getObj_map hb, run_checkKey und_int15 (isKey15 i), run_findKey und_int15 h1, hj, h3, run_keyThatStays (isKey15 i), MapKept.run_setObj_map _ hb, Result.andThen, setBlock]
    · rw [hlist] at hx
      rw [List.length_set]
      rcases ent_mem_set H h2 _ hx with rfl | ⟨hx', hne⟩
      · exact ⟨i, hi, rfl, by rw [ent_get i b hi]⟩
      · obtain ⟨k, hk, e1, e2⟩ := H.all x hx'
        have hik : i ≠ k := fun e => hne (by rw [h3, e1, e])
        exact ⟨k, hk, e1, by rw [ent_ne b hik]; exact e2⟩
    · rw [hlist]
      have hp := List.pairwise_iff_getElem.1 H.two
      obtain ⟨_, ej⟩ := List.getElem?_eq_some_iff.1 h2
      refine List.pairwise_iff_getElem.2 (fun p q hp1 hq1 hpq => ?_)
      have hp2 : p < es.toList.length := by simpa using hp1
      have hq2 : q < es.toList.length := by simpa using hq1
      rw [List.getElem_set, List.getElem_set]
      split
      · rename_i e
        subst e
        rw [if_neg (by omega)]
        have := hp j q hp2 hq2 hpq
        rw [ej, h3] at this
        exact this
      · split
        · rename_i e2
          subst e2
          have := hp p j hp2 hq2 hpq
          rw [ej, h3] at this
          exact this
        · exact hp p q hp2 hq2 hpq
    · rw [List.length_set] at hk
      rw [hlist] at hn
      have hne : i ≠ k := fun e => hn { e0 with key := key15 i, val := bkV b } (List.mem_iff_getElem.2 ⟨j, by simpa using hjl, by simp⟩) (by rw [e])
      rw [ent_ne b hne]
      refine H.non k hk (fun e he => ?_)
      obtain ⟨q, hq, eq⟩ := List.getElem_of_mem he
      by_cases hqj : j = q
      · subst hqj
        obtain ⟨_, ej⟩ := List.getElem?_eq_some_iff.1 h2
        rw [← eq, ej, h3]
        exact fun e => hne (key15_inj e)
      · refine hn e (List.mem_iff_getElem.2 ⟨q, by simpa using hq, ?_⟩)
        rw [List.getElem_set, if_neg hqj]
        exact eq
theorem map_del {w : World} {M : Nat} {bl : List (List Nat)} (h : Mz w M bl) (i : Nat) (hi : i < bl.length) :
    ∃ w', (∀ ty, (Builtin.delete_ #[63, 3] ty #[.map (some M), key15 i]).run Tryd.prog w = .ok (.tuple #[]) w') ∧ Mz w' M (bl.set i zr15) ∧ Kp (fun k => k = M) w w' := by
  obtain ⟨es, clock, hb, H⟩ := h
  have kp : ∀ o, Kp (fun k => k = M) w (setBlock w M o) := fun o => ⟨rfl, rfl, rfl, by simp [setBlock], fun k _ hn => heap_setBlock_other hb o hn⟩
  rcases findNow_spec (isKey15 i) es.toList 0 H.keys with ⟨h1, h2⟩ | ⟨j, e0, h1, h2, h3⟩
  · refine ⟨setBlock w M (.map es clock), ?_, ⟨_, _, heap_setBlock_same hb _, fun x hx => ?_, H.two, fun k hk hn => ?_⟩, kp _⟩
    · intro ty; simp [Builtin.delete_, run_underlying und_map15, MapKept.run_getObj_map hb, run_checkKey und_int15 (isKey15 i), run_findKey und_int15 h1, MapKept.run_setObj_map _ hb, Result.andThen, setBlock]
    · rw [List.length_set]
      obtain ⟨k, hk, e1, e2⟩ := H.all x hx
      have hne : i ≠ k := fun e => h2 x hx (by rw [e1, e])
      exact ⟨k, hk, e1, by rw [ent_ne _ hne]; exact e2⟩
    · rw [List.length_set] at hk
      by_cases hik : i = k
      · subst hik; rw [ent_get i _ hi]
      · rw [ent_ne _ hik]; exact H.non k hk hn
  · have hjl : j < es.toList.length := (List.getElem?_eq_some_iff.1 h2).1
    have hjs : j < es.size := by simpa using hjl
    obtain ⟨_, ej⟩ := List.getElem?_eq_some_iff.1 h2
    have hsub : (es.eraseIdxIfInBounds j).toList = es.toList.eraseIdx j := by
      unfold Array.eraseIdxIfInBounds
      rw [dif_pos hjs]
      simp
    have hp := List.pairwise_iff_getElem.1 H.two
    have far : ∀ x ∈ es.toList.eraseIdx j, x ∈ es.toList ∧ x.key ≠ key15 i := by
      intro x hx
      obtain ⟨q, hne, hq⟩ := List.mem_eraseIdx_iff_getElem?.1 hx
      obtain ⟨hql, eq⟩ := List.getElem?_eq_some_iff.1 hq
      refine ⟨List.mem_of_getElem? hq, ?_⟩
      rw [← eq, ← h3, ← ej]
      rcases Nat.lt_or_gt_of_ne hne with q2 | q2
      · exact hp q j hql hjl q2
      · exact fun e => hp j q hjl hql q2 e.symm
    refine ⟨setBlock w M (.map (es.eraseIdxIfInBounds j) clock), ?_, ⟨_, _, heap_setBlock_same hb _, fun x hx => ?_, ?_, fun k hk hn => ?_⟩, kp _⟩
    · intro ty; simp [Builtin.delete_, run_underlying und_map15, MapKept.run_getObj_map hb, run_checkKey und_int15 (isKey15 i), run_findKey und_int15 h1, MapKept.run_setObj_map _ hb, Result.andThen, setBlock]
    · rw [hsub] at hx
      rw [List.length_set]
      obtain ⟨hx', hne⟩ := far x hx
      obtain ⟨k, hk, e1, e2⟩ := H.all x hx'
      have hik : i ≠ k := fun e => hne (by rw [e1, e])
      exact ⟨k, hk, e1, by rw [ent_ne _ hik]; exact e2⟩
    · rw [hsub]
      exact H.two.sublist (List.eraseIdx_sublist _ _)
    · rw [List.length_set] at hk
      rw [hsub] at hn
      by_cases hik : i = k
      · subst hik; rw [ent_get i _ hi]
      · rw [ent_ne _ hik]
        refine H.non k hk (fun e he => ?_)
        obtain ⟨q, hq, eq⟩ := List.getElem_of_mem he
        by_cases hqj : q = j
        · subst hqj
          rw [← eq, ej, h3]
          exact fun e => hik (key15_inj e)
        · exact hn e (List.mem_eraseIdx_iff_getElem?.2 ⟨q, hqj, by rw [List.getElem?_eq_getElem hq, eq]⟩)
theorem plainU8' : Tryd.prog.plainKey 5 = true := by kernel_rfl
theorem cellsU8'' : Tryd.prog.cellsOf 5 = 1 := by kernel_rfl
theorem und_blk15 : Tryd.prog.underlying 68 = some (.array 128 5) := by kernel_rfl
theorem und_byte15 : Tryd.prog.underlying 5 = some (.int .u8) := by kernel_rfl
theorem b8_get (l : List Nat) (j : Nat) (hj : j < l.length) : (b8 l).toArray[j]? = some (.int .u8 ((l.getD j 0 : Nat) : Int)) := by
  simp [b8, List.getD, hj]
theorem eq_items15 (f : List Nat) (hf : f.length = 128) (W : World) : ∀ is : List Nat, (∀ i ∈ is, i < 128) → (Op.eqItems 9999 5 1 (b8 f).toArray (b8 zr15).toArray is).run Tryd.prog W = .ok (is.all (fun i => f.getD i 0 == 0)) W := by
  intro is
  induction is with
  | nil => intro _; rfl
  | cons j is ih =>
    intro h
    have hj := h j (by simp)
    have p1 : (part 5 (b8 f).toArray (j * 1)).run Tryd.prog W = .ok (.int .u8 ((f.getD j 0 : Nat) : Int)) W := run_part_plain W plainU8' (by rw [Nat.mul_one]; exact b8_get f j (by omega))
    have p2 : (part 5 (b8 zr15).toArray (j * 1)).run Tryd.prog W = .ok (.int .u8 0) W := run_part_plain W plainU8' (by
      rw [Nat.mul_one, b8_get zr15 j (by rw [zr_len]; exact hj), zr_get]
      rfl)
    have p3 : (Op.equalIn 9999 5 (.int .u8 ((f.getD j 0 : Nat) : Int)) (.int .u8 0)).run Tryd.prog W = .ok (((f.getD j 0 : Nat) : Int) == 0) W := run_equalIn_int W 9998 5 .u8 .u8 _ _ und_byte15
    have ih2 := ih (fun i hi => h i (by simp [hi]))
    have e : (((f.getD j 0 : Nat) : Int) == 0) = (f.getD j 0 == 0) := by
      rw [Bool.eq_iff_iff, beq_iff_eq, beq_iff_eq]; omega
    simp only [Op.eqItems, Sem.run_bind, p1, p2, p3, Result.andThen_ok, List.all_cons, e]
    cases hz : (f.getD j 0 == 0)
    · rfl
    · simpa using ih2
theorem eq_zero15 (f : List Nat) (hf : f.length = 128) (W : World) : (Op.equalIn 10000 68 (bkV f) (bkV zr15)).run Tryd.prog W = .ok (decide (f = zr15)) W := by
  obtain ⟨i0, hi⟩ : ∃ i, Tryd.prog.info? 5 = some i := by
    have h : (Tryd.prog.info? 5).isSome = true := by kernel_rfl
    exact Option.isSome_iff_exists.1 h
  have h := run_equalIn_array W 9999 (b8 f).toArray (b8 zr15).toArray und_blk15 hi
  rw [cellsU8'', eq_items15 f hf W _ (fun i hi => List.mem_range.1 hi)] at h
  have e : (List.range 128).all (fun i => f.getD i 0 == 0) = decide (f = zr15) := by
    rw [Bool.eq_iff_iff, List.all_eq_true, decide_eq_true_iff]
    constructor
    · intro h
      apply List.ext_getElem
      · rw [hf, zr_len]
      · intro k h1 h2
        have h3 := h k (List.mem_range.2 (by omega))
        rw [beq_iff_eq] at h3
        have e : f.getD k 0 = f[k] := by rw [List.getD_eq_getElem?_getD, List.getElem?_eq_getElem h1]; rfl
        have e2 : zr15.getD k 0 = zr15[k] := by rw [List.getD_eq_getElem?_getD, List.getElem?_eq_getElem h2]; rfl
        rw [← e, ← e2, h3, zr_get]
    · intro h i hi
      rw [h, zr_get]
      rfl
  rw [e] at h
  exact h
end Go.Proofs.YthnpdcblfocemaaDoor
