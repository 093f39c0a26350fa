/-
  Texts of this proof, joined: StAwake StFrame StArm.
-/
import Derived.Test.YthnpdcblfocemaaGreatDoorRows
import Derived.Test.YthnpdcblfocemaaGreatDoorSP09
import Derived.Test.YthnpdcblfocemaaGreatDoorSP13
import Derived.Test.YthnpdcblfocemaaGreatDoorSP16
import Derived.Test.YthnpdcblfocemaaGreatDoorTie
import Derived.WalkKit
import Derived.ProofKit
import Derived.OpenShut
import Derived.ChangeOld
import Derived.Below
import Derived.Lib.SmallJoins
import Derived.Deep.SlicePairs
import Derived.Carry
import Derived.Lib.LaidTab
import Derived.LaidMore
import Derived.Stop.LaidErr
import Derived.Stop.Joined
set_option linter.unusedVariables false
set_option linter.unusedSimpArgs false
namespace Go.Proofs.YthnpdcblfocemaaGreatDoor
open Go.RowKit

structure Aw18 (s1 s2 : Dsk) : Prop where
  e0 : apS (dNew 9) 1 ⟨⟨0, 0, 0⟩, false⟩ [114] = (180, dNew 9, ⟨⟨0, 0, 0⟩, false⟩)
  e1 : svS (dNew 9) 1 ⟨⟨0, 0, 0⟩, false⟩ [98] = (0, s1, ⟨⟨1, 0, 0⟩, true⟩)
  e2 : apS s1 1 ⟨⟨1, 0, 0⟩, true⟩ [114] = (0, s2, ⟨⟨1, 1, 1⟩, true⟩)
  j0 : Jq 9 (dNew 9)
  j1 : Jq 9 s1
  j2 : Jq 9 s2
  b1 : SB 9 1 0 ⟨⟨1, 0, 0⟩, true⟩
  d2 : s2.dn = false
  b : opB s2 1 = [98]
  l : opL s2 1 = [[114]]
theorem aw18 : ∃ s1 s2, Aw18 s1 s2 := by
  have h0 := srest_new (m := 9) (room := 1) (by decide) (by decide)
  obtain ⟨s1, e1, h1, c1⟩ := h0.calm (calm_new18 9) ⟨⟨0, 0, 0⟩, false⟩ (d := [98]) (by decide) (by decide) (by decide)
  obtain ⟨s2, e2, h2, c2⟩ := h1.calm c1 (r := [114]) (by decide) (by decide) (by decide)
  have hr := h2.rest (by decide)
  obtain ⟨o1, o2⟩ := hr.opB
  have q0 := jq_new 9
  have q1 : Jq 9 s1 := by
    have := jq_save (d := [98]) (j := ⟨⟨0, 0, 0⟩, false⟩) (room := 1) q0 (by decide) (by decide)
    rw [e1] at this
    exact this
  have b1 : SB 9 1 0 ⟨⟨1, 0, 0⟩, true⟩ := ⟨⟨Nat.zero_le _, Nat.zero_le _, by decide⟩, fun _ => by decide⟩
  have q2 : Jq 9 s2 := by
    have := jq_append (r := [114]) q1 b1 (by decide) (by decide)
    have e2' : apS s1 1 ⟨⟨1, 0, 0⟩, true⟩ [114] = (0, s2, ⟨⟨1, 1, 1⟩, true⟩) := e2
    rw [e2'] at this
    exact this
  exact ⟨s1, s2, apS_off rfl, e1, e2, q0, q1, q2, b1, c2.dn, o1, o2⟩
theorem sdSaveY {V : Disk1} {S : Store1 V} {w0 w w1 : World} {d q : Value} {room m : Nat} {s : Dsk} {j : Sst} (h : P2 (SD V S d q room m s j) Nil2 w0 w (fun _ => False)) (k : Below w.heap.size w w1) (hT : S8 w0) (hq : Jq m s) (h1 : 1 ≤ room) (h50 : room ≤ 50) (hr : fb18 room + 1 ≤ m) (hm : m ≤ 900) {v : Value} {r : List Nat} (hv : Bs w1 v r) (ho : Ow w.heap.size v) (hx : ∀ x ∈ r, x < 256) (hl : r.length ≤ 100000) :
    Calls Tryz.prog 13 #[q, v] w1 fun e w' => e = .returned (.int .i64 (((svS s room j r).1 : Nat) : Int)) ∧ P2 (SD V S d q room m (svS s room j r).2.1 (svS s room j r).2.2) Nil2 w0 w' (fun _ => False) :=
  (sdSave owns_nil (h.later (sd_owns _ _ _ _ _ _ _ _) owns_nil k) hT hq h1 h50 hr hm hv (ow_ou ho (Ls.lo hv)) hx hl).mono fun e w' ⟨e1, e2, _⟩ => ⟨e1, e2.weak (fun _ h => h.elim)⟩
theorem sdAppendY {V : Disk1} {S : Store1 V} {w0 w w1 : World} {d q : Value} {room m k : Nat} {s : Dsk} {j : Sst} (h : P2 (SD V S d q room m s j) Nil2 w0 w (fun _ => False)) (k1 : Below w.heap.size w w1) (hT : S8 w0) (hq : Jq m s) (hb : SB m room k j) (hk : k ≤ 1000000) (hr : fb18 room + 1 ≤ m) (hm : m ≤ 900) {v : Value} {r : List Nat} (hv : Bs w1 v r) (ho : Ow w.heap.size v) (hx : ∀ x ∈ r, x < 256) (hl : r.length ≤ 1000000) :
    Calls Tryz.prog 11 #[q, v] w1 fun e w' => e = .returned (.int .i64 (((apS s room j r).1 : Nat) : Int)) ∧ P2 (SD V S d q room m (apS s room j r).2.1 (apS s room j r).2.2) Nil2 w0 w' (fun _ => False) :=
  (sdAppend owns_nil (h.later (sd_owns _ _ _ _ _ _ _ _) owns_nil k1) hT hq hb hk hr hm hv (ow_ou ho (Ls.lo hv)) hx hl).mono fun e w' ⟨e1, e2, _⟩ => ⟨e1, e2.weak (fun _ h => h.elim)⟩
set_option maxRecDepth 100000 in
set_option maxHeartbeats 8000000 in
theorem awake18 {V : Disk1} (S : Store1 V) (w : World) (hT : S8 w) :
    Calls Tryz.prog 4 #[] w fun e w' => e = .returned (.bool true) ∧ Below w.heap.size w w' := by
  obtain ⟨s1, s2, hS⟩ := aw18
  have HS : Hid (Aw18 s1 s2) := hS
  have HT : Hid (S8 w) := hT
  clear hS hT
  have kc := fun (w : World) (C : Array Value) (n c : Nat) => Lib.run_convert_bytes_const (P := Tryz.prog) w 30 5 C n c Tryz.underlying30 Tryz.underlying5
  go_enter Tryz.func4, Tryz.ntmps4
  go_wp2_with fail
  refine (dwNew V w w 9 (by omega) (by omega) (Below.refl _ _)).mono ?_
  rintro e w1 ⟨p, rfl, hD1⟩
  have HD1 : Hid (Dw V w w1 p (dNew 9)) := hD1
  clear hD1
  go_wp2_with fail
  refine (dwOpen S HD1.out HT.out (jq_new 9) (room := 1) (by omega) (by omega) (by decide) (by decide) rfl).mono ?_
  rintro e w2 ⟨a, vb, vl, rfl, hD2, -, -, -⟩
  have HD2 : Hid (P2 (SD V S p (.pointer (some a)) 1 9 (dNew 9) ⟨⟨0, 0, 0⟩, false⟩) Nil2 w w2 (fun _ => False)) := hD2
  clear hD2 HD1
  go_wp2_with fail
  refine (sdAppendY HD2.out (bel1 _ _) HT.out HS.out.j0 (sb_new 9 1) (by decide) (by decide) (by decide) (bs_letter w2 114 _ _) (ow_here (Nat.le_refl _)) (by decide) (by decide)).mono ?_
  rintro e w3 ⟨rfl, hD3⟩
  rw [HS.out.e0] at hD3 ⊢
  have HD3 : Hid (P2 (SD V S p (.pointer (some a)) 1 9 (dNew 9) ⟨⟨0, 0, 0⟩, false⟩) Nil2 w w3 (fun _ => False)) := hD3
  clear hD3 HD2
  go_wp2_with fail
  refine (sdSaveY HD3.out (bel1 _ _) HT.out HS.out.j0 (by decide) (by decide) (by decide) (by decide) (bs_letter w3 98 _ _) (ow_here (Nat.le_refl _)) (by decide) (by decide)).mono ?_
  rintro e w4 ⟨rfl, hD4⟩
  rw [HS.out.e1] at hD4 ⊢
  have HD4 : Hid (P2 (SD V S p (.pointer (some a)) 1 9 s1 ⟨⟨1, 0, 0⟩, true⟩) Nil2 w w4 (fun _ => False)) := hD4
  clear hD4 HD3
  go_wp2_with fail
  refine (sdAppendY HD4.out (bel1 _ _) HT.out HS.out.j1 HS.out.b1 (by decide) (by decide) (by decide) (bs_letter w4 114 _ _) (ow_here (Nat.le_refl _)) (by decide) (by decide)).mono ?_
  rintro e w5 ⟨rfl, hD5⟩
  rw [HS.out.e2] at hD5 ⊢
  have HD5 : Hid (Dw V w w5 p s2) := hD5.sdw
  clear hD5 HD4
  go_wp2_with fail
  refine (dwOpen S HD5.out HT.out HS.out.j2 (room := 1) (by omega) (by omega) (by decide) (by decide) HS.out.d2).mono ?_
  rintro e w6 ⟨a2, vb, vl, rfl, hD6, hB6, hT6, -⟩
  rw [HS.out.b] at hB6
  rw [HS.out.l] at hT6
  have HB6 : Hid (Below w.heap.size w w6) := hD6.bel
  obtain ⟨a5, c5, rfl, -, -⟩ := hB6.len
  obtain ⟨g2, o2, e2, cb⟩ := hB6.cel 0 (by decide)
  subst e2
  obtain ⟨at_, ct, rfl, -, -⟩ := hT6.len
  obtain ⟨b1, o1, x, e1, c1, hx⟩ := hT6.cel 0 (by decide)
  subst e1
  have hx' : Bs w6 x [114] := hx
  obtain ⟨ax, cx, rfl, -, -⟩ := hx'.len
  obtain ⟨gx, ox, e5, d0⟩ := hx'.cel 0 (by decide)
  subst e5
  have kv : ∀ (L : Nat) (g o c : Nat), w6.cell? ⟨g, o, none⟩ = some (.int .u8 (L : Int)) → (convert 30 9 (.slice (some ⟨g, o, none⟩) 1 c)).run Tryz.prog w6 = .ok (.string (strOfNums [L])) w6 := fun L g o c hW => run_convert_bytes_arg (P := Tryz.prog) w6 30 5 Tryz.underlying30 Tryz.underlying5 g o 1 c [L] rfl (fun i hi => by
    obtain rfl : i = 0 := by omega
    exact hW) 9 Tryz.underlying9
  have kv1 : (convert 30 9 (.slice (some ⟨g2, o2, none⟩) 1 c5)).run Tryz.prog w6 = .ok (.string ⟨#[98]⟩) w6 := kv 98 g2 o2 c5 cb
  have kv2 : (convert 30 9 (.slice (some ⟨gx, ox, none⟩) 1 cx)).run Tryz.prog w6 = .ok (.string ⟨#[114]⟩) w6 := kv 114 gx ox cx d0
  have c1' : w6.cell? ⟨b1, o1, none⟩ = some (.slice (some ⟨gx, ox, none⟩) 1 cx) := c1
  have hl1 : ([[114]] : List (List Nat)).length = 1 := rfl
  have hl2 : ([98] : List Nat).length = 1 := rfl
  rw [hl1]
  try rw [hl2]
  clear hB6 hT6 hx hx' hD6 kv c1 d0 cb HD5 hl1 hl2
  go_wp2_with fail
  go_ret
  exact ⟨rfl, HB6.out⟩
end Go.Proofs.YthnpdcblfocemaaGreatDoor
set_option linter.unusedVariables false
namespace Go.Proofs.YthnpdcblfocemaaGreatDoor
open Go.ChangeShapes Go.WideShapes Go.ChangeAt Go.RowKit Go.Joins

theorem own : ownKnob Tryz.prog.godebug = none := by kernel_rfl
theorem laidOutV : laidOutB Tryz.prog = true := by kernel_rfl
theorem cellsByte : Tryz.prog.cellsOf 5 = 1 := by kernel_rfl
theorem cellsBys : Tryz.prog.cellsOf 30 = 1 := by kernel_rfl
theorem cellsInt : Tryz.prog.cellsOf 3 = 1 := by kernel_rfl
theorem add_noneV (b o n : Nat) : (⟨b, o, none⟩ : Addr).add n = ⟨b, o + n, none⟩ := by
  unfold Addr.add
  split
  · subst n; rfl
  · rfl
theorem mk_len {α : Type} (n : Nat) (f : Nat → α) : ((List.range n).map f).length = n := by simp
theorem mk_get {α : Type} (n : Nat) (f : Nat → α) (d : α) (k : Nat) (hk : k < n) : ((List.range n).map f).getD k d = f k := by
  simp [List.getD, hk]
theorem bs_mk {w : World} {v : Value} {n : Nat} {f : Nat → Nat} (h : Ls w v n (fun k => .int .u8 ((f k : Nat) : Int))) : Bs w v ((List.range n).map f) := by
  unfold Bs
  rw [mk_len]
  exact Ls.congr h (fun k hk => by unfold b8f; rw [mk_get n f 0 k hk])
set_option maxRecDepth 100000 in
theorem bytes_raw {H : Type} {enc : TypeId × Value → H} {w : World} {fuel : Nat} {v : Value} {x : DataW H × List MemPlace}
    (h : DataW.trod enc Tryz.prog w 0 (fun _ => true) true fuel 30 [v] = some x) : ∃ l : List Nat, okB l ∧ Bs w v l := by
  rcases Go.Deep.open_slice Tryz.underlying30 h with h0 | ⟨a, len, cap, m, n, D, Pl, hc, hb, hl, hm, hmm, -, hx⟩
  · have hc := h0.1
    simp at hc
    subst hc
    exact ⟨[], ⟨fun c hc => (by cases hc), by simp⟩, ls_none w _⟩
  · simp at hc
    subst hc
    simp only [if_true] at hmm
    subst hmm
    obtain ⟨ab, ao, spot⟩ := a
    have hint : ∀ i, i < len → ∃ q : Nat, w.cell? ((⟨ab, ao, spot⟩ : Addr).add i) = some (.int .u8 (q : Int)) ∧ q < 256 := fun i hi => by
      obtain ⟨cs', h1, h2⟩ := hx i (by omega)
      rw [cellsByte] at h1
      obtain ⟨_, hlen, hcell⟩ := World.cells?_some h1
      obtain ⟨x, e0, _, wx⟩ := DataW.trod_int Tryz.underlying5 h2
      subst e0
      have e1 := hcell 0 (by omega)
      rw [Go.Deep.add_add] at e1
      have hb := bounds_u8 wx
      obtain ⟨y, rfl⟩ : ∃ y : Nat, x = (y : Int) := ⟨x.toNat, by omega⟩
      exact ⟨y, by simpa using e1, by omega⟩
    obtain ⟨q, hq⟩ := Go.Deep.choose_lt hint
    have hmx : m ≤ 9223372036854775807 := hm
    refine ⟨(List.range len).map q, ⟨fun c hc => ?_, by rw [mk_len]; omega⟩, bs_mk ⟨some ⟨ab, ao, spot⟩, m, ab, ao, rfl, hl, ⟨hm, fun e => by cases e⟩, ?_, ?_⟩⟩
    · obtain ⟨k, hk, rfl⟩ := List.mem_map.1 hc
      exact (hq k (List.mem_range.1 hk)).2
    · intro h0
      have hspot : spot = none := by simpa [Addr.add] using World.cell?_spot (hq 0 h0).1
      rw [hspot]
    · intro j hj
      have hspot : spot = none := by simpa [Addr.add] using World.cell?_spot (hq 0 (by omega)).1
      subst hspot
      obtain ⟨d0, d1⟩ := hq j hj
      rw [add_noneV] at d0
      exact d0
theorem cellsFate : Tryz.prog.cellsOf 98 = 2 := by kernel_rfl
theorem cellsFates : Tryz.prog.cellsOf 40 = 1 := by kernel_rfl
theorem cellsOp : Tryz.prog.cellsOf 42 = 4 := by kernel_rfl
set_option maxRecDepth 100000 in
theorem fates_raw {H : Type} {enc : TypeId × Value → H} {w : World} {fuel : Nat} {v : Value} {x : DataW H × List MemPlace}
    (h : DataW.trod enc Tryz.prog w 0 (fun _ => true) true fuel 40 [v] = some x) : ∃ fs : List (Int × Int), Fts w v fs := by
  rcases Go.Deep.open_slice Tryz.underlying40 h with h0 | ⟨a, len, cap, m, n, D, Pl, hc, hb, hl, hm, hmm, -, hx⟩
  · have hc := h0.1
    simp at hc
    subst hc
    exact ⟨[], fts_nil w⟩
  · simp at hc
    subst hc
    simp only [if_true] at hmm
    subst hmm
    obtain ⟨ab, ao, spot⟩ := a
    have hint : ∀ i, i < len → ∃ q : Int × Int, w.cell? ((⟨ab, ao, spot⟩ : Addr).add (i * 2)) = some (.int .i64 q.1) ∧ w.cell? ((⟨ab, ao, spot⟩ : Addr).add (i * 2 + 1)) = some (.int .i64 q.2) := fun i hi => by
      obtain ⟨cs', h1, h2⟩ := hx i (by omega)
      rw [cellsFate] at h1
      obtain ⟨_, hlen, hcell⟩ := World.cells?_some h1
      obtain ⟨c0, c1, rfl⟩ : ∃ c0 c1, cs' = [c0, c1] := by
        match cs', hlen with
        | [a, b], _ => exact ⟨a, b, rfl⟩
      obtain ⟨xs, n', -, -, -, hxl, hxx⟩ := DataW.trod_struct Tryz.underlying98 h2
      obtain ⟨y0, y1, rfl⟩ : ∃ y0 y1, xs = [y0, y1] := by
        match xs, hxl with
        | [a, b], _ => exact ⟨a, b, rfl⟩
      have t0 := hxx 0 _ rfl
      have t1 := hxx 1 _ rfl
      simp [cellsInt] at t0 t1
      obtain ⟨k0, e0, -, w0⟩ := DataW.trod_int Tryz.underlying3 t0
      obtain ⟨k1, e1, -, w1⟩ := DataW.trod_int Tryz.underlying3 t1
      simp at e0 e1
      subst e0 e1
      have f0 := hcell 0 (by omega)
      have f1 := hcell 1 (by omega)
      rw [Go.Deep.add_add] at f0 f1
      exact ⟨(k0, k1), by simpa using f0, by simpa using f1⟩
    obtain ⟨q, hq⟩ := Go.Deep.choose_lt hint
    refine ⟨(List.range len).map q, some ⟨ab, ao, spot⟩, m, ab, ao, by rw [mk_len], by rw [mk_len]; exact hl, hm, ?_, ?_⟩
    · intro h0
      rw [mk_len] at h0
      have hspot : spot = none := by simpa [Addr.add] using World.cell?_spot (hq 0 h0).1
      rw [hspot]
    · intro j hj
      rw [mk_len] at hj
      have hspot : spot = none := by simpa [Addr.add] using World.cell?_spot (hq 0 (by omega)).1
      subst hspot
      obtain ⟨d0, d1⟩ := hq j hj
      rw [add_noneV] at d0 d1
      rw [mk_get len q (0, 0) j hj]
      exact ⟨d0, by rw [Nat.add_assoc]; exact d1⟩
set_option maxRecDepth 100000 in
theorem open_ops {H : Type} {enc : TypeId × Value → H} {w : World} {r : Reach} {b0 : Nat} {v : Value} {d : DataW H} {p : List MemPlace}
    (hv : Value.okWide Tryz.prog w r b0 22 v) (h : DataW.Trod enc Tryz.prog w 0 (fun _ => true) true 22 v d p) : ∃ os : List Opv, ((∀ j, j < os.length → ∀ c ∈ (os.getD j op0).b, c < 256) ∧ ∀ j, j < os.length → Bd64 (os.getD j op0).i) ∧ Ops w v os := by
  obtain ⟨adr, len, cap, rfl⟩ := okWide_slice Tryz.underlying22 hv
  obtain ⟨fuel, h⟩ := h
  rcases Go.Deep.open_slice Tryz.underlying22 h with h0 | ⟨a, len', cap', m, n, D, Pl, hc, hb, hl, hm, hmm, -, hx⟩
  · have hc := h0.1
    simp [Value.cells] at hc
    obtain ⟨rfl, rfl, rfl⟩ := hc
    exact ⟨[], ⟨fun t ht => (by simp at ht), fun t ht => (by simp at ht)⟩, none, 0, 0, 0, rfl, Nat.le_refl _, Nat.zero_le _, fun h => by simp at h, fun j hj => by simp at hj⟩
  · simp [Value.cells] at hc
    obtain ⟨rfl, rfl, rfl⟩ := hc
    simp only [if_true] at hmm
    subst hmm
    obtain ⟨ab, ao, spot⟩ := a
    have hint : ∀ i, i < len → ∃ q : Opv × (Value × Value), (w.cell? ((⟨ab, ao, spot⟩ : Addr).add (i * 4)) = some (.int .i64 q.1.k) ∧ w.cell? ((⟨ab, ao, spot⟩ : Addr).add (i * 4 + 1)) = some (.int .i64 q.1.i) ∧ w.cell? ((⟨ab, ao, spot⟩ : Addr).add (i * 4 + 2)) = some q.2.1 ∧ w.cell? ((⟨ab, ao, spot⟩ : Addr).add (i * 4 + 3)) = some q.2.2) ∧ (Bs w q.2.1 q.1.b ∧ Fts w q.2.2 q.1.fs) ∧ okB q.1.b ∧ Bd64 q.1.i := fun i hi => by
      obtain ⟨cs', h1, h2⟩ := hx i (by omega)
      rw [cellsOp] at h1
      obtain ⟨_, hlen, hcell⟩ := World.cells?_some h1
      obtain ⟨c0, c1, c2, c3, rfl⟩ : ∃ c0 c1 c2 c3, cs' = [c0, c1, c2, c3] := by
        match cs', hlen with
        | [a, b, c, d], _ => exact ⟨a, b, c, d, rfl⟩
      obtain ⟨xs, n', -, -, -, hxl, hxx⟩ := DataW.trod_struct Tryz.underlying42 h2
      obtain ⟨y0, y1, y2, y3, rfl⟩ : ∃ y0 y1 y2 y3, xs = [y0, y1, y2, y3] := by
        match xs, hxl with
        | [a, b, c, d], _ => exact ⟨a, b, c, d, rfl⟩
      have t0 := hxx 0 _ rfl
      have t1 := hxx 1 _ rfl
      have t2 := hxx 2 _ rfl
      have t3 := hxx 3 _ rfl
      simp [cellsInt, cellsBys, cellsFates] at t0 t1 t2 t3
      obtain ⟨k0, e0, -, w0⟩ := DataW.trod_int Tryz.underlying3 t0
      obtain ⟨k1, e1, -, w1⟩ := DataW.trod_int Tryz.underlying3 t1
      obtain ⟨lb, gb, hB⟩ := bytes_raw t2
      obtain ⟨ff, hF⟩ := fates_raw t3
      simp at e0 e1
      subst e0 e1
      have f0 := hcell 0 (by omega)
      have f1 := hcell 1 (by omega)
      have f2 := hcell 2 (by omega)
      have f3 := hcell 3 (by omega)
      rw [Go.Deep.add_add] at f0 f1 f2 f3
      exact ⟨(⟨k0, k1, lb, ff⟩, c2, c3), ⟨by simpa using f0, by simpa using f1, by simpa using f2, by simpa using f3⟩, ⟨hB, hF⟩, gb, bounds_i64 w1⟩
    haveI : Inhabited (Opv × (Value × Value)) := ⟨(op0, .bool false, .bool false)⟩
    obtain ⟨q, hq⟩ := Go.Deep.choose_lt hint
    refine ⟨(List.range len).map (fun i => (q i).1), ⟨fun j hj => ?_, fun j hj => ?_⟩, some ⟨ab, ao, spot⟩, m, ab, ao, by rw [mk_len], by rw [mk_len]; exact hl, hm, ?_, ?_⟩
    · rw [mk_len] at hj
      rw [mk_get len (fun i => (q i).1) op0 j hj]
      exact (hq j hj).2.2.1.1
    · rw [mk_len] at hj
      rw [mk_get len (fun i => (q i).1) op0 j hj]
      exact (hq j hj).2.2.2
    · intro h0
      rw [mk_len] at h0
      have hspot : spot = none := by simpa [Addr.add] using World.cell?_spot (hq 0 h0).1.1
      rw [hspot]
    · intro j hj
      rw [mk_len] at hj
      have hspot : spot = none := by simpa [Addr.add] using World.cell?_spot (hq 0 (by omega)).1.1
      subst hspot
      obtain ⟨⟨d0, d1, d2, d3⟩, ⟨z1, z2⟩, -⟩ := hq j hj
      rw [add_noneV] at d0 d1 d2 d3
      refine ⟨(q j).2.1, (q j).2.2, ?_⟩
      rw [mk_get len (fun i => (q i).1) op0 j hj]
      exact ⟨d0, by rw [Nat.add_assoc]; exact d1, by rw [Nat.add_assoc]; exact d2, by rw [Nat.add_assoc]; exact d3, z1, z2⟩
def laidA : List (String × DataW Unit) := [("regatta/crc.halves", Rows.laid_regatta_crc_halves), ("regatta/journal.widths", Rows.laid_regatta_journal_widths)]
theorem gTbN : Tryz.prog.globalNamed "regatta/crc.halves" = some 1 := by kernel_rfl
theorem tTbN : (Tryz.prog.globals[1]?).map (·.type) = some 173 := by kernel_rfl
theorem cellsTb : Tryz.prog.cellsOf 173 = 16 := by kernel_rfl
theorem cellsU32 : Tryz.prog.cellsOf 156 = 1 := by kernel_rfl
def tbZ : List Int := (List.range 16).map (fun i => ((cZs 4 i : Nat) : Int))
theorem tb_datum : (Rows.laid_regatta_crc_halves : DataW Unit) = Lib.tabData .u32 tbZ := by kernel_rfl
theorem tb_head {rest : List (String × DataW Unit)} {W : World} (h : laidMet Tryz.prog (("regatta/crc.halves", Rows.laid_regatta_crc_halves) :: rest) W) : TbAt W := by
  rw [tb_datum] at h
  have hT := Lib.tabIs_of_head gTbN tTbN Tryz.underlying173 Tryz.underlying156 cellsU32 cellsTb h
  intro j hj
  have hc := hT.cell gTbN j (by unfold tbZ; rw [List.length_map, List.length_range]; exact hj)
  rw [hc]
  simp [tbZ, List.getD, hj]
theorem gWdN : Tryz.prog.globalNamed "regatta/journal.widths" = some 0 := by kernel_rfl
theorem tWdN : (Tryz.prog.globals[0]?).map (·.type) = some 154 := by kernel_rfl
theorem undWdN : Tryz.prog.underlying 154 = some (.array 5 3) := by kernel_rfl
theorem cellsWd : Tryz.prog.cellsOf 154 = 5 := by kernel_rfl
def wdZ : List Int := [4, 2, 2, 8, 8]
theorem wd_datum : (Rows.laid_regatta_journal_widths : DataW Unit) = Lib.tabData .i64 wdZ := by kernel_rfl
theorem wd_head {rest : List (String × DataW Unit)} {W : World} (h : laidMet Tryz.prog (("regatta/journal.widths", Rows.laid_regatta_journal_widths) :: rest) W) : JT W := by
  rw [wd_datum] at h
  have hT := Lib.tabIs_of_head gWdN tWdN undWdN Tryz.underlying3 cellsInt cellsWd h
  exact ⟨hT.cell gWdN 0 (by decide), hT.cell gWdN 1 (by decide), hT.cell gWdN 2 (by decide), hT.cell gWdN 3 (by decide), hT.cell gWdN 4 (by decide)⟩
theorem tabs_of_A {W : World} (h : laidMetH Tryz.prog laidA W) : S8 W := by
  rw [MakeChecks.laidMetH_plain _ _ _ (by kernel_rfl)] at h
  exact ⟨tb_head h, wd_head (laidMet.tail h)⟩
theorem door_A (os : Os) (args : Array Value) : laidMetH Tryz.prog laidA ((World.doorLaid Tryz.prog 400 os).forCall (fun _ _ => 0) ⟨#[], args, []⟩).memory :=
  laidMetH_of_parts3 (fuel := 8) (laidMet_of_run' 8 (by kernel_rfl) (by kernel_rfl)) (by kernel_rfl) (by kernel_rfl)
end Go.Proofs.YthnpdcblfocemaaGreatDoor
set_option linter.unusedVariables false
set_option linter.unusedSimpArgs false
namespace Go.Proofs.YthnpdcblfocemaaGreatDoor
open Go.RowKit

theorem sdArm {V : Disk1} {S : Store1 V} {T : World → (Nat → Prop) → Prop} (oT : Owns T) {w0 w : World} {N : Nat → Prop} {d q : Value} {room m : Nat} {s : Dsk} {j : Sst} (h : P2 (SD V S d q room m s j) T w0 w N) (n : Int) (hn : Bd64 n) :
    Calls Tryz.prog 15 #[d, .int .i64 n] w fun e w' => e = .returned (.tuple #[]) ∧ P2 (SD V S d q room m (arS s n) j) T w0 w' N ∧ Kn N w w' := sdDisk (K := fun e => e = .returned (.tuple #[])) oT h (fun F h1 h2 h3 => V.arm w d F s n h1 hn)
theorem srArm {S : World → (Nat → Prop) → Prop} (oS : Owns S) {w0 w : World} {N : Nat → Prop} {r0 : Value} {c g room m : Nat} {s : Dsk} {j : Sst} (h : P2 S (SR r0 c g room m s j) w0 w N) (n : Int) (hn : Bd64 n) :
    Calls Tryz.prog 16 #[r0, .int .i64 n] w fun e w' => e = .returned (.tuple #[]) ∧ P2 S (SR r0 c g room m (arS s n) j) w0 w' N ∧ Kn N w w' := srDisk (K := fun e => e = .returned (.tuple #[])) oS h (fun F h1 h2 h3 => refArm h1 n hn)
theorem sdCrash {V : Disk1} {S : Store1 V} {T : World → (Nat → Prop) → Prop} (oT : Owns T) {w0 w : World} {N : Nat → Prop} {d q : Value} {room m : Nat} {s : Dsk} {j : Sst} (h : P2 (SD V S d q room m s j) T w0 w N) (hu : s.un.length ≤ 60) {v : Value} {fs : List (Int × Int)} (hv : Fts w v fs) (ho : Ou w0.heap.size N v) (hl : fs.length ≤ 1000) :
    Calls Tryz.prog 17 #[d, v] w fun e w' => e = .returned (.int .i64 0) ∧ P2 (SD V S d q room m (crS s fs) j) T w0 w' N ∧ Kn N w w' := sdDisk (K := fun e => e = .returned (.int .i64 0)) oT h (fun F h1 h2 h3 => V.crash w d F s v fs h1 hv (nf_ou ho h2 h3) hl (by omega))
theorem srCrash {S : World → (Nat → Prop) → Prop} (oS : Owns S) {w0 w : World} {N : Nat → Prop} {r0 : Value} {c g room m : Nat} {s : Dsk} {j : Sst} (h : P2 S (SR r0 c g room m s j) w0 w N) (hu : s.un.length ≤ 60) {v : Value} {fs : List (Int × Int)} (hv : Fts w v fs) (ho : Ou w0.heap.size N v) (hl : fs.length ≤ 1000) :
    Calls Tryz.prog 18 #[r0, v] w fun e w' => e = .returned (.tuple #[]) ∧ P2 S (SR r0 c g room m (crS s fs) j) w0 w' N ∧ Kn N w w' := srDisk (K := fun e => e = .returned (.tuple #[])) oS h (fun F h1 h2 h3 => refCrash h1 v fs hv (nf_ou ho h2 h3) (by omega))
end Go.Proofs.YthnpdcblfocemaaGreatDoor
