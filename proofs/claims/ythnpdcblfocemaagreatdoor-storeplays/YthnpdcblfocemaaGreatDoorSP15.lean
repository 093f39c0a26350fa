/-
  Texts of this proof, joined: SnDefs StDefs StRef.
-/
import Derived.Test.YthnpdcblfocemaaGreatDoorSP09
import Derived.Test.YthnpdcblfocemaaGreatDoorSP12
import Derived.Test.YthnpdcblfocemaaGreatDoorSP13
import Derived.Test.YthnpdcblfocemaaGreatDoorSP14
import Derived.BigQuiet
set_option linter.unusedVariables false
set_option linter.unusedSimpArgs false
namespace Go.Proofs.YthnpdcblfocemaaGreatDoor
open Go.RowKit

def ST (w : World) : Prop := TbAt w
theorem ST.later {w w' : World} (h : ST w) (k : Below w.heap.size w w') : ST w' := TbAt.later h k
structure Snap1 (V : Disk1) where
  St : World → Value → Value → Nat → Nat → (Nat → Prop) → Prop
  stK : ∀ {w w' : World} {q p : Value} {at_ room : Nat} {G : Nat → Prop}, St w q p at_ room G → (∀ k, G k → w'.heap[k]? = w.heap[k]?) → St w' q p at_ room G
  stB : ∀ {w : World} {q p : Value} {at_ room : Nat} {G : Nat → Prop}, St w q p at_ room G → ∀ k, G k → k < w.heap.size
  newY : ∀ (w : World) (p : Value) (F : Nat → Prop) (s : Dsk) (at_ room : Nat), V.Dt w p F s → 1 ≤ room → room ≤ 16384 → at_ + 2 * (room + 1) ≤ s.bl.length →
    Calls Tryz.prog 47 #[p, .int .i64 (at_ : Int), .int .i64 (room : Int)] w fun e w' => ∃ a G, e = .returned (.tuple #[.pointer (some a), .int .i64 0]) ∧ St w' (.pointer (some a)) p at_ room G ∧ (∀ k, G k → w.heap.size ≤ k) ∧ Below w.heap.size w w'
  newN : ∀ (w : World) (p : Value) (F : Nat → Prop) (s : Dsk) (at_ room : Int), V.Dt w p F s → Bd64 at_ → Bd64 room → ¬ (1 ≤ room ∧ room ≤ 16384 ∧ 0 ≤ at_ ∧ at_ + 2 * (room + 1) ≤ (s.bl.length : Int)) →
    Calls Tryz.prog 47 #[p, .int .i64 at_, .int .i64 room] w fun e w' => e = .returned (.tuple #[.pointer none, .int .i64 2]) ∧ Below w.heap.size w w'
  load : ∀ (w : World) (q p : Value) (F G : Nat → Prop) (s : Dsk) (at_ room : Nat), St w q p at_ room G → V.Dt w p F s → ST w → 1 ≤ room → at_ + 2 * (room + 1) ≤ s.bl.length → s.bl.length ≤ 1000 → s.un.length ≤ 400 →
    Calls Tryz.prog 50 #[q] w fun e w' => ∃ v, e = .returned (.tuple #[v, .int .i64 (((ldW s at_ room).2.1 : Nat) : Int), .int .i64 (((ldW s at_ room).2.2 : Nat) : Int)]) ∧ Bs w' v (ldW s at_ room).1 ∧ Ow w.heap.size v ∧ Below w.heap.size w w'
  save : ∀ (w : World) (q p : Value) (F G : Nat → Prop) (s : Dsk) (at_ room : Nat) (v : Value) (d : List Nat), St w q p at_ room G → V.Dt w p F s → (∀ k, F k → ¬ G k) → ST w → (∀ k, F k → k ≠ 1) → 1 ≤ room → at_ + 2 * (room + 1) ≤ s.bl.length → s.bl.length ≤ 1000 → s.un.length ≤ 400 → Bs w v d → Nf F v → (∀ c ∈ d, c < 256) → d.length ≤ 100000 →
    Calls Tryz.prog 37 #[q, v] w fun e w' => e = .returned (.tuple #[.int .i64 (((svR s at_ room d).1 : Nat) : Int), .int .i64 (((svR s at_ room d).2.1 : Nat) : Int)]) ∧ Ad V.Dt p F (svR s at_ room d).2.2 w w'
theorem Snap1.stL {V : Disk1} (Q : Snap1 V) {w w' : World} {q p : Value} {at_ room : Nat} {G : Nat → Prop} (h : Q.St w q p at_ room G) (k : Below w.heap.size w w') : Q.St w' q p at_ room G := Q.stK h (fun i hi => k.block i (Q.stB h i hi))
theorem old_lt {w0 : World} (h : ST w0) : 1 < w0.heap.size := World.block_lt_of_cell? _ _ (h 0 (by omega))
end Go.Proofs.YthnpdcblfocemaaGreatDoor
set_option linter.unusedVariables false
set_option linter.unusedSimpArgs false
namespace Go.Proofs.YthnpdcblfocemaaGreatDoor
open Go.RowKit

def TxC (w : World) (v : Value) (ls : List (List Nat)) (cs : List Value) : Prop :=
  ∃ (ad : Option Addr) (cap b o : Nat), v = .slice ad ls.length cap ∧ ls.length ≤ cap ∧ cap ≤ maxLen ∧ (ad = none → cap = 0) ∧ (0 < ls.length → ad = some ⟨b, o, none⟩) ∧ cs.length = ls.length ∧ ∀ j, j < ls.length → ∃ x, cs[j]? = some x ∧ w.cell? ⟨b, o + j, none⟩ = some x ∧ Bs w x (ls.getD j [])
theorem TxC.txs {w : World} {v : Value} {ls : List (List Nat)} {cs : List Value} (h : TxC w v ls cs) : Txs w v ls := by
  obtain ⟨ad, cap, b, o, h1, h2, h3, -, h5, h6, h7⟩ := h
  exact ⟨ad, cap, b, o, h1, h2, h3, h5, fun j hj => by obtain ⟨x, -, e2, e3⟩ := h7 j hj; exact ⟨x, e2, e3⟩⟩
def Told (G : Nat → Prop) (w w' : World) (vb vl : Value) (b : List Nat) (ls : List (List Nat)) : Prop :=
  ∃ (T : Nat → Prop) (cs : List Value), (∀ k, T k → w.heap.size ≤ k ∧ k < w'.heap.size ∧ ¬ G k) ∧ ∀ w'' : World, (∀ k, T k → w''.heap[k]? = w'.heap[k]?) → Bs w'' vb b ∧ TxC w'' vl ls cs
theorem Told.now {G : Nat → Prop} {w w' : World} {vb vl : Value} {b : List Nat} {ls : List (List Nat)} (h : Told G w w' vb vl b ls) : Bs w' vb b ∧ Txs w' vl ls := by
  obtain ⟨T, cs, -, h2⟩ := h
  exact ⟨(h2 w' (fun _ _ => rfl)).1, (h2 w' (fun _ _ => rfl)).2.txs⟩
def S8 (w : World) : Prop := ST w ∧ JT w
theorem S8.later {w w' : World} (h : S8 w) (k : Below w.heap.size w w') : S8 w' := ⟨h.1.later k, h.2.later k⟩
def Ng8 (k : Nat) : Prop := k ≠ 1 ∧ k ≠ 0
structure Store1 (V : Disk1) where
  St : World → Value → Value → (Nat → Prop) → Nat → Nat → Sst → Prop
  stK : ∀ {w w' : World} {q d : Value} {G : Nat → Prop} {room m : Nat} {j : Sst}, St w q d G room m j → (∀ k, G k → w'.heap[k]? = w.heap[k]?) → w.heap.size ≤ w'.heap.size → St w' q d G room m j
  stB : ∀ {w : World} {q d : Value} {G : Nat → Prop} {room m : Nat} {j : Sst}, St w q d G room m j → ∀ k, G k → k < w.heap.size
  openY : ∀ (w : World) (d : Value) (F : Nat → Prop) (s : Dsk) (room : Nat), V.Dt w d F s → S8 w → 1 ≤ room → room ≤ 16384 → fb18 room + 1 ≤ s.bl.length → s.bl.length ≤ 900 → s.un.length ≤ 100 → s.dn = false →
    Calls Tryz.prog 7 #[d, .int .i64 (room : Int)] w fun e w' => ∃ a G vb vl, e = .returned (.tuple #[.pointer (some a), vb, vl, .int .i64 0]) ∧ St w' (.pointer (some a)) d G room s.bl.length ⟨⟨0, 0, 0⟩, false⟩ ∧ (∀ k, G k → w.heap.size ≤ k) ∧ Told G w w' vb vl (opB s room) (opL s room) ∧ Below w.heap.size w w'
  openD : ∀ (w : World) (d : Value) (F : Nat → Prop) (s : Dsk) (room : Nat), V.Dt w d F s → S8 w → 1 ≤ room → room ≤ 16384 → fb18 room + 1 ≤ s.bl.length → s.bl.length ≤ 900 → s.un.length ≤ 100 → s.dn = true →
    Calls Tryz.prog 7 #[d, .int .i64 (room : Int)] w fun e w' => ∃ vb vl, e = .returned (.tuple #[.pointer none, vb, vl, .int .i64 150]) ∧ Bs w' vb [] ∧ Txs w' vl [] ∧ Below w.heap.size w w'
  openN : ∀ (w : World) (d : Value) (F : Nat → Prop) (s : Dsk) (room : Int), V.Dt w d F s → S8 w → Bd64 room → ¬ (1 ≤ room ∧ room ≤ 16384 ∧ 2 * room + 3 ≤ (s.bl.length : Int)) →
    Calls Tryz.prog 7 #[d, .int .i64 room] w fun e w' => ∃ vb vl, e = .returned (.tuple #[.pointer none, vb, vl, .int .i64 2]) ∧ Bs w' vb [] ∧ Txs w' vl [] ∧ Below w.heap.size w w'
  save : ∀ (w : World) (q d : Value) (F G : Nat → Prop) (s : Dsk) (room m : Nat) (j : Sst) (v : Value) (b : List Nat), St w q d G room m j → V.Dt w d F s → (∀ k, F k → ¬ G k) → S8 w → (∀ k, F k ∨ G k → Ng8 k) → s.bl.length = m → 1 ≤ room → room ≤ 16384 → fb18 room + 1 ≤ m → m ≤ 900 → s.un.length ≤ 100 → Bs w v b → Nf F v → Nf G v → (∀ x ∈ b, x < 256) → b.length ≤ 100000 →
    Calls Tryz.prog 13 #[q, v] w fun e w' => e = .returned (.int .i64 (((svS s room j b).1 : Nat) : Int)) ∧ ∃ F' G', V.Dt w' d F' (svS s room j b).2.1 ∧ St w' q d G' room m (svS s room j b).2.2 ∧ (∀ k, F' k → ¬ G' k) ∧ Gr F F' w ∧ Gr G G' w ∧ Kp (fun k => F k ∨ G k) w w'
  append : ∀ (w : World) (q d : Value) (F G : Nat → Prop) (s : Dsk) (room m : Nat) (j : Sst) (v : Value) (r : List Nat), St w q d G room m j → V.Dt w d F s → (∀ k, F k → ¬ G k) → S8 w → (∀ k, F k ∨ G k → Ng8 k) → s.bl.length = m → fb18 room + 1 ≤ m → m ≤ 900 → s.un.length ≤ 100 → j.j.next ≤ m - fb18 room → j.j.n ≤ 1000000 → j.j.gen < 9223372036854775808 → Bs w v r → Nf F v → Nf G v → (∀ x ∈ r, x < 256) → r.length ≤ 1000000 →
    Calls Tryz.prog 11 #[q, v] w fun e w' => e = .returned (.int .i64 (((apS s room j r).1 : Nat) : Int)) ∧ ∃ F' G', V.Dt w' d F' (apS s room j r).2.1 ∧ St w' q d G' room m (apS s room j r).2.2 ∧ (∀ k, F' k → ¬ G' k) ∧ Gr F F' w ∧ Gr G G' w ∧ Kp (fun k => F k ∨ G k) w w'
  left : ∀ (w : World) (q d : Value) (F G : Nat → Prop) (s : Dsk) (room m : Nat) (j : Sst), St w q d G room m j → V.Dt w d F s → s.bl.length = m → j.j.next ≤ m - fb18 room → (j.bg = true → j.j.gen ≠ 0) →
    Calls Tryz.prog 22 #[q] w fun e w' => e = .returned (.int .i64 ((if j.bg = false then 0 else (m - fb18 room) - j.j.next : Nat) : Int)) ∧ Below w.heap.size w w'
  begun : ∀ (w : World) (q d : Value) (G : Nat → Prop) (room m : Nat) (j : Sst), St w q d G room m j →
    Calls Tryz.prog 24 #[q] w fun e w' => e = .returned (.bool j.bg) ∧ Below w.heap.size w w'
structure RS (w : World) (c g : Nat) (p : Value) (room m : Nat) (j : Sst) : Prop where
  c0 : w.cell? ⟨c, 0, none⟩ = some p
  c1 : w.cell? ⟨c, 1, none⟩ = some (.int .i64 0)
  c2 : w.cell? ⟨c, 2, none⟩ = some (.int .i64 (room : Int))
  c3 : w.cell? ⟨c, 3, none⟩ = some (.pointer (some ⟨g, 0, none⟩))
  c4 : w.cell? ⟨c, 4, none⟩ = some (.bool j.bg)
  f : ∀ k, k < 5 → w.frozen? ⟨c, k, none⟩ = false
  j : RJ w g p (fb18 room) (m - fb18 room) j.j
  ne : c ≠ g
theorem RS.lt {w : World} {c g : Nat} {p : Value} {room m : Nat} {j : Sst} (h : RS w c g p room m j) : c < w.heap.size := World.block_lt_of_cell? _ _ h.c0
theorem RS.kept {w w' : World} {c g : Nat} {p : Value} {room m : Nat} {j : Sst} (h : RS w c g p room m j) (k : w'.heap[c]? = w.heap[c]?) (k2 : w'.heap[g]? = w.heap[g]?) : RS w' c g p room m j :=
  ⟨cell_blk5 (a := ⟨c, 0, none⟩) k h.c0, cell_blk5 (a := ⟨c, 1, none⟩) k h.c1, cell_blk5 (a := ⟨c, 2, none⟩) k h.c2, cell_blk5 (a := ⟨c, 3, none⟩) k h.c3, cell_blk5 (a := ⟨c, 4, none⟩) k h.c4, fun i hi => frz_blk5 (a := ⟨c, i, none⟩) k (h.f i hi), h.j.kept k2, h.ne⟩
theorem RS.later {w w' : World} {c g : Nat} {p : Value} {room m : Nat} {j : Sst} (h : RS w c g p room m j) (k : Below w.heap.size w w') : RS w' c g p room m j := h.kept (k.block _ h.lt) (k.block _ h.j.lt)
theorem RS.jr {w w' : World} {c g : Nat} {p : Value} {room m : Nat} {j : Sst} {j' : Jst} (h : RS w c g p room m j) (k : w'.heap[c]? = w.heap[c]?) (k2 : RJ w' g p (fb18 room) (m - fb18 room) j') : RS w' c g p room m ⟨j', j.bg⟩ :=
  ⟨cell_blk5 (a := ⟨c, 0, none⟩) k h.c0, cell_blk5 (a := ⟨c, 1, none⟩) k h.c1, cell_blk5 (a := ⟨c, 2, none⟩) k h.c2, cell_blk5 (a := ⟨c, 3, none⟩) k h.c3, cell_blk5 (a := ⟨c, 4, none⟩) k h.c4, fun i hi => frz_blk5 (a := ⟨c, i, none⟩) k (h.f i hi), k2, h.ne⟩
theorem RS.bgn {w : World} {c g : Nat} {p : Value} {room m : Nat} {j : Sst} (h : RS w c g p room m j) (b : Bool) : RS (w.setCell ⟨c, 4, none⟩ (.bool b)) c g p room m ⟨j.j, b⟩ := by
  exact ⟨far5 h.c0 (by decide), far5 h.c1 (by decide), far5 h.c2 (by decide), far5 h.c3 (by decide), same5 h.c4, fun k hk => (World.frozen?_setCell _ _ _ _).trans (h.f k hk), h.j.kept (Below.heap_setCell _ _ _ _ (fun e => h.ne e.symm)), h.ne⟩
end Go.Proofs.YthnpdcblfocemaaGreatDoor
set_option linter.unusedVariables false
set_option linter.unusedSimpArgs false
namespace Go.Proofs.YthnpdcblfocemaaGreatDoor
open Go.RowKit

theorem txs_nil18 (w : World) : Txs w (.slice none 0 0) [] := ((kpo_nil w w).txo (Below.refl _ _)).txs
def Rgh18 (n r : Int) : Prop := 1 ≤ r ∧ r ≤ 16384 ∧ 2 * r + 3 ≤ n
instance (n r : Int) : Decidable (Rgh18 n r) := by unfold Rgh18; infer_instance
set_option maxRecDepth 100000 in
theorem refRight18 (n r : Int) (w : World) :
    Calls Tryz.prog 8 #[.int .i64 n, .int .i64 r] w fun e w' => e = .returned (.bool (decide (Rgh18 n r))) ∧ w' = w := by
  have HV : Hid (∀ B : Bool, (B = true ↔ Rgh18 n r) → decide (Rgh18 n r) = B) := fun B hB => by
    cases B with
    | true => exact decide_eq_true (hB.1 rfl)
    | false => exact decide_eq_false (fun q => by have := hB.2 q; cases this)
  by_cases c1 : 1 ≤ r
  · by_cases c2 : r ≤ 16384
    · have k1 : IntKind.i64.wrap (2 * r) = 2 * r := by rw [IntKind.wrap_i64]; omega
      have k2 : IntKind.i64.wrap (2 * r + 3) = 2 * r + 3 := by rw [IntKind.wrap_i64]; omega
      by_cases c3 : 2 * r + 3 ≤ n
      · have HE : Hid (decide (Rgh18 n r) = true) := HV.out true ⟨fun _ => ⟨c1, c2, c3⟩, fun _ => rfl⟩
        go_enter Tryz.func8, Tryz.ntmps8
        go_wp2
        go_ret
        rw [HE.out]
        exact ⟨rfl, rfl⟩
      · have HE : Hid (decide (Rgh18 n r) = false) := HV.out false ⟨fun q => (by cases q), fun q => (by have := q.2.2; omega)⟩
        go_enter Tryz.func8, Tryz.ntmps8
        go_wp2
        go_ret
        rw [HE.out]
        exact ⟨rfl, rfl⟩
    · have HE : Hid (decide (Rgh18 n r) = false) := HV.out false ⟨fun q => (by cases q), fun q => (by have := q.2.1; omega)⟩
      go_enter Tryz.func8, Tryz.ntmps8
      go_wp2
      go_ret
      rw [HE.out]
      exact ⟨rfl, rfl⟩
  · have HE : Hid (decide (Rgh18 n r) = false) := HV.out false ⟨fun q => (by cases q), fun q => (by have := q.1; omega)⟩
    go_enter Tryz.func8, Tryz.ntmps8
    go_wp2
    go_ret
    rw [HE.out]
    exact ⟨rfl, rfl⟩
set_option maxRecDepth 100000 in
set_option maxHeartbeats 4000000 in
theorem refOpen18 {w : World} {p : Value} {F : Nat → Prop} {s : Dsk} (h : RD w p F s) (room : Nat) (h1 : 1 ≤ room) (hr : fb18 room + 1 ≤ s.bl.length) (hbl : s.bl.length ≤ 900) (hu : s.un.length ≤ 100) :
    Calls Tryz.prog 10 #[p, .int .i64 (room : Int)] w fun e w' => ∃ c g vb vl, e = .returned (.tuple #[.pointer (some ⟨c, 0, none⟩), vb, vl]) ∧ RS w' c g p room s.bl.length ⟨⟨0, 0, 0⟩, false⟩ ∧ w.heap.size ≤ c ∧ w.heap.size ≤ g ∧ Bs w' vb (opB s room) ∧ Txs w' vl (opL s room) ∧ Below w.heap.size w w' := by
  have HD : Hid (RD w p F s) := h
  obtain ⟨b, vB, vU, cs, ds, rfl, h5, -⟩ := h
  obtain ⟨aB, pB, rfl⟩ := h5.sB
  have z0 := h5.c0
  obtain ⟨m, hm⟩ : ∃ m, s.bl.length = m := ⟨_, rfl⟩
  have HM : Hid (s.bl.length = m ∧ s.un.length ≤ 100) := ⟨hm, hu⟩
  rw [hm] at z0 hr hbl ⊢
  clear h5 hm hu
  obtain ⟨fb, hfb⟩ : ∃ fb, fb18 room = fb := ⟨_, rfl⟩
  have HFb : Hid (fb18 room = fb) := hfb
  rw [hfb] at hr
  obtain ⟨sz, hsz⟩ : ∃ sz, m - fb = sz := ⟨_, rfl⟩
  obtain ⟨r2, hr2⟩ : ∃ r2, 2 * room = r2 := ⟨_, rfl⟩
  have k1 : (2 : Int) * (room : Int) = (r2 : Int) := by omega
  have k2 : IntKind.i64.wrap (r2 : Int) = (r2 : Int) := by unfold fb18 at hfb; rw [IntKind.wrap_i64]; omega
  have k3 : (r2 : Int) + 2 = (fb : Int) := by unfold fb18 at hfb; omega
  have k4 : IntKind.i64.wrap (fb : Int) = (fb : Int) := by rw [IntKind.wrap_i64]; omega
  have k5 : (m : Int) - (fb : Int) = (sz : Int) := by omega
  have k6 : IntKind.i64.wrap (sz : Int) = (sz : Int) := by rw [IntKind.wrap_i64]; omega
  have HSz : Hid (m - fb = sz ∧ 1 ≤ room ∧ fb + 1 ≤ m ∧ m ≤ 900) := ⟨hsz, h1, hr, hbl⟩
  clear hfb hsz hr2 hr hbl h1
  go_enter Tryz.func10, Tryz.ntmps10
  go_upto_region 3 with fail
  obtain ⟨wA, hwA⟩ : ∃ wA, wA = w.alloc (.cells #[.pointer (some ⟨b, 0, none⟩), .int .i64 (fb : Int), .int .i64 (sz : Int), .int .i64 0, .int .i64 0, .int .i64 0] 79) := ⟨_, rfl⟩
  obtain ⟨wB, hwB⟩ : ∃ wB, wB = wA.alloc (.cells #[.pointer (some ⟨b, 0, none⟩), .int .i64 0, .int .i64 (room : Int), .pointer (some ⟨w.heap.size, 0, none⟩), .bool false] 60) := ⟨_, rfl⟩
  have sA : wA.heap.size = w.heap.size + 1 := by rw [hwA]; simp
  have HRS : Hid (RS wB wA.heap.size w.heap.size (.pointer (some ⟨b, 0, none⟩)) room m ⟨⟨0, 0, 0⟩, false⟩ ∧ Below w.heap.size w wB) := by
    have kA := bel1 w (.cells #[.pointer (some ⟨b, 0, none⟩), .int .i64 (fb : Int), .int .i64 (sz : Int), .int .i64 0, .int .i64 0, .int .i64 0] 79)
    have kB := bel1 wA (.cells #[.pointer (some ⟨b, 0, none⟩), .int .i64 0, .int .i64 (room : Int), .pointer (some ⟨w.heap.size, 0, none⟩), .bool false] 60)
    rw [← hwA] at kA
    rw [← hwB] at kB
    have hRJ : RJ wA w.heap.size (.pointer (some ⟨b, 0, none⟩)) (fb18 room) (m - fb18 room) ⟨0, 0, 0⟩ := by
      rw [HFb.out, HSz.out.1, hwA]
      exact ⟨by simp [go_sem], by simp [go_sem], by simp [go_sem], by simp [go_sem], by simp [go_sem], by simp [go_sem], fun k hk => by simp [go_sem]⟩
    refine ⟨⟨?_, ?_, ?_, ?_, ?_, fun k hk => ?_, hRJ.later kB, by omega⟩, bchain kA kB⟩
    all_goals rw [hwB]; simp [go_sem]
  rw [← hwA, ← hwB]
  have z3 := HRS.out.1.c3
  have y0 := HRS.out.1.c0
  have y1 := HRS.out.1.c1
  have y2 := HRS.out.1.c2
  rw [sA] at z3 y0 y1 y2
  have HRD : Hid (RD wB (.pointer (some ⟨b, 0, none⟩)) F s) := HD.out.later HRS.out.2
  rw [sA] at HRS
  clear z0 hwA hwB sA
  go_wp2_with fail
  refine (refLoad HRD.out 0 room (by rw [HM.out.1]; have := HSz.out; have := HFb.out; unfold fb18 at this; omega) (by rw [HM.out.1]; have := HSz.out; omega) (by have := HM.out.2; omega)).mono ?_
  rintro e w1 ⟨vb, rfl, hB1, hO1, hb1⟩
  have HB1 : Hid (Bs w1 vb (opB s room) ∧ Below w.heap.size w w1 ∧ RS w1 (w.heap.size + 1) w.heap.size (.pointer (some ⟨b, 0, none⟩)) room m ⟨⟨0, 0, 0⟩, false⟩ ∧ RD w1 (.pointer (some ⟨b, 0, none⟩)) F s) := ⟨hB1, bchain HRS.out.2 hb1, HRS.out.1.later hb1, HRD.out.later hb1⟩
  obtain ⟨n1, hn1⟩ : ∃ n1, (ldW s 0 room).2.1 = n1 := ⟨_, rfl⟩
  obtain ⟨e1, he1⟩ : ∃ e1, (ldW s 0 room).2.2 = e1 := ⟨_, rfl⟩
  have HL : Hid ((ldW s 0 room).2.1 = n1 ∧ (ldW s 0 room).2.2 = e1) := ⟨hn1, he1⟩
  have hnx : n1 ≤ 4611686018427387904 := by
    rw [← hn1]
    unfold ldW
    split
    · exact Nat.zero_le _
    · exact (ldV_max _ _ _).1
  rw [hn1, he1]
  have z3 := HB1.out.2.2.1.c3
  clear hB1 hO1 hb1 HRS HRD y0 y1 y2 hn1 he1
  by_cases g : e1 = 0
  · subst g
    go_wp2_with fail
    refine (refRead17 HB1.out.2.2.1.j HB1.out.2.2.2 (by rw [HM.out.1]; have := HFb.out; have := HSz.out; omega) (by rw [HM.out.1]; have := HSz.out; omega) (by have := HM.out.2; omega) (n1 : Int) (by omega)).mono ?_
    rintro e w2 ⟨vl, rfl, hT2, hb2⟩
    have HE : Hid (Txs w2 vl (opL s room)) := by
      have h := hT2.txs
      unfold opL fz18
      rw [HL.out.2, HL.out.1, HM.out.1, if_neg (by simp)]
      exact h
    have HE2 : Hid (Bs w2 vb (opB s room) ∧ Below w.heap.size w w2 ∧ RS w2 (w.heap.size + 1) w.heap.size (.pointer (some ⟨b, 0, none⟩)) room m ⟨⟨0, 0, 0⟩, false⟩) := ⟨HB1.out.1.later hb2, bchain HB1.out.2.1 hb2, HB1.out.2.2.1.later hb2⟩
    clear hT2 hb2
    go_wp2_with fail
    go_ret3
    exact ⟨_, _, _, _, rfl, HE2.out.2.2, by omega, Nat.le_refl _, HE2.out.1, HE.out, HE2.out.2.1⟩
  · have gI : ¬ (e1 : Int) = 0 := by omega
    have HE : Hid (Txs w1 (.slice none 0 0) (opL s room) ∧ Bs w1 (.slice none 0 0) (opB s room)) := by
      have hb : opB s room = [] := by
        have h2 := HL.out.2
        unfold opB
        unfold ldW at h2 ⊢
        by_cases d : s.dn = true
        · rw [if_pos d]
        · rw [if_neg d] at h2 ⊢
          unfold ldV at h2 ⊢
          split
          · rfl
          · rename_i q1
            rw [if_neg q1] at h2
            split at h2 <;> exact absurd h2.symm g
      have hl : opL s room = [] := by unfold opL; rw [HL.out.2, if_pos g]
      rw [hb, hl]
      exact ⟨txs_nil18 _, bs_nilS _⟩
    go_wp2_with fail
    go_ret3
    exact ⟨_, _, _, _, rfl, HB1.out.2.2.1, by omega, Nat.le_refl _, HE.out.2, HE.out.1, HB1.out.2.1⟩
theorem svR_num {s : Dsk} {at_ room : Nat} {d : List Nat} (h : (svR s at_ room d).2.1 = 0) : 1 ≤ (svR s at_ room d).1 ∧ (svR s at_ room d).1 ≤ 4611686018427387904 := by
  unfold svR at h ⊢
  by_cases g1 : room * 128 < d.length
  · rw [if_pos g1] at h; exact absurd (show (161 : Nat) = 0 from h) (by omega)
  rw [if_neg g1] at h ⊢
  by_cases g2 : s.dn = true
  · rw [if_pos g2] at h; exact absurd (show (150 : Nat) = 0 from h) (by omega)
  rw [if_neg g2] at h ⊢
  obtain ⟨N, hN⟩ : ∃ N, (ldV (rb s) at_ room).2.1 + 1 = N := ⟨_, rfl⟩
  rw [hN] at h ⊢
  unfold svN at h ⊢
  by_cases g3 : 4611686018427387904 < N
  · rw [if_pos g3] at h; exact absurd (show (3 : Nat) = 0 from h) (by omega)
  rw [if_neg g3] at h ⊢
  generalize svW _ _ _ _ _ = w at h ⊢
  unfold svF at h ⊢
  by_cases g4 : w.1 ≠ 0
  · rw [if_pos g4] at h; exact absurd h g4
  rw [if_neg g4] at h ⊢
  by_cases g5 : flE w.2 ≠ 0
  · rw [if_pos g5] at h; exact absurd h g5
  rw [if_neg g5] at h ⊢
  unfold svH at h ⊢
  by_cases g6 : wrE (flS w.2) (slA at_ room (N % 2) : Int) (hdB N d) ≠ 0
  · rw [if_pos g6] at h; exact absurd h g6
  rw [if_neg g6] at h ⊢
  by_cases g7 : flE (wrS (flS w.2) (slA at_ room (N % 2) : Int) (hdB N d)) ≠ 0
  · rw [if_pos g7] at h; exact absurd h g7
  rw [if_neg g7] at h ⊢
  exact ⟨by show 1 ≤ N; omega, by show N ≤ _; omega⟩
theorem svR_max (s : Dsk) (at_ room : Nat) (d : List Nat) : (svR s at_ room d).1 ≤ 4611686018427387904 := by
  by_cases h : (svR s at_ room d).2.1 = 0
  · exact (svR_num h).2
  · have e : (svR s at_ room d).1 = 0 := by
      unfold svR at h ⊢
      split
      · rfl
      rename_i g1
      rw [if_neg g1] at h
      split
      · rfl
      rename_i g2
      rw [if_neg g2] at h
      unfold svN at h ⊢
      split
      · rfl
      rename_i g3
      rw [if_neg g3] at h
      unfold svF at h ⊢
      split
      · rfl
      rename_i g4
      rw [if_neg g4] at h
      split
      · rfl
      rename_i g5
      rw [if_neg g5] at h
      unfold svH at h ⊢
      split
      · rfl
      rename_i g6
      rw [if_neg g6] at h
      split
      · rfl
      · rename_i g7
        rw [if_neg g7] at h
        exact absurd rfl h
    omega
set_option maxRecDepth 100000 in
set_option maxHeartbeats 4000000 in
theorem refSave18 {w : World} {c g : Nat} {p : Value} {F : Nat → Prop} {s : Dsk} {room m : Nat} {j : Sst} (hS : RS w c g p room m j) (h : RD w p F s) (hc : ¬ F c) (hg : ¬ F g) (hm : s.bl.length = m) (h1 : 1 ≤ room) (hr : fb18 room + 1 ≤ m) (hbl : m ≤ 900) (hu : s.un.length ≤ 100) (v : Value) (d : List Nat) (hv : Bs w v d) (hn : Nf F v) (hn2 : Nf (fun k => k = c ∨ k = g) v) (hb : ∀ x ∈ d, x < 256) (hl : d.length ≤ 100000) :
    Calls Tryz.prog 14 #[.pointer (some ⟨c, 0, none⟩), v] w fun e w' => e = .returned (.int .i64 (((svS s room j d).1 : Nat) : Int)) ∧ ∃ F', RD w' p F' (svS s room j d).2.1 ∧ Gr F F' w ∧ RS w' c g p room m (svS s room j d).2.2 ∧ Kp (fun k => F k ∨ k = c ∨ k = g) w w' := by
  have HS : Hid (RS w c g p room m j ∧ RD w p F s ∧ ¬ F c ∧ ¬ F g) := ⟨hS, h, hc, hg⟩
  have HV : Hid (Bs w v d ∧ Nf F v ∧ Nf (fun k => k = c ∨ k = g) v ∧ (∀ x ∈ d, x < 256)) := ⟨hv, hn, hn2, hb⟩
  have HLn : Hid (d.length ≤ 100000) := hl
  have HM : Hid (s.bl.length = m ∧ 1 ≤ room ∧ fb18 room + 1 ≤ m ∧ m ≤ 900 ∧ s.un.length ≤ 100) := ⟨hm, h1, hr, hbl, hu⟩
  obtain ⟨ad, cap, rfl, -, -⟩ := hv.len
  have f4 := hS.f 4 (by omega)
  have z4 := hS.c4
  clear hS h hc hg hm h1 hr hbl hu hv hn hn2 hb hl
  obtain ⟨L, hL⟩ : ∃ L, d.length = L := ⟨_, rfl⟩
  rw [hL] at HV ⊢
  go_enter Tryz.func14, Tryz.ntmps14
  go_upto_region 2 with fail
  obtain ⟨wA, hwA⟩ : ∃ wA, wA = w.setCell ⟨c, 4, none⟩ (.bool false) := ⟨_, rfl⟩
  have HA : Hid (RS wA c g p room m ⟨j.j, false⟩ ∧ RD wA p F s ∧ Kp (fun k => F k ∨ k = c ∨ k = g) w wA ∧ Bs wA (.slice ad L cap) d) := by
    rw [hwA]
    exact ⟨HS.out.1.bgn false, HS.out.2.1.out HS.out.2.2.1 (fun k hk => Below.heap_setCell _ _ _ _ hk) (by rw [World.size_setCell]; exact Nat.le_refl _), (Kp.refl (fun k => F k ∨ k = c ∨ k = g) w).set (p := ⟨c, 4, none⟩) (Or.inl (Or.inr (Or.inl rfl))) _, ((Kp.refl (fun k => k = c ∨ k = g) w).set (p := ⟨c, 4, none⟩) (Or.inl (Or.inl rfl)) _).bs HV.out.1 HV.out.2.2.1⟩
  rw [← hwA]
  clear hwA f4 z4
  have y0 := HA.out.1.c0
  have y1 := HA.out.1.c1
  have y2 := HA.out.1.c2
  go_wp2_with fail
  refine (refSave HA.out.2.1 0 room (by rw [HM.out.1]; have := HM.out.2.2.1; unfold fb18 at this; omega) (by rw [HM.out.1]; have := HM.out.2.2.2.1; omega) _ d HA.out.2.2.2 HV.out.2.1 HV.out.2.2.2 HLn.out (by have := HM.out.2.2.2.2; omega)).mono ?_
  rintro e w1 ⟨rfl, F1, hD1, hG1, hK1⟩
  have hs0 := HA.out.2.2.1.size
  have hcl := HS.out.1.lt
  have hgl := HS.out.1.j.lt
  have hnc : ∀ k, k < w.heap.size → ¬ F k → ¬ F1 k := fun k hk hf q => by
    rcases hG1 k q with e | e
    · exact hf e
    · omega
  have HB : Hid (RS w1 c g p room m ⟨j.j, false⟩ ∧ RD w1 p F1 (svR s 0 room d).2.2 ∧ Kp (fun k => F k ∨ k = c ∨ k = g) w w1 ∧ Gr F F1 w ∧ ¬ F1 c ∧ ¬ F1 g) :=
    ⟨HA.out.1.kept (hK1.block c HA.out.1.lt HS.out.2.2.1) (hK1.block g HA.out.1.j.lt HS.out.2.2.2), hD1, HA.out.2.2.1.trans hK1 (fun i hi => Or.inl (Or.inl hi)), fun k hk => by
      rcases hG1 k hk with e | e
      · exact Or.inl e
      · exact Or.inr (by omega), hnc c hcl HS.out.2.2.1, hnc g hgl HS.out.2.2.2⟩
  clear hD1 hG1 hK1 hs0 hcl hgl hnc HA y0 y1 y2
  have hmx := svR_max s 0 room d
  obtain ⟨n1, hn1⟩ : ∃ n1, (svR s 0 room d).1 = n1 := ⟨_, rfl⟩
  obtain ⟨e1, he1⟩ : ∃ e1, (svR s 0 room d).2.1 = e1 := ⟨_, rfl⟩
  have HE : Hid ((svR s 0 room d).1 = n1 ∧ (svR s 0 room d).2.1 = e1) := ⟨hn1, he1⟩
  rw [hn1] at hmx
  rw [hn1, he1]
  clear hn1 he1
  by_cases q : e1 = 0
  · subst q
    have hn0 : 1 ≤ n1 := by have := svR_num HE.out.2; have := HE.out.1; omega
    have z3 := HB.out.1.c3
    go_wp2_with fail
    refine (refBegin17 HB.out.1.j (n1 : Int) (by omega)).mono ?_
    rintro e w2 ⟨rfl, hJ2, hK2⟩
    rw [if_neg (by omega)] at hJ2 ⊢
    rw [Int.toNat_natCast] at hJ2
    have HC : Hid (RS w2 c g p room m ⟨⟨n1, 0, 0⟩, false⟩ ∧ RD w2 p F1 (svR s 0 room d).2.2 ∧ Kp (fun k => F k ∨ k = c ∨ k = g) w w2) :=
      ⟨HB.out.1.jr (hK2.block c HB.out.1.lt HB.out.1.ne) hJ2, HB.out.2.1.kept (fun k hk => hK2.block k (HB.out.2.1.lt k hk) (fun e => HB.out.2.2.2.2.2 (e ▸ hk))) hK2.size, HB.out.2.2.1.trans hK2 (fun i hi => Or.inl (Or.inr (Or.inr hi)))⟩
    have f4 := HC.out.1.f 4 (by omega)
    have z4 := HC.out.1.c4
    clear hJ2 hK2 z3
    go_wp2_with fail
    go_ret
    have e : svS s room j d = (0, (svR s 0 room d).2.2, ⟨⟨n1, 0, 0⟩, true⟩) := by unfold svS; rw [if_neg (by rw [HE.out.2]; simp), HE.out.1]
    rw [e]
    exact ⟨rfl, F1, HC.out.2.1.out HB.out.2.2.2.2.1 (fun k hk => Below.heap_setCell _ _ _ _ hk) (by rw [World.size_setCell]; exact Nat.le_refl _), HB.out.2.2.2.1, HC.out.1.bgn true, HC.out.2.2.set (p := ⟨c, 4, none⟩) (Or.inl (Or.inr (Or.inl rfl))) _⟩
  · have qI : ¬ (e1 : Int) = 0 := by omega
    go_wp2_with fail
    go_ret
    have e : svS s room j d = (e1, (svR s 0 room d).2.2, ⟨j.j, false⟩) := by unfold svS; rw [if_pos (by rw [HE.out.2]; exact q), HE.out.2]
    rw [e]
    exact ⟨rfl, F1, HB.out.2.1, HB.out.2.2.2.1, HB.out.1, HB.out.2.2.1⟩
set_option maxRecDepth 100000 in
set_option maxHeartbeats 4000000 in
theorem refAppend18 {w : World} {c g : Nat} {p : Value} {F : Nat → Prop} {s : Dsk} {room m : Nat} {j : Sst} (hS : RS w c g p room m j) (h : RD w p F s) (hc : ¬ F c) (hg : ¬ F g) (hm : s.bl.length = m) (hr : fb18 room + 1 ≤ m) (hbl : m ≤ 900) (hu : s.un.length ≤ 100) (hnx : j.j.next ≤ m - fb18 room) (hjn : j.j.n ≤ 1000000) (hgn : j.j.gen < 9223372036854775808) (v : Value) (d : List Nat) (hv : Bs w v d) (hn : Nf F v) (hb : ∀ x ∈ d, x < 256) (hl : d.length ≤ 1000000) :
    Calls Tryz.prog 12 #[.pointer (some ⟨c, 0, none⟩), v] w fun e w' => e = .returned (.int .i64 (((apS s room j d).1 : Nat) : Int)) ∧ ∃ F', RD w' p F' (apS s room j d).2.1 ∧ Gr F F' w ∧ RS w' c g p room m (apS s room j d).2.2 ∧ Kp (fun k => F k ∨ k = c ∨ k = g) w w' := by
  have HS : Hid (RS w c g p room m j ∧ RD w p F s ∧ ¬ F c ∧ ¬ F g) := ⟨hS, h, hc, hg⟩
  have HV : Hid (Bs w v d ∧ Nf F v ∧ (∀ x ∈ d, x < 256)) := ⟨hv, hn, hb⟩
  have HLn : Hid (d.length ≤ 1000000) := hl
  have HM : Hid (s.bl.length = m ∧ fb18 room + 1 ≤ m ∧ m ≤ 900 ∧ s.un.length ≤ 100 ∧ j.j.next ≤ m - fb18 room ∧ j.j.n ≤ 1000000 ∧ j.j.gen < 9223372036854775808) := ⟨hm, hr, hbl, hu, hnx, hjn, hgn⟩
  obtain ⟨ad, cap, rfl, -, -⟩ := hv.len
  have z4 := hS.c4
  have z3 := hS.c3
  clear hS h hc hg hm hr hbl hu hnx hjn hgn hv hn hb hl
  obtain ⟨L, hL⟩ : ∃ L, d.length = L := ⟨_, rfl⟩
  rw [hL] at HV ⊢
  go_enter Tryz.func12, Tryz.ntmps12
  cases hbg : j.bg with
  | false =>
    rw [hbg] at z4
    have HE : Hid (apS s room j d = (180, s, j)) := apS_off hbg
    go_wp2_with fail
    go_ret
    rw [HE.out]
    exact ⟨rfl, F, HS.out.2.1, fun _ h => Or.inl h, HS.out.1, Kp.refl _ _⟩
  | true =>
    rw [hbg] at z4
    have HE : Hid (apS s room j d = ((japp s (fb18 room) (m - fb18 room) j.j d).1, (japp s (fb18 room) (m - fb18 room) j.j d).2.1, ⟨(japp s (fb18 room) (m - fb18 room) j.j d).2.2, if (japp s (fb18 room) (m - fb18 room) j.j d).1 = 150 then false else true⟩)) := by
      show _ = _
      unfold apS fz18
      rw [if_neg (by rw [hbg]; simp), HM.out.1]
    go_wp2_with fail
    refine (refAppend17 HS.out.1.j HS.out.2.1 HS.out.2.2.2 (by have := HM.out; omega) HM.out.2.2.2.2.1 (by have := HM.out; omega) (fun _ => by have := HM.out; omega) _ d HV.out.1 HV.out.2.2 HLn.out HV.out.2.1 HM.out.2.2.2.2.2.1 HM.out.2.2.2.2.2.2).mono ?_
    rintro e w1 ⟨rfl, F1, hD1, hG1, hJ1, hK1⟩
    have hcl := HS.out.1.lt
    have HB : Hid (RS w1 c g p room m ⟨(japp s (fb18 room) (m - fb18 room) j.j d).2.2, true⟩ ∧ RD w1 p F1 (japp s (fb18 room) (m - fb18 room) j.j d).2.1 ∧ Gr F F1 w ∧ Kp (fun k => F k ∨ k = c ∨ k = g) w w1 ∧ ¬ F1 c) := by
      have h2 := HS.out.1.jr (hK1.block c hcl (fun q => by rcases q with q | q; exact HS.out.2.2.1 q; exact HS.out.1.ne q)) hJ1
      rw [hbg] at h2
      exact ⟨h2, hD1, hG1, hK1.mono (fun k h => by rcases h with h | h; exact Or.inl h; exact Or.inr (Or.inr h)), fun q => by
        rcases hG1 c q with e | e
        · exact HS.out.2.2.1 e
        · omega⟩
    clear hD1 hG1 hJ1 hK1 hcl z3 z4
    generalize japp s (fb18 room) (m - fb18 room) j.j d = ja at *
    obtain ⟨e1, s1, j1⟩ := ja
    dsimp only at HB
    by_cases q : e1 = 150
    · subst q
      have HE2 : Hid (apS s room j d = (150, s1, ⟨j1, false⟩)) := by
        have h := HE.out
        rwa [if_pos rfl] at h
      clear HE
      have f4 := HB.out.1.f 4 (by omega)
      have z4 := HB.out.1.c4
      go_wp2_with fail
      go_ret
      rw [HE2.out]
      exact ⟨rfl, F1, HB.out.2.1.out HB.out.2.2.2.2 (fun k hk => Below.heap_setCell _ _ _ _ hk) (by rw [World.size_setCell]; exact Nat.le_refl _), HB.out.2.2.1, HB.out.1.bgn false, HB.out.2.2.2.1.set (p := ⟨c, 4, none⟩) (Or.inl (Or.inr (Or.inl rfl))) _⟩
    · have qI : ¬ (e1 : Int) = 150 := by omega
      have HE2 : Hid (apS s room j d = (e1, s1, ⟨j1, true⟩)) := by
        have h := HE.out
        rwa [if_neg q] at h
      clear HE
      go_wp2_with fail
      go_ret
      rw [HE2.out]
      exact ⟨rfl, F1, HB.out.2.1, HB.out.2.2.1, HB.out.1, HB.out.2.2.2.1⟩
set_option maxRecDepth 100000 in
set_option maxHeartbeats 4000000 in
theorem refLeft18 {w : World} {c g : Nat} {p : Value} {room m : Nat} {j : Sst} (hS : RS w c g p room m j) (hm : m ≤ 900) (hnx : j.j.next ≤ m - fb18 room) :
    Calls Tryz.prog 23 #[.pointer (some ⟨c, 0, none⟩)] w fun e w' => e = .returned (.int .i64 ((if j.bg = false then 0 else (m - fb18 room) - j.j.next : Nat) : Int)) ∧ Below w.heap.size w w' := by
  have z4 := hS.c4
  have z3 := hS.c3
  have y2 := hS.j.c2
  have y5 := hS.j.c5
  clear hS
  obtain ⟨sz, hsz⟩ : ∃ sz, m - fb18 room = sz := ⟨_, rfl⟩
  rw [hsz] at y2 hnx ⊢
  obtain ⟨lf, hlf⟩ : ∃ lf, sz - j.j.next = lf := ⟨_, rfl⟩
  have k1 : (sz : Int) - (j.j.next : Int) = (lf : Int) := by omega
  have k2 : IntKind.i64.wrap (lf : Int) = (lf : Int) := by rw [IntKind.wrap_i64]; omega
  rw [hlf]
  clear hsz hlf hnx
  go_enter Tryz.func23, Tryz.ntmps23
  cases hbg : j.bg with
  | false =>
    rw [hbg] at z4
    rw [if_pos rfl]
    go_wp2_with fail
    go_ret
    exact ⟨rfl, Below.refl _ _⟩
  | true =>
    rw [hbg] at z4
    rw [if_neg (by simp)]
    go_wp2_with go_region
    go_ret
    exact ⟨rfl, (Below.refl _ _).drew⟩
end Go.Proofs.YthnpdcblfocemaaGreatDoor
