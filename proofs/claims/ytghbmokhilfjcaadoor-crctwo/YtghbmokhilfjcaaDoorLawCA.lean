/-
  The laws of layer 11: awake, CrcMore, CrcJoin.
-/
import Derived.Test.YtghbmokhilfjcaaDoorCDefs
import Derived.Test.YtghbmokhilfjcaaDoorCRefE
import Derived.Lib.SlBytesConst
import Derived.Lib.SmallJoins
set_option linter.unusedVariables false
set_option linter.unusedSimpArgs false
namespace Go.Proofs.YtghbmokhilfjcaaDoor
open Go.RowKit

/-- A text of constants. -/
def tx (l : List Nat) : Nat → Nat := fun k => l.getD k 0
theorem tx_lt (l : List Nat) (h : ∀ x ∈ l, x < 256) (k : Nat) : tx l k < 256 := by
  unfold tx
  rw [List.getD_eq_getElem?_getD]
  cases e : l[k]? with
  | none => decide
  | some x => exact h x (List.mem_of_getElem? e)
theorem aw_vals : cS (tx [49, 50, 51, 52, 53, 54, 55, 56, 57]) 9 = 3421780262 ∧ cZs (8 * 5) (cS (tx [49, 50, 51, 52]) 4) ^^^ cS (tx [53, 54, 55, 56, 57]) 5 = 3421780262 := by decide +kernel
theorem tx_ls (w : World) (o : Obj) (l : List Nat) (n : Nat) (hm : n ≤ 1000) (h : ∀ k, k < n → (w.alloc o).cell? ⟨w.heap.size, 0 + k, none⟩ = some (by8 (tx l) k)) : Ls (w.alloc o) (.slice (some ⟨w.heap.size, 0, none⟩) n n) n (by8 (tx l)) :=
  ⟨_, n, w.heap.size, 0, rfl, Nat.le_refl _, ⟨by unfold maxLen; omega, fun e => by cases e⟩, fun _ => rfl, h⟩
/-- The sum of a text of constants. -/
theorem Crc1.text (V : Crc1) (w : World) (o : Obj) (l : List Nat) (n : Nat) (t : TypeId) (hm : n ≤ 1000) (h : ∀ k, k < n → (w.alloc o).cell? ⟨w.heap.size, 0 + k, none⟩ = some (by8 (tx l) k)) (hl : ∀ x ∈ l, x < 256) (hT : TbAt w) :
    Calls Tryd.prog 10 #[.slice (some ⟨w.heap.size + 1, 0, none⟩) 1 1] ((w.alloc o).alloc (.cells #[.slice (some ⟨w.heap.size, 0, none⟩) n n] t)) fun e w' => e = .returned (.int .u32 ((cS (tx l) n : Nat) : Int)) ∧ Below w.heap.size w w' := by
  have h1 := V.one (w.alloc o) (some ⟨w.heap.size, 0, none⟩) n n (tx l) t (by omega) (tx_lt l hl) (hT.later (bel1 _ _)) (tx_ls w o l n hm h)
  rw [World.size_alloc] at h1
  exact h1.mono fun e w' q => ⟨q.1, bchain (bel1 w o) (by rw [World.size_alloc]; exact q.2)⟩
set_option maxRecDepth 100000 in
set_option maxHeartbeats 8000000 in
theorem awake11 (V : Crc1) (w : World) (hT : TbAt w) : Calls Tryd.prog 9 #[] w fun e w' => e = .returned (.bool true) ∧ Below w.heap.size w w' := by
  have kc := fun (w : World) (C : Array Value) (n c : Nat) => Lib.run_convert_bytes_const (P := Tryd.prog) w 24 5 C n c Tryd.underlying24 Tryd.underlying5
  have av := aw_vals
  have l1 := cS_lt (tx [49, 50, 51, 52]) 4
  have l2 := cS_lt (tx [53, 54, 55, 56, 57]) 5
  have C1 : Hid (∀ (W : World) (fr : Nat × Nat), TbAt W → Calls Tryd.prog 10 #[.slice (some ⟨W.heap.size + 1, 0, none⟩) 1 1] ((W.alloc (.cells #[.int .u8 49, .int .u8 50, .int .u8 51, .int .u8 52] 5 fr)).alloc (.cells #[.slice (some ⟨W.heap.size, 0, none⟩) 4 4] 24)) fun e w' => e = .returned (.int .u32 ((cS (tx [49, 50, 51, 52]) 4 : Nat) : Int)) ∧ Below W.heap.size W w') := fun W fr h => V.text W _ [49, 50, 51, 52] 4 _ (by omega) (fun k hk => by
    rw [Nat.zero_add, World.cell?_alloc_mark]
    match k, hk with
    | 0, _ => rfl
    | 1, _ => rfl
    | 2, _ => rfl
    | 3, _ => rfl) (by decide) h
  have C2 : Hid (∀ (W : World) (fr : Nat × Nat), TbAt W → Calls Tryd.prog 10 #[.slice (some ⟨W.heap.size + 1, 0, none⟩) 1 1] ((W.alloc (.cells #[.int .u8 53, .int .u8 54, .int .u8 55, .int .u8 56, .int .u8 57] 5 fr)).alloc (.cells #[.slice (some ⟨W.heap.size, 0, none⟩) 5 5] 24)) fun e w' => e = .returned (.int .u32 ((cS (tx [53, 54, 55, 56, 57]) 5 : Nat) : Int)) ∧ Below W.heap.size W w') := fun W fr h => V.text W _ [53, 54, 55, 56, 57] 5 _ (by omega) (fun k hk => by
    rw [Nat.zero_add, World.cell?_alloc_mark]
    match k, hk with
    | 0, _ => rfl
    | 1, _ => rfl
    | 2, _ => rfl
    | 3, _ => rfl
    | 4, _ => rfl) (by decide) h
  have C3 : Hid (∀ (W : World) (fr : Nat × Nat), TbAt W → Calls Tryd.prog 10 #[.slice (some ⟨W.heap.size + 1, 0, none⟩) 1 1] ((W.alloc (.cells #[.int .u8 49, .int .u8 50, .int .u8 51, .int .u8 52, .int .u8 53, .int .u8 54, .int .u8 55, .int .u8 56, .int .u8 57] 5 fr)).alloc (.cells #[.slice (some ⟨W.heap.size, 0, none⟩) 9 9] 24)) fun e w' => e = .returned (.int .u32 3421780262) ∧ Below W.heap.size W w') := fun W fr h => by
    have q := V.text W (.cells #[.int .u8 49, .int .u8 50, .int .u8 51, .int .u8 52, .int .u8 53, .int .u8 54, .int .u8 55, .int .u8 56, .int .u8 57] 5 fr) [49, 50, 51, 52, 53, 54, 55, 56, 57] 9 24 (by omega) (fun k hk => by
      rw [Nat.zero_add, World.cell?_alloc_mark]
      match k, hk with
      | 0, _ => rfl
      | 1, _ => rfl
      | 2, _ => rfl
      | 3, _ => rfl
      | 4, _ => rfl
      | 5, _ => rfl
      | 6, _ => rfl
      | 7, _ => rfl
      | 8, _ => rfl) (by decide) h
    rw [av.1] at q
    exact q
  have C4 : Hid (∀ W : World, TbAt W → Calls Tryd.prog 14 #[.int .u32 ((cS (tx [49, 50, 51, 52]) 4 : Nat) : Int), .int .u32 ((cS (tx [53, 54, 55, 56, 57]) 5 : Nat) : Int), .int .i64 5] W fun e w' => e = .returned (.tuple #[.int .u32 3421780262, .int .i64 0]) ∧ Below W.heap.size W w') := fun W h => by
    have q := V.join _ _ 5 W l1 l2 (by omega) h
    rw [av.2] at q
    exact q
  have HT : Hid (TbAt w) := hT
  clear hT av
  generalize cS (tx [49, 50, 51, 52]) 4 = s1 at *
  generalize cS (tx [53, 54, 55, 56, 57]) 5 = s2 at *
  go_enter Tryd.func9, Tryd.ntmps9
  go_wp2_with fail
  refine (C1.out w _ HT.out).mono ?_
  rintro e w1 ⟨rfl, hb⟩
  have HB1 : Hid (Below w.heap.size w w1) := hb
  clear hb C1
  go_wp2_with fail
  refine (C2.out w1 _ (HT.out.later HB1.out)).mono ?_
  rintro e w2 ⟨rfl, hb⟩
  have HB2 : Hid (Below w.heap.size w w2) := bchain HB1.out hb
  clear hb C2 HB1
  go_wp2_with fail
  refine (C4.out w2 (HT.out.later HB2.out)).mono ?_
  rintro e w3 ⟨rfl, hb⟩
  have HB3 : Hid (Below w.heap.size w w3) := bchain HB2.out hb
  clear hb C4 HB2
  go_wp2_with fail
  refine (C3.out w3 _ (HT.out.later HB3.out)).mono ?_
  rintro e w4 ⟨rfl, hb⟩
  have HB4 : Hid (Below w.heap.size w w4) := bchain HB3.out hb
  clear hb C3 HB3
  go_wp2
  go_ret
  exact ⟨rfl, HB4.out⟩
set_option maxRecDepth 100000 in
set_option maxHeartbeats 8000000 in
theorem crcMore_any (V : Crc1) (s : Nat) (hs : s < 4294967296) (v : Value) (n : Nat) (f : Nat → Nat) (hf : ∀ k, f k < 256) (w : World) (hl : Ls w v n (by8 f)) (hT : TbAt w) :
    Calls Tryd.prog 4 #[.int .u32 (s : Int), v] w fun e w' => e = .returned (.bool true) ∧ Below w.heap.size w w' := by
  have HL : Hid (Ls w v n (by8 f)) := hl
  have HT : Hid (TbAt w) := hT
  obtain ⟨ad, cap, rfl, l1, l2⟩ := hl.len
  unfold maxLen at l2
  clear hl hT
  go_enter Tryd.func4, Tryd.ntmps4
  go_wp2_with fail
  refine (awake11 V _ HT.out).mono ?_
  rintro e w1 ⟨rfl, hb⟩
  have HB1 : Hid (Below w.heap.size w w1) := hb
  clear hb
  by_cases hn : 1000 < n
  · have hn' : (1000 : Int) < (n : Int) := by omega
    go_wp2
    go_ret
    exact ⟨rfl, HB1.out⟩
  have hn' : ¬ (1000 : Int) < (n : Int) := by omega
  have C1 : Hid (∀ W : World, Below w.heap.size w W → Calls Tryd.prog 12 #[.int .u32 (s : Int), .slice ad n cap] W fun e w' => e = .returned (.int .u32 ((4294967295 - cR (cBt f) (4294967295 - s) (8 * n) : Nat) : Int)) ∧ Below W.heap.size W w') := fun W h => V.more s _ n f W hs (by omega) hf (HT.out.later h) (HL.out.later h)
  have C2 : Hid (∀ W : World, Below w.heap.size w W → Calls Tryd.prog 13 #[.int .u32 (s : Int), .slice ad n cap] W fun e w' => e = .returned (.int .u32 ((4294967295 - cR (cBt f) (4294967295 - s) (8 * n) : Nat) : Int)) ∧ Below W.heap.size W w') := fun W h => refMore s hs _ n f (by omega) hf W (HL.out.later h)
  generalize 4294967295 - cR (cBt f) (4294967295 - s) (8 * n) = r at *
  go_wp2_with fail
  refine (C1.out _ HB1.out).mono ?_
  rintro e w2 ⟨rfl, hb⟩
  have HB2 : Hid (Below w.heap.size w w2) := bchain HB1.out hb
  clear hb C1 HB1
  go_wp2_with fail
  refine (C2.out _ HB2.out).mono ?_
  rintro e w3 ⟨rfl, hb⟩
  have HB3 : Hid (Below w.heap.size w w3) := bchain HB2.out hb
  clear hb C2 HB2
  go_wp2
  go_ret
  exact ⟨by first | rfl | simp, HB3.out⟩
end Go.Proofs.YtghbmokhilfjcaaDoor
