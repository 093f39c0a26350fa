/-
  The program's pack: a face, where the reading goes on, where it gives up, and where there is an error already.
-/
import Derived.Test.YtfcbgkcclganmaaDoorPpF
set_option linter.unusedVariables false
set_option linter.unusedSimpArgs false
namespace Go.Proofs.YtfcbgkcclganmaaDoor
open Go.RowKit

set_option maxRecDepth 100000 in
set_option maxHeartbeats 1000000 in
theorem faceI_ok (b : Nat) (F : Nat → Prop) (l : List Nat) (w : World) (h : Ro w b F l) (x : Int) (t : List Nat) (hr : rI l = .ok (x, t)) :
    Calls Tryd.prog 62 #[.pointer (some ⟨b, 0, none⟩), .func (.func 63) #[.pointer (some ⟨b, 0, none⟩)] #[]] w fun e w' => ∃ v, e = .returned v ∧ AI x v w' ∧ Ro w' b F t ∧ Kp (fun i => i = b) w w' := by
  have hmf : ∀ (fn : Fn) (first cap : Array Value) (w : World), (Instr.makeFunc fn first cap).run Tryd.prog w = .ok (.func fn first cap) w := fun _ _ _ _ => rfl
  have hlt := h.lt b h.fb
  obtain ⟨W, hW⟩ : ∃ W, W = w.alloc (.cells #[.pointer (some ⟨b, 0, none⟩)] 99) := ⟨_, rfl⟩
  have hB : Below w.heap.size w W := by rw [hW]; exact bel1 _ _
  have HW : Hid (Ro W b F l ∧ Kp (fun i => i = b) w W ∧ W.heap.size = w.heap.size + 1) := ⟨h.later hB, Kp.of hB, by rw [hW, World.size_alloc]⟩
  have x0 : W.cell? ⟨w.heap.size, 0, none⟩ = some (.pointer (some ⟨b, 0, none⟩)) := by rw [hW]; simp [go_sem]
  have HU : Hid (rI l = .ok (x, t)) := hr
  clear h hr hB
  go_enter_defers Tryd.func62, Tryd.ntmps62
  go_upto_region 1 with fail
  rw [← hW]
  clear hW
  go_wp2_with (go_at_call 61; refine (rerr_ok b F l _ HW.out.1).mono ?_; rintro e w9 ⟨rfl, rfl⟩)
  refine (whole_any b F l _ HW.out.1).mono ?_
  intro e W' hE
  obtain ⟨hK, v, rfl, hA, hR⟩ := hE.good HU.out
  have hsz := HW.out.2.2
  have HE : Hid (AI x v W' ∧ Ro W' b F t ∧ Kp (fun i => i = b) w W') := ⟨hA, hR, HW.out.2.1.trans hK (fun i hi => Or.inl hi)⟩
  obtain rfl := hA
  clear hE hK hR hsz
  go_wp2
  refine leaves_cons (f := 66) (args := #[.pointer (some ⟨w.heap.size, 0, none⟩)]) (by simp) (by simp [go_sem]) ?_
  refine (catchI_idle _ _).mono ?_
  rintro e u' w'' ⟨rfl, rfl, rfl⟩
  exact ⟨_, by simp [results, Tryd.results62, go_sem], _, rfl, HE.out.1, HE.out.2.1, HE.out.2.2⟩
set_option maxRecDepth 100000 in
set_option maxHeartbeats 1000000 in
theorem faceI_no (b : Nat) (F : Nat → Prop) (l : List Nat) (w : World) (h : Ro w b F l) (x : Nat) (hx : x ≠ 0) (hr : rI l = .error x) :
    Calls Tryd.prog 62 #[.pointer (some ⟨b, 0, none⟩), .func (.func 63) #[.pointer (some ⟨b, 0, none⟩)] #[]] w fun e w' => e = .returned (.int .i64 0) ∧ Re w' b F x ∧ Kp (fun i => i = b) w w' := by
  have HF : Hid ((∀ k, F k → k < w.heap.size) ∧ F b) := ⟨h.lt, h.fb⟩
  have hmf : ∀ (fn : Fn) (first cap : Array Value) (w : World), (Instr.makeFunc fn first cap).run Tryd.prog w = .ok (.func fn first cap) w := fun _ _ _ _ => rfl
  have hlt := h.lt b h.fb
  obtain ⟨W, hW⟩ : ∃ W, W = w.alloc (.cells #[.pointer (some ⟨b, 0, none⟩)] 99) := ⟨_, rfl⟩
  have hB : Below w.heap.size w W := by rw [hW]; exact bel1 _ _
  have HW : Hid (Ro W b F l ∧ Kp (fun i => i = b) w W ∧ W.heap.size = w.heap.size + 1) := ⟨h.later hB, Kp.of hB, by rw [hW, World.size_alloc]⟩
  have x0 : W.cell? ⟨w.heap.size, 0, none⟩ = some (.pointer (some ⟨b, 0, none⟩)) := by rw [hW]; simp [go_sem]
  have HU : Hid (rI l = .error x) := hr
  clear h hr hB
  go_enter_defers Tryd.func62, Tryd.ntmps62
  go_upto_region 1 with fail
  rw [← hW]
  clear hW
  go_wp2_with (go_at_call 61; refine (rerr_ok b F l _ HW.out.1).mono ?_; rintro e w9 ⟨rfl, rfl⟩)
  refine (whole_any b F l _ HW.out.1).mono ?_
  intro e W' hE
  obtain ⟨hK, rfl, t, hR⟩ := hE.bad HU.out
  have hK2 : Kp (fun i => i = b) w W' := HW.out.2.1.trans hK (fun i hi => Or.inl hi)
  have x1 : W'.cell? ⟨w.heap.size, 0, none⟩ = some (.pointer (some ⟨b, 0, none⟩)) := hK.cell (a := ⟨w.heap.size, 0, none⟩) (by dsimp only; omega) x0
  obtain ⟨v1, y1, -, -⟩ := hR.c1
  have HE : Hid (Ro W' b F t ∧ Kp (fun i => i = b) w W') := ⟨hR, hK2⟩
  clear hE hK hR hK2 x0
  go_wp2
  refine leaves_cons (f := 66) (args := #[.pointer (some ⟨w.heap.size, 0, none⟩)]) (by simp) (by simp [go_sem]) ?_
  refine (catchI_panicking w.heap.size b x v1 _ [] W' x1 HE.out.1.c0 y1 HE.out.1.f1 HE.out.1.c2 HE.out.1.f2 (by omega)).mono ?_
  rintro e u' w'' ⟨rfl, rfl, hC⟩
  refine ⟨.int .i64 0, by simp [results, Tryd.results62, go_sem], rfl, ⟨fun k hk => Nat.lt_of_lt_of_le (HF.out.1 k hk) (Nat.le_trans HE.out.2.size hC.1.size), HF.out.2, Or.inr ⟨hC.2.1, hC.2.2, hx⟩⟩, HE.out.2.trans hC.1 (fun i hi => Or.inl hi)⟩
set_option maxRecDepth 100000 in
set_option maxHeartbeats 1000000 in
theorem faceI_skip (p f : Value) (F : Nat → Prop) (w : World) (x : Nat) (hx : x ≠ 0) (h : Rp w p F (.error x)) :
    Calls Tryd.prog 62 #[p, f] w fun e w' => e = .returned (.int .i64 0) ∧ Below w.heap.size w w' := by
  have hxI : ¬ (x : Int) = 0 := by omega
  have h2 : ∃ q, p = .pointer q := by
    rcases h with ⟨rfl, -, -⟩ | ⟨b, rfl, -⟩
    · exact ⟨_, rfl⟩
    · exact ⟨_, rfl⟩
  obtain ⟨q, rfl⟩ := h2
  obtain ⟨W, hW⟩ : ∃ W, W = w.alloc (.cells #[.pointer q] 99) := ⟨_, rfl⟩
  have hB : Below w.heap.size w W := by rw [hW]; exact bel1 _ _
  have HE : Hid (Calls Tryd.prog 61 #[.pointer q] W fun e w' => e = .returned (.int .i64 ((x : Nat) : Int)) ∧ w' = W) := rerr_any W _ F _ (h.kept (fun k hk => hB.block k (h.lt k hk)) hB.size)
  have HB : Hid (Below w.heap.size w W) := hB
  have x0 : W.cell? ⟨w.heap.size, 0, none⟩ = some (.pointer q) := by rw [hW]; simp [go_sem]
  clear h hB hx
  go_enter_defers Tryd.func62, Tryd.ntmps62
  go_upto_region 1 with fail
  rw [← hW]
  clear hW
  go_wp2_with (go_at_call 61; refine HE.out.mono ?_; rintro e w9 ⟨rfl, rfl⟩)
  exact ⟨.int .i64 0, by simp [results, Tryd.results62, go_sem], rfl, HB.out⟩
set_option maxRecDepth 100000 in
set_option maxHeartbeats 1000000 in
theorem faceB_ok (b : Nat) (F : Nat → Prop) (l : List Nat) (w : World) (h : Ro w b F l) (x : List Nat) (t : List Nat) (hr : rB l = .ok (x, t)) :
    Calls Tryd.prog 64 #[.pointer (some ⟨b, 0, none⟩), .func (.func 65) #[.pointer (some ⟨b, 0, none⟩)] #[]] w fun e w' => ∃ v, e = .returned v ∧ (AB w.heap.size) x v w' ∧ Ro w' b F t ∧ Kp (fun i => i = b) w w' := by
  have hmf : ∀ (fn : Fn) (first cap : Array Value) (w : World), (Instr.makeFunc fn first cap).run Tryd.prog w = .ok (.func fn first cap) w := fun _ _ _ _ => rfl
  have hlt := h.lt b h.fb
  obtain ⟨W, hW⟩ : ∃ W, W = w.alloc (.cells #[.pointer (some ⟨b, 0, none⟩)] 99) := ⟨_, rfl⟩
  have hB : Below w.heap.size w W := by rw [hW]; exact bel1 _ _
  have HW : Hid (Ro W b F l ∧ Kp (fun i => i = b) w W ∧ W.heap.size = w.heap.size + 1) := ⟨h.later hB, Kp.of hB, by rw [hW, World.size_alloc]⟩
  have x0 : W.cell? ⟨w.heap.size, 0, none⟩ = some (.pointer (some ⟨b, 0, none⟩)) := by rw [hW]; simp [go_sem]
  have HU : Hid (rB l = .ok (x, t)) := hr
  clear h hr hB
  go_enter_defers Tryd.func64, Tryd.ntmps64
  go_upto_region 1 with fail
  rw [← hW]
  clear hW
  go_wp2_with (go_at_call 61; refine (rerr_ok b F l _ HW.out.1).mono ?_; rintro e w9 ⟨rfl, rfl⟩)
  refine (text_any b F l _ HW.out.1).mono ?_
  intro e W' hE
  obtain ⟨hK, v, rfl, hA, hR⟩ := hE.good HU.out
  have hsz := HW.out.2.2
  have HE : Hid ((AB w.heap.size) x v W' ∧ Ro W' b F t ∧ Kp (fun i => i = b) w W') := ⟨⟨hA.1, hA.2.low (by rw [hsz]; omega)⟩, hR, HW.out.2.1.trans hK (fun i hi => Or.inl hi)⟩
  obtain ⟨ad, cap, rfl, -, -⟩ := hA.1.len
  clear hE hK hR hA hsz
  go_wp2
  refine leaves_cons (f := 68) (args := #[.pointer (some ⟨w.heap.size, 0, none⟩)]) (by simp) (by simp [go_sem]) ?_
  refine (catchB_idle _ _).mono ?_
  rintro e u' w'' ⟨rfl, rfl, rfl⟩
  exact ⟨_, by simp [results, Tryd.results64, go_sem], _, rfl, HE.out.1, HE.out.2.1, HE.out.2.2⟩
set_option maxRecDepth 100000 in
set_option maxHeartbeats 1000000 in
theorem faceB_no (b : Nat) (F : Nat → Prop) (l : List Nat) (w : World) (h : Ro w b F l) (x : Nat) (hx : x ≠ 0) (hr : rB l = .error x) :
    Calls Tryd.prog 64 #[.pointer (some ⟨b, 0, none⟩), .func (.func 65) #[.pointer (some ⟨b, 0, none⟩)] #[]] w fun e w' => e = .returned (.slice none 0 0) ∧ Re w' b F x ∧ Kp (fun i => i = b) w w' := by
  have HF : Hid ((∀ k, F k → k < w.heap.size) ∧ F b) := ⟨h.lt, h.fb⟩
  have hmf : ∀ (fn : Fn) (first cap : Array Value) (w : World), (Instr.makeFunc fn first cap).run Tryd.prog w = .ok (.func fn first cap) w := fun _ _ _ _ => rfl
  have hlt := h.lt b h.fb
  obtain ⟨W, hW⟩ : ∃ W, W = w.alloc (.cells #[.pointer (some ⟨b, 0, none⟩)] 99) := ⟨_, rfl⟩
  have hB : Below w.heap.size w W := by rw [hW]; exact bel1 _ _
  have HW : Hid (Ro W b F l ∧ Kp (fun i => i = b) w W ∧ W.heap.size = w.heap.size + 1) := ⟨h.later hB, Kp.of hB, by rw [hW, World.size_alloc]⟩
  have x0 : W.cell? ⟨w.heap.size, 0, none⟩ = some (.pointer (some ⟨b, 0, none⟩)) := by rw [hW]; simp [go_sem]
  have HU : Hid (rB l = .error x) := hr
  clear h hr hB
  go_enter_defers Tryd.func64, Tryd.ntmps64
  go_upto_region 1 with fail
  rw [← hW]
  clear hW
  go_wp2_with (go_at_call 61; refine (rerr_ok b F l _ HW.out.1).mono ?_; rintro e w9 ⟨rfl, rfl⟩)
  refine (text_any b F l _ HW.out.1).mono ?_
  intro e W' hE
  obtain ⟨hK, rfl, t, hR⟩ := hE.bad HU.out
  have hK2 : Kp (fun i => i = b) w W' := HW.out.2.1.trans hK (fun i hi => Or.inl hi)
  have x1 : W'.cell? ⟨w.heap.size, 0, none⟩ = some (.pointer (some ⟨b, 0, none⟩)) := hK.cell (a := ⟨w.heap.size, 0, none⟩) (by dsimp only; omega) x0
  obtain ⟨v1, y1, -, -⟩ := hR.c1
  have HE : Hid (Ro W' b F t ∧ Kp (fun i => i = b) w W') := ⟨hR, hK2⟩
  clear hE hK hR hK2 x0
  go_wp2
  refine leaves_cons (f := 68) (args := #[.pointer (some ⟨w.heap.size, 0, none⟩)]) (by simp) (by simp [go_sem]) ?_
  refine (catchB_panicking w.heap.size b x v1 _ [] W' x1 HE.out.1.c0 y1 HE.out.1.f1 HE.out.1.c2 HE.out.1.f2 (by omega)).mono ?_
  rintro e u' w'' ⟨rfl, rfl, hC⟩
  refine ⟨.slice none 0 0, by simp [results, Tryd.results64, go_sem], rfl, ⟨fun k hk => Nat.lt_of_lt_of_le (HF.out.1 k hk) (Nat.le_trans HE.out.2.size hC.1.size), HF.out.2, Or.inr ⟨hC.2.1, hC.2.2, hx⟩⟩, HE.out.2.trans hC.1 (fun i hi => Or.inl hi)⟩
set_option maxRecDepth 100000 in
set_option maxHeartbeats 1000000 in
theorem faceB_skip (p f : Value) (F : Nat → Prop) (w : World) (x : Nat) (hx : x ≠ 0) (h : Rp w p F (.error x)) :
    Calls Tryd.prog 64 #[p, f] w fun e w' => e = .returned (.slice none 0 0) ∧ Below w.heap.size w w' := by
  have hxI : ¬ (x : Int) = 0 := by omega
  have h2 : ∃ q, p = .pointer q := by
    rcases h with ⟨rfl, -, -⟩ | ⟨b, rfl, -⟩
    · exact ⟨_, rfl⟩
    · exact ⟨_, rfl⟩
  obtain ⟨q, rfl⟩ := h2
  obtain ⟨W, hW⟩ : ∃ W, W = w.alloc (.cells #[.pointer q] 99) := ⟨_, rfl⟩
  have hB : Below w.heap.size w W := by rw [hW]; exact bel1 _ _
  have HE : Hid (Calls Tryd.prog 61 #[.pointer q] W fun e w' => e = .returned (.int .i64 ((x : Nat) : Int)) ∧ w' = W) := rerr_any W _ F _ (h.kept (fun k hk => hB.block k (h.lt k hk)) hB.size)
  have HB : Hid (Below w.heap.size w W) := hB
  have x0 : W.cell? ⟨w.heap.size, 0, none⟩ = some (.pointer q) := by rw [hW]; simp [go_sem]
  clear h hB hx
  go_enter_defers Tryd.func64, Tryd.ntmps64
  go_upto_region 1 with fail
  rw [← hW]
  clear hW
  go_wp2_with (go_at_call 61; refine HE.out.mono ?_; rintro e w9 ⟨rfl, rfl⟩)
  exact ⟨.slice none 0 0, by simp [results, Tryd.results64, go_sem], rfl, HB.out⟩
end Go.Proofs.YtfcbgkcclganmaaDoor
