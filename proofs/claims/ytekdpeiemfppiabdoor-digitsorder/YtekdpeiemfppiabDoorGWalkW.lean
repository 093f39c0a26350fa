/-
  The contracts of digits' count and signed.
-/
import Derived.Test.YtekdpeiemfppiabDoorGMath2
import Derived.Test.YtekdpeiemfppiabDoorTools
import Derived.Test.YtekdpeiemfppiabDoorWalkG
import Derived.Test.YtekdpeiemfppiabDoorDWalkD
import Derived.Deep.RegionHeld3
import Derived.Lib.OthersKept
import Derived.Sort.AtCall
import Derived.Deep.CutRange
set_option linter.unusedVariables false
set_option linter.unusedSimpArgs false
namespace Go.Proofs.YtekdpeiemfppiabDoor
open Go.RowKit

theorem Bx.off {b : Nat} {x y : Value} {w : World} {p : Addr} (h : Bx b x y w) (u : Value) (hp : p.block ≠ b) : Bx b x y (w.setCell p u) where
  c0 := by rw [World.cell?_setCell_other _ _ _ _ (fun e => hp (by rw [e]))]; exact h.c0
  c1 := by rw [World.cell?_setCell_other _ _ _ _ (fun e => hp (by rw [e]))]; exact h.c1
  f0 := by rw [World.frozen?_setCell]; exact h.f0
  f1 := by rw [World.frozen?_setCell]; exact h.f1
theorem Bx.blk {b : Nat} {x y : Value} {w : World} (h : Bx b x y w) : b < w.heap.size := World.block_lt_of_cell? _ _ h.c0
theorem Bx.iter {b : Nat} {x y : Value} {w : World} (h : Bx b x y w) {k : Nat} (hk : b ≠ k) (s : ByteArray) (p : Nat) : Bx b x y (w.iterAt k s p) := by
  have e := Lib.iterAt_other w k b s p hk
  exact ⟨(World.cell?_of_block (w := w) e).trans h.c0, (World.cell?_of_block (w := w) e).trans h.c1, (World.frozen?_of_block (w := w) e).trans h.f0, (World.frozen?_of_block (w := w) e).trans h.f1⟩
theorem hi0 : hi 0 = 0 := by unfold hi; omega
theorem lo0 : lo 0 = 0 := by unfold lo; omega
/-- The state of count's loop. -/
structure Cs (w : World) (s : ByteArray) (p : Nat) (N : Int) (wz : World) : Prop where
  n : Bx (w.heap.size + 1) (.int .i64 (hi N)) (.int .u64 (lo N)) wz
  r : Bx w.heap.size (.int .i64 0) (.int .u64 0) wz
  it : wz.heap[w.heap.size + 1 + 1]? = some (.stringIter s p)
  b : Below w.heap.size w wz
theorem Cs.lt {w : World} {s : ByteArray} {p : Nat} {N : Int} {wz : World} (h : Cs w s p N wz) : w.heap.size + 1 + 1 < wz.heap.size := (Array.getElem?_eq_some_iff.1 h.it).1
theorem Cs.later {w : World} {s : ByteArray} {p : Nat} {N : Int} {wz wy : World} (h : Cs w s p N wz) (hb : Below wz.heap.size wz wy) : Cs w s p N wy :=
  ⟨h.n.later hb, h.r.later hb, (hb.block _ h.lt).trans h.it, bchain h.b hb⟩
theorem Cs.al {w : World} {s : ByteArray} {p : Nat} {N : Int} {wz : World} (h : Cs w s p N wz) (o : Obj) : Cs w s p N (wz.alloc o) := h.later (bel1 wz o)
theorem Cs.dr {w : World} {s : ByteArray} {p : Nat} {N : Int} {wz : World} (h : Cs w s p N wz) : Cs w s p N wz.drew := h.later (Below.refl _ _).drew
theorem Cs.far {w : World} {s : ByteArray} {p : Nat} {N : Int} {wz : World} (h : Cs w s p N wz) {a : Addr} (ha : w.heap.size + 1 + 1 < a.block) (v : Value) : Cs w s p N (wz.setCell a v) :=
  ⟨h.n.off v (by omega), h.r.off v (by omega), (Below.heap_setCell _ _ _ _ (by omega)).trans h.it, h.b.setCell (by omega) v⟩
theorem Cs.next {w : World} {s : ByteArray} {p : Nat} {N : Int} {wz : World} (h : Cs w s p N wz) (p' : Nat) : Cs w s p' N (wz.iterAt (w.heap.size + 1 + 1) s p') :=
  ⟨h.n.iter (by omega) s p', h.r.iter (by omega) s p', Lib.iterAt_heap wz _ s p p' h.it, Lib.below_iterAt h.b (by omega) s p'⟩
theorem Cs.set {w : World} {s : ByteArray} {p : Nat} {N : Int} {wz : World} (h : Cs w s p N wz) (N' : Int) : Cs w s p N' ((wz.setCell ⟨w.heap.size + 1, 0, none⟩ (.int .i64 (hi N'))).setCell ⟨w.heap.size + 1, 1, none⟩ (.int .u64 (lo N'))) :=
  ⟨h.n.set _ _, (h.r.off (p := ⟨w.heap.size + 1, 0, none⟩) _ (by dsimp only; omega)).off (p := ⟨w.heap.size + 1, 1, none⟩) _ (by dsimp only; omega),
   (Below.heap_setCell _ _ _ _ (by dsimp only; omega)).trans ((Below.heap_setCell _ _ _ _ (by dsimp only; omega)).trans h.it),
   (h.b.setCell (p := ⟨w.heap.size + 1, 0, none⟩) (by dsimp only; omega) _).setCell (p := ⟨w.heap.size + 1, 1, none⟩) (by dsimp only; omega) _⟩
/-- A block that was made just ahead of a call. -/
theorem bx_made {a b : World} (hb : Below (a.alloc (.cells #[.int .i64 0, .int .u64 0] 38)).heap.size (a.alloc (.cells #[.int .i64 0, .int .u64 0] 38)) b) : Bx a.heap.size (.int .i64 0) (.int .u64 0) b := (Bx.new a _ _ 38).later hb
theorem cs_made {w : World} {s : ByteArray} {p : Nat} {N : Int} {a b : World} (h : Hid (Cs w s p N a)) (hb : Below (a.alloc (.cells #[.int .i64 0, .int .u64 0] 38)).heap.size (a.alloc (.cells #[.int .i64 0, .int .u64 0] 38)) b) : Hid (Cs w s p N b) := (h.out.al _).later hb
theorem bx_made2 {a b : World} (hb : Below ((a.alloc (.cells #[.int .i64 0, .int .u64 0] 38)).drew).heap.size ((a.alloc (.cells #[.int .i64 0, .int .u64 0] 38)).drew) b) : Bx a.heap.size (.int .i64 0) (.int .u64 0) b := ((Bx.new a _ _ 38).later (Below.refl _ _).drew).later hb
theorem cs_made2 {w : World} {s : ByteArray} {p : Nat} {N : Int} {a b : World} (h : Hid (Cs w s p N a.drew)) (hb : Below ((a.alloc (.cells #[.int .i64 0, .int .u64 0] 38)).drew).heap.size ((a.alloc (.cells #[.int .i64 0, .int .u64 0] 38)).drew) b) : Hid (Cs w s p N b) := Cs.later (show Cs w s p N ((a.alloc (.cells #[.int .i64 0, .int .u64 0] 38)).drew) from h.out.al _) hb
theorem cs_went {w : World} {s : ByteArray} {p : Nat} {N : Int} {a b : World} (h : Hid (Cs w s p N a)) (hb : Below a.heap.size a b) : Hid (Cs w s p N b) := h.out.later hb
set_option maxRecDepth 100000 in
set_option maxHeartbeats 8000000 in
theorem gcount_any (l : List UInt8) (hd : ∀ i, i < l.length → 48 ≤ gb l i ∧ gb l i ≤ 57) (hl : l.length ≤ 1000) (w : World) :
    Calls Tryd.prog 11 #[.string (bs l)] w fun e w' => e = .returned (.agg #[.int .i64 (hi ((num l : Nat) : Int)), .int .u64 (lo ((num l : Nat) : Int))]) ∧ Below w.heap.size w w' := by
  have z := bs_size l
  have HD : Hid (∀ i, i < l.length → 48 ≤ gb l i ∧ gb l i ≤ 57) := hd
  clear hd
  obtain ⟨X, hX⟩ : ∃ X : Int, ((num l : Nat) : Int) = X := ⟨_, rfl⟩
  have HX : Hid (((num l : Nat) : Int) = X) := hX
  rw [hX]
  clear hX
  go_enter Tryd.func11, Tryd.ntmps11
  go_wp2
  go_loopw [5] (fun s5 wr => ∃ p : Nat, p ≤ l.length ∧ Hid (Cs w (bs l) p ((num (l.take p) : Nat) : Int) wr)) (fun _ wr => l.length - wr.iterPos (w.heap.size + 1 + 1))
  case atStart =>
    refine ⟨0, by omega, ?_⟩
    have h0 := (Bx.new w (.int .i64 0) (.int .u64 0) 38).later (bel2 (w.alloc (.cells #[.int .i64 0, .int .u64 0] 38)) (.cells #[.int .i64 0, .int .u64 0] 38) (.stringIter (bs l) 0))
    have h1 := (Bx.new (w.alloc (.cells #[.int .i64 0, .int .u64 0] 38)) (.int .i64 0) (.int .u64 0) 38).later (bel1 _ (.stringIter (bs l) 0))
    have h2 := World.iter_heap ((w.alloc (.cells #[.int .i64 0, .int .u64 0] 38)).alloc (.cells #[.int .i64 0, .int .u64 0] 38)) (bs l) 0
    rw [World.size_alloc] at h1
    rw [World.size_alloc, World.size_alloc] at h2
    have e0 : ((num (l.take 0) : Nat) : Int) = 0 := by rw [List.take_zero]; rfl
    rw [e0]
    refine ⟨?_, h0, h2, bel3 _ _ _ _⟩
    rw [hi0, lo0]
    exact h1
  case round =>
    obtain ⟨p, hp, hC⟩ := hrel
    by_cases hlt : p < l.length
    · have hlt' : p < (bs l).size := by rw [z]; exact hlt
      obtain ⟨d0, d1⟩ := HD.out p hlt
      have hix : ((bs l)[p]'hlt').toNat = gb l p := gb_at l p hlt'
      have hnx : ∀ ty, (Instr.next (.pointer (some ⟨w.heap.size + 1 + 1, 0, none⟩)) true ty).run Tryd.prog wr = .ok (.tuple #[.bool true, .int .i64 (p : Int), .int .i32 ((gb l p : Nat) : Int)]) (wr.iterAt (w.heap.size + 1 + 1) (bs l) (p + 1)) := by
        intro ty
        have h := Lib.run_next_ascii_at (P := Tryd.prog) wr (w.heap.size + 1 + 1) (bs l) p ty hC.out.it hlt' (by rw [hix]; omega)
        rw [hix] at h
        exact h
      have HN : Hid (num (l.take (p + 1)) = 10 * num (l.take p) + (gb l p - 48)) := num_take l p hlt
      have HI : Hid (wr.iterPos (w.heap.size + 1 + 1) = p) := by show _ = _; simp only [World.iterPos, hC.out.it]
      obtain ⟨c, hc⟩ : ∃ c : Nat, gb l p = c + 48 := ⟨gb l p - 48, by omega⟩
      have hc9 : c ≤ 9 := by omega
      rw [hc] at hnx HN
      have HC : Hid (Cs w (bs l) (p + 1) ((num (l.take p) : Nat) : Int) (wr.iterAt (w.heap.size + 1 + 1) (bs l) (p + 1))) := hC.out.next (p + 1)
      clear hC hix hlt' d0 d1
      generalize wr.iterAt (w.heap.size + 1 + 1) (bs l) (p + 1) = wx at *
      obtain ⟨N, hN⟩ : ∃ N : Int, ((num (l.take p) : Nat) : Int) = N := ⟨_, rfl⟩
      have HN2 : Hid (((num (l.take (p + 1)) : Nat) : Int) = N * 10 + (c : Int)) := by
        show _ = _
        rw [HN.out, ← hN]
        omega
      rw [hN] at HC
      clear hN HN hc
      have S3 : Hid (∀ W : World, Calls Tryd.prog 10 #[.agg #[.int .i64 (hi N), .int .u64 (lo N)], .int .i64 3] W fun e w' => e = .returned (.agg #[.int .i64 (hi (N * 8)), .int .u64 (lo (N * 8))]) ∧ Below W.heap.size W w') := fun W => shl_any N 3 (by omega) W
      have S1 : Hid (∀ W : World, Calls Tryd.prog 10 #[.agg #[.int .i64 (hi N), .int .u64 (lo N)], .int .i64 1] W fun e w' => e = .returned (.agg #[.int .i64 (hi (N * 2)), .int .u64 (lo (N * 2))]) ∧ Below W.heap.size W w') := fun W => shl_any N 1 (by omega) W
      have AD : Hid (∀ W : World, Calls Tryd.prog 12 #[.agg #[.int .i64 (hi (N * 8)), .int .u64 (lo (N * 8))], .agg #[.int .i64 (hi (N * 2)), .int .u64 (lo (N * 2))]] W fun e w' => e = .returned (.agg #[.int .i64 (hi (N * 10)), .int .u64 (lo (N * 10))]) ∧ Below W.heap.size W w') := by
        intro W
        have h := add_any (N * 8) (N * 2) W
        rw [show N * 8 + N * 2 = N * 10 by omega] at h
        exact h
      have OF : Hid (∀ W : World, Calls Tryd.prog 13 #[.int .i64 (c : Int)] W fun e w' => e = .returned (.agg #[.int .i64 (hi (c : Int)), .int .u64 (lo (c : Int))]) ∧ Below W.heap.size W w') := fun W => of_any (c : Int) (by omega) (by omega) W
      have A2 : Hid (∀ W : World, Calls Tryd.prog 12 #[.agg #[.int .i64 (hi (N * 10)), .int .u64 (lo (N * 10))], .agg #[.int .i64 (hi (c : Int)), .int .u64 (lo (c : Int))]] W fun e w' => e = .returned (.agg #[.int .i64 (hi (N * 10 + c)), .int .u64 (lo (N * 10 + c))]) ∧ Below W.heap.size W w') := fun W => add_any (N * 10) (c : Int) W
      generalize hi (N * 8) = h8 at *
      generalize lo (N * 8) = l8 at *
      generalize hi (N * 2) = h2 at *
      generalize lo (N * 2) = l2 at *
      go_upto_region 5 with fail
      go_cut [6] from 9 to 22 (fun s6 wc => ∃ d : Nat, s6 = .pointer (some ⟨d, 0, none⟩) ∧ Bx d (.int .i64 (hi (N * 10))) (.int .u64 (lo (N * 10))) wc ∧ w.heap.size + 1 + 1 < d ∧ Hid (Cs w (bs l) (p + 1) N wc))
      case first =>
        have CD : Hid (Cs w (bs l) (p + 1) N wx.drew) := HC.out.dr
        clear HC OF A2
        go_region_held3 (fun w' => w'.cell? ⟨w.heap.size + 1, 0, none⟩ = some (.int .i64 (hi N)) ∧ w'.cell? ⟨w.heap.size + 1, 1, none⟩ = some (.int .u64 (lo N))) (first | exact ⟨CD.out.n.c0, CD.out.n.c1⟩ | exact ⟨(CD.out.al _).n.c0, (CD.out.al _).n.c1⟩ | exact ⟨((CD.out.far hd _).far hd _).n.c0, ((CD.out.far hd _).far hd _).n.c1⟩) (first
          | (go_at_call_has 10 (Value.int IntKind.i64 3); refine (S3.out _).mono ?_; rintro e wz ⟨rfl, hb⟩; first
              | (have hd := CD.out.lt; have T := bx_made hb; have t0 := T.c0; have t1 := T.c1; have u0 := T.f0; have u1 := T.f1; replace CD := cs_made CD hb; clear hb)
              | (have hd := CD.out.lt; have T := bx_made2 hb; have t0 := T.c0; have t1 := T.c1; have u0 := T.f0; have u1 := T.f1; replace CD := cs_made2 CD hb; clear hb)
              | (replace T := T.later hb; clear t0 t1 u0 u1; have t0 := T.c0; have t1 := T.c1; have u0 := T.f0; have u1 := T.f1; replace CD := cs_went CD hb; clear hb)
              | (replace CD := cs_went CD hb; clear hb))
          | (go_at_call_has 10 (Value.int IntKind.i64 1); refine (S1.out _).mono ?_; rintro e wz ⟨rfl, hb⟩; first
              | (have hd := CD.out.lt; have T := bx_made hb; have t0 := T.c0; have t1 := T.c1; have u0 := T.f0; have u1 := T.f1; replace CD := cs_made CD hb; clear hb)
              | (have hd := CD.out.lt; have T := bx_made2 hb; have t0 := T.c0; have t1 := T.c1; have u0 := T.f0; have u1 := T.f1; replace CD := cs_made2 CD hb; clear hb)
              | (replace T := T.later hb; clear t0 t1 u0 u1; have t0 := T.c0; have t1 := T.c1; have u0 := T.f0; have u1 := T.f1; replace CD := cs_went CD hb; clear hb)
              | (replace CD := cs_went CD hb; clear hb))
          | (go_at_call 12; refine (AD.out _).mono ?_; rintro e wz ⟨rfl, hb⟩; first
              | (have hd := CD.out.lt; have T := bx_made hb; have t0 := T.c0; have t1 := T.c1; have u0 := T.f0; have u1 := T.f1; replace CD := cs_made CD hb; clear hb)
              | (have hd := CD.out.lt; have T := bx_made2 hb; have t0 := T.c0; have t1 := T.c1; have u0 := T.f0; have u1 := T.f1; replace CD := cs_made2 CD hb; clear hb)
              | (replace T := T.later hb; clear t0 t1 u0 u1; have t0 := T.c0; have t1 := T.c1; have u0 := T.f0; have u1 := T.f1; replace CD := cs_went CD hb; clear hb)
              | (replace CD := cs_went CD hb; clear hb)))
        all_goals go_wp2
        all_goals go_meet
        all_goals first
          | exact ⟨_, rfl, T.set _ _, hd, (CD.out.far hd _).far hd _⟩
          | exact ⟨_, rfl, Bx.new wz _ _ _, CD.out.lt, CD.out.al _⟩
      case rest =>
        obtain ⟨d, rfl, T5, hd, CD⟩ := hcut
        clear S3 S1 AD HC
        have t0 := T5.c0
        have t1 := T5.c1
        have v1 : IntKind.i32.wrap (c : Int) = (c : Int) := by rw [IntKind.wrap_i32]; omega
        have v2 : IntKind.i64.wrap (c : Int) = (c : Int) := by rw [IntKind.wrap_i64]; omega
        have c00 : (0 : Int) ≤ (c : Int) := by omega
        have c01 : (c : Int) ≤ 9 := by omega
        go_upto_region 6 with fail
        have T6 : Bx d (.int .i64 (hi (N * 10))) (.int .u64 (lo (N * 10))) wc.drew := T5.later (Below.refl _ _).drew
        have C6 : Hid (Cs w (bs l) (p + 1) N wc.drew) := CD.out.dr
        have n0 := C6.out.n.c0
        have n1 := C6.out.n.c1
        have m0 := C6.out.n.f0
        have m1 := C6.out.n.f1
        clear T5 CD t0 t1
        go_region_held3 (fun w' => w'.cell? ⟨d, 0, none⟩ = some (.int .i64 (hi (N * 10))) ∧ w'.cell? ⟨d, 1, none⟩ = some (.int .u64 (lo (N * 10)))) (first | exact ⟨T6.c0, T6.c1⟩ | exact ⟨((T6.off (p := ⟨w.heap.size + 1, 0, none⟩) _ (by dsimp only; omega)).off (p := ⟨w.heap.size + 1, 1, none⟩) _ (by dsimp only; omega)).c0, ((T6.off (p := ⟨w.heap.size + 1, 0, none⟩) _ (by dsimp only; omega)).off (p := ⟨w.heap.size + 1, 1, none⟩) _ (by dsimp only; omega)).c1⟩) (first
          | (go_at_call 13; refine (OF.out _).mono ?_; rintro e wz ⟨rfl, hb⟩; replace T6 := T6.later hb; replace C6 := cs_went C6 hb; clear hb n0 n1 m0 m1; have n0 := C6.out.n.c0; have n1 := C6.out.n.c1; have m0 := C6.out.n.f0; have m1 := C6.out.n.f1)
          | (go_at_call 12; refine (A2.out _).mono ?_; rintro e wz ⟨rfl, hb⟩; replace T6 := T6.later hb; replace C6 := cs_went C6 hb; clear hb n0 n1 m0 m1; have n0 := C6.out.n.c0; have n1 := C6.out.n.c1; have m0 := C6.out.n.f0; have m1 := C6.out.n.f1))
        have C7 : Hid (Cs w (bs l) (p + 1) (N * 10 + (c : Int)) ((wz.setCell ⟨w.heap.size + 1, 0, none⟩ (.int .i64 (hi (N * 10 + (c : Int))))).setCell ⟨w.heap.size + 1, 1, none⟩ (.int .u64 (lo (N * 10 + (c : Int)))))) := C6.out.set _
        clear n0 n1 m0 m1 T6 C6 OF A2
        generalize (wz.setCell ⟨w.heap.size + 1, 0, none⟩ (.int .i64 (hi (N * 10 + (c : Int))))).setCell ⟨w.heap.size + 1, 1, none⟩ (.int .u64 (lo (N * 10 + (c : Int)))) = wy at *
        go_wp2
        go_roundw
        case rel => exact ⟨p + 1, by omega, by rw [HN2.out]; exact C7⟩
        case measure =>
          have e := C7.out.it
          rw [HI.out]
          simp only [World.iterPos, e]
          omega
    · obtain rfl : p = l.length := by omega
      have hnx : ∀ ty, (Instr.next (.pointer (some ⟨w.heap.size + 1 + 1, 0, none⟩)) true ty).run Tryd.prog wr = .ok (.tuple #[.bool false]) wr := fun ty => Lib.run_next_end_at (P := Tryd.prog) wr (w.heap.size + 1 + 1) (bs l) _ ty hC.out.it (by rw [z]; omega)
      rw [List.take_length, HX.out] at hC
      have c0 := hC.out.n.c0
      have c1 := hC.out.n.c1
      have r0 := hC.out.r.c0
      have r1 := hC.out.r.c1
      have f0 := hC.out.r.f0
      have f1 := hC.out.r.f1
      have HW : Hid (Below w.heap.size w wr) := hC.out.b
      clear hC
      go_wp2
      exact bodyPost_ret (v := .agg #[.int .i64 (hi X), .int .u64 (lo X)]) (by simp [results, Tryd.results11, go_sem, r0, r1]) rfl ⟨rfl, (HW.out.setCell (p := ⟨w.heap.size, 0, none⟩) (Nat.le_refl _) _).setCell (p := ⟨w.heap.size, 1, none⟩) (Nat.le_refl _) _⟩
set_option maxHeartbeats 1000000 in
theorem gsigned_any (bel : Bool) (s1 s2 : ByteArray) (v : Int) (w : World) :
    Calls Tryd.prog 18 #[.agg #[.bool bel, .string s1, .string s2], .agg #[.int .i64 (hi v), .int .u64 (lo v)]] w fun e w' => e = .returned (.agg #[.int .i64 (hi (if bel = true then -v else v)), .int .u64 (lo (if bel = true then -v else v))]) ∧ Below w.heap.size w w' := by
  cases bel
  · rw [if_neg (by simp)]
    go_enter Tryd.func18, Tryd.ntmps18
    go_wp2
    exact bodyPost_ret (v := .agg #[.int .i64 (hi v), .int .u64 (lo v)]) (by simp [results, Tryd.results18, go_sem]) rfl ⟨rfl, bel3 _ _ _ _⟩
  · rw [if_pos rfl]
    have P : Hid (∀ W : World, Calls Tryd.prog 33 #[.agg #[.int .i64 (hi v), .int .u64 (lo v)]] W fun e w' => e = .returned (.agg #[.int .i64 (hi (-v)), .int .u64 (lo (-v))]) ∧ Below W.heap.size W w') := fun W => neg_any v W
    generalize hi (-v) = x at *
    generalize lo (-v) = y at *
    go_enter Tryd.func18, Tryd.ntmps18
    go_wp2_with fail
    refine (P.out _).mono ?_
    rintro e w1 ⟨rfl, hb⟩
    have R := (Bx.new ((w.alloc (.cells #[.bool true, .string s1, .string s2] 33)).alloc (.cells #[.int .i64 (hi v), .int .u64 (lo v)] 38)) (.int .i64 0) (.int .u64 0) 38).later hb
    simp only [World.size_alloc] at R
    have HW : Hid (Below w.heap.size w w1) := bchain (bel3 _ _ _ _) hb
    have r0 := R.c0
    have r1 := R.c1
    have f0 := R.f0
    have f1 := R.f1
    clear hb R P
    go_wp2
    exact bodyPost_ret (v := .agg #[.int .i64 x, .int .u64 y]) (by simp [results, Tryd.results18, go_sem, r0, r1]) rfl ⟨rfl, (HW.out.setCell (p := ⟨w.heap.size + 1 + 1, 0, none⟩) (by dsimp only; omega) _).setCell (p := ⟨w.heap.size + 1 + 1, 1, none⟩) (by dsimp only; omega) _⟩
end Go.Proofs.YtekdpeiemfppiabDoor
