/-
  Texts of this proof, joined: JqC.
-/
import Derived.Test.YthnpdcblfocemaaGreatDoorSP20
import Derived.Test.YthnpdcblfocemaaGreatDoorSP26
import Derived.Test.YthnpdcblfocemaaGreatDoorSP34
set_option linter.unusedVariables false
set_option linter.unusedSimpArgs false
namespace Go.Proofs.YthnpdcblfocemaaGreatDoor
open Go.RowKit

theorem und_jb17 : Tryz.prog.underlying 134 = some (.array 128 5) := by kernel_rfl
theorem sz_jb17 : (Tryz.prog.info? 134).map (·.size) = some 128 := by kernel_rfl
theorem info_jb17 : (Tryz.prog.info? 134).map (fun i => (i.zero, i.size)) = some (some (bkV zr15), 128) := by kernel_rfl
theorem zero_jb17 (w : World) : (zeroValue 134).run Tryz.prog w = .ok (bkV zr15) w := by
  have h := info_jb17
  cases hq : Tryz.prog.info? 134 with
  | none => rw [hq] at h; simp at h
  | some i =>
    rw [hq] at h
    simp only [Option.map_some, Option.some.injEq, Prod.mk.injEq] at h
    simp [zeroValue, typeInfo, hq, h.1]
theorem ldJ {ops : Array Oper} {rest : List Oper} {o : Oper} {a : Act} {w : World} {Q : Exit → Act → World → Prop} (hgd : o.guard = none) (x : Operand) (ho : o.op = .load 134 x)
    (g q : Nat) (b : List Nat) (hx : a.eval x = .pointer (some ⟨g, q, none⟩)) (hr : w.rangeAt g q (b8 b)) (hb : b.length = 128)
    (h : wpList Tryz.prog ops Q rest (a.put o.dst (bkV b)) w) : wpList Tryz.prog ops Q (o :: rest) a w :=
  wpList_load_mid hgd 134 x ho g q hx (b8 b) _ hr und_jb17 rfl (by rw [b8_len, hb]; exact sz_jb17) h
theorem res_jb17 {fn : Func} {p : Tmp} (hr : fn.results = #[.cell p 134]) (tmps : Array Value) {w : World} {g : Nat} {b : List Nat} (h : Vb w g 134 (b8 b)) (hb : b.length = 128) (hp : tmps.getD p undef = .pointer (some ⟨g, 0, none⟩)) :
    (results fn tmps).run Tryz.prog w = .ok (bkV b) w :=
  results_cell_row hr tmps w g 134 (b8 b).toArray (0, 0) _ hp h und_jb17 rfl (by
    have e : (b8 b).toArray.size = 128 := by rw [List.size_toArray, b8_len, hb]
    rw [e]; exact sz_jb17)
theorem splice_b8z (c b : List Nat) : splice (b8 c) 0 (b8 b) = b8 (b ++ c.drop b.length) := by
  unfold splice
  rw [List.take_zero, List.nil_append, Nat.zero_add, b8_app, b8_len]
  congr 1
  simp [b8, List.map_drop]
theorem zr_ok17 : ∀ c ∈ zr15, c < 256 := fun c hc => by unfold zr15 at hc; rw [(List.mem_replicate.1 hc).2]; omega
theorem ptN_app (a : List Nat) (p k m x : Nat) (hp : a.length = p) : ptN (a ++ List.replicate (k + m) 0) p k x = (a ++ enN x k) ++ List.replicate m 0 := by
  subst hp
  unfold ptN
  rw [List.take_left, List.drop_append, List.drop_of_length_le (by omega), List.nil_append, List.drop_replicate, List.append_assoc]
  congr 3
  omega
def jb0 (d : List Nat) : List Nat := d ++ zr15.drop d.length
theorem jb0_is (d : List Nat) (hd : d.length ≤ 104) : jb0 d = (d ++ List.replicate (104 - d.length) 0) ++ List.replicate (4 + 20) 0 := by
  unfold jb0
  rw [show zr15 = List.replicate 128 0 from rfl, List.drop_replicate, List.append_assoc, List.replicate_append_replicate]
  congr 2
  omega
def jbN (d : List Nat) (a b c e g : Nat) : List Nat := (d ++ List.replicate (104 - d.length) 0) ++ jtl a b c e g
theorem jbN_is (d : List Nat) (hd : d.length ≤ 104) (a b c e g : Nat) : ptN (ptN (ptN (ptN (ptN (jb0 d) 104 4 a) 108 2 b) 110 2 c) 112 8 e) 120 8 g = jbN d a b c e g := by
  have hl : (d ++ List.replicate (104 - d.length) 0).length = 104 := by rw [List.length_append, List.length_replicate]; omega
  rw [jb0_is d hd, ptN_app _ 104 4 20 a hl, show (20 : Nat) = 2 + 18 from rfl, ptN_app _ 108 2 18 b (by rw [List.length_append, hl, enN_len]), show (18 : Nat) = 2 + 16 from rfl, ptN_app _ 110 2 16 c (by rw [List.length_append, List.length_append, hl, enN_len, enN_len]),
    show (16 : Nat) = 8 + 8 from rfl, ptN_app _ 112 8 8 e (by rw [List.length_append, List.length_append, List.length_append, hl, enN_len, enN_len, enN_len]), show List.replicate 8 (0 : Nat) = List.replicate (8 + 0) 0 from rfl,
    ptN_app _ 120 8 0 g (by rw [List.length_append, List.length_append, List.length_append, List.length_append, hl, enN_len, enN_len, enN_len, enN_len])]
  unfold jbN jtl
  simp [List.append_assoc]
theorem jb0_ok {d : List Nat} (hd : d.length ≤ 104) (hx : ∀ c ∈ d, c < 256) : okb (jb0 d) := by
  refine ⟨by rw [jb0_is d hd, List.length_append, List.length_append, List.length_replicate, List.length_replicate]; omega, fun c hc => ?_⟩
  unfold jb0 at hc
  rcases List.mem_append.1 hc with q | q
  · exact hx c q
  · exact zr_ok17 c (List.mem_of_mem_drop q)
theorem und_wd17 : Tryz.prog.underlying 154 = some (.array 5 3) := by kernel_rfl
theorem idxW (xs : Array Value) (v : Value) (j : Nat) (h : j < 5) (hx : xs[j]? = some v) (W : World) : (Instr.index 154 (.agg xs) (.int .i64 (j : Int))).run Tryz.prog W = .ok v W := by
  have p := run_part_plain (P := Tryz.prog) (e := 3) W (by kernel_rfl) hx
  have hz := Tryz.sizeOf3 W
  have h1 : (0 : Int) ≤ (j : Int) ∧ (j : Int) < ((5 : Nat) : Int) := by omega
  simp only [Instr.index, asIntOf, Sem.run_bind, Sem.run_pure, Result.andThen_ok, run_underlying und_wd17, if_pos h1, hz, Int.toNat_natCast, Nat.mul_one, p]
structure Bo (w : World) (h : List Nat) (a b c e g : Nat) (X : World) : Prop where
  v : Vb X (w.heap.size + 2) 134 (b8 h)
  r : Vb X (w.heap.size + 1) 134 (b8 zr15)
  t : Vb X w.heap.size 139 (tgL a b c e g)
  k : Below w.heap.size w X
theorem Bo.set {w : World} {h : List Nat} {a b c e g : Nat} {X : World} (H : Bo w h a b c e g X) (q x : Nat) : Bo w (h.set q x) a b c e g (X.setCell ⟨w.heap.size + 2, q, none⟩ (.int .u8 (x : Int))) :=
  ⟨H.v.setB q _, H.r.kept (Below.heap_setCell _ _ _ _ (by dsimp only; omega)), H.t.kept (Below.heap_setCell _ _ _ _ (by dsimp only; omega)), H.k.setCell (by dsimp only; omega) _⟩
set_option maxRecDepth 100000 in
set_option maxHeartbeats 8000000 in
theorem blockOf17 (w : World) (ad : Option Addr) (n cap : Nat) (d : List Nat) (hd : Bs w (.slice ad n cap) d) (hn : d.length = n) (hn2 : n ≤ 104) (hx : ∀ c ∈ d, c < 256) (hT : JT w) (a b c e g : Nat) (hb : a < 18446744073709551616 ∧ b < 18446744073709551616 ∧ c < 18446744073709551616 ∧ e < 18446744073709551616 ∧ g < 18446744073709551616) :
    Calls Tryz.prog 76 #[.slice ad n cap, tgV a b c e g] w fun r w' => r = .returned (bkV (jbN d a b c e g)) ∧ Below w.heap.size w w' := by
  have hz := zero_jb17
  obtain ⟨h0, H0⟩ : ∃ h0, jb0 d = h0 := ⟨_, rfl⟩
  obtain ⟨h1, H1⟩ : ∃ h, ptN h0 104 4 a = h := ⟨_, rfl⟩
  obtain ⟨h2, H2⟩ : ∃ h, ptN h1 108 2 b = h := ⟨_, rfl⟩
  obtain ⟨h3, H3⟩ : ∃ h, ptN h2 110 2 c = h := ⟨_, rfl⟩
  obtain ⟨h4, H4⟩ : ∃ h, ptN h3 112 8 e = h := ⟨_, rfl⟩
  obtain ⟨h5, H5⟩ : ∃ h, ptN h4 120 8 g = h := ⟨_, rfl⟩
  have HE : Hid (jbN d a b c e g = h5) := by
    show _ = _
    rw [← jbN_is d (by omega) a b c e g, H0, H1, H2, H3, H4, H5]
  have o0 : okb h0 := by rw [← H0]; exact jb0_ok (by omega) hx
  have o1 : okb h1 := by rw [← H1]; exact ptN_ok o0 104 4 a (by omega)
  have o2 : okb h2 := by rw [← H2]; exact ptN_ok o1 108 2 b (by omega)
  have o3 : okb h3 := by rw [← H3]; exact ptN_ok o2 110 2 c (by omega)
  have o4 : okb h4 := by rw [← H4]; exact ptN_ok o3 112 8 e (by omega)
  have o5 : okb h5 := by rw [← H5]; exact ptN_ok o4 120 8 g (by omega)
  have HS0 : Hid (ptN h0 104 0 a = h0 ∧ ptN h0 104 4 a = h1 ∧ (∀ j, 104 + j < 128 → (ptN h0 104 j a).set (104 + j) (a / 2 ^ (8 * j) % 256) = ptN h0 104 (j + 1) a) ∧ ∀ j, 104 + j ≤ 128 → okb (ptN h0 104 j a)) := ⟨ptN_zero h0 _ _, H1, fun j hj => ptN_succ h0 104 j a (by rw [o0.1]; exact hj), fun j hj => ptN_ok o0 104 j a hj⟩
  have HS1 : Hid (ptN h1 108 0 b = h1 ∧ ptN h1 108 2 b = h2 ∧ (∀ j, 108 + j < 128 → (ptN h1 108 j b).set (108 + j) (b / 2 ^ (8 * j) % 256) = ptN h1 108 (j + 1) b) ∧ ∀ j, 108 + j ≤ 128 → okb (ptN h1 108 j b)) := ⟨ptN_zero h1 _ _, H2, fun j hj => ptN_succ h1 108 j b (by rw [o1.1]; exact hj), fun j hj => ptN_ok o1 108 j b hj⟩
  have HS2 : Hid (ptN h2 110 0 c = h2 ∧ ptN h2 110 2 c = h3 ∧ (∀ j, 110 + j < 128 → (ptN h2 110 j c).set (110 + j) (c / 2 ^ (8 * j) % 256) = ptN h2 110 (j + 1) c) ∧ ∀ j, 110 + j ≤ 128 → okb (ptN h2 110 j c)) := ⟨ptN_zero h2 _ _, H3, fun j hj => ptN_succ h2 110 j c (by rw [o2.1]; exact hj), fun j hj => ptN_ok o2 110 j c hj⟩
  have HS3 : Hid (ptN h3 112 0 e = h3 ∧ ptN h3 112 8 e = h4 ∧ (∀ j, 112 + j < 128 → (ptN h3 112 j e).set (112 + j) (e / 2 ^ (8 * j) % 256) = ptN h3 112 (j + 1) e) ∧ ∀ j, 112 + j ≤ 128 → okb (ptN h3 112 j e)) := ⟨ptN_zero h3 _ _, H4, fun j hj => ptN_succ h3 112 j e (by rw [o3.1]; exact hj), fun j hj => ptN_ok o3 112 j e hj⟩
  have HS4 : Hid (ptN h4 120 0 g = h4 ∧ ptN h4 120 8 g = h5 ∧ (∀ j, 120 + j < 128 → (ptN h4 120 j g).set (120 + j) (g / 2 ^ (8 * j) % 256) = ptN h4 120 (j + 1) g) ∧ ∀ j, 120 + j ≤ 128 → okb (ptN h4 120 j g)) := ⟨ptN_zero h4 _ _, H5, fun j hj => ptN_succ h4 120 j g (by rw [o4.1]; exact hj), fun j hj => ptN_ok o4 120 j g hj⟩
  have HOk : Hid (h5.length = 128) := o5.1
  have HX : Hid (a < 18446744073709551616 ∧ b < 18446744073709551616 ∧ c < 18446744073709551616 ∧ e < 18446744073709551616 ∧ g < 18446744073709551616) := hb
  have HD : Hid (Bs w (.slice ad n cap) d ∧ d.length = n ∧ n ≤ 104 ∧ jb0 d = h0 ∧ JT w) := ⟨hd, hn, hn2, H0, hT⟩
  obtain ⟨wA, hwA⟩ : ∃ wA, wA = w.alloc (.cells (tgL a b c e g).toArray 139) := ⟨_, rfl⟩
  have hsA : wA.heap.size = w.heap.size + 1 := by rw [hwA]; simp
  have HA : Hid (Vb wA w.heap.size 139 (tgL a b c e g) ∧ Below w.heap.size w wA ∧ wA.heap.size = w.heap.size + 1) := ⟨by rw [hwA]; exact Vb.new _ _ _, by rw [hwA]; exact bel1 _ _, hsA⟩
  unfold tgV
  rw [HE.out]
  clear hd hn hn2 hx hT hb H0 H1 H2 H3 H4 H5 o0 o1 o2 o3 o4 o5
  go_enter Tryz.func76, Tryz.ntmps76
  go_upto_region 1 with (refine alV rfl 134 (b8 zr15) hz rfl ?_; rw [show w.alloc (.cells #[.int .u64 (a : Int), .int .u64 (b : Int), .int .u64 (c : Int), .int .u64 (e : Int), .int .u64 (g : Int)] 139) = wA from hwA.symm]; intro wB hVB hBB hSB; rw [hsA] at hVB hSB; rw [hsA])
  clear hwA
  have HB : Hid (Vb wB w.heap.size 139 (tgL a b c e g) ∧ Vb wB (w.heap.size + 1) 134 (b8 zr15) ∧ Below w.heap.size w wB ∧ wB.heap.size = w.heap.size + 2) := ⟨HA.out.1.later hBB, hVB, bchain HA.out.2.1 hBB, hSB⟩
  clear hVB hBB hSB hsA HA
  go_upto_region 2 with (refine alV rfl 134 (b8 zr15) hz rfl ?_; intro wC hVC hBC hSC; rw [HB.out.2.2.2] at hVC hSC; rw [HB.out.2.2.2])
  have HC : Hid (Vb wC w.heap.size 139 (tgL a b c e g) ∧ Vb wC (w.heap.size + 1) 134 (b8 zr15) ∧ Vb wC (w.heap.size + 2) 134 (b8 zr15) ∧ Below w.heap.size w wC) := ⟨HB.out.1.later hBC, HB.out.2.1.later hBC, hVC, bchain HB.out.2.2.1 hBC⟩
  clear hVC hBC hSC HB hz
  have HBs : Hid (Bs wC (.slice ad n cap) d) := HD.out.1.later HC.out.2.2.2
  go_upto_region 3 with (refine cpW rfl _ _ rfl (w.heap.size + 2) 0 (b8 zr15) 134 d n 128 128 n cap _ _ rfl rfl HC.out.2.2.1 HD.out.2.1 (Nat.min_eq_left (by have := HD.out.2.2.1; omega)).symm (fun _ => rfl) HBs.out (by rw [b8_len, zr_len]; have := HD.out.2.2.1; omega) ?_; intro wD hVD hKD hSD)
  have HW0 : Hid (Bo w h0 a b c e g wD) := by
    have e1 : splice (b8 zr15) 0 (b8 (d.take n)) = b8 h0 := by
      rw [List.take_of_length_le (by have := HD.out.2.1; omega), splice_b8z, ← HD.out.2.2.2.1]
      rfl
    rw [e1] at hVD
    exact ⟨hVD, HC.out.2.1.kept (hKD.block _ HC.out.2.1.lt (by omega)), HC.out.1.kept (hKD.block _ HC.out.1.lt (by omega)), hKD.next HC.out.2.2.2 (fun i hi => by omega) HC.out.2.2.2.size⟩
  have hJT := HD.out.2.2.2.2.later HW0.out.k
  obtain ⟨t0, t1, t2, t3, t4⟩ := hJT
  clear hVD hKD hSD HC HBs
  go_upto_region 5 with fail
  clear t0 t1 t2 t3 t4
  go_loopw [6, 14] (fun s6 s14 wr => (s6 = .int .i64 104 ∧ s14 = .int .i64 0 ∧ Hid (Bo w h0 a b c e g wr)) ∨ (s6 = .int .i64 108 ∧ s14 = .int .i64 1 ∧ Hid (Bo w h1 a b c e g wr)) ∨ (s6 = .int .i64 110 ∧ s14 = .int .i64 2 ∧ Hid (Bo w h2 a b c e g wr)) ∨ (s6 = .int .i64 112 ∧ s14 = .int .i64 3 ∧ Hid (Bo w h3 a b c e g wr)) ∨ (s6 = .int .i64 120 ∧ s14 = .int .i64 4 ∧ Hid (Bo w h4 a b c e g wr)) ∨ (s6 = .int .i64 128 ∧ s14 = .int .i64 5 ∧ Hid (Bo w h5 a b c e g wr))) (fun _ s14 _ => 5 - (intOf s14).toNat)
  case atStart => exact Or.inl ⟨rfl, rfl, HW0.out⟩
  case round =>
    rcases hrel with ⟨rfl, rfl, HW⟩ | ⟨rfl, rfl, HW⟩ | ⟨rfl, rfl, HW⟩ | ⟨rfl, rfl, HW⟩ | ⟨rfl, rfl, HW⟩ | ⟨rfl, rfl, HW⟩
    · clear HW0
      have HWi : Hid (Bo w (ptN h0 104 0 a) a b c e g wr) := by rw [HS0.out.1]; exact HW.out
      clear HW
      have xi : (Instr.index 154 (.agg #[.int .i64 4, .int .i64 2, .int .i64 2, .int .i64 8, .int .i64 8]) (.int .i64 0)).run Tryz.prog wr = .ok (.int .i64 4) wr := idxW _ _ 0 (by omega) rfl wr
      have HXx : Hid (a < 18446744073709551616) := by have := HX.out; exact this.1
      go_upto_region 8 with fail
      clear xi
      go_loopw [19] (fun s19 wr => ∃ j : Nat, j ≤ 4 ∧ s19 = .int .i64 (j : Int) ∧ Hid (Bo w (ptN h0 104 j a) a b c e g wr)) (fun s19 _ => 4 - (intOf s19).toNat)
      case atStart => exact ⟨0, by omega, rfl, HWi.out⟩
      case round =>
        obtain ⟨j, hj, rfl, HW⟩ := hrel
        clear HWi
        by_cases hlt : j < 4
        · have hjI : (j : Int) < 4 := by omega
          have HSj := HS0.out.2.2.1 j (by omega)
          have HOj := HS0.out.2.2.2 j (by omega)
          obtain ⟨q, hq⟩ : ∃ q, 104 + j = q := ⟨_, rfl⟩
          obtain ⟨e8, he8⟩ : ∃ e8, 8 * j = e8 := ⟨_, rfl⟩
          rw [hq, he8] at HSj
          have hc := HW.out.t.cell 0 _ rfl
          have hc2 := HW.out.v.cell q _ (b8_cell _ q (by rw [HOj.1]; omega))
          have hf := HW.out.v.fro q
          have hqw : IntKind.i64.wrap (104 + (j : Int)) = (q : Int) := by rw [IntKind.wrap_i64]; omega
          have hew : IntKind.i64.wrap (8 * (j : Int)) = (e8 : Int) := by rw [IntKind.wrap_i64]; omega
          have hq2 : (q : Int) < 128 := by omega
          have hZ : (a : Int) / 2 ^ min e8 64 % 256 = ((a / 2 ^ e8 % 256 : Nat) : Int) := by
            rw [Nat.min_eq_left (by omega)]
            simp
          have HV2 : Hid (Bo w (ptN h0 104 (j + 1) a) a b c e g (wr.setCell ⟨w.heap.size + 2, q, none⟩ (.int .u8 ((a : Int) / 2 ^ min e8 64 % 256)))) := by
            rw [hZ, ← HSj]
            exact HW.out.set q _
          clear hq he8 hZ HSj HOj HW
          go_wp2
          go_roundw
          case rel => exact ⟨j + 1, by omega, by go_num, HV2⟩
          case measure => simp [intOf]; omega
        · obtain rfl : j = 4 := by omega
          have HW2 : Hid (Bo w h1 a b c e g wr) := by rw [← HS0.out.2.1]; exact HW.out
          clear HW hj hlt
          go_wp2
          go_roundw
          case rel => exact Or.inr (Or.inl ⟨rfl, rfl, HW2.out⟩)
          case measure => simp [intOf]
    · clear HW0
      have HWi : Hid (Bo w (ptN h1 108 0 b) a b c e g wr) := by rw [HS1.out.1]; exact HW.out
      clear HW
      have xi : (Instr.index 154 (.agg #[.int .i64 4, .int .i64 2, .int .i64 2, .int .i64 8, .int .i64 8]) (.int .i64 1)).run Tryz.prog wr = .ok (.int .i64 2) wr := idxW _ _ 1 (by omega) rfl wr
      have HXx : Hid (b < 18446744073709551616) := by have := HX.out; exact this.2.1
      go_upto_region 8 with fail
      clear xi
      go_loopw [19] (fun s19 wr => ∃ j : Nat, j ≤ 2 ∧ s19 = .int .i64 (j : Int) ∧ Hid (Bo w (ptN h1 108 j b) a b c e g wr)) (fun s19 _ => 2 - (intOf s19).toNat)
      case atStart => exact ⟨0, by omega, rfl, HWi.out⟩
      case round =>
        obtain ⟨j, hj, rfl, HW⟩ := hrel
        clear HWi
        by_cases hlt : j < 2
        · have hjI : (j : Int) < 2 := by omega
          have HSj := HS1.out.2.2.1 j (by omega)
          have HOj := HS1.out.2.2.2 j (by omega)
          obtain ⟨q, hq⟩ : ∃ q, 108 + j = q := ⟨_, rfl⟩
          obtain ⟨e8, he8⟩ : ∃ e8, 8 * j = e8 := ⟨_, rfl⟩
          rw [hq, he8] at HSj
          have hc := HW.out.t.cell 1 _ rfl
          have hc2 := HW.out.v.cell q _ (b8_cell _ q (by rw [HOj.1]; omega))
          have hf := HW.out.v.fro q
          have hqw : IntKind.i64.wrap (108 + (j : Int)) = (q : Int) := by rw [IntKind.wrap_i64]; omega
          have hew : IntKind.i64.wrap (8 * (j : Int)) = (e8 : Int) := by rw [IntKind.wrap_i64]; omega
          have hq2 : (q : Int) < 128 := by omega
          have hZ : (b : Int) / 2 ^ min e8 64 % 256 = ((b / 2 ^ e8 % 256 : Nat) : Int) := by
            rw [Nat.min_eq_left (by omega)]
            simp
          have HV2 : Hid (Bo w (ptN h1 108 (j + 1) b) a b c e g (wr.setCell ⟨w.heap.size + 2, q, none⟩ (.int .u8 ((b : Int) / 2 ^ min e8 64 % 256)))) := by
            rw [hZ, ← HSj]
            exact HW.out.set q _
          clear hq he8 hZ HSj HOj HW
          go_wp2
          go_roundw
          case rel => exact ⟨j + 1, by omega, by go_num, HV2⟩
          case measure => simp [intOf]; omega
        · obtain rfl : j = 2 := by omega
          have HW2 : Hid (Bo w h2 a b c e g wr) := by rw [← HS1.out.2.1]; exact HW.out
          clear HW hj hlt
          go_wp2
          go_roundw
          case rel => exact Or.inr (Or.inr (Or.inl ⟨rfl, rfl, HW2.out⟩))
          case measure => simp [intOf]
    · clear HW0
      have HWi : Hid (Bo w (ptN h2 110 0 c) a b c e g wr) := by rw [HS2.out.1]; exact HW.out
      clear HW
      have xi : (Instr.index 154 (.agg #[.int .i64 4, .int .i64 2, .int .i64 2, .int .i64 8, .int .i64 8]) (.int .i64 2)).run Tryz.prog wr = .ok (.int .i64 2) wr := idxW _ _ 2 (by omega) rfl wr
      have HXx : Hid (c < 18446744073709551616) := by have := HX.out; exact this.2.2.1
      go_upto_region 8 with fail
      clear xi
      go_loopw [19] (fun s19 wr => ∃ j : Nat, j ≤ 2 ∧ s19 = .int .i64 (j : Int) ∧ Hid (Bo w (ptN h2 110 j c) a b c e g wr)) (fun s19 _ => 2 - (intOf s19).toNat)
      case atStart => exact ⟨0, by omega, rfl, HWi.out⟩
      case round =>
        obtain ⟨j, hj, rfl, HW⟩ := hrel
        clear HWi
        by_cases hlt : j < 2
        · have hjI : (j : Int) < 2 := by omega
          have HSj := HS2.out.2.2.1 j (by omega)
          have HOj := HS2.out.2.2.2 j (by omega)
          obtain ⟨q, hq⟩ : ∃ q, 110 + j = q := ⟨_, rfl⟩
          obtain ⟨e8, he8⟩ : ∃ e8, 8 * j = e8 := ⟨_, rfl⟩
          rw [hq, he8] at HSj
          have hc := HW.out.t.cell 2 _ rfl
          have hc2 := HW.out.v.cell q _ (b8_cell _ q (by rw [HOj.1]; omega))
          have hf := HW.out.v.fro q
          have hqw : IntKind.i64.wrap (110 + (j : Int)) = (q : Int) := by rw [IntKind.wrap_i64]; omega
          have hew : IntKind.i64.wrap (8 * (j : Int)) = (e8 : Int) := by rw [IntKind.wrap_i64]; omega
          have hq2 : (q : Int) < 128 := by omega
          have hZ : (c : Int) / 2 ^ min e8 64 % 256 = ((c / 2 ^ e8 % 256 : Nat) : Int) := by
            rw [Nat.min_eq_left (by omega)]
            simp
          have HV2 : Hid (Bo w (ptN h2 110 (j + 1) c) a b c e g (wr.setCell ⟨w.heap.size + 2, q, none⟩ (.int .u8 ((c : Int) / 2 ^ min e8 64 % 256)))) := by
            rw [hZ, ← HSj]
            exact HW.out.set q _
          clear hq he8 hZ HSj HOj HW
          go_wp2
          go_roundw
          case rel => exact ⟨j + 1, by omega, by go_num, HV2⟩
          case measure => simp [intOf]; omega
        · obtain rfl : j = 2 := by omega
          have HW2 : Hid (Bo w h3 a b c e g wr) := by rw [← HS2.out.2.1]; exact HW.out
          clear HW hj hlt
          go_wp2
          go_roundw
          case rel => exact Or.inr (Or.inr (Or.inr (Or.inl ⟨rfl, rfl, HW2.out⟩)))
          case measure => simp [intOf]
    · clear HW0
      have HWi : Hid (Bo w (ptN h3 112 0 e) a b c e g wr) := by rw [HS3.out.1]; exact HW.out
      clear HW
      have xi : (Instr.index 154 (.agg #[.int .i64 4, .int .i64 2, .int .i64 2, .int .i64 8, .int .i64 8]) (.int .i64 3)).run Tryz.prog wr = .ok (.int .i64 8) wr := idxW _ _ 3 (by omega) rfl wr
      have HXx : Hid (e < 18446744073709551616) := by have := HX.out; exact this.2.2.2.1
      go_upto_region 8 with fail
      clear xi
      go_loopw [19] (fun s19 wr => ∃ j : Nat, j ≤ 8 ∧ s19 = .int .i64 (j : Int) ∧ Hid (Bo w (ptN h3 112 j e) a b c e g wr)) (fun s19 _ => 8 - (intOf s19).toNat)
      case atStart => exact ⟨0, by omega, rfl, HWi.out⟩
      case round =>
        obtain ⟨j, hj, rfl, HW⟩ := hrel
        clear HWi
        by_cases hlt : j < 8
        · have hjI : (j : Int) < 8 := by omega
          have HSj := HS3.out.2.2.1 j (by omega)
          have HOj := HS3.out.2.2.2 j (by omega)
          obtain ⟨q, hq⟩ : ∃ q, 112 + j = q := ⟨_, rfl⟩
          obtain ⟨e8, he8⟩ : ∃ e8, 8 * j = e8 := ⟨_, rfl⟩
          rw [hq, he8] at HSj
          have hc := HW.out.t.cell 3 _ rfl
          have hc2 := HW.out.v.cell q _ (b8_cell _ q (by rw [HOj.1]; omega))
          have hf := HW.out.v.fro q
          have hqw : IntKind.i64.wrap (112 + (j : Int)) = (q : Int) := by rw [IntKind.wrap_i64]; omega
          have hew : IntKind.i64.wrap (8 * (j : Int)) = (e8 : Int) := by rw [IntKind.wrap_i64]; omega
          have hq2 : (q : Int) < 128 := by omega
          have hZ : (e : Int) / 2 ^ min e8 64 % 256 = ((e / 2 ^ e8 % 256 : Nat) : Int) := by
            rw [Nat.min_eq_left (by omega)]
            simp
          have HV2 : Hid (Bo w (ptN h3 112 (j + 1) e) a b c e g (wr.setCell ⟨w.heap.size + 2, q, none⟩ (.int .u8 ((e : Int) / 2 ^ min e8 64 % 256)))) := by
            rw [hZ, ← HSj]
            exact HW.out.set q _
          clear hq he8 hZ HSj HOj HW
          go_wp2
          go_roundw
          case rel => exact ⟨j + 1, by omega, by go_num, HV2⟩
          case measure => simp [intOf]; omega
        · obtain rfl : j = 8 := by omega
          have HW2 : Hid (Bo w h4 a b c e g wr) := by rw [← HS3.out.2.1]; exact HW.out
          clear HW hj hlt
          go_wp2
          go_roundw
          case rel => exact Or.inr (Or.inr (Or.inr (Or.inr (Or.inl ⟨rfl, rfl, HW2.out⟩))))
          case measure => simp [intOf]
    · clear HW0
      have HWi : Hid (Bo w (ptN h4 120 0 g) a b c e g wr) := by rw [HS4.out.1]; exact HW.out
      clear HW
      have xi : (Instr.index 154 (.agg #[.int .i64 4, .int .i64 2, .int .i64 2, .int .i64 8, .int .i64 8]) (.int .i64 4)).run Tryz.prog wr = .ok (.int .i64 8) wr := idxW _ _ 4 (by omega) rfl wr
      have HXx : Hid (g < 18446744073709551616) := by have := HX.out; exact this.2.2.2.2
      go_upto_region 8 with fail
      clear xi
      go_loopw [19] (fun s19 wr => ∃ j : Nat, j ≤ 8 ∧ s19 = .int .i64 (j : Int) ∧ Hid (Bo w (ptN h4 120 j g) a b c e g wr)) (fun s19 _ => 8 - (intOf s19).toNat)
      case atStart => exact ⟨0, by omega, rfl, HWi.out⟩
      case round =>
        obtain ⟨j, hj, rfl, HW⟩ := hrel
        clear HWi
        by_cases hlt : j < 8
        · have hjI : (j : Int) < 8 := by omega
          have HSj := HS4.out.2.2.1 j (by omega)
          have HOj := HS4.out.2.2.2 j (by omega)
          obtain ⟨q, hq⟩ : ∃ q, 120 + j = q := ⟨_, rfl⟩
          obtain ⟨e8, he8⟩ : ∃ e8, 8 * j = e8 := ⟨_, rfl⟩
          rw [hq, he8] at HSj
          have hc := HW.out.t.cell 4 _ rfl
          have hc2 := HW.out.v.cell q _ (b8_cell _ q (by rw [HOj.1]; omega))
          have hf := HW.out.v.fro q
          have hqw : IntKind.i64.wrap (120 + (j : Int)) = (q : Int) := by rw [IntKind.wrap_i64]; omega
          have hew : IntKind.i64.wrap (8 * (j : Int)) = (e8 : Int) := by rw [IntKind.wrap_i64]; omega
          have hq2 : (q : Int) < 128 := by omega
          have hZ : (g : Int) / 2 ^ min e8 64 % 256 = ((g / 2 ^ e8 % 256 : Nat) : Int) := by
            rw [Nat.min_eq_left (by omega)]
            simp
          have HV2 : Hid (Bo w (ptN h4 120 (j + 1) g) a b c e g (wr.setCell ⟨w.heap.size + 2, q, none⟩ (.int .u8 ((g : Int) / 2 ^ min e8 64 % 256)))) := by
            rw [hZ, ← HSj]
            exact HW.out.set q _
          clear hq he8 hZ HSj HOj HW
          go_wp2
          go_roundw
          case rel => exact ⟨j + 1, by omega, by go_num, HV2⟩
          case measure => simp [intOf]; omega
        · obtain rfl : j = 8 := by omega
          have HW2 : Hid (Bo w h5 a b c e g wr) := by rw [← HS4.out.2.1]; exact HW.out
          clear HW hj hlt
          go_wp2
          go_roundw
          case rel => exact Or.inr (Or.inr (Or.inr (Or.inr (Or.inr (⟨rfl, rfl, HW2.out⟩)))))
          case measure => simp [intOf]
    · clear HW0
      go_wp2_with (first
        | (refine ldJ rfl _ rfl (w.heap.size + 2) 0 h5 rfl HW.out.v.all HOk.out ?_)
        | (refine stV rfl 134 _ _ rfl (w.heap.size + 1) (b8 zr15) (b8 h5) rfl rfl HW.out.r (by rw [b8_len, b8_len, HOk.out, zr_len]) (by rw [b8_len, HOk.out]; exact sz_jb17) (b8_one _) ?_; intro wE hVE hKE hSE))
      exact bodyPost_ret (res_jb17 rfl _ hVE HOk.out rfl) rfl ⟨rfl, hKE.next HW.out.k (fun i hi => by omega) HW.out.k.size⟩
end Go.Proofs.YthnpdcblfocemaaGreatDoor
