/-
  The program's frame: numbers of four bytes (numberAt, withNumber).
-/
import Derived.Test.YtfcbgkcclganmaaDoorFwA
set_option linter.unusedVariables false
set_option linter.unusedSimpArgs false
namespace Go.Proofs.YtfcbgkcclganmaaDoor
open Go.RowKit

theorem or32 (a b : Nat) (ha : a < 4294967296) (hb : b < 4294967296) : bits .or .u32 (a : Int) (b : Int) = ((a ||| b : Nat) : Int) := by
  have hx : a ||| b < 2 ^ 32 := Nat.or_lt_two_pow (by omega) (by omega)
  have b32 : ∀ a : Nat, a < 4294967296 → (BitVec.ofInt 32 (a : Int)).toNat = a := fun a ha => by
    rw [BitVec.ofInt_natCast, BitVec.toNat_ofNat]; exact Nat.mod_eq_of_lt (by omega)
  show IntKind.u32.wrap ((BitVec.ofInt 32 (a : Int) ||| BitVec.ofInt 32 (b : Int)).toNat : Int) = _
  rw [BitVec.toNat_or, b32 a ha, b32 b hb, IntKind.wrap_u32]
  omega
theorem or_plus13 {a k : Nat} (h : a < 2 ^ k) (x : Nat) : a ||| x * 2 ^ k = a + x * 2 ^ k := by
  rw [Nat.or_comm, Nat.mul_comm x, ← Nat.two_pow_add_eq_or_of_lt h, Nat.add_comm]
/-- The number at a place, and its first so many bytes. -/
def n4 (l : List Nat) (p : Nat) : Nat := l.getD p 0 + 256 * l.getD (p + 1) 0 + 65536 * l.getD (p + 2) 0 + 16777216 * l.getD (p + 3) 0
def nA (l : List Nat) (p : Nat) : Nat → Nat
  | 0 => 0
  | j + 1 => nA l p j + l.getD (p + j) 0 * 2 ^ (8 * j)
theorem nA_four (l : List Nat) (p : Nat) : nA l p 4 = n4 l p := by
  unfold n4
  simp only [nA, Nat.add_zero]
  omega
theorem nA_lt {l : List Nat} (hb : ∀ c ∈ l, c < 256) (p : Nat) : nA l p 0 = 0 ∧ nA l p 1 < 2 ^ 8 ∧ nA l p 2 < 2 ^ 16 ∧ nA l p 3 < 2 ^ 24 := by
  have h0 := getD_byte hb (p + 0)
  have h1 := getD_byte hb (p + 1)
  have h2 := getD_byte hb (p + 2)
  rw [Nat.add_zero] at h0
  refine ⟨rfl, ?_, ?_, ?_⟩ <;> simp only [nA, Nat.add_zero] <;> omega
set_option maxRecDepth 100000 in
set_option maxHeartbeats 4000000 in
theorem numberAt_any (w : World) (v : Value) (l : List Nat) (p : Nat) (h : Bs w v l) (hb : ∀ c ∈ l, c < 256) (hl : l.length ≤ 1000000) (hp : p + 4 ≤ l.length) :
    Calls Tryd.prog 47 #[v, .int .i64 (p : Int)] w fun e w' => e = .returned (.int .u32 ((n4 l p : Nat) : Int)) ∧ w' = w := by
  obtain ⟨ad, cap, rfl, k1, k2⟩ := h.len
  unfold maxLen at k2
  obtain ⟨n, hn⟩ : ∃ n, l.length = n := ⟨_, rfl⟩
  obtain ⟨q, hq⟩ : ∃ q, p + 4 = q := ⟨_, rfl⟩
  have hqI : IntKind.i64.wrap ((p : Int) + 4) = (q : Int) := by rw [IntKind.wrap_i64]; omega
  have hS := sv_bs h p q (by omega) (by omega)
  have s1 := slice_run w ad l.length cap p q (by omega) (by omega)
  obtain ⟨a9, c9, e9, -, -⟩ := hS.len
  have hl9 : ((l.drop p).take (q - p)).length = 4 := by rw [List.length_take, List.length_drop]; omega
  rw [hl9] at e9
  rw [e9] at s1 hS
  have HS : Hid (∀ j, j < 4 → ∃ (b o : Nat), a9 = some ⟨b, o, none⟩ ∧ w.cell? ⟨b, o + j, none⟩ = some (.int .u8 ((l.getD (p + j) 0 : Nat) : Int))) := fun j hj => by
    obtain ⟨b, o, e, c⟩ := hS.cel j (by omega)
    refine ⟨b, o, e, ?_⟩
    rw [c]
    have : j < q - p := by omega
    simp [List.getD, List.getElem?_take, this]
  have HB : Hid ((∀ j, l.getD (p + j) 0 < 256) ∧ nA l p 0 = 0 ∧ nA l p 1 < 2 ^ 8 ∧ nA l p 2 < 2 ^ 16 ∧ nA l p 3 < 2 ^ 24) := ⟨fun j => getD_byte hb _, nA_lt hb p⟩
  rw [hn] at k1 hl hp s1 ⊢
  have HP : Hid (p + 4 = q ∧ p + 4 ≤ n) := ⟨hq, hp⟩
  clear h hb hS hl9 e9 hn hq hp
  go_enter Tryd.func47, Tryd.ntmps47
  go_upto_region 3 with fail
  go_loopw [5, 14] (fun s5 s14 wr => ∃ j : Nat, j ≤ 4 ∧ s14 = .int .i64 (j : Int) ∧ s5 = .int .u32 ((nA l p j : Nat) : Int) ∧ wr = w) (fun _ s14 _ => 4 - (intOf s14).toNat)
  case atStart => exact ⟨0, by omega, rfl, by rw [HB.out.2.1]; rfl, rfl⟩
  case round =>
    obtain ⟨j, hj, rfl, rfl, hwr⟩ := hrel
    have hwr2 := hwr.symm
    subst hwr2
    clear hwr
    by_cases hlt : j < 4
    · obtain ⟨g, o, e, c⟩ := HS.out j hlt
      subst e
      clear HS
      have hx := HB.out.1 j
      have HNx : Hid (nA l p (j + 1) = nA l p j + l.getD (p + j) 0 * 2 ^ (8 * j)) := rfl
      have hcs : j = 0 ∨ j = 1 ∨ j = 2 ∨ j = 3 := by omega
      rcases hcs with rfl | rfl | rfl | rfl
      · have hA : nA l p 0 < 2 ^ 0 := by have := HB.out.2.1; omega
        obtain ⟨y, hy⟩ : ∃ y, l.getD (p + 0) 0 * 2 ^ 0 = y := ⟨_, rfl⟩
        have hor := or_plus13 hA (l.getD (p + 0) 0)
        have hm8 : (8 : Nat) * 0 = 0 := rfl
        rw [hm8] at HNx
        rw [hy] at hor HNx
        have ho32 := or32 (nA l p 0) y (by omega) (by omega)
        rw [hor] at ho32
        obtain ⟨A, hAA⟩ : ∃ A, nA l p 0 = A := ⟨_, rfl⟩
        obtain ⟨x, hxx⟩ : ∃ x, l.getD (p + 0) 0 = x := ⟨_, rfl⟩
        rw [hAA] at ho32 hor HNx hA ⊢
        rw [hxx] at hy c hx
        have hw : IntKind.u32.wrap (x : Int) = (x : Int) := by rw [IntKind.wrap_u32]; omega
        have hsh : IntKind.u32.wrap ((x : Int) * 1) = (y : Int) := by rw [IntKind.wrap_u32]; omega
        have hsh2 : (x : Int) * 1 = (y : Int) := by omega
        clear hor hy hAA hxx hm8 hA
        rw [Nat.add_zero] at c
        go_wp2
        go_roundw
        case rel => exact ⟨1, by omega, by first | rfl | go_num, by rw [HNx.out, Int.natCast_add], by trivial⟩
        case measure => first | (simp [intOf]; done) | (simp [intOf]; omega)
      · have hA : nA l p 1 < 2 ^ 8 := by have := HB.out.2.2.1; omega
        obtain ⟨y, hy⟩ : ∃ y, l.getD (p + 1) 0 * 2 ^ 8 = y := ⟨_, rfl⟩
        have hor := or_plus13 hA (l.getD (p + 1) 0)
        have hm8 : (8 : Nat) * 1 = 8 := rfl
        rw [hm8] at HNx
        rw [hy] at hor HNx
        have ho32 := or32 (nA l p 1) y (by omega) (by omega)
        rw [hor] at ho32
        obtain ⟨A, hAA⟩ : ∃ A, nA l p 1 = A := ⟨_, rfl⟩
        obtain ⟨x, hxx⟩ : ∃ x, l.getD (p + 1) 0 = x := ⟨_, rfl⟩
        rw [hAA] at ho32 hor HNx hA ⊢
        rw [hxx] at hy c hx
        have hw : IntKind.u32.wrap (x : Int) = (x : Int) := by rw [IntKind.wrap_u32]; omega
        have hsh : IntKind.u32.wrap ((x : Int) * 256) = (y : Int) := by rw [IntKind.wrap_u32]; omega
        have hsh2 : (x : Int) * 256 = (y : Int) := by omega
        clear hor hy hAA hxx hm8 
        skip
        go_wp2
        go_roundw
        case rel => exact ⟨2, by omega, by first | rfl | go_num, by rw [HNx.out, Int.natCast_add], by trivial⟩
        case measure => first | (simp [intOf]; done) | (simp [intOf]; omega)
      · have hA : nA l p 2 < 2 ^ 16 := by have := HB.out.2.2.2.1; omega
        obtain ⟨y, hy⟩ : ∃ y, l.getD (p + 2) 0 * 2 ^ 16 = y := ⟨_, rfl⟩
        have hor := or_plus13 hA (l.getD (p + 2) 0)
        have hm8 : (8 : Nat) * 2 = 16 := rfl
        rw [hm8] at HNx
        rw [hy] at hor HNx
        have ho32 := or32 (nA l p 2) y (by omega) (by omega)
        rw [hor] at ho32
        obtain ⟨A, hAA⟩ : ∃ A, nA l p 2 = A := ⟨_, rfl⟩
        obtain ⟨x, hxx⟩ : ∃ x, l.getD (p + 2) 0 = x := ⟨_, rfl⟩
        rw [hAA] at ho32 hor HNx hA ⊢
        rw [hxx] at hy c hx
        have hw : IntKind.u32.wrap (x : Int) = (x : Int) := by rw [IntKind.wrap_u32]; omega
        have hsh : IntKind.u32.wrap ((x : Int) * 65536) = (y : Int) := by rw [IntKind.wrap_u32]; omega
        have hsh2 : (x : Int) * 65536 = (y : Int) := by omega
        clear hor hy hAA hxx hm8 
        skip
        go_wp2
        go_roundw
        case rel => exact ⟨3, by omega, by first | rfl | go_num, by rw [HNx.out, Int.natCast_add], by trivial⟩
        case measure => first | (simp [intOf]; done) | (simp [intOf]; omega)
      · have hA : nA l p 3 < 2 ^ 24 := by have := HB.out.2.2.2.2; omega
        obtain ⟨y, hy⟩ : ∃ y, l.getD (p + 3) 0 * 2 ^ 24 = y := ⟨_, rfl⟩
        have hor := or_plus13 hA (l.getD (p + 3) 0)
        have hm8 : (8 : Nat) * 3 = 24 := rfl
        rw [hm8] at HNx
        rw [hy] at hor HNx
        have ho32 := or32 (nA l p 3) y (by omega) (by omega)
        rw [hor] at ho32
        obtain ⟨A, hAA⟩ : ∃ A, nA l p 3 = A := ⟨_, rfl⟩
        obtain ⟨x, hxx⟩ : ∃ x, l.getD (p + 3) 0 = x := ⟨_, rfl⟩
        rw [hAA] at ho32 hor HNx hA ⊢
        rw [hxx] at hy c hx
        have hw : IntKind.u32.wrap (x : Int) = (x : Int) := by rw [IntKind.wrap_u32]; omega
        have hsh : IntKind.u32.wrap ((x : Int) * 16777216) = (y : Int) := by rw [IntKind.wrap_u32]; omega
        have hsh2 : (x : Int) * 16777216 = (y : Int) := by omega
        clear hor hy hAA hxx hm8 
        skip
        go_wp2
        go_roundw
        case rel => exact ⟨4, by omega, by first | rfl | go_num, by rw [HNx.out, Int.natCast_add], by trivial⟩
        case measure => first | (simp [intOf]; done) | (simp [intOf]; omega)
    · obtain rfl : j = 4 := by omega
      have HE : Hid (nA l p 4 = n4 l p) := nA_four l p
      clear HS HB
      go_wp2
      go_ret
      exact ⟨by rw [HE.out]; rfl, rfl⟩
/-- The bytes of a number, so many of them. -/
def fB (n : Nat) : Nat → Nat
  | 0 => n % 256
  | 1 => n / 256 % 256
  | 2 => n / 65536 % 256
  | _ => n / 16777216
theorem four_fB (n : Nat) : four n = [fB n 0, fB n 1, fB n 2, fB n 3] := rfl
set_option maxRecDepth 100000 in
set_option maxHeartbeats 4000000 in
theorem withNumber_any (w : World) (base : Nat) (v : Value) (l : List Nat) (n : Nat) (hO : Ob base w v l) (hbase : base ≤ w.heap.size) (hl : l.length ≤ 10000000) (hn : n < 4294967296) :
    Calls Tryd.prog 36 #[v, .int .u32 (n : Int)] w fun e w' => ∃ v', e = .returned v' ∧ Ob base w' v' (l ++ four n) ∧ Gw base w w' := by
  have HO : Hid (Ob base w v l) := hO
  have HL : Hid (l.length ≤ 10000000 ∧ base ≤ w.heap.size) := ⟨hl, hbase⟩
  have HF : Hid (four n = [fB n 0, fB n 1, fB n 2, fB n 3]) := four_fB n
  have HN : Hid (n < 4294967296) := hn
  clear hO hbase hl hn
  go_enter Tryd.func36, Tryd.ntmps36
  go_upto_region 2 with fail
  go_loopw [0, 6] (fun s0 s6 wr => ∃ j : Nat, j ≤ 4 ∧ s6 = .int .i64 (j : Int) ∧ Hid (Ob base wr s0 (l ++ (four n).take j) ∧ Gw base w wr)) (fun _ s6 _ => 4 - (intOf s6).toNat)
  case atStart => exact ⟨0, by omega, rfl, by rw [List.take_zero, List.append_nil]; exact HO.out, ⟨fun _ h => h, Nat.le_refl _⟩⟩
  case round =>
    obtain ⟨j, hj, rfl, HW⟩ := hrel
    clear HO
    by_cases hlt : j < 4
    · have hcs : j = 0 ∨ j = 1 ∨ j = 2 ∨ j = 3 := by omega
      rcases hcs with rfl | rfl | rfl | rfl
      · obtain ⟨x, hx⟩ : ∃ x, fB n 0 = x := ⟨_, rfl⟩
        obtain ⟨d, hd⟩ : ∃ d, n / 1 = d := ⟨_, rfl⟩
        have hdI : (n : Int) / 1 = (d : Int) := by omega
        have hw : IntKind.u8.wrap (d : Int) = (x : Int) := by rw [IntKind.wrap_u8]; have h1 := HN.out; have h2 : fB n 0 = n % 256 := rfl; omega
        have HT : Hid (l ++ (four n).take 0 ++ [x] = l ++ (four n).take (0 + 1)) := by show _ = _; rw [← hx, HF.out]; simp
        clear hx hd
        have hdI0 : (n : Int) = (d : Int) := by omega
        have hw0 : IntKind.u8.wrap (n : Int) = (x : Int) := by rw [hdI0]; exact hw
        clear hdI0
        have HLn : Hid ((l ++ (four n).take 0).length ≤ 10000010) := by show _ ≤ _; rw [List.length_append, List.length_take, four_len]; have := HL.out; omega
        generalize l ++ (four n).take 0 = L at *
        go_upto_region 5 with (at_builtin; refine apB rfl _ _ rfl base u0 L rfl (HW.out.1.later (bel1 _ _)) _ [x] rfl (bs_one wr x _) (by have := HLn.out; rw [List.length_singleton]; omega) (by rw [World.size_alloc]; have := HW.out.2.2; have := HL.out; omega) ?_; intro v2 w2 hO2 hg2)
        have HW2 : Hid (Ob base w2 v2 (l ++ (four n).take (0 + 1)) ∧ Gw base w w2) := ⟨by rw [← HT.out]; exact hO2, ⟨fun w0 hb => hg2.1 _ ((HW.out.2.1 _ hb).alloc (by have := HW.out.2.2; have := HL.out; omega) _), by have h1 := hg2.2; have h2 := HW.out.2.2; rw [World.size_alloc] at h1; omega⟩⟩
        clear hO2 hg2 HW HT HLn
        go_wp2
        go_roundw
        case rel => exact ⟨1, by omega, by first | rfl | go_num, HW2⟩
        case measure => first | (simp [intOf]; done) | (simp [intOf]; omega)
      · obtain ⟨x, hx⟩ : ∃ x, fB n 1 = x := ⟨_, rfl⟩
        obtain ⟨d, hd⟩ : ∃ d, n / 256 = d := ⟨_, rfl⟩
        have hdI : (n : Int) / 256 = (d : Int) := by omega
        have hw : IntKind.u8.wrap (d : Int) = (x : Int) := by rw [IntKind.wrap_u8]; have h1 := HN.out; have h2 : fB n 1 = n / 256 % 256 := rfl; omega
        have HT : Hid (l ++ (four n).take 1 ++ [x] = l ++ (four n).take (1 + 1)) := by show _ = _; rw [← hx, HF.out]; simp
        clear hx hd
        skip
        skip
        skip
        have HLn : Hid ((l ++ (four n).take 1).length ≤ 10000010) := by show _ ≤ _; rw [List.length_append, List.length_take, four_len]; have := HL.out; omega
        generalize l ++ (four n).take 1 = L at *
        go_upto_region 5 with (at_builtin; refine apB rfl _ _ rfl base u0 L rfl (HW.out.1.later (bel1 _ _)) _ [x] rfl (bs_one wr x _) (by have := HLn.out; rw [List.length_singleton]; omega) (by rw [World.size_alloc]; have := HW.out.2.2; have := HL.out; omega) ?_; intro v2 w2 hO2 hg2)
        have HW2 : Hid (Ob base w2 v2 (l ++ (four n).take (1 + 1)) ∧ Gw base w w2) := ⟨by rw [← HT.out]; exact hO2, ⟨fun w0 hb => hg2.1 _ ((HW.out.2.1 _ hb).alloc (by have := HW.out.2.2; have := HL.out; omega) _), by have h1 := hg2.2; have h2 := HW.out.2.2; rw [World.size_alloc] at h1; omega⟩⟩
        clear hO2 hg2 HW HT HLn
        go_wp2
        go_roundw
        case rel => exact ⟨2, by omega, by first | rfl | go_num, HW2⟩
        case measure => first | (simp [intOf]; done) | (simp [intOf]; omega)
      · obtain ⟨x, hx⟩ : ∃ x, fB n 2 = x := ⟨_, rfl⟩
        obtain ⟨d, hd⟩ : ∃ d, n / 65536 = d := ⟨_, rfl⟩
        have hdI : (n : Int) / 65536 = (d : Int) := by omega
        have hw : IntKind.u8.wrap (d : Int) = (x : Int) := by rw [IntKind.wrap_u8]; have h1 := HN.out; have h2 : fB n 2 = n / 65536 % 256 := rfl; omega
        have HT : Hid (l ++ (four n).take 2 ++ [x] = l ++ (four n).take (2 + 1)) := by show _ = _; rw [← hx, HF.out]; simp
        clear hx hd
        skip
        skip
        skip
        have HLn : Hid ((l ++ (four n).take 2).length ≤ 10000010) := by show _ ≤ _; rw [List.length_append, List.length_take, four_len]; have := HL.out; omega
        generalize l ++ (four n).take 2 = L at *
        go_upto_region 5 with (at_builtin; refine apB rfl _ _ rfl base u0 L rfl (HW.out.1.later (bel1 _ _)) _ [x] rfl (bs_one wr x _) (by have := HLn.out; rw [List.length_singleton]; omega) (by rw [World.size_alloc]; have := HW.out.2.2; have := HL.out; omega) ?_; intro v2 w2 hO2 hg2)
        have HW2 : Hid (Ob base w2 v2 (l ++ (four n).take (2 + 1)) ∧ Gw base w w2) := ⟨by rw [← HT.out]; exact hO2, ⟨fun w0 hb => hg2.1 _ ((HW.out.2.1 _ hb).alloc (by have := HW.out.2.2; have := HL.out; omega) _), by have h1 := hg2.2; have h2 := HW.out.2.2; rw [World.size_alloc] at h1; omega⟩⟩
        clear hO2 hg2 HW HT HLn
        go_wp2
        go_roundw
        case rel => exact ⟨3, by omega, by first | rfl | go_num, HW2⟩
        case measure => first | (simp [intOf]; done) | (simp [intOf]; omega)
      · obtain ⟨x, hx⟩ : ∃ x, fB n 3 = x := ⟨_, rfl⟩
        obtain ⟨d, hd⟩ : ∃ d, n / 16777216 = d := ⟨_, rfl⟩
        have hdI : (n : Int) / 16777216 = (d : Int) := by omega
        have hw : IntKind.u8.wrap (d : Int) = (x : Int) := by rw [IntKind.wrap_u8]; have h1 := HN.out; have h2 : fB n 3 = n / 16777216 := rfl; omega
        have HT : Hid (l ++ (four n).take 3 ++ [x] = l ++ (four n).take (3 + 1)) := by show _ = _; rw [← hx, HF.out]; simp
        clear hx hd
        skip
        skip
        skip
        have HLn : Hid ((l ++ (four n).take 3).length ≤ 10000010) := by show _ ≤ _; rw [List.length_append, List.length_take, four_len]; have := HL.out; omega
        generalize l ++ (four n).take 3 = L at *
        go_upto_region 5 with (at_builtin; refine apB rfl _ _ rfl base u0 L rfl (HW.out.1.later (bel1 _ _)) _ [x] rfl (bs_one wr x _) (by have := HLn.out; rw [List.length_singleton]; omega) (by rw [World.size_alloc]; have := HW.out.2.2; have := HL.out; omega) ?_; intro v2 w2 hO2 hg2)
        have HW2 : Hid (Ob base w2 v2 (l ++ (four n).take (3 + 1)) ∧ Gw base w w2) := ⟨by rw [← HT.out]; exact hO2, ⟨fun w0 hb => hg2.1 _ ((HW.out.2.1 _ hb).alloc (by have := HW.out.2.2; have := HL.out; omega) _), by have h1 := hg2.2; have h2 := HW.out.2.2; rw [World.size_alloc] at h1; omega⟩⟩
        clear hO2 hg2 HW HT HLn
        go_wp2
        go_roundw
        case rel => exact ⟨4, by omega, by first | rfl | go_num, HW2⟩
        case measure => first | (simp [intOf]; done) | (simp [intOf]; omega)
    · obtain rfl : j = 4 := by omega
      have HE : Hid ((four n).take 4 = four n) := rfl
      clear HF
      go_wp2
      go_ret
      exact ⟨_, rfl, by rw [← HE.out]; exact HW.out.1, HW.out.2⟩
end Go.Proofs.YtfcbgkcclganmaaDoor
