/-
  What AppendUvarint of the project and of the model returns: a new slice, the bytes that came in and behind them the number's varint.
  Conditions: the slice has at most 2^46 bytes.
-/
import Derived.Test.YtgjijfpdlgcopaaBytes
import Derived.Test.YtgjijfpdlgcopaaSmall
import Derived.Lib.Hide
namespace Go.Proofs.Ytgjijfpdlgcopaa.uva
open Go.ChangeShapes Go.WideShapes Go.ChangeAt Go.RowKit mem byt
set_option linter.unusedVariables false

theorem mask (j : Nat) (hj : j ≤ 63) (m : Int) (h0 : 0 ≤ m) (h1 : m ≤ 9223372036854775807) : bits .and .i64 m (2 ^ j - 1) = m % 2 ^ j := by
  have hp : (2 : Nat) ^ j ≤ 2 ^ 63 := Nat.pow_le_pow_right (by omega) hj
  have h63 : (2 : Nat) ^ 63 = 9223372036854775808 := by decide
  have hpos : 0 < (2 : Nat) ^ j := Nat.pow_pos (by omega)
  have e : ((2 : Int) ^ j - 1) = ((2 ^ j - 1 : Nat) : Int) := by rw [Int.natCast_sub (by omega)]; simp
  have hm : (BitVec.ofInt 64 ((2 : Int) ^ j - 1)).toNat = 2 ^ j - 1 := by
    rw [e, BitVec.toNat_ofInt]
    omega
  have key : (BitVec.ofInt 64 m &&& BitVec.ofInt 64 (2 ^ j - 1)).toNat = m.toNat % 2 ^ j := by
    rw [BitVec.toNat_and, hm, Nat.and_two_pow_sub_one_eq_mod, BitVec.toNat_ofInt]
    congr 1
    omega
  show IntKind.i64.wrap ((BitVec.ofInt 64 m &&& BitVec.ofInt 64 (2 ^ j - 1)).toNat : Nat) = m % 2 ^ j
  have e2 : ((m.toNat % 2 ^ j : Nat) : Int) = m % 2 ^ j := by
    rw [Int.natCast_emod, Int.toNat_of_nonneg h0]
    simp
  have hlt := Nat.mod_lt m.toNat hpos
  rw [key, IntKind.wrap_i64, ← e2]
  omega
theorem and127 (m : Int) (h0 : 0 ≤ m) (h1 : m ≤ 9223372036854775807) : bits .and .i64 m 127 = m % 128 := mask 7 (by omega) m h0 h1

/-- An 'or' of a number below 2^j and a multiple of 2^j. -/
theorem join (j : Nat) (x y : Int) (hx0 : 0 ≤ x) (hx1 : x < 2 ^ j) (hy0 : 0 ≤ y) (hb : x + y * 2 ^ j ≤ 9223372036854775807) : bits .or .i64 x (y * 2 ^ j) = x + y * 2 ^ j := by
  obtain ⟨u, rfl⟩ := Int.eq_ofNat_of_zero_le hx0
  obtain ⟨v, rfl⟩ := Int.eq_ofNat_of_zero_le hy0
  have e : ((v : Int) * 2 ^ j) = ((2 ^ j * v : Nat) : Int) := by rw [Int.natCast_mul, Int.mul_comm]; simp
  rw [e] at hb ⊢
  have hu : u < 2 ^ j := by
    have : ((u : Nat) : Int) < ((2 ^ j : Nat) : Int) := by simpa using hx1
    omega
  have key : (BitVec.ofInt 64 (u : Int) ||| BitVec.ofInt 64 ((2 ^ j * v : Nat) : Int)).toNat = u + 2 ^ j * v := by
    rw [BitVec.toNat_or, BitVec.toNat_ofInt, BitVec.toNat_ofInt]
    have e1 : ((u : Int) % ((2 ^ 64 : Nat) : Int)).toNat = u := by omega
    have e2 : (((2 ^ j * v : Nat) : Int) % ((2 ^ 64 : Nat) : Int)).toNat = 2 ^ j * v := by omega
    rw [e1, e2, Nat.or_comm, ← Nat.two_pow_add_eq_or_of_lt hu]
    omega
  show IntKind.i64.wrap ((BitVec.ofInt 64 (u : Int) ||| BitVec.ofInt 64 ((2 ^ j * v : Nat) : Int)).toNat : Nat) = _
  rw [key, IntKind.wrap_i64]
  omega
theorem or128 (x : Int) (h0 : 0 ≤ x) (h1 : x < 128) : bits .or .i64 x 128 = x + 128 := by
  have := join 7 x 1 h0 h1 (by omega) (by omega)
  simpa using this

theorem copyRoom (A : Option Addr) (n c : Nat) (l : List Int) (room : Int) (hn : n ≤ 70368744177664) (h0 : 0 ≤ room) (h1 : room ≤ 2000000) (w : World) (hA : Rd w A n l) :
    Calls Try.prog 34 #[.slice A n c, .int .i64 room] w (MadeQ w l) := by
  obtain ⟨r, rfl⟩ := Int.eq_ofNat_of_zero_le h0
  obtain ⟨i0, hi, hz0, hz1, hz2⟩ := info_parts u8row
  have HA := Lib.hid hA; have HZ := Lib.hid hz2; clear hA hz2
  go_enter Try.func34, Try.ntmps34
  go_wp2_with (at_make; refine wpList_make_own _ rfl _ _ 22 rfl w.heap.size 5 i0 (.int .u8 0) 1 Try.underlying22 hi hz0 hz1 _ _ _ (n + r) rfl rfl (by omega) (by have := HZ.out; rw [this]; omega) (by unfold maxLen; omega) (Nat.le_refl _) ?_)
  intro w1 hown hg
  have ho : Own w1 w.heap.size (some ⟨w.heap.size, 0, none⟩) 0 (n + r) [] := own_empty _ _ hown rfl
  have HO := Lib.hid ho; have HG := Lib.hid hg; clear ho hown hg
  go_wp2_with (at_builtin; refine append_rd rfl (.tmp 9) (.tmp 10) _ rfl i0 Try.underlying22 hi hz0 hz1 HZ.out w.heap.size _ _ _ _ rfl HO.out A n c l rfl (HA.out.grown HG.out (Off.none_ _ _)) (by omega) HG.out.size ?_)
  intro A' c' w2 ho2 hb2
  have H2 := Lib.hid ho2; have HB := Lib.hid (none_of_below ((below_of_none HG.out).trans hb2)); clear ho2 hb2
  go_wp2
  go_ret
  exact ⟨_, _, _, rfl, by simpa using H2.out, HB.out⟩

/-- An own slice that has grown. -/
def PushQ (lo : Nat) (w : World) (l : List Int) (e : Ending) (w' : World) : Prop := ∃ A n c, e = .returned (.slice A n c) ∧ Own w' lo A n c l ∧ Below lo w w'

theorem push (lo : Nat) (A : Option Addr) (n c : Nat) (l : List Int) (x : Int) (hn : n ≤ 70368744177664) (h0 : 0 ≤ x) (h1 : x ≤ 1000000000000) (w : World) (hA : Own w lo A n c l) (hlo : lo ≤ w.heap.size) :
    Calls Try.prog 36 #[.slice A n c, .int .i64 x] w (PushQ lo w (l ++ enc.enc x)) := by
  obtain ⟨i0, hi, hz0, hz1, hz2⟩ := info_parts u8row
  have hln := hA.len
  have HA := Lib.hid hA; have HL := Lib.hid hln; clear hA hln
  go_enter Try.func36, Try.ntmps36
  go_wp2
  go_loopg [0, 1] x.toNat (fun gk v y wr => ∃ (A' : Option Addr) (n' c' : Nat) (d : List Int) (m : Int), v = .slice A' n' c' ∧ y = .int .i64 m ∧ gk = m.toNat ∧ m ≤ 1000000000000 ∧ n' ≤ 70368744177700 ∧ Own wr lo A' n' c' (l ++ d) ∧ enc.Far x d m ∧ Below lo w wr)
  case atStart => exact ⟨A, n, c, [], x, rfl, rfl, rfl, h1, by omega, by simpa using HA.out, enc.Far.start x h0 h1, Below.refl _ _⟩
  case round =>
    obtain ⟨A', n', c', d, m, rfl, rfl, hk, hm, hn', ho, hf, hb⟩ := hrel
    have m0 := hf.nonneg
    have hlo' := Nat.le_trans hlo hb.size
    have hln' := ho.len
    rw [List.length_append, HL.out] at hln'
    have hd := hf.len
    have HO := Lib.hid ho; have HF := Lib.hid hf; have HB := Lib.hid hb; have HK := Lib.hid hk; have HN := Lib.hid hln'
    clear ho hf hb hk hln'
    by_cases hlt : 128 ≤ m
    · go_wp2_with (at_builtin; refine append_rd rfl (.tmp 7) (.tmp 12) _ rfl i0 Try.underlying22 hi hz0 hz1 hz2 lo _ _ _ _ rfl (HO.out.alloc _) _ 1 1 [m % 128 + 128] rfl (rd_one _ _ (by omega) (by omega) _) (by omega) (by simp; omega) ?_)
      intro A2 c2 w2 ho2 hb2
      have H2 := Lib.hid ho2; have HB2 := Lib.hid ((HB.out.alloc hlo' _).trans hb2); clear ho2 hb2
      go_wp2
      go_roundg (m / 128).toNat
      case measure => have := HK.out; omega
      case rel => exact ⟨_, _, _, d ++ [m % 128 + 128], m / 128, rfl, rfl, rfl, by omega, by have := HN.out; omega, H2.out, HF.out.step hlt, HB2.out⟩
    · have hl := HF.out.last (by omega)
      have HE := Lib.hid hl; clear hl
      go_wp2_with (at_builtin; refine append_rd rfl (.tmp 16) (.tmp 19) _ rfl i0 Try.underlying22 hi hz0 hz1 hz2 lo _ _ _ _ rfl (HO.out.alloc _) _ 1 1 [m] rfl (rd_one _ _ (by omega) (by omega) _) (by omega) (by simp; omega) ?_)
      intro A2 c2 w2 ho2 hb2
      have H2 := Lib.hid ho2; have HB2 := Lib.hid ((HB.out.alloc hlo' _).trans hb2); clear ho2 hb2
      go_wp2
      go_ret
      exact ⟨_, _, _, rfl, by rw [HE.out]; exact H2.out, HB2.out⟩

theorem inr_of {n l h : Int} (h0 : l ≤ n) (h1 : n ≤ h) : nums.inr n l h = true := by unfold nums.inr; simp; omega
theorem inr_not {n l h : Int} (hh : ¬ (l ≤ n ∧ n ≤ h)) : nums.inr n l h = false := by unfold nums.inr; simp; omega
theorem uva_in {k : Int} (h : 0 ≤ k ∧ k ≤ 1000000000000) : enc.uva k = enc.enc k := by unfold enc.uva; rw [if_pos h]
theorem uva_out {k : Int} (h : ¬ (0 ≤ k ∧ k ≤ 1000000000000)) : enc.uva k = [] := by unfold enc.uva; rw [if_neg h]
theorem sig_in {k : Int} (h : -1000000000 ≤ k ∧ k ≤ 1000000000) : enc.sig k = enc.enc (enc.zig k) := by unfold enc.sig; rw [if_pos h]
theorem sig_out {k : Int} (h : ¬ (-1000000000 ≤ k ∧ k ≤ 1000000000)) : enc.sig k = [] := by unfold enc.sig; rw [if_neg h]

theorem implUva (A : Option Addr) (n c : Nat) (l : List Int) (k : Int) (hn : n ≤ 1000000000000) (w : World) (hA : Rd w A n l) :
    Calls Try.prog 12 #[.slice A n c, .int .i64 k] w (MadeQ w (l ++ enc.uva k)) := by
  have HA := Lib.hid hA
  have hl := hA.len
  clear hA
  go_enter Try.func12, Try.ntmps12
  go_wp2_with (fail)
  refine (copyRoom A n c l 6 (by omega) (by omega) (by omega) _ HA.out).mono ?_
  rintro e w1 ⟨A1, n1, c1, rfl, ho, hg⟩
  have hn1 := ho.len
  rw [hl] at hn1
  have HO := Lib.hid ho; have HG := Lib.hid hg; have HL := Lib.hid hl; clear ho hg hl
  subst hn1
  by_cases h : 0 ≤ k ∧ k ≤ 1000000000000
  · have hi := inr_of h.1 h.2
    have HI := Lib.hid hi; have HE := Lib.hid (uva_in h); clear hi
    obtain ⟨k0, k1⟩ := h
    go_wp2_with (first | (go_at_call 35; refine (nums.implInRange _ _ _ _).mono ?_; rintro e w2 ⟨rfl, rfl⟩; rw [HI.out]) | (go_at_call 36; refine (push w.heap.size _ _ _ _ k (by omega) k0 k1 _ HO.out HG.out.size).mono ?_; rintro e w3 ⟨A3, n3, c3, rfl, ho3, hb3⟩))
    go_ret
    exact ⟨_, _, _, rfl, by rw [HE.out]; exact ho3, none_of_below ((below_of_none HG.out).trans hb3)⟩
  · have hi := inr_not h
    have HI := Lib.hid hi; have HE := Lib.hid (uva_out h); clear hi
    go_wp2_with (first | (go_at_call 35; refine (nums.implInRange _ _ _ _).mono ?_; rintro e w2 ⟨rfl, rfl⟩; rw [HI.out]))
    go_ret
    exact ⟨_, _, _, rfl, by rw [HE.out, List.append_nil]; exact HO.out, HG.out⟩

theorem implSig (A : Option Addr) (n c : Nat) (l : List Int) (k : Int) (hn : n ≤ 1000000000000) (w : World) (hA : Rd w A n l) :
    Calls Try.prog 15 #[.slice A n c, .int .i64 k] w (MadeQ w (l ++ enc.sig k)) := by
  have HA := Lib.hid hA
  have hl := hA.len
  clear hA
  go_enter Try.func15, Try.ntmps15
  go_wp2_with (fail)
  refine (copyRoom A n c l 6 (by omega) (by omega) (by omega) _ HA.out).mono ?_
  rintro e w1 ⟨A1, n1, c1, rfl, ho, hg⟩
  have hn1 := ho.len
  rw [hl] at hn1
  have HO := Lib.hid ho; have HG := Lib.hid hg; have HL := Lib.hid hl; clear ho hg hl
  subst hn1
  by_cases h : -1000000000 ≤ k ∧ k ≤ 1000000000
  · have hi := inr_of h.1 h.2
    have hz : enc.zig k = if k < 0 then -2 * k - 1 else 2 * k := rfl
    have HI := Lib.hid hi; have HE := Lib.hid (sig_in h); clear hi
    obtain ⟨k0, k1⟩ := h
    by_cases hneg : k < 0
    · rw [if_pos hneg] at hz
      have HZ := Lib.hid hz; clear hz
      go_wp2_with (first | (go_at_call 35; refine (nums.implInRange _ _ _ _).mono ?_; rintro e w2 ⟨rfl, rfl⟩; rw [HI.out]) | (go_at_call 36; refine (push w.heap.size _ _ _ _ _ (by omega) (by omega) (by omega) _ HO.out HG.out.size).mono ?_; rintro e w3 ⟨A3, n3, c3, rfl, ho3, hb3⟩))
      go_ret
      exact ⟨_, _, _, rfl, by rw [HE.out, HZ.out]; exact ho3, none_of_below ((below_of_none HG.out).trans hb3)⟩
    · rw [if_neg hneg] at hz
      have HZ := Lib.hid hz; clear hz
      go_wp2_with (first | (go_at_call 35; refine (nums.implInRange _ _ _ _).mono ?_; rintro e w2 ⟨rfl, rfl⟩; rw [HI.out]) | (go_at_call 36; refine (push w.heap.size _ _ _ _ _ (by omega) (by omega) (by omega) _ HO.out HG.out.size).mono ?_; rintro e w3 ⟨A3, n3, c3, rfl, ho3, hb3⟩))
      go_ret
      exact ⟨_, _, _, rfl, by rw [HE.out, HZ.out]; exact ho3, none_of_below ((below_of_none HG.out).trans hb3)⟩
  · have hi := inr_not h
    have HI := Lib.hid hi; have HE := Lib.hid (sig_out h); clear hi
    go_wp2_with (first | (go_at_call 35; refine (nums.implInRange _ _ _ _).mono ?_; rintro e w2 ⟨rfl, rfl⟩; rw [HI.out]))
    go_ret
    exact ⟨_, _, _, rfl, by rw [HE.out, List.append_nil]; exact HO.out, HG.out⟩

theorem specUva (A : Option Addr) (n c : Nat) (l : List Int) (k : Int) (hn : n ≤ 1000000000000) (w : World) (hA : Rd w A n l) :
    Calls Try.prog 20 #[.slice A n c, .int .i64 k] w (MadeQ w (l ++ enc.uva k)) := by
  obtain ⟨i0, hi, hz0, hz1, hz2⟩ := info_parts u8row
  have HA := Lib.hid hA
  have hl := hA.len
  have HL := Lib.hid hl
  clear hA hl
  by_cases h : 0 ≤ k ∧ k ≤ 1000000000000
  · have hr := inr_of h.1 h.2
    have HI := Lib.hid hr; have HE := Lib.hid (uva_in h); clear hr
    obtain ⟨k0, k1⟩ := h
    go_enter Try.func20, Try.ntmps20
    go_wp2_with (at_builtin; refine append_rd rfl (.tmp 6) (.tmp 7) _ rfl i0 Try.underlying22 hi hz0 hz1 hz2 w.heap.size _ _ _ _ rfl (own_none w _ (Nat.le_refl _)) A n c l rfl (HA.out.alloc _) (by omega) (by simp) ?_)
    intro A1 c1 w1 ho1 hb1
    have HO1 := Lib.hid ho1; have HB1 := Lib.hid ((Joins.below_alloc1 w _).trans hb1); clear ho1 hb1
    go_wp2_with (go_at_call 38; refine (nums.l1In _ _ _ _).mono ?_; rintro e w2 ⟨rfl, rfl⟩; rw [HI.out])
    go_loopg [5, 1] k.toNat (fun gk v y wr => ∃ (A' : Option Addr) (n' c' : Nat) (d : List Int) (m : Int), v = .slice A' n' c' ∧ y = .int .i64 m ∧ gk = m.toNat ∧ m ≤ 1000000000000 ∧ n' ≤ 70368744177700 ∧ Own wr w.heap.size A' n' c' (l ++ d) ∧ enc.Far k d m ∧ Below w.heap.size w wr)
    case atStart => exact ⟨_, _, _, [], k, rfl, rfl, rfl, k1, by omega, by simpa using HO1.out, enc.Far.start k k0 k1, HB1.out⟩
    case round =>
      obtain ⟨A', n', c', d, m, rfl, rfl, hk, hm, hn', ho, hf, hb⟩ := hrel
      have m0 := hf.nonneg
      have hlo' := hb.size
      have hln' := ho.len
      rw [List.length_append, HL.out] at hln'
      have hd := hf.len
      have HO := Lib.hid ho; have HF := Lib.hid hf; have HB := Lib.hid hb; have HK := Lib.hid hk; have HN := Lib.hid hln'
      clear ho hf hb hk hln'
      by_cases hlt : 128 ≤ m
      · have e1 := and127 m m0 (by omega)
        have e2 := or128 (m % 128) (by omega) (by omega)
        have hgt : ¬ m ≤ 127 := by omega
        go_wp2_with (at_builtin; refine append_rd rfl (.tmp 15) (.tmp 20) _ rfl i0 Try.underlying22 hi hz0 hz1 hz2 w.heap.size _ _ _ _ rfl (HO.out.alloc _) _ 1 1 [m % 128 + 128] rfl (rd_one _ _ (by omega) (by omega) _) (by omega) (by simp; omega) ?_)
        intro A2 c2 w2 ho2 hb2
        have H2 := Lib.hid ho2; have HB2 := Lib.hid ((HB.out.alloc hlo' _).trans hb2); clear ho2 hb2
        go_wp2
        go_roundg (m / 128).toNat
        case measure => have := HK.out; omega
        case rel => exact ⟨_, _, _, d ++ [m % 128 + 128], m / 128, rfl, rfl, rfl, by omega, by have := HN.out; omega, H2.out, HF.out.step hlt, HB2.out⟩
      · have hl := HF.out.last (by omega)
        have HE2 := Lib.hid hl; clear hl
        go_wp2_with (at_builtin; refine append_rd rfl (.tmp 24) (.tmp 27) _ rfl i0 Try.underlying22 hi hz0 hz1 hz2 w.heap.size _ _ _ _ rfl (HO.out.alloc _) _ 1 1 [m] rfl (rd_one _ _ (by omega) (by omega) _) (by omega) (by simp; omega) ?_)
        intro A2 c2 w2 ho2 hb2
        have H2 := Lib.hid ho2; have HB2 := Lib.hid ((HB.out.alloc hlo' _).trans hb2); clear ho2 hb2
        go_wp2
        go_ret
        exact ⟨_, _, _, rfl, by rw [HE.out, HE2.out]; exact H2.out, none_of_below HB2.out⟩
  · have hr := inr_not h
    have HI := Lib.hid hr; have HE := Lib.hid (uva_out h); clear hr h
    go_enter Try.func20, Try.ntmps20
    go_wp2_with (at_builtin; refine append_rd rfl (.tmp 6) (.tmp 7) _ rfl i0 Try.underlying22 hi hz0 hz1 hz2 w.heap.size _ _ _ _ rfl (own_none w _ (Nat.le_refl _)) A n c l rfl (HA.out.alloc _) (by omega) (by simp) ?_)
    intro A1 c1 w1 ho1 hb1
    have HO1 := Lib.hid ho1; have HB1 := Lib.hid ((Joins.below_alloc1 w _).trans hb1); clear ho1 hb1
    go_wp2_with (go_at_call 38; refine (nums.l1In _ _ _ _).mono ?_; rintro e w2 ⟨rfl, rfl⟩; rw [HI.out])
    go_ret
    exact ⟨_, _, _, rfl, by rw [HE.out, List.append_nil]; simpa using HO1.out, none_of_below HB1.out⟩

theorem specSig (A : Option Addr) (n c : Nat) (l : List Int) (k : Int) (hn : n ≤ 1000000000000) (w : World) (hA : Rd w A n l) :
    Calls Try.prog 26 #[.slice A n c, .int .i64 k] w (MadeQ w (l ++ enc.sig k)) := by
  obtain ⟨i0, hi, hz0, hz1, hz2⟩ := info_parts u8row
  have HA := Lib.hid hA; clear hA
  by_cases h : -1000000000 ≤ k ∧ k ≤ 1000000000
  · have hr := inr_of h.1 h.2
    have hz : enc.zig k = if k < 0 then -2 * k - 1 else 2 * k := rfl
    have HI := Lib.hid hr; have HE := Lib.hid (sig_in h); clear hr
    obtain ⟨k0, k1⟩ := h
    by_cases hneg : k < 0
    · rw [if_pos hneg] at hz
      have HU := Lib.hid (uva_in (k := -2 * k - 1) ⟨by omega, by omega⟩)
      have HZ := Lib.hid hz; clear hz
      go_enter Try.func26, Try.ntmps26
      go_wp2_with (first | (go_at_call 38; refine (nums.l1In _ _ _ _).mono ?_; rintro e w2 ⟨rfl, rfl⟩; rw [HI.out]) | (go_at_call 20; refine (specUva A n c l _ hn _ HA.out).mono ?_; rintro e w3 ⟨A3, n3, c3, rfl, ho3, hb3⟩))
      go_ret
      exact ⟨_, _, _, rfl, by rw [HE.out, HZ.out, ← HU.out]; exact ho3, hb3⟩
    · rw [if_neg hneg] at hz
      have HU := Lib.hid (uva_in (k := 2 * k) ⟨by omega, by omega⟩)
      have HZ := Lib.hid hz; clear hz
      go_enter Try.func26, Try.ntmps26
      go_wp2_with (first | (go_at_call 38; refine (nums.l1In _ _ _ _).mono ?_; rintro e w2 ⟨rfl, rfl⟩; rw [HI.out]) | (go_at_call 20; refine (specUva A n c l _ hn _ HA.out).mono ?_; rintro e w3 ⟨A3, n3, c3, rfl, ho3, hb3⟩))
      go_ret
      exact ⟨_, _, _, rfl, by rw [HE.out, HZ.out, ← HU.out]; exact ho3, hb3⟩
  · have hr := inr_not h
    have HI := Lib.hid hr; have HE := Lib.hid (sig_out h); clear hr h
    go_enter Try.func26, Try.ntmps26
    go_wp2_with (first | (go_at_call 38; refine (nums.l1In _ _ _ _).mono ?_; rintro e w2 ⟨rfl, rfl⟩; rw [HI.out]) | (at_builtin; refine append_rd rfl (.tmp 8) (.tmp 9) _ rfl i0 Try.underlying22 hi hz0 hz1 hz2 w.heap.size _ _ _ _ rfl (own_none w _ (Nat.le_refl _)) A n c l rfl (HA.out.alloc _) (by omega) (by simp) ?_))
    intro A1 c1 w1 ho1 hb1
    have HO1 := Lib.hid ho1; have HB1 := Lib.hid ((Joins.below_alloc1 w _).trans hb1); clear ho1 hb1
    go_wp2
    go_ret
    exact ⟨_, _, _, rfl, by rw [HE.out, List.append_nil]; simpa using HO1.out, none_of_below HB1.out⟩

theorem specTxt (A : Option Addr) (n c : Nat) (l : List Int) (s : ByteArray) (hn : n ≤ 1000000000) (hs : s.size ≤ 1048576) (w : World) (hA : Rd w A n l) :
    Calls Try.prog 28 #[.slice A n c, .string s] w (MadeQ w (l ++ enc.enc (s.size : Int) ++ txt s)) := by
  obtain ⟨i0, hi, hz0, hz1, hz2⟩ := info_parts u8row
  have HA := Lib.hid hA
  have hl := hA.len
  have hel := (enc.enc_len (s.size : Int)).2
  have HU := Lib.hid (uva_in (k := (s.size : Int)) ⟨by omega, by omega⟩)
  have HL := Lib.hid hl
  clear hA hl
  go_enter Try.func28, Try.ntmps28
  go_wp2_with (fail)
  refine (specUva A n c l (s.size : Int) (by omega) _ HA.out).mono ?_
  rintro e w1 ⟨A1, n1, c1, rfl, ho, hg⟩
  rw [HU.out] at ho
  have hn1 := ho.len
  rw [List.length_append, HL.out] at hn1
  have HO := Lib.hid ho; have HG := Lib.hid hg; have HN := Lib.hid hn1; clear ho hg hn1
  go_wp2_with (at_builtin; refine append_txt rfl (.tmp 8) (.tmp 9) _ _ rfl i0 Try.underlying22 Try.underlying9 hi hz0 hz1 hz2 w.heap.size _ _ _ _ rfl HO.out s rfl (by have := HN.out; omega) HG.out.size ?_)
  intro A2 c2 w2 ho2 hb2
  have H2 := Lib.hid ho2; have HB2 := Lib.hid ((below_of_none HG.out).trans hb2); clear ho2 hb2
  go_wp2
  go_ret
  exact ⟨_, _, _, rfl, by simpa using H2.out, none_of_below HB2.out⟩

theorem implTxt (A : Option Addr) (n c : Nat) (l : List Int) (s : ByteArray) (hn : n ≤ 1000000000) (hs : s.size ≤ 1048576) (w : World) (hA : Rd w A n l) :
    Calls Try.prog 18 #[.slice A n c, .string s] w (MadeQ w (l ++ enc.enc (s.size : Int) ++ txt s)) := by
  obtain ⟨i0, hi, hz0, hz1, hz2⟩ := info_parts u8row
  have HA := Lib.hid hA
  have hl := hA.len
  have hel := (enc.enc_len (s.size : Int)).2
  have HL := Lib.hid hl
  clear hA hl
  go_enter Try.func18, Try.ntmps18
  go_wp2_with (fail)
  refine (copyRoom A n c l _ (by omega) (by omega) (by omega) _ HA.out).mono ?_
  rintro e w1 ⟨A1, n1, c1, rfl, ho, hg⟩
  have hn1 := ho.len
  rw [HL.out] at hn1
  have HO := Lib.hid ho; have HG := Lib.hid hg; clear ho hg
  subst hn1
  go_wp2_with (fail)
  refine (push w.heap.size _ _ _ _ (s.size : Int) (by omega) (by omega) (by omega) _ HO.out HG.out.size).mono ?_
  rintro e w3 ⟨A3, n3, c3, rfl, ho3, hb3⟩
  have hn3 := ho3.len
  rw [List.length_append, HL.out] at hn3
  have H3 := Lib.hid ho3; have HB3 := Lib.hid ((below_of_none HG.out).trans hb3); have HN := Lib.hid hn3; clear ho3 hb3 hn3
  go_wp2_with (at_builtin; refine append_txt rfl (.tmp 13) (.tmp 14) _ _ rfl i0 Try.underlying22 Try.underlying9 hi hz0 hz1 hz2 w.heap.size _ _ _ _ rfl H3.out s rfl (by have := HN.out; omega) HB3.out.size ?_)
  intro A2 c2 w2 ho2 hb2
  have H2 := Lib.hid ho2; have HB2 := Lib.hid (HB3.out.trans hb2); clear ho2 hb2
  go_wp2
  go_ret
  exact ⟨_, _, _, rfl, by simpa using H2.out, none_of_below HB2.out⟩

end Go.Proofs.Ytgjijfpdlgcopaa.uva
