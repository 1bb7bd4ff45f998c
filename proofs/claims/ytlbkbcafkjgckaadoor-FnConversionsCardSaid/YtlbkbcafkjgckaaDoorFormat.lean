/-
  What the project's FormatInt and the model's FormatInt return: the decimal numeral, for every integer.
  Conditions: the library's table of powers of ten holds what its text lays.
-/
import Derived.Test.YtlbkbcafkjgckaaDoorRows
import Derived.Test.YtlbkbcafkjgckaaDoorShelf
import Derived.Test.YtlbkbcafkjgckaaDoorDecimal
import Derived.WalkKit
import Derived.ProofKit
import Derived.IntWalk
import Derived.Lib.Hide
import Derived.Lib.SmallJoins
import Derived.BigQuiet
import Derived.Deep.QuietTactic
import Derived.WalkLawsBesides
namespace Go.Proofs.YtlbkbcafkjgckaaDoor.fmt
open Go.ChangeShapes Go.WideShapes Go.ChangeAt Go.RowKit Go.Sort Go.Lib
set_option linter.unusedVariables false

def Tab (w : World) : Prop := Lib.TabIs Tryd.prog w "internal/strconv.uint64pow10" .u64 Lib.pow10Tab

theorem gTab : Tryd.prog.globalNamed "internal/strconv.uint64pow10" = some 5 := by kernel_rfl
theorem Tab.stays {w w' : World} (h : Tab w) (hb : Below w.heap.size w w') : Tab w' := Joins.tab_stays gTab h hb (Nat.le_refl _)

theorem below_grow (w : World) (k : Nat) (os : Array Obj) : Below w.heap.size w (grow (w.drewN k) os) :=
  ⟨rfl, rfl, rfl, by show w.heap.size ≤ (w.heap ++ os).size; simp, fun j hj => heap_grow_old (w.drewN k) os hj⟩

def num (n : Int) : Value := .string ⟨(Lib.itoa n).toArray⟩

theorem libItoa (n : Int) (h0 : -9223372036854775808 ≤ n) (h1 : n ≤ 9223372036854775807) (w : World) (hT : Tab w) :
    Calls Tryd.prog 145 #[.int .i64 n] w fun e w' => e = .returned (num n) ∧ Below w.heap.size w w' :=
  (Tryd.strconv_Itoa n h0 h1 w hT).mono fun e w' ⟨he, k, os, hw⟩ => ⟨he, hw ▸ below_grow w k os⟩

theorem implFormat (n : Int) (h0 : -9223372036854775808 ≤ n) (h1 : n ≤ 9223372036854775807) (w : World) (hT : Tab w) :
    Calls Tryd.prog 123 #[.int .i64 n] w fun e w' => e = .returned (num n) ∧ Below w.heap.size w w' := by
  have HT := Lib.hid hT; clear hT
  go_enter Tryd.func123, Tryd.ntmps123
  go_wp2_with (go_at_call 145; refine (libItoa n h0 h1 _ HT.out).mono ?_; rintro e w' ⟨rfl, hb⟩)
  go_ret
  exact ⟨rfl, hb⟩

/-- What is left to write (u), and what stands behind it (l), are the numeral of a. -/
def Rest (a : Nat) (u : Int) (l : List UInt8) : Prop := if u = 0 then l = Lib.decDigits a else Lib.decDigits u.natAbs ++ l = Lib.decDigits a
theorem Rest.start' {n : Int} (h : n ≠ 0) : Rest n.natAbs n [] := by
  unfold Rest
  rw [if_neg (by omega), List.append_nil]
theorem bytes_cons (b : UInt8) (l : List UInt8) : (⟨#[b]⟩ : ByteArray) ++ ⟨l.toArray⟩ = ⟨(b :: l).toArray⟩ := by
  apply ByteArray.ext
  apply Array.toList_inj.1
  rw [Joins.data_append]
  rfl
theorem Rest.start {n : Int} (h : 1 ≤ n) : Rest n.natAbs n [] := by
  unfold Rest
  rw [if_neg (by omega), List.append_nil]
theorem Rest.done {a : Nat} {l : List UInt8} (h : Rest a 0 l) : l = Lib.decDigits a := by
  unfold Rest at h
  rwa [if_pos rfl] at h
theorem Rest.step {a : Nat} {u v : Int} {l : List UInt8} (h : Rest a u l) (hu : u ≠ 0) (hv : v.natAbs = u.natAbs / 10) : Rest a v (UInt8.ofNat (48 + u.natAbs % 10) :: l) := by
  unfold Rest at h ⊢
  rw [if_neg hu] at h
  rw [← h]
  by_cases h10 : u.natAbs < 10
  · rw [if_pos (by omega), Lib.decDigits_one h10, Nat.mod_eq_of_lt h10]
    rfl
  · rw [if_neg (by omega), dec.decDigits_step h10, hv, List.append_assoc]
    rfl

theorem Rest.len {a : Nat} {u : Int} {l : List UInt8} (h : Rest a u l) (ha : a ≤ 9223372036854775808) : l.length ≤ 20 := by
  have h1 := decDigits_length a
  have h2 := dec.nDigits_le 20 a (by omega) (by have : (10 : Nat) ^ 20 = 100000000000000000000 := by decide
                                                omega)
  unfold Rest at h
  split at h
  · rw [h]; omega
  · have := congrArg List.length h
    rw [List.length_append] at this
    omega

theorem tneg (u : Int) (h : u ≤ 0) : u.tdiv 10 = -((-u) / 10) ∧ u.tmod 10 = -((-u) % 10) := by
  obtain ⟨v, rfl⟩ : ∃ v : Int, u = -v := ⟨-u, by omega⟩
  rw [Int.neg_tdiv, Int.neg_tmod, Int.neg_neg, Int.tdiv_eq_ediv_of_nonneg (by omega), Int.tmod_eq_emod_of_nonneg (by omega)]
  exact ⟨rfl, rfl⟩

theorem run_byte_string {P : Program} (src dst e : TypeId) (v : Int) (h0 : 0 ≤ v) (h1 : v ≤ 255) (hs : P.underlying src = some (.slice e)) (he : P.underlying e = some (.int .u8)) (hd : P.underlying dst = some .string) (w : World) :
    (convert src dst (.slice (some ⟨w.heap.size, 0, none⟩) 1 1)).run P (w.alloc (.cells #[.int .u8 v] e)) = .ok (.string ⟨#[UInt8.ofNat v.toNat]⟩) (w.alloc (.cells #[.int .u8 v] e)) :=
  run_convert_bytes_back (P := P) _ src dst e ⟨w.heap.size, 0, none⟩ 1 [UInt8.ofNat v.toNat] hs he hd (fun j hj => by
    obtain rfl : j = 0 := by simp at hj; omega
    have hv : ((UInt8.ofNat v.toNat).toNat : Int) = v := by rw [UInt8.toNat_ofNat']; omega
    simp only [List.getElem_cons_zero, hv]
    exact World.cell?_alloc_new _ _ _ 0)

theorem specFormat_pos (n : Int) (h0 : 1 ≤ n) (h1 : n ≤ 9223372036854775807) (w : World) :
    Calls Tryd.prog 32 #[.int .i64 n] w fun e w' => e = .returned (num n) ∧ Below w.heap.size w w' := by
  have hz : (n == 0) = false := by rw [beq_eq_false_iff_ne]; omega
  go_enter Tryd.func32, Tryd.ntmps32
  go_wp2
  go_loopw [3, 4] (fun s x wr => ∃ (u : Int) (l : List UInt8), 0 ≤ u ∧ u ≤ n ∧ x = .int .i64 u ∧ s = .string ⟨l.toArray⟩ ∧ Rest n.natAbs u l ∧ Below w.heap.size w wr) (fun _ x _ => (RowKit.intOf x).toNat)
  case atStart => exact ⟨n, [], by omega, by omega, rfl, rfl, Rest.start h0, Below.refl _ _⟩
  case round =>
    obtain ⟨u, l, hu0, hu1, rfl, rfl, hR, hb⟩ := hrel
    have hl := hR.len (by omega)
    by_cases hu : u = 0
    · subst hu
      have HR := Lib.hid hR.done; clear hR
      go_wp2
      go_ret
      exact ⟨by rw [HR.out]; unfold num; rw [dec.itoa_pos' (by omega), show n.toNat = n.natAbs by omega]; rfl, hb⟩
    · have hun : (u == 0) = false := by rw [beq_eq_false_iff_ne]; omega
      have hd0 : 0 ≤ u % 10 := by omega
      have hd9 : u % 10 ≤ 9 := by omega
      have HR := Lib.hid (hR.step hu (v := u / 10) (by omega)); clear hR
      have hcv := run_byte_string (P := Tryd.prog) 22 9 5 (48 + u % 10) (by omega) (by omega) Tryd.underlying22 Tryd.underlying5 Tryd.underlying9
      go_wp2
      refine ⟨⟨u / 10, UInt8.ofNat (48 + u.natAbs % 10) :: l, by omega, by omega, rfl, ?_, HR.out, hb.alloc hb.size _⟩, ?_⟩
      · rw [show (48 + u % 10).toNat = 48 + u.natAbs % 10 by omega]
        exact congrArg Value.string (bytes_cons _ _)
      · simp only [RowKit.intOf]; omega

theorem specFormat_neg (n : Int) (h0 : -9223372036854775808 ≤ n) (h1 : n < 0) (w : World) :
    Calls Tryd.prog 32 #[.int .i64 n] w fun e w' => e = .returned (num n) ∧ Below w.heap.size w w' := by
  have hz : (n == 0) = false := by rw [beq_eq_false_iff_ne]; omega
  go_enter Tryd.func32, Tryd.ntmps32
  go_wp2
  go_loopw [3, 4] (fun s x wr => ∃ (u : Int) (l : List UInt8), u ≤ 0 ∧ n ≤ u ∧ x = .int .i64 u ∧ s = .string ⟨l.toArray⟩ ∧ Rest n.natAbs u l ∧ Below w.heap.size w wr) (fun _ x _ => (RowKit.intOf x).natAbs)
  case atStart => exact ⟨n, [], by omega, by omega, rfl, rfl, Rest.start' (by omega), Below.refl _ _⟩
  case round =>
    obtain ⟨u, l, hu0, hu1, rfl, rfl, hR, hb⟩ := hrel
    have hl := hR.len (by omega)
    by_cases hu : u = 0
    · subst hu
      have HR := Lib.hid hR.done; clear hR
      go_wp2
      go_ret
      exact ⟨by rw [HR.out]; unfold num; rw [dec.itoa_neg' (by omega)]; exact congrArg (fun s => Ending.returned (Value.string s)) (bytes_cons _ _), hb⟩
    · have hun : (u == 0) = false := by rw [beq_eq_false_iff_ne]; omega
      obtain ⟨e1, e2⟩ := tneg u hu0
      have HR := Lib.hid (hR.step hu (v := u.tdiv 10) (by rw [e1]; omega)); clear hR
      have hd0 : u.tmod 10 ≤ 0 := by omega
      have hd9 : -9 ≤ u.tmod 10 := by omega
      have hv0 : u.tdiv 10 ≤ 0 := by omega
      have hv9 : u ≤ u.tdiv 10 := by omega
      have hm : (u.tdiv 10).natAbs < u.natAbs := by omega
      have E2 := Lib.hid e2; clear e1 e2
      by_cases hd : u.tmod 10 < 0
      · have hcv := run_byte_string (P := Tryd.prog) 22 9 5 (48 + -u.tmod 10) (by omega) (by omega) Tryd.underlying22 Tryd.underlying5 Tryd.underlying9
        go_wp2
        refine ⟨⟨u.tdiv 10, UInt8.ofNat (48 + u.natAbs % 10) :: l, by omega, by omega, rfl, ?_, HR.out, hb.alloc hb.size _⟩, ?_⟩
        · have e2 := E2.out
          rw [show (48 + -u.tmod 10).toNat = 48 + u.natAbs % 10 by omega]
          exact congrArg Value.string (bytes_cons _ _)
        · simp only [RowKit.intOf]; omega
      · have hz0 : u.tmod 10 = 0 := by omega
        have hcv := run_byte_string (P := Tryd.prog) 22 9 5 48 (by omega) (by omega) Tryd.underlying22 Tryd.underlying5 Tryd.underlying9
        go_wp2
        refine ⟨⟨u.tdiv 10, UInt8.ofNat (48 + u.natAbs % 10) :: l, by omega, by omega, rfl, ?_, HR.out, hb.alloc hb.size _⟩, ?_⟩
        · have e2 := E2.out
          rw [show 48 + u.natAbs % 10 = 48 by omega]
          exact congrArg Value.string (bytes_cons _ _)
        · simp only [RowKit.intOf]; omega

theorem specFormat_zero (w : World) :
    Calls Tryd.prog 32 #[.int .i64 0] w fun e w' => e = .returned (num 0) ∧ Below w.heap.size w w' := by
  go_enter Tryd.func32, Tryd.ntmps32
  go_wp2
  go_ret
  exact ⟨by unfold num; rw [dec.itoa_pos' (by omega)]; show _ = Ending.returned (.string ⟨(decDigits 0).toArray⟩); rw [Lib.decDigits_one (by omega)]; rfl, Below.refl _ _⟩

theorem specFormat (n : Int) (h0 : -9223372036854775808 ≤ n) (h1 : n ≤ 9223372036854775807) (w : World) :
    Calls Tryd.prog 32 #[.int .i64 n] w fun e w' => e = .returned (num n) ∧ Below w.heap.size w w' := by
  by_cases hn : n < 0
  · exact specFormat_neg n h0 hn w
  · by_cases hz : n = 0
    · subst hz; exact specFormat_zero w
    · exact specFormat_pos n (by omega) h1 w

end Go.Proofs.YtlbkbcafkjgckaaDoor.fmt
