/-
  Plain facts on hexadecimal numerals, without the program: the numeral without leading zeros, that of a fixed length, and how the first one is padded.
  Conditions: those that each theorem names.
-/
import Derived.Below
import Derived.Lib.Repeat
import Derived.Laws.Bits64b
namespace Go.Proofs.YtealjeigpngkiaaDoor.hexa
set_option linter.unusedVariables false

/-- The digit of a number below 16. -/
def dg (d : Nat) : UInt8 := if d < 10 then UInt8.ofNat (48 + d) else UInt8.ofNat (87 + d)
def numF : Nat → Nat → List UInt8
  | 0, n => [dg (n % 16)]
  | f + 1, n => if n < 16 then [dg n] else numF f (n / 16) ++ [dg (n % 16)]
/-- The numeral of n, where n is below 16^8. -/
def num (n : Nat) : List UInt8 := numF 7 n
/-- The last k digits of n. -/
def low : Nat → Nat → List UInt8
  | 0, n => []
  | k + 1, n => dg (n / 16 ^ k % 16) :: low k n

theorem numF_lt (f n : Nat) (h : n < 16) : numF f n = [dg n] := by
  cases f with
  | zero => simp only [numF]; rw [Nat.mod_eq_of_lt h]
  | succ f => simp only [numF]; rw [if_pos h]
theorem numF_ge (f n : Nat) (h : 16 ≤ n) : numF (f + 1) n = numF f (n / 16) ++ [dg (n % 16)] := by
  simp only [numF]; rw [if_neg (by omega)]
theorem numF_len : ∀ (f n : Nat), 1 ≤ (numF f n).length ∧ (numF f n).length ≤ f + 1
  | 0, n => by simp [numF]
  | f + 1, n => by
    have ih := numF_len f (n / 16)
    by_cases h : n < 16
    · rw [numF_lt _ _ h, List.length_singleton]; omega
    · rw [numF_ge _ _ (by omega), List.length_append, List.length_singleton]; omega
theorem num_len (n : Nat) : 1 ≤ (num n).length ∧ (num n).length ≤ 8 := numF_len 7 n
theorem low_len : ∀ (k n : Nat), (low k n).length = k
  | 0, _ => rfl
  | k + 1, n => by rw [low, List.length_cons, low_len k n]
theorem low_snoc : ∀ (k n : Nat), low (k + 1) n = low k (n / 16) ++ [dg (n % 16)]
  | 0, n => by simp [low]
  | k + 1, n => by
    have e : n / 16 ^ (k + 1) = n / 16 / 16 ^ k := by rw [Nat.pow_succ, Nat.mul_comm, Nat.div_div_eq_div_mul]
    rw [low, low_snoc k n, e]
    rfl
theorem low_zero : ∀ k : Nat, low k 0 = List.replicate k 48
  | 0 => rfl
  | k + 1 => by
    rw [low, low_zero k, Nat.zero_div]
    rfl
theorem pad : ∀ (f n : Nat), n < 16 ^ (f + 1) → List.replicate (f + 1 - (numF f n).length) 48 ++ numF f n = low (f + 1) n
  | 0, n, h => by
    have h16 : n < 16 := by simpa using h
    rw [numF_lt _ _ h16]
    simp [low, Nat.mod_eq_of_lt h16]
  | f + 1, n, h => by
    by_cases h16 : n < 16
    · rw [numF_lt _ _ h16, low_snoc, Nat.div_eq_of_lt h16, low_zero, Nat.mod_eq_of_lt h16]
      simp
    · have h2 : n / 16 < 16 ^ (f + 1) := by
        rw [Nat.pow_succ] at h
        omega
      rw [numF_ge _ _ (by omega), low_snoc, ← pad f (n / 16) h2, List.length_append, List.length_singleton, ← List.append_assoc, show f + 1 + 1 - ((numF f (n / 16)).length + 1) = f + 1 - (numF f (n / 16)).length by omega]
theorem rep_one (x : UInt8) (c : Nat) : Lib.repeatL [x] c = List.replicate c x := by
  have h := Lib.repeatL_replicate x 1 c
  simpa using h
theorem p8 : (16 : Nat) ^ (7 + 1) = 4294967296 := by decide
theorem pad8 (n : Nat) (h : n < 4294967296) : Lib.repeatL [48] (8 - (num n).length) ++ num n = low 8 n := by
  rw [rep_one]
  exact pad 7 n (by rw [p8]; exact h)

/-- How far n is written: what is left is u, with f digits more than one; l is written. -/
def Rest (n f u : Nat) (l : List UInt8) : Prop := numF f u ++ l = num n ∧ u < 16 ^ (f + 1) ∧ f + l.length = 7
theorem Rest.start (n : Nat) (h : n < 4294967296) : Rest n 7 n [] := ⟨by rw [List.append_nil]; rfl, by rw [p8]; exact h, rfl⟩
theorem Rest.more {n f u : Nat} {l : List UInt8} (h : Rest n f u l) (hu : 16 ≤ u) : ∃ g, f = g + 1 := by
  cases f with
  | zero => have := h.2.1; simp at this; omega
  | succ g => exact ⟨g, rfl⟩
theorem Rest.step {n f u : Nat} {l : List UInt8} (h : Rest n (f + 1) u l) (hu : 16 ≤ u) : Rest n f (u / 16) (dg (u % 16) :: l) := by
  obtain ⟨h1, h2, h3⟩ := h
  refine ⟨?_, ?_, by rw [List.length_cons]; omega⟩
  · rw [← h1, numF_ge _ _ hu, List.append_assoc]
    rfl
  · rw [Nat.pow_succ] at h2
    omega
theorem Rest.last {n f u : Nat} {l : List UInt8} (h : Rest n f u l) (hu : u < 16) : dg u :: l = num n := by
  rw [← h.1, numF_lt _ _ hu]
  rfl

/-- The library's digits. -/
def digits : ByteArray := ⟨#[48, 49, 50, 51, 52, 53, 54, 55, 56, 57, 97, 98, 99, 100, 101, 102, 103, 104, 105, 106, 107, 108, 109, 110, 111, 112, 113, 114, 115, 116, 117, 118, 119, 120, 121, 122]⟩
theorem digit_at_fin : ∀ d : Fin 16, digits[d.val]'(Nat.lt_of_lt_of_le d.isLt (by decide)) = dg d.val := by decide
theorem digit_at (d : Nat) (h : d < 16) (hd : d < digits.size) : (digits[d]'hd) = dg d := digit_at_fin ⟨d, h⟩

theorem and15 (u : Nat) (h : u < 18446744073709551616) : bits .and .u64 (u : Int) 15 = ((u % 16 : Nat) : Int) := by
  have := bits_and_u64_nat u 15 h (by omega)
  rw [show ((15 : Nat) : Int) = 15 from rfl] at this
  rw [this, show (15 : Nat) = 2 ^ 4 - 1 from rfl, Nat.and_two_pow_sub_one_eq_mod]

/-- A digit's number, as the program reckons it. -/
theorem dg_small (d : Nat) (h : d < 10) : UInt8.ofNat (48 + d) = dg d := by unfold dg; rw [if_pos h]
theorem dg_great (d : Nat) (h : 10 ≤ d) : UInt8.ofNat (87 + d) = dg d := by unfold dg; rw [if_neg (by omega)]

end Go.Proofs.YtealjeigpngkiaaDoor.hexa
