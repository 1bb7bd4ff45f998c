/-
  Plain facts on decimal numerals, without the program: a numeral is read back, its digits are digits, and what the project's and the model's way of reading a text give is the same number.
  Conditions: those that each theorem names.
-/
import Derived.Lib.ItoaNum
import Derived.Lib.AtoiAllCases
namespace Go.Proofs.YtlbkbcafkjgckaaDoor.dec
open Go.Lib

def isDig (b : UInt8) : Prop := 48 ≤ b.toNat ∧ b.toNat ≤ 57
instance (b : UInt8) : Decidable (isDig b) := by unfold isDig; infer_instance

def digStep (a : Nat) (b : UInt8) : Nat := 10 * a + (b.toNat - 48)
theorem digStep_eq (a : Nat) (b : UInt8) : digStep a b = 10 * a + (b.toNat - 48) := by unfold digStep; rfl
def valFrom (a : Nat) (l : List UInt8) : Nat := l.foldl digStep a
def val (l : List UInt8) : Nat := valFrom 0 l

theorem valFrom_nil (a : Nat) : valFrom a [] = a := by unfold valFrom; rw [List.foldl_nil]
theorem valFrom_cons (a : Nat) (b : UInt8) (l : List UInt8) : valFrom a (b :: l) = valFrom (10 * a + (b.toNat - 48)) l := by unfold valFrom; rw [List.foldl_cons, digStep_eq]
theorem valFrom_snoc (l : List UInt8) (a : Nat) (b : UInt8) : valFrom a (l ++ [b]) = 10 * valFrom a l + (b.toNat - 48) := by
  unfold valFrom
  rw [List.foldl_append, List.foldl_cons, List.foldl_nil, digStep_eq]
theorem val_snoc (l : List UInt8) (b : UInt8) : val (l ++ [b]) = 10 * val l + (b.toNat - 48) := valFrom_snoc l 0 b

theorem toNat_dig {d : Nat} (h : d < 10) : (UInt8.ofNat (48 + d)).toNat = 48 + d := by
  rw [UInt8.toNat_ofNat']
  omega

theorem decDigits_step {u : Nat} (h : ¬ u < 10) : decDigits u = decDigits (u / 10) ++ [UInt8.ofNat (48 + u % 10)] := by
  rw [decDigits, dif_neg h]

theorem decDigits_dig : ∀ (u : Nat) (b : UInt8), b ∈ decDigits u → isDig b := by
  intro u
  induction u using Nat.strongRecOn with
  | _ u ih =>
    intro b hb
    by_cases h : u < 10
    · rw [decDigits_one h] at hb
      simp only [List.mem_singleton] at hb
      subst hb
      unfold isDig
      rw [toNat_dig h]
      omega
    · rw [decDigits_step h] at hb
      rcases List.mem_append.1 hb with hb | hb
      · exact ih (u / 10) (by omega) b hb
      · simp only [List.mem_singleton] at hb
        subst hb
        unfold isDig
        rw [toNat_dig (by omega)]
        omega

theorem val_decDigits (u : Nat) : val (decDigits u) = u := by
  induction u using Nat.strongRecOn with
  | _ u ih =>
    by_cases h : u < 10
    · rw [decDigits_one h]
      unfold val
      rw [valFrom_cons, valFrom_nil, toNat_dig h]
      omega
    · rw [decDigits_step h, val_snoc, ih (u / 10) (by omega), toNat_dig (by omega)]
      omega

theorem decDigits_ne (u : Nat) : decDigits u ≠ [] := by
  intro h
  have := decDigits_length u
  rw [h] at this
  have h1 := nDigits_pos u
  simp at this
  omega

theorem nDigits_le : ∀ (k u : Nat), 1 ≤ k → u < 10 ^ k → nDigits u ≤ k
  | 0, u, h, _ => by omega
  | k + 1, u, _, h => by
    by_cases hs : u < 10
    · rw [nDigits_small hs]; omega
    · rw [nDigits_big hs]
      rw [Nat.pow_succ] at h
      by_cases hk : k = 0
      · subst hk; simp at h; omega
      · have := nDigits_le k (u / 10) (by omega) (by omega)
        omega

theorem valFrom_ge : ∀ (l : List UInt8) (a : Nat), a ≤ valFrom a l
  | [], a => by rw [valFrom_nil]; omega
  | b :: l, a => by
    rw [valFrom_cons]
    have := valFrom_ge l (10 * a + (b.toNat - 48))
    omega

theorem parse_digs : ∀ (l : List UInt8) (a : Nat), (∀ b ∈ l, isDig b) → valFrom a l < 18446744073709551616 → parseUint10 a l = .ok (valFrom a l)
  | [], a, _, _ => rfl
  | b :: l, a, hd, hv => by
    have hb : isDig b := hd b List.mem_cons_self
    unfold isDig at hb
    rw [valFrom_cons] at hv ⊢
    have h1 := valFrom_ge l (10 * a + (b.toNat - 48))
    have e : a * 10 + (b.toNat - 48) = 10 * a + (b.toNat - 48) := by omega
    rw [parseUint10, if_pos hb, if_neg (by omega), if_neg (by omega), e]
    exact parse_digs l _ (fun x hx => hd x (List.mem_cons_of_mem _ hx)) hv

theorem parseMag_dec {u : Nat} (h : u < 18446744073709551616) : parseMag (decDigits u) = .ok u := by
  unfold parseMag
  rw [if_neg (decDigits_ne u)]
  have hv := val_decDigits u
  unfold val at hv
  rw [parse_digs _ 0 (decDigits_dig u) (by omega), hv]

theorem head_dec (u : Nat) : ∃ b r, decDigits u = b :: r ∧ isDig b := by
  cases h : decDigits u with
  | nil => exact absurd h (decDigits_ne u)
  | cons b r => exact ⟨b, r, rfl, decDigits_dig u b (by rw [h]; exact List.mem_cons_self)⟩

/-- What is written is read again. -/
theorem atoi_itoa (n : Int) (h0 : -9223372036854775808 ≤ n) (h1 : n ≤ 9223372036854775807) : atoiAll (itoa n) = .ok n := by
  unfold itoa
  by_cases hn : n < 0
  · rw [if_pos hn, atoiAll_minus, parseMag_dec (by omega)]
    simp only [signed]
    rw [if_neg (by omega)]
    congr 1
    omega
  · rw [if_neg hn]
    obtain ⟨b, r, e, hb⟩ := head_dec n.toNat
    unfold isDig at hb
    have hp : parseMag (b :: r) = .ok n.toNat := by rw [← e]; exact parseMag_dec (by omega)
    rw [e, atoiAll_plain b r (by omega) (by omega), hp]
    simp only [signless]
    rw [if_neg (by omega)]
    congr 1
    omega

theorem itoa_inj {n m : Int} (h0 : -9223372036854775808 ≤ n) (h1 : n ≤ 9223372036854775807) (k0 : -9223372036854775808 ≤ m) (k1 : m ≤ 9223372036854775807) (h : itoa n = itoa m) : n = m := by
  have a := atoi_itoa n h0 h1
  have b := atoi_itoa m k0 k1
  rw [h, b] at a
  injection a with a
  exact a.symm

/-- What the project's reading gives, of the numbers from low to high. -/
def pr (low high : Int) (l : List UInt8) : Int × Bool :=
  match atoiAll l with
  | .ok n => if itoa n = l ∧ low ≤ n ∧ n ≤ high then (n, true) else (0, false)
  | _ => (0, false)

theorem pr_yes {low high n : Int} {l : List UInt8} (h : itoa n = l) (h0 : -9223372036854775808 ≤ n) (h1 : n ≤ 9223372036854775807) (hl : low ≤ n) (hh : n ≤ high) : pr low high l = (n, true) := by
  have e : atoiAll l = .ok n := by rw [← h]; exact atoi_itoa n h0 h1
  unfold pr
  rw [e]
  exact if_pos ⟨h, hl, hh⟩

theorem pr_no {low high : Int} {l : List UInt8} (h : ∀ n, itoa n = l → low ≤ n → n ≤ high → False) : pr low high l = (0, false) := by
  unfold pr
  split
  · rw [if_neg (fun hh => h _ hh.1 hh.2.1 hh.2.2)]
  · rfl

theorem pr_true {low high : Int} {l : List UInt8} (h : (pr low high l).2 = true) : itoa (pr low high l).1 = l ∧ low ≤ (pr low high l).1 ∧ (pr low high l).1 ≤ high := by
  unfold pr at h ⊢
  split at h
  · split at h
    · rename_i hc
      rw [if_pos hc]
      exact hc
    · cases h
  · cases h

theorem pr_false {low high : Int} {l : List UInt8} (h : (pr low high l).2 = false) : (pr low high l).1 = 0 := by
  unfold pr at h ⊢
  split at h
  · split at h
    · cases h
    · rename_i hc
      rw [if_neg hc]
  · rfl

/-- What the model's reading gives. -/
def sp (l : List UInt8) : Int × Bool := if 1 ≤ l.length ∧ l.length ≤ 13 ∧ (∀ b ∈ l, isDig b) ∧ val l ≤ 1000000000000 ∧ itoa (val l : Int) = l then ((val l : Int), true) else (0, false)

theorem itoa_nat (u : Nat) : itoa (u : Int) = decDigits u := by unfold itoa; rw [if_neg (by omega)]; simp

theorem sp_eq (l : List UInt8) : sp l = pr 0 1000000000000 l := by
  unfold sp
  split
  · rename_i h
    obtain ⟨_, _, _, h4, h5⟩ := h
    exact (pr_yes h5 (by omega) (by omega) (by omega) (by omega)).symm
  · rename_i h
    refine (pr_no fun n hn h0 h1 => h ?_).symm
    obtain ⟨u, rfl⟩ := Int.eq_ofNat_of_zero_le h0
    rw [itoa_nat] at hn
    have hv := val_decDigits u
    have hl := decDigits_length u
    have hp := nDigits_pos u
    have hd := nDigits_le 13 u (by omega) (by have : (10 : Nat) ^ 13 = 10000000000000 := by decide
                                              omega)
    subst hn
    rw [hv, itoa_nat]
    exact ⟨by omega, by omega, decDigits_dig u, by omega, rfl⟩

/-- What the model's reading with a sign gives. -/
def sps (l : List UInt8) : Int × Bool :=
  if l.head? = some 45 then
    (if (sp l.tail).2 = true ∧ (sp l.tail).1 ≤ 1000000000 ∧ (sp l.tail).1 ≠ 0 then (-(sp l.tail).1, true) else (0, false))
  else
    (if (sp l).2 = true ∧ (sp l).1 ≤ 1000000000 then ((sp l).1, true) else (0, false))

theorem itoa_neg' {n : Int} (h : n < 0) : itoa n = 45 :: decDigits n.natAbs := by unfold itoa; rw [if_pos h]
theorem itoa_pos' {n : Int} (h : ¬ n < 0) : itoa n = decDigits n.toNat := by unfold itoa; rw [if_neg h]

theorem dig_head {u : Nat} : (decDigits u).head? ≠ some 45 := by
  obtain ⟨b, r, e, hb⟩ := head_dec u
  rw [e]
  intro h
  simp only [List.head?_cons, Option.some.injEq] at h
  subst h
  unfold isDig at hb
  have : (45 : UInt8).toNat = 45 := rfl
  omega

theorem sps_eq (l : List UInt8) : sps l = pr (-1000000000) 1000000000 l := by
  unfold sps
  rw [sp_eq, sp_eq]
  split
  · rename_i hh
    obtain ⟨r, rfl⟩ : ∃ r, l = 45 :: r := by
      cases l with
      | nil => simp at hh
      | cons b r => simp at hh; exact ⟨r, by rw [hh]⟩
    have ht : (45 :: r).tail = r := rfl
    rw [ht]
    by_cases hc : (pr 0 1000000000000 r).2 = true ∧ (pr 0 1000000000000 r).1 ≤ 1000000000 ∧ (pr 0 1000000000000 r).1 ≠ 0
    · rw [if_pos hc]
      obtain ⟨c1, c2, c3⟩ := hc
      obtain ⟨e1, e2, e3⟩ := pr_true c1
      refine (pr_yes ?_ (by omega) (by omega) (by omega) (by omega)).symm
      rw [itoa_neg' (by omega)]
      rw [itoa_pos' (by omega)] at e1
      rw [← e1]
      congr 2
      rw [e1]
      omega
    · rw [if_neg hc]
      refine (pr_no fun n hn h0 h1 => hc ?_).symm
      by_cases hneg : n < 0
      · rw [itoa_neg' hneg] at hn
        injection hn with _ hn
        have hy : pr 0 1000000000000 r = ((n.natAbs : Int), true) := pr_yes (by rw [itoa_nat, hn]) (by omega) (by omega) (by omega) (by omega)
        rw [hy]
        exact ⟨rfl, by show (n.natAbs : Int) ≤ 1000000000; omega, by show (n.natAbs : Int) ≠ 0; omega⟩
      · rw [itoa_pos' hneg] at hn
        exact absurd (by rw [hn]; rfl) (dig_head (u := n.toNat))
  · rename_i hh
    by_cases hc : (pr 0 1000000000000 l).2 = true ∧ (pr 0 1000000000000 l).1 ≤ 1000000000
    · rw [if_pos hc]
      obtain ⟨c1, c2⟩ := hc
      obtain ⟨e1, e2, e3⟩ := pr_true c1
      exact (pr_yes e1 (by omega) (by omega) (by omega) (by omega)).symm
    · rw [if_neg hc]
      refine (pr_no fun n hn h0 h1 => hc ?_).symm
      by_cases hneg : n < 0
      · rw [itoa_neg' hneg] at hn
        exact absurd (by rw [← hn]; rfl) hh
      · have hy : pr 0 1000000000000 l = (n, true) := pr_yes hn (by omega) (by omega) (by omega) (by omega)
        rw [hy]
        exact ⟨rfl, by show n ≤ 1000000000; omega⟩

end Go.Proofs.YtlbkbcafkjgckaaDoor.dec
