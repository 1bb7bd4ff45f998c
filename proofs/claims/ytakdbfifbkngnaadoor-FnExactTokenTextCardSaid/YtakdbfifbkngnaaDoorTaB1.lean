/-
  What the texts behind this one use: 13 parts of one proof.
  Conditions: those that each theorem names.
-/
import Derived.Lib.Hide
import Derived.Lib.ItoaNum
import Derived.Lib.AtoiAllCases
import Derived.Lib.IndexMore
import Derived.Lib.SlTrimSet
import Derived.Test.YtakdbfifbkngnaaDoorRows
import Derived.Test.YtakdbfifbkngnaaDoorShelf
import Derived.Laws.OwnMore
import Derived.OwnWalk
import Derived.Lib.AppendStr
import Derived.Lib.Builder
import Derived.Lib.SmallJoins
import Derived.Lib.Strings
import Derived.Lib.Bytealg
import Derived.Lib.IndexBytes
import Derived.Shelf.Abstract
import Derived.Below
import Derived.Deep.AppendLies
import Derived.Deep.Draws
import Derived.Laws.AppendOwnNone
import Derived.Laws.BytesArg
import Derived.Deep.LoopGhost
import Derived.WalkKit
import Derived.ProofKit
import Derived.IntWalk
import Derived.BigQuiet
import Derived.Deep.QuietTactic
import Derived.WalkLawsBesides
import Derived.OpenShut
import Derived.Carry
import Derived.Deep.Fields
import Derived.ChangeArms
import Derived.Laws.NewBlocks
import Derived.Laws.NewDeep
import Derived.Deep.RegionWith
import Derived.Stop.LaidErr
import Derived.LaidMore
import Derived.LaidHandle
/-
  The digits at the beginning of a text and the number that they give, held to a limit; without the program.
  Conditions: those that each theorem names.
-/
namespace Go.Proofs.YtakdbfifbkngnaaDoor.lead
set_option linter.unusedVariables false

def dg (b : UInt8) : Bool := decide (48 ≤ b.toNat) && decide (b.toNat ≤ 57)
theorem dg_iff {b : UInt8} : dg b = true ↔ 48 ≤ b.toNat ∧ b.toNat ≤ 57 := by unfold dg; simp
theorem dg_no {b : UInt8} : dg b = false ↔ ¬ (48 ≤ b.toNat ∧ b.toNat ≤ 57) := by rw [← dg_iff]; simp
/-- The digits at the beginning. -/
def ld : List UInt8 → List UInt8
  | [] => []
  | b :: r => if dg b then b :: ld r else []
def stp (a : Nat) (b : UInt8) : Nat := min (10 * a + (b.toNat - 48)) 1000000001
theorem stp_eq (a : Nat) (b : UInt8) : stp a b = min (10 * a + (b.toNat - 48)) 1000000001 := by unfold stp; rfl
/-- The number of digits behind the number a, held to 1000000001. -/
def mg (a : Nat) (l : List UInt8) : Nat := l.foldl stp a
theorem mg_nil (a : Nat) : mg a [] = a := by unfold mg; rw [List.foldl_nil]
theorem mg_cons (a : Nat) (b : UInt8) (l : List UInt8) : mg a (b :: l) = mg (min (10 * a + (b.toNat - 48)) 1000000001) l := by unfold mg; rw [List.foldl_cons, stp_eq]
theorem ld_nil : ld [] = [] := rfl
theorem ld_yes {b : UInt8} {r : List UInt8} (h : dg b = true) : ld (b :: r) = b :: ld r := by rw [ld, if_pos h]
theorem ld_no {b : UInt8} {r : List UInt8} (h : dg b = false) : ld (b :: r) = [] := by rw [ld, if_neg (by simp [h])]
theorem mg_le : ∀ (l : List UInt8) (a : Nat), a ≤ 1000000001 → mg a l ≤ 1000000001
  | [], a, h => by rw [mg_nil]; exact h
  | b :: l, a, h => by rw [mg_cons]; exact mg_le l _ (Nat.min_le_right _ _)
theorem ld_len : ∀ l : List UInt8, (ld l).length ≤ l.length
  | [] => by simp [ld]
  | b :: r => by
    rw [ld]
    split
    · simp only [List.length_cons]; have := ld_len r; omega
    · simp
theorem ld_take : ∀ l : List UInt8, l.take (ld l).length = ld l
  | [] => by simp [ld]
  | b :: r => by
    rw [ld]
    split
    · rw [List.length_cons, List.take_succ_cons, ld_take r]
    · simp
theorem ld_dig : ∀ (l : List UInt8) (b : UInt8), b ∈ ld l → dg b = true
  | [], b, h => by simp [ld] at h
  | c :: r, b, h => by
    rw [ld] at h
    split at h
    · rename_i hc
      rcases List.mem_cons.1 h with rfl | h
      · exact hc
      · exact ld_dig r b h
    · simp at h
theorem ld_all : ∀ l : List UInt8, (∀ b ∈ l, dg b = true) → ld l = l
  | [], _ => rfl
  | b :: r, h => by rw [ld_yes (h b List.mem_cons_self), ld_all r fun c hc => h c (List.mem_cons_of_mem _ hc)]
theorem ld_ld (l : List UInt8) : ld (ld l) = ld l := ld_all _ (ld_dig l)
theorem ld_full {l : List UInt8} (h : (ld l).length = l.length) : ld l = l := by rw [← ld_take l, h, List.take_length]

theorem size_eq (s : ByteArray) : s.data.toList.length = s.size := Array.length_toList
theorem drop_at {s : ByteArray} {k : Nat} (h : k < s.size) : s.data.toList.drop k = s[k] :: s.data.toList.drop (k + 1) := by
  rw [List.drop_eq_getElem_cons (by rw [size_eq]; exact h)]
  rfl
theorem drop_end {s : ByteArray} {k : Nat} (h : s.size ≤ k) : s.data.toList.drop k = [] := List.drop_eq_nil_of_le (by rw [size_eq]; exact h)

/-- At place k, with the number n so far: what stands behind gives R and ends at K. -/
def At (s : ByteArray) (k n R K : Nat) : Prop := mg n (ld (s.data.toList.drop k)) = R ∧ k + (ld (s.data.toList.drop k)).length = K ∧ n ≤ 1000000001
theorem At.start (s : ByteArray) (k : Nat) : At s k 0 (mg 0 (ld (s.data.toList.drop k))) (k + (ld (s.data.toList.drop k)).length) := ⟨rfl, rfl, by omega⟩
theorem At.step {s : ByteArray} {k n R K : Nat} (h : At s k n R K) (hk : k < s.size) (hd : dg s[k] = true) : At s (k + 1) (min (10 * n + (s[k].toNat - 48)) 1000000001) R K := by
  obtain ⟨h1, h2, h3⟩ := h
  rw [drop_at hk, ld_yes hd] at h1 h2
  rw [mg_cons] at h1
  rw [List.length_cons] at h2
  exact ⟨h1, by omega, Nat.min_le_right _ _⟩
theorem At.stop {s : ByteArray} {k n R K : Nat} (h : At s k n R K) (hk : k < s.size) (hd : dg s[k] = false) : n = R ∧ k = K := by
  obtain ⟨h1, h2, h3⟩ := h
  rw [drop_at hk, ld_no hd] at h1 h2
  rw [mg_nil] at h1
  exact ⟨h1, by simpa using h2⟩
theorem At.fin {s : ByteArray} {k n R K : Nat} (h : At s k n R K) (hk : s.size ≤ k) : n = R ∧ k = K := by
  obtain ⟨h1, h2, h3⟩ := h
  rw [drop_end hk] at h1 h2
  rw [ld_nil] at h1 h2
  rw [mg_nil] at h1
  exact ⟨h1, by simpa using h2⟩

/-- Whether the text begins with the sign. -/
def neg (s : ByteArray) : Bool := s.data.toList.head? == some 45
def off (s : ByteArray) : Nat := if neg s then 1 else 0
def digs (s : ByteArray) : List UInt8 := ld (s.data.toList.drop (off s))
def mag (s : ByteArray) : Nat := mg 0 (digs s)
/-- LeadingInt. -/
def li (s : ByteArray) : Int := if neg s then -((min (mag s) 1000000000 : Nat) : Int) else ((min (mag s) 1000000000 : Nat) : Int)
/-- IsNumeric. -/
def isn (s : ByteArray) : Bool := decide (1 ≤ s.size - off s) && decide (s.size - off s ≤ 10) && decide ((digs s).length = s.size - off s) && decide (mag s ≤ 1000000000)
theorem mag_le (s : ByteArray) : mag s ≤ 1000000001 := mg_le _ _ (by omega)
theorem neg_lt {s : ByteArray} (h : neg s = true) : 0 < s.size := by
  rcases Nat.eq_zero_or_pos s.size with hz | hz
  · have : s.data.toList = [] := List.eq_nil_of_length_eq_zero (by rw [size_eq]; omega)
    unfold neg at h
    rw [this] at h
    simp at h
  · exact hz
theorem neg_at {s : ByteArray} (h : 0 < s.size) : neg s = (s[0] == 45) := by
  unfold neg
  have : s.data.toList.head? = some s[0] := by
    rw [List.head?_eq_getElem?, List.getElem?_eq_getElem (by rw [size_eq]; exact h)]
    rfl
  rw [this]
  rfl
theorem off_le (s : ByteArray) : off s ≤ s.size := by
  unfold off
  split
  · rename_i h; exact neg_lt h
  · omega
/-- What the model's scan gives: the number and how many bytes it takes. -/
def scn (s : ByteArray) : Int × Nat := if (digs s).length = 0 then (0, 0) else if neg s then (-(mag s : Int), 1 + (digs s).length) else ((mag s : Int), (digs s).length)
theorem li_scn (s : ByteArray) : li s = max (-1000000000) (min 1000000000 (scn s).1) := by
  unfold li scn
  by_cases h0 : (digs s).length = 0
  · have hm : mag s = 0 := by unfold mag; rw [List.eq_nil_of_length_eq_zero h0, mg_nil]
    rw [if_pos h0, hm]
    split <;> simp <;> omega
  · rw [if_neg h0]
    split <;> omega
theorem scn_le (s : ByteArray) : -1000000001 ≤ (scn s).1 ∧ (scn s).1 ≤ 1000000001 := by
  have := mag_le s
  unfold scn
  split
  · simp
  · split <;> simp <;> omega
theorem scn_take (s : ByteArray) : (scn s).2 ≤ s.size := by
  have h1 : (digs s).length ≤ s.size - off s := by
    unfold digs
    have := ld_len (s.data.toList.drop (off s))
    rw [List.length_drop, size_eq] at this
    exact this
  have h2 := off_le s
  unfold scn
  split
  · simp
  · unfold off at h1 h2
    split <;> rename_i hn <;> simp only [hn] at h1 h2 <;> simp at h1 h2 ⊢ <;> omega
theorem isn_scn (s : ByteArray) : isn s = (decide ((0 : Int) < (scn s).2) && decide ((scn s).2 = s.size) && (decide ((-1000000000 : Int) ≤ (scn s).1) && decide ((scn s).1 ≤ (1000000000 : Int))) && (decide ((scn s).2 ≤ 10) || decide ((scn s).2 = 11) && neg s)) := by
  have h1 : (digs s).length ≤ s.size - off s := by
    unfold digs
    have := ld_len (s.data.toList.drop (off s))
    rw [List.length_drop, size_eq] at this
    exact this
  have h2 := off_le s
  have hm := mag_le s
  unfold isn scn
  rw [Bool.eq_iff_iff]
  simp only [Bool.and_eq_true, Bool.or_eq_true, decide_eq_true_eq]
  unfold off at h1 h2 ⊢
  by_cases h0 : (digs s).length = 0
  · rw [if_pos h0]
    constructor
    · rintro ⟨⟨⟨a, b⟩, c⟩, d⟩; omega
    · rintro ⟨⟨⟨a, b⟩, c⟩, d⟩; simp at a
  · rw [if_neg h0]
    by_cases hn : neg s = true
    · simp only [hn, if_true] at h1 h2 ⊢
      constructor
      · rintro ⟨⟨⟨a, b⟩, c⟩, d⟩; simp; omega
      · rintro ⟨⟨⟨a, b⟩, c⟩, d⟩; simp at a c d; omega
    · simp only [hn] at h1 h2 ⊢
      simp at h1 h2
      constructor
      · rintro ⟨⟨⟨a, b⟩, c⟩, d⟩; simp at a b c ⊢; omega
      · rintro ⟨⟨⟨a, b⟩, c⟩, d⟩; simp at a b c d ⊢; omega

end Go.Proofs.YtakdbfifbkngnaaDoor.lead

/-
  Plain facts on decimal numerals, without the program: a numeral is read back, its digits are digits, and what the project's and the model's way of reading a text give is the same number.
  Conditions: those that each theorem names.
-/
namespace Go.Proofs.YtakdbfifbkngnaaDoor.dec
open Go.Lib

def isDig (b : UInt8) : Prop := 48 ≤ b.toNat ∧ b.toNat ≤ 57
instance (b : UInt8) : Decidable (isDig b) := by unfold isDig; infer_instance

def digStep (a : Nat) (b : UInt8) : Nat := 10 * a + (b.toNat - 48)
theorem digStep_eq (a : Nat) (b : UInt8) : digStep a b = 10 * a + (b.toNat - 48) := by unfold digStep; rfl
def valFrom (a : Nat) (l : List UInt8) : Nat := l.foldl digStep a
def val (l : List UInt8) : Nat := valFrom 0 l

theorem valFrom_nil (a : Nat) : valFrom a [] = a := by unfold valFrom; rw [List.foldl_nil]
theorem valFrom_cons (a : Nat) (b : UInt8) (l : List UInt8) : valFrom a (b :: l) = valFrom (10 * a + (b.toNat - 48)) l := by unfold valFrom; rw [List.foldl_cons, digStep_eq]
theorem valFrom_snoc (l : List UInt8) (a : Nat) (b : UInt8) : valFrom a (l ++ [b]) = 10 * valFrom a l + (b.toNat - 48) := by
  unfold valFrom
  rw [List.foldl_append, List.foldl_cons, List.foldl_nil, digStep_eq]
theorem val_snoc (l : List UInt8) (b : UInt8) : val (l ++ [b]) = 10 * val l + (b.toNat - 48) := valFrom_snoc l 0 b

theorem toNat_dig {d : Nat} (h : d < 10) : (UInt8.ofNat (48 + d)).toNat = 48 + d := by
  rw [UInt8.toNat_ofNat']
  omega

theorem decDigits_step {u : Nat} (h : ¬ u < 10) : decDigits u = decDigits (u / 10) ++ [UInt8.ofNat (48 + u % 10)] := by
  rw [decDigits, dif_neg h]

theorem decDigits_dig : ∀ (u : Nat) (b : UInt8), b ∈ decDigits u → isDig b := by
  intro u
  induction u using Nat.strongRecOn with
  | _ u ih =>
    intro b hb
    by_cases h : u < 10
    · rw [decDigits_one h] at hb
      simp only [List.mem_singleton] at hb
      subst hb
      unfold isDig
      rw [toNat_dig h]
      omega
    · rw [decDigits_step h] at hb
      rcases List.mem_append.1 hb with hb | hb
      · exact ih (u / 10) (by omega) b hb
      · simp only [List.mem_singleton] at hb
        subst hb
        unfold isDig
        rw [toNat_dig (by omega)]
        omega

theorem val_decDigits (u : Nat) : val (decDigits u) = u := by
  induction u using Nat.strongRecOn with
  | _ u ih =>
    by_cases h : u < 10
    · rw [decDigits_one h]
      unfold val
      rw [valFrom_cons, valFrom_nil, toNat_dig h]
      omega
    · rw [decDigits_step h, val_snoc, ih (u / 10) (by omega), toNat_dig (by omega)]
      omega

theorem decDigits_ne (u : Nat) : decDigits u ≠ [] := by
  intro h
  have := decDigits_length u
  rw [h] at this
  have h1 := nDigits_pos u
  simp at this
  omega

theorem nDigits_le : ∀ (k u : Nat), 1 ≤ k → u < 10 ^ k → nDigits u ≤ k
  | 0, u, h, _ => by omega
  | k + 1, u, _, h => by
    by_cases hs : u < 10
    · rw [nDigits_small hs]; omega
    · rw [nDigits_big hs]
      rw [Nat.pow_succ] at h
      by_cases hk : k = 0
      · subst hk; simp at h; omega
      · have := nDigits_le k (u / 10) (by omega) (by omega)
        omega

theorem valFrom_ge : ∀ (l : List UInt8) (a : Nat), a ≤ valFrom a l
  | [], a => by rw [valFrom_nil]; omega
  | b :: l, a => by
    rw [valFrom_cons]
    have := valFrom_ge l (10 * a + (b.toNat - 48))
    omega

theorem parse_digs : ∀ (l : List UInt8) (a : Nat), (∀ b ∈ l, isDig b) → valFrom a l < 18446744073709551616 → parseUint10 a l = .ok (valFrom a l)
  | [], a, _, _ => rfl
  | b :: l, a, hd, hv => by
    have hb : isDig b := hd b List.mem_cons_self
    unfold isDig at hb
    rw [valFrom_cons] at hv ⊢
    have h1 := valFrom_ge l (10 * a + (b.toNat - 48))
    have e : a * 10 + (b.toNat - 48) = 10 * a + (b.toNat - 48) := by omega
    rw [parseUint10, if_pos hb, if_neg (by omega), if_neg (by omega), e]
    exact parse_digs l _ (fun x hx => hd x (List.mem_cons_of_mem _ hx)) hv

theorem parseMag_dec {u : Nat} (h : u < 18446744073709551616) : parseMag (decDigits u) = .ok u := by
  unfold parseMag
  rw [if_neg (decDigits_ne u)]
  have hv := val_decDigits u
  unfold val at hv
  rw [parse_digs _ 0 (decDigits_dig u) (by omega), hv]

theorem head_dec (u : Nat) : ∃ b r, decDigits u = b :: r ∧ isDig b := by
  cases h : decDigits u with
  | nil => exact absurd h (decDigits_ne u)
  | cons b r => exact ⟨b, r, rfl, decDigits_dig u b (by rw [h]; exact List.mem_cons_self)⟩

/-- What is written is read again. -/
theorem atoi_itoa (n : Int) (h0 : -9223372036854775808 ≤ n) (h1 : n ≤ 9223372036854775807) : atoiAll (itoa n) = .ok n := by
  unfold itoa
  by_cases hn : n < 0
  · rw [if_pos hn, atoiAll_minus, parseMag_dec (by omega)]
    simp only [signed]
    rw [if_neg (by omega)]
    congr 1
    omega
  · rw [if_neg hn]
    obtain ⟨b, r, e, hb⟩ := head_dec n.toNat
    unfold isDig at hb
    have hp : parseMag (b :: r) = .ok n.toNat := by rw [← e]; exact parseMag_dec (by omega)
    rw [e, atoiAll_plain b r (by omega) (by omega), hp]
    simp only [signless]
    rw [if_neg (by omega)]
    congr 1
    omega

theorem itoa_inj {n m : Int} (h0 : -9223372036854775808 ≤ n) (h1 : n ≤ 9223372036854775807) (k0 : -9223372036854775808 ≤ m) (k1 : m ≤ 9223372036854775807) (h : itoa n = itoa m) : n = m := by
  have a := atoi_itoa n h0 h1
  have b := atoi_itoa m k0 k1
  rw [h, b] at a
  injection a with a
  exact a.symm

/-- What the project's reading gives, of the numbers from low to high. -/
def pr (low high : Int) (l : List UInt8) : Int × Bool :=
  match atoiAll l with
  | .ok n => if itoa n = l ∧ low ≤ n ∧ n ≤ high then (n, true) else (0, false)
  | _ => (0, false)

theorem pr_yes {low high n : Int} {l : List UInt8} (h : itoa n = l) (h0 : -9223372036854775808 ≤ n) (h1 : n ≤ 9223372036854775807) (hl : low ≤ n) (hh : n ≤ high) : pr low high l = (n, true) := by
  have e : atoiAll l = .ok n := by rw [← h]; exact atoi_itoa n h0 h1
  unfold pr
  rw [e]
  exact if_pos ⟨h, hl, hh⟩

theorem pr_no {low high : Int} {l : List UInt8} (h : ∀ n, itoa n = l → low ≤ n → n ≤ high → False) : pr low high l = (0, false) := by
  unfold pr
  split
  · rw [if_neg (fun hh => h _ hh.1 hh.2.1 hh.2.2)]
  · rfl

theorem pr_true {low high : Int} {l : List UInt8} (h : (pr low high l).2 = true) : itoa (pr low high l).1 = l ∧ low ≤ (pr low high l).1 ∧ (pr low high l).1 ≤ high := by
  unfold pr at h ⊢
  split at h
  · split at h
    · rename_i hc
      rw [if_pos hc]
      exact hc
    · cases h
  · cases h

theorem pr_false {low high : Int} {l : List UInt8} (h : (pr low high l).2 = false) : (pr low high l).1 = 0 := by
  unfold pr at h ⊢
  split at h
  · split at h
    · cases h
    · rename_i hc
      rw [if_neg hc]
  · rfl

/-- What the model's reading gives. -/
def sp (l : List UInt8) : Int × Bool := if 1 ≤ l.length ∧ l.length ≤ 13 ∧ (∀ b ∈ l, isDig b) ∧ val l ≤ 1000000000000 ∧ itoa (val l : Int) = l then ((val l : Int), true) else (0, false)

theorem itoa_nat (u : Nat) : itoa (u : Int) = decDigits u := by unfold itoa; rw [if_neg (by omega)]; simp

theorem sp_eq (l : List UInt8) : sp l = pr 0 1000000000000 l := by
  unfold sp
  split
  · rename_i h
    obtain ⟨_, _, _, h4, h5⟩ := h
    exact (pr_yes h5 (by omega) (by omega) (by omega) (by omega)).symm
  · rename_i h
    refine (pr_no fun n hn h0 h1 => h ?_).symm
    obtain ⟨u, rfl⟩ := Int.eq_ofNat_of_zero_le h0
    rw [itoa_nat] at hn
    have hv := val_decDigits u
    have hl := decDigits_length u
    have hp := nDigits_pos u
    have hd := nDigits_le 13 u (by omega) (by have : (10 : Nat) ^ 13 = 10000000000000 := by decide
                                              omega)
    subst hn
    rw [hv, itoa_nat]
    exact ⟨by omega, by omega, decDigits_dig u, by omega, rfl⟩

/-- What the model's reading with a sign gives. -/
def sps (l : List UInt8) : Int × Bool :=
  if l.head? = some 45 then
    (if (sp l.tail).2 = true ∧ (sp l.tail).1 ≤ 1000000000 ∧ (sp l.tail).1 ≠ 0 then (-(sp l.tail).1, true) else (0, false))
  else
    (if (sp l).2 = true ∧ (sp l).1 ≤ 1000000000 then ((sp l).1, true) else (0, false))

theorem itoa_neg' {n : Int} (h : n < 0) : itoa n = 45 :: decDigits n.natAbs := by unfold itoa; rw [if_pos h]
theorem itoa_pos' {n : Int} (h : ¬ n < 0) : itoa n = decDigits n.toNat := by unfold itoa; rw [if_neg h]

theorem dig_head {u : Nat} : (decDigits u).head? ≠ some 45 := by
  obtain ⟨b, r, e, hb⟩ := head_dec u
  rw [e]
  intro h
  simp only [List.head?_cons, Option.some.injEq] at h
  subst h
  unfold isDig at hb
  have : (45 : UInt8).toNat = 45 := rfl
  omega

theorem sps_eq (l : List UInt8) : sps l = pr (-1000000000) 1000000000 l := by
  unfold sps
  rw [sp_eq, sp_eq]
  split
  · rename_i hh
    obtain ⟨r, rfl⟩ : ∃ r, l = 45 :: r := by
      cases l with
      | nil => simp at hh
      | cons b r => simp at hh; exact ⟨r, by rw [hh]⟩
    have ht : (45 :: r).tail = r := rfl
    rw [ht]
    by_cases hc : (pr 0 1000000000000 r).2 = true ∧ (pr 0 1000000000000 r).1 ≤ 1000000000 ∧ (pr 0 1000000000000 r).1 ≠ 0
    · rw [if_pos hc]
      obtain ⟨c1, c2, c3⟩ := hc
      obtain ⟨e1, e2, e3⟩ := pr_true c1
      refine (pr_yes ?_ (by omega) (by omega) (by omega) (by omega)).symm
      rw [itoa_neg' (by omega)]
      rw [itoa_pos' (by omega)] at e1
      rw [← e1]
      congr 2
      rw [e1]
      omega
    · rw [if_neg hc]
      refine (pr_no fun n hn h0 h1 => hc ?_).symm
      by_cases hneg : n < 0
      · rw [itoa_neg' hneg] at hn
        injection hn with _ hn
        have hy : pr 0 1000000000000 r = ((n.natAbs : Int), true) := pr_yes (by rw [itoa_nat, hn]) (by omega) (by omega) (by omega) (by omega)
        rw [hy]
        exact ⟨rfl, by show (n.natAbs : Int) ≤ 1000000000; omega, by show (n.natAbs : Int) ≠ 0; omega⟩
      · rw [itoa_pos' hneg] at hn
        exact absurd (by rw [hn]; rfl) (dig_head (u := n.toNat))
  · rename_i hh
    by_cases hc : (pr 0 1000000000000 l).2 = true ∧ (pr 0 1000000000000 l).1 ≤ 1000000000
    · rw [if_pos hc]
      obtain ⟨c1, c2⟩ := hc
      obtain ⟨e1, e2, e3⟩ := pr_true c1
      exact (pr_yes e1 (by omega) (by omega) (by omega) (by omega)).symm
    · rw [if_neg hc]
      refine (pr_no fun n hn h0 h1 => hc ?_).symm
      by_cases hneg : n < 0
      · rw [itoa_neg' hneg] at hn
        exact absurd (by rw [← hn]; rfl) hh
      · have hy : pr 0 1000000000000 l = (n, true) := pr_yes hn (by omega) (by omega) (by omega) (by omega)
        rw [hy]
        exact ⟨rfl, by show n ≤ 1000000000; omega⟩

end Go.Proofs.YtakdbfifbkngnaaDoor.dec

/-
  Lexing, without the program: names, strings, marks, tokens, and the way from one place of a source to the next.
  Conditions: those that each theorem names.
-/
namespace Go.Proofs.YtakdbfifbkngnaaDoor.lex
set_option linter.unusedVariables false

abbrev tx (l : List UInt8) : ByteArray := ⟨l.toArray⟩
theorem tx_list (l : List UInt8) : (tx l).data.toList = l := by simp []
theorem tx_size (l : List UInt8) : (tx l).size = l.length := by simp [ByteArray.size]
theorem tx_of (s : ByteArray) : tx s.data.toList = s := by cases s; simp [tx]

/-- A letter of names, by its number. -/
def isLn (n : Nat) : Bool := decide (97 ≤ n) && decide (n ≤ 122) || decide (65 ≤ n) && decide (n ≤ 90) || decide (n = 95)
def isDn (n : Nat) : Bool := decide (48 ≤ n) && decide (n ≤ 57)
def isPn (n : Nat) : Bool := isLn n || isDn n
theorem isLn_iff {n : Nat} : isLn n = true ↔ (97 ≤ n ∧ n ≤ 122) ∨ (65 ≤ n ∧ n ≤ 90) ∨ n = 95 := by unfold isLn; simp [or_assoc]
theorem isLn_no {n : Nat} : isLn n = false ↔ ¬ ((97 ≤ n ∧ n ≤ 122) ∨ (65 ≤ n ∧ n ≤ 90) ∨ n = 95) := by rw [← isLn_iff]; simp
theorem isDn_iff {n : Nat} : isDn n = true ↔ 48 ≤ n ∧ n ≤ 57 := by unfold isDn; simp
theorem isDn_no {n : Nat} : isDn n = false ↔ ¬ (48 ≤ n ∧ n ≤ 57) := by rw [← isDn_iff]; simp
theorem isLn_hi {n : Nat} (h : 128 ≤ n) : isLn n = false := isLn_no.2 (by omega)
theorem isDn_hi {n : Nat} (h : 128 ≤ n) : isDn n = false := isDn_no.2 (by omega)
theorem isPn_hi {n : Nat} (h : 128 ≤ n) : isPn n = false := by unfold isPn; rw [isLn_hi h, isDn_hi h]; rfl

/-- How many parts of a name stand at the front; how long the name there is. -/
def partLen : List UInt8 → Nat
  | [] => 0
  | b :: l => if isPn b.toNat then partLen l + 1 else 0
def nameLen : List UInt8 → Nat
  | [] => 0
  | b :: l => if isLn b.toNat then partLen l + 1 else 0
theorem partLen_le : ∀ l : List UInt8, partLen l ≤ l.length
  | [] => Nat.le_refl _
  | b :: l => by
    rw [partLen]
    split
    · have := partLen_le l; simp; omega
    · simp
theorem nameLen_le : ∀ l : List UInt8, nameLen l ≤ l.length
  | [] => Nat.le_refl _
  | b :: l => by
    rw [nameLen]
    split
    · have := partLen_le l; simp; omega
    · simp
theorem partLen_yes {b : UInt8} {l : List UInt8} (h : isPn b.toNat = true) : partLen (b :: l) = partLen l + 1 := by rw [partLen, if_pos h]
theorem partLen_no {b : UInt8} {l : List UInt8} (h : isPn b.toNat = false) : partLen (b :: l) = 0 := by rw [partLen, if_neg (by simp [h])]
theorem nameLen_yes {b : UInt8} {l : List UInt8} (h : isLn b.toNat = true) : nameLen (b :: l) = partLen (b :: l) := by rw [nameLen, if_pos h, partLen_yes (by unfold isPn; rw [h]; rfl)]
theorem nameLen_yes' {b : UInt8} {l : List UInt8} (h : isLn b.toNat = true) : nameLen (b :: l) = partLen l + 1 := by rw [nameLen, if_pos h]
theorem nameLen_no {b : UInt8} {l : List UInt8} (h : isLn b.toNat = false) : nameLen (b :: l) = 0 := by rw [nameLen, if_neg (by simp [h])]
/-- A name of 1 to 20 bytes. -/
def nameB (s : ByteArray) : Bool := decide (1 ≤ s.size) && decide (s.size ≤ 20) && decide (nameLen s.data.toList = s.size)

/-- How many bytes stand ahead of a text. -/
def upto (p : List UInt8) : List UInt8 → Nat
  | [] => 0
  | b :: l => if p.isPrefixOf (b :: l) then 0 else upto p l + 1
theorem upto_le (p : List UInt8) : ∀ l : List UInt8, upto p l ≤ l.length
  | [] => Nat.le_refl _
  | b :: l => by
    rw [upto]
    split
    · simp
    · have := upto_le p l; simp; omega
theorem upto_yes {p : List UInt8} {b : UInt8} {l : List UInt8} (h : p.isPrefixOf (b :: l) = true) : upto p (b :: l) = 0 := by rw [upto, if_pos h]
theorem upto_no {p : List UInt8} {b : UInt8} {l : List UInt8} (h : p.isPrefixOf (b :: l) = false) : upto p (b :: l) = upto p l + 1 := by rw [upto, if_neg (by simp [h])]
theorem upto_index (a : UInt8) (p : List UInt8) : ∀ l : List UInt8, (Lib.index l (a :: p) = -1 ∧ upto (a :: p) l = l.length) ∨ (Lib.index l (a :: p) = (upto (a :: p) l : Int) ∧ upto (a :: p) l < l.length)
  | [] => .inl ⟨rfl, rfl⟩
  | b :: l => by
    by_cases h : (a :: p).isPrefixOf (b :: l) = true
    · refine .inr ⟨?_, ?_⟩
      · rw [Lib.index, if_pos h, upto_yes h]; rfl
      · rw [upto_yes h]; simp
    · have h' : (a :: p).isPrefixOf (b :: l) = false := Bool.eq_false_iff.2 h
      rw [upto_no h', Lib.index, if_neg h]
      rcases upto_index a p l with ⟨h1, h2⟩ | ⟨h1, h2⟩
      · refine .inl ⟨by rw [h1]; rfl, by rw [h2]; rfl⟩
      · refine .inr ⟨?_, by simp; omega⟩
        rw [h1, if_neg]
        · simp
        · rw [beq_iff_eq]; omega
/-- What strings.Cut gives, by 'upto'. -/
theorem cut_upto (a : UInt8) (p l : List UInt8) : (Lib.cut l (a :: p)).1 = l.take (upto (a :: p) l) ∧ (Lib.cut l (a :: p)).2.2 = decide (upto (a :: p) l < l.length) := by
  unfold Lib.cut
  rcases upto_index a p l with ⟨h1, h2⟩ | ⟨h1, h2⟩
  · rw [h1, if_neg (by omega), h2]; simp
  · rw [h1, if_pos (by omega)]; simp [h2]
theorem upto_at (p : List UInt8) : ∀ (l : List UInt8), upto p l < l.length → p.isPrefixOf (l.drop (upto p l)) = true
  | [], h => by simp [upto] at h
  | b :: l, h => by
    by_cases hp : p.isPrefixOf (b :: l) = true
    · rw [upto_yes hp]; exact hp
    · have hp' : p.isPrefixOf (b :: l) = false := Bool.eq_false_iff.2 hp
      rw [upto_no hp'] at h ⊢
      rw [List.drop_succ_cons]
      exact upto_at p l (by simpa using h)

/-- How long the comment at the front is. -/
def cmt : List UInt8 → Nat
  | [] => 0
  | b :: l => if (b == 10) || [63, 62].isPrefixOf (b :: l) then 0 else cmt l + 1
theorem cmt_le : ∀ l : List UInt8, cmt l ≤ l.length
  | [] => Nat.le_refl _
  | b :: l => by
    rw [cmt]
    split
    · simp
    · have := cmt_le l; simp; omega
theorem cmt_eq : ∀ l : List UInt8, upto [63, 62] (l.take (upto [10] l)) = cmt l
  | [] => rfl
  | b :: l => by
    by_cases h : b = 10
    · subst h
      rw [upto_yes (p := [10]) (by simp [List.isPrefixOf])]
      rfl
    · have h' : [(10 : UInt8)].isPrefixOf (b :: l) = false := by simp [List.isPrefixOf]; exact fun e => h e.symm
      have hb : (b == 10) = false := by simpa using h
      rw [upto_no h', List.take_succ_cons]
      have hp : [(63 : UInt8), 62].isPrefixOf (b :: l.take (upto [10] l)) = [63, 62].isPrefixOf (b :: l) := by
        cases l with
        | nil => rfl
        | cons c r =>
          by_cases hc : c = 10
          · subst hc
            rw [upto_yes (p := [10]) (by simp [List.isPrefixOf])]
            simp [List.isPrefixOf]
          · have hc' : [(10 : UInt8)].isPrefixOf (c :: r) = false := by simp [List.isPrefixOf]; exact fun e => hc e.symm
            rw [upto_no hc', List.take_succ_cons]
            simp [List.isPrefixOf]
      rw [cmt, hb, Bool.false_or]
      by_cases hq : [(63 : UInt8), 62].isPrefixOf (b :: l) = true
      · rw [if_pos hq, upto_yes (hp.trans hq)]
      · have hq' : [(63 : UInt8), 62].isPrefixOf (b :: l) = false := Bool.eq_false_iff.2 hq
        rw [if_neg hq, upto_no (hp.trans hq'), cmt_eq l]

/-- The bytes that separate tokens. -/
def spB (b : UInt8) : Bool := [32, 9, 10, 13].contains b
def spc : List UInt8 → Nat
  | [] => 0
  | b :: l => if spB b then spc l + 1 else 0
theorem spc_le : ∀ l : List UInt8, spc l ≤ l.length
  | [] => Nat.le_refl _
  | b :: l => by
    rw [spc]
    split
    · have := spc_le l; simp; omega
    · simp
theorem spc_trim : ∀ l : List UInt8, Lib.trimLeftS l [32, 9, 10, 13] = l.drop (spc l)
  | [] => rfl
  | b :: l => by
    unfold Lib.trimLeftS
    rw [List.dropWhile_cons, spc]
    by_cases h : spB b = true
    · rw [if_pos h, List.drop_succ_cons]; exact (if_pos h).trans (spc_trim l)
    · rw [if_neg h]; exact if_neg h
theorem spc_at {b : UInt8} {l r : List UInt8} (h : l.drop (spc l) = b :: r) : spB b = false := by
  induction l with
  | nil => simp [spc] at h
  | cons c l ih =>
    rw [spc] at h
    by_cases hc : spB c = true
    · rw [if_pos hc, List.drop_succ_cons] at h; exact ih h
    · rw [if_neg hc] at h
      simp at h
      obtain ⟨rfl, rfl⟩ := h
      simpa using hc

/-- What a string says, and where it ends, behind its first mark. -/
def str : List UInt8 → Option (List UInt8 × Nat)
  | [] => none
  | b :: l =>
    if b = 39 then some ([], 1)
    else match l with
      | [] => none
      | c :: r => if b = 92 ∧ (c = 39 ∨ c = 92) then (str r).map fun x => (c :: x.1, x.2 + 2) else (str (c :: r)).map fun x => (b :: x.1, x.2 + 1)
def pre (a : List UInt8) (n : Nat) (o : Option (List UInt8 × Nat)) : Option (List UInt8 × Nat) := o.map fun x => (a ++ x.1, n + x.2)
theorem pre_nil (o) : pre [] 0 o = o := by cases o <;> simp [pre]
theorem pre_pre (a b : List UInt8) (n m : Nat) (o) : pre a n (pre b m o) = pre (a ++ b) (n + m) o := by cases o <;> simp [pre, Nat.add_assoc]
/-- One piece of a string. -/
theorem str_quote (l : List UInt8) : str (39 :: l) = some ([], 1) := by rw [str.eq_def]; simp
theorem str_nil : str [] = none := rfl
theorem str_esc {c : UInt8} {r : List UInt8} (h : c = 39 ∨ c = 92) : str (92 :: c :: r) = pre [c] 2 (str r) := by
  rw [str.eq_def]
  simp only [show ((92 : UInt8) = 39) = False by decide, if_false, h, and_self, if_true, pre]
  cases str r <;> simp [Nat.add_comm]
theorem str_byte {b : UInt8} {l : List UInt8} (hq : b ≠ 39) (h : ¬ (b = 92 ∧ ∃ c r, l = c :: r ∧ (c = 39 ∨ c = 92))) : str (b :: l) = pre [b] 1 (str l) := by
  rw [str.eq_def]
  simp only [hq, if_false]
  cases l with
  | nil => simp [str, pre]
  | cons c r =>
    have : ¬ (b = 92 ∧ (c = 39 ∨ c = 92)) := fun hh => h ⟨hh.1, c, r, rfl, hh.2⟩
    simp only [this, if_false, pre]
    cases str (c :: r) <;> simp [Nat.add_comm]
theorem str_len : ∀ (n : Nat) (l : List UInt8), l.length ≤ n → ∀ t k, str l = some (t, k) → k ≤ l.length ∧ 1 ≤ k ∧ t.length < k
  | 0, [], _, t, k, h => by simp [str] at h
  | n + 1, l, hl, t, k, h => by
    cases l with
    | nil => simp [str] at h
    | cons b l =>
      by_cases hb : b = 39
      · subst hb; rw [str_quote] at h; cases h; simp
      · by_cases he : b = 92 ∧ ∃ c r, l = c :: r ∧ (c = 39 ∨ c = 92)
        · obtain ⟨rfl, c, r, rfl, hc⟩ := he
          rw [str_esc hc] at h
          cases hr : str r with
          | none => rw [hr] at h; simp [pre] at h
          | some x =>
            rw [hr] at h
            simp [pre] at h
            obtain ⟨rfl, rfl⟩ := h
            have := str_len n r (by simp at hl; omega) x.1 x.2 hr
            simp; omega
        · rw [str_byte hb he] at h
          cases hr : str l with
          | none => rw [hr] at h; simp [pre] at h
          | some x =>
            rw [hr] at h
            simp [pre] at h
            obtain ⟨rfl, rfl⟩ := h
            have := str_len n l (by simp at hl; omega) x.1 x.2 hr
            simp; omega

/-- The marks, in their order; the mark at the front. -/
def marks : List (List UInt8) := [[61, 61, 61], [33, 61, 61], [60, 61, 62], [61, 61], [33, 61], [60, 61], [62, 61], [61, 62], [45, 62], [58, 58], [38, 38], [124, 124], [63, 63],
  [43], [45], [42], [47], [37], [46], [61], [33], [60], [62], [40], [41], [91], [93], [123], [125], [44], [59], [63], [58], [38]]
def mark (l : List UInt8) : List UInt8 := (marks.find? fun m => m.isPrefixOf l).getD []
theorem mark_len (l : List UInt8) : (mark l).length ≤ 3 := by
  unfold mark
  cases h : marks.find? (fun m => m.isPrefixOf l) with
  | none => simp
  | some m =>
    have hm := List.mem_of_find?_eq_some h
    have : ∀ m ∈ marks, m.length ≤ 3 := by decide
    exact this m hm
theorem mark_pre (l : List UInt8) : (mark l).isPrefixOf l = true := by
  unfold mark
  cases h : marks.find? (fun m => m.isPrefixOf l) with
  | none => simp []
  | some m => simpa using List.find?_some h

/-- What a token's reading gives. -/
inductive TR where
  | bad (c : Nat)
  | good (k : Nat) (n : Int) (t : List UInt8) (z : Nat)
def tokR : List UInt8 → TR
  | [] => .bad 2
  | b :: l =>
    if b = 36 then (if nameLen l = 0 then .bad 2 else .good 2 0 (l.take (nameLen l)) (nameLen l + 1))
    else if isLn b.toNat then .good 3 0 ((b :: l).take (nameLen (b :: l))) (nameLen (b :: l))
    else if isDn b.toNat then (if (dec.pr (-1000000000) 1000000000 (lead.ld (b :: l))).2 then .good 4 (dec.pr (-1000000000) 1000000000 (lead.ld (b :: l))).1 [] (lead.ld (b :: l)).length else .bad 4)
    else if b = 39 then (match str l with | some (t, k) => if t.length ≤ 400 then .good 5 0 t (k + 1) else .bad 3 | none => .bad 3)
    else if mark (b :: l) = [] then .bad 2 else .good 6 0 (mark (b :: l)) (mark (b :: l)).length

/-- A token. -/
structure Tk where
  kind : Int
  num : Int
  text : ByteArray
  at_ : Int

/-- A step of the lexer: from a place, in code or not. -/
inductive SR where
  | bad (c : Nat)
  | go (ts : List Tk) (c : Bool) (p : Nat)
def inlT (k p : Nat) (l : List UInt8) : List Tk := if k = 0 then [] else [⟨1, 0, tx (l.take k), p⟩]
def stp (L : List UInt8) (c : Bool) (p : Nat) : SR :=
  if c = false then
    (if p + upto [60, 63] (L.drop p) < L.length then
      (if [60, 63, 61].isPrefixOf (L.drop (p + upto [60, 63] (L.drop p))) then .go (inlT (upto [60, 63] (L.drop p)) p (L.drop p) ++ [⟨3, 0, tx [101, 99, 104, 111], ((p + upto [60, 63] (L.drop p) : Nat) : Int)⟩]) true (p + upto [60, 63] (L.drop p) + 3)
       else .go (inlT (upto [60, 63] (L.drop p)) p (L.drop p)) true (p + upto [60, 63] (L.drop p) + 2))
     else .go (inlT (upto [60, 63] (L.drop p)) p (L.drop p)) false (p + upto [60, 63] (L.drop p) + 2))
  else if [63, 62].isPrefixOf (L.drop p) then .go [⟨6, 0, tx [59], p⟩] false (p + 2 + if [10].isPrefixOf (L.drop (p + 2)) then 1 else 0)
  else if [47, 47].isPrefixOf (L.drop p) then .go [] true (p + cmt (L.drop p))
  else if spc (L.drop p) ≠ 0 then .go [] true (p + 1)
  else match tokR (L.drop p) with
    | .bad c => .bad c
    | .good k n t z => .go [⟨k, n, tx t, p⟩] true (p + z)

/-- What lexing gives. -/
inductive R where
  | ok (ts : List Tk)
  | bad (c p : Nat)
def R.push (a : List Tk) : R → R
  | .ok ts => .ok (a ++ ts)
  | .bad c p => .bad c p
theorem R.push_nil (r : R) : r.push [] = r := by cases r <;> rfl
theorem R.push_push (a b : List Tk) (r : R) : (r.push b).push a = r.push (a ++ b) := by cases r <;> simp [R.push]

inductive Lx (L : List UInt8) : Bool → Nat → R → Prop
  | fin {c p} : L.length ≤ p → Lx L c p (.ok [])
  | bad {c p k} : p < L.length → stp L c p = .bad k → Lx L c p (.bad k p)
  | go {c p ts c' p' r} : p < L.length → stp L c p = .go ts c' p' → Lx L c' p' r → Lx L c p (r.push ts)
theorem Lx.det {L : List UInt8} {c : Bool} {p : Nat} {r r' : R} (h : Lx L c p r) : Lx L c p r' → r = r' := by
  induction h generalizing r' with
  | fin hp => intro h'; cases h' with
    | fin => rfl
    | bad h1 => omega
    | go h1 => omega
  | bad hp hs => intro h'; cases h' with
    | fin h1 => omega
    | bad h1 h2 => rw [hs] at h2; cases h2; rfl
    | go h1 h2 => rw [hs] at h2; cases h2
  | go hp hs hr ih => intro h'; cases h' with
    | fin h1 => omega
    | bad h1 h2 => rw [hs] at h2; cases h2
    | go h1 h2 h3 => rw [hs] at h2; cases h2; rw [ih h3]

/-- What has been read so far: the rest gives the whole. -/
def Sofar (L : List UInt8) (c : Bool) (p : Nat) (out : List Tk) : Prop := out.length ≤ p ∧ ∀ r, Lx L c p r → Lx L false 0 (r.push out)
theorem Sofar.start (L : List UInt8) : Sofar L false 0 [] := ⟨Nat.le_refl _, fun r h => by rw [R.push_nil]; exact h⟩
theorem Sofar.step {L : List UInt8} {c c' : Bool} {p p' : Nat} {out ts : List Tk} (h : Sofar L c p out) (hp : p < L.length) (hs : stp L c p = .go ts c' p') (hl : p + ts.length ≤ p') : Sofar L c' p' (out ++ ts) :=
  ⟨by rw [List.length_append]; have := h.1; omega, fun r hr => by rw [← R.push_push]; exact h.2 _ (.go hp hs hr)⟩
theorem Sofar.end_ {L : List UInt8} {c : Bool} {p : Nat} {out : List Tk} (h : Sofar L c p out) (hp : L.length ≤ p) : Lx L false 0 (.ok out) := by
  have := h.2 _ (.fin hp)
  simpa [R.push] using this
theorem Sofar.fail {L : List UInt8} {c : Bool} {p k : Nat} {out : List Tk} (h : Sofar L c p out) (hp : p < L.length) (hs : stp L c p = .bad k) : Lx L false 0 (.bad k p) := h.2 _ (.bad hp hs)

theorem inlT_len (k p : Nat) (l : List UInt8) : (inlT k p l).length ≤ 1 ∧ (inlT k p l).length ≤ k := by
  unfold inlT
  split
  · simp
  · simp; omega
theorem tokR_pos {l : List UInt8} {k z : Nat} {n : Int} {t : List UInt8} (h : tokR l = .good k n t z) : 1 ≤ z ∧ z ≤ l.length := by
  cases l with
  | nil => simp [tokR] at h
  | cons b l =>
    rw [tokR] at h
    split at h
    · split at h
      · cases h
      · cases h; have := nameLen_le l; simp; omega
    · split at h
      · rename_i h1 h2
        cases h
        have := nameLen_le (b :: l)
        rw [nameLen_yes' h2] at this ⊢
        exact ⟨by omega, this⟩
      · split at h
        · rename_i h3
          split at h
          · cases h
            have hd : lead.dg b = true := h3
            have := lead.ld_len (b :: l)
            rw [lead.ld_yes hd] at this ⊢
            exact ⟨by simp, this⟩
          · cases h
        · split at h
          · split at h
            · rename_i t' k' hs
              split at h
              · cases h
                have := str_len l.length l (Nat.le_refl _) _ _ hs
                simp; omega
              · cases h
            · cases h
          · split at h
            · cases h
            · rename_i hm
              cases h
              have h1 := mark_pre (b :: l)
              have h2 := (List.isPrefixOf_iff_prefix.1 h1).length_le
              exact ⟨Nat.pos_of_ne_zero (by simpa using hm), h2⟩

end Go.Proofs.YtakdbfifbkngnaaDoor.lex

/-
  A strings.Builder that the call itself has made: what writing a byte, writing a text and reading it out do, and how it is kept while memory grows.
  Conditions: what it holds and what is written have together at most 2^47 bytes.
-/
namespace Go.Proofs.YtakdbfifbkngnaaDoor.bld
open Go.RowKit
set_option linter.unusedVariables false

theorem u8row : (Tryd.prog.info? 5).map (fun i => (i.zero, i.size, i.bytes)) = some (some (.int .u8 0), 1, 1) := by kernel_rfl
theorem brow : (Tryd.prog.info? 45).map (·.size) = some 2 := by kernel_rfl
theorem blies : liesAt Tryd.prog Tryd.prog.depth 45 (2 / Tryd.prog.cellsOf 45) 0 45 1 = true := by kernel_rfl

/-- The builder in block b holds the bytes l; all of it lies from B on. -/
def Bl (B b : Nat) (l : List UInt8) (w : World) : Prop := Lib.IsBuilder 45 5 B b (Lib.byteCells l) w

theorem at_below {B b : Nat} {p : Value} {bs : List Value} {w w' : World} (h : Lib.BuilderAt 45 5 B b p bs w) (hb : Below w.heap.size w w') : Lib.BuilderAt 45 5 B b p bs w' := by
  have hlt := h.lt
  obtain ⟨hB, v, hk, hown, hne⟩ := h
  refine ⟨hB, v, (hb.block b hlt).trans hk, hown.kept (row := none) ⟨hb.os, hb.tape, hb.output, hb.size, fun k hk _ => hb.block k hk⟩ ?_, hne⟩
  cases e : v.ownBlock with
  | none => exact .inl rfl
  | some k => exact .inr (fun h => by cases h)
theorem Bl.below {B b : Nat} {l : List UInt8} {w w' : World} (h : Bl B b l w) (hb : Below w.heap.size w w') : Bl B b l w' :=
  h.elim (fun x => .inl (at_below x hb)) (fun x => .inr (at_below x hb))
theorem Bl.lo {B b : Nat} {l : List UInt8} {w : World} (h : Bl B b l w) : B ≤ b ∧ b < w.heap.size :=
  h.elim (fun x => ⟨x.1, x.lt⟩) (fun x => ⟨x.1, x.lt⟩)
theorem new_ (w : World) : Bl w.heap.size w.heap.size [] (w.alloc (.cells #[.pointer none, .slice none 0 0] 45)) :=
  .inl ⟨Nat.le_refl _, .slice none 0 0, heap_alloc_new w _, World.ownsRow_nil _ _ _ 1, by simp [Value.ownBlock]⟩

set_option maxHeartbeats 1000000 in
set_option maxRecDepth 100000 in
theorem check (B b : Nat) (bs : List Value) (w : World) (h : Lib.IsBuilder 45 5 B b bs w) :
    Calls Tryd.prog 38 #[.pointer (some ⟨b, 0, none⟩)] w fun e w' => e = .returned (.tuple #[]) ∧ Lib.BuilderAt 45 5 B b (.pointer (some ⟨b, 0, none⟩)) bs w' ∧ Below B w w' := by
  obtain ⟨j, hj, hjs⟩ := Option.map_eq_some_iff.1 brow
  rcases h with h | h
  · have h0 := h.cell0; have hsh := h.shape; have hfz := h.frozen0
    have HP := Lib.hid h; clear h
    have hto := Lib.run_to_unsafe (P := Tryd.prog) w ⟨b, 0, none⟩ Tryd.underlying43 Tryd.underlying65 hj (by rw [hjs]; decide) hsh (Nat.zero_lt_succ 1)
    have hfrom := Lib.run_from_unsafe (P := Tryd.prog) w ⟨b, 0, none⟩ Tryd.underlying65 Tryd.underlying43 hj hsh blies
    go_enter Tryd.func38, Tryd.ntmps38
    go_wp2
    rw [run_callFunc_extern Tryd.func43 (by kernel_rfl) (by kernel_rfl) (by kernel_rfl) (e := Extern.AbiNoEscape.same) (by kernel_rfl)]
    rw [Lib.run_noEscape]
    simp only [Result.andThen]
    rw [Oper.upon_value]
    go_wp2
    go_end0
    exact ⟨rfl, HP.out.used _, (Below.refl B w).setCell (p := ⟨b, 0, none⟩) HP.out.1 _⟩
  · have h0 := h.cell0
    have HP := Lib.hid h; clear h
    go_enter Tryd.func38, Tryd.ntmps38
    go_wp2
    rw [Lib.run_neq_ptr_same w _ Tryd.underlying43 hj]
    go_wp2
    go_end0
    exact ⟨rfl, HP.out, Below.refl B _⟩

theorem cells_snoc (l : List UInt8) (c : UInt8) : Lib.byteCells l ++ [.int .u8 c.toNat] = Lib.byteCells (l ++ [c]) := by rw [Lib.byteCells_append]; rfl

set_option maxHeartbeats 2000000 in
set_option maxRecDepth 100000 in
theorem wByte (B b : Nat) (l : List UInt8) (c : UInt8) (w : World) (h : Bl B b l w) (hlen : l.length + 1 ≤ 140737488355328) (hBw : B ≤ w.heap.size) :
    Calls Tryd.prog 35 #[.pointer (some ⟨b, 0, none⟩), .int .u8 c.toNat] w fun e w' => e = .returned .nilIface ∧ Bl B b (l ++ [c]) w' ∧ Below B w w' := by
  obtain ⟨i0, hi, hz0, hz1, hz2⟩ := info_parts u8row
  obtain ⟨x, hx⟩ : ∃ x : Int, x = c.toNat := ⟨_, rfl⟩
  have hcs := cells_snoc l c
  rw [← hx] at hcs ⊢
  have HX := Lib.hid hx; have HC := Lib.hid hcs; clear hx hcs
  have hl1 : (Lib.byteCells l).length = l.length := Lib.byteCells_length l
  go_enter Tryd.func35, Tryd.ntmps35
  go_wp2_with (fail)
  refine (check B b _ _ h).mono ?_
  rintro e w1 ⟨rfl, h1, hb1⟩
  obtain ⟨hB, v, hbk, hown, hne⟩ := h1
  have c0 : w1.cell? ⟨b, 0, none⟩ = some (.pointer (some ⟨b, 0, none⟩)) := by rw [Lib.cell_of_heap hbk]; rfl
  have c1 : w1.cell? ⟨b, 1, none⟩ = some v := by rw [Lib.cell_of_heap hbk]; rfl
  go_wp2_with (at_builtin; refine wpList_append_own _ rfl _ _ 39 rfl B 5 i0 (.int .u8 0) 1 1 Tryd.underlying39 hi hz0 hz1 hz2 rfl (by decide) _ _ _ rfl (hown.alloc _) ⟨w1.heap.size, 0, none⟩ 1 1 [.int .u8 x] rfl rfl ?c1 ?c2 ?c3 ?c4 ?c5 ?_)
  case c1 =>
    intro j u hj
    match j, hj with
    | 0, hj => simp at hj; subst hj; simp [Addr.add]
  case c2 => intro u hu; simp at hu; subst hu; rfl
  case c3 => unfold maxLen; omega
  case c4 => omega
  case c5 => have := hb1.size; simp; omega
  intro v' w2 hown' hgrow _
  have hlt : b < w1.heap.size := by
    rcases Nat.lt_or_ge b w1.heap.size with h' | h'
    · exact h'
    · simp [Array.getElem?_eq_none h'] at hbk
  have hb2 : w2.heap[b]? = some (.cells #[.pointer (some ⟨b, 0, none⟩), v] 45 (0, 0)) := by
    rw [hgrow.block b (by simp; omega) (fun e => hne e.symm), Lib.alloc_old w1 _ b hlt]
    exact hbk
  have d0 : w2.cell? ⟨b, 0, none⟩ = some (.pointer (some ⟨b, 0, none⟩)) := by rw [Lib.cell_of_heap hb2]; rfl
  have d1 : w2.cell? ⟨b, 1, none⟩ = some v := by rw [Lib.cell_of_heap hb2]; rfl
  have f1 : w2.frozen? ⟨b, 1, none⟩ = false := Lib.frozen_of_heap hb2 1
  obtain ⟨g, cap, rfl⟩ : ∃ g cap, v' = .slice (some ⟨g, 0, none⟩) (l.length + 1) cap := by
    rcases hown'.2 with ⟨_, h0⟩ | ⟨g, cap, cur, hv, _⟩
    · omega
    · exact ⟨g, cap, hv⟩
  have HO := Lib.hid hown'; have HG := Lib.hid hgrow; have HW := Lib.hid hown; have HB := Lib.hid hb1; have HK := Lib.hid hb2
  clear hown' hgrow hown hb1 hb2
  go_wp2
  go_ret
  refine ⟨rfl, ?_, ?_⟩
  · refine .inr ?_
    rw [← HC.out]
    exact Lib.BuilderAt.put (T := 45) (e := 5) hB HK.out (bs' := Lib.byteCells l ++ [.int .u8 x]) (by rw [List.length_append, hl1]; exact HO.out) (by decide)
  · exact ((HB.out.alloc (by have := HB.out.size; omega) _).grown HG.out (by have := HB.out.size; simp; omega) (fun k hk => (HW.out.lt k hk).1)).setCell (p := ⟨b, 1, none⟩) hB _

set_option maxHeartbeats 2000000 in
set_option maxRecDepth 100000 in
theorem wText (B b : Nat) (l : List UInt8) (s : ByteArray) (w : World) (h : Bl B b l w) (hlen : l.length + s.size ≤ 140737488355328) (hBw : B ≤ w.heap.size) :
    Calls Tryd.prog 34 #[.pointer (some ⟨b, 0, none⟩), .string s] w fun e w' => e = .returned (.tuple #[.int .i64 s.size, .nilIface]) ∧ Bl B b (l ++ s.data.toList) w' ∧ Below B w w' := by
  obtain ⟨i0, hi, hz0, hz1, hz2⟩ := info_parts u8row
  have hcs : Lib.byteCells l ++ Lib.strCells s = Lib.byteCells (l ++ s.data.toList) := by rw [Lib.byteCells_append, Lib.strCells_eq]
  have HC := Lib.hid hcs; clear hcs
  have hl1 : (Lib.byteCells l).length = l.length := Lib.byteCells_length l
  go_enter Tryd.func34, Tryd.ntmps34
  go_wp2_with (fail)
  refine (check B b _ _ h).mono ?_
  rintro e w1 ⟨rfl, h1, hb1⟩
  obtain ⟨hB, v, hbk, hown, hne⟩ := h1
  have c0 : w1.cell? ⟨b, 0, none⟩ = some (.pointer (some ⟨b, 0, none⟩)) := by rw [Lib.cell_of_heap hbk]; rfl
  have c1 : w1.cell? ⟨b, 1, none⟩ = some v := by rw [Lib.cell_of_heap hbk]; rfl
  go_wp2_with (at_builtin; refine Lib.wpList_append_own_string _ rfl _ _ 39 9 rfl B 5 i0 Tryd.underlying39 Tryd.underlying9 hi hz0 hz1 hz2 _ _ _ rfl hown s rfl ?c3 ?c4 ?c5 ?_)
  case c3 => unfold maxLen; omega
  case c4 => omega
  case c5 => have := hb1.size; omega
  intro v' w2 hown' hgrow _
  have hlt : b < w1.heap.size := by
    rcases Nat.lt_or_ge b w1.heap.size with h' | h'
    · exact h'
    · simp [Array.getElem?_eq_none h'] at hbk
  have hb2 : w2.heap[b]? = some (.cells #[.pointer (some ⟨b, 0, none⟩), v] 45 (0, 0)) := by
    rw [hgrow.block b hlt (fun e => hne e.symm)]
    exact hbk
  have d0 : w2.cell? ⟨b, 0, none⟩ = some (.pointer (some ⟨b, 0, none⟩)) := by rw [Lib.cell_of_heap hb2]; rfl
  have d1 : w2.cell? ⟨b, 1, none⟩ = some v := by rw [Lib.cell_of_heap hb2]; rfl
  have f1 : w2.frozen? ⟨b, 1, none⟩ = false := Lib.frozen_of_heap hb2 1
  obtain ⟨ao, n', cap, rfl⟩ : ∃ ao n' cap, v' = .slice ao n' cap := by
    rcases hown'.2 with ⟨hv, _⟩ | ⟨g, cap, cur, hv, _⟩
    · exact ⟨_, _, _, hv⟩
    · exact ⟨_, _, _, hv⟩
  have HO := Lib.hid hown'; have HG := Lib.hid hgrow; have HW := Lib.hid hown; have HB := Lib.hid hb1; have HK := Lib.hid hb2
  clear hown' hgrow hown hb1 hb2
  go_wp2
  go_ret2
  refine ⟨rfl, ?_, ?_⟩
  · refine .inr ?_
    rw [← HC.out]
    exact Lib.BuilderAt.put (T := 45) (e := 5) hB HK.out (bs' := Lib.byteCells l ++ Lib.strCells s) (by rw [List.length_append, hl1, Lib.strCells_length]; exact HO.out) (by decide)
  · exact (HB.out.grown HG.out (by have := HB.out.size; omega) (fun k hk => (HW.out.lt k hk).1)).setCell (p := ⟨b, 1, none⟩) hB _

theorem text (B b : Nat) (l : List UInt8) (w : World) (h : Bl B b l w) (hBw : B ≤ w.heap.size) :
    Calls Tryd.prog 36 #[.pointer (some ⟨b, 0, none⟩)] w fun e w' => e = .returned (.string ⟨l.toArray⟩) ∧ Below B w w' :=
  (Tryd.Builder_String_any B b l w h hBw).mono fun e w' h => ⟨h.1, h.2⟩

end Go.Proofs.YtakdbfifbkngnaaDoor.bld

/-
  Texts as lists of bytes: how they are escaped in each context, how they are read back, and that reading back undoes escaping.
  Conditions: none.
-/
namespace Go.Proofs.YtakdbfifbkngnaaDoor.esc
set_option linter.unusedVariables false

/-- An upper-case hexadecimal digit, and the two of a byte. -/
def dig (n : Nat) : UInt8 := UInt8.ofNat (if n < 10 then 48 + n else 55 + n)
def pair (c : UInt8) : List UInt8 := [dig (c.toNat / 16), dig (c.toNat % 16)]

/-- What stands for a byte; nothing where it stands for itself. -/
def ents : List (UInt8 × List UInt8) := [(38, [38, 97, 109, 112, 59]), (60, [38, 108, 116, 59]), (62, [38, 103, 116, 59]), (34, [38, 113, 117, 111, 116, 59]), (39, [38, 35, 51, 57, 59])]
def ent (c : UInt8) : List UInt8 :=
  if c.toNat = 38 then [38, 97, 109, 112, 59] else if c.toNat = 60 then [38, 108, 116, 59] else if c.toNat = 62 then [38, 103, 116, 59]
  else if c.toNat = 34 then [38, 113, 117, 111, 116, 59] else if c.toNat = 39 then [38, 35, 51, 57, 59] else []
def Plain (n : Nat) : Prop := (65 ≤ n ∧ n ≤ 90) ∨ (97 ≤ n ∧ n ≤ 122) ∨ (48 ≤ n ∧ n ≤ 57) ∨ n = 45 ∨ n = 95 ∨ n = 46 ∨ n = 126
instance (n : Nat) : Decidable (Plain n) := by unfold Plain; infer_instance
def urlQ (c : UInt8) : List UInt8 := if Plain c.toNat then [] else 37 :: pair c
def Bare (n : Nat) : Prop := (32 ≤ n ∧ n ≤ 126) ∧ n ≠ 92 ∧ n ≠ 39 ∧ n ≠ 34 ∧ n ≠ 60 ∧ n ≠ 62 ∧ n ≠ 38
instance (n : Nat) : Decidable (Bare n) := by unfold Bare; infer_instance
def scrQ (c : UInt8) : List UInt8 := if Bare c.toNat then [] else 92 :: 120 :: pair c

def fill (q : UInt8 → List UInt8) (c : UInt8) : List UInt8 := if q c = [] then [c] else q c
def esc (q : UInt8 → List UInt8) (l : List UInt8) : List UInt8 := l.flatMap (fill q)
theorem fill_nil {q : UInt8 → List UInt8} {c : UInt8} (h : q c = []) : fill q c = [c] := if_pos h
theorem fill_not {q : UInt8 → List UInt8} {c : UInt8} (h : q c ≠ []) : fill q c = q c := if_neg h
theorem esc_nil (q) : esc q [] = [] := rfl
theorem esc_cons (q) (c : UInt8) (l : List UInt8) : esc q (c :: l) = fill q c ++ esc q l := by simp [esc]
theorem esc_app (q) (a b : List UInt8) : esc q (a ++ b) = esc q a ++ esc q b := by simp [esc]
theorem esc_one (q) (c : UInt8) : esc q [c] = fill q c := by simp [esc]
theorem esc_step (q) (l : List UInt8) (i : Nat) (h : i < l.length) : esc q (l.take (i + 1)) = esc q (l.take i) ++ fill q (l[i]'h) := by
  rw [List.take_succ_eq_append_getElem h, esc_app, esc_one]
theorem fill_pos (q) (c : UInt8) : 1 ≤ (fill q c).length := by
  unfold fill; split
  · simp
  · rename_i h; exact Nat.pos_of_ne_zero (by simpa using h)
theorem fill_ne (q) (c : UInt8) : fill q c ≠ [] := fun h => by have := fill_pos q c; rw [h] at this; simp at this

/-- At most six bytes stand for one. -/
def Six (q : UInt8 → List UInt8) : Prop := ∀ c, (q c).length ≤ 6
theorem six_ent : Six ent := fun c => by
  have key : ∀ n, n < 256 → (ent (UInt8.ofNat n)).length ≤ 6 := by decide +kernel
  have := key c.toNat c.toNat_lt
  rwa [UInt8.ofNat_toNat] at this
theorem six_url : Six urlQ := fun c => by unfold urlQ pair; split <;> simp
theorem six_scr : Six scrQ := fun c => by unfold scrQ pair; split <;> simp
theorem Six.fill {q} (h : Six q) (c : UInt8) : (fill q c).length ≤ 6 := by
  unfold esc.fill; split
  · simp
  · exact h c
theorem Six.esc {q} (h : Six q) (l : List UInt8) : (esc q l).length ≤ 6 * l.length := by
  induction l with
  | nil => simp [esc_nil]
  | cons c l ih => rw [esc_cons, List.length_append, List.length_cons]; have := h.fill c; omega
theorem Six.take {q} (h : Six q) (l : List UInt8) (i : Nat) : (esc.esc q (l.take i)).length ≤ 6 * i := by
  have := h.esc (l.take i)
  rw [List.length_take] at this
  omega

/-- A hexadecimal digit's value; lower-case ones only where 'small'. -/
def hexv (small : Bool) (c : UInt8) : Option Nat :=
  if 48 ≤ c.toNat ∧ c.toNat ≤ 57 then some (c.toNat - 48) else if 65 ≤ c.toNat ∧ c.toNat ≤ 70 then some (c.toNat - 55)
  else if small = true ∧ 97 ≤ c.toNat ∧ c.toNat ≤ 102 then some (c.toNat - 87) else none
def two (small : Bool) : List UInt8 → Option UInt8
  | a :: b :: _ => (hexv small a).bind fun x => (hexv small b).map fun y => UInt8.ofNat (16 * x + y)
  | _ => none
theorem hexv_lt {s : Bool} {c : UInt8} {x : Nat} (h : hexv s c = some x) : x < 16 := by
  unfold hexv at h
  split at h
  · cases h; omega
  · split at h
    · cases h; omega
    · split at h
      · cases h; omega
      · cases h
theorem hexv_dig (s : Bool) : ∀ k, k < 16 → hexv s (dig k) = some k := by cases s <;> decide
theorem dig_of_hexv {c : UInt8} {x : Nat} (h : hexv false c = some x) : dig x = c := by
  have key : ∀ n, n < 256 → ∀ x, hexv false (UInt8.ofNat n) = some x → dig x = UInt8.ofNat n := by
    have : ∀ n, n < 256 → (hexv false (UInt8.ofNat n)).all (fun x => decide (dig x = UInt8.ofNat n)) = true := by decide +kernel
    intro n hn x hx
    have h2 := this n hn
    rw [hx] at h2
    simpa using h2
  have := key c.toNat c.toNat_lt x (by rw [UInt8.ofNat_toNat]; exact h)
  rwa [UInt8.ofNat_toNat] at this
theorem hexv_small {c : UInt8} {x : Nat} (h : hexv false c = some x) : hexv true c = some x := by
  unfold hexv at h ⊢
  split at h
  · rename_i hc; rw [if_pos hc]; exact h
  · rename_i hc
    rw [if_neg hc]
    split at h
    · rename_i hd; rw [if_pos hd]; exact h
    · simp at h
theorem two_pair (s : Bool) (c : UInt8) (r : List UInt8) : two s (pair c ++ r) = some c := by
  have hc := c.toNat_lt
  show ((hexv s (dig (c.toNat / 16))).bind fun x => (hexv s (dig (c.toNat % 16))).map fun y => UInt8.ofNat (16 * x + y)) = some c
  rw [hexv_dig s _ (by omega), hexv_dig s _ (by omega)]
  show some (UInt8.ofNat (16 * (c.toNat / 16) + c.toNat % 16)) = some c
  rw [show 16 * (c.toNat / 16) + c.toNat % 16 = c.toNat by omega, UInt8.ofNat_toNat]
theorem toNat_join {x y : Nat} (hx : x < 16) (hy : y < 16) : (UInt8.ofNat (16 * x + y)).toNat = 16 * x + y := by
  rw [UInt8.toNat_ofNat']; omega
/-- Upper-case digits alone: the digits of the byte that they give. -/
theorem two_false (l : List UInt8) : two false l = (two true l).bind fun c => if Lib.hasPrefix l (pair c) then some c else none := by
  match l with
  | [] => rfl
  | [a] => rfl
  | a :: b :: r =>
    have hp : ∀ c, Lib.hasPrefix (a :: b :: r) (pair c) = (dig (c.toNat / 16) == a && dig (c.toNat % 16) == b) := fun c => by simp [Lib.hasPrefix, pair, List.isPrefixOf]
    have step : ∀ x y, x < 16 → y < 16 → (UInt8.ofNat (16 * x + y)).toNat / 16 = x ∧ (UInt8.ofNat (16 * x + y)).toNat % 16 = y := fun x y hx hy => by
      rw [toNat_join hx hy]; omega
    show ((hexv false a).bind fun x => (hexv false b).map fun y => UInt8.ofNat (16 * x + y)) = ((hexv true a).bind fun x => (hexv true b).map fun y => UInt8.ofNat (16 * x + y)).bind _
    cases ha : hexv true a with
    | none =>
      cases hf : hexv false a with
      | none => rfl
      | some x => rw [hexv_small hf] at ha; cases ha
    | some x =>
      cases hb : hexv true b with
      | none =>
        cases hf : hexv false b with
        | none => cases hexv false a <;> rfl
        | some y => rw [hexv_small hf] at hb; cases hb
      | some y =>
        have hx := hexv_lt ha
        have hy := hexv_lt hb
        show _ = if Lib.hasPrefix (a :: b :: r) (pair (UInt8.ofNat (16 * x + y))) then some (UInt8.ofNat (16 * x + y)) else none
        rw [hp, (step x y hx hy).1, (step x y hx hy).2]
        cases hfa : hexv false a with
        | none =>
          have : ¬ dig x = a := fun hh => by rw [← hh, hexv_dig false x hx] at hfa; cases hfa
          rw [beq_false_of_ne this]; rfl
        | some x' =>
          obtain rfl : x' = x := Option.some.inj ((hexv_small hfa).symm.trans ha)
          cases hfb : hexv false b with
          | none =>
            have : ¬ dig y = b := fun hh => by rw [← hh, hexv_dig false y hy] at hfb; cases hfb
            rw [beq_false_of_ne this, Bool.and_false]; rfl
          | some y' =>
            obtain rfl : y' = y := Option.some.inj ((hexv_small hfb).symm.trans hb)
            rw [dig_of_hexv hfa, dig_of_hexv hfb, beq_self_eq_true, beq_self_eq_true]; rfl

/-- What stands at the front of a text that is not empty: a byte and how many bytes stand for it. -/
def rdH (l : List UInt8) : Option (UInt8 × Nat) :=
  if (l.headD 0).toNat ≠ 38 then some (l.headD 0, 1) else (ents.find? fun e => Lib.hasPrefix l e.2).map fun e => (e.1, e.2.length)
def rdU (l : List UInt8) : Option (UInt8 × Nat) :=
  if (l.headD 0).toNat = 43 then some (32, 1) else if (l.headD 0).toNat ≠ 37 then some (l.headD 0, 1) else (two true (l.drop 1)).map fun c => (c, 3)
def rdS (l : List UInt8) : Option (UInt8 × Nat) :=
  if (l.headD 0).toNat ≠ 92 then some (l.headD 0, 1) else if ((l.drop 1).headD 0).toNat ≠ 120 then none else (two false (l.drop 2)).map fun c => (c, 4)

/-- A reading takes at least one byte, and no more than there are. -/
def Eats (rd : List UInt8 → Option (UInt8 × Nat)) : Prop := ∀ l c k, l ≠ [] → rd l = some (c, k) → 1 ≤ k ∧ k ≤ l.length
theorem len_of_ne {l : List UInt8} (h : l ≠ []) : 1 ≤ l.length := Nat.pos_of_ne_zero (by simpa using h)
theorem two_len {s : Bool} {l : List UInt8} {c : UInt8} (h : two s l = some c) : 2 ≤ l.length := by
  match l with
  | [] => cases h
  | [_] => cases h
  | _ :: _ :: _ => simp
theorem eats_H : Eats rdH := fun l c k hl h => by
  have h1 := len_of_ne hl
  unfold rdH at h
  split at h
  · cases h; omega
  · obtain ⟨e, he, hk⟩ := Option.map_eq_some_iff.1 h
    have hp := List.find?_some he
    have hm := List.mem_of_find?_eq_some he
    have hle := (List.isPrefixOf_iff_prefix.1 hp).length_le
    cases hk
    refine ⟨?_, hle⟩
    have : ∀ e ∈ ents, 1 ≤ e.2.length := by decide
    exact this e hm
theorem eats_U : Eats rdU := fun l c k hl h => by
  have h1 := len_of_ne hl
  unfold rdU at h
  split at h
  · cases h; omega
  · split at h
    · cases h; omega
    · obtain ⟨e, he, hk⟩ := Option.map_eq_some_iff.1 h
      have := two_len he
      rw [List.length_drop] at this
      cases hk; omega
theorem eats_S : Eats rdS := fun l c k hl h => by
  have h1 := len_of_ne hl
  unfold rdS at h
  split at h
  · cases h; omega
  · split at h
    · cases h
    · obtain ⟨e, he, hk⟩ := Option.map_eq_some_iff.1 h
      have := two_len he
      rw [List.length_drop] at this
      cases hk; omega

/-- The whole text read, piece by piece. -/
def unF (rd : List UInt8 → Option (UInt8 × Nat)) : Nat → List UInt8 → Option (List UInt8)
  | _, [] => some []
  | 0, _ :: _ => none
  | f + 1, c :: r => match rd (c :: r) with
    | none => none
    | some (b, k) => (unF rd f ((c :: r).drop k)).map (b :: ·)
def un (rd : List UInt8 → Option (UInt8 × Nat)) (l : List UInt8) : Option (List UInt8) := unF rd l.length l
theorem unF_fuel {rd} (hE : Eats rd) : ∀ f l, l.length ≤ f → unF rd f l = un rd l := by
  intro f
  induction f using Nat.strongRecOn with
  | _ f ih =>
    intro l hl
    match l, f, hl with
    | [], f, _ => cases f <;> rfl
    | c :: r, 0, hl => simp at hl
    | c :: r, f + 1, hl =>
      rw [un, List.length_cons]
      unfold unF
      cases hr : rd (c :: r) with
      | none => rfl
      | some bk =>
        obtain ⟨b, k⟩ := bk
        obtain ⟨h1, h2⟩ := hE _ b k (by simp) hr
        have hd : ((c :: r).drop k).length ≤ r.length := by rw [List.length_drop, List.length_cons]; omega
        have hr2 : r.length ≤ f := by simpa using hl
        show Option.map _ _ = Option.map _ _
        rw [ih f (by omega) _ (by omega)]
        by_cases hf : r.length < f + 1
        · rw [ih r.length hf _ hd]
        · omega
theorem un_nil (rd) : un rd [] = some [] := rfl
theorem un_none {rd} (hE : Eats rd) {l : List UInt8} (hl : l ≠ []) (h : rd l = none) : un rd l = none := by
  match l, hl with
  | c :: r, _ => rw [un, List.length_cons, unF, h]
theorem un_some {rd} (hE : Eats rd) {l : List UInt8} (hl : l ≠ []) {b : UInt8} {k : Nat} (h : rd l = some (b, k)) : un rd l = (un rd (l.drop k)).map (b :: ·) := by
  match l, hl with
  | c :: r, _ =>
    obtain ⟨h1, h2⟩ := hE _ b k (by simp) h
    rw [un, List.length_cons, unF, h]
    show Option.map _ _ = Option.map _ _
    rw [unF_fuel hE r.length _ (by rw [List.length_drop, List.length_cons]; omega)]
theorem un_len {rd} (hE : Eats rd) : ∀ n l r, l.length ≤ n → un rd l = some r → r.length ≤ l.length := by
  intro n
  induction n with
  | zero => intro l r hl h; obtain rfl : l = [] := by simpa using hl
            cases h; simp
  | succ n ih =>
    intro l r hl h
    by_cases h0 : l = []
    · subst h0; cases h; simp
    · cases hr : rd l with
      | none => rw [un_none hE h0 hr] at h; cases h
      | some bk =>
        obtain ⟨b, k⟩ := bk
        obtain ⟨h1, h2⟩ := hE _ b k h0 hr
        rw [un_some hE h0 hr] at h
        obtain ⟨r', hr', rfl⟩ := Option.map_eq_some_iff.1 h
        have := ih _ r' (by rw [List.length_drop]; omega) hr'
        rw [List.length_drop] at this
        rw [List.length_cons]; omega
/-- In the middle of the text: what has been read stands before what is to come. -/
def pre (a : List UInt8) (o : Option (List UInt8)) : Option (List UInt8) := o.map (a ++ ·)
theorem pre_nil (o) : pre [] o = o := by cases o <;> rfl
theorem pre_none (a) : pre a none = none := rfl
theorem pre_some (a b) : pre a (some b) = some (a ++ b) := rfl
theorem pre_step (a) (b : UInt8) (o) : pre a (o.map (b :: ·)) = pre (a ++ [b]) o := by cases o <;> simp [pre]
theorem mid_some {rd} (hE : Eats rd) {l : List UInt8} {i : Nat} (hi : i < l.length) {a : List UInt8} {b : UInt8} {k : Nat} (h : rd (l.drop i) = some (b, k)) (hm : un rd l = pre a (un rd (l.drop i))) :
    un rd l = pre (a ++ [b]) (un rd (l.drop (i + k))) := by
  have hne : l.drop i ≠ [] := fun hh => by have := congrArg List.length hh; rw [List.length_drop] at this; simp at this; omega
  rw [hm, un_some hE hne h, pre_step, List.drop_drop]
theorem mid_none {rd} (hE : Eats rd) {l : List UInt8} {i : Nat} (hi : i < l.length) {a : List UInt8} (h : rd (l.drop i) = none) (hm : un rd l = pre a (un rd (l.drop i))) : un rd l = none := by
  have hne : l.drop i ≠ [] := fun hh => by have := congrArg List.length hh; rw [List.length_drop] at this; simp at this; omega
  rw [hm, un_none hE hne h]; rfl
theorem mid_end {rd} {l : List UInt8} {i : Nat} (hi : l.length ≤ i) {a : List UInt8} (hm : un rd l = pre a (un rd (l.drop i))) : un rd l = some a := by
  rw [hm, List.drop_of_length_le hi, un_nil, pre_some, List.append_nil]

/-- Reading undoes escaping. -/
def Undoes (rd : List UInt8 → Option (UInt8 × Nat)) (q : UInt8 → List UInt8) : Prop := ∀ c r, rd (fill q c ++ r) = some (c, (fill q c).length)
theorem un_esc {rd q} (hE : Eats rd) (hU : Undoes rd q) (l : List UInt8) : un rd (esc q l) = some l := by
  induction l with
  | nil => rfl
  | cons c l ih =>
    rw [esc_cons, un_some hE (fun h => fill_ne q c (List.append_eq_nil_iff.1 h).1) (hU c _), List.drop_left, ih]
    rfl
theorem undoes_H : Undoes rdH ent := fun c r => by
  by_cases hc : ent c = []
  · rw [fill_nil hc]
    have : c.toNat ≠ 38 := fun hh => by unfold ent at hc; rw [if_pos hh] at hc; cases hc
    show (if c.toNat ≠ 38 then some (c, 1) else _) = some (c, 1)
    rw [if_pos this]
  · rw [fill_not hc]
    have e : ∀ n, c.toNat = n → c = UInt8.ofNat n := fun n h => by rw [← h, UInt8.ofNat_toNat]
    have key : ∀ n, n < 256 → ent (UInt8.ofNat n) ≠ [] → n = 38 ∨ n = 60 ∨ n = 62 ∨ n = 34 ∨ n = 39 := by decide +kernel
    have hk := key c.toNat c.toNat_lt (by rw [UInt8.ofNat_toNat]; exact hc)
    rcases hk with h | h | h | h | h <;> (rw [e _ h]; rfl)
theorem undoes_U : Undoes rdU urlQ := fun c r => by
  by_cases hc : Plain c.toNat
  · have hq : urlQ c = [] := if_pos hc
    rw [fill_nil hq]
    have h1 : c.toNat ≠ 43 := fun hh => by rw [hh] at hc; exact absurd hc (by decide)
    have h2 : c.toNat ≠ 37 := fun hh => by rw [hh] at hc; exact absurd hc (by decide)
    show (if c.toNat = 43 then some (32, 1) else if c.toNat ≠ 37 then some (c, 1) else _) = some (c, 1)
    rw [if_neg h1, if_pos h2]
  · have hq : urlQ c = 37 :: pair c := if_neg hc
    rw [fill_not (by rw [hq]; simp), hq]
    show (two true (pair c ++ r)).map (fun c => (c, 3)) = some (c, 3)
    rw [two_pair]; rfl
theorem undoes_S : Undoes rdS scrQ := fun c r => by
  by_cases hc : Bare c.toNat
  · have hq : scrQ c = [] := if_pos hc
    rw [fill_nil hq]
    have h1 : c.toNat ≠ 92 := fun hh => by rw [hh] at hc; exact absurd hc (by decide)
    show (if c.toNat ≠ 92 then some (c, 1) else _) = some (c, 1)
    rw [if_pos h1]
  · have hq : scrQ c = 92 :: 120 :: pair c := if_neg hc
    rw [fill_not (by rw [hq]; simp), hq]
    show (two false (pair c ++ r)).map (fun c => (c, 4)) = some (c, 4)
    rw [two_pair]; rfl

end Go.Proofs.YtakdbfifbkngnaaDoor.esc

/-
  The project's escaper and unescaper, whatever function they are given: they escape a text byte by byte, and read it back piece by piece.
  Conditions: the text has at most 2^40 bytes; the given function returns what stands for a byte, or what stands at the front of a text, and only makes memory.
-/
namespace Go.Proofs.YtakdbfifbkngnaaDoor.seq
open Go.ChangeShapes Go.WideShapes Go.ChangeAt Go.RowKit
set_option linter.unusedVariables false

abbrev tx (l : List UInt8) : ByteArray := ⟨l.toArray⟩
theorem tx_size (l : List UInt8) : (tx l).size = l.length := rfl
theorem tx_eta (s : ByteArray) : tx s.data.toList = s := Joins.bytes_eta s
theorem tx_empty {l : List UInt8} (h : l ≠ []) : (tx l).toList.isEmpty = false := by
  rw [ByteArray.toList_eq]
  cases l with
  | nil => exact absurd rfl h
  | cons a l => rfl
theorem len_eq (s : ByteArray) : s.data.toList.length = s.size := Array.length_toList

/-- A call that returns a text and only makes memory. -/
def StrQ (w : World) (l : List UInt8) (e : Ending) (w' : World) : Prop := e = .returned (.string (tx l)) ∧ Below w.heap.size w w'

/-- What a function must do to be given to the escaper; E is what it wants of the world. -/
structure Seqs (E : World → Prop) (F : FuncId) (q : UInt8 → List UInt8) : Prop where
  six : esc.Six q
  enters : ∀ args w, (callFunc F args).run Tryd.prog w = .ok (.enter F args) w
  calls : ∀ (c : UInt8) (w : World), E w → Calls Tryd.prog F #[.int .u8 c.toNat] w (StrQ w (q c))
def Stays (E : World → Prop) : Prop := ∀ w w', E w → Below w.heap.size w w' → E w'

set_option maxHeartbeats 1000000 in
theorem escB {E : World → Prop} (hE : Stays E) {F : FuncId} {q : UInt8 → List UInt8} (hF : Seqs E F q) (s : ByteArray) (hs : s.size ≤ 1099511627776) (w : World) (hw : E w) :
    Calls Tryd.prog 26 #[.string s, .func (.func F) #[] #[]] w (StrQ w (esc.esc q s.data.toList)) := by
  have hen := hF.enters
  have HF := Lib.hid hF; have HW := Lib.hid hw; have HE := Lib.hid hE; clear hF hw hE
  go_enter Tryd.func26, Tryd.ntmps26
  go_wp2_with (fail)
  go_loopw [10] (fun i wr => ∃ k : Nat, i = .int .i64 k ∧ k ≤ s.size ∧ Hid (bld.Bl w.heap.size w.heap.size (esc.esc q (s.data.toList.take k)) wr) ∧ Hid (Below w.heap.size w wr)) (fun i _ => s.size - (intOf i).toNat)
  case atStart => exact ⟨0, rfl, by omega, bld.new_ w, (Below.refl _ _).alloc (Nat.le_refl _) _⟩
  case round =>
    obtain ⟨k, rfl, hk, HBl, HB⟩ := hrel
    by_cases hlt : k < s.size
    · obtain ⟨t, ht⟩ : ∃ t, t = tx (q s[k]) := ⟨_, rfl⟩
      have hstep : esc.esc q (s.data.toList.take (k + 1)) = esc.esc q (s.data.toList.take k) ++ esc.fill q s[k] := esc.esc_step q s.data.toList k (by rw [len_eq]; exact hlt)
      have hlen := HF.out.six.take s.data.toList k
      have ht6 : t.size ≤ 6 := by rw [ht, tx_size]; exact HF.out.six _
      have HS := Lib.hid hstep; have HL := Lib.hid hlen; have HT := Lib.hid ht; clear hstep hlen ht
      go_wp2_with (fail)
      refine (HF.out.calls s[k] wr (HE.out _ _ HW.out HB.out)).mono ?_
      rintro e w1 ⟨he, hb1⟩
      rw [← HT.out] at he
      subst he
      have HB1 := Lib.hid (HB.out.trans (hb1.mono HB.out.size)); have HBl1 := Lib.hid (HBl.out.below hb1); clear hb1
      by_cases hq : q s[k] = []
      · have hte : t = ⟨#[]⟩ := by rw [HT.out, hq]
        subst hte
        have HQ := Lib.hid (esc.fill_nil hq); clear hq
        go_wp2_with (fail)
        refine (bld.wByte w.heap.size w.heap.size _ s[k] _ HBl1.out (by have := HL.out; omega) HB1.out.size).mono ?_
        rintro e w2 ⟨rfl, hbl, hb2⟩
        have HB2 := Lib.hid (HB1.out.trans hb2); have HBl2 := Lib.hid hbl; clear hbl hb2
        go_wp2
        go_roundw
        case measure => first | (simp only [RowKit.intOf]; omega) | (have e : ∀ x : Int, intOf (.int .i64 x) = x := fun _ => rfl; simp only [e]; omega)
        case rel => exact ⟨k + 1, rfl, by omega, by show bld.Bl _ _ _ _; rw [HS.out, HQ.out]; exact HBl2.out, HB2.out⟩
      · have hte : t.toList.isEmpty = false := by rw [HT.out]; exact tx_empty hq
        have HQ := Lib.hid (esc.fill_not hq); clear hq
        go_wp2_with (fail)
        refine (bld.wText w.heap.size w.heap.size _ t _ HBl1.out (by have := HL.out; omega) HB1.out.size).mono ?_
        rintro e w2 ⟨rfl, hbl, hb2⟩
        have HB2 := Lib.hid (HB1.out.trans hb2); have HBl2 := Lib.hid hbl; clear hbl hb2
        go_wp2
        go_roundw
        case measure => first | (simp only [RowKit.intOf]; omega) | (have e : ∀ x : Int, intOf (.int .i64 x) = x := fun _ => rfl; simp only [e]; omega)
        case rel => exact ⟨k + 1, rfl, by omega, by show bld.Bl _ _ _ _; rw [HS.out, HQ.out]; have := HBl2.out; rw [HT.out] at this; exact this, HB2.out⟩
    · obtain rfl : k = s.size := by omega
      have HA : Hid (esc.esc q (s.data.toList.take s.size) = esc.esc q s.data.toList) := by show _ = _; rw [List.take_of_length_le (by rw [len_eq]; omega)]
      go_wp2_with (fail)
      refine (bld.text w.heap.size w.heap.size _ _ HBl.out HB.out.size).mono ?_
      rintro e w2 ⟨rfl, hb2⟩
      rw [HA.out]
      have HB2 := Lib.hid (HB.out.trans hb2); clear hb2
      go_wp2
      go_ret
      exact ⟨rfl, HB2.out⟩

/-- What a function gives back that reads the front of a text. -/
def RdE (o : Option (UInt8 × Nat)) (e : Ending) : Prop :=
  (o = none ∧ ∃ (c : Int) (k : Int), e = .returned (.tuple #[.int .u8 c, .int .i64 k, .bool false])) ∨
  (∃ (b : UInt8) (k : Nat), o = some (b, k) ∧ e = .returned (.tuple #[.int .u8 b.toNat, .int .i64 k, .bool true]))
structure Reads (E : World → Prop) (F : FuncId) (rd : List UInt8 → Option (UInt8 × Nat)) : Prop where
  eats : esc.Eats rd
  enters : ∀ args w, (callFunc F args).run Tryd.prog w = .ok (.enter F args) w
  calls : ∀ (s : ByteArray) (w : World), E w → s.size ≤ 1099511627776 → s.size ≠ 0 → Calls Tryd.prog F #[.string s] w fun e w' => RdE (rd s.data.toList) e ∧ Below w.heap.size w w'
/-- What an unescaper gives back. -/
def UnQ (w : World) (o : Option (List UInt8)) (e : Ending) (w' : World) : Prop := e = .returned (.tuple #[.string (tx (o.getD [])), .bool o.isSome]) ∧ Below w.heap.size w w'

def strSize : Value → Nat
  | .string t => t.size
  | _ => 0
theorem empty_of {t : ByteArray} (h : t.size = 0) : t = ⟨#[]⟩ := by
  apply ByteArray.ext
  exact Array.eq_empty_of_size_eq_zero h
theorem isEmpty_of {t : ByteArray} (h : t.size ≠ 0) : t.toList.isEmpty = false := by
  have := tx_empty (l := t.data.toList) (fun hh => h (by rw [← len_eq, hh]; rfl))
  rwa [tx_eta] at this


end Go.Proofs.YtakdbfifbkngnaaDoor.seq

/-
  Plain facts on varints, without the program: a number's bytes, how bytes are read as a number, and that what is written is read.
  Conditions: those that each theorem names.
-/
namespace Go.Proofs.YtakdbfifbkngnaaDoor.enc
set_option linter.unusedVariables false

/-- Each is a byte. -/
def Bd (l : List Int) : Prop := ∀ v ∈ l, 0 ≤ v ∧ v ≤ 255
theorem Bd.nil : Bd [] := fun _ h => by cases h
theorem Bd.app {a b : List Int} (ha : Bd a) (hb : Bd b) : Bd (a ++ b) := fun v hv => (List.mem_append.1 hv).elim (ha v) (hb v)
theorem Bd.one {v : Int} (h0 : 0 ≤ v) (h1 : v ≤ 255) : Bd [v] := fun x hx => by
  rw [List.mem_singleton] at hx
  omega
theorem Bd.drop {l : List Int} (h : Bd l) (k : Nat) : Bd (l.drop k) := fun v hv => h v (List.mem_of_mem_drop hv)
theorem Bd.take {l : List Int} (h : Bd l) (k : Nat) : Bd (l.take k) := fun v hv => h v (List.mem_of_mem_take hv)

def encF : Nat → Int → List Int
  | 0, n => [n]
  | f + 1, n => if n < 128 then [n] else (n % 128 + 128) :: encF f (n / 128)
/-- The varint of n, where n is below 128^6. -/
def enc (n : Int) : List Int := encF 5 n

theorem encF_lt (f : Nat) (n : Int) (h : n < 128) : encF f n = [n] := by
  cases f with
  | zero => rfl
  | succ f => simp only [encF]; rw [if_pos h]
theorem encF_ge (f : Nat) (n : Int) (h : 128 ≤ n) : encF (f + 1) n = (n % 128 + 128) :: encF f (n / 128) := by
  simp only [encF]; rw [if_neg (by omega)]
theorem pow_le (f : Nat) : (128 : Int) ≤ 128 ^ (f + 1) := by
  induction f with
  | zero => decide
  | succ f ih => rw [Int.pow_succ]; omega
theorem div_lt {f : Nat} {n : Int} (h : n < 128 ^ (f + 1 + 1)) : n / 128 < 128 ^ (f + 1) := by
  rw [Int.pow_succ] at h
  omega

theorem encF_len : ∀ (f : Nat) (n : Int), 1 ≤ (encF f n).length ∧ (encF f n).length ≤ f + 1
  | 0, n => by simp [encF]
  | f + 1, n => by
    have ih := encF_len f (n / 128)
    by_cases h : n < 128
    · rw [encF_lt _ _ h, List.length_singleton]; omega
    · rw [encF_ge _ _ (by omega), List.length_cons]; omega
theorem enc_len (n : Int) : 1 ≤ (enc n).length ∧ (enc n).length ≤ 6 := encF_len 5 n

theorem encF_bd : ∀ (f : Nat) (n : Int), 0 ≤ n → n < 128 ^ (f + 1) → Bd (encF f n)
  | 0, n, h0, h1 => by
    have : (128 : Int) ^ (0 + 1) = 128 := by decide
    exact Bd.one h0 (by omega)
  | f + 1, n, h0, h1 => by
    by_cases h : n < 128
    · rw [encF_lt _ _ h]; exact Bd.one h0 (by omega)
    · rw [encF_ge _ _ (by omega)]
      exact Bd.app (a := [_]) (Bd.one (by omega) (by omega)) (encF_bd f (n / 128) (by omega) (div_lt h1))
theorem p6 : (128 : Int) ^ (5 + 1) = 4398046511104 := by decide
theorem enc_bd (n : Int) (h0 : 0 ≤ n) (h1 : n ≤ 1000000000000) : Bd (enc n) := encF_bd 5 n h0 (by rw [p6]; omega)

/-- How far the bytes of n0 are written: done, and what is left is n. -/
def Far (n0 : Int) (done : List Int) (n : Int) : Prop := ∃ f, 0 ≤ n ∧ n < 128 ^ (f + 1) ∧ enc n0 = done ++ encF f n ∧ Bd done
theorem Far.start (n : Int) (h0 : 0 ≤ n) (h1 : n ≤ 1000000000000) : Far n [] n := ⟨5, h0, by rw [p6]; omega, rfl, Bd.nil⟩
theorem Far.nonneg {n0 n : Int} {d : List Int} (h : Far n0 d n) : 0 ≤ n := by obtain ⟨_, h, _⟩ := h; exact h
theorem Far.step {n0 n : Int} {d : List Int} (h : Far n0 d n) (hn : 128 ≤ n) : Far n0 (d ++ [n % 128 + 128]) (n / 128) := by
  obtain ⟨f, h0, h1, h2, h3⟩ := h
  cases f with
  | zero =>
    have : (128 : Int) ^ (0 + 1) = 128 := by decide
    omega
  | succ f => exact ⟨f, by omega, div_lt h1, by rw [h2, encF_ge _ _ hn, List.append_assoc]; rfl, h3.app (Bd.one (by omega) (by omega))⟩
theorem Far.last {n0 n : Int} {d : List Int} (h : Far n0 d n) (hn : n < 128) : enc n0 = d ++ [n] := by
  obtain ⟨f, h0, h1, h2, h3⟩ := h
  rw [h2, encF_lt _ _ hn]
theorem Far.bd {n0 n : Int} {d : List Int} (h : Far n0 d n) : Bd d := by obtain ⟨_, _, _, _, h⟩ := h; exact h
theorem Far.len {n0 n : Int} {d : List Int} (h : Far n0 d n) : d.length ≤ 5 := by
  obtain ⟨f, h0, h1, h2, h3⟩ := h
  have a := (enc_len n0).2
  have b := (encF_len f n).1
  rw [h2, List.length_append] at a
  omega

/-- Reading: k bytes have been read, they are n, the next one counts u times. -/
def decF : Nat → Nat → Int → Int → List Int → Option (Int × Nat)
  | 0, _, _, _, _ => none
  | _ + 1, _, _, _, [] => none
  | f + 1, k, n, u, c :: r => if c < 128 then (if (0 < k ∧ c = 0) ∨ 1000000000000 < n + c * u then none else some (n + c * u, k + 1)) else decF f (k + 1) (n + (c - 128) * u) (u * 128) r

/-- What is read from index at. -/
def dec (l : List Int) (i : Int) : Option (Int × Nat) := if 0 ≤ i ∧ i ≤ l.length then decF 6 0 0 1 (l.drop i.toNat) else none

theorem decF_nil (f k : Nat) (n u : Int) : decF f k n u [] = none := by cases f <;> rfl
theorem decF_more (f k : Nat) (n u c : Int) (r : List Int) (h : 128 ≤ c) : decF (f + 1) k n u (c :: r) = decF f (k + 1) (n + (c - 128) * u) (u * 128) r := by
  simp only [decF]; rw [if_neg (by omega)]
theorem decF_bad (f k : Nat) (n u c : Int) (r : List Int) (h : c < 128) (hb : (0 < k ∧ c = 0) ∨ 1000000000000 < n + c * u) : decF (f + 1) k n u (c :: r) = none := by
  simp only [decF]; rw [if_pos h, if_pos hb]
theorem decF_good (f k : Nat) (n u c : Int) (r : List Int) (h : c < 128) (hb : ¬ ((0 < k ∧ c = 0) ∨ 1000000000000 < n + c * u)) : decF (f + 1) k n u (c :: r) = some (n + c * u, k + 1) := by
  simp only [decF]; rw [if_pos h, if_neg hb]

theorem decF_encF : ∀ (f k : Nat) (m u n : Int) (rest : List Int), 0 ≤ n → n < 128 ^ (f + 1) → m + n * u ≤ 1000000000000 → (0 < k → 0 < n) →
    decF (f + 1) k m u (encF f n ++ rest) = some (m + n * u, k + (encF f n).length)
  | 0, k, m, u, n, rest, h0, h1, h2, h3 => by
    have e : (128 : Int) ^ (0 + 1) = 128 := by decide
    show decF (0 + 1) k m u (n :: rest) = _
    rw [decF_good _ _ _ _ _ _ (by omega) (fun hh => by omega)]
    rfl
  | f + 1, k, m, u, n, rest, h0, h1, h2, h3 => by
    by_cases h : n < 128
    · rw [encF_lt _ _ h]
      show decF (f + 1 + 1) k m u (n :: rest) = _
      rw [decF_good _ _ _ _ _ _ h (fun hh => by omega)]
      rfl
    · have e : m + (n % 128 + 128 - 128) * u + n / 128 * (u * 128) = m + n * u := by
        have e1 : n % 128 + 128 - 128 = n % 128 := by omega
        have e2 : n / 128 * (u * 128) = (128 * (n / 128)) * u := by
          rw [Int.mul_comm u 128, ← Int.mul_assoc, Int.mul_comm (n / 128) 128]
        rw [e1, e2, Int.add_assoc, ← Int.add_mul]
        have e3 : n % 128 + 128 * (n / 128) = n := by omega
        rw [e3]
      rw [encF_ge _ _ (by omega), List.cons_append, decF_more _ _ _ _ _ _ (by omega), decF_encF f (k + 1) _ _ (n / 128) rest (by omega) (div_lt h1) (by rw [e]; exact h2) (fun _ => by omega), e, List.length_cons]
      congr 2
      omega

/-- What is written behind p is read from there, whatever stands behind it. -/
theorem dec_enc (p rest : List Int) (n : Int) (h0 : 0 ≤ n) (h1 : n ≤ 1000000000000) : dec (p ++ enc n ++ rest) (p.length : Int) = some (n, (enc n).length) := by
  unfold dec
  rw [if_pos ⟨by omega, by simp only [List.length_append]; omega⟩]
  have e : (p ++ enc n ++ rest).drop ((p.length : Int)).toNat = enc n ++ rest := by
    rw [Int.toNat_natCast, List.append_assoc, List.drop_left]
  rw [e]
  have := decF_encF 5 0 0 1 n rest h0 (by rw [p6]; omega) (by omega) (fun h => by omega)
  unfold enc
  rw [this]
  congr 2 <;> omega

theorem decF_bounds : ∀ (f k : Nat) (n u : Int) (l : List Int) (x : Int) (j : Nat), 0 ≤ n → 0 ≤ u → Bd l → decF f k n u l = some (x, j) → 0 ≤ x ∧ x ≤ 1000000000000 ∧ k < j ∧ j ≤ k + f ∧ j ≤ k + l.length
  | 0, k, n, u, l, x, j, h0, h1, hb, h => by cases h
  | f + 1, k, n, u, [], x, j, h0, h1, hb, h => by cases h
  | f + 1, k, n, u, c :: r, x, j, h0, h1, hb, h => by
    have hc := hb c List.mem_cons_self
    by_cases h128 : c < 128
    · by_cases hbad : (0 < k ∧ c = 0) ∨ 1000000000000 < n + c * u
      · rw [decF_bad _ _ _ _ _ _ h128 hbad] at h; cases h
      · rw [decF_good _ _ _ _ _ _ h128 hbad] at h
        injection h with h
        obtain ⟨rfl, rfl⟩ := Prod.mk.inj h
        have := Int.mul_nonneg hc.1 h1
        rw [List.length_cons]
        omega
    · rw [decF_more _ _ _ _ _ _ (by omega)] at h
      have := Int.mul_nonneg (a := c - 128) (b := u) (by omega) h1
      have ih := decF_bounds f (k + 1) _ _ r x j (by omega) (by omega) (fun v hv => hb v (List.mem_cons_of_mem _ hv)) h
      rw [List.length_cons]
      omega

theorem dec_bounds {l : List Int} {i x : Int} {j : Nat} (hb : Bd l) (h : dec l i = some (x, j)) : 0 ≤ x ∧ x ≤ 1000000000000 ∧ 0 ≤ i ∧ 0 < j ∧ j ≤ 6 ∧ i + j ≤ l.length := by
  unfold dec at h
  split at h
  · rename_i hi
    have := decF_bounds _ _ _ _ _ _ _ (by omega) (by omega) (hb.drop _) h
    rw [List.length_drop] at this
    omega
  · cases h

/-- The number of a signed one. -/
def zig (n : Int) : Int := if n < 0 then -2 * n - 1 else 2 * n
theorem zig_bd {n : Int} (h0 : -1000000000 ≤ n) (h1 : n ≤ 1000000000) : 0 ≤ zig n ∧ zig n ≤ 2000000000 := by unfold zig; split <;> omega
/-- The signed number of one. -/
def zag (c : Int) : Int := if c % 2 = 1 then -((c + 1) / 2) else c / 2
theorem zag_zig (n : Int) : zag (zig n) = n := by unfold zag zig; split <;> split <;> omega

/-- What AppendSigned appends. -/
def sig (n : Int) : List Int := if -1000000000 ≤ n ∧ n ≤ 1000000000 then enc (zig n) else []
theorem sig_bd (n : Int) : Bd (sig n) := by
  unfold sig
  split
  · rename_i h
    have := zig_bd h.1 h.2
    exact enc_bd _ this.1 (by omega)
  · exact Bd.nil
theorem sig_len (n : Int) : (sig n).length ≤ 6 := by
  unfold sig
  split
  · exact (enc_len _).2
  · simp
/-- What AppendUvarint appends. -/
def uva (n : Int) : List Int := if 0 ≤ n ∧ n ≤ 1000000000000 then enc n else []
theorem uva_bd (n : Int) : Bd (uva n) := by
  unfold uva
  split
  · rename_i h
    exact enc_bd _ h.1 h.2
  · exact Bd.nil
theorem uva_len (n : Int) : (uva n).length ≤ 6 := by
  unfold uva
  split
  · exact (enc_len _).2
  · simp

/-- What ReadUvarint returns: number, next index, ok. -/
def rdu (l : List Int) (i : Int) : Int × Int × Bool := match dec l i with
  | some (n, k) => (n, i + k, true)
  | none => (0, 0, false)
theorem rdu_some {l : List Int} {i n : Int} {k : Nat} (h : dec l i = some (n, k)) : rdu l i = (n, i + k, true) := by unfold rdu; rw [h]
theorem rdu_none {l : List Int} {i : Int} (h : dec l i = none) : rdu l i = (0, 0, false) := by unfold rdu; rw [h]
theorem rdu_bd {l : List Int} (hb : Bd l) (i : Int) : 0 ≤ (rdu l i).1 ∧ (rdu l i).1 ≤ 1000000000000 ∧ 0 ≤ (rdu l i).2.1 ∧ (rdu l i).2.1 ≤ l.length ∧ ((rdu l i).2.2 = false → (rdu l i).1 = 0 ∧ (rdu l i).2.1 = 0) := by
  cases h : dec l i with
  | none => rw [rdu_none h]; exact ⟨Int.le_refl 0, show (0 : Int) ≤ 1000000000000 by omega, Int.le_refl 0, show (0 : Int) ≤ (l.length : Int) by omega, fun _ => ⟨rfl, rfl⟩⟩
  | some x =>
    obtain ⟨n, k⟩ := x
    rw [rdu_some h]
    have := dec_bounds hb h
    exact ⟨by omega, by omega, by show 0 ≤ i + (k : Int); omega, by show i + (k : Int) ≤ _; omega, fun hh => by cases hh⟩
theorem rdu_enc (p rest : List Int) (n : Int) (h0 : 0 ≤ n) (h1 : n ≤ 1000000000000) : rdu (p ++ enc n ++ rest) (p.length : Int) = (n, ((p ++ enc n).length : Int), true) := by
  rw [rdu_some (dec_enc p rest n h0 h1), List.length_append, Int.natCast_add]

/-- What ReadSigned returns. -/
def rds (l : List Int) (i : Int) : Int × Int × Bool := if (rdu l i).2.2 = true ∧ (rdu l i).1 ≤ 2000000000 then (zag (rdu l i).1, (rdu l i).2.1, true) else (0, 0, false)
theorem rds_sig (p : List Int) (n : Int) (h0 : -1000000000 ≤ n) (h1 : n ≤ 1000000000) : rds (p ++ sig n) (p.length : Int) = (n, ((p ++ sig n).length : Int), true) := by
  have hz := zig_bd h0 h1
  have e : sig n = enc (zig n) := by unfold sig; rw [if_pos ⟨h0, h1⟩]
  have h := rdu_enc p [] (zig n) hz.1 (by omega)
  rw [List.append_nil] at h
  unfold rds
  rw [e, h, if_pos ⟨rfl, hz.2⟩, zag_zig]

/-- What ReadText returns: the bytes, the next index, ok. -/
def rdt (l : List Int) (i most : Int) : List Int × Int × Bool :=
  if (rdu l i).2.2 = true ∧ (rdu l i).1 ≤ most ∧ (rdu l i).1 ≤ l.length - (rdu l i).2.1 then ((l.drop (rdu l i).2.1.toNat).take (rdu l i).1.toNat, (rdu l i).2.1 + (rdu l i).1, true) else ([], 0, false)

theorem rdt_text (p s : List Int) (hs : s.length ≤ 1000000) (most : Int) : rdt (p ++ enc s.length ++ s) (p.length : Int) most = if (s.length : Int) ≤ most then (s, ((p ++ enc s.length ++ s).length : Int), true) else ([], 0, false) := by
  have h := rdu_enc p s (s.length : Int) (by omega) (by omega)
  unfold rdt
  rw [h]
  simp only [List.length_append, Int.natCast_add]
  by_cases hm : (s.length : Int) ≤ most
  · rw [if_pos ⟨trivial, hm, by omega⟩, if_pos hm]
    refine Prod.ext ?_ rfl
    show ((p ++ enc (s.length : Int) ++ s).drop ((p.length : Int) + ((enc (s.length : Int)).length : Int)).toNat).take ((s.length : Int)).toNat = s
    have e : ((p.length : Int) + ((enc (s.length : Int)).length : Int)).toNat = (p ++ enc (s.length : Int)).length := by rw [List.length_append]; omega
    rw [e, List.drop_left, Int.toNat_natCast, List.take_length]
  · rw [if_neg (fun hh => hm hh.2.1), if_neg hm]

end Go.Proofs.YtakdbfifbkngnaaDoor.enc

/-
  Slices of bytes in memory: one that reads as a list of numbers, one that the call itself has made, and how both are kept while memory grows.
  Conditions: those that each theorem names.
-/
namespace Go.Proofs.YtakdbfifbkngnaaDoor.mem
open Go.RowKit
set_option linter.unusedVariables false

theorem u8row : (Tryd.prog.info? 5).map (fun i => (i.zero, i.size, i.bytes)) = some (some (.int .u8 0), 1, 1) := by kernel_rfl

/-- The numbers as cells. -/
def cs (l : List Int) : List Value := l.map (Value.int .u8)
theorem cs_len (l : List Int) : (cs l).length = l.length := List.length_map _
theorem cs_app (a b : List Int) : cs (a ++ b) = cs a ++ cs b := List.map_append
theorem cs_get {l : List Int} {j : Nat} {v : Int} (h : l[j]? = some v) : (cs l)[j]? = some (.int .u8 v) := by unfold cs; rw [List.getElem?_map, h]; rfl
theorem cs_set (l : List Int) (j : Nat) (v : Int) : cs (l.set j v) = (cs l).set j (.int .u8 v) := List.map_set
theorem cs_one (l : List Int) : ∀ u ∈ cs l, u.oneCell' = true := ints_oneCell .u8 l
theorem cs_zero (n : Nat) : cs (List.replicate n 0) = List.replicate n (.int .u8 0) := List.map_replicate

theorem add_block (a : Addr) (n : Nat) : (a.add n).block = a.block := by unfold Addr.add; split <;> rfl
theorem add_add (a : Addr) (i j : Nat) : (a.add i).add j = a.add (i + j) := by
  unfold Addr.add
  by_cases hi : i = 0 <;> by_cases hj : j = 0 <;> simp [hi, hj, Nat.add_assoc]
theorem add_zero_lit (g j : Nat) : (⟨g, 0, none⟩ : Addr).add j = ⟨g, j, none⟩ := by rw [Addr.add_lit, Nat.zero_add]

/-- The slice at A of n bytes reads as l. -/
def Rd (w : World) (A : Option Addr) (n : Nat) (l : List Int) : Prop :=
  l.length = n ∧ enc.Bd l ∧ (0 < n → ∃ a, A = some a ∧ ∀ j v, l[j]? = some v → w.cell? (a.add j) = some (.int .u8 v))

theorem Rd.len {w : World} {A : Option Addr} {n : Nat} {l : List Int} (h : Rd w A n l) : l.length = n := h.1
theorem Rd.bd {w : World} {A : Option Addr} {n : Nat} {l : List Int} (h : Rd w A n l) : enc.Bd l := h.2.1
theorem Rd.at_ {w : World} {A : Option Addr} {n k : Nat} {l : List Int} (h : Rd w A n l) (hk : k < n) : ∃ a v, A = some a ∧ l[k]? = some v ∧ 0 ≤ v ∧ v ≤ 255 ∧ w.cell? (a.add k) = some (.int .u8 v) := by
  obtain ⟨h1, h2, h3⟩ := h
  obtain ⟨a, e, hc⟩ := h3 (by omega)
  have hl : k < l.length := by omega
  have hv := h2 l[k] (List.getElem_mem hl)
  exact ⟨a, l[k], e, List.getElem?_eq_getElem hl, hv.1, hv.2, hc k _ (List.getElem?_eq_getElem hl)⟩
/-- In the block of the slice, where it has a byte. -/
theorem Rd.lt {w : World} {A : Option Addr} {n : Nat} {l : List Int} (h : Rd w A n l) (hn : 0 < n) : ∃ a, A = some a ∧ a.block < w.heap.size := by
  obtain ⟨a, v, e, _, _, _, hc⟩ := h.at_ hn
  refine ⟨a, e, ?_⟩
  have := World.block_lt_of_cell? _ _ hc
  rwa [add_block] at this
/-- No byte of it lies in block row. -/
def Off (A : Option Addr) (n : Nat) (row : Option Nat) : Prop := 0 < n → ∀ a, A = some a → some a.block ≠ row
theorem Off.none_ (A : Option Addr) (n : Nat) : Off A n none := fun _ a _ h => by cases h
theorem Rd.grown {w w' : World} {A : Option Addr} {n : Nat} {l : List Int} {row : Option Nat} (h : Rd w A n l) (hg : w.grownBy w' row) (ho : Off A n row) : Rd w' A n l := by
  refine ⟨h.1, h.2.1, fun hn => ?_⟩
  obtain ⟨a, e, hc⟩ := h.2.2 hn
  exact ⟨a, e, fun j v hv => hg.cell (hc j v hv) (by rw [add_block]; exact ho hn a e)⟩
theorem none_of_below {w w' : World} (h : Below w.heap.size w w') : w.grownBy w' none := ⟨h.os, h.tape, h.output, h.size, fun k hk _ => h.block k hk⟩
theorem below_of_none {w w' : World} (h : w.grownBy w' none) : Below w.heap.size w w' := ⟨h.os, h.tape, h.output, h.size, fun k hk => h.block k hk (fun e => by cases e)⟩
theorem Rd.below {w w' : World} {A : Option Addr} {n : Nat} {l : List Int} (h : Rd w A n l) (hb : Below w.heap.size w w') : Rd w' A n l := h.grown (none_of_below hb) (Off.none_ _ _)
theorem Rd.alloc {w : World} {A : Option Addr} {n : Nat} {l : List Int} (h : Rd w A n l) (o : Obj) : Rd (w.alloc o) A n l := h.grown (World.grownBy_alloc w o none) (Off.none_ _ _)
theorem Rd.draws {w : World} {A : Option Addr} {n : Nat} {l : List Int} (h : Rd w A n l) (k : Nat) : Rd (w.drewN k) A n l := h

/-- A slice of bytes that the call has made: its block is lo or above. -/
def Own (w : World) (lo : Nat) (A : Option Addr) (n c : Nat) (l : List Int) : Prop :=
  l.length = n ∧ enc.Bd l ∧ w.ownsRow lo 5 1 (.slice A n c) n (cs l)

section
variable {w w' : World} {lo : Nat} {A : Option Addr} {n c : Nat} {l : List Int}
theorem Own.len (h : Own w lo A n c l) : l.length = n := h.1
theorem Own.bd (h : Own w lo A n c l) : enc.Bd l := h.2.1
theorem Own.row (h : Own w lo A n c l) : w.ownsRow lo 5 1 (.slice A n c) n (cs l) := h.2.2
theorem Own.form (h : Own w lo A n c l) : (A = none ∧ n = 0) ∨ ∃ g, A = some ⟨g, 0, none⟩ ∧ lo ≤ g ∧ g < w.heap.size := by
  rcases h.2.2.2 with ⟨e, h0⟩ | ⟨g, cap, cur, e, hb, hg, _⟩
  · injection e with e1
    exact .inl ⟨e1, h0⟩
  · injection e with e1
    exact .inr ⟨g, e1, hb, draw_lt hg⟩
where
  draw_lt {w : World} {N : Nat} {o : Obj} (h : w.heap[N]? = some o) : N < w.heap.size := by
    rcases Nat.lt_or_ge N w.heap.size with hlt | hge
    · exact hlt
    · rw [Array.getElem?_eq_none hge] at h; cases h
theorem Own.rd (h : Own w lo A n c l) : Rd w A n l := by
  refine ⟨h.1, h.2.1, fun hn => ?_⟩
  rcases h.form with ⟨_, h0⟩ | ⟨g, e, _⟩
  · omega
  · subst e
    exact ⟨_, rfl, fun j v hv => h.row.cells (g := g) rfl j _ (cs_get hv)⟩
theorem Own.block (h : Own w lo A n c l) : ∀ k, (Value.slice A n c).ownBlock = some k → lo ≤ k ∧ k < w.heap.size := h.row.lt
theorem Own.grown {row : Option Nat} (h : Own w lo A n c l) (hg : w.grownBy w' row) (ho : (Value.slice A n c).ownBlock = none ∨ (Value.slice A n c).ownBlock ≠ row) : Own w' lo A n c l :=
  ⟨h.1, h.2.1, h.row.kept hg ho⟩
theorem Own.none_ (h : Own w lo A n c l) (hg : w.grownBy w' none) : Own w' lo A n c l := h.grown hg (by
  cases e : (Value.slice A n c).ownBlock with
  | none => exact .inl rfl
  | some k => exact .inr (by simp))
theorem Own.below (h : Own w lo A n c l) (hb : Below w.heap.size w w') : Own w' lo A n c l := h.none_ (none_of_below hb)
theorem Own.alloc (h : Own w lo A n c l) (o : Obj) : Own (w.alloc o) lo A n c l := ⟨h.1, h.2.1, h.row.alloc o⟩
theorem Own.draws (h : Own w lo A n c l) (k : Nat) : Own (w.drewN k) lo A n c l := h
theorem Own.less {lo' : Nat} (h : Own w lo A n c l) (hl : lo' ≤ lo) : Own w lo' A n c l := ⟨h.1, h.2.1, Joins.ownsRow_le h.row hl⟩
/-- Where it has a byte it lies at the head of a block. -/
theorem Own.head (h : Own w lo A n c l) (hn : 0 < n) : ∃ g, A = some ⟨g, 0, none⟩ ∧ lo ≤ g ∧ g < w.heap.size ∧ (Value.slice A n c).ownBlock = some g := by
  rcases h.form with ⟨_, h0⟩ | ⟨g, e, h1, h2⟩
  · omega
  · subst e
    exact ⟨g, rfl, h1, h2, rfl⟩
/-- A write to another one's block. -/
theorem Own.far {lo' : Nat} {A' : Option Addr} {n' c' : Nat} {l' : List Int} (h : Own w lo A n c l) (h' : Own w lo' A' n' c' l') (hd : ∀ k, (Value.slice A n c).ownBlock = some k → (Value.slice A' n' c').ownBlock ≠ some k) :
    Off A' n' (Value.slice A n c).ownBlock := fun hn a ha e => by
  obtain ⟨g, e1, _, _, e2⟩ := h'.head hn
  have : a = ⟨g, 0, none⟩ := by rw [e1] at ha; injection ha with ha; exact ha.symm
  subst this
  exact hd g e.symm e2
/-- What came in before lies elsewhere. -/
theorem Own.off {B : Nat} {A' : Option Addr} {n' : Nat} (h : Own w lo A n c l) (hB : B ≤ lo) (hr : 0 < n' → ∃ a, A' = some a ∧ a.block < B) : Off A' n' (Value.slice A n c).ownBlock := fun hn a ha e => by
  obtain ⟨a', e1, hlt⟩ := hr hn
  have : a = a' := by rw [e1] at ha; injection ha with ha; exact ha.symm
  subst this
  have := (h.block _ e.symm).1
  omega
end

/-- Nothing yet. -/
theorem own_empty (w : World) (lo : Nat) {A : Option Addr} {n c : Nat} (h : w.ownsRow lo 5 1 (.slice A n c) n []) (hn : n = 0) : Own w lo A n c [] := ⟨by simp [hn], enc.Bd.nil, h⟩

/-- A law of a slice that the call has made, from a slice value. -/
theorem own_mk {w : World} {lo : Nat} {v : Value} {n : Nat} {l : List Int} (h : w.ownsRow lo 5 1 v n (cs l)) (hb : enc.Bd l) : ∃ A c, v = .slice A n c ∧ Own w lo A n c l := by
  have hl : l.length = n := by have := h.1; rw [cs_len] at this; omega
  rcases Joins.ownsRow_forms h with ⟨rfl, rfl⟩ | ⟨g, cap, rfl⟩
  · exact ⟨none, 0, rfl, hl, hb, h⟩
  · exact ⟨_, cap, rfl, hl, hb, h⟩

/-- The mark numbers from k on. -/
def marks (k : Int) : Nat → List Int
  | 0 => []
  | n + 1 => (k % 256) :: marks (k + 1) n
theorem marks_len : ∀ (n : Nat) (k : Int), (marks k n).length = n
  | 0, _ => rfl
  | n + 1, k => by rw [marks, List.length_cons, marks_len n]
theorem marks_bd : ∀ (n : Nat) (k : Int), enc.Bd (marks k n)
  | 0, _ => enc.Bd.nil
  | n + 1, k => enc.Bd.app (a := [_]) (enc.Bd.one (by omega) (by omega)) (marks_bd n (k + 1))
theorem marks_get : ∀ (n : Nat) (k : Int) (j : Nat), j < n → (marks k n)[j]? = some ((k + j) % 256)
  | 0, _, _, h => by omega
  | n + 1, k, 0, _ => by simp [marks]
  | n + 1, k, j + 1, h => by
    have e : k + 1 + (j : Int) = k + ((j + 1 : Nat) : Int) := by omega
    rw [marks, List.getElem?_cons_succ, marks_get n (k + 1) j (by omega), e]

/-- A list that is filled from the front: the first k are l's. -/
def Filled (l m : List Int) (k : Nat) : Prop := m.length = l.length ∧ m.take k = l.take k
theorem Filled.start (l m : List Int) (h : m.length = l.length) : Filled l m 0 := ⟨h, by simp⟩
theorem Filled.step {l m : List Int} {k : Nat} {v : Int} (h : Filled l m k) (hv : l[k]? = some v) : Filled l (m.set k v) (k + 1) := by
  refine ⟨by rw [List.length_set]; exact h.1, ?_⟩
  obtain ⟨hk, e⟩ := List.getElem?_eq_some_iff.1 hv
  have hm := h.1
  rw [List.take_succ_eq_append_getElem (by rw [List.length_set]; omega), List.take_succ_eq_append_getElem hk, List.take_set, List.set_eq_of_length_le (by rw [List.length_take]; omega), h.2, List.getElem_set_self, e]
theorem Filled.all {l m : List Int} {k : Nat} (h : Filled l m k) (hk : l.length ≤ k) : m = l := by
  have h2 := h.2
  rw [List.take_of_length_le hk, List.take_of_length_le (by rw [h.1]; exact hk)] at h2
  exact h2
theorem bd_set {m : List Int} (h : enc.Bd m) (k : Nat) {v : Int} (h0 : 0 ≤ v) (h1 : v ≤ 255) : enc.Bd (m.set k v) := fun x hx => by
  rcases List.mem_or_eq_of_mem_set hx with hx | rfl
  · exact h x hx
  · exact ⟨h0, h1⟩

/-- One byte of an own slice is written. -/
theorem Own.set {w : World} {lo g n c : Nat} {l : List Int} (h : Own w lo (some ⟨g, 0, none⟩) n c l) (k : Nat) {v : Int} (h0 : 0 ≤ v) (h1 : v ≤ 255) :
    Own (w.setCell ⟨g, k, none⟩ (.int .u8 v)) lo (some ⟨g, 0, none⟩) n c (l.set k v) ∧ w.grownBy (w.setCell ⟨g, k, none⟩ (.int .u8 v)) (some g) := by
  have hs := h.row.stored k (.int .u8 v)
  exact ⟨⟨by rw [List.length_set]; exact h.1, bd_set h.2.1 k h0 h1, by rw [cs_set]; exact hs.1⟩, hs.2⟩
theorem Own.cellk {w : World} {lo g n c k : Nat} {l : List Int} (h : Own w lo (some ⟨g, 0, none⟩) n c l) (hk : k < n) : (∃ v, w.cell? ⟨g, k, none⟩ = some (.int .u8 v)) ∧ w.frozen? ⟨g, k, none⟩ = false := by
  refine ⟨?_, h.row.frozenAt k⟩
  have hl : k < l.length := by rw [h.1]; exact hk
  exact ⟨l[k], by rw [h.row.cellAt k (by omega)]; exact cs_get (List.getElem?_eq_getElem hl)⟩

theorem grown_trans {a b c : World} {r : Option Nat} (h : a.grownBy b r) (k : b.grownBy c r) : a.grownBy c r :=
  ⟨k.os.trans h.os, k.tape.trans h.tape, k.output.trans h.output, Nat.le_trans h.size k.size, fun j hj hne => (k.block j (Nat.lt_of_lt_of_le hj h.size) hne).trans (h.block j hj hne)⟩
theorem grown_draws {a w : World} {r : Option Nat} (h : a.grownBy w r) (n : Nat) : a.grownBy (w.drewN n) r := ⟨h.os, h.tape, h.output, h.size, h.block⟩
theorem grown_new {a w : World} {r : Option Nat} (h : a.grownBy w r) (o : Obj) : a.grownBy (w.alloc o) r :=
  ⟨h.os, h.tape, h.output, Nat.le_trans h.size (by simp), fun k hk hne => (Below.heap_alloc w o k (Nat.lt_of_lt_of_le hk h.size)).trans (h.block k hk hne)⟩

theorem below_own {w w' : World} {lo : Nat} {A : Option Addr} {n c : Nat} {l : List Int} (h : Own w lo A n c l) (hg : w.grownBy w' (Value.slice A n c).ownBlock) (hlo : lo ≤ w.heap.size) : Below lo w w' :=
  (Below.refl lo w).grown hg hlo (fun k hk => (h.block k hk).1)

/-- A new block of one byte. -/
theorem rd_one (w : World) (v : Int) (h0 : 0 ≤ v) (h1 : v ≤ 255) (t : TypeId) : Rd (w.alloc (.cells #[.int .u8 v] t)) (some ⟨w.heap.size, 0, none⟩) 1 [v] := by
  refine ⟨rfl, enc.Bd.one h0 h1, fun _ => ⟨_, rfl, fun j x hx => ?_⟩⟩
  cases j with
  | zero =>
    have : v = x := by simpa using hx
    subst this
    rw [add_zero_lit, World.cell?_alloc_new]
    rfl
  | succ j => simp at hx
/-- A new block of none. -/
theorem own_none (w : World) (lo : Nat) (hlo : lo ≤ w.heap.size) : Own (w.alloc (.cells #[] 5)) lo (some ⟨w.heap.size, 0, none⟩) 0 0 [] :=
  own_empty _ _ (World.ownsRow_made w #[] 0 hlo (Nat.zero_le _) rfl) rfl
theorem own_nil (w : World) (lo : Nat) : Own w lo none 0 0 [] := own_empty _ _ (World.ownsRow_nil w lo _ 1) rfl

theorem run_none (P : Program) (w : World) (t ty : TypeId) (i : TypeInfo) (ht : P.underlying t = some (.slice 5)) (hi : P.info? 5 = some i) (lo : Nat) (v : Value) (n d : Nat) (xs : List Value) (hown : w.ownsRow lo 5 1 v n xs) :
    (Builtin.append_ #[t, t] ty #[v, .slice none 0 d]).run P w = .ok v w := by
  rcases hown.2 with ⟨rfl, rfl⟩ | ⟨g, cap, cur, rfl, _, _, hnc, _⟩
  · simp [Builtin.append_, run_underlying ht, sizeOf, typeInfo, hi, Builtin.lenOf, Builtin.firstCells]
  · simp [Builtin.append_, run_underlying ht, sizeOf, typeInfo, hi, Builtin.lenOf, Builtin.firstCells, hnc, storeCells]

/-- append of a slice that reads as r onto an own one. -/
theorem append_rd {P : Program} {w : World} {ops : Array Oper} {rest : List Oper} {o : Oper} {a : Act} {Q : Exit → Act → World → Prop} (hgd : o.guard = none) (s x : Operand) (t : TypeId)
    (ho : o.op = .call { callee := .builtin .append, args := #[s, x], argTypes := #[t, t] })
    (i : TypeInfo) (ht : P.underlying t = some (.slice 5)) (hi : P.info? 5 = some i) (hz : i.zero = some (.int .u8 0)) (hsize : i.size = 1) (hby : i.bytes = 1)
    (lo : Nat) (A : Option Addr) (n c : Nat) (l : List Int) (hs : a.eval s = .slice A n c) (hown : Own w lo A n c l)
    (B : Option Addr) (m d : Nat) (r : List Int) (hx : a.eval x = .slice B m d) (hr : Rd w B m r) (hb : n + m ≤ 140737488355328) (hlo : lo ≤ w.heap.size)
    (h : ∀ A' c' w', Own w' lo A' (n + m) c' (l ++ r) → Below lo w w' → wpList P ops Q rest (a.put o.dst (.slice A' (n + m) c')) w') : wpList P ops Q (o :: rest) a w := by
  have close : ∀ v' w', w'.ownsRow lo 5 1 v' (n + m) (cs l ++ cs r) → w.grownBy w' (Value.slice A n c).ownBlock → wpList P ops Q rest (a.put o.dst v') w' := fun v' w' h1 h2 => by
    rw [← cs_app] at h1
    obtain ⟨A', c', rfl, h3⟩ := own_mk h1 (hown.bd.app hr.bd)
    exact h A' c' w' h3 (below_own hown h2 hlo)
  have hl : (cs r).length = m * 1 := by rw [cs_len, hr.len, Nat.mul_one]
  have hmax : n + m ≤ maxLen := by unfold maxLen; omega
  cases B with
  | none =>
    have hm : m = 0 := by
      rcases Nat.eq_zero_or_pos m with h0 | h0
      · exact h0
      · obtain ⟨_, e, _⟩ := hr.2.2 h0
        cases e
    subst hm
    have hr0 : r = [] := List.eq_nil_of_length_eq_zero hr.len
    subst hr0
    have hrun := run_none P w t o.type i ht hi lo _ n d (cs l) hown.row
    refine wpList_plain hgd fun K hK => ?_
    unfold Oper.wp
    simp [execOp, ho, resolve, invoke, builtin, hs, hx, hrun, Result.andThen]
    exact hK _ _ (close _ _ (by simpa [cs] using hown.row) (World.grownBy.refl _ _))
  | some ad =>
    refine wpList_append_own w hgd s x t ho lo 5 i (.int .u8 0) 1 1 ht hi hz hsize hby rfl (by omega) (.slice A n c) n (cs l) hs hown.row ad m d (cs r) hx hl ?_ (cs_one r) hmax (by omega) hlo ?_
    · intro j u hu
      have hj : j < r.length := by
        have := (List.getElem?_eq_some_iff.1 hu).1
        rwa [cs_len] at this
      obtain ⟨_, e, hc⟩ := hr.2.2 (by have := hr.len; omega)
      obtain rfl := Option.some.inj e
      have hrj : r[j]? = some r[j] := List.getElem?_eq_getElem hj
      rw [cs_get hrj] at hu
      rw [← hu]
      exact hc j _ hrj
    · intro v' w' h1 h2 _
      exact close v' w' h1 h2

/-- A text's bytes as numbers. -/
def txt (s : ByteArray) : List Int := s.data.toList.map fun b => (b.toNat : Int)
theorem txt_len (s : ByteArray) : (txt s).length = s.size := by unfold txt; rw [List.length_map, Array.length_toList]; rfl
theorem txt_bd (s : ByteArray) : enc.Bd (txt s) := fun v hv => by
  unfold txt at hv
  obtain ⟨b, _, rfl⟩ := List.mem_map.1 hv
  have := b.toNat_lt
  omega
theorem strCells_cs (s : ByteArray) : Lib.strCells s = cs (txt s) := by unfold Lib.strCells cs txt; rw [List.map_map]; rfl
theorem strOf_txt (s : ByteArray) : strOfNums (txt s) = s := by
  unfold strOfNums txt
  rw [List.map_map]
  have e : s.data.toList.map ((fun n : Int => UInt8.ofNat n.toNat) ∘ fun b : UInt8 => (b.toNat : Int)) = s.data.toList := by
    rw [List.map_congr_left (g := id) (fun b _ => by simp), List.map_id]
  rw [e, Joins.bytes_eta]

/-- append of a text onto an own slice. -/
theorem append_txt {P : Program} {w : World} {ops : Array Oper} {rest : List Oper} {o : Oper} {a : Act} {Q : Exit → Act → World → Prop} (hgd : o.guard = none) (s x : Operand) (t u : TypeId)
    (ho : o.op = .call { callee := .builtin .append, args := #[s, x], argTypes := #[t, u] })
    (i : TypeInfo) (ht : P.underlying t = some (.slice 5)) (hu : P.underlying u = some .string) (hi : P.info? 5 = some i) (hz : i.zero = some (.int .u8 0)) (hsize : i.size = 1) (hby : i.bytes = 1)
    (lo : Nat) (A : Option Addr) (n c : Nat) (l : List Int) (hs : a.eval s = .slice A n c) (hown : Own w lo A n c l)
    (b : ByteArray) (hx : a.eval x = .string b) (hb : n + b.size ≤ 140737488355328) (hlo : lo ≤ w.heap.size)
    (h : ∀ A' c' w', Own w' lo A' (n + b.size) c' (l ++ txt b) → Below lo w w' → wpList P ops Q rest (a.put o.dst (.slice A' (n + b.size) c')) w') : wpList P ops Q (o :: rest) a w := by
  have hmax : n + b.size ≤ maxLen := by unfold maxLen; omega
  refine Lib.wpList_append_own_string w hgd s x t u ho lo 5 i ht hu hi hz hsize hby (.slice A n c) n (cs l) hs hown.row b hx hmax hb hlo ?_
  intro v' w' h1 h2 _
  rw [strCells_cs, ← cs_app] at h1
  obtain ⟨A', c', rfl, h3⟩ := own_mk h1 (hown.bd.app (txt_bd b))
  exact h A' c' w' h3 (below_own hown h2 hlo)

/-- Two own slices of which the one was made after the other. -/
theorem apart {w w' : World} {lo lo' : Nat} {A A' : Option Addr} {n n' c c' : Nat} {l l' : List Int} (h : Own w lo A n c l) (h' : Own w' lo' A' n' c' l') (hs : w.heap.size ≤ lo') :
    ∀ k, (Value.slice A n c).ownBlock = some k → (Value.slice A' n' c').ownBlock ≠ some k := fun k hk hk' => by
  have := (h.block k hk).2
  have := (h'.block k hk').1
  omega
theorem apart' {w w' : World} {lo lo' : Nat} {A A' : Option Addr} {n n' c c' : Nat} {l l' : List Int} (h : Own w lo A n c l) (h' : Own w' lo' A' n' c' l') (hs : w.heap.size ≤ lo') :
    ∀ k, (Value.slice A' n' c').ownBlock = some k → (Value.slice A n c).ownBlock ≠ some k := fun k hk hk' => apart h h' hs k hk' hk
theorem Own.keep {w w' : World} {lo : Nat} {A : Option Addr} {n c : Nat} {l : List Int} {row : Option Nat} (h : Own w lo A n c l) (hg : w.grownBy w' row) (hd : ∀ k, (Value.slice A n c).ownBlock = some k → row ≠ some k) : Own w' lo A n c l :=
  h.grown hg (by
    cases e : (Value.slice A n c).ownBlock with
    | none => exact .inl rfl
    | some k => exact .inr fun e' => hd k e e'.symm)
theorem below_mark {w w' : World} {W : World} {lo : Nat} {A : Option Addr} {n c : Nat} {l : List Int} (hb : Below W.heap.size W w) (h : Own w lo A n c l) (hg : w.grownBy w' (Value.slice A n c).ownBlock) (hlo : W.heap.size ≤ lo) : Below W.heap.size W w' :=
  hb.grown hg hb.size (fun k hk => Nat.le_trans hlo (h.block k hk).1)
theorem below_next {w w' W : World} (hb : Below W.heap.size W w) (hg : w.grownBy w' none) : Below W.heap.size W w' := hb.trans ((below_of_none hg).mono hb.size)

/-- A slice of bytes as a text. -/
theorem conv_rd {P : Program} (w : World) (src dst e : TypeId) (hs : P.underlying src = some (.slice e)) (he : P.underlying e = some (.int .u8)) (hd : P.underlying dst = some .string) {A : Option Addr} {q : Nat} {l : List Int} (h : Rd w A q l) (c : Nat) :
    (convert src dst (.slice A q c)).run P w = .ok (.string (strOfNums l)) w := by
  cases A with
  | none =>
    have hq : q = 0 := by
      rcases Nat.eq_zero_or_pos q with h0 | h0
      · exact h0
      · obtain ⟨_, e, _⟩ := h.2.2 h0
        cases e
    subst hq
    have hl : l = [] := List.eq_nil_of_length_eq_zero h.1
    subst hl
    exact run_convert_bytes_nil w src e hs he 0 c dst hd
  | some a =>
    have hl : (loadCells a q).run P w = .ok (l.map (Value.int .u8)).toArray w := by
      have := run_loadCells_list (P := P) w a (l.map (Value.int .u8)) (fun j v hj => by
        have hjl : j < l.length := by
          have := (List.getElem?_eq_some_iff.1 hj).1
          rwa [List.length_map] at this
        obtain ⟨_, e, hc⟩ := h.2.2 (by have := h.1; omega)
        obtain rfl := Option.some.inj e
        have hx : l[j]? = some l[j] := List.getElem?_eq_getElem hjl
        rw [hc j _ hx]
        rw [List.getElem?_map, hx] at hj
        exact hj)
      simpa [h.1] using this
    rw [run_convert_bytes_string w src dst e _ q c hs he hd, run_bytesToString w _ q c l hl, foldl_push_bytes]
    simp [strOfNums, ByteArray.empty, ByteArray.emptyWithCapacity]
    rfl

end Go.Proofs.YtakdbfifbkngnaaDoor.mem

/-
  What QuoteText of the project and of the model returns: the text between two marks, with a backslash ahead of each mark and each backslash.
  Conditions: the text has at most 2^40 bytes.
-/
namespace Go.Proofs.YtakdbfifbkngnaaDoor.seq
open Go.ChangeShapes Go.WideShapes Go.ChangeAt Go.RowKit mem
set_option linter.unusedVariables false

def quoQ (c : UInt8) : List UInt8 := if c = 39 then [92, 39] else if c = 92 then [92, 92] else []
theorem six_quo : esc.Six quoQ := fun c => by unfold quoQ; split <;> first | (split <;> simp) | simp
theorem quo_none {c : UInt8} (h1 : c ≠ 39) (h2 : c ≠ 92) : quoQ c = [] := by unfold quoQ; rw [if_neg h1, if_neg h2]
theorem fill_quo_none {c : UInt8} (h1 : c ≠ 39) (h2 : c ≠ 92) : esc.fill quoQ c = [c] := esc.fill_nil (quo_none h1 h2)
theorem fill_quo_yes {c : UInt8} (h : c = 39 ∨ c = 92) : esc.fill quoQ c = [92, c] := by rcases h with rfl | rfl <;> rfl
/-- A quoted text. -/
def quoL (l : List UInt8) : List UInt8 := 39 :: (esc.esc quoQ l ++ [39])
theorem quoL_len (l : List UInt8) : (quoL l).length ≤ 6 * l.length + 2 := by have := six_quo.esc l; unfold quoL; simp; omega
theorem stays_any : Stays (fun _ => True) := fun _ _ _ _ => trivial
theorem byte_eq {c : UInt8} {n : Nat} (hn : n < 256) : c = UInt8.ofNat n ↔ c.toNat = n :=
  ⟨fun h => by rw [h]; exact Nat.mod_eq_of_lt hn, fun h => by rw [← h, UInt8.ofNat_toNat]⟩
theorem ne39 {c : UInt8} (h : c ≠ 39) : ¬ (c.toNat : Int) = 39 := fun e => h ((byte_eq (n := 39) (by omega)).2 (by omega))
theorem ne92 {c : UInt8} (h : c ≠ 92) : ¬ (c.toNat : Int) = 92 := fun e => h ((byte_eq (n := 92) (by omega)).2 (by omega))

theorem quotedSeq (c : UInt8) (w : World) : Calls Tryd.prog 27 #[.int .u8 c.toNat] w (StrQ w (quoQ c)) := by
  by_cases h1 : c = 39
  · subst h1
    go_enter Tryd.func27, Tryd.ntmps27
    go_wp2
    go_ret
    exact ⟨rfl, Below.refl _ _⟩
  · by_cases h2 : c = 92
    · subst h2
      go_enter Tryd.func27, Tryd.ntmps27
      go_wp2
      go_ret
      exact ⟨rfl, Below.refl _ _⟩
    · have n1 := ne39 h1
      have n2 := ne92 h2
      have HQ := Lib.hid (quo_none h1 h2)
      clear h1 h2
      go_enter Tryd.func27, Tryd.ntmps27
      go_wp2
      go_ret
      exact ⟨by rw [HQ.out]; rfl, Below.refl _ _⟩
theorem quoSeq : Seqs (fun _ => True) 27 quoQ := ⟨six_quo, enters_of Tryd.func27 (by kernel_rfl) rfl, fun c w _ => quotedSeq c w⟩

theorem app_tx' (a b : List UInt8) : tx a ++ tx b = tx (a ++ b) := by
  apply ByteArray.ext
  simp [tx]
theorem quo_i (s : ByteArray) (hs : s.size ≤ 1099511627776) (w : World) :
    Calls Tryd.prog 17 #[.string s] w (StrQ w (quoL s.data.toList)) := by
  obtain ⟨t, ht⟩ : ∃ t, t = tx (esc.esc quoQ s.data.toList) := ⟨_, rfl⟩
  have h6 := six_quo.esc s.data.toList
  have hsz : t.size ≤ 6597069766656 := by rw [ht, tx_size]; rw [len_eq] at h6; omega
  have HT : Hid ((⟨#[39]⟩ ++ t) ++ ⟨#[39]⟩ = tx (quoL s.data.toList)) := Lib.hid (by
    rw [ht, show (⟨#[39]⟩ : ByteArray) = tx [39] from rfl, app_tx', app_tx']; rfl)
  have H := Lib.hid ht
  clear ht h6
  go_enter Tryd.func17, Tryd.ntmps17
  go_wp2_with (fail)
  refine (escB stays_any quoSeq s hs _ trivial).mono ?_
  rintro e w1 ⟨he, hb⟩
  obtain rfl : e = .returned (.string t) := he.trans (by rw [H.out])
  have HB := Lib.hid hb
  clear he hb
  go_wp2
  go_ret
  exact ⟨by rw [← HT.out]; rfl, HB.out⟩

def num (l : List UInt8) : List Int := l.map fun b => (b.toNat : Int)
theorem num_len (l : List UInt8) : (num l).length = l.length := List.length_map _
theorem num_snoc (l : List UInt8) (b : UInt8) : num (l ++ [b]) = num l ++ [(b.toNat : Int)] := List.map_append
theorem num_tx (l : List UInt8) : strOfNums (num l) = tx l := by
  have := mem.strOf_txt (tx l)
  rwa [show mem.txt (tx l) = num l from by unfold mem.txt num tx; rfl] at this

set_option maxHeartbeats 2000000 in
set_option maxRecDepth 100000 in
theorem quo_s (s : ByteArray) (hs : s.size ≤ 1099511627776) (w : World) :
    Calls Tryd.prog 15 #[.string s] w (StrQ w (quoL s.data.toList)) := by
  obtain ⟨i0, hi, hz0, hz1, hz2⟩ := info_parts mem.u8row
  have R1 : Hid (Own (w.alloc (.cells #[.int .u8 39] 5)) w.heap.size (some ⟨w.heap.size, 0, none⟩) 1 1 (num [39])) := Lib.hid ⟨rfl, fun v hv => by simp [num] at hv; subst hv; omega, World.ownsRow_lit (base := w.heap.size) (e := 5) (size := 1) w #[.int .u8 39] 1 (Nat.le_refl _) (by simp [maxLen]) rfl⟩
  go_enter Tryd.func15, Tryd.ntmps15
  go_wp2
  go_loopg [3, 4] s.size (fun gk v x wr => ∃ (A : Option Addr) (n c i : Nat), v = .slice A n c ∧ x = .int .i64 i ∧ gk + i = s.size ∧ i ≤ s.size ∧ n ≤ 8796093022208 ∧ Hid (n ≤ 2 * i + 1) ∧ Hid (Own wr w.heap.size A n c (num (39 :: esc.esc quoQ (s.data.toList.take i)))) ∧ Hid (Below w.heap.size w wr))
  case atStart => exact ⟨_, 1, 1, 0, rfl, rfl, by omega, by omega, by omega, Lib.hid (by omega), R1, Lib.hid ((Below.refl _ _).alloc (Nat.le_refl _) _)⟩
  case round =>
    obtain ⟨A, n, c, i, rfl, rfl, hgk, hk, hn40, HNI, HO, HB⟩ := hrel
    by_cases hlt : i < s.size
    · have hb0 : (0 : Int) ≤ (s[i].toNat : Int) := by omega
      have hb9 : (s[i].toNat : Int) ≤ 255 := by have := s[i].toNat_lt; omega
      have hstep : esc.esc quoQ (s.data.toList.take (i + 1)) = esc.esc quoQ (s.data.toList.take i) ++ esc.fill quoQ s[i] := esc.esc_step quoQ s.data.toList i (by rw [len_eq]; exact hlt)
      have HS := Lib.hid hstep
      clear hstep
      by_cases hq : s[i] = 39 ∨ s[i] = 92
      · have HF := Lib.hid (fill_quo_yes hq)
        have HQ : Hid (num (39 :: esc.esc quoQ (s.data.toList.take (i + 1))) = (num (39 :: esc.esc quoQ (s.data.toList.take i)) ++ [92]) ++ [(s[i].toNat : Int)]) := Lib.hid (by rw [HS.out, HF.out]; simp [num])
        have n3 : ((s[i].toNat : Int) = 39 ∨ (s[i].toNat : Int) = 92) := by rcases hq with h | h <;> rw [h] <;> simp
        clear hq
        rcases n3 with n3 | n3
        · rw [n3] at HQ
          go_wp2_with (at_builtin; refine append_rd rfl _ _ _ rfl i0 Tryd.underlying39 hi hz0 hz1 hz2 w.heap.size A n c _ rfl (HO.out.alloc _) _ 1 1 [(92 : Int)] rfl (rd_one _ _ (by omega) (by omega) _) (by omega) (by have := HB.out.size; simp; omega) ?_)
          intro A' c' w' hown hbel
          have HO2 := Lib.hid hown; have HB2 := Lib.hid ((HB.out.alloc HB.out.size _).trans hbel); clear hown hbel
          go_wp2_with (at_builtin; refine append_rd rfl _ _ _ rfl i0 Tryd.underlying39 hi hz0 hz1 hz2 w.heap.size A' (n + 1) c' _ rfl (HO2.out.alloc _) _ 1 1 [(39 : Int)] rfl (rd_one _ _ (by omega) (by omega) _) (by omega) (by have := HB2.out.size; simp; omega) ?_)
          intro A2 c2 w2 hown hbel
          have HO3 := Lib.hid hown; have HB3 := Lib.hid ((HB2.out.alloc HB2.out.size _).trans hbel); clear hown hbel
          go_wp2
          go_roundg (s.size - (i + 1))
          case rel => exact ⟨A2, n + 1 + 1, c2, i + 1, rfl, by go_num, by omega, by omega, by have := HNI.out; omega, Lib.hid (by have := HNI.out; omega), Lib.hid (by rw [HQ.out, List.append_assoc]; exact HO3.out), HB3⟩
          case measure => omega
        · rw [n3] at HQ
          go_wp2_with (at_builtin; refine append_rd rfl _ _ _ rfl i0 Tryd.underlying39 hi hz0 hz1 hz2 w.heap.size A n c _ rfl (HO.out.alloc _) _ 1 1 [(92 : Int)] rfl (rd_one _ _ (by omega) (by omega) _) (by omega) (by have := HB.out.size; simp; omega) ?_)
          intro A' c' w' hown hbel
          have HO2 := Lib.hid hown; have HB2 := Lib.hid ((HB.out.alloc HB.out.size _).trans hbel); clear hown hbel
          go_wp2_with (at_builtin; refine append_rd rfl _ _ _ rfl i0 Tryd.underlying39 hi hz0 hz1 hz2 w.heap.size A' (n + 1) c' _ rfl (HO2.out.alloc _) _ 1 1 [(92 : Int)] rfl (rd_one _ _ (by omega) (by omega) _) (by omega) (by have := HB2.out.size; simp; omega) ?_)
          intro A2 c2 w2 hown hbel
          have HO3 := Lib.hid hown; have HB3 := Lib.hid ((HB2.out.alloc HB2.out.size _).trans hbel); clear hown hbel
          go_wp2
          go_roundg (s.size - (i + 1))
          case rel => exact ⟨A2, n + 1 + 1, c2, i + 1, rfl, by go_num, by omega, by omega, by have := HNI.out; omega, Lib.hid (by have := HNI.out; omega), Lib.hid (by rw [HQ.out, List.append_assoc]; exact HO3.out), HB3⟩
          case measure => omega
      · have h1 : s[i] ≠ 39 := fun e => hq (.inl e)
        have h2 : s[i] ≠ 92 := fun e => hq (.inr e)
        have n1 : ((s[i].toNat : Int) == 39) = false := beq_eq_false_iff_ne.2 (ne39 h1)
        have n2 : ((s[i].toNat : Int) == 92) = false := beq_eq_false_iff_ne.2 (ne92 h2)
        have HF := Lib.hid (fill_quo_none h1 h2)
        have HQ : Hid (num (39 :: esc.esc quoQ (s.data.toList.take (i + 1))) = num (39 :: esc.esc quoQ (s.data.toList.take i)) ++ [(s[i].toNat : Int)]) := Lib.hid (by rw [HS.out, HF.out]; simp [num])
        clear hq h1 h2
        go_wp2_with (at_builtin; refine append_rd rfl _ _ _ rfl i0 Tryd.underlying39 hi hz0 hz1 hz2 w.heap.size A n c _ rfl (HO.out.alloc _) _ 1 1 [(s[i].toNat : Int)] rfl (rd_one _ _ hb0 hb9 _) (by omega) (by have := HB.out.size; simp; omega) ?_)
        intro A' c' w' hown hbel
        have HO2 := Lib.hid hown; have HB2 := Lib.hid ((HB.out.alloc HB.out.size _).trans hbel); clear hown hbel
        go_wp2
        go_roundg (s.size - (i + 1))
        case rel => exact ⟨A', n + 1, c', i + 1, rfl, by go_num, by omega, by omega, by have := HNI.out; omega, Lib.hid (by have := HNI.out; omega), Lib.hid (by rw [HQ.out]; exact HO2.out), HB2⟩
        case measure => omega
    · obtain rfl : i = s.size := by omega
      have HE : Hid (num (39 :: esc.esc quoQ (s.data.toList.take s.size)) ++ [39] = num (quoL s.data.toList)) := Lib.hid (by rw [List.take_of_length_le (by rw [len_eq]; omega)]; simp [num, quoL])
      go_wp2_with (at_builtin; refine append_rd rfl _ _ _ rfl i0 Tryd.underlying39 hi hz0 hz1 hz2 w.heap.size A n c _ rfl (HO.out.alloc _) _ 1 1 [(39 : Int)] rfl (rd_one _ _ (by omega) (by omega) _) (by omega) (by have := HB.out.size; simp; omega) ?_)
      intro A' c' w' hown hbel
      have hcv := fun w' (h : Rd w' A' (n + 1) (num (quoL s.data.toList))) => conv_rd (P := Tryd.prog) w' 39 9 5 Tryd.underlying39 Tryd.underlying5 Tryd.underlying9 h c'
      rw [HE.out] at hown
      have hcv := hcv w' hown.rd
      rw [num_tx] at hcv
      have HB2 := Lib.hid ((HB.out.alloc HB.out.size _).trans hbel); clear hown hbel
      go_wp2
      go_ret
      exact ⟨rfl, HB2.out⟩

end Go.Proofs.YtakdbfifbkngnaaDoor.seq

/-
  What the project's FormatInt and the model's FormatInt return: the decimal numeral, for every integer.
  Conditions: the library's table of powers of ten holds what its text lays.
-/
namespace Go.Proofs.YtakdbfifbkngnaaDoor.fmt
open Go.ChangeShapes Go.WideShapes Go.ChangeAt Go.RowKit Go.Sort Go.Lib
set_option linter.unusedVariables false

def Tab (w : World) : Prop := Lib.TabIs Tryd.prog w "internal/strconv.uint64pow10" .u64 Lib.pow10Tab

theorem gTab : Tryd.prog.globalNamed "internal/strconv.uint64pow10" = some 2 := by kernel_rfl
theorem Tab.stays {w w' : World} (h : Tab w) (hb : Below w.heap.size w w') : Tab w' := Joins.tab_stays gTab h hb (Nat.le_refl _)

theorem below_grow (w : World) (k : Nat) (os : Array Obj) : Below w.heap.size w (grow (w.drewN k) os) :=
  ⟨rfl, rfl, rfl, by show w.heap.size ≤ (w.heap ++ os).size; simp, fun j hj => heap_grow_old (w.drewN k) os hj⟩

def num (n : Int) : Value := .string ⟨(Lib.itoa n).toArray⟩

theorem libItoa (n : Int) (h0 : -9223372036854775808 ≤ n) (h1 : n ≤ 9223372036854775807) (w : World) (hT : Tab w) :
    Calls Tryd.prog 25 #[.int .i64 n] w fun e w' => e = .returned (num n) ∧ Below w.heap.size w w' :=
  (Tryd.strconv_Itoa n h0 h1 w hT).mono fun e w' ⟨he, k, os, hw⟩ => ⟨he, hw ▸ below_grow w k os⟩

theorem implFormat (n : Int) (h0 : -9223372036854775808 ≤ n) (h1 : n ≤ 9223372036854775807) (w : World) (hT : Tab w) :
    Calls Tryd.prog 16 #[.int .i64 n] w fun e w' => e = .returned (num n) ∧ Below w.heap.size w w' := by
  have HT := Lib.hid hT; clear hT
  go_enter Tryd.func16, Tryd.ntmps16
  go_wp2_with (go_at_call 25; refine (libItoa n h0 h1 _ HT.out).mono ?_; rintro e w' ⟨rfl, hb⟩)
  go_ret
  exact ⟨rfl, hb⟩

/-- What is left to write (u), and what stands behind it (l), are the numeral of a. -/
def Rest (a : Nat) (u : Int) (l : List UInt8) : Prop := if u = 0 then l = Lib.decDigits a else Lib.decDigits u.natAbs ++ l = Lib.decDigits a
theorem Rest.start' {n : Int} (h : n ≠ 0) : Rest n.natAbs n [] := by
  unfold Rest
  rw [if_neg (by omega), List.append_nil]
theorem bytes_cons (b : UInt8) (l : List UInt8) : (⟨#[b]⟩ : ByteArray) ++ ⟨l.toArray⟩ = ⟨(b :: l).toArray⟩ := by
  apply ByteArray.ext
  apply Array.toList_inj.1
  rw [Joins.data_append]
  rfl
theorem Rest.start {n : Int} (h : 1 ≤ n) : Rest n.natAbs n [] := by
  unfold Rest
  rw [if_neg (by omega), List.append_nil]
theorem Rest.done {a : Nat} {l : List UInt8} (h : Rest a 0 l) : l = Lib.decDigits a := by
  unfold Rest at h
  rwa [if_pos rfl] at h
theorem Rest.step {a : Nat} {u v : Int} {l : List UInt8} (h : Rest a u l) (hu : u ≠ 0) (hv : v.natAbs = u.natAbs / 10) : Rest a v (UInt8.ofNat (48 + u.natAbs % 10) :: l) := by
  unfold Rest at h ⊢
  rw [if_neg hu] at h
  rw [← h]
  by_cases h10 : u.natAbs < 10
  · rw [if_pos (by omega), Lib.decDigits_one h10, Nat.mod_eq_of_lt h10]
    rfl
  · rw [if_neg (by omega), dec.decDigits_step h10, hv, List.append_assoc]
    rfl

theorem Rest.len {a : Nat} {u : Int} {l : List UInt8} (h : Rest a u l) (ha : a ≤ 9223372036854775808) : l.length ≤ 20 := by
  have h1 := decDigits_length a
  have h2 := dec.nDigits_le 20 a (by omega) (by have : (10 : Nat) ^ 20 = 100000000000000000000 := by decide
                                                omega)
  unfold Rest at h
  split at h
  · rw [h]; omega
  · have := congrArg List.length h
    rw [List.length_append] at this
    omega

theorem tneg (u : Int) (h : u ≤ 0) : u.tdiv 10 = -((-u) / 10) ∧ u.tmod 10 = -((-u) % 10) := by
  obtain ⟨v, rfl⟩ : ∃ v : Int, u = -v := ⟨-u, by omega⟩
  rw [Int.neg_tdiv, Int.neg_tmod, Int.neg_neg, Int.tdiv_eq_ediv_of_nonneg (by omega), Int.tmod_eq_emod_of_nonneg (by omega)]
  exact ⟨rfl, rfl⟩

theorem run_byte_string {P : Program} (src dst e : TypeId) (v : Int) (h0 : 0 ≤ v) (h1 : v ≤ 255) (hs : P.underlying src = some (.slice e)) (he : P.underlying e = some (.int .u8)) (hd : P.underlying dst = some .string) (w : World) :
    (convert src dst (.slice (some ⟨w.heap.size, 0, none⟩) 1 1)).run P (w.alloc (.cells #[.int .u8 v] e)) = .ok (.string ⟨#[UInt8.ofNat v.toNat]⟩) (w.alloc (.cells #[.int .u8 v] e)) :=
  run_convert_bytes_back (P := P) _ src dst e ⟨w.heap.size, 0, none⟩ 1 [UInt8.ofNat v.toNat] hs he hd (fun j hj => by
    obtain rfl : j = 0 := by simp at hj; omega
    have hv : ((UInt8.ofNat v.toNat).toNat : Int) = v := by rw [UInt8.toNat_ofNat']; omega
    simp only [List.getElem_cons_zero, hv]
    exact World.cell?_alloc_new _ _ _ 0)

theorem specFormat_pos (n : Int) (h0 : 1 ≤ n) (h1 : n ≤ 9223372036854775807) (w : World) :
    Calls Tryd.prog 14 #[.int .i64 n] w fun e w' => e = .returned (num n) ∧ Below w.heap.size w w' := by
  have hz : (n == 0) = false := by rw [beq_eq_false_iff_ne]; omega
  go_enter Tryd.func14, Tryd.ntmps14
  go_wp2
  go_loopw [3, 4] (fun s x wr => ∃ (u : Int) (l : List UInt8), 0 ≤ u ∧ u ≤ n ∧ x = .int .i64 u ∧ s = .string ⟨l.toArray⟩ ∧ Rest n.natAbs u l ∧ Below w.heap.size w wr) (fun _ x _ => (RowKit.intOf x).toNat)
  case atStart => exact ⟨n, [], by omega, by omega, rfl, rfl, Rest.start h0, Below.refl _ _⟩
  case round =>
    obtain ⟨u, l, hu0, hu1, rfl, rfl, hR, hb⟩ := hrel
    have hl := hR.len (by omega)
    by_cases hu : u = 0
    · subst hu
      have HR := Lib.hid hR.done; clear hR
      go_wp2
      go_ret
      exact ⟨by rw [HR.out]; unfold num; rw [dec.itoa_pos' (by omega), show n.toNat = n.natAbs by omega]; rfl, hb⟩
    · have hun : (u == 0) = false := by rw [beq_eq_false_iff_ne]; omega
      have hd0 : 0 ≤ u % 10 := by omega
      have hd9 : u % 10 ≤ 9 := by omega
      have HR := Lib.hid (hR.step hu (v := u / 10) (by omega)); clear hR
      have hcv := run_byte_string (P := Tryd.prog) 39 9 5 (48 + u % 10) (by omega) (by omega) Tryd.underlying39 Tryd.underlying5 Tryd.underlying9
      go_wp2
      refine ⟨⟨u / 10, UInt8.ofNat (48 + u.natAbs % 10) :: l, by omega, by omega, rfl, ?_, HR.out, hb.alloc hb.size _⟩, ?_⟩
      · rw [show (48 + u % 10).toNat = 48 + u.natAbs % 10 by omega]
        exact congrArg Value.string (bytes_cons _ _)
      · simp only [RowKit.intOf]; omega

theorem specFormat_neg (n : Int) (h0 : -9223372036854775808 ≤ n) (h1 : n < 0) (w : World) :
    Calls Tryd.prog 14 #[.int .i64 n] w fun e w' => e = .returned (num n) ∧ Below w.heap.size w w' := by
  have hz : (n == 0) = false := by rw [beq_eq_false_iff_ne]; omega
  go_enter Tryd.func14, Tryd.ntmps14
  go_wp2
  go_loopw [3, 4] (fun s x wr => ∃ (u : Int) (l : List UInt8), u ≤ 0 ∧ n ≤ u ∧ x = .int .i64 u ∧ s = .string ⟨l.toArray⟩ ∧ Rest n.natAbs u l ∧ Below w.heap.size w wr) (fun _ x _ => (RowKit.intOf x).natAbs)
  case atStart => exact ⟨n, [], by omega, by omega, rfl, rfl, Rest.start' (by omega), Below.refl _ _⟩
  case round =>
    obtain ⟨u, l, hu0, hu1, rfl, rfl, hR, hb⟩ := hrel
    have hl := hR.len (by omega)
    by_cases hu : u = 0
    · subst hu
      have HR := Lib.hid hR.done; clear hR
      go_wp2
      go_ret
      exact ⟨by rw [HR.out]; unfold num; rw [dec.itoa_neg' (by omega)]; exact congrArg (fun s => Ending.returned (Value.string s)) (bytes_cons _ _), hb⟩
    · have hun : (u == 0) = false := by rw [beq_eq_false_iff_ne]; omega
      obtain ⟨e1, e2⟩ := tneg u hu0
      have HR := Lib.hid (hR.step hu (v := u.tdiv 10) (by rw [e1]; omega)); clear hR
      have hd0 : u.tmod 10 ≤ 0 := by omega
      have hd9 : -9 ≤ u.tmod 10 := by omega
      have hv0 : u.tdiv 10 ≤ 0 := by omega
      have hv9 : u ≤ u.tdiv 10 := by omega
      have hm : (u.tdiv 10).natAbs < u.natAbs := by omega
      have E2 := Lib.hid e2; clear e1 e2
      by_cases hd : u.tmod 10 < 0
      · have hcv := run_byte_string (P := Tryd.prog) 39 9 5 (48 + -u.tmod 10) (by omega) (by omega) Tryd.underlying39 Tryd.underlying5 Tryd.underlying9
        go_wp2
        refine ⟨⟨u.tdiv 10, UInt8.ofNat (48 + u.natAbs % 10) :: l, by omega, by omega, rfl, ?_, HR.out, hb.alloc hb.size _⟩, ?_⟩
        · have e2 := E2.out
          rw [show (48 + -u.tmod 10).toNat = 48 + u.natAbs % 10 by omega]
          exact congrArg Value.string (bytes_cons _ _)
        · simp only [RowKit.intOf]; omega
      · have hz0 : u.tmod 10 = 0 := by omega
        have hcv := run_byte_string (P := Tryd.prog) 39 9 5 48 (by omega) (by omega) Tryd.underlying39 Tryd.underlying5 Tryd.underlying9
        go_wp2
        refine ⟨⟨u.tdiv 10, UInt8.ofNat (48 + u.natAbs % 10) :: l, by omega, by omega, rfl, ?_, HR.out, hb.alloc hb.size _⟩, ?_⟩
        · have e2 := E2.out
          rw [show 48 + u.natAbs % 10 = 48 by omega]
          exact congrArg Value.string (bytes_cons _ _)
        · simp only [RowKit.intOf]; omega

theorem specFormat_zero (w : World) :
    Calls Tryd.prog 14 #[.int .i64 0] w fun e w' => e = .returned (num 0) ∧ Below w.heap.size w w' := by
  go_enter Tryd.func14, Tryd.ntmps14
  go_wp2
  go_ret
  exact ⟨by unfold num; rw [dec.itoa_pos' (by omega)]; show _ = Ending.returned (.string ⟨(decDigits 0).toArray⟩); rw [Lib.decDigits_one (by omega)]; rfl, Below.refl _ _⟩

theorem specFormat (n : Int) (h0 : -9223372036854775808 ≤ n) (h1 : n ≤ 9223372036854775807) (w : World) :
    Calls Tryd.prog 14 #[.int .i64 n] w fun e w' => e = .returned (num n) ∧ Below w.heap.size w w' := by
  by_cases hn : n < 0
  · exact specFormat_neg n h0 hn w
  · by_cases hz : n = 0
    · subst hz; exact specFormat_zero w
    · exact specFormat_pos n (by omega) h1 w

end Go.Proofs.YtakdbfifbkngnaaDoor.fmt

/-
  How a slice of bytes that came in is opened, and the last step of every law: a call that returns true and changes nothing that was there meets its row.
  Conditions: those that each theorem names.
-/
namespace Go.Proofs.YtakdbfifbkngnaaDoor.opn
open Go.ChangeShapes Go.WideShapes Go.ChangeAt Go.RowKit mem
set_option linter.unusedVariables false

section
variable {H : Type} {enc : TypeId × Value → H} {P : Program}

theorem all_stay (hl : laidOutB P = true) {W W' : World} (hb : Below W.heap.size W W') : ∀ (ts : List TypeId) (vs : List Value) (ds : List (DataW H)) (ps : List MemPlace),
    (∀ t ∈ ts, P.readableRec t = true ∧ t < P.types.size) → (∀ x ∈ ps, x.block < W.heap.size) → DataW.TrodAll enc P W 0 (fun _ => true) true ts vs ds ps →
    DataW.TrodAll enc P W' 0 (fun b => decide (b < W.heap.size)) true ts vs ds ps
  | [], vs, ds, ps, _, _, h => by
    obtain ⟨rfl, rfl, rfl⟩ := trodAll_nil h
    exact trodAll_mk0
  | t :: ts, vs, ds, ps, hr, hlt, h => by
    obtain ⟨v, vs', d, ds', p, q, rfl, rfl, rfl, h0, h1⟩ := trodAll_cons h
    have ht := hr t List.mem_cons_self
    exact trodAll_cons_mk (Below.trod hl ht.1 ht.2 h0 hb (fun x hx => hlt x (List.mem_append_left _ hx)))
      (all_stay hl hb ts vs' ds' q (fun u hu => hr u (List.mem_cons_of_mem _ hu)) (fun x hx => hlt x (List.mem_append_right _ hx)) h1)

/-- A law's post, from what its walk gives. -/
theorem post_true {f : Func} {s : ChangeSpec} {W W' : World} {args : Array Value} {ds : List (DataW H)} {before : List MemPlace} {tb : TypeId}
    (hW : DataW.Whole enc P f.params.toList s.vars false W args.toList ds [] before) (hv : s.vars = []) (hp : DataW.TrodAll enc P W 0 (fun _ => true) true f.params.toList args.toList ds before)
    (hfn : s.fn H (ds ++ []) = { results := [.lit (.bool true)], args := ds }) (hr : f.resultTypes = #[tb]) (htb : P.underlying tb = some .bool)
    (hl : laidOutB P = true) (hrd : f.params.toList.all (fun t => P.readableRec t && decide (t < P.types.size)) = true) (hb : Below W.heap.size W W') :
    s.post enc P f false true false false W args (.bool true) W' := by
  have hst := all_stay (enc := enc) hl hb f.params.toList args.toList ds before (fun t ht => by have := List.all_eq_true.1 hrd t ht; simpa using this) (fun x hx => hW.lt x hx) hp
  refine ⟨ds, [], before, [], before, [], hW, ?_, ?_, ?_, hb.frame _, fun h => by cases h⟩
  · rw [hfn, hr]
    exact trodAll_mk1 (shut_bool htb _)
  · rw [hfn]
    exact hst
  · rw [hfn, hv]
    rfl

theorem wf_u8 {n : Int} (h : (Lit.int .u8 n).wf = true) : 0 ≤ n ∧ n ≤ 255 := by
  have e1 : IntKind.u8.min = 0 := rfl
  have e2 : IntKind.u8.max = 255 := rfl
  simp [Lit.wf, e1, e2] at h
  omega

/-- A slice of bytes that came in. -/
theorem open_bytes {W : World} {base : Nat} {t e : TypeId} {v : Value} {d : DataW H} {ps : List MemPlace} (ht : P.underlying t = some (.slice e)) (he : P.underlying e = some (.int .u8)) (hc : P.cellsOf e = 1)
    (hval : Value.okWide P W .any base t v) (h : DataW.Trod enc P W 0 (fun _ => true) true t v d ps) :
    ∃ (A : Option Addr) (n c : Nat) (l : List Int), v = .slice A n c ∧ n ≤ maxLen ∧ Rd W A n l := by
  obtain ⟨A, n, c, rfl⟩ := okWide_slice ht hval
  obtain ⟨fuel, hf⟩ := h
  rcases open_ints ht he hc hf with ⟨hcs, _⟩ | ⟨a, len, cap, zs, hcs, _, hl, hm, hz, _, hcell, hwz⟩
  · simp [Value.cells] at hcs
    obtain ⟨rfl, rfl, rfl⟩ := hcs
    exact ⟨none, 0, 0, [], rfl, Nat.zero_le _, rfl, (fun _ h => by cases h), fun hn => absurd hn (by omega)⟩
  · simp [Value.cells] at hcs
    obtain ⟨rfl, rfl, rfl⟩ := hcs
    simp only [if_true] at hz
    have hle : n ≤ zs.length := by omega
    refine ⟨some a, n, c, zs.take n, rfl, by omega, by rw [List.length_take]; omega, fun x hx => wf_u8 (hwz x (List.mem_of_mem_take hx)), fun hn => ⟨a, rfl, fun j x hx => ?_⟩⟩
    have hj : j < n := by
      have := (List.getElem?_eq_some_iff.1 hx).1
      rw [List.length_take] at this
      omega
    rw [List.getElem?_take, if_pos hj] at hx
    have hcj := hcell j (by omega)
    rw [hcj]
    simp [List.getD, hx]
end
end Go.Proofs.YtakdbfifbkngnaaDoor.opn

/-
  A token that a law gets: how it is opened, copied and measured; what TokenText of the project and of the model returns.
  Conditions: those that each theorem names.
-/
namespace Go.Proofs.YtakdbfifbkngnaaDoor.lex
open Go.ChangeShapes Go.WideShapes Go.ChangeAt Go.RowKit Go.Deep
set_option linter.unusedVariables false

def I64' (n : Int) : Prop := -9223372036854775808 ≤ n ∧ n ≤ 9223372036854775807
abbrev tkS (t : Tk) : Value := .agg #[.int .i64 t.kind, .int .i64 t.num, .string t.text, .int .i64 t.at_]
section
variable {H : Type} {enc : TypeId × Value → H} {P : Program} {w : World} {base : Nat} {spare : Nat → Bool} {held : Bool}
theorem wf_i64' {n : Int} (h : (Lit.int .i64 n).wf = true) : I64' n := by
  have e1 : IntKind.i64.min = -9223372036854775808 := rfl
  have e2 : IntKind.i64.max = 9223372036854775807 := rfl
  simp [Lit.wf, e1, e2] at h
  exact h
theorem one_of' {cs : List Value} {f : Field} {j : Nat} (hc : P.cellsOf f.type = 1) (ho : f.offset = j) (hj : j < cs.length) : (cs.drop f.offset).take (P.cellsOf f.type) = [cs[j]] := by
  rw [hc, ho, List.drop_eq_getElem_cons hj]; rfl
theorem open_tok {tK : TypeId} (T : ∃ f0 f1 f2 f3 : Field, P.underlying tK = some (.struct #[f0, f1, f2, f3]) ∧ P.underlying f0.type = some (.int .i64) ∧ P.underlying f1.type = some (.int .i64) ∧ P.underlying f2.type = some .string ∧ P.underlying f3.type = some (.int .i64) ∧ oneCellFields P #[f0, f1, f2, f3] = true)
    (cK : P.cellsOf tK = 4) {fuel : Nat} {cs : List Value} {x : DataW H × List MemPlace} (h : DataW.trod enc P w base spare held fuel tK cs = some x) :
    ∃ k : Tk, cs = [.int .i64 k.kind, .int .i64 k.num, .string k.text, .int .i64 k.at_] ∧ (I64' k.kind ∧ I64' k.num ∧ I64' k.at_) ∧ k.text.size ≤ maxLen := by
  obtain ⟨f0, f1, f2, f3, hu, h0, h1, h2, h3, hone⟩ := T
  obtain ⟨xs, n, rfl, hx, hl, hxl, hall⟩ := DataW.trod_struct hu h
  rw [cK] at hl
  match cs, hl with
  | [c0, c1, c2, c3], _ =>
    obtain ⟨o0, k0⟩ := hone_of hone 0 f0 rfl
    obtain ⟨o1, k1⟩ := hone_of hone 1 f1 rfl
    obtain ⟨o2, k2⟩ := hone_of hone 2 f2 rfl
    obtain ⟨o3, k3⟩ := hone_of hone 3 f3 rfl
    have e0 := hall 0 f0 rfl
    have e1 := hall 1 f1 rfl
    have e2 := hall 2 f2 rfl
    have e3 := hall 3 f3 rfl
    rw [one_of' k0 o0 (by simp)] at e0
    rw [one_of' k1 o1 (by simp)] at e1
    rw [one_of' k2 o2 (by simp)] at e2
    rw [one_of' k3 o3 (by simp)] at e3
    have l0 : xs[0]? = some (xs[0]'(by simp at hxl; omega)) := List.getElem?_eq_getElem _
    have l1 : xs[1]? = some (xs[1]'(by simp at hxl; omega)) := List.getElem?_eq_getElem _
    have l2 : xs[2]? = some (xs[2]'(by simp at hxl; omega)) := List.getElem?_eq_getElem _
    have l3 : xs[3]? = some (xs[3]'(by simp at hxl; omega)) := List.getElem?_eq_getElem _
    obtain ⟨m0, hm0, _, hw0⟩ := DataW.trod_int h0 (e0.trans l0)
    obtain ⟨m1, hm1, _, hw1⟩ := DataW.trod_int h1 (e1.trans l1)
    obtain ⟨s, hs, _, hz⟩ := DataW.trod_string h2 (e2.trans l2)
    obtain ⟨m3, hm3, _, hw3⟩ := DataW.trod_int h3 (e3.trans l3)
    simp at hm0 hm1 hs hm3
    subst hm0 hm1 hs hm3
    exact ⟨⟨m0, m1, s, m3⟩, rfl, ⟨wf_i64' hw0, wf_i64' hw1, wf_i64' hw3⟩, by simpa [Lit.wf] using hz⟩
set_option maxRecDepth 100000 in
theorem open_token {enc : TypeId × Value → H} {W : World} {v : Value} {d : DataW H} {ps : List MemPlace} (hval : Value.okWide Tryd.prog W .any base 24 v) (h : DataW.Trod enc Tryd.prog W 0 (fun _ => true) true 24 v d ps) :
    ∃ y : Tk, v = tkS y ∧ (I64' y.kind ∧ I64' y.num ∧ I64' y.at_) ∧ y.text.size ≤ maxLen := by
  obtain ⟨cs, rfl, hsz⟩ := okWide_struct Tryd.underlying24 hval
  obtain ⟨fuel, hf⟩ := h
  obtain ⟨y, he, hn, hs⟩ := open_tok ⟨_, _, _, _, Tryd.underlying24, by kernel_rfl, by kernel_rfl, by kernel_rfl, by kernel_rfl, by kernel_rfl⟩ (by kernel_rfl) hf
  refine ⟨y, ?_, hn, hs⟩
  unfold tkS
  congr 1
  apply Array.ext'
  simpa [Value.cells] using he
end

def GvQ (w : World) (v : Value) (e : Ending) (w' : World) : Prop := e = .returned v ∧ Below w.heap.size w w'
theorem al2 (w : World) (o o' : Obj) : Below w.heap.size w ((w.alloc o).alloc o') := ((Below.refl w.heap.size w).alloc (Nat.le_refl _) _).alloc (by simp) _
theorem toToken (t : Tk) (w : World) : Calls Tryd.prog 9 #[tkS t] w (GvQ w (tkS t)) := by
  obtain ⟨k, n, s, a⟩ := t
  unfold tkS
  go_enter Tryd.func9, Tryd.ntmps9
  go_wp2
  refine bodyPost_ret (v := .agg #[.int .i64 k, .int .i64 n, .string s, .int .i64 a]) (by simp [results, Tryd.results9, go_sem]) rfl ⟨rfl, ((((Below.refl w.heap.size w).alloc (Nat.le_refl _) _).alloc (by simp) _).alloc (by simp; omega) _)⟩

theorem szToken (t : Tk) (ht : t.text.size ≤ maxLen) (w : World) : Calls Tryd.prog 7 #[tkS t, .int .i64 1048576] w (GvQ w (.int .i64 (if t.text.size ≤ 1048576 then 1048576 - (t.text.size : Int) else -1))) := by
  obtain ⟨k, n, s, a⟩ := t
  unfold maxLen at ht
  show Calls _ _ _ _ (GvQ w (.int .i64 (if s.size ≤ 1048576 then _ else _)))
  unfold tkS
  simp only at ht ⊢
  by_cases h : s.size ≤ 1048576
  · rw [if_pos h]
    have h1 : ¬ (1048576 : Int) - (s.size : Int) < 0 := by omega
    go_enter Tryd.func7, Tryd.ntmps7
    go_wp2
    go_ret
    exact ⟨rfl, (Below.refl w.heap.size w).alloc (Nat.le_refl _) _⟩
  · rw [if_neg h]
    have h1 : (1048576 : Int) - (s.size : Int) < 0 := by omega
    go_enter Tryd.func7, Tryd.ntmps7
    go_wp2
    go_ret
    exact ⟨rfl, (Below.refl w.heap.size w).alloc (Nat.le_refl _) _⟩

theorem cloneT (s : ByteArray) (hs : s.size ≤ 1099511627776) (w : World) : Calls Tryd.prog 18 #[.string s] w fun e w' => e = .returned (.string s) ∧ Below w.heap.size w w' := by
  go_enter Tryd.func18, Tryd.ntmps18
  go_wp2_with (fail)
  refine (Tryd.stringslite_Clone s _ (by omega)).mono ?_
  rintro e w1 ⟨rfl, hb⟩
  go_wp2
  go_ret
  exact ⟨rfl, hb⟩

theorem keepc {W w1 : World} {g : Nat} {o : Obj} (hb : Below W.heap.size W w1) (h : W.heap[g]? = some o) : w1.heap[g]? = some o :=
  (hb.block g (Array.getElem?_eq_some_iff.1 h).1).trans h
theorem rowcc {w : World} {g : Nat} {cs : Array Value} {t : TypeId} (h : w.heap[g]? = some (.cells cs t (0, 0))) : (∀ j, w.cell? ⟨g, j, none⟩ = cs[j]?) ∧ (∀ j, w.frozen? ⟨g, j, none⟩ = false) :=
  ⟨fun j => cell_of_row w g j cs t _ h, fun j => frozen_of_row w g j cs t h⟩
/-- A token's text. -/
def tkT (t : Tk) : ByteArray :=
  if t.kind = 2 then tx (36 :: t.text.data.toList) else if t.kind = 4 then ⟨(Lib.itoa t.num).toArray⟩ else if t.kind = 5 then tx (seq.quoL t.text.data.toList)
  else if t.kind = 1 ∨ t.kind = 3 ∨ t.kind = 6 then t.text else ⟨#[]⟩
theorem dollar (s : ByteArray) : (⟨#[36]⟩ : ByteArray) ++ s = tx (36 :: s.data.toList) := by
  apply ByteArray.ext
  simp []

set_option maxHeartbeats 1000000 in
theorem tokenText_i (t : Tk) (ht : t.text.size ≤ 1099511627776) (hn : I64' t.num) (w : World) (hT : fmt.Tab w) : Calls Tryd.prog 10 #[tkS t] w (GvQ w (.string (tkT t))) := by
  obtain ⟨k, n, s, a⟩ := t
  simp only at ht hn
  obtain ⟨hn0, hn1⟩ := hn
  unfold tkS tkT
  simp only
  have HT := Lib.hid hT
  clear hT
  have HA : ∀ o, Hid (fmt.Tab (w.alloc o)) := fun o => Lib.hid (HT.out.stays ((Below.refl w.heap.size w).alloc (Nat.le_refl _) _))
  by_cases h2 : k = 2
  · subst h2
    have HD := Lib.hid (dollar s)
    rw [if_pos rfl, ← HD.out]
    clear HD
    go_enter Tryd.func10, Tryd.ntmps10
    go_wp2
    go_ret
    exact ⟨rfl, (Below.refl w.heap.size w).alloc (Nat.le_refl _) _⟩
  rw [if_neg h2]
  by_cases h4 : k = 4
  · subst h4
    rw [if_pos rfl]
    go_enter Tryd.func10, Tryd.ntmps10
    go_wp2_with (fail)
    refine (fmt.implFormat n hn0 hn1 _ (HA _).out).mono ?_
    rintro e w1 ⟨rfl, hb⟩
    have HB := Lib.hid (((Below.refl w.heap.size w).alloc (Nat.le_refl _) _).trans (hb.mono (by simp)))
    clear hb
    unfold fmt.num
    go_wp2_with (fail)
    go_ret
    exact ⟨rfl, HB.out⟩
  rw [if_neg h4]
  by_cases h5 : k = 5
  · subst h5
    rw [if_pos rfl]
    obtain ⟨q, hq⟩ : ∃ q, q = tx (seq.quoL s.data.toList) := ⟨_, rfl⟩
    have HQ := Lib.hid hq
    clear hq
    go_enter Tryd.func10, Tryd.ntmps10
    go_wp2_with (fail)
    refine (seq.quo_i s ht _).mono ?_
    rintro e w1 ⟨he, hb⟩
    obtain rfl : e = .returned (.string q) := he.trans (by rw [HQ.out])
    have HB := Lib.hid (((Below.refl w.heap.size w).alloc (Nat.le_refl _) _).trans (hb.mono (by simp)))
    clear hb he
    go_wp2_with (fail)
    go_ret
    exact ⟨by rw [← HQ.out]; rfl, HB.out⟩
  rw [if_neg h5]
  by_cases h6 : k = 1 ∨ k = 3 ∨ k = 6
  · rw [if_pos h6]
    rcases h6 with rfl | rfl | rfl
    all_goals
      go_enter Tryd.func10, Tryd.ntmps10
      go_wp2_with (fail)
      refine (cloneT s ht _).mono ?_
      rintro e w1 ⟨rfl, hb⟩
      have HB := Lib.hid (((Below.refl w.heap.size w).alloc (Nat.le_refl _) _).trans (hb.mono (by simp)))
      clear hb
      go_wp2_with (fail)
      go_ret
      exact ⟨rfl, HB.out⟩
  · rw [if_neg h6]
    have n1 : k ≠ 1 := fun e => h6 (.inl e)
    have n3 : k ≠ 3 := fun e => h6 (.inr (.inl e))
    have n6 : k ≠ 6 := fun e => h6 (.inr (.inr e))
    have b1 : (k == 1) = false := beq_eq_false_iff_ne.2 n1
    have b2 : (k == 2) = false := beq_eq_false_iff_ne.2 h2
    have b3 : (k == 3) = false := beq_eq_false_iff_ne.2 n3
    have b4 : (k == 4) = false := beq_eq_false_iff_ne.2 h4
    have b5 : (k == 5) = false := beq_eq_false_iff_ne.2 h5
    have b6 : (k == 6) = false := beq_eq_false_iff_ne.2 n6
    go_enter Tryd.func10, Tryd.ntmps10
    go_wp2_with (fail)
    go_ret
    exact ⟨rfl, (Below.refl w.heap.size w).alloc (Nat.le_refl _) _⟩

set_option maxHeartbeats 1000000 in
theorem tokenText_s (t : Tk) (ht : t.text.size ≤ 1099511627776) (hn : I64' t.num) (w : World) (hT : fmt.Tab w) : Calls Tryd.prog 8 #[tkS t] w (GvQ w (.string (tkT t))) := by
  obtain ⟨k, n, s, a⟩ := t
  simp only at ht hn
  obtain ⟨hn0, hn1⟩ := hn
  unfold tkS tkT
  simp only
  have HT := Lib.hid hT
  clear hT
  have HA : ∀ o, Hid (fmt.Tab (w.alloc o)) := fun o => Lib.hid (HT.out.stays ((Below.refl w.heap.size w).alloc (Nat.le_refl _) _))
  by_cases h2 : k = 2
  · subst h2
    have HD := Lib.hid (dollar s)
    rw [if_pos rfl, ← HD.out]
    clear HD
    go_enter Tryd.func8, Tryd.ntmps8
    go_wp2
    go_ret
    exact ⟨rfl, (Below.refl w.heap.size w).alloc (Nat.le_refl _) _⟩
  rw [if_neg h2]
  by_cases h4 : k = 4
  · subst h4
    rw [if_pos rfl]
    go_enter Tryd.func8, Tryd.ntmps8
    go_wp2_with (fail)
    refine (fmt.specFormat n hn0 hn1 _).mono ?_
    rintro e w1 ⟨rfl, hb⟩
    have HB := Lib.hid (((Below.refl w.heap.size w).alloc (Nat.le_refl _) _).trans (hb.mono (by simp)))
    clear hb
    unfold fmt.num
    go_wp2_with (fail)
    go_ret
    exact ⟨rfl, HB.out⟩
  rw [if_neg h4]
  by_cases h5 : k = 5
  · subst h5
    rw [if_pos rfl]
    obtain ⟨q, hq⟩ : ∃ q, q = tx (seq.quoL s.data.toList) := ⟨_, rfl⟩
    have HQ := Lib.hid hq
    clear hq
    go_enter Tryd.func8, Tryd.ntmps8
    go_wp2_with (fail)
    refine (seq.quo_s s ht _).mono ?_
    rintro e w1 ⟨he, hb⟩
    obtain rfl : e = .returned (.string q) := he.trans (by rw [HQ.out])
    have HB := Lib.hid (((Below.refl w.heap.size w).alloc (Nat.le_refl _) _).trans (hb.mono (by simp)))
    clear hb he
    go_wp2_with (fail)
    go_ret
    exact ⟨by rw [← HQ.out]; rfl, HB.out⟩
  rw [if_neg h5]
  by_cases h6 : k = 1 ∨ k = 3 ∨ k = 6
  · rw [if_pos h6]
    rcases h6 with rfl | rfl | rfl
    all_goals
      go_enter Tryd.func8, Tryd.ntmps8
      go_wp2_with (fail)
      go_ret
      exact ⟨rfl, (Below.refl w.heap.size w).alloc (Nat.le_refl _) _⟩
  · rw [if_neg h6]
    have n1 : k ≠ 1 := fun e => h6 (.inl e)
    have n3 : k ≠ 3 := fun e => h6 (.inr (.inl e))
    have n6 : k ≠ 6 := fun e => h6 (.inr (.inr e))
    have b1 : (k == 1) = false := beq_eq_false_iff_ne.2 n1
    have b2 : (k == 2) = false := beq_eq_false_iff_ne.2 h2
    have b3 : (k == 3) = false := beq_eq_false_iff_ne.2 n3
    have b4 : (k == 4) = false := beq_eq_false_iff_ne.2 h4
    have b5 : (k == 5) = false := beq_eq_false_iff_ne.2 h5
    have b6 : (k == 6) = false := beq_eq_false_iff_ne.2 n6
    go_enter Tryd.func8, Tryd.ntmps8
    go_wp2_with (fail)
    go_ret
    exact ⟨rfl, (Below.refl w.heap.size w).alloc (Nat.le_refl _) _⟩

end Go.Proofs.YtakdbfifbkngnaaDoor.lex

/-
  What the package variables that a row lists hold gives what the library's writing of numbers wants.
  Conditions: the variables hold what the program's text lays.
-/
namespace Go.Proofs.YtakdbfifbkngnaaDoor.lex
open Go.ChangeShapes Go.WideShapes Go.ChangeAt Go.RowKit
set_option linter.unusedVariables false

namespace envT
def laidOf : List (String × DataW Unit) := Rows.fnExactTokenTextRow.laid
theorem tTab : (Tryd.prog.globals[2]?).map (·.type) = some 69 := by kernel_rfl
theorem env_of {W : World} (h : laidMetH Tryd.prog laidOf W) : fmt.Tab W := by
  rw [MakeChecks.laidMetH_plain _ _ _ (by kernel_rfl)] at h
  exact Lib.tabIs_of_head fmt.gTab tTab Tryd.underlying69 Tryd.underlying60 (by kernel_rfl) (by kernel_rfl) h.tail.tail
theorem door_met (os : Os) (args : Array Value) : laidMetH Tryd.prog laidOf ((World.doorLaid Tryd.prog 400 os).forCall (fun _ _ => 0) ⟨#[], args, []⟩).memory :=
  laidMetH_of_parts3 (fuel := 8) (laidMet_of_run' 8 (by kernel_rfl) (by kernel_rfl)) (by kernel_rfl) (by kernel_rfl)
end envT

end Go.Proofs.YtakdbfifbkngnaaDoor.lex

