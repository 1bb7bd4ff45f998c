/-
  What the texts behind this one use: 18 of the parts of one proof.
  Conditions: those that each theorem names.
-/
import Derived.Lib.ItoaNum
import Derived.Lib.AtoiAllCases
import Derived.Test.YtlbkbcafkjgckaaDoorRows
import Derived.Test.YtlbkbcafkjgckaaDoorShelf
import Derived.WalkKit
import Derived.ProofKit
import Derived.IntWalk
import Derived.Lib.Hide
import Derived.Lib.SmallJoins
import Derived.BigQuiet
import Derived.Deep.QuietTactic
import Derived.WalkLawsBesides
import Derived.Lib.ItoaLen
import Derived.Maps.OwnOps
import Derived.WideKeyRuns
import Derived.Laws.StructEq
import Derived.Deep.RegionHeld3
import Derived.Deep.CutBlock
import Derived.Deep.DeepCutAuto
import Derived.Deep.LoopGhost
import Derived.LaidEql
import Derived.Maps.AppendAt
import Derived.Lib.Bytealg
import Derived.Lib.Small
import Derived.Test.YtlbkbcafkjgckaaDoorExactCompareValues1
/-
  Plain facts on decimal numerals, without the program: a numeral is read back, its digits are digits, and what the project's and the model's way of reading a text give is the same number.
  Conditions: those that each theorem names.
-/
namespace Go.Proofs.YtlbkbcafkjgckaaDoor.dec
open Go.Lib

def isDig (b : UInt8) : Prop := 48 ≤ b.toNat ∧ b.toNat ≤ 57
instance (b : UInt8) : Decidable (isDig b) := by unfold isDig; infer_instance

def digStep (a : Nat) (b : UInt8) : Nat := 10 * a + (b.toNat - 48)
theorem digStep_eq (a : Nat) (b : UInt8) : digStep a b = 10 * a + (b.toNat - 48) := by unfold digStep; rfl
def valFrom (a : Nat) (l : List UInt8) : Nat := l.foldl digStep a
def val (l : List UInt8) : Nat := valFrom 0 l

theorem valFrom_nil (a : Nat) : valFrom a [] = a := by unfold valFrom; rw [List.foldl_nil]
theorem valFrom_cons (a : Nat) (b : UInt8) (l : List UInt8) : valFrom a (b :: l) = valFrom (10 * a + (b.toNat - 48)) l := by unfold valFrom; rw [List.foldl_cons, digStep_eq]
theorem valFrom_snoc (l : List UInt8) (a : Nat) (b : UInt8) : valFrom a (l ++ [b]) = 10 * valFrom a l + (b.toNat - 48) := by
  unfold valFrom
  rw [List.foldl_append, List.foldl_cons, List.foldl_nil, digStep_eq]
theorem val_snoc (l : List UInt8) (b : UInt8) : val (l ++ [b]) = 10 * val l + (b.toNat - 48) := valFrom_snoc l 0 b

theorem toNat_dig {d : Nat} (h : d < 10) : (UInt8.ofNat (48 + d)).toNat = 48 + d := by
  rw [UInt8.toNat_ofNat']
  omega

theorem decDigits_step {u : Nat} (h : ¬ u < 10) : decDigits u = decDigits (u / 10) ++ [UInt8.ofNat (48 + u % 10)] := by
  rw [decDigits, dif_neg h]

theorem decDigits_dig : ∀ (u : Nat) (b : UInt8), b ∈ decDigits u → isDig b := by
  intro u
  induction u using Nat.strongRecOn with
  | _ u ih =>
    intro b hb
    by_cases h : u < 10
    · rw [decDigits_one h] at hb
      simp only [List.mem_singleton] at hb
      subst hb
      unfold isDig
      rw [toNat_dig h]
      omega
    · rw [decDigits_step h] at hb
      rcases List.mem_append.1 hb with hb | hb
      · exact ih (u / 10) (by omega) b hb
      · simp only [List.mem_singleton] at hb
        subst hb
        unfold isDig
        rw [toNat_dig (by omega)]
        omega

theorem val_decDigits (u : Nat) : val (decDigits u) = u := by
  induction u using Nat.strongRecOn with
  | _ u ih =>
    by_cases h : u < 10
    · rw [decDigits_one h]
      unfold val
      rw [valFrom_cons, valFrom_nil, toNat_dig h]
      omega
    · rw [decDigits_step h, val_snoc, ih (u / 10) (by omega), toNat_dig (by omega)]
      omega

theorem decDigits_ne (u : Nat) : decDigits u ≠ [] := by
  intro h
  have := decDigits_length u
  rw [h] at this
  have h1 := nDigits_pos u
  simp at this
  omega

theorem nDigits_le : ∀ (k u : Nat), 1 ≤ k → u < 10 ^ k → nDigits u ≤ k
  | 0, u, h, _ => by omega
  | k + 1, u, _, h => by
    by_cases hs : u < 10
    · rw [nDigits_small hs]; omega
    · rw [nDigits_big hs]
      rw [Nat.pow_succ] at h
      by_cases hk : k = 0
      · subst hk; simp at h; omega
      · have := nDigits_le k (u / 10) (by omega) (by omega)
        omega

theorem valFrom_ge : ∀ (l : List UInt8) (a : Nat), a ≤ valFrom a l
  | [], a => by rw [valFrom_nil]; omega
  | b :: l, a => by
    rw [valFrom_cons]
    have := valFrom_ge l (10 * a + (b.toNat - 48))
    omega

theorem parse_digs : ∀ (l : List UInt8) (a : Nat), (∀ b ∈ l, isDig b) → valFrom a l < 18446744073709551616 → parseUint10 a l = .ok (valFrom a l)
  | [], a, _, _ => rfl
  | b :: l, a, hd, hv => by
    have hb : isDig b := hd b List.mem_cons_self
    unfold isDig at hb
    rw [valFrom_cons] at hv ⊢
    have h1 := valFrom_ge l (10 * a + (b.toNat - 48))
    have e : a * 10 + (b.toNat - 48) = 10 * a + (b.toNat - 48) := by omega
    rw [parseUint10, if_pos hb, if_neg (by omega), if_neg (by omega), e]
    exact parse_digs l _ (fun x hx => hd x (List.mem_cons_of_mem _ hx)) hv

theorem parseMag_dec {u : Nat} (h : u < 18446744073709551616) : parseMag (decDigits u) = .ok u := by
  unfold parseMag
  rw [if_neg (decDigits_ne u)]
  have hv := val_decDigits u
  unfold val at hv
  rw [parse_digs _ 0 (decDigits_dig u) (by omega), hv]

theorem head_dec (u : Nat) : ∃ b r, decDigits u = b :: r ∧ isDig b := by
  cases h : decDigits u with
  | nil => exact absurd h (decDigits_ne u)
  | cons b r => exact ⟨b, r, rfl, decDigits_dig u b (by rw [h]; exact List.mem_cons_self)⟩

/-- What is written is read again. -/
theorem atoi_itoa (n : Int) (h0 : -9223372036854775808 ≤ n) (h1 : n ≤ 9223372036854775807) : atoiAll (itoa n) = .ok n := by
  unfold itoa
  by_cases hn : n < 0
  · rw [if_pos hn, atoiAll_minus, parseMag_dec (by omega)]
    simp only [signed]
    rw [if_neg (by omega)]
    congr 1
    omega
  · rw [if_neg hn]
    obtain ⟨b, r, e, hb⟩ := head_dec n.toNat
    unfold isDig at hb
    have hp : parseMag (b :: r) = .ok n.toNat := by rw [← e]; exact parseMag_dec (by omega)
    rw [e, atoiAll_plain b r (by omega) (by omega), hp]
    simp only [signless]
    rw [if_neg (by omega)]
    congr 1
    omega

theorem itoa_inj {n m : Int} (h0 : -9223372036854775808 ≤ n) (h1 : n ≤ 9223372036854775807) (k0 : -9223372036854775808 ≤ m) (k1 : m ≤ 9223372036854775807) (h : itoa n = itoa m) : n = m := by
  have a := atoi_itoa n h0 h1
  have b := atoi_itoa m k0 k1
  rw [h, b] at a
  injection a with a
  exact a.symm

/-- What the project's reading gives, of the numbers from low to high. -/
def pr (low high : Int) (l : List UInt8) : Int × Bool :=
  match atoiAll l with
  | .ok n => if itoa n = l ∧ low ≤ n ∧ n ≤ high then (n, true) else (0, false)
  | _ => (0, false)

theorem pr_yes {low high n : Int} {l : List UInt8} (h : itoa n = l) (h0 : -9223372036854775808 ≤ n) (h1 : n ≤ 9223372036854775807) (hl : low ≤ n) (hh : n ≤ high) : pr low high l = (n, true) := by
  have e : atoiAll l = .ok n := by rw [← h]; exact atoi_itoa n h0 h1
  unfold pr
  rw [e]
  exact if_pos ⟨h, hl, hh⟩

theorem pr_no {low high : Int} {l : List UInt8} (h : ∀ n, itoa n = l → low ≤ n → n ≤ high → False) : pr low high l = (0, false) := by
  unfold pr
  split
  · rw [if_neg (fun hh => h _ hh.1 hh.2.1 hh.2.2)]
  · rfl

theorem pr_true {low high : Int} {l : List UInt8} (h : (pr low high l).2 = true) : itoa (pr low high l).1 = l ∧ low ≤ (pr low high l).1 ∧ (pr low high l).1 ≤ high := by
  unfold pr at h ⊢
  split at h
  · split at h
    · rename_i hc
      rw [if_pos hc]
      exact hc
    · cases h
  · cases h

theorem pr_false {low high : Int} {l : List UInt8} (h : (pr low high l).2 = false) : (pr low high l).1 = 0 := by
  unfold pr at h ⊢
  split at h
  · split at h
    · cases h
    · rename_i hc
      rw [if_neg hc]
  · rfl

/-- What the model's reading gives. -/
def sp (l : List UInt8) : Int × Bool := if 1 ≤ l.length ∧ l.length ≤ 13 ∧ (∀ b ∈ l, isDig b) ∧ val l ≤ 1000000000000 ∧ itoa (val l : Int) = l then ((val l : Int), true) else (0, false)

theorem itoa_nat (u : Nat) : itoa (u : Int) = decDigits u := by unfold itoa; rw [if_neg (by omega)]; simp

theorem sp_eq (l : List UInt8) : sp l = pr 0 1000000000000 l := by
  unfold sp
  split
  · rename_i h
    obtain ⟨_, _, _, h4, h5⟩ := h
    exact (pr_yes h5 (by omega) (by omega) (by omega) (by omega)).symm
  · rename_i h
    refine (pr_no fun n hn h0 h1 => h ?_).symm
    obtain ⟨u, rfl⟩ := Int.eq_ofNat_of_zero_le h0
    rw [itoa_nat] at hn
    have hv := val_decDigits u
    have hl := decDigits_length u
    have hp := nDigits_pos u
    have hd := nDigits_le 13 u (by omega) (by have : (10 : Nat) ^ 13 = 10000000000000 := by decide
                                              omega)
    subst hn
    rw [hv, itoa_nat]
    exact ⟨by omega, by omega, decDigits_dig u, by omega, rfl⟩

/-- What the model's reading with a sign gives. -/
def sps (l : List UInt8) : Int × Bool :=
  if l.head? = some 45 then
    (if (sp l.tail).2 = true ∧ (sp l.tail).1 ≤ 1000000000 ∧ (sp l.tail).1 ≠ 0 then (-(sp l.tail).1, true) else (0, false))
  else
    (if (sp l).2 = true ∧ (sp l).1 ≤ 1000000000 then ((sp l).1, true) else (0, false))

theorem itoa_neg' {n : Int} (h : n < 0) : itoa n = 45 :: decDigits n.natAbs := by unfold itoa; rw [if_pos h]
theorem itoa_pos' {n : Int} (h : ¬ n < 0) : itoa n = decDigits n.toNat := by unfold itoa; rw [if_neg h]

theorem dig_head {u : Nat} : (decDigits u).head? ≠ some 45 := by
  obtain ⟨b, r, e, hb⟩ := head_dec u
  rw [e]
  intro h
  simp only [List.head?_cons, Option.some.injEq] at h
  subst h
  unfold isDig at hb
  have : (45 : UInt8).toNat = 45 := rfl
  omega

theorem sps_eq (l : List UInt8) : sps l = pr (-1000000000) 1000000000 l := by
  unfold sps
  rw [sp_eq, sp_eq]
  split
  · rename_i hh
    obtain ⟨r, rfl⟩ : ∃ r, l = 45 :: r := by
      cases l with
      | nil => simp at hh
      | cons b r => simp at hh; exact ⟨r, by rw [hh]⟩
    have ht : (45 :: r).tail = r := rfl
    rw [ht]
    by_cases hc : (pr 0 1000000000000 r).2 = true ∧ (pr 0 1000000000000 r).1 ≤ 1000000000 ∧ (pr 0 1000000000000 r).1 ≠ 0
    · rw [if_pos hc]
      obtain ⟨c1, c2, c3⟩ := hc
      obtain ⟨e1, e2, e3⟩ := pr_true c1
      refine (pr_yes ?_ (by omega) (by omega) (by omega) (by omega)).symm
      rw [itoa_neg' (by omega)]
      rw [itoa_pos' (by omega)] at e1
      rw [← e1]
      congr 2
      rw [e1]
      omega
    · rw [if_neg hc]
      refine (pr_no fun n hn h0 h1 => hc ?_).symm
      by_cases hneg : n < 0
      · rw [itoa_neg' hneg] at hn
        injection hn with _ hn
        have hy : pr 0 1000000000000 r = ((n.natAbs : Int), true) := pr_yes (by rw [itoa_nat, hn]) (by omega) (by omega) (by omega) (by omega)
        rw [hy]
        exact ⟨rfl, by show (n.natAbs : Int) ≤ 1000000000; omega, by show (n.natAbs : Int) ≠ 0; omega⟩
      · rw [itoa_pos' hneg] at hn
        exact absurd (by rw [hn]; rfl) (dig_head (u := n.toNat))
  · rename_i hh
    by_cases hc : (pr 0 1000000000000 l).2 = true ∧ (pr 0 1000000000000 l).1 ≤ 1000000000
    · rw [if_pos hc]
      obtain ⟨c1, c2⟩ := hc
      obtain ⟨e1, e2, e3⟩ := pr_true c1
      exact (pr_yes e1 (by omega) (by omega) (by omega) (by omega)).symm
    · rw [if_neg hc]
      refine (pr_no fun n hn h0 h1 => hc ?_).symm
      by_cases hneg : n < 0
      · rw [itoa_neg' hneg] at hn
        exact absurd (by rw [← hn]; rfl) hh
      · have hy : pr 0 1000000000000 l = (n, true) := pr_yes hn (by omega) (by omega) (by omega) (by omega)
        rw [hy]
        exact ⟨rfl, by show n ≤ 1000000000; omega⟩

end Go.Proofs.YtlbkbcafkjgckaaDoor.dec

/-
  What the project's FormatInt and the model's FormatInt return: the decimal numeral, for every integer.
  Conditions: the library's table of powers of ten holds what its text lays.
-/
namespace Go.Proofs.YtlbkbcafkjgckaaDoor.fmt
open Go.ChangeShapes Go.WideShapes Go.ChangeAt Go.RowKit Go.Sort Go.Lib
set_option linter.unusedVariables false

def Tab (w : World) : Prop := Lib.TabIs Tryd.prog w "internal/strconv.uint64pow10" .u64 Lib.pow10Tab

theorem gTab : Tryd.prog.globalNamed "internal/strconv.uint64pow10" = some 5 := by kernel_rfl
theorem Tab.stays {w w' : World} (h : Tab w) (hb : Below w.heap.size w w') : Tab w' := Joins.tab_stays gTab h hb (Nat.le_refl _)

theorem below_grow (w : World) (k : Nat) (os : Array Obj) : Below w.heap.size w (grow (w.drewN k) os) :=
  ⟨rfl, rfl, rfl, by show w.heap.size ≤ (w.heap ++ os).size; simp, fun j hj => heap_grow_old (w.drewN k) os hj⟩

def num (n : Int) : Value := .string ⟨(Lib.itoa n).toArray⟩

theorem libItoa (n : Int) (h0 : -9223372036854775808 ≤ n) (h1 : n ≤ 9223372036854775807) (w : World) (hT : Tab w) :
    Calls Tryd.prog 145 #[.int .i64 n] w fun e w' => e = .returned (num n) ∧ Below w.heap.size w w' :=
  (Tryd.strconv_Itoa n h0 h1 w hT).mono fun e w' ⟨he, k, os, hw⟩ => ⟨he, hw ▸ below_grow w k os⟩

theorem implFormat (n : Int) (h0 : -9223372036854775808 ≤ n) (h1 : n ≤ 9223372036854775807) (w : World) (hT : Tab w) :
    Calls Tryd.prog 123 #[.int .i64 n] w fun e w' => e = .returned (num n) ∧ Below w.heap.size w w' := by
  have HT := Lib.hid hT; clear hT
  go_enter Tryd.func123, Tryd.ntmps123
  go_wp2_with (go_at_call 145; refine (libItoa n h0 h1 _ HT.out).mono ?_; rintro e w' ⟨rfl, hb⟩)
  go_ret
  exact ⟨rfl, hb⟩

/-- What is left to write (u), and what stands behind it (l), are the numeral of a. -/
def Rest (a : Nat) (u : Int) (l : List UInt8) : Prop := if u = 0 then l = Lib.decDigits a else Lib.decDigits u.natAbs ++ l = Lib.decDigits a
theorem Rest.start' {n : Int} (h : n ≠ 0) : Rest n.natAbs n [] := by
  unfold Rest
  rw [if_neg (by omega), List.append_nil]
theorem bytes_cons (b : UInt8) (l : List UInt8) : (⟨#[b]⟩ : ByteArray) ++ ⟨l.toArray⟩ = ⟨(b :: l).toArray⟩ := by
  apply ByteArray.ext
  apply Array.toList_inj.1
  rw [Joins.data_append]
  rfl
theorem Rest.start {n : Int} (h : 1 ≤ n) : Rest n.natAbs n [] := by
  unfold Rest
  rw [if_neg (by omega), List.append_nil]
theorem Rest.done {a : Nat} {l : List UInt8} (h : Rest a 0 l) : l = Lib.decDigits a := by
  unfold Rest at h
  rwa [if_pos rfl] at h
theorem Rest.step {a : Nat} {u v : Int} {l : List UInt8} (h : Rest a u l) (hu : u ≠ 0) (hv : v.natAbs = u.natAbs / 10) : Rest a v (UInt8.ofNat (48 + u.natAbs % 10) :: l) := by
  unfold Rest at h ⊢
  rw [if_neg hu] at h
  rw [← h]
  by_cases h10 : u.natAbs < 10
  · rw [if_pos (by omega), Lib.decDigits_one h10, Nat.mod_eq_of_lt h10]
    rfl
  · rw [if_neg (by omega), dec.decDigits_step h10, hv, List.append_assoc]
    rfl

theorem Rest.len {a : Nat} {u : Int} {l : List UInt8} (h : Rest a u l) (ha : a ≤ 9223372036854775808) : l.length ≤ 20 := by
  have h1 := decDigits_length a
  have h2 := dec.nDigits_le 20 a (by omega) (by have : (10 : Nat) ^ 20 = 100000000000000000000 := by decide
                                                omega)
  unfold Rest at h
  split at h
  · rw [h]; omega
  · have := congrArg List.length h
    rw [List.length_append] at this
    omega

theorem tneg (u : Int) (h : u ≤ 0) : u.tdiv 10 = -((-u) / 10) ∧ u.tmod 10 = -((-u) % 10) := by
  obtain ⟨v, rfl⟩ : ∃ v : Int, u = -v := ⟨-u, by omega⟩
  rw [Int.neg_tdiv, Int.neg_tmod, Int.neg_neg, Int.tdiv_eq_ediv_of_nonneg (by omega), Int.tmod_eq_emod_of_nonneg (by omega)]
  exact ⟨rfl, rfl⟩

theorem run_byte_string {P : Program} (src dst e : TypeId) (v : Int) (h0 : 0 ≤ v) (h1 : v ≤ 255) (hs : P.underlying src = some (.slice e)) (he : P.underlying e = some (.int .u8)) (hd : P.underlying dst = some .string) (w : World) :
    (convert src dst (.slice (some ⟨w.heap.size, 0, none⟩) 1 1)).run P (w.alloc (.cells #[.int .u8 v] e)) = .ok (.string ⟨#[UInt8.ofNat v.toNat]⟩) (w.alloc (.cells #[.int .u8 v] e)) :=
  run_convert_bytes_back (P := P) _ src dst e ⟨w.heap.size, 0, none⟩ 1 [UInt8.ofNat v.toNat] hs he hd (fun j hj => by
    obtain rfl : j = 0 := by simp at hj; omega
    have hv : ((UInt8.ofNat v.toNat).toNat : Int) = v := by rw [UInt8.toNat_ofNat']; omega
    simp only [List.getElem_cons_zero, hv]
    exact World.cell?_alloc_new _ _ _ 0)

theorem specFormat_pos (n : Int) (h0 : 1 ≤ n) (h1 : n ≤ 9223372036854775807) (w : World) :
    Calls Tryd.prog 32 #[.int .i64 n] w fun e w' => e = .returned (num n) ∧ Below w.heap.size w w' := by
  have hz : (n == 0) = false := by rw [beq_eq_false_iff_ne]; omega
  go_enter Tryd.func32, Tryd.ntmps32
  go_wp2
  go_loopw [3, 4] (fun s x wr => ∃ (u : Int) (l : List UInt8), 0 ≤ u ∧ u ≤ n ∧ x = .int .i64 u ∧ s = .string ⟨l.toArray⟩ ∧ Rest n.natAbs u l ∧ Below w.heap.size w wr) (fun _ x _ => (RowKit.intOf x).toNat)
  case atStart => exact ⟨n, [], by omega, by omega, rfl, rfl, Rest.start h0, Below.refl _ _⟩
  case round =>
    obtain ⟨u, l, hu0, hu1, rfl, rfl, hR, hb⟩ := hrel
    have hl := hR.len (by omega)
    by_cases hu : u = 0
    · subst hu
      have HR := Lib.hid hR.done; clear hR
      go_wp2
      go_ret
      exact ⟨by rw [HR.out]; unfold num; rw [dec.itoa_pos' (by omega), show n.toNat = n.natAbs by omega]; rfl, hb⟩
    · have hun : (u == 0) = false := by rw [beq_eq_false_iff_ne]; omega
      have hd0 : 0 ≤ u % 10 := by omega
      have hd9 : u % 10 ≤ 9 := by omega
      have HR := Lib.hid (hR.step hu (v := u / 10) (by omega)); clear hR
      have hcv := run_byte_string (P := Tryd.prog) 22 9 5 (48 + u % 10) (by omega) (by omega) Tryd.underlying22 Tryd.underlying5 Tryd.underlying9
      go_wp2
      refine ⟨⟨u / 10, UInt8.ofNat (48 + u.natAbs % 10) :: l, by omega, by omega, rfl, ?_, HR.out, hb.alloc hb.size _⟩, ?_⟩
      · rw [show (48 + u % 10).toNat = 48 + u.natAbs % 10 by omega]
        exact congrArg Value.string (bytes_cons _ _)
      · simp only [RowKit.intOf]; omega

theorem specFormat_neg (n : Int) (h0 : -9223372036854775808 ≤ n) (h1 : n < 0) (w : World) :
    Calls Tryd.prog 32 #[.int .i64 n] w fun e w' => e = .returned (num n) ∧ Below w.heap.size w w' := by
  have hz : (n == 0) = false := by rw [beq_eq_false_iff_ne]; omega
  go_enter Tryd.func32, Tryd.ntmps32
  go_wp2
  go_loopw [3, 4] (fun s x wr => ∃ (u : Int) (l : List UInt8), u ≤ 0 ∧ n ≤ u ∧ x = .int .i64 u ∧ s = .string ⟨l.toArray⟩ ∧ Rest n.natAbs u l ∧ Below w.heap.size w wr) (fun _ x _ => (RowKit.intOf x).natAbs)
  case atStart => exact ⟨n, [], by omega, by omega, rfl, rfl, Rest.start' (by omega), Below.refl _ _⟩
  case round =>
    obtain ⟨u, l, hu0, hu1, rfl, rfl, hR, hb⟩ := hrel
    have hl := hR.len (by omega)
    by_cases hu : u = 0
    · subst hu
      have HR := Lib.hid hR.done; clear hR
      go_wp2
      go_ret
      exact ⟨by rw [HR.out]; unfold num; rw [dec.itoa_neg' (by omega)]; exact congrArg (fun s => Ending.returned (Value.string s)) (bytes_cons _ _), hb⟩
    · have hun : (u == 0) = false := by rw [beq_eq_false_iff_ne]; omega
      obtain ⟨e1, e2⟩ := tneg u hu0
      have HR := Lib.hid (hR.step hu (v := u.tdiv 10) (by rw [e1]; omega)); clear hR
      have hd0 : u.tmod 10 ≤ 0 := by omega
      have hd9 : -9 ≤ u.tmod 10 := by omega
      have hv0 : u.tdiv 10 ≤ 0 := by omega
      have hv9 : u ≤ u.tdiv 10 := by omega
      have hm : (u.tdiv 10).natAbs < u.natAbs := by omega
      have E2 := Lib.hid e2; clear e1 e2
      by_cases hd : u.tmod 10 < 0
      · have hcv := run_byte_string (P := Tryd.prog) 22 9 5 (48 + -u.tmod 10) (by omega) (by omega) Tryd.underlying22 Tryd.underlying5 Tryd.underlying9
        go_wp2
        refine ⟨⟨u.tdiv 10, UInt8.ofNat (48 + u.natAbs % 10) :: l, by omega, by omega, rfl, ?_, HR.out, hb.alloc hb.size _⟩, ?_⟩
        · have e2 := E2.out
          rw [show (48 + -u.tmod 10).toNat = 48 + u.natAbs % 10 by omega]
          exact congrArg Value.string (bytes_cons _ _)
        · simp only [RowKit.intOf]; omega
      · have hz0 : u.tmod 10 = 0 := by omega
        have hcv := run_byte_string (P := Tryd.prog) 22 9 5 48 (by omega) (by omega) Tryd.underlying22 Tryd.underlying5 Tryd.underlying9
        go_wp2
        refine ⟨⟨u.tdiv 10, UInt8.ofNat (48 + u.natAbs % 10) :: l, by omega, by omega, rfl, ?_, HR.out, hb.alloc hb.size _⟩, ?_⟩
        · have e2 := E2.out
          rw [show 48 + u.natAbs % 10 = 48 by omega]
          exact congrArg Value.string (bytes_cons _ _)
        · simp only [RowKit.intOf]; omega

theorem specFormat_zero (w : World) :
    Calls Tryd.prog 32 #[.int .i64 0] w fun e w' => e = .returned (num 0) ∧ Below w.heap.size w w' := by
  go_enter Tryd.func32, Tryd.ntmps32
  go_wp2
  go_ret
  exact ⟨by unfold num; rw [dec.itoa_pos' (by omega)]; show _ = Ending.returned (.string ⟨(decDigits 0).toArray⟩); rw [Lib.decDigits_one (by omega)]; rfl, Below.refl _ _⟩

theorem specFormat (n : Int) (h0 : -9223372036854775808 ≤ n) (h1 : n ≤ 9223372036854775807) (w : World) :
    Calls Tryd.prog 32 #[.int .i64 n] w fun e w' => e = .returned (num n) ∧ Below w.heap.size w w' := by
  by_cases hn : n < 0
  · exact specFormat_neg n h0 hn w
  · by_cases hz : n = 0
    · subst hz; exact specFormat_zero w
    · exact specFormat_pos n (by omega) h1 w

end Go.Proofs.YtlbkbcafkjgckaaDoor.fmt

/-
  A text's copy; a part of what a list of items holds.
  Conditions: those that each theorem names.
-/
namespace Go.Proofs.YtlbkbcafkjgckaaDoor.tree
open Go.ChangeShapes Go.WideShapes Go.ChangeAt Go.RowKit
set_option linter.unusedVariables false

theorem implClone' (s : ByteArray) (hs : s.size ≤ 1099511627776) (w : World) : Calls Tryd.prog 67 #[.string s] w fun e w' => e = .returned (.string s) ∧ Below w.heap.size w w' := by
  go_enter Tryd.func67, Tryd.ntmps67
  go_wp2_with (fail)
  refine (Tryd.stringslite_Clone s _ (by omega)).mono ?_
  rintro e w1 ⟨rfl, hb⟩
  go_wp2
  go_ret
  exact ⟨rfl, hb⟩

theorem tots_key : ∀ {ks : List Ky} {vs : List Tr} {j : Nat} {y : Ky} {t : Tr}, ks[j]? = some y → vs[j]? = some t → y.str.size + tot t ≤ tots ks vs
  | [], _, j, _, _, h, _ => by simp at h
  | _, [], j, _, _, _, h => by simp at h
  | y :: ks, t :: vs, 0, _, _, h, h' => by
    simp at h h'
    subst h h'
    rw [tots]
    omega
  | y :: ks, t :: vs, j + 1, _, _, h, h' => by
    have := tots_key (ks := ks) (vs := vs) (j := j) (by simpa using h) (by simpa using h')
    rw [tots]
    omega

end Go.Proofs.YtlbkbcafkjgckaaDoor.tree

/-
  ToText and ToNumber of the project and of the model, with the errors between.
  Conditions: the value holds at most 10^9 items and letters; the table of powers of ten and the project's two errors hold what the program's text lays.
-/
namespace Go.Proofs.YtlbkbcafkjgckaaDoor.ers
open Go.ChangeShapes Go.WideShapes Go.ChangeAt Go.RowKit tree
set_option linter.unusedVariables false

theorem gT : Tryd.prog.globalNamed "loop.example/g03011/impl.errNoText" = some 0 := by kernel_rfl
theorem gN : Tryd.prog.globalNamed "loop.example/g03011/impl.errNoNumber" = some 1 := by kernel_rfl
/-- The error of a value without text. -/
def HasT (w : World) (a : Addr) : Prop := w.var? Tryd.prog "loop.example/g03011/impl.errNoText" = some #[.iface 206 (.pointer (some a))]
def HasN (w : World) (b : Addr) : Prop := w.var? Tryd.prog "loop.example/g03011/impl.errNoNumber" = some #[.iface 206 (.pointer (some b))]
theorem HasT.stays {w w' : World} {a : Addr} (h : HasT w a) (hb : Below w.heap.size w w') : HasT w' a := Joins.var_stays gT h hb (Nat.le_refl _)
theorem HasN.stays {w w' : World} {a : Addr} (h : HasN w a) (hb : Below w.heap.size w w') : HasN w' a := Joins.var_stays gN h hb (Nat.le_refl _)
theorem HasT.cell {w : World} {a : Addr} (h : HasT w a) : w.cell? ⟨0, 0, none⟩ = some (.iface 206 (.pointer (some a))) := by simpa using World.var?_cell gT h 0
theorem HasN.cell {w : World} {a : Addr} (h : HasN w a) : w.cell? ⟨1, 0, none⟩ = some (.iface 206 (.pointer (some a))) := by simpa using World.var?_cell gN h 0

theorem code_nil (w : World) : Calls Tryd.prog 82 #[.nilIface] w fun e w' => e = .returned (.int .i64 0) ∧ w' = w := by
  go_enter Tryd.func82, Tryd.ntmps82
  go_wp2
  go_ret
  exact ⟨rfl, rfl⟩
theorem code_text (a : Addr) (w : World) (hT : HasT w a) : Calls Tryd.prog 82 #[.iface 206 (.pointer (some a))] w fun e w' => e = .returned (.int .i64 1) ∧ w' = w := by
  have hc := hT.cell
  clear hT
  go_enter Tryd.func82, Tryd.ntmps82
  go_wp2_with (fail)
  refine (is_same a _).mono ?_
  rintro e w1 ⟨rfl, rfl⟩
  go_wp2_with (fail)
  go_ret
  exact ⟨rfl, rfl⟩
theorem code_num (a b : Addr) (ca cb : Array Value) (ta tb : TypeId) (w : World) (hT : HasT w a) (hne : b ≠ a) (ha : w.heap[a.block]? = some (.cells ca ta (0, 0))) (hb : w.heap[b.block]? = some (.cells cb tb (0, 0))) :
    Calls Tryd.prog 82 #[.iface 206 (.pointer (some b))] w fun e w' => e = .returned (.int .i64 2) ∧ w' = w := by
  have hc := hT.cell
  have HA := Lib.hid ha
  have HB := Lib.hid hb
  clear hT ha hb
  go_enter Tryd.func82, Tryd.ntmps82
  go_wp2_with (fail)
  refine (is_other b a cb ca tb ta _ hne HB.out HA.out).mono ?_
  rintro e w1 ⟨rfl, rfl⟩
  go_wp2_with (fail)
  go_ret
  exact ⟨rfl, rfl⟩


/-- The text of a value, and whether it has one. -/
def tt : Tr → ByteArray × Bool
  | .mk k n s _ _ _ => if k = 0 then (⟨#[]⟩, true) else if k = 1 then (if n = 0 then ⟨#[]⟩ else ⟨#[49]⟩, true) else if k = 2 then (⟨(Lib.itoa n).toArray⟩, true) else if k = 3 then (s, true) else (⟨#[]⟩, false)
theorem tt_mk (k n : Int) (s : ByteArray) (x : Int) (ks : List Ky) (vs : List Tr) : tt (.mk k n s x ks vs) = if k = 0 then (⟨#[]⟩, true) else if k = 1 then (if n = 0 then ⟨#[]⟩ else ⟨#[49]⟩, true) else if k = 2 then (⟨(Lib.itoa n).toArray⟩, true) else if k = 3 then (s, true) else (⟨#[]⟩, false) := rfl
theorem tt_size (k n : Int) (s : ByteArray) (x : Int) (ks : List Ky) (vs : List Tr) (hs : s.size ≤ 1000000000) (hn : -9223372036854775808 ≤ n ∧ n ≤ 9223372036854775807) : (tt (.mk k n s x ks vs)).1.size ≤ 1099511627776 := by
  rw [tt_mk]
  split
  · simp [ByteArray.size]
  · split
    · show ByteArray.size (if n = 0 then _ else _) ≤ _
      split <;> simp [ByteArray.size]
    · split
      · show (Lib.itoa n).toArray.size ≤ _
        have := Lib.itoa_length_le n hn.1 hn.2
        simp
        omega
      · split
        · show s.size ≤ _
          omega
        · simp [ByteArray.size]
/-- ToText's two answers. -/
def ttV (t : Tr) : Value := .tuple #[.string (tt t).1, .int .i64 (if (tt t).2 then 0 else 1)]
/-- textOf's two answers. -/
def toV (a : Addr) (t : Tr) : Value := .tuple #[.string (tt t).1, if (tt t).2 then .nilIface else .iface 206 (.pointer (some a))]

set_option maxHeartbeats 1000000 in
theorem textOf (t : Tr) (v : Value) (w : World) (S : Nat → Prop) (h : TIn w S t v) (hT : tot t ≤ 1000000000) (a : Addr) (hE : fmt.Tab w) (hA : HasT w a) : Calls Tryd.prog 81 #[v] w (GivesQ w (toV a t)) := by
  obtain ⟨k, n, s, x, ks, vs⟩ := t
  have TB := fun w' (hb : Below w.heap.size w w') => toBool_i (.mk k n s x ks vs) v w' S (h.below' hb)
  obtain ⟨A, c, rfl, hk, -⟩ := h.out
  rw [tot_mk] at hT
  have FM := Lib.hid (fun w' (hb : Below w.heap.size w w') => fmt.implFormat n hk.2.1.1 hk.2.1.2 w' (hE.stays hb))
  have HA := Lib.hid hA
  have hc := hA.cell
  unfold toV
  rw [tt_mk]
  obtain ⟨L, HL⟩ : ∃ L, Hid (L = vs.length) := ⟨_, Lib.hid rfl⟩
  rw [← HL.out] at TB ⊢
  have hb0 : k = 1 → tb (.mk k n s x ks vs) = (n != 0) := fun h1 => by
    show (if k = 0 then _ else if k = 1 ∨ k = 2 then _ else _) = _
    rw [if_neg (by omega), if_pos (.inl h1)]
  have TB' := fun (h1 : k = 1) w' (hb : Below w.heap.size w w') => hb0 h1 ▸ TB w' hb
  have HTB := Lib.hid TB'
  clear h hT hk hE hA TB TB' hb0
  by_cases h0 : k = 0
  · subst h0
    show Calls _ _ _ _ (GivesQ w (.tuple #[.string ⟨#[]⟩, .nilIface]))
    go_enter Tryd.func81, Tryd.ntmps81
    go_wp2
    go_ret2
    exact ⟨rfl, b1 _ _⟩
  rw [if_neg h0]
  by_cases h1 : k = 1
  · subst h1
    rw [if_pos rfl]
    by_cases hn : n = 0
    · subst hn
      have TB1 : Hid (∀ w' (hb : Below w.heap.size w w'), Calls Tryd.prog 41 #[vV 1 0 s x A L c] w' (GivesQ w' (.bool false))) := Lib.hid (HTB.out rfl)
      unfold vV at TB1
      show Calls _ _ _ _ (GivesQ w (.tuple #[.string ⟨#[]⟩, .nilIface]))
      go_enter Tryd.func81, Tryd.ntmps81
      go_wp2_with (fail)
      refine (TB1.out _ (b1 w _)).mono ?_
      rintro e w1 ⟨rfl, hb1⟩
      have HB1 := Lib.hid (bs (b1 w _) hb1)
      clear hb1
      go_wp2_with (fail)
      go_ret2
      exact ⟨rfl, HB1.out⟩
    · have hn2 : (n != 0) = true := by simp [hn]
      have TB1 : Hid (∀ w' (hb : Below w.heap.size w w'), Calls Tryd.prog 41 #[vV 1 n s x A L c] w' (GivesQ w' (.bool true))) := Lib.hid (fun w' hb => hn2 ▸ HTB.out rfl w' hb)
      unfold vV at TB1
      rw [if_neg hn]
      clear hn hn2
      show Calls _ _ _ _ (GivesQ w (.tuple #[.string ⟨#[49]⟩, .nilIface]))
      go_enter Tryd.func81, Tryd.ntmps81
      go_wp2_with (fail)
      refine (TB1.out _ (b1 w _)).mono ?_
      rintro e w1 ⟨rfl, hb1⟩
      have HB1 := Lib.hid (bs (b1 w _) hb1)
      clear hb1
      go_wp2_with (fail)
      go_ret2
      exact ⟨rfl, HB1.out⟩
  rw [if_neg h1]
  by_cases h2 : k = 2
  · subst h2
    rw [if_pos rfl]
    obtain ⟨z, HZ⟩ : ∃ z : ByteArray, Hid (⟨(Lib.itoa n).toArray⟩ = z) := ⟨_, Lib.hid rfl⟩
    unfold fmt.num at FM
    rw [HZ.out] at FM ⊢
    show Calls _ _ _ _ (GivesQ w (.tuple #[.string z, .nilIface]))
    go_enter Tryd.func81, Tryd.ntmps81
    go_wp2_with (fail)
    refine (FM.out _ (b1 w _)).mono ?_
    rintro e w1 ⟨rfl, hb1⟩
    have HB1 := Lib.hid (bs (b1 w _) hb1)
    clear hb1
    go_wp2_with (fail)
    go_ret2
    exact ⟨rfl, HB1.out⟩
  rw [if_neg h2]
  by_cases h3 : k = 3
  · subst h3
    rw [if_pos rfl]
    show Calls _ _ _ _ (GivesQ w (.tuple #[.string s, .nilIface]))
    go_enter Tryd.func81, Tryd.ntmps81
    go_wp2
    go_ret2
    exact ⟨rfl, b1 _ _⟩
  rw [if_neg h3]
  have hcn : ∀ o, (w.alloc o).cell? ⟨0, 0, none⟩ = some (.iface 206 (.pointer (some a))) := fun o => (HA.out.stays (b1 w o)).cell
  clear hc
  show Calls _ _ _ _ (GivesQ w (.tuple #[.string ⟨#[]⟩, .iface 206 (.pointer (some a))]))
  go_enter Tryd.func81, Tryd.ntmps81
  go_wp2_with (fail)
  go_region
  all_goals
    go_wp2_with (fail)
    go_ret2
    exact ⟨rfl, (b1 _ _).drew⟩

set_option maxHeartbeats 1000000 in
theorem toText_s (t : Tr) (v : Value) (w : World) (S : Nat → Prop) (h : TIn w S t v) (hT : tot t ≤ 1000000000) : Calls Tryd.prog 43 #[v] w (GivesQ w (ttV t)) := by
  obtain ⟨k, n, s, x, ks, vs⟩ := t
  obtain ⟨A, c, rfl, hk, -⟩ := h.out
  rw [tot_mk] at hT
  have FM := Lib.hid (fun w' => fmt.specFormat n hk.2.1.1 hk.2.1.2 w')
  unfold ttV
  rw [tt_mk]
  obtain ⟨L, HL⟩ : ∃ L, Hid (L = vs.length) := ⟨_, Lib.hid rfl⟩
  rw [← HL.out]
  clear h hT hk
  by_cases h0 : k = 0
  · subst h0
    show Calls _ _ _ _ (GivesQ w (.tuple #[.string ⟨#[]⟩, .int .i64 0]))
    go_enter Tryd.func43, Tryd.ntmps43
    go_wp2
    go_ret2
    exact ⟨rfl, b1 _ _⟩
  rw [if_neg h0]
  by_cases h1 : k = 1
  · subst h1
    rw [if_pos rfl]
    by_cases hn : n = 0
    · subst hn
      show Calls _ _ _ _ (GivesQ w (.tuple #[.string ⟨#[]⟩, .int .i64 0]))
      go_enter Tryd.func43, Tryd.ntmps43
      go_wp2
      go_ret2
      exact ⟨rfl, b1 _ _⟩
    · have hn2 : (n == 0) = false := by rw [beq_eq_false_iff_ne]; exact hn
      rw [if_neg hn]
      clear hn
      show Calls _ _ _ _ (GivesQ w (.tuple #[.string ⟨#[49]⟩, .int .i64 0]))
      go_enter Tryd.func43, Tryd.ntmps43
      go_wp2
      go_ret2
      exact ⟨rfl, b1 _ _⟩
  rw [if_neg h1]
  by_cases h2 : k = 2
  · subst h2
    rw [if_pos rfl]
    obtain ⟨z, HZ⟩ : ∃ z : ByteArray, Hid (⟨(Lib.itoa n).toArray⟩ = z) := ⟨_, Lib.hid rfl⟩
    unfold fmt.num at FM
    rw [HZ.out] at FM ⊢
    show Calls _ _ _ _ (GivesQ w (.tuple #[.string z, .int .i64 0]))
    go_enter Tryd.func43, Tryd.ntmps43
    go_wp2_with (fail)
    refine (FM.out _).mono ?_
    rintro e w1 ⟨rfl, hb1⟩
    have HB1 := Lib.hid (bs (b1 w _) hb1)
    clear hb1
    go_wp2_with (fail)
    go_ret2
    exact ⟨rfl, HB1.out⟩
  rw [if_neg h2]
  by_cases h3 : k = 3
  · subst h3
    rw [if_pos rfl]
    show Calls _ _ _ _ (GivesQ w (.tuple #[.string s, .int .i64 0]))
    go_enter Tryd.func43, Tryd.ntmps43
    go_wp2
    go_ret2
    exact ⟨rfl, b1 _ _⟩
  rw [if_neg h3]
  show Calls _ _ _ _ (GivesQ w (.tuple #[.string ⟨#[]⟩, .int .i64 1]))
  go_enter Tryd.func43, Tryd.ntmps43
  go_wp2
  go_ret2
  exact ⟨rfl, b1 _ _⟩

theorem toText_i (t : Tr) (v : Value) (w : World) (S : Nat → Prop) (h : TIn w S t v) (hT : tot t ≤ 1000000000) (a : Addr) (hE : fmt.Tab w) (hA : HasT w a) : Calls Tryd.prog 35 #[v] w (GivesQ w (ttV t)) := by
  have TO := fun w' (hb : Below w.heap.size w w') => textOf t v w' S (h.below' hb) hT a (hE.stays hb) (hA.stays hb)
  obtain ⟨k, n, s, x, ks, vs⟩ := t
  obtain ⟨A, c, rfl, hkk, -⟩ := h.out
  have hI := hkk.2.1
  unfold toV at TO
  unfold ttV
  have hts := tt_size k n s x ks vs (by rw [tot_mk] at hT; omega) ⟨hI.1, hI.2⟩
  obtain ⟨⟨z, ok⟩, HZ⟩ : ∃ z, Hid (tt (.mk k n s x ks vs) = z) := ⟨_, Lib.hid rfl⟩
  rw [HZ.out] at hts
  have CL := Lib.hid (implClone' z hts)
  rw [HZ.out] at TO ⊢
  obtain ⟨L, HL⟩ : ∃ L, Hid (L = vs.length) := ⟨_, Lib.hid rfl⟩
  rw [← HL.out] at TO ⊢
  have HA := Lib.hid hA
  have HTO := Lib.hid TO
  clear h hT hE hA TO hts hkk hI
  cases ok
  · have TO1 : Hid (∀ w' (hb : Below w.heap.size w w'), Calls Tryd.prog 81 #[vV k n s x A L c] w' (GivesQ w' (.tuple #[.string z, .iface 206 (.pointer (some a))]))) := Lib.hid HTO.out
    unfold vV at TO1
    clear HTO
    show Calls _ _ _ _ (GivesQ w (.tuple #[.string z, .int .i64 1]))
    go_enter Tryd.func35, Tryd.ntmps35
    go_wp2_with (fail)
    refine (TO1.out _ (b1 w _)).mono ?_
    rintro e w1 ⟨rfl, hb1⟩
    have HB1 := Lib.hid (bs (b1 w _) hb1)
    clear hb1
    go_wp2_with (fail)
    refine (CL.out _).mono ?_
    rintro e w2 ⟨rfl, hb2⟩
    have HB2 := Lib.hid (bs HB1.out hb2)
    clear hb2
    go_wp2_with (fail)
    refine (code_text a _ (HA.out.stays HB2.out)).mono ?_
    rintro e w3 ⟨rfl, rfl⟩
    go_wp2_with (fail)
    go_ret2
    exact ⟨rfl, HB2.out⟩
  · have TO1 : Hid (∀ w' (hb : Below w.heap.size w w'), Calls Tryd.prog 81 #[vV k n s x A L c] w' (GivesQ w' (.tuple #[.string z, .nilIface]))) := Lib.hid HTO.out
    unfold vV at TO1
    clear HTO
    show Calls _ _ _ _ (GivesQ w (.tuple #[.string z, .int .i64 0]))
    go_enter Tryd.func35, Tryd.ntmps35
    go_wp2_with (fail)
    refine (TO1.out _ (b1 w _)).mono ?_
    rintro e w1 ⟨rfl, hb1⟩
    have HB1 := Lib.hid (bs (b1 w _) hb1)
    clear hb1
    go_wp2_with (fail)
    refine (CL.out _).mono ?_
    rintro e w2 ⟨rfl, hb2⟩
    have HB2 := Lib.hid (bs HB1.out hb2)
    clear hb2
    go_wp2_with (fail)
    refine (code_nil _).mono ?_
    rintro e w3 ⟨rfl, rfl⟩
    go_wp2_with (fail)
    go_ret2
    exact ⟨rfl, HB2.out⟩

end Go.Proofs.YtlbkbcafkjgckaaDoor.ers

/-
  ToNumber of the project and of the model.
  Conditions: the value holds at most 10^9 items and letters; the project's two errors hold pointers that are not the same.
-/
namespace Go.Proofs.YtlbkbcafkjgckaaDoor.ers
open Go.ChangeShapes Go.WideShapes Go.ChangeAt Go.RowKit tree
set_option linter.unusedVariables false

/-- The number of a value, and whether it is one. -/
def nn (t : Tr) : Int × Bool := match t with
  | .mk k n s _ _ _ => if 0 ≤ k ∧ k ≤ 2 then (ti t, true) else if k = 3 then (if lead.isn s then (lead.li s, true) else (0, false)) else (0, false)
theorem nn_mk (k n : Int) (s : ByteArray) (x : Int) (ks : List Ky) (vs : List Tr) : nn (.mk k n s x ks vs) = if 0 ≤ k ∧ k ≤ 2 then (ti (.mk k n s x ks vs), true) else if k = 3 then (if lead.isn s then (lead.li s, true) else (0, false)) else (0, false) := rfl
def nnV (t : Tr) : Value := .tuple #[.int .i64 (nn t).1, .int .i64 (if (nn t).2 then 0 else 2)]
def noV (b : Addr) (t : Tr) : Value := .tuple #[.int .i64 (nn t).1, if (nn t).2 then .nilIface else .iface 206 (.pointer (some b))]

set_option maxHeartbeats 1000000 in
theorem numberOf (t : Tr) (v : Value) (w : World) (S : Nat → Prop) (h : TIn w S t v) (hT : tot t ≤ 1000000000) (b : Addr) (hB : HasN w b) : Calls Tryd.prog 84 #[v] w (GivesQ w (noV b t)) := by
  have TI := fun w' (hb : Below w.heap.size w w') => toInt_i t v w' S (h.below' hb) hT
  obtain ⟨k, n, s, x, ks, vs⟩ := t
  obtain ⟨A, c, rfl, hk, -⟩ := h.out
  rw [tot_mk] at hT
  have LI := Lib.hid (lead.leadingInt_i s (by omega))
  have IN := Lib.hid (lead.isNumeric_i s (by omega))
  unfold noV
  rw [nn_mk]
  obtain ⟨L, HL⟩ : ∃ L, Hid (L = vs.length) := ⟨_, Lib.hid rfl⟩
  obtain ⟨q, HQ⟩ : ∃ q, Hid (ti (.mk k n s x ks vs) = q) := ⟨_, Lib.hid rfl⟩
  obtain ⟨g, HG⟩ : ∃ g, Hid (lead.isn s = g) := ⟨_, Lib.hid rfl⟩
  obtain ⟨l, HLI⟩ : ∃ l, Hid (lead.li s = l) := ⟨_, Lib.hid rfl⟩
  rw [HQ.out] at TI ⊢
  rw [← HL.out] at TI ⊢
  rw [HG.out] at IN ⊢
  rw [HLI.out] at LI ⊢
  have HTI := Lib.hid TI
  have HB := Lib.hid hB
  have hc := hB.cell
  clear h hT hk hB TI
  by_cases h0 : 0 ≤ k ∧ k ≤ 2
  · rw [if_pos h0]
    obtain rfl | rfl | rfl : k = 0 ∨ k = 1 ∨ k = 2 := by omega
    all_goals
      show Calls _ _ _ _ (GivesQ w (.tuple #[.int .i64 q, .nilIface]))
      go_enter Tryd.func84, Tryd.ntmps84
      go_wp2_with (fail)
      refine (HTI.out _ (b1 w _)).mono ?_
      rintro e w1 ⟨rfl, hb1⟩
      have HB1 := Lib.hid (bs (b1 w _) hb1)
      clear hb1
      go_wp2_with (fail)
      go_ret2
      exact ⟨rfl, HB1.out⟩
  rw [if_neg h0]
  by_cases h3 : k = 3
  · subst h3
    rw [if_pos rfl]
    clear h0
    cases g
    · show Calls _ _ _ _ (GivesQ w (.tuple #[.int .i64 0, .iface 206 (.pointer (some b))]))
      go_enter Tryd.func84, Tryd.ntmps84
      go_wp2_with (fail)
      refine (IN.out _).mono ?_
      rintro e w1 ⟨rfl, hb1⟩
      have HB1 := Lib.hid (bs (b1 w _) hb1)
      clear hb1
      have hcn := (HB.out.stays HB1.out).cell
      go_wp2_with (fail)
      go_region
      all_goals
        go_wp2_with (fail)
        go_ret2
        exact ⟨rfl, HB1.out.drew⟩
    · show Calls _ _ _ _ (GivesQ w (.tuple #[.int .i64 l, .nilIface]))
      go_enter Tryd.func84, Tryd.ntmps84
      go_wp2_with (fail)
      refine (IN.out _).mono ?_
      rintro e w1 ⟨rfl, hb1⟩
      have HB1 := Lib.hid (bs (b1 w _) hb1)
      obtain ⟨r1, f1⟩ := rowc (carry hb1 (heap_alloc_new w _))
      clear hb1
      go_wp2_with (fail)
      refine (LI.out _).mono ?_
      rintro e w2 ⟨rfl, hb2⟩
      have HB2 := Lib.hid (bs HB1.out hb2)
      clear hb2
      go_wp2_with (fail)
      go_ret2
      exact ⟨rfl, HB2.out⟩
  rw [if_neg h3]
  have hcn : ∀ o, (w.alloc o).cell? ⟨1, 0, none⟩ = some (.iface 206 (.pointer (some b))) := fun o => (HB.out.stays (b1 w o)).cell
  clear hc
  have h00 : ¬ k = 0 := by omega
  have h01 : ¬ k = 1 := by omega
  have h02 : ¬ k = 2 := by omega
  clear h0
  show Calls _ _ _ _ (GivesQ w (.tuple #[.int .i64 0, .iface 206 (.pointer (some b))]))
  go_enter Tryd.func84, Tryd.ntmps84
  go_wp2_with (fail)
  go_region
  all_goals
    go_wp2_with (fail)
    go_ret2
    exact ⟨rfl, (b1 _ _).drew⟩

set_option maxHeartbeats 1000000 in
theorem toNumber_s (t : Tr) (v : Value) (w : World) (S : Nat → Prop) (h : TIn w S t v) (hT : tot t ≤ 1000000000) : Calls Tryd.prog 46 #[v] w (GivesQ w (nnV t)) := by
  have TI := fun w' (hb : Below w.heap.size w w') => toInt_s t v w' S (h.below' hb) hT
  obtain ⟨k, n, s, x, ks, vs⟩ := t
  obtain ⟨A, c, rfl, hk, -⟩ := h.out
  rw [tot_mk] at hT
  have LI := Lib.hid (lead.leadingInt_s s (by omega))
  have IN := Lib.hid (lead.isNumeric_s s (by omega))
  unfold nnV
  rw [nn_mk]
  obtain ⟨L, HL⟩ : ∃ L, Hid (L = vs.length) := ⟨_, Lib.hid rfl⟩
  obtain ⟨q, HQ⟩ : ∃ q, Hid (ti (.mk k n s x ks vs) = q) := ⟨_, Lib.hid rfl⟩
  obtain ⟨g, HG⟩ : ∃ g, Hid (lead.isn s = g) := ⟨_, Lib.hid rfl⟩
  obtain ⟨l, HLI⟩ : ∃ l, Hid (lead.li s = l) := ⟨_, Lib.hid rfl⟩
  rw [HQ.out] at TI ⊢
  rw [← HL.out] at TI ⊢
  rw [HG.out] at IN ⊢
  rw [HLI.out] at LI ⊢
  have HTI := Lib.hid TI
  clear h hT hk TI
  by_cases h0 : 0 ≤ k ∧ k ≤ 2
  · rw [if_pos h0]
    have HIN : Hid (nums.inr k 0 2 = true) := Lib.hid (by unfold nums.inr; simp; omega)
    clear h0
    show Calls _ _ _ _ (GivesQ w (.tuple #[.int .i64 q, .int .i64 0]))
    go_enter Tryd.func46, Tryd.ntmps46
    go_wp2_with (go_at_call 61; refine (nums.l1In _ _ _ _).mono ?_; rintro e w9 ⟨rfl, rfl⟩; rw [HIN.out])
    refine (HTI.out _ (b1 w _)).mono ?_
    rintro e w1 ⟨rfl, hb1⟩
    have HB1 := Lib.hid (bs (b1 w _) hb1)
    clear hb1
    go_wp2_with (fail)
    go_ret2
    exact ⟨rfl, HB1.out⟩
  rw [if_neg h0]
  have HIN : Hid (nums.inr k 0 2 = false) := Lib.hid (by unfold nums.inr; simp; omega)
  by_cases h3 : k = 3
  · subst h3
    rw [if_pos rfl]
    clear h0
    cases g
    · show Calls _ _ _ _ (GivesQ w (.tuple #[.int .i64 0, .int .i64 2]))
      go_enter Tryd.func46, Tryd.ntmps46
      go_wp2_with (go_at_call 61; refine (nums.l1In _ _ _ _).mono ?_; rintro e w9 ⟨rfl, rfl⟩; rw [HIN.out])
      refine (IN.out _).mono ?_
      rintro e w1 ⟨rfl, hb1⟩
      have HB1 := Lib.hid (bs (b1 w _) hb1)
      clear hb1
      go_wp2_with (fail)
      go_ret2
      exact ⟨rfl, HB1.out⟩
    · show Calls _ _ _ _ (GivesQ w (.tuple #[.int .i64 l, .int .i64 0]))
      go_enter Tryd.func46, Tryd.ntmps46
      go_wp2_with (go_at_call 61; refine (nums.l1In _ _ _ _).mono ?_; rintro e w9 ⟨rfl, rfl⟩; rw [HIN.out])
      refine (IN.out _).mono ?_
      rintro e w1 ⟨rfl, hb1⟩
      have HB1 := Lib.hid (bs (b1 w _) hb1)
      obtain ⟨r1, f1⟩ := rowc (carry hb1 (heap_alloc_new w _))
      clear hb1
      go_wp2_with (fail)
      refine (LI.out _).mono ?_
      rintro e w2 ⟨rfl, hb2⟩
      have HB2 := Lib.hid (bs HB1.out hb2)
      clear hb2
      go_wp2_with (fail)
      go_ret2
      exact ⟨rfl, HB2.out⟩
  rw [if_neg h3]
  have h33 : (k == 3) = false := by rw [beq_eq_false_iff_ne]; exact h3
  clear h0 h3
  show Calls _ _ _ _ (GivesQ w (.tuple #[.int .i64 0, .int .i64 2]))
  go_enter Tryd.func46, Tryd.ntmps46
  go_wp2_with (go_at_call 61; refine (nums.l1In _ _ _ _).mono ?_; rintro e w9 ⟨rfl, rfl⟩; rw [HIN.out])
  go_ret2
  exact ⟨rfl, b1 _ _⟩

theorem toNumber_i (t : Tr) (v : Value) (w : World) (S : Nat → Prop) (h : TIn w S t v) (hT : tot t ≤ 1000000000) (a b : Addr) (ca cb : Array Value) (ta tb : TypeId) (hA : HasT w a) (hB : HasN w b) (hne : b ≠ a) (ha : w.heap[a.block]? = some (.cells ca ta (0, 0))) (hbb : w.heap[b.block]? = some (.cells cb tb (0, 0))) : Calls Tryd.prog 39 #[v] w (GivesQ w (nnV t)) := by
  have TO := fun w' (hb : Below w.heap.size w w') => numberOf t v w' S (h.below' hb) hT b (hB.stays hb)
  obtain ⟨k, n, s, x, ks, vs⟩ := t
  obtain ⟨A, c, rfl, -, -⟩ := h.out
  unfold noV at TO
  unfold nnV
  obtain ⟨⟨z, ok⟩, HZ⟩ : ∃ z, Hid (nn (.mk k n s x ks vs) = z) := ⟨_, Lib.hid rfl⟩
  rw [HZ.out] at TO ⊢
  obtain ⟨L, HL⟩ : ∃ L, Hid (L = vs.length) := ⟨_, Lib.hid rfl⟩
  rw [← HL.out] at TO ⊢
  have HA := Lib.hid hA
  have HTO := Lib.hid TO
  have CN := Lib.hid (fun w' (hb : Below w.heap.size w w') => code_num a b ca cb ta tb w' (hA.stays hb) hne ((hb.block _ (Array.getElem?_eq_some_iff.1 ha).1).trans ha) ((hb.block _ (Array.getElem?_eq_some_iff.1 hbb).1).trans hbb))
  clear h hT hB hA TO ha hbb
  cases ok
  · have TO1 : Hid (∀ w' (hb : Below w.heap.size w w'), Calls Tryd.prog 84 #[vV k n s x A L c] w' (GivesQ w' (.tuple #[.int .i64 z, .iface 206 (.pointer (some b))]))) := Lib.hid HTO.out
    unfold vV at TO1
    clear HTO
    show Calls _ _ _ _ (GivesQ w (.tuple #[.int .i64 z, .int .i64 2]))
    go_enter Tryd.func39, Tryd.ntmps39
    go_wp2_with (fail)
    refine (TO1.out _ (b1 w _)).mono ?_
    rintro e w1 ⟨rfl, hb1⟩
    have HB1 := Lib.hid (bs (b1 w _) hb1)
    clear hb1
    go_wp2_with (fail)
    refine (CN.out _ HB1.out).mono ?_
    rintro e w2 ⟨rfl, rfl⟩
    go_wp2_with (fail)
    go_ret2
    exact ⟨rfl, HB1.out⟩
  · have TO1 : Hid (∀ w' (hb : Below w.heap.size w w'), Calls Tryd.prog 84 #[vV k n s x A L c] w' (GivesQ w' (.tuple #[.int .i64 z, .nilIface]))) := Lib.hid HTO.out
    unfold vV at TO1
    clear HTO
    show Calls _ _ _ _ (GivesQ w (.tuple #[.int .i64 z, .int .i64 0]))
    go_enter Tryd.func39, Tryd.ntmps39
    go_wp2_with (fail)
    refine (TO1.out _ (b1 w _)).mono ?_
    rintro e w1 ⟨rfl, hb1⟩
    have HB1 := Lib.hid (bs (b1 w _) hb1)
    clear hb1
    go_wp2_with (fail)
    refine (code_nil _).mono ?_
    rintro e w2 ⟨rfl, rfl⟩
    go_wp2_with (fail)
    go_ret2
    exact ⟨rfl, HB1.out⟩

end Go.Proofs.YtlbkbcafkjgckaaDoor.ers

/-
  Maps whose keys are structs or arrays, with addresses or without: what a look-up finds and what a store leaves.
  Conditions: those that each theorem names.
-/
namespace Go.Proofs.YtlbkbcafkjgckaaDoor.raw
open Go.MapKept
set_option linter.unusedVariables false

/-- Keys that compare by sameness. -/
structure Good (P : Program) (K : TypeId) (G : World → Value → Prop) : Prop where
  wide : (match P.underlying K with | some (.array _ _) | some (.struct _) => true | _ => false) = true
  check : ∀ (w : World) (em : Bool) (x : Value), G w x → (Instr.checkKey em 10000 K x).run P w = .ok () w
  eq : ∀ (w : World) (x y : Value), G w x → G w y → ∃ r : Bool, (Op.equal K x y).run P w = .ok r w ∧ (r = true ↔ x = y)
  same : ∀ (w : World) (x : Value), G w x → Instr.sameBits 10000 x x = true

open Classical in
noncomputable def look : List MapEntry → Value → Option Value
  | [], _ => none
  | e :: es, k => if e.key = k then some e.val else look es k

open Classical in
noncomputable def put (f : Value → Option Value) (k v : Value) : Value → Option Value := fun k' => if k' = k then some v else f k'
theorem put_same (f : Value → Option Value) (k v : Value) : put f k v k = some v := by simp [put]
theorem put_other {f : Value → Option Value} {k v k' : Value} (h : k' ≠ k) : put f k v k' = f k' := by simp [put, h]

/-- Block B is a map that holds f. -/
def Holds (w : World) (G : World → Value → Prop) (B : Nat) (f : Value → Option Value) : Prop :=
  ∃ es clock, w.heap[B]? = some (.map es clock) ∧ (∀ e ∈ es.toList, G w e.key) ∧ f = look es.toList

section
variable {P : Program} {K E T : TypeId} {G : World → Value → Prop} {w : World} {B : Nat} {f : Value → Option Value}

theorem look_push (l : List MapEntry) (e : MapEntry) (h : look l e.key = none) : look (l ++ [e]) = put (look l) e.key e.val := by
  funext k'
  induction l with
  | nil =>
    by_cases hk : e.key = k'
    · simp [look, put, hk]
    · simp [look, put, hk, Ne.symm hk]
  | cons x l ih =>
    simp only [look] at h
    split at h
    · cases h
    · rename_i hx
      have ih := ih h
      simp only [List.cons_append, look, put] at ih ⊢
      by_cases hxk : x.key = k'
      · have : k' ≠ e.key := fun e1 => hx (hxk.trans e1)
        simp [hxk, this]
      · simp only [if_neg hxk]
        exact ih

theorem look_modify (k v : Value) : ∀ (l : List MapEntry) (j : Nat) (e : MapEntry), l[j]? = some e → e.key = k → (∀ i, i < j → ∀ x, l[i]? = some x → x.key ≠ k) →
    look (l.modify j fun e => { e with key := k, val := v }) = put (look l) k v
  | [], j, e, h, _, _ => by simp at h
  | x :: l, 0, e, h, hk, _ => by
    simp at h
    subst h
    funext k'
    simp only [List.modify_zero_cons, look, put]
    by_cases h2 : k = k'
    · simp [h2]
    · have : x.key ≠ k' := fun e1 => h2 (hk.symm.trans e1)
      simp [h2, this, Ne.symm h2]
  | x :: l, j + 1, e, h, hk, hb => by
    have h' : l[j]? = some e := by simpa using h
    have ih := look_modify k v l j e h' hk (fun i hi y hy => hb (i + 1) (by omega) y (by simpa using hy))
    have hx : x.key ≠ k := hb 0 (by omega) x (by simp)
    funext k'
    have ihk := congrFun ih k'
    simp only [List.modify_succ_cons, look, put] at ihk ⊢
    by_cases h2 : x.key = k'
    · have : k' ≠ k := fun e1 => hx (h2.trans e1)
      simp [h2, this]
    · simp only [if_neg h2]
      exact ihk

theorem find (g : Good P K G) (w : World) {k : Value} (hk : G w k) : ∀ (l : List MapEntry) (i : Nat), (∀ e ∈ l, G w e.key) →
    ((Instr.findAsking K k l i).run P w = .ok none w ∧ look l k = none) ∨
    ∃ j e, (Instr.findAsking K k l i).run P w = .ok (some (i + j, e.val)) w ∧ l[j]? = some e ∧ e.key = k ∧ look l k = some e.val ∧ ∀ i, i < j → ∀ x, l[i]? = some x → x.key ≠ k
  | [], i, _ => .inl ⟨by simp [Instr.findAsking], rfl⟩
  | e :: l, i, hall => by
    obtain ⟨r, hr, hiff⟩ := g.eq w k e.key hk (hall e (by simp))
    cases r
    · have hne : e.key ≠ k := fun h => by
        have := hiff.2 h.symm
        cases this
      rcases find g w hk l (i + 1) (fun y hy => hall y (by simp [hy])) with ⟨h1, h2⟩ | ⟨j, e', h1, h2, h3, h4, h5⟩
      · exact .inl ⟨by simp [Instr.findAsking, hr, h1], by simp [look, hne, h2]⟩
      · refine .inr ⟨j + 1, e', by simp [Instr.findAsking, hr, h1, Nat.add_assoc, Nat.add_comm 1 j], by simpa using h2, h3, by simp [look, hne, h4], fun i hi x hx => ?_⟩
        match i, hi, hx with
        | 0, _, hx => simp at hx; subst hx; exact hne
        | i + 1, hi, hx => exact h5 i (by omega) x (by simpa using hx)
    · have he : e.key = k := (hiff.1 rfl).symm
      exact .inr ⟨0, e, by simp [Instr.findAsking, hr], rfl, he, by simp [look, he], fun i hi => absurd hi (by omega)⟩

/-- What 'm[k]' gives. -/
def Got (c : Bool) (z : Value) (r : Option Value) : Value := if c then .tuple #[r.getD z, .bool r.isSome] else r.getD z

theorem Holds.lookup (h : Holds w G B f) (g : Good P K G) (ht : P.underlying T = some (.map K E)) {z : Value} (hz : (zeroValue E).run P w = .ok z w) {k : Value} (hk : G w k) (c : Bool) :
    (Instr.lookup T (.map (some B)) k c).run P w = .ok (Got c z (f k)) w := by
  obtain ⟨es, clock, hb, hall, rfl⟩ := h
  have hchk := g.check w es.isEmpty k hk
  rcases find g w hk es.toList 0 hall with ⟨h1, h2⟩ | ⟨j, e, h1, h2, h3, h4, h5⟩
  · have hf := (run_findKey_eq w g.wide k es.toList).trans h1
    cases c <;> simp [Instr.lookup, run_underlying ht, MapKept.run_getObj_map hb, hchk, hf, hz, h2, Got, Result.andThen]
  · have hf := (run_findKey_eq w g.wide k es.toList).trans h1
    cases c <;> simp [Instr.lookup, run_underlying ht, MapKept.run_getObj_map hb, hchk, hf, h4, Got, Result.andThen]

/-- Keys stay keys while cells' blocks stay. -/
def Stays (G : World → Value → Prop) : Prop := ∀ (w w' : World) (B : Nat) (x : Value), (∃ es clock, w.heap[B]? = some (.map es clock)) → (∀ b, b ≠ B → b < w.heap.size → w'.heap[b]? = w.heap[b]?) → G w x → G w' x

theorem Holds.update (h : Holds w G B f) (g : Good P K G) (st : Stays G) (ht : P.underlying T = some (.map K E)) {k v : Value} (hk : G w k) :
    ∃ w', (Instr.mapUpdate T (.map (some B)) k v).run P w = .ok () w' ∧ Holds w' G B (put f k v) ∧ w.grownBy w' (some B) := by
  obtain ⟨es, clock, hb, hall, rfl⟩ := h
  have hchk := g.check w false k hk
  have gr : ∀ (o : Obj), w.grownBy { w with heap := w.heap.setIfInBounds B o } (some B) := fun o => ⟨rfl, rfl, rfl, by simp, fun i _ hi => (heap_set (o' := o) hb).2 i (fun e => hi (by rw [e]))⟩
  have keep : ∀ (o : Obj) x, G w x → G { w with heap := w.heap.setIfInBounds B o } x := fun o x hx => st w _ B x ⟨es, clock, hb⟩ (fun b hbne _ => (heap_set (o' := o) hb).2 b hbne) hx
  rcases find g w hk es.toList 0 hall with ⟨h1, h2⟩ | ⟨j, e, h1, h2, h3, h4, h5⟩
  · have hf := (run_findKey_eq w g.wide k es.toList).trans h1
    refine ⟨{ w with heap := w.heap.setIfInBounds B (.map (es.push { key := k, val := v, born := clock }) (clock + 1)) }, by simp [Instr.mapUpdate, run_underlying ht, MapKept.run_getObj_map hb, hchk, hf, MapKept.run_setObj_map _ hb, Result.andThen], ⟨_, _, (heap_set hb).1, ?_, ?_⟩, gr _⟩
    · intro x hx
      simp only [Array.toList_push, List.mem_append, List.mem_singleton] at hx
      rcases hx with hx | rfl
      · exact keep _ _ (hall x hx)
      · exact keep _ _ hk
    · rw [Array.toList_push]
      exact (look_push es.toList ⟨k, v, clock⟩ h2).symm
  · have hf := (run_findKey_eq w g.wide k es.toList).trans h1
    have hj : es[j]? = some e := by simpa using h2
    have hstay : (Instr.keyThatStays k k).run P w = .ok k w := by simp [Instr.keyThatStays, g.same w k hk]
    refine ⟨{ w with heap := w.heap.setIfInBounds B (.map (es.modify j fun e => { e with key := k, val := v }) clock) }, by simp [Instr.mapUpdate, run_underlying ht, MapKept.run_getObj_map hb, hchk, hf, hj, h3, hstay, MapKept.run_setObj_map _ hb, Result.andThen], ⟨_, _, (heap_set hb).1, ?_, ?_⟩, gr _⟩
    · intro x hx
      rw [Array.toList_modify] at hx
      obtain ⟨i, hi⟩ := List.mem_iff_getElem?.1 hx
      rw [List.getElem?_modify] at hi
      by_cases hij : j = i
      · subst hij
        rw [h2] at hi
        simp at hi
        subst hi
        exact keep _ _ hk
      · simp [hij] at hi
        cases hl : es.toList[i]? with
        | none => simp at hl; simp [hl] at hi
        | some y =>
          have : y = x := by simp at hl; simpa [hl] using hi
          exact keep _ _ (hall x (this ▸ List.mem_of_getElem? hl))
    · rw [Array.toList_modify]
      exact (look_modify k v es.toList j e h2 h3 h5).symm

/-- A new map. -/
theorem Holds.made (w : World) (G : World → Value → Prop) : Holds (w.alloc (.map #[] 0)) G w.heap.size (fun _ => none) :=
  ⟨#[], 0, (heap_alloc w _).1, by simp, rfl⟩
theorem Holds.lt (h : Holds w G B f) : B < w.heap.size := by
  obtain ⟨es, clock, hb, _⟩ := h
  exact (Array.getElem?_eq_some_iff.1 hb).1
/-- The map stays while it is not written. -/
theorem Holds.kept (h : Holds w G B f) {w' : World} (hb' : w'.heap[B]? = w.heap[B]?) (hG : ∀ x, G w x → G w' x) : Holds w' G B f := by
  obtain ⟨es, clock, hb, hall, rfl⟩ := h
  exact ⟨es, clock, hb'.trans hb, fun e he => hG _ (hall e he), rfl⟩
end

/-- 'm[k]' at the operation. -/
theorem wpList_lookup {P : Program} (w : World) {ops : Array Oper} {rest : List Oper} {o : Oper} {a : Act} {Q : Exit → Act → World → Prop}
    (hg : o.guard = none) (m x : Operand) (t : TypeId) (c : Bool) (hop : o.op = Op.lookup t m x c)
    {K E : TypeId} {G : World → Value → Prop} {B : Nat} {f : Value → Option Value} (hown : Holds w G B f) (g : Good P K G) (ht : P.underlying t = some (.map K E)) {z : Value} (hz : (zeroValue E).run P w = .ok z w)
    (hm : a.eval m = .map (some B)) {k : Value} (hx : a.eval x = k) (hk : G w k)
    (hK : wpList P ops Q rest (a.put o.dst (Got c z (f k))) w) :
    wpList P ops Q (o :: rest) a w := by
  refine wpList_plain hg fun K' hK' => ?_
  have hrun := hown.lookup g ht hz hk c
  unfold Oper.wp
  simp [execOp, hop, hm, hx, hrun, Result.andThen]
  exact hK' _ _ hK

theorem wpList_lookup_to {P : Program} (w : World) {ops : Array Oper} {rest : List Oper} {o : Oper} {a : Act} {Q : Exit → Act → World → Prop}
    (hg : o.guard = none) (m x : Operand) (t : TypeId) (c : Bool) (hop : o.op = Op.lookup t m x c)
    {K E : TypeId} {G : World → Value → Prop} {B : Nat} {f : Value → Option Value} (hown : Holds w G B f) (g : Good P K G) (ht : P.underlying t = some (.map K E)) {z : Value} (hz : (zeroValue E).run P w = .ok z w)
    (hm : a.eval m = .map (some B)) {k : Value} (hx : a.eval x = k) (hk : G w k) {r : Option Value} (hr : f k = r) {v : Value} (hv : Got c z r = v)
    (hK : wpList P ops Q rest (a.put o.dst v) w) :
    wpList P ops Q (o :: rest) a w :=
  wpList_lookup w hg m x t c hop hown g ht hz hm hx hk (by rw [hr, hv]; exact hK)

/-- An operation whose guard, if it has one, says yes. -/
theorem wpList_wanted {P : Program} {w : World} {ops : Array Oper} {rest : List Oper} {o : Oper} {a : Act} {Q : Exit → Act → World → Prop} (hw : Region.wanted o (yielded ops a.tmps))
    (h : ∀ K : Act → World → Prop, (∀ a w, wpList P ops Q rest a w → K a w) → o.wp P a w K Q) : wpList P ops Q (o :: rest) a w :=
  wpList_step fun K hK => by rw [if_pos hw]; exact h K hK
/-- 'm[k]' behind a guard that says yes. -/
theorem wpList_lookup_w {P : Program} (w : World) {ops : Array Oper} {rest : List Oper} {o : Oper} {a : Act} {Q : Exit → Act → World → Prop}
    (hw : Region.wanted o (yielded ops a.tmps)) (m x : Operand) (t : TypeId) (c : Bool) (hop : o.op = Op.lookup t m x c)
    {K E : TypeId} {G : World → Value → Prop} {B : Nat} {f : Value → Option Value} (hown : Holds w G B f) (g : Good P K G) (ht : P.underlying t = some (.map K E)) {z : Value} (hz : (zeroValue E).run P w = .ok z w)
    (hm : a.eval m = .map (some B)) {k : Value} (hx : a.eval x = k) (hk : G w k) {r : Option Value} (hr : f k = r) {v : Value} (hv : Got c z r = v)
    (hK : wpList P ops Q rest (a.put o.dst v) w) :
    wpList P ops Q (o :: rest) a w := by
  refine wpList_wanted hw fun K' hK' => ?_
  have hrun := hown.lookup g ht hz hk c
  rw [hr, hv] at hrun
  unfold Oper.wp
  simp [execOp, hop, hm, hx, hrun, Result.andThen]
  exact hK' _ _ hK

/-- 'm[k] = v' at the operation. -/
theorem wpList_update {P : Program} (w : World) {ops : Array Oper} {rest : List Oper} {o : Oper} {a : Act} {Q : Exit → Act → World → Prop}
    (hg : o.guard = none) (m x v : Operand) (t : TypeId) (hop : o.op = Op.mapUpdate t m x v)
    {K E : TypeId} {G : World → Value → Prop} {B : Nat} {f : Value → Option Value} (hown : Holds w G B f) (g : Good P K G) (st : Stays G) (ht : P.underlying t = some (.map K E))
    (hm : a.eval m = .map (some B)) {k val : Value} (hx : a.eval x = k) (hv : a.eval v = val) (hk : G w k)
    (hK : ∀ w', Holds w' G B (put f k val) → w.grownBy w' (some B) → wpList P ops Q rest (a.put o.dst undef) w') :
    wpList P ops Q (o :: rest) a w := by
  refine wpList_plain hg fun K' hK' => ?_
  obtain ⟨w', hrun, r1, r2⟩ := hown.update g st ht (v := val) hk
  unfold Oper.wp
  simp [execOp, hop, hm, hx, hv, hrun, Result.andThen]
  exact hK' _ _ (hK w' r1 r2)

end Go.Proofs.YtlbkbcafkjgckaaDoor.raw

/-
  Two keys compared, and keys as the keys of a map.
  Conditions: those that each theorem names.
-/
namespace Go.Proofs.YtlbkbcafkjgckaaDoor.tree
open Go.ChangeShapes Go.WideShapes Go.ChangeAt Go.RowKit
set_option linter.unusedVariables false

instance : DecidableEq Ky := fun a b =>
  match a, b with
  | ⟨t, n, s⟩, ⟨t', n', s'⟩ => if h : t = t' ∧ n = n' ∧ s.data.toList = s'.data.toList then .isTrue (by
      obtain ⟨rfl, rfl, h⟩ := h
      obtain ⟨⟨s⟩⟩ := s
      obtain ⟨⟨s'⟩⟩ := s'
      simp at h
      subst h
      rfl) else .isFalse (fun e => h (by cases e; exact ⟨rfl, rfl, rfl⟩))

theorem kpart1 {P : Program} {w : World} {t : TypeId} {d : TypeDesc} (h : P.underlying t = some d) (hd : (match d with | .struct _ | .array _ _ => true | _ => false) = false) {cs : Array Value} {off : Nat} {v : Value} (hx : cs[off]? = some v) : (part t cs off).run P w = .ok v w := by
  cases d <;> simp_all [part, isAgg, run_underlying h]
theorem bytes_ne {s s' : ByteArray} (h : ¬ s.data.toList = s'.data.toList) : (s.toList == s'.toList) = false ∧ ¬ s.toList = s'.toList := by
  have h1 : ¬ s.toList = s'.toList := fun hh => h (by rwa [ByteArray.toList_eq, ByteArray.toList_eq] at hh)
  exact ⟨beq_false_of_ne h1, h1⟩
theorem bytes_same {s s' : ByteArray} (h : s.data.toList = s'.data.toList) : s = s' := by
  obtain ⟨⟨s⟩⟩ := s
  obtain ⟨⟨s'⟩⟩ := s'
  simp at h
  subst h
  rfl
theorem ik_desc : ∃ f0 f1 f2 : Field, Tryd.prog.underlying IK = some (.struct #[f0, f1, f2]) ∧ f0.name ≠ "_" ∧ f1.name ≠ "_" ∧ f2.name ≠ "_" ∧ f0.type = 4 ∧ f1.type = 3 ∧ f2.type = 9 ∧ f0.offset = 0 ∧ f1.offset = 1 ∧ f2.offset = 2 :=
  ⟨_, _, _, Tryd.underlying28, by decide, by decide, by decide, rfl, rfl, rfl, rfl, rfl, rfl⟩
theorem ik_held : Tryd.prog.stoodInHeld IK = false := by kernel_rfl
theorem ky_eq (d : Nat) (w : World) (y y' : Ky) : (Op.equalIn (d + 2) IK (kyV y) (kyV y')).run Tryd.prog w = .ok (decide (y = y')) w := by
  obtain ⟨b, n, s⟩ := y
  obtain ⟨b', n', s'⟩ := y'
  obtain ⟨f0, f1, f2, hu, n0, n1, n2, t0, t1, t2, o0, o1, o2⟩ := ik_desc
  have hf : Tryd.prog.fieldsOf IK = #[f0, f1, f2] := by simp [Program.fieldsOf, hu]
  have hb := run_equalIn_bool' (P := Tryd.prog) w d 4 b b' Tryd.underlying4
  have hi := run_equalIn_int (P := Tryd.prog) w d 3 .i64 .i64 n n' Tryd.underlying3
  have hs := run_equalIn_string (P := Tryd.prog) w d 9 s s' Tryd.underlying9
  have pa : ∀ (cs : Array Value) (v : Value), cs[0]? = some v → (part 4 cs 0).run Tryd.prog w = .ok v w := fun cs v h => kpart1 Tryd.underlying4 rfl h
  have pb : ∀ (cs : Array Value) (v : Value), cs[1]? = some v → (part 3 cs 1).run Tryd.prog w = .ok v w := fun cs v h => kpart1 Tryd.underlying3 rfl h
  have pc : ∀ (cs : Array Value) (v : Value), cs[2]? = some v → (part 9 cs 2).run Tryd.prog w = .ok v w := fun cs v h => kpart1 Tryd.underlying9 rfl h
  unfold kyV
  rw [run_equalIn_struct w (d + 1) IK _ _ (by rw [hf]; exact hu) ik_held, hf]
  have e1 := pa #[.bool b, .int .i64 n, .string s] _ rfl
  have e2 := pa #[.bool b', .int .i64 n', .string s'] _ rfl
  have e3 := pb #[.bool b, .int .i64 n, .string s] _ rfl
  have e4 := pb #[.bool b', .int .i64 n', .string s'] _ rfl
  have e5 := pc #[.bool b, .int .i64 n, .string s] _ rfl
  have e6 := pc #[.bool b', .int .i64 n', .string s'] _ rfl
  have key : decide ((⟨b, n, s⟩ : Ky) = ⟨b', n', s'⟩) = ((b == b') && ((n == n') && (s.toList == s'.toList))) := by
    rw [Bool.eq_iff_iff]
    simp only [decide_eq_true_eq, Ky.mk.injEq, Bool.and_eq_true, beq_iff_eq]
    constructor
    · rintro ⟨rfl, rfl, rfl⟩; exact ⟨rfl, rfl, rfl⟩
    · rintro ⟨rfl, rfl, h⟩
      refine ⟨rfl, rfl, bytes_same ?_⟩
      simp only [ByteArray.toList_eq] at h
      exact h
  rw [key]
  generalize hq1 : (b == b') = q1 at *
  generalize hq2 : (n == n') = q2 at *
  generalize hq3 : (s.toList == s'.toList) = q3 at *
  cases q1 <;> cases q2 <;> cases q3 <;> simp [Op.eqFields, n0, n1, n2, t0, t1, t2, o0, o1, o2, e1, e2, e3, e4, e5, e6, hb, hi, hs, Result.andThen]
theorem ky_neq (w : World) (y y' : Ky) : (binOp .neq IK (kyV y) (kyV y')).run Tryd.prog w = .ok (.bool (!decide (y = y'))) w := by
  have := ky_eq 9998 w y y'
  unfold kyV at this ⊢
  rw [run_neq_struct, this]
  rfl

theorem ky_eql (w : World) (y y' : Ky) : (binOp .eql IK (kyV y) (kyV y')).run Tryd.prog w = .ok (.bool (decide (y = y'))) w := by
  have := ky_eq 9998 w y y'
  unfold kyV at this ⊢
  rw [run_eql_struct, this]
  rfl

def GK (w : World) (v : Value) : Prop := ∃ y : Ky, v = kyV y
theorem ky_inj {y y' : Ky} (h : kyV y = kyV y') : y = y' := by
  obtain ⟨b, n, s⟩ := y
  obtain ⟨b', n', s'⟩ := y'
  simp [kyV] at h
  obtain ⟨rfl, rfl, rfl⟩ := h
  rfl
theorem ky_check (d : Nat) (w : World) (em : Bool) (y : Ky) : (Instr.checkKey em (d + 2) IK (kyV y)).run Tryd.prog w = .ok () w := by
  obtain ⟨b, n, s⟩ := y
  obtain ⟨f0, f1, f2, hu, n0, n1, n2, t0, t1, t2, o0, o1, o2⟩ := ik_desc
  have pa : (part 4 #[.bool b, .int .i64 n, .string s] 0).run Tryd.prog w = .ok (.bool b) w := kpart1 Tryd.underlying4 rfl rfl
  have pb : (part 3 #[.bool b, .int .i64 n, .string s] 1).run Tryd.prog w = .ok (.int .i64 n) w := kpart1 Tryd.underlying3 rfl rfl
  have pc : (part 9 #[.bool b, .int .i64 n, .string s] 2).run Tryd.prog w = .ok (.string s) w := kpart1 Tryd.underlying9 rfl rfl
  unfold kyV
  simp [Instr.checkKey, run_underlying hu, n0, n1, n2, t0, t1, t2, o0, o1, o2, pa, pb, pc, run_underlying Tryd.underlying4, run_underlying Tryd.underlying3, run_underlying Tryd.underlying9, Result.andThen]
theorem ky_same (d : Nat) (b : Bool) (n : Int) (s : ByteArray) : Instr.sameBits (d + 2) (.agg #[.bool b, .int .i64 n, .string s]) (.agg #[.bool b, .int .i64 n, .string s]) = true := by
  simp [Instr.sameBits]
  first | rfl | (obtain ⟨a⟩ := s; show (a == a) = true; simp) | exact beq_iff_eq.2 rfl
theorem good_ky : raw.Good Tryd.prog IK GK where
  wide := by
    obtain ⟨f0, f1, f2, hu, _⟩ := ik_desc
    rw [hu]
  check := fun w em x ⟨y, e⟩ => e ▸ ky_check 9998 w em y
  eq := fun w x x' ⟨y, e⟩ ⟨y', e'⟩ => ⟨decide (y = y'), by rw [e, e']; exact ky_eq 9998 w y y', by rw [e, e', decide_eq_true_eq]; exact ⟨fun h => h ▸ rfl, ky_inj⟩⟩
  same := fun w x ⟨y, e⟩ => by
    rw [e]
    obtain ⟨b, n, s⟩ := y
    exact ky_same 9998 b n s
theorem gk_stays : raw.Stays GK := fun _ _ _ _ _ _ h => h

end Go.Proofs.YtlbkbcafkjgckaaDoor.tree

/-
  Where a key stands first among the items, of the model.
  Conditions: those that each theorem names.
-/
namespace Go.Proofs.YtlbkbcafkjgckaaDoor.tree
open Go.ChangeShapes Go.WideShapes Go.ChangeAt Go.RowKit
set_option linter.unusedVariables false

def LtQ (w : World) (x : Int) (e : Ending) (w' : World) : Prop := e = .returned (.int .i64 x) ∧ Below w.heap.size w w'
def BoQ (w : World) (b : Bool) (e : Ending) (w' : World) : Prop := e = .returned (.bool b) ∧ Below w.heap.size w w'
def pos : List Ky → Ky → Nat → Int
  | [], _, _ => -1
  | z :: ks, y, i => if z = y then i else pos ks y (i + 1)
theorem pos_first : ∀ (ks : List Ky) (y : Ky) (i j : Nat), ks[j]? = some y → (pos ks y i = (i : Int) + j ↔ y ∉ ks.take j)
  | [], y, i, j, h => by simp at h
  | z :: ks, y, i, 0, h => by
    simp at h
    subst h
    simp [pos]
  | z :: ks, y, i, j + 1, h => by
    have ih := pos_first ks y (i + 1) j (by simpa using h)
    rw [pos, List.take_succ_cons, List.mem_cons]
    by_cases hz : z = y
    · subst hz
      simp
      omega
    · rw [if_neg hz]
      rw [show (i : Int) + ((j + 1 : Nat) : Int) = ((i + 1 : Nat) : Int) + (j : Int) by push_cast; omega, ih]
      simp [Ne.symm hz]
theorem pos_bd : ∀ (ks : List Ky) (y : Ky) (i : Nat), -1 ≤ pos ks y i ∧ pos ks y i ≤ i + ks.length
  | [], y, i => by simp [pos]
  | z :: ks, y, i => by
    have := pos_bd ks y (i + 1)
    rw [pos]
    split
    · simp; omega
    · push_cast at *; simp; omega
theorem pos_drop {ks : List Ky} {j : Nat} {z y : Ky} (h : ks[j]? = some z) : pos (ks.drop j) y j = if z = y then (j : Int) else pos (ks.drop (j + 1)) y (j + 1) := by
  obtain ⟨hj, rfl⟩ := List.getElem?_eq_some_iff.1 h
  rw [List.drop_eq_getElem_cons hj, pos]

theorem kdrew_heap (w : World) : ∀ n, (w.drewN n).heap = w.heap
  | 0 => rfl
  | n + 1 => (kdrew_heap w n)
theorem kbelow_drew (w : World) : ∀ n, Below w.heap.size w (w.drewN n)
  | 0 => Below.refl _ _
  | n + 1 => (kbelow_drew w n).drew

def CutF (wr : World) (b : Bool) (N : Nat) (C D : Array Value) (v : Value) (wx : World) : Prop :=
  v = .bool b ∧ Below wr.heap.size wr wx ∧ wx.heap[N]? = some (.cells C IV (0, 0)) ∧ wx.heap[N + 1]? = some (.cells D IK (0, 0))

set_option maxHeartbeats 800000 in
theorem find_s (n : Int) (s : ByteArray) (x : Int) (ks : List Ky) (vs : List Tr) (A : Option Addr) (c : Nat) (y : Ky) (w : World) (S : Nat → Prop) (h : IsIn w S ks vs A) :
    Calls Tryd.prog 103 #[vV 4 n s x A vs.length c, kyV y] w (LtQ w (pos ks y 0)) := by
  obtain ⟨L, HL⟩ : ∃ L, Hid (L = vs.length) := ⟨_, Lib.hid rfl⟩
  have hm : L ≤ maxLen := by rw [HL.out]; exact h.2.1
  have hkl : Hid (ks.length = L) := Lib.hid (by rw [HL.out]; exact h.1)
  unfold maxLen at hm
  rw [← HL.out]
  have HI := Lib.hid h
  clear h
  obtain ⟨W, HW⟩ : ∃ W, Hid (pos ks y 0 = W) := ⟨_, Lib.hid rfl⟩
  rw [HW.out]
  obtain ⟨yb, yn, ys⟩ := y
  unfold kyV
  go_enter Tryd.func103, Tryd.ntmps103
  go_wp2_with (fail)
  go_loopg [5] (L + 1) (fun gk i wr => ∃ j : Nat, i = .int .i64 j ∧ gk + j = L + 1 ∧ j ≤ L ∧ Hid (pos (ks.drop j) ⟨yb, yn, ys⟩ j = W) ∧
    Hid (wr.heap[w.heap.size]? = some (.cells #[.int .i64 4, .int .i64 n, .string s, .int .i64 x, .slice A L c] IV (0, 0))) ∧ Hid (wr.heap[w.heap.size + 1]? = some (.cells #[.bool yb, .int .i64 yn, .string ys] IK (0, 0))) ∧ Below w.heap.size w wr)
  case atStart => exact ⟨0, rfl, by omega, by omega, Lib.hid HW.out, Lib.hid (heap_alloc2_old w _ _), Lib.hid (heap_alloc2_new w _ _), b2 _ _ _⟩
  case round =>
    obtain ⟨j, rfl, hgj, hjL, HQ, HE, HE', hb⟩ := hrel
    have HB := Lib.hid hb
    clear hb
    obtain ⟨r0, -⟩ := rowc HE.out
    obtain ⟨r1, -⟩ := rowc HE'.out
    by_cases hlt : j < L
    · obtain ⟨a, y1, k1, n1, s1, x1, ks1, vs1, A1, c1, rfl, hS, hky, hvs, ht, hyb, hkb, hin1, hcell⟩ := (HI.out.below HB.out).item (i := j) (by rw [← HL.out]; exact hlt)
      have HD := Lib.hid ((pos_drop (y := ⟨yb, yn, ys⟩) hky).symm.trans HQ.out)
      obtain ⟨b, HBB⟩ : ∃ b, Hid (decide (y1 = ⟨yb, yn, ys⟩) = b) := ⟨_, Lib.hid rfl⟩
      have NE := fun w => ky_eql w y1 ⟨yb, yn, ys⟩
      rw [HBB.out] at NE
      unfold kyV at NE
      simp only at NE
      clear hky hvs ht hyb hkb hin1 hS
      obtain ⟨p0, p1, p2, p3, p4, p5, p6, p7⟩ := hcell
      go_upto_region 4 with fail
      go_cut [25] (fun v wx => CutF wr b w.heap.size #[.int .i64 4, .int .i64 n, .string s, .int .i64 x, .slice (some a) L c] #[.bool yb, .int .i64 yn, .string ys] v wx)
      case first =>
        go_quiet ((fail))
        all_goals
          go_wp2_with (fail)
          go_meet
          exact ⟨rfl, kbelow_drew _ _, (kdrew_heap _ _).symm ▸ HE.out, (kdrew_heap _ _).symm ▸ HE'.out⟩
      case rest =>
        obtain ⟨rfl, hbc, hx0, hx1⟩ := hcut
        have HBc := Lib.hid (bs HB.out hbc)
        have HX0 := Lib.hid hx0
        have HX1 := Lib.hid hx1
        clear hbc hx0 hx1 p0 p1 p2 p3 p4 p5 p6 p7 NE
        cases b with
        | true =>
          have e : W = (j : Int) := by rw [← HD.out, if_pos (of_decide_eq_true HBB.out)]
          go_wp2_with (fail)
          go_ret
          exact ⟨by first | rfl | (rw [e]; rfl), HBc.out⟩
        | false =>
          have HF : Hid (pos (ks.drop (j + 1)) ⟨yb, yn, ys⟩ (j + 1) = W) := Lib.hid (by have := HD.out; rw [if_neg (of_decide_eq_false HBB.out)] at this; exact this)
          go_wp2_with (fail)
          go_roundg (L - j)
          case rel => exact ⟨j + 1, by go_num, by omega, by omega, HF, HX0, HX1, HBc.out⟩
          case measure => omega
    · obtain rfl : j = L := by omega
      have e : W = -1 := by rw [← HQ.out, show ks.drop j = [] from List.drop_eq_nil_of_le (Nat.le_of_eq hkl.out)]; rfl
      go_wp2_with (fail)
      go_ret
      exact ⟨by first | rfl | (rw [e]; rfl), HB.out⟩

end Go.Proofs.YtlbkbcafkjgckaaDoor.tree

/-
  Where the items of an array lie, as a key of a map; and: what lies at one place is one list.
  Conditions: those that each theorem names.
-/
namespace Go.Proofs.YtlbkbcafkjgckaaDoor.tree
open Go.ChangeShapes Go.WideShapes Go.ChangeAt Go.RowKit
set_option linter.unusedVariables false

abbrev PL : TypeId := 124

/-- A tree is what its value says. -/
theorem TIn.unique {w : World} {S : Nat → Prop} {t : Tr} {v : Value} (h : TIn w S t v) : ∀ {S' : Nat → Prop} {t' : Tr}, TIn w S' t' v → t = t' := by
  induction h with
  | mk k n s x ks vs A cap C hk hl hm hcap hc ht ih =>
    intro S' t' h'
    obtain ⟨k', n', s', x', ks', vs'⟩ := t'
    obtain ⟨A', c', he, -, hl', -, C', hc', ht'⟩ := h'.out
    simp at he
    obtain ⟨rfl, rfl, rfl, rfl, rfl, hlen, rfl⟩ := he
    have each : ∀ i (hi : i < vs.length) (hi' : i < vs'.length), ks[i]'(hl ▸ hi) = ks'[i]'(hl' ▸ hi') ∧ vs[i] = vs'[i] := by
      intro i hi hi'
      obtain ⟨a, ha, _, ⟨p0, p1, p2, _, _⟩, hs, hj⟩ := hc i hi
      obtain ⟨a', ha', _, ⟨q0, q1, q2, _, _⟩, hs', hj'⟩ := hc' i hi'
      rw [ha] at ha'
      obtain rfl := Option.some.inj ha'
      rw [p0] at q0; rw [p1] at q1; rw [p2] at q2
      have eC : C i = C' i := by
        apply Array.ext_getElem?
        intro j
        by_cases hj5 : j < 5
        · rw [← hj j hj5, ← hj' j hj5]
        · rw [Array.getElem?_eq_none (by omega), Array.getElem?_eq_none (by omega)]
      refine ⟨?_, ih i hi (eC ▸ ht' i hi')⟩
      generalize ks[i]'(hl ▸ hi) = y at *
      generalize ks'[i]'(hl' ▸ hi') = y' at *
      obtain ⟨b, m, z⟩ := y
      obtain ⟨b', m', z'⟩ := y'
      simp at q0 q1 q2
      simp [q0, q1, q2]
    have e1 : vs = vs' := List.ext_getElem hlen fun i hi hi' => (each i hi hi').2
    have e2 : ks = ks' := List.ext_getElem (by omega) fun i hi hi' => (each i (by omega) (by omega)).1
    rw [e1, e2]

/-- The items' place, as a value. -/
def plc (A : Option Addr) (n : Nat) : Value := if n = 0 then .agg #[.pointer none, .int .i64 0] else .agg #[.pointer A, .int .i64 n]
/-- At the place p lies the list. -/
def PlIs (w : World) (p : Value) (ks : List Ky) (vs : List Tr) : Prop := ∃ (S : Nat → Prop) (A : Option Addr), IsIn w S ks vs A ∧ p = plc A vs.length

theorem PlIs.unique {w : World} {p : Value} {ks ks' : List Ky} {vs vs' : List Tr} (h : PlIs w p ks vs) (h' : PlIs w p ks' vs') : ks = ks' ∧ vs = vs' := by
  obtain ⟨S, A, hi, e⟩ := h
  obtain ⟨S', A', hi', e'⟩ := h'
  rw [e] at e'
  have key : vs.length = vs'.length ∧ (vs.length ≠ 0 → A = A') := by
    unfold plc at e'
    by_cases h0 : vs.length = 0 <;> by_cases h1 : vs'.length = 0 <;> simp [h0, h1] at e'
    · exact ⟨by omega, fun h => absurd h0 h⟩
    · omega
    · exact ⟨by omega, fun _ => e'.1⟩
  obtain ⟨hl, hA⟩ := key
  by_cases h0 : vs.length = 0
  · have e1 : vs = [] := List.length_eq_zero_iff.1 h0
    have e2 : vs' = [] := List.length_eq_zero_iff.1 (by omega)
    have k1 := hi.1
    have k2 := hi'.1
    rw [e1] at k1
    rw [e2] at k2
    exact ⟨(List.length_eq_zero_iff.1 k1).trans (List.length_eq_zero_iff.1 k2).symm, e1.trans e2.symm⟩
  · obtain rfl := hA h0
    have u := (TIn.of (k := 0) (n := 0) (s := ⟨#[]⟩) (x := 0) vs.length ⟨by unfold I64; omega, by unfold I64; omega, by unfold I64; omega, Nat.zero_le _⟩ hi ⟨Nat.le_refl _, hi.2.1⟩).unique
      (t' := .mk 0 0 ⟨#[]⟩ 0 ks' vs') (S' := S') (by
        have := TIn.of (k := 0) (n := 0) (s := ⟨#[]⟩) (x := 0) vs'.length ⟨by unfold I64; omega, by unfold I64; omega, by unfold I64; omega, Nat.zero_le _⟩ hi' ⟨Nat.le_refl _, hi'.2.1⟩
        rwa [← hl] at this)
    injection u with _ _ _ _ u1 u2
    exact ⟨u1, u2⟩

theorem PlIs.stays {w w' : World} (hb : Below w.heap.size w w') {p : Value} {ks : List Ky} {vs : List Tr} (h : PlIs w p ks vs) : PlIs w' p ks vs := by
  obtain ⟨S, A, hi, e⟩ := h
  exact ⟨S, A, hi.below hb, e⟩

/-- A key of a map of places. -/
def GP (w : World) (x : Value) : Prop := ∃ (p : Option Addr) (n : Int), x = .agg #[.pointer p, .int .i64 n] ∧ ∀ a, p = some a → Plain w a.block

theorem gp_plc {w : World} {lo : Nat} {ks : List Ky} {vs : List Tr} {A : Option Addr} (h : IsIn w (Nw lo w) ks vs A) : GP w (plc A vs.length) := by
  unfold plc
  by_cases h0 : vs.length = 0
  · rw [if_pos h0]
    exact ⟨none, 0, rfl, fun a h => by cases h⟩
  · rw [if_neg h0]
    obtain ⟨hl, hm, C, hc, -⟩ := h
    obtain ⟨a, ha, hS, -⟩ := hc 0 (by omega)
    exact ⟨A, vs.length, rfl, fun a' h' => by rw [ha] at h'; obtain rfl := Option.some.inj h'; exact hS.2⟩

theorem gp_stays : raw.Stays GP := fun w w' B x hB hb h => by
  obtain ⟨p, n, rfl, hp⟩ := h
  refine ⟨p, n, rfl, fun a ha => ?_⟩
  obtain ⟨cs, t, hc⟩ := hp a ha
  obtain ⟨es, clock, hm⟩ := hB
  exact ⟨cs, t, (hb a.block (fun e => by rw [e, hm] at hc; cases hc) (Array.getElem?_eq_some_iff.1 hc).1).trans hc⟩
theorem gp_below {w w' : World} (hb : Below w.heap.size w w') {x : Value} (h : GP w x) : GP w' x := by
  obtain ⟨p, n, rfl, hp⟩ := h
  refine ⟨p, n, rfl, fun a ha => ?_⟩
  obtain ⟨cs, t, hc⟩ := hp a ha
  exact ⟨cs, t, carry hb hc⟩

theorem ptr_eq {w : World} {t e : TypeId} (ht : Tryd.prog.underlying t = some (.pointer e)) {i : TypeInfo} (he : Tryd.prog.info? e = some i) (hi : i.size ≠ 0) (d : Nat) {p q : Option Addr} (hp : ∀ a, p = some a → Plain w a.block) (hq : ∀ a, q = some a → Plain w a.block) :
    ∃ r : Bool, (Op.equalIn (d + 1) t (.pointer p) (.pointer q)).run Tryd.prog w = .ok r w ∧ (r = true ↔ p = q) := by
  cases p with
  | none => cases q <;> exact ⟨_, by simp [Op.equalIn, run_underlying ht]; rfl, by simp⟩
  | some a =>
    cases q with
    | none => exact ⟨_, by simp [Op.equalIn, run_underlying ht]; rfl, by simp⟩
    | some b =>
      by_cases hab : a = b
      · subst hab
        exact ⟨true, by simp [Op.equalIn, run_underlying ht, sizeOf, typeInfo, he, hi, run_sameAddr_same], by simp⟩
      · obtain ⟨ca, ta, ha⟩ := hp a rfl
        obtain ⟨cb, tb, hb⟩ := hq b rfl
        exact ⟨false, by simp [Op.equalIn, run_underlying ht, sizeOf, typeInfo, he, hi, run_sameAddr_other w hab ha hb], by simp [hab]⟩

theorem pl_desc : ∃ f0 f1 : Field, Tryd.prog.underlying PL = some (.struct #[f0, f1]) ∧ f0.name ≠ "_" ∧ f1.name ≠ "_" ∧ f0.type = 122 ∧ f1.type = 3 ∧ f0.offset = 0 ∧ f1.offset = 1 :=
  ⟨_, _, Tryd.underlying124, by decide, by decide, rfl, rfl, rfl, rfl⟩
theorem pl_held : Tryd.prog.stoodInHeld PL = false := by kernel_rfl
theorem ie_size : ∃ i, Tryd.prog.info? IE = some i ∧ i.size ≠ 0 := by
  have := ieRow
  cases hq : Tryd.prog.info? IE with
  | none => rw [hq] at this; cases this
  | some i => rw [hq] at this; simp at this; exact ⟨i, rfl, by omega⟩

theorem part1 {P : Program} {w : World} {t : TypeId} {d : TypeDesc} (h : P.underlying t = some d) (hd : (match d with | .struct _ | .array _ _ => true | _ => false) = false) {cs : Array Value} {off : Nat} {v : Value} (hx : cs[off]? = some v) : (part t cs off).run P w = .ok v w := by
  cases d <;> simp_all [part, isAgg, run_underlying h]

theorem pl_eq (w : World) (d : Nat) {x y : Value} (hx : GP w x) (hy : GP w y) : ∃ r : Bool, (Op.equalIn (d + 2) PL x y).run Tryd.prog w = .ok r w ∧ (r = true ↔ x = y) := by
  obtain ⟨p, n, rfl, hp⟩ := hx
  obtain ⟨q, m, rfl, hq⟩ := hy
  obtain ⟨f0, f1, hu, n0, n1, t0, t1, o0, o1⟩ := pl_desc
  have hf : Tryd.prog.fieldsOf PL = #[f0, f1] := by simp [Program.fieldsOf, hu]
  obtain ⟨i, hi, hs⟩ := ie_size
  obtain ⟨r, hr, hiff⟩ := ptr_eq (t := 122) Tryd.underlying122 hi hs d hp hq
  have hi2 := run_equalIn_int (P := Tryd.prog) w d 3 .i64 .i64 n m Tryd.underlying3
  have pa : ∀ (cs : Array Value) (v : Value), cs[0]? = some v → (part 122 cs 0).run Tryd.prog w = .ok v w := fun cs v h => part1 Tryd.underlying122 rfl h
  have pb : ∀ (cs : Array Value) (v : Value), cs[1]? = some v → (part 3 cs 1).run Tryd.prog w = .ok v w := fun cs v h => part1 Tryd.underlying3 rfl h
  rw [run_equalIn_struct w (d + 1) PL _ _ (by rw [hf]; exact hu) pl_held, hf]
  refine ⟨r && (n == m), ?_, ?_⟩
  · have e1 := pa #[.pointer p, .int .i64 n] _ rfl
    have e2 := pa #[.pointer q, .int .i64 m] _ rfl
    have e3 := pb #[.pointer p, .int .i64 n] _ rfl
    have e4 := pb #[.pointer q, .int .i64 m] _ rfl
    cases r <;> cases hnm : (n == m) <;> simp [Op.eqFields, n0, n1, t0, t1, o0, o1, e1, e2, e3, e4, hr, hi2, hnm, Result.andThen]
  · rw [Bool.and_eq_true, hiff]
    simp

theorem pl_check (d : Nat) (w : World) (em : Bool) {x : Value} (h : GP w x) : (Instr.checkKey em (d + 2) PL x).run Tryd.prog w = .ok () w := by
  obtain ⟨p, n, rfl, hp⟩ := h
  obtain ⟨f0, f1, hu, n0, n1, t0, t1, o0, o1⟩ := pl_desc
  have pa : (part 122 #[.pointer p, .int .i64 n] 0).run Tryd.prog w = .ok (.pointer p) w := part1 Tryd.underlying122 rfl rfl
  have pb : (part 3 #[.pointer p, .int .i64 n] 1).run Tryd.prog w = .ok (.int .i64 n) w := part1 Tryd.underlying3 rfl rfl
  simp [Instr.checkKey, run_underlying hu, n0, n1, t0, t1, o0, o1, pa, pb, run_underlying Tryd.underlying122, run_underlying Tryd.underlying3, Result.andThen]
theorem pl_same (d : Nat) (p : Option Addr) (n : Int) : Instr.sameBits (d + 2) (.agg #[.pointer p, .int .i64 n]) (.agg #[.pointer p, .int .i64 n]) = true := by
  simp [Instr.sameBits]

theorem good_pl : raw.Good Tryd.prog PL GP where
  wide := by
    obtain ⟨f0, f1, hu, _⟩ := pl_desc
    rw [hu]
  check := fun w em x h => pl_check 9998 w em h
  eq := fun w x y hx hy => pl_eq w 9998 hx hy
  same := fun w x h => by
    obtain ⟨p, n, rfl, hp⟩ := h
    exact pl_same 9998 p n

theorem placeOf (A : Option Addr) (n c : Nat) (hn : n ≤ maxLen) (hA : 0 < n → ∃ a, A = some a) (w : World) : Calls Tryd.prog 107 #[.slice A n c] w (GivesQ w (plc A n)) := by
  unfold maxLen at hn
  by_cases h0 : n = 0
  · subst h0
    go_enter Tryd.func107, Tryd.ntmps107
    go_wp2
    exact bodyPost_ret (v := .agg #[.pointer none, .int .i64 0]) (by simp [results, Tryd.results107, go_sem]) rfl ⟨rfl, b1 _ _⟩
  · obtain ⟨a, rfl⟩ := hA (by omega)
    have hp : plc (some a) n = .agg #[.pointer (some a), .int .i64 n] := by unfold plc; rw [if_neg h0]
    rw [hp]
    have hpos : 0 < n := by omega
    have hp0 := Lib.hid hp
    have hne : ¬ ((n : Int) = 0) := by omega
    clear hp h0
    go_enter Tryd.func107, Tryd.ntmps107
    go_wp2
    refine bodyPost_ret (v := .agg #[.pointer (some a), .int .i64 n]) (by simp [results, Tryd.results107, go_sem]) rfl ⟨rfl, ?_⟩
    exact b1 _ _

end Go.Proofs.YtlbkbcafkjgckaaDoor.tree

/-
  What measuring an array by places computes: sizes, the stack of arrays, and what is known of places.
  Conditions: those that each theorem names.
-/
namespace Go.Proofs.YtlbkbcafkjgckaaDoor.tree
open Go.ChangeShapes Go.WideShapes Go.ChangeAt Go.RowKit
set_option linter.unusedVariables false

mutual
/-- The size of a value: si for what is no array, else 1 more than its items' sizes joined. -/
def sz (si : Int) (J : Int → Int → Int) : Tr → Int
  | .mk k _ _ _ _ vs => if k = 4 then 1 + szl si J vs 0 else si
def szl (si : Int) (J : Int → Int → Int) : List Tr → Int → Int
  | [], a => a
  | t :: vs, a => szl si J vs (J a (sz si J t))
end

structure Join (si : Int) (J : Int → Int → Int) : Prop where
  lo : 0 ≤ si
  hi : si ≤ 1
  bd : ∀ a b, 0 ≤ a → 0 ≤ b → 0 ≤ J a b ∧ J a b ≤ a + b
  zero : ∀ b, 0 ≤ b → J 0 b = b

section
variable {si : Int} {J : Int → Int → Int}
theorem sz_four (n : Int) (s : ByteArray) (x : Int) (ks : List Ky) (vs : List Tr) : sz si J (.mk 4 n s x ks vs) = 1 + szl si J vs 0 := by rw [sz, if_pos rfl]
theorem sz_not {k n : Int} {s : ByteArray} {x : Int} {ks : List Ky} {vs : List Tr} (h : k ≠ 4) : sz si J (.mk k n s x ks vs) = si := by rw [sz, if_neg h]
theorem szl_nil (a : Int) : szl si J [] a = a := by rw [szl]
theorem szl_cons (t : Tr) (vs : List Tr) (a : Int) : szl si J (t :: vs) a = szl si J vs (J a (sz si J t)) := by rw [szl]
mutual
theorem sz_bd (h : Join si J) : ∀ t, 0 ≤ sz si J t ∧ sz si J t ≤ cnt t
  | .mk k _ _ _ _ vs => by
    have := szl_bd h vs 0 (Int.le_refl _)
    have h1 := h.lo
    have h2 := h.hi
    rw [sz, cnt]
    split <;> constructor <;> push_cast <;> omega
theorem szl_bd (h : Join si J) : ∀ (vs : List Tr) (a : Int), 0 ≤ a → 0 ≤ szl si J vs a ∧ szl si J vs a ≤ a + cnts vs
  | [], a, ha => by rw [szl, cnts]; exact ⟨ha, by omega⟩
  | t :: vs, a, ha => by
    have h1 := sz_bd h t
    have h2 := h.bd a (sz si J t) ha h1.1
    have h3 := szl_bd h vs (J a (sz si J t)) h2.1
    rw [szl, cnts]
    exact ⟨h3.1, by push_cast; omega⟩
end
end

mutual
/-- How many rounds a value takes at most. -/
def wk : Tr → Nat
  | .mk _ _ _ _ _ vs => 3 + wks vs
def wks : List Tr → Nat
  | [] => 0
  | t :: vs => wk t + wks vs
end
theorem wks_cons (t : Tr) (vs : List Tr) : wks (t :: vs) = wk t + wks vs := by rw [wks]
theorem wk_mk (k n : Int) (s : ByteArray) (x : Int) (ks : List Ky) (vs : List Tr) : wk (.mk k n s x ks vs) = 3 + wks vs := by rw [wk]
theorem wk_pos (t : Tr) : 3 ≤ wk t := by cases t; rw [wk]; omega
theorem cnt_mk (k n : Int) (s : ByteArray) (x : Int) (ks : List Ky) (vs : List Tr) : cnt (.mk k n s x ks vs) = 1 + cnts vs := by rw [cnt]
theorem cnts_cons (t : Tr) (vs : List Tr) : cnts (t :: vs) = cnt t + cnts vs := by rw [cnts]

/-! ### blocks that stay -/
def Lo (B : Nat) (w : World) (b : Nat) : Prop := b < B ∧ Plain w b
/-- Every plain block below B stays. -/
def Kp (B : Nat) (w w' : World) : Prop := ∀ b, b < B → Plain w b → w'.heap[b]? = w.heap[b]?
section
variable {B : Nat} {w w' w2 : World}
theorem Lo.kp (hk : Kp B w w') {b : Nat} (h : Lo B w b) : Lo B w' b := by
  obtain ⟨h1, cs, t, h2⟩ := h
  exact ⟨h1, cs, t, (hk b h1 ⟨cs, t, h2⟩).trans h2⟩
theorem Kp.refl (B : Nat) (w : World) : Kp B w w := fun _ _ _ => rfl
theorem Kp.trans (h : Kp B w w') (k : Kp B w' w2) : Kp B w w2 := fun b hb hp => (k b hb (Lo.kp h ⟨hb, hp⟩).2).trans (h b hb hp)
theorem Kp.below (h : Below w.heap.size w w') : Kp B w w' := fun b _ hp => h.block b hp.lt
theorem Kp.set (w : World) {g : Nat} (hg : B ≤ g) (j : Nat) (v : Value) : Kp B w (w.setCell ⟨g, j, none⟩ v) := fun b hb _ => set_other (by omega)
theorem Kp.grown {row : Option Nat} (h : w.grownBy w' row) (hr : ∀ k, row = some k → B ≤ k ∨ ¬ Plain w k) : Kp B w w' := fun b hb hp => h.block b hp.lt (fun e => by
  rcases hr b e.symm with h | h
  · omega
  · exact h hp)
theorem TIn.kp (hk : Kp B w w') {t : Tr} {v : Value} (h : TIn w (Lo B w) t v) : TIn w' (Lo B w') t v := h.stays (fun b hb => hb.kp hk) (fun b hb _ => hk b hb.1 hb.2)
theorem IsIn.kp (hk : Kp B w w') {ks : List Ky} {vs : List Tr} {A : Option Addr} (h : IsIn w (Lo B w) ks vs A) : IsIn w' (Lo B w') ks vs A := h.stays (fun b hb => hb.kp hk) (fun b hb _ => hk b hb.1 hb.2)

/-- At the place p lies the list, below B. -/
def PlB (B : Nat) (w : World) (p : Value) (ks : List Ky) (vs : List Tr) : Prop := ∃ A : Option Addr, IsIn w (Lo B w) ks vs A ∧ p = plc A vs.length
theorem PlB.is {p : Value} {ks : List Ky} {vs : List Tr} (h : PlB B w p ks vs) : PlIs w p ks vs := by
  obtain ⟨A, h1, h2⟩ := h
  exact ⟨_, A, h1, h2⟩
theorem PlB.kp (hk : Kp B w w') {p : Value} {ks : List Ky} {vs : List Tr} (h : PlB B w p ks vs) : PlB B w' p ks vs := by
  obtain ⟨A, h1, h2⟩ := h
  exact ⟨A, h1.kp hk, h2⟩
/-- A key of a map of places below B. -/
def GB (B : Nat) (w : World) (x : Value) : Prop := ∃ (p : Option Addr) (n : Int), x = .agg #[.pointer p, .int .i64 n] ∧ ∀ a, p = some a → Lo B w a.block
theorem GB.gp {x : Value} (h : GB B w x) : GP w x := by
  obtain ⟨p, n, e, hp⟩ := h
  exact ⟨p, n, e, fun a ha => (hp a ha).2⟩
theorem GB.kp (hk : Kp B w w') {x : Value} (h : GB B w x) : GB B w' x := by
  obtain ⟨p, n, e, hp⟩ := h
  exact ⟨p, n, e, fun a ha => (hp a ha).kp hk⟩
theorem PlB.gb {p : Value} {ks : List Ky} {vs : List Tr} (h : PlB B w p ks vs) : GB B w p := by
  obtain ⟨A, h, rfl⟩ := h
  unfold plc
  by_cases h0 : vs.length = 0
  · rw [if_pos h0]
    exact ⟨none, 0, rfl, fun a h => by cases h⟩
  · rw [if_neg h0]
    obtain ⟨hl, hm, C, hc, -⟩ := h
    obtain ⟨a, ha, hS, -⟩ := hc 0 (by omega)
    exact ⟨A, vs.length, rfl, fun a' h' => by rw [ha] at h'; obtain rfl := Option.some.inj h'; exact hS⟩
theorem good_gb (B : Nat) : raw.Good Tryd.prog PL (GB B) where
  wide := good_pl.wide
  check := fun w em x h => good_pl.check w em x h.gp
  eq := fun w x y hx hy => good_pl.eq w x y hx.gp hy.gp
  same := fun w x h => good_pl.same w x h.gp
theorem gb_stays (B : Nat) : raw.Stays (GB B) := fun w w' b x hb h hx => by
  obtain ⟨es, clock, hm⟩ := hb
  exact hx.kp fun k _ hp => h k (fun e => by
    obtain ⟨cs, t, hc⟩ := hp
    rw [e, hm] at hc
    cases hc) hp.lt
/-- The place that the first item of a list leads to. -/
def HeadPl (B : Nat) (w : World) (R : Option Addr) (p : Value) : Prop := ∃ (a : Addr) (A : Option Addr) (L c : Nat), R = some a ∧ Lo B w a.block ∧ w.cell? ⟨a.block, a.off + 7, none⟩ = some (.slice A L c) ∧ p = plc A L
theorem HeadPl.unique {R : Option Addr} {p p' : Value} (h : HeadPl B w R p) (h' : HeadPl B w R p') : p = p' := by
  obtain ⟨a, A, L, c, rfl, -, h1, rfl⟩ := h
  obtain ⟨a', A', L', c', e, -, h2, rfl⟩ := h'
  obtain rfl := Option.some.inj e
  rw [h1] at h2
  simp at h2
  obtain ⟨rfl, rfl, rfl⟩ := h2
  rfl
theorem HeadPl.kp (hk : Kp B w w') {R : Option Addr} {p : Value} (h : HeadPl B w R p) : HeadPl B w' R p := by
  obtain ⟨a, A, L, c, e, hl, h1, h2⟩ := h
  exact ⟨a, A, L, c, e, hl.kp hk, cell_stays (fun _ => hk _ hl.1 hl.2) h1, h2⟩
end

/-! ### the stack of arrays, the top first -/
structure Vis where
  p : Option Addr
  n : Int
  size : Int
  R : Option Addr
  c : Nat
  ks : List Ky
  vs : List Tr
def Vis.pl (V : Vis) : Value := .agg #[.pointer V.p, .int .i64 V.n]
def Vis.cells (V : Vis) : List Value := [.pointer V.p, .int .i64 V.n, .int .i64 V.size, .slice V.R V.vs.length V.c]
structure VisOk (B N : Nat) (w : World) (V : Vis) : Prop where
  isin : IsIn w (Lo B w) V.ks V.vs V.R
  cap : V.vs.length ≤ V.c ∧ V.c ≤ maxLen
  lo : 0 ≤ V.size
  hi : V.size + cnts V.vs ≤ N

section
variable {si : Int} {J : Int → Int → Int} {ans : Int} {B N : Nat} {w w' : World}
/-- V stands for the first item of U's rest. -/
structure Link (si : Int) (J : Int → Int → Int) (B : Nat) (w : World) (V U : Vis) (ks0 : List Ky) (vs0 : List Tr) : Prop where
  head : ∃ n s x ts, U.vs = .mk 4 n s x ks0 vs0 :: ts
  pl : PlB B w V.pl ks0 vs0
  at_ : HeadPl B w U.R V.pl
  size : szl si J V.vs V.size = szl si J vs0 0
  le : cnts V.vs ≤ cnts vs0
def Chain (si : Int) (J : Int → Int → Int) (ans : Int) (B : Nat) (w : World) : List Vis → Prop
  | [] => False
  | [V] => szl si J V.vs V.size = ans
  | V :: U :: l => (∃ ks0 vs0, Link si J B w V U ks0 vs0) ∧ Chain si J ans B w (U :: l)
theorem Link.kp (hk : Kp B w w') {V U : Vis} {ks0 : List Ky} {vs0 : List Tr} (h : Link si J B w V U ks0 vs0) : Link si J B w' V U ks0 vs0 :=
  ⟨h.head, h.pl.kp hk, h.at_.kp hk, h.size, h.le⟩
theorem Chain.kp (hk : Kp B w w') : ∀ {G : List Vis}, Chain si J ans B w G → Chain si J ans B w' G
  | [], h => h.elim
  | [V], h => h
  | V :: U :: l, h => by
    obtain ⟨⟨ks0, vs0, h1⟩, h2⟩ := h
    exact ⟨⟨ks0, vs0, h1.kp hk⟩, Chain.kp hk h2⟩
theorem Chain.mem : ∀ {V : Vis} {l : List Vis}, Chain si J ans B w (V :: l) → ∀ X ∈ (V :: l).dropLast, ∃ ks0 vs0, PlB B w X.pl ks0 vs0 ∧ cnts V.vs ≤ cnts vs0
  | V, [], _, X, hX => by simp at hX
  | V, U :: l, ⟨⟨ks0, vs0, h1⟩, h2⟩, X, hX => by
    rw [List.dropLast_cons_cons] at hX
    rcases List.mem_cons.1 hX with rfl | hX
    · exact ⟨ks0, vs0, h1.pl, h1.le⟩
    · obtain ⟨ks1, vs1, h3, h4⟩ := Chain.mem h2 X hX
      obtain ⟨n, s, x, ts, hu⟩ := h1.head
      refine ⟨ks1, vs1, h3, ?_⟩
      rw [hu, cnts_cons, cnt_mk] at h4
      have := h1.le
      omega

/-- What is known at the head of the loop. -/
structure St (si : Int) (J : Int → Int → Int) (ans : Int) (B N : Nat) (w : World) (G : List Vis) (hk : Bool) (f e : Value → Option Value) : Prop where
  ok : ∀ V ∈ G, VisOk B N w V
  chain : Chain si J ans B w G
  known : hk = true → ∃ V l p z, G = V :: l ∧ HeadPl B w V.R p ∧ f p = some z
  szs : ∀ p z, f p = some z → ∃ ks vs, PlB B w p ks vs ∧ z = .int .i64 (1 + szl si J vs 0)
  ens : ∀ p b, e p = some b → b = .bool true ∧ ((∃ z, f p = some z) ∨ ∃ V ∈ G.dropLast, V.pl = p)
theorem St.kp (hkp : Kp B w w') {G : List Vis} {hk : Bool} {f e : Value → Option Value} (h : St si J ans B N w G hk f e) : St si J ans B N w' G hk f e where
  ok := fun V hV => ⟨(h.ok V hV).isin.kp hkp, (h.ok V hV).cap, (h.ok V hV).lo, (h.ok V hV).hi⟩
  chain := h.chain.kp hkp
  known := fun hh => by
    obtain ⟨V, l, p, z, e1, e2, e3⟩ := h.known hh
    exact ⟨V, l, p, z, e1, e2.kp hkp, e3⟩
  szs := fun p z hp => by
    obtain ⟨ks, vs, h1, h2⟩ := h.szs p z hp
    exact ⟨ks, vs, h1.kp hkp, h2⟩
  ens := h.ens

/-- The rounds that are left at most. -/
def left : List Vis → Bool → Nat
  | [], _ => 0
  | V :: l, hk => (if hk then 1 + wks V.vs.tail else wks V.vs) + (l.map fun U => 1 + wks U.vs.tail).sum + (l.length + 1)

/-- An array that is done. -/
theorem St.pop {V U : Vis} {l : List Vis} {hk : Bool} {f e : Value → Option Value} (h : St si J ans B N w (V :: U :: l) hk f e) (hv : V.vs = []) :
    GB B w V.pl ∧ St si J ans B N w (U :: l) true (raw.put f V.pl (.int .i64 (1 + V.size))) e ∧ left (U :: l) true < left (V :: U :: l) hk := by
  obtain ⟨⟨ks0, vs0, hl⟩, hc⟩ := h.chain
  have hsz : V.size = szl si J vs0 0 := by have := hl.size; rwa [hv, szl_nil] at this
  refine ⟨hl.pl.gb, ⟨fun X hX => h.ok X (List.mem_cons_of_mem _ hX), hc, fun _ => ⟨U, l, V.pl, _, rfl, hl.at_, raw.put_same _ _ _⟩, fun p z hp => ?_, fun p b hp => ?_⟩, ?_⟩
  · by_cases e1 : p = V.pl
    · subst e1
      rw [raw.put_same] at hp
      exact ⟨ks0, vs0, hl.pl, by rw [← hsz]; exact (Option.some.inj hp).symm⟩
    · rw [raw.put_other e1] at hp
      exact h.szs p z hp
  · obtain ⟨hb, ho⟩ := h.ens p b hp
    refine ⟨hb, ?_⟩
    by_cases e1 : p = V.pl
    · subst e1
      exact .inl ⟨_, raw.put_same _ _ _⟩
    · rw [raw.put_other e1]
      rcases ho with ho | ⟨X, hX, hXp⟩
      · exact .inl ho
      · rw [List.dropLast_cons_cons] at hX
        rcases List.mem_cons.1 hX with rfl | hX
        · exact absurd hXp.symm e1
        · exact .inr ⟨X, hX, hXp⟩
  · simp only [left, List.map_cons, List.sum_cons, List.length_cons, if_true]
    have : (0 : Nat) ≤ if hk = true then 1 + wks V.vs.tail else wks V.vs := Nat.zero_le _
    omega

/-- The first item's size is known: it is taken. -/
theorem St.take (hJ : Join si J) {V : Vis} {l : List Vis} {hk : Bool} {f e : Value → Option Value} (h : St si J ans B N w (V :: l) hk f e) {y : Ky} {kt : List Ky} {t : Tr} {ts : List Tr} (hk0 : V.ks = y :: kt) (hv : V.vs = t :: ts) {R : Option Addr} {c : Nat}
    (hR : IsIn w (Lo B w) kt ts R) (hc : ts.length ≤ c ∧ c ≤ maxLen) :
    St si J ans B N w (⟨V.p, V.n, J V.size (sz si J t), R, c, kt, ts⟩ :: l) false f e ∧ left (⟨V.p, V.n, J V.size (sz si J t), R, c, kt, ts⟩ :: l) false < left (V :: l) hk := by
  have hV := h.ok V List.mem_cons_self
  have hb := hJ.bd V.size (sz si J t) hV.lo (sz_bd hJ t).1
  have hs := (sz_bd hJ t).2
  have hhi := hV.hi
  rw [hv, cnts_cons] at hhi
  push_cast at hhi
  refine ⟨⟨fun X hX => ?_, ?_, (fun h => by cases h), h.szs, fun p b hp => ?_⟩, ?_⟩
  · rcases List.mem_cons.1 hX with rfl | hX
    · exact ⟨hR, hc, hb.1, by show J V.size (sz si J t) + (cnts ts : Int) ≤ N; omega⟩
    · exact h.ok X (List.mem_cons_of_mem _ hX)
  · have hch := h.chain
    cases l with
    | nil =>
      have : szl si J V.vs V.size = ans := hch
      rw [hv, szl_cons] at this
      exact this
    | cons U l =>
      obtain ⟨⟨ks0, vs0, hl⟩, hc2⟩ := hch
      refine ⟨⟨ks0, vs0, hl.head, hl.pl, hl.at_, ?_, ?_⟩, hc2⟩
      · have := hl.size
        rw [hv, szl_cons] at this
        exact this
      · have := hl.le
        rw [hv, cnts_cons] at this
        show cnts ts ≤ cnts vs0
        omega
  · obtain ⟨hb, ho⟩ := h.ens p b hp
    refine ⟨hb, ho.imp id fun ⟨X, hX, hXp⟩ => ?_⟩
    cases l with
    | nil => simp at hX
    | cons U l =>
      rw [List.dropLast_cons_cons] at hX ⊢
      rcases List.mem_cons.1 hX with rfl | hX
      · exact ⟨_, List.mem_cons_self, hXp⟩
      · exact ⟨X, List.mem_cons_of_mem _ hX, hXp⟩
  · have := wk_pos t
    cases hk <;> simp [left, hv, wks_cons] <;> omega

/-- What is known of a place is the size of the array that lies there. -/
theorem St.size_of {G : List Vis} {hk : Bool} {f e : Value → Option Value} (h : St si J ans B N w G hk f e) {p z : Value} {ks : List Ky} {vs : List Tr} (hp : PlB B w p ks vs) (hf : f p = some z) : z = .int .i64 (1 + szl si J vs 0) := by
  obtain ⟨ks', vs', h1, h2⟩ := h.szs p z hf
  obtain ⟨-, rfl⟩ := h1.is.unique hp.is
  exact h2

/-- An array whose size is not known has not been entered: no array lies in itself. -/
theorem St.fresh {V : Vis} {l : List Vis} {hk : Bool} {f e : Value → Option Value} (h : St si J ans B N w (V :: l) hk f e) {n : Int} {s : ByteArray} {x : Int} {ks' : List Ky} {vs' ts : List Tr} (hv : V.vs = .mk 4 n s x ks' vs' :: ts) {p : Value}
    (hp : PlB B w p ks' vs') (hat : HeadPl B w V.R p) (hf : f p = none) : e p = none ∧ hk = false := by
  constructor
  · cases he : e p with
    | none => rfl
    | some b =>
      rcases (h.ens p b he).2 with ⟨z, hz⟩ | ⟨X, hX, hXp⟩
      · rw [hf] at hz; cases hz
      · obtain ⟨ks0, vs0, h1, h2⟩ := h.chain.mem X hX
        rw [hXp] at h1
        obtain ⟨-, rfl⟩ := h1.is.unique hp.is
        rw [hv, cnts_cons, cnt_mk] at h2
        omega
  · cases hk with
    | false => rfl
    | true =>
      obtain ⟨V', l', p', z, e1, e2, e3⟩ := h.known rfl
      injection e1 with e1 _
      subst e1
      rw [e2.unique hat, hf] at e3
      cases e3

/-- It is entered. -/
theorem St.push {V : Vis} {l : List Vis} {f e : Value → Option Value} (h : St si J ans B N w (V :: l) false f e) {n : Int} {s : ByteArray} {x : Int} {ks' : List Ky} {vs' ts : List Tr} (hv : V.vs = .mk 4 n s x ks' vs' :: ts) {A : Option Addr} {c : Nat} {p : Option Addr} {m : Int}
    (hin : IsIn w (Lo B w) ks' vs' A) (hc : vs'.length ≤ c ∧ c ≤ maxLen) (hpl : plc A vs'.length = .agg #[.pointer p, .int .i64 m]) (hat : HeadPl B w V.R (plc A vs'.length)) :
    St si J ans B N w (⟨p, m, 0, A, c, ks', vs'⟩ :: V :: l) false f (raw.put e (plc A vs'.length) (.bool true)) ∧ left (⟨p, m, 0, A, c, ks', vs'⟩ :: V :: l) false < left (V :: l) false := by
  have hV := h.ok V List.mem_cons_self
  have hhi := hV.hi
  have hlo := hV.lo
  rw [hv, cnts_cons, cnt_mk] at hhi
  push_cast at hhi
  have epl : Vis.pl ⟨p, m, 0, A, c, ks', vs'⟩ = plc A vs'.length := hpl.symm
  refine ⟨⟨fun X hX => ?_, ⟨⟨ks', vs', ⟨n, s, x, ts, hv⟩, ⟨A, hin, epl⟩, by rw [epl]; exact hat, rfl, Nat.le_refl _⟩, h.chain⟩, (fun h => by cases h), h.szs, fun q b hq => ?_⟩, ?_⟩
  · rcases List.mem_cons.1 hX with rfl | hX
    · exact ⟨hin, hc, Int.le_refl _, by show (0 : Int) + (cnts vs' : Int) ≤ N; omega⟩
    · exact h.ok X hX
  · by_cases e1 : q = plc A vs'.length
    · subst e1
      rw [raw.put_same] at hq
      refine ⟨(Option.some.inj hq).symm, .inr ⟨⟨p, m, 0, A, c, ks', vs'⟩, ?_, epl⟩⟩
      rw [List.dropLast_cons_cons]
      exact List.mem_cons_self
    · rw [raw.put_other e1] at hq
      obtain ⟨hb, ho⟩ := h.ens q b hq
      refine ⟨hb, ho.imp id fun ⟨X, hX, hXp⟩ => ⟨X, ?_, hXp⟩⟩
      rw [List.dropLast_cons_cons]
      exact List.mem_cons_of_mem _ hX
  · simp only [left, hv, List.tail_cons, wks_cons, wk_mk, List.map_cons, List.sum_cons, List.length_cons]
    simp
    omega

/-- The rest behind the first item. -/
theorem IsIn.tail {S : Nat → Prop} {y : Ky} {ks : List Ky} {t : Tr} {vs : List Tr} {a : Addr} (h : IsIn w S (y :: ks) (t :: vs) (some a)) : IsIn w S ks vs (some (a.add 8)) := by
  obtain ⟨hl, hm, C, hc, ht⟩ := h
  refine ⟨by simpa using hl, by simp at hm; omega, fun i => C (i + 1), fun i hi => ?_, fun i hi => ?_⟩
  · obtain ⟨a', ha, hS, ⟨p0, p1, p2, p3, p4⟩, hs, hj⟩ := hc (i + 1) (by simpa using hi)
    obtain rfl := Option.some.inj ha
    have e : ∀ q, (a.add 8).add (8 * i + q) = a.add (8 * (i + 1) + q) := fun q => by rw [add_add']; congr 1; omega
    refine ⟨_, rfl, by rw [mem.add_block]; exact hS, ⟨?_, ?_, ?_, p3, p4⟩, hs, fun j hj5 => ?_⟩
    · have := e 0
      rw [Nat.add_zero, Nat.add_zero] at this
      rw [this]; exact p0
    · rw [e 1]; exact p1
    · rw [e 2]; exact p2
    · rw [e (3 + j)]; exact hj j hj5
  · exact ht (i + 1) (by simpa using hi)
end

end Go.Proofs.YtlbkbcafkjgckaaDoor.tree

/-
  A stack of lists that are still to be gone through, as it lies in memory.
  Conditions: those that each theorem names.
-/
namespace Go.Proofs.YtlbkbcafkjgckaaDoor.tree
open Go.ChangeShapes Go.WideShapes Go.ChangeAt Go.RowKit
set_option linter.unusedVariables false

/-- A list that is still to be gone through. -/
structure Pend where
  R : Option Addr
  c : Nat
  ks : List Ky
  vs : List Tr
def Pend.cell (l : Pend) : Value := .slice l.R l.vs.length l.c
structure PendOk (B : Nat) (w : World) (l : Pend) : Prop where
  isin : IsIn w (Lo B w) l.ks l.vs l.R
  cap : l.vs.length ≤ l.c ∧ l.c ≤ maxLen

def lefts : List Pend → Nat
  | [] => 0
  | l :: P => 1 + wks l.vs + lefts P
theorem lefts_len : ∀ P : List Pend, P.length ≤ lefts P
  | [] => Nat.le_refl _
  | l :: P => by have := lefts_len P; rw [lefts, List.length_cons]; omega

mutual
theorem wk_cnt : ∀ t, wk t ≤ 3 * cnt t
  | .mk _ _ _ _ _ vs => by have := wks_cnts vs; rw [wk, cnt]; omega
theorem wks_cnts : ∀ vs, wks vs ≤ 3 * cnts vs
  | [] => by rw [wks]; omega
  | t :: vs => by have h1 := wk_cnt t; have h2 := wks_cnts vs; rw [wks, cnts]; omega
end

/-! ### the lists in memory -/
abbrev SE : TypeId := 24
def PRow (w : World) (B : Nat) (way : Value) (P : List Pend) : Prop := w.ownsRow B SE 1 way P.length (P.reverse.map Pend.cell)
theorem PRow.below {w w' : World} {B : Nat} {way : Value} {P : List Pend} (h : PRow w B way P) (hb : Below w.heap.size w w') : PRow w' B way P :=
  World.ownsRow.kept h (mem.none_of_below hb) (by
    cases e : way.ownBlock with
    | none => exact .inl rfl
    | some k => exact .inr (by simp))
theorem PRow.top {w : World} {B : Nat} {way : Value} {l : Pend} {P : List Pend} (h : PRow w B way (l :: P)) :
    ∃ g c, way = .slice (some ⟨g, 0, none⟩) (P.length + 1) c ∧ B ≤ g ∧ P.length + 1 ≤ c ∧ c ≤ maxLen ∧ w.cell? ⟨g, P.length, none⟩ = some l.cell ∧ PRow w B (.slice (some ⟨g, 0, none⟩) P.length c) P := by
  obtain ⟨h1, h2⟩ := h
  rcases h2 with ⟨_, h0⟩ | ⟨g, cap, cur, rfl, hB, hg, hn, hm, hs, htake⟩
  · simp at h0
  · have hl : (P.reverse.map Pend.cell).length = P.length := by simp
    have er : (l :: P).reverse.map Pend.cell = P.reverse.map Pend.cell ++ [l.cell] := by simp
    rw [Nat.mul_one, er] at htake
    rw [Nat.mul_one] at hs
    simp only [List.length_cons] at htake hn
    refine ⟨g, cap, rfl, hB, hn, hm, ?_, ⟨by simp, .inr ⟨g, cap, cur, rfl, hB, hg, by omega, hm, by omega, ?_⟩⟩⟩
    · rw [cell_of_row w g _ cur SE _ hg]
      have e : (cur.toList.take (P.length + 1))[P.length]? = some l.cell := by
        rw [htake, List.getElem?_append_right (by omega), hl]
        simp
      rw [List.getElem?_take_of_lt (by omega)] at e
      simpa using e
    · have := congrArg (List.take P.length) htake
      rw [List.take_take, List.take_append_of_le_length (by omega), List.take_of_length_le (l := List.map _ _) (by omega)] at this
      rw [Nat.mul_one, ← this]
      congr 1
      omega

theorem seRow : (Tryd.prog.info? SE).map (fun i => (i.zero, i.size, i.bytes)) = some (some (.slice none 0 0), 1, 24) := by kernel_rfl
theorem PRow.kept4 {w w' : World} {B b : Nat} {way : Value} {P : List Pend} (h : PRow w B way P) (hg : w.grownBy w' (some b)) (hb : b < B) : PRow w' B way P :=
  World.ownsRow.kept h hg (by
    cases e : way.ownBlock with
    | none => exact .inl rfl
    | some k =>
      refine .inr (fun h2 => ?_)
      rcases h.2 with ⟨h0, _⟩ | ⟨g, cap, cur, h0, hB, _⟩
      · rw [h0] at e; cases e
      · rw [h0] at e
        injection e with e
        injection h2 with h2
        have : g = k := e
        omega)
theorem PRow.own {w : World} {B : Nat} {way : Value} {P : List Pend} (h : PRow w B way P) : ∀ k, way.ownBlock = some k → B ≤ k := fun k e => by
  rcases h.2 with ⟨h0, _⟩ | ⟨g, cap, cur, h0, hB, _⟩
  · rw [h0] at e; cases e
  · rw [h0] at e
    injection e with e
    have : g = k := e
    omega
theorem one_new (w : World) (a : Value) (t : TypeId) : ∀ j u, [a][j]? = some u → (w.alloc (.cells #[a] t)).cell? ((⟨w.heap.size, 0, none⟩ : Addr).add j) = some u := by
  intro j u hj
  rw [Addr.add_lit, Nat.zero_add, cell_of_row _ _ j _ t _ (heap_alloc_new w _)]
  simpa using hj

theorem one_new' (w : World) (a : Value) (t : TypeId) {N : Nat} (hN : w.heap.size = N) : ∀ j u, [a][j]? = some u → (w.alloc (.cells #[a] t)).cell? ((⟨N, 0, none⟩ : Addr).add j) = some u := by
  subst hN
  exact one_new w a t
theorem PRow.nil {w : World} {B : Nat} {way : Value} (h : PRow w B way []) : ∃ A c, way = .slice A 0 c := by
  rcases h.2 with ⟨h0, _⟩ | ⟨g, cap, cur, h0, _⟩
  · exact ⟨none, 0, h0⟩
  · exact ⟨_, cap, h0⟩

theorem alH {w : World} {B b : Nat} {f : Value → Option Value} (h : raw.Holds w (GB B) b f) (o : Obj) : raw.Holds (w.alloc o) (GB B) b f :=
  h.kept (Below.heap_alloc w o b h.lt) (fun x hx => hx.kp (Kp.below (b1 w o)))
theorem isin_one {w : World} {S : Nat → Prop} {g : Nat} {y : Ky} {k n x : Int} {s : ByteArray} {A : Option Addr} {L c : Nat} {t : TypeId} {T : Tr} (hS : S g) (hy : I64 y.num ∧ y.str.size ≤ maxLen)
    (hg : w.heap[g]? = some (.cells #[.bool y.text, .int .i64 y.num, .string y.str, .int .i64 k, .int .i64 n, .string s, .int .i64 x, .slice A L c] t (0, 0))) (h : TIn w S T (vV k n s x A L c)) : IsIn w S [y] [T] (some ⟨g, 0, none⟩) := by
  obtain ⟨r, -⟩ := rowc hg
  refine ⟨rfl, by simp [maxLen], fun _ => #[.int .i64 k, .int .i64 n, .string s, .int .i64 x, .slice A L c], fun i hi => ?_, fun i hi => ?_⟩
  · obtain rfl : i = 0 := by simp at hi; omega
    refine ⟨_, rfl, hS, ⟨?_, ?_, ?_, hy⟩, rfl, fun j hj => ?_⟩
    · rw [Addr.add_lit]; exact r 0
    · rw [Addr.add_lit]; exact r 1
    · rw [Addr.add_lit]; exact r 2
    · rw [Addr.add_lit]
      match j, hj with
      | 0, _ => exact r 3
      | 1, _ => exact r 4
      | 2, _ => exact r 5
      | 3, _ => exact r 6
      | 4, _ => exact r 7
  · obtain rfl : i = 0 := by simp at hi; omega
    exact h
theorem zeroBool (w : World) : (zeroValue 4).run Tryd.prog w = .ok (.bool false) w := by kernel_rfl
theorem got1_none (z : Value) : raw.Got false z none = z := rfl
theorem got1_some (z v : Value) : raw.Got false z (some v) = v := rfl
theorem got_some (z v : Value) : raw.Got true z (some v) = .tuple #[v, .bool true] := rfl
theorem got_none (z : Value) : raw.Got true z none = .tuple #[z, .bool false] := rfl

end Go.Proofs.YtlbkbcafkjgckaaDoor.tree

/-
  What going through an array by places decides: whether all that is in it is plain.
  Conditions: those that each theorem names.
-/
namespace Go.Proofs.YtlbkbcafkjgckaaDoor.tree
open Go.ChangeShapes Go.WideShapes Go.ChangeAt Go.RowKit
set_option linter.unusedVariables false

mutual
def plainB : Tr → Bool
  | .mk k _ _ _ _ vs => (decide (0 ≤ k) && decide (k ≤ 3)) || (decide (k = 4) && plainL vs)
def plainL : List Tr → Bool
  | [] => true
  | t :: vs => plainB t && plainL vs
end
theorem plainL_cons (t : Tr) (vs : List Tr) : plainL (t :: vs) = (plainB t && plainL vs) := by rw [plainL]
theorem plainL_mem : ∀ {vs : List Tr}, plainL vs = true ↔ ∀ t ∈ vs, plainB t = true
  | [] => by rw [plainL]; simp
  | t :: vs => by rw [plainL_cons, Bool.and_eq_true, plainL_mem]; simp
theorem plain_kind {k n : Int} {s : ByteArray} {x : Int} {ks : List Ky} {vs : List Tr} (h : plainB (.mk k n s x ks vs) = true) : 0 ≤ k ∧ k ≤ 4 := by
  rw [plainB] at h
  simp at h
  omega
theorem plain_items {n : Int} {s : ByteArray} {x : Int} {ks : List Ky} {vs : List Tr} : plainB (.mk 4 n s x ks vs) = plainL vs := by
  rw [plainB]
  simp
theorem plain_other {k n : Int} {s : ByteArray} {x : Int} {ks : List Ky} {vs : List Tr} (h0 : 0 ≤ k) (h4 : k ≤ 4) (h : k ≠ 4) : plainB (.mk k n s x ks vs) = true := by
  rw [plainB]
  simp
  omega

/-- A value that has been looked at, and its array, if it is one, has been entered. -/
def Seen (B : Nat) (w : World) (e : Value → Option Value) : Tr → Prop
  | .mk k _ _ _ ks vs => (0 ≤ k ∧ k ≤ 4) ∧ (k = 4 → ∃ p, PlB B w p ks vs ∧ e p ≠ none)
def Done (B : Nat) (w : World) (P : List Pend) (rs : List Tr) (e : Value → Option Value) (vs : List Tr) : Prop := (∃ l ∈ P, l.vs = vs) ∨ ∀ x ∈ vs, Seen B w e x ∨ x ∈ rs
structure PSt (T : Tr) (B : Nat) (w : World) (P : List Pend) (rs : List Tr) (e : Value → Option Value) : Prop where
  ok : ∀ l ∈ P, PendOk B w l
  ens : ∀ p b, e p = some b → b = .bool true ∧ ∃ ks vs, PlB B w p ks vs ∧ Done B w P rs e vs
  root : Done B w P rs e [T]
  down : plainB T = true → (∀ l ∈ P, plainL l.vs = true) ∧ plainL rs = true

section
variable {T : Tr} {B : Nat} {w w' : World} {P : List Pend} {rs : List Tr} {e : Value → Option Value}
theorem Seen.kp (hk : Kp B w w') {x : Tr} (h : Seen B w e x) : Seen B w' e x := by
  cases x
  exact ⟨h.1, fun h4 => by obtain ⟨p, h1, h2⟩ := h.2 h4; exact ⟨p, h1.kp hk, h2⟩⟩
theorem Done.kp (hk : Kp B w w') {vs : List Tr} (h : Done B w P rs e vs) : Done B w' P rs e vs := h.imp id fun h x hx => (h x hx).imp (fun h => h.kp hk) id
theorem PSt.kp (hk : Kp B w w') (h : PSt T B w P rs e) : PSt T B w' P rs e where
  ok := fun l hl => ⟨(h.ok l hl).isin.kp hk, (h.ok l hl).cap⟩
  ens := fun p b hp => by
    obtain ⟨hb, ks, vs, h1, h2⟩ := h.ens p b hp
    exact ⟨hb, ks, vs, h1.kp hk, h2.kp hk⟩
  root := h.root.kp hk
  down := h.down

/-- The last list is taken. -/
theorem PSt.pop {l : Pend} (h : PSt T B w (l :: P) [] e) : PSt T B w P l.vs e := by
  have step : ∀ {vs : List Tr}, Done B w (l :: P) [] e vs → Done B w P l.vs e vs := fun {vs} hd => by
    rcases hd with ⟨l', hl, rfl⟩ | hd
    · rcases List.mem_cons.1 hl with rfl | hl
      · exact .inr fun x hx => .inr hx
      · exact .inl ⟨l', hl, rfl⟩
    · exact .inr fun x hx => .inl ((hd x hx).resolve_right (by simp))
  exact ⟨fun l' hl => h.ok l' (List.mem_cons_of_mem _ hl), fun p b hp => by
    obtain ⟨hb, ks, vs, h1, h2⟩ := h.ens p b hp
    exact ⟨hb, ks, vs, h1, step h2⟩, step h.root, fun hT => ⟨fun l' hl => (h.down hT).1 l' (List.mem_cons_of_mem _ hl), (h.down hT).1 l List.mem_cons_self⟩⟩

/-- A value that needs no more. -/
theorem PSt.next {x : Tr} (h : PSt T B w P (x :: rs) e) (hx : Seen B w e x) : PSt T B w P rs e := by
  have step : ∀ {vs : List Tr}, Done B w P (x :: rs) e vs → Done B w P rs e vs := fun {vs} hd => hd.imp id fun hd y hy => by
    rcases hd y hy with h | h
    · exact .inl h
    · rcases List.mem_cons.1 h with rfl | h
      · exact .inl hx
      · exact .inr h
  exact ⟨h.ok, fun p b hp => by
    obtain ⟨hb, ks, vs, h1, h2⟩ := h.ens p b hp
    exact ⟨hb, ks, vs, h1, step h2⟩, step h.root, fun hT => ⟨(h.down hT).1, by have := (h.down hT).2; rw [plainL_cons, Bool.and_eq_true] at this; exact this.2⟩⟩

/-- An array that is entered. -/
theorem PSt.enter {n : Int} {s : ByteArray} {x : Int} {l : Pend} (h : PSt T B w P (.mk 4 n s x l.ks l.vs :: rs) e) (hl : PendOk B w l) :
    PSt T B w (l :: P) rs (raw.put e (plc l.R l.vs.length) (.bool true)) := by
  have hp : PlB B w (plc l.R l.vs.length) l.ks l.vs := ⟨l.R, hl.isin, rfl⟩
  have more : ∀ q, e q ≠ none → raw.put e (plc l.R l.vs.length) (.bool true) q ≠ none := fun q hq => by
    by_cases e1 : q = plc l.R l.vs.length
    · rw [e1, raw.put_same]; simp
    · rw [raw.put_other e1]; exact hq
  have seen : ∀ y, Seen B w e y → Seen B w (raw.put e (plc l.R l.vs.length) (.bool true)) y := fun y hy => by
    cases y
    exact ⟨hy.1, fun h4 => by obtain ⟨p, h1, h2⟩ := hy.2 h4; exact ⟨p, h1, more p h2⟩⟩
  have step : ∀ {vs : List Tr}, Done B w P (.mk 4 n s x l.ks l.vs :: rs) e vs → Done B w (l :: P) rs (raw.put e (plc l.R l.vs.length) (.bool true)) vs := fun {vs} hd => by
    rcases hd with ⟨l', hl', rfl⟩ | hd
    · exact .inl ⟨l', List.mem_cons_of_mem _ hl', rfl⟩
    · refine .inr fun y hy => ?_
      rcases hd y hy with h | h
      · exact .inl (seen y h)
      · rcases List.mem_cons.1 h with rfl | h
        · exact .inl ⟨⟨by omega, by omega⟩, fun _ => ⟨_, hp, by rw [raw.put_same]; simp⟩⟩
        · exact .inr h
  refine ⟨fun l' hl' => ?_, fun q b hq => ?_, step h.root, fun hT => ?_⟩
  · rcases List.mem_cons.1 hl' with rfl | hl'
    · exact hl
    · exact h.ok l' hl'
  · by_cases e1 : q = plc l.R l.vs.length
    · subst e1
      rw [raw.put_same] at hq
      exact ⟨(Option.some.inj hq).symm, l.ks, l.vs, hp, .inl ⟨l, List.mem_cons_self, rfl⟩⟩
    · rw [raw.put_other e1] at hq
      obtain ⟨hb, ks, vs, h1, h2⟩ := h.ens q b hq
      exact ⟨hb, ks, vs, h1, step h2⟩
  · have := (h.down hT).2
    rw [plainL_cons, Bool.and_eq_true, plain_items] at this
    refine ⟨fun l' hl' => ?_, this.2⟩
    rcases List.mem_cons.1 hl' with rfl | hl'
    · exact this.1
    · exact (h.down hT).1 l' hl'

/-- A value that is not plain. -/
theorem PSt.bad {k n : Int} {s : ByteArray} {x : Int} {ks : List Ky} {vs : List Tr} (h : PSt T B w P (.mk k n s x ks vs :: rs) e) (hk : ¬ (0 ≤ k ∧ k ≤ 4)) : plainB T = false := by
  cases hT : plainB T with
  | false => rfl
  | true =>
    have := (h.down hT).2
    rw [plainL_cons, Bool.and_eq_true] at this
    exact absurd (plain_kind this.1) hk

/-- Nothing is left: all is plain. -/
theorem PSt.fine (h : PSt T B w [] [] e) : plainB T = true := by
  have all : ∀ m x, cnt x ≤ m → Seen B w e x → plainB x = true := by
    intro m
    induction m with
    | zero => intro x hm; cases x; rw [cnt_mk] at hm; omega
    | succ m ih =>
      intro x hm hx
      obtain ⟨k, n, s, x, ks, vs⟩ := x
      by_cases h4 : k = 4
      · subst h4
        rw [plain_items, plainL_mem]
        obtain ⟨p, hp, hne⟩ := hx.2 rfl
        obtain ⟨b, hb⟩ := Option.ne_none_iff_exists'.1 hne
        obtain ⟨-, ks', vs', hp', hd⟩ := h.ens p b hb
        obtain ⟨-, rfl⟩ := hp'.is.unique hp.is
        intro y hy
        rcases hd with ⟨l, hl, _⟩ | hd
        · cases hl
        · refine ih y ?_ ((hd y hy).resolve_right (by simp))
          have : cnt y ≤ cnts vs' := by
            clear hd hp hp' hx ih
            induction vs' with
            | nil => cases hy
            | cons u vs ih2 =>
              rw [cnts_cons]
              rcases List.mem_cons.1 hy with rfl | hy
              · omega
              · have := ih2 (by rw [cnt_mk] at hm ⊢; rw [cnts_cons] at hm; omega) hy
                omega
          rw [cnt_mk] at hm
          omega
      · exact plain_other hx.1.1 hx.1.2 h4
  rcases h.root with ⟨l, hl, _⟩ | hd
  · cases hl
  · exact all _ T (Nat.le_refl _) ((hd T (by simp)).resolve_right (by simp))
end

end Go.Proofs.YtlbkbcafkjgckaaDoor.tree

/-
  Whether two values are identical, without the program.
  Conditions: those that each theorem names.
-/
namespace Go.Proofs.YtlbkbcafkjgckaaDoor.tree
open Go.ChangeShapes Go.WideShapes Go.ChangeAt Go.RowKit
set_option linter.unusedVariables false

/-- Kind, Num, Str and the number of items. -/
def alikeB (t t' : Tr) : Bool :=
  match t, t' with
  | .mk k n s _ _ vs, .mk k' n' s' _ _ vs' => decide (k = k') && (decide (n = n') && (decide (s.data.toList = s'.data.toList) && decide (vs.length = vs'.length)))
mutual
def identB : Tr → Tr → Bool
  | .mk k n s _ ks vs, .mk k' n' s' _ ks' vs' => (decide (k = k') && (decide (n = n') && (decide (s.data.toList = s'.data.toList) && decide (vs.length = vs'.length)))) && identL ks vs ks' vs'
def identL : List Ky → List Tr → List Ky → List Tr → Bool
  | y :: ks, t :: vs, y' :: ks', t' :: vs' => (decide (y = y') && identB t t') && identL ks vs ks' vs'
  | _, _, _, _ => true
end

theorem identB_mk (k n : Int) (s : ByteArray) (x : Int) (ks : List Ky) (vs : List Tr) (k' n' : Int) (s' : ByteArray) (x' : Int) (ks' : List Ky) (vs' : List Tr) :
    identB (.mk k n s x ks vs) (.mk k' n' s' x' ks' vs') = (alikeB (.mk k n s x ks vs) (.mk k' n' s' x' ks' vs') && identL ks vs ks' vs') := by rw [identB]; rfl
theorem identL_drop {ks : List Ky} {vs : List Tr} {ks' : List Ky} {vs' : List Tr} {j : Nat} {y y' : Ky} {t t' : Tr} (h1 : ks[j]? = some y) (h2 : vs[j]? = some t) (h3 : ks'[j]? = some y') (h4 : vs'[j]? = some t') :
    identL (ks.drop j) (vs.drop j) (ks'.drop j) (vs'.drop j) = ((decide (y = y') && identB t t') && identL (ks.drop (j + 1)) (vs.drop (j + 1)) (ks'.drop (j + 1)) (vs'.drop (j + 1))) := by
  obtain ⟨a1, rfl⟩ := List.getElem?_eq_some_iff.1 h1
  obtain ⟨a2, rfl⟩ := List.getElem?_eq_some_iff.1 h2
  obtain ⟨a3, rfl⟩ := List.getElem?_eq_some_iff.1 h3
  obtain ⟨a4, rfl⟩ := List.getElem?_eq_some_iff.1 h4
  rw [List.drop_eq_getElem_cons a1, List.drop_eq_getElem_cons a2, List.drop_eq_getElem_cons a3, List.drop_eq_getElem_cons a4, identL]

end Go.Proofs.YtlbkbcafkjgckaaDoor.tree

/-
  What going through two arrays by places decides: whether they are identical.
  Conditions: those that each theorem names.
-/
namespace Go.Proofs.YtlbkbcafkjgckaaDoor.tree
open Go.ChangeShapes Go.WideShapes Go.ChangeAt Go.RowKit
set_option linter.unusedVariables false

abbrev It := (Ky × Tr) × (Ky × Tr)
def zz (ks : List Ky) (vs : List Tr) (ks' : List Ky) (vs' : List Tr) : List It := (ks.zip vs).zip (ks'.zip vs')
theorem identL_iff : ∀ (ks : List Ky) (vs : List Tr) (ks' : List Ky) (vs' : List Tr), identL ks vs ks' vs' = true ↔ ∀ it ∈ zz ks vs ks' vs', it.1.1 = it.2.1 ∧ identB it.1.2 it.2.2 = true
  | y :: ks, t :: vs, y' :: ks', t' :: vs' => by
    have ih := identL_iff ks vs ks' vs'
    rw [identL, Bool.and_eq_true, Bool.and_eq_true, ih]
    simp [zz]
  | [], _, _, _ => by simp [identL, zz]
  | _ :: _, [], _, _ => by simp [identL, zz]
  | _ :: _, _ :: _, [], _ => by simp [identL, zz]
  | _ :: _, _ :: _, _ :: _, [] => by simp [identL, zz]
theorem zz_drop (ks : List Ky) (vs : List Tr) (ks' : List Ky) (vs' : List Tr) {j : Nat} {y y' : Ky} {t t' : Tr} (h1 : ks[j]? = some y) (h2 : vs[j]? = some t) (h3 : ks'[j]? = some y') (h4 : vs'[j]? = some t') :
    (zz ks vs ks' vs').drop j = ((y, t), (y', t')) :: (zz ks vs ks' vs').drop (j + 1) := by
  have e : (zz ks vs ks' vs')[j]? = some ((y, t), (y', t')) := by simp [zz, List.getElem?_zip_eq_some, h1, h2, h3, h4]
  obtain ⟨hj, e1⟩ := List.getElem?_eq_some_iff.1 e
  rw [List.drop_eq_getElem_cons hj, e1]
theorem zz_len {ks : List Ky} {vs : List Tr} {ks' : List Ky} {vs' : List Tr} (h : ks.length = vs.length) (h' : ks'.length = vs'.length) (hl : vs.length = vs'.length) : (zz ks vs ks' vs').length = vs.length := by
  simp [zz]
  omega

/-- Two places as one key. -/
def pq (x y : Value) : Value := .agg (x.cells ++ y.cells)
theorem plc_form (A : Option Addr) (n : Nat) : ∃ p m, plc A n = .agg #[.pointer p, .int .i64 m] := by
  unfold plc
  split
  · exact ⟨_, _, rfl⟩
  · exact ⟨_, _, rfl⟩
theorem pq_inj {A A' C C' : Option Addr} {n n' m m' : Nat} (h : pq (plc A n) (plc C m) = pq (plc A' n') (plc C' m')) : plc A n = plc A' n' ∧ plc C m = plc C' m' := by
  obtain ⟨a1, b1, e1⟩ := plc_form A n
  obtain ⟨a2, b2, e2⟩ := plc_form C m
  obtain ⟨a3, b3, e3⟩ := plc_form A' n'
  obtain ⟨a4, b4, e4⟩ := plc_form C' m'
  rw [e1, e2, e3, e4] at h ⊢
  simp [pq, Value.cells] at h
  obtain ⟨rfl, rfl, rfl, rfl⟩ := h
  exact ⟨rfl, rfl⟩

/-- Two lists that are still to be gone through. -/
structure Pair where
  a : Pend
  b : Pend
def Pair.z (l : Pair) : List It := zz l.a.ks l.a.vs l.b.ks l.b.vs
def Pair.cells (l : Pair) : List Value := [l.a.cell, l.b.cell]
structure PairOk (B : Nat) (w : World) (l : Pair) : Prop where
  a : PendOk B w l.a
  b : PendOk B w l.b
  len : l.a.vs.length = l.b.vs.length

def Seen2 (B : Nat) (w : World) (e : Value → Option Value) (it : It) : Prop :=
  it.1.1 = it.2.1 ∧ alikeB it.1.2 it.2.2 = true ∧ ∃ k n s x ks vs k' n' s' x' ks' vs', it.1.2 = .mk k n s x ks vs ∧ it.2.2 = .mk k' n' s' x' ks' vs' ∧ ∃ p q, PlB B w p ks vs ∧ PlB B w q ks' vs' ∧ e (pq p q) ≠ none
def Done2 (B : Nat) (w : World) (P : List Pair) (rz : List It) (e : Value → Option Value) (z : List It) : Prop := (∃ l ∈ P, l.z = z) ∨ ∀ it ∈ z, Seen2 B w e it ∨ it ∈ rz
def okZ (z : List It) : Prop := ∀ it ∈ z, it.1.1 = it.2.1 ∧ identB it.1.2 it.2.2 = true
structure ISt (T T' : Tr) (B : Nat) (w : World) (P : List Pair) (rz : List It) (e : Value → Option Value) : Prop where
  ok : ∀ l ∈ P, PairOk B w l
  ens : ∀ v b, e v = some b → b = .bool true ∧ ∃ p q ks vs ks' vs', v = pq p q ∧ PlB B w p ks vs ∧ PlB B w q ks' vs' ∧ Done2 B w P rz e (zz ks vs ks' vs')
  root : ∃ y, Done2 B w P rz e [((y, T), (y, T'))]
  down : identB T T' = true → (∀ l ∈ P, okZ l.z) ∧ okZ rz

def lefts2 : List Pair → Nat
  | [] => 0
  | l :: P => 1 + wks l.a.vs + lefts2 P
theorem lefts2_len : ∀ P : List Pair, P.length ≤ lefts2 P
  | [] => Nat.le_refl _
  | l :: P => by have := lefts2_len P; rw [lefts2, List.length_cons]; omega

section
variable {T T' : Tr} {B : Nat} {w w' : World} {P : List Pair} {rz : List It} {e : Value → Option Value}
theorem Seen2.kp (hk : Kp B w w') {it : It} (h : Seen2 B w e it) : Seen2 B w' e it := by
  obtain ⟨h1, h2, k, n, s, x, ks, vs, k', n', s', x', ks', vs', e1, e2, p, q, h3, h4, h5⟩ := h
  exact ⟨h1, h2, k, n, s, x, ks, vs, k', n', s', x', ks', vs', e1, e2, p, q, h3.kp hk, h4.kp hk, h5⟩
theorem Done2.kp (hk : Kp B w w') {z : List It} (h : Done2 B w P rz e z) : Done2 B w' P rz e z := h.imp id fun h x hx => (h x hx).imp (fun h => h.kp hk) id
theorem ISt.kp (hk : Kp B w w') (h : ISt T T' B w P rz e) : ISt T T' B w' P rz e where
  ok := fun l hl => ⟨⟨(h.ok l hl).a.isin.kp hk, (h.ok l hl).a.cap⟩, ⟨(h.ok l hl).b.isin.kp hk, (h.ok l hl).b.cap⟩, (h.ok l hl).len⟩
  ens := fun v b hv => by
    obtain ⟨hb, p, q, ks, vs, ks', vs', e1, h1, h2, h3⟩ := h.ens v b hv
    exact ⟨hb, p, q, ks, vs, ks', vs', e1, h1.kp hk, h2.kp hk, h3.kp hk⟩
  root := by
    obtain ⟨y, h⟩ := h.root
    exact ⟨y, h.kp hk⟩
  down := h.down
theorem ISt.pop {l : Pair} (h : ISt T T' B w (l :: P) [] e) : ISt T T' B w P l.z e := by
  have step : ∀ {z : List It}, Done2 B w (l :: P) [] e z → Done2 B w P l.z e z := fun {z} hd => by
    rcases hd with ⟨l', hl, rfl⟩ | hd
    · rcases List.mem_cons.1 hl with rfl | hl
      · exact .inr fun x hx => .inr hx
      · exact .inl ⟨l', hl, rfl⟩
    · exact .inr fun x hx => .inl ((hd x hx).resolve_right (by simp))
  refine ⟨fun l' hl => h.ok l' (List.mem_cons_of_mem _ hl), fun v b hv => ?_, ?_, fun hT => ⟨fun l' hl => (h.down hT).1 l' (List.mem_cons_of_mem _ hl), (h.down hT).1 l List.mem_cons_self⟩⟩
  · obtain ⟨hb, p, q, ks, vs, ks', vs', e1, h1, h2, h3⟩ := h.ens v b hv
    exact ⟨hb, p, q, ks, vs, ks', vs', e1, h1, h2, step h3⟩
  · obtain ⟨y, h⟩ := h.root
    exact ⟨y, step h⟩
theorem ISt.next {it : It} (h : ISt T T' B w P (it :: rz) e) (hx : Seen2 B w e it) : ISt T T' B w P rz e := by
  have step : ∀ {z : List It}, Done2 B w P (it :: rz) e z → Done2 B w P rz e z := fun {z} hd => hd.imp id fun hd y hy => by
    rcases hd y hy with h | h
    · exact .inl h
    · rcases List.mem_cons.1 h with rfl | h
      · exact .inl hx
      · exact .inr h
  refine ⟨h.ok, fun v b hv => ?_, ?_, fun hT => ⟨(h.down hT).1, fun i hi => (h.down hT).2 i (List.mem_cons_of_mem _ hi)⟩⟩
  · obtain ⟨hb, p, q, ks, vs, ks', vs', e1, h1, h2, h3⟩ := h.ens v b hv
    exact ⟨hb, p, q, ks, vs, ks', vs', e1, h1, h2, step h3⟩
  · obtain ⟨y, h⟩ := h.root
    exact ⟨y, step h⟩
theorem ISt.enter {y : Ky} {k n x k' n' x' : Int} {s s' : ByteArray} {l : Pair} (h : ISt T T' B w P (((y, .mk k n s x l.a.ks l.a.vs), (y, .mk k' n' s' x' l.b.ks l.b.vs)) :: rz) e)
    (hal : alikeB (.mk k n s x l.a.ks l.a.vs) (.mk k' n' s' x' l.b.ks l.b.vs) = true) (hl : PairOk B w l) :
    ISt T T' B w (l :: P) rz (raw.put e (pq (plc l.a.R l.a.vs.length) (plc l.b.R l.b.vs.length)) (.bool true)) := by
  have hp : PlB B w (plc l.a.R l.a.vs.length) l.a.ks l.a.vs := ⟨l.a.R, hl.a.isin, rfl⟩
  have hq : PlB B w (plc l.b.R l.b.vs.length) l.b.ks l.b.vs := ⟨l.b.R, hl.b.isin, rfl⟩
  generalize hK : pq (plc l.a.R l.a.vs.length) (plc l.b.R l.b.vs.length) = K
  have more : ∀ q, e q ≠ none → raw.put e K (.bool true) q ≠ none := fun q hq => by
    by_cases e1 : q = K
    · rw [e1, raw.put_same]; simp
    · rw [raw.put_other e1]; exact hq
  have seen : ∀ it, Seen2 B w e it → Seen2 B w (raw.put e K (.bool true)) it := fun it hy => by
    obtain ⟨h1, h2, k, n, s, x, ks, vs, k', n', s', x', ks', vs', e1, e2, p, q, h3, h4, h5⟩ := hy
    exact ⟨h1, h2, k, n, s, x, ks, vs, k', n', s', x', ks', vs', e1, e2, p, q, h3, h4, more _ h5⟩
  have step : ∀ {z : List It}, Done2 B w P (((y, .mk k n s x l.a.ks l.a.vs), (y, .mk k' n' s' x' l.b.ks l.b.vs)) :: rz) e z → Done2 B w (l :: P) rz (raw.put e K (.bool true)) z := fun {z} hd => by
    rcases hd with ⟨l', hl', rfl⟩ | hd
    · exact .inl ⟨l', List.mem_cons_of_mem _ hl', rfl⟩
    · refine .inr fun i hi => ?_
      rcases hd i hi with h | h
      · exact .inl (seen i h)
      · rcases List.mem_cons.1 h with rfl | h
        · exact .inl ⟨rfl, hal, _, _, _, _, _, _, _, _, _, _, _, _, rfl, rfl, _, _, hp, hq, by rw [hK, raw.put_same]; simp⟩
        · exact .inr h
  refine ⟨fun l' hl' => ?_, fun v b hv => ?_, ?_, fun hT => ?_⟩
  · rcases List.mem_cons.1 hl' with rfl | hl'
    · exact hl
    · exact h.ok l' hl'
  · by_cases e1 : v = K
    · subst e1
      rw [raw.put_same] at hv
      exact ⟨(Option.some.inj hv).symm, _, _, _, _, _, _, hK.symm, hp, hq, .inl ⟨l, List.mem_cons_self, rfl⟩⟩
    · rw [raw.put_other e1] at hv
      obtain ⟨hb, p, q, ks, vs, ks', vs', e1, h1, h2, h3⟩ := h.ens v b hv
      exact ⟨hb, p, q, ks, vs, ks', vs', e1, h1, h2, step h3⟩
  · obtain ⟨y, h⟩ := h.root
    exact ⟨y, step h⟩
  · have hd := (h.down hT).2 _ List.mem_cons_self
    rw [show identB _ _ = _ from identB_mk k n s x l.a.ks l.a.vs k' n' s' x' l.b.ks l.b.vs, Bool.and_eq_true, identL_iff] at hd
    refine ⟨fun l' hl' => ?_, fun i hi => (h.down hT).2 i (List.mem_cons_of_mem _ hi)⟩
    rcases List.mem_cons.1 hl' with rfl | hl'
    · exact hd.2.2
    · exact (h.down hT).1 l' hl'
theorem ISt.bad {it : It} (h : ISt T T' B w P (it :: rz) e) (hk : ¬ (it.1.1 = it.2.1 ∧ alikeB it.1.2 it.2.2 = true)) : identB T T' = false := by
  cases hT : identB T T' with
  | false => rfl
  | true =>
    have := (h.down hT).2 it List.mem_cons_self
    refine absurd ⟨this.1, ?_⟩ hk
    obtain ⟨⟨y, t⟩, ⟨y', t'⟩⟩ := it
    obtain ⟨k, n, s, x, ks, vs⟩ := t
    obtain ⟨k', n', s', x', ks', vs'⟩ := t'
    have h2 := this.2
    rw [show identB _ _ = _ from identB_mk k n s x ks vs k' n' s' x' ks' vs', Bool.and_eq_true] at h2
    exact h2.1
theorem zz_cnt {ks : List Ky} {vs : List Tr} {ks' : List Ky} {vs' : List Tr} {it : It} (h : it ∈ zz ks vs ks' vs') : cnt it.1.2 ≤ cnts vs := by
  have h1 := (List.of_mem_zip (show (it.1, it.2) ∈ _ from h)).1
  have h2 := (List.of_mem_zip (show (it.1.1, it.1.2) ∈ _ from h1)).2
  clear h h1
  induction vs with
  | nil => cases h2
  | cons u vs ih =>
    rw [cnts_cons]
    rcases List.mem_cons.1 h2 with h | h
    · rw [h]; omega
    · have := ih h; omega
theorem ISt.fine (h : ISt T T' B w [] [] e) : identB T T' = true := by
  have all : ∀ m (it : It), cnt it.1.2 ≤ m → Seen2 B w e it → identB it.1.2 it.2.2 = true := by
    intro m
    induction m with
    | zero => intro it hm; obtain ⟨⟨y, t⟩, z⟩ := it; cases t; simp only [cnt_mk] at hm; omega
    | succ m ih =>
      intro it hm hx
      obtain ⟨h1, h2, k, n, s, x, ks, vs, k', n', s', x', ks', vs', e1, e2, p, q, h3, h4, h5⟩ := hx
      rw [e1, e2] at h2 ⊢
      rw [e1, cnt_mk] at hm
      rw [identB_mk, h2, Bool.true_and, identL_iff]
      obtain ⟨b, hb⟩ := Option.ne_none_iff_exists'.1 h5
      obtain ⟨-, p2, q2, ks2, vs2, ks2', vs2', epq, g1, g2, hd⟩ := h.ens _ b hb
      have hpq : p = p2 ∧ q = q2 := by
        obtain ⟨A1, _, rfl⟩ := h3
        obtain ⟨A2, _, rfl⟩ := h4
        obtain ⟨A3, _, rfl⟩ := g1
        obtain ⟨A4, _, rfl⟩ := g2
        exact pq_inj epq
      obtain ⟨rfl, rfl⟩ := hpq
      obtain ⟨rfl, rfl⟩ := h3.is.unique g1.is
      obtain ⟨rfl, rfl⟩ := h4.is.unique g2.is
      intro i hi
      rcases hd with ⟨l, hl, _⟩ | hd
      · cases hl
      · have hs := (hd i hi).resolve_right (by simp)
        have hc := zz_cnt hi
        exact ⟨hs.1, ih i (by omega) hs⟩
  obtain ⟨y, hr⟩ := h.root
  rcases hr with ⟨l, hl, _⟩ | hd
  · cases hl
  · exact all _ ((y, T), (y, T')) (Nat.le_refl _) ((hd _ (by simp)).resolve_right (by simp))
end

end Go.Proofs.YtlbkbcafkjgckaaDoor.tree

/-
  How two values compare, without the program; and what going through two arrays with a list of places decides.
  Conditions: those that each theorem names.
-/
namespace Go.Proofs.YtlbkbcafkjgckaaDoor.tree
open Go.ChangeShapes Go.WideShapes Go.ChangeAt Go.RowKit
set_option linter.unusedVariables false

def bys (a b : ByteArray) : Int := Lib.compareBytes a.data.toList b.data.toList
/-- How two values compare without going into arrays. -/
def ordO : Tr → Tr → Int
  | .mk k n s x ks vs, .mk k' n' s' x' ks' vs' =>
    if (k = 0 ∧ k' = 3) ∨ (k' = 0 ∧ k = 3) then bys (ers.tt (.mk k n s x ks vs)).1 (ers.tt (.mk k' n' s' x' ks' vs')).1
    else if (k = 0 ∨ k = 1) ∨ (k' = 0 ∨ k' = 1) then Lib.compareInt (tr01 (.mk k n s x ks vs)) (tr01 (.mk k' n' s' x' ks' vs'))
    else if (ers.nn (.mk k n s x ks vs)).2 = true ∧ (ers.nn (.mk k' n' s' x' ks' vs')).2 = true then Lib.compareInt (ers.nn (.mk k n s x ks vs)).1 (ers.nn (.mk k' n' s' x' ks' vs')).1
    else if (k = 2 ∨ k = 3) ∧ (k' = 2 ∨ k' = 3) then bys (ers.tt (.mk k n s x ks vs)).1 (ers.tt (.mk k' n' s' x' ks' vs')).1
    else if k = 4 ∧ k' = 4 then Lib.compareInt vs.length vs'.length
    else if k = 4 then 1
    else if k' = 4 then -1
    else if k = k' ∧ n = n' then 0 else 2
theorem ordO_mk (k n : Int) (s : ByteArray) (x : Int) (ks : List Ky) (vs : List Tr) (k' n' : Int) (s' : ByteArray) (x' : Int) (ks' : List Ky) (vs' : List Tr) : ordO (.mk k n s x ks vs) (.mk k' n' s' x' ks' vs') = (if (k = 0 ∧ k' = 3) ∨ (k' = 0 ∧ k = 3) then bys (ers.tt (.mk k n s x ks vs)).1 (ers.tt (.mk k' n' s' x' ks' vs')).1 else if (k = 0 ∨ k = 1) ∨ (k' = 0 ∨ k' = 1) then Lib.compareInt (tr01 (.mk k n s x ks vs)) (tr01 (.mk k' n' s' x' ks' vs')) else if (ers.nn (.mk k n s x ks vs)).2 = true ∧ (ers.nn (.mk k' n' s' x' ks' vs')).2 = true then Lib.compareInt (ers.nn (.mk k n s x ks vs)).1 (ers.nn (.mk k' n' s' x' ks' vs')).1 else if (k = 2 ∨ k = 3) ∧ (k' = 2 ∨ k' = 3) then bys (ers.tt (.mk k n s x ks vs)).1 (ers.tt (.mk k' n' s' x' ks' vs')).1 else if k = 4 ∧ k' = 4 then Lib.compareInt vs.length vs'.length else if k = 4 then 1 else if k' = 4 then -1 else if k = k' ∧ n = n' then 0 else 2) := rfl
/-- The value of a key's first item. -/
def getL (ks : List Ky) (vs : List Tr) (y : Ky) : Option Tr := if pos ks y 0 = -1 then none else vs[(pos ks y 0).toNat]?
def thn (a b : Int) : Int := if a = 0 then b else a
def isArr : Tr → Bool
  | .mk k _ _ _ _ _ => decide (k = 4)
mutual
/-- How two values compare. -/
def cmpT : Tr → Tr → Int
  | .mk k n s x ks vs, .mk k' n' s' x' ks' vs' => if ordO (.mk k n s x ks vs) (.mk k' n' s' x' ks' vs') = 0 ∧ k = 4 ∧ k' = 4 then cmpL ks vs ks' vs' else ordO (.mk k n s x ks vs) (.mk k' n' s' x' ks' vs')
/-- How the items of an array compare with those of another. -/
def cmpL : List Ky → List Tr → List Ky → List Tr → Int
  | y :: ks, t :: vs, ks', vs' => match getL ks' vs' y with
    | none => 2
    | some u => thn (cmpT t u) (cmpL ks vs ks' vs')
  | _, _, _, _ => 0
end
theorem cmpT_mk (k n : Int) (s : ByteArray) (x : Int) (ks : List Ky) (vs : List Tr) (k' n' : Int) (s' : ByteArray) (x' : Int) (ks' : List Ky) (vs' : List Tr) : cmpT (.mk k n s x ks vs) (.mk k' n' s' x' ks' vs') = if ordO (.mk k n s x ks vs) (.mk k' n' s' x' ks' vs') = 0 ∧ k = 4 ∧ k' = 4 then cmpL ks vs ks' vs' else ordO (.mk k n s x ks vs) (.mk k' n' s' x' ks' vs') := by rw [cmpT]
theorem cmpL_cons (y : Ky) (ks : List Ky) (t : Tr) (vs : List Tr) (ks' : List Ky) (vs' : List Tr) : cmpL (y :: ks) (t :: vs) ks' vs' = match getL ks' vs' y with
    | none => 2
    | some u => thn (cmpT t u) (cmpL ks vs ks' vs') := by rw [cmpL]
theorem cmpL_nil (ks : List Ky) (ks' : List Ky) (vs' : List Tr) : cmpL ks [] ks' vs' = 0 := by
  cases ks <;> rw [cmpL] <;> simp
theorem thn_zero (b : Int) : thn 0 b = b := by unfold thn; rw [if_pos rfl]
theorem thn_not {a : Int} (h : a ≠ 0) (b : Int) : thn a b = a := by unfold thn; rw [if_neg h]

/-! ### two arrays that are being compared -/
structure Mt where
  R : Option Addr
  c : Nat
  ks : List Ky
  vs : List Tr
  A' : Option Addr
  c' : Nat
  ks' : List Ky
  vs' : List Tr
  p : Nat
  b : Nat
  ks0 : List Ky
  vs0 : List Tr
def Mt.cells (F : Mt) : List Value := [.slice F.R F.vs.length F.c, .slice F.A' F.vs'.length F.c', .int .i64 F.p, .map (some F.b)]
/-- What the map of a matching holds: where each of the first keys stands first. -/
def FirstK (l : List Ky) (f : Value → Option Value) : Prop := ∀ y : Ky, f (kyV y) = if pos l y 0 = -1 then none else some (.int .i64 (pos l y 0))
structure MtOk (B : Nat) (w : World) (F : Mt) : Prop where
  isin : IsIn w (Lo B w) F.ks F.vs F.R
  cap : F.vs.length ≤ F.c ∧ F.c ≤ maxLen
  isin' : IsIn w (Lo B w) F.ks' F.vs' F.A'
  cap' : F.vs'.length ≤ F.c' ∧ F.c' ≤ maxLen
  le : cnts F.vs ≤ cnts F.vs0
  hp : F.p ≤ F.vs'.length
  map : ∃ f, raw.Holds w GK F.b f ∧ FirstK (F.ks'.take F.p) f
def Mt.whole (F : Mt) : Int := cmpL F.ks0 F.vs0 F.ks' F.vs'
def CChain (R : Int) : Int → List Mt → Prop
  | v, [] => v = R
  | v, F :: l => F.whole = thn v (cmpL F.ks F.vs F.ks' F.vs') ∧ CChain R F.whole l
def Nest : List Mt → Prop
  | [] => True
  | F :: l => (∀ G ∈ l, cnts F.vs0 < cnts G.vs0 ∧ G.b < F.b) ∧ Nest l
/-- What is known at the head of the loop. -/
structure CSt (R : Int) (B : Nat) (w : World) (v : Int) (G : List Mt) (e : Value → Option Value) : Prop where
  ok : ∀ F ∈ G, MtOk B w F
  chain : CChain R v G
  nest : Nest G
  ens : ∀ q b, e q = some b → b = .bool true ∧ ∃ p1 p2 ks vs ks' vs', q = pq p1 p2 ∧ PlB B w p1 ks vs ∧ PlB B w p2 ks' vs' ∧ ((∃ F ∈ G, F.ks0 = ks ∧ F.vs0 = vs ∧ F.ks' = ks' ∧ F.vs' = vs') ∨ cmpL ks vs ks' vs' = 0)
def left9 : List Mt → Nat
  | [] => 0
  | F :: l => 1 + wks F.vs + left9 l
theorem left9_len : ∀ G : List Mt, G.length ≤ left9 G
  | [] => Nat.le_refl _
  | F :: l => by have := left9_len l; rw [left9, List.length_cons]; omega

theorem CChain.stop {R : Int} : ∀ {v : Int} {G : List Mt}, v ≠ 0 → CChain R v G → v = R
  | v, [], _, h => h
  | v, F :: l, hv, h => by
    obtain ⟨h1, h2⟩ := h
    rw [thn_not hv] at h1
    rw [← h1] at hv ⊢
    exact CChain.stop hv h2

section
variable {R : Int} {B : Nat} {w w' : World} {v : Int} {G : List Mt} {e : Value → Option Value}
theorem hk_map {F : Nat} {f : Value → Option Value} (h : raw.Holds w GK F f) (hb : w'.heap[F]? = w.heap[F]?) : raw.Holds w' GK F f := h.kept hb (fun _ hx => hx)
theorem MtOk.kp (hk : Kp B w w') {F : Mt} (h : MtOk B w F) (hb : w'.heap[F.b]? = w.heap[F.b]?) : MtOk B w' F where
  isin := h.isin.kp hk
  cap := h.cap
  isin' := h.isin'.kp hk
  cap' := h.cap'
  le := h.le
  hp := h.hp
  map := by
    obtain ⟨f, h1, h2⟩ := h.map
    exact ⟨f, hk_map h1 hb, h2⟩
theorem CSt.kp (hk : Kp B w w') (h : CSt R B w v G e) (hb : ∀ F ∈ G, w'.heap[F.b]? = w.heap[F.b]?) : CSt R B w' v G e where
  ok := fun F hF => (h.ok F hF).kp hk (hb F hF)
  chain := h.chain
  nest := h.nest
  ens := fun q b hq => by
    obtain ⟨h0, p1, p2, ks, vs, ks', vs', e1, h1, h2, h3⟩ := h.ens q b hq
    exact ⟨h0, p1, p2, ks, vs, ks', vs', e1, h1.kp hk, h2.kp hk, h3⟩
theorem MtOk.lt {F : Mt} (h : MtOk B w F) : F.b < w.heap.size := by
  obtain ⟨f, h1, -⟩ := h.map
  exact h1.lt

/-- A matching that is done. -/
theorem CSt.pop {F : Mt} (h : CSt R B w 0 (F :: G) e) (hv : F.vs = []) : CSt R B w 0 G e := by
  have h0 : F.whole = 0 := by rw [h.chain.1, hv, cmpL_nil, thn_zero]
  refine ⟨fun X hX => h.ok X (List.mem_cons_of_mem _ hX), by have := h.chain.2; rwa [h0] at this, h.nest.2, fun q b hq => ?_⟩
  obtain ⟨hb, p1, p2, ks, vs, ks', vs', e1, h1, h2, h3⟩ := h.ens q b hq
  refine ⟨hb, p1, p2, ks, vs, ks', vs', e1, h1, h2, ?_⟩
  rcases h3 with ⟨X, hX, g1, g2, g3, g4⟩ | h3
  · rcases List.mem_cons.1 hX with rfl | hX
    · subst g1 g2 g3 g4
      exact .inr h0
    · exact .inl ⟨X, hX, g1, g2, g3, g4⟩
  · exact .inr h3
theorem CSt.fine (h : CSt R B w 0 [] e) : R = 0 := h.chain.symm

/-- An item is taken: what the comparison gives it. -/
theorem CSt.take {F : Mt} {y : Ky} {kt : List Ky} {t : Tr} {ts : List Tr} (h : CSt R B w 0 (F :: G) e) (hkp : Kp B w w') (hbs : ∀ X ∈ G, w'.heap[X.b]? = w.heap[X.b]?) (hk0 : F.ks = y :: kt) (hv : F.vs = t :: ts) {R1 : Option Addr} {c1 p1 : Nat}
    (hR : IsIn w' (Lo B w') kt ts R1) (hc : ts.length ≤ c1 ∧ c1 ≤ maxLen) (hp : p1 ≤ F.vs'.length) (hm : ∃ f, raw.Holds w' GK F.b f ∧ FirstK (F.ks'.take p1) f) :
    (getL F.ks' F.vs' y = none → R = 2) ∧ ∀ u, getL F.ks' F.vs' y = some u → CSt R B w' (cmpT t u) (⟨R1, c1, kt, ts, F.A', F.c', F.ks', F.vs', p1, F.b, F.ks0, F.vs0⟩ :: G) e := by
  obtain ⟨hc1, hc2⟩ := h.chain
  rw [thn_zero, hk0, hv, cmpL_cons] at hc1
  constructor
  · intro hn
    rw [hn] at hc1
    exact (CChain.stop (v := F.whole) (by rw [hc1]; show (2 : Int) ≠ 0; decide) hc2).symm.trans hc1
  · intro u hu
    rw [hu] at hc1
    have hF := h.ok F List.mem_cons_self
    refine ⟨fun X hX => ?_, ⟨hc1, hc2⟩, h.nest, fun q b hq => ?_⟩
    · rcases List.mem_cons.1 hX with rfl | hX
      · refine ⟨hR, hc, hF.isin'.kp hkp, hF.cap', ?_, hp, hm⟩
        have := hF.le
        rw [hv, cnts_cons] at this
        show cnts ts ≤ cnts F.vs0
        omega
      · exact (h.ok X (List.mem_cons_of_mem _ hX)).kp hkp (hbs X hX)
    · obtain ⟨hb, q1, q2, ks, vs, ks', vs', e1, h1, h2, h3⟩ := h.ens q b hq
      refine ⟨hb, q1, q2, ks, vs, ks', vs', e1, h1.kp hkp, h2.kp hkp, h3.imp (fun ⟨X, hX, g⟩ => ?_) id⟩
      rcases List.mem_cons.1 hX with rfl | hX
      · exact ⟨_, List.mem_cons_self, g⟩
      · exact ⟨X, List.mem_cons_of_mem _ hX, g⟩
theorem CSt.stop (h : CSt R B w v G e) (hv : v ≠ 0) : R = v := (CChain.stop hv h.chain).symm

/-- Two lists that are known to have been entered are equal: none lies in itself. -/
theorem CSt.known {F : Mt} (h : CSt R B w v (F :: G) e) {ks1 vs1 : _} {ks2 vs2 : _} {p1 p2 : Value} (hp1 : PlB B w p1 ks1 vs1) (hp2 : PlB B w p2 ks2 vs2) (hlt : cnts vs1 < cnts F.vs0) {b : Value} (he : e (pq p1 p2) = some b) : b = .bool true ∧ cmpL ks1 vs1 ks2 vs2 = 0 := by
  obtain ⟨hb, q1, q2, ks, vs, ks', vs', e1, h1, h2, h3⟩ := h.ens _ b he
  have hpq : p1 = q1 ∧ p2 = q2 := by
    obtain ⟨A1, _, rfl⟩ := hp1
    obtain ⟨A2, _, rfl⟩ := hp2
    obtain ⟨A3, _, rfl⟩ := h1
    obtain ⟨A4, _, rfl⟩ := h2
    exact pq_inj e1
  obtain ⟨rfl, rfl⟩ := hpq
  obtain ⟨rfl, rfl⟩ := h1.is.unique hp1.is
  obtain ⟨rfl, rfl⟩ := h2.is.unique hp2.is
  refine ⟨hb, ?_⟩
  rcases h3 with ⟨X, hX, g1, g2, g3, g4⟩ | h3
  · rcases List.mem_cons.1 hX with rfl | hX
    · rw [g2] at hlt; omega
    · have := (h.nest.1 X hX).1
      rw [g2] at this
      omega
  · exact h3

/-- Two arrays are entered. -/
theorem CSt.push {F : Mt} {ks1 ks2 : List Ky} {vs1 vs2 : List Tr} {A1 A2 : Option Addr} {c1 c2 b : Nat} (h : CSt R B w (cmpL ks1 vs1 ks2 vs2) (F :: G) e) (hin1 : IsIn w (Lo B w) ks1 vs1 A1) (hc1 : vs1.length ≤ c1 ∧ c1 ≤ maxLen)
    (hin2 : IsIn w (Lo B w) ks2 vs2 A2) (hc2 : vs2.length ≤ c2 ∧ c2 ≤ maxLen) (hlt : cnts vs1 < cnts F.vs0) (hb : ∀ X ∈ F :: G, X.b < b) (hm : raw.Holds w GK b (fun _ => none)) :
    CSt R B w 0 (⟨A1, c1, ks1, vs1, A2, c2, ks2, vs2, 0, b, ks1, vs1⟩ :: F :: G) (raw.put e (pq (plc A1 vs1.length) (plc A2 vs2.length)) (.bool true)) := by
  refine ⟨fun X hX => ?_, ⟨by rw [thn_zero]; rfl, h.chain⟩, ⟨fun X hX => ⟨?_, hb X hX⟩, h.nest⟩, fun q z hq => ?_⟩
  · rcases List.mem_cons.1 hX with rfl | hX
    · exact ⟨hin1, hc1, hin2, hc2, Nat.le_refl _, Nat.zero_le _, _, hm, fun y => by simp [pos]⟩
    · exact h.ok X hX
  · rcases List.mem_cons.1 hX with rfl | hX
    · exact hlt
    · have := (h.nest.1 X hX).1
      show cnts vs1 < _
      omega
  · by_cases e1 : q = pq (plc A1 vs1.length) (plc A2 vs2.length)
    · subst e1
      rw [raw.put_same] at hq
      exact ⟨(Option.some.inj hq).symm, _, _, ks1, vs1, ks2, vs2, rfl, ⟨A1, hin1, rfl⟩, ⟨A2, hin2, rfl⟩, .inl ⟨_, List.mem_cons_self, rfl, rfl, rfl, rfl⟩⟩
    · rw [raw.put_other e1] at hq
      obtain ⟨hb, q1, q2, ks, vs, ks', vs', e1, h1, h2, h3⟩ := h.ens q z hq
      exact ⟨hb, q1, q2, ks, vs, ks', vs', e1, h1, h2, h3.imp (fun ⟨X, hX, g⟩ => ⟨X, List.mem_cons_of_mem _ hX, g⟩) id⟩
end

/-! ### where a key stands first, from item to item -/
theorem pos_app : ∀ (l : List Ky) (y z : Ky) (i : Nat), pos (l ++ [z]) y i = if pos l y i = -1 then (if z = y then ((i + l.length : Nat) : Int) else -1) else pos l y i
  | [], y, z, i => by
    simp [pos]
  | x :: l, y, z, i => by
    have ih := pos_app l y z (i + 1)
    rw [List.cons_append, pos, pos]
    by_cases hx : x = y
    · rw [if_pos hx, if_pos hx, if_neg (by omega)]
    · rw [if_neg hx, if_neg hx, ih]
      simp only [List.length_cons]
      have : i + 1 + l.length = i + (l.length + 1) := by omega
      rw [this]
theorem FirstK.push {l : List Ky} {f : Value → Option Value} (h : FirstK l f) {y : Ky} (hy : pos l y 0 = -1) : FirstK (l ++ [y]) (raw.put f (kyV y) (.int .i64 l.length)) := fun z => by
  rw [pos_app]
  by_cases hz : z = y
  · subst hz
    rw [raw.put_same, hy]
    simp
  · rw [raw.put_other (fun e => hz (ky_inj e)), h z]
    have : ¬ y = z := fun e => hz e.symm
    rw [if_neg this]
    split <;> simp_all
theorem FirstK.skip {l : List Ky} {f : Value → Option Value} (h : FirstK l f) {y : Ky} (hy : pos l y 0 ≠ -1) : FirstK (l ++ [y]) f := fun z => by
  rw [pos_app, h z]
  by_cases hz : y = z
  · subst hz
    simp [hy]
  · simp only [if_neg hz]
    by_cases h1 : pos l z 0 = -1 <;> simp [h1]
theorem pos_take : ∀ (l : List Ky) (y : Ky) (n i : Nat), pos (l.take n) y i ≠ -1 → pos l y i = pos (l.take n) y i
  | [], y, n, i, h => by simp [pos]
  | x :: l, y, 0, i, h => by simp [pos] at h
  | x :: l, y, n + 1, i, h => by
    rw [List.take_succ_cons, pos] at h
    rw [List.take_succ_cons, pos, pos]
    by_cases hx : x = y
    · rw [if_pos hx, if_pos hx]
    · rw [if_neg hx] at h
      rw [if_neg hx, if_neg hx]
      exact pos_take l y n (i + 1) h

end Go.Proofs.YtlbkbcafkjgckaaDoor.tree

/-
  What a call leaves as it was, but for some blocks.
  Conditions: none.
-/
namespace Go.Proofs.YtlbkbcafkjgckaaDoor.tree
open Go.ChangeShapes Go.WideShapes Go.ChangeAt Go.RowKit
set_option linter.unusedVariables false

/-- Nothing but blocks of S has changed. -/
structure Fr (S : Nat → Prop) (w w' : World) : Prop where
  os : w'.os = w.os
  tape : w'.tape = w.tape
  output : w'.output = w.output
  size : w.heap.size ≤ w'.heap.size
  block : ∀ b, b < w.heap.size → ¬ S b → w'.heap[b]? = w.heap[b]?
section
variable {S S' : Nat → Prop} {w w' w2 : World}
theorem Fr.refl (S : Nat → Prop) (w : World) : Fr S w w := ⟨rfl, rfl, rfl, Nat.le_refl _, fun _ _ _ => rfl⟩
theorem Fr.of (h : Below w.heap.size w w') : Fr S w w' := ⟨h.os, h.tape, h.output, h.size, fun b hb _ => h.block b hb⟩
theorem Fr.trans (h : Fr S w w') (k : Fr S w' w2) : Fr S w w2 := ⟨k.os.trans h.os, k.tape.trans h.tape, k.output.trans h.output, Nat.le_trans h.size k.size, fun b hb hs => (k.block b (Nat.lt_of_lt_of_le hb h.size) hs).trans (h.block b hb hs)⟩
theorem Fr.mono (h : Fr S w w') (hs : ∀ b, S b → S' b) : Fr S' w w' := ⟨h.os, h.tape, h.output, h.size, fun b hb hn => h.block b hb fun hh => hn (hs b hh)⟩
theorem Fr.below (h : Fr S w w') {lo : Nat} (hl : lo ≤ w.heap.size) (hs : ∀ b, S b → lo ≤ b) : Below lo w w' := ⟨h.os, h.tape, h.output, h.size, fun b hb => h.block b (Nat.lt_of_lt_of_le hb hl) fun hh => by have := hs b hh; omega⟩
theorem Fr.set {g : Nat} (hg : S g) (j : Nat) (v : Value) : Fr S w (w.setCell ⟨g, j, none⟩ v) := ⟨rfl, rfl, rfl, by rw [set_size]; exact Nat.le_refl _, fun b _ hn => set_other (fun e => hn (e ▸ hg))⟩
end

theorem TIn.lt' {w : World} {S : Nat → Prop} {t : Tr} {v : Value} (h : TIn w S t v) : TIn w (fun b => b < w.heap.size) t v := by
  induction h with
  | mk k n s x ks vs A cap C hk hl hm hcap hc ht ih =>
    refine TIn.mk k n s x ks vs A _ C hk hl hm hcap (fun i hi => ?_) ih
    obtain ⟨a, ha, hS, hky, hs, hj⟩ := hc i hi
    refine ⟨a, ha, ?_, hky, hs, hj⟩
    have := World.block_lt_of_cell? _ _ hky.1
    rwa [mem.add_block] at this

end Go.Proofs.YtlbkbcafkjgckaaDoor.tree

/-
  Looking for a key among the items of the other array, each of which is gone through once.
  Conditions: those that each theorem names.
-/
namespace Go.Proofs.YtlbkbcafkjgckaaDoor.tree
open Go.ChangeShapes Go.WideShapes Go.ChangeAt Go.RowKit
set_option linter.unusedVariables false

abbrev MG : TypeId := 131
theorem izero (w : World) : (zeroValue 3).run Tryd.prog w = .ok (.int .i64 0) w := by kernel_rfl
theorem zgot_some (z v : Value) : raw.Got true z (some v) = .tuple #[v, .bool true] := rfl
theorem zgot_none (z : Value) : raw.Got true z none = .tuple #[z, .bool false] := rfl
/-- The rows of a matching in the block of the list: the number passed is p. -/
structure MAt (w : World) (g m : Nat) (cur : Array Value) (p : Nat) (arr : Array Value) : Prop where
  blk : w.heap[g]? = some (.cells arr MG (0, 0))
  size : arr.size = cur.size
  at_ : arr[m * 4 + 2]? = some (.int .i64 p)
  other : ∀ j, j ≠ m * 4 + 2 → arr[j]? = cur[j]?
def FindQ (w : World) (g m mb : Nat) (cur : Array Value) (ks : List Ky) (y : Ky) (e : Ending) (w' : World) : Prop :=
  ∃ (i : Int) (b : Bool) (p : Nat) (arr : Array Value) (f : Value → Option Value), e = .returned (.tuple #[.int .i64 i, .bool b]) ∧ (b = true → i = pos ks y 0 ∧ pos ks y 0 ≠ -1) ∧ (b = false → pos ks y 0 = -1) ∧
    p ≤ ks.length ∧ MAt w' g m cur p arr ∧ raw.Holds w' GK mb f ∧ FirstK (ks.take p) f ∧ Fr (fun b => b = g ∨ b = mb) w w'

theorem lookK {w : World} {mb : Nat} {f : Value → Option Value} {l : List Ky} (h : raw.Holds w GK mb f) (hf : FirstK l f) (y : Ky) :
    (Instr.lookup 129 (.map (some mb)) (kyV y) true).run Tryd.prog w = .ok (if pos l y 0 = -1 then .tuple #[.int .i64 0, .bool false] else .tuple #[.int .i64 (pos l y 0), .bool true]) w := by
  have := h.lookup good_ky Tryd.underlying129 (izero w) (k := kyV y) ⟨y, rfl⟩ true
  rw [this, hf y]
  split <;> rfl

theorem MAt.set {w w1 : World} {g m p p1 : Nat} {cur arr : Array Value} (h : MAt w g m cur p arr) (hg : w1.heap[g]? = some (.cells arr MG (0, 0))) : MAt (w1.setCell ⟨g, m * 4 + 2, none⟩ (.int .i64 p1)) g m cur p1 (arr.setIfInBounds (m * 4 + 2) (.int .i64 p1)) where
  blk := set_heap hg _ _
  size := by rw [Array.size_setIfInBounds]; exact h.size
  at_ := by
    have := (Array.getElem?_eq_some_iff.1 h.at_).1
    rw [Array.getElem?_setIfInBounds_self_of_lt this]
  other := fun j hj => by rw [Array.getElem?_setIfInBounds_ne (by omega)]; exact h.other j hj
theorem pos_snoc {l : List Ky} {y z : Ky} {p : Nat} (hz : l[p]? = some z) : pos (l.take (p + 1)) y 0 = if pos (l.take p) y 0 = -1 then (if z = y then (p : Int) else -1) else pos (l.take p) y 0 := by
  have hl := (List.getElem?_eq_some_iff.1 hz).1
  rw [List.take_add_one, hz]
  show pos (l.take p ++ [z]) y 0 = _
  rw [pos_app, List.length_take, Nat.min_eq_left (by omega), Nat.zero_add]

def CutW (w : World) (b : Bool) (v : Value) (wx : World) : Prop := v = .bool b ∧ Below w.heap.size w wx ∧ wx.heap = w.heap
theorem take_snoc {α : Type} {l : List α} {q : Nat} {y : α} (h : l[q]? = some y) : l.take (q + 1) = l.take q ++ [y] := by rw [List.take_add_one, h]; rfl

set_option maxHeartbeats 2000000 in
set_option maxRecDepth 100000 in
theorem findM {w : World} {g m mb p : Nat} {cur : Array Value} {B' : Option Addr} {L c : Nat} {ks : List Ky} {vs : List Tr} {S : Nat → Prop} {f : Value → Option Value} (y : Ky)
    (hg : w.heap[g]? = some (.cells cur MG (0, 0))) (h1 : cur[m * 4 + 1]? = some (.slice B' L c)) (h2 : cur[m * 4 + 2]? = some (.int .i64 p)) (h3 : cur[m * 4 + 3]? = some (.map (some mb)))
    (hin : IsIn w S ks vs B') (hL : vs.length = L) (hp : p ≤ L) (hm : raw.Holds w GK mb f) (hf : FirstK (ks.take p) f) (hS : ∀ b, S b → b ≠ g ∧ b ≠ mb) :
    Calls Tryd.prog 141 #[.pointer (some ⟨g, m * 4, none⟩), kyV y] w (FindQ w g m mb cur ks y) := by
  have hmL : L ≤ maxLen := by rw [← hL]; exact hin.2.1
  unfold maxLen at hmL
  have hkl : ks.length = L := by rw [← hL]; exact hin.1
  have hgl : g < w.heap.size := (Array.getElem?_eq_some_iff.1 hg).1
  have hml : mb < w.heap.size := hm.lt
  have hgm : g ≠ mb := fun e => by
    obtain ⟨es, ck, hb, -⟩ := hm
    rw [← e, hg] at hb
    cases hb
  have hm4 : m * 4 + 3 < cur.size := (Array.getElem?_eq_some_iff.1 h3).1
  obtain ⟨yb, yn, ys⟩ := y
  obtain ⟨w0, HW0⟩ : ∃ w0, Hid (w.alloc (.cells #[.bool yb, .int .i64 yn, .string ys] IK) = w0) := ⟨_, Lib.hid rfl⟩
  have hg0 : w0.heap[g]? = some (.cells cur MG (0, 0)) := by rw [← HW0.out]; exact keepAlloc hg
  have hm0 : raw.Holds w0 GK mb f := by rw [← HW0.out]; exact hm.kept (Below.heap_alloc w _ mb hml) (fun _ hx => hx)
  have hb0 : Below w.heap.size w w0 := by rw [← HW0.out]; exact b1 _ _
  have hk0 : w0.heap[w.heap.size]? = some (.cells #[.bool yb, .int .i64 yn, .string ys] IK (0, 0)) := by rw [← HW0.out]; exact heap_alloc_new w _
  have LK0 := lookK (w := w0.drew) hm0 hf ⟨yb, yn, ys⟩
  obtain ⟨r0, -⟩ := rowc hg0
  have c1 := (r0 _).trans h1
  have c2 := (r0 _).trans h2
  have c3 := (r0 _).trans h3
  obtain ⟨rk, -⟩ := rowc hk0
  unfold kyV at LK0 ⊢
  have HIN := Lib.hid hin
  have HF := Lib.hid hf
  have HS := Lib.hid hS
  have HKL := Lib.hid hkl
  have HL := Lib.hid hL
  have HC : Hid (cur[m * 4 + 1]? = some (.slice B' L c) ∧ cur[m * 4 + 3]? = some (.map (some mb))) := Lib.hid ⟨h1, h3⟩
  have MA0 : Hid (MAt w0 g m cur p cur) := Lib.hid ⟨hg0, rfl, h2, fun _ _ => rfl⟩
  have HK0 := Lib.hid hk0
  have HM0 := Lib.hid hm0
  have HFR0 : Hid (Fr (fun b => b = g ∨ b = mb) w w0) := Lib.hid (Fr.of hb0)
  obtain ⟨P, HPP⟩ : ∃ P, Hid (pos (ks.take p) ⟨yb, yn, ys⟩ 0 = P) := ⟨_, Lib.hid rfl⟩
  rw [HPP.out] at LK0
  obtain ⟨bt, HBT⟩ : ∃ b : Bool, Hid (b = !decide (P = -1)) := ⟨_, Lib.hid rfl⟩
  obtain ⟨ix, HIX⟩ : ∃ i : Int, Hid (i = if P = -1 then 0 else P) := ⟨_, Lib.hid rfl⟩
  have LK1 : (Instr.lookup 129 (.map (some mb)) (.agg #[.bool yb, .int .i64 yn, .string ys]) true).run Tryd.prog w0.drew = .ok (.tuple #[.int .i64 ix, .bool bt]) w0.drew := by
    rw [LK0, HBT.out, HIX.out]
    by_cases h : P = -1
    · rw [if_pos h, if_pos h, decide_eq_true h]; rfl
    · rw [if_neg h, if_neg h, decide_eq_false h]; rfl
  clear hg hin hm hf hS hkl hL hg0 hk0 hm0 hb0 h1 h2 h3 r0 LK0
  go_enter Tryd.func141, Tryd.ntmps141
  go_wp2_with (fail)
  rw [HW0.out]
  go_region
  go_wp2_with (fail)
  clear LK1 c1 c2 c3 rk
  go_loopg [6, 7] (L + 1 - p) (fun gk iv bv wr => ∃ (q : Nat) (arr : Array Value) (fn : Value → Option Value) (b : Bool) (i : Int), iv = .int .i64 i ∧ bv = .bool b ∧ gk + q = L + 1 ∧ q ≤ L ∧ Hid (b = true → i = pos (ks.take q) ⟨yb, yn, ys⟩ 0 ∧ pos (ks.take q) ⟨yb, yn, ys⟩ 0 ≠ -1) ∧ Hid (b = false → pos (ks.take q) ⟨yb, yn, ys⟩ 0 = -1) ∧ Hid (MAt wr g m cur q arr) ∧ Hid (raw.Holds wr GK mb fn) ∧
    Hid (FirstK (ks.take q) fn) ∧ Hid (Fr (fun b => b = g ∨ b = mb) w wr) ∧ Hid (wr.heap[w.heap.size]? = some (.cells #[.bool yb, .int .i64 yn, .string ys] IK (0, 0))))
  case atStart =>
    refine ⟨p, cur, f, bt, ix, rfl, rfl, by omega, hp, Lib.hid (fun h => ?_), Lib.hid (fun h => ?_), Lib.hid ⟨MA0.out.blk, rfl, MA0.out.at_, fun _ _ => rfl⟩, Lib.hid HM0.out, HF, Lib.hid ?_, Lib.hid HK0.out⟩
    · rw [HBT.out] at h
      have h' : ¬ P = -1 := by simpa using h
      rw [HPP.out, HIX.out, if_neg h']
      exact ⟨rfl, h'⟩
    · rw [HBT.out] at h
      have h' : P = -1 := by simpa using h
      rw [HPP.out, h']
    · exact HFR0.out.trans (Fr.of ((Below.refl _ _).drew))
  case round =>
    obtain ⟨q, arr, fn, b, i, rfl, rfl, hgq, hqL, HT, HN, HA, HM, HFF, HFR, HK⟩ := hrel
    by_cases hgo : b = false ∧ q < L
    · obtain ⟨rfl, hlt⟩ := hgo
      obtain ⟨rw1, -⟩ := rowc HA.out.blk
      have a1 : wr.cell? ⟨g, m * 4 + 1, none⟩ = some (.slice B' L c) := (rw1 _).trans ((HA.out.other _ (by omega)).trans HC.out.1)
      have a2 : wr.cell? ⟨g, m * 4 + 2, none⟩ = some (.int .i64 q) := (rw1 _).trans HA.out.at_
      have hd : decide ((q : Int) < (L : Int)) = true := by simpa using hlt
      clear rw1
      go_upto_region 2 with fail
      go_cut [33] (fun v wx => CutW wr true v wx)
      case first =>
        go_quiet (fail)
        all_goals
          go_wp2_with (fail)
          go_meet
          exact ⟨rfl, kbelow_drew _ _, kdrew_heap _ _⟩
      case rest =>
        obtain ⟨rfl, hbc, hhp⟩ := hcut
        clear a1 a2 hd
        have HFc := Lib.hid (HFR.out.trans (Fr.of hbc))
        have HAc : Hid (MAt wc g m cur q arr) := Lib.hid ⟨by rw [hhp]; exact HA.out.blk, HA.out.size, HA.out.at_, HA.out.other⟩
        have HMc := Lib.hid (HM.out.kept (w' := wc) (by rw [hhp]) (fun _ hx => hx))
        have HKc : Hid (wc.heap[w.heap.size]? = _) := Lib.hid ((congrArg (fun z => z[w.heap.size]?) hhp).trans HK.out)
        have HIc := Lib.hid (HIN.out.stays (w' := wc) (S' := S) (fun _ h => h) (fun b hb hl => HFc.out.block b hl (fun h => h.elim (HS.out b hb).1 (HS.out b hb).2)))
        clear hbc hhp HA HM HK HFR
        obtain ⟨a, z, k1, n1, s1, x1, ks1, vs1, A1, c1, rfl, -, hky, -, -, -, -, -, hcell⟩ := HIc.out.item (i := q) (by rw [HL.out]; exact hlt)
        obtain ⟨zb, zn, zs⟩ := z
        have p0 := hcell.c0
        have p1 := hcell.c1
        have p2 := hcell.c2
        simp only at p0 p1 p2
        have HKY := Lib.hid hky
        obtain ⟨w2, HW2⟩ : ∃ w2, Hid (wc.alloc (.cells #[.bool zb, .int .i64 zn, .string zs] IK) = w2) := ⟨_, Lib.hid rfl⟩
        have hb2 : Below wc.heap.size wc w2 := by rw [← HW2.out]; exact b1 _ _
        have HF2 := Lib.hid (HFc.out.trans (Fr.of hb2))
        have HA2 : Hid (MAt w2 g m cur q arr) := Lib.hid ⟨carry hb2 HAc.out.blk, HAc.out.size, HAc.out.at_, HAc.out.other⟩
        have HM2 := Lib.hid (HMc.out.kept (w' := w2) (hb2.block _ HMc.out.lt) (fun _ hx => hx))
        have HK2 := Lib.hid (carry hb2 HKc.out)
        obtain ⟨NB, HNB⟩ : ∃ N, Hid (wc.heap.size = N) := ⟨_, Lib.hid rfl⟩
        have HZ2 : Hid (w2.heap[NB]? = some (.cells #[.bool zb, .int .i64 zn, .string zs] IK (0, 0))) := Lib.hid (by rw [← HW2.out, ← HNB.out]; exact heap_alloc_new wc _)
        have hlw : w.heap.size < NB := by rw [← HNB.out]; exact (Array.getElem?_eq_some_iff.1 HKc.out).1
        have hgb : g < w.heap.size := hgl
        obtain ⟨r1, -⟩ := rowc HAc.out.blk
        have a1 : wc.cell? ⟨g, m * 4 + 1, none⟩ = some (.slice (some a) L c) := (r1 _).trans ((HAc.out.other _ (by omega)).trans HC.out.1)
        have a2 : wc.cell? ⟨g, m * 4 + 2, none⟩ = some (.int .i64 q) := (r1 _).trans HAc.out.at_
        obtain ⟨Pz, HPz⟩ : ∃ P, Hid (pos (ks.take q) ⟨zb, zn, zs⟩ 0 = P) := ⟨_, Lib.hid rfl⟩
        have LK2 := lookK (w := w2.drew) HM2.out HFF.out ⟨zb, zn, zs⟩
        rw [HPz.out] at LK2
        unfold kyV at LK2
        simp only at LK2
        clear hb2 hcell hky r1
        go_wp2_with (fail)
        rw [HNB.out, HW2.out]
        clear p0 p1 p2 a1 a2
        obtain ⟨r2, -⟩ := rowc HA2.out.blk
        have a3 : w2.cell? ⟨g, m * 4 + 3, none⟩ = some (.map (some mb)) := (r2 _).trans ((HA2.out.other _ (by omega)).trans HC.out.2)
        clear r2
        obtain ⟨rz, -⟩ := rowc HZ2.out
        obtain ⟨rk, -⟩ := rowc HK2.out
        by_cases hP : Pz = -1
        · rw [if_pos hP] at LK2
          go_region
          obtain ⟨w3, hrun, hm3, hg3⟩ := (show raw.Holds w2.drew.drew GK mb fn from HM2.out).update good_ky gk_stays Tryd.underlying129 (k := .agg #[.bool zb, .int .i64 zn, .string zs]) (v := .int .i64 q) ⟨⟨zb, zn, zs⟩, rfl⟩
          have HM3 := Lib.hid hm3
          have e3 : ∀ (b : Nat) (o : Obj), b ≠ mb → w2.heap[b]? = some o → w3.heap[b]? = some o := fun b o hb ho => (hg3.block b (Array.getElem?_eq_some_iff.1 ho).1 (by intro h; injection h with h; exact hb h)).trans ho
          have HA3 : Hid (MAt w3 g m cur q arr) := Lib.hid ⟨e3 _ _ (by omega) HA2.out.blk, HA2.out.size, HA2.out.at_, HA2.out.other⟩
          have HK3 := Lib.hid (e3 _ _ (by omega) HK2.out)
          have HZ3 := Lib.hid (e3 _ _ (by omega) HZ2.out)
          have HF3 : Hid (Fr (fun b => b = g ∨ b = mb) w w3) := Lib.hid (HF2.out.trans ⟨hg3.os, hg3.tape, hg3.output, hg3.size, fun b hb hn => hg3.block b hb (fun h => hn (.inr (Option.some.inj h)))⟩)
          clear hm3 hg3 e3
          go_wp2_with (fail)
          go_region
          clear hrun LK2 rz rk a3
          obtain ⟨r3, f3⟩ := rowc HA3.out.blk
          obtain ⟨rz3, -⟩ := rowc HZ3.out
          obtain ⟨rk3, -⟩ := rowc HK3.out
          have a2 : w3.cell? ⟨g, m * 4 + 2, none⟩ = some (.int .i64 q) := (r3 _).trans HA3.out.at_
          have f2 := f3 (m * 4 + 2)
          clear r3 f3
          have KE := fun w => ky_eql w ⟨zb, zn, zs⟩ ⟨yb, yn, ys⟩
          unfold kyV at KE
          simp only at KE
          go_wp2_with (fail)
          go_roundg (L - q)
          case rel =>
            have hps := pos_snoc (y := ⟨yb, yn, ys⟩) HKY.out
            rw [if_pos (HN.out (by trivial))] at hps
            refine ⟨q + 1, _, _, _, q, by go_num, rfl, by omega, by omega, Lib.hid (fun h => ?_), Lib.hid (fun h => ?_), Lib.hid (HA3.out.set (p1 := q + 1) HA3.out.blk), Lib.hid (HM3.out.kept (set_other (by omega)) (fun _ hx => hx)), Lib.hid ?_, Lib.hid (HF3.out.trans (Fr.set (.inl rfl) _ _)), Lib.hid ((set_other (by omega)).trans HK3.out)⟩
            · rw [hps, if_pos (by simpa using h)]
              exact ⟨rfl, by omega⟩
            · rw [hps, if_neg (by simpa using h)]
            · rw [take_snoc HKY.out]
              have := HFF.out.push (y := ⟨zb, zn, zs⟩) (by rw [HPz.out]; exact hP)
              rwa [List.length_take, HKL.out, Nat.min_eq_left (by omega)] at this
          case measure => omega
        · rw [if_neg hP] at LK2
          go_region
          clear LK2 a3
          obtain ⟨r3, f3⟩ := rowc HA2.out.blk
          have a2 : w2.cell? ⟨g, m * 4 + 2, none⟩ = some (.int .i64 q) := (r3 _).trans HA2.out.at_
          have f2 := f3 (m * 4 + 2)
          clear r3 f3
          have KE := fun w => ky_eql w ⟨zb, zn, zs⟩ ⟨yb, yn, ys⟩
          unfold kyV at KE
          simp only at KE
          go_wp2_with (fail)
          go_roundg (L - q)
          case rel =>
            have hps := pos_snoc (y := ⟨yb, yn, ys⟩) HKY.out
            rw [if_pos (HN.out (by trivial))] at hps
            refine ⟨q + 1, arr.setIfInBounds (m * 4 + 2) (.int .i64 ((q + 1 : Nat) : Int)), fn, _, q, by go_num, rfl, by omega, by omega, Lib.hid (fun h => ?_), Lib.hid (fun h => ?_), Lib.hid (by have h := HA2.out.set (p1 := q + 1) HA2.out.blk; exact ⟨h.blk, h.size, h.at_, h.other⟩), Lib.hid (HM2.out.kept (set_other (by omega)) (fun _ hx => hx)), Lib.hid ?_, Lib.hid ((HF2.out.trans (Fr.of (Below.refl _ _).drew)).trans (Fr.set (.inl rfl) _ _)), Lib.hid ((set_other (by omega)).trans HK2.out)⟩
            · rw [hps, if_pos (by simpa using h)]
              exact ⟨rfl, by omega⟩
            · rw [hps, if_neg (by simpa using h)]
            · rw [take_snoc HKY.out]
              exact HFF.out.skip (y := ⟨zb, zn, zs⟩) (by rw [HPz.out]; exact hP)
          case measure => omega
    · have hQ : Hid ((b = true → i = pos ks ⟨yb, yn, ys⟩ 0 ∧ pos ks ⟨yb, yn, ys⟩ 0 ≠ -1) ∧ (b = false → pos ks ⟨yb, yn, ys⟩ 0 = -1)) := Lib.hid ⟨fun h => by
          obtain ⟨h1, h2⟩ := HT.out h
          have := pos_take ks _ q 0 h2
          exact ⟨by rw [h1, this], by rw [this]; exact h2⟩, fun h => by
          have hq : ¬ q < L := fun hl => hgo ⟨h, hl⟩
          have := HN.out h
          rwa [List.take_of_length_le (by rw [HKL.out]; omega)] at this⟩
      obtain ⟨rw1, -⟩ := rowc HA.out.blk
      have a1 : wr.cell? ⟨g, m * 4 + 1, none⟩ = some (.slice B' L c) := (rw1 _).trans ((HA.out.other _ (by omega)).trans HC.out.1)
      have a2 : wr.cell? ⟨g, m * 4 + 2, none⟩ = some (.int .i64 q) := (rw1 _).trans HA.out.at_
      clear rw1 HT HN
      go_upto_region 2 with fail
      go_cut [33] (fun v wx => CutW wr false v wx)
      case first =>
        cases b with
        | true =>
          go_quiet (fail)
          all_goals
            go_wp2_with (fail)
            go_meet
            exact ⟨rfl, kbelow_drew _ _, kdrew_heap _ _⟩
        | false =>
          have hd : ¬ q < L := fun h => hgo ⟨rfl, h⟩
          go_quiet (fail)
          all_goals
            go_wp2_with (fail)
            go_meet
            exact ⟨by first | rfl | rw [decide_eq_false hd], kbelow_drew _ _, kdrew_heap _ _⟩
      case rest =>
        obtain ⟨rfl, hbc, hhp⟩ := hcut
        have HFc := Lib.hid (HFR.out.trans (Fr.of hbc))
        have HAc : Hid (MAt wc g m cur q arr) := Lib.hid ⟨by rw [hhp]; exact HA.out.blk, HA.out.size, HA.out.at_, HA.out.other⟩
        have HMc := Lib.hid (HM.out.kept (w' := wc) (by rw [hhp]) (fun _ hx => hx))
        clear hbc hhp a1 a2 HK
        go_wp2_with (fail)
        go_ret2
        exact ⟨i, b, q, arr, fn, rfl, hQ.out.1, hQ.out.2, by rw [HKL.out]; exact hqL, HAc.out, HMc.out, HFF.out, HFc.out⟩

end Go.Proofs.YtlbkbcafkjgckaaDoor.tree

/-
  Two values compared without their items, two keys compared, and two places as one key of a map.
  Conditions: those that each theorem names.
-/
namespace Go.Proofs.YtlbkbcafkjgckaaDoor.tree
open Go.ChangeShapes Go.WideShapes Go.ChangeAt Go.RowKit
set_option linter.unusedVariables false

/-! ### two places -/
abbrev P2 : TypeId := 137
def G2 (B : Nat) (w : World) (x : Value) : Prop := ∃ (p : Option Addr) (n : Int) (q : Option Addr) (m : Int), x = .agg #[.pointer p, .int .i64 n, .pointer q, .int .i64 m] ∧ (∀ a, p = some a → Lo B w a.block) ∧ ∀ a, q = some a → Lo B w a.block
theorem G2.kp {B : Nat} {w w' : World} (hk : Kp B w w') {x : Value} (h : G2 B w x) : G2 B w' x := by
  obtain ⟨p, n, q, m, e, hp, hq⟩ := h
  exact ⟨p, n, q, m, e, fun a ha => (hp a ha).kp hk, fun a ha => (hq a ha).kp hk⟩
theorem g2_stays (B : Nat) : raw.Stays (G2 B) := fun w w' b x hb h hx => by
  obtain ⟨es, clock, hm⟩ := hb
  exact hx.kp fun k _ hp => h k (fun e => by
    obtain ⟨cs, t, hc⟩ := hp
    rw [e, hm] at hc
    cases hc) hp.lt
theorem pl_info : ∃ i, Tryd.prog.info? PL = some i ∧ i.size = 2 := by
  have : (Tryd.prog.info? PL).map (·.size) = some 2 := by kernel_rfl
  cases hq : Tryd.prog.info? PL with
  | none => rw [hq] at this; cases this
  | some i => rw [hq] at this; simp at this; exact ⟨i, rfl, this⟩
theorem run_part_pl (w : World) (a n b m : Value) : (part PL #[a, n, b, m] 0).run Tryd.prog w = .ok (.agg #[a, n]) w ∧ (part PL #[a, n, b, m] 2).run Tryd.prog w = .ok (.agg #[b, m]) w := by
  obtain ⟨f0, f1, hu, _⟩ := pl_desc
  obtain ⟨i, hi, hs⟩ := pl_info
  constructor <;> simp [part, isAgg, run_underlying hu, sizeOf, typeInfo, hi, hs] <;> rfl

theorem g2_eq (d : Nat) (w : World) {x y : Value} (hx : ∃ p n q m, x = .agg #[.pointer p, .int .i64 n, .pointer q, .int .i64 m] ∧ GP w (.agg #[.pointer p, .int .i64 n]) ∧ GP w (.agg #[.pointer q, .int .i64 m]))
    (hy : ∃ p n q m, y = .agg #[.pointer p, .int .i64 n, .pointer q, .int .i64 m] ∧ GP w (.agg #[.pointer p, .int .i64 n]) ∧ GP w (.agg #[.pointer q, .int .i64 m])) :
    ∃ r : Bool, (Op.equalIn (d + 3) P2 x y).run Tryd.prog w = .ok r w ∧ (r = true ↔ x = y) := by
  obtain ⟨p, n, q, m, rfl, g1, g2⟩ := hx
  obtain ⟨p', n', q', m', rfl, g1', g2'⟩ := hy
  obtain ⟨r1, h1, i1⟩ := pl_eq w d g1 g1'
  obtain ⟨r2, h2, i2⟩ := pl_eq w d g2 g2'
  obtain ⟨a1, a2⟩ := run_part_pl w (.pointer p) (.int .i64 n) (.pointer q) (.int .i64 m)
  obtain ⟨b1, b2⟩ := run_part_pl w (.pointer p') (.int .i64 n') (.pointer q') (.int .i64 m')
  obtain ⟨i, hi, hs⟩ := pl_info
  refine ⟨r1 && r2, ?_, ?_⟩
  · rw [show d + 3 = (d + 2) + 1 from rfl, Op.equalIn]
    simp only [Sem.run_bind, run_underlying Tryd.underlying137, Result.andThen_ok]
    simp only [Std.Legacy.Range.forIn_eq_forIn_range', Std.Legacy.Range.size, Nat.sub_zero, Nat.add_one_sub_one, Nat.div_one]
    cases r1 <;> cases r2 <;> simp [List.range', sizeOf, typeInfo, hi, hs, a1, a2, b1, b2, h1, h2, Result.andThen]
  · rw [Bool.and_eq_true, i1, i2]
    simp
    constructor
    · rintro ⟨⟨rfl, rfl⟩, rfl, rfl⟩; exact ⟨rfl, rfl, rfl, rfl⟩
    · rintro ⟨rfl, rfl, rfl, rfl⟩; exact ⟨⟨rfl, rfl⟩, rfl, rfl⟩

theorem G2.two {B : Nat} {w : World} {x : Value} (h : G2 B w x) : ∃ p n q m, x = .agg #[.pointer p, .int .i64 n, .pointer q, .int .i64 m] ∧ GP w (.agg #[.pointer p, .int .i64 n]) ∧ GP w (.agg #[.pointer q, .int .i64 m]) := by
  obtain ⟨p, n, q, m, e, hp, hq⟩ := h
  exact ⟨p, n, q, m, e, ⟨p, n, rfl, fun a ha => (hp a ha).2⟩, ⟨q, m, rfl, fun a ha => (hq a ha).2⟩⟩
theorem g2_check (d : Nat) (w : World) (em : Bool) {x : Value} (h : ∃ p n q m, x = .agg #[.pointer p, .int .i64 n, .pointer q, .int .i64 m] ∧ GP w (.agg #[.pointer p, .int .i64 n]) ∧ GP w (.agg #[.pointer q, .int .i64 m])) : (Instr.checkKey em (d + 3) P2 x).run Tryd.prog w = .ok () w := by
  obtain ⟨p, n, q, m, rfl, g1, g2⟩ := h
  obtain ⟨a1, a2⟩ := run_part_pl w (.pointer p) (.int .i64 n) (.pointer q) (.int .i64 m)
  obtain ⟨i, hi, hs⟩ := pl_info
  have k1 := pl_check d w em g1
  have k2 := pl_check d w em g2
  rw [show d + 3 = (d + 2) + 1 from rfl, Instr.checkKey]
  simp only [Sem.run_bind, run_underlying Tryd.underlying137, Result.andThen_ok]
  simp only [Std.Legacy.Range.forIn_eq_forIn_range', Std.Legacy.Range.size, Nat.sub_zero, Nat.add_one_sub_one, Nat.div_one]
  simp [List.range', sizeOf, typeInfo, hi, hs, a1, a2, k1, k2, Result.andThen]
theorem g2_same (d : Nat) (p : Option Addr) (n : Int) (q : Option Addr) (m : Int) : Instr.sameBits (d + 2) (.agg #[.pointer p, .int .i64 n, .pointer q, .int .i64 m]) (.agg #[.pointer p, .int .i64 n, .pointer q, .int .i64 m]) = true := by
  simp [Instr.sameBits]
theorem good_g2 (B : Nat) : raw.Good Tryd.prog P2 (G2 B) where
  wide := by rw [Tryd.underlying137]
  check := fun w em x h => g2_check 9997 w em h.two
  eq := fun w x y hx hy => g2_eq 9997 w hx.two hy.two
  same := fun w x h => by
    obtain ⟨p, n, q, m, rfl, -, -⟩ := h
    exact g2_same 9998 p n q m

/-! ### two values without their items -/

end Go.Proofs.YtlbkbcafkjgckaaDoor.tree

