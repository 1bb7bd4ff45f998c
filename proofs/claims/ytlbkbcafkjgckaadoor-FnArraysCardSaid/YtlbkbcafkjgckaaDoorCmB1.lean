/-
  What the texts behind this one use: 11 parts of one proof.
  Conditions: those that each theorem names.
-/
import Derived.Below
import Derived.Test.YtlbkbcafkjgckaaDoorRows
import Derived.Laws.OwnMore
import Derived.OwnWalk
import Derived.Deep.AppendLies
import Derived.Deep.Draws
import Derived.Lib.AppendStr
import Derived.Laws.AppendOwnNone
import Derived.Lib.SmallJoins
import Derived.Lib.Hide
import Derived.Laws.BytesArg
import Derived.Deep.Fields
import Derived.ChangeArms
import Derived.OpenShut
import Derived.WalkKit
import Derived.Laws.NewBlocks
import Derived.Laws.NewDeep
import Derived.Lib.Builder
import Derived.ProofKit
import Derived.IntWalk
import Derived.BigQuiet
import Derived.Deep.QuietTactic
import Derived.WalkLawsBesides
import Derived.Test.YtlbkbcafkjgckaaDoorShelf
import Derived.Lib.ItoaNum
import Derived.Lib.AtoiAllCases
/-
  Plain facts on varints, without the program: a number's bytes, how bytes are read as a number, and that what is written is read.
  Conditions: those that each theorem names.
-/
namespace Go.Proofs.YtlbkbcafkjgckaaDoor.enc
set_option linter.unusedVariables false

/-- Each is a byte. -/
def Bd (l : List Int) : Prop := ∀ v ∈ l, 0 ≤ v ∧ v ≤ 255
theorem Bd.nil : Bd [] := fun _ h => by cases h
theorem Bd.app {a b : List Int} (ha : Bd a) (hb : Bd b) : Bd (a ++ b) := fun v hv => (List.mem_append.1 hv).elim (ha v) (hb v)
theorem Bd.one {v : Int} (h0 : 0 ≤ v) (h1 : v ≤ 255) : Bd [v] := fun x hx => by
  rw [List.mem_singleton] at hx
  omega
theorem Bd.drop {l : List Int} (h : Bd l) (k : Nat) : Bd (l.drop k) := fun v hv => h v (List.mem_of_mem_drop hv)
theorem Bd.take {l : List Int} (h : Bd l) (k : Nat) : Bd (l.take k) := fun v hv => h v (List.mem_of_mem_take hv)

def encF : Nat → Int → List Int
  | 0, n => [n]
  | f + 1, n => if n < 128 then [n] else (n % 128 + 128) :: encF f (n / 128)
/-- The varint of n, where n is below 128^6. -/
def enc (n : Int) : List Int := encF 5 n

theorem encF_lt (f : Nat) (n : Int) (h : n < 128) : encF f n = [n] := by
  cases f with
  | zero => rfl
  | succ f => simp only [encF]; rw [if_pos h]
theorem encF_ge (f : Nat) (n : Int) (h : 128 ≤ n) : encF (f + 1) n = (n % 128 + 128) :: encF f (n / 128) := by
  simp only [encF]; rw [if_neg (by omega)]
theorem pow_le (f : Nat) : (128 : Int) ≤ 128 ^ (f + 1) := by
  induction f with
  | zero => decide
  | succ f ih => rw [Int.pow_succ]; omega
theorem div_lt {f : Nat} {n : Int} (h : n < 128 ^ (f + 1 + 1)) : n / 128 < 128 ^ (f + 1) := by
  rw [Int.pow_succ] at h
  omega

theorem encF_len : ∀ (f : Nat) (n : Int), 1 ≤ (encF f n).length ∧ (encF f n).length ≤ f + 1
  | 0, n => by simp [encF]
  | f + 1, n => by
    have ih := encF_len f (n / 128)
    by_cases h : n < 128
    · rw [encF_lt _ _ h, List.length_singleton]; omega
    · rw [encF_ge _ _ (by omega), List.length_cons]; omega
theorem enc_len (n : Int) : 1 ≤ (enc n).length ∧ (enc n).length ≤ 6 := encF_len 5 n

theorem encF_bd : ∀ (f : Nat) (n : Int), 0 ≤ n → n < 128 ^ (f + 1) → Bd (encF f n)
  | 0, n, h0, h1 => by
    have : (128 : Int) ^ (0 + 1) = 128 := by decide
    exact Bd.one h0 (by omega)
  | f + 1, n, h0, h1 => by
    by_cases h : n < 128
    · rw [encF_lt _ _ h]; exact Bd.one h0 (by omega)
    · rw [encF_ge _ _ (by omega)]
      exact Bd.app (a := [_]) (Bd.one (by omega) (by omega)) (encF_bd f (n / 128) (by omega) (div_lt h1))
theorem p6 : (128 : Int) ^ (5 + 1) = 4398046511104 := by decide
theorem enc_bd (n : Int) (h0 : 0 ≤ n) (h1 : n ≤ 1000000000000) : Bd (enc n) := encF_bd 5 n h0 (by rw [p6]; omega)

/-- How far the bytes of n0 are written: done, and what is left is n. -/
def Far (n0 : Int) (done : List Int) (n : Int) : Prop := ∃ f, 0 ≤ n ∧ n < 128 ^ (f + 1) ∧ enc n0 = done ++ encF f n ∧ Bd done
theorem Far.start (n : Int) (h0 : 0 ≤ n) (h1 : n ≤ 1000000000000) : Far n [] n := ⟨5, h0, by rw [p6]; omega, rfl, Bd.nil⟩
theorem Far.nonneg {n0 n : Int} {d : List Int} (h : Far n0 d n) : 0 ≤ n := by obtain ⟨_, h, _⟩ := h; exact h
theorem Far.step {n0 n : Int} {d : List Int} (h : Far n0 d n) (hn : 128 ≤ n) : Far n0 (d ++ [n % 128 + 128]) (n / 128) := by
  obtain ⟨f, h0, h1, h2, h3⟩ := h
  cases f with
  | zero =>
    have : (128 : Int) ^ (0 + 1) = 128 := by decide
    omega
  | succ f => exact ⟨f, by omega, div_lt h1, by rw [h2, encF_ge _ _ hn, List.append_assoc]; rfl, h3.app (Bd.one (by omega) (by omega))⟩
theorem Far.last {n0 n : Int} {d : List Int} (h : Far n0 d n) (hn : n < 128) : enc n0 = d ++ [n] := by
  obtain ⟨f, h0, h1, h2, h3⟩ := h
  rw [h2, encF_lt _ _ hn]
theorem Far.bd {n0 n : Int} {d : List Int} (h : Far n0 d n) : Bd d := by obtain ⟨_, _, _, _, h⟩ := h; exact h
theorem Far.len {n0 n : Int} {d : List Int} (h : Far n0 d n) : d.length ≤ 5 := by
  obtain ⟨f, h0, h1, h2, h3⟩ := h
  have a := (enc_len n0).2
  have b := (encF_len f n).1
  rw [h2, List.length_append] at a
  omega

/-- Reading: k bytes have been read, they are n, the next one counts u times. -/
def decF : Nat → Nat → Int → Int → List Int → Option (Int × Nat)
  | 0, _, _, _, _ => none
  | _ + 1, _, _, _, [] => none
  | f + 1, k, n, u, c :: r => if c < 128 then (if (0 < k ∧ c = 0) ∨ 1000000000000 < n + c * u then none else some (n + c * u, k + 1)) else decF f (k + 1) (n + (c - 128) * u) (u * 128) r

/-- What is read from index at. -/
def dec (l : List Int) (i : Int) : Option (Int × Nat) := if 0 ≤ i ∧ i ≤ l.length then decF 6 0 0 1 (l.drop i.toNat) else none

theorem decF_nil (f k : Nat) (n u : Int) : decF f k n u [] = none := by cases f <;> rfl
theorem decF_more (f k : Nat) (n u c : Int) (r : List Int) (h : 128 ≤ c) : decF (f + 1) k n u (c :: r) = decF f (k + 1) (n + (c - 128) * u) (u * 128) r := by
  simp only [decF]; rw [if_neg (by omega)]
theorem decF_bad (f k : Nat) (n u c : Int) (r : List Int) (h : c < 128) (hb : (0 < k ∧ c = 0) ∨ 1000000000000 < n + c * u) : decF (f + 1) k n u (c :: r) = none := by
  simp only [decF]; rw [if_pos h, if_pos hb]
theorem decF_good (f k : Nat) (n u c : Int) (r : List Int) (h : c < 128) (hb : ¬ ((0 < k ∧ c = 0) ∨ 1000000000000 < n + c * u)) : decF (f + 1) k n u (c :: r) = some (n + c * u, k + 1) := by
  simp only [decF]; rw [if_pos h, if_neg hb]

theorem decF_encF : ∀ (f k : Nat) (m u n : Int) (rest : List Int), 0 ≤ n → n < 128 ^ (f + 1) → m + n * u ≤ 1000000000000 → (0 < k → 0 < n) →
    decF (f + 1) k m u (encF f n ++ rest) = some (m + n * u, k + (encF f n).length)
  | 0, k, m, u, n, rest, h0, h1, h2, h3 => by
    have e : (128 : Int) ^ (0 + 1) = 128 := by decide
    show decF (0 + 1) k m u (n :: rest) = _
    rw [decF_good _ _ _ _ _ _ (by omega) (fun hh => by omega)]
    rfl
  | f + 1, k, m, u, n, rest, h0, h1, h2, h3 => by
    by_cases h : n < 128
    · rw [encF_lt _ _ h]
      show decF (f + 1 + 1) k m u (n :: rest) = _
      rw [decF_good _ _ _ _ _ _ h (fun hh => by omega)]
      rfl
    · have e : m + (n % 128 + 128 - 128) * u + n / 128 * (u * 128) = m + n * u := by
        have e1 : n % 128 + 128 - 128 = n % 128 := by omega
        have e2 : n / 128 * (u * 128) = (128 * (n / 128)) * u := by
          rw [Int.mul_comm u 128, ← Int.mul_assoc, Int.mul_comm (n / 128) 128]
        rw [e1, e2, Int.add_assoc, ← Int.add_mul]
        have e3 : n % 128 + 128 * (n / 128) = n := by omega
        rw [e3]
      rw [encF_ge _ _ (by omega), List.cons_append, decF_more _ _ _ _ _ _ (by omega), decF_encF f (k + 1) _ _ (n / 128) rest (by omega) (div_lt h1) (by rw [e]; exact h2) (fun _ => by omega), e, List.length_cons]
      congr 2
      omega

/-- What is written behind p is read from there, whatever stands behind it. -/
theorem dec_enc (p rest : List Int) (n : Int) (h0 : 0 ≤ n) (h1 : n ≤ 1000000000000) : dec (p ++ enc n ++ rest) (p.length : Int) = some (n, (enc n).length) := by
  unfold dec
  rw [if_pos ⟨by omega, by simp only [List.length_append]; omega⟩]
  have e : (p ++ enc n ++ rest).drop ((p.length : Int)).toNat = enc n ++ rest := by
    rw [Int.toNat_natCast, List.append_assoc, List.drop_left]
  rw [e]
  have := decF_encF 5 0 0 1 n rest h0 (by rw [p6]; omega) (by omega) (fun h => by omega)
  unfold enc
  rw [this]
  congr 2 <;> omega

theorem decF_bounds : ∀ (f k : Nat) (n u : Int) (l : List Int) (x : Int) (j : Nat), 0 ≤ n → 0 ≤ u → Bd l → decF f k n u l = some (x, j) → 0 ≤ x ∧ x ≤ 1000000000000 ∧ k < j ∧ j ≤ k + f ∧ j ≤ k + l.length
  | 0, k, n, u, l, x, j, h0, h1, hb, h => by cases h
  | f + 1, k, n, u, [], x, j, h0, h1, hb, h => by cases h
  | f + 1, k, n, u, c :: r, x, j, h0, h1, hb, h => by
    have hc := hb c List.mem_cons_self
    by_cases h128 : c < 128
    · by_cases hbad : (0 < k ∧ c = 0) ∨ 1000000000000 < n + c * u
      · rw [decF_bad _ _ _ _ _ _ h128 hbad] at h; cases h
      · rw [decF_good _ _ _ _ _ _ h128 hbad] at h
        injection h with h
        obtain ⟨rfl, rfl⟩ := Prod.mk.inj h
        have := Int.mul_nonneg hc.1 h1
        rw [List.length_cons]
        omega
    · rw [decF_more _ _ _ _ _ _ (by omega)] at h
      have := Int.mul_nonneg (a := c - 128) (b := u) (by omega) h1
      have ih := decF_bounds f (k + 1) _ _ r x j (by omega) (by omega) (fun v hv => hb v (List.mem_cons_of_mem _ hv)) h
      rw [List.length_cons]
      omega

theorem dec_bounds {l : List Int} {i x : Int} {j : Nat} (hb : Bd l) (h : dec l i = some (x, j)) : 0 ≤ x ∧ x ≤ 1000000000000 ∧ 0 ≤ i ∧ 0 < j ∧ j ≤ 6 ∧ i + j ≤ l.length := by
  unfold dec at h
  split at h
  · rename_i hi
    have := decF_bounds _ _ _ _ _ _ _ (by omega) (by omega) (hb.drop _) h
    rw [List.length_drop] at this
    omega
  · cases h

/-- The number of a signed one. -/
def zig (n : Int) : Int := if n < 0 then -2 * n - 1 else 2 * n
theorem zig_bd {n : Int} (h0 : -1000000000 ≤ n) (h1 : n ≤ 1000000000) : 0 ≤ zig n ∧ zig n ≤ 2000000000 := by unfold zig; split <;> omega
/-- The signed number of one. -/
def zag (c : Int) : Int := if c % 2 = 1 then -((c + 1) / 2) else c / 2
theorem zag_zig (n : Int) : zag (zig n) = n := by unfold zag zig; split <;> split <;> omega

/-- What AppendSigned appends. -/
def sig (n : Int) : List Int := if -1000000000 ≤ n ∧ n ≤ 1000000000 then enc (zig n) else []
theorem sig_bd (n : Int) : Bd (sig n) := by
  unfold sig
  split
  · rename_i h
    have := zig_bd h.1 h.2
    exact enc_bd _ this.1 (by omega)
  · exact Bd.nil
theorem sig_len (n : Int) : (sig n).length ≤ 6 := by
  unfold sig
  split
  · exact (enc_len _).2
  · simp
/-- What AppendUvarint appends. -/
def uva (n : Int) : List Int := if 0 ≤ n ∧ n ≤ 1000000000000 then enc n else []
theorem uva_bd (n : Int) : Bd (uva n) := by
  unfold uva
  split
  · rename_i h
    exact enc_bd _ h.1 h.2
  · exact Bd.nil
theorem uva_len (n : Int) : (uva n).length ≤ 6 := by
  unfold uva
  split
  · exact (enc_len _).2
  · simp

/-- What ReadUvarint returns: number, next index, ok. -/
def rdu (l : List Int) (i : Int) : Int × Int × Bool := match dec l i with
  | some (n, k) => (n, i + k, true)
  | none => (0, 0, false)
theorem rdu_some {l : List Int} {i n : Int} {k : Nat} (h : dec l i = some (n, k)) : rdu l i = (n, i + k, true) := by unfold rdu; rw [h]
theorem rdu_none {l : List Int} {i : Int} (h : dec l i = none) : rdu l i = (0, 0, false) := by unfold rdu; rw [h]
theorem rdu_bd {l : List Int} (hb : Bd l) (i : Int) : 0 ≤ (rdu l i).1 ∧ (rdu l i).1 ≤ 1000000000000 ∧ 0 ≤ (rdu l i).2.1 ∧ (rdu l i).2.1 ≤ l.length ∧ ((rdu l i).2.2 = false → (rdu l i).1 = 0 ∧ (rdu l i).2.1 = 0) := by
  cases h : dec l i with
  | none => rw [rdu_none h]; exact ⟨Int.le_refl 0, show (0 : Int) ≤ 1000000000000 by omega, Int.le_refl 0, show (0 : Int) ≤ (l.length : Int) by omega, fun _ => ⟨rfl, rfl⟩⟩
  | some x =>
    obtain ⟨n, k⟩ := x
    rw [rdu_some h]
    have := dec_bounds hb h
    exact ⟨by omega, by omega, by show 0 ≤ i + (k : Int); omega, by show i + (k : Int) ≤ _; omega, fun hh => by cases hh⟩
theorem rdu_enc (p rest : List Int) (n : Int) (h0 : 0 ≤ n) (h1 : n ≤ 1000000000000) : rdu (p ++ enc n ++ rest) (p.length : Int) = (n, ((p ++ enc n).length : Int), true) := by
  rw [rdu_some (dec_enc p rest n h0 h1), List.length_append, Int.natCast_add]

/-- What ReadSigned returns. -/
def rds (l : List Int) (i : Int) : Int × Int × Bool := if (rdu l i).2.2 = true ∧ (rdu l i).1 ≤ 2000000000 then (zag (rdu l i).1, (rdu l i).2.1, true) else (0, 0, false)
theorem rds_sig (p : List Int) (n : Int) (h0 : -1000000000 ≤ n) (h1 : n ≤ 1000000000) : rds (p ++ sig n) (p.length : Int) = (n, ((p ++ sig n).length : Int), true) := by
  have hz := zig_bd h0 h1
  have e : sig n = enc (zig n) := by unfold sig; rw [if_pos ⟨h0, h1⟩]
  have h := rdu_enc p [] (zig n) hz.1 (by omega)
  rw [List.append_nil] at h
  unfold rds
  rw [e, h, if_pos ⟨rfl, hz.2⟩, zag_zig]

/-- What ReadText returns: the bytes, the next index, ok. -/
def rdt (l : List Int) (i most : Int) : List Int × Int × Bool :=
  if (rdu l i).2.2 = true ∧ (rdu l i).1 ≤ most ∧ (rdu l i).1 ≤ l.length - (rdu l i).2.1 then ((l.drop (rdu l i).2.1.toNat).take (rdu l i).1.toNat, (rdu l i).2.1 + (rdu l i).1, true) else ([], 0, false)

theorem rdt_text (p s : List Int) (hs : s.length ≤ 1000000) (most : Int) : rdt (p ++ enc s.length ++ s) (p.length : Int) most = if (s.length : Int) ≤ most then (s, ((p ++ enc s.length ++ s).length : Int), true) else ([], 0, false) := by
  have h := rdu_enc p s (s.length : Int) (by omega) (by omega)
  unfold rdt
  rw [h]
  simp only [List.length_append, Int.natCast_add]
  by_cases hm : (s.length : Int) ≤ most
  · rw [if_pos ⟨trivial, hm, by omega⟩, if_pos hm]
    refine Prod.ext ?_ rfl
    show ((p ++ enc (s.length : Int) ++ s).drop ((p.length : Int) + ((enc (s.length : Int)).length : Int)).toNat).take ((s.length : Int)).toNat = s
    have e : ((p.length : Int) + ((enc (s.length : Int)).length : Int)).toNat = (p ++ enc (s.length : Int)).length := by rw [List.length_append]; omega
    rw [e, List.drop_left, Int.toNat_natCast, List.take_length]
  · rw [if_neg (fun hh => hm hh.2.1), if_neg hm]

end Go.Proofs.YtlbkbcafkjgckaaDoor.enc

/-
  Slices of bytes in memory: one that reads as a list of numbers, one that the call itself has made, and how both are kept while memory grows.
  Conditions: those that each theorem names.
-/
namespace Go.Proofs.YtlbkbcafkjgckaaDoor.mem
open Go.RowKit
set_option linter.unusedVariables false

theorem u8row : (Tryd.prog.info? 5).map (fun i => (i.zero, i.size, i.bytes)) = some (some (.int .u8 0), 1, 1) := by kernel_rfl

/-- The numbers as cells. -/
def cs (l : List Int) : List Value := l.map (Value.int .u8)
theorem cs_len (l : List Int) : (cs l).length = l.length := List.length_map _
theorem cs_app (a b : List Int) : cs (a ++ b) = cs a ++ cs b := List.map_append
theorem cs_get {l : List Int} {j : Nat} {v : Int} (h : l[j]? = some v) : (cs l)[j]? = some (.int .u8 v) := by unfold cs; rw [List.getElem?_map, h]; rfl
theorem cs_set (l : List Int) (j : Nat) (v : Int) : cs (l.set j v) = (cs l).set j (.int .u8 v) := List.map_set
theorem cs_one (l : List Int) : ∀ u ∈ cs l, u.oneCell' = true := ints_oneCell .u8 l
theorem cs_zero (n : Nat) : cs (List.replicate n 0) = List.replicate n (.int .u8 0) := List.map_replicate

theorem add_block (a : Addr) (n : Nat) : (a.add n).block = a.block := by unfold Addr.add; split <;> rfl
theorem add_add (a : Addr) (i j : Nat) : (a.add i).add j = a.add (i + j) := by
  unfold Addr.add
  by_cases hi : i = 0 <;> by_cases hj : j = 0 <;> simp [hi, hj, Nat.add_assoc]
theorem add_zero_lit (g j : Nat) : (⟨g, 0, none⟩ : Addr).add j = ⟨g, j, none⟩ := by rw [Addr.add_lit, Nat.zero_add]

/-- The slice at A of n bytes reads as l. -/
def Rd (w : World) (A : Option Addr) (n : Nat) (l : List Int) : Prop :=
  l.length = n ∧ enc.Bd l ∧ (0 < n → ∃ a, A = some a ∧ ∀ j v, l[j]? = some v → w.cell? (a.add j) = some (.int .u8 v))

theorem Rd.len {w : World} {A : Option Addr} {n : Nat} {l : List Int} (h : Rd w A n l) : l.length = n := h.1
theorem Rd.bd {w : World} {A : Option Addr} {n : Nat} {l : List Int} (h : Rd w A n l) : enc.Bd l := h.2.1
theorem Rd.at_ {w : World} {A : Option Addr} {n k : Nat} {l : List Int} (h : Rd w A n l) (hk : k < n) : ∃ a v, A = some a ∧ l[k]? = some v ∧ 0 ≤ v ∧ v ≤ 255 ∧ w.cell? (a.add k) = some (.int .u8 v) := by
  obtain ⟨h1, h2, h3⟩ := h
  obtain ⟨a, e, hc⟩ := h3 (by omega)
  have hl : k < l.length := by omega
  have hv := h2 l[k] (List.getElem_mem hl)
  exact ⟨a, l[k], e, List.getElem?_eq_getElem hl, hv.1, hv.2, hc k _ (List.getElem?_eq_getElem hl)⟩
/-- In the block of the slice, where it has a byte. -/
theorem Rd.lt {w : World} {A : Option Addr} {n : Nat} {l : List Int} (h : Rd w A n l) (hn : 0 < n) : ∃ a, A = some a ∧ a.block < w.heap.size := by
  obtain ⟨a, v, e, _, _, _, hc⟩ := h.at_ hn
  refine ⟨a, e, ?_⟩
  have := World.block_lt_of_cell? _ _ hc
  rwa [add_block] at this
/-- No byte of it lies in block row. -/
def Off (A : Option Addr) (n : Nat) (row : Option Nat) : Prop := 0 < n → ∀ a, A = some a → some a.block ≠ row
theorem Off.none_ (A : Option Addr) (n : Nat) : Off A n none := fun _ a _ h => by cases h
theorem Rd.grown {w w' : World} {A : Option Addr} {n : Nat} {l : List Int} {row : Option Nat} (h : Rd w A n l) (hg : w.grownBy w' row) (ho : Off A n row) : Rd w' A n l := by
  refine ⟨h.1, h.2.1, fun hn => ?_⟩
  obtain ⟨a, e, hc⟩ := h.2.2 hn
  exact ⟨a, e, fun j v hv => hg.cell (hc j v hv) (by rw [add_block]; exact ho hn a e)⟩
theorem none_of_below {w w' : World} (h : Below w.heap.size w w') : w.grownBy w' none := ⟨h.os, h.tape, h.output, h.size, fun k hk _ => h.block k hk⟩
theorem below_of_none {w w' : World} (h : w.grownBy w' none) : Below w.heap.size w w' := ⟨h.os, h.tape, h.output, h.size, fun k hk => h.block k hk (fun e => by cases e)⟩
theorem Rd.below {w w' : World} {A : Option Addr} {n : Nat} {l : List Int} (h : Rd w A n l) (hb : Below w.heap.size w w') : Rd w' A n l := h.grown (none_of_below hb) (Off.none_ _ _)
theorem Rd.alloc {w : World} {A : Option Addr} {n : Nat} {l : List Int} (h : Rd w A n l) (o : Obj) : Rd (w.alloc o) A n l := h.grown (World.grownBy_alloc w o none) (Off.none_ _ _)
theorem Rd.draws {w : World} {A : Option Addr} {n : Nat} {l : List Int} (h : Rd w A n l) (k : Nat) : Rd (w.drewN k) A n l := h

/-- A slice of bytes that the call has made: its block is lo or above. -/
def Own (w : World) (lo : Nat) (A : Option Addr) (n c : Nat) (l : List Int) : Prop :=
  l.length = n ∧ enc.Bd l ∧ w.ownsRow lo 5 1 (.slice A n c) n (cs l)

section
variable {w w' : World} {lo : Nat} {A : Option Addr} {n c : Nat} {l : List Int}
theorem Own.len (h : Own w lo A n c l) : l.length = n := h.1
theorem Own.bd (h : Own w lo A n c l) : enc.Bd l := h.2.1
theorem Own.row (h : Own w lo A n c l) : w.ownsRow lo 5 1 (.slice A n c) n (cs l) := h.2.2
theorem Own.form (h : Own w lo A n c l) : (A = none ∧ n = 0) ∨ ∃ g, A = some ⟨g, 0, none⟩ ∧ lo ≤ g ∧ g < w.heap.size := by
  rcases h.2.2.2 with ⟨e, h0⟩ | ⟨g, cap, cur, e, hb, hg, _⟩
  · injection e with e1
    exact .inl ⟨e1, h0⟩
  · injection e with e1
    exact .inr ⟨g, e1, hb, draw_lt hg⟩
where
  draw_lt {w : World} {N : Nat} {o : Obj} (h : w.heap[N]? = some o) : N < w.heap.size := by
    rcases Nat.lt_or_ge N w.heap.size with hlt | hge
    · exact hlt
    · rw [Array.getElem?_eq_none hge] at h; cases h
theorem Own.rd (h : Own w lo A n c l) : Rd w A n l := by
  refine ⟨h.1, h.2.1, fun hn => ?_⟩
  rcases h.form with ⟨_, h0⟩ | ⟨g, e, _⟩
  · omega
  · subst e
    exact ⟨_, rfl, fun j v hv => h.row.cells (g := g) rfl j _ (cs_get hv)⟩
theorem Own.block (h : Own w lo A n c l) : ∀ k, (Value.slice A n c).ownBlock = some k → lo ≤ k ∧ k < w.heap.size := h.row.lt
theorem Own.grown {row : Option Nat} (h : Own w lo A n c l) (hg : w.grownBy w' row) (ho : (Value.slice A n c).ownBlock = none ∨ (Value.slice A n c).ownBlock ≠ row) : Own w' lo A n c l :=
  ⟨h.1, h.2.1, h.row.kept hg ho⟩
theorem Own.none_ (h : Own w lo A n c l) (hg : w.grownBy w' none) : Own w' lo A n c l := h.grown hg (by
  cases e : (Value.slice A n c).ownBlock with
  | none => exact .inl rfl
  | some k => exact .inr (by simp))
theorem Own.below (h : Own w lo A n c l) (hb : Below w.heap.size w w') : Own w' lo A n c l := h.none_ (none_of_below hb)
theorem Own.alloc (h : Own w lo A n c l) (o : Obj) : Own (w.alloc o) lo A n c l := ⟨h.1, h.2.1, h.row.alloc o⟩
theorem Own.draws (h : Own w lo A n c l) (k : Nat) : Own (w.drewN k) lo A n c l := h
theorem Own.less {lo' : Nat} (h : Own w lo A n c l) (hl : lo' ≤ lo) : Own w lo' A n c l := ⟨h.1, h.2.1, Joins.ownsRow_le h.row hl⟩
/-- Where it has a byte it lies at the head of a block. -/
theorem Own.head (h : Own w lo A n c l) (hn : 0 < n) : ∃ g, A = some ⟨g, 0, none⟩ ∧ lo ≤ g ∧ g < w.heap.size ∧ (Value.slice A n c).ownBlock = some g := by
  rcases h.form with ⟨_, h0⟩ | ⟨g, e, h1, h2⟩
  · omega
  · subst e
    exact ⟨g, rfl, h1, h2, rfl⟩
/-- A write to another one's block. -/
theorem Own.far {lo' : Nat} {A' : Option Addr} {n' c' : Nat} {l' : List Int} (h : Own w lo A n c l) (h' : Own w lo' A' n' c' l') (hd : ∀ k, (Value.slice A n c).ownBlock = some k → (Value.slice A' n' c').ownBlock ≠ some k) :
    Off A' n' (Value.slice A n c).ownBlock := fun hn a ha e => by
  obtain ⟨g, e1, _, _, e2⟩ := h'.head hn
  have : a = ⟨g, 0, none⟩ := by rw [e1] at ha; injection ha with ha; exact ha.symm
  subst this
  exact hd g e.symm e2
/-- What came in before lies elsewhere. -/
theorem Own.off {B : Nat} {A' : Option Addr} {n' : Nat} (h : Own w lo A n c l) (hB : B ≤ lo) (hr : 0 < n' → ∃ a, A' = some a ∧ a.block < B) : Off A' n' (Value.slice A n c).ownBlock := fun hn a ha e => by
  obtain ⟨a', e1, hlt⟩ := hr hn
  have : a = a' := by rw [e1] at ha; injection ha with ha; exact ha.symm
  subst this
  have := (h.block _ e.symm).1
  omega
end

/-- Nothing yet. -/
theorem own_empty (w : World) (lo : Nat) {A : Option Addr} {n c : Nat} (h : w.ownsRow lo 5 1 (.slice A n c) n []) (hn : n = 0) : Own w lo A n c [] := ⟨by simp [hn], enc.Bd.nil, h⟩

/-- A law of a slice that the call has made, from a slice value. -/
theorem own_mk {w : World} {lo : Nat} {v : Value} {n : Nat} {l : List Int} (h : w.ownsRow lo 5 1 v n (cs l)) (hb : enc.Bd l) : ∃ A c, v = .slice A n c ∧ Own w lo A n c l := by
  have hl : l.length = n := by have := h.1; rw [cs_len] at this; omega
  rcases Joins.ownsRow_forms h with ⟨rfl, rfl⟩ | ⟨g, cap, rfl⟩
  · exact ⟨none, 0, rfl, hl, hb, h⟩
  · exact ⟨_, cap, rfl, hl, hb, h⟩

/-- The mark numbers from k on. -/
def marks (k : Int) : Nat → List Int
  | 0 => []
  | n + 1 => (k % 256) :: marks (k + 1) n
theorem marks_len : ∀ (n : Nat) (k : Int), (marks k n).length = n
  | 0, _ => rfl
  | n + 1, k => by rw [marks, List.length_cons, marks_len n]
theorem marks_bd : ∀ (n : Nat) (k : Int), enc.Bd (marks k n)
  | 0, _ => enc.Bd.nil
  | n + 1, k => enc.Bd.app (a := [_]) (enc.Bd.one (by omega) (by omega)) (marks_bd n (k + 1))
theorem marks_get : ∀ (n : Nat) (k : Int) (j : Nat), j < n → (marks k n)[j]? = some ((k + j) % 256)
  | 0, _, _, h => by omega
  | n + 1, k, 0, _ => by simp [marks]
  | n + 1, k, j + 1, h => by
    have e : k + 1 + (j : Int) = k + ((j + 1 : Nat) : Int) := by omega
    rw [marks, List.getElem?_cons_succ, marks_get n (k + 1) j (by omega), e]

/-- A list that is filled from the front: the first k are l's. -/
def Filled (l m : List Int) (k : Nat) : Prop := m.length = l.length ∧ m.take k = l.take k
theorem Filled.start (l m : List Int) (h : m.length = l.length) : Filled l m 0 := ⟨h, by simp⟩
theorem Filled.step {l m : List Int} {k : Nat} {v : Int} (h : Filled l m k) (hv : l[k]? = some v) : Filled l (m.set k v) (k + 1) := by
  refine ⟨by rw [List.length_set]; exact h.1, ?_⟩
  obtain ⟨hk, e⟩ := List.getElem?_eq_some_iff.1 hv
  have hm := h.1
  rw [List.take_succ_eq_append_getElem (by rw [List.length_set]; omega), List.take_succ_eq_append_getElem hk, List.take_set, List.set_eq_of_length_le (by rw [List.length_take]; omega), h.2, List.getElem_set_self, e]
theorem Filled.all {l m : List Int} {k : Nat} (h : Filled l m k) (hk : l.length ≤ k) : m = l := by
  have h2 := h.2
  rw [List.take_of_length_le hk, List.take_of_length_le (by rw [h.1]; exact hk)] at h2
  exact h2
theorem bd_set {m : List Int} (h : enc.Bd m) (k : Nat) {v : Int} (h0 : 0 ≤ v) (h1 : v ≤ 255) : enc.Bd (m.set k v) := fun x hx => by
  rcases List.mem_or_eq_of_mem_set hx with hx | rfl
  · exact h x hx
  · exact ⟨h0, h1⟩

/-- One byte of an own slice is written. -/
theorem Own.set {w : World} {lo g n c : Nat} {l : List Int} (h : Own w lo (some ⟨g, 0, none⟩) n c l) (k : Nat) {v : Int} (h0 : 0 ≤ v) (h1 : v ≤ 255) :
    Own (w.setCell ⟨g, k, none⟩ (.int .u8 v)) lo (some ⟨g, 0, none⟩) n c (l.set k v) ∧ w.grownBy (w.setCell ⟨g, k, none⟩ (.int .u8 v)) (some g) := by
  have hs := h.row.stored k (.int .u8 v)
  exact ⟨⟨by rw [List.length_set]; exact h.1, bd_set h.2.1 k h0 h1, by rw [cs_set]; exact hs.1⟩, hs.2⟩
theorem Own.cellk {w : World} {lo g n c k : Nat} {l : List Int} (h : Own w lo (some ⟨g, 0, none⟩) n c l) (hk : k < n) : (∃ v, w.cell? ⟨g, k, none⟩ = some (.int .u8 v)) ∧ w.frozen? ⟨g, k, none⟩ = false := by
  refine ⟨?_, h.row.frozenAt k⟩
  have hl : k < l.length := by rw [h.1]; exact hk
  exact ⟨l[k], by rw [h.row.cellAt k (by omega)]; exact cs_get (List.getElem?_eq_getElem hl)⟩

theorem grown_trans {a b c : World} {r : Option Nat} (h : a.grownBy b r) (k : b.grownBy c r) : a.grownBy c r :=
  ⟨k.os.trans h.os, k.tape.trans h.tape, k.output.trans h.output, Nat.le_trans h.size k.size, fun j hj hne => (k.block j (Nat.lt_of_lt_of_le hj h.size) hne).trans (h.block j hj hne)⟩
theorem grown_draws {a w : World} {r : Option Nat} (h : a.grownBy w r) (n : Nat) : a.grownBy (w.drewN n) r := ⟨h.os, h.tape, h.output, h.size, h.block⟩
theorem grown_new {a w : World} {r : Option Nat} (h : a.grownBy w r) (o : Obj) : a.grownBy (w.alloc o) r :=
  ⟨h.os, h.tape, h.output, Nat.le_trans h.size (by simp), fun k hk hne => (Below.heap_alloc w o k (Nat.lt_of_lt_of_le hk h.size)).trans (h.block k hk hne)⟩

theorem below_own {w w' : World} {lo : Nat} {A : Option Addr} {n c : Nat} {l : List Int} (h : Own w lo A n c l) (hg : w.grownBy w' (Value.slice A n c).ownBlock) (hlo : lo ≤ w.heap.size) : Below lo w w' :=
  (Below.refl lo w).grown hg hlo (fun k hk => (h.block k hk).1)

/-- A new block of one byte. -/
theorem rd_one (w : World) (v : Int) (h0 : 0 ≤ v) (h1 : v ≤ 255) (t : TypeId) : Rd (w.alloc (.cells #[.int .u8 v] t)) (some ⟨w.heap.size, 0, none⟩) 1 [v] := by
  refine ⟨rfl, enc.Bd.one h0 h1, fun _ => ⟨_, rfl, fun j x hx => ?_⟩⟩
  cases j with
  | zero =>
    have : v = x := by simpa using hx
    subst this
    rw [add_zero_lit, World.cell?_alloc_new]
    rfl
  | succ j => simp at hx
/-- A new block of none. -/
theorem own_none (w : World) (lo : Nat) (hlo : lo ≤ w.heap.size) : Own (w.alloc (.cells #[] 5)) lo (some ⟨w.heap.size, 0, none⟩) 0 0 [] :=
  own_empty _ _ (World.ownsRow_made w #[] 0 hlo (Nat.zero_le _) rfl) rfl
theorem own_nil (w : World) (lo : Nat) : Own w lo none 0 0 [] := own_empty _ _ (World.ownsRow_nil w lo _ 1) rfl

theorem run_none (P : Program) (w : World) (t ty : TypeId) (i : TypeInfo) (ht : P.underlying t = some (.slice 5)) (hi : P.info? 5 = some i) (lo : Nat) (v : Value) (n d : Nat) (xs : List Value) (hown : w.ownsRow lo 5 1 v n xs) :
    (Builtin.append_ #[t, t] ty #[v, .slice none 0 d]).run P w = .ok v w := by
  rcases hown.2 with ⟨rfl, rfl⟩ | ⟨g, cap, cur, rfl, _, _, hnc, _⟩
  · simp [Builtin.append_, run_underlying ht, sizeOf, typeInfo, hi, Builtin.lenOf, Builtin.firstCells]
  · simp [Builtin.append_, run_underlying ht, sizeOf, typeInfo, hi, Builtin.lenOf, Builtin.firstCells, hnc, storeCells]

/-- append of a slice that reads as r onto an own one. -/
theorem append_rd {P : Program} {w : World} {ops : Array Oper} {rest : List Oper} {o : Oper} {a : Act} {Q : Exit → Act → World → Prop} (hgd : o.guard = none) (s x : Operand) (t : TypeId)
    (ho : o.op = .call { callee := .builtin .append, args := #[s, x], argTypes := #[t, t] })
    (i : TypeInfo) (ht : P.underlying t = some (.slice 5)) (hi : P.info? 5 = some i) (hz : i.zero = some (.int .u8 0)) (hsize : i.size = 1) (hby : i.bytes = 1)
    (lo : Nat) (A : Option Addr) (n c : Nat) (l : List Int) (hs : a.eval s = .slice A n c) (hown : Own w lo A n c l)
    (B : Option Addr) (m d : Nat) (r : List Int) (hx : a.eval x = .slice B m d) (hr : Rd w B m r) (hb : n + m ≤ 140737488355328) (hlo : lo ≤ w.heap.size)
    (h : ∀ A' c' w', Own w' lo A' (n + m) c' (l ++ r) → Below lo w w' → wpList P ops Q rest (a.put o.dst (.slice A' (n + m) c')) w') : wpList P ops Q (o :: rest) a w := by
  have close : ∀ v' w', w'.ownsRow lo 5 1 v' (n + m) (cs l ++ cs r) → w.grownBy w' (Value.slice A n c).ownBlock → wpList P ops Q rest (a.put o.dst v') w' := fun v' w' h1 h2 => by
    rw [← cs_app] at h1
    obtain ⟨A', c', rfl, h3⟩ := own_mk h1 (hown.bd.app hr.bd)
    exact h A' c' w' h3 (below_own hown h2 hlo)
  have hl : (cs r).length = m * 1 := by rw [cs_len, hr.len, Nat.mul_one]
  have hmax : n + m ≤ maxLen := by unfold maxLen; omega
  cases B with
  | none =>
    have hm : m = 0 := by
      rcases Nat.eq_zero_or_pos m with h0 | h0
      · exact h0
      · obtain ⟨_, e, _⟩ := hr.2.2 h0
        cases e
    subst hm
    have hr0 : r = [] := List.eq_nil_of_length_eq_zero hr.len
    subst hr0
    have hrun := run_none P w t o.type i ht hi lo _ n d (cs l) hown.row
    refine wpList_plain hgd fun K hK => ?_
    unfold Oper.wp
    simp [execOp, ho, resolve, invoke, builtin, hs, hx, hrun, Result.andThen]
    exact hK _ _ (close _ _ (by simpa [cs] using hown.row) (World.grownBy.refl _ _))
  | some ad =>
    refine wpList_append_own w hgd s x t ho lo 5 i (.int .u8 0) 1 1 ht hi hz hsize hby rfl (by omega) (.slice A n c) n (cs l) hs hown.row ad m d (cs r) hx hl ?_ (cs_one r) hmax (by omega) hlo ?_
    · intro j u hu
      have hj : j < r.length := by
        have := (List.getElem?_eq_some_iff.1 hu).1
        rwa [cs_len] at this
      obtain ⟨_, e, hc⟩ := hr.2.2 (by have := hr.len; omega)
      obtain rfl := Option.some.inj e
      have hrj : r[j]? = some r[j] := List.getElem?_eq_getElem hj
      rw [cs_get hrj] at hu
      rw [← hu]
      exact hc j _ hrj
    · intro v' w' h1 h2 _
      exact close v' w' h1 h2

/-- A text's bytes as numbers. -/
def txt (s : ByteArray) : List Int := s.data.toList.map fun b => (b.toNat : Int)
theorem txt_len (s : ByteArray) : (txt s).length = s.size := by unfold txt; rw [List.length_map, Array.length_toList]; rfl
theorem txt_bd (s : ByteArray) : enc.Bd (txt s) := fun v hv => by
  unfold txt at hv
  obtain ⟨b, _, rfl⟩ := List.mem_map.1 hv
  have := b.toNat_lt
  omega
theorem strCells_cs (s : ByteArray) : Lib.strCells s = cs (txt s) := by unfold Lib.strCells cs txt; rw [List.map_map]; rfl
theorem strOf_txt (s : ByteArray) : strOfNums (txt s) = s := by
  unfold strOfNums txt
  rw [List.map_map]
  have e : s.data.toList.map ((fun n : Int => UInt8.ofNat n.toNat) ∘ fun b : UInt8 => (b.toNat : Int)) = s.data.toList := by
    rw [List.map_congr_left (g := id) (fun b _ => by simp), List.map_id]
  rw [e, Joins.bytes_eta]

/-- append of a text onto an own slice. -/
theorem append_txt {P : Program} {w : World} {ops : Array Oper} {rest : List Oper} {o : Oper} {a : Act} {Q : Exit → Act → World → Prop} (hgd : o.guard = none) (s x : Operand) (t u : TypeId)
    (ho : o.op = .call { callee := .builtin .append, args := #[s, x], argTypes := #[t, u] })
    (i : TypeInfo) (ht : P.underlying t = some (.slice 5)) (hu : P.underlying u = some .string) (hi : P.info? 5 = some i) (hz : i.zero = some (.int .u8 0)) (hsize : i.size = 1) (hby : i.bytes = 1)
    (lo : Nat) (A : Option Addr) (n c : Nat) (l : List Int) (hs : a.eval s = .slice A n c) (hown : Own w lo A n c l)
    (b : ByteArray) (hx : a.eval x = .string b) (hb : n + b.size ≤ 140737488355328) (hlo : lo ≤ w.heap.size)
    (h : ∀ A' c' w', Own w' lo A' (n + b.size) c' (l ++ txt b) → Below lo w w' → wpList P ops Q rest (a.put o.dst (.slice A' (n + b.size) c')) w') : wpList P ops Q (o :: rest) a w := by
  have hmax : n + b.size ≤ maxLen := by unfold maxLen; omega
  refine Lib.wpList_append_own_string w hgd s x t u ho lo 5 i ht hu hi hz hsize hby (.slice A n c) n (cs l) hs hown.row b hx hmax hb hlo ?_
  intro v' w' h1 h2 _
  rw [strCells_cs, ← cs_app] at h1
  obtain ⟨A', c', rfl, h3⟩ := own_mk h1 (hown.bd.app (txt_bd b))
  exact h A' c' w' h3 (below_own hown h2 hlo)

/-- Two own slices of which the one was made after the other. -/
theorem apart {w w' : World} {lo lo' : Nat} {A A' : Option Addr} {n n' c c' : Nat} {l l' : List Int} (h : Own w lo A n c l) (h' : Own w' lo' A' n' c' l') (hs : w.heap.size ≤ lo') :
    ∀ k, (Value.slice A n c).ownBlock = some k → (Value.slice A' n' c').ownBlock ≠ some k := fun k hk hk' => by
  have := (h.block k hk).2
  have := (h'.block k hk').1
  omega
theorem apart' {w w' : World} {lo lo' : Nat} {A A' : Option Addr} {n n' c c' : Nat} {l l' : List Int} (h : Own w lo A n c l) (h' : Own w' lo' A' n' c' l') (hs : w.heap.size ≤ lo') :
    ∀ k, (Value.slice A' n' c').ownBlock = some k → (Value.slice A n c).ownBlock ≠ some k := fun k hk hk' => apart h h' hs k hk' hk
theorem Own.keep {w w' : World} {lo : Nat} {A : Option Addr} {n c : Nat} {l : List Int} {row : Option Nat} (h : Own w lo A n c l) (hg : w.grownBy w' row) (hd : ∀ k, (Value.slice A n c).ownBlock = some k → row ≠ some k) : Own w' lo A n c l :=
  h.grown hg (by
    cases e : (Value.slice A n c).ownBlock with
    | none => exact .inl rfl
    | some k => exact .inr fun e' => hd k e e'.symm)
theorem below_mark {w w' : World} {W : World} {lo : Nat} {A : Option Addr} {n c : Nat} {l : List Int} (hb : Below W.heap.size W w) (h : Own w lo A n c l) (hg : w.grownBy w' (Value.slice A n c).ownBlock) (hlo : W.heap.size ≤ lo) : Below W.heap.size W w' :=
  hb.grown hg hb.size (fun k hk => Nat.le_trans hlo (h.block k hk).1)
theorem below_next {w w' W : World} (hb : Below W.heap.size W w) (hg : w.grownBy w' none) : Below W.heap.size W w' := hb.trans ((below_of_none hg).mono hb.size)

/-- A slice of bytes as a text. -/
theorem conv_rd {P : Program} (w : World) (src dst e : TypeId) (hs : P.underlying src = some (.slice e)) (he : P.underlying e = some (.int .u8)) (hd : P.underlying dst = some .string) {A : Option Addr} {q : Nat} {l : List Int} (h : Rd w A q l) (c : Nat) :
    (convert src dst (.slice A q c)).run P w = .ok (.string (strOfNums l)) w := by
  cases A with
  | none =>
    have hq : q = 0 := by
      rcases Nat.eq_zero_or_pos q with h0 | h0
      · exact h0
      · obtain ⟨_, e, _⟩ := h.2.2 h0
        cases e
    subst hq
    have hl : l = [] := List.eq_nil_of_length_eq_zero h.1
    subst hl
    exact run_convert_bytes_nil w src e hs he 0 c dst hd
  | some a =>
    have hl : (loadCells a q).run P w = .ok (l.map (Value.int .u8)).toArray w := by
      have := run_loadCells_list (P := P) w a (l.map (Value.int .u8)) (fun j v hj => by
        have hjl : j < l.length := by
          have := (List.getElem?_eq_some_iff.1 hj).1
          rwa [List.length_map] at this
        obtain ⟨_, e, hc⟩ := h.2.2 (by have := h.1; omega)
        obtain rfl := Option.some.inj e
        have hx : l[j]? = some l[j] := List.getElem?_eq_getElem hjl
        rw [hc j _ hx]
        rw [List.getElem?_map, hx] at hj
        exact hj)
      simpa [h.1] using this
    rw [run_convert_bytes_string w src dst e _ q c hs he hd, run_bytesToString w _ q c l hl, foldl_push_bytes]
    simp [strOfNums, ByteArray.empty, ByteArray.emptyWithCapacity]
    rfl

end Go.Proofs.YtlbkbcafkjgckaaDoor.mem

/-
  Values as trees: how a value that came in, or that a call has made, lies in memory.
  Conditions: those that each theorem names.
-/
namespace Go.Proofs.YtlbkbcafkjgckaaDoor.tree
open Go.ChangeShapes Go.WideShapes Go.RowKit Go.Deep
set_option linter.unusedVariables false

structure Ky where
  text : Bool
  num : Int
  str : ByteArray
inductive Tr where
  | mk (kind num : Int) (str : ByteArray) (next : Int) (keys : List Ky) (vals : List Tr)

theorem Tr.ind {p : Tr → Prop} (h : ∀ k n s x ks vs, (∀ t ∈ vs, p t) → p (.mk k n s x ks vs)) : ∀ t, p t
  | .mk k n s x ks vs => h k n s x ks vs fun t ht => Tr.ind h t
termination_by t => SizeOf.sizeOf t
decreasing_by
  have := List.sizeOf_lt_of_mem ht
  simp
  omega

def I64 (n : Int) : Prop := -9223372036854775808 ≤ n ∧ n ≤ 9223372036854775807
/-- A key's three cells. -/
def KyAt (w : World) (a : Addr) (i : Nat) (k : Ky) : Prop :=
  w.cell? (a.add (8 * i)) = some (.bool k.text) ∧ w.cell? (a.add (8 * i + 1)) = some (.int .i64 k.num) ∧ w.cell? (a.add (8 * i + 2)) = some (.string k.str) ∧ I64 k.num ∧ k.str.size ≤ maxLen

/-- The value v, a struct of five cells, is the tree. -/
inductive TIn (w : World) (S : Nat → Prop) : Tr → Value → Prop
  | mk (k n : Int) (s : ByteArray) (x : Int) (ks : List Ky) (vs : List Tr) (A : Option Addr) (cap : Nat) (C : Nat → Array Value)
      (hk : I64 k ∧ I64 n ∧ I64 x ∧ s.size ≤ maxLen) (hl : ks.length = vs.length) (hm : vs.length ≤ maxLen) (hcap : vs.length ≤ cap ∧ cap ≤ maxLen)
      (hc : ∀ (i : Nat) (hi : i < vs.length), ∃ a, A = some a ∧ S a.block ∧ KyAt w a i (ks[i]'(hl ▸ hi)) ∧ (C i).size = 5 ∧ ∀ j, j < 5 → w.cell? (a.add (8 * i + (3 + j))) = (C i)[j]?)
      (ht : ∀ (i : Nat) (hi : i < vs.length), TIn w S (vs[i]) (.agg (C i))) :
      TIn w S (.mk k n s x ks vs) (.agg #[.int .i64 k, .int .i64 n, .string s, .int .i64 x, .slice A vs.length cap])

theorem add_add' (a : Addr) (i j : Nat) : (a.add i).add j = a.add (i + j) := mem.add_add a i j

theorem cell_stays {w w' : World} {a : Addr} {u : Value} (hb : a.block < w.heap.size → w'.heap[a.block]? = w.heap[a.block]?) (hu : w.cell? a = some u) : w'.cell? a = some u := by
  have hbk := hb (World.block_lt_of_cell? _ _ hu)
  unfold World.cell? at hu ⊢
  rw [hbk]
  exact hu
theorem KyAt.stays {w w' : World} {a : Addr} {i : Nat} {k : Ky} (hb : a.block < w.heap.size → w'.heap[a.block]? = w.heap[a.block]?) (h : KyAt w a i k) : KyAt w' a i k := by
  obtain ⟨h0, h1, h2, h3, h4⟩ := h
  have e : ∀ j, (a.add j).block = a.block := mem.add_block a
  exact ⟨cell_stays (by rw [e]; exact hb) h0, cell_stays (by rw [e]; exact hb) h1, cell_stays (by rw [e]; exact hb) h2, h3, h4⟩
/-- What was there stays. -/
theorem TIn.stays {w w' : World} {S S' : Nat → Prop} (hS : ∀ b, S b → S' b) (hb : ∀ b, S b → b < w.heap.size → w'.heap[b]? = w.heap[b]?) {t : Tr} {v : Value} (h : TIn w S t v) : TIn w' S' t v := by
  induction h with
  | mk k n s x ks vs A cap C hk hl hm hcap hc ht ih =>
    refine .mk k n s x ks vs A cap C hk hl hm hcap (fun i hi => ?_) ih
    obtain ⟨a, ha, hSa, hky, hs, hj⟩ := hc i hi
    refine ⟨a, ha, hS _ hSa, hky.stays (hb _ hSa), hs, fun j hj5 => ?_⟩
    have := hj j hj5
    rw [Array.getElem?_eq_getElem (by omega)] at this ⊢
    exact cell_stays (by rw [mem.add_block]; exact hb _ hSa) this

/-- The items at A. -/
def IsIn (w : World) (S : Nat → Prop) (ks : List Ky) (vs : List Tr) (A : Option Addr) : Prop :=
  ∃ hl : ks.length = vs.length, vs.length ≤ maxLen ∧ ∃ C : Nat → Array Value,
    (∀ (i : Nat) (hi : i < vs.length), ∃ a, A = some a ∧ S a.block ∧ KyAt w a i (ks[i]'(hl ▸ hi)) ∧ (C i).size = 5 ∧ ∀ j, j < 5 → w.cell? (a.add (8 * i + (3 + j))) = (C i)[j]?) ∧
    ∀ (i : Nat) (hi : i < vs.length), TIn w S (vs[i]) (.agg (C i))
theorem TIn.of {w : World} {S : Nat → Prop} {k n x : Int} {s : ByteArray} {ks : List Ky} {vs : List Tr} {A : Option Addr} (cap : Nat) (hk : I64 k ∧ I64 n ∧ I64 x ∧ s.size ≤ maxLen) (h : IsIn w S ks vs A) (hcap : vs.length ≤ cap ∧ cap ≤ maxLen) :
    TIn w S (.mk k n s x ks vs) (.agg #[.int .i64 k, .int .i64 n, .string s, .int .i64 x, .slice A vs.length cap]) := by
  obtain ⟨hl, hm, C, hc, ht⟩ := h
  exact .mk k n s x ks vs A cap C hk hl hm hcap hc ht
theorem TIn.out {w : World} {S : Nat → Prop} {k n x : Int} {s : ByteArray} {ks : List Ky} {vs : List Tr} {v : Value} (h : TIn w S (.mk k n s x ks vs) v) :
    ∃ A cap, v = .agg #[.int .i64 k, .int .i64 n, .string s, .int .i64 x, .slice A vs.length cap] ∧ (I64 k ∧ I64 n ∧ I64 x ∧ s.size ≤ maxLen) ∧ IsIn w S ks vs A := by
  cases h with
  | mk _ _ _ _ _ _ A cap C hk hl hm hcap hc ht => exact ⟨A, cap, rfl, hk, hl, hm, C, hc, ht⟩
theorem TIn.cap {w : World} {S : Nat → Prop} {k n x k' n' x' : Int} {s s' : ByteArray} {ks : List Ky} {vs : List Tr} {A : Option Addr} {L c : Nat} (h : TIn w S (.mk k n s x ks vs) (.agg #[.int .i64 k', .int .i64 n', .string s', .int .i64 x', .slice A L c])) : L ≤ c ∧ c ≤ maxLen := by
  cases h with
  | mk _ _ _ _ _ _ A cap C hk hl hm hcap hc ht => exact hcap
theorem IsIn.stays {w w' : World} {S S' : Nat → Prop} (hS : ∀ b, S b → S' b) (hb : ∀ b, S b → b < w.heap.size → w'.heap[b]? = w.heap[b]?) {ks : List Ky} {vs : List Tr} {A : Option Addr} (h : IsIn w S ks vs A) : IsIn w' S' ks vs A := by
  obtain ⟨hl, hm, C, hc, ht⟩ := h
  refine ⟨hl, hm, C, fun i hi => ?_, fun i hi => (ht i hi).stays hS hb⟩
  obtain ⟨a, ha, hSa, hky, hs, hj⟩ := hc i hi
  refine ⟨a, ha, hS _ hSa, hky.stays (hb _ hSa), hs, fun j hj5 => ?_⟩
  have := hj j hj5
  rw [Array.getElem?_eq_getElem (by omega)] at this ⊢
  exact cell_stays (by rw [mem.add_block]; exact hb _ hSa) this
theorem IsIn.below {w w' : World} (hb : Below w.heap.size w w') {S : Nat → Prop} {ks : List Ky} {vs : List Tr} {A : Option Addr} (h : IsIn w S ks vs A) : IsIn w' S ks vs A := h.stays (fun _ h => h) (fun b _ hlt => hb.block b hlt)
theorem TIn.below' {w w' : World} (hb : Below w.heap.size w w') {S : Nat → Prop} {t : Tr} {v : Value} (h : TIn w S t v) : TIn w' S t v := h.stays (fun _ h => h) (fun b _ hlt => hb.block b hlt)

section
variable {H : Type} {enc : TypeId × Value → H} {P : Program} {w : World} {base : Nat} {spare : Nat → Bool} {held : Bool}

theorem wf_i64 {n : Int} (h : (Lit.int .i64 n).wf = true) : I64 n := by
  have e1 : IntKind.i64.min = -9223372036854775808 := rfl
  have e2 : IntKind.i64.max = 9223372036854775807 := rfl
  simp [Lit.wf, e1, e2] at h
  exact h

/-- The types of a value, of an item and of a key. -/
structure Types (P : Program) (tV tE tK tS : TypeId) : Prop where
  value : ∃ f0 f1 f2 f3 f4 : Field, P.underlying tV = some (.struct #[f0, f1, f2, f3, f4]) ∧ P.underlying f0.type = some (.int .i64) ∧ P.underlying f1.type = some (.int .i64) ∧ P.underlying f2.type = some .string ∧ P.underlying f3.type = some (.int .i64) ∧ f4.type = tS ∧ oneCellFields P #[f0, f1, f2, f3, f4] = true
  items : P.underlying tS = some (.slice tE)
  item : ∃ f0 f1 : Field, P.underlying tE = some (.struct #[f0, f1]) ∧ f0.type = tK ∧ f1.type = tV ∧ f0.offset = 0 ∧ f1.offset = 3
  key : ∃ f0 f1 f2 : Field, P.underlying tK = some (.struct #[f0, f1, f2]) ∧ P.underlying f0.type = some .bool ∧ P.underlying f1.type = some (.int .i64) ∧ P.underlying f2.type = some .string ∧ oneCellFields P #[f0, f1, f2] = true
  cV : P.cellsOf tV = 5
  cE : P.cellsOf tE = 8
  cK : P.cellsOf tK = 3

theorem one_of {cs : List Value} {f : Field} {j : Nat} (hc : P.cellsOf f.type = 1) (ho : f.offset = j) (hj : j < cs.length) : (cs.drop f.offset).take (P.cellsOf f.type) = [cs[j]] := by
  rw [hc, ho, List.drop_eq_getElem_cons hj]; rfl

theorem open_key {tV tE tK tS : TypeId} (T : Types P tV tE tK tS) {fuel : Nat} {cs : List Value} {x : DataW H × List MemPlace} (h : DataW.trod enc P w base spare held fuel tK cs = some x) :
    ∃ k : Ky, cs = [.bool k.text, .int .i64 k.num, .string k.str] ∧ I64 k.num ∧ k.str.size ≤ maxLen := by
  obtain ⟨f0, f1, f2, hu, h0, h1, h2, hone⟩ := T.key
  obtain ⟨xs, n, rfl, hx, hl, hxl, hall⟩ := DataW.trod_struct hu h
  rw [T.cK] at hl
  match cs, hl with
  | [c0, c1, c2], _ =>
    obtain ⟨o0, k0⟩ := hone_of hone 0 f0 rfl
    obtain ⟨o1, k1⟩ := hone_of hone 1 f1 rfl
    obtain ⟨o2, k2⟩ := hone_of hone 2 f2 rfl
    have e0 := hall 0 f0 rfl
    have e1 := hall 1 f1 rfl
    have e2 := hall 2 f2 rfl
    rw [one_of k0 o0 (by simp)] at e0
    rw [one_of k1 o1 (by simp)] at e1
    rw [one_of k2 o2 (by simp)] at e2
    have l0 : xs[0]? = some (xs[0]'(by simp at hxl; omega)) := List.getElem?_eq_getElem _
    have l1 : xs[1]? = some (xs[1]'(by simp at hxl; omega)) := List.getElem?_eq_getElem _
    have l2 : xs[2]? = some (xs[2]'(by simp at hxl; omega)) := List.getElem?_eq_getElem _
    obtain ⟨b, hb, _⟩ := DataW.trod_bool h0 (e0.trans l0)
    obtain ⟨m, hm, _, hw⟩ := DataW.trod_int h1 (e1.trans l1)
    obtain ⟨s, hs, _, hz⟩ := DataW.trod_string h2 (e2.trans l2)
    simp at hb hm hs
    exact ⟨⟨b, m, s⟩, by rw [hb, hm, hs], wf_i64 hw, hz⟩

theorem open_tree {tV tE tK tS : TypeId} (T : Types P tV tE tK tS) : ∀ (fuel : Nat) (cs : List Value) (x : DataW H × List MemPlace), DataW.trod enc P w base spare held fuel tV cs = some x → ∃ t, TIn w (fun _ => True) t (.agg cs.toArray) := by
  intro fuel
  induction fuel using Nat.strongRecOn with
  | _ fuel ih =>
    intro cs x h
    obtain ⟨f0, f1, f2, f3, f4, hu, h0, h1, h2, h3, h4, hone⟩ := T.value
    obtain ⟨xs, n, hn, hx, hl, hxl, hall⟩ := DataW.trod_struct hu h
    rw [T.cV] at hl
    match cs, hl with
    | [c0, c1, c2, c3, c4], _ =>
      obtain ⟨o0, k0⟩ := hone_of hone 0 f0 rfl
      obtain ⟨o1, k1⟩ := hone_of hone 1 f1 rfl
      obtain ⟨o2, k2⟩ := hone_of hone 2 f2 rfl
      obtain ⟨o3, k3⟩ := hone_of hone 3 f3 rfl
      obtain ⟨o4, k4⟩ := hone_of hone 4 f4 rfl
      have hxl5 : xs.length = 5 := hxl
      have e0 := hall 0 f0 rfl
      have e1 := hall 1 f1 rfl
      have e2 := hall 2 f2 rfl
      have e3 := hall 3 f3 rfl
      have e4 := hall 4 f4 rfl
      rw [one_of k0 o0 (by simp)] at e0
      rw [one_of k1 o1 (by simp)] at e1
      rw [one_of k2 o2 (by simp)] at e2
      rw [one_of k3 o3 (by simp)] at e3
      rw [one_of k4 o4 (by simp)] at e4
      obtain ⟨m0, hm0, _, hw0⟩ := DataW.trod_int h0 (e0.trans (List.getElem?_eq_getElem (by omega)))
      obtain ⟨m1, hm1, _, hw1⟩ := DataW.trod_int h1 (e1.trans (List.getElem?_eq_getElem (by omega)))
      obtain ⟨s, hs, _, hz⟩ := DataW.trod_string h2 (e2.trans (List.getElem?_eq_getElem (by omega)))
      obtain ⟨m3, hm3, _, hw3⟩ := DataW.trod_int h3 (e3.trans (List.getElem?_eq_getElem (by omega)))
      rw [h4] at e4
      simp at hm0 hm1 hs hm3
      subst hm0 hm1 hs hm3
      have hk : I64 m0 ∧ I64 m1 ∧ I64 m3 ∧ s.size ≤ maxLen := ⟨wf_i64 hw0, wf_i64 hw1, wf_i64 hw3, hz⟩
      rcases DataW.trod_slice T.items (e4.trans (List.getElem?_eq_getElem (by omega))) with ⟨hc4, _⟩ | ⟨a, len, cap, elems, rest, m, hfm, hc4, _, hbs, hlc, hcm, hel, hat, _⟩
      · simp at hc4
        subst hc4
        exact ⟨.mk m0 m1 s m3 [] [], .mk m0 m1 s m3 [] [] none 0 (fun _ => #[]) hk rfl (by simp) ⟨by simp, by simp⟩ (fun i hi => absurd hi (by simp)) (fun i hi => absurd hi (by simp))⟩
      · simp at hc4
        subst hc4
        -- each item
        have each : ∀ i, i < len → ∃ (k : Ky) (t : Tr) (C : Array Value), KyAt w a i k ∧ C.size = 5 ∧ (∀ j, j < 5 → w.cell? (a.add (8 * i + (3 + j))) = C[j]?) ∧ TIn w (fun _ => True) t (.agg C) := by
          intro i hi
          have hi2 := hat i hi
          rw [List.getElem?_eq_getElem (by omega)] at hi2
          obtain ⟨cs', hcs, htr⟩ := Option.bind_eq_some_iff.1 hi2
          rw [T.cE] at hcs
          obtain ⟨_, hcl, hcat⟩ := World.cells?_some hcs
          obtain ⟨g0, g1, hue, hg0, hg1, q0, q1⟩ := T.item
          obtain ⟨ys, n2, hn2, hy, hl2, hyl, hall2⟩ := DataW.trod_struct hue htr
          have hyl2 : ys.length = 2 := hyl
          match cs', hcl with
          | [d0, d1, d2, d3, d4, d5, d6, d7], _ =>
            have r0 := hall2 0 g0 rfl
            have r1 := hall2 1 g1 rfl
            rw [hg0, q0, T.cK] at r0
            rw [hg1, q1, T.cV] at r1
            obtain ⟨k, hk3, hkn, hks⟩ := open_key T (r0.trans (List.getElem?_eq_getElem (by omega)))
            obtain ⟨t, ht⟩ := ih n2 (by omega) _ _ (r1.trans (List.getElem?_eq_getElem (by omega)))
            simp at hk3
            obtain ⟨rfl, rfl, rfl⟩ := hk3
            have at' : ∀ j, j < 8 → w.cell? (a.add (8 * i + j)) = ([.bool k.text, .int .i64 k.num, .string k.str, d3, d4, d5, d6, d7] : List Value)[j]? := fun j hj => by
              have := hcat j hj
              rwa [add_add', Nat.mul_comm] at this
            refine ⟨k, t, #[d3, d4, d5, d6, d7], ⟨at' 0 (by omega), at' 1 (by omega), at' 2 (by omega), hkn, hks⟩, rfl, fun j hj => ?_, ht⟩
            rw [at' (3 + j) (by omega)]
            match j, hj with
            | 0, _ => rfl
            | 1, _ => rfl
            | 2, _ => rfl
            | 3, _ => rfl
            | 4, _ => rfl
        have pick : ∃ (K : Nat → Ky) (V : Nat → Tr) (C : Nat → Array Value), ∀ i, i < len → KyAt w a i (K i) ∧ (C i).size = 5 ∧ (∀ j, j < 5 → w.cell? (a.add (8 * i + (3 + j))) = (C i)[j]?) ∧ TIn w (fun _ => True) (V i) (.agg (C i)) := by
          refine ⟨fun i => if hi : i < len then (each i hi).choose else ⟨false, 0, ⟨#[]⟩⟩, fun i => if hi : i < len then (each i hi).choose_spec.choose else .mk 0 0 ⟨#[]⟩ 0 [] [], fun i => if hi : i < len then (each i hi).choose_spec.choose_spec.choose else #[], fun i hi => ?_⟩
          simp only [dif_pos hi]
          exact (each i hi).choose_spec.choose_spec.choose_spec
        obtain ⟨K, V, C, hp⟩ := pick
        have hVl : ((List.range len).map V).length = len := by simp
        refine ⟨.mk m0 m1 s m3 ((List.range len).map K) ((List.range len).map V), ?_⟩
        have main := TIn.mk (w := w) (S := fun _ => True) m0 m1 s m3 ((List.range len).map K) ((List.range len).map V) (some a) cap C hk (by simp) (by rw [hVl]; omega) (by rw [hVl]; exact ⟨hlc, hcm⟩) (fun i hi => ⟨a, rfl, trivial, by
            have hi' : i < len := by simpa using hi
            simp only [List.getElem_map, List.getElem_range]
            exact (hp i hi').1, (hp i (by simpa using hi)).2.1, (hp i (by simpa using hi)).2.2.1⟩) (fun i hi => by
            have hi' : i < len := by simpa using hi
            simp only [List.getElem_map, List.getElem_range]
            exact (hp i hi').2.2.2)
        rw [hVl] at main
        exact main
end

end Go.Proofs.YtlbkbcafkjgckaaDoor.tree

/-
  The copies that the laws make of a value: a key, an item, a list of items, a value.
  Conditions: those that each theorem names.
-/
namespace Go.Proofs.YtlbkbcafkjgckaaDoor.tree
open Go.ChangeShapes Go.WideShapes Go.ChangeAt Go.RowKit
set_option linter.unusedVariables false

abbrev LK : TypeId := 143
abbrev IK : TypeId := 28
abbrev LE : TypeId := 145
abbrev IE : TypeId := 40
abbrev LV : TypeId := 66
abbrev IV : TypeId := 26

/-- Three new blocks in a row. -/
theorem al3 (w : World) (c0 c1 c2 : Array Value) (t0 t1 t2 : TypeId) :
    (((w.alloc (.cells c0 t0)).alloc (.cells c1 t1)).alloc (.cells c2 t2)).heap[w.heap.size]? = some (.cells c0 t0 (0, 0)) ∧
    (((w.alloc (.cells c0 t0)).alloc (.cells c1 t1)).alloc (.cells c2 t2)).heap[w.heap.size + 1]? = some (.cells c1 t1 (0, 0)) ∧
    (((w.alloc (.cells c0 t0)).alloc (.cells c1 t1)).alloc (.cells c2 t2)).heap[w.heap.size + 1 + 1]? = some (.cells c2 t2 (0, 0)) ∧
    (((w.alloc (.cells c0 t0)).alloc (.cells c1 t1)).alloc (.cells c2 t2)).heap.size = w.heap.size + 1 + 1 + 1 ∧
    Below w.heap.size w (((w.alloc (.cells c0 t0)).alloc (.cells c1 t1)).alloc (.cells c2 t2)) := by
  have e1 : (w.alloc (.cells c0 t0)).heap.size = w.heap.size + 1 := by simp
  have e2 : ((w.alloc (.cells c0 t0)).alloc (.cells c1 t1)).heap.size = w.heap.size + 1 + 1 := by simp
  refine ⟨?_, ?_, ?_, by simp, (((Below.refl w.heap.size w).alloc (Nat.le_refl _) _).alloc (by omega) _).alloc (by omega) _⟩
  · rw [Lib.alloc_old _ _ _ (by omega), Lib.alloc_old _ _ _ (by omega)]
    exact heap_alloc_new w _
  · rw [Lib.alloc_old _ _ _ (by omega)]
    have h := heap_alloc_new (w.alloc (.cells c0 t0)) (.cells c1 t1)
    rwa [e1] at h
  · have h := heap_alloc_new ((w.alloc (.cells c0 t0)).alloc (.cells c1 t1)) (.cells c2 t2)
    rwa [e2] at h
theorem set_heap {W : World} {g : Nat} {cs : Array Value} {t : TypeId} (h : W.heap[g]? = some (.cells cs t (0, 0))) (j : Nat) (v : Value) :
    (W.setCell ⟨g, j, none⟩ v).heap[g]? = some (.cells (cs.setIfInBounds j v) t (0, 0)) := by
  simp [World.setCell, Array.getElem?_modify, h]
theorem set_other {W : World} {g k j : Nat} {v : Value} (h : k ≠ g) : (W.setCell ⟨g, j, none⟩ v).heap[k]? = W.heap[k]? := Below.heap_setCell _ _ _ _ (fun e => h (by simpa using e))
theorem set_size {W : World} {a : Addr} {v : Value} : (W.setCell a v).heap.size = W.heap.size := by simp [World.setCell]

def kyV (k : Ky) : Value := .agg #[.bool k.text, .int .i64 k.num, .string k.str]

theorem toKey (k : Ky) (w : World) : Calls Tryd.prog 149 #[kyV k] w fun e w' => e = .returned (kyV k) ∧ Below w.heap.size w w' := by
  obtain ⟨b, n, s⟩ := k
  unfold kyV
  go_enter Tryd.func149, Tryd.ntmps149
  go_wp2
  refine bodyPost_ret (v := .agg #[.bool b, .int .i64 n, .string s]) (by simp [results, Tryd.results149, go_sem]) rfl ⟨rfl, (al3 w _ _ _ _ _ _).2.2.2.2⟩

/-- A copy in new memory. -/
def ToQ (w : World) (t : Tr) (e : Ending) (w' : World) : Prop := ∃ v, e = .returned v ∧ TIn w' (fun b => w.heap.size ≤ b) t v ∧ Below w.heap.size w w'
def Copies (t : Tr) : Prop := ∀ (w : World) (S : Nat → Prop) (v : Value), TIn w S t v → Calls Tryd.prog 44 #[v] w (ToQ w t)

/-- The eight cells of an item. -/
def enV (k : Ky) (v : Value) : Value := .agg (#[.bool k.text, .int .i64 k.num, .string k.str] ++ v.cells)
def EnQ (w : World) (k : Ky) (t : Tr) (e : Ending) (w' : World) : Prop := ∃ v, e = .returned (enV k v) ∧ TIn w' (fun b => w.heap.size ≤ b) t v ∧ Below w.heap.size w w'

end Go.Proofs.YtlbkbcafkjgckaaDoor.tree

/-
  The digits at the beginning of a text and the number that they give, held to a limit; without the program.
  Conditions: those that each theorem names.
-/
namespace Go.Proofs.YtlbkbcafkjgckaaDoor.lead
set_option linter.unusedVariables false

def dg (b : UInt8) : Bool := decide (48 ≤ b.toNat) && decide (b.toNat ≤ 57)
theorem dg_iff {b : UInt8} : dg b = true ↔ 48 ≤ b.toNat ∧ b.toNat ≤ 57 := by unfold dg; simp
theorem dg_no {b : UInt8} : dg b = false ↔ ¬ (48 ≤ b.toNat ∧ b.toNat ≤ 57) := by rw [← dg_iff]; simp
/-- The digits at the beginning. -/
def ld : List UInt8 → List UInt8
  | [] => []
  | b :: r => if dg b then b :: ld r else []
def stp (a : Nat) (b : UInt8) : Nat := min (10 * a + (b.toNat - 48)) 1000000001
theorem stp_eq (a : Nat) (b : UInt8) : stp a b = min (10 * a + (b.toNat - 48)) 1000000001 := by unfold stp; rfl
/-- The number of digits behind the number a, held to 1000000001. -/
def mg (a : Nat) (l : List UInt8) : Nat := l.foldl stp a
theorem mg_nil (a : Nat) : mg a [] = a := by unfold mg; rw [List.foldl_nil]
theorem mg_cons (a : Nat) (b : UInt8) (l : List UInt8) : mg a (b :: l) = mg (min (10 * a + (b.toNat - 48)) 1000000001) l := by unfold mg; rw [List.foldl_cons, stp_eq]
theorem ld_nil : ld [] = [] := rfl
theorem ld_yes {b : UInt8} {r : List UInt8} (h : dg b = true) : ld (b :: r) = b :: ld r := by rw [ld, if_pos h]
theorem ld_no {b : UInt8} {r : List UInt8} (h : dg b = false) : ld (b :: r) = [] := by rw [ld, if_neg (by simp [h])]
theorem mg_le : ∀ (l : List UInt8) (a : Nat), a ≤ 1000000001 → mg a l ≤ 1000000001
  | [], a, h => by rw [mg_nil]; exact h
  | b :: l, a, h => by rw [mg_cons]; exact mg_le l _ (Nat.min_le_right _ _)
theorem ld_len : ∀ l : List UInt8, (ld l).length ≤ l.length
  | [] => by simp [ld]
  | b :: r => by
    rw [ld]
    split
    · simp only [List.length_cons]; have := ld_len r; omega
    · simp
theorem ld_take : ∀ l : List UInt8, l.take (ld l).length = ld l
  | [] => by simp [ld]
  | b :: r => by
    rw [ld]
    split
    · rw [List.length_cons, List.take_succ_cons, ld_take r]
    · simp
theorem ld_dig : ∀ (l : List UInt8) (b : UInt8), b ∈ ld l → dg b = true
  | [], b, h => by simp [ld] at h
  | c :: r, b, h => by
    rw [ld] at h
    split at h
    · rename_i hc
      rcases List.mem_cons.1 h with rfl | h
      · exact hc
      · exact ld_dig r b h
    · simp at h
theorem ld_all : ∀ l : List UInt8, (∀ b ∈ l, dg b = true) → ld l = l
  | [], _ => rfl
  | b :: r, h => by rw [ld_yes (h b List.mem_cons_self), ld_all r fun c hc => h c (List.mem_cons_of_mem _ hc)]
theorem ld_ld (l : List UInt8) : ld (ld l) = ld l := ld_all _ (ld_dig l)
theorem ld_full {l : List UInt8} (h : (ld l).length = l.length) : ld l = l := by rw [← ld_take l, h, List.take_length]

theorem size_eq (s : ByteArray) : s.data.toList.length = s.size := Array.length_toList
theorem drop_at {s : ByteArray} {k : Nat} (h : k < s.size) : s.data.toList.drop k = s[k] :: s.data.toList.drop (k + 1) := by
  rw [List.drop_eq_getElem_cons (by rw [size_eq]; exact h)]
  rfl
theorem drop_end {s : ByteArray} {k : Nat} (h : s.size ≤ k) : s.data.toList.drop k = [] := List.drop_eq_nil_of_le (by rw [size_eq]; exact h)

/-- At place k, with the number n so far: what stands behind gives R and ends at K. -/
def At (s : ByteArray) (k n R K : Nat) : Prop := mg n (ld (s.data.toList.drop k)) = R ∧ k + (ld (s.data.toList.drop k)).length = K ∧ n ≤ 1000000001
theorem At.start (s : ByteArray) (k : Nat) : At s k 0 (mg 0 (ld (s.data.toList.drop k))) (k + (ld (s.data.toList.drop k)).length) := ⟨rfl, rfl, by omega⟩
theorem At.step {s : ByteArray} {k n R K : Nat} (h : At s k n R K) (hk : k < s.size) (hd : dg s[k] = true) : At s (k + 1) (min (10 * n + (s[k].toNat - 48)) 1000000001) R K := by
  obtain ⟨h1, h2, h3⟩ := h
  rw [drop_at hk, ld_yes hd] at h1 h2
  rw [mg_cons] at h1
  rw [List.length_cons] at h2
  exact ⟨h1, by omega, Nat.min_le_right _ _⟩
theorem At.stop {s : ByteArray} {k n R K : Nat} (h : At s k n R K) (hk : k < s.size) (hd : dg s[k] = false) : n = R ∧ k = K := by
  obtain ⟨h1, h2, h3⟩ := h
  rw [drop_at hk, ld_no hd] at h1 h2
  rw [mg_nil] at h1
  exact ⟨h1, by simpa using h2⟩
theorem At.fin {s : ByteArray} {k n R K : Nat} (h : At s k n R K) (hk : s.size ≤ k) : n = R ∧ k = K := by
  obtain ⟨h1, h2, h3⟩ := h
  rw [drop_end hk] at h1 h2
  rw [ld_nil] at h1 h2
  rw [mg_nil] at h1
  exact ⟨h1, by simpa using h2⟩

/-- Whether the text begins with the sign. -/
def neg (s : ByteArray) : Bool := s.data.toList.head? == some 45
def off (s : ByteArray) : Nat := if neg s then 1 else 0
def digs (s : ByteArray) : List UInt8 := ld (s.data.toList.drop (off s))
def mag (s : ByteArray) : Nat := mg 0 (digs s)
/-- LeadingInt. -/
def li (s : ByteArray) : Int := if neg s then -((min (mag s) 1000000000 : Nat) : Int) else ((min (mag s) 1000000000 : Nat) : Int)
/-- IsNumeric. -/
def isn (s : ByteArray) : Bool := decide (1 ≤ s.size - off s) && decide (s.size - off s ≤ 10) && decide ((digs s).length = s.size - off s) && decide (mag s ≤ 1000000000)
theorem mag_le (s : ByteArray) : mag s ≤ 1000000001 := mg_le _ _ (by omega)
theorem neg_lt {s : ByteArray} (h : neg s = true) : 0 < s.size := by
  rcases Nat.eq_zero_or_pos s.size with hz | hz
  · have : s.data.toList = [] := List.eq_nil_of_length_eq_zero (by rw [size_eq]; omega)
    unfold neg at h
    rw [this] at h
    simp at h
  · exact hz
theorem neg_at {s : ByteArray} (h : 0 < s.size) : neg s = (s[0] == 45) := by
  unfold neg
  have : s.data.toList.head? = some s[0] := by
    rw [List.head?_eq_getElem?, List.getElem?_eq_getElem (by rw [size_eq]; exact h)]
    rfl
  rw [this]
  rfl
theorem off_le (s : ByteArray) : off s ≤ s.size := by
  unfold off
  split
  · rename_i h; exact neg_lt h
  · omega
/-- What the model's scan gives: the number and how many bytes it takes. -/
def scn (s : ByteArray) : Int × Nat := if (digs s).length = 0 then (0, 0) else if neg s then (-(mag s : Int), 1 + (digs s).length) else ((mag s : Int), (digs s).length)
theorem li_scn (s : ByteArray) : li s = max (-1000000000) (min 1000000000 (scn s).1) := by
  unfold li scn
  by_cases h0 : (digs s).length = 0
  · have hm : mag s = 0 := by unfold mag; rw [List.eq_nil_of_length_eq_zero h0, mg_nil]
    rw [if_pos h0, hm]
    split <;> simp <;> omega
  · rw [if_neg h0]
    split <;> omega
theorem scn_le (s : ByteArray) : -1000000001 ≤ (scn s).1 ∧ (scn s).1 ≤ 1000000001 := by
  have := mag_le s
  unfold scn
  split
  · simp
  · split <;> simp <;> omega
theorem scn_take (s : ByteArray) : (scn s).2 ≤ s.size := by
  have h1 : (digs s).length ≤ s.size - off s := by
    unfold digs
    have := ld_len (s.data.toList.drop (off s))
    rw [List.length_drop, size_eq] at this
    exact this
  have h2 := off_le s
  unfold scn
  split
  · simp
  · unfold off at h1 h2
    split <;> rename_i hn <;> simp only [hn] at h1 h2 <;> simp at h1 h2 ⊢ <;> omega
theorem isn_scn (s : ByteArray) : isn s = (decide ((0 : Int) < (scn s).2) && decide ((scn s).2 = s.size) && (decide ((-1000000000 : Int) ≤ (scn s).1) && decide ((scn s).1 ≤ (1000000000 : Int))) && (decide ((scn s).2 ≤ 10) || decide ((scn s).2 = 11) && neg s)) := by
  have h1 : (digs s).length ≤ s.size - off s := by
    unfold digs
    have := ld_len (s.data.toList.drop (off s))
    rw [List.length_drop, size_eq] at this
    exact this
  have h2 := off_le s
  have hm := mag_le s
  unfold isn scn
  rw [Bool.eq_iff_iff]
  simp only [Bool.and_eq_true, Bool.or_eq_true, decide_eq_true_eq]
  unfold off at h1 h2 ⊢
  by_cases h0 : (digs s).length = 0
  · rw [if_pos h0]
    constructor
    · rintro ⟨⟨⟨a, b⟩, c⟩, d⟩; omega
    · rintro ⟨⟨⟨a, b⟩, c⟩, d⟩; simp at a
  · rw [if_neg h0]
    by_cases hn : neg s = true
    · simp only [hn, if_true] at h1 h2 ⊢
      constructor
      · rintro ⟨⟨⟨a, b⟩, c⟩, d⟩; simp; omega
      · rintro ⟨⟨⟨a, b⟩, c⟩, d⟩; simp at a c d; omega
    · simp only [hn] at h1 h2 ⊢
      simp at h1 h2
      constructor
      · rintro ⟨⟨⟨a, b⟩, c⟩, d⟩; simp at a b c ⊢; omega
      · rintro ⟨⟨⟨a, b⟩, c⟩, d⟩; simp at a b c d ⊢; omega

end Go.Proofs.YtlbkbcafkjgckaaDoor.lead

/-
  What Min, Max and InRange of the project, and the model's own range test, return at every integer; they change nothing.
  Conditions: none but that arguments are of Go's type int.
-/
namespace Go.Proofs.YtlbkbcafkjgckaaDoor.nums
open Go.ChangeShapes Go.WideShapes Go.ChangeAt Go.RowKit
set_option linter.unusedVariables false

def mn (a b : Int) : Int := if b < a then b else a
def mx (a b : Int) : Int := if a < b then b else a
def inr (n l h : Int) : Bool := decide (l ≤ n) && decide (n ≤ h)

theorem ret_int {k : IntKind} {a b : Int} (h : a = b) : Ending.returned (.int k a) = .returned (.int k b) := by rw [h]

theorem implMin (a b : Int) (w : World) : Calls Tryd.prog 78 #[.int .i64 a, .int .i64 b] w fun e w' => e = .returned (.int .i64 (mn a b)) ∧ w = w' := by
  by_cases h : b < a
  all_goals
    go_enter Tryd.func78, Tryd.ntmps78
    go_wp2
    go_ret
    exact ⟨ret_int (by unfold mn; split <;> omega), rfl⟩

theorem implMax (a b : Int) (w : World) : Calls Tryd.prog 65 #[.int .i64 a, .int .i64 b] w fun e w' => e = .returned (.int .i64 (mx a b)) ∧ w = w' := by
  by_cases h : a < b
  all_goals
    go_enter Tryd.func65, Tryd.ntmps65
    go_wp2
    go_ret
    exact ⟨ret_int (by unfold mx; split <;> omega), rfl⟩

theorem l1In (n l h : Int) (w : World) : Calls Tryd.prog 61 #[.int .i64 n, .int .i64 l, .int .i64 h] w fun e w' => e = .returned (.bool (inr n l h)) ∧ w = w' := by
  by_cases h1 : l ≤ n
  all_goals
    by_cases h2 : n ≤ h
    all_goals
      go_enter Tryd.func61, Tryd.ntmps61
      go_wp2
      go_ret
      exact ⟨by simp [inr, h1, h2], rfl⟩

theorem implInRange (n l h : Int) (w : World) : Calls Tryd.prog 86 #[.int .i64 n, .int .i64 l, .int .i64 h] w fun e w' => e = .returned (.bool (inr n l h)) ∧ w = w' := by
  by_cases h1 : l ≤ n
  all_goals
    by_cases h2 : n ≤ h
    all_goals
      go_enter Tryd.func86, Tryd.ntmps86
      go_wp2
      go_ret
      exact ⟨by simp [inr, h1, h2], rfl⟩

end Go.Proofs.YtlbkbcafkjgckaaDoor.nums

/-
  The project's reading of the digits at the beginning of a text: leadingDigits, magnitude, LeadingInt and IsNumeric.
  Conditions: the text has at most 2^40 bytes.
-/
namespace Go.Proofs.YtlbkbcafkjgckaaDoor.lead
open Go.ChangeShapes Go.WideShapes Go.ChangeAt Go.RowKit
set_option linter.unusedVariables false

def tx (l : List UInt8) : ByteArray := ⟨l.toArray⟩
theorem tx_list (l : List UInt8) : (tx l).data.toList = l := by simp [tx]
theorem tx_size (l : List UInt8) : (tx l).size = l.length := by simp [tx, ByteArray.size]
theorem tx_of (s : ByteArray) : tx s.data.toList = s := by cases s; simp [tx]
theorem ext_tx (s : ByteArray) (k : Nat) : s.extract 0 k = tx (s.data.toList.take k) := by
  have : ∀ a b : ByteArray, a.data.toList = b.data.toList → a = b := fun a b h => by cases a; cases b; simp at h; congr
  apply this
  rw [tx_list]
  simp [ByteArray.data_extract]
theorem at_mem {s : ByteArray} {k : Nat} (hk : k < s.size) : s[k] ∈ s.data.toList := by
  have h : s.data.toList[k]'(by rw [size_eq]; exact hk) ∈ s.data.toList := List.getElem_mem _
  exact h

theorem bss {w w1 w2 : World} (h : Below w.heap.size w w1) (h2 : Below w1.heap.size w1 w2) : Below w.heap.size w w2 := h.trans (h2.mono h.size)

theorem isDigit (b : UInt8) (w : World) : Calls Tryd.prog 122 #[.int .u8 b.toNat] w fun e w' => e = .returned (.bool (dg b)) ∧ w = w' := by
  have hb0 : (0 : Int) ≤ (b.toNat : Int) := by omega
  have hb9 : (b.toNat : Int) ≤ 255 := by have := b.toNat_lt; omega
  by_cases h1 : 48 ≤ b.toNat
  · have i1 : (48 : Int) ≤ (b.toNat : Int) := by omega
    by_cases h2 : b.toNat ≤ 57
    · have i2 : (b.toNat : Int) ≤ 57 := by omega
      have HD : Hid (dg b = true) := Lib.hid (dg_iff.2 ⟨h1, h2⟩)
      clear h1 h2
      go_enter Tryd.func122, Tryd.ntmps122
      go_wp2
      go_ret
      exact ⟨by rw [HD.out]; rfl, rfl⟩
    · have i2 : ¬ (b.toNat : Int) ≤ 57 := by omega
      have HD : Hid (dg b = false) := Lib.hid (dg_no.2 fun h => h2 h.2)
      clear h1 h2
      go_enter Tryd.func122, Tryd.ntmps122
      go_wp2
      go_ret
      exact ⟨by rw [HD.out]; rfl, rfl⟩
  · have i1 : ¬ (48 : Int) ≤ (b.toNat : Int) := by omega
    have HD : Hid (dg b = false) := Lib.hid (dg_no.2 fun h => h1 h.1)
    clear h1
    go_enter Tryd.func122, Tryd.ntmps122
    go_wp2
    go_ret
    exact ⟨by rw [HD.out]; rfl, rfl⟩

/-- leadingDigits. -/
theorem leadingDigits (s : ByteArray) (hs : s.size ≤ 1099511627776) (w : World) : Calls Tryd.prog 80 #[.string s] w fun e w' => e = .returned (.string (tx (ld s.data.toList))) ∧ Below w.heap.size w w' := by
  have ST := At.start s 0
  obtain ⟨R, HR⟩ : ∃ R, Hid (mg 0 (ld (s.data.toList.drop 0)) = R) := ⟨_, Lib.hid rfl⟩
  obtain ⟨K, HK⟩ : ∃ K, Hid ((ld s.data.toList).length = K) := ⟨_, Lib.hid rfl⟩
  have HT : Hid (tx (ld s.data.toList) = s.extract 0 K) := Lib.hid (by rw [ext_tx, ← HK.out, ld_take])
  have hKs : K ≤ s.size := by rw [← HK.out, ← size_eq]; exact ld_len _
  have HF : Hid (K = s.size → s.extract 0 K = s) := Lib.hid fun h => by rw [h, ext_tx, ← size_eq, List.take_length, tx_of]
  rw [HR.out] at ST
  have hk0 : 0 + (ld (s.data.toList.drop 0)).length = K := by rw [← HK.out]; simp
  rw [hk0] at ST
  rw [HT.out]
  clear hk0 HT HR HK
  go_enter Tryd.func80, Tryd.ntmps80
  go_wp2
  go_loop [6] (fun i => ∃ (k n : Nat), k ≤ s.size ∧ i = .int .i64 k ∧ At s k n R K) (fun i => s.size - (RowKit.intOf i).toNat)
  case atStart => exact ⟨0, 0, by omega, rfl, ST⟩
  case round =>
    clear ST
    obtain ⟨k, n, hk, rfl, hA⟩ := hrel
    by_cases hlt : k < s.size
    · have hb0 : (0 : Int) ≤ (s[k].toNat : Int) := by omega
      have hb9 : (s[k].toNat : Int) ≤ 255 := by have := s[k].toNat_lt; omega
      by_cases hd : dg s[k] = true
      · have HA := Lib.hid (hA.step hlt hd)
        have HD := Lib.hid hd
        clear hA hd
        go_wp2_with (go_at_call 122; refine (isDigit _ _).mono ?_; rintro e w1 ⟨rfl, rfl⟩; rw [HD.out])
        exact ⟨⟨k + 1, _, by omega, by go_num, HA.out⟩, by simp only [RowKit.intOf]; omega⟩
      · have hd' : dg s[k] = false := by simpa using hd
        obtain ⟨-, rfl⟩ := hA.stop hlt hd'
        have HD := Lib.hid hd'
        clear hA hd hd'
        go_wp2_with (go_at_call 122; refine (isDigit _ _).mono ?_; rintro e w1 ⟨rfl, rfl⟩; rw [HD.out])
        go_ret
        exact ⟨rfl, Below.refl _ _⟩
    · obtain rfl : k = s.size := by omega
      obtain ⟨-, rfl⟩ := hA.fin (Nat.le_refl _)
      have HE := Lib.hid (HF.out rfl)
      clear hA
      go_wp2
      go_ret
      exact ⟨by first | rfl | (rw [HE.out]; rfl), Below.refl _ _⟩

/-- magnitude, of digits. -/
theorem magnitude (s : ByteArray) (hs : s.size ≤ 1099511627776) (hdig : ∀ b ∈ s.data.toList, dg b = true) (w : World) : Calls Tryd.prog 79 #[.string s] w fun e w' => e = .returned (.int .i64 (mg 0 s.data.toList)) ∧ Below w.heap.size w w' := by
  have ST := At.start s 0
  obtain ⟨K, HK⟩ : ∃ K, Hid (0 + (ld (s.data.toList.drop 0)).length = K) := ⟨_, Lib.hid rfl⟩
  obtain ⟨R, HR⟩ : ∃ R, Hid (mg 0 s.data.toList = R) := ⟨_, Lib.hid rfl⟩
  have hr : mg 0 (ld (s.data.toList.drop 0)) = R := by rw [List.drop_zero, ld_all _ hdig, HR.out]
  rw [hr, HK.out] at ST
  have hR : R ≤ 1000000001 := by rw [← HR.out]; exact mg_le _ _ (by omega)
  rw [HR.out]
  have HG := Lib.hid hdig
  clear hr HK HR hdig
  go_enter Tryd.func79, Tryd.ntmps79
  go_wp2
  go_loop [3, 7] (fun m i => ∃ (k n : Nat) (x : Int), k ≤ s.size ∧ i = .int .i64 k ∧ At s k n R K ∧ 0 ≤ x ∧ x ≤ 1000000001 ∧ Hid (x = (n : Int)) ∧ m = .int .i64 x) (fun _ i => s.size - (RowKit.intOf i).toNat)
  case atStart => exact ⟨0, 0, 0, by omega, rfl, ST, by omega, by omega, rfl, rfl⟩
  case round =>
    clear ST
    obtain ⟨k, n, x, hk, rfl, hA, x0, x1, HX, rfl⟩ := hrel
    by_cases hlt : k < s.size
    · have hb0 : (0 : Int) ≤ (s[k].toNat : Int) := by omega
      have hb9 : (s[k].toNat : Int) ≤ 255 := by have := s[k].toNat_lt; omega
      have hd := HG.out _ (at_mem hlt)
      have HA := Lib.hid (hA.step hlt hd)
      have hd' := dg_iff.1 hd
      obtain ⟨d1, d2⟩ := hd'
      have D1 : (48 : Int) ≤ (s[k].toNat : Int) := by omega
      have D2 : (s[k].toNat : Int) ≤ 57 := by omega
      clear hA hd
      go_wp2_with (go_at_call 78; refine (nums.implMin _ _ _).mono ?_; rintro e w1 ⟨rfl, rfl⟩)
      refine ⟨⟨k + 1, _, _, by omega, by go_num, HA.out, ?_, ?_, ?_, rfl⟩, by simp only [RowKit.intOf]; omega⟩
      · unfold nums.mn; split <;> omega
      · unfold nums.mn; split <;> omega
      · have := HX.out
        show _ = _
        unfold nums.mn
        split <;> omega
    · obtain ⟨rfl, -⟩ := hA.fin (by omega)
      have hx := HX.out
      subst hx
      clear hA HX
      go_wp2
      go_ret
      exact ⟨rfl, Below.refl _ _⟩

theorem cut_eq (s : ByteArray) : (Lib.hasPrefix s.data.toList [45] = neg s) ∧ (Lib.trimPrefix s.data.toList [45] = s.data.toList.drop (off s)) := by
  unfold off neg
  cases s.data.toList with
  | nil => exact ⟨rfl, rfl⟩
  | cons b r =>
    by_cases h : b = 45
    · subst h; exact ⟨rfl, rfl⟩
    · have h' : (b == 45) = false := by simpa using h
      have h2 : ((45 : UInt8) == b) = false := by simpa using fun e => h e.symm
      constructor
      · simp [Lib.hasPrefix, List.isPrefixOf, h2]
        exact fun e => h e
      · simp [Lib.trimPrefix, Lib.hasPrefix, List.isPrefixOf, h2, h']

/-- What stands behind the sign. -/
def beh (s : ByteArray) : ByteArray := tx (s.data.toList.drop (off s))
theorem beh_list (s : ByteArray) : (beh s).data.toList = s.data.toList.drop (off s) := tx_list _
theorem beh_size (s : ByteArray) : (beh s).size = s.size - off s := by unfold beh; rw [tx_size, List.length_drop, size_eq]

theorem leadingInt_i (s : ByteArray) (hs : s.size ≤ 1099511627776) (w : World) : Calls Tryd.prog 31 #[.string s] w fun e w' => e = .returned (.int .i64 (li s)) ∧ Below w.heap.size w w' := by
  have HC : Hid ((⟨(Lib.trimPrefix s.data.toList [45]).toArray⟩ : ByteArray) = beh s ∧ Lib.hasPrefix s.data.toList [45] = neg s) := Lib.hid ⟨by rw [(cut_eq s).2]; rfl, (cut_eq s).1⟩
  have hbs : (beh s).size ≤ 1099511627776 := by rw [beh_size]; omega
  have LD := leadingDigits (beh s) hbs
  rw [beh_list] at LD
  have hds : (tx (digs s)).size ≤ 1099511627776 := by
    rw [tx_size]
    unfold digs
    have := ld_len (s.data.toList.drop (off s))
    rw [List.length_drop, size_eq] at this
    omega
  have MG := magnitude (tx (digs s)) hds (by rw [tx_list]; exact ld_dig _)
  rw [tx_list] at MG
  have hm := mag_le s
  obtain ⟨m, HM⟩ : ∃ m, Hid (mag s = m) := ⟨_, Lib.hid rfl⟩
  have MG' : ∀ w, Calls Tryd.prog 79 #[.string (tx (digs s))] w fun e w' => e = .returned (.int .i64 (m : Int)) ∧ Below w.heap.size w w' := fun w => by rw [← HM.out]; exact MG w
  have LD' : ∀ w, Calls Tryd.prog 80 #[.string (beh s)] w fun e w' => e = .returned (.string (tx (digs s))) ∧ Below w.heap.size w w' := LD
  have HR : Hid (li s = if neg s then -((min m 1000000000 : Nat) : Int) else ((min m 1000000000 : Nat) : Int)) := Lib.hid (by unfold li; rw [HM.out])
  rw [HM.out] at hm
  obtain ⟨B, HB⟩ : ∃ B, Hid (beh s = B) := ⟨_, Lib.hid rfl⟩
  obtain ⟨D, HD⟩ : ∃ D, Hid (tx (digs s) = D) := ⟨_, Lib.hid rfl⟩
  obtain ⟨g, HG⟩ : ∃ g, Hid (neg s = g) := ⟨_, Lib.hid rfl⟩
  rw [HB.out] at HC hbs LD'
  rw [HD.out] at MG' LD'
  rw [HG.out] at HC HR
  have HMG := Lib.hid MG'
  have HLD := Lib.hid LD'
  clear LD MG LD' MG' hds HM
  have x0 : (0 : Int) ≤ (m : Int) := by omega
  have x1 : (m : Int) ≤ 1000000001 := by omega
  rw [HR.out]
  cases g
  all_goals
    go_enter Tryd.func31, Tryd.ntmps31
    go_wp2_with (fail)
    refine (Tryd.strings_CutPrefix s ⟨#[45]⟩ _).mono ?_
    rintro e w1 ⟨he, rfl⟩
    have he2 : ∀ x, Lib.hasPrefix s.data.toList [45] = x → e = .returned (.tuple #[.string B, .bool x]) := fun x hx => he.trans (by rw [← HC.out.1, ← hx])
    replace he := he2 _ HC.out.2
    clear he2
    subst he
    go_wp2_with (fail)
    refine (HLD.out _).mono ?_
    rintro e w2 ⟨rfl, hb2⟩
    have HB2 := Lib.hid hb2
    clear hb2
    go_wp2_with (fail)
    refine (HMG.out _).mono ?_
    rintro e w3 ⟨rfl, hb3⟩
    have HB3 := Lib.hid (bss HB2.out hb3)
    clear hb3
    go_wp2_with (fail)
    refine (nums.implMin _ _ _).mono ?_
    rintro e w4 ⟨rfl, rfl⟩
    have hmn : nums.mn (m : Int) 1000000000 = ((min m 1000000000 : Nat) : Int) := by unfold nums.mn; split <;> omega
    rw [hmn]
    obtain ⟨q, hq⟩ : ∃ q : Int, q = ((min m 1000000000 : Nat) : Int) := ⟨_, rfl⟩
    have q0 : 0 ≤ q := by omega
    have q1 : q ≤ 1000000000 := by omega
    rw [← hq]
    have HQ := Lib.hid hq
    clear hmn hq
    go_wp2_with (fail)
    go_ret
    exact ⟨by rw [← HQ.out]; rfl, HB3.out⟩

end Go.Proofs.YtlbkbcafkjgckaaDoor.lead

/-
  The model's reading of the digits at the beginning of a text: l8Scan, LeadingInt and IsNumeric; and the project's IsNumeric.
  Conditions: the text has at most 2^40 bytes.
-/
namespace Go.Proofs.YtlbkbcafkjgckaaDoor.lead
open Go.ChangeShapes Go.WideShapes Go.ChangeAt Go.RowKit
set_option linter.unusedVariables false

theorem sMin (a b : Int) (w : World) : Calls Tryd.prog 34 #[.int .i64 a, .int .i64 b] w fun e w' => e = .returned (.int .i64 (nums.mn a b)) ∧ w = w' := by
  by_cases h : b < a
  all_goals
    go_enter Tryd.func34, Tryd.ntmps34
    go_wp2
    go_ret
    exact ⟨nums.ret_int (by unfold nums.mn; split <;> omega), rfl⟩
theorem sMax (a b : Int) (w : World) : Calls Tryd.prog 33 #[.int .i64 a, .int .i64 b] w fun e w' => e = .returned (.int .i64 (nums.mx a b)) ∧ w = w' := by
  by_cases h : a < b
  all_goals
    go_enter Tryd.func33, Tryd.ntmps33
    go_wp2
    go_ret
    exact ⟨nums.ret_int (by unfold nums.mx; split <;> omega), rfl⟩

def ScQ (s : ByteArray) (w : World) (e : Ending) (w' : World) : Prop := e = .returned (.tuple #[.int .i64 (scn s).1, .int .i64 ((scn s).2 : Int)]) ∧ Below w.heap.size w w'

theorem nn_of {b : UInt8} (h : (b == 45) = false) : ((b.toNat : Int) == 45) = false := by
  rw [beq_eq_false_iff_ne] at h ⊢
  intro e
  apply h
  apply UInt8.toNat_inj.1
  have : (45 : UInt8).toNat = 45 := rfl
  omega

set_option maxHeartbeats 1000000 in
theorem l8Scan (s : ByteArray) (hs : s.size ≤ 1099511627776) (w : World) : Calls Tryd.prog 131 #[.string s] w (ScQ s w) := by
  obtain ⟨o, HO⟩ : ∃ o, Hid (off s = o) := ⟨_, Lib.hid rfl⟩
  have ST := At.start s o
  have hos : o ≤ s.size := by rw [← HO.out]; exact off_le s
  have hR : mg 0 (ld (s.data.toList.drop o)) = mag s := by unfold mag digs; rw [HO.out]
  rw [hR] at ST
  obtain ⟨K, HK⟩ : ∃ K, Hid (o + (ld (s.data.toList.drop o)).length = K) := ⟨_, Lib.hid rfl⟩
  rw [HK.out] at ST
  have hd : digs s = ld (s.data.toList.drop o) := by unfold digs; rw [HO.out]
  have hm := mag_le s
  obtain ⟨R, HR⟩ : ∃ R, Hid (mag s = R) := ⟨_, Lib.hid rfl⟩
  rw [HR.out] at ST hm
  -- what the scan gives
  have HN : Hid (K = o → scn s = (0, 0)) := Lib.hid fun h => by unfold scn; rw [if_pos (by rw [hd]; have := HK.out; omega)]
  have HP : Hid (K ≠ o → neg s = true → scn s = (-(R : Int), K)) := Lib.hid fun h hn => by
    have ho : o = 1 := by rw [← HO.out]; unfold off; rw [if_pos hn]
    unfold scn
    rw [if_neg (by rw [hd]; have := HK.out; omega), if_pos hn, HR.out, hd]
    have := HK.out
    exact Prod.ext rfl (by show 1 + _ = K; omega)
  have HQ : Hid (K ≠ o → neg s = false → scn s = ((R : Int), K)) := Lib.hid fun h hn => by
    have ho : o = 0 := by rw [← HO.out]; unfold off; rw [if_neg (by rw [hn]; simp)]
    unfold scn
    rw [if_neg (by rw [hd]; have := HK.out; omega), if_neg (by rw [hn]; simp), HR.out, hd]
    have := HK.out
    exact Prod.ext rfl (by show _ = K; omega)
  have HST := Lib.hid ST
  clear ST hR hd HR HK
  by_cases h0 : 0 < s.size
  · have hb0 : (0 : Int) ≤ (s[0].toNat : Int) := by omega
    have hb9 : (s[0].toNat : Int) ≤ 255 := by have := s[0].toNat_lt; omega
    have hna := neg_at h0
    cases hng : neg s with
    | true =>
      have h45 : (s[0].toNat : Int) = 45 := by
        rw [hng] at hna
        have : s[0] = 45 := by simpa using hna.symm
        rw [this]; rfl
      obtain rfl : o = 1 := by rw [← HO.out]; unfold off; rw [if_pos hng]
      have H2 := Lib.hid (fun h => HP.out h hng)
      clear hna hng HP HQ HO
      go_enter Tryd.func131, Tryd.ntmps131
      go_wp2
      go_loop [5, 6] (fun m i => ∃ (k n : Nat) (x : Int), k ≤ s.size ∧ i = .int .i64 k ∧ At s k n R K ∧ 0 ≤ x ∧ x ≤ 1000000001 ∧ Hid (x = (n : Int)) ∧ m = .int .i64 x) (fun _ i => s.size - (RowKit.intOf i).toNat)
      case atStart => exact ⟨1, 0, 0, by omega, rfl, HST.out, by omega, by omega, rfl, rfl⟩
      case round =>
        clear HST
        obtain ⟨k, n, x, hk, rfl, hA, x0, x1, HX, rfl⟩ := hrel
        by_cases hlt : k < s.size
        · have kb0 : (0 : Int) ≤ (s[k].toNat : Int) := by omega
          have kb9 : (s[k].toNat : Int) ≤ 255 := by have := s[k].toNat_lt; omega
          by_cases hd : dg s[k] = true
          · have HA := Lib.hid (hA.step hlt hd)
            have hd' := dg_iff.1 hd
            obtain ⟨d1, d2⟩ := hd'
            have D1 : (48 : Int) ≤ (s[k].toNat : Int) := by omega
            have D2 : (s[k].toNat : Int) ≤ 57 := by omega
            have HIN : Hid (nums.inr (s[k].toNat : Int) 48 57 = true) := Lib.hid (by unfold nums.inr; simp; omega)
            clear hA hd
            go_wp2_with (first | (go_at_call 61; refine (nums.l1In _ _ _ _).mono ?_; rintro e w1 ⟨rfl, rfl⟩; rw [HIN.out]) | (go_at_call 34; refine (sMin _ _ _).mono ?_; rintro e w1 ⟨rfl, rfl⟩))
            all_goals (refine ⟨⟨k + 1, _, _, by omega, by go_num, HA.out, ?_, ?_, ?_, rfl⟩, by simp only [RowKit.intOf]; omega⟩ <;> first | (unfold nums.mn; split <;> omega) | (have := HX.out; show _ = _; unfold nums.mn; split <;> omega))
          · have hd' : dg s[k] = false := by simpa using hd
            have hd2 := dg_no.1 hd'
            have HIN : Hid (nums.inr (s[k].toNat : Int) 48 57 = false) := Lib.hid (by unfold nums.inr; simp; omega)
            obtain ⟨rfl, rfl⟩ := hA.stop hlt hd'
            clear hA hd hd' hd2
            by_cases hko : k = 1
            · subst hko
              have HV := Lib.hid (HN.out rfl)
              clear HN H2 HX
              go_wp2_with (go_at_call 61; refine (nums.l1In _ _ _ _).mono ?_; rintro e w1 ⟨rfl, rfl⟩; rw [HIN.out])
              all_goals (go_ret2; exact ⟨by rw [HV.out] <;> rfl, Below.refl _ _⟩)
            · have HV := Lib.hid (H2.out hko)
              have hx := HX.out
              subst hx
              have hko2 : ¬ (k : Int) = 1 := by omega
              have hko3 : ((k : Int) == 1) = false := by rw [beq_eq_false_iff_ne]; exact hko2
              clear HN H2 HX hko
              go_wp2_with (go_at_call 61; refine (nums.l1In _ _ _ _).mono ?_; rintro e w1 ⟨rfl, rfl⟩; rw [HIN.out])
              all_goals (go_ret2; exact ⟨by rw [HV.out] <;> rfl, Below.refl _ _⟩)
        · obtain ⟨rfl, rfl⟩ := hA.fin (by omega)
          clear hA
          by_cases hko : k = 1
          · subst hko
            have HV := Lib.hid (HN.out rfl)
            clear HN H2 HX
            go_wp2
            all_goals (go_ret2; exact ⟨by rw [HV.out] <;> rfl, Below.refl _ _⟩)
          · have HV := Lib.hid (H2.out hko)
            have hx := HX.out
            subst hx
            have hko2 : ¬ (k : Int) = 1 := by omega
            have hko3 : ((k : Int) == 1) = false := by rw [beq_eq_false_iff_ne]; exact hko2
            clear HN H2 HX hko
            go_wp2
            all_goals (go_ret2; exact ⟨by rw [HV.out] <;> rfl, Below.refl _ _⟩)
    | false =>
      have h45 : ((s[0].toNat : Int) == 45) = false := by
        rw [hng] at hna
        exact nn_of hna.symm
      obtain rfl : o = 0 := by rw [← HO.out]; unfold off; rw [if_neg (by rw [hng]; simp)]
      have H2 := Lib.hid (fun h => HQ.out h hng)
      clear hna hng HP HQ HO
      go_enter Tryd.func131, Tryd.ntmps131
      go_wp2
      go_loop [5, 6] (fun m i => ∃ (k n : Nat) (x : Int), k ≤ s.size ∧ i = .int .i64 k ∧ At s k n R K ∧ 0 ≤ x ∧ x ≤ 1000000001 ∧ Hid (x = (n : Int)) ∧ m = .int .i64 x) (fun _ i => s.size - (RowKit.intOf i).toNat)
      case atStart => exact ⟨0, 0, 0, by omega, rfl, HST.out, by omega, by omega, rfl, rfl⟩
      case round =>
        clear HST
        obtain ⟨k, n, x, hk, rfl, hA, x0, x1, HX, rfl⟩ := hrel
        by_cases hlt : k < s.size
        · have kb0 : (0 : Int) ≤ (s[k].toNat : Int) := by omega
          have kb9 : (s[k].toNat : Int) ≤ 255 := by have := s[k].toNat_lt; omega
          by_cases hd : dg s[k] = true
          · have HA := Lib.hid (hA.step hlt hd)
            have hd' := dg_iff.1 hd
            obtain ⟨d1, d2⟩ := hd'
            have D1 : (48 : Int) ≤ (s[k].toNat : Int) := by omega
            have D2 : (s[k].toNat : Int) ≤ 57 := by omega
            have HIN : Hid (nums.inr (s[k].toNat : Int) 48 57 = true) := Lib.hid (by unfold nums.inr; simp; omega)
            clear hA hd
            go_wp2_with (first | (go_at_call 61; refine (nums.l1In _ _ _ _).mono ?_; rintro e w1 ⟨rfl, rfl⟩; rw [HIN.out]) | (go_at_call 34; refine (sMin _ _ _).mono ?_; rintro e w1 ⟨rfl, rfl⟩))
            all_goals (refine ⟨⟨k + 1, _, _, by omega, by go_num, HA.out, ?_, ?_, ?_, rfl⟩, by simp only [RowKit.intOf]; omega⟩ <;> first | (unfold nums.mn; split <;> omega) | (have := HX.out; show _ = _; unfold nums.mn; split <;> omega))
          · have hd' : dg s[k] = false := by simpa using hd
            have hd2 := dg_no.1 hd'
            have HIN : Hid (nums.inr (s[k].toNat : Int) 48 57 = false) := Lib.hid (by unfold nums.inr; simp; omega)
            obtain ⟨rfl, rfl⟩ := hA.stop hlt hd'
            clear hA hd hd' hd2
            by_cases hko : k = 0
            · subst hko
              have HV := Lib.hid (HN.out rfl)
              clear HN H2 HX
              go_wp2_with (go_at_call 61; refine (nums.l1In _ _ _ _).mono ?_; rintro e w1 ⟨rfl, rfl⟩; rw [HIN.out])
              all_goals (go_ret2; exact ⟨by rw [HV.out] <;> rfl, Below.refl _ _⟩)
            · have HV := Lib.hid (H2.out hko)
              have hx := HX.out
              subst hx
              have hko2 : ¬ (k : Int) = 0 := by omega
              have hko3 : ((k : Int) == 0) = false := by rw [beq_eq_false_iff_ne]; exact hko2
              clear HN H2 HX hko
              go_wp2_with (go_at_call 61; refine (nums.l1In _ _ _ _).mono ?_; rintro e w1 ⟨rfl, rfl⟩; rw [HIN.out])
              all_goals (go_ret2; exact ⟨by rw [HV.out] <;> rfl, Below.refl _ _⟩)
        · obtain ⟨rfl, rfl⟩ := hA.fin (by omega)
          clear hA
          by_cases hko : k = 0
          · subst hko
            have HV := Lib.hid (HN.out rfl)
            clear HN H2 HX
            go_wp2
            all_goals (go_ret2; exact ⟨by rw [HV.out] <;> rfl, Below.refl _ _⟩)
          · have HV := Lib.hid (H2.out hko)
            have hx := HX.out
            subst hx
            have hko2 : ¬ (k : Int) = 0 := by omega
            have hko3 : ((k : Int) == 0) = false := by rw [beq_eq_false_iff_ne]; exact hko2
            clear HN H2 HX hko
            go_wp2
            all_goals (go_ret2; exact ⟨by rw [HV.out] <;> rfl, Below.refl _ _⟩)
  · have hng : neg s = false := by
      cases h : neg s
      · rfl
      · exact absurd (neg_lt h) h0
    have hz : s.size = 0 := by omega
    obtain rfl : o = 0 := by rw [← HO.out]; unfold off; rw [if_neg (by rw [hng]; simp)]
    have H2 := Lib.hid (fun h => HQ.out h hng)
    clear hng HP HQ HO
    go_enter Tryd.func131, Tryd.ntmps131
    go_wp2
    go_loop [5, 6] (fun m i => ∃ (k n : Nat) (x : Int), k ≤ s.size ∧ i = .int .i64 k ∧ At s k n R K ∧ 0 ≤ x ∧ x ≤ 1000000001 ∧ Hid (x = (n : Int)) ∧ m = .int .i64 x) (fun _ i => s.size - (RowKit.intOf i).toNat)
    case atStart => exact ⟨0, 0, 0, by omega, rfl, HST.out, by omega, by omega, rfl, rfl⟩
    case round =>
      clear HST
      obtain ⟨k, n, x, hk, rfl, hA, x0, x1, HX, rfl⟩ := hrel
      by_cases hlt : k < s.size
      · have kb0 : (0 : Int) ≤ (s[k].toNat : Int) := by omega
        have kb9 : (s[k].toNat : Int) ≤ 255 := by have := s[k].toNat_lt; omega
        by_cases hd : dg s[k] = true
        · have HA := Lib.hid (hA.step hlt hd)
          have hd' := dg_iff.1 hd
          obtain ⟨d1, d2⟩ := hd'
          have D1 : (48 : Int) ≤ (s[k].toNat : Int) := by omega
          have D2 : (s[k].toNat : Int) ≤ 57 := by omega
          have HIN : Hid (nums.inr (s[k].toNat : Int) 48 57 = true) := Lib.hid (by unfold nums.inr; simp; omega)
          clear hA hd
          go_wp2_with (first | (go_at_call 61; refine (nums.l1In _ _ _ _).mono ?_; rintro e w1 ⟨rfl, rfl⟩; rw [HIN.out]) | (go_at_call 34; refine (sMin _ _ _).mono ?_; rintro e w1 ⟨rfl, rfl⟩))
          all_goals (refine ⟨⟨k + 1, _, _, by omega, by go_num, HA.out, ?_, ?_, ?_, rfl⟩, by simp only [RowKit.intOf]; omega⟩ <;> first | (unfold nums.mn; split <;> omega) | (have := HX.out; show _ = _; unfold nums.mn; split <;> omega))
        · have hd' : dg s[k] = false := by simpa using hd
          have hd2 := dg_no.1 hd'
          have HIN : Hid (nums.inr (s[k].toNat : Int) 48 57 = false) := Lib.hid (by unfold nums.inr; simp; omega)
          obtain ⟨rfl, rfl⟩ := hA.stop hlt hd'
          clear hA hd hd' hd2
          by_cases hko : k = 0
          · subst hko
            have HV := Lib.hid (HN.out rfl)
            clear HN H2 HX
            go_wp2_with (go_at_call 61; refine (nums.l1In _ _ _ _).mono ?_; rintro e w1 ⟨rfl, rfl⟩; rw [HIN.out])
            all_goals (go_ret2; exact ⟨by rw [HV.out] <;> rfl, Below.refl _ _⟩)
          · have HV := Lib.hid (H2.out hko)
            have hx := HX.out
            subst hx
            have hko2 : ¬ (k : Int) = 0 := by omega
            have hko3 : ((k : Int) == 0) = false := by rw [beq_eq_false_iff_ne]; exact hko2
            clear HN H2 HX hko
            go_wp2_with (go_at_call 61; refine (nums.l1In _ _ _ _).mono ?_; rintro e w1 ⟨rfl, rfl⟩; rw [HIN.out])
            all_goals (go_ret2; exact ⟨by rw [HV.out] <;> rfl, Below.refl _ _⟩)
      · obtain ⟨rfl, rfl⟩ := hA.fin (by omega)
        clear hA
        by_cases hko : k = 0
        · subst hko
          have HV := Lib.hid (HN.out rfl)
          clear HN H2 HX
          go_wp2
          all_goals (go_ret2; exact ⟨by rw [HV.out] <;> rfl, Below.refl _ _⟩)
        · have HV := Lib.hid (H2.out hko)
          have hx := HX.out
          subst hx
          have hko2 : ¬ (k : Int) = 0 := by omega
          have hko3 : ((k : Int) == 0) = false := by rw [beq_eq_false_iff_ne]; exact hko2
          clear HN H2 HX hko
          go_wp2
          all_goals (go_ret2; exact ⟨by rw [HV.out] <;> rfl, Below.refl _ _⟩)

end Go.Proofs.YtlbkbcafkjgckaaDoor.lead

/-
  LeadingInt of the model, IsNumeric of both sides.
  Conditions: the text has at most 2^40 bytes.
-/
namespace Go.Proofs.YtlbkbcafkjgckaaDoor.lead
open Go.ChangeShapes Go.WideShapes Go.ChangeAt Go.RowKit
set_option linter.unusedVariables false

theorem leadingInt_s (s : ByteArray) (hs : s.size ≤ 1099511627776) (w : World) : Calls Tryd.prog 92 #[.string s] w fun e w' => e = .returned (.int .i64 (li s)) ∧ Below w.heap.size w w' := by
  have SC := l8Scan s hs
  have hb := scn_le s
  have hl := li_scn s
  have ht := scn_take s
  unfold ScQ at SC
  obtain ⟨⟨n, k⟩, HX⟩ : ∃ x, Hid (scn s = x) := ⟨_, Lib.hid rfl⟩
  rw [HX.out] at SC hb hl ht
  obtain ⟨hb0, hb1⟩ := hb
  simp only at SC hb0 hb1 ht
  have HSC := Lib.hid SC
  have HL := Lib.hid hl
  have HT : Hid (k ≤ s.size) := Lib.hid ht
  rw [HL.out]
  clear SC hl HX HL ht
  go_enter Tryd.func92, Tryd.ntmps92
  go_wp2_with (fail)
  refine (HSC.out _).mono ?_
  rintro e w1 ⟨rfl, hB1⟩
  have HB1 := Lib.hid hB1
  clear hB1
  go_wp2_with (fail)
  refine (sMin _ _ _).mono ?_
  rintro e w2 ⟨rfl, rfl⟩
  go_wp2_with (fail)
  refine (sMax _ _ _).mono ?_
  rintro e w3 ⟨rfl, rfl⟩
  have hm : nums.mx (-1000000000) (nums.mn 1000000000 n) = max (-1000000000) (min 1000000000 n) := by unfold nums.mx nums.mn; split <;> split <;> omega
  rw [hm]
  clear hm
  go_wp2_with (fail)
  go_ret
  exact ⟨rfl, HB1.out⟩

theorem bytes_ne {a b : ByteArray} (h : a ≠ b) : (a.toList == b.toList) = false := by
  rw [beq_eq_false_iff_ne]
  intro hh
  exact h (by rw [ByteArray.toList_eq, ByteArray.toList_eq] at hh; exact Go.WideShapes.bytes_inj hh)

set_option maxHeartbeats 1000000 in
theorem isNumeric_i (s : ByteArray) (hs : s.size ≤ 1099511627776) (w : World) : Calls Tryd.prog 40 #[.string s] w fun e w' => e = .returned (.bool (isn s)) ∧ Below w.heap.size w w' := by
  have HC : Hid ((⟨(Lib.trimPrefix s.data.toList [45]).toArray⟩ : ByteArray) = beh s) := Lib.hid (by rw [(cut_eq s).2]; rfl)
  have hbs : (beh s).size ≤ 1099511627776 := by rw [beh_size]; omega
  have LD := leadingDigits (beh s) hbs
  rw [beh_list] at LD
  have LD' : ∀ w, Calls Tryd.prog 80 #[.string (beh s)] w fun e w' => e = .returned (.string (tx (digs s))) ∧ Below w.heap.size w w' := LD
  have hI : isn s = (decide (1 ≤ (beh s).size) && decide ((beh s).size ≤ 10) && decide ((digs s).length = (beh s).size) && decide (mag s ≤ 1000000000)) := by unfold isn; rw [beh_size]
  have hE : tx (digs s) = beh s → (digs s).length = (beh s).size := fun h => by rw [← h, tx_size]
  have hN : tx (digs s) ≠ beh s → ¬ (digs s).length = (beh s).size := fun h hl => h (by
    unfold beh
    congr 1
    unfold digs at hl ⊢
    exact ld_full (by rw [hl, beh_size, List.length_drop, size_eq]))
  have MG : tx (digs s) = beh s → ∀ w, Calls Tryd.prog 79 #[.string (beh s)] w fun e w' => e = .returned (.int .i64 (mag s : Int)) ∧ Below w.heap.size w w' := fun h w => by
    have := magnitude (beh s) hbs (by rw [← h, tx_list]; exact ld_dig _) w
    have e : mg 0 (beh s).data.toList = mag s := by rw [← h, tx_list]; rfl
    rw [e] at this
    exact this
  obtain ⟨m, HM⟩ : ∃ m, Hid (mag s = m) := ⟨_, Lib.hid rfl⟩
  obtain ⟨B, HB⟩ : ∃ B, Hid (beh s = B) := ⟨_, Lib.hid rfl⟩
  obtain ⟨D, HD⟩ : ∃ D, Hid (tx (digs s) = D) := ⟨_, Lib.hid rfl⟩
  obtain ⟨d, HDL⟩ : ∃ d, Hid ((digs s).length = d) := ⟨_, Lib.hid rfl⟩
  rw [HB.out] at HC hbs LD' hI hE hN MG
  rw [HD.out] at LD' hE hN MG
  rw [HDL.out] at hI hE hN
  rw [HM.out] at hI MG
  have HLD := Lib.hid LD'
  rw [hI]
  clear LD LD' hI HM HB HD HDL
  by_cases c1 : 1 ≤ B.size ∧ B.size ≤ 10
  · have HIN : Hid (nums.inr (B.size : Int) 1 10 = true) := Lib.hid (by unfold nums.inr; simp; omega)
    by_cases c2 : D = B
    · subst c2
      have HMG := Lib.hid (MG rfl)
      have c3 := hE rfl
      have c4 : (D.toList == D.toList) = true := by simp
      by_cases c5 : m ≤ 1000000000
      · have c6 : (m : Int) ≤ 1000000000 := by omega
        have hv : (decide (1 ≤ D.size) && decide (D.size ≤ 10) && decide (d = D.size) && decide (m ≤ 1000000000)) = true := by simp [c1.1, c1.2, c3, c5]
        rw [hv]
        clear hv c1 hE hN MG c3 c5
        go_enter Tryd.func40, Tryd.ntmps40
        go_wp2_with (fail)
        refine (Tryd.strings_TrimPrefix s ⟨#[45]⟩ _).mono ?_
        rintro e w1 ⟨he, rfl⟩
        obtain rfl : e = .returned (.string D) := he.trans (by rw [← HC.out])
        go_wp2_with (fail)
        refine (nums.implInRange _ _ _ _).mono ?_
        rintro e w2 ⟨rfl, rfl⟩
        rw [HIN.out]
        go_wp2_with (fail)
        refine (HLD.out _).mono ?_
        rintro e w3 ⟨rfl, hb3⟩
        have HB3 := Lib.hid hb3
        clear hb3
        go_wp2_with (fail)
        refine (HMG.out _).mono ?_
        rintro e w4 ⟨rfl, hb4⟩
        have HB4 := Lib.hid (bss HB3.out hb4)
        clear hb4
        go_wp2_with (fail)
        go_ret
        exact ⟨rfl, HB4.out⟩
      · have c6 : ¬ (m : Int) ≤ 1000000000 := by omega
        have HD6 : Hid (decide ((m : Int) ≤ 1000000000) = false) := Lib.hid (decide_eq_false c6)
        have hv : (decide (1 ≤ D.size) && decide (D.size ≤ 10) && decide (d = D.size) && decide (m ≤ 1000000000)) = false := by simp [c5]
        rw [hv]
        clear hv c1 hE hN MG c3 c5
        go_enter Tryd.func40, Tryd.ntmps40
        go_wp2_with (fail)
        refine (Tryd.strings_TrimPrefix s ⟨#[45]⟩ _).mono ?_
        rintro e w1 ⟨he, rfl⟩
        obtain rfl : e = .returned (.string D) := he.trans (by rw [← HC.out])
        go_wp2_with (fail)
        refine (nums.implInRange _ _ _ _).mono ?_
        rintro e w2 ⟨rfl, rfl⟩
        rw [HIN.out]
        go_wp2_with (fail)
        refine (HLD.out _).mono ?_
        rintro e w3 ⟨rfl, hb3⟩
        have HB3 := Lib.hid hb3
        clear hb3
        go_wp2_with (fail)
        refine (HMG.out _).mono ?_
        rintro e w4 ⟨rfl, hb4⟩
        have HB4 := Lib.hid (bss HB3.out hb4)
        clear hb4
        go_wp2_with (fail)
        go_ret
        exact ⟨by first | rfl | (show Ending.returned (.bool (decide _)) = _; rw [HD6.out]), HB4.out⟩
    · have c4 := bytes_ne c2
      have hv : (decide (1 ≤ B.size) && decide (B.size ≤ 10) && decide (d = B.size) && decide (m ≤ 1000000000)) = false := by simp [hN c2]
      rw [hv]
      clear hv c1 hE hN MG c2
      go_enter Tryd.func40, Tryd.ntmps40
      go_wp2_with (fail)
      refine (Tryd.strings_TrimPrefix s ⟨#[45]⟩ _).mono ?_
      rintro e w1 ⟨he, rfl⟩
      obtain rfl : e = .returned (.string B) := he.trans (by rw [← HC.out])
      go_wp2_with (fail)
      refine (nums.implInRange _ _ _ _).mono ?_
      rintro e w2 ⟨rfl, rfl⟩
      rw [HIN.out]
      go_wp2_with (fail)
      refine (HLD.out _).mono ?_
      rintro e w3 ⟨rfl, hb3⟩
      have HB3 := Lib.hid hb3
      clear hb3
      go_wp2_with (fail)
      go_ret
      exact ⟨rfl, HB3.out⟩
  · have HIN : Hid (nums.inr (B.size : Int) 1 10 = false) := Lib.hid (by unfold nums.inr; simp; omega)
    have hv : (decide (1 ≤ B.size) && decide (B.size ≤ 10) && decide (d = B.size) && decide (m ≤ 1000000000)) = false := by
      by_cases a : 1 ≤ B.size
      · have : ¬ B.size ≤ 10 := fun h => c1 ⟨a, h⟩
        simp [this]
      · simp [a]
    rw [hv]
    clear hv c1 hE hN MG
    go_enter Tryd.func40, Tryd.ntmps40
    go_wp2_with (fail)
    refine (Tryd.strings_TrimPrefix s ⟨#[45]⟩ _).mono ?_
    rintro e w1 ⟨he, rfl⟩
    obtain rfl : e = .returned (.string B) := he.trans (by rw [← HC.out])
    go_wp2_with (fail)
    refine (nums.implInRange _ _ _ _).mono ?_
    rintro e w2 ⟨rfl, rfl⟩
    rw [HIN.out]
    go_wp2_with (fail)
    go_ret
    exact ⟨rfl, Below.refl _ _⟩

set_option maxHeartbeats 1000000 in
theorem isNumeric_s (s : ByteArray) (hs : s.size ≤ 1099511627776) (w : World) : Calls Tryd.prog 91 #[.string s] w fun e w' => e = .returned (.bool (isn s)) ∧ Below w.heap.size w w' := by
  have SC := l8Scan s hs
  have hb := scn_le s
  have hl := isn_scn s
  have ht := scn_take s
  unfold ScQ at SC
  obtain ⟨⟨n, k⟩, HX⟩ : ∃ x, Hid (scn s = x) := ⟨_, Lib.hid rfl⟩
  rw [HX.out] at SC hb hl ht
  obtain ⟨hb0, hb1⟩ := hb
  simp only at SC hb0 hb1 ht hl
  have HSC := Lib.hid SC
  rw [hl]
  clear SC hl HX
  by_cases c1 : 0 < k
  · have c1' : (0 : Int) < (k : Int) := by omega
    have d1 : decide ((0 : Int) < (k : Int)) = true := decide_eq_true c1'
    rw [d1]
    clear d1
    by_cases c2 : k = s.size
    · have d2 : decide (k = s.size) = true := decide_eq_true c2
      rw [d2]
      have h0 : 0 < s.size := by omega
      rw [neg_at h0]
      have HK : Hid (k = s.size) := Lib.hid c2
      subst c2
      clear d2 c1 c1'
      by_cases c3 : -1000000000 ≤ n ∧ n ≤ 1000000000
      · have HIN : Hid (nums.inr n (-1000000000) 1000000000 = true) := Lib.hid (by unfold nums.inr; simp; omega)
        have d3 : (decide ((-1000000000 : Int) ≤ n) && decide (n ≤ (1000000000 : Int))) = true := by simp [c3.1, c3.2]
        rw [d3]
        clear d3 c3
        by_cases c4 : s.size ≤ 10
        · have d4 : decide (s.size ≤ 10) = true := decide_eq_true c4
          have c4' : (s.size : Int) ≤ 10 := by omega
          rw [d4]
          clear d4
          go_enter Tryd.func91, Tryd.ntmps91
          go_wp2_with (first | (go_at_call 131; refine (HSC.out _).mono ?_; rintro e w1 ⟨rfl, hB1⟩; have HB1 := Lib.hid hB1; clear hB1) | (go_at_call 61; refine (nums.l1In _ _ _ _).mono ?_; rintro e w2 ⟨rfl, rfl⟩; rw [HIN.out]))
          go_ret
          exact ⟨rfl, HB1.out⟩
        · have d4 : decide (s.size ≤ 10) = false := decide_eq_false c4
          have c4' : ¬ (s.size : Int) ≤ 10 := by omega
          rw [d4]
          clear d4
          by_cases c5 : s.size = 11
          · have d5 : decide (s.size = 11) = true := decide_eq_true c5
            have c5' : (s.size : Int) = 11 := by omega
            rw [d5]
            clear d5
            have hb0 : (0 : Int) ≤ (s[0].toNat : Int) := by omega
            have hb9 : (s[0].toNat : Int) ≤ 255 := by have := s[0].toNat_lt; omega
            cases h45 : (s[0] == 45) with
            | true =>
              have h46 : (s[0].toNat : Int) = 45 := by
                have : s[0] = 45 := by simpa using h45
                rw [this]; rfl
              clear h45 c4 c5
              go_enter Tryd.func91, Tryd.ntmps91
              go_wp2_with (first | (go_at_call 131; refine (HSC.out _).mono ?_; rintro e w1 ⟨rfl, hB1⟩; have HB1 := Lib.hid hB1; clear hB1) | (go_at_call 61; refine (nums.l1In _ _ _ _).mono ?_; rintro e w2 ⟨rfl, rfl⟩; rw [HIN.out]))
              go_ret
              exact ⟨rfl, HB1.out⟩
            | false =>
              have h46 := nn_of h45
              clear h45 c4 c5
              go_enter Tryd.func91, Tryd.ntmps91
              go_wp2_with (first | (go_at_call 131; refine (HSC.out _).mono ?_; rintro e w1 ⟨rfl, hB1⟩; have HB1 := Lib.hid hB1; clear hB1) | (go_at_call 61; refine (nums.l1In _ _ _ _).mono ?_; rintro e w2 ⟨rfl, rfl⟩; rw [HIN.out]))
              go_ret
              exact ⟨rfl, HB1.out⟩
          · have d5 : decide (s.size = 11) = false := decide_eq_false c5
            have c5' : ((s.size : Int) == 11) = false := by rw [beq_eq_false_iff_ne]; omega
            have HD4 : Hid (decide ((s.size : Int) ≤ 10) = false) := Lib.hid (decide_eq_false c4')
            rw [d5]
            clear d5 c4 c5
            go_enter Tryd.func91, Tryd.ntmps91
            go_wp2_with (first | (go_at_call 131; refine (HSC.out _).mono ?_; rintro e w1 ⟨rfl, hB1⟩; have HB1 := Lib.hid hB1; clear hB1) | (go_at_call 61; refine (nums.l1In _ _ _ _).mono ?_; rintro e w2 ⟨rfl, rfl⟩; rw [HIN.out]))
            go_ret
            exact ⟨by first | rfl | (show Ending.returned (.bool (decide _)) = _; rw [HD4.out]; rfl), HB1.out⟩
      · have HIN : Hid (nums.inr n (-1000000000) 1000000000 = false) := Lib.hid (by unfold nums.inr; simp; omega)
        have d3 : (decide ((-1000000000 : Int) ≤ n) && decide (n ≤ (1000000000 : Int))) = false := by
          by_cases a : -1000000000 ≤ n
          · have : ¬ n ≤ 1000000000 := fun h => c3 ⟨a, h⟩
            simp [this]
          · simp [a]
        rw [d3]
        clear d3 c3
        go_enter Tryd.func91, Tryd.ntmps91
        go_wp2_with (first | (go_at_call 131; refine (HSC.out _).mono ?_; rintro e w1 ⟨rfl, hB1⟩; have HB1 := Lib.hid hB1; clear hB1) | (go_at_call 61; refine (nums.l1In _ _ _ _).mono ?_; rintro e w2 ⟨rfl, rfl⟩; rw [HIN.out]))
        go_ret
        exact ⟨rfl, HB1.out⟩
    · have d2 : decide (k = s.size) = false := decide_eq_false c2
      have c2' : ((k : Int) == (s.size : Int)) = false := by rw [beq_eq_false_iff_ne]; omega
      rw [d2]
      clear d2 c2
      go_enter Tryd.func91, Tryd.ntmps91
      go_wp2_with (first | (go_at_call 131; refine (HSC.out _).mono ?_; rintro e w1 ⟨rfl, hB1⟩; have HB1 := Lib.hid hB1; clear hB1) | (go_at_call 61; refine (nums.l1In _ _ _ _).mono ?_; rintro e w2 ⟨rfl, rfl⟩))
      go_ret
      exact ⟨rfl, HB1.out⟩
  · obtain rfl : k = 0 := by omega
    go_enter Tryd.func91, Tryd.ntmps91
    go_wp2_with (first | (go_at_call 131; refine (HSC.out _).mono ?_; rintro e w1 ⟨rfl, hB1⟩; have HB1 := Lib.hid hB1; clear hB1) | (go_at_call 61; refine (nums.l1In _ _ _ _).mono ?_; rintro e w2 ⟨rfl, rfl⟩))
    go_ret
    exact ⟨rfl, HB1.out⟩

end Go.Proofs.YtlbkbcafkjgckaaDoor.lead

/-
  Plain facts on decimal numerals, without the program: a numeral is read back, its digits are digits, and what the project's and the model's way of reading a text give is the same number.
  Conditions: those that each theorem names.
-/
namespace Go.Proofs.YtlbkbcafkjgckaaDoor.dec
open Go.Lib

def isDig (b : UInt8) : Prop := 48 ≤ b.toNat ∧ b.toNat ≤ 57
instance (b : UInt8) : Decidable (isDig b) := by unfold isDig; infer_instance

def digStep (a : Nat) (b : UInt8) : Nat := 10 * a + (b.toNat - 48)
theorem digStep_eq (a : Nat) (b : UInt8) : digStep a b = 10 * a + (b.toNat - 48) := by unfold digStep; rfl
def valFrom (a : Nat) (l : List UInt8) : Nat := l.foldl digStep a
def val (l : List UInt8) : Nat := valFrom 0 l

theorem valFrom_nil (a : Nat) : valFrom a [] = a := by unfold valFrom; rw [List.foldl_nil]
theorem valFrom_cons (a : Nat) (b : UInt8) (l : List UInt8) : valFrom a (b :: l) = valFrom (10 * a + (b.toNat - 48)) l := by unfold valFrom; rw [List.foldl_cons, digStep_eq]
theorem valFrom_snoc (l : List UInt8) (a : Nat) (b : UInt8) : valFrom a (l ++ [b]) = 10 * valFrom a l + (b.toNat - 48) := by
  unfold valFrom
  rw [List.foldl_append, List.foldl_cons, List.foldl_nil, digStep_eq]
theorem val_snoc (l : List UInt8) (b : UInt8) : val (l ++ [b]) = 10 * val l + (b.toNat - 48) := valFrom_snoc l 0 b

theorem toNat_dig {d : Nat} (h : d < 10) : (UInt8.ofNat (48 + d)).toNat = 48 + d := by
  rw [UInt8.toNat_ofNat']
  omega

theorem decDigits_step {u : Nat} (h : ¬ u < 10) : decDigits u = decDigits (u / 10) ++ [UInt8.ofNat (48 + u % 10)] := by
  rw [decDigits, dif_neg h]

theorem decDigits_dig : ∀ (u : Nat) (b : UInt8), b ∈ decDigits u → isDig b := by
  intro u
  induction u using Nat.strongRecOn with
  | _ u ih =>
    intro b hb
    by_cases h : u < 10
    · rw [decDigits_one h] at hb
      simp only [List.mem_singleton] at hb
      subst hb
      unfold isDig
      rw [toNat_dig h]
      omega
    · rw [decDigits_step h] at hb
      rcases List.mem_append.1 hb with hb | hb
      · exact ih (u / 10) (by omega) b hb
      · simp only [List.mem_singleton] at hb
        subst hb
        unfold isDig
        rw [toNat_dig (by omega)]
        omega

theorem val_decDigits (u : Nat) : val (decDigits u) = u := by
  induction u using Nat.strongRecOn with
  | _ u ih =>
    by_cases h : u < 10
    · rw [decDigits_one h]
      unfold val
      rw [valFrom_cons, valFrom_nil, toNat_dig h]
      omega
    · rw [decDigits_step h, val_snoc, ih (u / 10) (by omega), toNat_dig (by omega)]
      omega

theorem decDigits_ne (u : Nat) : decDigits u ≠ [] := by
  intro h
  have := decDigits_length u
  rw [h] at this
  have h1 := nDigits_pos u
  simp at this
  omega

theorem nDigits_le : ∀ (k u : Nat), 1 ≤ k → u < 10 ^ k → nDigits u ≤ k
  | 0, u, h, _ => by omega
  | k + 1, u, _, h => by
    by_cases hs : u < 10
    · rw [nDigits_small hs]; omega
    · rw [nDigits_big hs]
      rw [Nat.pow_succ] at h
      by_cases hk : k = 0
      · subst hk; simp at h; omega
      · have := nDigits_le k (u / 10) (by omega) (by omega)
        omega

theorem valFrom_ge : ∀ (l : List UInt8) (a : Nat), a ≤ valFrom a l
  | [], a => by rw [valFrom_nil]; omega
  | b :: l, a => by
    rw [valFrom_cons]
    have := valFrom_ge l (10 * a + (b.toNat - 48))
    omega

theorem parse_digs : ∀ (l : List UInt8) (a : Nat), (∀ b ∈ l, isDig b) → valFrom a l < 18446744073709551616 → parseUint10 a l = .ok (valFrom a l)
  | [], a, _, _ => rfl
  | b :: l, a, hd, hv => by
    have hb : isDig b := hd b List.mem_cons_self
    unfold isDig at hb
    rw [valFrom_cons] at hv ⊢
    have h1 := valFrom_ge l (10 * a + (b.toNat - 48))
    have e : a * 10 + (b.toNat - 48) = 10 * a + (b.toNat - 48) := by omega
    rw [parseUint10, if_pos hb, if_neg (by omega), if_neg (by omega), e]
    exact parse_digs l _ (fun x hx => hd x (List.mem_cons_of_mem _ hx)) hv

theorem parseMag_dec {u : Nat} (h : u < 18446744073709551616) : parseMag (decDigits u) = .ok u := by
  unfold parseMag
  rw [if_neg (decDigits_ne u)]
  have hv := val_decDigits u
  unfold val at hv
  rw [parse_digs _ 0 (decDigits_dig u) (by omega), hv]

theorem head_dec (u : Nat) : ∃ b r, decDigits u = b :: r ∧ isDig b := by
  cases h : decDigits u with
  | nil => exact absurd h (decDigits_ne u)
  | cons b r => exact ⟨b, r, rfl, decDigits_dig u b (by rw [h]; exact List.mem_cons_self)⟩

/-- What is written is read again. -/
theorem atoi_itoa (n : Int) (h0 : -9223372036854775808 ≤ n) (h1 : n ≤ 9223372036854775807) : atoiAll (itoa n) = .ok n := by
  unfold itoa
  by_cases hn : n < 0
  · rw [if_pos hn, atoiAll_minus, parseMag_dec (by omega)]
    simp only [signed]
    rw [if_neg (by omega)]
    congr 1
    omega
  · rw [if_neg hn]
    obtain ⟨b, r, e, hb⟩ := head_dec n.toNat
    unfold isDig at hb
    have hp : parseMag (b :: r) = .ok n.toNat := by rw [← e]; exact parseMag_dec (by omega)
    rw [e, atoiAll_plain b r (by omega) (by omega), hp]
    simp only [signless]
    rw [if_neg (by omega)]
    congr 1
    omega

theorem itoa_inj {n m : Int} (h0 : -9223372036854775808 ≤ n) (h1 : n ≤ 9223372036854775807) (k0 : -9223372036854775808 ≤ m) (k1 : m ≤ 9223372036854775807) (h : itoa n = itoa m) : n = m := by
  have a := atoi_itoa n h0 h1
  have b := atoi_itoa m k0 k1
  rw [h, b] at a
  injection a with a
  exact a.symm

/-- What the project's reading gives, of the numbers from low to high. -/
def pr (low high : Int) (l : List UInt8) : Int × Bool :=
  match atoiAll l with
  | .ok n => if itoa n = l ∧ low ≤ n ∧ n ≤ high then (n, true) else (0, false)
  | _ => (0, false)

theorem pr_yes {low high n : Int} {l : List UInt8} (h : itoa n = l) (h0 : -9223372036854775808 ≤ n) (h1 : n ≤ 9223372036854775807) (hl : low ≤ n) (hh : n ≤ high) : pr low high l = (n, true) := by
  have e : atoiAll l = .ok n := by rw [← h]; exact atoi_itoa n h0 h1
  unfold pr
  rw [e]
  exact if_pos ⟨h, hl, hh⟩

theorem pr_no {low high : Int} {l : List UInt8} (h : ∀ n, itoa n = l → low ≤ n → n ≤ high → False) : pr low high l = (0, false) := by
  unfold pr
  split
  · rw [if_neg (fun hh => h _ hh.1 hh.2.1 hh.2.2)]
  · rfl

theorem pr_true {low high : Int} {l : List UInt8} (h : (pr low high l).2 = true) : itoa (pr low high l).1 = l ∧ low ≤ (pr low high l).1 ∧ (pr low high l).1 ≤ high := by
  unfold pr at h ⊢
  split at h
  · split at h
    · rename_i hc
      rw [if_pos hc]
      exact hc
    · cases h
  · cases h

theorem pr_false {low high : Int} {l : List UInt8} (h : (pr low high l).2 = false) : (pr low high l).1 = 0 := by
  unfold pr at h ⊢
  split at h
  · split at h
    · cases h
    · rename_i hc
      rw [if_neg hc]
  · rfl

/-- What the model's reading gives. -/
def sp (l : List UInt8) : Int × Bool := if 1 ≤ l.length ∧ l.length ≤ 13 ∧ (∀ b ∈ l, isDig b) ∧ val l ≤ 1000000000000 ∧ itoa (val l : Int) = l then ((val l : Int), true) else (0, false)

theorem itoa_nat (u : Nat) : itoa (u : Int) = decDigits u := by unfold itoa; rw [if_neg (by omega)]; simp

theorem sp_eq (l : List UInt8) : sp l = pr 0 1000000000000 l := by
  unfold sp
  split
  · rename_i h
    obtain ⟨_, _, _, h4, h5⟩ := h
    exact (pr_yes h5 (by omega) (by omega) (by omega) (by omega)).symm
  · rename_i h
    refine (pr_no fun n hn h0 h1 => h ?_).symm
    obtain ⟨u, rfl⟩ := Int.eq_ofNat_of_zero_le h0
    rw [itoa_nat] at hn
    have hv := val_decDigits u
    have hl := decDigits_length u
    have hp := nDigits_pos u
    have hd := nDigits_le 13 u (by omega) (by have : (10 : Nat) ^ 13 = 10000000000000 := by decide
                                              omega)
    subst hn
    rw [hv, itoa_nat]
    exact ⟨by omega, by omega, decDigits_dig u, by omega, rfl⟩

/-- What the model's reading with a sign gives. -/
def sps (l : List UInt8) : Int × Bool :=
  if l.head? = some 45 then
    (if (sp l.tail).2 = true ∧ (sp l.tail).1 ≤ 1000000000 ∧ (sp l.tail).1 ≠ 0 then (-(sp l.tail).1, true) else (0, false))
  else
    (if (sp l).2 = true ∧ (sp l).1 ≤ 1000000000 then ((sp l).1, true) else (0, false))

theorem itoa_neg' {n : Int} (h : n < 0) : itoa n = 45 :: decDigits n.natAbs := by unfold itoa; rw [if_pos h]
theorem itoa_pos' {n : Int} (h : ¬ n < 0) : itoa n = decDigits n.toNat := by unfold itoa; rw [if_neg h]

theorem dig_head {u : Nat} : (decDigits u).head? ≠ some 45 := by
  obtain ⟨b, r, e, hb⟩ := head_dec u
  rw [e]
  intro h
  simp only [List.head?_cons, Option.some.injEq] at h
  subst h
  unfold isDig at hb
  have : (45 : UInt8).toNat = 45 := rfl
  omega

theorem sps_eq (l : List UInt8) : sps l = pr (-1000000000) 1000000000 l := by
  unfold sps
  rw [sp_eq, sp_eq]
  split
  · rename_i hh
    obtain ⟨r, rfl⟩ : ∃ r, l = 45 :: r := by
      cases l with
      | nil => simp at hh
      | cons b r => simp at hh; exact ⟨r, by rw [hh]⟩
    have ht : (45 :: r).tail = r := rfl
    rw [ht]
    by_cases hc : (pr 0 1000000000000 r).2 = true ∧ (pr 0 1000000000000 r).1 ≤ 1000000000 ∧ (pr 0 1000000000000 r).1 ≠ 0
    · rw [if_pos hc]
      obtain ⟨c1, c2, c3⟩ := hc
      obtain ⟨e1, e2, e3⟩ := pr_true c1
      refine (pr_yes ?_ (by omega) (by omega) (by omega) (by omega)).symm
      rw [itoa_neg' (by omega)]
      rw [itoa_pos' (by omega)] at e1
      rw [← e1]
      congr 2
      rw [e1]
      omega
    · rw [if_neg hc]
      refine (pr_no fun n hn h0 h1 => hc ?_).symm
      by_cases hneg : n < 0
      · rw [itoa_neg' hneg] at hn
        injection hn with _ hn
        have hy : pr 0 1000000000000 r = ((n.natAbs : Int), true) := pr_yes (by rw [itoa_nat, hn]) (by omega) (by omega) (by omega) (by omega)
        rw [hy]
        exact ⟨rfl, by show (n.natAbs : Int) ≤ 1000000000; omega, by show (n.natAbs : Int) ≠ 0; omega⟩
      · rw [itoa_pos' hneg] at hn
        exact absurd (by rw [hn]; rfl) (dig_head (u := n.toNat))
  · rename_i hh
    by_cases hc : (pr 0 1000000000000 l).2 = true ∧ (pr 0 1000000000000 l).1 ≤ 1000000000
    · rw [if_pos hc]
      obtain ⟨c1, c2⟩ := hc
      obtain ⟨e1, e2, e3⟩ := pr_true c1
      exact (pr_yes e1 (by omega) (by omega) (by omega) (by omega)).symm
    · rw [if_neg hc]
      refine (pr_no fun n hn h0 h1 => hc ?_).symm
      by_cases hneg : n < 0
      · rw [itoa_neg' hneg] at hn
        exact absurd (by rw [← hn]; rfl) hh
      · have hy : pr 0 1000000000000 l = (n, true) := pr_yes hn (by omega) (by omega) (by omega) (by omega)
        rw [hy]
        exact ⟨rfl, by show n ≤ 1000000000; omega⟩

end Go.Proofs.YtlbkbcafkjgckaaDoor.dec

/-
  What Mod and InRange of the project and of the model, and the model's own range test, return at every integer; they change nothing.
  Conditions: none but that arguments are of Go's type int.
-/
namespace Go.Proofs.YtlbkbcafkjgckaaDoor.mdl
open Go.ChangeShapes Go.WideShapes Go.ChangeAt Go.RowKit
set_option linter.unusedVariables false

def inr (n l h : Int) : Bool := decide (l ≤ n) && decide (n ≤ h)
theorem inr_of {n l h : Int} (h0 : l ≤ n) (h1 : n ≤ h) : inr n l h = true := by unfold inr; simp; omega
theorem inr_not {n l h : Int} (hh : ¬ (l ≤ n ∧ n ≤ h)) : inr n l h = false := by unfold inr; simp; omega


theorem l1In (n l h : Int) (w : World) : Calls Tryd.prog 61 #[.int .i64 n, .int .i64 l, .int .i64 h] w fun e w' => e = .returned (.bool (inr n l h)) ∧ w = w' := by
  by_cases h1 : l ≤ n
  all_goals
    by_cases h2 : n ≤ h
    all_goals
      go_enter Tryd.func61, Tryd.ntmps61
      go_wp2
      go_ret
      exact ⟨by simp [inr, h1, h2], rfl⟩

theorem implInRange (n l h : Int) (w : World) : Calls Tryd.prog 86 #[.int .i64 n, .int .i64 l, .int .i64 h] w fun e w' => e = .returned (.bool (inr n l h)) ∧ w = w' := by
  by_cases h1 : l ≤ n
  all_goals
    by_cases h2 : n ≤ h
    all_goals
      go_enter Tryd.func86, Tryd.ntmps86
      go_wp2
      go_ret
      exact ⟨by simp [inr, h1, h2], rfl⟩

theorem tm_bd (n m : Int) (h : 1 ≤ m) : -m < n.tmod m ∧ n.tmod m < m ∧ (n.tmod m + m) % m = n % m ∧ (n.tmod m < 0 → n.tmod m + m = n % m) ∧ (0 ≤ n.tmod m → n.tmod m = n % m) := by
  have e1 := Int.emod_nonneg n (b := m) (by omega)
  have e2 := Int.emod_lt_of_pos n (b := m) (by omega)
  have e3 : (n % m + m) % m = n % m := by rw [Int.add_emod_right, Int.emod_emod]
  have e4 : n % m % m = n % m := Int.emod_emod _ _
  rw [Int.tmod_eq_emod]
  split
  · have z : n % m - ((0 : Nat) : Int) = n % m := by omega
    rw [z]; exact ⟨by omega, by omega, e3, by omega, by omega⟩
  · rename_i hn
    have h0 : n % m ≠ 0 := fun hh => hn (Or.inr (Int.dvd_of_emod_eq_zero hh))
    have h1 : (m.natAbs : Int) = m := by omega
    rw [h1]
    have e5 : n % m - m + m = n % m := by omega
    rw [e5]
    exact ⟨by omega, by omega, e4, by omega, by omega⟩

def md (n m : Int) : Int := if inr m 1 1000000000000 = true then n % m else 0



theorem md_pos (n m : Int) (h0 : 1 ≤ m) (h1 : m ≤ 1000000000000) : md n m = n % m := by unfold md; rw [if_pos (inr_of h0 h1)]

end Go.Proofs.YtlbkbcafkjgckaaDoor.mdl

