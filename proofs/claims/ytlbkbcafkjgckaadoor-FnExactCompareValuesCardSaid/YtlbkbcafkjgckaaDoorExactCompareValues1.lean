/-
  What the texts behind this one use: 15 of the parts of one proof.
  Conditions: those that each theorem names.
-/
import Derived.Below
import Derived.Test.YtlbkbcafkjgckaaDoorRows
import Derived.Laws.OwnMore
import Derived.OwnWalk
import Derived.Deep.AppendLies
import Derived.Deep.Draws
import Derived.Lib.AppendStr
import Derived.Laws.AppendOwnNone
import Derived.Lib.SmallJoins
import Derived.Lib.Hide
import Derived.Laws.BytesArg
import Derived.Deep.Fields
import Derived.ChangeArms
import Derived.OpenShut
import Derived.WalkKit
import Derived.Laws.NewBlocks
import Derived.Laws.NewDeep
import Derived.Lib.Builder
import Derived.Deep.RegionWith
import Derived.Deep.LoopGhost
import Derived.LaidEql
import Derived.Stop.Asserts
import Derived.RowKitTokens
import Derived.Laws.MakeOwn
import Derived.Deep.MidRow
import Derived.ProofKit
import Derived.IntWalk
import Derived.BigQuiet
import Derived.Deep.QuietTactic
import Derived.WalkLawsBesides
import Derived.Test.YtlbkbcafkjgckaaDoorShelf
/-
  Plain facts on varints, without the program: a number's bytes, how bytes are read as a number, and that what is written is read.
  Conditions: those that each theorem names.
-/
namespace Go.Proofs.YtlbkbcafkjgckaaDoor.enc
set_option linter.unusedVariables false

/-- Each is a byte. -/
def Bd (l : List Int) : Prop := ∀ v ∈ l, 0 ≤ v ∧ v ≤ 255
theorem Bd.nil : Bd [] := fun _ h => by cases h
theorem Bd.app {a b : List Int} (ha : Bd a) (hb : Bd b) : Bd (a ++ b) := fun v hv => (List.mem_append.1 hv).elim (ha v) (hb v)
theorem Bd.one {v : Int} (h0 : 0 ≤ v) (h1 : v ≤ 255) : Bd [v] := fun x hx => by
  rw [List.mem_singleton] at hx
  omega
theorem Bd.drop {l : List Int} (h : Bd l) (k : Nat) : Bd (l.drop k) := fun v hv => h v (List.mem_of_mem_drop hv)
theorem Bd.take {l : List Int} (h : Bd l) (k : Nat) : Bd (l.take k) := fun v hv => h v (List.mem_of_mem_take hv)

def encF : Nat → Int → List Int
  | 0, n => [n]
  | f + 1, n => if n < 128 then [n] else (n % 128 + 128) :: encF f (n / 128)
/-- The varint of n, where n is below 128^6. -/
def enc (n : Int) : List Int := encF 5 n

theorem encF_lt (f : Nat) (n : Int) (h : n < 128) : encF f n = [n] := by
  cases f with
  | zero => rfl
  | succ f => simp only [encF]; rw [if_pos h]
theorem encF_ge (f : Nat) (n : Int) (h : 128 ≤ n) : encF (f + 1) n = (n % 128 + 128) :: encF f (n / 128) := by
  simp only [encF]; rw [if_neg (by omega)]
theorem pow_le (f : Nat) : (128 : Int) ≤ 128 ^ (f + 1) := by
  induction f with
  | zero => decide
  | succ f ih => rw [Int.pow_succ]; omega
theorem div_lt {f : Nat} {n : Int} (h : n < 128 ^ (f + 1 + 1)) : n / 128 < 128 ^ (f + 1) := by
  rw [Int.pow_succ] at h
  omega

theorem encF_len : ∀ (f : Nat) (n : Int), 1 ≤ (encF f n).length ∧ (encF f n).length ≤ f + 1
  | 0, n => by simp [encF]
  | f + 1, n => by
    have ih := encF_len f (n / 128)
    by_cases h : n < 128
    · rw [encF_lt _ _ h, List.length_singleton]; omega
    · rw [encF_ge _ _ (by omega), List.length_cons]; omega
theorem enc_len (n : Int) : 1 ≤ (enc n).length ∧ (enc n).length ≤ 6 := encF_len 5 n

theorem encF_bd : ∀ (f : Nat) (n : Int), 0 ≤ n → n < 128 ^ (f + 1) → Bd (encF f n)
  | 0, n, h0, h1 => by
    have : (128 : Int) ^ (0 + 1) = 128 := by decide
    exact Bd.one h0 (by omega)
  | f + 1, n, h0, h1 => by
    by_cases h : n < 128
    · rw [encF_lt _ _ h]; exact Bd.one h0 (by omega)
    · rw [encF_ge _ _ (by omega)]
      exact Bd.app (a := [_]) (Bd.one (by omega) (by omega)) (encF_bd f (n / 128) (by omega) (div_lt h1))
theorem p6 : (128 : Int) ^ (5 + 1) = 4398046511104 := by decide
theorem enc_bd (n : Int) (h0 : 0 ≤ n) (h1 : n ≤ 1000000000000) : Bd (enc n) := encF_bd 5 n h0 (by rw [p6]; omega)

/-- How far the bytes of n0 are written: done, and what is left is n. -/
def Far (n0 : Int) (done : List Int) (n : Int) : Prop := ∃ f, 0 ≤ n ∧ n < 128 ^ (f + 1) ∧ enc n0 = done ++ encF f n ∧ Bd done
theorem Far.start (n : Int) (h0 : 0 ≤ n) (h1 : n ≤ 1000000000000) : Far n [] n := ⟨5, h0, by rw [p6]; omega, rfl, Bd.nil⟩
theorem Far.nonneg {n0 n : Int} {d : List Int} (h : Far n0 d n) : 0 ≤ n := by obtain ⟨_, h, _⟩ := h; exact h
theorem Far.step {n0 n : Int} {d : List Int} (h : Far n0 d n) (hn : 128 ≤ n) : Far n0 (d ++ [n % 128 + 128]) (n / 128) := by
  obtain ⟨f, h0, h1, h2, h3⟩ := h
  cases f with
  | zero =>
    have : (128 : Int) ^ (0 + 1) = 128 := by decide
    omega
  | succ f => exact ⟨f, by omega, div_lt h1, by rw [h2, encF_ge _ _ hn, List.append_assoc]; rfl, h3.app (Bd.one (by omega) (by omega))⟩
theorem Far.last {n0 n : Int} {d : List Int} (h : Far n0 d n) (hn : n < 128) : enc n0 = d ++ [n] := by
  obtain ⟨f, h0, h1, h2, h3⟩ := h
  rw [h2, encF_lt _ _ hn]
theorem Far.bd {n0 n : Int} {d : List Int} (h : Far n0 d n) : Bd d := by obtain ⟨_, _, _, _, h⟩ := h; exact h
theorem Far.len {n0 n : Int} {d : List Int} (h : Far n0 d n) : d.length ≤ 5 := by
  obtain ⟨f, h0, h1, h2, h3⟩ := h
  have a := (enc_len n0).2
  have b := (encF_len f n).1
  rw [h2, List.length_append] at a
  omega

/-- Reading: k bytes have been read, they are n, the next one counts u times. -/
def decF : Nat → Nat → Int → Int → List Int → Option (Int × Nat)
  | 0, _, _, _, _ => none
  | _ + 1, _, _, _, [] => none
  | f + 1, k, n, u, c :: r => if c < 128 then (if (0 < k ∧ c = 0) ∨ 1000000000000 < n + c * u then none else some (n + c * u, k + 1)) else decF f (k + 1) (n + (c - 128) * u) (u * 128) r

/-- What is read from index at. -/
def dec (l : List Int) (i : Int) : Option (Int × Nat) := if 0 ≤ i ∧ i ≤ l.length then decF 6 0 0 1 (l.drop i.toNat) else none

theorem decF_nil (f k : Nat) (n u : Int) : decF f k n u [] = none := by cases f <;> rfl
theorem decF_more (f k : Nat) (n u c : Int) (r : List Int) (h : 128 ≤ c) : decF (f + 1) k n u (c :: r) = decF f (k + 1) (n + (c - 128) * u) (u * 128) r := by
  simp only [decF]; rw [if_neg (by omega)]
theorem decF_bad (f k : Nat) (n u c : Int) (r : List Int) (h : c < 128) (hb : (0 < k ∧ c = 0) ∨ 1000000000000 < n + c * u) : decF (f + 1) k n u (c :: r) = none := by
  simp only [decF]; rw [if_pos h, if_pos hb]
theorem decF_good (f k : Nat) (n u c : Int) (r : List Int) (h : c < 128) (hb : ¬ ((0 < k ∧ c = 0) ∨ 1000000000000 < n + c * u)) : decF (f + 1) k n u (c :: r) = some (n + c * u, k + 1) := by
  simp only [decF]; rw [if_pos h, if_neg hb]

theorem decF_encF : ∀ (f k : Nat) (m u n : Int) (rest : List Int), 0 ≤ n → n < 128 ^ (f + 1) → m + n * u ≤ 1000000000000 → (0 < k → 0 < n) →
    decF (f + 1) k m u (encF f n ++ rest) = some (m + n * u, k + (encF f n).length)
  | 0, k, m, u, n, rest, h0, h1, h2, h3 => by
    have e : (128 : Int) ^ (0 + 1) = 128 := by decide
    show decF (0 + 1) k m u (n :: rest) = _
    rw [decF_good _ _ _ _ _ _ (by omega) (fun hh => by omega)]
    rfl
  | f + 1, k, m, u, n, rest, h0, h1, h2, h3 => by
    by_cases h : n < 128
    · rw [encF_lt _ _ h]
      show decF (f + 1 + 1) k m u (n :: rest) = _
      rw [decF_good _ _ _ _ _ _ h (fun hh => by omega)]
      rfl
    · have e : m + (n % 128 + 128 - 128) * u + n / 128 * (u * 128) = m + n * u := by
        have e1 : n % 128 + 128 - 128 = n % 128 := by omega
        have e2 : n / 128 * (u * 128) = (128 * (n / 128)) * u := by
          rw [Int.mul_comm u 128, ← Int.mul_assoc, Int.mul_comm (n / 128) 128]
        rw [e1, e2, Int.add_assoc, ← Int.add_mul]
        have e3 : n % 128 + 128 * (n / 128) = n := by omega
        rw [e3]
      rw [encF_ge _ _ (by omega), List.cons_append, decF_more _ _ _ _ _ _ (by omega), decF_encF f (k + 1) _ _ (n / 128) rest (by omega) (div_lt h1) (by rw [e]; exact h2) (fun _ => by omega), e, List.length_cons]
      congr 2
      omega

/-- What is written behind p is read from there, whatever stands behind it. -/
theorem dec_enc (p rest : List Int) (n : Int) (h0 : 0 ≤ n) (h1 : n ≤ 1000000000000) : dec (p ++ enc n ++ rest) (p.length : Int) = some (n, (enc n).length) := by
  unfold dec
  rw [if_pos ⟨by omega, by simp only [List.length_append]; omega⟩]
  have e : (p ++ enc n ++ rest).drop ((p.length : Int)).toNat = enc n ++ rest := by
    rw [Int.toNat_natCast, List.append_assoc, List.drop_left]
  rw [e]
  have := decF_encF 5 0 0 1 n rest h0 (by rw [p6]; omega) (by omega) (fun h => by omega)
  unfold enc
  rw [this]
  congr 2 <;> omega

theorem decF_bounds : ∀ (f k : Nat) (n u : Int) (l : List Int) (x : Int) (j : Nat), 0 ≤ n → 0 ≤ u → Bd l → decF f k n u l = some (x, j) → 0 ≤ x ∧ x ≤ 1000000000000 ∧ k < j ∧ j ≤ k + f ∧ j ≤ k + l.length
  | 0, k, n, u, l, x, j, h0, h1, hb, h => by cases h
  | f + 1, k, n, u, [], x, j, h0, h1, hb, h => by cases h
  | f + 1, k, n, u, c :: r, x, j, h0, h1, hb, h => by
    have hc := hb c List.mem_cons_self
    by_cases h128 : c < 128
    · by_cases hbad : (0 < k ∧ c = 0) ∨ 1000000000000 < n + c * u
      · rw [decF_bad _ _ _ _ _ _ h128 hbad] at h; cases h
      · rw [decF_good _ _ _ _ _ _ h128 hbad] at h
        injection h with h
        obtain ⟨rfl, rfl⟩ := Prod.mk.inj h
        have := Int.mul_nonneg hc.1 h1
        rw [List.length_cons]
        omega
    · rw [decF_more _ _ _ _ _ _ (by omega)] at h
      have := Int.mul_nonneg (a := c - 128) (b := u) (by omega) h1
      have ih := decF_bounds f (k + 1) _ _ r x j (by omega) (by omega) (fun v hv => hb v (List.mem_cons_of_mem _ hv)) h
      rw [List.length_cons]
      omega

theorem dec_bounds {l : List Int} {i x : Int} {j : Nat} (hb : Bd l) (h : dec l i = some (x, j)) : 0 ≤ x ∧ x ≤ 1000000000000 ∧ 0 ≤ i ∧ 0 < j ∧ j ≤ 6 ∧ i + j ≤ l.length := by
  unfold dec at h
  split at h
  · rename_i hi
    have := decF_bounds _ _ _ _ _ _ _ (by omega) (by omega) (hb.drop _) h
    rw [List.length_drop] at this
    omega
  · cases h

/-- The number of a signed one. -/
def zig (n : Int) : Int := if n < 0 then -2 * n - 1 else 2 * n
theorem zig_bd {n : Int} (h0 : -1000000000 ≤ n) (h1 : n ≤ 1000000000) : 0 ≤ zig n ∧ zig n ≤ 2000000000 := by unfold zig; split <;> omega
/-- The signed number of one. -/
def zag (c : Int) : Int := if c % 2 = 1 then -((c + 1) / 2) else c / 2
theorem zag_zig (n : Int) : zag (zig n) = n := by unfold zag zig; split <;> split <;> omega

/-- What AppendSigned appends. -/
def sig (n : Int) : List Int := if -1000000000 ≤ n ∧ n ≤ 1000000000 then enc (zig n) else []
theorem sig_bd (n : Int) : Bd (sig n) := by
  unfold sig
  split
  · rename_i h
    have := zig_bd h.1 h.2
    exact enc_bd _ this.1 (by omega)
  · exact Bd.nil
theorem sig_len (n : Int) : (sig n).length ≤ 6 := by
  unfold sig
  split
  · exact (enc_len _).2
  · simp
/-- What AppendUvarint appends. -/
def uva (n : Int) : List Int := if 0 ≤ n ∧ n ≤ 1000000000000 then enc n else []
theorem uva_bd (n : Int) : Bd (uva n) := by
  unfold uva
  split
  · rename_i h
    exact enc_bd _ h.1 h.2
  · exact Bd.nil
theorem uva_len (n : Int) : (uva n).length ≤ 6 := by
  unfold uva
  split
  · exact (enc_len _).2
  · simp

/-- What ReadUvarint returns: number, next index, ok. -/
def rdu (l : List Int) (i : Int) : Int × Int × Bool := match dec l i with
  | some (n, k) => (n, i + k, true)
  | none => (0, 0, false)
theorem rdu_some {l : List Int} {i n : Int} {k : Nat} (h : dec l i = some (n, k)) : rdu l i = (n, i + k, true) := by unfold rdu; rw [h]
theorem rdu_none {l : List Int} {i : Int} (h : dec l i = none) : rdu l i = (0, 0, false) := by unfold rdu; rw [h]
theorem rdu_bd {l : List Int} (hb : Bd l) (i : Int) : 0 ≤ (rdu l i).1 ∧ (rdu l i).1 ≤ 1000000000000 ∧ 0 ≤ (rdu l i).2.1 ∧ (rdu l i).2.1 ≤ l.length ∧ ((rdu l i).2.2 = false → (rdu l i).1 = 0 ∧ (rdu l i).2.1 = 0) := by
  cases h : dec l i with
  | none => rw [rdu_none h]; exact ⟨Int.le_refl 0, show (0 : Int) ≤ 1000000000000 by omega, Int.le_refl 0, show (0 : Int) ≤ (l.length : Int) by omega, fun _ => ⟨rfl, rfl⟩⟩
  | some x =>
    obtain ⟨n, k⟩ := x
    rw [rdu_some h]
    have := dec_bounds hb h
    exact ⟨by omega, by omega, by show 0 ≤ i + (k : Int); omega, by show i + (k : Int) ≤ _; omega, fun hh => by cases hh⟩
theorem rdu_enc (p rest : List Int) (n : Int) (h0 : 0 ≤ n) (h1 : n ≤ 1000000000000) : rdu (p ++ enc n ++ rest) (p.length : Int) = (n, ((p ++ enc n).length : Int), true) := by
  rw [rdu_some (dec_enc p rest n h0 h1), List.length_append, Int.natCast_add]

/-- What ReadSigned returns. -/
def rds (l : List Int) (i : Int) : Int × Int × Bool := if (rdu l i).2.2 = true ∧ (rdu l i).1 ≤ 2000000000 then (zag (rdu l i).1, (rdu l i).2.1, true) else (0, 0, false)
theorem rds_sig (p : List Int) (n : Int) (h0 : -1000000000 ≤ n) (h1 : n ≤ 1000000000) : rds (p ++ sig n) (p.length : Int) = (n, ((p ++ sig n).length : Int), true) := by
  have hz := zig_bd h0 h1
  have e : sig n = enc (zig n) := by unfold sig; rw [if_pos ⟨h0, h1⟩]
  have h := rdu_enc p [] (zig n) hz.1 (by omega)
  rw [List.append_nil] at h
  unfold rds
  rw [e, h, if_pos ⟨rfl, hz.2⟩, zag_zig]

/-- What ReadText returns: the bytes, the next index, ok. -/
def rdt (l : List Int) (i most : Int) : List Int × Int × Bool :=
  if (rdu l i).2.2 = true ∧ (rdu l i).1 ≤ most ∧ (rdu l i).1 ≤ l.length - (rdu l i).2.1 then ((l.drop (rdu l i).2.1.toNat).take (rdu l i).1.toNat, (rdu l i).2.1 + (rdu l i).1, true) else ([], 0, false)

theorem rdt_text (p s : List Int) (hs : s.length ≤ 1000000) (most : Int) : rdt (p ++ enc s.length ++ s) (p.length : Int) most = if (s.length : Int) ≤ most then (s, ((p ++ enc s.length ++ s).length : Int), true) else ([], 0, false) := by
  have h := rdu_enc p s (s.length : Int) (by omega) (by omega)
  unfold rdt
  rw [h]
  simp only [List.length_append, Int.natCast_add]
  by_cases hm : (s.length : Int) ≤ most
  · rw [if_pos ⟨trivial, hm, by omega⟩, if_pos hm]
    refine Prod.ext ?_ rfl
    show ((p ++ enc (s.length : Int) ++ s).drop ((p.length : Int) + ((enc (s.length : Int)).length : Int)).toNat).take ((s.length : Int)).toNat = s
    have e : ((p.length : Int) + ((enc (s.length : Int)).length : Int)).toNat = (p ++ enc (s.length : Int)).length := by rw [List.length_append]; omega
    rw [e, List.drop_left, Int.toNat_natCast, List.take_length]
  · rw [if_neg (fun hh => hm hh.2.1), if_neg hm]

end Go.Proofs.YtlbkbcafkjgckaaDoor.enc

/-
  Slices of bytes in memory: one that reads as a list of numbers, one that the call itself has made, and how both are kept while memory grows.
  Conditions: those that each theorem names.
-/
namespace Go.Proofs.YtlbkbcafkjgckaaDoor.mem
open Go.RowKit
set_option linter.unusedVariables false

theorem u8row : (Tryd.prog.info? 5).map (fun i => (i.zero, i.size, i.bytes)) = some (some (.int .u8 0), 1, 1) := by kernel_rfl

/-- The numbers as cells. -/
def cs (l : List Int) : List Value := l.map (Value.int .u8)
theorem cs_len (l : List Int) : (cs l).length = l.length := List.length_map _
theorem cs_app (a b : List Int) : cs (a ++ b) = cs a ++ cs b := List.map_append
theorem cs_get {l : List Int} {j : Nat} {v : Int} (h : l[j]? = some v) : (cs l)[j]? = some (.int .u8 v) := by unfold cs; rw [List.getElem?_map, h]; rfl
theorem cs_set (l : List Int) (j : Nat) (v : Int) : cs (l.set j v) = (cs l).set j (.int .u8 v) := List.map_set
theorem cs_one (l : List Int) : ∀ u ∈ cs l, u.oneCell' = true := ints_oneCell .u8 l
theorem cs_zero (n : Nat) : cs (List.replicate n 0) = List.replicate n (.int .u8 0) := List.map_replicate

theorem add_block (a : Addr) (n : Nat) : (a.add n).block = a.block := by unfold Addr.add; split <;> rfl
theorem add_add (a : Addr) (i j : Nat) : (a.add i).add j = a.add (i + j) := by
  unfold Addr.add
  by_cases hi : i = 0 <;> by_cases hj : j = 0 <;> simp [hi, hj, Nat.add_assoc]
theorem add_zero_lit (g j : Nat) : (⟨g, 0, none⟩ : Addr).add j = ⟨g, j, none⟩ := by rw [Addr.add_lit, Nat.zero_add]

/-- The slice at A of n bytes reads as l. -/
def Rd (w : World) (A : Option Addr) (n : Nat) (l : List Int) : Prop :=
  l.length = n ∧ enc.Bd l ∧ (0 < n → ∃ a, A = some a ∧ ∀ j v, l[j]? = some v → w.cell? (a.add j) = some (.int .u8 v))

theorem Rd.len {w : World} {A : Option Addr} {n : Nat} {l : List Int} (h : Rd w A n l) : l.length = n := h.1
theorem Rd.bd {w : World} {A : Option Addr} {n : Nat} {l : List Int} (h : Rd w A n l) : enc.Bd l := h.2.1
theorem Rd.at_ {w : World} {A : Option Addr} {n k : Nat} {l : List Int} (h : Rd w A n l) (hk : k < n) : ∃ a v, A = some a ∧ l[k]? = some v ∧ 0 ≤ v ∧ v ≤ 255 ∧ w.cell? (a.add k) = some (.int .u8 v) := by
  obtain ⟨h1, h2, h3⟩ := h
  obtain ⟨a, e, hc⟩ := h3 (by omega)
  have hl : k < l.length := by omega
  have hv := h2 l[k] (List.getElem_mem hl)
  exact ⟨a, l[k], e, List.getElem?_eq_getElem hl, hv.1, hv.2, hc k _ (List.getElem?_eq_getElem hl)⟩
/-- In the block of the slice, where it has a byte. -/
theorem Rd.lt {w : World} {A : Option Addr} {n : Nat} {l : List Int} (h : Rd w A n l) (hn : 0 < n) : ∃ a, A = some a ∧ a.block < w.heap.size := by
  obtain ⟨a, v, e, _, _, _, hc⟩ := h.at_ hn
  refine ⟨a, e, ?_⟩
  have := World.block_lt_of_cell? _ _ hc
  rwa [add_block] at this
/-- No byte of it lies in block row. -/
def Off (A : Option Addr) (n : Nat) (row : Option Nat) : Prop := 0 < n → ∀ a, A = some a → some a.block ≠ row
theorem Off.none_ (A : Option Addr) (n : Nat) : Off A n none := fun _ a _ h => by cases h
theorem Rd.grown {w w' : World} {A : Option Addr} {n : Nat} {l : List Int} {row : Option Nat} (h : Rd w A n l) (hg : w.grownBy w' row) (ho : Off A n row) : Rd w' A n l := by
  refine ⟨h.1, h.2.1, fun hn => ?_⟩
  obtain ⟨a, e, hc⟩ := h.2.2 hn
  exact ⟨a, e, fun j v hv => hg.cell (hc j v hv) (by rw [add_block]; exact ho hn a e)⟩
theorem none_of_below {w w' : World} (h : Below w.heap.size w w') : w.grownBy w' none := ⟨h.os, h.tape, h.output, h.size, fun k hk _ => h.block k hk⟩
theorem below_of_none {w w' : World} (h : w.grownBy w' none) : Below w.heap.size w w' := ⟨h.os, h.tape, h.output, h.size, fun k hk => h.block k hk (fun e => by cases e)⟩
theorem Rd.below {w w' : World} {A : Option Addr} {n : Nat} {l : List Int} (h : Rd w A n l) (hb : Below w.heap.size w w') : Rd w' A n l := h.grown (none_of_below hb) (Off.none_ _ _)
theorem Rd.alloc {w : World} {A : Option Addr} {n : Nat} {l : List Int} (h : Rd w A n l) (o : Obj) : Rd (w.alloc o) A n l := h.grown (World.grownBy_alloc w o none) (Off.none_ _ _)
theorem Rd.draws {w : World} {A : Option Addr} {n : Nat} {l : List Int} (h : Rd w A n l) (k : Nat) : Rd (w.drewN k) A n l := h

/-- A slice of bytes that the call has made: its block is lo or above. -/
def Own (w : World) (lo : Nat) (A : Option Addr) (n c : Nat) (l : List Int) : Prop :=
  l.length = n ∧ enc.Bd l ∧ w.ownsRow lo 5 1 (.slice A n c) n (cs l)

section
variable {w w' : World} {lo : Nat} {A : Option Addr} {n c : Nat} {l : List Int}
theorem Own.len (h : Own w lo A n c l) : l.length = n := h.1
theorem Own.bd (h : Own w lo A n c l) : enc.Bd l := h.2.1
theorem Own.row (h : Own w lo A n c l) : w.ownsRow lo 5 1 (.slice A n c) n (cs l) := h.2.2
theorem Own.form (h : Own w lo A n c l) : (A = none ∧ n = 0) ∨ ∃ g, A = some ⟨g, 0, none⟩ ∧ lo ≤ g ∧ g < w.heap.size := by
  rcases h.2.2.2 with ⟨e, h0⟩ | ⟨g, cap, cur, e, hb, hg, _⟩
  · injection e with e1
    exact .inl ⟨e1, h0⟩
  · injection e with e1
    exact .inr ⟨g, e1, hb, draw_lt hg⟩
where
  draw_lt {w : World} {N : Nat} {o : Obj} (h : w.heap[N]? = some o) : N < w.heap.size := by
    rcases Nat.lt_or_ge N w.heap.size with hlt | hge
    · exact hlt
    · rw [Array.getElem?_eq_none hge] at h; cases h
theorem Own.rd (h : Own w lo A n c l) : Rd w A n l := by
  refine ⟨h.1, h.2.1, fun hn => ?_⟩
  rcases h.form with ⟨_, h0⟩ | ⟨g, e, _⟩
  · omega
  · subst e
    exact ⟨_, rfl, fun j v hv => h.row.cells (g := g) rfl j _ (cs_get hv)⟩
theorem Own.block (h : Own w lo A n c l) : ∀ k, (Value.slice A n c).ownBlock = some k → lo ≤ k ∧ k < w.heap.size := h.row.lt
theorem Own.grown {row : Option Nat} (h : Own w lo A n c l) (hg : w.grownBy w' row) (ho : (Value.slice A n c).ownBlock = none ∨ (Value.slice A n c).ownBlock ≠ row) : Own w' lo A n c l :=
  ⟨h.1, h.2.1, h.row.kept hg ho⟩
theorem Own.none_ (h : Own w lo A n c l) (hg : w.grownBy w' none) : Own w' lo A n c l := h.grown hg (by
  cases e : (Value.slice A n c).ownBlock with
  | none => exact .inl rfl
  | some k => exact .inr (by simp))
theorem Own.below (h : Own w lo A n c l) (hb : Below w.heap.size w w') : Own w' lo A n c l := h.none_ (none_of_below hb)
theorem Own.alloc (h : Own w lo A n c l) (o : Obj) : Own (w.alloc o) lo A n c l := ⟨h.1, h.2.1, h.row.alloc o⟩
theorem Own.draws (h : Own w lo A n c l) (k : Nat) : Own (w.drewN k) lo A n c l := h
theorem Own.less {lo' : Nat} (h : Own w lo A n c l) (hl : lo' ≤ lo) : Own w lo' A n c l := ⟨h.1, h.2.1, Joins.ownsRow_le h.row hl⟩
/-- Where it has a byte it lies at the head of a block. -/
theorem Own.head (h : Own w lo A n c l) (hn : 0 < n) : ∃ g, A = some ⟨g, 0, none⟩ ∧ lo ≤ g ∧ g < w.heap.size ∧ (Value.slice A n c).ownBlock = some g := by
  rcases h.form with ⟨_, h0⟩ | ⟨g, e, h1, h2⟩
  · omega
  · subst e
    exact ⟨g, rfl, h1, h2, rfl⟩
/-- A write to another one's block. -/
theorem Own.far {lo' : Nat} {A' : Option Addr} {n' c' : Nat} {l' : List Int} (h : Own w lo A n c l) (h' : Own w lo' A' n' c' l') (hd : ∀ k, (Value.slice A n c).ownBlock = some k → (Value.slice A' n' c').ownBlock ≠ some k) :
    Off A' n' (Value.slice A n c).ownBlock := fun hn a ha e => by
  obtain ⟨g, e1, _, _, e2⟩ := h'.head hn
  have : a = ⟨g, 0, none⟩ := by rw [e1] at ha; injection ha with ha; exact ha.symm
  subst this
  exact hd g e.symm e2
/-- What came in before lies elsewhere. -/
theorem Own.off {B : Nat} {A' : Option Addr} {n' : Nat} (h : Own w lo A n c l) (hB : B ≤ lo) (hr : 0 < n' → ∃ a, A' = some a ∧ a.block < B) : Off A' n' (Value.slice A n c).ownBlock := fun hn a ha e => by
  obtain ⟨a', e1, hlt⟩ := hr hn
  have : a = a' := by rw [e1] at ha; injection ha with ha; exact ha.symm
  subst this
  have := (h.block _ e.symm).1
  omega
end

/-- Nothing yet. -/
theorem own_empty (w : World) (lo : Nat) {A : Option Addr} {n c : Nat} (h : w.ownsRow lo 5 1 (.slice A n c) n []) (hn : n = 0) : Own w lo A n c [] := ⟨by simp [hn], enc.Bd.nil, h⟩

/-- A law of a slice that the call has made, from a slice value. -/
theorem own_mk {w : World} {lo : Nat} {v : Value} {n : Nat} {l : List Int} (h : w.ownsRow lo 5 1 v n (cs l)) (hb : enc.Bd l) : ∃ A c, v = .slice A n c ∧ Own w lo A n c l := by
  have hl : l.length = n := by have := h.1; rw [cs_len] at this; omega
  rcases Joins.ownsRow_forms h with ⟨rfl, rfl⟩ | ⟨g, cap, rfl⟩
  · exact ⟨none, 0, rfl, hl, hb, h⟩
  · exact ⟨_, cap, rfl, hl, hb, h⟩

/-- The mark numbers from k on. -/
def marks (k : Int) : Nat → List Int
  | 0 => []
  | n + 1 => (k % 256) :: marks (k + 1) n
theorem marks_len : ∀ (n : Nat) (k : Int), (marks k n).length = n
  | 0, _ => rfl
  | n + 1, k => by rw [marks, List.length_cons, marks_len n]
theorem marks_bd : ∀ (n : Nat) (k : Int), enc.Bd (marks k n)
  | 0, _ => enc.Bd.nil
  | n + 1, k => enc.Bd.app (a := [_]) (enc.Bd.one (by omega) (by omega)) (marks_bd n (k + 1))
theorem marks_get : ∀ (n : Nat) (k : Int) (j : Nat), j < n → (marks k n)[j]? = some ((k + j) % 256)
  | 0, _, _, h => by omega
  | n + 1, k, 0, _ => by simp [marks]
  | n + 1, k, j + 1, h => by
    have e : k + 1 + (j : Int) = k + ((j + 1 : Nat) : Int) := by omega
    rw [marks, List.getElem?_cons_succ, marks_get n (k + 1) j (by omega), e]

/-- A list that is filled from the front: the first k are l's. -/
def Filled (l m : List Int) (k : Nat) : Prop := m.length = l.length ∧ m.take k = l.take k
theorem Filled.start (l m : List Int) (h : m.length = l.length) : Filled l m 0 := ⟨h, by simp⟩
theorem Filled.step {l m : List Int} {k : Nat} {v : Int} (h : Filled l m k) (hv : l[k]? = some v) : Filled l (m.set k v) (k + 1) := by
  refine ⟨by rw [List.length_set]; exact h.1, ?_⟩
  obtain ⟨hk, e⟩ := List.getElem?_eq_some_iff.1 hv
  have hm := h.1
  rw [List.take_succ_eq_append_getElem (by rw [List.length_set]; omega), List.take_succ_eq_append_getElem hk, List.take_set, List.set_eq_of_length_le (by rw [List.length_take]; omega), h.2, List.getElem_set_self, e]
theorem Filled.all {l m : List Int} {k : Nat} (h : Filled l m k) (hk : l.length ≤ k) : m = l := by
  have h2 := h.2
  rw [List.take_of_length_le hk, List.take_of_length_le (by rw [h.1]; exact hk)] at h2
  exact h2
theorem bd_set {m : List Int} (h : enc.Bd m) (k : Nat) {v : Int} (h0 : 0 ≤ v) (h1 : v ≤ 255) : enc.Bd (m.set k v) := fun x hx => by
  rcases List.mem_or_eq_of_mem_set hx with hx | rfl
  · exact h x hx
  · exact ⟨h0, h1⟩

/-- One byte of an own slice is written. -/
theorem Own.set {w : World} {lo g n c : Nat} {l : List Int} (h : Own w lo (some ⟨g, 0, none⟩) n c l) (k : Nat) {v : Int} (h0 : 0 ≤ v) (h1 : v ≤ 255) :
    Own (w.setCell ⟨g, k, none⟩ (.int .u8 v)) lo (some ⟨g, 0, none⟩) n c (l.set k v) ∧ w.grownBy (w.setCell ⟨g, k, none⟩ (.int .u8 v)) (some g) := by
  have hs := h.row.stored k (.int .u8 v)
  exact ⟨⟨by rw [List.length_set]; exact h.1, bd_set h.2.1 k h0 h1, by rw [cs_set]; exact hs.1⟩, hs.2⟩
theorem Own.cellk {w : World} {lo g n c k : Nat} {l : List Int} (h : Own w lo (some ⟨g, 0, none⟩) n c l) (hk : k < n) : (∃ v, w.cell? ⟨g, k, none⟩ = some (.int .u8 v)) ∧ w.frozen? ⟨g, k, none⟩ = false := by
  refine ⟨?_, h.row.frozenAt k⟩
  have hl : k < l.length := by rw [h.1]; exact hk
  exact ⟨l[k], by rw [h.row.cellAt k (by omega)]; exact cs_get (List.getElem?_eq_getElem hl)⟩

theorem grown_trans {a b c : World} {r : Option Nat} (h : a.grownBy b r) (k : b.grownBy c r) : a.grownBy c r :=
  ⟨k.os.trans h.os, k.tape.trans h.tape, k.output.trans h.output, Nat.le_trans h.size k.size, fun j hj hne => (k.block j (Nat.lt_of_lt_of_le hj h.size) hne).trans (h.block j hj hne)⟩
theorem grown_draws {a w : World} {r : Option Nat} (h : a.grownBy w r) (n : Nat) : a.grownBy (w.drewN n) r := ⟨h.os, h.tape, h.output, h.size, h.block⟩
theorem grown_new {a w : World} {r : Option Nat} (h : a.grownBy w r) (o : Obj) : a.grownBy (w.alloc o) r :=
  ⟨h.os, h.tape, h.output, Nat.le_trans h.size (by simp), fun k hk hne => (Below.heap_alloc w o k (Nat.lt_of_lt_of_le hk h.size)).trans (h.block k hk hne)⟩

theorem below_own {w w' : World} {lo : Nat} {A : Option Addr} {n c : Nat} {l : List Int} (h : Own w lo A n c l) (hg : w.grownBy w' (Value.slice A n c).ownBlock) (hlo : lo ≤ w.heap.size) : Below lo w w' :=
  (Below.refl lo w).grown hg hlo (fun k hk => (h.block k hk).1)

/-- A new block of one byte. -/
theorem rd_one (w : World) (v : Int) (h0 : 0 ≤ v) (h1 : v ≤ 255) (t : TypeId) : Rd (w.alloc (.cells #[.int .u8 v] t)) (some ⟨w.heap.size, 0, none⟩) 1 [v] := by
  refine ⟨rfl, enc.Bd.one h0 h1, fun _ => ⟨_, rfl, fun j x hx => ?_⟩⟩
  cases j with
  | zero =>
    have : v = x := by simpa using hx
    subst this
    rw [add_zero_lit, World.cell?_alloc_new]
    rfl
  | succ j => simp at hx
/-- A new block of none. -/
theorem own_none (w : World) (lo : Nat) (hlo : lo ≤ w.heap.size) : Own (w.alloc (.cells #[] 5)) lo (some ⟨w.heap.size, 0, none⟩) 0 0 [] :=
  own_empty _ _ (World.ownsRow_made w #[] 0 hlo (Nat.zero_le _) rfl) rfl
theorem own_nil (w : World) (lo : Nat) : Own w lo none 0 0 [] := own_empty _ _ (World.ownsRow_nil w lo _ 1) rfl

theorem run_none (P : Program) (w : World) (t ty : TypeId) (i : TypeInfo) (ht : P.underlying t = some (.slice 5)) (hi : P.info? 5 = some i) (lo : Nat) (v : Value) (n d : Nat) (xs : List Value) (hown : w.ownsRow lo 5 1 v n xs) :
    (Builtin.append_ #[t, t] ty #[v, .slice none 0 d]).run P w = .ok v w := by
  rcases hown.2 with ⟨rfl, rfl⟩ | ⟨g, cap, cur, rfl, _, _, hnc, _⟩
  · simp [Builtin.append_, run_underlying ht, sizeOf, typeInfo, hi, Builtin.lenOf, Builtin.firstCells]
  · simp [Builtin.append_, run_underlying ht, sizeOf, typeInfo, hi, Builtin.lenOf, Builtin.firstCells, hnc, storeCells]

/-- append of a slice that reads as r onto an own one. -/
theorem append_rd {P : Program} {w : World} {ops : Array Oper} {rest : List Oper} {o : Oper} {a : Act} {Q : Exit → Act → World → Prop} (hgd : o.guard = none) (s x : Operand) (t : TypeId)
    (ho : o.op = .call { callee := .builtin .append, args := #[s, x], argTypes := #[t, t] })
    (i : TypeInfo) (ht : P.underlying t = some (.slice 5)) (hi : P.info? 5 = some i) (hz : i.zero = some (.int .u8 0)) (hsize : i.size = 1) (hby : i.bytes = 1)
    (lo : Nat) (A : Option Addr) (n c : Nat) (l : List Int) (hs : a.eval s = .slice A n c) (hown : Own w lo A n c l)
    (B : Option Addr) (m d : Nat) (r : List Int) (hx : a.eval x = .slice B m d) (hr : Rd w B m r) (hb : n + m ≤ 140737488355328) (hlo : lo ≤ w.heap.size)
    (h : ∀ A' c' w', Own w' lo A' (n + m) c' (l ++ r) → Below lo w w' → wpList P ops Q rest (a.put o.dst (.slice A' (n + m) c')) w') : wpList P ops Q (o :: rest) a w := by
  have close : ∀ v' w', w'.ownsRow lo 5 1 v' (n + m) (cs l ++ cs r) → w.grownBy w' (Value.slice A n c).ownBlock → wpList P ops Q rest (a.put o.dst v') w' := fun v' w' h1 h2 => by
    rw [← cs_app] at h1
    obtain ⟨A', c', rfl, h3⟩ := own_mk h1 (hown.bd.app hr.bd)
    exact h A' c' w' h3 (below_own hown h2 hlo)
  have hl : (cs r).length = m * 1 := by rw [cs_len, hr.len, Nat.mul_one]
  have hmax : n + m ≤ maxLen := by unfold maxLen; omega
  cases B with
  | none =>
    have hm : m = 0 := by
      rcases Nat.eq_zero_or_pos m with h0 | h0
      · exact h0
      · obtain ⟨_, e, _⟩ := hr.2.2 h0
        cases e
    subst hm
    have hr0 : r = [] := List.eq_nil_of_length_eq_zero hr.len
    subst hr0
    have hrun := run_none P w t o.type i ht hi lo _ n d (cs l) hown.row
    refine wpList_plain hgd fun K hK => ?_
    unfold Oper.wp
    simp [execOp, ho, resolve, invoke, builtin, hs, hx, hrun, Result.andThen]
    exact hK _ _ (close _ _ (by simpa [cs] using hown.row) (World.grownBy.refl _ _))
  | some ad =>
    refine wpList_append_own w hgd s x t ho lo 5 i (.int .u8 0) 1 1 ht hi hz hsize hby rfl (by omega) (.slice A n c) n (cs l) hs hown.row ad m d (cs r) hx hl ?_ (cs_one r) hmax (by omega) hlo ?_
    · intro j u hu
      have hj : j < r.length := by
        have := (List.getElem?_eq_some_iff.1 hu).1
        rwa [cs_len] at this
      obtain ⟨_, e, hc⟩ := hr.2.2 (by have := hr.len; omega)
      obtain rfl := Option.some.inj e
      have hrj : r[j]? = some r[j] := List.getElem?_eq_getElem hj
      rw [cs_get hrj] at hu
      rw [← hu]
      exact hc j _ hrj
    · intro v' w' h1 h2 _
      exact close v' w' h1 h2

/-- A text's bytes as numbers. -/
def txt (s : ByteArray) : List Int := s.data.toList.map fun b => (b.toNat : Int)
theorem txt_len (s : ByteArray) : (txt s).length = s.size := by unfold txt; rw [List.length_map, Array.length_toList]; rfl
theorem txt_bd (s : ByteArray) : enc.Bd (txt s) := fun v hv => by
  unfold txt at hv
  obtain ⟨b, _, rfl⟩ := List.mem_map.1 hv
  have := b.toNat_lt
  omega
theorem strCells_cs (s : ByteArray) : Lib.strCells s = cs (txt s) := by unfold Lib.strCells cs txt; rw [List.map_map]; rfl
theorem strOf_txt (s : ByteArray) : strOfNums (txt s) = s := by
  unfold strOfNums txt
  rw [List.map_map]
  have e : s.data.toList.map ((fun n : Int => UInt8.ofNat n.toNat) ∘ fun b : UInt8 => (b.toNat : Int)) = s.data.toList := by
    rw [List.map_congr_left (g := id) (fun b _ => by simp), List.map_id]
  rw [e, Joins.bytes_eta]

/-- append of a text onto an own slice. -/
theorem append_txt {P : Program} {w : World} {ops : Array Oper} {rest : List Oper} {o : Oper} {a : Act} {Q : Exit → Act → World → Prop} (hgd : o.guard = none) (s x : Operand) (t u : TypeId)
    (ho : o.op = .call { callee := .builtin .append, args := #[s, x], argTypes := #[t, u] })
    (i : TypeInfo) (ht : P.underlying t = some (.slice 5)) (hu : P.underlying u = some .string) (hi : P.info? 5 = some i) (hz : i.zero = some (.int .u8 0)) (hsize : i.size = 1) (hby : i.bytes = 1)
    (lo : Nat) (A : Option Addr) (n c : Nat) (l : List Int) (hs : a.eval s = .slice A n c) (hown : Own w lo A n c l)
    (b : ByteArray) (hx : a.eval x = .string b) (hb : n + b.size ≤ 140737488355328) (hlo : lo ≤ w.heap.size)
    (h : ∀ A' c' w', Own w' lo A' (n + b.size) c' (l ++ txt b) → Below lo w w' → wpList P ops Q rest (a.put o.dst (.slice A' (n + b.size) c')) w') : wpList P ops Q (o :: rest) a w := by
  have hmax : n + b.size ≤ maxLen := by unfold maxLen; omega
  refine Lib.wpList_append_own_string w hgd s x t u ho lo 5 i ht hu hi hz hsize hby (.slice A n c) n (cs l) hs hown.row b hx hmax hb hlo ?_
  intro v' w' h1 h2 _
  rw [strCells_cs, ← cs_app] at h1
  obtain ⟨A', c', rfl, h3⟩ := own_mk h1 (hown.bd.app (txt_bd b))
  exact h A' c' w' h3 (below_own hown h2 hlo)

/-- Two own slices of which the one was made after the other. -/
theorem apart {w w' : World} {lo lo' : Nat} {A A' : Option Addr} {n n' c c' : Nat} {l l' : List Int} (h : Own w lo A n c l) (h' : Own w' lo' A' n' c' l') (hs : w.heap.size ≤ lo') :
    ∀ k, (Value.slice A n c).ownBlock = some k → (Value.slice A' n' c').ownBlock ≠ some k := fun k hk hk' => by
  have := (h.block k hk).2
  have := (h'.block k hk').1
  omega
theorem apart' {w w' : World} {lo lo' : Nat} {A A' : Option Addr} {n n' c c' : Nat} {l l' : List Int} (h : Own w lo A n c l) (h' : Own w' lo' A' n' c' l') (hs : w.heap.size ≤ lo') :
    ∀ k, (Value.slice A' n' c').ownBlock = some k → (Value.slice A n c).ownBlock ≠ some k := fun k hk hk' => apart h h' hs k hk' hk
theorem Own.keep {w w' : World} {lo : Nat} {A : Option Addr} {n c : Nat} {l : List Int} {row : Option Nat} (h : Own w lo A n c l) (hg : w.grownBy w' row) (hd : ∀ k, (Value.slice A n c).ownBlock = some k → row ≠ some k) : Own w' lo A n c l :=
  h.grown hg (by
    cases e : (Value.slice A n c).ownBlock with
    | none => exact .inl rfl
    | some k => exact .inr fun e' => hd k e e'.symm)
theorem below_mark {w w' : World} {W : World} {lo : Nat} {A : Option Addr} {n c : Nat} {l : List Int} (hb : Below W.heap.size W w) (h : Own w lo A n c l) (hg : w.grownBy w' (Value.slice A n c).ownBlock) (hlo : W.heap.size ≤ lo) : Below W.heap.size W w' :=
  hb.grown hg hb.size (fun k hk => Nat.le_trans hlo (h.block k hk).1)
theorem below_next {w w' W : World} (hb : Below W.heap.size W w) (hg : w.grownBy w' none) : Below W.heap.size W w' := hb.trans ((below_of_none hg).mono hb.size)

/-- A slice of bytes as a text. -/
theorem conv_rd {P : Program} (w : World) (src dst e : TypeId) (hs : P.underlying src = some (.slice e)) (he : P.underlying e = some (.int .u8)) (hd : P.underlying dst = some .string) {A : Option Addr} {q : Nat} {l : List Int} (h : Rd w A q l) (c : Nat) :
    (convert src dst (.slice A q c)).run P w = .ok (.string (strOfNums l)) w := by
  cases A with
  | none =>
    have hq : q = 0 := by
      rcases Nat.eq_zero_or_pos q with h0 | h0
      · exact h0
      · obtain ⟨_, e, _⟩ := h.2.2 h0
        cases e
    subst hq
    have hl : l = [] := List.eq_nil_of_length_eq_zero h.1
    subst hl
    exact run_convert_bytes_nil w src e hs he 0 c dst hd
  | some a =>
    have hl : (loadCells a q).run P w = .ok (l.map (Value.int .u8)).toArray w := by
      have := run_loadCells_list (P := P) w a (l.map (Value.int .u8)) (fun j v hj => by
        have hjl : j < l.length := by
          have := (List.getElem?_eq_some_iff.1 hj).1
          rwa [List.length_map] at this
        obtain ⟨_, e, hc⟩ := h.2.2 (by have := h.1; omega)
        obtain rfl := Option.some.inj e
        have hx : l[j]? = some l[j] := List.getElem?_eq_getElem hjl
        rw [hc j _ hx]
        rw [List.getElem?_map, hx] at hj
        exact hj)
      simpa [h.1] using this
    rw [run_convert_bytes_string w src dst e _ q c hs he hd, run_bytesToString w _ q c l hl, foldl_push_bytes]
    simp [strOfNums, ByteArray.empty, ByteArray.emptyWithCapacity]
    rfl

end Go.Proofs.YtlbkbcafkjgckaaDoor.mem

/-
  Values as trees: how a value that came in, or that a call has made, lies in memory.
  Conditions: those that each theorem names.
-/
namespace Go.Proofs.YtlbkbcafkjgckaaDoor.tree
open Go.ChangeShapes Go.WideShapes Go.RowKit Go.Deep
set_option linter.unusedVariables false

structure Ky where
  text : Bool
  num : Int
  str : ByteArray
inductive Tr where
  | mk (kind num : Int) (str : ByteArray) (next : Int) (keys : List Ky) (vals : List Tr)

theorem Tr.ind {p : Tr → Prop} (h : ∀ k n s x ks vs, (∀ t ∈ vs, p t) → p (.mk k n s x ks vs)) : ∀ t, p t
  | .mk k n s x ks vs => h k n s x ks vs fun t ht => Tr.ind h t
termination_by t => SizeOf.sizeOf t
decreasing_by
  have := List.sizeOf_lt_of_mem ht
  simp
  omega

def I64 (n : Int) : Prop := -9223372036854775808 ≤ n ∧ n ≤ 9223372036854775807
/-- A key's three cells. -/
def KyAt (w : World) (a : Addr) (i : Nat) (k : Ky) : Prop :=
  w.cell? (a.add (8 * i)) = some (.bool k.text) ∧ w.cell? (a.add (8 * i + 1)) = some (.int .i64 k.num) ∧ w.cell? (a.add (8 * i + 2)) = some (.string k.str) ∧ I64 k.num ∧ k.str.size ≤ maxLen

/-- The value v, a struct of five cells, is the tree. -/
inductive TIn (w : World) (S : Nat → Prop) : Tr → Value → Prop
  | mk (k n : Int) (s : ByteArray) (x : Int) (ks : List Ky) (vs : List Tr) (A : Option Addr) (cap : Nat) (C : Nat → Array Value)
      (hk : I64 k ∧ I64 n ∧ I64 x ∧ s.size ≤ maxLen) (hl : ks.length = vs.length) (hm : vs.length ≤ maxLen) (hcap : vs.length ≤ cap ∧ cap ≤ maxLen)
      (hc : ∀ (i : Nat) (hi : i < vs.length), ∃ a, A = some a ∧ S a.block ∧ KyAt w a i (ks[i]'(hl ▸ hi)) ∧ (C i).size = 5 ∧ ∀ j, j < 5 → w.cell? (a.add (8 * i + (3 + j))) = (C i)[j]?)
      (ht : ∀ (i : Nat) (hi : i < vs.length), TIn w S (vs[i]) (.agg (C i))) :
      TIn w S (.mk k n s x ks vs) (.agg #[.int .i64 k, .int .i64 n, .string s, .int .i64 x, .slice A vs.length cap])

theorem add_add' (a : Addr) (i j : Nat) : (a.add i).add j = a.add (i + j) := mem.add_add a i j

theorem cell_stays {w w' : World} {a : Addr} {u : Value} (hb : a.block < w.heap.size → w'.heap[a.block]? = w.heap[a.block]?) (hu : w.cell? a = some u) : w'.cell? a = some u := by
  have hbk := hb (World.block_lt_of_cell? _ _ hu)
  unfold World.cell? at hu ⊢
  rw [hbk]
  exact hu
theorem KyAt.stays {w w' : World} {a : Addr} {i : Nat} {k : Ky} (hb : a.block < w.heap.size → w'.heap[a.block]? = w.heap[a.block]?) (h : KyAt w a i k) : KyAt w' a i k := by
  obtain ⟨h0, h1, h2, h3, h4⟩ := h
  have e : ∀ j, (a.add j).block = a.block := mem.add_block a
  exact ⟨cell_stays (by rw [e]; exact hb) h0, cell_stays (by rw [e]; exact hb) h1, cell_stays (by rw [e]; exact hb) h2, h3, h4⟩
/-- What was there stays. -/
theorem TIn.stays {w w' : World} {S S' : Nat → Prop} (hS : ∀ b, S b → S' b) (hb : ∀ b, S b → b < w.heap.size → w'.heap[b]? = w.heap[b]?) {t : Tr} {v : Value} (h : TIn w S t v) : TIn w' S' t v := by
  induction h with
  | mk k n s x ks vs A cap C hk hl hm hcap hc ht ih =>
    refine .mk k n s x ks vs A cap C hk hl hm hcap (fun i hi => ?_) ih
    obtain ⟨a, ha, hSa, hky, hs, hj⟩ := hc i hi
    refine ⟨a, ha, hS _ hSa, hky.stays (hb _ hSa), hs, fun j hj5 => ?_⟩
    have := hj j hj5
    rw [Array.getElem?_eq_getElem (by omega)] at this ⊢
    exact cell_stays (by rw [mem.add_block]; exact hb _ hSa) this

/-- The items at A. -/
def IsIn (w : World) (S : Nat → Prop) (ks : List Ky) (vs : List Tr) (A : Option Addr) : Prop :=
  ∃ hl : ks.length = vs.length, vs.length ≤ maxLen ∧ ∃ C : Nat → Array Value,
    (∀ (i : Nat) (hi : i < vs.length), ∃ a, A = some a ∧ S a.block ∧ KyAt w a i (ks[i]'(hl ▸ hi)) ∧ (C i).size = 5 ∧ ∀ j, j < 5 → w.cell? (a.add (8 * i + (3 + j))) = (C i)[j]?) ∧
    ∀ (i : Nat) (hi : i < vs.length), TIn w S (vs[i]) (.agg (C i))
theorem TIn.of {w : World} {S : Nat → Prop} {k n x : Int} {s : ByteArray} {ks : List Ky} {vs : List Tr} {A : Option Addr} (cap : Nat) (hk : I64 k ∧ I64 n ∧ I64 x ∧ s.size ≤ maxLen) (h : IsIn w S ks vs A) (hcap : vs.length ≤ cap ∧ cap ≤ maxLen) :
    TIn w S (.mk k n s x ks vs) (.agg #[.int .i64 k, .int .i64 n, .string s, .int .i64 x, .slice A vs.length cap]) := by
  obtain ⟨hl, hm, C, hc, ht⟩ := h
  exact .mk k n s x ks vs A cap C hk hl hm hcap hc ht
theorem TIn.out {w : World} {S : Nat → Prop} {k n x : Int} {s : ByteArray} {ks : List Ky} {vs : List Tr} {v : Value} (h : TIn w S (.mk k n s x ks vs) v) :
    ∃ A cap, v = .agg #[.int .i64 k, .int .i64 n, .string s, .int .i64 x, .slice A vs.length cap] ∧ (I64 k ∧ I64 n ∧ I64 x ∧ s.size ≤ maxLen) ∧ IsIn w S ks vs A := by
  cases h with
  | mk _ _ _ _ _ _ A cap C hk hl hm hcap hc ht => exact ⟨A, cap, rfl, hk, hl, hm, C, hc, ht⟩
theorem TIn.cap {w : World} {S : Nat → Prop} {k n x k' n' x' : Int} {s s' : ByteArray} {ks : List Ky} {vs : List Tr} {A : Option Addr} {L c : Nat} (h : TIn w S (.mk k n s x ks vs) (.agg #[.int .i64 k', .int .i64 n', .string s', .int .i64 x', .slice A L c])) : L ≤ c ∧ c ≤ maxLen := by
  cases h with
  | mk _ _ _ _ _ _ A cap C hk hl hm hcap hc ht => exact hcap
theorem IsIn.stays {w w' : World} {S S' : Nat → Prop} (hS : ∀ b, S b → S' b) (hb : ∀ b, S b → b < w.heap.size → w'.heap[b]? = w.heap[b]?) {ks : List Ky} {vs : List Tr} {A : Option Addr} (h : IsIn w S ks vs A) : IsIn w' S' ks vs A := by
  obtain ⟨hl, hm, C, hc, ht⟩ := h
  refine ⟨hl, hm, C, fun i hi => ?_, fun i hi => (ht i hi).stays hS hb⟩
  obtain ⟨a, ha, hSa, hky, hs, hj⟩ := hc i hi
  refine ⟨a, ha, hS _ hSa, hky.stays (hb _ hSa), hs, fun j hj5 => ?_⟩
  have := hj j hj5
  rw [Array.getElem?_eq_getElem (by omega)] at this ⊢
  exact cell_stays (by rw [mem.add_block]; exact hb _ hSa) this
theorem IsIn.below {w w' : World} (hb : Below w.heap.size w w') {S : Nat → Prop} {ks : List Ky} {vs : List Tr} {A : Option Addr} (h : IsIn w S ks vs A) : IsIn w' S ks vs A := h.stays (fun _ h => h) (fun b _ hlt => hb.block b hlt)
theorem TIn.below' {w w' : World} (hb : Below w.heap.size w w') {S : Nat → Prop} {t : Tr} {v : Value} (h : TIn w S t v) : TIn w' S t v := h.stays (fun _ h => h) (fun b _ hlt => hb.block b hlt)

section
variable {H : Type} {enc : TypeId × Value → H} {P : Program} {w : World} {base : Nat} {spare : Nat → Bool} {held : Bool}

theorem wf_i64 {n : Int} (h : (Lit.int .i64 n).wf = true) : I64 n := by
  have e1 : IntKind.i64.min = -9223372036854775808 := rfl
  have e2 : IntKind.i64.max = 9223372036854775807 := rfl
  simp [Lit.wf, e1, e2] at h
  exact h

/-- The types of a value, of an item and of a key. -/
structure Types (P : Program) (tV tE tK tS : TypeId) : Prop where
  value : ∃ f0 f1 f2 f3 f4 : Field, P.underlying tV = some (.struct #[f0, f1, f2, f3, f4]) ∧ P.underlying f0.type = some (.int .i64) ∧ P.underlying f1.type = some (.int .i64) ∧ P.underlying f2.type = some .string ∧ P.underlying f3.type = some (.int .i64) ∧ f4.type = tS ∧ oneCellFields P #[f0, f1, f2, f3, f4] = true
  items : P.underlying tS = some (.slice tE)
  item : ∃ f0 f1 : Field, P.underlying tE = some (.struct #[f0, f1]) ∧ f0.type = tK ∧ f1.type = tV ∧ f0.offset = 0 ∧ f1.offset = 3
  key : ∃ f0 f1 f2 : Field, P.underlying tK = some (.struct #[f0, f1, f2]) ∧ P.underlying f0.type = some .bool ∧ P.underlying f1.type = some (.int .i64) ∧ P.underlying f2.type = some .string ∧ oneCellFields P #[f0, f1, f2] = true
  cV : P.cellsOf tV = 5
  cE : P.cellsOf tE = 8
  cK : P.cellsOf tK = 3

theorem one_of {cs : List Value} {f : Field} {j : Nat} (hc : P.cellsOf f.type = 1) (ho : f.offset = j) (hj : j < cs.length) : (cs.drop f.offset).take (P.cellsOf f.type) = [cs[j]] := by
  rw [hc, ho, List.drop_eq_getElem_cons hj]; rfl

theorem open_key {tV tE tK tS : TypeId} (T : Types P tV tE tK tS) {fuel : Nat} {cs : List Value} {x : DataW H × List MemPlace} (h : DataW.trod enc P w base spare held fuel tK cs = some x) :
    ∃ k : Ky, cs = [.bool k.text, .int .i64 k.num, .string k.str] ∧ I64 k.num ∧ k.str.size ≤ maxLen := by
  obtain ⟨f0, f1, f2, hu, h0, h1, h2, hone⟩ := T.key
  obtain ⟨xs, n, rfl, hx, hl, hxl, hall⟩ := DataW.trod_struct hu h
  rw [T.cK] at hl
  match cs, hl with
  | [c0, c1, c2], _ =>
    obtain ⟨o0, k0⟩ := hone_of hone 0 f0 rfl
    obtain ⟨o1, k1⟩ := hone_of hone 1 f1 rfl
    obtain ⟨o2, k2⟩ := hone_of hone 2 f2 rfl
    have e0 := hall 0 f0 rfl
    have e1 := hall 1 f1 rfl
    have e2 := hall 2 f2 rfl
    rw [one_of k0 o0 (by simp)] at e0
    rw [one_of k1 o1 (by simp)] at e1
    rw [one_of k2 o2 (by simp)] at e2
    have l0 : xs[0]? = some (xs[0]'(by simp at hxl; omega)) := List.getElem?_eq_getElem _
    have l1 : xs[1]? = some (xs[1]'(by simp at hxl; omega)) := List.getElem?_eq_getElem _
    have l2 : xs[2]? = some (xs[2]'(by simp at hxl; omega)) := List.getElem?_eq_getElem _
    obtain ⟨b, hb, _⟩ := DataW.trod_bool h0 (e0.trans l0)
    obtain ⟨m, hm, _, hw⟩ := DataW.trod_int h1 (e1.trans l1)
    obtain ⟨s, hs, _, hz⟩ := DataW.trod_string h2 (e2.trans l2)
    simp at hb hm hs
    exact ⟨⟨b, m, s⟩, by rw [hb, hm, hs], wf_i64 hw, hz⟩

theorem open_tree {tV tE tK tS : TypeId} (T : Types P tV tE tK tS) : ∀ (fuel : Nat) (cs : List Value) (x : DataW H × List MemPlace), DataW.trod enc P w base spare held fuel tV cs = some x → ∃ t, TIn w (fun _ => True) t (.agg cs.toArray) := by
  intro fuel
  induction fuel using Nat.strongRecOn with
  | _ fuel ih =>
    intro cs x h
    obtain ⟨f0, f1, f2, f3, f4, hu, h0, h1, h2, h3, h4, hone⟩ := T.value
    obtain ⟨xs, n, hn, hx, hl, hxl, hall⟩ := DataW.trod_struct hu h
    rw [T.cV] at hl
    match cs, hl with
    | [c0, c1, c2, c3, c4], _ =>
      obtain ⟨o0, k0⟩ := hone_of hone 0 f0 rfl
      obtain ⟨o1, k1⟩ := hone_of hone 1 f1 rfl
      obtain ⟨o2, k2⟩ := hone_of hone 2 f2 rfl
      obtain ⟨o3, k3⟩ := hone_of hone 3 f3 rfl
      obtain ⟨o4, k4⟩ := hone_of hone 4 f4 rfl
      have hxl5 : xs.length = 5 := hxl
      have e0 := hall 0 f0 rfl
      have e1 := hall 1 f1 rfl
      have e2 := hall 2 f2 rfl
      have e3 := hall 3 f3 rfl
      have e4 := hall 4 f4 rfl
      rw [one_of k0 o0 (by simp)] at e0
      rw [one_of k1 o1 (by simp)] at e1
      rw [one_of k2 o2 (by simp)] at e2
      rw [one_of k3 o3 (by simp)] at e3
      rw [one_of k4 o4 (by simp)] at e4
      obtain ⟨m0, hm0, _, hw0⟩ := DataW.trod_int h0 (e0.trans (List.getElem?_eq_getElem (by omega)))
      obtain ⟨m1, hm1, _, hw1⟩ := DataW.trod_int h1 (e1.trans (List.getElem?_eq_getElem (by omega)))
      obtain ⟨s, hs, _, hz⟩ := DataW.trod_string h2 (e2.trans (List.getElem?_eq_getElem (by omega)))
      obtain ⟨m3, hm3, _, hw3⟩ := DataW.trod_int h3 (e3.trans (List.getElem?_eq_getElem (by omega)))
      rw [h4] at e4
      simp at hm0 hm1 hs hm3
      subst hm0 hm1 hs hm3
      have hk : I64 m0 ∧ I64 m1 ∧ I64 m3 ∧ s.size ≤ maxLen := ⟨wf_i64 hw0, wf_i64 hw1, wf_i64 hw3, hz⟩
      rcases DataW.trod_slice T.items (e4.trans (List.getElem?_eq_getElem (by omega))) with ⟨hc4, _⟩ | ⟨a, len, cap, elems, rest, m, hfm, hc4, _, hbs, hlc, hcm, hel, hat, _⟩
      · simp at hc4
        subst hc4
        exact ⟨.mk m0 m1 s m3 [] [], .mk m0 m1 s m3 [] [] none 0 (fun _ => #[]) hk rfl (by simp) ⟨by simp, by simp⟩ (fun i hi => absurd hi (by simp)) (fun i hi => absurd hi (by simp))⟩
      · simp at hc4
        subst hc4
        -- each item
        have each : ∀ i, i < len → ∃ (k : Ky) (t : Tr) (C : Array Value), KyAt w a i k ∧ C.size = 5 ∧ (∀ j, j < 5 → w.cell? (a.add (8 * i + (3 + j))) = C[j]?) ∧ TIn w (fun _ => True) t (.agg C) := by
          intro i hi
          have hi2 := hat i hi
          rw [List.getElem?_eq_getElem (by omega)] at hi2
          obtain ⟨cs', hcs, htr⟩ := Option.bind_eq_some_iff.1 hi2
          rw [T.cE] at hcs
          obtain ⟨_, hcl, hcat⟩ := World.cells?_some hcs
          obtain ⟨g0, g1, hue, hg0, hg1, q0, q1⟩ := T.item
          obtain ⟨ys, n2, hn2, hy, hl2, hyl, hall2⟩ := DataW.trod_struct hue htr
          have hyl2 : ys.length = 2 := hyl
          match cs', hcl with
          | [d0, d1, d2, d3, d4, d5, d6, d7], _ =>
            have r0 := hall2 0 g0 rfl
            have r1 := hall2 1 g1 rfl
            rw [hg0, q0, T.cK] at r0
            rw [hg1, q1, T.cV] at r1
            obtain ⟨k, hk3, hkn, hks⟩ := open_key T (r0.trans (List.getElem?_eq_getElem (by omega)))
            obtain ⟨t, ht⟩ := ih n2 (by omega) _ _ (r1.trans (List.getElem?_eq_getElem (by omega)))
            simp at hk3
            obtain ⟨rfl, rfl, rfl⟩ := hk3
            have at' : ∀ j, j < 8 → w.cell? (a.add (8 * i + j)) = ([.bool k.text, .int .i64 k.num, .string k.str, d3, d4, d5, d6, d7] : List Value)[j]? := fun j hj => by
              have := hcat j hj
              rwa [add_add', Nat.mul_comm] at this
            refine ⟨k, t, #[d3, d4, d5, d6, d7], ⟨at' 0 (by omega), at' 1 (by omega), at' 2 (by omega), hkn, hks⟩, rfl, fun j hj => ?_, ht⟩
            rw [at' (3 + j) (by omega)]
            match j, hj with
            | 0, _ => rfl
            | 1, _ => rfl
            | 2, _ => rfl
            | 3, _ => rfl
            | 4, _ => rfl
        have pick : ∃ (K : Nat → Ky) (V : Nat → Tr) (C : Nat → Array Value), ∀ i, i < len → KyAt w a i (K i) ∧ (C i).size = 5 ∧ (∀ j, j < 5 → w.cell? (a.add (8 * i + (3 + j))) = (C i)[j]?) ∧ TIn w (fun _ => True) (V i) (.agg (C i)) := by
          refine ⟨fun i => if hi : i < len then (each i hi).choose else ⟨false, 0, ⟨#[]⟩⟩, fun i => if hi : i < len then (each i hi).choose_spec.choose else .mk 0 0 ⟨#[]⟩ 0 [] [], fun i => if hi : i < len then (each i hi).choose_spec.choose_spec.choose else #[], fun i hi => ?_⟩
          simp only [dif_pos hi]
          exact (each i hi).choose_spec.choose_spec.choose_spec
        obtain ⟨K, V, C, hp⟩ := pick
        have hVl : ((List.range len).map V).length = len := by simp
        refine ⟨.mk m0 m1 s m3 ((List.range len).map K) ((List.range len).map V), ?_⟩
        have main := TIn.mk (w := w) (S := fun _ => True) m0 m1 s m3 ((List.range len).map K) ((List.range len).map V) (some a) cap C hk (by simp) (by rw [hVl]; omega) (by rw [hVl]; exact ⟨hlc, hcm⟩) (fun i hi => ⟨a, rfl, trivial, by
            have hi' : i < len := by simpa using hi
            simp only [List.getElem_map, List.getElem_range]
            exact (hp i hi').1, (hp i (by simpa using hi)).2.1, (hp i (by simpa using hi)).2.2.1⟩) (fun i hi => by
            have hi' : i < len := by simpa using hi
            simp only [List.getElem_map, List.getElem_range]
            exact (hp i hi').2.2.2)
        rw [hVl] at main
        exact main
end

end Go.Proofs.YtlbkbcafkjgckaaDoor.tree

/-
  The copies that the laws make of a value: a key, an item, a list of items, a value.
  Conditions: those that each theorem names.
-/
namespace Go.Proofs.YtlbkbcafkjgckaaDoor.tree
open Go.ChangeShapes Go.WideShapes Go.ChangeAt Go.RowKit
set_option linter.unusedVariables false

abbrev LK : TypeId := 143
abbrev IK : TypeId := 28
abbrev LE : TypeId := 145
abbrev IE : TypeId := 40
abbrev LV : TypeId := 66
abbrev IV : TypeId := 26

/-- Three new blocks in a row. -/
theorem al3 (w : World) (c0 c1 c2 : Array Value) (t0 t1 t2 : TypeId) :
    (((w.alloc (.cells c0 t0)).alloc (.cells c1 t1)).alloc (.cells c2 t2)).heap[w.heap.size]? = some (.cells c0 t0 (0, 0)) ∧
    (((w.alloc (.cells c0 t0)).alloc (.cells c1 t1)).alloc (.cells c2 t2)).heap[w.heap.size + 1]? = some (.cells c1 t1 (0, 0)) ∧
    (((w.alloc (.cells c0 t0)).alloc (.cells c1 t1)).alloc (.cells c2 t2)).heap[w.heap.size + 1 + 1]? = some (.cells c2 t2 (0, 0)) ∧
    (((w.alloc (.cells c0 t0)).alloc (.cells c1 t1)).alloc (.cells c2 t2)).heap.size = w.heap.size + 1 + 1 + 1 ∧
    Below w.heap.size w (((w.alloc (.cells c0 t0)).alloc (.cells c1 t1)).alloc (.cells c2 t2)) := by
  have e1 : (w.alloc (.cells c0 t0)).heap.size = w.heap.size + 1 := by simp
  have e2 : ((w.alloc (.cells c0 t0)).alloc (.cells c1 t1)).heap.size = w.heap.size + 1 + 1 := by simp
  refine ⟨?_, ?_, ?_, by simp, (((Below.refl w.heap.size w).alloc (Nat.le_refl _) _).alloc (by omega) _).alloc (by omega) _⟩
  · rw [Lib.alloc_old _ _ _ (by omega), Lib.alloc_old _ _ _ (by omega)]
    exact heap_alloc_new w _
  · rw [Lib.alloc_old _ _ _ (by omega)]
    have h := heap_alloc_new (w.alloc (.cells c0 t0)) (.cells c1 t1)
    rwa [e1] at h
  · have h := heap_alloc_new ((w.alloc (.cells c0 t0)).alloc (.cells c1 t1)) (.cells c2 t2)
    rwa [e2] at h
theorem set_heap {W : World} {g : Nat} {cs : Array Value} {t : TypeId} (h : W.heap[g]? = some (.cells cs t (0, 0))) (j : Nat) (v : Value) :
    (W.setCell ⟨g, j, none⟩ v).heap[g]? = some (.cells (cs.setIfInBounds j v) t (0, 0)) := by
  simp [World.setCell, Array.getElem?_modify, h]
theorem set_other {W : World} {g k j : Nat} {v : Value} (h : k ≠ g) : (W.setCell ⟨g, j, none⟩ v).heap[k]? = W.heap[k]? := Below.heap_setCell _ _ _ _ (fun e => h (by simpa using e))
theorem set_size {W : World} {a : Addr} {v : Value} : (W.setCell a v).heap.size = W.heap.size := by simp [World.setCell]

def kyV (k : Ky) : Value := .agg #[.bool k.text, .int .i64 k.num, .string k.str]

theorem toKey (k : Ky) (w : World) : Calls Tryd.prog 149 #[kyV k] w fun e w' => e = .returned (kyV k) ∧ Below w.heap.size w w' := by
  obtain ⟨b, n, s⟩ := k
  unfold kyV
  go_enter Tryd.func149, Tryd.ntmps149
  go_wp2
  refine bodyPost_ret (v := .agg #[.bool b, .int .i64 n, .string s]) (by simp [results, Tryd.results149, go_sem]) rfl ⟨rfl, (al3 w _ _ _ _ _ _).2.2.2.2⟩

/-- A copy in new memory. -/
def ToQ (w : World) (t : Tr) (e : Ending) (w' : World) : Prop := ∃ v, e = .returned v ∧ TIn w' (fun b => w.heap.size ≤ b) t v ∧ Below w.heap.size w w'
def Copies (t : Tr) : Prop := ∀ (w : World) (S : Nat → Prop) (v : Value), TIn w S t v → Calls Tryd.prog 44 #[v] w (ToQ w t)

/-- The eight cells of an item. -/
def enV (k : Ky) (v : Value) : Value := .agg (#[.bool k.text, .int .i64 k.num, .string k.str] ++ v.cells)
def EnQ (w : World) (k : Ky) (t : Tr) (e : Ending) (w' : World) : Prop := ∃ v, e = .returned (enV k v) ∧ TIn w' (fun b => w.heap.size ≤ b) t v ∧ Below w.heap.size w w'

end Go.Proofs.YtlbkbcafkjgckaaDoor.tree

/-
  The laws' tests of equality: two values that read as one tree are equal.
  Conditions: those that each theorem names.
-/
namespace Go.Proofs.YtlbkbcafkjgckaaDoor.tree
open Go.ChangeShapes Go.WideShapes Go.ChangeAt Go.RowKit
set_option linter.unusedVariables false

/-- A value and an item, written out. -/
abbrev vV (k n : Int) (s : ByteArray) (x : Int) (A : Option Addr) (L c : Nat) : Value := .agg #[.int .i64 k, .int .i64 n, .string s, .int .i64 x, .slice A L c]
abbrev eV (y : Ky) (k n : Int) (s : ByteArray) (x : Int) (A : Option Addr) (L c : Nat) : Value := .agg #[.bool y.text, .int .i64 y.num, .string y.str, .int .i64 k, .int .i64 n, .string s, .int .i64 x, .slice A L c]

def TrueQ (w : World) (e : Ending) (w' : World) : Prop := e = .returned (.bool true) ∧ Below w.heap.size w w'

theorem eqKey (k : Ky) (w : World) : Calls Tryd.prog 150 #[kyV k, kyV k] w (TrueQ w) := by
  obtain ⟨b, n, s⟩ := k
  unfold kyV
  go_enter Tryd.func150, Tryd.ntmps150
  go_wp2
  go_ret
  exact ⟨rfl, ((Below.refl w.heap.size w).alloc (Nat.le_refl _) _).alloc (by simp) _⟩

theorem bcell {W w1 : World} (hb : Below W.heap.size W w1) : (∀ b o, b < W.heap.size → w1.cell? ⟨b, o, none⟩ = W.cell? ⟨b, o, none⟩) ∧ (∀ b o, b < W.heap.size → w1.frozen? ⟨b, o, none⟩ = W.frozen? ⟨b, o, none⟩) :=
  ⟨fun b o h => hb.cell (p := ⟨b, o, none⟩) h, fun b o h => hb.frozen (p := ⟨b, o, none⟩) h⟩

/-- One behind the other. -/
theorem bs {w a b : World} (h : Below w.heap.size w a) (k : Below a.heap.size a b) : Below w.heap.size w b := h.trans (k.mono h.size)
theorem b1 (w : World) (o : Obj) : Below w.heap.size w (w.alloc o) := (Below.refl w.heap.size w).alloc (Nat.le_refl _) _
theorem b2 (w : World) (o o' : Obj) : Below w.heap.size w ((w.alloc o).alloc o') := (b1 w o).alloc (by simp) _

theorem b3 (w : World) (o o' o2 : Obj) : Below w.heap.size w (((w.alloc o).alloc o').alloc o2) := (b2 w o o').alloc (by simp; omega) _

/-- What a block's cells say, for the walk. -/
theorem rowc {w : World} {g : Nat} {cs : Array Value} {t : TypeId} (h : w.heap[g]? = some (.cells cs t (0, 0))) : (∀ j, w.cell? ⟨g, j, none⟩ = cs[j]?) ∧ (∀ j, w.frozen? ⟨g, j, none⟩ = false) :=
  ⟨fun j => cell_of_row w g j cs t _ h, fun j => frozen_of_row w g j cs t h⟩

theorem keepAlloc {w : World} {g : Nat} {o o' : Obj} (h : w.heap[g]? = some o) : (w.alloc o').heap[g]? = some o :=
  (Below.heap_alloc w o' g (Array.getElem?_eq_some_iff.1 h).1).trans h
theorem carry {W w1 : World} {g : Nat} {o : Obj} (hb : Below W.heap.size W w1) (h : W.heap[g]? = some o) : w1.heap[g]? = some o :=
  (hb.block g (Array.getElem?_eq_some_iff.1 h).1).trans h

/-- The laws' test says yes to two values that read alike. -/
def EqV (t : Tr) : Prop := ∀ (w : World) (S S' : Nat → Prop) (v v' : Value), TIn w S t v → TIn w S' t v' → Calls Tryd.prog 45 #[v, v'] w (TrueQ w)

theorem eqEntry (y : Ky) (k n : Int) (s : ByteArray) (x : Int) (A A' : Option Addr) (L c c' : Nat) (w : World)
    (ih : ∀ w' : World, Below w.heap.size w w' → Calls Tryd.prog 45 #[vV k n s x A L c, vV k n s x A' L c'] w' (TrueQ w')) :
    Calls Tryd.prog 129 #[eV y k n s x A L c, eV y k n s x A' L c'] w (TrueQ w) := by
  obtain ⟨b, m, ys⟩ := y
  unfold eV
  go_enter Tryd.func129, Tryd.ntmps129
  go_wp2_with (fail)
  refine (eqKey ⟨b, m, ys⟩ _).mono ?_
  rintro e w1 ⟨rfl, hb1⟩
  obtain ⟨hc, hf⟩ := bcell hb1
  have HB := Lib.hid hb1
  clear hb1
  go_wp2_with (fail)
  refine (ih _ (bs (b2 _ _ _) HB.out)).mono ?_
  rintro e w2 ⟨rfl, hb2⟩
  have HB2 := Lib.hid hb2
  clear hb2
  go_wp2_with (fail)
  go_ret
  exact ⟨rfl, bs (bs (b2 _ _ _) HB.out) HB2.out⟩

/-- The eight cells of an item at q. -/
structure At8 (w : World) (q : Addr) (y : Ky) (k n : Int) (s : ByteArray) (x : Int) (A : Option Addr) (L c : Nat) : Prop where
  c0 : w.cell? q = some (.bool y.text)
  c1 : w.cell? ⟨q.block, q.off + 1, none⟩ = some (.int .i64 y.num)
  c2 : w.cell? ⟨q.block, q.off + 2, none⟩ = some (.string y.str)
  c3 : w.cell? ⟨q.block, q.off + 3, none⟩ = some (.int .i64 k)
  c4 : w.cell? ⟨q.block, q.off + 4, none⟩ = some (.int .i64 n)
  c5 : w.cell? ⟨q.block, q.off + 5, none⟩ = some (.string s)
  c6 : w.cell? ⟨q.block, q.off + 6, none⟩ = some (.int .i64 x)
  c7 : w.cell? ⟨q.block, q.off + 7, none⟩ = some (.slice A L c)

theorem add_pos (q : Addr) (j : Nat) (h : j ≠ 0) : q.add j = ⟨q.block, q.off + j, none⟩ := by unfold Addr.add; rw [if_neg h]

/-- An item of a list of items, as it lies: its address, its eight cells. -/
theorem IsIn.item {w : World} {S : Nat → Prop} {ks : List Ky} {vs : List Tr} {A : Option Addr} (h : IsIn w S ks vs A) {i : Nat} (hi : i < vs.length) :
    ∃ (a : Addr) (y : Ky) (k n : Int) (s : ByteArray) (x : Int) (ks' : List Ky) (vs' : List Tr) (A' : Option Addr) (c' : Nat), A = some a ∧ S a.block ∧ ks[i]? = some y ∧ vs[i]? = some (.mk k n s x ks' vs') ∧ TIn w S (.mk k n s x ks' vs') (vV k n s x A' vs'.length c') ∧
      (I64 y.num ∧ y.str.size ≤ maxLen) ∧ (I64 k ∧ I64 n ∧ I64 x ∧ s.size ≤ maxLen) ∧ IsIn w S ks' vs' A' ∧ At8 w (a.add (i * 8)) y k n s x A' vs'.length c' := by
  obtain ⟨hl, hm, C, hc, ht⟩ := h
  obtain ⟨a, ha, hSa, ⟨h0, h1, h2, h3, h4⟩, hs, hj⟩ := hc i hi
  have hti := ht i hi
  generalize hv : vs[i] = t at hti
  obtain ⟨k, n, s, x, ks', vs'⟩ := t
  obtain ⟨A', c', he, hk, hin⟩ := hti.out
  have hC : C i = #[.int .i64 k, .int .i64 n, .string s, .int .i64 x, .slice A' vs'.length c'] := by injection he
  have e8 : a.add (8 * i) = a.add (i * 8) := by rw [Nat.mul_comm]
  have sp : ∀ j, j ≠ 0 → a.add (8 * i + j) = ⟨(a.add (i * 8)).block, (a.add (i * 8)).off + j, none⟩ := fun j hj => by rw [← add_add', e8, add_pos _ _ hj]
  refine ⟨a, ks[i]'(hl ▸ hi), k, n, s, x, ks', vs', A', c', ha, hSa, List.getElem?_eq_getElem _, by rw [List.getElem?_eq_getElem hi, hv], by rw [he] at hti; exact hti, ⟨h3, h4⟩, hk, hin, ?_⟩
  exact { c0 := e8 ▸ h0, c1 := sp 1 (by omega) ▸ h1, c2 := sp 2 (by omega) ▸ h2, c3 := sp 3 (by omega) ▸ (by have := hj 0 (by omega); rw [hC] at this; exact this), c4 := sp 4 (by omega) ▸ (by have := hj 1 (by omega); rw [hC] at this; exact this), c5 := sp 5 (by omega) ▸ (by have := hj 2 (by omega); rw [hC] at this; exact this), c6 := sp 6 (by omega) ▸ (by have := hj 3 (by omega); rw [hC] at this; exact this), c7 := sp 7 (by omega) ▸ (by have := hj 4 (by omega); rw [hC] at this; exact this) }

theorem eqItems (ks : List Ky) (vs : List Tr) (ih : ∀ t ∈ vs, EqV t) (A A' : Option Addr) (c c' : Nat) (w : World) (S S' : Nat → Prop) (h : IsIn w S ks vs A) (h' : IsIn w S' ks vs A') :
    Calls Tryd.prog 89 #[.slice A vs.length c, .slice A' vs.length c'] w (TrueQ w) := by
  obtain ⟨L, HL⟩ : ∃ L, Hid (L = vs.length) := ⟨_, Lib.hid rfl⟩
  have hm : L ≤ maxLen := by rw [HL.out]; exact h.2.1
  unfold maxLen at hm
  rw [← HL.out]
  go_enter Tryd.func89, Tryd.ntmps89
  go_wp2_with (fail)
  go_loopg [5] (L + 1) (fun gk i wr => ∃ j : Nat, i = .int .i64 j ∧ gk + j = L + 1 ∧ j ≤ L ∧ Below w.heap.size w wr)
  case atStart => exact ⟨0, rfl, by omega, by omega, Below.refl _ _⟩
  case round =>
    obtain ⟨j, rfl, hgj, hjL, hb⟩ := hrel
    have HB := Lib.hid hb
    clear hb
    by_cases hlt : j < L
    · obtain ⟨a, y, k, n, s, x, ks', vs', A1, c1, rfl, hS, hky, hvs, ht, hyb, hkb, hin, hcell⟩ := (h.below HB.out).item (i := j) (by rw [← HL.out]; exact hlt)
      obtain ⟨a', y', k', n', s', x', ks2, vs2, A2, c2, rfl, hS', hky', hvs', ht', _, _, _, hcell'⟩ := (h'.below HB.out).item (i := j) (by rw [← HL.out]; exact hlt)
      rw [hky] at hky'
      obtain rfl := Option.some.inj hky'
      rw [hvs] at hvs'
      obtain ⟨rfl, rfl, rfl, rfl, rfl, rfl⟩ : k = k' ∧ n = n' ∧ s = s' ∧ x = x' ∧ ks' = ks2 ∧ vs' = vs2 := by simpa using hvs'
      have ihj : ∀ w', Below wr.heap.size wr w' → Calls Tryd.prog 45 #[vV k n s x A1 vs'.length c1, vV k n s x A2 vs'.length c2] w' (TrueQ w') := fun w' hb' => ih _ (List.mem_of_getElem? hvs) w' S S' _ _ (ht.below' hb') (ht'.below' hb')
      clear hky' hvs' hky hvs ht ht' hin hyb hkb hS hS'
      obtain ⟨p0, p1, p2, p3, p4, p5, p6, p7⟩ := hcell
      obtain ⟨q0, q1, q2, q3, q4, q5, q6, q7⟩ := hcell'
      go_wp2_with (fail)
      go_region_with ((go_at_call 129; refine (eqEntry y k n s x A1 A2 vs'.length c1 c2 _ ?_).mono ?_; exact fun w' hb' => ihj w' (((Below.refl wr.heap.size wr).drew).trans hb'); rintro e w1 ⟨rfl, hb1⟩; have HB1 := Lib.hid hb1; clear hb1))
      all_goals
        go_wp2_with (fail)
        go_roundg (L - j)
        case rel => exact ⟨j + 1, by go_num, by omega, by omega, bs (bs HB.out ((Below.refl _ _).drew)) HB1.out⟩
        case measure => omega
    · go_wp2_with (fail)
      go_ret
      exact ⟨rfl, HB.out⟩

theorem eqV : ∀ t, EqV t := Tr.ind fun k n s x ks vs ih w S S' v v' h h' => by
  obtain ⟨A, c, rfl, hk, hin⟩ := h.out
  obtain ⟨A', c', rfl, -, hin'⟩ := h'.out
  clear h h'
  go_enter Tryd.func45, Tryd.ntmps45
  go_wp2_with (fail)
  refine (eqItems ks vs ih A A' c c' _ S S' (hin.below (b2 _ _ _)) (hin'.below (b2 _ _ _))).mono ?_
  rintro e w1 ⟨rfl, hb1⟩
  have HB1 := Lib.hid hb1
  clear hb1
  go_wp2_with (fail)
  go_ret
  exact ⟨rfl, bs (b2 _ _ _) HB1.out⟩

end Go.Proofs.YtlbkbcafkjgckaaDoor.tree

/-
  errors.Is of two errors of errors.New's make: the same one, or two; and the code of a conversion's error.
  Conditions: the package variables of the project's two errors hold pointers that are not the same.
-/
namespace Go.Proofs.YtlbkbcafkjgckaaDoor.ers
open Go.ChangeShapes Go.WideShapes Go.ChangeAt Go.RowKit Go.Extern.Stop Go.Stop Go.Extern tree
set_option linter.unusedVariables false

theorem hTypeOf (v : Value) (w : World) : (Extern.ReflectliteType.typeOf #[.iface 206 v]).run Tryd.prog w = .ok (.iface 169 (.agg #[.pointer (some ⟨8, 206, none⟩)])) w := by kernel_rfl
def cmpF : Array Value → Sem Value := Extern.ReflectliteType.method fun t => do Go.Extern.Rtype.noPackHeld "Comparable" t; pure (.bool (← typeInfo t).comparable)
theorem hComparable (w : World) : (cmpF #[.agg #[.pointer (some ⟨8, 206, none⟩)]]).run Tryd.prog w = .ok (.bool true) w := by kernel_rfl
theorem hMethod (v : Value) (w : World) : (Go.method 344 169 v "Comparable").run Tryd.prog w = .ok (198, v) w := by kernel_rfl
theorem hComp : (Tryd.prog.info? 206).map (·.comparable) = some true := by kernel_rfl
theorem hSize : (Tryd.prog.info? 208).map (·.size) = some 1 := by kernel_rfl
theorem noIs (v : Value) (xT : TypeId) (w : World) : (Instr.typeAssert (.iface 206 v) xT 171 true).run Tryd.prog w = .ok (.tuple #[.nilIface, .bool false]) w := run_typeAssert_lacksB Tryd.underlying171 (by kernel_rfl) (by kernel_rfl) v xT w
theorem noUnwrap (v : Value) (xT : TypeId) (w : World) : (Instr.typeAssert (.iface 206 v) xT 174 true).run Tryd.prog w = .ok (.tuple #[.nilIface, .bool false]) w := run_typeAssert_lacksB Tryd.underlying174 (by kernel_rfl) (by kernel_rfl) v xT w
theorem noUnwraps (v : Value) (xT : TypeId) (w : World) : (Instr.typeAssert (.iface 206 v) xT 176 true).run Tryd.prog w = .ok (.tuple #[.nilIface, .bool false]) w := run_typeAssert_lacksB Tryd.underlying176 (by kernel_rfl) (by kernel_rfl) v xT w

set_option maxRecDepth 100000 in
/-- errors.Is of an error and itself. -/
theorem is_same (a : Addr) (w : World) :
    Calls Tryd.prog 124 #[.iface 206 (.pointer (some a)), .iface 206 (.pointer (some a))] w fun e w' => e = .returned (.bool true) ∧ w' = w := by
  obtain ⟨i, hi, hcmp⟩ := Option.map_eq_some_iff.1 hComp
  obtain ⟨j, hj, hjs⟩ := Option.map_eq_some_iff.1 hSize
  have c1 := @run_callFunc_extern Tryd.prog 146 _ Extern.ReflectliteType.typeOf Tryd.func146 (by kernel_rfl) (by kernel_rfl) (by kernel_rfl) (by kernel_rfl)
  have c2 := @run_callFunc_extern Tryd.prog 198 _ cmpF Tryd.func198 (by kernel_rfl) (by kernel_rfl) (by kernel_rfl) (by kernel_rfl)
  have tT := hTypeOf
  have cT := hComparable
  have mR := hMethod
  have heq := run_eql_iface_ptr_same (P := Tryd.prog) w a Tryd.underlying98 Tryd.underlying206 hi hcmp hj
  go_enter Tryd.func124, Tryd.ntmps124
  go_wp2
  refine wp_loop_rounds 1 ?_
  rw [rounds_succ]
  go_wp2
  go_ret
  exact ⟨rfl, rfl⟩

set_option maxRecDepth 100000 in
/-- errors.Is of two errors. -/
theorem is_other (a b : Addr) (ca cb : Array Value) (ta tb : TypeId) (w : World) (hne : a ≠ b) (ha : w.heap[a.block]? = some (.cells ca ta (0, 0))) (hb : w.heap[b.block]? = some (.cells cb tb (0, 0))) :
    Calls Tryd.prog 124 #[.iface 206 (.pointer (some a)), .iface 206 (.pointer (some b))] w fun e w' => e = .returned (.bool false) ∧ w' = w := by
  obtain ⟨i, hi, hcmp⟩ := Option.map_eq_some_iff.1 hComp
  obtain ⟨j, hj, hjs⟩ := Option.map_eq_some_iff.1 hSize
  have c1 := @run_callFunc_extern Tryd.prog 146 _ Extern.ReflectliteType.typeOf Tryd.func146 (by kernel_rfl) (by kernel_rfl) (by kernel_rfl) (by kernel_rfl)
  have c2 := @run_callFunc_extern Tryd.prog 198 _ cmpF Tryd.func198 (by kernel_rfl) (by kernel_rfl) (by kernel_rfl) (by kernel_rfl)
  have tT := hTypeOf
  have cT := hComparable
  have mR := hMethod
  have nE := noIs
  have uE := noUnwrap
  have vE := noUnwraps
  have heq := run_eql_iface_ptr_other (P := Tryd.prog) w Tryd.underlying98 Tryd.underlying206 hi hcmp hj (by rw [hjs]; decide) hne ha hb
  go_enter Tryd.func124, Tryd.ntmps124
  go_wp2
  refine wp_loop_rounds 1 ?_
  rw [rounds_succ]
  go_wp2
  go_ret
  exact ⟨rfl, rfl⟩

end Go.Proofs.YtlbkbcafkjgckaaDoor.ers

/-
  A value without items; a call that gives back a value and writes nothing that was there.
  Conditions: those that each theorem names.
-/
namespace Go.Proofs.YtlbkbcafkjgckaaDoor.tree
open Go.ChangeShapes Go.WideShapes Go.ChangeAt Go.RowKit
set_option linter.unusedVariables false

theorem IsIn.nil (w : World) (S : Nat → Prop) (A : Option Addr) : IsIn w S [] [] A := ⟨rfl, by simp, fun _ => #[], fun i hi => absurd hi (by simp), fun i hi => absurd hi (by simp)⟩
/-- A value with no items. -/
theorem flat {k n x : Int} {s : ByteArray} (hk : I64 k ∧ I64 n ∧ I64 x ∧ s.size ≤ maxLen) (w : World) (S : Nat → Prop) (A : Option Addr) (c : Nat) (hc : c ≤ maxLen) : TIn w S (.mk k n s x [] []) (vV k n s x A 0 c) := TIn.of c hk (IsIn.nil w S A) ⟨Nat.zero_le _, hc⟩

def GivesQ (w : World) (v : Value) (e : Ending) (w' : World) : Prop := e = .returned v ∧ Below w.heap.size w w'

end Go.Proofs.YtlbkbcafkjgckaaDoor.tree

/-
  The laws' size of a value, and how many values a tree holds.
  Conditions: those that each theorem names.
-/
namespace Go.Proofs.YtlbkbcafkjgckaaDoor.tree
open Go.ChangeShapes Go.WideShapes Go.ChangeAt Go.RowKit
set_option linter.unusedVariables false

mutual
/-- Letters and items, all that is in a value. -/
def tot : Tr → Nat
  | .mk _ _ s _ ks vs => s.size + (vs.length + tots ks vs)
def tots : List Ky → List Tr → Nat
  | y :: ks, t :: vs => y.str.size + tot t + tots ks vs
  | _, _ => 0
end
mutual
/-- How many values a tree is. -/
def cnt : Tr → Nat
  | .mk _ _ _ _ _ vs => 1 + cnts vs
def cnts : List Tr → Nat
  | [] => 0
  | t :: vs => cnt t + cnts vs
end
mutual
/-- Each item has its key. -/
def fits : Tr → Prop
  | .mk _ _ _ _ ks vs => ks.length = vs.length ∧ fitss vs
def fitss : List Tr → Prop
  | [] => True
  | t :: vs => fits t ∧ fitss vs
end
theorem tots_cons (y : Ky) (ks : List Ky) (t : Tr) (vs : List Tr) : tots (y :: ks) (t :: vs) = y.str.size + tot t + tots ks vs := by rw [tots]
theorem tots_drop {ks : List Ky} {vs : List Tr} {j : Nat} {y : Ky} {t : Tr} (hk : ks[j]? = some y) (hv : vs[j]? = some t) : tots (ks.drop j) (vs.drop j) = y.str.size + tot t + tots (ks.drop (j + 1)) (vs.drop (j + 1)) := by
  obtain ⟨hj, rfl⟩ := List.getElem?_eq_some_iff.1 hk
  obtain ⟨hj', rfl⟩ := List.getElem?_eq_some_iff.1 hv
  rw [List.drop_eq_getElem_cons hj, List.drop_eq_getElem_cons hj', tots_cons]
theorem fitss_of : ∀ {vs : List Tr}, (∀ t ∈ vs, fits t) → fitss vs
  | [], _ => by rw [fitss]; trivial
  | t :: vs, h => by rw [fitss]; exact ⟨h t (by simp), fitss_of fun u hu => h u (by simp [hu])⟩
theorem TIn.fits {w : World} {S : Nat → Prop} {t : Tr} {v : Value} (h : TIn w S t v) : fits t := by
  induction h with
  | mk k n s x ks vs A cap C hk hl hm hcap hc ht ih =>
    rw [tree.fits]
    refine ⟨hl, fitss_of fun t h => ?_⟩
    obtain ⟨i, hi, rfl⟩ := List.mem_iff_getElem.1 h
    exact ih i hi
mutual
theorem cnt_tot : ∀ t, fits t → cnt t ≤ tot t + 1
  | .mk _ _ s _ ks vs, h => by
    rw [fits] at h
    have := cnts_tots ks vs h.1 h.2
    rw [cnt, tot]
    omega
theorem cnts_tots : ∀ (ks : List Ky) (vs : List Tr), ks.length = vs.length → fitss vs → cnts vs ≤ vs.length + tots ks vs
  | _, [], _, _ => by simp [cnts]
  | [], t :: vs, h, _ => by simp at h
  | y :: ks, t :: vs, h, hf => by
    rw [fitss] at hf
    have h1 := cnt_tot t hf.1
    have h2 := cnts_tots ks vs (by simpa using h) hf.2
    rw [cnts, tots, List.length_cons]
    omega
end

def SzOk (left : Int) (T : Nat) (r : Int) : Prop := -1 ≤ r ∧ r ≤ left ∧ (0 ≤ r → r + T = left)
def SzQ (left : Int) (T : Nat) (w : World) (e : Ending) (w' : World) : Prop := ∃ r : Int, e = .returned (.int .i64 r) ∧ SzOk left T r ∧ Below w.heap.size w w'

theorem szKey (y : Ky) (hy : y.str.size ≤ maxLen) (left : Int) (h0 : 0 ≤ left) (h1 : left ≤ 1048576) (w : World) :
    Calls Tryd.prog 148 #[kyV y, .int .i64 left] w (SzQ left y.str.size w) := by
  obtain ⟨b, n, s⟩ := y
  replace hy : s.size ≤ maxLen := hy
  show Calls _ _ _ _ (SzQ left s.size w)
  unfold kyV
  unfold maxLen at hy
  by_cases hlt : left - s.size < 0
  · go_enter Tryd.func148, Tryd.ntmps148
    go_wp2
    go_ret
    exact ⟨-1, rfl, ⟨by omega, by omega, fun h => by omega⟩, b1 _ _⟩
  · have hge : ¬ (left < s.size) := by omega
    go_enter Tryd.func148, Tryd.ntmps148
    go_wp2
    go_ret
    exact ⟨left - s.size, rfl, ⟨by omega, by omega, fun h => by omega⟩, b1 _ _⟩

def SzV (t : Tr) : Prop := ∀ (w : World) (S : Nat → Prop) (v : Value), TIn w S t v → ∀ left : Int, 0 ≤ left → left ≤ 1048576 → Calls Tryd.prog 42 #[v, .int .i64 left] w (SzQ left (tot t) w)

theorem szEntry (y : Ky) (hy : y.str.size ≤ maxLen) (k n : Int) (s : ByteArray) (x : Int) (A : Option Addr) (L c : Nat) (T : Nat) (left : Int) (h0 : 0 ≤ left) (h1 : left ≤ 1048576) (w : World)
    (ih : ∀ (w' : World) (left' : Int), Below w.heap.size w w' → 0 ≤ left' → left' ≤ 1048576 → Calls Tryd.prog 42 #[vV k n s x A L c, .int .i64 left'] w' (SzQ left' T w')) :
    Calls Tryd.prog 127 #[eV y k n s x A L c, .int .i64 left] w (SzQ left (y.str.size + T) w) := by
  obtain ⟨b, m, ys⟩ := y
  have K := szKey ⟨b, m, ys⟩ hy left h0 h1
  show Calls _ _ _ _ (SzQ left (ys.size + T) w)
  replace K : ∀ w, Calls Tryd.prog 148 #[kyV ⟨b, m, ys⟩, .int .i64 left] w (SzQ left ys.size w) := K
  unfold eV
  go_enter Tryd.func127, Tryd.ntmps127
  go_wp2_with (fail)
  refine (K _).mono ?_
  rintro e w1 ⟨r, rfl, ⟨hr1, hr2, hr3⟩, hb1⟩
  obtain ⟨hc, hf⟩ := bcell hb1
  have HB := Lib.hid hb1
  have HR := Lib.hid hr3
  clear hb1 hr3
  by_cases hr : r < 0
  · go_wp2_with (fail)
    go_ret
    exact ⟨-1, rfl, ⟨by omega, by omega, fun h => by omega⟩, bs (b1 _ _) HB.out⟩
  · have hr0 : 0 ≤ r := by omega
    go_wp2_with (fail)
    refine (ih _ r (bs (b1 _ _) HB.out) hr0 (by omega)).mono ?_
    rintro e w2 ⟨r2, rfl, ⟨hs1, hs2, hs3⟩, hb2⟩
    have HB2 := Lib.hid hb2
    have HR2 := Lib.hid hs3
    clear hb2 hs3
    by_cases hq : r2 < 0
    · go_wp2_with (fail)
      go_ret
      exact ⟨-1, rfl, ⟨by omega, by omega, fun h => by omega⟩, bs (bs (b1 _ _) HB.out) HB2.out⟩
    · have hq0 : 0 ≤ r2 := by omega
      go_wp2_with (fail)
      go_ret
      refine ⟨r2, rfl, ⟨by omega, by omega, fun h => ?_⟩, bs (bs (b1 _ _) HB.out) HB2.out⟩
      have a1 := HR.out hr0
      have a2 := HR2.out h
      omega

theorem szItems (ks : List Ky) (vs : List Tr) (ih : ∀ t ∈ vs, SzV t) (A : Option Addr) (c : Nat) (w : World) (S : Nat → Prop) (h : IsIn w S ks vs A) (left : Int) (h0 : 0 ≤ left) (h1 : left ≤ 1048576) :
    Calls Tryd.prog 87 #[.slice A vs.length c, .int .i64 left] w (SzQ left (vs.length + tots ks vs) w) := by
  obtain ⟨L, HL⟩ : ∃ L, Hid (L = vs.length) := ⟨_, Lib.hid rfl⟩
  have hm : L ≤ maxLen := by rw [HL.out]; exact h.2.1
  unfold maxLen at hm
  rw [← HL.out]
  by_cases hlt : left - L < 0
  · go_enter Tryd.func87, Tryd.ntmps87
    go_wp2_with (fail)
    go_ret
    exact ⟨-1, rfl, ⟨by omega, by omega, fun h => by omega⟩, Below.refl _ _⟩
  have hge : ¬ (left < L) := by omega
  clear hlt
  go_enter Tryd.func87, Tryd.ntmps87
  go_wp2_with (fail)
  go_loopg [1, 5] (L + 1) (fun gk l i wr => ∃ (j : Nat) (r : Int), l = .int .i64 r ∧ i = .int .i64 j ∧ gk + j = L + 1 ∧ j ≤ L ∧ 0 ≤ r ∧ r ≤ left ∧ Hid (r + tots ks vs = left - L + tots (ks.drop j) (vs.drop j)) ∧ Below w.heap.size w wr)
  case atStart => exact ⟨0, left - L, rfl, rfl, by omega, by omega, by omega, by omega, Lib.hid (by simp), Below.refl _ _⟩
  case round =>
    obtain ⟨j, r, rfl, rfl, hgj, hjL, hr0, hr1, HR, hb⟩ := hrel
    have HB := Lib.hid hb
    clear hb
    by_cases hlt : j < L
    · obtain ⟨a, y, k, n, s, x, ks', vs', A1, c1, rfl, hS, hky, hvs, ht, hyb, hkb, hin, hcell⟩ := (h.below HB.out).item (i := j) (by rw [← HL.out]; exact hlt)
      have ihj : ∀ (w' : World) (left' : Int), Below wr.heap.size wr w' → 0 ≤ left' → left' ≤ 1048576 → Calls Tryd.prog 42 #[vV k n s x A1 vs'.length c1, .int .i64 left'] w' (SzQ left' (tot (.mk k n s x ks' vs')) w') := fun w' l' hb' a0 a1 => ih _ (List.mem_of_getElem? hvs) w' S _ (ht.below' hb') l' a0 a1
      have HT := Lib.hid (tots_drop hky hvs)
      have hys := hyb.2
      clear hky hvs ht hin hyb hkb hS
      obtain ⟨p0, p1, p2, p3, p4, p5, p6, p7⟩ := hcell
      go_wp2_with (fail)
      refine (szEntry y hys k n s x A1 vs'.length c1 _ r hr0 (by omega) _ ihj).mono ?_
      rintro e w1 ⟨r2, rfl, ⟨hs1, hs2, hs3⟩, hb1⟩
      have HB1 := Lib.hid hb1
      have HR2 := Lib.hid hs3
      clear hb1 hs3
      by_cases hq : r2 < 0
      · go_wp2_with (fail)
        go_ret
        exact ⟨-1, rfl, ⟨by omega, by omega, fun h => by omega⟩, bs HB.out HB1.out⟩
      · have hq0 : 0 ≤ r2 := by omega
        go_wp2_with (fail)
        go_roundg (L - j)
        case rel =>
          refine ⟨j + 1, r2, rfl, by go_num, by omega, by omega, hq0, by omega, Lib.hid ?_, bs HB.out HB1.out⟩
          have a1 := HR.out
          have a2 := HR2.out hq0
          have a3 := HT.out
          omega
        case measure => omega
    · go_wp2_with (fail)
      go_ret
      refine ⟨r, rfl, ⟨by omega, by omega, fun _ => ?_⟩, HB.out⟩
      have a1 := HR.out
      have e : tots (ks.drop j) (vs.drop j) = 0 := by
        rw [show vs.drop j = [] from List.drop_eq_nil_of_le (by rw [← HL.out]; omega)]
        cases ks.drop j <;> rfl
      rw [e] at a1
      push_cast
      omega

theorem szV : ∀ t, SzV t := Tr.ind fun k n s x ks vs ih w S v h left h0 h1 => by
  obtain ⟨A, c, rfl, ⟨_, _, _, hs⟩, hin⟩ := h.out
  clear h
  have hT : tot (.mk k n s x ks vs) = s.size + (vs.length + tots ks vs) := by rw [tot]
  rw [hT]
  clear hT
  unfold maxLen at hs
  by_cases hlt : left - s.size < 0
  · go_enter Tryd.func42, Tryd.ntmps42
    go_wp2_with (fail)
    go_ret
    exact ⟨-1, rfl, ⟨by omega, by omega, fun h => by omega⟩, b1 _ _⟩
  have hge : ¬ (left < s.size) := by omega
  clear hlt
  go_enter Tryd.func42, Tryd.ntmps42
  go_wp2_with (fail)
  refine (szItems ks vs ih A c _ S (hin.below (b1 _ _)) (left - s.size) (by omega) (by omega)).mono ?_
  rintro e w1 ⟨r, rfl, ⟨hr1, hr2, hr3⟩, hb1⟩
  have HB1 := Lib.hid hb1
  have HR := Lib.hid hr3
  clear hb1 hr3
  by_cases hr : r < 0
  · go_wp2_with (fail)
    go_ret
    exact ⟨-1, rfl, ⟨by omega, by omega, fun h => by omega⟩, bs (b1 _ _) HB1.out⟩
  · have hr0 : 0 ≤ r := by omega
    go_wp2_with (fail)
    go_ret
    refine ⟨r, rfl, ⟨by omega, by omega, fun h => ?_⟩, bs (b1 _ _) HB1.out⟩
    have a1 := HR.out h
    push_cast at a1 ⊢
    omega

end Go.Proofs.YtlbkbcafkjgckaaDoor.tree

/-
  The laws' copies of a value: in new memory, as one tree.
  Conditions: those that each theorem names.
-/
namespace Go.Proofs.YtlbkbcafkjgckaaDoor.tree
open Go.ChangeShapes Go.WideShapes Go.ChangeAt Go.RowKit
set_option linter.unusedVariables false

/-- A block of cells that may all be written. -/
def Plain (w : World) (b : Nat) : Prop := ∃ cs t, w.heap[b]? = some (.cells cs t (0, 0))
/-- .. at lo or above. -/
def Nw (lo : Nat) (w : World) (b : Nat) : Prop := lo ≤ b ∧ Plain w b
theorem Plain.lt {w : World} {b : Nat} (h : Plain w b) : b < w.heap.size := by
  obtain ⟨cs, t, h⟩ := h
  exact (Array.getElem?_eq_some_iff.1 h).1
theorem Nw.keep {lo lo' : Nat} {w w' : World} (hl : lo' ≤ lo) {b : Nat} (hb : w'.heap[b]? = w.heap[b]?) (h : Nw lo w b) : Nw lo' w' b := by
  obtain ⟨h1, cs, t, h2⟩ := h
  exact ⟨Nat.le_trans hl h1, cs, t, hb.trans h2⟩
/-- A tree in plain blocks stays while they do. -/
theorem TIn.nw {lo lo' : Nat} {w w' : World} (hl : lo' ≤ lo) (hb : ∀ b, lo ≤ b → b < w.heap.size → w'.heap[b]? = w.heap[b]?) {t : Tr} {v : Value} (h : TIn w (Nw lo w) t v) : TIn w' (Nw lo' w') t v :=
  h.stays (fun b hn => Nw.keep hl (hb b hn.1 hn.2.lt) hn) (fun b hn hlt => hb b hn.1 hlt)
theorem TIn.nwb {lo : Nat} {w w' : World} (hb : Below w.heap.size w w') {t : Tr} {v : Value} (h : TIn w (Nw lo w) t v) : TIn w' (Nw lo w') t v :=
  h.nw (Nat.le_refl _) fun b _ hlt => hb.block b hlt

/-- A copy in new memory. -/
def CpQ (w : World) (t : Tr) (e : Ending) (w' : World) : Prop := ∃ v, e = .returned v ∧ TIn w' (Nw w.heap.size w') t v ∧ Below w.heap.size w w'
def Cps (t : Tr) : Prop := tot t ≤ 1048576 → ∀ (w : World) (S : Nat → Prop) (v : Value), TIn w S t v → Calls Tryd.prog 44 #[v] w (CpQ w t)
def EnCpQ (w : World) (y : Ky) (t : Tr) (e : Ending) (w' : World) : Prop := ∃ v, e = .returned (enV y v) ∧ TIn w' (Nw w.heap.size w') t v ∧ Below w.heap.size w w'

set_option maxHeartbeats 800000 in
theorem cpEntry (y : Ky) (t : Tr) (k n : Int) (s : ByteArray) (x : Int) (A : Option Addr) (L c : Nat) (w : World)
    (ih : ∀ w' : World, Below w.heap.size w w' → Calls Tryd.prog 44 #[vV k n s x A L c] w' (CpQ w' t)) :
    Calls Tryd.prog 128 #[eV y k n s x A L c] w (EnCpQ w y t) := by
  obtain ⟨b, m, ys⟩ := y
  have K := toKey ⟨b, m, ys⟩
  unfold eV
  go_enter Tryd.func128, Tryd.ntmps128
  go_wp2_with (fail)
  refine (K _).mono ?_
  rintro e w1 ⟨rfl, hb1⟩
  obtain ⟨a0, a1, a2, az, ab⟩ := al3 w _ _ _ _ _ _
  have e0 := (hb1.block _ (by rw [az]; omega)).trans a0
  have e1 := (hb1.block _ (by rw [az]; omega)).trans a1
  have e2 := (hb1.block _ (by rw [az]; omega)).trans a2
  have hz : w.heap.size + 2 < w1.heap.size := by have := hb1.size; rw [az] at this; omega
  have E1 := Lib.hid e1
  have E2 := Lib.hid e2
  have HB := Lib.hid (bs ab hb1)
  obtain ⟨r0, _⟩ := rowc e0
  obtain ⟨r2, f2⟩ := rowc e2
  clear hb1 a0 a1 a2 az ab e0 e1 e2
  unfold kyV
  go_wp2_with (fail)
  refine (ih _ ?_).mono ?_
  · exact ((HB.out.setCell (by simp; omega) _).setCell (by simp; omega) _).setCell (by simp; omega) _
  rintro e w2 ⟨v, rfl, hv, hb2⟩
  obtain ⟨k', n', s', x', ks', vs'⟩ := t
  obtain ⟨A', c', rfl, -, -⟩ := hv.out
  have s1 := (hb2.block (w.heap.size + 1) (by simp [set_size]; omega)).trans ((set_other (by omega)).trans ((set_other (by omega)).trans ((set_other (by omega)).trans E1.out)))
  have s2 := (hb2.block (w.heap.size + 1 + 1) (by simp [set_size]; omega)).trans (set_heap (set_heap (set_heap E2.out 0 _) 1 _) 2 _)
  have hz2 : w.heap.size + 2 < w2.heap.size := by have := hb2.size; simp [set_size] at this; omega
  have HB2 := Lib.hid hb2
  have HV := Lib.hid hv
  obtain ⟨r3, f3⟩ := rowc s1
  obtain ⟨r4, f4⟩ := rowc s2
  clear hb2 hv r0 r2 f2 s1 s2
  go_wp2_with (fail)
  refine bodyPost_ret (v := eV ⟨b, m, ys⟩ k' n' s' x' A' vs'.length c') (by simp [results, Tryd.results128, go_sem, r3]) rfl ⟨vV k' n' s' x' A' vs'.length c', rfl, ?_, ?_⟩
  · refine HV.out.nw (by simp [set_size]; omega) fun q hq hlt => ?_
    have q1 : q ≠ w.heap.size + 1 := by simp [set_size] at hq; omega
    have q2 : q ≠ w.heap.size + 1 + 1 := by simp [set_size] at hq; omega
    simp only [set_other q1, set_other q2]
  · have hB := bs (((HB.out.setCell (p := ⟨w.heap.size + 1 + 1, 0, none⟩) (by simp; omega) (.bool b)).setCell (p := ⟨w.heap.size + 1 + 1, 1, none⟩) (by simp; omega) (.int .i64 m)).setCell (p := ⟨w.heap.size + 1 + 1, 2, none⟩) (by simp; omega) (.string ys)) HB2.out
    iterate 13 refine Below.setCell ?_ (by first | (simp; done) | (simp; omega)) _
    exact hB

/-- Eight cells in a row. -/
def set8 (arr : Array Value) (o : Nat) (c0 c1 c2 c3 c4 c5 c6 c7 : Value) : Array Value :=
  (((((((arr.setIfInBounds o c0).setIfInBounds (o + 1) c1).setIfInBounds (o + 2) c2).setIfInBounds (o + 3) c3).setIfInBounds (o + 4) c4).setIfInBounds (o + 5) c5).setIfInBounds (o + 6) c6).setIfInBounds (o + 7) c7
theorem set8_size (arr : Array Value) (o : Nat) (c0 c1 c2 c3 c4 c5 c6 c7 : Value) : (set8 arr o c0 c1 c2 c3 c4 c5 c6 c7).size = arr.size := by simp [set8]
theorem set8_out (arr : Array Value) (o : Nat) (c0 c1 c2 c3 c4 c5 c6 c7 : Value) (p : Nat) (h : p < o ∨ o + 8 ≤ p) : (set8 arr o c0 c1 c2 c3 c4 c5 c6 c7)[p]? = arr[p]? := by
  unfold set8
  iterate 8 rw [Array.getElem?_setIfInBounds_ne (by omega)]
theorem set8_in (arr : Array Value) (o : Nat) (c0 c1 c2 c3 c4 c5 c6 c7 : Value) (h : o + 8 ≤ arr.size) (q : Nat) (hq : q < 8) : (set8 arr o c0 c1 c2 c3 c4 c5 c6 c7)[o + q]? = (#[c0, c1, c2, c3, c4, c5, c6, c7] : Array Value)[q]? := by
  unfold set8
  match q, hq with
  | 0, _ => iterate 7 rw [Array.getElem?_setIfInBounds_ne (by omega)]
            rw [Nat.add_zero, Array.getElem?_setIfInBounds_self_of_lt (by omega)]; rfl
  | 1, _ => iterate 6 rw [Array.getElem?_setIfInBounds_ne (by omega)]
            rw [Array.getElem?_setIfInBounds_self_of_lt (by simp; omega)]; rfl
  | 2, _ => iterate 5 rw [Array.getElem?_setIfInBounds_ne (by omega)]
            rw [Array.getElem?_setIfInBounds_self_of_lt (by simp; omega)]; rfl
  | 3, _ => iterate 4 rw [Array.getElem?_setIfInBounds_ne (by omega)]
            rw [Array.getElem?_setIfInBounds_self_of_lt (by simp; omega)]; rfl
  | 4, _ => iterate 3 rw [Array.getElem?_setIfInBounds_ne (by omega)]
            rw [Array.getElem?_setIfInBounds_self_of_lt (by simp; omega)]; rfl
  | 5, _ => iterate 2 rw [Array.getElem?_setIfInBounds_ne (by omega)]
            rw [Array.getElem?_setIfInBounds_self_of_lt (by simp; omega)]; rfl
  | 6, _ => rw [Array.getElem?_setIfInBounds_ne (by omega), Array.getElem?_setIfInBounds_self_of_lt (by simp; omega)]; rfl
  | 7, _ => rw [Array.getElem?_setIfInBounds_self_of_lt (by simp; omega)]; rfl

/-- The first j items of a row of L are laid. -/
def Laid (w : World) (g L j : Nat) (ks : List Ky) (vs : List Tr) : Prop :=
  ∃ arr, w.heap[g]? = some (.cells arr IE (0, 0)) ∧ arr.size = L * 8 ∧ ∀ i, i < j → ∃ y k n s x ks' vs' A c, ks[i]? = some y ∧ vs[i]? = some (.mk k n s x ks' vs') ∧ TIn w (Nw (g + 1) w) (.mk k n s x ks' vs') (vV k n s x A vs'.length c) ∧
    (I64 y.num ∧ y.str.size ≤ maxLen) ∧ ∀ q, q < 8 → arr[i * 8 + q]? = (eV y k n s x A vs'.length c).cells[q]?

theorem Laid.done {w : World} {g L : Nat} {ks : List Ky} {vs : List Tr} (h : Laid w g L L ks vs) (hk : ks.length = vs.length) (hL : vs.length = L) (hm : L ≤ maxLen) : IsIn w (Nw g w) ks vs (some ⟨g, 0, none⟩) := by
  obtain ⟨arr, hg, hs, h⟩ := h
  have pick : ∃ C : Nat → Array Value, ∀ i (hi : i < vs.length), KyAt w ⟨g, 0, none⟩ i (ks[i]'(hk ▸ hi)) ∧ (C i).size = 5 ∧ (∀ j, j < 5 → w.cell? ((⟨g, 0, none⟩ : Addr).add (8 * i + (3 + j))) = (C i)[j]?) ∧ TIn w (Nw g w) (vs[i]) (.agg (C i)) := by
    have each : ∀ i (hi : i < vs.length), ∃ C : Array Value, KyAt w ⟨g, 0, none⟩ i (ks[i]'(hk ▸ hi)) ∧ C.size = 5 ∧ (∀ j, j < 5 → w.cell? ((⟨g, 0, none⟩ : Addr).add (8 * i + (3 + j))) = C[j]?) ∧ TIn w (Nw g w) (vs[i]) (.agg C) := by
      intro i hi
      obtain ⟨y, k, n, s, x, ks', vs', A, c, hy, ht, hti, hyb, hc⟩ := h i (by omega)
      have ey : ks[i]'(hk ▸ hi) = y := by rw [List.getElem?_eq_getElem (hk ▸ hi)] at hy; exact Option.some.inj hy
      have et : vs[i] = .mk k n s x ks' vs' := by rw [List.getElem?_eq_getElem hi] at ht; exact Option.some.inj ht
      have at_ : ∀ q, q < 8 → w.cell? ((⟨g, 0, none⟩ : Addr).add (8 * i + q)) = (eV y k n s x A vs'.length c).cells[q]? := fun q hq => by
        rw [Addr.add_lit, Nat.zero_add, cell_of_row w g _ arr IE _ hg, ← hc q hq, Nat.mul_comm]
      rw [ey, et]
      refine ⟨_, ⟨at_ 0 (by omega), at_ 1 (by omega), at_ 2 (by omega), hyb⟩, rfl, fun j hj => ?_, hti.stays (fun b hb => ⟨by have := hb.1; omega, hb.2⟩) (fun b _ _ => rfl)⟩
      rw [at_ (3 + j) (by omega)]
      match j, hj with
      | 0, _ => rfl
      | 1, _ => rfl
      | 2, _ => rfl
      | 3, _ => rfl
      | 4, _ => rfl
    refine ⟨fun i => if hi : i < vs.length then (each i hi).choose else #[], fun i hi => ?_⟩
    simp only [dif_pos hi]
    exact (each i hi).choose_spec
  obtain ⟨C, hC⟩ := pick
  exact ⟨hk, by omega, C, fun i hi => ⟨_, rfl, ⟨Nat.le_refl _, arr, IE, hg⟩, (hC i hi).1, (hC i hi).2.1, (hC i hi).2.2.1⟩, fun i hi => (hC i hi).2.2.2⟩

theorem Laid.step {w w1 w2 : World} {g L j : Nat} {ks : List Ky} {vs : List Tr} (h : Laid w g L j ks vs) (hb : Below w.heap.size w w1) {y : Ky} {k n x : Int} {s : ByteArray} {ks' : List Ky} {vs' : List Tr} {A : Option Addr} {c : Nat}
    (hy : ks[j]? = some y) (ht : vs[j]? = some (.mk k n s x ks' vs')) (hti : TIn w1 (Nw w.heap.size w1) (.mk k n s x ks' vs') (vV k n s x A vs'.length c)) (hyb : I64 y.num ∧ y.str.size ≤ maxLen) (hj : j < L)
    (hg : ∀ arr, w1.heap[g]? = some (.cells arr IE (0, 0)) → w2.heap[g]? = some (.cells (set8 arr (j * 8) (.bool y.text) (.int .i64 y.num) (.string y.str) (.int .i64 k) (.int .i64 n) (.string s) (.int .i64 x) (.slice A vs'.length c)) IE (0, 0)))
    (ho : ∀ b, b ≠ g → w2.heap[b]? = w1.heap[b]?) : Laid w2 g L (j + 1) ks vs := by
  obtain ⟨arr, hg0, hs, h⟩ := h
  have glt : g < w.heap.size := (Array.getElem?_eq_some_iff.1 hg0).1
  have hg1 := (hb.block g glt).trans hg0
  refine ⟨_, hg arr hg1, by rw [set8_size, hs], fun i hi => ?_⟩
  by_cases e : i = j
  · subst e
    refine ⟨y, k, n, s, x, ks', vs', A, c, hy, ht, hti.nw (by omega) (fun b hb1 _ => ho b (by omega)), hyb, fun q hq => ?_⟩
    rw [set8_in _ _ _ _ _ _ _ _ _ _ (by omega) q hq]
    rfl
  · obtain ⟨y', k', n', s', x', ks2, vs2, A', c', hy', ht', hti', hyb', hc'⟩ := h i (by omega)
    refine ⟨y', k', n', s', x', ks2, vs2, A', c', hy', ht', hti'.nw (Nat.le_refl _) (fun b hb1 hlt => (ho b (by omega)).trans (hb.block b hlt)), hyb', fun q hq => ?_⟩
    rw [set8_out _ _ _ _ _ _ _ _ _ _ _ (by omega)]
    exact hc' q hq

theorem ieRow : (Tryd.prog.info? IE).map (fun i => (i.zero, i.size, i.bytes)) = some (some (.agg #[.bool false, .int .i64 0, .string ⟨#[]⟩, .int .i64 0, .int .i64 0, .string ⟨#[]⟩, .int .i64 0, .slice none 0 0]), 8, 96) := by kernel_rfl
theorem madeSize (z : Array Value) (n : Nat) : (madeCells z n).size = n := by simp [madeCells]

/-- Copies of items: in a new block. -/
def ItCpQ (w : World) (ks : List Ky) (vs : List Tr) (e : Ending) (w' : World) : Prop := ∃ g, w.heap.size = g ∧ e = .returned (.slice (some ⟨g, 0, none⟩) vs.length vs.length) ∧ IsIn w' (Nw w.heap.size w') ks vs (some ⟨g, 0, none⟩) ∧ Below w.heap.size w w'

theorem tots_mem : ∀ {ks : List Ky} {vs : List Tr} {j : Nat} {y : Ky} {t : Tr}, ks[j]? = some y → vs[j]? = some t → tot t ≤ tots ks vs
  | [], _, j, _, _, h, _ => by simp at h
  | _, [], j, _, _, _, h => by simp at h
  | y :: ks, t :: vs, 0, _, _, h, h' => by
    simp at h h'
    subst h h'
    rw [tots]
    omega
  | y :: ks, t :: vs, j + 1, _, _, h, h' => by
    have := tots_mem (ks := ks) (vs := vs) (j := j) (by simpa using h) (by simpa using h')
    rw [tots]
    omega

set_option maxHeartbeats 800000 in
theorem cpItems (ks : List Ky) (vs : List Tr) (ih : ∀ t ∈ vs, Cps t) (hT : vs.length + tots ks vs ≤ 1048576) (A : Option Addr) (c : Nat) (w : World) (S : Nat → Prop) (h : IsIn w S ks vs A) :
    Calls Tryd.prog 88 #[.slice A vs.length c] w (ItCpQ w ks vs) := by
  obtain ⟨L, HL⟩ : ∃ L, Hid (L = vs.length) := ⟨_, Lib.hid rfl⟩
  have hm : L ≤ 1048576 := by rw [HL.out]; omega
  have hkl : Hid (ks.length = vs.length) := Lib.hid h.1
  obtain ⟨i0, hi, hz⟩ : ∃ i, Tryd.prog.info? IE = some i ∧ (i.zero = some (.agg #[.bool false, .int .i64 0, .string ⟨#[]⟩, .int .i64 0, .int .i64 0, .string ⟨#[]⟩, .int .i64 0, .slice none 0 0]) ∧ i.size = 8 ∧ i.bytes = 96) := by
    have := ieRow
    cases hq : Tryd.prog.info? IE with
    | none => rw [hq] at this; cases this
    | some i => rw [hq] at this; simp at this; exact ⟨i, rfl, this⟩
  have hmk := run_make (P := Tryd.prog) w 24 IE i0 _ Tryd.underlying24 hi hz.1 .i64 .i64 L L (by omega) (Int.le_refl _) (by rw [hz.2.2]; omega) (by omega)
  rw [hz.2.1] at hmk
  simp only [Int.toNat_natCast] at hmk
  have HI := Lib.hid hi
  have HZ := Lib.hid hz
  clear hi hz
  unfold ItCpQ
  rw [← HL.out]
  obtain ⟨arr0, HA⟩ : ∃ a, Hid (a = madeCells (Value.agg #[.bool false, .int .i64 0, .string ⟨#[]⟩, .int .i64 0, .int .i64 0, .string ⟨#[]⟩, .int .i64 0, .slice none 0 0]).cells (L * 8)) := ⟨_, Lib.hid rfl⟩
  rw [← HA.out] at hmk
  go_enter Tryd.func88, Tryd.ntmps88
  go_wp2_with (fail)
  clear hmk
  go_loopg [4] (L + 1) (fun gk i wr => ∃ j : Nat, i = .int .i64 j ∧ gk + j = L + 1 ∧ j ≤ L ∧ Laid wr w.heap.size L j ks vs ∧ Below w.heap.size w wr)
  case atStart => exact ⟨0, rfl, by omega, by omega, ⟨arr0, heap_alloc_new _ _, by rw [HA.out, madeSize], fun i hi => absurd hi (by omega)⟩, b1 _ _⟩
  case round =>
    obtain ⟨j, rfl, hgj, hjL, hla, hb⟩ := hrel
    have HB := Lib.hid hb
    have HLa := Lib.hid hla
    clear hb hla
    by_cases hlt : j < L
    · obtain ⟨a, y, k, n, s, x, ks', vs', A1, c1, rfl, hS, hky, hvs, ht, hyb, hkb, hin, hcell⟩ := (h.below HB.out).item (i := j) (by rw [← HL.out]; exact hlt)
      have htj := tots_mem hky hvs
      have ihj : ∀ w', Below wr.heap.size wr w' → Calls Tryd.prog 44 #[vV k n s x A1 vs'.length c1] w' (CpQ w' (.mk k n s x ks' vs')) := fun w' hb' => ih _ (List.mem_of_getElem? hvs) (by omega) w' S _ (ht.below' hb')
      have HKY := Lib.hid hky
      have HVS := Lib.hid hvs
      clear hky hvs ht hin hkb hS
      obtain ⟨p0, p1, p2, p3, p4, p5, p6, p7⟩ := hcell
      go_wp2_with (fail)
      refine (cpEntry y _ k n s x A1 vs'.length c1 _ ihj).mono ?_
      rintro e w1 ⟨v, rfl, hv, hb1⟩
      obtain ⟨A2, c2, rfl, -, -⟩ := hv.out
      have HV := Lib.hid hv
      have HB1 := Lib.hid hb1
      obtain ⟨arr, hg0, hs, -⟩ := HLa.out
      have glt : w.heap.size < wr.heap.size := (Array.getElem?_eq_some_iff.1 hg0).1
      have hg1 := (hb1.block _ glt).trans hg0
      have HG1 := Lib.hid hg1
      obtain ⟨r1, f1⟩ := rowc hg1
      have z : ∀ q, q < 8 → ∃ u, w1.cell? ⟨w.heap.size, j * 8 + q, none⟩ = some u := fun q hq => ⟨_, (r1 _).trans (Array.getElem?_eq_getElem (by omega))⟩
      obtain ⟨u0, z0⟩ := z 0 (by omega)
      obtain ⟨u1, z1⟩ := z 1 (by omega)
      obtain ⟨u2, z2⟩ := z 2 (by omega)
      obtain ⟨u3, z3⟩ := z 3 (by omega)
      obtain ⟨u4, z4⟩ := z 4 (by omega)
      obtain ⟨u5, z5⟩ := z 5 (by omega)
      obtain ⟨u6, z6⟩ := z 6 (by omega)
      obtain ⟨u7, z7⟩ := z 7 (by omega)
      rw [Nat.add_zero] at z0
      have HS := Lib.hid hs
      clear hv hb1 hg0 hg1 hs r1 z
      unfold enV
      go_wp2_with (fail)
      go_roundg (L - j)
      case rel =>
        refine ⟨j + 1, by go_num, by omega, by omega, HLa.out.step HB1.out HKY.out HVS.out HV.out hyb hlt (fun arr hg => ?_) (fun b hb => ?_), ?_⟩
        · exact set_heap (set_heap (set_heap (set_heap (set_heap (set_heap (set_heap (set_heap hg _ _) _ _) _ _) _ _) _ _) _ _) _ _) _ _
        · simp only [set_other hb]
        · have hB := bs HB.out HB1.out
          iterate 8 refine Below.setCell ?_ (by first | (simp; done) | (simp; omega)) _
          exact hB
      case measure => omega
    · obtain rfl : j = L := by omega
      go_wp2_with (fail)
      go_ret
      exact ⟨_, rfl, rfl, (HLa.out.done hkl.out HL.out.symm (by unfold maxLen; omega)).stays (fun b hb => hb) (fun b _ _ => rfl), HB.out⟩

theorem tot_mk (k n : Int) (s : ByteArray) (x : Int) (ks : List Ky) (vs : List Tr) : tot (.mk k n s x ks vs) = s.size + (vs.length + tots ks vs) := by rw [tot]

set_option maxHeartbeats 800000 in
theorem cps : ∀ t, Cps t := Tr.ind fun k n s x ks vs ih hT w S v h => by
  obtain ⟨A, c, rfl, hk, hin⟩ := h.out
  clear h
  rw [tot_mk] at hT
  have C := cpItems ks vs ih (by omega) A c
  clear ih hT
  obtain ⟨L, HL⟩ : ∃ L, Hid (L = vs.length) := ⟨_, Lib.hid rfl⟩
  have HI := Lib.hid hin
  clear hin
  go_enter Tryd.func44, Tryd.ntmps44
  go_wp2_with (fail)
  refine (C _ S ?_).mono ?_
  · refine HI.out.below ?_
    exact b3 _ _ _ _
  rintro e w1 ⟨g, hg, rfl, hi1, hb1⟩
  obtain ⟨a0, a1, a2, az, ab⟩ := al3 w _ _ _ _ _ _
  have e1 := (hb1.block _ (by rw [az]; omega)).trans a1
  have e2 := (hb1.block _ (by rw [az]; omega)).trans a2
  have hz : w.heap.size + 2 < w1.heap.size := by have := hb1.size; rw [az] at this; omega
  have HB := Lib.hid (bs ab hb1)
  have HI1 := Lib.hid hi1
  have HG := Lib.hid hg
  obtain ⟨r1, f1⟩ := rowc e1
  obtain ⟨r2, f2⟩ := rowc e2
  rw [← HL.out]
  clear hb1 a0 a1 a2 az ab e1 e2 hi1 hg
  go_wp2_with (fail)
  refine bodyPost_ret (v := vV k n s x (some ⟨g, 0, none⟩) L L) (by simp [results, Tryd.results44, go_sem, r1]) rfl ⟨_, rfl, ?_, ?_⟩
  · have hh : ∀ q, q ≠ w.heap.size + 1 → q ≠ w.heap.size + 1 + 1 → ((((((w1.setCell ⟨w.heap.size + 1 + 1, 4, none⟩ (.slice (some ⟨g, 0, none⟩) L L)).setCell ⟨w.heap.size + 1, 0, none⟩ (.int .i64 k)).setCell ⟨w.heap.size + 1, 1, none⟩ (.int .i64 n)).setCell ⟨w.heap.size + 1, 2, none⟩ (.string s)).setCell ⟨w.heap.size + 1, 3, none⟩ (.int .i64 x)).setCell ⟨w.heap.size + 1, 4, none⟩ (.slice (some ⟨g, 0, none⟩) L L)).heap[q]? = w1.heap[q]? := fun q q1 q2 => by simp only [set_other q1, set_other q2]
    have ez : w.heap.size + 1 + 1 + 1 ≤ g := by rw [← HG.out]; simp
    have base : TIn w1 (Nw (w.heap.size + 1 + 1 + 1) w1) (.mk k n s x ks vs) (vV k n s x (some ⟨g, 0, none⟩) L L) := by
      have := TIn.of (k := k) (n := n) (s := s) (x := x) vs.length hk (HI1.out.stays (S' := Nw (w.heap.size + 1 + 1 + 1) w1) (fun b hb => ⟨by have := hb.1; simp at this; omega, hb.2⟩) (fun b _ _ => rfl)) ⟨Nat.le_refl _, HI1.out.2.1⟩
      rwa [← HL.out] at this
    exact base.nw (by omega) fun q hq _ => hh q (by omega) (by omega)
  · have hB := HB.out
    iterate 6 refine Below.setCell ?_ (by first | (simp; done) | (simp; omega)) _
    exact hB

end Go.Proofs.YtlbkbcafkjgckaaDoor.tree

/-
  The digits at the beginning of a text and the number that they give, held to a limit; without the program.
  Conditions: those that each theorem names.
-/
namespace Go.Proofs.YtlbkbcafkjgckaaDoor.lead
set_option linter.unusedVariables false

def dg (b : UInt8) : Bool := decide (48 ≤ b.toNat) && decide (b.toNat ≤ 57)
theorem dg_iff {b : UInt8} : dg b = true ↔ 48 ≤ b.toNat ∧ b.toNat ≤ 57 := by unfold dg; simp
theorem dg_no {b : UInt8} : dg b = false ↔ ¬ (48 ≤ b.toNat ∧ b.toNat ≤ 57) := by rw [← dg_iff]; simp
/-- The digits at the beginning. -/
def ld : List UInt8 → List UInt8
  | [] => []
  | b :: r => if dg b then b :: ld r else []
def stp (a : Nat) (b : UInt8) : Nat := min (10 * a + (b.toNat - 48)) 1000000001
theorem stp_eq (a : Nat) (b : UInt8) : stp a b = min (10 * a + (b.toNat - 48)) 1000000001 := by unfold stp; rfl
/-- The number of digits behind the number a, held to 1000000001. -/
def mg (a : Nat) (l : List UInt8) : Nat := l.foldl stp a
theorem mg_nil (a : Nat) : mg a [] = a := by unfold mg; rw [List.foldl_nil]
theorem mg_cons (a : Nat) (b : UInt8) (l : List UInt8) : mg a (b :: l) = mg (min (10 * a + (b.toNat - 48)) 1000000001) l := by unfold mg; rw [List.foldl_cons, stp_eq]
theorem ld_nil : ld [] = [] := rfl
theorem ld_yes {b : UInt8} {r : List UInt8} (h : dg b = true) : ld (b :: r) = b :: ld r := by rw [ld, if_pos h]
theorem ld_no {b : UInt8} {r : List UInt8} (h : dg b = false) : ld (b :: r) = [] := by rw [ld, if_neg (by simp [h])]
theorem mg_le : ∀ (l : List UInt8) (a : Nat), a ≤ 1000000001 → mg a l ≤ 1000000001
  | [], a, h => by rw [mg_nil]; exact h
  | b :: l, a, h => by rw [mg_cons]; exact mg_le l _ (Nat.min_le_right _ _)
theorem ld_len : ∀ l : List UInt8, (ld l).length ≤ l.length
  | [] => by simp [ld]
  | b :: r => by
    rw [ld]
    split
    · simp only [List.length_cons]; have := ld_len r; omega
    · simp
theorem ld_take : ∀ l : List UInt8, l.take (ld l).length = ld l
  | [] => by simp [ld]
  | b :: r => by
    rw [ld]
    split
    · rw [List.length_cons, List.take_succ_cons, ld_take r]
    · simp
theorem ld_dig : ∀ (l : List UInt8) (b : UInt8), b ∈ ld l → dg b = true
  | [], b, h => by simp [ld] at h
  | c :: r, b, h => by
    rw [ld] at h
    split at h
    · rename_i hc
      rcases List.mem_cons.1 h with rfl | h
      · exact hc
      · exact ld_dig r b h
    · simp at h
theorem ld_all : ∀ l : List UInt8, (∀ b ∈ l, dg b = true) → ld l = l
  | [], _ => rfl
  | b :: r, h => by rw [ld_yes (h b List.mem_cons_self), ld_all r fun c hc => h c (List.mem_cons_of_mem _ hc)]
theorem ld_ld (l : List UInt8) : ld (ld l) = ld l := ld_all _ (ld_dig l)
theorem ld_full {l : List UInt8} (h : (ld l).length = l.length) : ld l = l := by rw [← ld_take l, h, List.take_length]

theorem size_eq (s : ByteArray) : s.data.toList.length = s.size := Array.length_toList
theorem drop_at {s : ByteArray} {k : Nat} (h : k < s.size) : s.data.toList.drop k = s[k] :: s.data.toList.drop (k + 1) := by
  rw [List.drop_eq_getElem_cons (by rw [size_eq]; exact h)]
  rfl
theorem drop_end {s : ByteArray} {k : Nat} (h : s.size ≤ k) : s.data.toList.drop k = [] := List.drop_eq_nil_of_le (by rw [size_eq]; exact h)

/-- At place k, with the number n so far: what stands behind gives R and ends at K. -/
def At (s : ByteArray) (k n R K : Nat) : Prop := mg n (ld (s.data.toList.drop k)) = R ∧ k + (ld (s.data.toList.drop k)).length = K ∧ n ≤ 1000000001
theorem At.start (s : ByteArray) (k : Nat) : At s k 0 (mg 0 (ld (s.data.toList.drop k))) (k + (ld (s.data.toList.drop k)).length) := ⟨rfl, rfl, by omega⟩
theorem At.step {s : ByteArray} {k n R K : Nat} (h : At s k n R K) (hk : k < s.size) (hd : dg s[k] = true) : At s (k + 1) (min (10 * n + (s[k].toNat - 48)) 1000000001) R K := by
  obtain ⟨h1, h2, h3⟩ := h
  rw [drop_at hk, ld_yes hd] at h1 h2
  rw [mg_cons] at h1
  rw [List.length_cons] at h2
  exact ⟨h1, by omega, Nat.min_le_right _ _⟩
theorem At.stop {s : ByteArray} {k n R K : Nat} (h : At s k n R K) (hk : k < s.size) (hd : dg s[k] = false) : n = R ∧ k = K := by
  obtain ⟨h1, h2, h3⟩ := h
  rw [drop_at hk, ld_no hd] at h1 h2
  rw [mg_nil] at h1
  exact ⟨h1, by simpa using h2⟩
theorem At.fin {s : ByteArray} {k n R K : Nat} (h : At s k n R K) (hk : s.size ≤ k) : n = R ∧ k = K := by
  obtain ⟨h1, h2, h3⟩ := h
  rw [drop_end hk] at h1 h2
  rw [ld_nil] at h1 h2
  rw [mg_nil] at h1
  exact ⟨h1, by simpa using h2⟩

/-- Whether the text begins with the sign. -/
def neg (s : ByteArray) : Bool := s.data.toList.head? == some 45
def off (s : ByteArray) : Nat := if neg s then 1 else 0
def digs (s : ByteArray) : List UInt8 := ld (s.data.toList.drop (off s))
def mag (s : ByteArray) : Nat := mg 0 (digs s)
/-- LeadingInt. -/
def li (s : ByteArray) : Int := if neg s then -((min (mag s) 1000000000 : Nat) : Int) else ((min (mag s) 1000000000 : Nat) : Int)
/-- IsNumeric. -/
def isn (s : ByteArray) : Bool := decide (1 ≤ s.size - off s) && decide (s.size - off s ≤ 10) && decide ((digs s).length = s.size - off s) && decide (mag s ≤ 1000000000)
theorem mag_le (s : ByteArray) : mag s ≤ 1000000001 := mg_le _ _ (by omega)
theorem neg_lt {s : ByteArray} (h : neg s = true) : 0 < s.size := by
  rcases Nat.eq_zero_or_pos s.size with hz | hz
  · have : s.data.toList = [] := List.eq_nil_of_length_eq_zero (by rw [size_eq]; omega)
    unfold neg at h
    rw [this] at h
    simp at h
  · exact hz
theorem neg_at {s : ByteArray} (h : 0 < s.size) : neg s = (s[0] == 45) := by
  unfold neg
  have : s.data.toList.head? = some s[0] := by
    rw [List.head?_eq_getElem?, List.getElem?_eq_getElem (by rw [size_eq]; exact h)]
    rfl
  rw [this]
  rfl
theorem off_le (s : ByteArray) : off s ≤ s.size := by
  unfold off
  split
  · rename_i h; exact neg_lt h
  · omega
/-- What the model's scan gives: the number and how many bytes it takes. -/
def scn (s : ByteArray) : Int × Nat := if (digs s).length = 0 then (0, 0) else if neg s then (-(mag s : Int), 1 + (digs s).length) else ((mag s : Int), (digs s).length)
theorem li_scn (s : ByteArray) : li s = max (-1000000000) (min 1000000000 (scn s).1) := by
  unfold li scn
  by_cases h0 : (digs s).length = 0
  · have hm : mag s = 0 := by unfold mag; rw [List.eq_nil_of_length_eq_zero h0, mg_nil]
    rw [if_pos h0, hm]
    split <;> simp <;> omega
  · rw [if_neg h0]
    split <;> omega
theorem scn_le (s : ByteArray) : -1000000001 ≤ (scn s).1 ∧ (scn s).1 ≤ 1000000001 := by
  have := mag_le s
  unfold scn
  split
  · simp
  · split <;> simp <;> omega
theorem scn_take (s : ByteArray) : (scn s).2 ≤ s.size := by
  have h1 : (digs s).length ≤ s.size - off s := by
    unfold digs
    have := ld_len (s.data.toList.drop (off s))
    rw [List.length_drop, size_eq] at this
    exact this
  have h2 := off_le s
  unfold scn
  split
  · simp
  · unfold off at h1 h2
    split <;> rename_i hn <;> simp only [hn] at h1 h2 <;> simp at h1 h2 ⊢ <;> omega
theorem isn_scn (s : ByteArray) : isn s = (decide ((0 : Int) < (scn s).2) && decide ((scn s).2 = s.size) && (decide ((-1000000000 : Int) ≤ (scn s).1) && decide ((scn s).1 ≤ (1000000000 : Int))) && (decide ((scn s).2 ≤ 10) || decide ((scn s).2 = 11) && neg s)) := by
  have h1 : (digs s).length ≤ s.size - off s := by
    unfold digs
    have := ld_len (s.data.toList.drop (off s))
    rw [List.length_drop, size_eq] at this
    exact this
  have h2 := off_le s
  have hm := mag_le s
  unfold isn scn
  rw [Bool.eq_iff_iff]
  simp only [Bool.and_eq_true, Bool.or_eq_true, decide_eq_true_eq]
  unfold off at h1 h2 ⊢
  by_cases h0 : (digs s).length = 0
  · rw [if_pos h0]
    constructor
    · rintro ⟨⟨⟨a, b⟩, c⟩, d⟩; omega
    · rintro ⟨⟨⟨a, b⟩, c⟩, d⟩; simp at a
  · rw [if_neg h0]
    by_cases hn : neg s = true
    · simp only [hn, if_true] at h1 h2 ⊢
      constructor
      · rintro ⟨⟨⟨a, b⟩, c⟩, d⟩; simp; omega
      · rintro ⟨⟨⟨a, b⟩, c⟩, d⟩; simp at a c d; omega
    · simp only [hn] at h1 h2 ⊢
      simp at h1 h2
      constructor
      · rintro ⟨⟨⟨a, b⟩, c⟩, d⟩; simp at a b c ⊢; omega
      · rintro ⟨⟨⟨a, b⟩, c⟩, d⟩; simp at a b c d ⊢; omega

end Go.Proofs.YtlbkbcafkjgckaaDoor.lead

/-
  What Min, Max and InRange of the project, and the model's own range test, return at every integer; they change nothing.
  Conditions: none but that arguments are of Go's type int.
-/
namespace Go.Proofs.YtlbkbcafkjgckaaDoor.nums
open Go.ChangeShapes Go.WideShapes Go.ChangeAt Go.RowKit
set_option linter.unusedVariables false

def mn (a b : Int) : Int := if b < a then b else a
def mx (a b : Int) : Int := if a < b then b else a
def inr (n l h : Int) : Bool := decide (l ≤ n) && decide (n ≤ h)

theorem ret_int {k : IntKind} {a b : Int} (h : a = b) : Ending.returned (.int k a) = .returned (.int k b) := by rw [h]

theorem implMin (a b : Int) (w : World) : Calls Tryd.prog 78 #[.int .i64 a, .int .i64 b] w fun e w' => e = .returned (.int .i64 (mn a b)) ∧ w = w' := by
  by_cases h : b < a
  all_goals
    go_enter Tryd.func78, Tryd.ntmps78
    go_wp2
    go_ret
    exact ⟨ret_int (by unfold mn; split <;> omega), rfl⟩

theorem implMax (a b : Int) (w : World) : Calls Tryd.prog 65 #[.int .i64 a, .int .i64 b] w fun e w' => e = .returned (.int .i64 (mx a b)) ∧ w = w' := by
  by_cases h : a < b
  all_goals
    go_enter Tryd.func65, Tryd.ntmps65
    go_wp2
    go_ret
    exact ⟨ret_int (by unfold mx; split <;> omega), rfl⟩

theorem l1In (n l h : Int) (w : World) : Calls Tryd.prog 61 #[.int .i64 n, .int .i64 l, .int .i64 h] w fun e w' => e = .returned (.bool (inr n l h)) ∧ w = w' := by
  by_cases h1 : l ≤ n
  all_goals
    by_cases h2 : n ≤ h
    all_goals
      go_enter Tryd.func61, Tryd.ntmps61
      go_wp2
      go_ret
      exact ⟨by simp [inr, h1, h2], rfl⟩

theorem implInRange (n l h : Int) (w : World) : Calls Tryd.prog 86 #[.int .i64 n, .int .i64 l, .int .i64 h] w fun e w' => e = .returned (.bool (inr n l h)) ∧ w = w' := by
  by_cases h1 : l ≤ n
  all_goals
    by_cases h2 : n ≤ h
    all_goals
      go_enter Tryd.func86, Tryd.ntmps86
      go_wp2
      go_ret
      exact ⟨by simp [inr, h1, h2], rfl⟩

end Go.Proofs.YtlbkbcafkjgckaaDoor.nums

/-
  The project's reading of the digits at the beginning of a text: leadingDigits, magnitude, LeadingInt and IsNumeric.
  Conditions: the text has at most 2^40 bytes.
-/
namespace Go.Proofs.YtlbkbcafkjgckaaDoor.lead
open Go.ChangeShapes Go.WideShapes Go.ChangeAt Go.RowKit
set_option linter.unusedVariables false

def tx (l : List UInt8) : ByteArray := ⟨l.toArray⟩
theorem tx_list (l : List UInt8) : (tx l).data.toList = l := by simp [tx]
theorem tx_size (l : List UInt8) : (tx l).size = l.length := by simp [tx, ByteArray.size]
theorem tx_of (s : ByteArray) : tx s.data.toList = s := by cases s; simp [tx]
theorem ext_tx (s : ByteArray) (k : Nat) : s.extract 0 k = tx (s.data.toList.take k) := by
  have : ∀ a b : ByteArray, a.data.toList = b.data.toList → a = b := fun a b h => by cases a; cases b; simp at h; congr
  apply this
  rw [tx_list]
  simp [ByteArray.data_extract]
theorem at_mem {s : ByteArray} {k : Nat} (hk : k < s.size) : s[k] ∈ s.data.toList := by
  have h : s.data.toList[k]'(by rw [size_eq]; exact hk) ∈ s.data.toList := List.getElem_mem _
  exact h

theorem bss {w w1 w2 : World} (h : Below w.heap.size w w1) (h2 : Below w1.heap.size w1 w2) : Below w.heap.size w w2 := h.trans (h2.mono h.size)

theorem isDigit (b : UInt8) (w : World) : Calls Tryd.prog 122 #[.int .u8 b.toNat] w fun e w' => e = .returned (.bool (dg b)) ∧ w = w' := by
  have hb0 : (0 : Int) ≤ (b.toNat : Int) := by omega
  have hb9 : (b.toNat : Int) ≤ 255 := by have := b.toNat_lt; omega
  by_cases h1 : 48 ≤ b.toNat
  · have i1 : (48 : Int) ≤ (b.toNat : Int) := by omega
    by_cases h2 : b.toNat ≤ 57
    · have i2 : (b.toNat : Int) ≤ 57 := by omega
      have HD : Hid (dg b = true) := Lib.hid (dg_iff.2 ⟨h1, h2⟩)
      clear h1 h2
      go_enter Tryd.func122, Tryd.ntmps122
      go_wp2
      go_ret
      exact ⟨by rw [HD.out]; rfl, rfl⟩
    · have i2 : ¬ (b.toNat : Int) ≤ 57 := by omega
      have HD : Hid (dg b = false) := Lib.hid (dg_no.2 fun h => h2 h.2)
      clear h1 h2
      go_enter Tryd.func122, Tryd.ntmps122
      go_wp2
      go_ret
      exact ⟨by rw [HD.out]; rfl, rfl⟩
  · have i1 : ¬ (48 : Int) ≤ (b.toNat : Int) := by omega
    have HD : Hid (dg b = false) := Lib.hid (dg_no.2 fun h => h1 h.1)
    clear h1
    go_enter Tryd.func122, Tryd.ntmps122
    go_wp2
    go_ret
    exact ⟨by rw [HD.out]; rfl, rfl⟩

/-- leadingDigits. -/
theorem leadingDigits (s : ByteArray) (hs : s.size ≤ 1099511627776) (w : World) : Calls Tryd.prog 80 #[.string s] w fun e w' => e = .returned (.string (tx (ld s.data.toList))) ∧ Below w.heap.size w w' := by
  have ST := At.start s 0
  obtain ⟨R, HR⟩ : ∃ R, Hid (mg 0 (ld (s.data.toList.drop 0)) = R) := ⟨_, Lib.hid rfl⟩
  obtain ⟨K, HK⟩ : ∃ K, Hid ((ld s.data.toList).length = K) := ⟨_, Lib.hid rfl⟩
  have HT : Hid (tx (ld s.data.toList) = s.extract 0 K) := Lib.hid (by rw [ext_tx, ← HK.out, ld_take])
  have hKs : K ≤ s.size := by rw [← HK.out, ← size_eq]; exact ld_len _
  have HF : Hid (K = s.size → s.extract 0 K = s) := Lib.hid fun h => by rw [h, ext_tx, ← size_eq, List.take_length, tx_of]
  rw [HR.out] at ST
  have hk0 : 0 + (ld (s.data.toList.drop 0)).length = K := by rw [← HK.out]; simp
  rw [hk0] at ST
  rw [HT.out]
  clear hk0 HT HR HK
  go_enter Tryd.func80, Tryd.ntmps80
  go_wp2
  go_loop [6] (fun i => ∃ (k n : Nat), k ≤ s.size ∧ i = .int .i64 k ∧ At s k n R K) (fun i => s.size - (RowKit.intOf i).toNat)
  case atStart => exact ⟨0, 0, by omega, rfl, ST⟩
  case round =>
    clear ST
    obtain ⟨k, n, hk, rfl, hA⟩ := hrel
    by_cases hlt : k < s.size
    · have hb0 : (0 : Int) ≤ (s[k].toNat : Int) := by omega
      have hb9 : (s[k].toNat : Int) ≤ 255 := by have := s[k].toNat_lt; omega
      by_cases hd : dg s[k] = true
      · have HA := Lib.hid (hA.step hlt hd)
        have HD := Lib.hid hd
        clear hA hd
        go_wp2_with (go_at_call 122; refine (isDigit _ _).mono ?_; rintro e w1 ⟨rfl, rfl⟩; rw [HD.out])
        exact ⟨⟨k + 1, _, by omega, by go_num, HA.out⟩, by simp only [RowKit.intOf]; omega⟩
      · have hd' : dg s[k] = false := by simpa using hd
        obtain ⟨-, rfl⟩ := hA.stop hlt hd'
        have HD := Lib.hid hd'
        clear hA hd hd'
        go_wp2_with (go_at_call 122; refine (isDigit _ _).mono ?_; rintro e w1 ⟨rfl, rfl⟩; rw [HD.out])
        go_ret
        exact ⟨rfl, Below.refl _ _⟩
    · obtain rfl : k = s.size := by omega
      obtain ⟨-, rfl⟩ := hA.fin (Nat.le_refl _)
      have HE := Lib.hid (HF.out rfl)
      clear hA
      go_wp2
      go_ret
      exact ⟨by first | rfl | (rw [HE.out]; rfl), Below.refl _ _⟩

/-- magnitude, of digits. -/
theorem magnitude (s : ByteArray) (hs : s.size ≤ 1099511627776) (hdig : ∀ b ∈ s.data.toList, dg b = true) (w : World) : Calls Tryd.prog 79 #[.string s] w fun e w' => e = .returned (.int .i64 (mg 0 s.data.toList)) ∧ Below w.heap.size w w' := by
  have ST := At.start s 0
  obtain ⟨K, HK⟩ : ∃ K, Hid (0 + (ld (s.data.toList.drop 0)).length = K) := ⟨_, Lib.hid rfl⟩
  obtain ⟨R, HR⟩ : ∃ R, Hid (mg 0 s.data.toList = R) := ⟨_, Lib.hid rfl⟩
  have hr : mg 0 (ld (s.data.toList.drop 0)) = R := by rw [List.drop_zero, ld_all _ hdig, HR.out]
  rw [hr, HK.out] at ST
  have hR : R ≤ 1000000001 := by rw [← HR.out]; exact mg_le _ _ (by omega)
  rw [HR.out]
  have HG := Lib.hid hdig
  clear hr HK HR hdig
  go_enter Tryd.func79, Tryd.ntmps79
  go_wp2
  go_loop [3, 7] (fun m i => ∃ (k n : Nat) (x : Int), k ≤ s.size ∧ i = .int .i64 k ∧ At s k n R K ∧ 0 ≤ x ∧ x ≤ 1000000001 ∧ Hid (x = (n : Int)) ∧ m = .int .i64 x) (fun _ i => s.size - (RowKit.intOf i).toNat)
  case atStart => exact ⟨0, 0, 0, by omega, rfl, ST, by omega, by omega, rfl, rfl⟩
  case round =>
    clear ST
    obtain ⟨k, n, x, hk, rfl, hA, x0, x1, HX, rfl⟩ := hrel
    by_cases hlt : k < s.size
    · have hb0 : (0 : Int) ≤ (s[k].toNat : Int) := by omega
      have hb9 : (s[k].toNat : Int) ≤ 255 := by have := s[k].toNat_lt; omega
      have hd := HG.out _ (at_mem hlt)
      have HA := Lib.hid (hA.step hlt hd)
      have hd' := dg_iff.1 hd
      obtain ⟨d1, d2⟩ := hd'
      have D1 : (48 : Int) ≤ (s[k].toNat : Int) := by omega
      have D2 : (s[k].toNat : Int) ≤ 57 := by omega
      clear hA hd
      go_wp2_with (go_at_call 78; refine (nums.implMin _ _ _).mono ?_; rintro e w1 ⟨rfl, rfl⟩)
      refine ⟨⟨k + 1, _, _, by omega, by go_num, HA.out, ?_, ?_, ?_, rfl⟩, by simp only [RowKit.intOf]; omega⟩
      · unfold nums.mn; split <;> omega
      · unfold nums.mn; split <;> omega
      · have := HX.out
        show _ = _
        unfold nums.mn
        split <;> omega
    · obtain ⟨rfl, -⟩ := hA.fin (by omega)
      have hx := HX.out
      subst hx
      clear hA HX
      go_wp2
      go_ret
      exact ⟨rfl, Below.refl _ _⟩

theorem cut_eq (s : ByteArray) : (Lib.hasPrefix s.data.toList [45] = neg s) ∧ (Lib.trimPrefix s.data.toList [45] = s.data.toList.drop (off s)) := by
  unfold off neg
  cases s.data.toList with
  | nil => exact ⟨rfl, rfl⟩
  | cons b r =>
    by_cases h : b = 45
    · subst h; exact ⟨rfl, rfl⟩
    · have h' : (b == 45) = false := by simpa using h
      have h2 : ((45 : UInt8) == b) = false := by simpa using fun e => h e.symm
      constructor
      · simp [Lib.hasPrefix, List.isPrefixOf, h2]
        exact fun e => h e
      · simp [Lib.trimPrefix, Lib.hasPrefix, List.isPrefixOf, h2, h']

/-- What stands behind the sign. -/
def beh (s : ByteArray) : ByteArray := tx (s.data.toList.drop (off s))
theorem beh_list (s : ByteArray) : (beh s).data.toList = s.data.toList.drop (off s) := tx_list _
theorem beh_size (s : ByteArray) : (beh s).size = s.size - off s := by unfold beh; rw [tx_size, List.length_drop, size_eq]

theorem leadingInt_i (s : ByteArray) (hs : s.size ≤ 1099511627776) (w : World) : Calls Tryd.prog 31 #[.string s] w fun e w' => e = .returned (.int .i64 (li s)) ∧ Below w.heap.size w w' := by
  have HC : Hid ((⟨(Lib.trimPrefix s.data.toList [45]).toArray⟩ : ByteArray) = beh s ∧ Lib.hasPrefix s.data.toList [45] = neg s) := Lib.hid ⟨by rw [(cut_eq s).2]; rfl, (cut_eq s).1⟩
  have hbs : (beh s).size ≤ 1099511627776 := by rw [beh_size]; omega
  have LD := leadingDigits (beh s) hbs
  rw [beh_list] at LD
  have hds : (tx (digs s)).size ≤ 1099511627776 := by
    rw [tx_size]
    unfold digs
    have := ld_len (s.data.toList.drop (off s))
    rw [List.length_drop, size_eq] at this
    omega
  have MG := magnitude (tx (digs s)) hds (by rw [tx_list]; exact ld_dig _)
  rw [tx_list] at MG
  have hm := mag_le s
  obtain ⟨m, HM⟩ : ∃ m, Hid (mag s = m) := ⟨_, Lib.hid rfl⟩
  have MG' : ∀ w, Calls Tryd.prog 79 #[.string (tx (digs s))] w fun e w' => e = .returned (.int .i64 (m : Int)) ∧ Below w.heap.size w w' := fun w => by rw [← HM.out]; exact MG w
  have LD' : ∀ w, Calls Tryd.prog 80 #[.string (beh s)] w fun e w' => e = .returned (.string (tx (digs s))) ∧ Below w.heap.size w w' := LD
  have HR : Hid (li s = if neg s then -((min m 1000000000 : Nat) : Int) else ((min m 1000000000 : Nat) : Int)) := Lib.hid (by unfold li; rw [HM.out])
  rw [HM.out] at hm
  obtain ⟨B, HB⟩ : ∃ B, Hid (beh s = B) := ⟨_, Lib.hid rfl⟩
  obtain ⟨D, HD⟩ : ∃ D, Hid (tx (digs s) = D) := ⟨_, Lib.hid rfl⟩
  obtain ⟨g, HG⟩ : ∃ g, Hid (neg s = g) := ⟨_, Lib.hid rfl⟩
  rw [HB.out] at HC hbs LD'
  rw [HD.out] at MG' LD'
  rw [HG.out] at HC HR
  have HMG := Lib.hid MG'
  have HLD := Lib.hid LD'
  clear LD MG LD' MG' hds HM
  have x0 : (0 : Int) ≤ (m : Int) := by omega
  have x1 : (m : Int) ≤ 1000000001 := by omega
  rw [HR.out]
  cases g
  all_goals
    go_enter Tryd.func31, Tryd.ntmps31
    go_wp2_with (fail)
    refine (Tryd.strings_CutPrefix s ⟨#[45]⟩ _).mono ?_
    rintro e w1 ⟨he, rfl⟩
    have he2 : ∀ x, Lib.hasPrefix s.data.toList [45] = x → e = .returned (.tuple #[.string B, .bool x]) := fun x hx => he.trans (by rw [← HC.out.1, ← hx])
    replace he := he2 _ HC.out.2
    clear he2
    subst he
    go_wp2_with (fail)
    refine (HLD.out _).mono ?_
    rintro e w2 ⟨rfl, hb2⟩
    have HB2 := Lib.hid hb2
    clear hb2
    go_wp2_with (fail)
    refine (HMG.out _).mono ?_
    rintro e w3 ⟨rfl, hb3⟩
    have HB3 := Lib.hid (bss HB2.out hb3)
    clear hb3
    go_wp2_with (fail)
    refine (nums.implMin _ _ _).mono ?_
    rintro e w4 ⟨rfl, rfl⟩
    have hmn : nums.mn (m : Int) 1000000000 = ((min m 1000000000 : Nat) : Int) := by unfold nums.mn; split <;> omega
    rw [hmn]
    obtain ⟨q, hq⟩ : ∃ q : Int, q = ((min m 1000000000 : Nat) : Int) := ⟨_, rfl⟩
    have q0 : 0 ≤ q := by omega
    have q1 : q ≤ 1000000000 := by omega
    rw [← hq]
    have HQ := Lib.hid hq
    clear hmn hq
    go_wp2_with (fail)
    go_ret
    exact ⟨by rw [← HQ.out]; rfl, HB3.out⟩

end Go.Proofs.YtlbkbcafkjgckaaDoor.lead

/-
  The model's reading of the digits at the beginning of a text: l8Scan, LeadingInt and IsNumeric; and the project's IsNumeric.
  Conditions: the text has at most 2^40 bytes.
-/
namespace Go.Proofs.YtlbkbcafkjgckaaDoor.lead
open Go.ChangeShapes Go.WideShapes Go.ChangeAt Go.RowKit
set_option linter.unusedVariables false

theorem sMin (a b : Int) (w : World) : Calls Tryd.prog 34 #[.int .i64 a, .int .i64 b] w fun e w' => e = .returned (.int .i64 (nums.mn a b)) ∧ w = w' := by
  by_cases h : b < a
  all_goals
    go_enter Tryd.func34, Tryd.ntmps34
    go_wp2
    go_ret
    exact ⟨nums.ret_int (by unfold nums.mn; split <;> omega), rfl⟩
theorem sMax (a b : Int) (w : World) : Calls Tryd.prog 33 #[.int .i64 a, .int .i64 b] w fun e w' => e = .returned (.int .i64 (nums.mx a b)) ∧ w = w' := by
  by_cases h : a < b
  all_goals
    go_enter Tryd.func33, Tryd.ntmps33
    go_wp2
    go_ret
    exact ⟨nums.ret_int (by unfold nums.mx; split <;> omega), rfl⟩

def ScQ (s : ByteArray) (w : World) (e : Ending) (w' : World) : Prop := e = .returned (.tuple #[.int .i64 (scn s).1, .int .i64 ((scn s).2 : Int)]) ∧ Below w.heap.size w w'

theorem nn_of {b : UInt8} (h : (b == 45) = false) : ((b.toNat : Int) == 45) = false := by
  rw [beq_eq_false_iff_ne] at h ⊢
  intro e
  apply h
  apply UInt8.toNat_inj.1
  have : (45 : UInt8).toNat = 45 := rfl
  omega

set_option maxHeartbeats 1000000 in
theorem l8Scan (s : ByteArray) (hs : s.size ≤ 1099511627776) (w : World) : Calls Tryd.prog 131 #[.string s] w (ScQ s w) := by
  obtain ⟨o, HO⟩ : ∃ o, Hid (off s = o) := ⟨_, Lib.hid rfl⟩
  have ST := At.start s o
  have hos : o ≤ s.size := by rw [← HO.out]; exact off_le s
  have hR : mg 0 (ld (s.data.toList.drop o)) = mag s := by unfold mag digs; rw [HO.out]
  rw [hR] at ST
  obtain ⟨K, HK⟩ : ∃ K, Hid (o + (ld (s.data.toList.drop o)).length = K) := ⟨_, Lib.hid rfl⟩
  rw [HK.out] at ST
  have hd : digs s = ld (s.data.toList.drop o) := by unfold digs; rw [HO.out]
  have hm := mag_le s
  obtain ⟨R, HR⟩ : ∃ R, Hid (mag s = R) := ⟨_, Lib.hid rfl⟩
  rw [HR.out] at ST hm
  -- what the scan gives
  have HN : Hid (K = o → scn s = (0, 0)) := Lib.hid fun h => by unfold scn; rw [if_pos (by rw [hd]; have := HK.out; omega)]
  have HP : Hid (K ≠ o → neg s = true → scn s = (-(R : Int), K)) := Lib.hid fun h hn => by
    have ho : o = 1 := by rw [← HO.out]; unfold off; rw [if_pos hn]
    unfold scn
    rw [if_neg (by rw [hd]; have := HK.out; omega), if_pos hn, HR.out, hd]
    have := HK.out
    exact Prod.ext rfl (by show 1 + _ = K; omega)
  have HQ : Hid (K ≠ o → neg s = false → scn s = ((R : Int), K)) := Lib.hid fun h hn => by
    have ho : o = 0 := by rw [← HO.out]; unfold off; rw [if_neg (by rw [hn]; simp)]
    unfold scn
    rw [if_neg (by rw [hd]; have := HK.out; omega), if_neg (by rw [hn]; simp), HR.out, hd]
    have := HK.out
    exact Prod.ext rfl (by show _ = K; omega)
  have HST := Lib.hid ST
  clear ST hR hd HR HK
  by_cases h0 : 0 < s.size
  · have hb0 : (0 : Int) ≤ (s[0].toNat : Int) := by omega
    have hb9 : (s[0].toNat : Int) ≤ 255 := by have := s[0].toNat_lt; omega
    have hna := neg_at h0
    cases hng : neg s with
    | true =>
      have h45 : (s[0].toNat : Int) = 45 := by
        rw [hng] at hna
        have : s[0] = 45 := by simpa using hna.symm
        rw [this]; rfl
      obtain rfl : o = 1 := by rw [← HO.out]; unfold off; rw [if_pos hng]
      have H2 := Lib.hid (fun h => HP.out h hng)
      clear hna hng HP HQ HO
      go_enter Tryd.func131, Tryd.ntmps131
      go_wp2
      go_loop [5, 6] (fun m i => ∃ (k n : Nat) (x : Int), k ≤ s.size ∧ i = .int .i64 k ∧ At s k n R K ∧ 0 ≤ x ∧ x ≤ 1000000001 ∧ Hid (x = (n : Int)) ∧ m = .int .i64 x) (fun _ i => s.size - (RowKit.intOf i).toNat)
      case atStart => exact ⟨1, 0, 0, by omega, rfl, HST.out, by omega, by omega, rfl, rfl⟩
      case round =>
        clear HST
        obtain ⟨k, n, x, hk, rfl, hA, x0, x1, HX, rfl⟩ := hrel
        by_cases hlt : k < s.size
        · have kb0 : (0 : Int) ≤ (s[k].toNat : Int) := by omega
          have kb9 : (s[k].toNat : Int) ≤ 255 := by have := s[k].toNat_lt; omega
          by_cases hd : dg s[k] = true
          · have HA := Lib.hid (hA.step hlt hd)
            have hd' := dg_iff.1 hd
            obtain ⟨d1, d2⟩ := hd'
            have D1 : (48 : Int) ≤ (s[k].toNat : Int) := by omega
            have D2 : (s[k].toNat : Int) ≤ 57 := by omega
            have HIN : Hid (nums.inr (s[k].toNat : Int) 48 57 = true) := Lib.hid (by unfold nums.inr; simp; omega)
            clear hA hd
            go_wp2_with (first | (go_at_call 61; refine (nums.l1In _ _ _ _).mono ?_; rintro e w1 ⟨rfl, rfl⟩; rw [HIN.out]) | (go_at_call 34; refine (sMin _ _ _).mono ?_; rintro e w1 ⟨rfl, rfl⟩))
            all_goals (refine ⟨⟨k + 1, _, _, by omega, by go_num, HA.out, ?_, ?_, ?_, rfl⟩, by simp only [RowKit.intOf]; omega⟩ <;> first | (unfold nums.mn; split <;> omega) | (have := HX.out; show _ = _; unfold nums.mn; split <;> omega))
          · have hd' : dg s[k] = false := by simpa using hd
            have hd2 := dg_no.1 hd'
            have HIN : Hid (nums.inr (s[k].toNat : Int) 48 57 = false) := Lib.hid (by unfold nums.inr; simp; omega)
            obtain ⟨rfl, rfl⟩ := hA.stop hlt hd'
            clear hA hd hd' hd2
            by_cases hko : k = 1
            · subst hko
              have HV := Lib.hid (HN.out rfl)
              clear HN H2 HX
              go_wp2_with (go_at_call 61; refine (nums.l1In _ _ _ _).mono ?_; rintro e w1 ⟨rfl, rfl⟩; rw [HIN.out])
              all_goals (go_ret2; exact ⟨by rw [HV.out] <;> rfl, Below.refl _ _⟩)
            · have HV := Lib.hid (H2.out hko)
              have hx := HX.out
              subst hx
              have hko2 : ¬ (k : Int) = 1 := by omega
              have hko3 : ((k : Int) == 1) = false := by rw [beq_eq_false_iff_ne]; exact hko2
              clear HN H2 HX hko
              go_wp2_with (go_at_call 61; refine (nums.l1In _ _ _ _).mono ?_; rintro e w1 ⟨rfl, rfl⟩; rw [HIN.out])
              all_goals (go_ret2; exact ⟨by rw [HV.out] <;> rfl, Below.refl _ _⟩)
        · obtain ⟨rfl, rfl⟩ := hA.fin (by omega)
          clear hA
          by_cases hko : k = 1
          · subst hko
            have HV := Lib.hid (HN.out rfl)
            clear HN H2 HX
            go_wp2
            all_goals (go_ret2; exact ⟨by rw [HV.out] <;> rfl, Below.refl _ _⟩)
          · have HV := Lib.hid (H2.out hko)
            have hx := HX.out
            subst hx
            have hko2 : ¬ (k : Int) = 1 := by omega
            have hko3 : ((k : Int) == 1) = false := by rw [beq_eq_false_iff_ne]; exact hko2
            clear HN H2 HX hko
            go_wp2
            all_goals (go_ret2; exact ⟨by rw [HV.out] <;> rfl, Below.refl _ _⟩)
    | false =>
      have h45 : ((s[0].toNat : Int) == 45) = false := by
        rw [hng] at hna
        exact nn_of hna.symm
      obtain rfl : o = 0 := by rw [← HO.out]; unfold off; rw [if_neg (by rw [hng]; simp)]
      have H2 := Lib.hid (fun h => HQ.out h hng)
      clear hna hng HP HQ HO
      go_enter Tryd.func131, Tryd.ntmps131
      go_wp2
      go_loop [5, 6] (fun m i => ∃ (k n : Nat) (x : Int), k ≤ s.size ∧ i = .int .i64 k ∧ At s k n R K ∧ 0 ≤ x ∧ x ≤ 1000000001 ∧ Hid (x = (n : Int)) ∧ m = .int .i64 x) (fun _ i => s.size - (RowKit.intOf i).toNat)
      case atStart => exact ⟨0, 0, 0, by omega, rfl, HST.out, by omega, by omega, rfl, rfl⟩
      case round =>
        clear HST
        obtain ⟨k, n, x, hk, rfl, hA, x0, x1, HX, rfl⟩ := hrel
        by_cases hlt : k < s.size
        · have kb0 : (0 : Int) ≤ (s[k].toNat : Int) := by omega
          have kb9 : (s[k].toNat : Int) ≤ 255 := by have := s[k].toNat_lt; omega
          by_cases hd : dg s[k] = true
          · have HA := Lib.hid (hA.step hlt hd)
            have hd' := dg_iff.1 hd
            obtain ⟨d1, d2⟩ := hd'
            have D1 : (48 : Int) ≤ (s[k].toNat : Int) := by omega
            have D2 : (s[k].toNat : Int) ≤ 57 := by omega
            have HIN : Hid (nums.inr (s[k].toNat : Int) 48 57 = true) := Lib.hid (by unfold nums.inr; simp; omega)
            clear hA hd
            go_wp2_with (first | (go_at_call 61; refine (nums.l1In _ _ _ _).mono ?_; rintro e w1 ⟨rfl, rfl⟩; rw [HIN.out]) | (go_at_call 34; refine (sMin _ _ _).mono ?_; rintro e w1 ⟨rfl, rfl⟩))
            all_goals (refine ⟨⟨k + 1, _, _, by omega, by go_num, HA.out, ?_, ?_, ?_, rfl⟩, by simp only [RowKit.intOf]; omega⟩ <;> first | (unfold nums.mn; split <;> omega) | (have := HX.out; show _ = _; unfold nums.mn; split <;> omega))
          · have hd' : dg s[k] = false := by simpa using hd
            have hd2 := dg_no.1 hd'
            have HIN : Hid (nums.inr (s[k].toNat : Int) 48 57 = false) := Lib.hid (by unfold nums.inr; simp; omega)
            obtain ⟨rfl, rfl⟩ := hA.stop hlt hd'
            clear hA hd hd' hd2
            by_cases hko : k = 0
            · subst hko
              have HV := Lib.hid (HN.out rfl)
              clear HN H2 HX
              go_wp2_with (go_at_call 61; refine (nums.l1In _ _ _ _).mono ?_; rintro e w1 ⟨rfl, rfl⟩; rw [HIN.out])
              all_goals (go_ret2; exact ⟨by rw [HV.out] <;> rfl, Below.refl _ _⟩)
            · have HV := Lib.hid (H2.out hko)
              have hx := HX.out
              subst hx
              have hko2 : ¬ (k : Int) = 0 := by omega
              have hko3 : ((k : Int) == 0) = false := by rw [beq_eq_false_iff_ne]; exact hko2
              clear HN H2 HX hko
              go_wp2_with (go_at_call 61; refine (nums.l1In _ _ _ _).mono ?_; rintro e w1 ⟨rfl, rfl⟩; rw [HIN.out])
              all_goals (go_ret2; exact ⟨by rw [HV.out] <;> rfl, Below.refl _ _⟩)
        · obtain ⟨rfl, rfl⟩ := hA.fin (by omega)
          clear hA
          by_cases hko : k = 0
          · subst hko
            have HV := Lib.hid (HN.out rfl)
            clear HN H2 HX
            go_wp2
            all_goals (go_ret2; exact ⟨by rw [HV.out] <;> rfl, Below.refl _ _⟩)
          · have HV := Lib.hid (H2.out hko)
            have hx := HX.out
            subst hx
            have hko2 : ¬ (k : Int) = 0 := by omega
            have hko3 : ((k : Int) == 0) = false := by rw [beq_eq_false_iff_ne]; exact hko2
            clear HN H2 HX hko
            go_wp2
            all_goals (go_ret2; exact ⟨by rw [HV.out] <;> rfl, Below.refl _ _⟩)
  · have hng : neg s = false := by
      cases h : neg s
      · rfl
      · exact absurd (neg_lt h) h0
    have hz : s.size = 0 := by omega
    obtain rfl : o = 0 := by rw [← HO.out]; unfold off; rw [if_neg (by rw [hng]; simp)]
    have H2 := Lib.hid (fun h => HQ.out h hng)
    clear hng HP HQ HO
    go_enter Tryd.func131, Tryd.ntmps131
    go_wp2
    go_loop [5, 6] (fun m i => ∃ (k n : Nat) (x : Int), k ≤ s.size ∧ i = .int .i64 k ∧ At s k n R K ∧ 0 ≤ x ∧ x ≤ 1000000001 ∧ Hid (x = (n : Int)) ∧ m = .int .i64 x) (fun _ i => s.size - (RowKit.intOf i).toNat)
    case atStart => exact ⟨0, 0, 0, by omega, rfl, HST.out, by omega, by omega, rfl, rfl⟩
    case round =>
      clear HST
      obtain ⟨k, n, x, hk, rfl, hA, x0, x1, HX, rfl⟩ := hrel
      by_cases hlt : k < s.size
      · have kb0 : (0 : Int) ≤ (s[k].toNat : Int) := by omega
        have kb9 : (s[k].toNat : Int) ≤ 255 := by have := s[k].toNat_lt; omega
        by_cases hd : dg s[k] = true
        · have HA := Lib.hid (hA.step hlt hd)
          have hd' := dg_iff.1 hd
          obtain ⟨d1, d2⟩ := hd'
          have D1 : (48 : Int) ≤ (s[k].toNat : Int) := by omega
          have D2 : (s[k].toNat : Int) ≤ 57 := by omega
          have HIN : Hid (nums.inr (s[k].toNat : Int) 48 57 = true) := Lib.hid (by unfold nums.inr; simp; omega)
          clear hA hd
          go_wp2_with (first | (go_at_call 61; refine (nums.l1In _ _ _ _).mono ?_; rintro e w1 ⟨rfl, rfl⟩; rw [HIN.out]) | (go_at_call 34; refine (sMin _ _ _).mono ?_; rintro e w1 ⟨rfl, rfl⟩))
          all_goals (refine ⟨⟨k + 1, _, _, by omega, by go_num, HA.out, ?_, ?_, ?_, rfl⟩, by simp only [RowKit.intOf]; omega⟩ <;> first | (unfold nums.mn; split <;> omega) | (have := HX.out; show _ = _; unfold nums.mn; split <;> omega))
        · have hd' : dg s[k] = false := by simpa using hd
          have hd2 := dg_no.1 hd'
          have HIN : Hid (nums.inr (s[k].toNat : Int) 48 57 = false) := Lib.hid (by unfold nums.inr; simp; omega)
          obtain ⟨rfl, rfl⟩ := hA.stop hlt hd'
          clear hA hd hd' hd2
          by_cases hko : k = 0
          · subst hko
            have HV := Lib.hid (HN.out rfl)
            clear HN H2 HX
            go_wp2_with (go_at_call 61; refine (nums.l1In _ _ _ _).mono ?_; rintro e w1 ⟨rfl, rfl⟩; rw [HIN.out])
            all_goals (go_ret2; exact ⟨by rw [HV.out] <;> rfl, Below.refl _ _⟩)
          · have HV := Lib.hid (H2.out hko)
            have hx := HX.out
            subst hx
            have hko2 : ¬ (k : Int) = 0 := by omega
            have hko3 : ((k : Int) == 0) = false := by rw [beq_eq_false_iff_ne]; exact hko2
            clear HN H2 HX hko
            go_wp2_with (go_at_call 61; refine (nums.l1In _ _ _ _).mono ?_; rintro e w1 ⟨rfl, rfl⟩; rw [HIN.out])
            all_goals (go_ret2; exact ⟨by rw [HV.out] <;> rfl, Below.refl _ _⟩)
      · obtain ⟨rfl, rfl⟩ := hA.fin (by omega)
        clear hA
        by_cases hko : k = 0
        · subst hko
          have HV := Lib.hid (HN.out rfl)
          clear HN H2 HX
          go_wp2
          all_goals (go_ret2; exact ⟨by rw [HV.out] <;> rfl, Below.refl _ _⟩)
        · have HV := Lib.hid (H2.out hko)
          have hx := HX.out
          subst hx
          have hko2 : ¬ (k : Int) = 0 := by omega
          have hko3 : ((k : Int) == 0) = false := by rw [beq_eq_false_iff_ne]; exact hko2
          clear HN H2 HX hko
          go_wp2
          all_goals (go_ret2; exact ⟨by rw [HV.out] <;> rfl, Below.refl _ _⟩)

end Go.Proofs.YtlbkbcafkjgckaaDoor.lead

/-
  LeadingInt of the model, IsNumeric of both sides.
  Conditions: the text has at most 2^40 bytes.
-/
namespace Go.Proofs.YtlbkbcafkjgckaaDoor.lead
open Go.ChangeShapes Go.WideShapes Go.ChangeAt Go.RowKit
set_option linter.unusedVariables false

theorem leadingInt_s (s : ByteArray) (hs : s.size ≤ 1099511627776) (w : World) : Calls Tryd.prog 92 #[.string s] w fun e w' => e = .returned (.int .i64 (li s)) ∧ Below w.heap.size w w' := by
  have SC := l8Scan s hs
  have hb := scn_le s
  have hl := li_scn s
  have ht := scn_take s
  unfold ScQ at SC
  obtain ⟨⟨n, k⟩, HX⟩ : ∃ x, Hid (scn s = x) := ⟨_, Lib.hid rfl⟩
  rw [HX.out] at SC hb hl ht
  obtain ⟨hb0, hb1⟩ := hb
  simp only at SC hb0 hb1 ht
  have HSC := Lib.hid SC
  have HL := Lib.hid hl
  have HT : Hid (k ≤ s.size) := Lib.hid ht
  rw [HL.out]
  clear SC hl HX HL ht
  go_enter Tryd.func92, Tryd.ntmps92
  go_wp2_with (fail)
  refine (HSC.out _).mono ?_
  rintro e w1 ⟨rfl, hB1⟩
  have HB1 := Lib.hid hB1
  clear hB1
  go_wp2_with (fail)
  refine (sMin _ _ _).mono ?_
  rintro e w2 ⟨rfl, rfl⟩
  go_wp2_with (fail)
  refine (sMax _ _ _).mono ?_
  rintro e w3 ⟨rfl, rfl⟩
  have hm : nums.mx (-1000000000) (nums.mn 1000000000 n) = max (-1000000000) (min 1000000000 n) := by unfold nums.mx nums.mn; split <;> split <;> omega
  rw [hm]
  clear hm
  go_wp2_with (fail)
  go_ret
  exact ⟨rfl, HB1.out⟩

theorem bytes_ne {a b : ByteArray} (h : a ≠ b) : (a.toList == b.toList) = false := by
  rw [beq_eq_false_iff_ne]
  intro hh
  exact h (by rw [ByteArray.toList_eq, ByteArray.toList_eq] at hh; exact Go.WideShapes.bytes_inj hh)

set_option maxHeartbeats 1000000 in
theorem isNumeric_i (s : ByteArray) (hs : s.size ≤ 1099511627776) (w : World) : Calls Tryd.prog 40 #[.string s] w fun e w' => e = .returned (.bool (isn s)) ∧ Below w.heap.size w w' := by
  have HC : Hid ((⟨(Lib.trimPrefix s.data.toList [45]).toArray⟩ : ByteArray) = beh s) := Lib.hid (by rw [(cut_eq s).2]; rfl)
  have hbs : (beh s).size ≤ 1099511627776 := by rw [beh_size]; omega
  have LD := leadingDigits (beh s) hbs
  rw [beh_list] at LD
  have LD' : ∀ w, Calls Tryd.prog 80 #[.string (beh s)] w fun e w' => e = .returned (.string (tx (digs s))) ∧ Below w.heap.size w w' := LD
  have hI : isn s = (decide (1 ≤ (beh s).size) && decide ((beh s).size ≤ 10) && decide ((digs s).length = (beh s).size) && decide (mag s ≤ 1000000000)) := by unfold isn; rw [beh_size]
  have hE : tx (digs s) = beh s → (digs s).length = (beh s).size := fun h => by rw [← h, tx_size]
  have hN : tx (digs s) ≠ beh s → ¬ (digs s).length = (beh s).size := fun h hl => h (by
    unfold beh
    congr 1
    unfold digs at hl ⊢
    exact ld_full (by rw [hl, beh_size, List.length_drop, size_eq]))
  have MG : tx (digs s) = beh s → ∀ w, Calls Tryd.prog 79 #[.string (beh s)] w fun e w' => e = .returned (.int .i64 (mag s : Int)) ∧ Below w.heap.size w w' := fun h w => by
    have := magnitude (beh s) hbs (by rw [← h, tx_list]; exact ld_dig _) w
    have e : mg 0 (beh s).data.toList = mag s := by rw [← h, tx_list]; rfl
    rw [e] at this
    exact this
  obtain ⟨m, HM⟩ : ∃ m, Hid (mag s = m) := ⟨_, Lib.hid rfl⟩
  obtain ⟨B, HB⟩ : ∃ B, Hid (beh s = B) := ⟨_, Lib.hid rfl⟩
  obtain ⟨D, HD⟩ : ∃ D, Hid (tx (digs s) = D) := ⟨_, Lib.hid rfl⟩
  obtain ⟨d, HDL⟩ : ∃ d, Hid ((digs s).length = d) := ⟨_, Lib.hid rfl⟩
  rw [HB.out] at HC hbs LD' hI hE hN MG
  rw [HD.out] at LD' hE hN MG
  rw [HDL.out] at hI hE hN
  rw [HM.out] at hI MG
  have HLD := Lib.hid LD'
  rw [hI]
  clear LD LD' hI HM HB HD HDL
  by_cases c1 : 1 ≤ B.size ∧ B.size ≤ 10
  · have HIN : Hid (nums.inr (B.size : Int) 1 10 = true) := Lib.hid (by unfold nums.inr; simp; omega)
    by_cases c2 : D = B
    · subst c2
      have HMG := Lib.hid (MG rfl)
      have c3 := hE rfl
      have c4 : (D.toList == D.toList) = true := by simp
      by_cases c5 : m ≤ 1000000000
      · have c6 : (m : Int) ≤ 1000000000 := by omega
        have hv : (decide (1 ≤ D.size) && decide (D.size ≤ 10) && decide (d = D.size) && decide (m ≤ 1000000000)) = true := by simp [c1.1, c1.2, c3, c5]
        rw [hv]
        clear hv c1 hE hN MG c3 c5
        go_enter Tryd.func40, Tryd.ntmps40
        go_wp2_with (fail)
        refine (Tryd.strings_TrimPrefix s ⟨#[45]⟩ _).mono ?_
        rintro e w1 ⟨he, rfl⟩
        obtain rfl : e = .returned (.string D) := he.trans (by rw [← HC.out])
        go_wp2_with (fail)
        refine (nums.implInRange _ _ _ _).mono ?_
        rintro e w2 ⟨rfl, rfl⟩
        rw [HIN.out]
        go_wp2_with (fail)
        refine (HLD.out _).mono ?_
        rintro e w3 ⟨rfl, hb3⟩
        have HB3 := Lib.hid hb3
        clear hb3
        go_wp2_with (fail)
        refine (HMG.out _).mono ?_
        rintro e w4 ⟨rfl, hb4⟩
        have HB4 := Lib.hid (bss HB3.out hb4)
        clear hb4
        go_wp2_with (fail)
        go_ret
        exact ⟨rfl, HB4.out⟩
      · have c6 : ¬ (m : Int) ≤ 1000000000 := by omega
        have HD6 : Hid (decide ((m : Int) ≤ 1000000000) = false) := Lib.hid (decide_eq_false c6)
        have hv : (decide (1 ≤ D.size) && decide (D.size ≤ 10) && decide (d = D.size) && decide (m ≤ 1000000000)) = false := by simp [c5]
        rw [hv]
        clear hv c1 hE hN MG c3 c5
        go_enter Tryd.func40, Tryd.ntmps40
        go_wp2_with (fail)
        refine (Tryd.strings_TrimPrefix s ⟨#[45]⟩ _).mono ?_
        rintro e w1 ⟨he, rfl⟩
        obtain rfl : e = .returned (.string D) := he.trans (by rw [← HC.out])
        go_wp2_with (fail)
        refine (nums.implInRange _ _ _ _).mono ?_
        rintro e w2 ⟨rfl, rfl⟩
        rw [HIN.out]
        go_wp2_with (fail)
        refine (HLD.out _).mono ?_
        rintro e w3 ⟨rfl, hb3⟩
        have HB3 := Lib.hid hb3
        clear hb3
        go_wp2_with (fail)
        refine (HMG.out _).mono ?_
        rintro e w4 ⟨rfl, hb4⟩
        have HB4 := Lib.hid (bss HB3.out hb4)
        clear hb4
        go_wp2_with (fail)
        go_ret
        exact ⟨by first | rfl | (show Ending.returned (.bool (decide _)) = _; rw [HD6.out]), HB4.out⟩
    · have c4 := bytes_ne c2
      have hv : (decide (1 ≤ B.size) && decide (B.size ≤ 10) && decide (d = B.size) && decide (m ≤ 1000000000)) = false := by simp [hN c2]
      rw [hv]
      clear hv c1 hE hN MG c2
      go_enter Tryd.func40, Tryd.ntmps40
      go_wp2_with (fail)
      refine (Tryd.strings_TrimPrefix s ⟨#[45]⟩ _).mono ?_
      rintro e w1 ⟨he, rfl⟩
      obtain rfl : e = .returned (.string B) := he.trans (by rw [← HC.out])
      go_wp2_with (fail)
      refine (nums.implInRange _ _ _ _).mono ?_
      rintro e w2 ⟨rfl, rfl⟩
      rw [HIN.out]
      go_wp2_with (fail)
      refine (HLD.out _).mono ?_
      rintro e w3 ⟨rfl, hb3⟩
      have HB3 := Lib.hid hb3
      clear hb3
      go_wp2_with (fail)
      go_ret
      exact ⟨rfl, HB3.out⟩
  · have HIN : Hid (nums.inr (B.size : Int) 1 10 = false) := Lib.hid (by unfold nums.inr; simp; omega)
    have hv : (decide (1 ≤ B.size) && decide (B.size ≤ 10) && decide (d = B.size) && decide (m ≤ 1000000000)) = false := by
      by_cases a : 1 ≤ B.size
      · have : ¬ B.size ≤ 10 := fun h => c1 ⟨a, h⟩
        simp [this]
      · simp [a]
    rw [hv]
    clear hv c1 hE hN MG
    go_enter Tryd.func40, Tryd.ntmps40
    go_wp2_with (fail)
    refine (Tryd.strings_TrimPrefix s ⟨#[45]⟩ _).mono ?_
    rintro e w1 ⟨he, rfl⟩
    obtain rfl : e = .returned (.string B) := he.trans (by rw [← HC.out])
    go_wp2_with (fail)
    refine (nums.implInRange _ _ _ _).mono ?_
    rintro e w2 ⟨rfl, rfl⟩
    rw [HIN.out]
    go_wp2_with (fail)
    go_ret
    exact ⟨rfl, Below.refl _ _⟩

set_option maxHeartbeats 1000000 in
theorem isNumeric_s (s : ByteArray) (hs : s.size ≤ 1099511627776) (w : World) : Calls Tryd.prog 91 #[.string s] w fun e w' => e = .returned (.bool (isn s)) ∧ Below w.heap.size w w' := by
  have SC := l8Scan s hs
  have hb := scn_le s
  have hl := isn_scn s
  have ht := scn_take s
  unfold ScQ at SC
  obtain ⟨⟨n, k⟩, HX⟩ : ∃ x, Hid (scn s = x) := ⟨_, Lib.hid rfl⟩
  rw [HX.out] at SC hb hl ht
  obtain ⟨hb0, hb1⟩ := hb
  simp only at SC hb0 hb1 ht hl
  have HSC := Lib.hid SC
  rw [hl]
  clear SC hl HX
  by_cases c1 : 0 < k
  · have c1' : (0 : Int) < (k : Int) := by omega
    have d1 : decide ((0 : Int) < (k : Int)) = true := decide_eq_true c1'
    rw [d1]
    clear d1
    by_cases c2 : k = s.size
    · have d2 : decide (k = s.size) = true := decide_eq_true c2
      rw [d2]
      have h0 : 0 < s.size := by omega
      rw [neg_at h0]
      have HK : Hid (k = s.size) := Lib.hid c2
      subst c2
      clear d2 c1 c1'
      by_cases c3 : -1000000000 ≤ n ∧ n ≤ 1000000000
      · have HIN : Hid (nums.inr n (-1000000000) 1000000000 = true) := Lib.hid (by unfold nums.inr; simp; omega)
        have d3 : (decide ((-1000000000 : Int) ≤ n) && decide (n ≤ (1000000000 : Int))) = true := by simp [c3.1, c3.2]
        rw [d3]
        clear d3 c3
        by_cases c4 : s.size ≤ 10
        · have d4 : decide (s.size ≤ 10) = true := decide_eq_true c4
          have c4' : (s.size : Int) ≤ 10 := by omega
          rw [d4]
          clear d4
          go_enter Tryd.func91, Tryd.ntmps91
          go_wp2_with (first | (go_at_call 131; refine (HSC.out _).mono ?_; rintro e w1 ⟨rfl, hB1⟩; have HB1 := Lib.hid hB1; clear hB1) | (go_at_call 61; refine (nums.l1In _ _ _ _).mono ?_; rintro e w2 ⟨rfl, rfl⟩; rw [HIN.out]))
          go_ret
          exact ⟨rfl, HB1.out⟩
        · have d4 : decide (s.size ≤ 10) = false := decide_eq_false c4
          have c4' : ¬ (s.size : Int) ≤ 10 := by omega
          rw [d4]
          clear d4
          by_cases c5 : s.size = 11
          · have d5 : decide (s.size = 11) = true := decide_eq_true c5
            have c5' : (s.size : Int) = 11 := by omega
            rw [d5]
            clear d5
            have hb0 : (0 : Int) ≤ (s[0].toNat : Int) := by omega
            have hb9 : (s[0].toNat : Int) ≤ 255 := by have := s[0].toNat_lt; omega
            cases h45 : (s[0] == 45) with
            | true =>
              have h46 : (s[0].toNat : Int) = 45 := by
                have : s[0] = 45 := by simpa using h45
                rw [this]; rfl
              clear h45 c4 c5
              go_enter Tryd.func91, Tryd.ntmps91
              go_wp2_with (first | (go_at_call 131; refine (HSC.out _).mono ?_; rintro e w1 ⟨rfl, hB1⟩; have HB1 := Lib.hid hB1; clear hB1) | (go_at_call 61; refine (nums.l1In _ _ _ _).mono ?_; rintro e w2 ⟨rfl, rfl⟩; rw [HIN.out]))
              go_ret
              exact ⟨rfl, HB1.out⟩
            | false =>
              have h46 := nn_of h45
              clear h45 c4 c5
              go_enter Tryd.func91, Tryd.ntmps91
              go_wp2_with (first | (go_at_call 131; refine (HSC.out _).mono ?_; rintro e w1 ⟨rfl, hB1⟩; have HB1 := Lib.hid hB1; clear hB1) | (go_at_call 61; refine (nums.l1In _ _ _ _).mono ?_; rintro e w2 ⟨rfl, rfl⟩; rw [HIN.out]))
              go_ret
              exact ⟨rfl, HB1.out⟩
          · have d5 : decide (s.size = 11) = false := decide_eq_false c5
            have c5' : ((s.size : Int) == 11) = false := by rw [beq_eq_false_iff_ne]; omega
            have HD4 : Hid (decide ((s.size : Int) ≤ 10) = false) := Lib.hid (decide_eq_false c4')
            rw [d5]
            clear d5 c4 c5
            go_enter Tryd.func91, Tryd.ntmps91
            go_wp2_with (first | (go_at_call 131; refine (HSC.out _).mono ?_; rintro e w1 ⟨rfl, hB1⟩; have HB1 := Lib.hid hB1; clear hB1) | (go_at_call 61; refine (nums.l1In _ _ _ _).mono ?_; rintro e w2 ⟨rfl, rfl⟩; rw [HIN.out]))
            go_ret
            exact ⟨by first | rfl | (show Ending.returned (.bool (decide _)) = _; rw [HD4.out]; rfl), HB1.out⟩
      · have HIN : Hid (nums.inr n (-1000000000) 1000000000 = false) := Lib.hid (by unfold nums.inr; simp; omega)
        have d3 : (decide ((-1000000000 : Int) ≤ n) && decide (n ≤ (1000000000 : Int))) = false := by
          by_cases a : -1000000000 ≤ n
          · have : ¬ n ≤ 1000000000 := fun h => c3 ⟨a, h⟩
            simp [this]
          · simp [a]
        rw [d3]
        clear d3 c3
        go_enter Tryd.func91, Tryd.ntmps91
        go_wp2_with (first | (go_at_call 131; refine (HSC.out _).mono ?_; rintro e w1 ⟨rfl, hB1⟩; have HB1 := Lib.hid hB1; clear hB1) | (go_at_call 61; refine (nums.l1In _ _ _ _).mono ?_; rintro e w2 ⟨rfl, rfl⟩; rw [HIN.out]))
        go_ret
        exact ⟨rfl, HB1.out⟩
    · have d2 : decide (k = s.size) = false := decide_eq_false c2
      have c2' : ((k : Int) == (s.size : Int)) = false := by rw [beq_eq_false_iff_ne]; omega
      rw [d2]
      clear d2 c2
      go_enter Tryd.func91, Tryd.ntmps91
      go_wp2_with (first | (go_at_call 131; refine (HSC.out _).mono ?_; rintro e w1 ⟨rfl, hB1⟩; have HB1 := Lib.hid hB1; clear hB1) | (go_at_call 61; refine (nums.l1In _ _ _ _).mono ?_; rintro e w2 ⟨rfl, rfl⟩))
      go_ret
      exact ⟨rfl, HB1.out⟩
  · obtain rfl : k = 0 := by omega
    go_enter Tryd.func91, Tryd.ntmps91
    go_wp2_with (first | (go_at_call 131; refine (HSC.out _).mono ?_; rintro e w1 ⟨rfl, hB1⟩; have HB1 := Lib.hid hB1; clear hB1) | (go_at_call 61; refine (nums.l1In _ _ _ _).mono ?_; rintro e w2 ⟨rfl, rfl⟩))
    go_ret
    exact ⟨rfl, HB1.out⟩

end Go.Proofs.YtlbkbcafkjgckaaDoor.lead

/-
  ToBool and ToInt of the project and of the model.
  Conditions: the value holds at most 10^9 items and letters.
-/
namespace Go.Proofs.YtlbkbcafkjgckaaDoor.tree
open Go.ChangeShapes Go.WideShapes Go.ChangeAt Go.RowKit
set_option linter.unusedVariables false

/-- Whether a text is neither empty nor "0". -/
def txB (s : ByteArray) : Bool := !(s.toList == []) && !(s.toList == [48])
/-- ToBool. -/
def tb : Tr → Bool
  | .mk k n s _ _ vs => if k = 0 then false else if k = 1 ∨ k = 2 then n != 0 else if k = 3 then txB s else if k = 4 then decide (0 < vs.length) else true
/-- ToInt. -/
def ti (t : Tr) : Int := match t with
  | .mk k n s _ _ _ => if k = 2 then n else if k = 3 then lead.li s else if tb t then 1 else 0

set_option maxHeartbeats 800000 in
theorem toBool_i (t : Tr) (v : Value) (w : World) (S : Nat → Prop) (h : TIn w S t v) : Calls Tryd.prog 41 #[v] w (GivesQ w (.bool (tb t))) := by
  obtain ⟨k, n, s, x, ks, vs⟩ := t
  obtain ⟨A, c, rfl, -, -⟩ := h.out
  have HT : Hid (tb (.mk k n s x ks vs) = if k = 0 then false else if k = 1 ∨ k = 2 then n != 0 else if k = 3 then txB s else if k = 4 then decide (0 < vs.length) else true) := Lib.hid rfl
  rw [HT.out]
  obtain ⟨L, HL⟩ : ∃ L, Hid (L = vs.length) := ⟨_, Lib.hid rfl⟩
  rw [← HL.out]
  clear h HT
  by_cases h0 : k = 0
  · subst h0
    rw [if_pos rfl]
    go_enter Tryd.func41, Tryd.ntmps41
    go_wp2
    go_ret
    exact ⟨rfl, b1 _ _⟩
  rw [if_neg h0]
  by_cases h1 : k = 1
  · subst h1
    rw [if_pos (.inl rfl)]
    go_enter Tryd.func41, Tryd.ntmps41
    go_wp2
    go_ret
    exact ⟨rfl, b1 _ _⟩
  by_cases h2 : k = 2
  · subst h2
    rw [if_pos (.inr rfl)]
    go_enter Tryd.func41, Tryd.ntmps41
    go_wp2
    go_ret
    exact ⟨rfl, b1 _ _⟩
  rw [if_neg (by omega)]
  by_cases h3 : k = 3
  · subst h3
    rw [if_pos rfl]
    have HX : Hid (txB s = (!(s.toList == []) && !(s.toList == [48]))) := Lib.hid rfl
    rw [HX.out]
    clear HX
    by_cases e0 : s.toList = []
    · have e0' : (s.toList == []) = true := by rw [e0]; rfl
      rw [e0']
      go_enter Tryd.func41, Tryd.ntmps41
      go_wp2
      go_ret
      exact ⟨rfl, b1 _ _⟩
    · have e0' : (s.toList == []) = false := by rw [beq_eq_false_iff_ne]; exact e0
      by_cases e1 : s.toList = [48]
      · have e1' : (s.toList == [48]) = true := by rw [e1]; rfl
        rw [e0', e1']
        clear e0 
        go_enter Tryd.func41, Tryd.ntmps41
        go_wp2
        go_ret
        exact ⟨rfl, b1 _ _⟩
      · have e1' : (s.toList == [48]) = false := by rw [beq_eq_false_iff_ne]; exact e1
        rw [e0', e1']
        go_enter Tryd.func41, Tryd.ntmps41
        go_wp2
        go_ret
        exact ⟨rfl, b1 _ _⟩
  rw [if_neg h3]
  by_cases h4 : k = 4
  · subst h4
    rw [if_pos rfl]
    by_cases hl : 0 < L
    · have HD : Hid (decide (0 < L) = true) := Lib.hid (decide_eq_true hl)
      rw [HD.out]
      go_enter Tryd.func41, Tryd.ntmps41
      go_wp2
      go_ret
      exact ⟨rfl, b1 _ _⟩
    · have HD : Hid (decide (0 < L) = false) := Lib.hid (decide_eq_false hl)
      rw [HD.out]
      obtain rfl : L = 0 := by omega
      go_enter Tryd.func41, Tryd.ntmps41
      go_wp2
      go_ret
      exact ⟨rfl, b1 _ _⟩
  · rw [if_neg h4]
    go_enter Tryd.func41, Tryd.ntmps41
    go_wp2
    go_ret
    exact ⟨rfl, b1 _ _⟩

set_option maxHeartbeats 800000 in
theorem toBool_s (t : Tr) (v : Value) (w : World) (S : Nat → Prop) (h : TIn w S t v) : Calls Tryd.prog 130 #[v] w (GivesQ w (.bool (tb t))) := by
  obtain ⟨k, n, s, x, ks, vs⟩ := t
  obtain ⟨A, c, rfl, -, -⟩ := h.out
  have HT : Hid (tb (.mk k n s x ks vs) = if k = 0 then false else if k = 1 ∨ k = 2 then n != 0 else if k = 3 then txB s else if k = 4 then decide (0 < vs.length) else true) := Lib.hid rfl
  rw [HT.out]
  obtain ⟨L, HL⟩ : ∃ L, Hid (L = vs.length) := ⟨_, Lib.hid rfl⟩
  rw [← HL.out]
  clear h HT
  by_cases h0 : k = 0
  · subst h0
    rw [if_pos rfl]
    go_enter Tryd.func130, Tryd.ntmps130
    go_wp2
    go_ret
    exact ⟨rfl, b1 _ _⟩
  rw [if_neg h0]
  by_cases h1 : k = 1
  · subst h1
    rw [if_pos (.inl rfl)]
    go_enter Tryd.func130, Tryd.ntmps130
    go_wp2
    go_ret
    exact ⟨rfl, b1 _ _⟩
  by_cases h2 : k = 2
  · subst h2
    rw [if_pos (.inr rfl)]
    go_enter Tryd.func130, Tryd.ntmps130
    go_wp2
    go_ret
    exact ⟨rfl, b1 _ _⟩
  rw [if_neg (by omega)]
  by_cases h3 : k = 3
  · subst h3
    rw [if_pos rfl]
    have HX : Hid (txB s = (!(s.toList == []) && !(s.toList == [48]))) := Lib.hid rfl
    rw [HX.out]
    clear HX
    by_cases e0 : s.toList = []
    · have e0' : (s.toList == []) = true := by rw [e0]; rfl
      rw [e0']
      go_enter Tryd.func130, Tryd.ntmps130
      go_wp2
      go_ret
      exact ⟨rfl, b1 _ _⟩
    · have e0' : (s.toList == []) = false := by rw [beq_eq_false_iff_ne]; exact e0
      by_cases e1 : s.toList = [48]
      · have e1' : (s.toList == [48]) = true := by rw [e1]; rfl
        rw [e0', e1']
        clear e0 
        go_enter Tryd.func130, Tryd.ntmps130
        go_wp2
        go_ret
        exact ⟨rfl, b1 _ _⟩
      · have e1' : (s.toList == [48]) = false := by rw [beq_eq_false_iff_ne]; exact e1
        rw [e0', e1']
        go_enter Tryd.func130, Tryd.ntmps130
        go_wp2
        go_ret
        exact ⟨rfl, b1 _ _⟩
  rw [if_neg h3]
  by_cases h4 : k = 4
  · subst h4
    rw [if_pos rfl]
    by_cases hl : 0 < L
    · have HD : Hid (decide (0 < L) = true) := Lib.hid (decide_eq_true hl)
      rw [HD.out]
      go_enter Tryd.func130, Tryd.ntmps130
      go_wp2
      go_ret
      exact ⟨rfl, b1 _ _⟩
    · have HD : Hid (decide (0 < L) = false) := Lib.hid (decide_eq_false hl)
      rw [HD.out]
      obtain rfl : L = 0 := by omega
      go_enter Tryd.func130, Tryd.ntmps130
      go_wp2
      go_ret
      exact ⟨rfl, b1 _ _⟩
  · rw [if_neg h4]
    go_enter Tryd.func130, Tryd.ntmps130
    go_wp2
    go_ret
    exact ⟨rfl, b1 _ _⟩

def boV (b : Bool) : Value := vV 1 (if b then 1 else 0) ⟨#[]⟩ 0 none 0 0
theorem boolValue_i' (b : Bool) (w : World) : Calls Tryd.prog 140 #[.bool b] w (GivesQ w (boV b)) := by
  cases b
  · go_enter Tryd.func140, Tryd.ntmps140
    go_wp2
    exact bodyPost_ret (v := vV 1 0 ⟨#[]⟩ 0 none 0 0) (by simp [results, Tryd.results140, go_sem]) rfl ⟨rfl, b1 _ _⟩
  · go_enter Tryd.func140, Tryd.ntmps140
    go_wp2
    exact bodyPost_ret (v := vV 1 1 ⟨#[]⟩ 0 none 0 0) (by simp [results, Tryd.results140, go_sem]) rfl ⟨rfl, b1 _ _⟩
theorem run_f1 (k n : Int) (s : ByteArray) (x : Int) (A : Option Addr) (L c : Nat) (W : World) : (Instr.field IV (vV k n s x A L c) 1).run Tryd.prog W = .ok (.int .i64 n) W := by kernel_rfl
theorem ti_mk (k n : Int) (s : ByteArray) (x : Int) (ks : List Ky) (vs : List Tr) : ti (.mk k n s x ks vs) = if k = 2 then n else if k = 3 then lead.li s else if tb (.mk k n s x ks vs) then 1 else 0 := rfl

/-- 1 or 0 for ToBool. -/
def tr01 (t : Tr) : Int := if tb t then 1 else 0
theorem truth_i (t : Tr) (v : Value) (w : World) (S : Nat → Prop) (h : TIn w S t v) : Calls Tryd.prog 115 #[v] w (GivesQ w (.int .i64 (tr01 t))) := by
  obtain ⟨k, n, s, x, ks, vs⟩ := t
  have TB := fun w' (hb : Below w.heap.size w w') => toBool_i (.mk k n s x ks vs) v w' S (h.below' hb)
  obtain ⟨A, c, rfl, -, -⟩ := h.out
  unfold tr01
  obtain ⟨b, HB⟩ : ∃ b, Hid (tb (.mk k n s x ks vs) = b) := ⟨_, Lib.hid rfl⟩
  rw [HB.out] at TB ⊢
  obtain ⟨L, HL⟩ : ∃ L, Hid (L = vs.length) := ⟨_, Lib.hid rfl⟩
  rw [← HL.out] at TB ⊢
  have HTB := Lib.hid TB
  clear h TB
  cases b
  · show Calls _ _ _ _ (GivesQ w (.int .i64 0))
    go_enter Tryd.func115, Tryd.ntmps115
    go_wp2_with (fail)
    refine (HTB.out _ (b1 w _)).mono ?_
    rintro e w1 ⟨rfl, hb1⟩
    have HB1 := Lib.hid (bs (b1 w _) hb1)
    clear hb1
    have BV : Hid (∀ w, Calls Tryd.prog 140 #[.bool false] w (GivesQ w (vV 1 0 ⟨#[]⟩ 0 none 0 0))) := Lib.hid (boolValue_i' false)
    have hf := run_f1 1 0 ⟨#[]⟩ 0 none 0 0
    unfold IV at hf
    unfold vV at BV hf
    go_wp2_with (fail)
    refine (BV.out _).mono ?_
    rintro e w2 ⟨rfl, hb2⟩
    have HB2 := Lib.hid (bs HB1.out hb2)
    clear hb2
    go_wp2_with (fail)
    go_ret
    exact ⟨rfl, HB2.out⟩
  · show Calls _ _ _ _ (GivesQ w (.int .i64 1))
    go_enter Tryd.func115, Tryd.ntmps115
    go_wp2_with (fail)
    refine (HTB.out _ (b1 w _)).mono ?_
    rintro e w1 ⟨rfl, hb1⟩
    have HB1 := Lib.hid (bs (b1 w _) hb1)
    clear hb1
    have BV : Hid (∀ w, Calls Tryd.prog 140 #[.bool true] w (GivesQ w (vV 1 1 ⟨#[]⟩ 0 none 0 0))) := Lib.hid (boolValue_i' true)
    have hf := run_f1 1 1 ⟨#[]⟩ 0 none 0 0
    unfold IV at hf
    unfold vV at BV hf
    go_wp2_with (fail)
    refine (BV.out _).mono ?_
    rintro e w2 ⟨rfl, hb2⟩
    have HB2 := Lib.hid (bs HB1.out hb2)
    clear hb2
    go_wp2_with (fail)
    go_ret
    exact ⟨rfl, HB2.out⟩

set_option maxHeartbeats 800000 in
theorem toInt_i (t : Tr) (v : Value) (w : World) (S : Nat → Prop) (h : TIn w S t v) (hT : tot t ≤ 1000000000) : Calls Tryd.prog 125 #[v] w (GivesQ w (.int .i64 (ti t))) := by
  obtain ⟨k, n, s, x, ks, vs⟩ := t
  have TB := fun w' (hb : Below w.heap.size w w') => truth_i (.mk k n s x ks vs) v w' S (h.below' hb)
  obtain ⟨A, c, rfl, -, -⟩ := h.out
  rw [tot_mk] at hT
  have LI := Lib.hid (lead.leadingInt_i s (by omega))
  rw [ti_mk]
  have eb : (if tb (.mk k n s x ks vs) then (1 : Int) else 0) = tr01 (.mk k n s x ks vs) := rfl
  rw [eb]
  obtain ⟨b, HB⟩ : ∃ b, Hid (tr01 (.mk k n s x ks vs) = b) := ⟨_, Lib.hid rfl⟩
  obtain ⟨q, HQ⟩ : ∃ q, Hid (lead.li s = q) := ⟨_, Lib.hid rfl⟩
  rw [HB.out] at TB ⊢
  rw [HQ.out] at LI ⊢
  obtain ⟨L, HL⟩ : ∃ L, Hid (L = vs.length) := ⟨_, Lib.hid rfl⟩
  rw [← HL.out] at TB ⊢
  have HTB := Lib.hid TB
  clear h hT TB eb
  by_cases h2 : k = 2
  · subst h2
    rw [if_pos rfl]
    go_enter Tryd.func125, Tryd.ntmps125
    go_wp2
    go_ret
    exact ⟨rfl, b1 _ _⟩
  rw [if_neg h2]
  by_cases h3 : k = 3
  · subst h3
    rw [if_pos rfl]
    go_enter Tryd.func125, Tryd.ntmps125
    go_wp2_with (fail)
    refine (LI.out _).mono ?_
    rintro e w1 ⟨rfl, hb1⟩
    have HB1 := Lib.hid (bs (b1 w _) hb1)
    clear hb1
    go_wp2_with (fail)
    go_ret
    exact ⟨rfl, HB1.out⟩
  rw [if_neg h3]
  go_enter Tryd.func125, Tryd.ntmps125
  go_wp2_with (fail)
  refine (HTB.out _ (b1 w _)).mono ?_
  rintro e w1 ⟨rfl, hb1⟩
  have HB1 := Lib.hid (bs (b1 w _) hb1)
  clear hb1
  go_wp2_with (fail)
  go_ret
  exact ⟨rfl, HB1.out⟩

set_option maxHeartbeats 800000 in
theorem toInt_s (t : Tr) (v : Value) (w : World) (S : Nat → Prop) (h : TIn w S t v) (hT : tot t ≤ 1000000000) : Calls Tryd.prog 90 #[v] w (GivesQ w (.int .i64 (ti t))) := by
  obtain ⟨k, n, s, x, ks, vs⟩ := t
  have TB := fun w' (hb : Below w.heap.size w w') => toBool_s (.mk k n s x ks vs) v w' S (h.below' hb)
  obtain ⟨A, c, rfl, -, -⟩ := h.out
  rw [tot_mk] at hT
  have LI := Lib.hid (lead.leadingInt_s s (by omega))
  rw [ti_mk]
  obtain ⟨b, HB⟩ : ∃ b, Hid (tb (.mk k n s x ks vs) = b) := ⟨_, Lib.hid rfl⟩
  obtain ⟨q, HQ⟩ : ∃ q, Hid (lead.li s = q) := ⟨_, Lib.hid rfl⟩
  rw [HB.out] at TB ⊢
  rw [HQ.out] at LI ⊢
  obtain ⟨L, HL⟩ : ∃ L, Hid (L = vs.length) := ⟨_, Lib.hid rfl⟩
  rw [← HL.out] at TB ⊢
  have HTB := Lib.hid TB
  clear h hT TB
  by_cases h2 : k = 2
  · subst h2
    rw [if_pos rfl]
    go_enter Tryd.func90, Tryd.ntmps90
    go_wp2
    go_ret
    exact ⟨rfl, b1 _ _⟩
  rw [if_neg h2]
  by_cases h3 : k = 3
  · subst h3
    rw [if_pos rfl]
    go_enter Tryd.func90, Tryd.ntmps90
    go_wp2_with (fail)
    refine (LI.out _).mono ?_
    rintro e w1 ⟨rfl, hb1⟩
    have HB1 := Lib.hid (bs (b1 w _) hb1)
    clear hb1
    go_wp2_with (fail)
    go_ret
    exact ⟨rfl, HB1.out⟩
  rw [if_neg h3]
  cases b
  · show Calls _ _ _ _ (GivesQ w (.int .i64 0))
    go_enter Tryd.func90, Tryd.ntmps90
    go_wp2_with (fail)
    refine (HTB.out _ (b1 w _)).mono ?_
    rintro e w1 ⟨rfl, hb1⟩
    have HB1 := Lib.hid (bs (b1 w _) hb1)
    clear hb1
    go_wp2_with (fail)
    go_ret
    exact ⟨rfl, HB1.out⟩
  · show Calls _ _ _ _ (GivesQ w (.int .i64 1))
    go_enter Tryd.func90, Tryd.ntmps90
    go_wp2_with (fail)
    refine (HTB.out _ (b1 w _)).mono ?_
    rintro e w1 ⟨rfl, hb1⟩
    have HB1 := Lib.hid (bs (b1 w _) hb1)
    clear hb1
    go_wp2_with (fail)
    go_ret
    exact ⟨rfl, HB1.out⟩

end Go.Proofs.YtlbkbcafkjgckaaDoor.tree

