/-
  What the texts behind this one use: 18 parts of one proof.
  Conditions: those that each theorem names.
-/
import Derived.Below
import Derived.Test.YtbgffmiffmmohaaGreatDoorRows
import Derived.Laws.OwnMore
import Derived.OwnWalk
import Derived.Deep.AppendLies
import Derived.Deep.Draws
import Derived.Lib.AppendStr
import Derived.Laws.AppendOwnNone
import Derived.Lib.SmallJoins
import Derived.Lib.Hide
import Derived.Laws.BytesArg
import Derived.WalkKit
import Derived.ProofKit
import Derived.OpenShut
import Derived.Carry
import Derived.Deep.Fields
import Derived.ChangeArms
import Derived.Laws.NewBlocks
import Derived.Laws.NewDeep
import Derived.Lib.Builder
import Derived.Maps.OwnOps
import Derived.WideKeyRuns
import Derived.Lib.ItoaNum
import Derived.Lib.AtoiAllCases
import Derived.Test.YtbgffmiffmmohaaGreatDoorShelf
import Derived.IntWalk
import Derived.BigQuiet
import Derived.Deep.QuietTactic
import Derived.WalkLawsBesides
import Derived.Lib.IndexBytes
import Derived.WalkSmall
import Derived.Lib.OthersKept
import Derived.Deep.LoopGhost
import Derived.Laws.RangeAny
import Derived.Lib.Strings
/-
  Plain facts on varints, without the program: a number's bytes, how bytes are read as a number, and that what is written is read.
  Conditions: those that each theorem names.
-/
namespace Go.Proofs.YtbgffmiffmmohaaGreatDoor.enc
set_option linter.unusedVariables false

/-- Each is a byte. -/
def Bd (l : List Int) : Prop := ∀ v ∈ l, 0 ≤ v ∧ v ≤ 255
theorem Bd.nil : Bd [] := fun _ h => by cases h
theorem Bd.app {a b : List Int} (ha : Bd a) (hb : Bd b) : Bd (a ++ b) := fun v hv => (List.mem_append.1 hv).elim (ha v) (hb v)
theorem Bd.one {v : Int} (h0 : 0 ≤ v) (h1 : v ≤ 255) : Bd [v] := fun x hx => by
  rw [List.mem_singleton] at hx
  omega
theorem Bd.drop {l : List Int} (h : Bd l) (k : Nat) : Bd (l.drop k) := fun v hv => h v (List.mem_of_mem_drop hv)
theorem Bd.take {l : List Int} (h : Bd l) (k : Nat) : Bd (l.take k) := fun v hv => h v (List.mem_of_mem_take hv)

def encF : Nat → Int → List Int
  | 0, n => [n]
  | f + 1, n => if n < 128 then [n] else (n % 128 + 128) :: encF f (n / 128)
/-- The varint of n, where n is below 128^6. -/
def enc (n : Int) : List Int := encF 5 n

theorem encF_lt (f : Nat) (n : Int) (h : n < 128) : encF f n = [n] := by
  cases f with
  | zero => rfl
  | succ f => simp only [encF]; rw [if_pos h]
theorem encF_ge (f : Nat) (n : Int) (h : 128 ≤ n) : encF (f + 1) n = (n % 128 + 128) :: encF f (n / 128) := by
  simp only [encF]; rw [if_neg (by omega)]
theorem pow_le (f : Nat) : (128 : Int) ≤ 128 ^ (f + 1) := by
  induction f with
  | zero => decide
  | succ f ih => rw [Int.pow_succ]; omega
theorem div_lt {f : Nat} {n : Int} (h : n < 128 ^ (f + 1 + 1)) : n / 128 < 128 ^ (f + 1) := by
  rw [Int.pow_succ] at h
  omega

theorem encF_len : ∀ (f : Nat) (n : Int), 1 ≤ (encF f n).length ∧ (encF f n).length ≤ f + 1
  | 0, n => by simp [encF]
  | f + 1, n => by
    have ih := encF_len f (n / 128)
    by_cases h : n < 128
    · rw [encF_lt _ _ h, List.length_singleton]; omega
    · rw [encF_ge _ _ (by omega), List.length_cons]; omega
theorem enc_len (n : Int) : 1 ≤ (enc n).length ∧ (enc n).length ≤ 6 := encF_len 5 n

theorem encF_bd : ∀ (f : Nat) (n : Int), 0 ≤ n → n < 128 ^ (f + 1) → Bd (encF f n)
  | 0, n, h0, h1 => by
    have : (128 : Int) ^ (0 + 1) = 128 := by decide
    exact Bd.one h0 (by omega)
  | f + 1, n, h0, h1 => by
    by_cases h : n < 128
    · rw [encF_lt _ _ h]; exact Bd.one h0 (by omega)
    · rw [encF_ge _ _ (by omega)]
      exact Bd.app (a := [_]) (Bd.one (by omega) (by omega)) (encF_bd f (n / 128) (by omega) (div_lt h1))
theorem p6 : (128 : Int) ^ (5 + 1) = 4398046511104 := by decide
theorem enc_bd (n : Int) (h0 : 0 ≤ n) (h1 : n ≤ 1000000000000) : Bd (enc n) := encF_bd 5 n h0 (by rw [p6]; omega)

/-- How far the bytes of n0 are written: done, and what is left is n. -/
def Far (n0 : Int) (done : List Int) (n : Int) : Prop := ∃ f, 0 ≤ n ∧ n < 128 ^ (f + 1) ∧ enc n0 = done ++ encF f n ∧ Bd done
theorem Far.start (n : Int) (h0 : 0 ≤ n) (h1 : n ≤ 1000000000000) : Far n [] n := ⟨5, h0, by rw [p6]; omega, rfl, Bd.nil⟩
theorem Far.nonneg {n0 n : Int} {d : List Int} (h : Far n0 d n) : 0 ≤ n := by obtain ⟨_, h, _⟩ := h; exact h
theorem Far.step {n0 n : Int} {d : List Int} (h : Far n0 d n) (hn : 128 ≤ n) : Far n0 (d ++ [n % 128 + 128]) (n / 128) := by
  obtain ⟨f, h0, h1, h2, h3⟩ := h
  cases f with
  | zero =>
    have : (128 : Int) ^ (0 + 1) = 128 := by decide
    omega
  | succ f => exact ⟨f, by omega, div_lt h1, by rw [h2, encF_ge _ _ hn, List.append_assoc]; rfl, h3.app (Bd.one (by omega) (by omega))⟩
theorem Far.last {n0 n : Int} {d : List Int} (h : Far n0 d n) (hn : n < 128) : enc n0 = d ++ [n] := by
  obtain ⟨f, h0, h1, h2, h3⟩ := h
  rw [h2, encF_lt _ _ hn]
theorem Far.bd {n0 n : Int} {d : List Int} (h : Far n0 d n) : Bd d := by obtain ⟨_, _, _, _, h⟩ := h; exact h
theorem Far.len {n0 n : Int} {d : List Int} (h : Far n0 d n) : d.length ≤ 5 := by
  obtain ⟨f, h0, h1, h2, h3⟩ := h
  have a := (enc_len n0).2
  have b := (encF_len f n).1
  rw [h2, List.length_append] at a
  omega

/-- Reading: k bytes have been read, they are n, the next one counts u times. -/
def decF : Nat → Nat → Int → Int → List Int → Option (Int × Nat)
  | 0, _, _, _, _ => none
  | _ + 1, _, _, _, [] => none
  | f + 1, k, n, u, c :: r => if c < 128 then (if (0 < k ∧ c = 0) ∨ 1000000000000 < n + c * u then none else some (n + c * u, k + 1)) else decF f (k + 1) (n + (c - 128) * u) (u * 128) r

/-- What is read from index at. -/
def dec (l : List Int) (i : Int) : Option (Int × Nat) := if 0 ≤ i ∧ i ≤ l.length then decF 6 0 0 1 (l.drop i.toNat) else none

theorem decF_nil (f k : Nat) (n u : Int) : decF f k n u [] = none := by cases f <;> rfl
theorem decF_more (f k : Nat) (n u c : Int) (r : List Int) (h : 128 ≤ c) : decF (f + 1) k n u (c :: r) = decF f (k + 1) (n + (c - 128) * u) (u * 128) r := by
  simp only [decF]; rw [if_neg (by omega)]
theorem decF_bad (f k : Nat) (n u c : Int) (r : List Int) (h : c < 128) (hb : (0 < k ∧ c = 0) ∨ 1000000000000 < n + c * u) : decF (f + 1) k n u (c :: r) = none := by
  simp only [decF]; rw [if_pos h, if_pos hb]
theorem decF_good (f k : Nat) (n u c : Int) (r : List Int) (h : c < 128) (hb : ¬ ((0 < k ∧ c = 0) ∨ 1000000000000 < n + c * u)) : decF (f + 1) k n u (c :: r) = some (n + c * u, k + 1) := by
  simp only [decF]; rw [if_pos h, if_neg hb]

theorem decF_encF : ∀ (f k : Nat) (m u n : Int) (rest : List Int), 0 ≤ n → n < 128 ^ (f + 1) → m + n * u ≤ 1000000000000 → (0 < k → 0 < n) →
    decF (f + 1) k m u (encF f n ++ rest) = some (m + n * u, k + (encF f n).length)
  | 0, k, m, u, n, rest, h0, h1, h2, h3 => by
    have e : (128 : Int) ^ (0 + 1) = 128 := by decide
    show decF (0 + 1) k m u (n :: rest) = _
    rw [decF_good _ _ _ _ _ _ (by omega) (fun hh => by omega)]
    rfl
  | f + 1, k, m, u, n, rest, h0, h1, h2, h3 => by
    by_cases h : n < 128
    · rw [encF_lt _ _ h]
      show decF (f + 1 + 1) k m u (n :: rest) = _
      rw [decF_good _ _ _ _ _ _ h (fun hh => by omega)]
      rfl
    · have e : m + (n % 128 + 128 - 128) * u + n / 128 * (u * 128) = m + n * u := by
        have e1 : n % 128 + 128 - 128 = n % 128 := by omega
        have e2 : n / 128 * (u * 128) = (128 * (n / 128)) * u := by
          rw [Int.mul_comm u 128, ← Int.mul_assoc, Int.mul_comm (n / 128) 128]
        rw [e1, e2, Int.add_assoc, ← Int.add_mul]
        have e3 : n % 128 + 128 * (n / 128) = n := by omega
        rw [e3]
      rw [encF_ge _ _ (by omega), List.cons_append, decF_more _ _ _ _ _ _ (by omega), decF_encF f (k + 1) _ _ (n / 128) rest (by omega) (div_lt h1) (by rw [e]; exact h2) (fun _ => by omega), e, List.length_cons]
      congr 2
      omega

/-- What is written behind p is read from there, whatever stands behind it. -/
theorem dec_enc (p rest : List Int) (n : Int) (h0 : 0 ≤ n) (h1 : n ≤ 1000000000000) : dec (p ++ enc n ++ rest) (p.length : Int) = some (n, (enc n).length) := by
  unfold dec
  rw [if_pos ⟨by omega, by simp only [List.length_append]; omega⟩]
  have e : (p ++ enc n ++ rest).drop ((p.length : Int)).toNat = enc n ++ rest := by
    rw [Int.toNat_natCast, List.append_assoc, List.drop_left]
  rw [e]
  have := decF_encF 5 0 0 1 n rest h0 (by rw [p6]; omega) (by omega) (fun h => by omega)
  unfold enc
  rw [this]
  congr 2 <;> omega

theorem decF_bounds : ∀ (f k : Nat) (n u : Int) (l : List Int) (x : Int) (j : Nat), 0 ≤ n → 0 ≤ u → Bd l → decF f k n u l = some (x, j) → 0 ≤ x ∧ x ≤ 1000000000000 ∧ k < j ∧ j ≤ k + f ∧ j ≤ k + l.length
  | 0, k, n, u, l, x, j, h0, h1, hb, h => by cases h
  | f + 1, k, n, u, [], x, j, h0, h1, hb, h => by cases h
  | f + 1, k, n, u, c :: r, x, j, h0, h1, hb, h => by
    have hc := hb c List.mem_cons_self
    by_cases h128 : c < 128
    · by_cases hbad : (0 < k ∧ c = 0) ∨ 1000000000000 < n + c * u
      · rw [decF_bad _ _ _ _ _ _ h128 hbad] at h; cases h
      · rw [decF_good _ _ _ _ _ _ h128 hbad] at h
        injection h with h
        obtain ⟨rfl, rfl⟩ := Prod.mk.inj h
        have := Int.mul_nonneg hc.1 h1
        rw [List.length_cons]
        omega
    · rw [decF_more _ _ _ _ _ _ (by omega)] at h
      have := Int.mul_nonneg (a := c - 128) (b := u) (by omega) h1
      have ih := decF_bounds f (k + 1) _ _ r x j (by omega) (by omega) (fun v hv => hb v (List.mem_cons_of_mem _ hv)) h
      rw [List.length_cons]
      omega

theorem dec_bounds {l : List Int} {i x : Int} {j : Nat} (hb : Bd l) (h : dec l i = some (x, j)) : 0 ≤ x ∧ x ≤ 1000000000000 ∧ 0 ≤ i ∧ 0 < j ∧ j ≤ 6 ∧ i + j ≤ l.length := by
  unfold dec at h
  split at h
  · rename_i hi
    have := decF_bounds _ _ _ _ _ _ _ (by omega) (by omega) (hb.drop _) h
    rw [List.length_drop] at this
    omega
  · cases h

/-- The number of a signed one. -/
def zig (n : Int) : Int := if n < 0 then -2 * n - 1 else 2 * n
theorem zig_bd {n : Int} (h0 : -1000000000 ≤ n) (h1 : n ≤ 1000000000) : 0 ≤ zig n ∧ zig n ≤ 2000000000 := by unfold zig; split <;> omega
/-- The signed number of one. -/
def zag (c : Int) : Int := if c % 2 = 1 then -((c + 1) / 2) else c / 2
theorem zag_zig (n : Int) : zag (zig n) = n := by unfold zag zig; split <;> split <;> omega

/-- What AppendSigned appends. -/
def sig (n : Int) : List Int := if -1000000000 ≤ n ∧ n ≤ 1000000000 then enc (zig n) else []
theorem sig_bd (n : Int) : Bd (sig n) := by
  unfold sig
  split
  · rename_i h
    have := zig_bd h.1 h.2
    exact enc_bd _ this.1 (by omega)
  · exact Bd.nil
theorem sig_len (n : Int) : (sig n).length ≤ 6 := by
  unfold sig
  split
  · exact (enc_len _).2
  · simp
/-- What AppendUvarint appends. -/
def uva (n : Int) : List Int := if 0 ≤ n ∧ n ≤ 1000000000000 then enc n else []
theorem uva_bd (n : Int) : Bd (uva n) := by
  unfold uva
  split
  · rename_i h
    exact enc_bd _ h.1 h.2
  · exact Bd.nil
theorem uva_len (n : Int) : (uva n).length ≤ 6 := by
  unfold uva
  split
  · exact (enc_len _).2
  · simp

/-- What ReadUvarint returns: number, next index, ok. -/
def rdu (l : List Int) (i : Int) : Int × Int × Bool := match dec l i with
  | some (n, k) => (n, i + k, true)
  | none => (0, 0, false)
theorem rdu_some {l : List Int} {i n : Int} {k : Nat} (h : dec l i = some (n, k)) : rdu l i = (n, i + k, true) := by unfold rdu; rw [h]
theorem rdu_none {l : List Int} {i : Int} (h : dec l i = none) : rdu l i = (0, 0, false) := by unfold rdu; rw [h]
theorem rdu_bd {l : List Int} (hb : Bd l) (i : Int) : 0 ≤ (rdu l i).1 ∧ (rdu l i).1 ≤ 1000000000000 ∧ 0 ≤ (rdu l i).2.1 ∧ (rdu l i).2.1 ≤ l.length ∧ ((rdu l i).2.2 = false → (rdu l i).1 = 0 ∧ (rdu l i).2.1 = 0) := by
  cases h : dec l i with
  | none => rw [rdu_none h]; exact ⟨Int.le_refl 0, show (0 : Int) ≤ 1000000000000 by omega, Int.le_refl 0, show (0 : Int) ≤ (l.length : Int) by omega, fun _ => ⟨rfl, rfl⟩⟩
  | some x =>
    obtain ⟨n, k⟩ := x
    rw [rdu_some h]
    have := dec_bounds hb h
    exact ⟨by omega, by omega, by show 0 ≤ i + (k : Int); omega, by show i + (k : Int) ≤ _; omega, fun hh => by cases hh⟩
theorem rdu_enc (p rest : List Int) (n : Int) (h0 : 0 ≤ n) (h1 : n ≤ 1000000000000) : rdu (p ++ enc n ++ rest) (p.length : Int) = (n, ((p ++ enc n).length : Int), true) := by
  rw [rdu_some (dec_enc p rest n h0 h1), List.length_append, Int.natCast_add]

/-- What ReadSigned returns. -/
def rds (l : List Int) (i : Int) : Int × Int × Bool := if (rdu l i).2.2 = true ∧ (rdu l i).1 ≤ 2000000000 then (zag (rdu l i).1, (rdu l i).2.1, true) else (0, 0, false)
theorem rds_sig (p : List Int) (n : Int) (h0 : -1000000000 ≤ n) (h1 : n ≤ 1000000000) : rds (p ++ sig n) (p.length : Int) = (n, ((p ++ sig n).length : Int), true) := by
  have hz := zig_bd h0 h1
  have e : sig n = enc (zig n) := by unfold sig; rw [if_pos ⟨h0, h1⟩]
  have h := rdu_enc p [] (zig n) hz.1 (by omega)
  rw [List.append_nil] at h
  unfold rds
  rw [e, h, if_pos ⟨rfl, hz.2⟩, zag_zig]

/-- What ReadText returns: the bytes, the next index, ok. -/
def rdt (l : List Int) (i most : Int) : List Int × Int × Bool :=
  if (rdu l i).2.2 = true ∧ (rdu l i).1 ≤ most ∧ (rdu l i).1 ≤ l.length - (rdu l i).2.1 then ((l.drop (rdu l i).2.1.toNat).take (rdu l i).1.toNat, (rdu l i).2.1 + (rdu l i).1, true) else ([], 0, false)

theorem rdt_text (p s : List Int) (hs : s.length ≤ 1000000) (most : Int) : rdt (p ++ enc s.length ++ s) (p.length : Int) most = if (s.length : Int) ≤ most then (s, ((p ++ enc s.length ++ s).length : Int), true) else ([], 0, false) := by
  have h := rdu_enc p s (s.length : Int) (by omega) (by omega)
  unfold rdt
  rw [h]
  simp only [List.length_append, Int.natCast_add]
  by_cases hm : (s.length : Int) ≤ most
  · rw [if_pos ⟨trivial, hm, by omega⟩, if_pos hm]
    refine Prod.ext ?_ rfl
    show ((p ++ enc (s.length : Int) ++ s).drop ((p.length : Int) + ((enc (s.length : Int)).length : Int)).toNat).take ((s.length : Int)).toNat = s
    have e : ((p.length : Int) + ((enc (s.length : Int)).length : Int)).toNat = (p ++ enc (s.length : Int)).length := by rw [List.length_append]; omega
    rw [e, List.drop_left, Int.toNat_natCast, List.take_length]
  · rw [if_neg (fun hh => hm hh.2.1), if_neg hm]

end Go.Proofs.YtbgffmiffmmohaaGreatDoor.enc

/-
  Slices of bytes in memory: one that reads as a list of numbers, one that the call itself has made, and how both are kept while memory grows.
  Conditions: those that each theorem names.
-/
namespace Go.Proofs.YtbgffmiffmmohaaGreatDoor.mem
open Go.RowKit
set_option linter.unusedVariables false

theorem u8row : (Tryz.prog.info? 5).map (fun i => (i.zero, i.size, i.bytes)) = some (some (.int .u8 0), 1, 1) := by kernel_rfl

/-- The numbers as cells. -/
def cs (l : List Int) : List Value := l.map (Value.int .u8)
theorem cs_len (l : List Int) : (cs l).length = l.length := List.length_map _
theorem cs_app (a b : List Int) : cs (a ++ b) = cs a ++ cs b := List.map_append
theorem cs_get {l : List Int} {j : Nat} {v : Int} (h : l[j]? = some v) : (cs l)[j]? = some (.int .u8 v) := by unfold cs; rw [List.getElem?_map, h]; rfl
theorem cs_set (l : List Int) (j : Nat) (v : Int) : cs (l.set j v) = (cs l).set j (.int .u8 v) := List.map_set
theorem cs_one (l : List Int) : ∀ u ∈ cs l, u.oneCell' = true := ints_oneCell .u8 l
theorem cs_zero (n : Nat) : cs (List.replicate n 0) = List.replicate n (.int .u8 0) := List.map_replicate

theorem add_block (a : Addr) (n : Nat) : (a.add n).block = a.block := by unfold Addr.add; split <;> rfl
theorem add_add (a : Addr) (i j : Nat) : (a.add i).add j = a.add (i + j) := by
  unfold Addr.add
  by_cases hi : i = 0 <;> by_cases hj : j = 0 <;> simp [hi, hj, Nat.add_assoc]
theorem add_zero_lit (g j : Nat) : (⟨g, 0, none⟩ : Addr).add j = ⟨g, j, none⟩ := by rw [Addr.add_lit, Nat.zero_add]

/-- The slice at A of n bytes reads as l. -/
def Rd (w : World) (A : Option Addr) (n : Nat) (l : List Int) : Prop :=
  l.length = n ∧ enc.Bd l ∧ (0 < n → ∃ a, A = some a ∧ ∀ j v, l[j]? = some v → w.cell? (a.add j) = some (.int .u8 v))

theorem Rd.len {w : World} {A : Option Addr} {n : Nat} {l : List Int} (h : Rd w A n l) : l.length = n := h.1
theorem Rd.bd {w : World} {A : Option Addr} {n : Nat} {l : List Int} (h : Rd w A n l) : enc.Bd l := h.2.1
theorem Rd.at_ {w : World} {A : Option Addr} {n k : Nat} {l : List Int} (h : Rd w A n l) (hk : k < n) : ∃ a v, A = some a ∧ l[k]? = some v ∧ 0 ≤ v ∧ v ≤ 255 ∧ w.cell? (a.add k) = some (.int .u8 v) := by
  obtain ⟨h1, h2, h3⟩ := h
  obtain ⟨a, e, hc⟩ := h3 (by omega)
  have hl : k < l.length := by omega
  have hv := h2 l[k] (List.getElem_mem hl)
  exact ⟨a, l[k], e, List.getElem?_eq_getElem hl, hv.1, hv.2, hc k _ (List.getElem?_eq_getElem hl)⟩
/-- In the block of the slice, where it has a byte. -/
theorem Rd.lt {w : World} {A : Option Addr} {n : Nat} {l : List Int} (h : Rd w A n l) (hn : 0 < n) : ∃ a, A = some a ∧ a.block < w.heap.size := by
  obtain ⟨a, v, e, _, _, _, hc⟩ := h.at_ hn
  refine ⟨a, e, ?_⟩
  have := World.block_lt_of_cell? _ _ hc
  rwa [add_block] at this
/-- No byte of it lies in block row. -/
def Off (A : Option Addr) (n : Nat) (row : Option Nat) : Prop := 0 < n → ∀ a, A = some a → some a.block ≠ row
theorem Off.none_ (A : Option Addr) (n : Nat) : Off A n none := fun _ a _ h => by cases h
theorem Rd.grown {w w' : World} {A : Option Addr} {n : Nat} {l : List Int} {row : Option Nat} (h : Rd w A n l) (hg : w.grownBy w' row) (ho : Off A n row) : Rd w' A n l := by
  refine ⟨h.1, h.2.1, fun hn => ?_⟩
  obtain ⟨a, e, hc⟩ := h.2.2 hn
  exact ⟨a, e, fun j v hv => hg.cell (hc j v hv) (by rw [add_block]; exact ho hn a e)⟩
theorem none_of_below {w w' : World} (h : Below w.heap.size w w') : w.grownBy w' none := ⟨h.os, h.tape, h.output, h.size, fun k hk _ => h.block k hk⟩
theorem below_of_none {w w' : World} (h : w.grownBy w' none) : Below w.heap.size w w' := ⟨h.os, h.tape, h.output, h.size, fun k hk => h.block k hk (fun e => by cases e)⟩
theorem Rd.below {w w' : World} {A : Option Addr} {n : Nat} {l : List Int} (h : Rd w A n l) (hb : Below w.heap.size w w') : Rd w' A n l := h.grown (none_of_below hb) (Off.none_ _ _)
theorem Rd.alloc {w : World} {A : Option Addr} {n : Nat} {l : List Int} (h : Rd w A n l) (o : Obj) : Rd (w.alloc o) A n l := h.grown (World.grownBy_alloc w o none) (Off.none_ _ _)
theorem Rd.draws {w : World} {A : Option Addr} {n : Nat} {l : List Int} (h : Rd w A n l) (k : Nat) : Rd (w.drewN k) A n l := h

/-- A slice of bytes that the call has made: its block is lo or above. -/
def Own (w : World) (lo : Nat) (A : Option Addr) (n c : Nat) (l : List Int) : Prop :=
  l.length = n ∧ enc.Bd l ∧ w.ownsRow lo 5 1 (.slice A n c) n (cs l)

section
variable {w w' : World} {lo : Nat} {A : Option Addr} {n c : Nat} {l : List Int}
theorem Own.len (h : Own w lo A n c l) : l.length = n := h.1
theorem Own.bd (h : Own w lo A n c l) : enc.Bd l := h.2.1
theorem Own.row (h : Own w lo A n c l) : w.ownsRow lo 5 1 (.slice A n c) n (cs l) := h.2.2
theorem Own.form (h : Own w lo A n c l) : (A = none ∧ n = 0) ∨ ∃ g, A = some ⟨g, 0, none⟩ ∧ lo ≤ g ∧ g < w.heap.size := by
  rcases h.2.2.2 with ⟨e, h0⟩ | ⟨g, cap, cur, e, hb, hg, _⟩
  · injection e with e1
    exact .inl ⟨e1, h0⟩
  · injection e with e1
    exact .inr ⟨g, e1, hb, draw_lt hg⟩
where
  draw_lt {w : World} {N : Nat} {o : Obj} (h : w.heap[N]? = some o) : N < w.heap.size := by
    rcases Nat.lt_or_ge N w.heap.size with hlt | hge
    · exact hlt
    · rw [Array.getElem?_eq_none hge] at h; cases h
theorem Own.rd (h : Own w lo A n c l) : Rd w A n l := by
  refine ⟨h.1, h.2.1, fun hn => ?_⟩
  rcases h.form with ⟨_, h0⟩ | ⟨g, e, _⟩
  · omega
  · subst e
    exact ⟨_, rfl, fun j v hv => h.row.cells (g := g) rfl j _ (cs_get hv)⟩
theorem Own.block (h : Own w lo A n c l) : ∀ k, (Value.slice A n c).ownBlock = some k → lo ≤ k ∧ k < w.heap.size := h.row.lt
theorem Own.grown {row : Option Nat} (h : Own w lo A n c l) (hg : w.grownBy w' row) (ho : (Value.slice A n c).ownBlock = none ∨ (Value.slice A n c).ownBlock ≠ row) : Own w' lo A n c l :=
  ⟨h.1, h.2.1, h.row.kept hg ho⟩
theorem Own.none_ (h : Own w lo A n c l) (hg : w.grownBy w' none) : Own w' lo A n c l := h.grown hg (by
  cases e : (Value.slice A n c).ownBlock with
  | none => exact .inl rfl
  | some k => exact .inr (by simp))
theorem Own.below (h : Own w lo A n c l) (hb : Below w.heap.size w w') : Own w' lo A n c l := h.none_ (none_of_below hb)
theorem Own.alloc (h : Own w lo A n c l) (o : Obj) : Own (w.alloc o) lo A n c l := ⟨h.1, h.2.1, h.row.alloc o⟩
theorem Own.draws (h : Own w lo A n c l) (k : Nat) : Own (w.drewN k) lo A n c l := h
theorem Own.less {lo' : Nat} (h : Own w lo A n c l) (hl : lo' ≤ lo) : Own w lo' A n c l := ⟨h.1, h.2.1, Joins.ownsRow_le h.row hl⟩
/-- Where it has a byte it lies at the head of a block. -/
theorem Own.head (h : Own w lo A n c l) (hn : 0 < n) : ∃ g, A = some ⟨g, 0, none⟩ ∧ lo ≤ g ∧ g < w.heap.size ∧ (Value.slice A n c).ownBlock = some g := by
  rcases h.form with ⟨_, h0⟩ | ⟨g, e, h1, h2⟩
  · omega
  · subst e
    exact ⟨g, rfl, h1, h2, rfl⟩
/-- A write to another one's block. -/
theorem Own.far {lo' : Nat} {A' : Option Addr} {n' c' : Nat} {l' : List Int} (h : Own w lo A n c l) (h' : Own w lo' A' n' c' l') (hd : ∀ k, (Value.slice A n c).ownBlock = some k → (Value.slice A' n' c').ownBlock ≠ some k) :
    Off A' n' (Value.slice A n c).ownBlock := fun hn a ha e => by
  obtain ⟨g, e1, _, _, e2⟩ := h'.head hn
  have : a = ⟨g, 0, none⟩ := by rw [e1] at ha; injection ha with ha; exact ha.symm
  subst this
  exact hd g e.symm e2
/-- What came in before lies elsewhere. -/
theorem Own.off {B : Nat} {A' : Option Addr} {n' : Nat} (h : Own w lo A n c l) (hB : B ≤ lo) (hr : 0 < n' → ∃ a, A' = some a ∧ a.block < B) : Off A' n' (Value.slice A n c).ownBlock := fun hn a ha e => by
  obtain ⟨a', e1, hlt⟩ := hr hn
  have : a = a' := by rw [e1] at ha; injection ha with ha; exact ha.symm
  subst this
  have := (h.block _ e.symm).1
  omega
end

/-- Nothing yet. -/
theorem own_empty (w : World) (lo : Nat) {A : Option Addr} {n c : Nat} (h : w.ownsRow lo 5 1 (.slice A n c) n []) (hn : n = 0) : Own w lo A n c [] := ⟨by simp [hn], enc.Bd.nil, h⟩

/-- A law of a slice that the call has made, from a slice value. -/
theorem own_mk {w : World} {lo : Nat} {v : Value} {n : Nat} {l : List Int} (h : w.ownsRow lo 5 1 v n (cs l)) (hb : enc.Bd l) : ∃ A c, v = .slice A n c ∧ Own w lo A n c l := by
  have hl : l.length = n := by have := h.1; rw [cs_len] at this; omega
  rcases Joins.ownsRow_forms h with ⟨rfl, rfl⟩ | ⟨g, cap, rfl⟩
  · exact ⟨none, 0, rfl, hl, hb, h⟩
  · exact ⟨_, cap, rfl, hl, hb, h⟩

/-- The mark numbers from k on. -/
def marks (k : Int) : Nat → List Int
  | 0 => []
  | n + 1 => (k % 256) :: marks (k + 1) n
theorem marks_len : ∀ (n : Nat) (k : Int), (marks k n).length = n
  | 0, _ => rfl
  | n + 1, k => by rw [marks, List.length_cons, marks_len n]
theorem marks_bd : ∀ (n : Nat) (k : Int), enc.Bd (marks k n)
  | 0, _ => enc.Bd.nil
  | n + 1, k => enc.Bd.app (a := [_]) (enc.Bd.one (by omega) (by omega)) (marks_bd n (k + 1))
theorem marks_get : ∀ (n : Nat) (k : Int) (j : Nat), j < n → (marks k n)[j]? = some ((k + j) % 256)
  | 0, _, _, h => by omega
  | n + 1, k, 0, _ => by simp [marks]
  | n + 1, k, j + 1, h => by
    have e : k + 1 + (j : Int) = k + ((j + 1 : Nat) : Int) := by omega
    rw [marks, List.getElem?_cons_succ, marks_get n (k + 1) j (by omega), e]

/-- A list that is filled from the front: the first k are l's. -/
def Filled (l m : List Int) (k : Nat) : Prop := m.length = l.length ∧ m.take k = l.take k
theorem Filled.start (l m : List Int) (h : m.length = l.length) : Filled l m 0 := ⟨h, by simp⟩
theorem Filled.step {l m : List Int} {k : Nat} {v : Int} (h : Filled l m k) (hv : l[k]? = some v) : Filled l (m.set k v) (k + 1) := by
  refine ⟨by rw [List.length_set]; exact h.1, ?_⟩
  obtain ⟨hk, e⟩ := List.getElem?_eq_some_iff.1 hv
  have hm := h.1
  rw [List.take_succ_eq_append_getElem (by rw [List.length_set]; omega), List.take_succ_eq_append_getElem hk, List.take_set, List.set_eq_of_length_le (by rw [List.length_take]; omega), h.2, List.getElem_set_self, e]
theorem Filled.all {l m : List Int} {k : Nat} (h : Filled l m k) (hk : l.length ≤ k) : m = l := by
  have h2 := h.2
  rw [List.take_of_length_le hk, List.take_of_length_le (by rw [h.1]; exact hk)] at h2
  exact h2
theorem bd_set {m : List Int} (h : enc.Bd m) (k : Nat) {v : Int} (h0 : 0 ≤ v) (h1 : v ≤ 255) : enc.Bd (m.set k v) := fun x hx => by
  rcases List.mem_or_eq_of_mem_set hx with hx | rfl
  · exact h x hx
  · exact ⟨h0, h1⟩

/-- One byte of an own slice is written. -/
theorem Own.set {w : World} {lo g n c : Nat} {l : List Int} (h : Own w lo (some ⟨g, 0, none⟩) n c l) (k : Nat) {v : Int} (h0 : 0 ≤ v) (h1 : v ≤ 255) :
    Own (w.setCell ⟨g, k, none⟩ (.int .u8 v)) lo (some ⟨g, 0, none⟩) n c (l.set k v) ∧ w.grownBy (w.setCell ⟨g, k, none⟩ (.int .u8 v)) (some g) := by
  have hs := h.row.stored k (.int .u8 v)
  exact ⟨⟨by rw [List.length_set]; exact h.1, bd_set h.2.1 k h0 h1, by rw [cs_set]; exact hs.1⟩, hs.2⟩
theorem Own.cellk {w : World} {lo g n c k : Nat} {l : List Int} (h : Own w lo (some ⟨g, 0, none⟩) n c l) (hk : k < n) : (∃ v, w.cell? ⟨g, k, none⟩ = some (.int .u8 v)) ∧ w.frozen? ⟨g, k, none⟩ = false := by
  refine ⟨?_, h.row.frozenAt k⟩
  have hl : k < l.length := by rw [h.1]; exact hk
  exact ⟨l[k], by rw [h.row.cellAt k (by omega)]; exact cs_get (List.getElem?_eq_getElem hl)⟩

theorem grown_trans {a b c : World} {r : Option Nat} (h : a.grownBy b r) (k : b.grownBy c r) : a.grownBy c r :=
  ⟨k.os.trans h.os, k.tape.trans h.tape, k.output.trans h.output, Nat.le_trans h.size k.size, fun j hj hne => (k.block j (Nat.lt_of_lt_of_le hj h.size) hne).trans (h.block j hj hne)⟩
theorem grown_draws {a w : World} {r : Option Nat} (h : a.grownBy w r) (n : Nat) : a.grownBy (w.drewN n) r := ⟨h.os, h.tape, h.output, h.size, h.block⟩
theorem grown_new {a w : World} {r : Option Nat} (h : a.grownBy w r) (o : Obj) : a.grownBy (w.alloc o) r :=
  ⟨h.os, h.tape, h.output, Nat.le_trans h.size (by simp), fun k hk hne => (Below.heap_alloc w o k (Nat.lt_of_lt_of_le hk h.size)).trans (h.block k hk hne)⟩

theorem below_own {w w' : World} {lo : Nat} {A : Option Addr} {n c : Nat} {l : List Int} (h : Own w lo A n c l) (hg : w.grownBy w' (Value.slice A n c).ownBlock) (hlo : lo ≤ w.heap.size) : Below lo w w' :=
  (Below.refl lo w).grown hg hlo (fun k hk => (h.block k hk).1)

/-- A new block of one byte. -/
theorem rd_one (w : World) (v : Int) (h0 : 0 ≤ v) (h1 : v ≤ 255) (t : TypeId) : Rd (w.alloc (.cells #[.int .u8 v] t)) (some ⟨w.heap.size, 0, none⟩) 1 [v] := by
  refine ⟨rfl, enc.Bd.one h0 h1, fun _ => ⟨_, rfl, fun j x hx => ?_⟩⟩
  cases j with
  | zero =>
    have : v = x := by simpa using hx
    subst this
    rw [add_zero_lit, World.cell?_alloc_new]
    rfl
  | succ j => simp at hx
/-- A new block of none. -/
theorem own_none (w : World) (lo : Nat) (hlo : lo ≤ w.heap.size) : Own (w.alloc (.cells #[] 5)) lo (some ⟨w.heap.size, 0, none⟩) 0 0 [] :=
  own_empty _ _ (World.ownsRow_made w #[] 0 hlo (Nat.zero_le _) rfl) rfl
theorem own_nil (w : World) (lo : Nat) : Own w lo none 0 0 [] := own_empty _ _ (World.ownsRow_nil w lo _ 1) rfl

theorem run_none (P : Program) (w : World) (t ty : TypeId) (i : TypeInfo) (ht : P.underlying t = some (.slice 5)) (hi : P.info? 5 = some i) (lo : Nat) (v : Value) (n d : Nat) (xs : List Value) (hown : w.ownsRow lo 5 1 v n xs) :
    (Builtin.append_ #[t, t] ty #[v, .slice none 0 d]).run P w = .ok v w := by
  rcases hown.2 with ⟨rfl, rfl⟩ | ⟨g, cap, cur, rfl, _, _, hnc, _⟩
  · simp [Builtin.append_, run_underlying ht, sizeOf, typeInfo, hi, Builtin.lenOf, Builtin.firstCells]
  · simp [Builtin.append_, run_underlying ht, sizeOf, typeInfo, hi, Builtin.lenOf, Builtin.firstCells, hnc, storeCells]

/-- append of a slice that reads as r onto an own one. -/
theorem append_rd {P : Program} {w : World} {ops : Array Oper} {rest : List Oper} {o : Oper} {a : Act} {Q : Exit → Act → World → Prop} (hgd : o.guard = none) (s x : Operand) (t : TypeId)
    (ho : o.op = .call { callee := .builtin .append, args := #[s, x], argTypes := #[t, t] })
    (i : TypeInfo) (ht : P.underlying t = some (.slice 5)) (hi : P.info? 5 = some i) (hz : i.zero = some (.int .u8 0)) (hsize : i.size = 1) (hby : i.bytes = 1)
    (lo : Nat) (A : Option Addr) (n c : Nat) (l : List Int) (hs : a.eval s = .slice A n c) (hown : Own w lo A n c l)
    (B : Option Addr) (m d : Nat) (r : List Int) (hx : a.eval x = .slice B m d) (hr : Rd w B m r) (hb : n + m ≤ 140737488355328) (hlo : lo ≤ w.heap.size)
    (h : ∀ A' c' w', Own w' lo A' (n + m) c' (l ++ r) → Below lo w w' → wpList P ops Q rest (a.put o.dst (.slice A' (n + m) c')) w') : wpList P ops Q (o :: rest) a w := by
  have close : ∀ v' w', w'.ownsRow lo 5 1 v' (n + m) (cs l ++ cs r) → w.grownBy w' (Value.slice A n c).ownBlock → wpList P ops Q rest (a.put o.dst v') w' := fun v' w' h1 h2 => by
    rw [← cs_app] at h1
    obtain ⟨A', c', rfl, h3⟩ := own_mk h1 (hown.bd.app hr.bd)
    exact h A' c' w' h3 (below_own hown h2 hlo)
  have hl : (cs r).length = m * 1 := by rw [cs_len, hr.len, Nat.mul_one]
  have hmax : n + m ≤ maxLen := by unfold maxLen; omega
  cases B with
  | none =>
    have hm : m = 0 := by
      rcases Nat.eq_zero_or_pos m with h0 | h0
      · exact h0
      · obtain ⟨_, e, _⟩ := hr.2.2 h0
        cases e
    subst hm
    have hr0 : r = [] := List.eq_nil_of_length_eq_zero hr.len
    subst hr0
    have hrun := run_none P w t o.type i ht hi lo _ n d (cs l) hown.row
    refine wpList_plain hgd fun K hK => ?_
    unfold Oper.wp
    simp [execOp, ho, resolve, invoke, builtin, hs, hx, hrun, Result.andThen]
    exact hK _ _ (close _ _ (by simpa [cs] using hown.row) (World.grownBy.refl _ _))
  | some ad =>
    refine wpList_append_own w hgd s x t ho lo 5 i (.int .u8 0) 1 1 ht hi hz hsize hby rfl (by omega) (.slice A n c) n (cs l) hs hown.row ad m d (cs r) hx hl ?_ (cs_one r) hmax (by omega) hlo ?_
    · intro j u hu
      have hj : j < r.length := by
        have := (List.getElem?_eq_some_iff.1 hu).1
        rwa [cs_len] at this
      obtain ⟨_, e, hc⟩ := hr.2.2 (by have := hr.len; omega)
      obtain rfl := Option.some.inj e
      have hrj : r[j]? = some r[j] := List.getElem?_eq_getElem hj
      rw [cs_get hrj] at hu
      rw [← hu]
      exact hc j _ hrj
    · intro v' w' h1 h2 _
      exact close v' w' h1 h2

/-- A text's bytes as numbers. -/
def txt (s : ByteArray) : List Int := s.data.toList.map fun b => (b.toNat : Int)
theorem txt_len (s : ByteArray) : (txt s).length = s.size := by unfold txt; rw [List.length_map, Array.length_toList]; rfl
theorem txt_bd (s : ByteArray) : enc.Bd (txt s) := fun v hv => by
  unfold txt at hv
  obtain ⟨b, _, rfl⟩ := List.mem_map.1 hv
  have := b.toNat_lt
  omega
theorem strCells_cs (s : ByteArray) : Lib.strCells s = cs (txt s) := by unfold Lib.strCells cs txt; rw [List.map_map]; rfl
theorem strOf_txt (s : ByteArray) : strOfNums (txt s) = s := by
  unfold strOfNums txt
  rw [List.map_map]
  have e : s.data.toList.map ((fun n : Int => UInt8.ofNat n.toNat) ∘ fun b : UInt8 => (b.toNat : Int)) = s.data.toList := by
    rw [List.map_congr_left (g := id) (fun b _ => by simp), List.map_id]
  rw [e, Joins.bytes_eta]

/-- append of a text onto an own slice. -/
theorem append_txt {P : Program} {w : World} {ops : Array Oper} {rest : List Oper} {o : Oper} {a : Act} {Q : Exit → Act → World → Prop} (hgd : o.guard = none) (s x : Operand) (t u : TypeId)
    (ho : o.op = .call { callee := .builtin .append, args := #[s, x], argTypes := #[t, u] })
    (i : TypeInfo) (ht : P.underlying t = some (.slice 5)) (hu : P.underlying u = some .string) (hi : P.info? 5 = some i) (hz : i.zero = some (.int .u8 0)) (hsize : i.size = 1) (hby : i.bytes = 1)
    (lo : Nat) (A : Option Addr) (n c : Nat) (l : List Int) (hs : a.eval s = .slice A n c) (hown : Own w lo A n c l)
    (b : ByteArray) (hx : a.eval x = .string b) (hb : n + b.size ≤ 140737488355328) (hlo : lo ≤ w.heap.size)
    (h : ∀ A' c' w', Own w' lo A' (n + b.size) c' (l ++ txt b) → Below lo w w' → wpList P ops Q rest (a.put o.dst (.slice A' (n + b.size) c')) w') : wpList P ops Q (o :: rest) a w := by
  have hmax : n + b.size ≤ maxLen := by unfold maxLen; omega
  refine Lib.wpList_append_own_string w hgd s x t u ho lo 5 i ht hu hi hz hsize hby (.slice A n c) n (cs l) hs hown.row b hx hmax hb hlo ?_
  intro v' w' h1 h2 _
  rw [strCells_cs, ← cs_app] at h1
  obtain ⟨A', c', rfl, h3⟩ := own_mk h1 (hown.bd.app (txt_bd b))
  exact h A' c' w' h3 (below_own hown h2 hlo)

/-- Two own slices of which the one was made after the other. -/
theorem apart {w w' : World} {lo lo' : Nat} {A A' : Option Addr} {n n' c c' : Nat} {l l' : List Int} (h : Own w lo A n c l) (h' : Own w' lo' A' n' c' l') (hs : w.heap.size ≤ lo') :
    ∀ k, (Value.slice A n c).ownBlock = some k → (Value.slice A' n' c').ownBlock ≠ some k := fun k hk hk' => by
  have := (h.block k hk).2
  have := (h'.block k hk').1
  omega
theorem apart' {w w' : World} {lo lo' : Nat} {A A' : Option Addr} {n n' c c' : Nat} {l l' : List Int} (h : Own w lo A n c l) (h' : Own w' lo' A' n' c' l') (hs : w.heap.size ≤ lo') :
    ∀ k, (Value.slice A' n' c').ownBlock = some k → (Value.slice A n c).ownBlock ≠ some k := fun k hk hk' => apart h h' hs k hk' hk
theorem Own.keep {w w' : World} {lo : Nat} {A : Option Addr} {n c : Nat} {l : List Int} {row : Option Nat} (h : Own w lo A n c l) (hg : w.grownBy w' row) (hd : ∀ k, (Value.slice A n c).ownBlock = some k → row ≠ some k) : Own w' lo A n c l :=
  h.grown hg (by
    cases e : (Value.slice A n c).ownBlock with
    | none => exact .inl rfl
    | some k => exact .inr fun e' => hd k e e'.symm)
theorem below_mark {w w' : World} {W : World} {lo : Nat} {A : Option Addr} {n c : Nat} {l : List Int} (hb : Below W.heap.size W w) (h : Own w lo A n c l) (hg : w.grownBy w' (Value.slice A n c).ownBlock) (hlo : W.heap.size ≤ lo) : Below W.heap.size W w' :=
  hb.grown hg hb.size (fun k hk => Nat.le_trans hlo (h.block k hk).1)
theorem below_next {w w' W : World} (hb : Below W.heap.size W w) (hg : w.grownBy w' none) : Below W.heap.size W w' := hb.trans ((below_of_none hg).mono hb.size)

/-- A slice of bytes as a text. -/
theorem conv_rd {P : Program} (w : World) (src dst e : TypeId) (hs : P.underlying src = some (.slice e)) (he : P.underlying e = some (.int .u8)) (hd : P.underlying dst = some .string) {A : Option Addr} {q : Nat} {l : List Int} (h : Rd w A q l) (c : Nat) :
    (convert src dst (.slice A q c)).run P w = .ok (.string (strOfNums l)) w := by
  cases A with
  | none =>
    have hq : q = 0 := by
      rcases Nat.eq_zero_or_pos q with h0 | h0
      · exact h0
      · obtain ⟨_, e, _⟩ := h.2.2 h0
        cases e
    subst hq
    have hl : l = [] := List.eq_nil_of_length_eq_zero h.1
    subst hl
    exact run_convert_bytes_nil w src e hs he 0 c dst hd
  | some a =>
    have hl : (loadCells a q).run P w = .ok (l.map (Value.int .u8)).toArray w := by
      have := run_loadCells_list (P := P) w a (l.map (Value.int .u8)) (fun j v hj => by
        have hjl : j < l.length := by
          have := (List.getElem?_eq_some_iff.1 hj).1
          rwa [List.length_map] at this
        obtain ⟨_, e, hc⟩ := h.2.2 (by have := h.1; omega)
        obtain rfl := Option.some.inj e
        have hx : l[j]? = some l[j] := List.getElem?_eq_getElem hjl
        rw [hc j _ hx]
        rw [List.getElem?_map, hx] at hj
        exact hj)
      simpa [h.1] using this
    rw [run_convert_bytes_string w src dst e _ q c hs he hd, run_bytesToString w _ q c l hl, foldl_push_bytes]
    simp [strOfNums, ByteArray.empty, ByteArray.emptyWithCapacity]
    rfl

end Go.Proofs.YtbgffmiffmmohaaGreatDoor.mem

/-
  How a slice of bytes that came in is opened, and the last step of every law: a call that returns true and changes nothing that was there meets its row.
  Conditions: those that each theorem names.
-/
namespace Go.Proofs.YtbgffmiffmmohaaGreatDoor.opn
open Go.ChangeShapes Go.WideShapes Go.ChangeAt Go.RowKit mem
set_option linter.unusedVariables false

section
variable {H : Type} {enc : TypeId × Value → H} {P : Program}

theorem all_stay (hl : laidOutB P = true) {W W' : World} (hb : Below W.heap.size W W') : ∀ (ts : List TypeId) (vs : List Value) (ds : List (DataW H)) (ps : List MemPlace),
    (∀ t ∈ ts, P.readableRec t = true ∧ t < P.types.size) → (∀ x ∈ ps, x.block < W.heap.size) → DataW.TrodAll enc P W 0 (fun _ => true) true ts vs ds ps →
    DataW.TrodAll enc P W' 0 (fun b => decide (b < W.heap.size)) true ts vs ds ps
  | [], vs, ds, ps, _, _, h => by
    obtain ⟨rfl, rfl, rfl⟩ := trodAll_nil h
    exact trodAll_mk0
  | t :: ts, vs, ds, ps, hr, hlt, h => by
    obtain ⟨v, vs', d, ds', p, q, rfl, rfl, rfl, h0, h1⟩ := trodAll_cons h
    have ht := hr t List.mem_cons_self
    exact trodAll_cons_mk (Below.trod hl ht.1 ht.2 h0 hb (fun x hx => hlt x (List.mem_append_left _ hx)))
      (all_stay hl hb ts vs' ds' q (fun u hu => hr u (List.mem_cons_of_mem _ hu)) (fun x hx => hlt x (List.mem_append_right _ hx)) h1)

/-- A law's post, from what its walk gives. -/
theorem post_true {f : Func} {s : ChangeSpec} {W W' : World} {args : Array Value} {ds : List (DataW H)} {before : List MemPlace} {tb : TypeId}
    (hW : DataW.Whole enc P f.params.toList s.vars false W args.toList ds [] before) (hv : s.vars = []) (hp : DataW.TrodAll enc P W 0 (fun _ => true) true f.params.toList args.toList ds before)
    (hfn : s.fn H (ds ++ []) = { results := [.lit (.bool true)], args := ds }) (hr : f.resultTypes = #[tb]) (htb : P.underlying tb = some .bool)
    (hl : laidOutB P = true) (hrd : f.params.toList.all (fun t => P.readableRec t && decide (t < P.types.size)) = true) (hb : Below W.heap.size W W') :
    s.post enc P f false true false false W args (.bool true) W' := by
  have hst := all_stay (enc := enc) hl hb f.params.toList args.toList ds before (fun t ht => by have := List.all_eq_true.1 hrd t ht; simpa using this) (fun x hx => hW.lt x hx) hp
  refine ⟨ds, [], before, [], before, [], hW, ?_, ?_, ?_, hb.frame _, fun h => by cases h⟩
  · rw [hfn, hr]
    exact trodAll_mk1 (shut_bool htb _)
  · rw [hfn]
    exact hst
  · rw [hfn, hv]
    rfl

theorem wf_u8 {n : Int} (h : (Lit.int .u8 n).wf = true) : 0 ≤ n ∧ n ≤ 255 := by
  have e1 : IntKind.u8.min = 0 := rfl
  have e2 : IntKind.u8.max = 255 := rfl
  simp [Lit.wf, e1, e2] at h
  omega

/-- A slice of bytes that came in. -/
theorem open_bytes {W : World} {base : Nat} {t e : TypeId} {v : Value} {d : DataW H} {ps : List MemPlace} (ht : P.underlying t = some (.slice e)) (he : P.underlying e = some (.int .u8)) (hc : P.cellsOf e = 1)
    (hval : Value.okWide P W .any base t v) (h : DataW.Trod enc P W 0 (fun _ => true) true t v d ps) :
    ∃ (A : Option Addr) (n c : Nat) (l : List Int), v = .slice A n c ∧ n ≤ maxLen ∧ Rd W A n l := by
  obtain ⟨A, n, c, rfl⟩ := okWide_slice ht hval
  obtain ⟨fuel, hf⟩ := h
  rcases open_ints ht he hc hf with ⟨hcs, _⟩ | ⟨a, len, cap, zs, hcs, _, hl, hm, hz, _, hcell, hwz⟩
  · simp [Value.cells] at hcs
    obtain ⟨rfl, rfl, rfl⟩ := hcs
    exact ⟨none, 0, 0, [], rfl, Nat.zero_le _, rfl, (fun _ h => by cases h), fun hn => absurd hn (by omega)⟩
  · simp [Value.cells] at hcs
    obtain ⟨rfl, rfl, rfl⟩ := hcs
    simp only [if_true] at hz
    have hle : n ≤ zs.length := by omega
    refine ⟨some a, n, c, zs.take n, rfl, by omega, by rw [List.length_take]; omega, fun x hx => wf_u8 (hwz x (List.mem_of_mem_take hx)), fun hn => ⟨a, rfl, fun j x hx => ?_⟩⟩
    have hj : j < n := by
      have := (List.getElem?_eq_some_iff.1 hx).1
      rw [List.length_take] at this
      omega
    rw [List.getElem?_take, if_pos hj] at hx
    have hcj := hcell j (by omega)
    rw [hcj]
    simp [List.getD, hx]
end
end Go.Proofs.YtbgffmiffmmohaaGreatDoor.opn

/-
  Values as trees: how a value that came in, or that a call has made, lies in memory.
  Conditions: those that each theorem names.
-/
namespace Go.Proofs.YtbgffmiffmmohaaGreatDoor.tree
open Go.ChangeShapes Go.WideShapes Go.RowKit Go.Deep
set_option linter.unusedVariables false

structure Ky where
  text : Bool
  num : Int
  str : ByteArray
inductive Tr where
  | mk (kind num : Int) (str : ByteArray) (next : Int) (keys : List Ky) (vals : List Tr)

theorem Tr.ind {p : Tr → Prop} (h : ∀ k n s x ks vs, (∀ t ∈ vs, p t) → p (.mk k n s x ks vs)) : ∀ t, p t
  | .mk k n s x ks vs => h k n s x ks vs fun t ht => Tr.ind h t
termination_by t => SizeOf.sizeOf t
decreasing_by
  have := List.sizeOf_lt_of_mem ht
  simp
  omega

def I64 (n : Int) : Prop := -9223372036854775808 ≤ n ∧ n ≤ 9223372036854775807
/-- A key's three cells. -/
def KyAt (w : World) (a : Addr) (i : Nat) (k : Ky) : Prop :=
  w.cell? (a.add (8 * i)) = some (.bool k.text) ∧ w.cell? (a.add (8 * i + 1)) = some (.int .i64 k.num) ∧ w.cell? (a.add (8 * i + 2)) = some (.string k.str) ∧ I64 k.num ∧ k.str.size ≤ maxLen

/-- The value v, a struct of five cells, is the tree. -/
inductive TIn (w : World) (S : Nat → Prop) : Tr → Value → Prop
  | mk (k n : Int) (s : ByteArray) (x : Int) (ks : List Ky) (vs : List Tr) (A : Option Addr) (cap : Nat) (C : Nat → Array Value)
      (hk : I64 k ∧ I64 n ∧ I64 x ∧ s.size ≤ maxLen) (hl : ks.length = vs.length) (hm : vs.length ≤ maxLen) (hcap : vs.length ≤ cap ∧ cap ≤ maxLen)
      (hc : ∀ (i : Nat) (hi : i < vs.length), ∃ a, A = some a ∧ S a.block ∧ KyAt w a i (ks[i]'(hl ▸ hi)) ∧ (C i).size = 5 ∧ ∀ j, j < 5 → w.cell? (a.add (8 * i + (3 + j))) = (C i)[j]?)
      (ht : ∀ (i : Nat) (hi : i < vs.length), TIn w S (vs[i]) (.agg (C i))) :
      TIn w S (.mk k n s x ks vs) (.agg #[.int .i64 k, .int .i64 n, .string s, .int .i64 x, .slice A vs.length cap])

theorem add_add' (a : Addr) (i j : Nat) : (a.add i).add j = a.add (i + j) := mem.add_add a i j

theorem cell_stays {w w' : World} {a : Addr} {u : Value} (hb : a.block < w.heap.size → w'.heap[a.block]? = w.heap[a.block]?) (hu : w.cell? a = some u) : w'.cell? a = some u := by
  have hbk := hb (World.block_lt_of_cell? _ _ hu)
  unfold World.cell? at hu ⊢
  rw [hbk]
  exact hu
theorem KyAt.stays {w w' : World} {a : Addr} {i : Nat} {k : Ky} (hb : a.block < w.heap.size → w'.heap[a.block]? = w.heap[a.block]?) (h : KyAt w a i k) : KyAt w' a i k := by
  obtain ⟨h0, h1, h2, h3, h4⟩ := h
  have e : ∀ j, (a.add j).block = a.block := mem.add_block a
  exact ⟨cell_stays (by rw [e]; exact hb) h0, cell_stays (by rw [e]; exact hb) h1, cell_stays (by rw [e]; exact hb) h2, h3, h4⟩
/-- What was there stays. -/
theorem TIn.stays {w w' : World} {S S' : Nat → Prop} (hS : ∀ b, S b → S' b) (hb : ∀ b, S b → b < w.heap.size → w'.heap[b]? = w.heap[b]?) {t : Tr} {v : Value} (h : TIn w S t v) : TIn w' S' t v := by
  induction h with
  | mk k n s x ks vs A cap C hk hl hm hcap hc ht ih =>
    refine .mk k n s x ks vs A cap C hk hl hm hcap (fun i hi => ?_) ih
    obtain ⟨a, ha, hSa, hky, hs, hj⟩ := hc i hi
    refine ⟨a, ha, hS _ hSa, hky.stays (hb _ hSa), hs, fun j hj5 => ?_⟩
    have := hj j hj5
    rw [Array.getElem?_eq_getElem (by omega)] at this ⊢
    exact cell_stays (by rw [mem.add_block]; exact hb _ hSa) this

/-- The items at A. -/
def IsIn (w : World) (S : Nat → Prop) (ks : List Ky) (vs : List Tr) (A : Option Addr) : Prop :=
  ∃ hl : ks.length = vs.length, vs.length ≤ maxLen ∧ ∃ C : Nat → Array Value,
    (∀ (i : Nat) (hi : i < vs.length), ∃ a, A = some a ∧ S a.block ∧ KyAt w a i (ks[i]'(hl ▸ hi)) ∧ (C i).size = 5 ∧ ∀ j, j < 5 → w.cell? (a.add (8 * i + (3 + j))) = (C i)[j]?) ∧
    ∀ (i : Nat) (hi : i < vs.length), TIn w S (vs[i]) (.agg (C i))
theorem TIn.of {w : World} {S : Nat → Prop} {k n x : Int} {s : ByteArray} {ks : List Ky} {vs : List Tr} {A : Option Addr} (cap : Nat) (hk : I64 k ∧ I64 n ∧ I64 x ∧ s.size ≤ maxLen) (h : IsIn w S ks vs A) (hcap : vs.length ≤ cap ∧ cap ≤ maxLen) :
    TIn w S (.mk k n s x ks vs) (.agg #[.int .i64 k, .int .i64 n, .string s, .int .i64 x, .slice A vs.length cap]) := by
  obtain ⟨hl, hm, C, hc, ht⟩ := h
  exact .mk k n s x ks vs A cap C hk hl hm hcap hc ht
theorem TIn.out {w : World} {S : Nat → Prop} {k n x : Int} {s : ByteArray} {ks : List Ky} {vs : List Tr} {v : Value} (h : TIn w S (.mk k n s x ks vs) v) :
    ∃ A cap, v = .agg #[.int .i64 k, .int .i64 n, .string s, .int .i64 x, .slice A vs.length cap] ∧ (I64 k ∧ I64 n ∧ I64 x ∧ s.size ≤ maxLen) ∧ IsIn w S ks vs A := by
  cases h with
  | mk _ _ _ _ _ _ A cap C hk hl hm hcap hc ht => exact ⟨A, cap, rfl, hk, hl, hm, C, hc, ht⟩
theorem TIn.cap {w : World} {S : Nat → Prop} {k n x k' n' x' : Int} {s s' : ByteArray} {ks : List Ky} {vs : List Tr} {A : Option Addr} {L c : Nat} (h : TIn w S (.mk k n s x ks vs) (.agg #[.int .i64 k', .int .i64 n', .string s', .int .i64 x', .slice A L c])) : L ≤ c ∧ c ≤ maxLen := by
  cases h with
  | mk _ _ _ _ _ _ A cap C hk hl hm hcap hc ht => exact hcap
theorem IsIn.stays {w w' : World} {S S' : Nat → Prop} (hS : ∀ b, S b → S' b) (hb : ∀ b, S b → b < w.heap.size → w'.heap[b]? = w.heap[b]?) {ks : List Ky} {vs : List Tr} {A : Option Addr} (h : IsIn w S ks vs A) : IsIn w' S' ks vs A := by
  obtain ⟨hl, hm, C, hc, ht⟩ := h
  refine ⟨hl, hm, C, fun i hi => ?_, fun i hi => (ht i hi).stays hS hb⟩
  obtain ⟨a, ha, hSa, hky, hs, hj⟩ := hc i hi
  refine ⟨a, ha, hS _ hSa, hky.stays (hb _ hSa), hs, fun j hj5 => ?_⟩
  have := hj j hj5
  rw [Array.getElem?_eq_getElem (by omega)] at this ⊢
  exact cell_stays (by rw [mem.add_block]; exact hb _ hSa) this
theorem IsIn.below {w w' : World} (hb : Below w.heap.size w w') {S : Nat → Prop} {ks : List Ky} {vs : List Tr} {A : Option Addr} (h : IsIn w S ks vs A) : IsIn w' S ks vs A := h.stays (fun _ h => h) (fun b _ hlt => hb.block b hlt)
theorem TIn.below' {w w' : World} (hb : Below w.heap.size w w') {S : Nat → Prop} {t : Tr} {v : Value} (h : TIn w S t v) : TIn w' S t v := h.stays (fun _ h => h) (fun b _ hlt => hb.block b hlt)

section
variable {H : Type} {enc : TypeId × Value → H} {P : Program} {w : World} {base : Nat} {spare : Nat → Bool} {held : Bool}

theorem wf_i64 {n : Int} (h : (Lit.int .i64 n).wf = true) : I64 n := by
  have e1 : IntKind.i64.min = -9223372036854775808 := rfl
  have e2 : IntKind.i64.max = 9223372036854775807 := rfl
  simp [Lit.wf, e1, e2] at h
  exact h

/-- The types of a value, of an item and of a key. -/
structure Types (P : Program) (tV tE tK tS : TypeId) : Prop where
  value : ∃ f0 f1 f2 f3 f4 : Field, P.underlying tV = some (.struct #[f0, f1, f2, f3, f4]) ∧ P.underlying f0.type = some (.int .i64) ∧ P.underlying f1.type = some (.int .i64) ∧ P.underlying f2.type = some .string ∧ P.underlying f3.type = some (.int .i64) ∧ f4.type = tS ∧ oneCellFields P #[f0, f1, f2, f3, f4] = true
  items : P.underlying tS = some (.slice tE)
  item : ∃ f0 f1 : Field, P.underlying tE = some (.struct #[f0, f1]) ∧ f0.type = tK ∧ f1.type = tV ∧ f0.offset = 0 ∧ f1.offset = 3
  key : ∃ f0 f1 f2 : Field, P.underlying tK = some (.struct #[f0, f1, f2]) ∧ P.underlying f0.type = some .bool ∧ P.underlying f1.type = some (.int .i64) ∧ P.underlying f2.type = some .string ∧ oneCellFields P #[f0, f1, f2] = true
  cV : P.cellsOf tV = 5
  cE : P.cellsOf tE = 8
  cK : P.cellsOf tK = 3

theorem one_of {cs : List Value} {f : Field} {j : Nat} (hc : P.cellsOf f.type = 1) (ho : f.offset = j) (hj : j < cs.length) : (cs.drop f.offset).take (P.cellsOf f.type) = [cs[j]] := by
  rw [hc, ho, List.drop_eq_getElem_cons hj]; rfl

theorem open_key {tV tE tK tS : TypeId} (T : Types P tV tE tK tS) {fuel : Nat} {cs : List Value} {x : DataW H × List MemPlace} (h : DataW.trod enc P w base spare held fuel tK cs = some x) :
    ∃ k : Ky, cs = [.bool k.text, .int .i64 k.num, .string k.str] ∧ I64 k.num ∧ k.str.size ≤ maxLen := by
  obtain ⟨f0, f1, f2, hu, h0, h1, h2, hone⟩ := T.key
  obtain ⟨xs, n, rfl, hx, hl, hxl, hall⟩ := DataW.trod_struct hu h
  rw [T.cK] at hl
  match cs, hl with
  | [c0, c1, c2], _ =>
    obtain ⟨o0, k0⟩ := hone_of hone 0 f0 rfl
    obtain ⟨o1, k1⟩ := hone_of hone 1 f1 rfl
    obtain ⟨o2, k2⟩ := hone_of hone 2 f2 rfl
    have e0 := hall 0 f0 rfl
    have e1 := hall 1 f1 rfl
    have e2 := hall 2 f2 rfl
    rw [one_of k0 o0 (by simp)] at e0
    rw [one_of k1 o1 (by simp)] at e1
    rw [one_of k2 o2 (by simp)] at e2
    have l0 : xs[0]? = some (xs[0]'(by simp at hxl; omega)) := List.getElem?_eq_getElem _
    have l1 : xs[1]? = some (xs[1]'(by simp at hxl; omega)) := List.getElem?_eq_getElem _
    have l2 : xs[2]? = some (xs[2]'(by simp at hxl; omega)) := List.getElem?_eq_getElem _
    obtain ⟨b, hb, _⟩ := DataW.trod_bool h0 (e0.trans l0)
    obtain ⟨m, hm, _, hw⟩ := DataW.trod_int h1 (e1.trans l1)
    obtain ⟨s, hs, _, hz⟩ := DataW.trod_string h2 (e2.trans l2)
    simp at hb hm hs
    exact ⟨⟨b, m, s⟩, by rw [hb, hm, hs], wf_i64 hw, hz⟩

theorem open_tree {tV tE tK tS : TypeId} (T : Types P tV tE tK tS) : ∀ (fuel : Nat) (cs : List Value) (x : DataW H × List MemPlace), DataW.trod enc P w base spare held fuel tV cs = some x → ∃ t, TIn w (fun _ => True) t (.agg cs.toArray) := by
  intro fuel
  induction fuel using Nat.strongRecOn with
  | _ fuel ih =>
    intro cs x h
    obtain ⟨f0, f1, f2, f3, f4, hu, h0, h1, h2, h3, h4, hone⟩ := T.value
    obtain ⟨xs, n, hn, hx, hl, hxl, hall⟩ := DataW.trod_struct hu h
    rw [T.cV] at hl
    match cs, hl with
    | [c0, c1, c2, c3, c4], _ =>
      obtain ⟨o0, k0⟩ := hone_of hone 0 f0 rfl
      obtain ⟨o1, k1⟩ := hone_of hone 1 f1 rfl
      obtain ⟨o2, k2⟩ := hone_of hone 2 f2 rfl
      obtain ⟨o3, k3⟩ := hone_of hone 3 f3 rfl
      obtain ⟨o4, k4⟩ := hone_of hone 4 f4 rfl
      have hxl5 : xs.length = 5 := hxl
      have e0 := hall 0 f0 rfl
      have e1 := hall 1 f1 rfl
      have e2 := hall 2 f2 rfl
      have e3 := hall 3 f3 rfl
      have e4 := hall 4 f4 rfl
      rw [one_of k0 o0 (by simp)] at e0
      rw [one_of k1 o1 (by simp)] at e1
      rw [one_of k2 o2 (by simp)] at e2
      rw [one_of k3 o3 (by simp)] at e3
      rw [one_of k4 o4 (by simp)] at e4
      obtain ⟨m0, hm0, _, hw0⟩ := DataW.trod_int h0 (e0.trans (List.getElem?_eq_getElem (by omega)))
      obtain ⟨m1, hm1, _, hw1⟩ := DataW.trod_int h1 (e1.trans (List.getElem?_eq_getElem (by omega)))
      obtain ⟨s, hs, _, hz⟩ := DataW.trod_string h2 (e2.trans (List.getElem?_eq_getElem (by omega)))
      obtain ⟨m3, hm3, _, hw3⟩ := DataW.trod_int h3 (e3.trans (List.getElem?_eq_getElem (by omega)))
      rw [h4] at e4
      simp at hm0 hm1 hs hm3
      subst hm0 hm1 hs hm3
      have hk : I64 m0 ∧ I64 m1 ∧ I64 m3 ∧ s.size ≤ maxLen := ⟨wf_i64 hw0, wf_i64 hw1, wf_i64 hw3, hz⟩
      rcases DataW.trod_slice T.items (e4.trans (List.getElem?_eq_getElem (by omega))) with ⟨hc4, _⟩ | ⟨a, len, cap, elems, rest, m, hfm, hc4, _, hbs, hlc, hcm, hel, hat, _⟩
      · simp at hc4
        subst hc4
        exact ⟨.mk m0 m1 s m3 [] [], .mk m0 m1 s m3 [] [] none 0 (fun _ => #[]) hk rfl (by simp) ⟨by simp, by simp⟩ (fun i hi => absurd hi (by simp)) (fun i hi => absurd hi (by simp))⟩
      · simp at hc4
        subst hc4
        -- each item
        have each : ∀ i, i < len → ∃ (k : Ky) (t : Tr) (C : Array Value), KyAt w a i k ∧ C.size = 5 ∧ (∀ j, j < 5 → w.cell? (a.add (8 * i + (3 + j))) = C[j]?) ∧ TIn w (fun _ => True) t (.agg C) := by
          intro i hi
          have hi2 := hat i hi
          rw [List.getElem?_eq_getElem (by omega)] at hi2
          obtain ⟨cs', hcs, htr⟩ := Option.bind_eq_some_iff.1 hi2
          rw [T.cE] at hcs
          obtain ⟨_, hcl, hcat⟩ := World.cells?_some hcs
          obtain ⟨g0, g1, hue, hg0, hg1, q0, q1⟩ := T.item
          obtain ⟨ys, n2, hn2, hy, hl2, hyl, hall2⟩ := DataW.trod_struct hue htr
          have hyl2 : ys.length = 2 := hyl
          match cs', hcl with
          | [d0, d1, d2, d3, d4, d5, d6, d7], _ =>
            have r0 := hall2 0 g0 rfl
            have r1 := hall2 1 g1 rfl
            rw [hg0, q0, T.cK] at r0
            rw [hg1, q1, T.cV] at r1
            obtain ⟨k, hk3, hkn, hks⟩ := open_key T (r0.trans (List.getElem?_eq_getElem (by omega)))
            obtain ⟨t, ht⟩ := ih n2 (by omega) _ _ (r1.trans (List.getElem?_eq_getElem (by omega)))
            simp at hk3
            obtain ⟨rfl, rfl, rfl⟩ := hk3
            have at' : ∀ j, j < 8 → w.cell? (a.add (8 * i + j)) = ([.bool k.text, .int .i64 k.num, .string k.str, d3, d4, d5, d6, d7] : List Value)[j]? := fun j hj => by
              have := hcat j hj
              rwa [add_add', Nat.mul_comm] at this
            refine ⟨k, t, #[d3, d4, d5, d6, d7], ⟨at' 0 (by omega), at' 1 (by omega), at' 2 (by omega), hkn, hks⟩, rfl, fun j hj => ?_, ht⟩
            rw [at' (3 + j) (by omega)]
            match j, hj with
            | 0, _ => rfl
            | 1, _ => rfl
            | 2, _ => rfl
            | 3, _ => rfl
            | 4, _ => rfl
        have pick : ∃ (K : Nat → Ky) (V : Nat → Tr) (C : Nat → Array Value), ∀ i, i < len → KyAt w a i (K i) ∧ (C i).size = 5 ∧ (∀ j, j < 5 → w.cell? (a.add (8 * i + (3 + j))) = (C i)[j]?) ∧ TIn w (fun _ => True) (V i) (.agg (C i)) := by
          refine ⟨fun i => if hi : i < len then (each i hi).choose else ⟨false, 0, ⟨#[]⟩⟩, fun i => if hi : i < len then (each i hi).choose_spec.choose else .mk 0 0 ⟨#[]⟩ 0 [] [], fun i => if hi : i < len then (each i hi).choose_spec.choose_spec.choose else #[], fun i hi => ?_⟩
          simp only [dif_pos hi]
          exact (each i hi).choose_spec.choose_spec.choose_spec
        obtain ⟨K, V, C, hp⟩ := pick
        have hVl : ((List.range len).map V).length = len := by simp
        refine ⟨.mk m0 m1 s m3 ((List.range len).map K) ((List.range len).map V), ?_⟩
        have main := TIn.mk (w := w) (S := fun _ => True) m0 m1 s m3 ((List.range len).map K) ((List.range len).map V) (some a) cap C hk (by simp) (by rw [hVl]; omega) (by rw [hVl]; exact ⟨hlc, hcm⟩) (fun i hi => ⟨a, rfl, trivial, by
            have hi' : i < len := by simpa using hi
            simp only [List.getElem_map, List.getElem_range]
            exact (hp i hi').1, (hp i (by simpa using hi)).2.1, (hp i (by simpa using hi)).2.2.1⟩) (fun i hi => by
            have hi' : i < len := by simpa using hi
            simp only [List.getElem_map, List.getElem_range]
            exact (hp i hi').2.2.2)
        rw [hVl] at main
        exact main
end

end Go.Proofs.YtbgffmiffmmohaaGreatDoor.tree

/-
  The copies that the laws make of a value: a key, an item, a list of items, a value.
  Conditions: those that each theorem names.
-/
namespace Go.Proofs.YtbgffmiffmmohaaGreatDoor.tree
open Go.ChangeShapes Go.WideShapes Go.ChangeAt Go.RowKit
set_option linter.unusedVariables false

abbrev LK : TypeId := 129
abbrev IK : TypeId := 29
abbrev LE : TypeId := 184
abbrev IE : TypeId := 52
abbrev LV : TypeId := 55
abbrev IV : TypeId := 32

/-- Three new blocks in a row. -/
theorem al3 (w : World) (c0 c1 c2 : Array Value) (t0 t1 t2 : TypeId) :
    (((w.alloc (.cells c0 t0)).alloc (.cells c1 t1)).alloc (.cells c2 t2)).heap[w.heap.size]? = some (.cells c0 t0 (0, 0)) ∧
    (((w.alloc (.cells c0 t0)).alloc (.cells c1 t1)).alloc (.cells c2 t2)).heap[w.heap.size + 1]? = some (.cells c1 t1 (0, 0)) ∧
    (((w.alloc (.cells c0 t0)).alloc (.cells c1 t1)).alloc (.cells c2 t2)).heap[w.heap.size + 1 + 1]? = some (.cells c2 t2 (0, 0)) ∧
    (((w.alloc (.cells c0 t0)).alloc (.cells c1 t1)).alloc (.cells c2 t2)).heap.size = w.heap.size + 1 + 1 + 1 ∧
    Below w.heap.size w (((w.alloc (.cells c0 t0)).alloc (.cells c1 t1)).alloc (.cells c2 t2)) := by
  have e1 : (w.alloc (.cells c0 t0)).heap.size = w.heap.size + 1 := by simp
  have e2 : ((w.alloc (.cells c0 t0)).alloc (.cells c1 t1)).heap.size = w.heap.size + 1 + 1 := by simp
  refine ⟨?_, ?_, ?_, by simp, (((Below.refl w.heap.size w).alloc (Nat.le_refl _) _).alloc (by omega) _).alloc (by omega) _⟩
  · rw [Lib.alloc_old _ _ _ (by omega), Lib.alloc_old _ _ _ (by omega)]
    exact heap_alloc_new w _
  · rw [Lib.alloc_old _ _ _ (by omega)]
    have h := heap_alloc_new (w.alloc (.cells c0 t0)) (.cells c1 t1)
    rwa [e1] at h
  · have h := heap_alloc_new ((w.alloc (.cells c0 t0)).alloc (.cells c1 t1)) (.cells c2 t2)
    rwa [e2] at h
theorem set_heap {W : World} {g : Nat} {cs : Array Value} {t : TypeId} (h : W.heap[g]? = some (.cells cs t (0, 0))) (j : Nat) (v : Value) :
    (W.setCell ⟨g, j, none⟩ v).heap[g]? = some (.cells (cs.setIfInBounds j v) t (0, 0)) := by
  simp [World.setCell, Array.getElem?_modify, h]
theorem set_other {W : World} {g k j : Nat} {v : Value} (h : k ≠ g) : (W.setCell ⟨g, j, none⟩ v).heap[k]? = W.heap[k]? := Below.heap_setCell _ _ _ _ (fun e => h (by simpa using e))
theorem set_size {W : World} {a : Addr} {v : Value} : (W.setCell a v).heap.size = W.heap.size := by simp [World.setCell]

def kyV (k : Ky) : Value := .agg #[.bool k.text, .int .i64 k.num, .string k.str]

theorem toKey (k : Ky) (w : World) : Calls Tryz.prog 108 #[kyV k] w fun e w' => e = .returned (kyV k) ∧ Below w.heap.size w w' := by
  obtain ⟨b, n, s⟩ := k
  unfold kyV
  go_enter Tryz.func108, Tryz.ntmps108
  go_wp2
  refine bodyPost_ret (v := .agg #[.bool b, .int .i64 n, .string s]) (by simp [results, Tryz.results108, go_sem]) rfl ⟨rfl, (al3 w _ _ _ _ _ _).2.2.2.2⟩

/-- A copy in new memory. -/
def ToQ (w : World) (t : Tr) (e : Ending) (w' : World) : Prop := ∃ v, e = .returned v ∧ TIn w' (fun b => w.heap.size ≤ b) t v ∧ Below w.heap.size w w'
def Copies (t : Tr) : Prop := ∀ (w : World) (S : Nat → Prop) (v : Value), TIn w S t v → Calls Tryz.prog 31 #[v] w (ToQ w t)

/-- The eight cells of an item. -/
def enV (k : Ky) (v : Value) : Value := .agg (#[.bool k.text, .int .i64 k.num, .string k.str] ++ v.cells)
def EnQ (w : World) (k : Ky) (t : Tr) (e : Ending) (w' : World) : Prop := ∃ v, e = .returned (enV k v) ∧ TIn w' (fun b => w.heap.size ≤ b) t v ∧ Below w.heap.size w w'

end Go.Proofs.YtbgffmiffmmohaaGreatDoor.tree

/-
  How a value and a key that came in are opened.
  Conditions: those that each theorem names.
-/
namespace Go.Proofs.YtbgffmiffmmohaaGreatDoor.opt
open Go.ChangeShapes Go.WideShapes Go.ChangeAt Go.RowKit mem tree
set_option linter.unusedVariables false

section
variable {H : Type} {enc : TypeId × Value → H}

theorem types : Types Tryz.prog LV LE LK 53 where
  value := ⟨_, _, _, _, _, Tryz.underlying55, by kernel_rfl, by kernel_rfl, by kernel_rfl, by kernel_rfl, by kernel_rfl, by kernel_rfl⟩
  items := Tryz.underlying53
  item := ⟨_, _, Tryz.underlying184, by kernel_rfl, by kernel_rfl, by kernel_rfl, by kernel_rfl⟩
  key := ⟨_, _, _, Tryz.underlying129, by kernel_rfl, by kernel_rfl, by kernel_rfl, by kernel_rfl⟩
  cV := by kernel_rfl
  cE := by kernel_rfl
  cK := by kernel_rfl

set_option maxRecDepth 100000 in
theorem open_value {W : World} {base : Nat} {v : Value} {d : DataW H} {ps : List MemPlace} (hval : Value.okWide Tryz.prog W .any base LV v) (h : DataW.Trod enc Tryz.prog W 0 (fun _ => true) true LV v d ps) : ∃ t, TIn W (fun _ => True) t v := by
  obtain ⟨cs, rfl, hsz⟩ := okWide_struct Tryz.underlying55 hval
  obtain ⟨fuel, hf⟩ := h
  exact open_tree types fuel _ _ hf

set_option maxRecDepth 100000 in
theorem open_key {W : World} {base : Nat} {v : Value} {d : DataW H} {ps : List MemPlace} (hval : Value.okWide Tryz.prog W .any base LK v) (h : DataW.Trod enc Tryz.prog W 0 (fun _ => true) true LK v d ps) : ∃ y : Ky, v = kyV y ∧ I64 y.num ∧ y.str.size ≤ maxLen := by
  obtain ⟨cs, rfl, hsz⟩ := okWide_struct Tryz.underlying129 hval
  obtain ⟨fuel, hf⟩ := h
  obtain ⟨y, he, hn, hs⟩ := tree.open_key types hf
  refine ⟨y, ?_, hn, hs⟩
  unfold kyV
  congr 1
  apply Array.ext'
  simpa [Value.cells] using he
end

end Go.Proofs.YtbgffmiffmmohaaGreatDoor.opt

/-
  Slices of integers in memory: one that reads as a list of numbers, one that the call itself has made, and how both are kept while memory grows.
  Conditions: those that each theorem names.
-/
namespace Go.Proofs.YtbgffmiffmmohaaGreatDoor.imem
open Go.RowKit mem
set_option linter.unusedVariables false

theorem i64row : (Tryz.prog.info? 3).map (fun i => (i.zero, i.size, i.bytes)) = some (some (.int .i64 0), 1, 8) := by kernel_rfl

/-- The numbers as cells. -/
def ics (l : List Int) : List Value := l.map (Value.int .i64)
theorem ics_len (l : List Int) : (ics l).length = l.length := List.length_map _
theorem ics_app (a b : List Int) : ics (a ++ b) = ics a ++ ics b := List.map_append
theorem ics_get {l : List Int} {j : Nat} {v : Int} (h : l[j]? = some v) : (ics l)[j]? = some (.int .i64 v) := by unfold ics; rw [List.getElem?_map, h]; rfl
theorem ics_set (l : List Int) (j : Nat) (v : Int) : ics (l.set j v) = (ics l).set j (.int .i64 v) := List.map_set
theorem ics_one (l : List Int) : ∀ u ∈ ics l, u.oneCell' = true := ints_oneCell .i64 l
theorem ics_zero (n : Nat) : ics (List.replicate n 0) = List.replicate n (.int .i64 0) := List.map_replicate

/-- The slice at A of n integers reads as l. -/
def RdI (w : World) (A : Option Addr) (n : Nat) (l : List Int) : Prop :=
  l.length = n ∧ (0 < n → ∃ a, A = some a ∧ ∀ j v, l[j]? = some v → w.cell? (a.add j) = some (.int .i64 v))

theorem RdI.len {w : World} {A : Option Addr} {n : Nat} {l : List Int} (h : RdI w A n l) : l.length = n := h.1
theorem RdI.at_ {w : World} {A : Option Addr} {n k : Nat} {l : List Int} (h : RdI w A n l) (hk : k < n) : ∃ a v, A = some a ∧ l[k]? = some v ∧ w.cell? (a.add k) = some (.int .i64 v) := by
  obtain ⟨h1, h3⟩ := h
  obtain ⟨a, e, hc⟩ := h3 (by omega)
  have hl : k < l.length := by omega
  exact ⟨a, l[k], e, List.getElem?_eq_getElem hl, hc k _ (List.getElem?_eq_getElem hl)⟩
/-- In the block of the slice, where it has a cell. -/
theorem RdI.lt {w : World} {A : Option Addr} {n : Nat} {l : List Int} (h : RdI w A n l) (hn : 0 < n) : ∃ a, A = some a ∧ a.block < w.heap.size := by
  obtain ⟨a, v, e, _, hc⟩ := h.at_ hn
  refine ⟨a, e, ?_⟩
  have := World.block_lt_of_cell? _ _ hc
  rwa [add_block] at this
theorem RdI.grown {w w' : World} {A : Option Addr} {n : Nat} {l : List Int} {row : Option Nat} (h : RdI w A n l) (hg : w.grownBy w' row) (ho : Off A n row) : RdI w' A n l := by
  refine ⟨h.1, fun hn => ?_⟩
  obtain ⟨a, e, hc⟩ := h.2 hn
  exact ⟨a, e, fun j v hv => hg.cell (hc j v hv) (by rw [add_block]; exact ho hn a e)⟩
theorem RdI.below {w w' : World} {A : Option Addr} {n : Nat} {l : List Int} (h : RdI w A n l) (hb : Below w.heap.size w w') : RdI w' A n l := h.grown (none_of_below hb) (Off.none_ _ _)
theorem RdI.alloc {w : World} {A : Option Addr} {n : Nat} {l : List Int} (h : RdI w A n l) (o : Obj) : RdI (w.alloc o) A n l := h.grown (World.grownBy_alloc w o none) (Off.none_ _ _)
theorem RdI.draws {w : World} {A : Option Addr} {n : Nat} {l : List Int} (h : RdI w A n l) (k : Nat) : RdI (w.drewN k) A n l := h
theorem RdI.nil_ (w : World) (A : Option Addr) : RdI w A 0 [] := ⟨rfl, fun h => absurd h (by omega)⟩

/-- A slice of integers that the call has made: its block is lo or above. -/
def OwnI (w : World) (lo : Nat) (A : Option Addr) (n c : Nat) (l : List Int) : Prop :=
  l.length = n ∧ w.ownsRow lo 3 1 (.slice A n c) n (ics l)

section
variable {w w' : World} {lo : Nat} {A : Option Addr} {n c : Nat} {l : List Int}
theorem OwnI.len (h : OwnI w lo A n c l) : l.length = n := h.1
theorem OwnI.row (h : OwnI w lo A n c l) : w.ownsRow lo 3 1 (.slice A n c) n (ics l) := h.2
theorem OwnI.form (h : OwnI w lo A n c l) : (A = none ∧ n = 0) ∨ ∃ g, A = some ⟨g, 0, none⟩ ∧ lo ≤ g ∧ g < w.heap.size := by
  rcases h.2.2 with ⟨e, h0⟩ | ⟨g, cap, cur, e, hb, hg, _⟩
  · injection e with e1
    exact .inl ⟨e1, h0⟩
  · injection e with e1
    exact .inr ⟨g, e1, hb, (Array.getElem?_eq_some_iff.1 hg).1⟩
theorem OwnI.rd (h : OwnI w lo A n c l) : RdI w A n l := by
  refine ⟨h.1, fun hn => ?_⟩
  rcases h.form with ⟨_, h0⟩ | ⟨g, e, _⟩
  · omega
  · subst e
    exact ⟨_, rfl, fun j v hv => h.row.cells (g := g) rfl j _ (ics_get hv)⟩
theorem OwnI.block (h : OwnI w lo A n c l) : ∀ k, (Value.slice A n c).ownBlock = some k → lo ≤ k ∧ k < w.heap.size := h.row.lt
theorem OwnI.grown {row : Option Nat} (h : OwnI w lo A n c l) (hg : w.grownBy w' row) (ho : (Value.slice A n c).ownBlock = none ∨ (Value.slice A n c).ownBlock ≠ row) : OwnI w' lo A n c l :=
  ⟨h.1, h.row.kept hg ho⟩
theorem OwnI.none_ (h : OwnI w lo A n c l) (hg : w.grownBy w' none) : OwnI w' lo A n c l := h.grown hg (by
  cases e : (Value.slice A n c).ownBlock with
  | none => exact .inl rfl
  | some k => exact .inr (by simp))
theorem OwnI.keep {row : Option Nat} (h : OwnI w lo A n c l) (hg : w.grownBy w' row) (hd : ∀ k, (Value.slice A n c).ownBlock = some k → row ≠ some k) : OwnI w' lo A n c l :=
  h.grown hg (by
    cases e : (Value.slice A n c).ownBlock with
    | none => exact .inl rfl
    | some k => exact .inr fun e' => hd k e e'.symm)
theorem OwnI.below (h : OwnI w lo A n c l) (hb : Below w.heap.size w w') : OwnI w' lo A n c l := h.none_ (none_of_below hb)
theorem OwnI.alloc (h : OwnI w lo A n c l) (o : Obj) : OwnI (w.alloc o) lo A n c l := ⟨h.1, h.row.alloc o⟩
theorem OwnI.draws (h : OwnI w lo A n c l) (k : Nat) : OwnI (w.drewN k) lo A n c l := h
theorem OwnI.less {lo' : Nat} (h : OwnI w lo A n c l) (hl : lo' ≤ lo) : OwnI w lo' A n c l := ⟨h.1, Joins.ownsRow_le h.row hl⟩
theorem OwnI.head (h : OwnI w lo A n c l) (hn : 0 < n) : ∃ g, A = some ⟨g, 0, none⟩ ∧ lo ≤ g ∧ g < w.heap.size ∧ (Value.slice A n c).ownBlock = some g := by
  rcases h.form with ⟨_, h0⟩ | ⟨g, e, h1, h2⟩
  · omega
  · subst e
    exact ⟨g, rfl, h1, h2, rfl⟩
end

theorem owni_empty (w : World) (lo : Nat) {A : Option Addr} {n c : Nat} (h : w.ownsRow lo 3 1 (.slice A n c) n []) (hn : n = 0) : OwnI w lo A n c [] := ⟨by simp [hn], h⟩
theorem owni_mk {w : World} {lo : Nat} {v : Value} {n : Nat} {l : List Int} (h : w.ownsRow lo 3 1 v n (ics l)) : ∃ A c, v = .slice A n c ∧ OwnI w lo A n c l := by
  have hl : l.length = n := by have := h.1; rw [ics_len] at this; omega
  rcases Joins.ownsRow_forms h with ⟨rfl, rfl⟩ | ⟨g, cap, rfl⟩
  · exact ⟨none, 0, rfl, hl, h⟩
  · exact ⟨_, cap, rfl, hl, h⟩

/-- One cell of an own slice is written. -/
theorem OwnI.set {w : World} {lo g n c : Nat} {l : List Int} (h : OwnI w lo (some ⟨g, 0, none⟩) n c l) (k : Nat) (v : Int) :
    OwnI (w.setCell ⟨g, k, none⟩ (.int .i64 v)) lo (some ⟨g, 0, none⟩) n c (l.set k v) ∧ w.grownBy (w.setCell ⟨g, k, none⟩ (.int .i64 v)) (some g) := by
  have hs := h.row.stored k (.int .i64 v)
  exact ⟨⟨by rw [List.length_set]; exact h.1, by rw [ics_set]; exact hs.1⟩, hs.2⟩
theorem OwnI.cellk {w : World} {lo g n c k : Nat} {l : List Int} (h : OwnI w lo (some ⟨g, 0, none⟩) n c l) (hk : k < n) : (∃ v, w.cell? ⟨g, k, none⟩ = some (.int .i64 v)) ∧ w.frozen? ⟨g, k, none⟩ = false := by
  refine ⟨?_, h.row.frozenAt k⟩
  have hl : k < l.length := by rw [h.1]; exact hk
  exact ⟨l[k], by rw [h.row.cellAt k (by omega)]; exact ics_get (List.getElem?_eq_getElem hl)⟩

theorem belowI_own {w w' : World} {lo : Nat} {A : Option Addr} {n c : Nat} {l : List Int} (h : OwnI w lo A n c l) (hg : w.grownBy w' (Value.slice A n c).ownBlock) (hlo : lo ≤ w.heap.size) : Below lo w w' :=
  (Below.refl lo w).grown hg hlo (fun k hk => (h.block k hk).1)

theorem heap_new_at (w : World) (o : Obj) : (w.alloc o).heap[w.heap.size]? = some o := by
  show (w.heap.push o)[w.heap.size]? = _
  simp

/-- A new block of one integer. -/
theorem rdi_one (w : World) (v : Int) (t : TypeId) : RdI (w.alloc (.cells #[.int .i64 v] t)) (some ⟨w.heap.size, 0, none⟩) 1 [v] := by
  refine ⟨rfl, fun _ => ⟨_, rfl, fun j x hx => ?_⟩⟩
  cases j with
  | zero =>
    have : v = x := by simpa using hx
    subst this
    rw [add_zero_lit, World.cell?_alloc_new]
    rfl
  | succ j => simp at hx
theorem owni_one (w : World) (v : Int) (lo : Nat) (hlo : lo ≤ w.heap.size) : OwnI (w.alloc (.cells #[.int .i64 v] 3)) lo (some ⟨w.heap.size, 0, none⟩) 1 1 [v] :=
  ⟨rfl, rfl, .inr ⟨w.heap.size, 1, #[.int .i64 v], rfl, hlo, heap_new_at w _, Nat.le_refl _, by unfold maxLen; omega, rfl, rfl⟩⟩
theorem owni_none (w : World) (lo : Nat) (hlo : lo ≤ w.heap.size) : OwnI (w.alloc (.cells #[] 3)) lo (some ⟨w.heap.size, 0, none⟩) 0 0 [] :=
  owni_empty _ _ (World.ownsRow_made w #[] 0 hlo (Nat.zero_le _) rfl) rfl
theorem owni_nil (w : World) (lo : Nat) : OwnI w lo none 0 0 [] := owni_empty _ _ (World.ownsRow_nil w lo _ 1) rfl

theorem run_noneI (P : Program) (w : World) (t ty : TypeId) (i : TypeInfo) (ht : P.underlying t = some (.slice 3)) (hi : P.info? 3 = some i) (lo : Nat) (v : Value) (n d : Nat) (xs : List Value) (hown : w.ownsRow lo 3 1 v n xs) :
    (Builtin.append_ #[t, t] ty #[v, .slice none 0 d]).run P w = .ok v w := by
  rcases hown.2 with ⟨rfl, rfl⟩ | ⟨g, cap, cur, rfl, _, _, hnc, _⟩
  · simp [Builtin.append_, run_underlying ht, sizeOf, typeInfo, hi, Builtin.lenOf, Builtin.firstCells]
  · simp [Builtin.append_, run_underlying ht, sizeOf, typeInfo, hi, Builtin.lenOf, Builtin.firstCells, hnc, storeCells]

/-- An operation whose guard, if it has one, says yes. -/
theorem wpList_wanted {P : Program} {w : World} {ops : Array Oper} {rest : List Oper} {o : Oper} {a : Act} {Q : Exit → Act → World → Prop} (hw : Region.wanted o (yielded ops a.tmps))
    (h : ∀ K : Act → World → Prop, (∀ a w, wpList P ops Q rest a w → K a w) → o.wp P a w K Q) : wpList P ops Q (o :: rest) a w :=
  wpList_step fun K hK => by rw [if_pos hw]; exact h K hK

/-- append of a slice that reads as r onto an own one. -/
theorem append_rdi_w {P : Program} {w : World} {ops : Array Oper} {rest : List Oper} {o : Oper} {a : Act} {Q : Exit → Act → World → Prop} (hgd : Region.wanted o (yielded ops a.tmps)) (s x : Operand) (t : TypeId)
    (ho : o.op = .call { callee := .builtin .append, args := #[s, x], argTypes := #[t, t] })
    (i : TypeInfo) (ht : P.underlying t = some (.slice 3)) (hi : P.info? 3 = some i) (hz : i.zero = some (.int .i64 0)) (hsize : i.size = 1) (hby : i.bytes = 8)
    (lo : Nat) (A : Option Addr) (n c : Nat) (l : List Int) (hs : a.eval s = .slice A n c) (hown : OwnI w lo A n c l)
    (B : Option Addr) (m d : Nat) (r : List Int) (hx : a.eval x = .slice B m d) (hr : RdI w B m r) (hb : n + m ≤ 17592186044416) (hlo : lo ≤ w.heap.size)
    (h : ∀ A' c' w', OwnI w' lo A' (n + m) c' (l ++ r) → Below lo w w' → w.grownBy w' (Value.slice A n c).ownBlock → wpList P ops Q rest (a.put o.dst (.slice A' (n + m) c')) w') : wpList P ops Q (o :: rest) a w := by
  have close : ∀ v' w', w'.ownsRow lo 3 1 v' (n + m) (ics l ++ ics r) → w.grownBy w' (Value.slice A n c).ownBlock → wpList P ops Q rest (a.put o.dst v') w' := fun v' w' h1 h2 => by
    rw [← ics_app] at h1
    obtain ⟨A', c', rfl, h3⟩ := owni_mk h1
    exact h A' c' w' h3 (belowI_own hown h2 hlo) h2
  have hl : (ics r).length = m * 1 := by rw [ics_len, hr.len, Nat.mul_one]
  have hmax : n + m ≤ maxLen := by unfold maxLen; omega
  cases B with
  | none =>
    have hm : m = 0 := by
      rcases Nat.eq_zero_or_pos m with h0 | h0
      · exact h0
      · obtain ⟨_, e, _⟩ := hr.2 h0
        cases e
    subst hm
    have hr0 : r = [] := List.eq_nil_of_length_eq_zero hr.len
    subst hr0
    have hrun := run_noneI P w t o.type i ht hi lo _ n d (ics l) hown.row
    refine wpList_wanted hgd fun K hK => ?_
    unfold Oper.wp
    simp [execOp, ho, resolve, invoke, builtin, hs, hx, hrun, Result.andThen]
    exact hK _ _ (close _ _ (by simpa [ics] using hown.row) (World.grownBy.refl _ _))
  | some ad =>
    refine wpList_wanted hgd fun K hK => wp_append_own w s x t ho lo 3 i (.int .i64 0) 1 8 ht hi hz hsize hby rfl (by omega) (.slice A n c) n (ics l) hs hown.row ad m d (ics r) hx hl ?_ (ics_one r) hmax (by omega) hlo ?_
    · intro j u hu
      have hj : j < r.length := by
        have := (List.getElem?_eq_some_iff.1 hu).1
        rwa [ics_len] at this
      obtain ⟨_, e, hc⟩ := hr.2 (by have := hr.len; omega)
      obtain rfl := Option.some.inj e
      have hrj : r[j]? = some r[j] := List.getElem?_eq_getElem hj
      rw [ics_get hrj] at hu
      rw [← hu]
      exact hc j _ hrj
    · intro v' w' h1 h2 _
      exact hK _ _ (close v' w' h1 h2)

theorem append_rdi {P : Program} {w : World} {ops : Array Oper} {rest : List Oper} {o : Oper} {a : Act} {Q : Exit → Act → World → Prop} (hgd : o.guard = none) (s x : Operand) (t : TypeId)
    (ho : o.op = .call { callee := .builtin .append, args := #[s, x], argTypes := #[t, t] })
    (i : TypeInfo) (ht : P.underlying t = some (.slice 3)) (hi : P.info? 3 = some i) (hz : i.zero = some (.int .i64 0)) (hsize : i.size = 1) (hby : i.bytes = 8)
    (lo : Nat) (A : Option Addr) (n c : Nat) (l : List Int) (hs : a.eval s = .slice A n c) (hown : OwnI w lo A n c l)
    (B : Option Addr) (m d : Nat) (r : List Int) (hx : a.eval x = .slice B m d) (hr : RdI w B m r) (hb : n + m ≤ 17592186044416) (hlo : lo ≤ w.heap.size)
    (h : ∀ A' c' w', OwnI w' lo A' (n + m) c' (l ++ r) → Below lo w w' → w.grownBy w' (Value.slice A n c).ownBlock → wpList P ops Q rest (a.put o.dst (.slice A' (n + m) c')) w') : wpList P ops Q (o :: rest) a w :=
  append_rdi_w (by simp [Region.wanted, hgd]) s x t ho i ht hi hz hsize hby lo A n c l hs hown B m d r hx hr hb hlo h

end Go.Proofs.YtbgffmiffmmohaaGreatDoor.imem

/-
  How a slice of integers that came in is opened.
  Conditions: those that the theorem names.
-/
namespace Go.Proofs.YtbgffmiffmmohaaGreatDoor.opn
open Go.ChangeShapes Go.WideShapes Go.ChangeAt Go.RowKit mem imem
set_option linter.unusedVariables false

section
variable {H : Type} {enc : TypeId × Value → H} {P : Program}

/-- A slice of integers that came in. -/
theorem open_numbers {W : World} {base : Nat} {t e : TypeId} {v : Value} {d : DataW H} {ps : List MemPlace} (ht : P.underlying t = some (.slice e)) (he : P.underlying e = some (.int .i64)) (hc : P.cellsOf e = 1)
    (hval : Value.okWide P W .any base t v) (h : DataW.Trod enc P W 0 (fun _ => true) true t v d ps) :
    ∃ (A : Option Addr) (n c : Nat) (l : List Int), v = .slice A n c ∧ n ≤ maxLen ∧ RdI W A n l := by
  obtain ⟨A, n, c, rfl⟩ := okWide_slice ht hval
  obtain ⟨fuel, hf⟩ := h
  rcases open_ints ht he hc hf with ⟨hcs, _⟩ | ⟨a, len, cap, zs, hcs, _, hl, hm, hz, _, hcell, hwz⟩
  · simp [Value.cells] at hcs
    obtain ⟨rfl, rfl, rfl⟩ := hcs
    exact ⟨none, 0, 0, [], rfl, Nat.zero_le _, rfl, fun hn => absurd hn (by omega)⟩
  · simp [Value.cells] at hcs
    obtain ⟨rfl, rfl, rfl⟩ := hcs
    simp only [if_true] at hz
    have hle : n ≤ zs.length := by omega
    refine ⟨some a, n, c, zs.take n, rfl, by omega, by rw [List.length_take]; omega, fun hn => ⟨a, rfl, fun j x hx => ?_⟩⟩
    have hj : j < n := by
      have := (List.getElem?_eq_some_iff.1 hx).1
      rw [List.length_take] at this
      omega
    rw [List.getElem?_take, if_pos hj] at hx
    have hcj := hcell j (by omega)
    rw [hcj]
    simp [List.getD, hx]
end
end Go.Proofs.YtbgffmiffmmohaaGreatDoor.opn

/-
  Maps whose keys are structs or arrays, with addresses or without: what a look-up finds and what a store leaves.
  Conditions: those that each theorem names.
-/
namespace Go.Proofs.YtbgffmiffmmohaaGreatDoor.raw
open Go.MapKept
set_option linter.unusedVariables false

/-- Keys that compare by sameness. -/
structure Good (P : Program) (K : TypeId) (G : World → Value → Prop) : Prop where
  wide : (match P.underlying K with | some (.array _ _) | some (.struct _) => true | _ => false) = true
  check : ∀ (w : World) (em : Bool) (x : Value), G w x → (Instr.checkKey em 10000 K x).run P w = .ok () w
  eq : ∀ (w : World) (x y : Value), G w x → G w y → ∃ r : Bool, (Op.equal K x y).run P w = .ok r w ∧ (r = true ↔ x = y)
  same : ∀ (w : World) (x : Value), G w x → Instr.sameBits 10000 x x = true

open Classical in
noncomputable def look : List MapEntry → Value → Option Value
  | [], _ => none
  | e :: es, k => if e.key = k then some e.val else look es k

open Classical in
noncomputable def put (f : Value → Option Value) (k v : Value) : Value → Option Value := fun k' => if k' = k then some v else f k'
theorem put_same (f : Value → Option Value) (k v : Value) : put f k v k = some v := by simp [put]
theorem put_other {f : Value → Option Value} {k v k' : Value} (h : k' ≠ k) : put f k v k' = f k' := by simp [put, h]

/-- Block B is a map that holds f. -/
def Holds (w : World) (G : World → Value → Prop) (B : Nat) (f : Value → Option Value) : Prop :=
  ∃ es clock, w.heap[B]? = some (.map es clock) ∧ (∀ e ∈ es.toList, G w e.key) ∧ f = look es.toList

section
variable {P : Program} {K E T : TypeId} {G : World → Value → Prop} {w : World} {B : Nat} {f : Value → Option Value}

theorem look_push (l : List MapEntry) (e : MapEntry) (h : look l e.key = none) : look (l ++ [e]) = put (look l) e.key e.val := by
  funext k'
  induction l with
  | nil =>
    by_cases hk : e.key = k'
    · simp [look, put, hk]
    · simp [look, put, hk, Ne.symm hk]
  | cons x l ih =>
    simp only [look] at h
    split at h
    · cases h
    · rename_i hx
      have ih := ih h
      simp only [List.cons_append, look, put] at ih ⊢
      by_cases hxk : x.key = k'
      · have : k' ≠ e.key := fun e1 => hx (hxk.trans e1)
        simp [hxk, this]
      · simp only [if_neg hxk]
        exact ih

theorem look_modify (k v : Value) : ∀ (l : List MapEntry) (j : Nat) (e : MapEntry), l[j]? = some e → e.key = k → (∀ i, i < j → ∀ x, l[i]? = some x → x.key ≠ k) →
    look (l.modify j fun e => { e with key := k, val := v }) = put (look l) k v
  | [], j, e, h, _, _ => by simp at h
  | x :: l, 0, e, h, hk, _ => by
    simp at h
    subst h
    funext k'
    simp only [List.modify_zero_cons, look, put]
    by_cases h2 : k = k'
    · simp [h2]
    · have : x.key ≠ k' := fun e1 => h2 (hk.symm.trans e1)
      simp [h2, this, Ne.symm h2]
  | x :: l, j + 1, e, h, hk, hb => by
    have h' : l[j]? = some e := by simpa using h
    have ih := look_modify k v l j e h' hk (fun i hi y hy => hb (i + 1) (by omega) y (by simpa using hy))
    have hx : x.key ≠ k := hb 0 (by omega) x (by simp)
    funext k'
    have ihk := congrFun ih k'
    simp only [List.modify_succ_cons, look, put] at ihk ⊢
    by_cases h2 : x.key = k'
    · have : k' ≠ k := fun e1 => hx (h2.trans e1)
      simp [h2, this]
    · simp only [if_neg h2]
      exact ihk

theorem find (g : Good P K G) (w : World) {k : Value} (hk : G w k) : ∀ (l : List MapEntry) (i : Nat), (∀ e ∈ l, G w e.key) →
    ((Instr.findAsking K k l i).run P w = .ok none w ∧ look l k = none) ∨
    ∃ j e, (Instr.findAsking K k l i).run P w = .ok (some (i + j, e.val)) w ∧ l[j]? = some e ∧ e.key = k ∧ look l k = some e.val ∧ ∀ i, i < j → ∀ x, l[i]? = some x → x.key ≠ k
  | [], i, _ => .inl ⟨by simp [Instr.findAsking], rfl⟩
  | e :: l, i, hall => by
    obtain ⟨r, hr, hiff⟩ := g.eq w k e.key hk (hall e (by simp))
    cases r
    · have hne : e.key ≠ k := fun h => by
        have := hiff.2 h.symm
        cases this
      rcases find g w hk l (i + 1) (fun y hy => hall y (by simp [hy])) with ⟨h1, h2⟩ | ⟨j, e', h1, h2, h3, h4, h5⟩
      · exact .inl ⟨by simp [Instr.findAsking, hr, h1], by simp [look, hne, h2]⟩
      · refine .inr ⟨j + 1, e', by simp [Instr.findAsking, hr, h1, Nat.add_assoc, Nat.add_comm 1 j], by simpa using h2, h3, by simp [look, hne, h4], fun i hi x hx => ?_⟩
        match i, hi, hx with
        | 0, _, hx => simp at hx; subst hx; exact hne
        | i + 1, hi, hx => exact h5 i (by omega) x (by simpa using hx)
    · have he : e.key = k := (hiff.1 rfl).symm
      exact .inr ⟨0, e, by simp [Instr.findAsking, hr], rfl, he, by simp [look, he], fun i hi => absurd hi (by omega)⟩

/-- What 'm[k]' gives. -/
def Got (c : Bool) (z : Value) (r : Option Value) : Value := if c then .tuple #[r.getD z, .bool r.isSome] else r.getD z

theorem Holds.lookup (h : Holds w G B f) (g : Good P K G) (ht : P.underlying T = some (.map K E)) {z : Value} (hz : (zeroValue E).run P w = .ok z w) {k : Value} (hk : G w k) (c : Bool) :
    (Instr.lookup T (.map (some B)) k c).run P w = .ok (Got c z (f k)) w := by
  obtain ⟨es, clock, hb, hall, rfl⟩ := h
  have hchk := g.check w es.isEmpty k hk
  rcases find g w hk es.toList 0 hall with ⟨h1, h2⟩ | ⟨j, e, h1, h2, h3, h4, h5⟩
  · have hf := (run_findKey_eq w g.wide k es.toList).trans h1
    cases c <;> simp [Instr.lookup, run_underlying ht, MapKept.run_getObj_map hb, hchk, hf, hz, h2, Got, Result.andThen]
  · have hf := (run_findKey_eq w g.wide k es.toList).trans h1
    cases c <;> simp [Instr.lookup, run_underlying ht, MapKept.run_getObj_map hb, hchk, hf, h4, Got, Result.andThen]

/-- Keys stay keys while cells' blocks stay. -/
def Stays (G : World → Value → Prop) : Prop := ∀ (w w' : World) (B : Nat) (x : Value), (∃ es clock, w.heap[B]? = some (.map es clock)) → (∀ b, b ≠ B → b < w.heap.size → w'.heap[b]? = w.heap[b]?) → G w x → G w' x

theorem Holds.update (h : Holds w G B f) (g : Good P K G) (st : Stays G) (ht : P.underlying T = some (.map K E)) {k v : Value} (hk : G w k) :
    ∃ w', (Instr.mapUpdate T (.map (some B)) k v).run P w = .ok () w' ∧ Holds w' G B (put f k v) ∧ w.grownBy w' (some B) := by
  obtain ⟨es, clock, hb, hall, rfl⟩ := h
  have hchk := g.check w false k hk
  have gr : ∀ (o : Obj), w.grownBy { w with heap := w.heap.setIfInBounds B o } (some B) := fun o => ⟨rfl, rfl, rfl, by simp, fun i _ hi => (heap_set (o' := o) hb).2 i (fun e => hi (by rw [e]))⟩
  have keep : ∀ (o : Obj) x, G w x → G { w with heap := w.heap.setIfInBounds B o } x := fun o x hx => st w _ B x ⟨es, clock, hb⟩ (fun b hbne _ => (heap_set (o' := o) hb).2 b hbne) hx
  rcases find g w hk es.toList 0 hall with ⟨h1, h2⟩ | ⟨j, e, h1, h2, h3, h4, h5⟩
  · have hf := (run_findKey_eq w g.wide k es.toList).trans h1
    refine ⟨{ w with heap := w.heap.setIfInBounds B (.map (es.push { key := k, val := v, born := clock }) (clock + 1)) }, by simp [Instr.mapUpdate, run_underlying ht, MapKept.run_getObj_map hb, hchk, hf, MapKept.run_setObj_map _ hb, Result.andThen], ⟨_, _, (heap_set hb).1, ?_, ?_⟩, gr _⟩
    · intro x hx
      simp only [Array.toList_push, List.mem_append, List.mem_singleton] at hx
      rcases hx with hx | rfl
      · exact keep _ _ (hall x hx)
      · exact keep _ _ hk
    · rw [Array.toList_push]
      exact (look_push es.toList ⟨k, v, clock⟩ h2).symm
  · have hf := (run_findKey_eq w g.wide k es.toList).trans h1
    have hj : es[j]? = some e := by simpa using h2
    have hstay : (Instr.keyThatStays k k).run P w = .ok k w := by simp [Instr.keyThatStays, g.same w k hk]
    refine ⟨{ w with heap := w.heap.setIfInBounds B (.map (es.modify j fun e => { e with key := k, val := v }) clock) }, by simp [Instr.mapUpdate, run_underlying ht, MapKept.run_getObj_map hb, hchk, hf, hj, h3, hstay, MapKept.run_setObj_map _ hb, Result.andThen], ⟨_, _, (heap_set hb).1, ?_, ?_⟩, gr _⟩
    · intro x hx
      rw [Array.toList_modify] at hx
      obtain ⟨i, hi⟩ := List.mem_iff_getElem?.1 hx
      rw [List.getElem?_modify] at hi
      by_cases hij : j = i
      · subst hij
        rw [h2] at hi
        simp at hi
        subst hi
        exact keep _ _ hk
      · simp [hij] at hi
        cases hl : es.toList[i]? with
        | none => simp at hl; simp [hl] at hi
        | some y =>
          have : y = x := by simp at hl; simpa [hl] using hi
          exact keep _ _ (hall x (this ▸ List.mem_of_getElem? hl))
    · rw [Array.toList_modify]
      exact (look_modify k v es.toList j e h2 h3 h5).symm

/-- A new map. -/
theorem Holds.made (w : World) (G : World → Value → Prop) : Holds (w.alloc (.map #[] 0)) G w.heap.size (fun _ => none) :=
  ⟨#[], 0, (heap_alloc w _).1, by simp, rfl⟩
theorem Holds.lt (h : Holds w G B f) : B < w.heap.size := by
  obtain ⟨es, clock, hb, _⟩ := h
  exact (Array.getElem?_eq_some_iff.1 hb).1
/-- The map stays while it is not written. -/
theorem Holds.kept (h : Holds w G B f) {w' : World} (hb' : w'.heap[B]? = w.heap[B]?) (hG : ∀ x, G w x → G w' x) : Holds w' G B f := by
  obtain ⟨es, clock, hb, hall, rfl⟩ := h
  exact ⟨es, clock, hb'.trans hb, fun e he => hG _ (hall e he), rfl⟩
end

/-- 'm[k]' at the operation. -/
theorem wpList_lookup {P : Program} (w : World) {ops : Array Oper} {rest : List Oper} {o : Oper} {a : Act} {Q : Exit → Act → World → Prop}
    (hg : o.guard = none) (m x : Operand) (t : TypeId) (c : Bool) (hop : o.op = Op.lookup t m x c)
    {K E : TypeId} {G : World → Value → Prop} {B : Nat} {f : Value → Option Value} (hown : Holds w G B f) (g : Good P K G) (ht : P.underlying t = some (.map K E)) {z : Value} (hz : (zeroValue E).run P w = .ok z w)
    (hm : a.eval m = .map (some B)) {k : Value} (hx : a.eval x = k) (hk : G w k)
    (hK : wpList P ops Q rest (a.put o.dst (Got c z (f k))) w) :
    wpList P ops Q (o :: rest) a w := by
  refine wpList_plain hg fun K' hK' => ?_
  have hrun := hown.lookup g ht hz hk c
  unfold Oper.wp
  simp [execOp, hop, hm, hx, hrun, Result.andThen]
  exact hK' _ _ hK

theorem wpList_lookup_to {P : Program} (w : World) {ops : Array Oper} {rest : List Oper} {o : Oper} {a : Act} {Q : Exit → Act → World → Prop}
    (hg : o.guard = none) (m x : Operand) (t : TypeId) (c : Bool) (hop : o.op = Op.lookup t m x c)
    {K E : TypeId} {G : World → Value → Prop} {B : Nat} {f : Value → Option Value} (hown : Holds w G B f) (g : Good P K G) (ht : P.underlying t = some (.map K E)) {z : Value} (hz : (zeroValue E).run P w = .ok z w)
    (hm : a.eval m = .map (some B)) {k : Value} (hx : a.eval x = k) (hk : G w k) {r : Option Value} (hr : f k = r) {v : Value} (hv : Got c z r = v)
    (hK : wpList P ops Q rest (a.put o.dst v) w) :
    wpList P ops Q (o :: rest) a w :=
  wpList_lookup w hg m x t c hop hown g ht hz hm hx hk (by rw [hr, hv]; exact hK)

/-- An operation whose guard, if it has one, says yes. -/
theorem wpList_wanted {P : Program} {w : World} {ops : Array Oper} {rest : List Oper} {o : Oper} {a : Act} {Q : Exit → Act → World → Prop} (hw : Region.wanted o (yielded ops a.tmps))
    (h : ∀ K : Act → World → Prop, (∀ a w, wpList P ops Q rest a w → K a w) → o.wp P a w K Q) : wpList P ops Q (o :: rest) a w :=
  wpList_step fun K hK => by rw [if_pos hw]; exact h K hK
/-- 'm[k]' behind a guard that says yes. -/
theorem wpList_lookup_w {P : Program} (w : World) {ops : Array Oper} {rest : List Oper} {o : Oper} {a : Act} {Q : Exit → Act → World → Prop}
    (hw : Region.wanted o (yielded ops a.tmps)) (m x : Operand) (t : TypeId) (c : Bool) (hop : o.op = Op.lookup t m x c)
    {K E : TypeId} {G : World → Value → Prop} {B : Nat} {f : Value → Option Value} (hown : Holds w G B f) (g : Good P K G) (ht : P.underlying t = some (.map K E)) {z : Value} (hz : (zeroValue E).run P w = .ok z w)
    (hm : a.eval m = .map (some B)) {k : Value} (hx : a.eval x = k) (hk : G w k) {r : Option Value} (hr : f k = r) {v : Value} (hv : Got c z r = v)
    (hK : wpList P ops Q rest (a.put o.dst v) w) :
    wpList P ops Q (o :: rest) a w := by
  refine wpList_wanted hw fun K' hK' => ?_
  have hrun := hown.lookup g ht hz hk c
  rw [hr, hv] at hrun
  unfold Oper.wp
  simp [execOp, hop, hm, hx, hrun, Result.andThen]
  exact hK' _ _ hK

/-- 'm[k] = v' at the operation. -/
theorem wpList_update {P : Program} (w : World) {ops : Array Oper} {rest : List Oper} {o : Oper} {a : Act} {Q : Exit → Act → World → Prop}
    (hg : o.guard = none) (m x v : Operand) (t : TypeId) (hop : o.op = Op.mapUpdate t m x v)
    {K E : TypeId} {G : World → Value → Prop} {B : Nat} {f : Value → Option Value} (hown : Holds w G B f) (g : Good P K G) (st : Stays G) (ht : P.underlying t = some (.map K E))
    (hm : a.eval m = .map (some B)) {k val : Value} (hx : a.eval x = k) (hv : a.eval v = val) (hk : G w k)
    (hK : ∀ w', Holds w' G B (put f k val) → w.grownBy w' (some B) → wpList P ops Q rest (a.put o.dst undef) w') :
    wpList P ops Q (o :: rest) a w := by
  refine wpList_plain hg fun K' hK' => ?_
  obtain ⟨w', hrun, r1, r2⟩ := hown.update g st ht (v := val) hk
  unfold Oper.wp
  simp [execOp, hop, hm, hx, hv, hrun, Result.andThen]
  exact hK' _ _ (hK w' r1 r2)

end Go.Proofs.YtbgffmiffmmohaaGreatDoor.raw

/-
  Plain facts on decimal numerals, without the program: a numeral is read back, its digits are digits, and what the project's and the model's way of reading a text give is the same number.
  Conditions: those that each theorem names.
-/
namespace Go.Proofs.YtbgffmiffmmohaaGreatDoor.dec
open Go.Lib

def isDig (b : UInt8) : Prop := 48 ≤ b.toNat ∧ b.toNat ≤ 57
instance (b : UInt8) : Decidable (isDig b) := by unfold isDig; infer_instance

def digStep (a : Nat) (b : UInt8) : Nat := 10 * a + (b.toNat - 48)
theorem digStep_eq (a : Nat) (b : UInt8) : digStep a b = 10 * a + (b.toNat - 48) := by unfold digStep; rfl
def valFrom (a : Nat) (l : List UInt8) : Nat := l.foldl digStep a
def val (l : List UInt8) : Nat := valFrom 0 l

theorem valFrom_nil (a : Nat) : valFrom a [] = a := by unfold valFrom; rw [List.foldl_nil]
theorem valFrom_cons (a : Nat) (b : UInt8) (l : List UInt8) : valFrom a (b :: l) = valFrom (10 * a + (b.toNat - 48)) l := by unfold valFrom; rw [List.foldl_cons, digStep_eq]
theorem valFrom_snoc (l : List UInt8) (a : Nat) (b : UInt8) : valFrom a (l ++ [b]) = 10 * valFrom a l + (b.toNat - 48) := by
  unfold valFrom
  rw [List.foldl_append, List.foldl_cons, List.foldl_nil, digStep_eq]
theorem val_snoc (l : List UInt8) (b : UInt8) : val (l ++ [b]) = 10 * val l + (b.toNat - 48) := valFrom_snoc l 0 b

theorem toNat_dig {d : Nat} (h : d < 10) : (UInt8.ofNat (48 + d)).toNat = 48 + d := by
  rw [UInt8.toNat_ofNat']
  omega

theorem decDigits_step {u : Nat} (h : ¬ u < 10) : decDigits u = decDigits (u / 10) ++ [UInt8.ofNat (48 + u % 10)] := by
  rw [decDigits, dif_neg h]

theorem decDigits_dig : ∀ (u : Nat) (b : UInt8), b ∈ decDigits u → isDig b := by
  intro u
  induction u using Nat.strongRecOn with
  | _ u ih =>
    intro b hb
    by_cases h : u < 10
    · rw [decDigits_one h] at hb
      simp only [List.mem_singleton] at hb
      subst hb
      unfold isDig
      rw [toNat_dig h]
      omega
    · rw [decDigits_step h] at hb
      rcases List.mem_append.1 hb with hb | hb
      · exact ih (u / 10) (by omega) b hb
      · simp only [List.mem_singleton] at hb
        subst hb
        unfold isDig
        rw [toNat_dig (by omega)]
        omega

theorem val_decDigits (u : Nat) : val (decDigits u) = u := by
  induction u using Nat.strongRecOn with
  | _ u ih =>
    by_cases h : u < 10
    · rw [decDigits_one h]
      unfold val
      rw [valFrom_cons, valFrom_nil, toNat_dig h]
      omega
    · rw [decDigits_step h, val_snoc, ih (u / 10) (by omega), toNat_dig (by omega)]
      omega

theorem decDigits_ne (u : Nat) : decDigits u ≠ [] := by
  intro h
  have := decDigits_length u
  rw [h] at this
  have h1 := nDigits_pos u
  simp at this
  omega

theorem nDigits_le : ∀ (k u : Nat), 1 ≤ k → u < 10 ^ k → nDigits u ≤ k
  | 0, u, h, _ => by omega
  | k + 1, u, _, h => by
    by_cases hs : u < 10
    · rw [nDigits_small hs]; omega
    · rw [nDigits_big hs]
      rw [Nat.pow_succ] at h
      by_cases hk : k = 0
      · subst hk; simp at h; omega
      · have := nDigits_le k (u / 10) (by omega) (by omega)
        omega

theorem valFrom_ge : ∀ (l : List UInt8) (a : Nat), a ≤ valFrom a l
  | [], a => by rw [valFrom_nil]; omega
  | b :: l, a => by
    rw [valFrom_cons]
    have := valFrom_ge l (10 * a + (b.toNat - 48))
    omega

theorem parse_digs : ∀ (l : List UInt8) (a : Nat), (∀ b ∈ l, isDig b) → valFrom a l < 18446744073709551616 → parseUint10 a l = .ok (valFrom a l)
  | [], a, _, _ => rfl
  | b :: l, a, hd, hv => by
    have hb : isDig b := hd b List.mem_cons_self
    unfold isDig at hb
    rw [valFrom_cons] at hv ⊢
    have h1 := valFrom_ge l (10 * a + (b.toNat - 48))
    have e : a * 10 + (b.toNat - 48) = 10 * a + (b.toNat - 48) := by omega
    rw [parseUint10, if_pos hb, if_neg (by omega), if_neg (by omega), e]
    exact parse_digs l _ (fun x hx => hd x (List.mem_cons_of_mem _ hx)) hv

theorem parseMag_dec {u : Nat} (h : u < 18446744073709551616) : parseMag (decDigits u) = .ok u := by
  unfold parseMag
  rw [if_neg (decDigits_ne u)]
  have hv := val_decDigits u
  unfold val at hv
  rw [parse_digs _ 0 (decDigits_dig u) (by omega), hv]

theorem head_dec (u : Nat) : ∃ b r, decDigits u = b :: r ∧ isDig b := by
  cases h : decDigits u with
  | nil => exact absurd h (decDigits_ne u)
  | cons b r => exact ⟨b, r, rfl, decDigits_dig u b (by rw [h]; exact List.mem_cons_self)⟩

/-- What is written is read again. -/
theorem atoi_itoa (n : Int) (h0 : -9223372036854775808 ≤ n) (h1 : n ≤ 9223372036854775807) : atoiAll (itoa n) = .ok n := by
  unfold itoa
  by_cases hn : n < 0
  · rw [if_pos hn, atoiAll_minus, parseMag_dec (by omega)]
    simp only [signed]
    rw [if_neg (by omega)]
    congr 1
    omega
  · rw [if_neg hn]
    obtain ⟨b, r, e, hb⟩ := head_dec n.toNat
    unfold isDig at hb
    have hp : parseMag (b :: r) = .ok n.toNat := by rw [← e]; exact parseMag_dec (by omega)
    rw [e, atoiAll_plain b r (by omega) (by omega), hp]
    simp only [signless]
    rw [if_neg (by omega)]
    congr 1
    omega

theorem itoa_inj {n m : Int} (h0 : -9223372036854775808 ≤ n) (h1 : n ≤ 9223372036854775807) (k0 : -9223372036854775808 ≤ m) (k1 : m ≤ 9223372036854775807) (h : itoa n = itoa m) : n = m := by
  have a := atoi_itoa n h0 h1
  have b := atoi_itoa m k0 k1
  rw [h, b] at a
  injection a with a
  exact a.symm

/-- What the project's reading gives, of the numbers from low to high. -/
def pr (low high : Int) (l : List UInt8) : Int × Bool :=
  match atoiAll l with
  | .ok n => if itoa n = l ∧ low ≤ n ∧ n ≤ high then (n, true) else (0, false)
  | _ => (0, false)

theorem pr_yes {low high n : Int} {l : List UInt8} (h : itoa n = l) (h0 : -9223372036854775808 ≤ n) (h1 : n ≤ 9223372036854775807) (hl : low ≤ n) (hh : n ≤ high) : pr low high l = (n, true) := by
  have e : atoiAll l = .ok n := by rw [← h]; exact atoi_itoa n h0 h1
  unfold pr
  rw [e]
  exact if_pos ⟨h, hl, hh⟩

theorem pr_no {low high : Int} {l : List UInt8} (h : ∀ n, itoa n = l → low ≤ n → n ≤ high → False) : pr low high l = (0, false) := by
  unfold pr
  split
  · rw [if_neg (fun hh => h _ hh.1 hh.2.1 hh.2.2)]
  · rfl

theorem pr_true {low high : Int} {l : List UInt8} (h : (pr low high l).2 = true) : itoa (pr low high l).1 = l ∧ low ≤ (pr low high l).1 ∧ (pr low high l).1 ≤ high := by
  unfold pr at h ⊢
  split at h
  · split at h
    · rename_i hc
      rw [if_pos hc]
      exact hc
    · cases h
  · cases h

theorem pr_false {low high : Int} {l : List UInt8} (h : (pr low high l).2 = false) : (pr low high l).1 = 0 := by
  unfold pr at h ⊢
  split at h
  · split at h
    · cases h
    · rename_i hc
      rw [if_neg hc]
  · rfl

/-- What the model's reading gives. -/
def sp (l : List UInt8) : Int × Bool := if 1 ≤ l.length ∧ l.length ≤ 13 ∧ (∀ b ∈ l, isDig b) ∧ val l ≤ 1000000000000 ∧ itoa (val l : Int) = l then ((val l : Int), true) else (0, false)

theorem itoa_nat (u : Nat) : itoa (u : Int) = decDigits u := by unfold itoa; rw [if_neg (by omega)]; simp

theorem sp_eq (l : List UInt8) : sp l = pr 0 1000000000000 l := by
  unfold sp
  split
  · rename_i h
    obtain ⟨_, _, _, h4, h5⟩ := h
    exact (pr_yes h5 (by omega) (by omega) (by omega) (by omega)).symm
  · rename_i h
    refine (pr_no fun n hn h0 h1 => h ?_).symm
    obtain ⟨u, rfl⟩ := Int.eq_ofNat_of_zero_le h0
    rw [itoa_nat] at hn
    have hv := val_decDigits u
    have hl := decDigits_length u
    have hp := nDigits_pos u
    have hd := nDigits_le 13 u (by omega) (by have : (10 : Nat) ^ 13 = 10000000000000 := by decide
                                              omega)
    subst hn
    rw [hv, itoa_nat]
    exact ⟨by omega, by omega, decDigits_dig u, by omega, rfl⟩

/-- What the model's reading with a sign gives. -/
def sps (l : List UInt8) : Int × Bool :=
  if l.head? = some 45 then
    (if (sp l.tail).2 = true ∧ (sp l.tail).1 ≤ 1000000000 ∧ (sp l.tail).1 ≠ 0 then (-(sp l.tail).1, true) else (0, false))
  else
    (if (sp l).2 = true ∧ (sp l).1 ≤ 1000000000 then ((sp l).1, true) else (0, false))

theorem itoa_neg' {n : Int} (h : n < 0) : itoa n = 45 :: decDigits n.natAbs := by unfold itoa; rw [if_pos h]
theorem itoa_pos' {n : Int} (h : ¬ n < 0) : itoa n = decDigits n.toNat := by unfold itoa; rw [if_neg h]

theorem dig_head {u : Nat} : (decDigits u).head? ≠ some 45 := by
  obtain ⟨b, r, e, hb⟩ := head_dec u
  rw [e]
  intro h
  simp only [List.head?_cons, Option.some.injEq] at h
  subst h
  unfold isDig at hb
  have : (45 : UInt8).toNat = 45 := rfl
  omega

theorem sps_eq (l : List UInt8) : sps l = pr (-1000000000) 1000000000 l := by
  unfold sps
  rw [sp_eq, sp_eq]
  split
  · rename_i hh
    obtain ⟨r, rfl⟩ : ∃ r, l = 45 :: r := by
      cases l with
      | nil => simp at hh
      | cons b r => simp at hh; exact ⟨r, by rw [hh]⟩
    have ht : (45 :: r).tail = r := rfl
    rw [ht]
    by_cases hc : (pr 0 1000000000000 r).2 = true ∧ (pr 0 1000000000000 r).1 ≤ 1000000000 ∧ (pr 0 1000000000000 r).1 ≠ 0
    · rw [if_pos hc]
      obtain ⟨c1, c2, c3⟩ := hc
      obtain ⟨e1, e2, e3⟩ := pr_true c1
      refine (pr_yes ?_ (by omega) (by omega) (by omega) (by omega)).symm
      rw [itoa_neg' (by omega)]
      rw [itoa_pos' (by omega)] at e1
      rw [← e1]
      congr 2
      rw [e1]
      omega
    · rw [if_neg hc]
      refine (pr_no fun n hn h0 h1 => hc ?_).symm
      by_cases hneg : n < 0
      · rw [itoa_neg' hneg] at hn
        injection hn with _ hn
        have hy : pr 0 1000000000000 r = ((n.natAbs : Int), true) := pr_yes (by rw [itoa_nat, hn]) (by omega) (by omega) (by omega) (by omega)
        rw [hy]
        exact ⟨rfl, by show (n.natAbs : Int) ≤ 1000000000; omega, by show (n.natAbs : Int) ≠ 0; omega⟩
      · rw [itoa_pos' hneg] at hn
        exact absurd (by rw [hn]; rfl) (dig_head (u := n.toNat))
  · rename_i hh
    by_cases hc : (pr 0 1000000000000 l).2 = true ∧ (pr 0 1000000000000 l).1 ≤ 1000000000
    · rw [if_pos hc]
      obtain ⟨c1, c2⟩ := hc
      obtain ⟨e1, e2, e3⟩ := pr_true c1
      exact (pr_yes e1 (by omega) (by omega) (by omega) (by omega)).symm
    · rw [if_neg hc]
      refine (pr_no fun n hn h0 h1 => hc ?_).symm
      by_cases hneg : n < 0
      · rw [itoa_neg' hneg] at hn
        exact absurd (by rw [← hn]; rfl) hh
      · have hy : pr 0 1000000000000 l = (n, true) := pr_yes hn (by omega) (by omega) (by omega) (by omega)
        rw [hy]
        exact ⟨rfl, by show n ≤ 1000000000; omega⟩

end Go.Proofs.YtbgffmiffmmohaaGreatDoor.dec

/-
  What the project's FormatInt and the model's FormatInt return: the decimal numeral, for every integer.
  Conditions: the library's table of powers of ten holds what its text lays.
-/
namespace Go.Proofs.YtbgffmiffmmohaaGreatDoor.fmt
open Go.ChangeShapes Go.WideShapes Go.ChangeAt Go.RowKit Go.Sort Go.Lib
set_option linter.unusedVariables false

def Tab (w : World) : Prop := Lib.TabIs Tryz.prog w "internal/strconv.uint64pow10" .u64 Lib.pow10Tab

theorem gTab : Tryz.prog.globalNamed "internal/strconv.uint64pow10" = some 2 := by kernel_rfl
theorem Tab.stays {w w' : World} (h : Tab w) (hb : Below w.heap.size w w') : Tab w' := Joins.tab_stays gTab h hb (Nat.le_refl _)

theorem below_grow (w : World) (k : Nat) (os : Array Obj) : Below w.heap.size w (grow (w.drewN k) os) :=
  ⟨rfl, rfl, rfl, by show w.heap.size ≤ (w.heap ++ os).size; simp, fun j hj => heap_grow_old (w.drewN k) os hj⟩

def num (n : Int) : Value := .string ⟨(Lib.itoa n).toArray⟩

theorem libItoa (n : Int) (h0 : -9223372036854775808 ≤ n) (h1 : n ≤ 9223372036854775807) (w : World) (hT : Tab w) :
    Calls Tryz.prog 241 #[.int .i64 n] w fun e w' => e = .returned (num n) ∧ Below w.heap.size w w' :=
  (Tryz.strconv_Itoa n h0 h1 w hT).mono fun e w' ⟨he, k, os, hw⟩ => ⟨he, hw ▸ below_grow w k os⟩

theorem implFormat (n : Int) (h0 : -9223372036854775808 ≤ n) (h1 : n ≤ 9223372036854775807) (w : World) (hT : Tab w) :
    Calls Tryz.prog 228 #[.int .i64 n] w fun e w' => e = .returned (num n) ∧ Below w.heap.size w w' := by
  have HT := Lib.hid hT; clear hT
  go_enter Tryz.func228, Tryz.ntmps228
  go_wp2_with (go_at_call 241; refine (libItoa n h0 h1 _ HT.out).mono ?_; rintro e w' ⟨rfl, hb⟩)
  go_ret
  exact ⟨rfl, hb⟩

/-- What is left to write (u), and what stands behind it (l), are the numeral of a. -/
def Rest (a : Nat) (u : Int) (l : List UInt8) : Prop := if u = 0 then l = Lib.decDigits a else Lib.decDigits u.natAbs ++ l = Lib.decDigits a
theorem Rest.start' {n : Int} (h : n ≠ 0) : Rest n.natAbs n [] := by
  unfold Rest
  rw [if_neg (by omega), List.append_nil]
theorem bytes_cons (b : UInt8) (l : List UInt8) : (⟨#[b]⟩ : ByteArray) ++ ⟨l.toArray⟩ = ⟨(b :: l).toArray⟩ := by
  apply ByteArray.ext
  apply Array.toList_inj.1
  rw [Joins.data_append]
  rfl
theorem Rest.start {n : Int} (h : 1 ≤ n) : Rest n.natAbs n [] := by
  unfold Rest
  rw [if_neg (by omega), List.append_nil]
theorem Rest.done {a : Nat} {l : List UInt8} (h : Rest a 0 l) : l = Lib.decDigits a := by
  unfold Rest at h
  rwa [if_pos rfl] at h
theorem Rest.step {a : Nat} {u v : Int} {l : List UInt8} (h : Rest a u l) (hu : u ≠ 0) (hv : v.natAbs = u.natAbs / 10) : Rest a v (UInt8.ofNat (48 + u.natAbs % 10) :: l) := by
  unfold Rest at h ⊢
  rw [if_neg hu] at h
  rw [← h]
  by_cases h10 : u.natAbs < 10
  · rw [if_pos (by omega), Lib.decDigits_one h10, Nat.mod_eq_of_lt h10]
    rfl
  · rw [if_neg (by omega), dec.decDigits_step h10, hv, List.append_assoc]
    rfl

theorem Rest.len {a : Nat} {u : Int} {l : List UInt8} (h : Rest a u l) (ha : a ≤ 9223372036854775808) : l.length ≤ 20 := by
  have h1 := decDigits_length a
  have h2 := dec.nDigits_le 20 a (by omega) (by have : (10 : Nat) ^ 20 = 100000000000000000000 := by decide
                                                omega)
  unfold Rest at h
  split at h
  · rw [h]; omega
  · have := congrArg List.length h
    rw [List.length_append] at this
    omega

theorem tneg (u : Int) (h : u ≤ 0) : u.tdiv 10 = -((-u) / 10) ∧ u.tmod 10 = -((-u) % 10) := by
  obtain ⟨v, rfl⟩ : ∃ v : Int, u = -v := ⟨-u, by omega⟩
  rw [Int.neg_tdiv, Int.neg_tmod, Int.neg_neg, Int.tdiv_eq_ediv_of_nonneg (by omega), Int.tmod_eq_emod_of_nonneg (by omega)]
  exact ⟨rfl, rfl⟩

theorem run_byte_string {P : Program} (src dst e : TypeId) (v : Int) (h0 : 0 ≤ v) (h1 : v ≤ 255) (hs : P.underlying src = some (.slice e)) (he : P.underlying e = some (.int .u8)) (hd : P.underlying dst = some .string) (w : World) :
    (convert src dst (.slice (some ⟨w.heap.size, 0, none⟩) 1 1)).run P (w.alloc (.cells #[.int .u8 v] e)) = .ok (.string ⟨#[UInt8.ofNat v.toNat]⟩) (w.alloc (.cells #[.int .u8 v] e)) :=
  run_convert_bytes_back (P := P) _ src dst e ⟨w.heap.size, 0, none⟩ 1 [UInt8.ofNat v.toNat] hs he hd (fun j hj => by
    obtain rfl : j = 0 := by simp at hj; omega
    have hv : ((UInt8.ofNat v.toNat).toNat : Int) = v := by rw [UInt8.toNat_ofNat']; omega
    simp only [List.getElem_cons_zero, hv]
    exact World.cell?_alloc_new _ _ _ 0)

theorem specFormat_pos (n : Int) (h0 : 1 ≤ n) (h1 : n ≤ 9223372036854775807) (w : World) :
    Calls Tryz.prog 212 #[.int .i64 n] w fun e w' => e = .returned (num n) ∧ Below w.heap.size w w' := by
  have hz : (n == 0) = false := by rw [beq_eq_false_iff_ne]; omega
  go_enter Tryz.func212, Tryz.ntmps212
  go_wp2
  go_loopw [3, 4] (fun s x wr => ∃ (u : Int) (l : List UInt8), 0 ≤ u ∧ u ≤ n ∧ x = .int .i64 u ∧ s = .string ⟨l.toArray⟩ ∧ Rest n.natAbs u l ∧ Below w.heap.size w wr) (fun _ x _ => (RowKit.intOf x).toNat)
  case atStart => exact ⟨n, [], by omega, by omega, rfl, rfl, Rest.start h0, Below.refl _ _⟩
  case round =>
    obtain ⟨u, l, hu0, hu1, rfl, rfl, hR, hb⟩ := hrel
    have hl := hR.len (by omega)
    by_cases hu : u = 0
    · subst hu
      have HR := Lib.hid hR.done; clear hR
      go_wp2
      go_ret
      exact ⟨by rw [HR.out]; unfold num; rw [dec.itoa_pos' (by omega), show n.toNat = n.natAbs by omega]; rfl, hb⟩
    · have hun : (u == 0) = false := by rw [beq_eq_false_iff_ne]; omega
      have hd0 : 0 ≤ u % 10 := by omega
      have hd9 : u % 10 ≤ 9 := by omega
      have HR := Lib.hid (hR.step hu (v := u / 10) (by omega)); clear hR
      have hcv := run_byte_string (P := Tryz.prog) 22 9 5 (48 + u % 10) (by omega) (by omega) Tryz.underlying22 Tryz.underlying5 Tryz.underlying9
      go_wp2
      refine ⟨⟨u / 10, UInt8.ofNat (48 + u.natAbs % 10) :: l, by omega, by omega, rfl, ?_, HR.out, hb.alloc hb.size _⟩, ?_⟩
      · rw [show (48 + u % 10).toNat = 48 + u.natAbs % 10 by omega]
        exact congrArg Value.string (bytes_cons _ _)
      · simp only [RowKit.intOf]; omega

theorem specFormat_neg (n : Int) (h0 : -9223372036854775808 ≤ n) (h1 : n < 0) (w : World) :
    Calls Tryz.prog 212 #[.int .i64 n] w fun e w' => e = .returned (num n) ∧ Below w.heap.size w w' := by
  have hz : (n == 0) = false := by rw [beq_eq_false_iff_ne]; omega
  go_enter Tryz.func212, Tryz.ntmps212
  go_wp2
  go_loopw [3, 4] (fun s x wr => ∃ (u : Int) (l : List UInt8), u ≤ 0 ∧ n ≤ u ∧ x = .int .i64 u ∧ s = .string ⟨l.toArray⟩ ∧ Rest n.natAbs u l ∧ Below w.heap.size w wr) (fun _ x _ => (RowKit.intOf x).natAbs)
  case atStart => exact ⟨n, [], by omega, by omega, rfl, rfl, Rest.start' (by omega), Below.refl _ _⟩
  case round =>
    obtain ⟨u, l, hu0, hu1, rfl, rfl, hR, hb⟩ := hrel
    have hl := hR.len (by omega)
    by_cases hu : u = 0
    · subst hu
      have HR := Lib.hid hR.done; clear hR
      go_wp2
      go_ret
      exact ⟨by rw [HR.out]; unfold num; rw [dec.itoa_neg' (by omega)]; exact congrArg (fun s => Ending.returned (Value.string s)) (bytes_cons _ _), hb⟩
    · have hun : (u == 0) = false := by rw [beq_eq_false_iff_ne]; omega
      obtain ⟨e1, e2⟩ := tneg u hu0
      have HR := Lib.hid (hR.step hu (v := u.tdiv 10) (by rw [e1]; omega)); clear hR
      have hd0 : u.tmod 10 ≤ 0 := by omega
      have hd9 : -9 ≤ u.tmod 10 := by omega
      have hv0 : u.tdiv 10 ≤ 0 := by omega
      have hv9 : u ≤ u.tdiv 10 := by omega
      have hm : (u.tdiv 10).natAbs < u.natAbs := by omega
      have E2 := Lib.hid e2; clear e1 e2
      by_cases hd : u.tmod 10 < 0
      · have hcv := run_byte_string (P := Tryz.prog) 22 9 5 (48 + -u.tmod 10) (by omega) (by omega) Tryz.underlying22 Tryz.underlying5 Tryz.underlying9
        go_wp2
        refine ⟨⟨u.tdiv 10, UInt8.ofNat (48 + u.natAbs % 10) :: l, by omega, by omega, rfl, ?_, HR.out, hb.alloc hb.size _⟩, ?_⟩
        · have e2 := E2.out
          rw [show (48 + -u.tmod 10).toNat = 48 + u.natAbs % 10 by omega]
          exact congrArg Value.string (bytes_cons _ _)
        · simp only [RowKit.intOf]; omega
      · have hz0 : u.tmod 10 = 0 := by omega
        have hcv := run_byte_string (P := Tryz.prog) 22 9 5 48 (by omega) (by omega) Tryz.underlying22 Tryz.underlying5 Tryz.underlying9
        go_wp2
        refine ⟨⟨u.tdiv 10, UInt8.ofNat (48 + u.natAbs % 10) :: l, by omega, by omega, rfl, ?_, HR.out, hb.alloc hb.size _⟩, ?_⟩
        · have e2 := E2.out
          rw [show 48 + u.natAbs % 10 = 48 by omega]
          exact congrArg Value.string (bytes_cons _ _)
        · simp only [RowKit.intOf]; omega

theorem specFormat_zero (w : World) :
    Calls Tryz.prog 212 #[.int .i64 0] w fun e w' => e = .returned (num 0) ∧ Below w.heap.size w w' := by
  go_enter Tryz.func212, Tryz.ntmps212
  go_wp2
  go_ret
  exact ⟨by unfold num; rw [dec.itoa_pos' (by omega)]; show _ = Ending.returned (.string ⟨(decDigits 0).toArray⟩); rw [Lib.decDigits_one (by omega)]; rfl, Below.refl _ _⟩

theorem specFormat (n : Int) (h0 : -9223372036854775808 ≤ n) (h1 : n ≤ 9223372036854775807) (w : World) :
    Calls Tryz.prog 212 #[.int .i64 n] w fun e w' => e = .returned (num n) ∧ Below w.heap.size w w' := by
  by_cases hn : n < 0
  · exact specFormat_neg n h0 hn w
  · by_cases hz : n = 0
    · subst hz; exact specFormat_zero w
    · exact specFormat_pos n (by omega) h1 w

end Go.Proofs.YtbgffmiffmmohaaGreatDoor.fmt

/-
  What Min, Max and InRange of the project, and the model's own range test, return at every integer; they change nothing.
  Conditions: none but that arguments are of Go's type int.
-/
namespace Go.Proofs.YtbgffmiffmmohaaGreatDoor.nums
open Go.ChangeShapes Go.WideShapes Go.ChangeAt Go.RowKit
set_option linter.unusedVariables false

def mn (a b : Int) : Int := if b < a then b else a
def mx (a b : Int) : Int := if a < b then b else a
def inr (n l h : Int) : Bool := decide (l ≤ n) && decide (n ≤ h)

theorem ret_int {k : IntKind} {a b : Int} (h : a = b) : Ending.returned (.int k a) = .returned (.int k b) := by rw [h]

theorem implMin (a b : Int) (w : World) : Calls Tryz.prog 111 #[.int .i64 a, .int .i64 b] w fun e w' => e = .returned (.int .i64 (mn a b)) ∧ w = w' := by
  by_cases h : b < a
  all_goals
    go_enter Tryz.func111, Tryz.ntmps111
    go_wp2
    go_ret
    exact ⟨ret_int (by unfold mn; split <;> omega), rfl⟩

theorem implMax (a b : Int) (w : World) : Calls Tryz.prog 211 #[.int .i64 a, .int .i64 b] w fun e w' => e = .returned (.int .i64 (mx a b)) ∧ w = w' := by
  by_cases h : a < b
  all_goals
    go_enter Tryz.func211, Tryz.ntmps211
    go_wp2
    go_ret
    exact ⟨ret_int (by unfold mx; split <;> omega), rfl⟩

theorem l1In (n l h : Int) (w : World) : Calls Tryz.prog 78 #[.int .i64 n, .int .i64 l, .int .i64 h] w fun e w' => e = .returned (.bool (inr n l h)) ∧ w = w' := by
  by_cases h1 : l ≤ n
  all_goals
    by_cases h2 : n ≤ h
    all_goals
      go_enter Tryz.func78, Tryz.ntmps78
      go_wp2
      go_ret
      exact ⟨by simp [inr, h1, h2], rfl⟩

theorem implInRange (n l h : Int) (w : World) : Calls Tryz.prog 151 #[.int .i64 n, .int .i64 l, .int .i64 h] w fun e w' => e = .returned (.bool (inr n l h)) ∧ w = w' := by
  by_cases h1 : l ≤ n
  all_goals
    by_cases h2 : n ≤ h
    all_goals
      go_enter Tryz.func151, Tryz.ntmps151
      go_wp2
      go_ret
      exact ⟨by simp [inr, h1, h2], rfl⟩

end Go.Proofs.YtbgffmiffmmohaaGreatDoor.nums

/-
  What the project's ParseInt and ParseSigned return: the number whose decimal numeral the text is, if there is one in range, and else 0 and false.
  Conditions: the text has at most 2^48 bytes; the library's table of powers of ten and its two errors hold what its text lays.
-/
namespace Go.Proofs.YtbgffmiffmmohaaGreatDoor.prs
open Go.ChangeShapes Go.WideShapes Go.ChangeAt Go.RowKit Go.Sort Go.Lib
set_option linter.unusedVariables false

/-- What the library's reading wants of the world. -/
def Env (w : World) : Prop := fmt.Tab w ∧ (∃ tp p, w.var? Tryz.prog "strconv.ErrSyntax" = some #[.iface tp p]) ∧ (∃ tp p, w.var? Tryz.prog "strconv.ErrRange" = some #[.iface tp p])
theorem gES : Tryz.prog.globalNamed "strconv.ErrSyntax" = some 0 := by kernel_rfl
theorem gER : Tryz.prog.globalNamed "strconv.ErrRange" = some 1 := by kernel_rfl
theorem Env.stays {w w' : World} (h : Env w) (hb : RowKit.Below w.heap.size w w') : Env w' := by
  obtain ⟨h1, ⟨t2, p2, h2⟩, ⟨t3, p3, h3⟩⟩ := h
  exact ⟨h1.stays hb, ⟨t2, p2, Joins.var_stays gES h2 hb (Nat.le_refl _)⟩, ⟨t3, p3, Joins.var_stays gER h3 hb (Nat.le_refl _)⟩⟩

def two (x : Int × Bool) : Value := .tuple #[.int .i64 x.1, .bool x.2]

theorem libAtoi_ok (s : ByteArray) (hl : s.size ≤ 281474976710656) (v : Int) (h : Lib.atoiAll s.data.toList = .ok v) (w : World) :
    Calls Tryz.prog 227 #[.string s] w fun e w' => e = .returned (.tuple #[.int .i64 v, .nilIface]) ∧ RowKit.Below w.heap.size w w' :=
  (Tryz.strconv_Atoi_ok s (by omega) v h w).mono fun e w' ⟨he, hw⟩ => ⟨he, by
    rcases hw with rfl | ⟨t, rfl⟩
    · exact RowKit.Below.refl _ _
    · exact Lib.bytesWorld_below _ _ _⟩

theorem libAtoi_bad (s : ByteArray) (hl : s.size ≤ 281474976710656) (h : ∀ v, Lib.atoiAll s.data.toList ≠ .ok v) (w : World) (hE : Env w) :
    Calls Tryz.prog 227 #[.string s] w fun e w' => ∃ (n : Int) (N : Nat), e = .returned (.tuple #[.int .i64 n, .iface 262 (.pointer (some ⟨N, 0, none⟩))]) ∧ RowKit.Below w.heap.size w w' := by
  obtain ⟨_, ⟨t2, p2, h2⟩, ⟨t3, p3, h3⟩⟩ := hE
  by_cases hr : Lib.atoiAll s.data.toList = .range
  · exact (Tryz.strconv_Atoi_range_var s hl hr t3 p3 w h3).mono fun e w' ⟨N, he, _, _, hb⟩ => ⟨_, N, he, hb⟩
  · exact (Tryz.strconv_Atoi_syntax_var s hl (fun e he => ⟨fun hh => hr (he.trans hh), fun v hh => h v (he.trans hh)⟩) t2 p2 w h2).mono fun e w' ⟨N, he, _, _, hb⟩ => ⟨_, N, he, hb⟩

theorem within (s : ByteArray) (low high : Int) (hl : s.size ≤ 281474976710656) (w : World) (hE : Env w) :
    Calls Tryz.prog 207 #[.string s, .int .i64 low, .int .i64 high] w fun e w' => e = .returned (two (dec.pr low high s.data.toList)) ∧ RowKit.Below w.heap.size w w' := by
  have HE := Lib.hid hE; clear hE
  by_cases hv : ∃ v, Lib.atoiAll s.data.toList = .ok v
  · obtain ⟨v, hv⟩ := hv
    obtain ⟨v0, v1⟩ := Lib.atoiAll_bounds hv
    have hpr : dec.pr low high s.data.toList = if Lib.itoa v = s.data.toList ∧ low ≤ v ∧ v ≤ high then (v, true) else (0, false) := by unfold dec.pr; rw [hv]
    have HV := Lib.hid hv; clear hv
    by_cases hs : Lib.itoa v = s.data.toList
    · have hn : fmt.num v = .string s := by unfold fmt.num; rw [hs, Joins.bytes_eta]
      by_cases hr : nums.inr v low high = true
      · have hp : dec.pr low high s.data.toList = (v, true) := by rw [hpr, if_pos]; unfold nums.inr at hr; simp at hr; exact ⟨hs, hr.1, hr.2⟩
        have HP := Lib.hid hp; have HN := Lib.hid hn; have HR := Lib.hid hr; clear hp hn hr hpr hs
        go_enter Tryz.func207, Tryz.ntmps207
        go_wp2_with (first | (go_at_call 227; refine (libAtoi_ok s hl v HV.out _).mono ?_; rintro e w1 ⟨rfl, hb1⟩) | (go_at_call 228; refine (fmt.implFormat v v0 v1 _ (HE.out.stays hb1).1).mono ?_; rintro e w2 ⟨rfl, hb2⟩; rw [HN.out]) | (go_at_call 151; refine (nums.implInRange _ _ _ _).mono ?_; rintro e w3 ⟨rfl, rfl⟩; rw [HR.out]))
        go_ret2
        exact ⟨by rw [HP.out]; rfl, hb1.trans (hb2.mono hb1.size)⟩
      · have hr' : nums.inr v low high = false := by simpa using hr
        have hp : dec.pr low high s.data.toList = (0, false) := by rw [hpr, if_neg]; unfold nums.inr at hr; simp at hr; intro hh; have := hr hh.2.1; omega
        have HP := Lib.hid hp; have HN := Lib.hid hn; have HR := Lib.hid hr'; clear hp hn hr hr' hpr hs
        go_enter Tryz.func207, Tryz.ntmps207
        go_wp2_with (first | (go_at_call 227; refine (libAtoi_ok s hl v HV.out _).mono ?_; rintro e w1 ⟨rfl, hb1⟩) | (go_at_call 228; refine (fmt.implFormat v v0 v1 _ (HE.out.stays hb1).1).mono ?_; rintro e w2 ⟨rfl, hb2⟩; rw [HN.out]) | (go_at_call 151; refine (nums.implInRange _ _ _ _).mono ?_; rintro e w3 ⟨rfl, rfl⟩; rw [HR.out]))
        go_ret2
        exact ⟨by rw [HP.out]; rfl, hb1.trans (hb2.mono hb1.size)⟩
    · have hp : dec.pr low high s.data.toList = (0, false) := by rw [hpr, if_neg]; exact fun hh => hs hh.1
      obtain ⟨b, hn, hbs⟩ : ∃ b, fmt.num v = .string b ∧ b ≠ s := ⟨_, rfl, fun hh => hs (by rw [← hh])⟩
      have hbs1 : ¬ b.toList = s.toList := fun hh => hbs (by rw [ByteArray.toList_eq, ByteArray.toList_eq] at hh; exact Go.WideShapes.bytes_inj hh)
      have HP := Lib.hid hp; have HN := Lib.hid hn; clear hp hn hpr hs hbs
      go_enter Tryz.func207, Tryz.ntmps207
      go_wp2_with (first | (go_at_call 227; refine (libAtoi_ok s hl v HV.out _).mono ?_; rintro e w1 ⟨rfl, hb1⟩) | (go_at_call 228; refine (fmt.implFormat v v0 v1 _ (HE.out.stays hb1).1).mono ?_; rintro e w2 ⟨rfl, hb2⟩; rw [HN.out]))
      go_ret2
      exact ⟨by rw [HP.out]; rfl, hb1.trans (hb2.mono hb1.size)⟩
  · have hp : dec.pr low high s.data.toList = (0, false) := by
      unfold dec.pr
      split
      · rename_i n hn
        exact absurd ⟨n, hn⟩ hv
      · rfl
    have hv' : ∀ v, Lib.atoiAll s.data.toList ≠ .ok v := fun v hh => hv ⟨v, hh⟩
    have HP := Lib.hid hp; have HV := Lib.hid hv'; clear hp hv hv'
    go_enter Tryz.func207, Tryz.ntmps207
    go_wp2_with (first | (go_at_call 227; refine (libAtoi_bad s hl HV.out _ HE.out).mono ?_; rintro e w1 ⟨n, N, rfl, hb1⟩))
    go_ret2
    exact ⟨by rw [HP.out]; rfl, hb1⟩

end Go.Proofs.YtbgffmiffmmohaaGreatDoor.prs

/-
  What the model's ParseInt and ParseSigned return: the same numbers as the project's.
  Conditions: the text has at most 2^48 bytes.
-/
namespace Go.Proofs.YtbgffmiffmmohaaGreatDoor.prs
open Go.ChangeShapes Go.WideShapes Go.ChangeAt Go.RowKit Go.Sort Go.Lib
set_option linter.unusedVariables false


theorem implParseSigned (s : ByteArray) (hl : s.size ≤ 281474976710656) (w : World) (hE : Env w) :
    Calls Tryz.prog 155 #[.string s] w fun e w' => e = .returned (two (dec.pr (-1000000000) 1000000000 s.data.toList)) ∧ RowKit.Below w.heap.size w w' := by
  have HE := Lib.hid hE; clear hE
  generalize hp : dec.pr (-1000000000) 1000000000 s.data.toList = x
  have HP := Lib.hid hp; clear hp
  obtain ⟨x1, x2⟩ := x
  go_enter Tryz.func155, Tryz.ntmps155
  go_wp2_with (go_at_call 207; refine (within s (-1000000000) 1000000000 hl _ HE.out).mono ?_; rintro e w1 ⟨rfl, hb1⟩; rw [HP.out]; unfold two)
  go_ret2
  exact ⟨rfl, hb1⟩

theorem val_lt : ∀ (l : List UInt8) (a : Nat), (∀ b ∈ l, dec.isDig b) → dec.valFrom a l < (a + 1) * 10 ^ l.length
  | [], a, _ => by rw [dec.valFrom_nil]; simp
  | b :: l, a, h => by
    have hb : dec.isDig b := h b List.mem_cons_self
    unfold dec.isDig at hb
    have ih := val_lt l (10 * a + (b.toNat - 48)) (fun x hx => h x (List.mem_cons_of_mem _ hx))
    rw [dec.valFrom_cons]
    have e : (10 * a + (b.toNat - 48) + 1) * 10 ^ l.length ≤ (10 * (a + 1)) * 10 ^ l.length := Nat.mul_le_mul_right _ (by omega)
    have e2 : (10 * (a + 1)) * 10 ^ l.length = (a + 1) * 10 ^ (l.length + 1) := by rw [Nat.pow_succ, Nat.mul_comm 10 (a + 1), Nat.mul_assoc, Nat.mul_comm 10]
    rw [List.length_cons]
    omega

theorem val_small {l : List UInt8} (h : ∀ b ∈ l, dec.isDig b) (hl : l.length ≤ 13) : dec.val l < 10000000000000 := by
  have h1 := val_lt l 0 h
  have h2 : 10 ^ l.length ≤ 10 ^ 13 := Nat.pow_le_pow_right (by omega) hl
  have h3 : (10 : Nat) ^ 13 = 10000000000000 := by decide
  unfold dec.val
  omega

/-- After k bytes, all of them digits, the number is u. -/
def Sofar (l : List UInt8) (k u : Nat) : Prop := (∀ b ∈ l.take k, dec.isDig b) ∧ u = dec.val (l.take k)
theorem Sofar.start (l : List UInt8) : Sofar l 0 0 := ⟨by simp, by simp [dec.val, dec.valFrom_nil]⟩
theorem size_eq (s : ByteArray) : s.data.toList.length = s.size := Array.length_toList
theorem Sofar.step {s : ByteArray} {k u : Nat} (h : Sofar s.data.toList k u) (hk : k < s.size) (hd : dec.isDig s[k]) : Sofar s.data.toList (k + 1) (10 * u + (s[k].toNat - 48)) := by
  have e : s.data.toList.take (k + 1) = s.data.toList.take k ++ [s[k]] := by
    rw [List.take_succ_eq_append_getElem (by rw [size_eq]; exact hk)]; rfl
  unfold Sofar
  rw [e]
  refine ⟨fun b hb => ?_, by rw [dec.val_snoc, h.2]⟩
  rcases List.mem_append.1 hb with hb | hb
  · exact h.1 b hb
  · simp only [List.mem_singleton] at hb
    rw [hb]
    exact hd
theorem mem_at {s : ByteArray} {k : Nat} (hk : k < s.size) : s[k] ∈ s.data.toList := by
  have h : s.data.toList[k]'(by rw [size_eq]; exact hk) ∈ s.data.toList := List.getElem_mem _
  exact h
theorem Sofar.all {s : ByteArray} {u : Nat} (h : Sofar s.data.toList s.size u) : (∀ b ∈ s.data.toList, dec.isDig b) ∧ u = dec.val s.data.toList := by
  unfold Sofar at h
  rw [List.take_of_length_le (by rw [size_eq]; omega)] at h
  exact h
theorem Sofar.small {l : List UInt8} {k u : Nat} (h : Sofar l k u) (hk : k ≤ 13) : u < 10000000000000 := by
  rw [h.2]
  exact val_small h.1 (by rw [List.length_take]; omega)

theorem specParse (s : ByteArray) (hl : s.size ≤ 281474976710656) (w : World) :
    Calls Tryz.prog 165 #[.string s] w fun e w' => e = .returned (two (dec.pr 0 1000000000000 s.data.toList)) ∧ RowKit.Below w.heap.size w w' := by
  rw [← dec.sp_eq]
  have hsz : s.data.toList.length = s.size := Array.length_toList
  by_cases hr : nums.inr (s.size : Int) 1 13 = true
  · have hr1 : 1 ≤ s.size ∧ s.size ≤ 13 := by unfold nums.inr at hr; simp at hr; omega
    have HR := Lib.hid hr; clear hr
    have HZ := Lib.hid hsz; clear hsz
    obtain ⟨hr1, hr2⟩ := hr1
    go_enter Tryz.func165, Tryz.ntmps165
    go_wp2_with (go_at_call 78; refine (nums.l1In _ _ _ _).mono ?_; rintro e w1 ⟨rfl, rfl⟩; rw [HR.out])
    go_loop [4, 5] (fun n i => ∃ (k u : Nat) (x : Int), k ≤ s.size ∧ i = .int .i64 k ∧ Sofar s.data.toList k u ∧ 0 ≤ x ∧ x < 10000000000000 ∧ Hid (x = (u : Int)) ∧ n = .int .i64 x) (fun _ i => s.size - (RowKit.intOf i).toNat)
    case atStart => exact ⟨0, 0, 0, by omega, rfl, Sofar.start _, by omega, by omega, rfl, rfl⟩
    case round =>
      obtain ⟨k, u, x, hk, rfl, hS, hx0, hx1, HX, rfl⟩ := hrel
      by_cases hlt : k < s.size
      · have hb0 : (0 : Int) ≤ (s[k].toNat : Int) := by omega
        have hb9 : (s[k].toNat : Int) ≤ 255 := by have := s[k].toNat_lt; omega
        by_cases hd : dec.isDig s[k]
        · have hd' := hd
          unfold dec.isDig at hd'
          obtain ⟨d1, d2⟩ := hd'
          have D1 : (48 : Int) ≤ (s[k].toNat : Int) := by omega
          have D2 : (s[k].toNat : Int) ≤ 57 := by omega
          have hin : nums.inr (s[k].toNat : Int) 48 57 = true := by unfold nums.inr; simp; omega
          have hS' := hS.step hlt hd
          have hu' := hS'.small (by omega)
          have HS := Lib.hid hS'; have HIN := Lib.hid hin; clear hS hS' hin hd
          go_wp2_with (go_at_call 78; refine (nums.l1In _ _ _ _).mono ?_; rintro e w1 ⟨rfl, rfl⟩; rw [HIN.out])
          exact ⟨⟨k + 1, 10 * u + (s[k].toNat - 48), 10 * x + ((s[k].toNat : Int) - 48), by omega, by go_num, HS.out, by omega, by have := HX.out; omega, by have := HX.out; show _ = _; omega, rfl⟩, by simp only [RowKit.intOf]; omega⟩
        · have hin : nums.inr (s[k].toNat : Int) 48 57 = false := by unfold dec.isDig at hd; unfold nums.inr; simp; omega
          have hsp : dec.sp s.data.toList = (0, false) := by
            unfold dec.sp
            rw [if_neg]
            exact fun hh => hd (hh.2.2.1 _ (mem_at hlt))
          have HSP := Lib.hid hsp; have HIN := Lib.hid hin; clear hS hin hd hsp
          go_wp2_with (go_at_call 78; refine (nums.l1In _ _ _ _).mono ?_; rintro e w1 ⟨rfl, rfl⟩; rw [HIN.out])
          go_ret2
          exact ⟨by rw [HSP.out]; rfl, RowKit.Below.refl _ _⟩
      · obtain rfl : k = s.size := by omega
        obtain ⟨ha, hv⟩ := hS.all
        have hz := HZ.out
        have hx := HX.out
        by_cases hm : 1000000000000 < x
        · have hsp : dec.sp s.data.toList = (0, false) := by
            unfold dec.sp
            rw [if_neg]
            exact fun hh => by have := hh.2.2.2.1; omega
          have HSP := Lib.hid hsp; clear hsp ha hv hz hS hx
          go_wp2
          go_ret2
          exact ⟨by rw [HSP.out]; rfl, RowKit.Below.refl _ _⟩
        · by_cases hi : Lib.itoa (u : Int) = s.data.toList
          · have hn : fmt.num x = .string s := by unfold fmt.num; rw [hx, hi, Joins.bytes_eta]
            have hsp : dec.sp s.data.toList = (x, true) := by
              unfold dec.sp
              rw [if_pos, hx, hv]
              exact ⟨by omega, by omega, ha, by omega, by rw [← hv]; exact hi⟩
            have HSP := Lib.hid hsp; have HN := Lib.hid hn; clear hsp ha hv hz hS hi hn hx
            go_wp2_with (go_at_call 212; refine (fmt.specFormat _ (by omega) (by omega) _).mono ?_; rintro e w2 ⟨rfl, hb2⟩; rw [HN.out])
            go_ret2
            exact ⟨by rw [HSP.out]; rfl, hb2⟩
          · have hsp : dec.sp s.data.toList = (0, false) := by
              unfold dec.sp
              rw [if_neg]
              exact fun hh => hi (by rw [hv]; exact hh.2.2.2.2)
            obtain ⟨b, hn, hbs⟩ : ∃ b, fmt.num x = .string b ∧ b ≠ s := ⟨_, rfl, fun hh => hi (by rw [← hh, hx])⟩
            have hbs1 : ¬ b.toList = s.toList := fun hh => hbs (by rw [ByteArray.toList_eq, ByteArray.toList_eq] at hh; exact Go.WideShapes.bytes_inj hh)
            have hbs2 : (b.toList == s.toList) = false := by rw [beq_eq_false_iff_ne]; exact hbs1
            have HSP := Lib.hid hsp; have HN := Lib.hid hn; clear hsp ha hv hz hS hi hn hbs hx
            go_wp2_with (go_at_call 212; refine (fmt.specFormat _ (by omega) (by omega) _).mono ?_; rintro e w2 ⟨rfl, hb2⟩; rw [HN.out])
            go_ret2
            exact ⟨by rw [HSP.out]; rfl, hb2⟩
  · have hr' : nums.inr (s.size : Int) 1 13 = false := by simpa using hr
    have hsp : dec.sp s.data.toList = (0, false) := by
      unfold dec.sp
      rw [if_neg]
      intro hh
      apply hr
      unfold nums.inr
      simp
      omega
    have HSP := Lib.hid hsp; have HR := Lib.hid hr'; clear hr hr' hsp
    go_enter Tryz.func165, Tryz.ntmps165
    go_wp2_with (go_at_call 78; refine (nums.l1In _ _ _ _).mono ?_; rintro e w1 ⟨rfl, rfl⟩; rw [HR.out])
    go_ret2
    exact ⟨by rw [HSP.out]; rfl, RowKit.Below.refl _ _⟩

theorem tail_eq (s : ByteArray) : (s.extract 1 s.size).data.toList = s.data.toList.tail := by
  rw [Lib.extract_to_end]
  exact List.drop_one

theorem specParseSigned (s : ByteArray) (hl : s.size ≤ 281474976710656) (w : World) :
    Calls Tryz.prog 81 #[.string s] w fun e w' => e = .returned (two (dec.pr (-1000000000) 1000000000 s.data.toList)) ∧ RowKit.Below w.heap.size w w' := by
  rw [← dec.sps_eq]
  have hsz := size_eq s
  by_cases hneg : s.data.toList.head? = some 45
  · have h0 : 0 < s.size := by
      rcases Nat.eq_zero_or_pos s.size with h | h
      · have : s.data.toList = [] := List.eq_nil_of_length_eq_zero (by omega)
        rw [this] at hneg
        cases hneg
      · exact h
    have h45 : s[0] = 45 := by
      have : s.data.toList.head? = some s[0] := by
        rw [List.head?_eq_getElem?, List.getElem?_eq_getElem (by omega)]
        rfl
      rw [this] at hneg
      injection hneg
    have hps : dec.sps s.data.toList = if (dec.sp s.data.toList.tail).2 = true ∧ (dec.sp s.data.toList.tail).1 ≤ 1000000000 ∧ (dec.sp s.data.toList.tail).1 ≠ 0 then (-(dec.sp s.data.toList.tail).1, true) else (0, false) := by
      unfold dec.sps
      rw [if_pos hneg]
    have hb := dec.pr_true (low := 0) (high := 1000000000000) (l := s.data.toList.tail)
    rw [dec.sp_eq] at hps
    rw [← tail_eq] at hps hb
    have hes : (s.extract 1 s.size).size ≤ 281474976710656 := by rw [ByteArray.size_extract]; omega
    generalize hx : dec.pr 0 1000000000000 (s.extract 1 s.size).data.toList = x at hps hb
    obtain ⟨n, ok⟩ := x
    have HX := Lib.hid hx; have HES := Lib.hid hes; clear hx hes hneg hsz
    cases ok
    · rw [if_neg (fun hh => by cases hh.1)] at hps
      have HP := Lib.hid hps; clear hps hb
      go_enter Tryz.func81, Tryz.ntmps81
      go_wp2_with (go_at_call 165; refine (specParse _ HES.out _).mono ?_; rintro e w1 ⟨rfl, hb1⟩; rw [HX.out]; unfold two)
      go_ret2
      exact ⟨by rw [HP.out]; rfl, hb1⟩
    · obtain ⟨_, b1, b2⟩ := hb rfl
      simp only at b1 b2
      by_cases hm : n ≤ 1000000000
      · by_cases hz : n = 0
        · subst hz
          rw [if_neg (fun hh => hh.2.2 rfl)] at hps
          have HP := Lib.hid hps; clear hps hb
          go_enter Tryz.func81, Tryz.ntmps81
          go_wp2_with (go_at_call 165; refine (specParse _ HES.out _).mono ?_; rintro e w1 ⟨rfl, hb1⟩; rw [HX.out]; unfold two)
          go_ret2
          exact ⟨by rw [HP.out]; rfl, hb1⟩
        · rw [if_pos ⟨rfl, hm, hz⟩] at hps
          have hz1 : (n == 0) = false := by rw [beq_eq_false_iff_ne]; exact hz
          have HP := Lib.hid hps; clear hps hb
          go_enter Tryz.func81, Tryz.ntmps81
          go_wp2_with (go_at_call 165; refine (specParse _ HES.out _).mono ?_; rintro e w1 ⟨rfl, hb1⟩; rw [HX.out]; unfold two)
          go_ret2
          exact ⟨by rw [HP.out]; rfl, hb1⟩
      · rw [if_neg (fun hh => hm hh.2.1)] at hps
        have HP := Lib.hid hps; clear hps hb
        go_enter Tryz.func81, Tryz.ntmps81
        go_wp2_with (go_at_call 165; refine (specParse _ HES.out _).mono ?_; rintro e w1 ⟨rfl, hb1⟩; rw [HX.out]; unfold two)
        go_ret2
        exact ⟨by rw [HP.out]; rfl, hb1⟩
  · have hps : dec.sps s.data.toList = if (dec.sp s.data.toList).2 = true ∧ (dec.sp s.data.toList).1 ≤ 1000000000 then ((dec.sp s.data.toList).1, true) else (0, false) := by
      unfold dec.sps
      rw [if_neg hneg]
    have hb := dec.pr_true (low := 0) (high := 1000000000000) (l := s.data.toList)
    rw [dec.sp_eq] at hps
    generalize hx : dec.pr 0 1000000000000 s.data.toList = x at hps hb
    obtain ⟨n, ok⟩ := x
    have HX := Lib.hid hx; clear hx
    by_cases h0 : 0 < s.size
    · have h45 : s[0] ≠ 45 := by
        intro h
        apply hneg
        rw [List.head?_eq_getElem?, List.getElem?_eq_getElem (by omega)]
        exact congrArg some h
      have h46 : ((s[0].toNat : Int) == 45) = false := by
        rw [beq_eq_false_iff_ne]
        intro h
        apply h45
        apply UInt8.toNat_inj.1
        have : (45 : UInt8).toNat = 45 := rfl
        omega
      clear hneg hsz h45
      cases ok
      · rw [if_neg (fun hh => by cases hh.1)] at hps
        have HP := Lib.hid hps; clear hps hb
        go_enter Tryz.func81, Tryz.ntmps81
        go_wp2_with (go_at_call 165; refine (specParse _ hl _).mono ?_; rintro e w1 ⟨rfl, hb1⟩; rw [HX.out]; unfold two)
        go_ret2
        exact ⟨by rw [HP.out]; rfl, hb1⟩
      · obtain ⟨_, b1, b2⟩ := hb rfl
        simp only at b1 b2
        by_cases hm : n ≤ 1000000000
        · rw [if_pos ⟨rfl, hm⟩] at hps
          have HP := Lib.hid hps; clear hps hb
          go_enter Tryz.func81, Tryz.ntmps81
          go_wp2_with (go_at_call 165; refine (specParse _ hl _).mono ?_; rintro e w1 ⟨rfl, hb1⟩; rw [HX.out]; unfold two)
          go_ret2
          exact ⟨by rw [HP.out]; rfl, hb1⟩
        · rw [if_neg (fun hh => hm hh.2)] at hps
          have HP := Lib.hid hps; clear hps hb
          go_enter Tryz.func81, Tryz.ntmps81
          go_wp2_with (go_at_call 165; refine (specParse _ hl _).mono ?_; rintro e w1 ⟨rfl, hb1⟩; rw [HX.out]; unfold two)
          go_ret2
          exact ⟨by rw [HP.out]; rfl, hb1⟩
    · have hsz0 : (s.size : Int) ≤ 0 := by omega
      clear hneg hsz
      cases ok
      · rw [if_neg (fun hh => by cases hh.1)] at hps
        have HP := Lib.hid hps; clear hps hb
        go_enter Tryz.func81, Tryz.ntmps81
        go_wp2_with (go_at_call 165; refine (specParse _ hl _).mono ?_; rintro e w1 ⟨rfl, hb1⟩; rw [HX.out]; unfold two)
        go_ret2
        exact ⟨by rw [HP.out]; rfl, hb1⟩
      · obtain ⟨_, b1, b2⟩ := hb rfl
        simp only at b1 b2
        by_cases hm : n ≤ 1000000000
        · rw [if_pos ⟨rfl, hm⟩] at hps
          have HP := Lib.hid hps; clear hps hb
          go_enter Tryz.func81, Tryz.ntmps81
          go_wp2_with (go_at_call 165; refine (specParse _ hl _).mono ?_; rintro e w1 ⟨rfl, hb1⟩; rw [HX.out]; unfold two)
          go_ret2
          exact ⟨by rw [HP.out]; rfl, hb1⟩
        · rw [if_neg (fun hh => hm hh.2)] at hps
          have HP := Lib.hid hps; clear hps hb
          go_enter Tryz.func81, Tryz.ntmps81
          go_wp2_with (go_at_call 165; refine (specParse _ hl _).mono ?_; rintro e w1 ⟨rfl, hb1⟩; rw [HX.out]; unfold two)
          go_ret2
          exact ⟨by rw [HP.out]; rfl, hb1⟩

end Go.Proofs.YtbgffmiffmmohaaGreatDoor.prs

/-
  Plain facts on digests, without the program: how one number is folded into a digest, and a list of them.
  Conditions: those that each theorem names.
-/
namespace Go.Proofs.YtbgffmiffmmohaaGreatDoor.dig
set_option linter.unusedVariables false

/-- A digest after one number more. -/
def step (d v : Int) : Int := (d * 1000003 + v % 2147483647 + 13) % 2147483647
def fold (d : Int) (l : List Int) : Int := l.foldl step d
def In (d : Int) : Prop := 0 ≤ d ∧ d ≤ 2147483646

theorem step_in (d v : Int) : In (step d v) := by unfold step In; omega
theorem fold_nil (d : Int) : fold d [] = d := rfl
theorem fold_cons (d v : Int) (l : List Int) : fold d (v :: l) = fold (step d v) l := rfl
theorem fold_app (d : Int) (a b : List Int) : fold d (a ++ b) = fold (fold d a) b := List.foldl_append
theorem fold_one (d v : Int) : fold d [v] = step d v := rfl
theorem fold_in {d : Int} (h : In d) : ∀ l : List Int, In (fold d l) := fun l => by
  induction l generalizing d with
  | nil => exact h
  | cons v l ih => exact ih (step_in d v)
theorem in11 : In 11 := by unfold In; omega
theorem fold_take {l : List Int} {k : Nat} {v : Int} (d : Int) (h : l[k]? = some v) : fold d (l.take (k + 1)) = step (fold d (l.take k)) v := by
  obtain ⟨hk, e⟩ := List.getElem?_eq_some_iff.1 h
  rw [List.take_succ_eq_append_getElem hk, fold_app, e]
  rfl
theorem fold_all {l : List Int} {k : Nat} (d : Int) (h : l.length ≤ k) : fold d (l.take k) = fold d l := by rw [List.take_of_length_le h]
theorem step_byte (d v : Int) (h0 : 0 ≤ v) (h1 : v ≤ 255) : (d * 1000003 + v + 13) % 2147483647 = step d v := by
  unfold step
  rw [show v % 2147483647 = v by omega]
theorem step5 (d : Int) : step d 5 = (d * 1000003 + 18) % 2147483647 := by
  unfold step
  rw [show d * 1000003 + 5 % 2147483647 + 13 = d * 1000003 + 18 by omega]

end Go.Proofs.YtbgffmiffmmohaaGreatDoor.dig

/-
  What Mod and InRange of the project and of the model, and the model's own range test, return at every integer; they change nothing.
  Conditions: none but that arguments are of Go's type int.
-/
namespace Go.Proofs.YtbgffmiffmmohaaGreatDoor.mdl
open Go.ChangeShapes Go.WideShapes Go.ChangeAt Go.RowKit
set_option linter.unusedVariables false

def inr (n l h : Int) : Bool := decide (l ≤ n) && decide (n ≤ h)
theorem inr_of {n l h : Int} (h0 : l ≤ n) (h1 : n ≤ h) : inr n l h = true := by unfold inr; simp; omega
theorem inr_not {n l h : Int} (hh : ¬ (l ≤ n ∧ n ≤ h)) : inr n l h = false := by unfold inr; simp; omega

theorem ret_int {k : IntKind} {a b : Int} (h : a = b) : Ending.returned (.int k a) = .returned (.int k b) := by rw [h]

theorem l1In (n l h : Int) (w : World) : Calls Tryz.prog 78 #[.int .i64 n, .int .i64 l, .int .i64 h] w fun e w' => e = .returned (.bool (inr n l h)) ∧ w = w' := by
  by_cases h1 : l ≤ n
  all_goals
    by_cases h2 : n ≤ h
    all_goals
      go_enter Tryz.func78, Tryz.ntmps78
      go_wp2
      go_ret
      exact ⟨by simp [inr, h1, h2], rfl⟩

theorem implInRange (n l h : Int) (w : World) : Calls Tryz.prog 151 #[.int .i64 n, .int .i64 l, .int .i64 h] w fun e w' => e = .returned (.bool (inr n l h)) ∧ w = w' := by
  by_cases h1 : l ≤ n
  all_goals
    by_cases h2 : n ≤ h
    all_goals
      go_enter Tryz.func151, Tryz.ntmps151
      go_wp2
      go_ret
      exact ⟨by simp [inr, h1, h2], rfl⟩

theorem tm_bd (n m : Int) (h : 1 ≤ m) : -m < n.tmod m ∧ n.tmod m < m ∧ (n.tmod m + m) % m = n % m ∧ (n.tmod m < 0 → n.tmod m + m = n % m) ∧ (0 ≤ n.tmod m → n.tmod m = n % m) := by
  have e1 := Int.emod_nonneg n (b := m) (by omega)
  have e2 := Int.emod_lt_of_pos n (b := m) (by omega)
  have e3 : (n % m + m) % m = n % m := by rw [Int.add_emod_right, Int.emod_emod]
  have e4 : n % m % m = n % m := Int.emod_emod _ _
  rw [Int.tmod_eq_emod]
  split
  · have z : n % m - ((0 : Nat) : Int) = n % m := by omega
    rw [z]; exact ⟨by omega, by omega, e3, by omega, by omega⟩
  · rename_i hn
    have h0 : n % m ≠ 0 := fun hh => hn (Or.inr (Int.dvd_of_emod_eq_zero hh))
    have h1 : (m.natAbs : Int) = m := by omega
    rw [h1]
    have e5 : n % m - m + m = n % m := by omega
    rw [e5]
    exact ⟨by omega, by omega, e4, by omega, by omega⟩

def md (n m : Int) : Int := if inr m 1 1000000000000 = true then n % m else 0

theorem specMod (n m : Int) (w : World) : Calls Tryz.prog 164 #[.int .i64 n, .int .i64 m] w fun e w' => e = .returned (.int .i64 (md n m)) ∧ w = w' := by
  by_cases h : inr m 1 1000000000000 = true
  · have h1 : 1 ≤ m := by simp [inr] at h; omega
    have h2 : m ≤ 1000000000000 := by simp [inr] at h; omega
    obtain ⟨b1, b2, b3, b4, b5⟩ := tm_bd n m h1
    have B3 := Lib.hid b3; clear b3
    have B4 := Lib.hid b4; clear b4
    have B5 := Lib.hid b5; clear b5
    go_enter Tryz.func164, Tryz.ntmps164
    go_wp2_with (first | (go_at_call 78; refine (l1In _ _ _ _).mono ?_; rintro e w' ⟨rfl, rfl⟩))
    go_ret
    exact ⟨ret_int (by unfold md; rw [if_pos h]; exact B3.out), rfl⟩
  · go_enter Tryz.func164, Tryz.ntmps164
    go_wp2_with (first | (go_at_call 78; refine (l1In _ _ _ _).mono ?_; rintro e w' ⟨rfl, rfl⟩))
    go_ret
    exact ⟨ret_int (by unfold md; simp [h]), rfl⟩

theorem implMod (n m : Int) (w : World) : Calls Tryz.prog 230 #[.int .i64 n, .int .i64 m] w fun e w' => e = .returned (.int .i64 (md n m)) ∧ w = w' := by
  by_cases h : inr m 1 1000000000000 = true
  · have h1 : 1 ≤ m := by simp [inr] at h; omega
    have h2 : m ≤ 1000000000000 := by simp [inr] at h; omega
    obtain ⟨b1, b2, b3, b4, b5⟩ := tm_bd n m h1
    have B3 := Lib.hid b3; clear b3
    have B4 := Lib.hid b4; clear b4
    have B5 := Lib.hid b5; clear b5
    by_cases h0 : n.tmod m < 0
    all_goals
      go_enter Tryz.func230, Tryz.ntmps230
      go_wp2_with (first | (go_at_call 151; refine (implInRange _ _ _ _).mono ?_; rintro e w' ⟨rfl, rfl⟩))
      go_ret
      exact ⟨ret_int (by unfold md; rw [if_pos h]; first | exact B4.out h0 | exact B5.out (by omega)), rfl⟩
  · go_enter Tryz.func230, Tryz.ntmps230
    go_wp2_with (first | (go_at_call 151; refine (implInRange _ _ _ _).mono ?_; rintro e w' ⟨rfl, rfl⟩))
    go_ret
    exact ⟨ret_int (by unfold md; simp [h]), rfl⟩

theorem md_pos (n m : Int) (h0 : 1 ≤ m) (h1 : m ≤ 1000000000000) : md n m = n % m := by unfold md; rw [if_pos (inr_of h0 h1)]

end Go.Proofs.YtbgffmiffmmohaaGreatDoor.mdl

/-
  What the digests of a number and of the bytes of a text are, of the project and of the model.
  Conditions: slices have at most 2^44 numbers, texts at most 2^47 bytes.
-/
namespace Go.Proofs.YtbgffmiffmmohaaGreatDoor.hsh
open Go.ChangeShapes Go.WideShapes Go.ChangeAt Go.RowKit mem imem
set_option linter.unusedVariables false

theorem ret_int {k : IntKind} {a b : Int} (h : a = b) : Ending.returned (.int k a) = .returned (.int k b) := by rw [h]

theorem implMod31 (v : Int) (w : World) : Calls Tryz.prog 230 #[.int .i64 v, .int .i64 2147483647] w fun e w' => e = .returned (.int .i64 (v % 2147483647)) ∧ w = w' := by
  have h := mdl.implMod v 2147483647 w
  rwa [mdl.md_pos v 2147483647 (by omega) (by omega)] at h
theorem specMod31 (v : Int) (w : World) : Calls Tryz.prog 164 #[.int .i64 v, .int .i64 2147483647] w fun e w' => e = .returned (.int .i64 (v % 2147483647)) ∧ w = w' := by
  have h := mdl.specMod v 2147483647 w
  rwa [mdl.md_pos v 2147483647 (by omega) (by omega)] at h

theorem number (d v : Int) (hd : dig.In d) (w : World) :
    Calls Tryz.prog 257 #[.int .i64 d, .int .i64 v] w fun e w' => e = .returned (.int .i64 (dig.step d v)) ∧ w = w' := by
  obtain ⟨d0, d1⟩ := hd
  generalize hm : v % 2147483647 = m
  have m0 : 0 ≤ m := by omega
  have m1 : m ≤ 2147483646 := by omega
  have HM := Lib.hid hm; clear hm
  go_enter Tryz.func257, Tryz.ntmps257
  go_wp2_with (go_at_call 230; refine (implMod31 v _).mono ?_; rintro e w' ⟨rfl, rfl⟩; rw [HM.out])
  go_ret
  exact ⟨ret_int (by unfold dig.step; rw [HM.out]), rfl⟩

theorem txt_get (s : ByteArray) (k : Nat) (h : k < s.size) : (txt s)[k]? = some ((s[k]'h).toNat : Int) := by
  unfold txt
  rw [List.getElem?_map, List.getElem?_eq_getElem (by simpa using h)]
  rfl

theorem bytes (d : Int) (hd : dig.In d) (s : ByteArray) (hs : s.size ≤ 140737488355328) (w : World) :
    Calls Tryz.prog 253 #[.int .i64 d, .string s] w fun e w' => e = .returned (.int .i64 (dig.fold d (txt s))) ∧ w = w' := by
  have HD := Lib.hid hd; clear hd
  go_enter Tryz.func253, Tryz.ntmps253
  go_wp2
  go_loopg [0, 5, 8] s.size (fun gk x y i wr => ∃ (k : Nat) (z : Int), k ≤ s.size ∧ i = .int .i64 k ∧ x = .int .i64 z ∧ gk + k = s.size ∧ dig.fold d ((txt s).take k) = z ∧ dig.In z ∧ w = wr)
  case atStart => exact ⟨0, d, by omega, rfl, rfl, by omega, rfl, HD.out, rfl⟩
  case round =>
    obtain ⟨k, z, hkn, rfl, rfl, hk, hz, hzi, rfl⟩ := hrel
    have HZ := Lib.hid hz; have HI := Lib.hid hzi; have HK := Lib.hid hk; clear hz hzi hk
    by_cases hlt : k < s.size
    · have hv1 := (s[k]'hlt).toNat_lt
      have HT := Lib.hid (dig.fold_take d (txt_get s k hlt))
      go_wp2_with (go_at_call 257; refine (number z _ HI.out _).mono ?_; rintro e w' ⟨rfl, rfl⟩)
      go_roundg (s.size - (k + 1))
      case measure => have := HK.out; omega
      case rel => exact ⟨k + 1, _, by omega, by go_num, rfl, by have := HK.out; omega, by rw [HT.out, HZ.out], dig.step_in _ _, rfl⟩
    · have HT := Lib.hid (dig.fold_all (l := txt s) (k := k) d (by have := txt_len s; omega))
      go_wp2
      go_ret
      exact ⟨ret_int (by rw [← HZ.out, HT.out]), rfl⟩

theorem specText (s : ByteArray) (hs : s.size ≤ 140737488355328) (w : World) :
    Calls Tryz.prog 163 #[.string s] w fun e w' => e = .returned (.int .i64 (dig.fold 11 (txt s))) ∧ w = w' := by
  go_enter Tryz.func163, Tryz.ntmps163
  go_wp2
  go_loopg [3, 4] s.size (fun gk x i wr => ∃ (k : Nat) (z : Int), k ≤ s.size ∧ i = .int .i64 k ∧ x = .int .i64 z ∧ gk + k = s.size ∧ dig.fold 11 ((txt s).take k) = z ∧ 0 ≤ z ∧ z ≤ 2147483646 ∧ w = wr)
  case atStart => exact ⟨0, 11, by omega, rfl, rfl, by omega, rfl, by omega, by omega, rfl⟩
  case round =>
    obtain ⟨k, z, hkn, rfl, rfl, hk, hz, z0, z1, rfl⟩ := hrel
    have HZ := Lib.hid hz; have HK := Lib.hid hk; clear hz hk
    by_cases hlt : k < s.size
    · have hv1 := (s[k]'hlt).toNat_lt
      have HT := Lib.hid (dig.fold_take 11 (txt_get s k hlt))
      have HS := Lib.hid (dig.step_byte z ((s[k]'hlt).toNat : Int) (by omega) (by omega))
      have HI := Lib.hid (dig.step_in z ((s[k]'hlt).toNat : Int))
      go_wp2
      go_roundg (s.size - (k + 1))
      case measure => have := HK.out; omega
      case rel => exact ⟨k + 1, _, by omega, by go_num, rfl, by have := HK.out; omega, by rw [HT.out, HZ.out, HS.out], by rw [HS.out]; exact HI.out.1, by rw [HS.out]; exact HI.out.2, rfl⟩
    · have HT := Lib.hid (dig.fold_all (l := txt s) (k := k) 11 (by have := txt_len s; omega))
      go_wp2
      go_ret
      exact ⟨ret_int (by rw [← HZ.out, HT.out]), rfl⟩

end Go.Proofs.YtbgffmiffmmohaaGreatDoor.hsh

/-
  What HashText of the project returns: the fold of the text's bytes, though it goes from character to character.
  Conditions: the text has at most 2^47 bytes.
-/
namespace Go.Proofs.YtbgffmiffmmohaaGreatDoor.hsh
open Go.ChangeShapes Go.WideShapes Go.ChangeAt Go.RowKit mem imem
set_option linter.unusedVariables false

theorem width_pos (s : ByteArray) (pos : Nat) (h : pos < s.size) : 1 ≤ (Utf8.decode s pos).2 := by
  by_cases ha : (s[pos]'h).toNat < 128
  · rw [decode_ascii s pos h ha]; exact Nat.le_refl _
  · exact (decode_high s pos h (by omega)).2

theorem txt_extract (s : ByteArray) (i j : Nat) : txt (s.extract i j) = ((txt s).drop i).take (j - i) := by
  unfold txt
  rw [Lib.extract_eq, List.map_take, List.map_drop]
theorem extract_le (s : ByteArray) (i j : Nat) : (s.extract i j).size ≤ s.size := by
  have h1 := txt_len (s.extract i j)
  have h2 := txt_len s
  rw [txt_extract, List.length_take, List.length_drop] at h1
  omega
theorem fold_part (d : Int) (s : ByteArray) (i j : Nat) (h : i ≤ j) : dig.fold (dig.fold d ((txt s).take i)) (txt (s.extract i j)) = dig.fold d ((txt s).take j) := by
  rw [txt_extract, ← dig.fold_app, ← List.take_add, Nat.add_sub_cancel' h]

/-- A call that only makes memory. -/
def NumQ (w : World) (x : Int) (e : Ending) (w' : World) : Prop := e = .returned (.int .i64 x) ∧ Below w.heap.size w w'

theorem implText (s : ByteArray) (hs : s.size ≤ 140737488355328) (w : World) :
    Calls Tryz.prog 244 #[.string s] w (NumQ w (dig.fold 11 (txt s))) := by
  go_enter Tryz.func244, Tryz.ntmps244
  go_wp2
  go_loopw [3, 4, 5] (fun x y z wr => ∃ (st pos : Nat) (d : Int), st ≤ pos ∧ st ≤ s.size ∧ wr.heap[w.heap.size]? = some (.stringIter s pos) ∧ x = .int .i64 d ∧ y = .int .i64 st ∧ Hid (dig.fold 11 ((txt s).take st) = d) ∧ Hid (dig.In d) ∧ Below w.heap.size w wr) (fun _ _ _ wr => s.size - wr.iterPos w.heap.size)
  case atStart => exact ⟨0, 0, 11, by omega, by omega, World.iter_heap w s 0, rfl, rfl, rfl, dig.in11, (Below.refl _ _).alloc (Nat.le_refl _) _⟩
  case round =>
    obtain ⟨st, pos, d, h1, h2, hit, rfl, rfl, HD, HI, hb⟩ := hrel
    have hpos0 := iterPos_of hit
    have HB := Lib.hid hb; clear hb
    by_cases hp : pos < s.size
    · have hnx : ∀ ty, (Instr.next (.pointer (some ⟨w.heap.size, 0, none⟩)) true ty).run Tryz.prog wr = _ := fun ty => Lib.run_next_any_at wr w.heap.size s pos ty hit hp
      have hwd := width_pos s pos hp
      have h3 : pos ≤ s.size := by omega
      have hit2 := Lib.iterAt_heap wr w.heap.size s pos (pos + (Utf8.decode s pos).2) hit
      have hb2 := Lib.below_iterAt HB.out (k := w.heap.size) (Nat.le_refl _) s (pos + (Utf8.decode s pos).2)
      obtain ⟨W1, hW1⟩ : ∃ W1, W1 = wr.iterAt w.heap.size s (pos + (Utf8.decode s pos).2) := ⟨_, rfl⟩
      rw [← hW1] at hnx hit2 hb2
      have hsz := extract_le s st pos
      have HP := Lib.hid (fold_part 11 s st pos h1)
      have HI2 := Lib.hid hit2; have HB2 := Lib.hid hb2; have H0 := Lib.hid hpos0; have HS := Lib.hid hsz
      clear hW1 hit2 hb2 hit hpos0 hsz
      go_wp2_with (go_at_call 253; refine (bytes d HI.out _ (by have := HS.out; omega) _).mono ?_; rintro e w' ⟨rfl, rfl⟩)
      go_roundw
      case measure => rw [iterPos_of HI2.out, H0.out]; omega
      case rel => exact ⟨pos, _, _, by omega, by omega, HI2.out, rfl, rfl, by show _ = _; rw [← HP.out, HD.out], dig.fold_in HI.out _, HB2.out⟩
    · have hnx : ∀ ty, (Instr.next (.pointer (some ⟨w.heap.size, 0, none⟩)) true ty).run Tryz.prog wr = _ := fun ty => Lib.run_next_end_at wr w.heap.size s pos ty hit hp
      have HP := Lib.hid (fold_part 11 s st s.size h2)
      have HA := Lib.hid (dig.fold_all (l := txt s) (k := s.size) 11 (by have := txt_len s; omega))
      have HS := Lib.hid (extract_le s st s.size)
      clear hit hpos0
      go_wp2_with (go_at_call 253; refine (bytes d HI.out _ (by have := HS.out; omega) _).mono ?_; rintro e w' ⟨rfl, rfl⟩)
      go_ret
      exact ⟨ret_int (by rw [← HD.out, HP.out, HA.out]), HB.out⟩

end Go.Proofs.YtbgffmiffmmohaaGreatDoor.hsh

