/-
  What the texts behind this one use: 13 parts of one proof.
  Conditions: those that each theorem names.
-/
import Derived.Below
import Derived.Test.YtakdbfifbkngnaaGreatDoorRows
import Derived.Laws.OwnMore
import Derived.OwnWalk
import Derived.Deep.AppendLies
import Derived.Deep.Draws
import Derived.Lib.AppendStr
import Derived.Laws.AppendOwnNone
import Derived.Lib.SmallJoins
import Derived.Lib.Hide
import Derived.Laws.BytesArg
import Derived.Lib.ItoaNum
import Derived.Lib.AtoiAllCases
import Derived.Lib.IndexMore
import Derived.Lib.SlTrimSet
import Derived.Test.YtakdbfifbkngnaaGreatDoorShelf
import Derived.Deep.Fields
import Derived.ChangeArms
import Derived.OpenShut
import Derived.WalkKit
import Derived.Laws.NewBlocks
import Derived.Laws.NewDeep
import Derived.Lib.Builder
import Derived.Deep.RegionWith
import Derived.Deep.LoopGhost
import Derived.ProofKit
import Derived.IntWalk
import Derived.BigQuiet
import Derived.Deep.QuietTactic
import Derived.WalkLawsBesides
import Derived.Lib.TrimU
import Derived.Lib.IndexBytes
/-
  Plain facts on varints, without the program: a number's bytes, how bytes are read as a number, and that what is written is read.
  Conditions: those that each theorem names.
-/
namespace Go.Proofs.YtakdbfifbkngnaaGreatDoor.enc
set_option linter.unusedVariables false

/-- Each is a byte. -/
def Bd (l : List Int) : Prop := ∀ v ∈ l, 0 ≤ v ∧ v ≤ 255
theorem Bd.nil : Bd [] := fun _ h => by cases h
theorem Bd.app {a b : List Int} (ha : Bd a) (hb : Bd b) : Bd (a ++ b) := fun v hv => (List.mem_append.1 hv).elim (ha v) (hb v)
theorem Bd.one {v : Int} (h0 : 0 ≤ v) (h1 : v ≤ 255) : Bd [v] := fun x hx => by
  rw [List.mem_singleton] at hx
  omega
theorem Bd.drop {l : List Int} (h : Bd l) (k : Nat) : Bd (l.drop k) := fun v hv => h v (List.mem_of_mem_drop hv)
theorem Bd.take {l : List Int} (h : Bd l) (k : Nat) : Bd (l.take k) := fun v hv => h v (List.mem_of_mem_take hv)

def encF : Nat → Int → List Int
  | 0, n => [n]
  | f + 1, n => if n < 128 then [n] else (n % 128 + 128) :: encF f (n / 128)
/-- The varint of n, where n is below 128^6. -/
def enc (n : Int) : List Int := encF 5 n

theorem encF_lt (f : Nat) (n : Int) (h : n < 128) : encF f n = [n] := by
  cases f with
  | zero => rfl
  | succ f => simp only [encF]; rw [if_pos h]
theorem encF_ge (f : Nat) (n : Int) (h : 128 ≤ n) : encF (f + 1) n = (n % 128 + 128) :: encF f (n / 128) := by
  simp only [encF]; rw [if_neg (by omega)]
theorem pow_le (f : Nat) : (128 : Int) ≤ 128 ^ (f + 1) := by
  induction f with
  | zero => decide
  | succ f ih => rw [Int.pow_succ]; omega
theorem div_lt {f : Nat} {n : Int} (h : n < 128 ^ (f + 1 + 1)) : n / 128 < 128 ^ (f + 1) := by
  rw [Int.pow_succ] at h
  omega

theorem encF_len : ∀ (f : Nat) (n : Int), 1 ≤ (encF f n).length ∧ (encF f n).length ≤ f + 1
  | 0, n => by simp [encF]
  | f + 1, n => by
    have ih := encF_len f (n / 128)
    by_cases h : n < 128
    · rw [encF_lt _ _ h, List.length_singleton]; omega
    · rw [encF_ge _ _ (by omega), List.length_cons]; omega
theorem enc_len (n : Int) : 1 ≤ (enc n).length ∧ (enc n).length ≤ 6 := encF_len 5 n

theorem encF_bd : ∀ (f : Nat) (n : Int), 0 ≤ n → n < 128 ^ (f + 1) → Bd (encF f n)
  | 0, n, h0, h1 => by
    have : (128 : Int) ^ (0 + 1) = 128 := by decide
    exact Bd.one h0 (by omega)
  | f + 1, n, h0, h1 => by
    by_cases h : n < 128
    · rw [encF_lt _ _ h]; exact Bd.one h0 (by omega)
    · rw [encF_ge _ _ (by omega)]
      exact Bd.app (a := [_]) (Bd.one (by omega) (by omega)) (encF_bd f (n / 128) (by omega) (div_lt h1))
theorem p6 : (128 : Int) ^ (5 + 1) = 4398046511104 := by decide
theorem enc_bd (n : Int) (h0 : 0 ≤ n) (h1 : n ≤ 1000000000000) : Bd (enc n) := encF_bd 5 n h0 (by rw [p6]; omega)

/-- How far the bytes of n0 are written: done, and what is left is n. -/
def Far (n0 : Int) (done : List Int) (n : Int) : Prop := ∃ f, 0 ≤ n ∧ n < 128 ^ (f + 1) ∧ enc n0 = done ++ encF f n ∧ Bd done
theorem Far.start (n : Int) (h0 : 0 ≤ n) (h1 : n ≤ 1000000000000) : Far n [] n := ⟨5, h0, by rw [p6]; omega, rfl, Bd.nil⟩
theorem Far.nonneg {n0 n : Int} {d : List Int} (h : Far n0 d n) : 0 ≤ n := by obtain ⟨_, h, _⟩ := h; exact h
theorem Far.step {n0 n : Int} {d : List Int} (h : Far n0 d n) (hn : 128 ≤ n) : Far n0 (d ++ [n % 128 + 128]) (n / 128) := by
  obtain ⟨f, h0, h1, h2, h3⟩ := h
  cases f with
  | zero =>
    have : (128 : Int) ^ (0 + 1) = 128 := by decide
    omega
  | succ f => exact ⟨f, by omega, div_lt h1, by rw [h2, encF_ge _ _ hn, List.append_assoc]; rfl, h3.app (Bd.one (by omega) (by omega))⟩
theorem Far.last {n0 n : Int} {d : List Int} (h : Far n0 d n) (hn : n < 128) : enc n0 = d ++ [n] := by
  obtain ⟨f, h0, h1, h2, h3⟩ := h
  rw [h2, encF_lt _ _ hn]
theorem Far.bd {n0 n : Int} {d : List Int} (h : Far n0 d n) : Bd d := by obtain ⟨_, _, _, _, h⟩ := h; exact h
theorem Far.len {n0 n : Int} {d : List Int} (h : Far n0 d n) : d.length ≤ 5 := by
  obtain ⟨f, h0, h1, h2, h3⟩ := h
  have a := (enc_len n0).2
  have b := (encF_len f n).1
  rw [h2, List.length_append] at a
  omega

/-- Reading: k bytes have been read, they are n, the next one counts u times. -/
def decF : Nat → Nat → Int → Int → List Int → Option (Int × Nat)
  | 0, _, _, _, _ => none
  | _ + 1, _, _, _, [] => none
  | f + 1, k, n, u, c :: r => if c < 128 then (if (0 < k ∧ c = 0) ∨ 1000000000000 < n + c * u then none else some (n + c * u, k + 1)) else decF f (k + 1) (n + (c - 128) * u) (u * 128) r

/-- What is read from index at. -/
def dec (l : List Int) (i : Int) : Option (Int × Nat) := if 0 ≤ i ∧ i ≤ l.length then decF 6 0 0 1 (l.drop i.toNat) else none

theorem decF_nil (f k : Nat) (n u : Int) : decF f k n u [] = none := by cases f <;> rfl
theorem decF_more (f k : Nat) (n u c : Int) (r : List Int) (h : 128 ≤ c) : decF (f + 1) k n u (c :: r) = decF f (k + 1) (n + (c - 128) * u) (u * 128) r := by
  simp only [decF]; rw [if_neg (by omega)]
theorem decF_bad (f k : Nat) (n u c : Int) (r : List Int) (h : c < 128) (hb : (0 < k ∧ c = 0) ∨ 1000000000000 < n + c * u) : decF (f + 1) k n u (c :: r) = none := by
  simp only [decF]; rw [if_pos h, if_pos hb]
theorem decF_good (f k : Nat) (n u c : Int) (r : List Int) (h : c < 128) (hb : ¬ ((0 < k ∧ c = 0) ∨ 1000000000000 < n + c * u)) : decF (f + 1) k n u (c :: r) = some (n + c * u, k + 1) := by
  simp only [decF]; rw [if_pos h, if_neg hb]

theorem decF_encF : ∀ (f k : Nat) (m u n : Int) (rest : List Int), 0 ≤ n → n < 128 ^ (f + 1) → m + n * u ≤ 1000000000000 → (0 < k → 0 < n) →
    decF (f + 1) k m u (encF f n ++ rest) = some (m + n * u, k + (encF f n).length)
  | 0, k, m, u, n, rest, h0, h1, h2, h3 => by
    have e : (128 : Int) ^ (0 + 1) = 128 := by decide
    show decF (0 + 1) k m u (n :: rest) = _
    rw [decF_good _ _ _ _ _ _ (by omega) (fun hh => by omega)]
    rfl
  | f + 1, k, m, u, n, rest, h0, h1, h2, h3 => by
    by_cases h : n < 128
    · rw [encF_lt _ _ h]
      show decF (f + 1 + 1) k m u (n :: rest) = _
      rw [decF_good _ _ _ _ _ _ h (fun hh => by omega)]
      rfl
    · have e : m + (n % 128 + 128 - 128) * u + n / 128 * (u * 128) = m + n * u := by
        have e1 : n % 128 + 128 - 128 = n % 128 := by omega
        have e2 : n / 128 * (u * 128) = (128 * (n / 128)) * u := by
          rw [Int.mul_comm u 128, ← Int.mul_assoc, Int.mul_comm (n / 128) 128]
        rw [e1, e2, Int.add_assoc, ← Int.add_mul]
        have e3 : n % 128 + 128 * (n / 128) = n := by omega
        rw [e3]
      rw [encF_ge _ _ (by omega), List.cons_append, decF_more _ _ _ _ _ _ (by omega), decF_encF f (k + 1) _ _ (n / 128) rest (by omega) (div_lt h1) (by rw [e]; exact h2) (fun _ => by omega), e, List.length_cons]
      congr 2
      omega

/-- What is written behind p is read from there, whatever stands behind it. -/
theorem dec_enc (p rest : List Int) (n : Int) (h0 : 0 ≤ n) (h1 : n ≤ 1000000000000) : dec (p ++ enc n ++ rest) (p.length : Int) = some (n, (enc n).length) := by
  unfold dec
  rw [if_pos ⟨by omega, by simp only [List.length_append]; omega⟩]
  have e : (p ++ enc n ++ rest).drop ((p.length : Int)).toNat = enc n ++ rest := by
    rw [Int.toNat_natCast, List.append_assoc, List.drop_left]
  rw [e]
  have := decF_encF 5 0 0 1 n rest h0 (by rw [p6]; omega) (by omega) (fun h => by omega)
  unfold enc
  rw [this]
  congr 2 <;> omega

theorem decF_bounds : ∀ (f k : Nat) (n u : Int) (l : List Int) (x : Int) (j : Nat), 0 ≤ n → 0 ≤ u → Bd l → decF f k n u l = some (x, j) → 0 ≤ x ∧ x ≤ 1000000000000 ∧ k < j ∧ j ≤ k + f ∧ j ≤ k + l.length
  | 0, k, n, u, l, x, j, h0, h1, hb, h => by cases h
  | f + 1, k, n, u, [], x, j, h0, h1, hb, h => by cases h
  | f + 1, k, n, u, c :: r, x, j, h0, h1, hb, h => by
    have hc := hb c List.mem_cons_self
    by_cases h128 : c < 128
    · by_cases hbad : (0 < k ∧ c = 0) ∨ 1000000000000 < n + c * u
      · rw [decF_bad _ _ _ _ _ _ h128 hbad] at h; cases h
      · rw [decF_good _ _ _ _ _ _ h128 hbad] at h
        injection h with h
        obtain ⟨rfl, rfl⟩ := Prod.mk.inj h
        have := Int.mul_nonneg hc.1 h1
        rw [List.length_cons]
        omega
    · rw [decF_more _ _ _ _ _ _ (by omega)] at h
      have := Int.mul_nonneg (a := c - 128) (b := u) (by omega) h1
      have ih := decF_bounds f (k + 1) _ _ r x j (by omega) (by omega) (fun v hv => hb v (List.mem_cons_of_mem _ hv)) h
      rw [List.length_cons]
      omega

theorem dec_bounds {l : List Int} {i x : Int} {j : Nat} (hb : Bd l) (h : dec l i = some (x, j)) : 0 ≤ x ∧ x ≤ 1000000000000 ∧ 0 ≤ i ∧ 0 < j ∧ j ≤ 6 ∧ i + j ≤ l.length := by
  unfold dec at h
  split at h
  · rename_i hi
    have := decF_bounds _ _ _ _ _ _ _ (by omega) (by omega) (hb.drop _) h
    rw [List.length_drop] at this
    omega
  · cases h

/-- The number of a signed one. -/
def zig (n : Int) : Int := if n < 0 then -2 * n - 1 else 2 * n
theorem zig_bd {n : Int} (h0 : -1000000000 ≤ n) (h1 : n ≤ 1000000000) : 0 ≤ zig n ∧ zig n ≤ 2000000000 := by unfold zig; split <;> omega
/-- The signed number of one. -/
def zag (c : Int) : Int := if c % 2 = 1 then -((c + 1) / 2) else c / 2
theorem zag_zig (n : Int) : zag (zig n) = n := by unfold zag zig; split <;> split <;> omega

/-- What AppendSigned appends. -/
def sig (n : Int) : List Int := if -1000000000 ≤ n ∧ n ≤ 1000000000 then enc (zig n) else []
theorem sig_bd (n : Int) : Bd (sig n) := by
  unfold sig
  split
  · rename_i h
    have := zig_bd h.1 h.2
    exact enc_bd _ this.1 (by omega)
  · exact Bd.nil
theorem sig_len (n : Int) : (sig n).length ≤ 6 := by
  unfold sig
  split
  · exact (enc_len _).2
  · simp
/-- What AppendUvarint appends. -/
def uva (n : Int) : List Int := if 0 ≤ n ∧ n ≤ 1000000000000 then enc n else []
theorem uva_bd (n : Int) : Bd (uva n) := by
  unfold uva
  split
  · rename_i h
    exact enc_bd _ h.1 h.2
  · exact Bd.nil
theorem uva_len (n : Int) : (uva n).length ≤ 6 := by
  unfold uva
  split
  · exact (enc_len _).2
  · simp

/-- What ReadUvarint returns: number, next index, ok. -/
def rdu (l : List Int) (i : Int) : Int × Int × Bool := match dec l i with
  | some (n, k) => (n, i + k, true)
  | none => (0, 0, false)
theorem rdu_some {l : List Int} {i n : Int} {k : Nat} (h : dec l i = some (n, k)) : rdu l i = (n, i + k, true) := by unfold rdu; rw [h]
theorem rdu_none {l : List Int} {i : Int} (h : dec l i = none) : rdu l i = (0, 0, false) := by unfold rdu; rw [h]
theorem rdu_bd {l : List Int} (hb : Bd l) (i : Int) : 0 ≤ (rdu l i).1 ∧ (rdu l i).1 ≤ 1000000000000 ∧ 0 ≤ (rdu l i).2.1 ∧ (rdu l i).2.1 ≤ l.length ∧ ((rdu l i).2.2 = false → (rdu l i).1 = 0 ∧ (rdu l i).2.1 = 0) := by
  cases h : dec l i with
  | none => rw [rdu_none h]; exact ⟨Int.le_refl 0, show (0 : Int) ≤ 1000000000000 by omega, Int.le_refl 0, show (0 : Int) ≤ (l.length : Int) by omega, fun _ => ⟨rfl, rfl⟩⟩
  | some x =>
    obtain ⟨n, k⟩ := x
    rw [rdu_some h]
    have := dec_bounds hb h
    exact ⟨by omega, by omega, by show 0 ≤ i + (k : Int); omega, by show i + (k : Int) ≤ _; omega, fun hh => by cases hh⟩
theorem rdu_enc (p rest : List Int) (n : Int) (h0 : 0 ≤ n) (h1 : n ≤ 1000000000000) : rdu (p ++ enc n ++ rest) (p.length : Int) = (n, ((p ++ enc n).length : Int), true) := by
  rw [rdu_some (dec_enc p rest n h0 h1), List.length_append, Int.natCast_add]

/-- What ReadSigned returns. -/
def rds (l : List Int) (i : Int) : Int × Int × Bool := if (rdu l i).2.2 = true ∧ (rdu l i).1 ≤ 2000000000 then (zag (rdu l i).1, (rdu l i).2.1, true) else (0, 0, false)
theorem rds_sig (p : List Int) (n : Int) (h0 : -1000000000 ≤ n) (h1 : n ≤ 1000000000) : rds (p ++ sig n) (p.length : Int) = (n, ((p ++ sig n).length : Int), true) := by
  have hz := zig_bd h0 h1
  have e : sig n = enc (zig n) := by unfold sig; rw [if_pos ⟨h0, h1⟩]
  have h := rdu_enc p [] (zig n) hz.1 (by omega)
  rw [List.append_nil] at h
  unfold rds
  rw [e, h, if_pos ⟨rfl, hz.2⟩, zag_zig]

/-- What ReadText returns: the bytes, the next index, ok. -/
def rdt (l : List Int) (i most : Int) : List Int × Int × Bool :=
  if (rdu l i).2.2 = true ∧ (rdu l i).1 ≤ most ∧ (rdu l i).1 ≤ l.length - (rdu l i).2.1 then ((l.drop (rdu l i).2.1.toNat).take (rdu l i).1.toNat, (rdu l i).2.1 + (rdu l i).1, true) else ([], 0, false)

theorem rdt_text (p s : List Int) (hs : s.length ≤ 1000000) (most : Int) : rdt (p ++ enc s.length ++ s) (p.length : Int) most = if (s.length : Int) ≤ most then (s, ((p ++ enc s.length ++ s).length : Int), true) else ([], 0, false) := by
  have h := rdu_enc p s (s.length : Int) (by omega) (by omega)
  unfold rdt
  rw [h]
  simp only [List.length_append, Int.natCast_add]
  by_cases hm : (s.length : Int) ≤ most
  · rw [if_pos ⟨trivial, hm, by omega⟩, if_pos hm]
    refine Prod.ext ?_ rfl
    show ((p ++ enc (s.length : Int) ++ s).drop ((p.length : Int) + ((enc (s.length : Int)).length : Int)).toNat).take ((s.length : Int)).toNat = s
    have e : ((p.length : Int) + ((enc (s.length : Int)).length : Int)).toNat = (p ++ enc (s.length : Int)).length := by rw [List.length_append]; omega
    rw [e, List.drop_left, Int.toNat_natCast, List.take_length]
  · rw [if_neg (fun hh => hm hh.2.1), if_neg hm]

end Go.Proofs.YtakdbfifbkngnaaGreatDoor.enc

/-
  Slices of bytes in memory: one that reads as a list of numbers, one that the call itself has made, and how both are kept while memory grows.
  Conditions: those that each theorem names.
-/
namespace Go.Proofs.YtakdbfifbkngnaaGreatDoor.mem
open Go.RowKit
set_option linter.unusedVariables false

theorem u8row : (Tryz.prog.info? 5).map (fun i => (i.zero, i.size, i.bytes)) = some (some (.int .u8 0), 1, 1) := by kernel_rfl

/-- The numbers as cells. -/
def cs (l : List Int) : List Value := l.map (Value.int .u8)
theorem cs_len (l : List Int) : (cs l).length = l.length := List.length_map _
theorem cs_app (a b : List Int) : cs (a ++ b) = cs a ++ cs b := List.map_append
theorem cs_get {l : List Int} {j : Nat} {v : Int} (h : l[j]? = some v) : (cs l)[j]? = some (.int .u8 v) := by unfold cs; rw [List.getElem?_map, h]; rfl
theorem cs_set (l : List Int) (j : Nat) (v : Int) : cs (l.set j v) = (cs l).set j (.int .u8 v) := List.map_set
theorem cs_one (l : List Int) : ∀ u ∈ cs l, u.oneCell' = true := ints_oneCell .u8 l
theorem cs_zero (n : Nat) : cs (List.replicate n 0) = List.replicate n (.int .u8 0) := List.map_replicate

theorem add_block (a : Addr) (n : Nat) : (a.add n).block = a.block := by unfold Addr.add; split <;> rfl
theorem add_add (a : Addr) (i j : Nat) : (a.add i).add j = a.add (i + j) := by
  unfold Addr.add
  by_cases hi : i = 0 <;> by_cases hj : j = 0 <;> simp [hi, hj, Nat.add_assoc]
theorem add_zero_lit (g j : Nat) : (⟨g, 0, none⟩ : Addr).add j = ⟨g, j, none⟩ := by rw [Addr.add_lit, Nat.zero_add]

/-- The slice at A of n bytes reads as l. -/
def Rd (w : World) (A : Option Addr) (n : Nat) (l : List Int) : Prop :=
  l.length = n ∧ enc.Bd l ∧ (0 < n → ∃ a, A = some a ∧ ∀ j v, l[j]? = some v → w.cell? (a.add j) = some (.int .u8 v))

theorem Rd.len {w : World} {A : Option Addr} {n : Nat} {l : List Int} (h : Rd w A n l) : l.length = n := h.1
theorem Rd.bd {w : World} {A : Option Addr} {n : Nat} {l : List Int} (h : Rd w A n l) : enc.Bd l := h.2.1
theorem Rd.at_ {w : World} {A : Option Addr} {n k : Nat} {l : List Int} (h : Rd w A n l) (hk : k < n) : ∃ a v, A = some a ∧ l[k]? = some v ∧ 0 ≤ v ∧ v ≤ 255 ∧ w.cell? (a.add k) = some (.int .u8 v) := by
  obtain ⟨h1, h2, h3⟩ := h
  obtain ⟨a, e, hc⟩ := h3 (by omega)
  have hl : k < l.length := by omega
  have hv := h2 l[k] (List.getElem_mem hl)
  exact ⟨a, l[k], e, List.getElem?_eq_getElem hl, hv.1, hv.2, hc k _ (List.getElem?_eq_getElem hl)⟩
/-- In the block of the slice, where it has a byte. -/
theorem Rd.lt {w : World} {A : Option Addr} {n : Nat} {l : List Int} (h : Rd w A n l) (hn : 0 < n) : ∃ a, A = some a ∧ a.block < w.heap.size := by
  obtain ⟨a, v, e, _, _, _, hc⟩ := h.at_ hn
  refine ⟨a, e, ?_⟩
  have := World.block_lt_of_cell? _ _ hc
  rwa [add_block] at this
/-- No byte of it lies in block row. -/
def Off (A : Option Addr) (n : Nat) (row : Option Nat) : Prop := 0 < n → ∀ a, A = some a → some a.block ≠ row
theorem Off.none_ (A : Option Addr) (n : Nat) : Off A n none := fun _ a _ h => by cases h
theorem Rd.grown {w w' : World} {A : Option Addr} {n : Nat} {l : List Int} {row : Option Nat} (h : Rd w A n l) (hg : w.grownBy w' row) (ho : Off A n row) : Rd w' A n l := by
  refine ⟨h.1, h.2.1, fun hn => ?_⟩
  obtain ⟨a, e, hc⟩ := h.2.2 hn
  exact ⟨a, e, fun j v hv => hg.cell (hc j v hv) (by rw [add_block]; exact ho hn a e)⟩
theorem none_of_below {w w' : World} (h : Below w.heap.size w w') : w.grownBy w' none := ⟨h.os, h.tape, h.output, h.size, fun k hk _ => h.block k hk⟩
theorem below_of_none {w w' : World} (h : w.grownBy w' none) : Below w.heap.size w w' := ⟨h.os, h.tape, h.output, h.size, fun k hk => h.block k hk (fun e => by cases e)⟩
theorem Rd.below {w w' : World} {A : Option Addr} {n : Nat} {l : List Int} (h : Rd w A n l) (hb : Below w.heap.size w w') : Rd w' A n l := h.grown (none_of_below hb) (Off.none_ _ _)
theorem Rd.alloc {w : World} {A : Option Addr} {n : Nat} {l : List Int} (h : Rd w A n l) (o : Obj) : Rd (w.alloc o) A n l := h.grown (World.grownBy_alloc w o none) (Off.none_ _ _)
theorem Rd.draws {w : World} {A : Option Addr} {n : Nat} {l : List Int} (h : Rd w A n l) (k : Nat) : Rd (w.drewN k) A n l := h

/-- A slice of bytes that the call has made: its block is lo or above. -/
def Own (w : World) (lo : Nat) (A : Option Addr) (n c : Nat) (l : List Int) : Prop :=
  l.length = n ∧ enc.Bd l ∧ w.ownsRow lo 5 1 (.slice A n c) n (cs l)

section
variable {w w' : World} {lo : Nat} {A : Option Addr} {n c : Nat} {l : List Int}
theorem Own.len (h : Own w lo A n c l) : l.length = n := h.1
theorem Own.bd (h : Own w lo A n c l) : enc.Bd l := h.2.1
theorem Own.row (h : Own w lo A n c l) : w.ownsRow lo 5 1 (.slice A n c) n (cs l) := h.2.2
theorem Own.form (h : Own w lo A n c l) : (A = none ∧ n = 0) ∨ ∃ g, A = some ⟨g, 0, none⟩ ∧ lo ≤ g ∧ g < w.heap.size := by
  rcases h.2.2.2 with ⟨e, h0⟩ | ⟨g, cap, cur, e, hb, hg, _⟩
  · injection e with e1
    exact .inl ⟨e1, h0⟩
  · injection e with e1
    exact .inr ⟨g, e1, hb, draw_lt hg⟩
where
  draw_lt {w : World} {N : Nat} {o : Obj} (h : w.heap[N]? = some o) : N < w.heap.size := by
    rcases Nat.lt_or_ge N w.heap.size with hlt | hge
    · exact hlt
    · rw [Array.getElem?_eq_none hge] at h; cases h
theorem Own.rd (h : Own w lo A n c l) : Rd w A n l := by
  refine ⟨h.1, h.2.1, fun hn => ?_⟩
  rcases h.form with ⟨_, h0⟩ | ⟨g, e, _⟩
  · omega
  · subst e
    exact ⟨_, rfl, fun j v hv => h.row.cells (g := g) rfl j _ (cs_get hv)⟩
theorem Own.block (h : Own w lo A n c l) : ∀ k, (Value.slice A n c).ownBlock = some k → lo ≤ k ∧ k < w.heap.size := h.row.lt
theorem Own.grown {row : Option Nat} (h : Own w lo A n c l) (hg : w.grownBy w' row) (ho : (Value.slice A n c).ownBlock = none ∨ (Value.slice A n c).ownBlock ≠ row) : Own w' lo A n c l :=
  ⟨h.1, h.2.1, h.row.kept hg ho⟩
theorem Own.none_ (h : Own w lo A n c l) (hg : w.grownBy w' none) : Own w' lo A n c l := h.grown hg (by
  cases e : (Value.slice A n c).ownBlock with
  | none => exact .inl rfl
  | some k => exact .inr (by simp))
theorem Own.below (h : Own w lo A n c l) (hb : Below w.heap.size w w') : Own w' lo A n c l := h.none_ (none_of_below hb)
theorem Own.alloc (h : Own w lo A n c l) (o : Obj) : Own (w.alloc o) lo A n c l := ⟨h.1, h.2.1, h.row.alloc o⟩
theorem Own.draws (h : Own w lo A n c l) (k : Nat) : Own (w.drewN k) lo A n c l := h
theorem Own.less {lo' : Nat} (h : Own w lo A n c l) (hl : lo' ≤ lo) : Own w lo' A n c l := ⟨h.1, h.2.1, Joins.ownsRow_le h.row hl⟩
/-- Where it has a byte it lies at the head of a block. -/
theorem Own.head (h : Own w lo A n c l) (hn : 0 < n) : ∃ g, A = some ⟨g, 0, none⟩ ∧ lo ≤ g ∧ g < w.heap.size ∧ (Value.slice A n c).ownBlock = some g := by
  rcases h.form with ⟨_, h0⟩ | ⟨g, e, h1, h2⟩
  · omega
  · subst e
    exact ⟨g, rfl, h1, h2, rfl⟩
/-- A write to another one's block. -/
theorem Own.far {lo' : Nat} {A' : Option Addr} {n' c' : Nat} {l' : List Int} (h : Own w lo A n c l) (h' : Own w lo' A' n' c' l') (hd : ∀ k, (Value.slice A n c).ownBlock = some k → (Value.slice A' n' c').ownBlock ≠ some k) :
    Off A' n' (Value.slice A n c).ownBlock := fun hn a ha e => by
  obtain ⟨g, e1, _, _, e2⟩ := h'.head hn
  have : a = ⟨g, 0, none⟩ := by rw [e1] at ha; injection ha with ha; exact ha.symm
  subst this
  exact hd g e.symm e2
/-- What came in before lies elsewhere. -/
theorem Own.off {B : Nat} {A' : Option Addr} {n' : Nat} (h : Own w lo A n c l) (hB : B ≤ lo) (hr : 0 < n' → ∃ a, A' = some a ∧ a.block < B) : Off A' n' (Value.slice A n c).ownBlock := fun hn a ha e => by
  obtain ⟨a', e1, hlt⟩ := hr hn
  have : a = a' := by rw [e1] at ha; injection ha with ha; exact ha.symm
  subst this
  have := (h.block _ e.symm).1
  omega
end

/-- Nothing yet. -/
theorem own_empty (w : World) (lo : Nat) {A : Option Addr} {n c : Nat} (h : w.ownsRow lo 5 1 (.slice A n c) n []) (hn : n = 0) : Own w lo A n c [] := ⟨by simp [hn], enc.Bd.nil, h⟩

/-- A law of a slice that the call has made, from a slice value. -/
theorem own_mk {w : World} {lo : Nat} {v : Value} {n : Nat} {l : List Int} (h : w.ownsRow lo 5 1 v n (cs l)) (hb : enc.Bd l) : ∃ A c, v = .slice A n c ∧ Own w lo A n c l := by
  have hl : l.length = n := by have := h.1; rw [cs_len] at this; omega
  rcases Joins.ownsRow_forms h with ⟨rfl, rfl⟩ | ⟨g, cap, rfl⟩
  · exact ⟨none, 0, rfl, hl, hb, h⟩
  · exact ⟨_, cap, rfl, hl, hb, h⟩

/-- The mark numbers from k on. -/
def marks (k : Int) : Nat → List Int
  | 0 => []
  | n + 1 => (k % 256) :: marks (k + 1) n
theorem marks_len : ∀ (n : Nat) (k : Int), (marks k n).length = n
  | 0, _ => rfl
  | n + 1, k => by rw [marks, List.length_cons, marks_len n]
theorem marks_bd : ∀ (n : Nat) (k : Int), enc.Bd (marks k n)
  | 0, _ => enc.Bd.nil
  | n + 1, k => enc.Bd.app (a := [_]) (enc.Bd.one (by omega) (by omega)) (marks_bd n (k + 1))
theorem marks_get : ∀ (n : Nat) (k : Int) (j : Nat), j < n → (marks k n)[j]? = some ((k + j) % 256)
  | 0, _, _, h => by omega
  | n + 1, k, 0, _ => by simp [marks]
  | n + 1, k, j + 1, h => by
    have e : k + 1 + (j : Int) = k + ((j + 1 : Nat) : Int) := by omega
    rw [marks, List.getElem?_cons_succ, marks_get n (k + 1) j (by omega), e]

/-- A list that is filled from the front: the first k are l's. -/
def Filled (l m : List Int) (k : Nat) : Prop := m.length = l.length ∧ m.take k = l.take k
theorem Filled.start (l m : List Int) (h : m.length = l.length) : Filled l m 0 := ⟨h, by simp⟩
theorem Filled.step {l m : List Int} {k : Nat} {v : Int} (h : Filled l m k) (hv : l[k]? = some v) : Filled l (m.set k v) (k + 1) := by
  refine ⟨by rw [List.length_set]; exact h.1, ?_⟩
  obtain ⟨hk, e⟩ := List.getElem?_eq_some_iff.1 hv
  have hm := h.1
  rw [List.take_succ_eq_append_getElem (by rw [List.length_set]; omega), List.take_succ_eq_append_getElem hk, List.take_set, List.set_eq_of_length_le (by rw [List.length_take]; omega), h.2, List.getElem_set_self, e]
theorem Filled.all {l m : List Int} {k : Nat} (h : Filled l m k) (hk : l.length ≤ k) : m = l := by
  have h2 := h.2
  rw [List.take_of_length_le hk, List.take_of_length_le (by rw [h.1]; exact hk)] at h2
  exact h2
theorem bd_set {m : List Int} (h : enc.Bd m) (k : Nat) {v : Int} (h0 : 0 ≤ v) (h1 : v ≤ 255) : enc.Bd (m.set k v) := fun x hx => by
  rcases List.mem_or_eq_of_mem_set hx with hx | rfl
  · exact h x hx
  · exact ⟨h0, h1⟩

/-- One byte of an own slice is written. -/
theorem Own.set {w : World} {lo g n c : Nat} {l : List Int} (h : Own w lo (some ⟨g, 0, none⟩) n c l) (k : Nat) {v : Int} (h0 : 0 ≤ v) (h1 : v ≤ 255) :
    Own (w.setCell ⟨g, k, none⟩ (.int .u8 v)) lo (some ⟨g, 0, none⟩) n c (l.set k v) ∧ w.grownBy (w.setCell ⟨g, k, none⟩ (.int .u8 v)) (some g) := by
  have hs := h.row.stored k (.int .u8 v)
  exact ⟨⟨by rw [List.length_set]; exact h.1, bd_set h.2.1 k h0 h1, by rw [cs_set]; exact hs.1⟩, hs.2⟩
theorem Own.cellk {w : World} {lo g n c k : Nat} {l : List Int} (h : Own w lo (some ⟨g, 0, none⟩) n c l) (hk : k < n) : (∃ v, w.cell? ⟨g, k, none⟩ = some (.int .u8 v)) ∧ w.frozen? ⟨g, k, none⟩ = false := by
  refine ⟨?_, h.row.frozenAt k⟩
  have hl : k < l.length := by rw [h.1]; exact hk
  exact ⟨l[k], by rw [h.row.cellAt k (by omega)]; exact cs_get (List.getElem?_eq_getElem hl)⟩

theorem grown_trans {a b c : World} {r : Option Nat} (h : a.grownBy b r) (k : b.grownBy c r) : a.grownBy c r :=
  ⟨k.os.trans h.os, k.tape.trans h.tape, k.output.trans h.output, Nat.le_trans h.size k.size, fun j hj hne => (k.block j (Nat.lt_of_lt_of_le hj h.size) hne).trans (h.block j hj hne)⟩
theorem grown_draws {a w : World} {r : Option Nat} (h : a.grownBy w r) (n : Nat) : a.grownBy (w.drewN n) r := ⟨h.os, h.tape, h.output, h.size, h.block⟩
theorem grown_new {a w : World} {r : Option Nat} (h : a.grownBy w r) (o : Obj) : a.grownBy (w.alloc o) r :=
  ⟨h.os, h.tape, h.output, Nat.le_trans h.size (by simp), fun k hk hne => (Below.heap_alloc w o k (Nat.lt_of_lt_of_le hk h.size)).trans (h.block k hk hne)⟩

theorem below_own {w w' : World} {lo : Nat} {A : Option Addr} {n c : Nat} {l : List Int} (h : Own w lo A n c l) (hg : w.grownBy w' (Value.slice A n c).ownBlock) (hlo : lo ≤ w.heap.size) : Below lo w w' :=
  (Below.refl lo w).grown hg hlo (fun k hk => (h.block k hk).1)

/-- A new block of one byte. -/
theorem rd_one (w : World) (v : Int) (h0 : 0 ≤ v) (h1 : v ≤ 255) (t : TypeId) : Rd (w.alloc (.cells #[.int .u8 v] t)) (some ⟨w.heap.size, 0, none⟩) 1 [v] := by
  refine ⟨rfl, enc.Bd.one h0 h1, fun _ => ⟨_, rfl, fun j x hx => ?_⟩⟩
  cases j with
  | zero =>
    have : v = x := by simpa using hx
    subst this
    rw [add_zero_lit, World.cell?_alloc_new]
    rfl
  | succ j => simp at hx
/-- A new block of none. -/
theorem own_none (w : World) (lo : Nat) (hlo : lo ≤ w.heap.size) : Own (w.alloc (.cells #[] 5)) lo (some ⟨w.heap.size, 0, none⟩) 0 0 [] :=
  own_empty _ _ (World.ownsRow_made w #[] 0 hlo (Nat.zero_le _) rfl) rfl
theorem own_nil (w : World) (lo : Nat) : Own w lo none 0 0 [] := own_empty _ _ (World.ownsRow_nil w lo _ 1) rfl

theorem run_none (P : Program) (w : World) (t ty : TypeId) (i : TypeInfo) (ht : P.underlying t = some (.slice 5)) (hi : P.info? 5 = some i) (lo : Nat) (v : Value) (n d : Nat) (xs : List Value) (hown : w.ownsRow lo 5 1 v n xs) :
    (Builtin.append_ #[t, t] ty #[v, .slice none 0 d]).run P w = .ok v w := by
  rcases hown.2 with ⟨rfl, rfl⟩ | ⟨g, cap, cur, rfl, _, _, hnc, _⟩
  · simp [Builtin.append_, run_underlying ht, sizeOf, typeInfo, hi, Builtin.lenOf, Builtin.firstCells]
  · simp [Builtin.append_, run_underlying ht, sizeOf, typeInfo, hi, Builtin.lenOf, Builtin.firstCells, hnc, storeCells]

/-- append of a slice that reads as r onto an own one. -/
theorem append_rd {P : Program} {w : World} {ops : Array Oper} {rest : List Oper} {o : Oper} {a : Act} {Q : Exit → Act → World → Prop} (hgd : o.guard = none) (s x : Operand) (t : TypeId)
    (ho : o.op = .call { callee := .builtin .append, args := #[s, x], argTypes := #[t, t] })
    (i : TypeInfo) (ht : P.underlying t = some (.slice 5)) (hi : P.info? 5 = some i) (hz : i.zero = some (.int .u8 0)) (hsize : i.size = 1) (hby : i.bytes = 1)
    (lo : Nat) (A : Option Addr) (n c : Nat) (l : List Int) (hs : a.eval s = .slice A n c) (hown : Own w lo A n c l)
    (B : Option Addr) (m d : Nat) (r : List Int) (hx : a.eval x = .slice B m d) (hr : Rd w B m r) (hb : n + m ≤ 140737488355328) (hlo : lo ≤ w.heap.size)
    (h : ∀ A' c' w', Own w' lo A' (n + m) c' (l ++ r) → Below lo w w' → wpList P ops Q rest (a.put o.dst (.slice A' (n + m) c')) w') : wpList P ops Q (o :: rest) a w := by
  have close : ∀ v' w', w'.ownsRow lo 5 1 v' (n + m) (cs l ++ cs r) → w.grownBy w' (Value.slice A n c).ownBlock → wpList P ops Q rest (a.put o.dst v') w' := fun v' w' h1 h2 => by
    rw [← cs_app] at h1
    obtain ⟨A', c', rfl, h3⟩ := own_mk h1 (hown.bd.app hr.bd)
    exact h A' c' w' h3 (below_own hown h2 hlo)
  have hl : (cs r).length = m * 1 := by rw [cs_len, hr.len, Nat.mul_one]
  have hmax : n + m ≤ maxLen := by unfold maxLen; omega
  cases B with
  | none =>
    have hm : m = 0 := by
      rcases Nat.eq_zero_or_pos m with h0 | h0
      · exact h0
      · obtain ⟨_, e, _⟩ := hr.2.2 h0
        cases e
    subst hm
    have hr0 : r = [] := List.eq_nil_of_length_eq_zero hr.len
    subst hr0
    have hrun := run_none P w t o.type i ht hi lo _ n d (cs l) hown.row
    refine wpList_plain hgd fun K hK => ?_
    unfold Oper.wp
    simp [execOp, ho, resolve, invoke, builtin, hs, hx, hrun, Result.andThen]
    exact hK _ _ (close _ _ (by simpa [cs] using hown.row) (World.grownBy.refl _ _))
  | some ad =>
    refine wpList_append_own w hgd s x t ho lo 5 i (.int .u8 0) 1 1 ht hi hz hsize hby rfl (by omega) (.slice A n c) n (cs l) hs hown.row ad m d (cs r) hx hl ?_ (cs_one r) hmax (by omega) hlo ?_
    · intro j u hu
      have hj : j < r.length := by
        have := (List.getElem?_eq_some_iff.1 hu).1
        rwa [cs_len] at this
      obtain ⟨_, e, hc⟩ := hr.2.2 (by have := hr.len; omega)
      obtain rfl := Option.some.inj e
      have hrj : r[j]? = some r[j] := List.getElem?_eq_getElem hj
      rw [cs_get hrj] at hu
      rw [← hu]
      exact hc j _ hrj
    · intro v' w' h1 h2 _
      exact close v' w' h1 h2

/-- A text's bytes as numbers. -/
def txt (s : ByteArray) : List Int := s.data.toList.map fun b => (b.toNat : Int)
theorem txt_len (s : ByteArray) : (txt s).length = s.size := by unfold txt; rw [List.length_map, Array.length_toList]; rfl
theorem txt_bd (s : ByteArray) : enc.Bd (txt s) := fun v hv => by
  unfold txt at hv
  obtain ⟨b, _, rfl⟩ := List.mem_map.1 hv
  have := b.toNat_lt
  omega
theorem strCells_cs (s : ByteArray) : Lib.strCells s = cs (txt s) := by unfold Lib.strCells cs txt; rw [List.map_map]; rfl
theorem strOf_txt (s : ByteArray) : strOfNums (txt s) = s := by
  unfold strOfNums txt
  rw [List.map_map]
  have e : s.data.toList.map ((fun n : Int => UInt8.ofNat n.toNat) ∘ fun b : UInt8 => (b.toNat : Int)) = s.data.toList := by
    rw [List.map_congr_left (g := id) (fun b _ => by simp), List.map_id]
  rw [e, Joins.bytes_eta]

/-- append of a text onto an own slice. -/
theorem append_txt {P : Program} {w : World} {ops : Array Oper} {rest : List Oper} {o : Oper} {a : Act} {Q : Exit → Act → World → Prop} (hgd : o.guard = none) (s x : Operand) (t u : TypeId)
    (ho : o.op = .call { callee := .builtin .append, args := #[s, x], argTypes := #[t, u] })
    (i : TypeInfo) (ht : P.underlying t = some (.slice 5)) (hu : P.underlying u = some .string) (hi : P.info? 5 = some i) (hz : i.zero = some (.int .u8 0)) (hsize : i.size = 1) (hby : i.bytes = 1)
    (lo : Nat) (A : Option Addr) (n c : Nat) (l : List Int) (hs : a.eval s = .slice A n c) (hown : Own w lo A n c l)
    (b : ByteArray) (hx : a.eval x = .string b) (hb : n + b.size ≤ 140737488355328) (hlo : lo ≤ w.heap.size)
    (h : ∀ A' c' w', Own w' lo A' (n + b.size) c' (l ++ txt b) → Below lo w w' → wpList P ops Q rest (a.put o.dst (.slice A' (n + b.size) c')) w') : wpList P ops Q (o :: rest) a w := by
  have hmax : n + b.size ≤ maxLen := by unfold maxLen; omega
  refine Lib.wpList_append_own_string w hgd s x t u ho lo 5 i ht hu hi hz hsize hby (.slice A n c) n (cs l) hs hown.row b hx hmax hb hlo ?_
  intro v' w' h1 h2 _
  rw [strCells_cs, ← cs_app] at h1
  obtain ⟨A', c', rfl, h3⟩ := own_mk h1 (hown.bd.app (txt_bd b))
  exact h A' c' w' h3 (below_own hown h2 hlo)

/-- Two own slices of which the one was made after the other. -/
theorem apart {w w' : World} {lo lo' : Nat} {A A' : Option Addr} {n n' c c' : Nat} {l l' : List Int} (h : Own w lo A n c l) (h' : Own w' lo' A' n' c' l') (hs : w.heap.size ≤ lo') :
    ∀ k, (Value.slice A n c).ownBlock = some k → (Value.slice A' n' c').ownBlock ≠ some k := fun k hk hk' => by
  have := (h.block k hk).2
  have := (h'.block k hk').1
  omega
theorem apart' {w w' : World} {lo lo' : Nat} {A A' : Option Addr} {n n' c c' : Nat} {l l' : List Int} (h : Own w lo A n c l) (h' : Own w' lo' A' n' c' l') (hs : w.heap.size ≤ lo') :
    ∀ k, (Value.slice A' n' c').ownBlock = some k → (Value.slice A n c).ownBlock ≠ some k := fun k hk hk' => apart h h' hs k hk' hk
theorem Own.keep {w w' : World} {lo : Nat} {A : Option Addr} {n c : Nat} {l : List Int} {row : Option Nat} (h : Own w lo A n c l) (hg : w.grownBy w' row) (hd : ∀ k, (Value.slice A n c).ownBlock = some k → row ≠ some k) : Own w' lo A n c l :=
  h.grown hg (by
    cases e : (Value.slice A n c).ownBlock with
    | none => exact .inl rfl
    | some k => exact .inr fun e' => hd k e e'.symm)
theorem below_mark {w w' : World} {W : World} {lo : Nat} {A : Option Addr} {n c : Nat} {l : List Int} (hb : Below W.heap.size W w) (h : Own w lo A n c l) (hg : w.grownBy w' (Value.slice A n c).ownBlock) (hlo : W.heap.size ≤ lo) : Below W.heap.size W w' :=
  hb.grown hg hb.size (fun k hk => Nat.le_trans hlo (h.block k hk).1)
theorem below_next {w w' W : World} (hb : Below W.heap.size W w) (hg : w.grownBy w' none) : Below W.heap.size W w' := hb.trans ((below_of_none hg).mono hb.size)

/-- A slice of bytes as a text. -/
theorem conv_rd {P : Program} (w : World) (src dst e : TypeId) (hs : P.underlying src = some (.slice e)) (he : P.underlying e = some (.int .u8)) (hd : P.underlying dst = some .string) {A : Option Addr} {q : Nat} {l : List Int} (h : Rd w A q l) (c : Nat) :
    (convert src dst (.slice A q c)).run P w = .ok (.string (strOfNums l)) w := by
  cases A with
  | none =>
    have hq : q = 0 := by
      rcases Nat.eq_zero_or_pos q with h0 | h0
      · exact h0
      · obtain ⟨_, e, _⟩ := h.2.2 h0
        cases e
    subst hq
    have hl : l = [] := List.eq_nil_of_length_eq_zero h.1
    subst hl
    exact run_convert_bytes_nil w src e hs he 0 c dst hd
  | some a =>
    have hl : (loadCells a q).run P w = .ok (l.map (Value.int .u8)).toArray w := by
      have := run_loadCells_list (P := P) w a (l.map (Value.int .u8)) (fun j v hj => by
        have hjl : j < l.length := by
          have := (List.getElem?_eq_some_iff.1 hj).1
          rwa [List.length_map] at this
        obtain ⟨_, e, hc⟩ := h.2.2 (by have := h.1; omega)
        obtain rfl := Option.some.inj e
        have hx : l[j]? = some l[j] := List.getElem?_eq_getElem hjl
        rw [hc j _ hx]
        rw [List.getElem?_map, hx] at hj
        exact hj)
      simpa [h.1] using this
    rw [run_convert_bytes_string w src dst e _ q c hs he hd, run_bytesToString w _ q c l hl, foldl_push_bytes]
    simp [strOfNums, ByteArray.empty, ByteArray.emptyWithCapacity]
    rfl

end Go.Proofs.YtakdbfifbkngnaaGreatDoor.mem

/-
  The digits at the beginning of a text and the number that they give, held to a limit; without the program.
  Conditions: those that each theorem names.
-/
namespace Go.Proofs.YtakdbfifbkngnaaGreatDoor.lead
set_option linter.unusedVariables false

def dg (b : UInt8) : Bool := decide (48 ≤ b.toNat) && decide (b.toNat ≤ 57)
theorem dg_iff {b : UInt8} : dg b = true ↔ 48 ≤ b.toNat ∧ b.toNat ≤ 57 := by unfold dg; simp
theorem dg_no {b : UInt8} : dg b = false ↔ ¬ (48 ≤ b.toNat ∧ b.toNat ≤ 57) := by rw [← dg_iff]; simp
/-- The digits at the beginning. -/
def ld : List UInt8 → List UInt8
  | [] => []
  | b :: r => if dg b then b :: ld r else []
def stp (a : Nat) (b : UInt8) : Nat := min (10 * a + (b.toNat - 48)) 1000000001
theorem stp_eq (a : Nat) (b : UInt8) : stp a b = min (10 * a + (b.toNat - 48)) 1000000001 := by unfold stp; rfl
/-- The number of digits behind the number a, held to 1000000001. -/
def mg (a : Nat) (l : List UInt8) : Nat := l.foldl stp a
theorem mg_nil (a : Nat) : mg a [] = a := by unfold mg; rw [List.foldl_nil]
theorem mg_cons (a : Nat) (b : UInt8) (l : List UInt8) : mg a (b :: l) = mg (min (10 * a + (b.toNat - 48)) 1000000001) l := by unfold mg; rw [List.foldl_cons, stp_eq]
theorem ld_nil : ld [] = [] := rfl
theorem ld_yes {b : UInt8} {r : List UInt8} (h : dg b = true) : ld (b :: r) = b :: ld r := by rw [ld, if_pos h]
theorem ld_no {b : UInt8} {r : List UInt8} (h : dg b = false) : ld (b :: r) = [] := by rw [ld, if_neg (by simp [h])]
theorem mg_le : ∀ (l : List UInt8) (a : Nat), a ≤ 1000000001 → mg a l ≤ 1000000001
  | [], a, h => by rw [mg_nil]; exact h
  | b :: l, a, h => by rw [mg_cons]; exact mg_le l _ (Nat.min_le_right _ _)
theorem ld_len : ∀ l : List UInt8, (ld l).length ≤ l.length
  | [] => by simp [ld]
  | b :: r => by
    rw [ld]
    split
    · simp only [List.length_cons]; have := ld_len r; omega
    · simp
theorem ld_take : ∀ l : List UInt8, l.take (ld l).length = ld l
  | [] => by simp [ld]
  | b :: r => by
    rw [ld]
    split
    · rw [List.length_cons, List.take_succ_cons, ld_take r]
    · simp
theorem ld_dig : ∀ (l : List UInt8) (b : UInt8), b ∈ ld l → dg b = true
  | [], b, h => by simp [ld] at h
  | c :: r, b, h => by
    rw [ld] at h
    split at h
    · rename_i hc
      rcases List.mem_cons.1 h with rfl | h
      · exact hc
      · exact ld_dig r b h
    · simp at h
theorem ld_all : ∀ l : List UInt8, (∀ b ∈ l, dg b = true) → ld l = l
  | [], _ => rfl
  | b :: r, h => by rw [ld_yes (h b List.mem_cons_self), ld_all r fun c hc => h c (List.mem_cons_of_mem _ hc)]
theorem ld_ld (l : List UInt8) : ld (ld l) = ld l := ld_all _ (ld_dig l)
theorem ld_full {l : List UInt8} (h : (ld l).length = l.length) : ld l = l := by rw [← ld_take l, h, List.take_length]

theorem size_eq (s : ByteArray) : s.data.toList.length = s.size := Array.length_toList
theorem drop_at {s : ByteArray} {k : Nat} (h : k < s.size) : s.data.toList.drop k = s[k] :: s.data.toList.drop (k + 1) := by
  rw [List.drop_eq_getElem_cons (by rw [size_eq]; exact h)]
  rfl
theorem drop_end {s : ByteArray} {k : Nat} (h : s.size ≤ k) : s.data.toList.drop k = [] := List.drop_eq_nil_of_le (by rw [size_eq]; exact h)

/-- At place k, with the number n so far: what stands behind gives R and ends at K. -/
def At (s : ByteArray) (k n R K : Nat) : Prop := mg n (ld (s.data.toList.drop k)) = R ∧ k + (ld (s.data.toList.drop k)).length = K ∧ n ≤ 1000000001
theorem At.start (s : ByteArray) (k : Nat) : At s k 0 (mg 0 (ld (s.data.toList.drop k))) (k + (ld (s.data.toList.drop k)).length) := ⟨rfl, rfl, by omega⟩
theorem At.step {s : ByteArray} {k n R K : Nat} (h : At s k n R K) (hk : k < s.size) (hd : dg s[k] = true) : At s (k + 1) (min (10 * n + (s[k].toNat - 48)) 1000000001) R K := by
  obtain ⟨h1, h2, h3⟩ := h
  rw [drop_at hk, ld_yes hd] at h1 h2
  rw [mg_cons] at h1
  rw [List.length_cons] at h2
  exact ⟨h1, by omega, Nat.min_le_right _ _⟩
theorem At.stop {s : ByteArray} {k n R K : Nat} (h : At s k n R K) (hk : k < s.size) (hd : dg s[k] = false) : n = R ∧ k = K := by
  obtain ⟨h1, h2, h3⟩ := h
  rw [drop_at hk, ld_no hd] at h1 h2
  rw [mg_nil] at h1
  exact ⟨h1, by simpa using h2⟩
theorem At.fin {s : ByteArray} {k n R K : Nat} (h : At s k n R K) (hk : s.size ≤ k) : n = R ∧ k = K := by
  obtain ⟨h1, h2, h3⟩ := h
  rw [drop_end hk] at h1 h2
  rw [ld_nil] at h1 h2
  rw [mg_nil] at h1
  exact ⟨h1, by simpa using h2⟩

/-- Whether the text begins with the sign. -/
def neg (s : ByteArray) : Bool := s.data.toList.head? == some 45
def off (s : ByteArray) : Nat := if neg s then 1 else 0
def digs (s : ByteArray) : List UInt8 := ld (s.data.toList.drop (off s))
def mag (s : ByteArray) : Nat := mg 0 (digs s)
/-- LeadingInt. -/
def li (s : ByteArray) : Int := if neg s then -((min (mag s) 1000000000 : Nat) : Int) else ((min (mag s) 1000000000 : Nat) : Int)
/-- IsNumeric. -/
def isn (s : ByteArray) : Bool := decide (1 ≤ s.size - off s) && decide (s.size - off s ≤ 10) && decide ((digs s).length = s.size - off s) && decide (mag s ≤ 1000000000)
theorem mag_le (s : ByteArray) : mag s ≤ 1000000001 := mg_le _ _ (by omega)
theorem neg_lt {s : ByteArray} (h : neg s = true) : 0 < s.size := by
  rcases Nat.eq_zero_or_pos s.size with hz | hz
  · have : s.data.toList = [] := List.eq_nil_of_length_eq_zero (by rw [size_eq]; omega)
    unfold neg at h
    rw [this] at h
    simp at h
  · exact hz
theorem neg_at {s : ByteArray} (h : 0 < s.size) : neg s = (s[0] == 45) := by
  unfold neg
  have : s.data.toList.head? = some s[0] := by
    rw [List.head?_eq_getElem?, List.getElem?_eq_getElem (by rw [size_eq]; exact h)]
    rfl
  rw [this]
  rfl
theorem off_le (s : ByteArray) : off s ≤ s.size := by
  unfold off
  split
  · rename_i h; exact neg_lt h
  · omega
/-- What the model's scan gives: the number and how many bytes it takes. -/
def scn (s : ByteArray) : Int × Nat := if (digs s).length = 0 then (0, 0) else if neg s then (-(mag s : Int), 1 + (digs s).length) else ((mag s : Int), (digs s).length)
theorem li_scn (s : ByteArray) : li s = max (-1000000000) (min 1000000000 (scn s).1) := by
  unfold li scn
  by_cases h0 : (digs s).length = 0
  · have hm : mag s = 0 := by unfold mag; rw [List.eq_nil_of_length_eq_zero h0, mg_nil]
    rw [if_pos h0, hm]
    split <;> simp <;> omega
  · rw [if_neg h0]
    split <;> omega
theorem scn_le (s : ByteArray) : -1000000001 ≤ (scn s).1 ∧ (scn s).1 ≤ 1000000001 := by
  have := mag_le s
  unfold scn
  split
  · simp
  · split <;> simp <;> omega
theorem scn_take (s : ByteArray) : (scn s).2 ≤ s.size := by
  have h1 : (digs s).length ≤ s.size - off s := by
    unfold digs
    have := ld_len (s.data.toList.drop (off s))
    rw [List.length_drop, size_eq] at this
    exact this
  have h2 := off_le s
  unfold scn
  split
  · simp
  · unfold off at h1 h2
    split <;> rename_i hn <;> simp only [hn] at h1 h2 <;> simp at h1 h2 ⊢ <;> omega
theorem isn_scn (s : ByteArray) : isn s = (decide ((0 : Int) < (scn s).2) && decide ((scn s).2 = s.size) && (decide ((-1000000000 : Int) ≤ (scn s).1) && decide ((scn s).1 ≤ (1000000000 : Int))) && (decide ((scn s).2 ≤ 10) || decide ((scn s).2 = 11) && neg s)) := by
  have h1 : (digs s).length ≤ s.size - off s := by
    unfold digs
    have := ld_len (s.data.toList.drop (off s))
    rw [List.length_drop, size_eq] at this
    exact this
  have h2 := off_le s
  have hm := mag_le s
  unfold isn scn
  rw [Bool.eq_iff_iff]
  simp only [Bool.and_eq_true, Bool.or_eq_true, decide_eq_true_eq]
  unfold off at h1 h2 ⊢
  by_cases h0 : (digs s).length = 0
  · rw [if_pos h0]
    constructor
    · rintro ⟨⟨⟨a, b⟩, c⟩, d⟩; omega
    · rintro ⟨⟨⟨a, b⟩, c⟩, d⟩; simp at a
  · rw [if_neg h0]
    by_cases hn : neg s = true
    · simp only [hn, if_true] at h1 h2 ⊢
      constructor
      · rintro ⟨⟨⟨a, b⟩, c⟩, d⟩; simp; omega
      · rintro ⟨⟨⟨a, b⟩, c⟩, d⟩; simp at a c d; omega
    · simp only [hn] at h1 h2 ⊢
      simp at h1 h2
      constructor
      · rintro ⟨⟨⟨a, b⟩, c⟩, d⟩; simp at a b c ⊢; omega
      · rintro ⟨⟨⟨a, b⟩, c⟩, d⟩; simp at a b c d ⊢; omega

end Go.Proofs.YtakdbfifbkngnaaGreatDoor.lead

/-
  Plain facts on decimal numerals, without the program: a numeral is read back, its digits are digits, and what the project's and the model's way of reading a text give is the same number.
  Conditions: those that each theorem names.
-/
namespace Go.Proofs.YtakdbfifbkngnaaGreatDoor.dec
open Go.Lib

def isDig (b : UInt8) : Prop := 48 ≤ b.toNat ∧ b.toNat ≤ 57
instance (b : UInt8) : Decidable (isDig b) := by unfold isDig; infer_instance

def digStep (a : Nat) (b : UInt8) : Nat := 10 * a + (b.toNat - 48)
theorem digStep_eq (a : Nat) (b : UInt8) : digStep a b = 10 * a + (b.toNat - 48) := by unfold digStep; rfl
def valFrom (a : Nat) (l : List UInt8) : Nat := l.foldl digStep a
def val (l : List UInt8) : Nat := valFrom 0 l

theorem valFrom_nil (a : Nat) : valFrom a [] = a := by unfold valFrom; rw [List.foldl_nil]
theorem valFrom_cons (a : Nat) (b : UInt8) (l : List UInt8) : valFrom a (b :: l) = valFrom (10 * a + (b.toNat - 48)) l := by unfold valFrom; rw [List.foldl_cons, digStep_eq]
theorem valFrom_snoc (l : List UInt8) (a : Nat) (b : UInt8) : valFrom a (l ++ [b]) = 10 * valFrom a l + (b.toNat - 48) := by
  unfold valFrom
  rw [List.foldl_append, List.foldl_cons, List.foldl_nil, digStep_eq]
theorem val_snoc (l : List UInt8) (b : UInt8) : val (l ++ [b]) = 10 * val l + (b.toNat - 48) := valFrom_snoc l 0 b

theorem toNat_dig {d : Nat} (h : d < 10) : (UInt8.ofNat (48 + d)).toNat = 48 + d := by
  rw [UInt8.toNat_ofNat']
  omega

theorem decDigits_step {u : Nat} (h : ¬ u < 10) : decDigits u = decDigits (u / 10) ++ [UInt8.ofNat (48 + u % 10)] := by
  rw [decDigits, dif_neg h]

theorem decDigits_dig : ∀ (u : Nat) (b : UInt8), b ∈ decDigits u → isDig b := by
  intro u
  induction u using Nat.strongRecOn with
  | _ u ih =>
    intro b hb
    by_cases h : u < 10
    · rw [decDigits_one h] at hb
      simp only [List.mem_singleton] at hb
      subst hb
      unfold isDig
      rw [toNat_dig h]
      omega
    · rw [decDigits_step h] at hb
      rcases List.mem_append.1 hb with hb | hb
      · exact ih (u / 10) (by omega) b hb
      · simp only [List.mem_singleton] at hb
        subst hb
        unfold isDig
        rw [toNat_dig (by omega)]
        omega

theorem val_decDigits (u : Nat) : val (decDigits u) = u := by
  induction u using Nat.strongRecOn with
  | _ u ih =>
    by_cases h : u < 10
    · rw [decDigits_one h]
      unfold val
      rw [valFrom_cons, valFrom_nil, toNat_dig h]
      omega
    · rw [decDigits_step h, val_snoc, ih (u / 10) (by omega), toNat_dig (by omega)]
      omega

theorem decDigits_ne (u : Nat) : decDigits u ≠ [] := by
  intro h
  have := decDigits_length u
  rw [h] at this
  have h1 := nDigits_pos u
  simp at this
  omega

theorem nDigits_le : ∀ (k u : Nat), 1 ≤ k → u < 10 ^ k → nDigits u ≤ k
  | 0, u, h, _ => by omega
  | k + 1, u, _, h => by
    by_cases hs : u < 10
    · rw [nDigits_small hs]; omega
    · rw [nDigits_big hs]
      rw [Nat.pow_succ] at h
      by_cases hk : k = 0
      · subst hk; simp at h; omega
      · have := nDigits_le k (u / 10) (by omega) (by omega)
        omega

theorem valFrom_ge : ∀ (l : List UInt8) (a : Nat), a ≤ valFrom a l
  | [], a => by rw [valFrom_nil]; omega
  | b :: l, a => by
    rw [valFrom_cons]
    have := valFrom_ge l (10 * a + (b.toNat - 48))
    omega

theorem parse_digs : ∀ (l : List UInt8) (a : Nat), (∀ b ∈ l, isDig b) → valFrom a l < 18446744073709551616 → parseUint10 a l = .ok (valFrom a l)
  | [], a, _, _ => rfl
  | b :: l, a, hd, hv => by
    have hb : isDig b := hd b List.mem_cons_self
    unfold isDig at hb
    rw [valFrom_cons] at hv ⊢
    have h1 := valFrom_ge l (10 * a + (b.toNat - 48))
    have e : a * 10 + (b.toNat - 48) = 10 * a + (b.toNat - 48) := by omega
    rw [parseUint10, if_pos hb, if_neg (by omega), if_neg (by omega), e]
    exact parse_digs l _ (fun x hx => hd x (List.mem_cons_of_mem _ hx)) hv

theorem parseMag_dec {u : Nat} (h : u < 18446744073709551616) : parseMag (decDigits u) = .ok u := by
  unfold parseMag
  rw [if_neg (decDigits_ne u)]
  have hv := val_decDigits u
  unfold val at hv
  rw [parse_digs _ 0 (decDigits_dig u) (by omega), hv]

theorem head_dec (u : Nat) : ∃ b r, decDigits u = b :: r ∧ isDig b := by
  cases h : decDigits u with
  | nil => exact absurd h (decDigits_ne u)
  | cons b r => exact ⟨b, r, rfl, decDigits_dig u b (by rw [h]; exact List.mem_cons_self)⟩

/-- What is written is read again. -/
theorem atoi_itoa (n : Int) (h0 : -9223372036854775808 ≤ n) (h1 : n ≤ 9223372036854775807) : atoiAll (itoa n) = .ok n := by
  unfold itoa
  by_cases hn : n < 0
  · rw [if_pos hn, atoiAll_minus, parseMag_dec (by omega)]
    simp only [signed]
    rw [if_neg (by omega)]
    congr 1
    omega
  · rw [if_neg hn]
    obtain ⟨b, r, e, hb⟩ := head_dec n.toNat
    unfold isDig at hb
    have hp : parseMag (b :: r) = .ok n.toNat := by rw [← e]; exact parseMag_dec (by omega)
    rw [e, atoiAll_plain b r (by omega) (by omega), hp]
    simp only [signless]
    rw [if_neg (by omega)]
    congr 1
    omega

theorem itoa_inj {n m : Int} (h0 : -9223372036854775808 ≤ n) (h1 : n ≤ 9223372036854775807) (k0 : -9223372036854775808 ≤ m) (k1 : m ≤ 9223372036854775807) (h : itoa n = itoa m) : n = m := by
  have a := atoi_itoa n h0 h1
  have b := atoi_itoa m k0 k1
  rw [h, b] at a
  injection a with a
  exact a.symm

/-- What the project's reading gives, of the numbers from low to high. -/
def pr (low high : Int) (l : List UInt8) : Int × Bool :=
  match atoiAll l with
  | .ok n => if itoa n = l ∧ low ≤ n ∧ n ≤ high then (n, true) else (0, false)
  | _ => (0, false)

theorem pr_yes {low high n : Int} {l : List UInt8} (h : itoa n = l) (h0 : -9223372036854775808 ≤ n) (h1 : n ≤ 9223372036854775807) (hl : low ≤ n) (hh : n ≤ high) : pr low high l = (n, true) := by
  have e : atoiAll l = .ok n := by rw [← h]; exact atoi_itoa n h0 h1
  unfold pr
  rw [e]
  exact if_pos ⟨h, hl, hh⟩

theorem pr_no {low high : Int} {l : List UInt8} (h : ∀ n, itoa n = l → low ≤ n → n ≤ high → False) : pr low high l = (0, false) := by
  unfold pr
  split
  · rw [if_neg (fun hh => h _ hh.1 hh.2.1 hh.2.2)]
  · rfl

theorem pr_true {low high : Int} {l : List UInt8} (h : (pr low high l).2 = true) : itoa (pr low high l).1 = l ∧ low ≤ (pr low high l).1 ∧ (pr low high l).1 ≤ high := by
  unfold pr at h ⊢
  split at h
  · split at h
    · rename_i hc
      rw [if_pos hc]
      exact hc
    · cases h
  · cases h

theorem pr_false {low high : Int} {l : List UInt8} (h : (pr low high l).2 = false) : (pr low high l).1 = 0 := by
  unfold pr at h ⊢
  split at h
  · split at h
    · cases h
    · rename_i hc
      rw [if_neg hc]
  · rfl

/-- What the model's reading gives. -/
def sp (l : List UInt8) : Int × Bool := if 1 ≤ l.length ∧ l.length ≤ 13 ∧ (∀ b ∈ l, isDig b) ∧ val l ≤ 1000000000000 ∧ itoa (val l : Int) = l then ((val l : Int), true) else (0, false)

theorem itoa_nat (u : Nat) : itoa (u : Int) = decDigits u := by unfold itoa; rw [if_neg (by omega)]; simp

theorem sp_eq (l : List UInt8) : sp l = pr 0 1000000000000 l := by
  unfold sp
  split
  · rename_i h
    obtain ⟨_, _, _, h4, h5⟩ := h
    exact (pr_yes h5 (by omega) (by omega) (by omega) (by omega)).symm
  · rename_i h
    refine (pr_no fun n hn h0 h1 => h ?_).symm
    obtain ⟨u, rfl⟩ := Int.eq_ofNat_of_zero_le h0
    rw [itoa_nat] at hn
    have hv := val_decDigits u
    have hl := decDigits_length u
    have hp := nDigits_pos u
    have hd := nDigits_le 13 u (by omega) (by have : (10 : Nat) ^ 13 = 10000000000000 := by decide
                                              omega)
    subst hn
    rw [hv, itoa_nat]
    exact ⟨by omega, by omega, decDigits_dig u, by omega, rfl⟩

/-- What the model's reading with a sign gives. -/
def sps (l : List UInt8) : Int × Bool :=
  if l.head? = some 45 then
    (if (sp l.tail).2 = true ∧ (sp l.tail).1 ≤ 1000000000 ∧ (sp l.tail).1 ≠ 0 then (-(sp l.tail).1, true) else (0, false))
  else
    (if (sp l).2 = true ∧ (sp l).1 ≤ 1000000000 then ((sp l).1, true) else (0, false))

theorem itoa_neg' {n : Int} (h : n < 0) : itoa n = 45 :: decDigits n.natAbs := by unfold itoa; rw [if_pos h]
theorem itoa_pos' {n : Int} (h : ¬ n < 0) : itoa n = decDigits n.toNat := by unfold itoa; rw [if_neg h]

theorem dig_head {u : Nat} : (decDigits u).head? ≠ some 45 := by
  obtain ⟨b, r, e, hb⟩ := head_dec u
  rw [e]
  intro h
  simp only [List.head?_cons, Option.some.injEq] at h
  subst h
  unfold isDig at hb
  have : (45 : UInt8).toNat = 45 := rfl
  omega

theorem sps_eq (l : List UInt8) : sps l = pr (-1000000000) 1000000000 l := by
  unfold sps
  rw [sp_eq, sp_eq]
  split
  · rename_i hh
    obtain ⟨r, rfl⟩ : ∃ r, l = 45 :: r := by
      cases l with
      | nil => simp at hh
      | cons b r => simp at hh; exact ⟨r, by rw [hh]⟩
    have ht : (45 :: r).tail = r := rfl
    rw [ht]
    by_cases hc : (pr 0 1000000000000 r).2 = true ∧ (pr 0 1000000000000 r).1 ≤ 1000000000 ∧ (pr 0 1000000000000 r).1 ≠ 0
    · rw [if_pos hc]
      obtain ⟨c1, c2, c3⟩ := hc
      obtain ⟨e1, e2, e3⟩ := pr_true c1
      refine (pr_yes ?_ (by omega) (by omega) (by omega) (by omega)).symm
      rw [itoa_neg' (by omega)]
      rw [itoa_pos' (by omega)] at e1
      rw [← e1]
      congr 2
      rw [e1]
      omega
    · rw [if_neg hc]
      refine (pr_no fun n hn h0 h1 => hc ?_).symm
      by_cases hneg : n < 0
      · rw [itoa_neg' hneg] at hn
        injection hn with _ hn
        have hy : pr 0 1000000000000 r = ((n.natAbs : Int), true) := pr_yes (by rw [itoa_nat, hn]) (by omega) (by omega) (by omega) (by omega)
        rw [hy]
        exact ⟨rfl, by show (n.natAbs : Int) ≤ 1000000000; omega, by show (n.natAbs : Int) ≠ 0; omega⟩
      · rw [itoa_pos' hneg] at hn
        exact absurd (by rw [hn]; rfl) (dig_head (u := n.toNat))
  · rename_i hh
    by_cases hc : (pr 0 1000000000000 l).2 = true ∧ (pr 0 1000000000000 l).1 ≤ 1000000000
    · rw [if_pos hc]
      obtain ⟨c1, c2⟩ := hc
      obtain ⟨e1, e2, e3⟩ := pr_true c1
      exact (pr_yes e1 (by omega) (by omega) (by omega) (by omega)).symm
    · rw [if_neg hc]
      refine (pr_no fun n hn h0 h1 => hc ?_).symm
      by_cases hneg : n < 0
      · rw [itoa_neg' hneg] at hn
        exact absurd (by rw [← hn]; rfl) hh
      · have hy : pr 0 1000000000000 l = (n, true) := pr_yes hn (by omega) (by omega) (by omega) (by omega)
        rw [hy]
        exact ⟨rfl, by show n ≤ 1000000000; omega⟩

end Go.Proofs.YtakdbfifbkngnaaGreatDoor.dec

/-
  Lexing, without the program: names, strings, marks, tokens, and the way from one place of a source to the next.
  Conditions: those that each theorem names.
-/
namespace Go.Proofs.YtakdbfifbkngnaaGreatDoor.lex
set_option linter.unusedVariables false

abbrev tx (l : List UInt8) : ByteArray := ⟨l.toArray⟩
theorem tx_list (l : List UInt8) : (tx l).data.toList = l := by simp []
theorem tx_size (l : List UInt8) : (tx l).size = l.length := by simp [ByteArray.size]
theorem tx_of (s : ByteArray) : tx s.data.toList = s := by cases s; simp [tx]

/-- A letter of names, by its number. -/
def isLn (n : Nat) : Bool := decide (97 ≤ n) && decide (n ≤ 122) || decide (65 ≤ n) && decide (n ≤ 90) || decide (n = 95)
def isDn (n : Nat) : Bool := decide (48 ≤ n) && decide (n ≤ 57)
def isPn (n : Nat) : Bool := isLn n || isDn n
theorem isLn_iff {n : Nat} : isLn n = true ↔ (97 ≤ n ∧ n ≤ 122) ∨ (65 ≤ n ∧ n ≤ 90) ∨ n = 95 := by unfold isLn; simp [or_assoc]
theorem isLn_no {n : Nat} : isLn n = false ↔ ¬ ((97 ≤ n ∧ n ≤ 122) ∨ (65 ≤ n ∧ n ≤ 90) ∨ n = 95) := by rw [← isLn_iff]; simp
theorem isDn_iff {n : Nat} : isDn n = true ↔ 48 ≤ n ∧ n ≤ 57 := by unfold isDn; simp
theorem isDn_no {n : Nat} : isDn n = false ↔ ¬ (48 ≤ n ∧ n ≤ 57) := by rw [← isDn_iff]; simp
theorem isLn_hi {n : Nat} (h : 128 ≤ n) : isLn n = false := isLn_no.2 (by omega)
theorem isDn_hi {n : Nat} (h : 128 ≤ n) : isDn n = false := isDn_no.2 (by omega)
theorem isPn_hi {n : Nat} (h : 128 ≤ n) : isPn n = false := by unfold isPn; rw [isLn_hi h, isDn_hi h]; rfl

/-- How many parts of a name stand at the front; how long the name there is. -/
def partLen : List UInt8 → Nat
  | [] => 0
  | b :: l => if isPn b.toNat then partLen l + 1 else 0
def nameLen : List UInt8 → Nat
  | [] => 0
  | b :: l => if isLn b.toNat then partLen l + 1 else 0
theorem partLen_le : ∀ l : List UInt8, partLen l ≤ l.length
  | [] => Nat.le_refl _
  | b :: l => by
    rw [partLen]
    split
    · have := partLen_le l; simp; omega
    · simp
theorem nameLen_le : ∀ l : List UInt8, nameLen l ≤ l.length
  | [] => Nat.le_refl _
  | b :: l => by
    rw [nameLen]
    split
    · have := partLen_le l; simp; omega
    · simp
theorem partLen_yes {b : UInt8} {l : List UInt8} (h : isPn b.toNat = true) : partLen (b :: l) = partLen l + 1 := by rw [partLen, if_pos h]
theorem partLen_no {b : UInt8} {l : List UInt8} (h : isPn b.toNat = false) : partLen (b :: l) = 0 := by rw [partLen, if_neg (by simp [h])]
theorem nameLen_yes {b : UInt8} {l : List UInt8} (h : isLn b.toNat = true) : nameLen (b :: l) = partLen (b :: l) := by rw [nameLen, if_pos h, partLen_yes (by unfold isPn; rw [h]; rfl)]
theorem nameLen_yes' {b : UInt8} {l : List UInt8} (h : isLn b.toNat = true) : nameLen (b :: l) = partLen l + 1 := by rw [nameLen, if_pos h]
theorem nameLen_no {b : UInt8} {l : List UInt8} (h : isLn b.toNat = false) : nameLen (b :: l) = 0 := by rw [nameLen, if_neg (by simp [h])]
/-- A name of 1 to 20 bytes. -/
def nameB (s : ByteArray) : Bool := decide (1 ≤ s.size) && decide (s.size ≤ 20) && decide (nameLen s.data.toList = s.size)

/-- How many bytes stand ahead of a text. -/
def upto (p : List UInt8) : List UInt8 → Nat
  | [] => 0
  | b :: l => if p.isPrefixOf (b :: l) then 0 else upto p l + 1
theorem upto_le (p : List UInt8) : ∀ l : List UInt8, upto p l ≤ l.length
  | [] => Nat.le_refl _
  | b :: l => by
    rw [upto]
    split
    · simp
    · have := upto_le p l; simp; omega
theorem upto_yes {p : List UInt8} {b : UInt8} {l : List UInt8} (h : p.isPrefixOf (b :: l) = true) : upto p (b :: l) = 0 := by rw [upto, if_pos h]
theorem upto_no {p : List UInt8} {b : UInt8} {l : List UInt8} (h : p.isPrefixOf (b :: l) = false) : upto p (b :: l) = upto p l + 1 := by rw [upto, if_neg (by simp [h])]
theorem upto_index (a : UInt8) (p : List UInt8) : ∀ l : List UInt8, (Lib.index l (a :: p) = -1 ∧ upto (a :: p) l = l.length) ∨ (Lib.index l (a :: p) = (upto (a :: p) l : Int) ∧ upto (a :: p) l < l.length)
  | [] => .inl ⟨rfl, rfl⟩
  | b :: l => by
    by_cases h : (a :: p).isPrefixOf (b :: l) = true
    · refine .inr ⟨?_, ?_⟩
      · rw [Lib.index, if_pos h, upto_yes h]; rfl
      · rw [upto_yes h]; simp
    · have h' : (a :: p).isPrefixOf (b :: l) = false := Bool.eq_false_iff.2 h
      rw [upto_no h', Lib.index, if_neg h]
      rcases upto_index a p l with ⟨h1, h2⟩ | ⟨h1, h2⟩
      · refine .inl ⟨by rw [h1]; rfl, by rw [h2]; rfl⟩
      · refine .inr ⟨?_, by simp; omega⟩
        rw [h1, if_neg]
        · simp
        · rw [beq_iff_eq]; omega
/-- What strings.Cut gives, by 'upto'. -/
theorem cut_upto (a : UInt8) (p l : List UInt8) : (Lib.cut l (a :: p)).1 = l.take (upto (a :: p) l) ∧ (Lib.cut l (a :: p)).2.2 = decide (upto (a :: p) l < l.length) := by
  unfold Lib.cut
  rcases upto_index a p l with ⟨h1, h2⟩ | ⟨h1, h2⟩
  · rw [h1, if_neg (by omega), h2]; simp
  · rw [h1, if_pos (by omega)]; simp [h2]
theorem upto_at (p : List UInt8) : ∀ (l : List UInt8), upto p l < l.length → p.isPrefixOf (l.drop (upto p l)) = true
  | [], h => by simp [upto] at h
  | b :: l, h => by
    by_cases hp : p.isPrefixOf (b :: l) = true
    · rw [upto_yes hp]; exact hp
    · have hp' : p.isPrefixOf (b :: l) = false := Bool.eq_false_iff.2 hp
      rw [upto_no hp'] at h ⊢
      rw [List.drop_succ_cons]
      exact upto_at p l (by simpa using h)

/-- How long the comment at the front is. -/
def cmt : List UInt8 → Nat
  | [] => 0
  | b :: l => if (b == 10) || [63, 62].isPrefixOf (b :: l) then 0 else cmt l + 1
theorem cmt_le : ∀ l : List UInt8, cmt l ≤ l.length
  | [] => Nat.le_refl _
  | b :: l => by
    rw [cmt]
    split
    · simp
    · have := cmt_le l; simp; omega
theorem cmt_eq : ∀ l : List UInt8, upto [63, 62] (l.take (upto [10] l)) = cmt l
  | [] => rfl
  | b :: l => by
    by_cases h : b = 10
    · subst h
      rw [upto_yes (p := [10]) (by simp [List.isPrefixOf])]
      rfl
    · have h' : [(10 : UInt8)].isPrefixOf (b :: l) = false := by simp [List.isPrefixOf]; exact fun e => h e.symm
      have hb : (b == 10) = false := by simpa using h
      rw [upto_no h', List.take_succ_cons]
      have hp : [(63 : UInt8), 62].isPrefixOf (b :: l.take (upto [10] l)) = [63, 62].isPrefixOf (b :: l) := by
        cases l with
        | nil => rfl
        | cons c r =>
          by_cases hc : c = 10
          · subst hc
            rw [upto_yes (p := [10]) (by simp [List.isPrefixOf])]
            simp [List.isPrefixOf]
          · have hc' : [(10 : UInt8)].isPrefixOf (c :: r) = false := by simp [List.isPrefixOf]; exact fun e => hc e.symm
            rw [upto_no hc', List.take_succ_cons]
            simp [List.isPrefixOf]
      rw [cmt, hb, Bool.false_or]
      by_cases hq : [(63 : UInt8), 62].isPrefixOf (b :: l) = true
      · rw [if_pos hq, upto_yes (hp.trans hq)]
      · have hq' : [(63 : UInt8), 62].isPrefixOf (b :: l) = false := Bool.eq_false_iff.2 hq
        rw [if_neg hq, upto_no (hp.trans hq'), cmt_eq l]

/-- The bytes that separate tokens. -/
def spB (b : UInt8) : Bool := [32, 9, 10, 13].contains b
def spc : List UInt8 → Nat
  | [] => 0
  | b :: l => if spB b then spc l + 1 else 0
theorem spc_le : ∀ l : List UInt8, spc l ≤ l.length
  | [] => Nat.le_refl _
  | b :: l => by
    rw [spc]
    split
    · have := spc_le l; simp; omega
    · simp
theorem spc_trim : ∀ l : List UInt8, Lib.trimLeftS l [32, 9, 10, 13] = l.drop (spc l)
  | [] => rfl
  | b :: l => by
    unfold Lib.trimLeftS
    rw [List.dropWhile_cons, spc]
    by_cases h : spB b = true
    · rw [if_pos h, List.drop_succ_cons]; exact (if_pos h).trans (spc_trim l)
    · rw [if_neg h]; exact if_neg h
theorem spc_at {b : UInt8} {l r : List UInt8} (h : l.drop (spc l) = b :: r) : spB b = false := by
  induction l with
  | nil => simp [spc] at h
  | cons c l ih =>
    rw [spc] at h
    by_cases hc : spB c = true
    · rw [if_pos hc, List.drop_succ_cons] at h; exact ih h
    · rw [if_neg hc] at h
      simp at h
      obtain ⟨rfl, rfl⟩ := h
      simpa using hc

/-- What a string says, and where it ends, behind its first mark. -/
def str : List UInt8 → Option (List UInt8 × Nat)
  | [] => none
  | b :: l =>
    if b = 39 then some ([], 1)
    else match l with
      | [] => none
      | c :: r => if b = 92 ∧ (c = 39 ∨ c = 92) then (str r).map fun x => (c :: x.1, x.2 + 2) else (str (c :: r)).map fun x => (b :: x.1, x.2 + 1)
def pre (a : List UInt8) (n : Nat) (o : Option (List UInt8 × Nat)) : Option (List UInt8 × Nat) := o.map fun x => (a ++ x.1, n + x.2)
theorem pre_nil (o) : pre [] 0 o = o := by cases o <;> simp [pre]
theorem pre_pre (a b : List UInt8) (n m : Nat) (o) : pre a n (pre b m o) = pre (a ++ b) (n + m) o := by cases o <;> simp [pre, Nat.add_assoc]
/-- One piece of a string. -/
theorem str_quote (l : List UInt8) : str (39 :: l) = some ([], 1) := by rw [str.eq_def]; simp
theorem str_nil : str [] = none := rfl
theorem str_esc {c : UInt8} {r : List UInt8} (h : c = 39 ∨ c = 92) : str (92 :: c :: r) = pre [c] 2 (str r) := by
  rw [str.eq_def]
  simp only [show ((92 : UInt8) = 39) = False by decide, if_false, h, and_self, if_true, pre]
  cases str r <;> simp [Nat.add_comm]
theorem str_byte {b : UInt8} {l : List UInt8} (hq : b ≠ 39) (h : ¬ (b = 92 ∧ ∃ c r, l = c :: r ∧ (c = 39 ∨ c = 92))) : str (b :: l) = pre [b] 1 (str l) := by
  rw [str.eq_def]
  simp only [hq, if_false]
  cases l with
  | nil => simp [str, pre]
  | cons c r =>
    have : ¬ (b = 92 ∧ (c = 39 ∨ c = 92)) := fun hh => h ⟨hh.1, c, r, rfl, hh.2⟩
    simp only [this, if_false, pre]
    cases str (c :: r) <;> simp [Nat.add_comm]
theorem str_len : ∀ (n : Nat) (l : List UInt8), l.length ≤ n → ∀ t k, str l = some (t, k) → k ≤ l.length ∧ 1 ≤ k ∧ t.length < k
  | 0, [], _, t, k, h => by simp [str] at h
  | n + 1, l, hl, t, k, h => by
    cases l with
    | nil => simp [str] at h
    | cons b l =>
      by_cases hb : b = 39
      · subst hb; rw [str_quote] at h; cases h; simp
      · by_cases he : b = 92 ∧ ∃ c r, l = c :: r ∧ (c = 39 ∨ c = 92)
        · obtain ⟨rfl, c, r, rfl, hc⟩ := he
          rw [str_esc hc] at h
          cases hr : str r with
          | none => rw [hr] at h; simp [pre] at h
          | some x =>
            rw [hr] at h
            simp [pre] at h
            obtain ⟨rfl, rfl⟩ := h
            have := str_len n r (by simp at hl; omega) x.1 x.2 hr
            simp; omega
        · rw [str_byte hb he] at h
          cases hr : str l with
          | none => rw [hr] at h; simp [pre] at h
          | some x =>
            rw [hr] at h
            simp [pre] at h
            obtain ⟨rfl, rfl⟩ := h
            have := str_len n l (by simp at hl; omega) x.1 x.2 hr
            simp; omega

/-- The marks, in their order; the mark at the front. -/
def marks : List (List UInt8) := [[61, 61, 61], [33, 61, 61], [60, 61, 62], [61, 61], [33, 61], [60, 61], [62, 61], [61, 62], [45, 62], [58, 58], [38, 38], [124, 124], [63, 63],
  [43], [45], [42], [47], [37], [46], [61], [33], [60], [62], [40], [41], [91], [93], [123], [125], [44], [59], [63], [58], [38]]
def mark (l : List UInt8) : List UInt8 := (marks.find? fun m => m.isPrefixOf l).getD []
theorem mark_len (l : List UInt8) : (mark l).length ≤ 3 := by
  unfold mark
  cases h : marks.find? (fun m => m.isPrefixOf l) with
  | none => simp
  | some m =>
    have hm := List.mem_of_find?_eq_some h
    have : ∀ m ∈ marks, m.length ≤ 3 := by decide
    exact this m hm
theorem mark_pre (l : List UInt8) : (mark l).isPrefixOf l = true := by
  unfold mark
  cases h : marks.find? (fun m => m.isPrefixOf l) with
  | none => simp []
  | some m => simpa using List.find?_some h

/-- What a token's reading gives. -/
inductive TR where
  | bad (c : Nat)
  | good (k : Nat) (n : Int) (t : List UInt8) (z : Nat)
def tokR : List UInt8 → TR
  | [] => .bad 2
  | b :: l =>
    if b = 36 then (if nameLen l = 0 then .bad 2 else .good 2 0 (l.take (nameLen l)) (nameLen l + 1))
    else if isLn b.toNat then .good 3 0 ((b :: l).take (nameLen (b :: l))) (nameLen (b :: l))
    else if isDn b.toNat then (if (dec.pr (-1000000000) 1000000000 (lead.ld (b :: l))).2 then .good 4 (dec.pr (-1000000000) 1000000000 (lead.ld (b :: l))).1 [] (lead.ld (b :: l)).length else .bad 4)
    else if b = 39 then (match str l with | some (t, k) => if t.length ≤ 400 then .good 5 0 t (k + 1) else .bad 3 | none => .bad 3)
    else if mark (b :: l) = [] then .bad 2 else .good 6 0 (mark (b :: l)) (mark (b :: l)).length

/-- A token. -/
structure Tk where
  kind : Int
  num : Int
  text : ByteArray
  at_ : Int

/-- A step of the lexer: from a place, in code or not. -/
inductive SR where
  | bad (c : Nat)
  | go (ts : List Tk) (c : Bool) (p : Nat)
def inlT (k p : Nat) (l : List UInt8) : List Tk := if k = 0 then [] else [⟨1, 0, tx (l.take k), p⟩]
def stp (L : List UInt8) (c : Bool) (p : Nat) : SR :=
  if c = false then
    (if p + upto [60, 63] (L.drop p) < L.length then
      (if [60, 63, 61].isPrefixOf (L.drop (p + upto [60, 63] (L.drop p))) then .go (inlT (upto [60, 63] (L.drop p)) p (L.drop p) ++ [⟨3, 0, tx [101, 99, 104, 111], ((p + upto [60, 63] (L.drop p) : Nat) : Int)⟩]) true (p + upto [60, 63] (L.drop p) + 3)
       else .go (inlT (upto [60, 63] (L.drop p)) p (L.drop p)) true (p + upto [60, 63] (L.drop p) + 2))
     else .go (inlT (upto [60, 63] (L.drop p)) p (L.drop p)) false (p + upto [60, 63] (L.drop p) + 2))
  else if [63, 62].isPrefixOf (L.drop p) then .go [⟨6, 0, tx [59], p⟩] false (p + 2 + if [10].isPrefixOf (L.drop (p + 2)) then 1 else 0)
  else if [47, 47].isPrefixOf (L.drop p) then .go [] true (p + cmt (L.drop p))
  else if spc (L.drop p) ≠ 0 then .go [] true (p + 1)
  else match tokR (L.drop p) with
    | .bad c => .bad c
    | .good k n t z => .go [⟨k, n, tx t, p⟩] true (p + z)

/-- What lexing gives. -/
inductive R where
  | ok (ts : List Tk)
  | bad (c p : Nat)
def R.push (a : List Tk) : R → R
  | .ok ts => .ok (a ++ ts)
  | .bad c p => .bad c p
theorem R.push_nil (r : R) : r.push [] = r := by cases r <;> rfl
theorem R.push_push (a b : List Tk) (r : R) : (r.push b).push a = r.push (a ++ b) := by cases r <;> simp [R.push]

inductive Lx (L : List UInt8) : Bool → Nat → R → Prop
  | fin {c p} : L.length ≤ p → Lx L c p (.ok [])
  | bad {c p k} : p < L.length → stp L c p = .bad k → Lx L c p (.bad k p)
  | go {c p ts c' p' r} : p < L.length → stp L c p = .go ts c' p' → Lx L c' p' r → Lx L c p (r.push ts)
theorem Lx.det {L : List UInt8} {c : Bool} {p : Nat} {r r' : R} (h : Lx L c p r) : Lx L c p r' → r = r' := by
  induction h generalizing r' with
  | fin hp => intro h'; cases h' with
    | fin => rfl
    | bad h1 => omega
    | go h1 => omega
  | bad hp hs => intro h'; cases h' with
    | fin h1 => omega
    | bad h1 h2 => rw [hs] at h2; cases h2; rfl
    | go h1 h2 => rw [hs] at h2; cases h2
  | go hp hs hr ih => intro h'; cases h' with
    | fin h1 => omega
    | bad h1 h2 => rw [hs] at h2; cases h2
    | go h1 h2 h3 => rw [hs] at h2; cases h2; rw [ih h3]

/-- What has been read so far: the rest gives the whole. -/
def Sofar (L : List UInt8) (c : Bool) (p : Nat) (out : List Tk) : Prop := out.length ≤ p ∧ ∀ r, Lx L c p r → Lx L false 0 (r.push out)
theorem Sofar.start (L : List UInt8) : Sofar L false 0 [] := ⟨Nat.le_refl _, fun r h => by rw [R.push_nil]; exact h⟩
theorem Sofar.step {L : List UInt8} {c c' : Bool} {p p' : Nat} {out ts : List Tk} (h : Sofar L c p out) (hp : p < L.length) (hs : stp L c p = .go ts c' p') (hl : p + ts.length ≤ p') : Sofar L c' p' (out ++ ts) :=
  ⟨by rw [List.length_append]; have := h.1; omega, fun r hr => by rw [← R.push_push]; exact h.2 _ (.go hp hs hr)⟩
theorem Sofar.end_ {L : List UInt8} {c : Bool} {p : Nat} {out : List Tk} (h : Sofar L c p out) (hp : L.length ≤ p) : Lx L false 0 (.ok out) := by
  have := h.2 _ (.fin hp)
  simpa [R.push] using this
theorem Sofar.fail {L : List UInt8} {c : Bool} {p k : Nat} {out : List Tk} (h : Sofar L c p out) (hp : p < L.length) (hs : stp L c p = .bad k) : Lx L false 0 (.bad k p) := h.2 _ (.bad hp hs)

theorem inlT_len (k p : Nat) (l : List UInt8) : (inlT k p l).length ≤ 1 ∧ (inlT k p l).length ≤ k := by
  unfold inlT
  split
  · simp
  · simp; omega
theorem tokR_pos {l : List UInt8} {k z : Nat} {n : Int} {t : List UInt8} (h : tokR l = .good k n t z) : 1 ≤ z ∧ z ≤ l.length := by
  cases l with
  | nil => simp [tokR] at h
  | cons b l =>
    rw [tokR] at h
    split at h
    · split at h
      · cases h
      · cases h; have := nameLen_le l; simp; omega
    · split at h
      · rename_i h1 h2
        cases h
        have := nameLen_le (b :: l)
        rw [nameLen_yes' h2] at this ⊢
        exact ⟨by omega, this⟩
      · split at h
        · rename_i h3
          split at h
          · cases h
            have hd : lead.dg b = true := h3
            have := lead.ld_len (b :: l)
            rw [lead.ld_yes hd] at this ⊢
            exact ⟨by simp, this⟩
          · cases h
        · split at h
          · split at h
            · rename_i t' k' hs
              split at h
              · cases h
                have := str_len l.length l (Nat.le_refl _) _ _ hs
                simp; omega
              · cases h
            · cases h
          · split at h
            · cases h
            · rename_i hm
              cases h
              have h1 := mark_pre (b :: l)
              have h2 := (List.isPrefixOf_iff_prefix.1 h1).length_le
              exact ⟨Nat.pos_of_ne_zero (by simpa using hm), h2⟩

end Go.Proofs.YtakdbfifbkngnaaGreatDoor.lex

/-
  Tokens in a row that a call has made, and what a call leaves as it was.
  Conditions: those that each theorem names.
-/
namespace Go.Proofs.YtakdbfifbkngnaaGreatDoor.lex
open Go.ChangeShapes Go.WideShapes Go.ChangeAt Go.RowKit
set_option linter.unusedVariables false

abbrev IT : TypeId := 30
def I64 (n : Int) : Prop := -9223372036854775808 ≤ n ∧ n ≤ 9223372036854775807
theorem cell_stays {w w' : World} {a : Addr} {u : Value} (hb : a.block < w.heap.size → w'.heap[a.block]? = w.heap[a.block]?) (hu : w.cell? a = some u) : w'.cell? a = some u := by
  have hbk := hb (World.block_lt_of_cell? _ _ hu)
  unfold World.cell? at hu ⊢
  rw [hbk]
  exact hu
theorem set_heap {W : World} {g : Nat} {cs : Array Value} {t : TypeId} (h : W.heap[g]? = some (.cells cs t (0, 0))) (j : Nat) (v : Value) :
    (W.setCell ⟨g, j, none⟩ v).heap[g]? = some (.cells (cs.setIfInBounds j v) t (0, 0)) := by
  simp [World.setCell, Array.getElem?_modify, h]
theorem set_other {W : World} {g k j : Nat} {v : Value} (h : k ≠ g) : (W.setCell ⟨g, j, none⟩ v).heap[k]? = W.heap[k]? := Below.heap_setCell _ _ _ _ (fun e => h (by simpa using e))
theorem set_size {W : World} {a : Addr} {v : Value} : (W.setCell a v).heap.size = W.heap.size := by simp [World.setCell]
def TrueQ (w : World) (e : Ending) (w' : World) : Prop := e = .returned (.bool true) ∧ Below w.heap.size w w'
def GivesQ (w : World) (v : Value) (e : Ending) (w' : World) : Prop := e = .returned v ∧ Below w.heap.size w w'
theorem bs {w a b : World} (h : Below w.heap.size w a) (k : Below a.heap.size a b) : Below w.heap.size w b := h.trans (k.mono h.size)
theorem b1 (w : World) (o : Obj) : Below w.heap.size w (w.alloc o) := (Below.refl w.heap.size w).alloc (Nat.le_refl _) _
theorem b2 (w : World) (o o' : Obj) : Below w.heap.size w ((w.alloc o).alloc o') := (b1 w o).alloc (by simp) _
theorem rowc {w : World} {g : Nat} {cs : Array Value} {t : TypeId} (h : w.heap[g]? = some (.cells cs t (0, 0))) : (∀ j, w.cell? ⟨g, j, none⟩ = cs[j]?) ∧ (∀ j, w.frozen? ⟨g, j, none⟩ = false) :=
  ⟨fun j => cell_of_row w g j cs t _ h, fun j => frozen_of_row w g j cs t h⟩
theorem keepAlloc {w : World} {g : Nat} {o o' : Obj} (h : w.heap[g]? = some o) : (w.alloc o').heap[g]? = some o :=
  (Below.heap_alloc w o' g (Array.getElem?_eq_some_iff.1 h).1).trans h
theorem carry {W w1 : World} {g : Nat} {o : Obj} (hb : Below W.heap.size W w1) (h : W.heap[g]? = some o) : w1.heap[g]? = some o :=
  (hb.block g (Array.getElem?_eq_some_iff.1 h).1).trans h
theorem ownBlock_keep {v : Value} : v.ownBlock = none ∨ v.ownBlock ≠ (none : Option Nat) := by
  cases e : v.ownBlock with
  | none => exact .inl rfl
  | some k => exact .inr (by simp)
theorem grown_below' {w w1 w2 : World} {B : Nat} {row : Option Nat} (h : Below B w w1) (g : w1.grownBy w2 row) (hB : B ≤ w1.heap.size) (hk : ∀ b, row = some b → B ≤ b) : Below B w w2 :=
  ⟨g.os.trans h.os, g.tape.trans h.tape, g.output.trans h.output, Nat.le_trans h.size g.size, fun b hb => (g.block b (by omega) (fun e => by have := hk b e.symm; omega)).trans (h.block b hb)⟩
theorem heap_alloc2_new (w : World) (o o' : Obj) : ((w.alloc o).alloc o').heap[w.heap.size + 1]? = some o' := by
  have := heap_alloc_new (w.alloc o) o'
  rwa [show (w.alloc o).heap.size = w.heap.size + 1 by simp] at this
theorem heap_alloc2_old (w : World) (o o' : Obj) : ((w.alloc o).alloc o').heap[w.heap.size]? = some o := keepAlloc (heap_alloc_new w o)

/-- Nothing but blocks of S has changed. -/
structure Fr (S : Nat → Prop) (w w' : World) : Prop where
  os : w'.os = w.os
  tape : w'.tape = w.tape
  output : w'.output = w.output
  size : w.heap.size ≤ w'.heap.size
  block : ∀ b, b < w.heap.size → ¬ S b → w'.heap[b]? = w.heap[b]?
section
variable {S S' : Nat → Prop} {w w' w2 : World}
theorem Fr.refl (S : Nat → Prop) (w : World) : Fr S w w := ⟨rfl, rfl, rfl, Nat.le_refl _, fun _ _ _ => rfl⟩
theorem Fr.of (h : Below w.heap.size w w') : Fr S w w' := ⟨h.os, h.tape, h.output, h.size, fun b hb _ => h.block b hb⟩
theorem Fr.trans (h : Fr S w w') (k : Fr S w' w2) : Fr S w w2 := ⟨k.os.trans h.os, k.tape.trans h.tape, k.output.trans h.output, Nat.le_trans h.size k.size, fun b hb hs => (k.block b (Nat.lt_of_lt_of_le hb h.size) hs).trans (h.block b hb hs)⟩
theorem Fr.mono (h : Fr S w w') (hs : ∀ b, S b → S' b) : Fr S' w w' := ⟨h.os, h.tape, h.output, h.size, fun b hb hn => h.block b hb fun hh => hn (hs b hh)⟩
theorem Fr.below (h : Fr S w w') {lo : Nat} (hl : lo ≤ w.heap.size) (hs : ∀ b, S b → lo ≤ b) : Below lo w w' := ⟨h.os, h.tape, h.output, h.size, fun b hb => h.block b (Nat.lt_of_lt_of_le hb hl) fun hh => by have := hs b hh; omega⟩
theorem Fr.set {g : Nat} (hg : S g) (j : Nat) (v : Value) : Fr S w (w.setCell ⟨g, j, none⟩ v) := ⟨rfl, rfl, rfl, by rw [set_size]; exact Nat.le_refl _, fun b _ hn => set_other (fun e => hn (e ▸ hg))⟩
end

/-- The cells of tokens. -/
def tcs : List Tk → List Value
  | [] => []
  | y :: ks => .int .i64 y.kind :: .int .i64 y.num :: .string y.text :: .int .i64 y.at_ :: tcs ks
theorem tcs_len : ∀ ks, (tcs ks).length = ks.length * 4
  | [] => rfl
  | y :: ks => by rw [tcs]; simp only [List.length_cons, tcs_len ks]; omega
theorem tcs_get : ∀ (ks : List Tk) (i : Nat) (y : Tk), ks[i]? = some y → ∀ q, q < 4 → (tcs ks)[i * 4 + q]? = (#[.int .i64 y.kind, .int .i64 y.num, .string y.text, .int .i64 y.at_] : Array Value)[q]?
  | [], i, y, h, _, _ => by simp at h
  | y0 :: ks, 0, y, h, q, hq => by
    obtain rfl : y0 = y := by simpa using h
    rw [tcs]
    match q, hq with
    | 0, _ => rfl
    | 1, _ => rfl
    | 2, _ => rfl
    | 3, _ => rfl
  | y0 :: ks, i + 1, y, h, q, hq => by
    have := tcs_get ks i y (by simpa using h) q hq
    rw [tcs, show (i + 1) * 4 + q = (i * 4 + q) + 1 + 1 + 1 + 1 by omega, List.getElem?_cons_succ, List.getElem?_cons_succ, List.getElem?_cons_succ, List.getElem?_cons_succ]
    exact this
theorem tcs_append : ∀ a b, tcs (a ++ b) = tcs a ++ tcs b
  | [], b => rfl
  | y :: a, b => by rw [List.cons_append, tcs, tcs, tcs_append a b]; rfl
/-- Tokens of Go's type. -/
def okT (ks : List Tk) : Prop := ∀ y ∈ ks, I64 y.kind ∧ I64 y.num ∧ I64 y.at_ ∧ y.text.size ≤ maxLen

/-- A row of the call's own holds the tokens. -/
def TRow (w : World) (lo : Nat) (v : Value) (ks : List Tk) : Prop := w.ownsRow lo IT 4 v ks.length (tcs ks)
theorem TRow.below {w w' : World} {lo : Nat} {v : Value} {ks : List Tk} (h : TRow w lo v ks) (hb : Below w.heap.size w w') : TRow w' lo v ks := World.ownsRow.kept h (mem.none_of_below hb) ownBlock_keep
theorem TRow.lo {w : World} {lo lo' : Nat} {v : Value} {ks : List Tk} (h : TRow w lo v ks) (hl : lo' ≤ lo) : TRow w lo' v ks := by
  obtain ⟨h1, h2⟩ := h
  refine ⟨h1, ?_⟩
  rcases h2 with h | ⟨g, cap, cur, e, hg, hr⟩
  · exact .inl h
  · exact .inr ⟨g, cap, cur, e, by omega, hr⟩
theorem TRow.blk {w w' : World} {lo : Nat} {v : Value} {ks : List Tk} (h : TRow w lo v ks) (hs : ∀ b, v.ownBlock = some b → lo ≤ b → b < w.heap.size → w'.heap[b]? = w.heap[b]?) : TRow w' lo v ks := by
  obtain ⟨h1, h2⟩ := h
  refine ⟨h1, ?_⟩
  rcases h2 with h | ⟨g, cap, cur, rfl, hlo, hg, hr⟩
  · exact .inl h
  · exact .inr ⟨g, cap, cur, rfl, hlo, (hs g rfl hlo (Array.getElem?_eq_some_iff.1 hg).1).trans hg, hr⟩
theorem TRow.own {w : World} {lo : Nat} {v : Value} {ks : List Tk} (h : TRow w lo v ks) : ∀ b, v.ownBlock = some b → lo ≤ b ∧ b < w.heap.size := World.ownsRow.lt h
/-- A row of tokens as a slice: its cells. -/
theorem TRow.out {w : World} {lo : Nat} {v : Value} {ks : List Tk} (h : TRow w lo v ks) : ∃ A c, v = .slice A ks.length c ∧ (ks.length ≤ c ∧ c ≤ maxLen) ∧ ∀ i y, ks[i]? = some y → ∃ g cur, A = some ⟨g, 0, none⟩ ∧ lo ≤ g ∧ w.heap[g]? = some (.cells cur IT (0, 0)) ∧ cur.size = c * 4 ∧
    ∀ q, q < 4 → cur[i * 4 + q]? = (#[.int .i64 y.kind, .int .i64 y.num, .string y.text, .int .i64 y.at_] : Array Value)[q]? := by
  obtain ⟨h1, h2⟩ := h
  rcases h2 with ⟨rfl, h0⟩ | ⟨g, cap, cur, rfl, hlo, hg, hnc, hcm, hsz, htk⟩
  · rw [h0]
    exact ⟨none, 0, rfl, ⟨Nat.le_refl _, Nat.zero_le _⟩, fun i y hy => by
      have := (List.getElem?_eq_some_iff.1 hy).1
      omega⟩
  · refine ⟨some ⟨g, 0, none⟩, cap, rfl, ⟨hnc, hcm⟩, fun i y hy => ⟨g, cur, rfl, hlo, hg, hsz, fun q hq => ?_⟩⟩
    have hi := (List.getElem?_eq_some_iff.1 hy).1
    rw [← tcs_get ks i y hy q hq, ← htk, List.getElem?_take_of_lt (by omega), Array.getElem?_toList]


theorem TRow.nil (w : World) (lo : Nat) : TRow w lo (.slice none 0 0) [] := World.ownsRow_nil _ _ _ 4
theorem TRow.made (w : World) : TRow (w.alloc (.cells #[] IT)) w.heap.size (.slice (some ⟨w.heap.size, 0, none⟩) 0 0) [] :=
  World.ownsRow_made (base := w.heap.size) (e := IT) (size := 4) w #[] 0 (by simp) (Nat.zero_le _) rfl
theorem it_info : ∃ i, Tryz.prog.info? IT = some i ∧ (i.zero = some (.agg #[.int .i64 0, .int .i64 0, .string ⟨#[]⟩, .int .i64 0]) ∧ i.size = 4 ∧ i.bytes = 40) := by
  have : (Tryz.prog.info? IT).map (fun i => (i.zero, i.size, i.bytes)) = some (some (.agg #[.int .i64 0, .int .i64 0, .string ⟨#[]⟩, .int .i64 0]), 4, 40) := by kernel_rfl
  cases hq : Tryz.prog.info? IT with
  | none => rw [hq] at this; cases this
  | some i => rw [hq] at this; simp at this; exact ⟨i, rfl, this⟩
theorem four_one (k n : Int) (s : ByteArray) (a : Int) : ∀ u ∈ [Value.int .i64 k, .int .i64 n, .string s, .int .i64 a], u.oneCell' = true := by simp [Value.oneCell']
theorem four_new (w : World) (c0 c1 c2 c3 : Value) (t : TypeId) : ∀ j u, [c0, c1, c2, c3][j]? = some u → (w.alloc (.cells #[c0, c1, c2, c3] t)).cell? ((⟨w.heap.size, 0, none⟩ : Addr).add j) = some u := by
  intro j u hj
  rw [Addr.add_lit, Nat.zero_add, cell_of_row _ _ j _ t _ (heap_alloc_new w _)]
  simpa using hj
/-- A token as a struct. -/
abbrev tkV (t : Tk) : Value := .agg #[.int .i64 t.kind, .int .i64 t.num, .string t.text, .int .i64 t.at_]
theorem tcs_snoc (ts : List Tk) (k n : Int) (s : ByteArray) (a : Int) : tcs ts ++ [.int .i64 k, .int .i64 n, .string s, .int .i64 a] = tcs (ts ++ [⟨k, n, s, a⟩]) := by rw [tcs_append]; rfl

end Go.Proofs.YtakdbfifbkngnaaGreatDoor.lex

/-
  What Min, Max and InRange of the project, and the model's own range test, return at every integer; they change nothing.
  Conditions: none but that arguments are of Go's type int.
-/
namespace Go.Proofs.YtakdbfifbkngnaaGreatDoor.nums
open Go.ChangeShapes Go.WideShapes Go.ChangeAt Go.RowKit
set_option linter.unusedVariables false

def mn (a b : Int) : Int := if b < a then b else a
def mx (a b : Int) : Int := if a < b then b else a
def inr (n l h : Int) : Bool := decide (l ≤ n) && decide (n ≤ h)

theorem ret_int {k : IntKind} {a b : Int} (h : a = b) : Ending.returned (.int k a) = .returned (.int k b) := by rw [h]

theorem implMin (a b : Int) (w : World) : Calls Tryz.prog 181 #[.int .i64 a, .int .i64 b] w fun e w' => e = .returned (.int .i64 (mn a b)) ∧ w = w' := by
  by_cases h : b < a
  all_goals
    go_enter Tryz.func181, Tryz.ntmps181
    go_wp2
    go_ret
    exact ⟨ret_int (by unfold mn; split <;> omega), rfl⟩


theorem l1In (n l h : Int) (w : World) : Calls Tryz.prog 78 #[.int .i64 n, .int .i64 l, .int .i64 h] w fun e w' => e = .returned (.bool (inr n l h)) ∧ w = w' := by
  by_cases h1 : l ≤ n
  all_goals
    by_cases h2 : n ≤ h
    all_goals
      go_enter Tryz.func78, Tryz.ntmps78
      go_wp2
      go_ret
      exact ⟨by simp [inr, h1, h2], rfl⟩

theorem implInRange (n l h : Int) (w : World) : Calls Tryz.prog 129 #[.int .i64 n, .int .i64 l, .int .i64 h] w fun e w' => e = .returned (.bool (inr n l h)) ∧ w = w' := by
  by_cases h1 : l ≤ n
  all_goals
    by_cases h2 : n ≤ h
    all_goals
      go_enter Tryz.func129, Tryz.ntmps129
      go_wp2
      go_ret
      exact ⟨by simp [inr, h1, h2], rfl⟩

end Go.Proofs.YtakdbfifbkngnaaGreatDoor.nums

/-
  The project's letters, digits and names: what isLetter, isDigit, isNamePart, leadingName and IsName return.
  Conditions: the text has at most 2^40 bytes; the tables of the library's decoder of characters hold what the library lays.
-/
namespace Go.Proofs.YtakdbfifbkngnaaGreatDoor.lex
open Go.ChangeShapes Go.WideShapes Go.ChangeAt Go.RowKit
set_option linter.unusedVariables false

def Tabs (w : World) : Prop := Lib.Utf8Tabs 2 3 w
theorem Tabs.stays {w w' : World} (h : Tabs w) (hb : Below w.heap.size w w') : Tabs w' := Utf8Tabs_below h hb
theorem dec_hi (n b0 b1 b2 b3 : Nat) (h : 128 ≤ b0) : 128 ≤ (Lib.decodeN n b0 b1 b2 b3).1 := by
  unfold Lib.decodeN
  repeat' split
  all_goals first | omega | (simp only []; omega)
theorem dec_lo (n b0 b1 b2 b3 : Nat) (h : b0 < 128) : Lib.decodeN n b0 b1 b2 b3 = (b0, 1) := by
  unfold Lib.decodeN
  rw [if_pos h]
theorem get_at {s : ByteArray} {k : Nat} (h : k < s.size) : s.get! k = s[k] := by
  cases s with
  | mk d => exact getElem!_pos d k h
theorem drop_at {s : ByteArray} {k : Nat} (h : k < s.size) : s.data.toList.drop k = s[k] :: s.data.toList.drop (k + 1) := lead.drop_at h
/-- The rune at a place is a letter just when the byte is one. -/
theorem rune_is {p : Nat → Bool} (hp : ∀ n, 128 ≤ n → p n = false) (s : ByteArray) (k : Nat) (h : k < s.size) : p (Utf8.decode s k).1 = p s[k].toNat := by
  rw [Lib.decode_at, get_at h]
  by_cases hb : s[k].toNat < 128
  · rw [dec_lo _ _ _ _ _ hb]
  · rw [hp _ (dec_hi _ _ _ _ _ (by omega)), hp _ (by omega)]
theorem rune_one {s : ByteArray} {k : Nat} (h : k < s.size) (hb : isPn s[k].toNat = true) : (Utf8.decode s k).2 = 1 := by
  have : s[k].toNat < 128 := by
    rcases Nat.lt_or_ge s[k].toNat 128 with h' | h'
    · exact h'
    · rw [isPn_hi h'] at hb; cases hb
  rw [Lib.decode_at, get_at h, dec_lo _ _ _ _ _ this]
theorem idx_part (s : ByteArray) : ∀ (f k : Nat), s.size ≤ k + f → k ≤ s.size → (Lib.idxFuncFrom isPn false s f k = -1 ∧ k + partLen (s.data.toList.drop k) = s.size) ∨ (Lib.idxFuncFrom isPn false s f k = ((k + partLen (s.data.toList.drop k) : Nat) : Int) ∧ k + partLen (s.data.toList.drop k) < s.size)
  | 0, k, hf, hk => .inl ⟨rfl, by rw [lead.drop_end (by omega)]; simp [partLen]; omega⟩
  | f + 1, k, hf, hk => by
    by_cases hlt : k < s.size
    · rw [Lib.idxFuncFrom, if_pos hlt, rune_is (fun n => isPn_hi) s k hlt, drop_at hlt]
      by_cases hb : isPn s[k].toNat = true
      · rw [hb, if_neg (by simp), rune_one hlt hb, partLen_yes hb]
        rcases idx_part s f (k + 1) (by omega) hlt with ⟨h1, h2⟩ | ⟨h1, h2⟩
        · exact .inl ⟨h1, by omega⟩
        · exact .inr ⟨by rw [h1]; congr 1; omega, by omega⟩
      · have hb' : isPn s[k].toNat = false := by simpa using hb
        rw [hb', if_pos rfl, partLen_no hb']
        exact .inr ⟨rfl, by omega⟩
    · rw [Lib.idxFuncFrom, if_neg hlt, lead.drop_end (by omega)]
      exact .inl ⟨rfl, by simp [partLen]; omega⟩
/-- What is left behind the leading parts of a name. -/
theorem trim_part (s : ByteArray) : (Lib.trimLeftF isPn s).size = s.size - partLen s.data.toList := by
  have hp := partLen_le s.data.toList
  rw [show s.data.toList.length = s.size from lead.size_eq s] at hp
  unfold Lib.trimLeftF Lib.idxFunc
  rcases idx_part s s.size 0 (by omega) (by omega) with ⟨h1, h2⟩ | ⟨h1, h2⟩
  · rw [if_pos h1]
    simp at h2
    show (0 : Nat) = _
    omega
  · rw [if_neg (by rw [h1]; omega), h1, ByteArray.size_extract]
    simp at h2 ⊢

def BoQ (w : World) (b : Bool) (e : Ending) (w' : World) : Prop := e = .returned (.bool b) ∧ w = w'
theorem isLetter (n : Nat) (hn : n ≤ 1114111) (w : World) : Calls Tryz.prog 111 #[.int .i32 (n : Int)] w (BoQ w (isLn n)) := by
  have hn1 : (n : Int) ≤ 1114111 := by omega
  by_cases h1 : 97 ≤ n
  · have i1 : (97 : Int) ≤ (n : Int) := by omega
    by_cases h2 : n ≤ 122
    · have i2 : (n : Int) ≤ 122 := by omega
      have HD : Hid (isLn n = true) := Lib.hid (isLn_iff.2 (by omega))
      clear h1 h2
      go_enter Tryz.func111, Tryz.ntmps111
      go_wp2
      go_ret
      exact ⟨by rw [HD.out]; rfl, rfl⟩
    · have i2 : ¬ (n : Int) ≤ 122 := by omega
      have i3 : (65 : Int) ≤ (n : Int) := by omega
      have i4 : ¬ (n : Int) ≤ 90 := by omega
      have i5 : ((n : Int) == 95) = false := beq_eq_false_iff_ne.2 (by omega)
      have HD : Hid (isLn n = false) := Lib.hid (isLn_no.2 (by omega))
      clear h1 h2
      go_enter Tryz.func111, Tryz.ntmps111
      go_wp2
      go_ret
      exact ⟨by rw [HD.out]; rfl, rfl⟩
  · have i1 : ¬ (97 : Int) ≤ (n : Int) := by omega
    by_cases h3 : 65 ≤ n
    · have i3 : (65 : Int) ≤ (n : Int) := by omega
      by_cases h4 : n ≤ 90
      · have i4 : (n : Int) ≤ 90 := by omega
        have HD : Hid (isLn n = true) := Lib.hid (isLn_iff.2 (by omega))
        clear h1 h3 h4
        go_enter Tryz.func111, Tryz.ntmps111
        go_wp2
        go_ret
        exact ⟨by rw [HD.out]; rfl, rfl⟩
      · have i4 : ¬ (n : Int) ≤ 90 := by omega
        by_cases h5 : n = 95
        · subst h5
          have HD : Hid (isLn 95 = true) := Lib.hid (isLn_iff.2 (by omega))
          clear h1 h3 h4
          go_enter Tryz.func111, Tryz.ntmps111
          go_wp2
          go_ret
          exact ⟨by rw [HD.out]; rfl, rfl⟩
        · have i5 : ((n : Int) == 95) = false := beq_eq_false_iff_ne.2 (by omega)
          have HD : Hid (isLn n = false) := Lib.hid (isLn_no.2 (by omega))
          clear h1 h3 h4 h5
          go_enter Tryz.func111, Tryz.ntmps111
          go_wp2
          go_ret
          exact ⟨by rw [HD.out]; rfl, rfl⟩
    · have i3 : ¬ (65 : Int) ≤ (n : Int) := by omega
      have i5 : ((n : Int) == 95) = false := beq_eq_false_iff_ne.2 (by omega)
      have HD : Hid (isLn n = false) := Lib.hid (isLn_no.2 (by omega))
      clear h1 h3
      go_enter Tryz.func111, Tryz.ntmps111
      go_wp2
      go_ret
      exact ⟨by rw [HD.out]; rfl, rfl⟩
theorem isDigit' (n : Nat) (hn : n ≤ 1114111) (w : World) : Calls Tryz.prog 113 #[.int .i32 (n : Int)] w (BoQ w (isDn n)) := by
  have hn1 : (n : Int) ≤ 1114111 := by omega
  by_cases h1 : 48 ≤ n
  · have i1 : (48 : Int) ≤ (n : Int) := by omega
    by_cases h2 : n ≤ 57
    · have i2 : (n : Int) ≤ 57 := by omega
      have HD : Hid (isDn n = true) := Lib.hid (isDn_iff.2 ⟨h1, h2⟩)
      clear h1 h2
      go_enter Tryz.func113, Tryz.ntmps113
      go_wp2
      go_ret
      exact ⟨by rw [HD.out]; rfl, rfl⟩
    · have i2 : ¬ (n : Int) ≤ 57 := by omega
      have HD : Hid (isDn n = false) := Lib.hid (isDn_no.2 (by omega))
      clear h1 h2
      go_enter Tryz.func113, Tryz.ntmps113
      go_wp2
      go_ret
      exact ⟨by rw [HD.out]; rfl, rfl⟩
  · have i1 : ¬ (48 : Int) ≤ (n : Int) := by omega
    have HD : Hid (isDn n = false) := Lib.hid (isDn_no.2 (by omega))
    clear h1
    go_enter Tryz.func113, Tryz.ntmps113
    go_wp2
    go_ret
    exact ⟨by rw [HD.out]; rfl, rfl⟩
theorem isNamePart (n : Nat) (hn : n ≤ 1114111) (w : World) : Calls Tryz.prog 145 #[.int .i32 (n : Int)] w (BoQ w (isPn n)) := by
  obtain ⟨a, HA⟩ : ∃ a, Hid (isLn n = a) := ⟨_, Lib.hid rfl⟩
  obtain ⟨b, HB⟩ : ∃ b, Hid (isDn n = b) := ⟨_, Lib.hid rfl⟩
  have HP : Hid (isPn n = (a || b)) := Lib.hid (by unfold isPn; rw [HA.out, HB.out])
  have L1 : ∀ w, Calls Tryz.prog 111 #[.int .i32 (n : Int)] w (BoQ w a) := fun w => by rw [← HA.out]; exact isLetter n hn w
  have L2 : ∀ w, Calls Tryz.prog 113 #[.int .i32 (n : Int)] w (BoQ w b) := fun w => by rw [← HB.out]; exact isDigit' n hn w
  rw [HP.out]
  have HL1 := Lib.hid L1; have HL2 := Lib.hid L2
  clear L1 L2 HA HB HP hn
  cases a
  · go_enter Tryz.func145, Tryz.ntmps145
    go_wp2_with (first
      | (go_at_call 111; refine (HL1.out _).mono ?_; rintro e w1 ⟨rfl, rfl⟩)
      | (go_at_call 113; refine (HL2.out _).mono ?_; rintro e w1 ⟨rfl, rfl⟩))
    go_ret
    exact ⟨by simp, rfl⟩
  · go_enter Tryz.func145, Tryz.ntmps145
    go_wp2_with (first
      | (go_at_call 111; refine (HL1.out _).mono ?_; rintro e w1 ⟨rfl, rfl⟩)
      | (go_at_call 113; refine (HL2.out _).mono ?_; rintro e w1 ⟨rfl, rfl⟩))
    go_ret
    exact ⟨by simp, rfl⟩

def TxQ (w : World) (s : ByteArray) (e : Ending) (w' : World) : Prop := e = .returned (.string s) ∧ Below w.heap.size w w'
theorem rune_head (s : ByteArray) : isLn (Lib.decodeGo s).1 = decide (nameLen s.data.toList ≠ 0) := by
  unfold Lib.decodeGo
  by_cases h : s.size = 0
  · rw [if_pos h]
    have : s.data.toList = [] := List.eq_nil_of_length_eq_zero (by rw [lead.size_eq]; exact h)
    rw [this]
    decide
  · rw [if_neg h, rune_is (fun n => isLn_hi) s 0 (by omega)]
    have := drop_at (s := s) (k := 0) (by omega)
    rw [List.drop_zero] at this
    rw [this]
    cases hb : isLn s[0].toNat
    · rw [nameLen_no hb]; rfl
    · rw [nameLen_yes' hb]; simp
theorem rune_max (s : ByteArray) : (Lib.decodeGo s).1 ≤ 1114111 := by
  unfold Lib.decodeGo
  split
  · decide
  · exact Lib.rune_le s 0
theorem take_extract (s : ByteArray) (k : Nat) : s.extract 0 k = tx (s.data.toList.take k) := by
  have : ∀ a b : ByteArray, a.data.toList = b.data.toList → a = b := fun a b h => by cases a; cases b; simp at h; congr
  apply this
  rw [tx_list]
  simp [ByteArray.data_extract]
theorem name_part {s : ByteArray} (h : nameLen s.data.toList ≠ 0) : partLen s.data.toList = nameLen s.data.toList := by
  cases hl : s.data.toList with
  | nil => rw [hl] at h; exact absurd rfl h
  | cons b l =>
    rw [hl] at h
    cases hb : isLn b.toNat
    · rw [nameLen_no hb] at h; exact absurd rfl h
    · exact (nameLen_yes hb).symm
/-- The name at the front. -/
def nameT (s : ByteArray) : ByteArray := tx (s.data.toList.take (nameLen s.data.toList))
theorem nameT_size (s : ByteArray) : (nameT s).size = nameLen s.data.toList := by
  unfold nameT
  rw [tx_size, List.length_take]
  have := nameLen_le s.data.toList
  omega
theorem part_grows (w : World) : PredGrows Tryz.prog 145 #[] isPn w := fun W x hx hb => (isNamePart x hx W).mono fun e w' ⟨h1, h2⟩ => ⟨h1, by rw [← h2]; exact Below.refl _ _⟩
theorem leadingName (s : ByteArray) (hs : s.size ≤ 1099511627776) (w : World) (hT : Tabs w) : Calls Tryz.prog 112 #[.string s] w (TxQ w (nameT s)) := by
  obtain ⟨R, HR⟩ : ∃ R, Hid ((Lib.decodeGo s).1 = R) := ⟨_, Lib.hid rfl⟩
  obtain ⟨K, HK⟩ : ∃ K, Hid ((Lib.decodeGo s).2 = K) := ⟨_, Lib.hid rfl⟩
  have CD := Tryz.utf8_DecodeRuneInString s
  rw [HR.out, HK.out] at CD
  have hR : R ≤ 1114111 := by rw [← HR.out]; exact rune_max s
  have hL := isLetter R hR
  have hh := rune_head s
  rw [HR.out] at hh
  rw [hh] at hL
  have HL := Lib.hid hL
  have HCD := Lib.hid CD
  have HT := Lib.hid hT
  clear hL hh HR HK CD hT
  by_cases h0 : nameLen s.data.toList = 0
  · have e1 : nameT s = ⟨#[]⟩ := by unfold nameT; rw [h0]; rfl
    have HL2 : Hid (∀ w, Calls Tryz.prog 111 #[.int .i32 (R : Int)] w (BoQ w false)) := Lib.hid (fun w => by have := HL.out w; rwa [show decide (nameLen s.data.toList ≠ 0) = false by simp [h0]] at this)
    rw [e1]
    clear e1 h0 HL
    go_enter Tryz.func112, Tryz.ntmps112
    go_wp2_with (fail)
    refine (HCD.out _ HT.out).mono ?_
    rintro e w1 ⟨rfl, hb⟩
    have HB := Lib.hid hb
    clear hb
    go_wp2_with (go_at_call 111; refine (HL2.out _).mono ?_; rintro e w2 ⟨rfl, rfl⟩)
    go_ret
    exact ⟨rfl, HB.out⟩
  · have HL2 : Hid (∀ w, Calls Tryz.prog 111 #[.int .i32 (R : Int)] w (BoQ w true)) := Lib.hid (fun w => by have := HL.out w; rwa [show decide (nameLen s.data.toList ≠ 0) = true by simp [h0]] at this)
    have hp := name_part h0
    have hz := trim_part s
    have hle := nameLen_le s.data.toList
    rw [show s.data.toList.length = s.size from lead.size_eq s] at hle
    obtain ⟨n, hn⟩ : ∃ n, nameLen s.data.toList = n := ⟨_, rfl⟩
    rw [hp, hn] at hz
    rw [hn] at hle
    have HN : Hid (nameT s = s.extract 0 n) := Lib.hid (by unfold nameT; rw [hn, take_extract])
    obtain ⟨U, HU⟩ : ∃ U, Hid (Lib.trimLeftF isPn s = U) := ⟨_, Lib.hid rfl⟩
    rw [HU.out] at hz
    have hzi : (U.size : Int) = (s.size : Int) - (n : Int) := by omega
    have en : (s.size : Int) - (U.size : Int) = (n : Int) := by omega
    have CT := fun w => Tryz.strings_TrimLeftFunc_grows 145 #[] (enters_of Tryz.func145 (by kernel_rfl) rfl) isPn s w (part_grows w)
    rw [HU.out] at CT
    have HCT := Lib.hid CT
    rw [HN.out]
    clear hp h0 hn HL HN CT hz hzi
    go_enter Tryz.func112, Tryz.ntmps112
    go_wp2_with (fail)
    refine (HCD.out _ HT.out).mono ?_
    rintro e w1 ⟨rfl, hb⟩
    have HB := Lib.hid hb
    clear hb
    go_wp2_with (first
      | (go_at_call 111; refine (HL2.out _).mono ?_; rintro e w2 ⟨rfl, rfl⟩)
      | (go_at_call 144; refine (HCT.out _).mono ?_; rintro e w2 ⟨rfl, hb2⟩; have HB2 := Lib.hid (HB.out.trans (hb2.mono HB.out.size)); clear hb2))
    go_ret
    exact ⟨rfl, HB2.out⟩


end Go.Proofs.YtakdbfifbkngnaaGreatDoor.lex

/-
  What the project's FormatInt and the model's FormatInt return: the decimal numeral, for every integer.
  Conditions: the library's table of powers of ten holds what its text lays.
-/
namespace Go.Proofs.YtakdbfifbkngnaaGreatDoor.fmt
open Go.ChangeShapes Go.WideShapes Go.ChangeAt Go.RowKit Go.Sort Go.Lib
set_option linter.unusedVariables false

def Tab (w : World) : Prop := Lib.TabIs Tryz.prog w "internal/strconv.uint64pow10" .u64 Lib.pow10Tab

theorem gTab : Tryz.prog.globalNamed "internal/strconv.uint64pow10" = some 4 := by kernel_rfl
theorem Tab.stays {w w' : World} (h : Tab w) (hb : Below w.heap.size w w') : Tab w' := Joins.tab_stays gTab h hb (Nat.le_refl _)

theorem below_grow (w : World) (k : Nat) (os : Array Obj) : Below w.heap.size w (grow (w.drewN k) os) :=
  ⟨rfl, rfl, rfl, by show w.heap.size ≤ (w.heap ++ os).size; simp, fun j hj => heap_grow_old (w.drewN k) os hj⟩

def num (n : Int) : Value := .string ⟨(Lib.itoa n).toArray⟩

theorem libItoa (n : Int) (h0 : -9223372036854775808 ≤ n) (h1 : n ≤ 9223372036854775807) (w : World) (hT : Tab w) :
    Calls Tryz.prog 70 #[.int .i64 n] w fun e w' => e = .returned (num n) ∧ Below w.heap.size w w' :=
  (Tryz.strconv_Itoa n h0 h1 w hT).mono fun e w' ⟨he, k, os, hw⟩ => ⟨he, hw ▸ below_grow w k os⟩

theorem implFormat (n : Int) (h0 : -9223372036854775808 ≤ n) (h1 : n ≤ 9223372036854775807) (w : World) (hT : Tab w) :
    Calls Tryz.prog 34 #[.int .i64 n] w fun e w' => e = .returned (num n) ∧ Below w.heap.size w w' := by
  have HT := Lib.hid hT; clear hT
  go_enter Tryz.func34, Tryz.ntmps34
  go_wp2_with (go_at_call 70; refine (libItoa n h0 h1 _ HT.out).mono ?_; rintro e w' ⟨rfl, hb⟩)
  go_ret
  exact ⟨rfl, hb⟩

/-- What is left to write (u), and what stands behind it (l), are the numeral of a. -/
def Rest (a : Nat) (u : Int) (l : List UInt8) : Prop := if u = 0 then l = Lib.decDigits a else Lib.decDigits u.natAbs ++ l = Lib.decDigits a
theorem Rest.start' {n : Int} (h : n ≠ 0) : Rest n.natAbs n [] := by
  unfold Rest
  rw [if_neg (by omega), List.append_nil]
theorem bytes_cons (b : UInt8) (l : List UInt8) : (⟨#[b]⟩ : ByteArray) ++ ⟨l.toArray⟩ = ⟨(b :: l).toArray⟩ := by
  apply ByteArray.ext
  apply Array.toList_inj.1
  rw [Joins.data_append]
  rfl
theorem Rest.start {n : Int} (h : 1 ≤ n) : Rest n.natAbs n [] := by
  unfold Rest
  rw [if_neg (by omega), List.append_nil]
theorem Rest.done {a : Nat} {l : List UInt8} (h : Rest a 0 l) : l = Lib.decDigits a := by
  unfold Rest at h
  rwa [if_pos rfl] at h
theorem Rest.step {a : Nat} {u v : Int} {l : List UInt8} (h : Rest a u l) (hu : u ≠ 0) (hv : v.natAbs = u.natAbs / 10) : Rest a v (UInt8.ofNat (48 + u.natAbs % 10) :: l) := by
  unfold Rest at h ⊢
  rw [if_neg hu] at h
  rw [← h]
  by_cases h10 : u.natAbs < 10
  · rw [if_pos (by omega), Lib.decDigits_one h10, Nat.mod_eq_of_lt h10]
    rfl
  · rw [if_neg (by omega), dec.decDigits_step h10, hv, List.append_assoc]
    rfl

theorem Rest.len {a : Nat} {u : Int} {l : List UInt8} (h : Rest a u l) (ha : a ≤ 9223372036854775808) : l.length ≤ 20 := by
  have h1 := decDigits_length a
  have h2 := dec.nDigits_le 20 a (by omega) (by have : (10 : Nat) ^ 20 = 100000000000000000000 := by decide
                                                omega)
  unfold Rest at h
  split at h
  · rw [h]; omega
  · have := congrArg List.length h
    rw [List.length_append] at this
    omega

theorem tneg (u : Int) (h : u ≤ 0) : u.tdiv 10 = -((-u) / 10) ∧ u.tmod 10 = -((-u) % 10) := by
  obtain ⟨v, rfl⟩ : ∃ v : Int, u = -v := ⟨-u, by omega⟩
  rw [Int.neg_tdiv, Int.neg_tmod, Int.neg_neg, Int.tdiv_eq_ediv_of_nonneg (by omega), Int.tmod_eq_emod_of_nonneg (by omega)]
  exact ⟨rfl, rfl⟩

theorem run_byte_string {P : Program} (src dst e : TypeId) (v : Int) (h0 : 0 ≤ v) (h1 : v ≤ 255) (hs : P.underlying src = some (.slice e)) (he : P.underlying e = some (.int .u8)) (hd : P.underlying dst = some .string) (w : World) :
    (convert src dst (.slice (some ⟨w.heap.size, 0, none⟩) 1 1)).run P (w.alloc (.cells #[.int .u8 v] e)) = .ok (.string ⟨#[UInt8.ofNat v.toNat]⟩) (w.alloc (.cells #[.int .u8 v] e)) :=
  run_convert_bytes_back (P := P) _ src dst e ⟨w.heap.size, 0, none⟩ 1 [UInt8.ofNat v.toNat] hs he hd (fun j hj => by
    obtain rfl : j = 0 := by simp at hj; omega
    have hv : ((UInt8.ofNat v.toNat).toNat : Int) = v := by rw [UInt8.toNat_ofNat']; omega
    simp only [List.getElem_cons_zero, hv]
    exact World.cell?_alloc_new _ _ _ 0)

theorem specFormat_pos (n : Int) (h0 : 1 ≤ n) (h1 : n ≤ 9223372036854775807) (w : World) :
    Calls Tryz.prog 137 #[.int .i64 n] w fun e w' => e = .returned (num n) ∧ Below w.heap.size w w' := by
  have hz : (n == 0) = false := by rw [beq_eq_false_iff_ne]; omega
  go_enter Tryz.func137, Tryz.ntmps137
  go_wp2
  go_loopw [3, 4] (fun s x wr => ∃ (u : Int) (l : List UInt8), 0 ≤ u ∧ u ≤ n ∧ x = .int .i64 u ∧ s = .string ⟨l.toArray⟩ ∧ Rest n.natAbs u l ∧ Below w.heap.size w wr) (fun _ x _ => (RowKit.intOf x).toNat)
  case atStart => exact ⟨n, [], by omega, by omega, rfl, rfl, Rest.start h0, Below.refl _ _⟩
  case round =>
    obtain ⟨u, l, hu0, hu1, rfl, rfl, hR, hb⟩ := hrel
    have hl := hR.len (by omega)
    by_cases hu : u = 0
    · subst hu
      have HR := Lib.hid hR.done; clear hR
      go_wp2
      go_ret
      exact ⟨by rw [HR.out]; unfold num; rw [dec.itoa_pos' (by omega), show n.toNat = n.natAbs by omega]; rfl, hb⟩
    · have hun : (u == 0) = false := by rw [beq_eq_false_iff_ne]; omega
      have hd0 : 0 ≤ u % 10 := by omega
      have hd9 : u % 10 ≤ 9 := by omega
      have HR := Lib.hid (hR.step hu (v := u / 10) (by omega)); clear hR
      have hcv := run_byte_string (P := Tryz.prog) 22 9 5 (48 + u % 10) (by omega) (by omega) Tryz.underlying22 Tryz.underlying5 Tryz.underlying9
      go_wp2
      refine ⟨⟨u / 10, UInt8.ofNat (48 + u.natAbs % 10) :: l, by omega, by omega, rfl, ?_, HR.out, hb.alloc hb.size _⟩, ?_⟩
      · rw [show (48 + u % 10).toNat = 48 + u.natAbs % 10 by omega]
        exact congrArg Value.string (bytes_cons _ _)
      · simp only [RowKit.intOf]; omega

theorem specFormat_neg (n : Int) (h0 : -9223372036854775808 ≤ n) (h1 : n < 0) (w : World) :
    Calls Tryz.prog 137 #[.int .i64 n] w fun e w' => e = .returned (num n) ∧ Below w.heap.size w w' := by
  have hz : (n == 0) = false := by rw [beq_eq_false_iff_ne]; omega
  go_enter Tryz.func137, Tryz.ntmps137
  go_wp2
  go_loopw [3, 4] (fun s x wr => ∃ (u : Int) (l : List UInt8), u ≤ 0 ∧ n ≤ u ∧ x = .int .i64 u ∧ s = .string ⟨l.toArray⟩ ∧ Rest n.natAbs u l ∧ Below w.heap.size w wr) (fun _ x _ => (RowKit.intOf x).natAbs)
  case atStart => exact ⟨n, [], by omega, by omega, rfl, rfl, Rest.start' (by omega), Below.refl _ _⟩
  case round =>
    obtain ⟨u, l, hu0, hu1, rfl, rfl, hR, hb⟩ := hrel
    have hl := hR.len (by omega)
    by_cases hu : u = 0
    · subst hu
      have HR := Lib.hid hR.done; clear hR
      go_wp2
      go_ret
      exact ⟨by rw [HR.out]; unfold num; rw [dec.itoa_neg' (by omega)]; exact congrArg (fun s => Ending.returned (Value.string s)) (bytes_cons _ _), hb⟩
    · have hun : (u == 0) = false := by rw [beq_eq_false_iff_ne]; omega
      obtain ⟨e1, e2⟩ := tneg u hu0
      have HR := Lib.hid (hR.step hu (v := u.tdiv 10) (by rw [e1]; omega)); clear hR
      have hd0 : u.tmod 10 ≤ 0 := by omega
      have hd9 : -9 ≤ u.tmod 10 := by omega
      have hv0 : u.tdiv 10 ≤ 0 := by omega
      have hv9 : u ≤ u.tdiv 10 := by omega
      have hm : (u.tdiv 10).natAbs < u.natAbs := by omega
      have E2 := Lib.hid e2; clear e1 e2
      by_cases hd : u.tmod 10 < 0
      · have hcv := run_byte_string (P := Tryz.prog) 22 9 5 (48 + -u.tmod 10) (by omega) (by omega) Tryz.underlying22 Tryz.underlying5 Tryz.underlying9
        go_wp2
        refine ⟨⟨u.tdiv 10, UInt8.ofNat (48 + u.natAbs % 10) :: l, by omega, by omega, rfl, ?_, HR.out, hb.alloc hb.size _⟩, ?_⟩
        · have e2 := E2.out
          rw [show (48 + -u.tmod 10).toNat = 48 + u.natAbs % 10 by omega]
          exact congrArg Value.string (bytes_cons _ _)
        · simp only [RowKit.intOf]; omega
      · have hz0 : u.tmod 10 = 0 := by omega
        have hcv := run_byte_string (P := Tryz.prog) 22 9 5 48 (by omega) (by omega) Tryz.underlying22 Tryz.underlying5 Tryz.underlying9
        go_wp2
        refine ⟨⟨u.tdiv 10, UInt8.ofNat (48 + u.natAbs % 10) :: l, by omega, by omega, rfl, ?_, HR.out, hb.alloc hb.size _⟩, ?_⟩
        · have e2 := E2.out
          rw [show 48 + u.natAbs % 10 = 48 by omega]
          exact congrArg Value.string (bytes_cons _ _)
        · simp only [RowKit.intOf]; omega

theorem specFormat_zero (w : World) :
    Calls Tryz.prog 137 #[.int .i64 0] w fun e w' => e = .returned (num 0) ∧ Below w.heap.size w w' := by
  go_enter Tryz.func137, Tryz.ntmps137
  go_wp2
  go_ret
  exact ⟨by unfold num; rw [dec.itoa_pos' (by omega)]; show _ = Ending.returned (.string ⟨(decDigits 0).toArray⟩); rw [Lib.decDigits_one (by omega)]; rfl, Below.refl _ _⟩

theorem specFormat (n : Int) (h0 : -9223372036854775808 ≤ n) (h1 : n ≤ 9223372036854775807) (w : World) :
    Calls Tryz.prog 137 #[.int .i64 n] w fun e w' => e = .returned (num n) ∧ Below w.heap.size w w' := by
  by_cases hn : n < 0
  · exact specFormat_neg n h0 hn w
  · by_cases hz : n = 0
    · subst hz; exact specFormat_zero w
    · exact specFormat_pos n (by omega) h1 w

end Go.Proofs.YtakdbfifbkngnaaGreatDoor.fmt

/-
  What the project's ParseInt and ParseSigned return: the number whose decimal numeral the text is, if there is one in range, and else 0 and false.
  Conditions: the text has at most 2^48 bytes; the library's table of powers of ten and its two errors hold what its text lays.
-/
namespace Go.Proofs.YtakdbfifbkngnaaGreatDoor.prs
open Go.ChangeShapes Go.WideShapes Go.ChangeAt Go.RowKit Go.Sort Go.Lib
set_option linter.unusedVariables false

/-- What the library's reading wants of the world. -/
def Env (w : World) : Prop := fmt.Tab w ∧ (∃ tp p, w.var? Tryz.prog "strconv.ErrSyntax" = some #[.iface tp p]) ∧ (∃ tp p, w.var? Tryz.prog "strconv.ErrRange" = some #[.iface tp p])
theorem gES : Tryz.prog.globalNamed "strconv.ErrSyntax" = some 7 := by kernel_rfl
theorem gER : Tryz.prog.globalNamed "strconv.ErrRange" = some 8 := by kernel_rfl
theorem Env.stays {w w' : World} (h : Env w) (hb : RowKit.Below w.heap.size w w') : Env w' := by
  obtain ⟨h1, ⟨t2, p2, h2⟩, ⟨t3, p3, h3⟩⟩ := h
  exact ⟨h1.stays hb, ⟨t2, p2, Joins.var_stays gES h2 hb (Nat.le_refl _)⟩, ⟨t3, p3, Joins.var_stays gER h3 hb (Nat.le_refl _)⟩⟩

def two (x : Int × Bool) : Value := .tuple #[.int .i64 x.1, .bool x.2]

theorem libAtoi_ok (s : ByteArray) (hl : s.size ≤ 281474976710656) (v : Int) (h : Lib.atoiAll s.data.toList = .ok v) (w : World) :
    Calls Tryz.prog 190 #[.string s] w fun e w' => e = .returned (.tuple #[.int .i64 v, .nilIface]) ∧ RowKit.Below w.heap.size w w' :=
  (Tryz.strconv_Atoi_ok s (by omega) v h w).mono fun e w' ⟨he, hw⟩ => ⟨he, by
    rcases hw with rfl | ⟨t, rfl⟩
    · exact RowKit.Below.refl _ _
    · exact Lib.bytesWorld_below _ _ _⟩

theorem libAtoi_bad (s : ByteArray) (hl : s.size ≤ 281474976710656) (h : ∀ v, Lib.atoiAll s.data.toList ≠ .ok v) (w : World) (hE : Env w) :
    Calls Tryz.prog 190 #[.string s] w fun e w' => ∃ (n : Int) (N : Nat), e = .returned (.tuple #[.int .i64 n, .iface 246 (.pointer (some ⟨N, 0, none⟩))]) ∧ RowKit.Below w.heap.size w w' := by
  obtain ⟨_, ⟨t2, p2, h2⟩, ⟨t3, p3, h3⟩⟩ := hE
  by_cases hr : Lib.atoiAll s.data.toList = .range
  · exact (Tryz.strconv_Atoi_range_var s hl hr t3 p3 w h3).mono fun e w' ⟨N, he, _, _, hb⟩ => ⟨_, N, he, hb⟩
  · exact (Tryz.strconv_Atoi_syntax_var s hl (fun e he => ⟨fun hh => hr (he.trans hh), fun v hh => h v (he.trans hh)⟩) t2 p2 w h2).mono fun e w' ⟨N, he, _, _, hb⟩ => ⟨_, N, he, hb⟩

theorem within (s : ByteArray) (low high : Int) (hl : s.size ≤ 281474976710656) (w : World) (hE : Env w) :
    Calls Tryz.prog 173 #[.string s, .int .i64 low, .int .i64 high] w fun e w' => e = .returned (two (dec.pr low high s.data.toList)) ∧ RowKit.Below w.heap.size w w' := by
  have HE := Lib.hid hE; clear hE
  by_cases hv : ∃ v, Lib.atoiAll s.data.toList = .ok v
  · obtain ⟨v, hv⟩ := hv
    obtain ⟨v0, v1⟩ := Lib.atoiAll_bounds hv
    have hpr : dec.pr low high s.data.toList = if Lib.itoa v = s.data.toList ∧ low ≤ v ∧ v ≤ high then (v, true) else (0, false) := by unfold dec.pr; rw [hv]
    have HV := Lib.hid hv; clear hv
    by_cases hs : Lib.itoa v = s.data.toList
    · have hn : fmt.num v = .string s := by unfold fmt.num; rw [hs, Joins.bytes_eta]
      by_cases hr : nums.inr v low high = true
      · have hp : dec.pr low high s.data.toList = (v, true) := by rw [hpr, if_pos]; unfold nums.inr at hr; simp at hr; exact ⟨hs, hr.1, hr.2⟩
        have HP := Lib.hid hp; have HN := Lib.hid hn; have HR := Lib.hid hr; clear hp hn hr hpr hs
        go_enter Tryz.func173, Tryz.ntmps173
        go_wp2_with (first | (go_at_call 190; refine (libAtoi_ok s hl v HV.out _).mono ?_; rintro e w1 ⟨rfl, hb1⟩) | (go_at_call 34; refine (fmt.implFormat v v0 v1 _ (HE.out.stays hb1).1).mono ?_; rintro e w2 ⟨rfl, hb2⟩; rw [HN.out]) | (go_at_call 129; refine (nums.implInRange _ _ _ _).mono ?_; rintro e w3 ⟨rfl, rfl⟩; rw [HR.out]))
        go_ret2
        exact ⟨by rw [HP.out]; rfl, hb1.trans (hb2.mono hb1.size)⟩
      · have hr' : nums.inr v low high = false := by simpa using hr
        have hp : dec.pr low high s.data.toList = (0, false) := by rw [hpr, if_neg]; unfold nums.inr at hr; simp at hr; intro hh; have := hr hh.2.1; omega
        have HP := Lib.hid hp; have HN := Lib.hid hn; have HR := Lib.hid hr'; clear hp hn hr hr' hpr hs
        go_enter Tryz.func173, Tryz.ntmps173
        go_wp2_with (first | (go_at_call 190; refine (libAtoi_ok s hl v HV.out _).mono ?_; rintro e w1 ⟨rfl, hb1⟩) | (go_at_call 34; refine (fmt.implFormat v v0 v1 _ (HE.out.stays hb1).1).mono ?_; rintro e w2 ⟨rfl, hb2⟩; rw [HN.out]) | (go_at_call 129; refine (nums.implInRange _ _ _ _).mono ?_; rintro e w3 ⟨rfl, rfl⟩; rw [HR.out]))
        go_ret2
        exact ⟨by rw [HP.out]; rfl, hb1.trans (hb2.mono hb1.size)⟩
    · have hp : dec.pr low high s.data.toList = (0, false) := by rw [hpr, if_neg]; exact fun hh => hs hh.1
      obtain ⟨b, hn, hbs⟩ : ∃ b, fmt.num v = .string b ∧ b ≠ s := ⟨_, rfl, fun hh => hs (by rw [← hh])⟩
      have hbs1 : ¬ b.toList = s.toList := fun hh => hbs (by rw [ByteArray.toList_eq, ByteArray.toList_eq] at hh; exact Go.WideShapes.bytes_inj hh)
      have HP := Lib.hid hp; have HN := Lib.hid hn; clear hp hn hpr hs hbs
      go_enter Tryz.func173, Tryz.ntmps173
      go_wp2_with (first | (go_at_call 190; refine (libAtoi_ok s hl v HV.out _).mono ?_; rintro e w1 ⟨rfl, hb1⟩) | (go_at_call 34; refine (fmt.implFormat v v0 v1 _ (HE.out.stays hb1).1).mono ?_; rintro e w2 ⟨rfl, hb2⟩; rw [HN.out]))
      go_ret2
      exact ⟨by rw [HP.out]; rfl, hb1.trans (hb2.mono hb1.size)⟩
  · have hp : dec.pr low high s.data.toList = (0, false) := by
      unfold dec.pr
      split
      · rename_i n hn
        exact absurd ⟨n, hn⟩ hv
      · rfl
    have hv' : ∀ v, Lib.atoiAll s.data.toList ≠ .ok v := fun v hh => hv ⟨v, hh⟩
    have HP := Lib.hid hp; have HV := Lib.hid hv'; clear hp hv hv'
    go_enter Tryz.func173, Tryz.ntmps173
    go_wp2_with (first | (go_at_call 190; refine (libAtoi_bad s hl HV.out _ HE.out).mono ?_; rintro e w1 ⟨n, N, rfl, hb1⟩))
    go_ret2
    exact ⟨by rw [HP.out]; rfl, hb1⟩

end Go.Proofs.YtakdbfifbkngnaaGreatDoor.prs

/-
  What the model's ParseInt and ParseSigned return: the same numbers as the project's.
  Conditions: the text has at most 2^48 bytes.
-/
namespace Go.Proofs.YtakdbfifbkngnaaGreatDoor.prs
open Go.ChangeShapes Go.WideShapes Go.ChangeAt Go.RowKit Go.Sort Go.Lib
set_option linter.unusedVariables false


theorem implParseSigned (s : ByteArray) (hl : s.size ≤ 281474976710656) (w : World) (hE : Env w) :
    Calls Tryz.prog 147 #[.string s] w fun e w' => e = .returned (two (dec.pr (-1000000000) 1000000000 s.data.toList)) ∧ RowKit.Below w.heap.size w w' := by
  have HE := Lib.hid hE; clear hE
  generalize hp : dec.pr (-1000000000) 1000000000 s.data.toList = x
  have HP := Lib.hid hp; clear hp
  obtain ⟨x1, x2⟩ := x
  go_enter Tryz.func147, Tryz.ntmps147
  go_wp2_with (go_at_call 173; refine (within s (-1000000000) 1000000000 hl _ HE.out).mono ?_; rintro e w1 ⟨rfl, hb1⟩; rw [HP.out]; unfold two)
  go_ret2
  exact ⟨rfl, hb1⟩

theorem val_lt : ∀ (l : List UInt8) (a : Nat), (∀ b ∈ l, dec.isDig b) → dec.valFrom a l < (a + 1) * 10 ^ l.length
  | [], a, _ => by rw [dec.valFrom_nil]; simp
  | b :: l, a, h => by
    have hb : dec.isDig b := h b List.mem_cons_self
    unfold dec.isDig at hb
    have ih := val_lt l (10 * a + (b.toNat - 48)) (fun x hx => h x (List.mem_cons_of_mem _ hx))
    rw [dec.valFrom_cons]
    have e : (10 * a + (b.toNat - 48) + 1) * 10 ^ l.length ≤ (10 * (a + 1)) * 10 ^ l.length := Nat.mul_le_mul_right _ (by omega)
    have e2 : (10 * (a + 1)) * 10 ^ l.length = (a + 1) * 10 ^ (l.length + 1) := by rw [Nat.pow_succ, Nat.mul_comm 10 (a + 1), Nat.mul_assoc, Nat.mul_comm 10]
    rw [List.length_cons]
    omega

theorem val_small {l : List UInt8} (h : ∀ b ∈ l, dec.isDig b) (hl : l.length ≤ 13) : dec.val l < 10000000000000 := by
  have h1 := val_lt l 0 h
  have h2 : 10 ^ l.length ≤ 10 ^ 13 := Nat.pow_le_pow_right (by omega) hl
  have h3 : (10 : Nat) ^ 13 = 10000000000000 := by decide
  unfold dec.val
  omega

/-- After k bytes, all of them digits, the number is u. -/
def Sofar (l : List UInt8) (k u : Nat) : Prop := (∀ b ∈ l.take k, dec.isDig b) ∧ u = dec.val (l.take k)
theorem Sofar.start (l : List UInt8) : Sofar l 0 0 := ⟨by simp, by simp [dec.val, dec.valFrom_nil]⟩
theorem size_eq (s : ByteArray) : s.data.toList.length = s.size := Array.length_toList
theorem Sofar.step {s : ByteArray} {k u : Nat} (h : Sofar s.data.toList k u) (hk : k < s.size) (hd : dec.isDig s[k]) : Sofar s.data.toList (k + 1) (10 * u + (s[k].toNat - 48)) := by
  have e : s.data.toList.take (k + 1) = s.data.toList.take k ++ [s[k]] := by
    rw [List.take_succ_eq_append_getElem (by rw [size_eq]; exact hk)]; rfl
  unfold Sofar
  rw [e]
  refine ⟨fun b hb => ?_, by rw [dec.val_snoc, h.2]⟩
  rcases List.mem_append.1 hb with hb | hb
  · exact h.1 b hb
  · simp only [List.mem_singleton] at hb
    rw [hb]
    exact hd
theorem mem_at {s : ByteArray} {k : Nat} (hk : k < s.size) : s[k] ∈ s.data.toList := by
  have h : s.data.toList[k]'(by rw [size_eq]; exact hk) ∈ s.data.toList := List.getElem_mem _
  exact h
theorem Sofar.all {s : ByteArray} {u : Nat} (h : Sofar s.data.toList s.size u) : (∀ b ∈ s.data.toList, dec.isDig b) ∧ u = dec.val s.data.toList := by
  unfold Sofar at h
  rw [List.take_of_length_le (by rw [size_eq]; omega)] at h
  exact h
theorem Sofar.small {l : List UInt8} {k u : Nat} (h : Sofar l k u) (hk : k ≤ 13) : u < 10000000000000 := by
  rw [h.2]
  exact val_small h.1 (by rw [List.length_take]; omega)

theorem specParse (s : ByteArray) (hl : s.size ≤ 281474976710656) (w : World) :
    Calls Tryz.prog 103 #[.string s] w fun e w' => e = .returned (two (dec.pr 0 1000000000000 s.data.toList)) ∧ RowKit.Below w.heap.size w w' := by
  rw [← dec.sp_eq]
  have hsz : s.data.toList.length = s.size := Array.length_toList
  by_cases hr : nums.inr (s.size : Int) 1 13 = true
  · have hr1 : 1 ≤ s.size ∧ s.size ≤ 13 := by unfold nums.inr at hr; simp at hr; omega
    have HR := Lib.hid hr; clear hr
    have HZ := Lib.hid hsz; clear hsz
    obtain ⟨hr1, hr2⟩ := hr1
    go_enter Tryz.func103, Tryz.ntmps103
    go_wp2_with (go_at_call 78; refine (nums.l1In _ _ _ _).mono ?_; rintro e w1 ⟨rfl, rfl⟩; rw [HR.out])
    go_loop [4, 5] (fun n i => ∃ (k u : Nat) (x : Int), k ≤ s.size ∧ i = .int .i64 k ∧ Sofar s.data.toList k u ∧ 0 ≤ x ∧ x < 10000000000000 ∧ Hid (x = (u : Int)) ∧ n = .int .i64 x) (fun _ i => s.size - (RowKit.intOf i).toNat)
    case atStart => exact ⟨0, 0, 0, by omega, rfl, Sofar.start _, by omega, by omega, rfl, rfl⟩
    case round =>
      obtain ⟨k, u, x, hk, rfl, hS, hx0, hx1, HX, rfl⟩ := hrel
      by_cases hlt : k < s.size
      · have hb0 : (0 : Int) ≤ (s[k].toNat : Int) := by omega
        have hb9 : (s[k].toNat : Int) ≤ 255 := by have := s[k].toNat_lt; omega
        by_cases hd : dec.isDig s[k]
        · have hd' := hd
          unfold dec.isDig at hd'
          obtain ⟨d1, d2⟩ := hd'
          have D1 : (48 : Int) ≤ (s[k].toNat : Int) := by omega
          have D2 : (s[k].toNat : Int) ≤ 57 := by omega
          have hin : nums.inr (s[k].toNat : Int) 48 57 = true := by unfold nums.inr; simp; omega
          have hS' := hS.step hlt hd
          have hu' := hS'.small (by omega)
          have HS := Lib.hid hS'; have HIN := Lib.hid hin; clear hS hS' hin hd
          go_wp2_with (go_at_call 78; refine (nums.l1In _ _ _ _).mono ?_; rintro e w1 ⟨rfl, rfl⟩; rw [HIN.out])
          exact ⟨⟨k + 1, 10 * u + (s[k].toNat - 48), 10 * x + ((s[k].toNat : Int) - 48), by omega, by go_num, HS.out, by omega, by have := HX.out; omega, by have := HX.out; show _ = _; omega, rfl⟩, by simp only [RowKit.intOf]; omega⟩
        · have hin : nums.inr (s[k].toNat : Int) 48 57 = false := by unfold dec.isDig at hd; unfold nums.inr; simp; omega
          have hsp : dec.sp s.data.toList = (0, false) := by
            unfold dec.sp
            rw [if_neg]
            exact fun hh => hd (hh.2.2.1 _ (mem_at hlt))
          have HSP := Lib.hid hsp; have HIN := Lib.hid hin; clear hS hin hd hsp
          go_wp2_with (go_at_call 78; refine (nums.l1In _ _ _ _).mono ?_; rintro e w1 ⟨rfl, rfl⟩; rw [HIN.out])
          go_ret2
          exact ⟨by rw [HSP.out]; rfl, RowKit.Below.refl _ _⟩
      · obtain rfl : k = s.size := by omega
        obtain ⟨ha, hv⟩ := hS.all
        have hz := HZ.out
        have hx := HX.out
        by_cases hm : 1000000000000 < x
        · have hsp : dec.sp s.data.toList = (0, false) := by
            unfold dec.sp
            rw [if_neg]
            exact fun hh => by have := hh.2.2.2.1; omega
          have HSP := Lib.hid hsp; clear hsp ha hv hz hS hx
          go_wp2
          go_ret2
          exact ⟨by rw [HSP.out]; rfl, RowKit.Below.refl _ _⟩
        · by_cases hi : Lib.itoa (u : Int) = s.data.toList
          · have hn : fmt.num x = .string s := by unfold fmt.num; rw [hx, hi, Joins.bytes_eta]
            have hsp : dec.sp s.data.toList = (x, true) := by
              unfold dec.sp
              rw [if_pos, hx, hv]
              exact ⟨by omega, by omega, ha, by omega, by rw [← hv]; exact hi⟩
            have HSP := Lib.hid hsp; have HN := Lib.hid hn; clear hsp ha hv hz hS hi hn hx
            go_wp2_with (go_at_call 137; refine (fmt.specFormat _ (by omega) (by omega) _).mono ?_; rintro e w2 ⟨rfl, hb2⟩; rw [HN.out])
            go_ret2
            exact ⟨by rw [HSP.out]; rfl, hb2⟩
          · have hsp : dec.sp s.data.toList = (0, false) := by
              unfold dec.sp
              rw [if_neg]
              exact fun hh => hi (by rw [hv]; exact hh.2.2.2.2)
            obtain ⟨b, hn, hbs⟩ : ∃ b, fmt.num x = .string b ∧ b ≠ s := ⟨_, rfl, fun hh => hi (by rw [← hh, hx])⟩
            have hbs1 : ¬ b.toList = s.toList := fun hh => hbs (by rw [ByteArray.toList_eq, ByteArray.toList_eq] at hh; exact Go.WideShapes.bytes_inj hh)
            have hbs2 : (b.toList == s.toList) = false := by rw [beq_eq_false_iff_ne]; exact hbs1
            have HSP := Lib.hid hsp; have HN := Lib.hid hn; clear hsp ha hv hz hS hi hn hbs hx
            go_wp2_with (go_at_call 137; refine (fmt.specFormat _ (by omega) (by omega) _).mono ?_; rintro e w2 ⟨rfl, hb2⟩; rw [HN.out])
            go_ret2
            exact ⟨by rw [HSP.out]; rfl, hb2⟩
  · have hr' : nums.inr (s.size : Int) 1 13 = false := by simpa using hr
    have hsp : dec.sp s.data.toList = (0, false) := by
      unfold dec.sp
      rw [if_neg]
      intro hh
      apply hr
      unfold nums.inr
      simp
      omega
    have HSP := Lib.hid hsp; have HR := Lib.hid hr'; clear hr hr' hsp
    go_enter Tryz.func103, Tryz.ntmps103
    go_wp2_with (go_at_call 78; refine (nums.l1In _ _ _ _).mono ?_; rintro e w1 ⟨rfl, rfl⟩; rw [HR.out])
    go_ret2
    exact ⟨by rw [HSP.out]; rfl, RowKit.Below.refl _ _⟩

theorem tail_eq (s : ByteArray) : (s.extract 1 s.size).data.toList = s.data.toList.tail := by
  rw [Lib.extract_to_end]
  exact List.drop_one

theorem specParseSigned (s : ByteArray) (hl : s.size ≤ 281474976710656) (w : World) :
    Calls Tryz.prog 156 #[.string s] w fun e w' => e = .returned (two (dec.pr (-1000000000) 1000000000 s.data.toList)) ∧ RowKit.Below w.heap.size w w' := by
  rw [← dec.sps_eq]
  have hsz := size_eq s
  by_cases hneg : s.data.toList.head? = some 45
  · have h0 : 0 < s.size := by
      rcases Nat.eq_zero_or_pos s.size with h | h
      · have : s.data.toList = [] := List.eq_nil_of_length_eq_zero (by omega)
        rw [this] at hneg
        cases hneg
      · exact h
    have h45 : s[0] = 45 := by
      have : s.data.toList.head? = some s[0] := by
        rw [List.head?_eq_getElem?, List.getElem?_eq_getElem (by omega)]
        rfl
      rw [this] at hneg
      injection hneg
    have hps : dec.sps s.data.toList = if (dec.sp s.data.toList.tail).2 = true ∧ (dec.sp s.data.toList.tail).1 ≤ 1000000000 ∧ (dec.sp s.data.toList.tail).1 ≠ 0 then (-(dec.sp s.data.toList.tail).1, true) else (0, false) := by
      unfold dec.sps
      rw [if_pos hneg]
    have hb := dec.pr_true (low := 0) (high := 1000000000000) (l := s.data.toList.tail)
    rw [dec.sp_eq] at hps
    rw [← tail_eq] at hps hb
    have hes : (s.extract 1 s.size).size ≤ 281474976710656 := by rw [ByteArray.size_extract]; omega
    generalize hx : dec.pr 0 1000000000000 (s.extract 1 s.size).data.toList = x at hps hb
    obtain ⟨n, ok⟩ := x
    have HX := Lib.hid hx; have HES := Lib.hid hes; clear hx hes hneg hsz
    cases ok
    · rw [if_neg (fun hh => by cases hh.1)] at hps
      have HP := Lib.hid hps; clear hps hb
      go_enter Tryz.func156, Tryz.ntmps156
      go_wp2_with (go_at_call 103; refine (specParse _ HES.out _).mono ?_; rintro e w1 ⟨rfl, hb1⟩; rw [HX.out]; unfold two)
      go_ret2
      exact ⟨by rw [HP.out]; rfl, hb1⟩
    · obtain ⟨_, b1, b2⟩ := hb rfl
      simp only at b1 b2
      by_cases hm : n ≤ 1000000000
      · by_cases hz : n = 0
        · subst hz
          rw [if_neg (fun hh => hh.2.2 rfl)] at hps
          have HP := Lib.hid hps; clear hps hb
          go_enter Tryz.func156, Tryz.ntmps156
          go_wp2_with (go_at_call 103; refine (specParse _ HES.out _).mono ?_; rintro e w1 ⟨rfl, hb1⟩; rw [HX.out]; unfold two)
          go_ret2
          exact ⟨by rw [HP.out]; rfl, hb1⟩
        · rw [if_pos ⟨rfl, hm, hz⟩] at hps
          have hz1 : (n == 0) = false := by rw [beq_eq_false_iff_ne]; exact hz
          have HP := Lib.hid hps; clear hps hb
          go_enter Tryz.func156, Tryz.ntmps156
          go_wp2_with (go_at_call 103; refine (specParse _ HES.out _).mono ?_; rintro e w1 ⟨rfl, hb1⟩; rw [HX.out]; unfold two)
          go_ret2
          exact ⟨by rw [HP.out]; rfl, hb1⟩
      · rw [if_neg (fun hh => hm hh.2.1)] at hps
        have HP := Lib.hid hps; clear hps hb
        go_enter Tryz.func156, Tryz.ntmps156
        go_wp2_with (go_at_call 103; refine (specParse _ HES.out _).mono ?_; rintro e w1 ⟨rfl, hb1⟩; rw [HX.out]; unfold two)
        go_ret2
        exact ⟨by rw [HP.out]; rfl, hb1⟩
  · have hps : dec.sps s.data.toList = if (dec.sp s.data.toList).2 = true ∧ (dec.sp s.data.toList).1 ≤ 1000000000 then ((dec.sp s.data.toList).1, true) else (0, false) := by
      unfold dec.sps
      rw [if_neg hneg]
    have hb := dec.pr_true (low := 0) (high := 1000000000000) (l := s.data.toList)
    rw [dec.sp_eq] at hps
    generalize hx : dec.pr 0 1000000000000 s.data.toList = x at hps hb
    obtain ⟨n, ok⟩ := x
    have HX := Lib.hid hx; clear hx
    by_cases h0 : 0 < s.size
    · have h45 : s[0] ≠ 45 := by
        intro h
        apply hneg
        rw [List.head?_eq_getElem?, List.getElem?_eq_getElem (by omega)]
        exact congrArg some h
      have h46 : ((s[0].toNat : Int) == 45) = false := by
        rw [beq_eq_false_iff_ne]
        intro h
        apply h45
        apply UInt8.toNat_inj.1
        have : (45 : UInt8).toNat = 45 := rfl
        omega
      clear hneg hsz h45
      cases ok
      · rw [if_neg (fun hh => by cases hh.1)] at hps
        have HP := Lib.hid hps; clear hps hb
        go_enter Tryz.func156, Tryz.ntmps156
        go_wp2_with (go_at_call 103; refine (specParse _ hl _).mono ?_; rintro e w1 ⟨rfl, hb1⟩; rw [HX.out]; unfold two)
        go_ret2
        exact ⟨by rw [HP.out]; rfl, hb1⟩
      · obtain ⟨_, b1, b2⟩ := hb rfl
        simp only at b1 b2
        by_cases hm : n ≤ 1000000000
        · rw [if_pos ⟨rfl, hm⟩] at hps
          have HP := Lib.hid hps; clear hps hb
          go_enter Tryz.func156, Tryz.ntmps156
          go_wp2_with (go_at_call 103; refine (specParse _ hl _).mono ?_; rintro e w1 ⟨rfl, hb1⟩; rw [HX.out]; unfold two)
          go_ret2
          exact ⟨by rw [HP.out]; rfl, hb1⟩
        · rw [if_neg (fun hh => hm hh.2)] at hps
          have HP := Lib.hid hps; clear hps hb
          go_enter Tryz.func156, Tryz.ntmps156
          go_wp2_with (go_at_call 103; refine (specParse _ hl _).mono ?_; rintro e w1 ⟨rfl, hb1⟩; rw [HX.out]; unfold two)
          go_ret2
          exact ⟨by rw [HP.out]; rfl, hb1⟩
    · have hsz0 : (s.size : Int) ≤ 0 := by omega
      clear hneg hsz
      cases ok
      · rw [if_neg (fun hh => by cases hh.1)] at hps
        have HP := Lib.hid hps; clear hps hb
        go_enter Tryz.func156, Tryz.ntmps156
        go_wp2_with (go_at_call 103; refine (specParse _ hl _).mono ?_; rintro e w1 ⟨rfl, hb1⟩; rw [HX.out]; unfold two)
        go_ret2
        exact ⟨by rw [HP.out]; rfl, hb1⟩
      · obtain ⟨_, b1, b2⟩ := hb rfl
        simp only at b1 b2
        by_cases hm : n ≤ 1000000000
        · rw [if_pos ⟨rfl, hm⟩] at hps
          have HP := Lib.hid hps; clear hps hb
          go_enter Tryz.func156, Tryz.ntmps156
          go_wp2_with (go_at_call 103; refine (specParse _ hl _).mono ?_; rintro e w1 ⟨rfl, hb1⟩; rw [HX.out]; unfold two)
          go_ret2
          exact ⟨by rw [HP.out]; rfl, hb1⟩
        · rw [if_neg (fun hh => hm hh.2)] at hps
          have HP := Lib.hid hps; clear hps hb
          go_enter Tryz.func156, Tryz.ntmps156
          go_wp2_with (go_at_call 103; refine (specParse _ hl _).mono ?_; rintro e w1 ⟨rfl, hb1⟩; rw [HX.out]; unfold two)
          go_ret2
          exact ⟨by rw [HP.out]; rfl, hb1⟩

end Go.Proofs.YtakdbfifbkngnaaGreatDoor.prs

/-
  The project's readers of a token: a variable, an integer; what they return.
  Conditions: the text has at most 2^40 bytes; the library's variables hold what its text lays.
-/
namespace Go.Proofs.YtakdbfifbkngnaaGreatDoor.lex
open Go.ChangeShapes Go.WideShapes Go.ChangeAt Go.RowKit
set_option linter.unusedVariables false

theorem fill4 {w wF : World} {R : Nat} {t : TypeId} {a b c d c0 c1 c2 c3 : Value} (h : w.heap[R]? = some (.cells #[a, b, c, d] t (0, 0)))
    (hF : ((((w.setCell ⟨R, 0, none⟩ c0).setCell ⟨R, 1, none⟩ c1).setCell ⟨R, 2, none⟩ c2).setCell ⟨R, 3, none⟩ c3) = wF) :
    (∀ j, wF.cell? ⟨R, j, none⟩ = (#[c0, c1, c2, c3] : Array Value)[j]?) ∧ (∀ q, q ≠ R → wF.heap[q]? = w.heap[q]?) ∧ ∀ (B : Nat) (w0 : World), B ≤ R → Below B w0 w → Below B w0 wF := by
  subst hF
  refine ⟨fun j => ?_, fun q hq => ?_, fun B w0 hB hb => ?_⟩
  · have := set_heap (set_heap (set_heap (set_heap h 0 c0) 1 c1) 2 c2) 3 c3
    rw [cell_of_row _ _ j _ _ _ this]
    simp
  · rw [set_other hq, set_other hq, set_other hq, set_other hq]
  · exact (((hb.setCell hB _).setCell hB _).setCell hB _).setCell hB _

/-- What a token's reading returns. -/
def RdE : TR → Ending
  | .bad c => .returned (.tuple #[.agg #[.int .i64 0, .int .i64 0, .string ⟨#[]⟩, .int .i64 0], .int .i64 0, .int .i64 (c : Int)])
  | .good k n t z => .returned (.tuple #[.agg #[.int .i64 (k : Int), .int .i64 n, .string (tx t), .int .i64 0], .int .i64 (z : Int), .int .i64 0])
def RdQ (w : World) (r : TR) (e : Ending) (w' : World) : Prop := e = RdE r ∧ Below w.heap.size w w'
theorem new4 (w : World) : Hid ((w.alloc (.cells #[.int .i64 0, .int .i64 0, .string ⟨#[]⟩, .int .i64 0] IT)).heap[w.heap.size]? = some (.cells #[.int .i64 0, .int .i64 0, .string ⟨#[]⟩, .int .i64 0] IT (0, 0))) := Lib.hid (heap_alloc_new w _)

/-- leadingDigits. -/
theorem digits_i (s : ByteArray) (hs : s.size ≤ 1099511627776) (w : World) : Calls Tryz.prog 146 #[.string s] w (TxQ w (tx (lead.ld s.data.toList))) := by
  have ST := lead.At.start s 0
  obtain ⟨R, HR⟩ : ∃ R, Hid (lead.mg 0 (lead.ld (s.data.toList.drop 0)) = R) := ⟨_, Lib.hid rfl⟩
  obtain ⟨K, HK⟩ : ∃ K, Hid ((lead.ld s.data.toList).length = K) := ⟨_, Lib.hid rfl⟩
  have HT : Hid (tx (lead.ld s.data.toList) = s.extract 0 K) := Lib.hid (by rw [take_extract, ← HK.out, lead.ld_take])
  have hKs : K ≤ s.size := by rw [← HK.out, ← lead.size_eq]; exact lead.ld_len _
  have HF : Hid (K = s.size → s.extract 0 K = s) := Lib.hid fun h => by rw [h, take_extract, ← lead.size_eq, List.take_length, tx_of]
  rw [HR.out] at ST
  have hk0 : 0 + (lead.ld (s.data.toList.drop 0)).length = K := by rw [← HK.out]; simp
  rw [hk0] at ST
  rw [HT.out]
  clear hk0 HT HR HK
  go_enter Tryz.func146, Tryz.ntmps146
  go_wp2
  go_loopg [6] s.size (fun gk i wr => ∃ (k n : Nat), k ≤ s.size ∧ gk + k = s.size ∧ i = .int .i64 k ∧ Hid (lead.At s k n R K) ∧ w = wr)
  case atStart => exact ⟨0, 0, by omega, by omega, rfl, Lib.hid ST, rfl⟩
  case round =>
    clear ST
    obtain ⟨k, n, hk, hgk, rfl, hA, rfl⟩ := hrel
    by_cases hlt : k < s.size
    · have hb0 : (0 : Int) ≤ (s[k].toNat : Int) := by omega
      have hb9 : (s[k].toNat : Int) ≤ 255 := by have := s[k].toNat_lt; omega
      have hbn : s[k].toNat ≤ 1114111 := by have := s[k].toNat_lt; omega
      by_cases hd : lead.dg s[k] = true
      · have HA := Lib.hid (hA.out.step hlt hd)
        have HD : Hid (isDn s[k].toNat = true) := Lib.hid hd
        clear hA hd
        go_wp2_with (go_at_call 113; refine (isDigit' _ hbn _).mono ?_; rintro e w1 ⟨rfl, rfl⟩; rw [HD.out])
        go_roundg (s.size - (k + 1))
        case rel => exact ⟨k + 1, _, by omega, by omega, by go_num, HA, rfl⟩
        case measure => omega
      · have hd' : lead.dg s[k] = false := by simpa using hd
        obtain ⟨-, rfl⟩ := hA.out.stop hlt hd'
        have HD : Hid (isDn s[k].toNat = false) := Lib.hid hd'
        clear hA hd hd'
        go_wp2_with (go_at_call 113; refine (isDigit' _ hbn _).mono ?_; rintro e w1 ⟨rfl, rfl⟩; rw [HD.out])
        go_ret
        exact ⟨rfl, Below.refl _ _⟩
    · obtain rfl : k = s.size := by omega
      obtain ⟨-, rfl⟩ := hA.out.fin (Nat.le_refl _)
      have HE := Lib.hid (HF.out rfl)
      clear hA
      go_wp2
      go_ret
      exact ⟨by first | rfl | (rw [HE.out]; rfl), Below.refl _ _⟩

theorem tail_list (s : ByteArray) (k : Nat) : (s.extract k s.size).data.toList = s.data.toList.drop k := Lib.extract_to_end s k
theorem isEmpty_no {t : ByteArray} (h : t.size ≠ 0) : t.toList.isEmpty = false := by
  rw [ByteArray.toList_eq]
  cases hl : t.data.toList with
  | nil => exact absurd (by rw [← lead.size_eq, hl]; rfl) h
  | cons a l => rfl
theorem empty_is {t : ByteArray} (h : t.size = 0) : t = ⟨#[]⟩ := by
  apply ByteArray.ext
  exact Array.eq_empty_of_size_eq_zero h

/-- readVariable. -/
def varR (l : List UInt8) : TR := if nameLen l = 0 then .bad 2 else .good 2 0 (l.take (nameLen l)) (nameLen l + 1)
theorem readVariable (s : ByteArray) (hs : s.size ≤ 1099511627776) (h1 : 1 ≤ s.size) (w : World) (hT : Tabs w) : Calls Tryz.prog 110 #[.string s] w (RdQ w (varR (s.data.toList.drop 1))) := by
  have LN := leadingName (s.extract 1 s.size) (by rw [ByteArray.size_extract]; omega)
  have hz := nameT_size (s.extract 1 s.size)
  have ht : nameT (s.extract 1 s.size) = tx ((s.data.toList.drop 1).take (nameLen (s.data.toList.drop 1))) := by unfold nameT; rw [tail_list]
  rw [tail_list] at hz
  have hle := nameLen_le (s.data.toList.drop 1)
  rw [List.length_drop, lead.size_eq] at hle
  obtain ⟨n, HN⟩ : ∃ n, Hid (nameLen (s.data.toList.drop 1) = n) := ⟨_, Lib.hid rfl⟩
  obtain ⟨N, HNm⟩ : ∃ N, Hid (nameT (s.extract 1 s.size) = N) := ⟨_, Lib.hid rfl⟩
  rw [HNm.out] at LN hz ht
  rw [HN.out] at hz hle
  have HLN := Lib.hid LN
  have HTT := Lib.hid hT
  have NB : Hid (Tabs (w.alloc (.cells #[.int .i64 0, .int .i64 0, .string ⟨#[]⟩, .int .i64 0] IT))) := Lib.hid (hT.stays (b1 _ _))
  have A0 := new4 w
  have hb0 := Lib.hid (b1 w (.cells #[.int .i64 0, .int .i64 0, .string ⟨#[]⟩, .int .i64 0] IT))
  clear LN hT HNm
  by_cases h0 : n = 0
  · have HV : Hid (varR (s.data.toList.drop 1) = .bad 2) := Lib.hid (by unfold varR; rw [HN.out, if_pos h0])
    obtain rfl := empty_is (hz.trans h0)
    rw [HV.out]
    clear h0 hz ht HV
    go_enter Tryz.func110, Tryz.ntmps110
    go_wp2_with (fail)
    refine (HLN.out _ NB.out).mono ?_
    rintro e w1 ⟨rfl, hb⟩
    have HB := Lib.hid (bs hb0.out hb)
    have A1 := Lib.hid (carry hb A0.out)
    obtain ⟨r, f⟩ := rowc A1.out
    clear hb
    go_wp2_with (fail)
    generalize hwF : (((w1.setCell ⟨w.heap.size, 0, none⟩ _).setCell ⟨w.heap.size, 1, none⟩ _).setCell ⟨w.heap.size, 2, none⟩ _).setCell ⟨w.heap.size, 3, none⟩ _ = wF
    obtain ⟨rF, oF, bF⟩ := fill4 A1.out hwF
    refine bodyPost_ret (v := .tuple #[.agg #[.int .i64 0, .int .i64 0, .string ⟨#[]⟩, .int .i64 0], .int .i64 0, .int .i64 2]) ?_ rfl ?_
    · simp [results, Tryz.results110, go_sem, rF]
    · exact ⟨rfl, bF _ _ (Nat.le_refl _) HB.out⟩
  · have HV : Hid (varR (s.data.toList.drop 1) = .good 2 0 ((s.data.toList.drop 1).take (nameLen (s.data.toList.drop 1))) (n + 1)) := Lib.hid (by unfold varR; rw [HN.out, if_neg h0])
    have hne := isEmpty_no (t := N) (by omega)
    have HQ := Lib.hid ht
    rw [HV.out]
    clear h0 HV ht
    go_enter Tryz.func110, Tryz.ntmps110
    go_wp2_with (fail)
    refine (HLN.out _ NB.out).mono ?_
    rintro e w1 ⟨rfl, hb⟩
    have HB := Lib.hid (bs hb0.out hb)
    have A1 := Lib.hid (carry hb A0.out)
    obtain ⟨r, f⟩ := rowc A1.out
    clear hb
    go_wp2_with (fail)
    generalize hwF : (((w1.setCell ⟨w.heap.size, 0, none⟩ _).setCell ⟨w.heap.size, 1, none⟩ _).setCell ⟨w.heap.size, 2, none⟩ _).setCell ⟨w.heap.size, 3, none⟩ _ = wF
    obtain ⟨rF, oF, bF⟩ := fill4 A1.out hwF
    refine bodyPost_ret (v := .tuple #[.agg #[.int .i64 2, .int .i64 0, .string N, .int .i64 0], .int .i64 (1 + (N.size : Int)), .int .i64 0]) ?_ rfl ?_
    · simp [results, Tryz.results110, go_sem, rF]
      try omega
    · refine ⟨?_, bF _ _ (Nat.le_refl _) HB.out⟩
      have e : RdE (.good 2 0 ((s.data.toList.drop 1).take (nameLen (s.data.toList.drop 1))) (n + 1)) = .returned (.tuple #[.agg #[.int .i64 2, .int .i64 0, .string (tx ((s.data.toList.drop 1).take (nameLen (s.data.toList.drop 1)))), .int .i64 0], .int .i64 ((n + 1 : Nat) : Int), .int .i64 0]) := rfl
      rw [e, ← HQ.out, show ((n + 1 : Nat) : Int) = 1 + (N.size : Int) by rw [hz]; push_cast; omega]

/-- readInteger. -/
def intR (l : List UInt8) : TR := if (dec.pr (-1000000000) 1000000000 (lead.ld l)).2 then .good 4 (dec.pr (-1000000000) 1000000000 (lead.ld l)).1 [] (lead.ld l).length else .bad 4
theorem readInteger (s : ByteArray) (hs : s.size ≤ 1099511627776) (w : World) (hE : prs.Env w) : Calls Tryz.prog 114 #[.string s] w (RdQ w (intR s.data.toList)) := by
  have LD := digits_i s hs
  obtain ⟨D, HD⟩ : ∃ D, Hid (tx (lead.ld s.data.toList) = D) := ⟨_, Lib.hid rfl⟩
  have hz : D.size = (lead.ld s.data.toList).length := by rw [← HD.out, tx_size]
  have hle := lead.ld_len s.data.toList
  rw [lead.size_eq] at hle
  have PS := prs.implParseSigned D (by omega)
  rw [show D.data.toList = lead.ld s.data.toList by rw [← HD.out, tx_list]] at PS
  rw [HD.out] at LD
  unfold prs.two at PS
  obtain ⟨x, HX⟩ : ∃ x, Hid ((dec.pr (-1000000000) 1000000000 (lead.ld s.data.toList)).1 = x) := ⟨_, Lib.hid rfl⟩
  obtain ⟨b, HBb⟩ : ∃ b, Hid ((dec.pr (-1000000000) 1000000000 (lead.ld s.data.toList)).2 = b) := ⟨_, Lib.hid rfl⟩
  obtain ⟨z, HZ⟩ : ∃ z, Hid ((lead.ld s.data.toList).length = z) := ⟨_, Lib.hid rfl⟩
  rw [HX.out, HBb.out] at PS
  have HV : Hid (intR s.data.toList = if b then .good 4 x [] z else .bad 4) := Lib.hid (by unfold intR; rw [HBb.out, HX.out, HZ.out])
  rw [HZ.out] at hz hle
  rw [HV.out]
  have HLD := Lib.hid LD; have HPS := Lib.hid PS; have HE := Lib.hid hE
  have A0 := new4 w
  have hb0 := Lib.hid (b1 w (.cells #[.int .i64 0, .int .i64 0, .string ⟨#[]⟩, .int .i64 0] IT))
  clear LD PS HV hE HX HBb HZ HD
  cases b
  · go_enter Tryz.func114, Tryz.ntmps114
    go_wp2_with (fail)
    refine (HLD.out _).mono ?_
    rintro e w1 ⟨rfl, hb⟩
    have HB := Lib.hid (bs hb0.out hb)
    have A1 := Lib.hid (carry hb A0.out)
    clear hb
    go_wp2_with (fail)
    refine (HPS.out _ (HE.out.stays HB.out)).mono ?_
    rintro e w2 ⟨rfl, hb⟩
    have HB2 := Lib.hid (bs HB.out hb)
    have A2 := Lib.hid (carry hb A1.out)
    obtain ⟨r, f⟩ := rowc A2.out
    clear hb
    go_wp2_with (fail)
    generalize hwF : (((w2.setCell ⟨w.heap.size, 0, none⟩ _).setCell ⟨w.heap.size, 1, none⟩ _).setCell ⟨w.heap.size, 2, none⟩ _).setCell ⟨w.heap.size, 3, none⟩ _ = wF
    obtain ⟨rF, oF, bF⟩ := fill4 A2.out hwF
    refine bodyPost_ret (v := .tuple #[.agg #[.int .i64 0, .int .i64 0, .string ⟨#[]⟩, .int .i64 0], .int .i64 0, .int .i64 4]) ?_ rfl ?_
    · simp [results, Tryz.results114, go_sem, rF]
    · exact ⟨rfl, bF _ _ (Nat.le_refl _) HB2.out⟩
  · go_enter Tryz.func114, Tryz.ntmps114
    go_wp2_with (fail)
    refine (HLD.out _).mono ?_
    rintro e w1 ⟨rfl, hb⟩
    have HB := Lib.hid (bs hb0.out hb)
    have A1 := Lib.hid (carry hb A0.out)
    clear hb
    go_wp2_with (fail)
    refine (HPS.out _ (HE.out.stays HB.out)).mono ?_
    rintro e w2 ⟨rfl, hb⟩
    have HB2 := Lib.hid (bs HB.out hb)
    have A2 := Lib.hid (carry hb A1.out)
    obtain ⟨r, f⟩ := rowc A2.out
    clear hb
    go_wp2_with (fail)
    generalize hwF : (((w2.setCell ⟨w.heap.size, 0, none⟩ _).setCell ⟨w.heap.size, 1, none⟩ _).setCell ⟨w.heap.size, 2, none⟩ _).setCell ⟨w.heap.size, 3, none⟩ _ = wF
    obtain ⟨rF, oF, bF⟩ := fill4 A2.out hwF
    refine bodyPost_ret (v := .tuple #[.agg #[.int .i64 4, .int .i64 x, .string ⟨#[]⟩, .int .i64 0], .int .i64 (D.size : Int), .int .i64 0]) ?_ rfl ?_
    · simp [results, Tryz.results114, go_sem, rF]
      try omega
    · exact ⟨by rw [hz]; rfl, bF _ _ (Nat.le_refl _) HB2.out⟩

end Go.Proofs.YtakdbfifbkngnaaGreatDoor.lex

/-
  The lexer's steps, one by one, without the program.
  Conditions: those that each theorem names.
-/
namespace Go.Proofs.YtakdbfifbkngnaaGreatDoor.lex
set_option linter.unusedVariables false

theorem stp_end {L : List UInt8} {p k : Nat} (hk : upto [60, 63] (L.drop p) = k) (h : ¬ p + k < L.length) : stp L false p = .go (inlT k p (L.drop p)) false (p + k + 2) := by
  subst hk
  unfold stp
  rw [if_pos rfl, if_neg h]
theorem stp_echo {L : List UInt8} {p k : Nat} (hk : upto [60, 63] (L.drop p) = k) (h : p + k < L.length) (he : [60, 63, 61].isPrefixOf (L.drop (p + k)) = true) : stp L false p = .go (inlT k p (L.drop p) ++ [⟨3, 0, tx [101, 99, 104, 111], ((p + k : Nat) : Int)⟩]) true (p + k + 3) := by
  subst hk
  unfold stp
  rw [if_pos rfl, if_pos h, if_pos he]
theorem stp_tag {L : List UInt8} {p k : Nat} (hk : upto [60, 63] (L.drop p) = k) (h : p + k < L.length) (he : [60, 63, 61].isPrefixOf (L.drop (p + k)) = false) : stp L false p = .go (inlT k p (L.drop p)) true (p + k + 2) := by
  subst hk
  unfold stp
  rw [if_pos rfl, if_pos h, if_neg (by simp [he])]
theorem stp_close {L : List UInt8} {p : Nat} (h : [63, 62].isPrefixOf (L.drop p) = true) : stp L true p = .go [⟨6, 0, tx [59], p⟩] false (p + 2 + if [10].isPrefixOf (L.drop (p + 2)) then 1 else 0) := by
  unfold stp
  rw [if_neg (by simp), if_pos h]
theorem stp_cmt {L : List UInt8} {p : Nat} (h1 : [63, 62].isPrefixOf (L.drop p) = false) (h2 : [47, 47].isPrefixOf (L.drop p) = true) : stp L true p = .go [] true (p + cmt (L.drop p)) := by
  unfold stp
  rw [if_neg (by simp), if_neg (by simp [h1]), if_pos h2]
theorem stp_space {L : List UInt8} {p : Nat} (h1 : [63, 62].isPrefixOf (L.drop p) = false) (h2 : [47, 47].isPrefixOf (L.drop p) = false) (h3 : spc (L.drop p) ≠ 0) : stp L true p = .go [] true (p + 1) := by
  unfold stp
  rw [if_neg (by simp), if_neg (by simp [h1]), if_neg (by simp [h2]), if_pos h3]
theorem stp_bad {L : List UInt8} {p c : Nat} (h1 : [63, 62].isPrefixOf (L.drop p) = false) (h2 : [47, 47].isPrefixOf (L.drop p) = false) (h3 : spc (L.drop p) = 0) (ht : tokR (L.drop p) = .bad c) : stp L true p = .bad c := by
  unfold stp
  rw [if_neg (by simp), if_neg (by simp [h1]), if_neg (by simp [h2]), if_neg (by simp [h3]), ht]
theorem stp_good {L : List UInt8} {p k z : Nat} {n : Int} {t : List UInt8} (h1 : [63, 62].isPrefixOf (L.drop p) = false) (h2 : [47, 47].isPrefixOf (L.drop p) = false) (h3 : spc (L.drop p) = 0) (ht : tokR (L.drop p) = .good k n t z) : stp L true p = .go [⟨k, n, tx t, p⟩] true (p + z) := by
  unfold stp
  rw [if_neg (by simp), if_neg (by simp [h1]), if_neg (by simp [h2]), if_neg (by simp [h3]), ht]

theorem spB_iff {b : UInt8} : spB b = true ↔ b = 32 ∨ b = 9 ∨ b = 10 ∨ b = 13 := by
  unfold spB
  simp
theorem spc_cons {b : UInt8} {l : List UInt8} (h : spc (b :: l) ≠ 0) : spB b = true := by
  rw [spc] at h
  by_cases hb : spB b = true
  · exact hb
  · rw [if_neg hb] at h; exact absurd rfl h
theorem space_no {b : UInt8} {l : List UInt8} (h : spB b = true) : [63, 62].isPrefixOf (b :: l) = false ∧ [47, 47].isPrefixOf (b :: l) = false := by
  rcases spB_iff.1 h with rfl | rfl | rfl | rfl <;> exact ⟨rfl, rfl⟩
theorem spc_skip : ∀ l : List UInt8, spc (l.drop (spc l)) = 0
  | [] => rfl
  | b :: l => by
    rw [spc]
    by_cases h : spB b = true
    · rw [if_pos h, List.drop_succ_cons]; exact spc_skip l
    · rw [if_neg h, List.drop_zero, spc, if_neg h]
theorem Sofar.spaces {L : List UInt8} {out : List Tk} : ∀ (n p : Nat), spc (L.drop p) = n → Sofar L true p out → Sofar L true (p + n) out
  | 0, p, _, h => h
  | n + 1, p, hn, h => by
    cases hd : L.drop p with
    | nil => rw [hd] at hn; simp [spc] at hn
    | cons b l =>
      have hb : spB b = true := spc_cons (l := l) (by rw [← hd, hn]; omega)
      have hlt : p < L.length := by
        rcases Nat.lt_or_ge p L.length with h' | h'
        · exact h'
        · rw [List.drop_eq_nil_of_le h'] at hd; cases hd
      obtain ⟨n1, n2⟩ := space_no (l := l) hb
      have hs := stp_space (L := L) (p := p) (by rw [hd]; exact n1) (by rw [hd]; exact n2) (by rw [hn]; omega)
      have h2 := h.step hlt hs (by simp)
      rw [List.append_nil] at h2
      have hn2 : spc (L.drop (p + 1)) = n := by
        have : L.drop (p + 1) = l := by rw [← List.drop_drop, hd]; rfl
        rw [this]
        rw [hd, spc, if_pos hb] at hn
        omega
      have := Sofar.spaces n (p + 1) hn2 h2
      rwa [show p + 1 + n = p + (n + 1) by omega] at this

/-- What is done and what is left, in code or not: a place within the source. -/
def Mid (L : List UInt8) (c : Bool) (p : Nat) (out : List Tk) : Prop := p ≤ L.length ∧ out.length ≤ p ∧ (Sofar L c p out ∨ (p = L.length ∧ Lx L false 0 (.ok out)))
theorem Mid.so {L : List UInt8} {c : Bool} {p : Nat} {out : List Tk} (h : Mid L c p out) (hp : p < L.length) : Sofar L c p out := by
  obtain ⟨h1, h2, h | ⟨h, -⟩⟩ := h
  · exact h
  · omega
theorem Mid.fin {L : List UInt8} {c : Bool} {p : Nat} {out : List Tk} (h : Mid L c p out) (hp : L.length ≤ p) : Lx L false 0 (.ok out) := by
  obtain ⟨h1, h2, h | ⟨-, h⟩⟩ := h
  · exact h.end_ hp
  · exact h
theorem Mid.of {L : List UInt8} {c : Bool} {p : Nat} {out : List Tk} (h : Sofar L c p out) (hp : p ≤ L.length) : Mid L c p out := ⟨hp, h.1, .inl h⟩
theorem Mid.last {L : List UInt8} {c c' : Bool} {p : Nat} {out : List Tk} (h : Sofar L c p out) (hp : L.length ≤ p) (ho : out.length ≤ L.length) : Mid L c' L.length out := ⟨Nat.le_refl _, ho, .inr ⟨rfl, h.end_ hp⟩⟩
theorem Mid.any {L : List UInt8} {c c' : Bool} {out : List Tk} (h : Mid L c L.length out) : Mid L c' L.length out := ⟨Nat.le_refl _, h.2.1, .inr ⟨rfl, h.fin (Nat.le_refl _)⟩⟩

theorem pre_len {p l : List UInt8} (h : p.isPrefixOf l = true) : p.length ≤ l.length := (List.isPrefixOf_iff_prefix.1 h).length_le
/-- A comment has a byte at least. -/
theorem cmt_pos {l : List UInt8} (h : [47, 47].isPrefixOf l = true) : 1 ≤ cmt l := by
  obtain ⟨r, rfl⟩ := List.isPrefixOf_iff_prefix.1 h
  show 1 ≤ cmt (47 :: (47 :: r))
  rw [cmt, if_neg]
  · omega
  · simp [List.isPrefixOf]

/-- What Lex gives. -/
def LexR (L : List UInt8) (out : List Tk) (c p : Nat) : Prop :=
  out.length ≤ 5000 ∧ ((4000 < L.length ∧ out = [] ∧ c = 1 ∧ p = 0) ∨ (L.length ≤ 4000 ∧ ((c = 0 ∧ p = 0 ∧ Lx L false 0 (.ok out)) ∨ (c ≠ 0 ∧ out = [] ∧ Lx L false 0 (.bad c p)))))
theorem LexR.det {L : List UInt8} {out out' : List Tk} {c c' p p' : Nat} (h : LexR L out c p) (h' : LexR L out' c' p') : out = out' ∧ c = c' ∧ p = p' := by
  obtain ⟨-, h⟩ := h
  obtain ⟨-, h'⟩ := h'
  rcases h with ⟨a, rfl, rfl, rfl⟩ | ⟨a, h⟩
  · rcases h' with ⟨b, rfl, rfl, rfl⟩ | ⟨b, -⟩
    · exact ⟨rfl, rfl, rfl⟩
    · omega
  · rcases h' with ⟨b, -⟩ | ⟨b, h'⟩
    · omega
    · rcases h with ⟨rfl, rfl, h⟩ | ⟨hc, rfl, h⟩
      · rcases h' with ⟨rfl, rfl, h'⟩ | ⟨hc', rfl, h'⟩
        · cases h.det h'; exact ⟨rfl, rfl, rfl⟩
        · cases h.det h'
      · rcases h' with ⟨rfl, rfl, h'⟩ | ⟨hc', rfl, h'⟩
        · cases h.det h'
        · cases h.det h'; exact ⟨rfl, rfl, rfl⟩

end Go.Proofs.YtakdbfifbkngnaaGreatDoor.lex

