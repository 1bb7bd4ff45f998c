/-
  What the texts behind this one use: 10 parts of one proof.
  Conditions: those that each theorem names.
-/
import Derived.Test.YtlbkbcafkjgckaaDoorCmB5
import Derived.Test.YtlbkbcafkjgckaaDoorCmSVals
import Derived.Test.YtlbkbcafkjgckaaDoorCmB2
import Derived.Test.YtlbkbcafkjgckaaDoorCmSTreeEq
import Derived.Test.YtlbkbcafkjgckaaDoorRows
import Derived.WalkKit
import Derived.ProofKit
import Derived.IntWalk
import Derived.Lib.Hide
import Derived.Lib.SmallJoins
import Derived.BigQuiet
import Derived.Deep.QuietTactic
import Derived.WalkLawsBesides
import Derived.Laws.BitsLemmas
import Derived.Laws.Closers25b
import Derived.OwnWalk
import Derived.Laws.AppendOwn
import Derived.Test.YtlbkbcafkjgckaaDoorCmSTreeCp
import Derived.Test.YtlbkbcafkjgckaaDoorCmB3
import Derived.Test.YtlbkbcafkjgckaaDoorCmSCopyS
import Derived.Test.YtlbkbcafkjgckaaDoorCmB1
import Derived.Deep.LoopGhost
import Derived.Deep.RegionWith
/-
  Values as a list of cells, five each; one more put in at a place.
  Conditions: those that each theorem names.
-/
namespace Go.Proofs.YtlbkbcafkjgckaaDoor.tree
open Go.ChangeShapes Go.WideShapes Go.ChangeAt Go.RowKit
set_option linter.unusedVariables false

/-- The cells xs are the values s. -/
def XV (w : World) (S : Nat → Prop) (s : List Tr) (xs : List Value) : Prop :=
  xs.length = s.length * 5 ∧ ∀ i t, s[i]? = some t → ∃ k n z x ks' vs' A' c', t = .mk k n z x ks' vs' ∧ TIn w S (.mk k n z x ks' vs') (vV k n z x A' vs'.length c') ∧ ∀ q, q < 5 → xs[i * 5 + q]? = (#[.int .i64 k, .int .i64 n, .string z, .int .i64 x, .slice A' vs'.length c'] : Array Value)[q]?
theorem XV.nil (w : World) (S : Nat → Prop) : XV w S [] [] := ⟨rfl, fun i t h => by simp at h⟩
theorem XV.stays {w w' : World} {S S' : Nat → Prop} {s : List Tr} {xs : List Value} (h : XV w S s xs) (hS : ∀ b, S b → S' b) (hb : ∀ b, S b → b < w.heap.size → w'.heap[b]? = w.heap[b]?) : XV w' S' s xs :=
  ⟨h.1, fun i t ht => by
    obtain ⟨k, n, z, x, ks', vs', A', c', e, hT, hc⟩ := h.2 i t ht
    exact ⟨k, n, z, x, ks', vs', A', c', e, hT.stays hS hb, hc⟩⟩
theorem XV.below {w w' : World} {S : Nat → Prop} {s : List Tr} {xs : List Value} (h : XV w S s xs) (hb : Below w.heap.size w w') : XV w' S s xs := h.stays (fun _ h => h) fun b _ hl => hb.block b hl
theorem XV.ins {w : World} {S : Nat → Prop} {s : List Tr} {xs : List Value} (h : XV w S s xs) {p : Nat} (hp : p ≤ s.length) {k n x : Int} {z : ByteArray} {ks' : List Ky} {vs' : List Tr} {A' : Option Addr} {c' : Nat} (hT : TIn w S (.mk k n z x ks' vs') (vV k n z x A' vs'.length c')) :
    XV w S (s.take p ++ .mk k n z x ks' vs' :: s.drop p) (xs.take (p * 5) ++ [.int .i64 k, .int .i64 n, .string z, .int .i64 x, .slice A' vs'.length c'] ++ xs.drop (p * 5)) := by
  obtain ⟨hl, hi⟩ := h
  refine ⟨by simp; omega, fun i t ht => ?_⟩
  have hlt : (xs.take (p * 5)).length = p * 5 := by rw [List.length_take]; omega
  have hls : (s.take p).length = p := by rw [List.length_take]; omega
  rcases Nat.lt_trichotomy i p with hlt1 | rfl | hgt
  · rw [List.getElem?_append_left (by omega), List.getElem?_take_of_lt hlt1] at ht
    obtain ⟨k, n, z, x, ks', vs', A', c', e, hT, hc⟩ := hi i t ht
    refine ⟨k, n, z, x, ks', vs', A', c', e, hT, fun q hq => ?_⟩
    rw [List.append_assoc, List.getElem?_append_left (by omega), List.getElem?_take_of_lt (by omega)]
    exact hc q hq
  · rw [List.getElem?_append_right (by omega), hls, Nat.sub_self, List.getElem?_cons_zero] at ht
    obtain rfl := Option.some.inj ht
    refine ⟨k, n, z, x, ks', vs', A', c', rfl, hT, fun q hq => ?_⟩
    rw [List.append_assoc, List.getElem?_append_right (by omega), hlt, Nat.add_sub_cancel_left]
    match q, hq with
    | 0, _ => rfl
    | 1, _ => rfl
    | 2, _ => rfl
    | 3, _ => rfl
    | 4, _ => rfl
  · obtain ⟨m, rfl⟩ : ∃ m, i = p + 1 + m := ⟨i - p - 1, by omega⟩
    rw [List.getElem?_append_right (by omega), hls, show p + 1 + m - p = m + 1 by omega, List.getElem?_cons_succ, List.getElem?_drop] at ht
    obtain ⟨k, n, z, x, ks', vs', A', c', e, hT, hc⟩ := hi _ t ht
    refine ⟨k, n, z, x, ks', vs', A', c', e, hT, fun q hq => ?_⟩
    rw [List.getElem?_append_right (by simp; omega), List.getElem?_drop]
    rw [← hc q hq]
    congr 1
    simp
    omega
theorem XV.at_ {w : World} {S : Nat → Prop} {s : List Tr} {xs : List Value} (h : XV w S s xs) {i : Nat} {t : Tr} (ht : s[i]? = some t) : ∃ k n z x ks' vs' A' c', t = .mk k n z x ks' vs' ∧ TIn w S t (vV k n z x A' vs'.length c') ∧ ∀ q, q < 5 → xs[i * 5 + q]? = (#[.int .i64 k, .int .i64 n, .string z, .int .i64 x, .slice A' vs'.length c'] : Array Value)[q]? := by
  obtain ⟨k, n, z, x, ks', vs', A', c', e, hT, hc⟩ := h.2 i t ht
  exact ⟨k, n, z, x, ks', vs', A', c', e, e ▸ hT, hc⟩
theorem XV.one {w : World} {S : Nat → Prop} {s : List Tr} {xs : List Value} (h : XV w S s xs) : ∀ u ∈ xs, u.oneCell' = true := fun u hu => by
  obtain ⟨j, hj, rfl⟩ := List.mem_iff_getElem.1 hu
  have hlen := h.1
  have hi : j / 5 < s.length := by omega
  obtain ⟨k, n, z, x, ks', vs', A', c', e, hT, hc⟩ := h.2 (j / 5) _ (List.getElem?_eq_getElem hi)
  have hq := hc (j % 5) (Nat.mod_lt _ (by omega))
  rw [show j / 5 * 5 + j % 5 = j by omega, List.getElem?_eq_getElem hj] at hq
  have h5 : j % 5 = 0 ∨ j % 5 = 1 ∨ j % 5 = 2 ∨ j % 5 = 3 ∨ j % 5 = 4 := by omega
  rcases h5 with h5 | h5 | h5 | h5 | h5 <;> rw [h5] at hq <;> simp at hq <;> rw [hq] <;> rfl
/-- The values at a row whose cells are xs. -/
theorem XV.vin {w : World} {S : Nat → Prop} {s : List Tr} {xs : List Value} (h : XV w S s xs) {a : Addr} (ha : S a.block) (hc : ∀ j u, xs[j]? = some u → w.cell? (a.add j) = some u) : VIn w S s (some a) := fun i t ht => by
  obtain ⟨k, n, z, x, ks', vs', A', c', rfl, hT, hq⟩ := h.2 i t ht
  have at_ : ∀ q u, q < 5 → (#[.int .i64 k, .int .i64 n, .string z, .int .i64 x, .slice A' vs'.length c'] : Array Value)[q]? = some u → w.cell? (a.add (i * 5 + q)) = some u := fun q u hq5 hu => hc _ _ ((hq q hq5).trans hu)
  have sp : ∀ j, j ≠ 0 → a.add (i * 5 + j) = ⟨(a.add (i * 5)).block, (a.add (i * 5)).off + j, none⟩ := fun j hj => by rw [← add_add', add_pos _ _ hj]
  refine ⟨a, k, n, z, x, ks', vs', A', c', rfl, ha, rfl, hT, ?_, ?_, ?_, ?_, ?_⟩
  · exact at_ 0 _ (by omega) rfl
  · rw [← sp 1 (by omega)]; exact at_ 1 _ (by omega) rfl
  · rw [← sp 2 (by omega)]; exact at_ 2 _ (by omega) rfl
  · rw [← sp 3 (by omega)]; exact at_ 3 _ (by omega) rfl
  · rw [← sp 4 (by omega)]; exact at_ 4 _ (by omega) rfl
theorem cnts_perm {l l' : List Tr} (h : l.Perm l') : cnts l = cnts l' := by
  induction h with
  | nil => rfl
  | cons a _ ih => rw [cnts, cnts, ih]
  | swap a b l => rw [cnts, cnts, cnts, cnts]; omega
  | trans _ _ ih1 ih2 => rw [ih1, ih2]

end Go.Proofs.YtlbkbcafkjgckaaDoor.tree

/-
  Whether two values are the same, every field, without the program.
  Conditions: those that each theorem names.
-/
namespace Go.Proofs.YtlbkbcafkjgckaaDoor.tree
open Go.ChangeShapes Go.WideShapes Go.ChangeAt Go.RowKit
set_option linter.unusedVariables false

/-- Kind, Num, Str, Next and the number of items. -/
def alikeX (t t' : Tr) : Bool :=
  match t, t' with
  | .mk k n s x _ vs, .mk k' n' s' x' _ vs' => decide (k = k') && (decide (n = n') && (decide (s.data.toList = s'.data.toList) && (decide (x = x') && decide (vs.length = vs'.length))))
mutual
def sameB : Tr → Tr → Bool
  | .mk k n s x ks vs, .mk k' n' s' x' ks' vs' => (decide (k = k') && (decide (n = n') && (decide (s.data.toList = s'.data.toList) && (decide (x = x') && decide (vs.length = vs'.length))))) && sameL ks vs ks' vs'
def sameL : List Ky → List Tr → List Ky → List Tr → Bool
  | y :: ks, t :: vs, y' :: ks', t' :: vs' => (decide (y = y') && sameB t t') && sameL ks vs ks' vs'
  | _, _, _, _ => true
end

theorem sameB_mk (k n : Int) (s : ByteArray) (x : Int) (ks : List Ky) (vs : List Tr) (k' n' : Int) (s' : ByteArray) (x' : Int) (ks' : List Ky) (vs' : List Tr) :
    sameB (.mk k n s x ks vs) (.mk k' n' s' x' ks' vs') = (alikeX (.mk k n s x ks vs) (.mk k' n' s' x' ks' vs') && sameL ks vs ks' vs') := by rw [sameB]; rfl
theorem sameL_drop {ks : List Ky} {vs : List Tr} {ks' : List Ky} {vs' : List Tr} {j : Nat} {y y' : Ky} {t t' : Tr} (h1 : ks[j]? = some y) (h2 : vs[j]? = some t) (h3 : ks'[j]? = some y') (h4 : vs'[j]? = some t') :
    sameL (ks.drop j) (vs.drop j) (ks'.drop j) (vs'.drop j) = ((decide (y = y') && sameB t t') && sameL (ks.drop (j + 1)) (vs.drop (j + 1)) (ks'.drop (j + 1)) (vs'.drop (j + 1))) := by
  obtain ⟨a1, rfl⟩ := List.getElem?_eq_some_iff.1 h1
  obtain ⟨a2, rfl⟩ := List.getElem?_eq_some_iff.1 h2
  obtain ⟨a3, rfl⟩ := List.getElem?_eq_some_iff.1 h3
  obtain ⟨a4, rfl⟩ := List.getElem?_eq_some_iff.1 h4
  rw [List.drop_eq_getElem_cons a1, List.drop_eq_getElem_cons a2, List.drop_eq_getElem_cons a3, List.drop_eq_getElem_cons a4, sameL]

theorem sameB_same : ∀ t, fits t → sameB t t = true := Tr.ind fun k n s x ks vs ih hf => by
  rw [sameB_mk, Bool.and_eq_true]
  refine ⟨by unfold alikeX; simp, ?_⟩
  rw [fits] at hf
  obtain ⟨h1, h2⟩ := hf
  clear n s x k
  induction ks generalizing vs with
  | nil => cases vs <;> rw [sameL] <;> simp
  | cons y ks ihk =>
    cases vs with
    | nil => rw [sameL]; simp
    | cons t vs =>
      rw [fitss] at h2
      rw [sameL, ih t List.mem_cons_self h2.1, ihk vs (fun u hu => ih u (List.mem_cons_of_mem _ hu)) (by simpa using h1) h2.2]
      simp

end Go.Proofs.YtlbkbcafkjgckaaDoor.tree

/-
  Worlds behind draws that change nothing.
  Conditions: none.
-/
namespace Go.Proofs.YtlbkbcafkjgckaaDoor.tree
open Go.ChangeShapes Go.WideShapes Go.ChangeAt Go.RowKit
set_option linter.unusedVariables false

theorem drewN_heap (w : World) : ∀ n, (w.drewN n).heap = w.heap
  | 0 => rfl
  | n + 1 => (drewN_heap w n)
theorem below_drewN (w : World) : ∀ n, Below w.heap.size w (w.drewN n)
  | 0 => Below.refl _ _
  | n + 1 => (below_drewN w n).drew

end Go.Proofs.YtlbkbcafkjgckaaDoor.tree

/-
  The model's cursor over the bytes of a draw: what its functions return, and that they write nothing but the cursor.
  Conditions: the cursor is one that the draw has made; the texts and numbers of a list are of bounded size.
-/
namespace Go.Proofs.YtlbkbcafkjgckaaDoor.draw
open Go.ChangeShapes Go.WideShapes Go.ChangeAt Go.RowKit
set_option linter.unusedVariables false

theorem and255 (n : Int) : bits .and .i64 n 255 = n % 256 := by
  have h255 : (BitVec.ofInt 64 255).toNat = 2 ^ 8 - 1 := by decide
  have key : (BitVec.ofInt 64 n &&& BitVec.ofInt 64 255).toNat = (n % ((2 ^ 64 : Nat) : Int)).toNat % 2 ^ 8 := by
    rw [BitVec.toNat_and, BitVec.toNat_ofInt, h255, Nat.and_two_pow_sub_one_eq_mod]
  show IntKind.i64.wrap ((BitVec.ofInt 64 n &&& BitVec.ofInt 64 255).toNat : Nat) = n % 256
  rw [key, IntKind.wrap_i64]
  omega

/-- A slice of bytes that lies below block N. -/
def Code (w : World) (N : Nat) (A : Option Addr) (n : Nat) : Prop :=
  0 < n → ∃ a, A = some a ∧ a.block < N ∧ ∀ j, j < n → ∃ v : Int, 0 ≤ v ∧ v ≤ 255 ∧ w.cell? (a.add j) = some (.int .u8 v)

theorem Code.at_ {w : World} {N n k : Nat} {A : Option Addr} (h : Code w N A n) (hk : k < n) : ∃ (a : Addr) (v : Int), A = some a ∧ 0 ≤ v ∧ v ≤ 255 ∧ w.cell? (a.add k) = some (.int .u8 v) := by
  obtain ⟨a, e, _, hc⟩ := h (by omega)
  obtain ⟨v, h0, h1, h2⟩ := hc k hk
  exact ⟨a, v, e, h0, h1, h2⟩

theorem add_block (a : Addr) (n : Nat) : (a.add n).block = a.block := by unfold Addr.add; split <;> rfl

theorem Code.grown {w w' : World} {N n : Nat} {A : Option Addr} (h : Code w N A n) (hN : N ≤ w.heap.size) (hg : w.grownBy w' (some N)) : Code w' N A n := fun hn => by
  obtain ⟨a, e, hb, hc⟩ := h hn
  refine ⟨a, e, hb, fun j hj => ?_⟩
  obtain ⟨v, h0, h1, h2⟩ := hc j hj
  exact ⟨v, h0, h1, (World.cell?_of_block (hg.block _ (by rw [add_block]; omega) (by rw [add_block]; intro e; injection e; omega))).trans h2⟩

/-- Block N is a cursor. -/
def Cur (w : World) (N : Nat) : Prop :=
  ∃ (A : Option Addr) (n c : Nat) (i h : Int), w.heap[N]? = some (.cells #[.slice A n c, .int .i64 i, .int .i64 h] 112 (0, 0)) ∧ Code w N A n ∧ n ≤ 9223372036854775807 ∧ 0 ≤ i ∧ i ≤ (n : Int)

def ByteQ (N : Nat) (w : World) (e : Ending) (w' : World) : Prop :=
  ∃ x : Int, e = .returned (.int .i64 x) ∧ 0 ≤ x ∧ x ≤ 255 ∧ Cur w' N ∧ w.grownBy w' (some N)

theorem only_set {a w : World} {N : Nat} (h : a.grownBy w (some N)) (o : Nat) (u : Value) : a.grownBy (w.setCell ⟨N, o, none⟩ u) (some N) :=
  ⟨h.os, h.tape, h.output, by simpa [World.setCell] using h.size, fun k hk hne => (Below.heap_setCell w ⟨N, o, none⟩ u k (fun e => hne (by rw [e]))).trans (h.block k hk hne)⟩
theorem only_draws {a w : World} {r : Option Nat} (h : a.grownBy w r) (n : Nat) : a.grownBy (w.drewN n) r := ⟨h.os, h.tape, h.output, h.size, h.block⟩
theorem only_new {a w : World} {r : Option Nat} (h : a.grownBy w r) (o : Obj) : a.grownBy (w.alloc o) r :=
  ⟨h.os, h.tape, h.output, Nat.le_trans h.size (by simp), fun k hk hne => (Below.heap_alloc w o k (Nat.lt_of_lt_of_le hk h.size)).trans (h.block k hk hne)⟩
theorem only_trans {a b c : World} {r : Option Nat} (h : a.grownBy b r) (k : b.grownBy c r) : a.grownBy c r :=
  ⟨k.os.trans h.os, k.tape.trans h.tape, k.output.trans h.output, Nat.le_trans h.size k.size, fun j hj hne => (k.block j (Nat.lt_of_lt_of_le hj h.size) hne).trans (h.block j hj hne)⟩
theorem block_lt {w : World} {N : Nat} {o : Obj} (h : w.heap[N]? = some o) : N < w.heap.size := by
  rcases Nat.lt_or_ge N w.heap.size with hlt | hge
  · exact hlt
  · rw [Array.getElem?_eq_none hge] at h; cases h

theorem byte (N : Nat) (w : World) (hC : Cur w N) :
    Calls Tryd.prog 133 #[.pointer (some ⟨N, 0, none⟩)] w (ByteQ N w) := by
  obtain ⟨A, n, c, i, h, hb, hcode, hn, hi0, hi1⟩ := hC
  have c0 : w.cell? ⟨N, 0, none⟩ = some (.slice A n c) := Joins.cell_of_block hb 0
  have c1 : w.cell? ⟨N, 1, none⟩ = some (.int .i64 i) := Joins.cell_of_block hb 1
  have c2 : w.cell? ⟨N, 2, none⟩ = some (.int .i64 h) := Joins.cell_of_block hb 2
  have f1 : w.frozen? ⟨N, 1, none⟩ = false := Joins.unfrozen_of_block hb 1
  have f2 : w.frozen? ⟨N, 2, none⟩ = false := Joins.unfrozen_of_block hb 2
  have hs : ∀ v m, ((w.setCell ⟨N, 2, none⟩ v).drewN m).heap[N]? = some (.cells #[.slice A n c, .int .i64 i, v] 112 (0, 0)) := fun v m => Joins.block_setCell hb v
  have hg : ∀ v m, w.grownBy ((w.setCell ⟨N, 2, none⟩ v).drewN m) (some N) := fun v m => only_draws (only_set (World.grownBy.refl _ _) 2 v) m
  have hN := block_lt hb
  have HS := Lib.hid hs; have HC := Lib.hid hcode; clear hs hb hcode
  go_enter Tryd.func133, Tryd.ntmps133
  go_wp2
  go_quiet (fail)
  rw [and255]
  have hs1 := HS.out (Value.int IntKind.i64 (wrap64 (wrap64 (h * 6364136223846793005) + 1442695040888963407))) nq
  have hg1 := hg (Value.int IntKind.i64 (wrap64 (wrap64 (h * 6364136223846793005) + 1442695040888963407))) nq
  generalize wrap64 (wrap64 (h * 6364136223846793005) + 1442695040888963407) = h1 at *
  generalize wrap64 (h * 6364136223846793005) = h2 at *
  generalize hx : (bits BinOp.xor IntKind.i64 (h1 / 8589934592) (h1 / 140737488355328)) % 256 = x at *
  have x0 : 0 ≤ x := by omega
  have x1 : x ≤ 255 := by omega
  clear hx
  have hcode1 := HC.out.grown (by omega) hg1
  generalize ((w.setCell ⟨N, 2, none⟩ (.int .i64 h1)).drewN nq) = w1 at *
  clear c0 c1 c2 f1 f2 hg HS HC
  have c0 : w1.cell? ⟨N, 0, none⟩ = some (.slice A n c) := Joins.cell_of_block hs1 0
  have c1 : w1.cell? ⟨N, 1, none⟩ = some (.int .i64 i) := Joins.cell_of_block hs1 1
  have f1 : w1.frozen? ⟨N, 1, none⟩ = false := Joins.unfrozen_of_block hs1 1
  by_cases hlt : i < (n : Int)
  · obtain ⟨k, rfl⟩ := Int.eq_ofNat_of_zero_le hi0
    obtain ⟨a, v, rfl, v0, v1, hv⟩ := hcode1.at_ (k := k) (by omega)
    have HS1 := Lib.hid hs1; have HC1 := Lib.hid hcode1; have HG1 := Lib.hid hg1; clear hs1 hcode1 hg1
    go_wp2
    go_quiet (fail)
    go_wp2
    go_quiet (fail)
    rw [and255]
    generalize hy : (x + v) % 256 = y at *
    have y0 : 0 ≤ y := by omega
    have y1 : y ≤ 255 := by omega
    clear hy
    go_wp2
    go_ret
    refine ⟨y, rfl, y0, y1, ⟨some a, n, c, (k : Int) + 1, h1, Joins.block_setCell HS1.out _, HC1.out.grown (block_lt HS1.out |> Nat.le_of_lt) (only_draws (only_set (World.grownBy.refl _ _) 1 _) _), hn, by omega, by omega⟩, only_draws (only_set HG1.out 1 _) _⟩
  · have HS1 := Lib.hid hs1; have HC1 := Lib.hid hcode1; have HG1 := Lib.hid hg1; clear hs1 hcode1 hg1
    go_wp2
    go_quiet (fail)
    go_wp2
    go_ret
    exact ⟨x, rfl, x0, x1, ⟨A, n, c, i, h1, HS1.out, HC1.out, hn, hi0, hi1⟩, only_draws HG1.out _⟩

def IntQ (lo hi : Int) (N : Nat) (w : World) (e : Ending) (w' : World) : Prop :=
  ∃ r : Int, e = .returned (.int .i64 r) ∧ lo ≤ r ∧ r ≤ hi ∧ Cur w' N ∧ w.grownBy w' (some N)

theorem IntQ.mono {lo hi lo' hi' : Int} {N : Nat} {w w' : World} {e : Ending} (h : IntQ lo hi N w e w') (h0 : lo' ≤ lo) (h1 : hi ≤ hi') : IntQ lo' hi' N w e w' := by
  obtain ⟨r, he, a, b, c, d⟩ := h
  exact ⟨r, he, by omega, by omega, c, d⟩

/-- A number from 0 to n - 1; 0 where n is not above 0. -/
theorem below (N : Nat) (n : Int) (hn : n ≤ 1000000000) (w : World) (hC : Cur w N) :
    Calls Tryd.prog 99 #[.pointer (some ⟨N, 0, none⟩), .int .i64 n] w (IntQ 0 (max (n - 1) 0) N w) := by
  have HC := Lib.hid hC; clear hC
  by_cases h0 : n ≤ 0
  · go_enter Tryd.func99, Tryd.ntmps99
    go_wp2
    go_ret
    exact ⟨0, rfl, by omega, by omega, HC.out, World.grownBy.refl _ _⟩
  · by_cases h1 : n ≤ 256
    · go_enter Tryd.func99, Tryd.ntmps99
      go_wp2_with (fail)
      refine (byte N _ HC.out).mono ?_
      rintro e w1 ⟨x, rfl, x0, x1, hC1, hg1⟩
      have m0 := Int.emod_nonneg x (b := n) (by omega)
      have m1 := Int.emod_lt_of_pos x (b := n) (by omega)
      have HC1 := Lib.hid hC1; have HG1 := Lib.hid hg1; clear hC1 hg1
      go_wp2
      go_ret
      exact ⟨x % n, rfl, m0, by omega, HC1.out, HG1.out⟩
    · go_enter Tryd.func99, Tryd.ntmps99
      go_wp2_with (fail)
      refine (byte N _ HC.out).mono ?_
      rintro e w1 ⟨x, rfl, x0, x1, hC1, hg1⟩
      have HC1 := Lib.hid hC1; have HG1 := Lib.hid hg1; clear hC1 hg1
      go_wp2_with (fail)
      refine (byte N _ HC1.out).mono ?_
      rintro e w2 ⟨y, rfl, y0, y1, hC2, hg2⟩
      have HC2 := Lib.hid hC2; have HG2 := Lib.hid hg2; clear hC2 hg2
      go_wp2_with (fail)
      refine (byte N _ HC2.out).mono ?_
      rintro e w3 ⟨z, rfl, z0, z1, hC3, hg3⟩
      have m0 := Int.emod_nonneg (x * 65536 + y * 256 + z) (b := n) (by omega)
      have m1 := Int.emod_lt_of_pos (x * 65536 + y * 256 + z) (b := n) (by omega)
      have HC3 := Lib.hid hC3; have HG3 := Lib.hid hg3; clear hC3 hg3
      go_wp2
      go_ret
      exact ⟨(x * 65536 + y * 256 + z) % n, rfl, m0, by omega, HC3.out, only_trans (only_trans HG1.out HG2.out) HG3.out⟩

def BoolQ (N : Nat) (w : World) (e : Ending) (w' : World) : Prop :=
  ∃ b : Bool, e = .returned (.bool b) ∧ Cur w' N ∧ w.grownBy w' (some N)

theorem once (N : Nat) (n : Int) (hn : n ≤ 1000000000) (w : World) (hC : Cur w N) :
    Calls Tryd.prog 55 #[.pointer (some ⟨N, 0, none⟩), .int .i64 n] w (BoolQ N w) := by
  have HC := Lib.hid hC; clear hC
  go_enter Tryd.func55, Tryd.ntmps55
  go_wp2_with (fail)
  refine (below N n hn _ HC.out).mono ?_
  rintro e w1 ⟨x, rfl, x0, x1, hC1, hg1⟩
  have HC1 := Lib.hid hC1; have HG1 := Lib.hid hg1; clear hC1 hg1
  go_wp2
  go_ret
  exact ⟨_, rfl, HC1.out, HG1.out⟩

/-- A slice of numbers between lo and hi in a block other than the cursor's. -/
def Ints (lo hi : Int) (w : World) (N L n : Nat) : Prop := L ≠ N ∧ L < w.heap.size ∧ ∀ j, j < n → ∃ v : Int, lo ≤ v ∧ v ≤ hi ∧ w.cell? ⟨L, j, none⟩ = some (.int .i64 v)

theorem pickInt (lo hi : Int) (N L n c : Nat) (hn : 1 ≤ n) (hn2 : n ≤ 1000000) (w : World) (hC : Cur w N) (hL : Ints lo hi w N L n) :
    Calls Tryd.prog 98 #[.pointer (some ⟨N, 0, none⟩), .slice (some ⟨L, 0, none⟩) n c] w (IntQ lo hi N w) := by
  have HC := Lib.hid hC; have HL := Lib.hid hL; clear hC hL
  go_enter Tryd.func98, Tryd.ntmps98
  go_wp2_with (fail)
  refine (below N (n : Int) (by omega) _ HC.out).mono ?_
  rintro e w1 ⟨x, rfl, x0, x1, hC1, hg1⟩
  obtain ⟨k, rfl⟩ := Int.eq_ofNat_of_zero_le x0
  have hk : k < n := by omega
  have hcell : ∃ v : Int, lo ≤ v ∧ v ≤ hi ∧ w1.cell? ⟨L, k, none⟩ = some (.int .i64 v) := by
    obtain ⟨l1, l2, l3⟩ := HL.out
    obtain ⟨v, v0, v1, hv⟩ := l3 k hk
    exact ⟨v, v0, v1, hg1.cell hv (by intro e; injection e with e; exact l1 e)⟩
  obtain ⟨v, v0, v1, hv⟩ := hcell
  have HC1 := Lib.hid hC1; have HG1 := Lib.hid hg1; clear hC1 hg1
  go_wp2
  go_ret
  exact ⟨v, rfl, v0, v1, HC1.out, HG1.out⟩

/-- A slice of texts of at most m bytes in a block other than the cursor's. -/
def Strs (m : Nat) (w : World) (N L n : Nat) : Prop := L ≠ N ∧ L < w.heap.size ∧ ∀ j, j < n → ∃ s : ByteArray, s.size ≤ m ∧ w.cell? ⟨L, j, none⟩ = some (.string s)

def StrQ (m : Nat) (N : Nat) (w : World) (e : Ending) (w' : World) : Prop :=
  ∃ s : ByteArray, e = .returned (.string s) ∧ s.size ≤ m ∧ Cur w' N ∧ w.grownBy w' (some N)

theorem pickStr (m N L n c : Nat) (hn : 1 ≤ n) (hn2 : n ≤ 1000000) (w : World) (hC : Cur w N) (hL : Strs m w N L n) :
    Calls Tryd.prog 97 #[.pointer (some ⟨N, 0, none⟩), .slice (some ⟨L, 0, none⟩) n c] w (StrQ m N w) := by
  have HC := Lib.hid hC; have HL := Lib.hid hL; clear hC hL
  go_enter Tryd.func97, Tryd.ntmps97
  go_wp2_with (fail)
  refine (below N (n : Int) (by omega) _ HC.out).mono ?_
  rintro e w1 ⟨x, rfl, x0, x1, hC1, hg1⟩
  obtain ⟨k, rfl⟩ := Int.eq_ofNat_of_zero_le x0
  have hk : k < n := by omega
  have hcell : ∃ s : ByteArray, s.size ≤ m ∧ w1.cell? ⟨L, k, none⟩ = some (.string s) := by
    obtain ⟨l1, l2, l3⟩ := HL.out
    obtain ⟨v, v0, hv⟩ := l3 k hk
    exact ⟨v, v0, hg1.cell hv (by intro e; injection e with e; exact l1 e)⟩
  obtain ⟨v, v0, hv⟩ := hcell
  have HC1 := Lib.hid hC1; have HG1 := Lib.hid hg1; clear hC1 hg1
  go_wp2
  go_ret
  exact ⟨v, rfl, v0, HC1.out, HG1.out⟩

end Go.Proofs.YtlbkbcafkjgckaaDoor.draw

/-
  The model's draws of one number, and of a cursor: each changes nothing that was there but the cursor.
  Conditions: the bytes of the draw are at most 1048576.
-/
namespace Go.Proofs.YtlbkbcafkjgckaaDoor.draw
open Go.ChangeShapes Go.WideShapes Go.ChangeAt Go.RowKit
set_option linter.unusedVariables false

theorem and30 (n : Int) : bits .and .i64 n 1073741823 = n % 1073741824 := by
  have h30 : (BitVec.ofInt 64 1073741823).toNat = 2 ^ 30 - 1 := by decide
  have key : (BitVec.ofInt 64 n &&& BitVec.ofInt 64 1073741823).toNat = (n % ((2 ^ 64 : Nat) : Int)).toNat % 2 ^ 30 := by
    rw [BitVec.toNat_and, BitVec.toNat_ofInt, h30, Nat.and_two_pow_sub_one_eq_mod]
  show IntKind.i64.wrap ((BitVec.ofInt 64 n &&& BitVec.ofInt 64 1073741823).toNat : Nat) = n % 1073741824
  rw [key, IntKind.wrap_i64]
  omega

theorem Code.keep {w w' : World} {N n : Nat} {A : Option Addr} (h : Code w N A n) (hk : ∀ k, k < N → w'.heap[k]? = w.heap[k]?) : Code w' N A n := fun hn => by
  obtain ⟨a, e, hb, hc⟩ := h hn
  refine ⟨a, e, hb, fun j hj => ?_⟩
  obtain ⟨v, h0, h1, h2⟩ := hc j hj
  exact ⟨v, h0, h1, (World.cell?_of_block (hk _ (by rw [add_block]; omega))).trans h2⟩

theorem Code.later {w w' : World} {n : Nat} {A : Option Addr} (h : Code w w.heap.size A n) (hb : Below w.heap.size w w') : Code w' w'.heap.size A n := fun hn => by
  obtain ⟨a, e, hlt, hc⟩ := (h.keep fun k hk => hb.block k hk) hn
  exact ⟨a, e, Nat.lt_of_lt_of_le hlt hb.size, hc⟩

theorem Cur.keep {w w' : World} {N : Nat} (h : Cur w N) (hk : ∀ k, k < w.heap.size → w'.heap[k]? = w.heap[k]?) : Cur w' N := by
  obtain ⟨A, n, c, i, x, hb, hc, hn, i0, i1⟩ := h
  have hN := block_lt hb
  exact ⟨A, n, c, i, x, (hk N hN).trans hb, hc.keep fun k hlt => hk k (by omega), hn, i0, i1⟩
theorem Cur.new {w : World} {N : Nat} (h : Cur w N) (o : Obj) : Cur (w.alloc o) N := h.keep fun k hk => Below.heap_alloc w o k hk
theorem Cur.below {w w' : World} {N : Nat} (h : Cur w N) (hb : Below w.heap.size w w') : Cur w' N := h.keep hb.block
theorem Cur.lt {w : World} {N : Nat} (h : Cur w N) : N < w.heap.size := by
  obtain ⟨A, n, c, i, x, hb, _⟩ := h
  exact block_lt hb

theorem ints_new (lo hi : Int) (w : World) (t : TypeId) (zs : List Int) (h : ∀ z ∈ zs, lo ≤ z ∧ z ≤ hi) (N : Nat) (hN : N < w.heap.size) :
    Ints lo hi (w.alloc (.cells (zs.map (Value.int .i64)).toArray t)) N w.heap.size zs.length := by
  refine ⟨by omega, by simp, fun j hj => ?_⟩
  obtain ⟨a, b⟩ := h zs[j] (List.getElem_mem _)
  refine ⟨zs[j], a, b, ?_⟩
  rw [World.cell?_alloc_new]
  simp [hj]

theorem odd (N : Nat) (w : World) (hC : Cur w N) :
    Calls Tryd.prog 56 #[.pointer (some ⟨N, 0, none⟩)] w (IntQ (-9223372036854775808) 9223372036854775807 N w) := by
  have hN := hC.lt
  have HI := Lib.hid (ints_new (-9223372036854775808) 9223372036854775807 w 3 [-1, 0, 1, 2, 255, 256, 65535, 2147483647, 2147483648, 4294967295, 4294967296, -2147483648, 9223372036854775807, -9223372036854775808] (by decide) N hN)
  have HC := Lib.hid hC; clear hC
  go_enter Tryd.func56, Tryd.ntmps56
  go_wp2_with (fail)
  refine (pickInt (-9223372036854775808) 9223372036854775807 N w.heap.size 14 14 (by omega) (by omega) _ (HC.out.new _) HI.out).mono ?_
  rintro e w1 ⟨x, rfl, x0, x1, hC1, hg1⟩
  have HC1 := Lib.hid hC1; have HG1 := Lib.hid hg1; clear hC1 hg1
  go_wp2
  go_ret
  exact ⟨x, rfl, x0, x1, HC1.out, only_trans (World.grownBy_alloc _ _ _) HG1.out⟩



theorem cur_new (w : World) (A : Option Addr) (n c : Nat) (x : Int) (hn : n ≤ 1048576) (hA : Code w w.heap.size A n) :
    Cur (w.alloc (.cells #[.slice A n c, .int .i64 0, .int .i64 x] 112)) w.heap.size :=
  ⟨A, n, c, 0, x, by show (w.heap.push _)[w.heap.size]? = _; simp, hA.keep fun k hk => Below.heap_alloc w _ k hk, by omega, by omega, by omega⟩

def NewQ (w : World) (e : Ending) (w' : World) : Prop :=
  ∃ N : Nat, e = .returned (.pointer (some ⟨N, 0, none⟩)) ∧ w.heap.size ≤ N ∧ Cur w' N ∧ Below w.heap.size w w'

theorem new (A : Option Addr) (n c : Nat) (hn : n ≤ 1048576) (w : World) (hA : Code w w.heap.size A n) :
    Calls Tryd.prog 53 #[.slice A n c] w (NewQ w) := by
  have HA := Lib.hid hA; clear hA
  go_enter Tryd.func53, Tryd.ntmps53
  go_wp2
  go_loop [3, 4] (fun h i => ∃ (k : Nat) (x : Int), k ≤ n ∧ i = .int .i64 k ∧ 0 ≤ x ∧ x ≤ 1073741824 ∧ h = .int .i64 x) (fun _ i => n - (RowKit.intOf i).toNat)
  case atStart => exact ⟨0, 193017 + (n : Int), by omega, rfl, by omega, by omega, rfl⟩
  case round =>
    obtain ⟨k, x, hk, rfl, x0, x1, rfl⟩ := hrel
    by_cases hlt : k < n
    · obtain ⟨a, v, rfl, v0, v1, hv⟩ := HA.out.at_ hlt
      by_cases h4 : (k : Int) < 4000
      · go_wp2
        rw [and30]
        exact ⟨⟨k + 1, (x * 137 + v + 11) % 1073741824, by omega, by go_num, by omega, by omega, rfl⟩, by simp only [RowKit.intOf]; omega⟩
      · go_wp2
        go_ret
        exact ⟨w.heap.size, rfl, Nat.le_refl _, cur_new w _ n c x hn HA.out, Joins.below_alloc1 w _⟩
    · go_wp2
      go_ret
      exact ⟨w.heap.size, rfl, Nat.le_refl _, cur_new w _ n c x hn HA.out, Joins.below_alloc1 w _⟩

theorem below_of {B N : Nat} {a b c : World} (h : Below B a b) (hg : b.grownBy c (some N)) (hN : B ≤ N) (hs : B ≤ b.heap.size) : Below B a c :=
  h.grown hg hs (by intro k e; injection e with e; omega)


end Go.Proofs.YtlbkbcafkjgckaaDoor.draw

/-
  Drawn words, keys and scalars.
  Conditions: the cursor's block.
-/
namespace Go.Proofs.YtlbkbcafkjgckaaDoor.draw
open Go.ChangeShapes Go.WideShapes Go.ChangeAt Go.RowKit tree
set_option linter.unusedVariables false

theorem strs_new' (m : Nat) (w : World) (t : TypeId) (zs : List ByteArray) (h : ∀ z ∈ zs, z.size ≤ m) (N : Nat) (hN : N < w.heap.size) :
    Strs m (w.alloc (.cells (zs.map Value.string).toArray t)) N w.heap.size zs.length := by
  refine ⟨by omega, by simp, fun j hj => ?_⟩
  refine ⟨zs[j], h zs[j] (List.getElem_mem _), ?_⟩
  rw [World.cell?_alloc_new]
  simp [hj]

theorem word (N : Nat) (w : World) (hC : Cur w N) : Calls Tryd.prog 136 #[.pointer (some ⟨N, 0, none⟩)] w (StrQ 10 N w) := by
  have hN := hC.lt
  have HI := Lib.hid (strs_new' 10 w 9 [⟨#[]⟩, ⟨#[97]⟩, ⟨#[98]⟩, ⟨#[120, 49]⟩, ⟨#[48]⟩, ⟨#[53]⟩, ⟨#[45, 53]⟩, ⟨#[48, 53]⟩, ⟨#[45, 48]⟩, ⟨#[49, 50, 97]⟩, ⟨#[48, 48, 55]⟩, ⟨#[49, 48, 48, 48, 48, 48, 48, 48, 48, 48]⟩, ⟨#[49, 48, 48, 48, 48, 48, 48, 48, 48, 49]⟩, ⟨#[32, 49]⟩, ⟨#[105, 116, 39, 115]⟩, ⟨#[10]⟩, ⟨#[60, 105, 62]⟩, ⟨#[255, 59]⟩, ⟨#[110, 97, 109, 101]⟩, ⟨#[115, 58, 49, 58]⟩] (by decide) N hN)
  have HC := Lib.hid hC
  clear hC
  go_enter Tryd.func136, Tryd.ntmps136
  go_wp2_with (fail)
  refine (pickStr 10 N w.heap.size 20 20 (by omega) (by omega) _ (HC.out.new _) HI.out).mono ?_
  rintro e w1 ⟨s, rfl, hs, hC1, hg1⟩
  have HC1 := Lib.hid hC1; have HG1 := Lib.hid hg1; clear hC1 hg1
  go_wp2
  go_ret
  exact ⟨s, rfl, hs, HC1.out, only_trans (World.grownBy_alloc _ _ _) HG1.out⟩

theorem Cur.upto {w w' : World} {N : Nat} (h : Cur w N) (hk : ∀ k, k ≤ N → w'.heap[k]? = w.heap[k]?) : Cur w' N := by
  obtain ⟨A, n, c, i, h1, h2, h3, h4, h5, h6⟩ := h
  exact ⟨A, n, c, i, h1, (hk N (Nat.le_refl _)).trans h2, h3.keep fun k hlt => hk k (by omega), h4, h5, h6⟩
/-- Three cells of one block written. -/
theorem put3 {w : World} {R : Nat} {t : TypeId} {a b c : Value} (x y z : Value) (h : w.heap[R]? = some (.cells #[a, b, c] t (0, 0))) :
    (((w.setCell ⟨R, 0, none⟩ x).setCell ⟨R, 1, none⟩ y).setCell ⟨R, 2, none⟩ z).heap[R]? = some (.cells #[x, y, z] t (0, 0)) ∧
    (∀ k, k ≠ R → (((w.setCell ⟨R, 0, none⟩ x).setCell ⟨R, 1, none⟩ y).setCell ⟨R, 2, none⟩ z).heap[k]? = w.heap[k]?) ∧
    ∀ (W : World) (N : Nat), W.heap.size ≤ R → W.grownBy w (some N) → W.grownBy (((w.setCell ⟨R, 0, none⟩ x).setCell ⟨R, 1, none⟩ y).setCell ⟨R, 2, none⟩ z) (some N) := by
  refine ⟨?_, fun k hk => ?_, fun W N hR hg => ⟨hg.os, hg.tape, hg.output, by simpa [set_size] using hg.size, fun j hj hne => ?_⟩⟩
  · have := set_heap (set_heap (set_heap h 0 x) 1 y) 2 z
    simpa using this
  · rw [set_other hk, set_other hk, set_other hk]
  · have hk : j ≠ R := by omega
    rw [set_other hk, set_other hk, set_other hk]
    exact hg.block j hj hne

/-- A drawn key. -/
def DrawKey (N : Nat) (w : World) (e : Ending) (w' : World) : Prop := ∃ y : Ky, e = .returned (kyV y) ∧ (-1000000000 ≤ y.num ∧ y.num ≤ 1000000000 ∧ y.str.size ≤ 2) ∧ Cur w' N ∧ w.grownBy w' (some N)
theorem key (N : Nat) (w : World) (hC : Cur w N) : Calls Tryd.prog 54 #[.pointer (some ⟨N, 0, none⟩)] w (DrawKey N w) := by
  have hN0 := hC.lt
  have HC := Lib.hid hC
  clear hC
  go_enter Tryd.func54, Tryd.ntmps54
  go_wp2_with (fail)
  refine (once N 3 (by omega) _ (HC.out.new _)).mono ?_
  rintro e w1 ⟨b, rfl, hC1, hg1⟩
  have hN := hC1.lt
  have eR : w1.heap[w.heap.size]? = some (.cells #[.bool false, .int .i64 0, .string ⟨#[]⟩] IK (0, 0)) := (hg1.block _ (by simp) (by intro h; injection h; omega)).trans (heap_alloc_new w _)
  have HC1 := Lib.hid hC1; have HG1 := Lib.hid (only_trans (World.grownBy_alloc w (.cells #[.bool false, .int .i64 0, .string ⟨#[]⟩] IK) (some N)) hg1)
  have ER := Lib.hid eR
  clear hC1 hg1 eR
  cases b with
  | true =>
    have HI := Lib.hid (strs_new' 2 w1 9 [⟨#[97]⟩, ⟨#[98]⟩, ⟨#[99]⟩, ⟨#[]⟩, ⟨#[48, 53]⟩, ⟨#[120]⟩] (by decide) N hN)
    go_wp2_with (fail)
    refine (pickStr 2 N w1.heap.size 6 6 (by omega) (by omega) _ (HC1.out.new _) HI.out).mono ?_
    rintro e w2 ⟨s, rfl, hs, hC2, hg2⟩
    have HC2 := Lib.hid hC2
    have hG2 := only_trans (World.grownBy_alloc w1 _ (some N)) hg2
    have eR2 := (hG2.block w.heap.size (Array.getElem?_eq_some_iff.1 ER.out).1 (by intro h; injection h; omega)).trans ER.out
    have HG2 := Lib.hid (only_trans HG1.out hG2)
    have ER2 := Lib.hid eR2
    obtain ⟨r2, f2⟩ := rowc eR2
    clear hC2 hg2 hG2 eR2
    go_wp2_with (fail)
    obtain ⟨eF, oF, gF⟩ := put3 (.bool true) (.int .i64 0) (.string s) ER2.out
    obtain ⟨rF, -⟩ := rowc eF
    have hCF : Cur _ N := Cur.upto HC2.out fun k hk => oF k (by omega)
    have hGF := gF w N (Nat.le_refl _) HG2.out
    clear r2 f2 eF oF gF
    generalize (((w2.setCell ⟨w.heap.size, 0, none⟩ (.bool true)).setCell ⟨w.heap.size, 1, none⟩ (.int .i64 0)).setCell ⟨w.heap.size, 2, none⟩ (.string s)) = wF at *
    refine bodyPost_ret (v := .agg #[.bool true, .int .i64 0, .string s]) (by simp [results, Tryd.results54, go_sem, rF]) rfl ⟨⟨true, 0, s⟩, rfl, ⟨by show (-1000000000 : Int) ≤ 0; omega, by show (0 : Int) ≤ 1000000000; omega, hs⟩, hCF, hGF⟩
  | false =>
    have HI := Lib.hid (ints_new (-1000000000) 1000000000 w1 3 [0, 1, 2, 3, 4, -1, 7, 1000000000, -1000000000] (by decide) N hN)
    go_wp2_with (fail)
    refine (pickInt (-1000000000) 1000000000 N w1.heap.size 9 9 (by omega) (by omega) _ (HC1.out.new _) HI.out).mono ?_
    rintro e w2 ⟨x, rfl, x0, x1, hC2, hg2⟩
    have HC2 := Lib.hid hC2
    have hG2 := only_trans (World.grownBy_alloc w1 _ (some N)) hg2
    have eR2 := (hG2.block w.heap.size (Array.getElem?_eq_some_iff.1 ER.out).1 (by intro h; injection h; omega)).trans ER.out
    have HG2 := Lib.hid (only_trans HG1.out hG2)
    have ER2 := Lib.hid eR2
    obtain ⟨r2, f2⟩ := rowc eR2
    clear hC2 hg2 hG2 eR2
    go_wp2_with (fail)
    obtain ⟨eF, oF, gF⟩ := put3 (.bool false) (.int .i64 x) (.string ⟨#[]⟩) ER2.out
    obtain ⟨rF, -⟩ := rowc eF
    have hCF : Cur _ N := Cur.upto HC2.out fun k hk => oF k (by omega)
    have hGF := gF w N (Nat.le_refl _) HG2.out
    clear r2 f2 eF oF gF
    generalize (((w2.setCell ⟨w.heap.size, 0, none⟩ (.bool false)).setCell ⟨w.heap.size, 1, none⟩ (.int .i64 x)).setCell ⟨w.heap.size, 2, none⟩ (.string ⟨#[]⟩)) = wF at *
    refine bodyPost_ret (v := .agg #[.bool false, .int .i64 x, .string ⟨#[]⟩]) (by simp [results, Tryd.results54, go_sem, rF]) rfl ⟨⟨false, x, ⟨#[]⟩⟩, rfl, ⟨x0, x1, by show (0 : Nat) ≤ 2; omega⟩, hCF, hGF⟩

end Go.Proofs.YtlbkbcafkjgckaaDoor.draw

/-
  Drawn scalars.
  Conditions: the cursor's block.
-/
namespace Go.Proofs.YtlbkbcafkjgckaaDoor.draw
open Go.ChangeShapes Go.WideShapes Go.ChangeAt Go.RowKit tree
set_option linter.unusedVariables false

theorem intV (n : Int) (w : World) : Calls Tryd.prog 119 #[.int .i64 n] w (GivesQ w (vV 2 n ⟨#[]⟩ 0 none 0 0)) := by
  go_enter Tryd.func119, Tryd.ntmps119
  go_wp2
  refine bodyPost_ret (v := vV 2 n ⟨#[]⟩ 0 none 0 0) (by simp [results, Tryd.results119, go_sem]) rfl ⟨rfl, b1 _ _⟩
theorem textV (s : ByteArray) (w : World) : Calls Tryd.prog 135 #[.string s] w (GivesQ w (vV 3 0 s 0 none 0 0)) := by
  go_enter Tryd.func135, Tryd.ntmps135
  go_wp2
  refine bodyPost_ret (v := vV 3 0 s 0 none 0 0) (by simp [results, Tryd.results135, go_sem]) rfl ⟨rfl, b1 _ _⟩
theorem boolV (b : Bool) (w : World) : Calls Tryd.prog 134 #[.bool b] w (GivesQ w (vV 1 (if b then 1 else 0) ⟨#[]⟩ 0 none 0 0)) := by
  cases b
  · go_enter Tryd.func134, Tryd.ntmps134
    go_wp2
    refine bodyPost_ret (v := vV 1 0 ⟨#[]⟩ 0 none 0 0) (by simp [results, Tryd.results134, go_sem]) rfl ⟨rfl, b1 _ _⟩
  · go_enter Tryd.func134, Tryd.ntmps134
    go_wp2
    refine bodyPost_ret (v := vV 1 1 ⟨#[]⟩ 0 none 0 0) (by simp [results, Tryd.results134, go_sem]) rfl ⟨rfl, b1 _ _⟩
theorem arrV (w : World) : Calls Tryd.prog 100 #[] w (GivesQ w (vV 4 0 ⟨#[]⟩ 0 none 0 0)) := by
  go_enter Tryd.func100, Tryd.ntmps100
  go_wp2
  refine bodyPost_ret (v := vV 4 0 ⟨#[]⟩ 0 none 0 0) (by simp [results, Tryd.results100, go_sem]) rfl ⟨rfl, b1 _ _⟩

theorem grown_set {W w : World} {N R j : Nat} {u : Value} (hR : W.heap.size ≤ R) (hg : W.grownBy w (some N)) : W.grownBy (w.setCell ⟨R, j, none⟩ u) (some N) :=
  ⟨hg.os, hg.tape, hg.output, by rw [set_size]; exact hg.size, fun k hk hne => (set_other (by omega)).trans (hg.block k hk hne)⟩
/-- Five cells of one block written. -/
theorem put5 {w : World} {R : Nat} {t : TypeId} {a b c d e : Value} (x y z u v : Value) (h : w.heap[R]? = some (.cells #[a, b, c, d, e] t (0, 0))) :
    (((((w.setCell ⟨R, 0, none⟩ x).setCell ⟨R, 1, none⟩ y).setCell ⟨R, 2, none⟩ z).setCell ⟨R, 3, none⟩ u).setCell ⟨R, 4, none⟩ v).heap[R]? = some (.cells #[x, y, z, u, v] t (0, 0)) ∧
    (∀ k, k ≠ R → (((((w.setCell ⟨R, 0, none⟩ x).setCell ⟨R, 1, none⟩ y).setCell ⟨R, 2, none⟩ z).setCell ⟨R, 3, none⟩ u).setCell ⟨R, 4, none⟩ v).heap[k]? = w.heap[k]?) ∧
    ∀ (W : World) (N : Nat), W.heap.size ≤ R → W.grownBy w (some N) → W.grownBy (((((w.setCell ⟨R, 0, none⟩ x).setCell ⟨R, 1, none⟩ y).setCell ⟨R, 2, none⟩ z).setCell ⟨R, 3, none⟩ u).setCell ⟨R, 4, none⟩ v) (some N) := by
  refine ⟨?_, fun k hk => ?_, fun W N hR hg => grown_set hR (grown_set hR (grown_set hR (grown_set hR (grown_set hR hg))))⟩
  · have := set_heap (set_heap (set_heap (set_heap (set_heap h 0 x) 1 y) 2 z) 3 u) 4 v
    simpa using this
  · rw [set_other hk, set_other hk, set_other hk, set_other hk, set_other hk]
theorem grown_of_below {w w' : World} (h : Below w.heap.size w w') (N : Nat) : w.grownBy w' (some N) := ⟨h.os, h.tape, h.output, h.size, fun j hj _ => h.block j hj⟩

/-- A drawn scalar. -/
def DrawScal (N : Nat) (w : World) (e : Ending) (w' : World) : Prop := ∃ (k n : Int) (s : ByteArray), e = .returned (vV k n s 0 none 0 0) ∧ (0 ≤ k ∧ k ≤ 3 ∧ -1000000000 ≤ n ∧ n ≤ 1000000000 ∧ s.size ≤ 10) ∧ Cur w' N ∧ w.grownBy w' (some N)
theorem DrawScal.of {N : Nat} {w w2 : World} {k n : Int} {s : ByteArray} (hb : 0 ≤ k ∧ k ≤ 3 ∧ -1000000000 ≤ n ∧ n ≤ 1000000000 ∧ s.size ≤ 10) (hN : N < w.heap.size) (hC : Cur w2 N) (hg : w.grownBy w2 (some N))
    (hR : w2.heap[w.heap.size]? = some (.cells #[.int .i64 0, .int .i64 0, .string ⟨#[]⟩, .int .i64 0, .slice none 0 0] IV (0, 0))) (wF : World)
    (hF : wF = ((((w2.setCell ⟨w.heap.size, 0, none⟩ (.int .i64 k)).setCell ⟨w.heap.size, 1, none⟩ (.int .i64 n)).setCell ⟨w.heap.size, 2, none⟩ (.string s)).setCell ⟨w.heap.size, 3, none⟩ (.int .i64 0)).setCell ⟨w.heap.size, 4, none⟩ (.slice none 0 0)) :
    (∀ j, wF.cell? ⟨w.heap.size, j, none⟩ = #[Value.int .i64 k, .int .i64 n, .string s, .int .i64 0, .slice none 0 0][j]?) ∧ DrawScal N w (.returned (vV k n s 0 none 0 0)) wF := by
  obtain ⟨eF, oF, gF⟩ := put5 (.int .i64 k) (.int .i64 n) (.string s) (.int .i64 0) (.slice none 0 0) hR
  rw [← hF] at eF oF gF
  exact ⟨(rowc eF).1, k, n, s, rfl, hb, Cur.upto hC fun k hk => oF k (by omega), gF w N (Nat.le_refl _) hg⟩

theorem scalar (N : Nat) (w : World) (hC : Cur w N) : Calls Tryd.prog 102 #[.pointer (some ⟨N, 0, none⟩)] w (DrawScal N w) := by
  have hN0 := hC.lt
  have HC := Lib.hid hC
  clear hC
  go_enter Tryd.func102, Tryd.ntmps102
  go_wp2_with (fail)
  refine (below N 8 (by omega) _ (HC.out.new _)).mono ?_
  rintro e w1 ⟨x, rfl, x0, x1, hC1, hg1⟩
  have hN := hC1.lt
  have eR : w1.heap[w.heap.size]? = some (.cells #[.int .i64 0, .int .i64 0, .string ⟨#[]⟩, .int .i64 0, .slice none 0 0] IV (0, 0)) := (hg1.block _ (by simp) (by intro h; injection h; omega)).trans (heap_alloc_new w _)
  have HC1 := Lib.hid hC1; have HG1 := Lib.hid (only_trans (World.grownBy_alloc w (.cells #[.int .i64 0, .int .i64 0, .string ⟨#[]⟩, .int .i64 0, .slice none 0 0] IV) (some N)) hg1)
  have ER := Lib.hid eR
  clear hC1 hg1
  have step : ∀ (w2 w3 : World) (k n : Int) (s : ByteArray), Cur w2 N → w1.grownBy w2 (some N) → Below w2.heap.size w2 w3 →
      Hid (Cur w3 N) ∧ Hid (w.grownBy w3 (some N)) ∧ Hid (w3.heap[w.heap.size]? = some (.cells #[.int .i64 0, .int .i64 0, .string ⟨#[]⟩, .int .i64 0, .slice none 0 0] IV (0, 0))) := fun w2 w3 k n s hc hg hb => by
    have hg3 := only_trans hg (grown_of_below hb N)
    exact ⟨hc.below hb, only_trans HG1.out hg3, (hg3.block _ (Array.getElem?_eq_some_iff.1 ER.out).1 (by intro h; injection h; omega)).trans ER.out⟩
  by_cases h0 : x = 0
  · subst h0
    obtain ⟨r1, f1⟩ := rowc eR
    clear eR step
    go_wp2_with (fail)
    generalize hwF : ((((((w1).setCell ⟨w.heap.size, 0, none⟩ (.int .i64 0)).setCell ⟨w.heap.size, 1, none⟩ (.int .i64 0)).setCell ⟨w.heap.size, 2, none⟩ (.string ⟨#[]⟩)).setCell ⟨w.heap.size, 3, none⟩ (.int .i64 0)).setCell ⟨w.heap.size, 4, none⟩ (.slice none 0 0)) = wF
    obtain ⟨rF, hD⟩ := DrawScal.of (k := 0) (n := 0) (s := ⟨#[]⟩) ⟨by omega, by omega, by omega, by omega, by show (0 : Nat) ≤ 10; omega⟩ hN0 HC1.out HG1.out ER.out wF hwF.symm
    clear r1 f1 hwF
    refine bodyPost_ret (v := .agg #[.int .i64 0, .int .i64 0, .string ⟨#[]⟩, .int .i64 0, .slice none 0 0]) ?_ rfl ?_
    · simp [results, Tryd.results102, go_sem, rF]
    · exact hD
  clear eR
  by_cases h1 : x = 1
  · subst h1
    go_wp2_with (fail)
    refine (once N 2 (by omega) _ HC1.out).mono ?_
    rintro e w2 ⟨b, rfl, hC2, hg2⟩
    have HC2 := Lib.hid hC2; have HG2 := Lib.hid hg2; clear hC2 hg2
    go_wp2_with (fail)
    refine (boolV b _).mono ?_
    rintro e w3 ⟨rfl, hb3⟩
    obtain ⟨HC3, HG3, ER3⟩ := step w2 w3 0 0 ⟨#[]⟩ HC2.out HG2.out hb3
    obtain ⟨r3, f3⟩ := rowc ER3.out
    clear hb3 step
    cases b with
    | false =>
      go_wp2_with (fail)
      generalize hwF : ((((((w3).setCell ⟨w.heap.size, 0, none⟩ (.int .i64 1)).setCell ⟨w.heap.size, 1, none⟩ (.int .i64 0)).setCell ⟨w.heap.size, 2, none⟩ (.string ⟨#[]⟩)).setCell ⟨w.heap.size, 3, none⟩ (.int .i64 0)).setCell ⟨w.heap.size, 4, none⟩ (.slice none 0 0)) = wF
      obtain ⟨rF, hD⟩ := DrawScal.of (k := 1) (n := 0) (s := ⟨#[]⟩) ⟨by omega, by omega, by omega, by omega, by show (0 : Nat) ≤ 10; omega⟩ hN0 HC3.out HG3.out ER3.out wF hwF.symm
      clear r3 f3 hwF
      refine bodyPost_ret (v := .agg #[.int .i64 1, .int .i64 0, .string ⟨#[]⟩, .int .i64 0, .slice none 0 0]) ?_ rfl ?_
      · simp [results, Tryd.results102, go_sem, rF]
      · exact hD
    | true =>
      go_wp2_with (fail)
      generalize hwF : ((((((w3).setCell ⟨w.heap.size, 0, none⟩ (.int .i64 1)).setCell ⟨w.heap.size, 1, none⟩ (.int .i64 1)).setCell ⟨w.heap.size, 2, none⟩ (.string ⟨#[]⟩)).setCell ⟨w.heap.size, 3, none⟩ (.int .i64 0)).setCell ⟨w.heap.size, 4, none⟩ (.slice none 0 0)) = wF
      obtain ⟨rF, hD⟩ := DrawScal.of (k := 1) (n := 1) (s := ⟨#[]⟩) ⟨by omega, by omega, by omega, by omega, by show (0 : Nat) ≤ 10; omega⟩ hN0 HC3.out HG3.out ER3.out wF hwF.symm
      clear r3 f3 hwF
      refine bodyPost_ret (v := .agg #[.int .i64 1, .int .i64 1, .string ⟨#[]⟩, .int .i64 0, .slice none 0 0]) ?_ rfl ?_
      · simp [results, Tryd.results102, go_sem, rF]
      · exact hD
  by_cases h2 : x = 2
  · subst h2
    go_wp2_with (fail)
    refine (word N _ HC1.out).mono ?_
    rintro e w2 ⟨s, rfl, hs, hC2, hg2⟩
    have HC2 := Lib.hid hC2; have HG2 := Lib.hid hg2; clear hC2 hg2
    go_wp2_with (fail)
    refine (textV s _).mono ?_
    rintro e w3 ⟨rfl, hb3⟩
    obtain ⟨HC3, HG3, ER3⟩ := step w2 w3 0 0 ⟨#[]⟩ HC2.out HG2.out hb3
    obtain ⟨r3, f3⟩ := rowc ER3.out
    clear hb3 step
    go_wp2_with (fail)
    generalize hwF : ((((((w3).setCell ⟨w.heap.size, 0, none⟩ (.int .i64 3)).setCell ⟨w.heap.size, 1, none⟩ (.int .i64 0)).setCell ⟨w.heap.size, 2, none⟩ (.string s)).setCell ⟨w.heap.size, 3, none⟩ (.int .i64 0)).setCell ⟨w.heap.size, 4, none⟩ (.slice none 0 0)) = wF
    obtain ⟨rF, hD⟩ := DrawScal.of (k := 3) (n := 0) (s := s) ⟨by omega, by omega, by omega, by omega, hs⟩ hN0 HC3.out HG3.out ER3.out wF hwF.symm
    clear r3 f3 hwF
    refine bodyPost_ret (v := .agg #[.int .i64 3, .int .i64 0, .string s, .int .i64 0, .slice none 0 0]) ?_ rfl ?_
    · simp [results, Tryd.results102, go_sem, rF]
    · exact hD
  by_cases h3 : x = 3
  · subst h3
    go_wp2_with (fail)
    refine (word N _ HC1.out).mono ?_
    rintro e w2 ⟨s, rfl, hs, hC2, hg2⟩
    have HC2 := Lib.hid hC2; have HG2 := Lib.hid hg2; clear hC2 hg2
    go_wp2_with (fail)
    refine (textV s _).mono ?_
    rintro e w3 ⟨rfl, hb3⟩
    obtain ⟨HC3, HG3, ER3⟩ := step w2 w3 0 0 ⟨#[]⟩ HC2.out HG2.out hb3
    obtain ⟨r3, f3⟩ := rowc ER3.out
    clear hb3 step
    go_wp2_with (fail)
    generalize hwF : ((((((w3).setCell ⟨w.heap.size, 0, none⟩ (.int .i64 3)).setCell ⟨w.heap.size, 1, none⟩ (.int .i64 0)).setCell ⟨w.heap.size, 2, none⟩ (.string s)).setCell ⟨w.heap.size, 3, none⟩ (.int .i64 0)).setCell ⟨w.heap.size, 4, none⟩ (.slice none 0 0)) = wF
    obtain ⟨rF, hD⟩ := DrawScal.of (k := 3) (n := 0) (s := s) ⟨by omega, by omega, by omega, by omega, hs⟩ hN0 HC3.out HG3.out ER3.out wF hwF.symm
    clear r3 f3 hwF
    refine bodyPost_ret (v := .agg #[.int .i64 3, .int .i64 0, .string s, .int .i64 0, .slice none 0 0]) ?_ rfl ?_
    · simp [results, Tryd.results102, go_sem, rF]
    · exact hD
  by_cases h4 : x = 4
  · subst h4
    have HI := Lib.hid (ints_new (-1000000000) 1000000000 w1 3 [0, 1, -1, 5, 10, 999999999, 1000000000, -1000000000] (by decide) N hN)
    go_wp2_with (fail)
    refine (pickInt (-1000000000) 1000000000 N w1.heap.size 8 8 (by omega) (by omega) _ (HC1.out.new _) HI.out).mono ?_
    rintro e w2 ⟨n, rfl, n0, n1, hC2, hg2⟩
    have HC2 := Lib.hid hC2; have HG2 := Lib.hid (only_trans (World.grownBy_alloc w1 _ (some N)) hg2); clear hC2 hg2
    go_wp2_with (fail)
    refine (intV n _).mono ?_
    rintro e w3 ⟨rfl, hb3⟩
    obtain ⟨HC3, HG3, ER3⟩ := step w2 w3 0 0 ⟨#[]⟩ HC2.out HG2.out hb3
    obtain ⟨r3, f3⟩ := rowc ER3.out
    clear hb3 step
    go_wp2_with (fail)
    generalize hwF : ((((((w3).setCell ⟨w.heap.size, 0, none⟩ (.int .i64 2)).setCell ⟨w.heap.size, 1, none⟩ (.int .i64 n)).setCell ⟨w.heap.size, 2, none⟩ (.string ⟨#[]⟩)).setCell ⟨w.heap.size, 3, none⟩ (.int .i64 0)).setCell ⟨w.heap.size, 4, none⟩ (.slice none 0 0)) = wF
    obtain ⟨rF, hD⟩ := DrawScal.of (k := 2) (n := n) (s := ⟨#[]⟩) ⟨by omega, by omega, n0, n1, by show (0 : Nat) ≤ 10; omega⟩ hN0 HC3.out HG3.out ER3.out wF hwF.symm
    clear r3 f3 hwF
    refine bodyPost_ret (v := .agg #[.int .i64 2, .int .i64 n, .string ⟨#[]⟩, .int .i64 0, .slice none 0 0]) ?_ rfl ?_
    · simp [results, Tryd.results102, go_sem, rF]
    · exact hD
  go_wp2_with (fail)
  refine (below N 20 (by omega) _ HC1.out).mono ?_
  rintro e w2 ⟨n, rfl, n0, n1, hC2, hg2⟩
  have HC2 := Lib.hid hC2; have HG2 := Lib.hid hg2; clear hC2 hg2
  have n2 : n ≤ 19 := by omega
  clear n1
  go_wp2_with (fail)
  refine (intV (n - 5) _).mono ?_
  rintro e w3 ⟨rfl, hb3⟩
  obtain ⟨HC3, HG3, ER3⟩ := step w2 w3 0 0 ⟨#[]⟩ HC2.out HG2.out hb3
  obtain ⟨r3, f3⟩ := rowc ER3.out
  clear hb3 step
  go_wp2_with (fail)
  generalize hwF : ((((((w3).setCell ⟨w.heap.size, 0, none⟩ (.int .i64 2)).setCell ⟨w.heap.size, 1, none⟩ (.int .i64 (n - 5))).setCell ⟨w.heap.size, 2, none⟩ (.string ⟨#[]⟩)).setCell ⟨w.heap.size, 3, none⟩ (.int .i64 0)).setCell ⟨w.heap.size, 4, none⟩ (.slice none 0 0)) = wF
  obtain ⟨rF, hD⟩ := DrawScal.of (k := 2) (n := (n - 5)) (s := ⟨#[]⟩) ⟨by omega, by omega, by omega, by omega, by show (0 : Nat) ≤ 10; omega⟩ hN0 HC3.out HG3.out ER3.out wF hwF.symm
  clear r3 f3 hwF
  refine bodyPost_ret (v := .agg #[.int .i64 2, .int .i64 (n - 5), .string ⟨#[]⟩, .int .i64 0, .slice none 0 0]) ?_ rfl ?_
  · simp [results, Tryd.results102, go_sem, rF]
  · exact hD

end Go.Proofs.YtlbkbcafkjgckaaDoor.draw

/-
  Values that a call appends one by one to a row of its own.
  Conditions: those that each theorem names.
-/
namespace Go.Proofs.YtlbkbcafkjgckaaDoor.tree
open Go.ChangeShapes Go.WideShapes Go.ChangeAt Go.RowKit
set_option linter.unusedVariables false

theorem iv_info : ∃ i, Tryd.prog.info? IV = some i ∧ (i.zero = some (.agg #[.int .i64 0, .int .i64 0, .string ⟨#[]⟩, .int .i64 0, .slice none 0 0]) ∧ i.size = 5 ∧ i.bytes = 64) := by
  have : (Tryd.prog.info? IV).map (fun i => (i.zero, i.size, i.bytes)) = some (some (.agg #[.int .i64 0, .int .i64 0, .string ⟨#[]⟩, .int .i64 0, .slice none 0 0]), 5, 64) := by kernel_rfl
  cases hq : Tryd.prog.info? IV with
  | none => rw [hq] at this; cases this
  | some i => rw [hq] at this; simp at this; exact ⟨i, rfl, this⟩
theorem five_one (k m : Int) (z : ByteArray) (x : Int) (A : Option Addr) (L c : Nat) : ∀ u ∈ [Value.int .i64 k, .int .i64 m, .string z, .int .i64 x, .slice A L c], u.oneCell' = true := by simp [Value.oneCell']
theorem five_new (w : World) (c0 c1 c2 c3 c4 : Value) (t : TypeId) : ∀ j u, [c0, c1, c2, c3, c4][j]? = some u → (w.alloc (.cells #[c0, c1, c2, c3, c4] t)).cell? ((⟨w.heap.size, 0, none⟩ : Addr).add j) = some u := by
  intro j u hj
  rw [Addr.add_lit, Nat.zero_add, cell_of_row _ _ j _ t _ (heap_alloc_new w _)]
  simpa using hj
theorem Fr.grown {S : Nat → Prop} {w w' : World} {row : Option Nat} (g : w.grownBy w' row) (hr : ∀ b, row = some b → S b) : Fr S w w' := ⟨g.os, g.tape, g.output, g.size, fun b hb hn => g.block b hb (fun e => hn (hr b e.symm))⟩

theorem VIn.lt' {w : World} {S : Nat → Prop} {vs : List Tr} {A : Option Addr} (h : VIn w S vs A) : VIn w (fun b => b < w.heap.size) vs A := fun i t ht => by
  obtain ⟨a, k, n, s, x, ks', vs', A', c', e, hSa, rfl, hT, hc⟩ := h i t ht
  refine ⟨a, k, n, s, x, ks', vs', A', c', e, ?_, rfl, hT.lt', hc⟩
  have := World.block_lt_of_cell? _ _ hc.c0
  rwa [mem.add_block] at this

/-- Values that a call appends one by one. -/
def VOwn (w : World) (lo : Nat) (v : Value) (xs : List Value) (vs : List Tr) : Prop :=
  w.ownsRow lo IV 5 v vs.length xs ∧ ∀ i, i < vs.length → ∃ k n s x ks' vs' A c, vs[i]? = some (.mk k n s x ks' vs') ∧ (∀ q, q < 5 → xs[i * 5 + q]? = (#[.int .i64 k, .int .i64 n, .string s, .int .i64 x, .slice A vs'.length c] : Array Value)[q]?) ∧ TIn w (SX lo v) (.mk k n s x ks' vs') (vV k n s x A vs'.length c)
theorem VOwn.row {w : World} {lo : Nat} {v : Value} {xs : List Value} {vs : List Tr} (h : VOwn w lo v xs vs) : w.ownsRow lo IV 5 v vs.length xs := h.1
theorem VOwn.lt {w : World} {lo : Nat} {v : Value} {xs : List Value} {vs : List Tr} (h : VOwn w lo v xs vs) : ∀ b, v.ownBlock = some b → lo ≤ b ∧ b < w.heap.size := World.ownsRow.lt h.1
theorem VOwn.below {w w' : World} {lo : Nat} {v : Value} {xs : List Value} {vs : List Tr} (h : VOwn w lo v xs vs) (hb : Below w.heap.size w w') : VOwn w' lo v xs vs := by
  obtain ⟨h1, h2⟩ := h
  refine ⟨World.ownsRow.kept h1 (mem.none_of_below hb) ownBlock_keep, fun i hi => ?_⟩
  obtain ⟨k, n, s, x, ks', vs', A, c, a2, a4, a5⟩ := h2 i hi
  exact ⟨k, n, s, x, ks', vs', A, c, a2, a4, a5.below' hb⟩
theorem VOwn.more {w w' : World} {lo : Nat} {v : Value} {xs : List Value} {vs : List Tr} (h : VOwn w lo v xs vs) {k n x : Int} {s : ByteArray} {ks' : List Ky} {vs' : List Tr} {A : Option Addr} {c : Nat} (ht : TIn w (SX lo v) (.mk k n s x ks' vs') (vV k n s x A vs'.length c)) {v' : Value}
    (ho : w'.ownsRow lo IV 5 v' (vs.length + 1) (xs ++ [.int .i64 k, .int .i64 n, .string s, .int .i64 x, .slice A vs'.length c])) (hg : w.grownBy w' v.ownBlock) (hat : v'.ownBlock = v.ownBlock ∨ v'.ownBlock = some w.heap.size) :
    VOwn w' lo v' (xs ++ [.int .i64 k, .int .i64 n, .string s, .int .i64 x, .slice A vs'.length c]) (vs ++ [.mk k n s x ks' vs']) := by
  obtain ⟨h1, h3⟩ := h
  have hxl : xs.length = vs.length * 5 := h1.1
  have st : ∀ {t : Tr} {u : Value}, TIn w (SX lo v) t u → TIn w' (SX lo v') t u := fun {t u} h => by
    have h' : TIn w (fun b => SX lo v b ∧ b < w.heap.size) t u := by
      induction h with
      | mk k n s x ks vs A cap C hk hl hm hcap hc ht ih =>
        refine .mk k n s x ks vs A cap C hk hl hm hcap (fun i hi => ?_) ih
        obtain ⟨a, ha, hS, hky, hs, hj⟩ := hc i hi
        refine ⟨a, ha, ⟨hS, ?_⟩, hky, hs, hj⟩
        have := World.block_lt_of_cell? _ _ hky.1
        rwa [mem.add_block] at this
    exact h'.stays (fun b ⟨⟨hb1, hb2⟩, hb3⟩ => ⟨hb1, fun e => by
      rcases hat with h | h
      · exact hb2 (h ▸ e)
      · rw [h] at e; injection e with e; omega⟩) (fun b ⟨⟨hb1, hb2⟩, hb3⟩ hlt => hg.block b hlt (fun e => hb2 e.symm))
  refine ⟨by rw [List.length_append]; exact ho, fun i hi => ?_⟩
  rw [List.length_append] at hi
  simp only [List.length_cons, List.length_nil] at hi
  by_cases e : i = vs.length
  · subst e
    refine ⟨k, n, s, x, ks', vs', A, c, by rw [List.getElem?_append_right (by omega)]; simp, fun q hq => ?_, st ht⟩
    rw [List.getElem?_append_right (by omega), hxl, Nat.add_sub_cancel_left]
    match q, hq with
    | 0, _ => rfl
    | 1, _ => rfl
    | 2, _ => rfl
    | 3, _ => rfl
    | 4, _ => rfl
  · obtain ⟨k1, n1, s1, x1, ks1, vs1, A1, c1, a2, a4, a5⟩ := h3 i (by omega)
    refine ⟨k1, n1, s1, x1, ks1, vs1, A1, c1, by rw [List.getElem?_append_left (by omega)]; exact a2, fun q hq => ?_, st a5⟩
    rw [List.getElem?_append_left (by omega)]
    exact a4 q hq
theorem VOwn.out {w : World} {lo : Nat} {v : Value} {xs : List Value} {vs : List Tr} (h : VOwn w lo v xs vs) : ∃ A c, v = .slice A vs.length c ∧ VIn w (fun _ => True) vs A := by
  obtain ⟨h1, h3⟩ := h
  rcases h1.2 with ⟨rfl, h0⟩ | ⟨g, cap, cur, rfl, hlo, hg, hnc, hcm, hsz, htk⟩
  · rw [h0]
    exact ⟨none, 0, rfl, fun i t ht => by have := (List.getElem?_eq_some_iff.1 ht).1; omega⟩
  · refine ⟨some ⟨g, 0, none⟩, cap, rfl, fun i t ht => ?_⟩
    have hi := (List.getElem?_eq_some_iff.1 ht).1
    obtain ⟨k, n, s, x, ks', vs', A, c, a2, a4, a5⟩ := h3 i hi
    rw [ht] at a2
    obtain rfl := Option.some.inj a2
    have at_ : ∀ q, q < 5 → w.cell? ⟨g, i * 5 + q, none⟩ = (#[.int .i64 k, .int .i64 n, .string s, .int .i64 x, .slice A vs'.length c] : Array Value)[q]? := fun q hq => by
      rw [cell_of_row w g _ cur IV _ hg, ← a4 q hq, ← htk, List.getElem?_take_of_lt (by omega), Array.getElem?_toList]
    refine ⟨⟨g, 0, none⟩, k, n, s, x, ks', vs', A, c, rfl, trivial, rfl, a5.stays (fun _ _ => trivial) (fun _ _ _ => rfl), ?_⟩
    rw [Addr.add_lit, Nat.zero_add]
    exact ⟨at_ 0 (by omega), at_ 1 (by omega), at_ 2 (by omega), at_ 3 (by omega), at_ 4 (by omega)⟩

end Go.Proofs.YtlbkbcafkjgckaaDoor.tree

/-
  Slices of integers in memory: one that reads as a list of numbers, one that the call itself has made, and how both are kept while memory grows.
  Conditions: those that each theorem names.
-/
namespace Go.Proofs.YtlbkbcafkjgckaaDoor.imem
open Go.RowKit mem
set_option linter.unusedVariables false

theorem i64row : (Tryd.prog.info? 3).map (fun i => (i.zero, i.size, i.bytes)) = some (some (.int .i64 0), 1, 8) := by kernel_rfl

/-- The numbers as cells. -/
def ics (l : List Int) : List Value := l.map (Value.int .i64)
theorem ics_len (l : List Int) : (ics l).length = l.length := List.length_map _
theorem ics_app (a b : List Int) : ics (a ++ b) = ics a ++ ics b := List.map_append
theorem ics_get {l : List Int} {j : Nat} {v : Int} (h : l[j]? = some v) : (ics l)[j]? = some (.int .i64 v) := by unfold ics; rw [List.getElem?_map, h]; rfl
theorem ics_set (l : List Int) (j : Nat) (v : Int) : ics (l.set j v) = (ics l).set j (.int .i64 v) := List.map_set
theorem ics_one (l : List Int) : ∀ u ∈ ics l, u.oneCell' = true := ints_oneCell .i64 l
theorem ics_zero (n : Nat) : ics (List.replicate n 0) = List.replicate n (.int .i64 0) := List.map_replicate

/-- The slice at A of n integers reads as l. -/
def RdI (w : World) (A : Option Addr) (n : Nat) (l : List Int) : Prop :=
  l.length = n ∧ (0 < n → ∃ a, A = some a ∧ ∀ j v, l[j]? = some v → w.cell? (a.add j) = some (.int .i64 v))

theorem RdI.len {w : World} {A : Option Addr} {n : Nat} {l : List Int} (h : RdI w A n l) : l.length = n := h.1
theorem RdI.at_ {w : World} {A : Option Addr} {n k : Nat} {l : List Int} (h : RdI w A n l) (hk : k < n) : ∃ a v, A = some a ∧ l[k]? = some v ∧ w.cell? (a.add k) = some (.int .i64 v) := by
  obtain ⟨h1, h3⟩ := h
  obtain ⟨a, e, hc⟩ := h3 (by omega)
  have hl : k < l.length := by omega
  exact ⟨a, l[k], e, List.getElem?_eq_getElem hl, hc k _ (List.getElem?_eq_getElem hl)⟩
/-- In the block of the slice, where it has a cell. -/
theorem RdI.lt {w : World} {A : Option Addr} {n : Nat} {l : List Int} (h : RdI w A n l) (hn : 0 < n) : ∃ a, A = some a ∧ a.block < w.heap.size := by
  obtain ⟨a, v, e, _, hc⟩ := h.at_ hn
  refine ⟨a, e, ?_⟩
  have := World.block_lt_of_cell? _ _ hc
  rwa [add_block] at this
theorem RdI.grown {w w' : World} {A : Option Addr} {n : Nat} {l : List Int} {row : Option Nat} (h : RdI w A n l) (hg : w.grownBy w' row) (ho : Off A n row) : RdI w' A n l := by
  refine ⟨h.1, fun hn => ?_⟩
  obtain ⟨a, e, hc⟩ := h.2 hn
  exact ⟨a, e, fun j v hv => hg.cell (hc j v hv) (by rw [add_block]; exact ho hn a e)⟩
theorem RdI.below {w w' : World} {A : Option Addr} {n : Nat} {l : List Int} (h : RdI w A n l) (hb : Below w.heap.size w w') : RdI w' A n l := h.grown (none_of_below hb) (Off.none_ _ _)
theorem RdI.alloc {w : World} {A : Option Addr} {n : Nat} {l : List Int} (h : RdI w A n l) (o : Obj) : RdI (w.alloc o) A n l := h.grown (World.grownBy_alloc w o none) (Off.none_ _ _)
theorem RdI.draws {w : World} {A : Option Addr} {n : Nat} {l : List Int} (h : RdI w A n l) (k : Nat) : RdI (w.drewN k) A n l := h
theorem RdI.nil_ (w : World) (A : Option Addr) : RdI w A 0 [] := ⟨rfl, fun h => absurd h (by omega)⟩

/-- A slice of integers that the call has made: its block is lo or above. -/
def OwnI (w : World) (lo : Nat) (A : Option Addr) (n c : Nat) (l : List Int) : Prop :=
  l.length = n ∧ w.ownsRow lo 3 1 (.slice A n c) n (ics l)

section
variable {w w' : World} {lo : Nat} {A : Option Addr} {n c : Nat} {l : List Int}
theorem OwnI.len (h : OwnI w lo A n c l) : l.length = n := h.1
theorem OwnI.row (h : OwnI w lo A n c l) : w.ownsRow lo 3 1 (.slice A n c) n (ics l) := h.2
theorem OwnI.form (h : OwnI w lo A n c l) : (A = none ∧ n = 0) ∨ ∃ g, A = some ⟨g, 0, none⟩ ∧ lo ≤ g ∧ g < w.heap.size := by
  rcases h.2.2 with ⟨e, h0⟩ | ⟨g, cap, cur, e, hb, hg, _⟩
  · injection e with e1
    exact .inl ⟨e1, h0⟩
  · injection e with e1
    exact .inr ⟨g, e1, hb, (Array.getElem?_eq_some_iff.1 hg).1⟩
theorem OwnI.rd (h : OwnI w lo A n c l) : RdI w A n l := by
  refine ⟨h.1, fun hn => ?_⟩
  rcases h.form with ⟨_, h0⟩ | ⟨g, e, _⟩
  · omega
  · subst e
    exact ⟨_, rfl, fun j v hv => h.row.cells (g := g) rfl j _ (ics_get hv)⟩
theorem OwnI.block (h : OwnI w lo A n c l) : ∀ k, (Value.slice A n c).ownBlock = some k → lo ≤ k ∧ k < w.heap.size := h.row.lt
theorem OwnI.grown {row : Option Nat} (h : OwnI w lo A n c l) (hg : w.grownBy w' row) (ho : (Value.slice A n c).ownBlock = none ∨ (Value.slice A n c).ownBlock ≠ row) : OwnI w' lo A n c l :=
  ⟨h.1, h.row.kept hg ho⟩
theorem OwnI.none_ (h : OwnI w lo A n c l) (hg : w.grownBy w' none) : OwnI w' lo A n c l := h.grown hg (by
  cases e : (Value.slice A n c).ownBlock with
  | none => exact .inl rfl
  | some k => exact .inr (by simp))
theorem OwnI.keep {row : Option Nat} (h : OwnI w lo A n c l) (hg : w.grownBy w' row) (hd : ∀ k, (Value.slice A n c).ownBlock = some k → row ≠ some k) : OwnI w' lo A n c l :=
  h.grown hg (by
    cases e : (Value.slice A n c).ownBlock with
    | none => exact .inl rfl
    | some k => exact .inr fun e' => hd k e e'.symm)
theorem OwnI.below (h : OwnI w lo A n c l) (hb : Below w.heap.size w w') : OwnI w' lo A n c l := h.none_ (none_of_below hb)
theorem OwnI.alloc (h : OwnI w lo A n c l) (o : Obj) : OwnI (w.alloc o) lo A n c l := ⟨h.1, h.row.alloc o⟩
theorem OwnI.draws (h : OwnI w lo A n c l) (k : Nat) : OwnI (w.drewN k) lo A n c l := h
theorem OwnI.less {lo' : Nat} (h : OwnI w lo A n c l) (hl : lo' ≤ lo) : OwnI w lo' A n c l := ⟨h.1, Joins.ownsRow_le h.row hl⟩
theorem OwnI.head (h : OwnI w lo A n c l) (hn : 0 < n) : ∃ g, A = some ⟨g, 0, none⟩ ∧ lo ≤ g ∧ g < w.heap.size ∧ (Value.slice A n c).ownBlock = some g := by
  rcases h.form with ⟨_, h0⟩ | ⟨g, e, h1, h2⟩
  · omega
  · subst e
    exact ⟨g, rfl, h1, h2, rfl⟩
end

theorem owni_empty (w : World) (lo : Nat) {A : Option Addr} {n c : Nat} (h : w.ownsRow lo 3 1 (.slice A n c) n []) (hn : n = 0) : OwnI w lo A n c [] := ⟨by simp [hn], h⟩
theorem owni_mk {w : World} {lo : Nat} {v : Value} {n : Nat} {l : List Int} (h : w.ownsRow lo 3 1 v n (ics l)) : ∃ A c, v = .slice A n c ∧ OwnI w lo A n c l := by
  have hl : l.length = n := by have := h.1; rw [ics_len] at this; omega
  rcases Joins.ownsRow_forms h with ⟨rfl, rfl⟩ | ⟨g, cap, rfl⟩
  · exact ⟨none, 0, rfl, hl, h⟩
  · exact ⟨_, cap, rfl, hl, h⟩

/-- One cell of an own slice is written. -/
theorem OwnI.set {w : World} {lo g n c : Nat} {l : List Int} (h : OwnI w lo (some ⟨g, 0, none⟩) n c l) (k : Nat) (v : Int) :
    OwnI (w.setCell ⟨g, k, none⟩ (.int .i64 v)) lo (some ⟨g, 0, none⟩) n c (l.set k v) ∧ w.grownBy (w.setCell ⟨g, k, none⟩ (.int .i64 v)) (some g) := by
  have hs := h.row.stored k (.int .i64 v)
  exact ⟨⟨by rw [List.length_set]; exact h.1, by rw [ics_set]; exact hs.1⟩, hs.2⟩
theorem OwnI.cellk {w : World} {lo g n c k : Nat} {l : List Int} (h : OwnI w lo (some ⟨g, 0, none⟩) n c l) (hk : k < n) : (∃ v, w.cell? ⟨g, k, none⟩ = some (.int .i64 v)) ∧ w.frozen? ⟨g, k, none⟩ = false := by
  refine ⟨?_, h.row.frozenAt k⟩
  have hl : k < l.length := by rw [h.1]; exact hk
  exact ⟨l[k], by rw [h.row.cellAt k (by omega)]; exact ics_get (List.getElem?_eq_getElem hl)⟩

theorem belowI_own {w w' : World} {lo : Nat} {A : Option Addr} {n c : Nat} {l : List Int} (h : OwnI w lo A n c l) (hg : w.grownBy w' (Value.slice A n c).ownBlock) (hlo : lo ≤ w.heap.size) : Below lo w w' :=
  (Below.refl lo w).grown hg hlo (fun k hk => (h.block k hk).1)

theorem heap_new_at (w : World) (o : Obj) : (w.alloc o).heap[w.heap.size]? = some o := by
  show (w.heap.push o)[w.heap.size]? = _
  simp

/-- A new block of one integer. -/
theorem rdi_one (w : World) (v : Int) (t : TypeId) : RdI (w.alloc (.cells #[.int .i64 v] t)) (some ⟨w.heap.size, 0, none⟩) 1 [v] := by
  refine ⟨rfl, fun _ => ⟨_, rfl, fun j x hx => ?_⟩⟩
  cases j with
  | zero =>
    have : v = x := by simpa using hx
    subst this
    rw [add_zero_lit, World.cell?_alloc_new]
    rfl
  | succ j => simp at hx
theorem owni_one (w : World) (v : Int) (lo : Nat) (hlo : lo ≤ w.heap.size) : OwnI (w.alloc (.cells #[.int .i64 v] 3)) lo (some ⟨w.heap.size, 0, none⟩) 1 1 [v] :=
  ⟨rfl, rfl, .inr ⟨w.heap.size, 1, #[.int .i64 v], rfl, hlo, heap_new_at w _, Nat.le_refl _, by unfold maxLen; omega, rfl, rfl⟩⟩
theorem owni_none (w : World) (lo : Nat) (hlo : lo ≤ w.heap.size) : OwnI (w.alloc (.cells #[] 3)) lo (some ⟨w.heap.size, 0, none⟩) 0 0 [] :=
  owni_empty _ _ (World.ownsRow_made w #[] 0 hlo (Nat.zero_le _) rfl) rfl
theorem owni_nil (w : World) (lo : Nat) : OwnI w lo none 0 0 [] := owni_empty _ _ (World.ownsRow_nil w lo _ 1) rfl

theorem run_noneI (P : Program) (w : World) (t ty : TypeId) (i : TypeInfo) (ht : P.underlying t = some (.slice 3)) (hi : P.info? 3 = some i) (lo : Nat) (v : Value) (n d : Nat) (xs : List Value) (hown : w.ownsRow lo 3 1 v n xs) :
    (Builtin.append_ #[t, t] ty #[v, .slice none 0 d]).run P w = .ok v w := by
  rcases hown.2 with ⟨rfl, rfl⟩ | ⟨g, cap, cur, rfl, _, _, hnc, _⟩
  · simp [Builtin.append_, run_underlying ht, sizeOf, typeInfo, hi, Builtin.lenOf, Builtin.firstCells]
  · simp [Builtin.append_, run_underlying ht, sizeOf, typeInfo, hi, Builtin.lenOf, Builtin.firstCells, hnc, storeCells]

/-- An operation whose guard, if it has one, says yes. -/
theorem wpList_wanted {P : Program} {w : World} {ops : Array Oper} {rest : List Oper} {o : Oper} {a : Act} {Q : Exit → Act → World → Prop} (hw : Region.wanted o (yielded ops a.tmps))
    (h : ∀ K : Act → World → Prop, (∀ a w, wpList P ops Q rest a w → K a w) → o.wp P a w K Q) : wpList P ops Q (o :: rest) a w :=
  wpList_step fun K hK => by rw [if_pos hw]; exact h K hK

/-- append of a slice that reads as r onto an own one. -/
theorem append_rdi_w {P : Program} {w : World} {ops : Array Oper} {rest : List Oper} {o : Oper} {a : Act} {Q : Exit → Act → World → Prop} (hgd : Region.wanted o (yielded ops a.tmps)) (s x : Operand) (t : TypeId)
    (ho : o.op = .call { callee := .builtin .append, args := #[s, x], argTypes := #[t, t] })
    (i : TypeInfo) (ht : P.underlying t = some (.slice 3)) (hi : P.info? 3 = some i) (hz : i.zero = some (.int .i64 0)) (hsize : i.size = 1) (hby : i.bytes = 8)
    (lo : Nat) (A : Option Addr) (n c : Nat) (l : List Int) (hs : a.eval s = .slice A n c) (hown : OwnI w lo A n c l)
    (B : Option Addr) (m d : Nat) (r : List Int) (hx : a.eval x = .slice B m d) (hr : RdI w B m r) (hb : n + m ≤ 17592186044416) (hlo : lo ≤ w.heap.size)
    (h : ∀ A' c' w', OwnI w' lo A' (n + m) c' (l ++ r) → Below lo w w' → w.grownBy w' (Value.slice A n c).ownBlock → wpList P ops Q rest (a.put o.dst (.slice A' (n + m) c')) w') : wpList P ops Q (o :: rest) a w := by
  have close : ∀ v' w', w'.ownsRow lo 3 1 v' (n + m) (ics l ++ ics r) → w.grownBy w' (Value.slice A n c).ownBlock → wpList P ops Q rest (a.put o.dst v') w' := fun v' w' h1 h2 => by
    rw [← ics_app] at h1
    obtain ⟨A', c', rfl, h3⟩ := owni_mk h1
    exact h A' c' w' h3 (belowI_own hown h2 hlo) h2
  have hl : (ics r).length = m * 1 := by rw [ics_len, hr.len, Nat.mul_one]
  have hmax : n + m ≤ maxLen := by unfold maxLen; omega
  cases B with
  | none =>
    have hm : m = 0 := by
      rcases Nat.eq_zero_or_pos m with h0 | h0
      · exact h0
      · obtain ⟨_, e, _⟩ := hr.2 h0
        cases e
    subst hm
    have hr0 : r = [] := List.eq_nil_of_length_eq_zero hr.len
    subst hr0
    have hrun := run_noneI P w t o.type i ht hi lo _ n d (ics l) hown.row
    refine wpList_wanted hgd fun K hK => ?_
    unfold Oper.wp
    simp [execOp, ho, resolve, invoke, builtin, hs, hx, hrun, Result.andThen]
    exact hK _ _ (close _ _ (by simpa [ics] using hown.row) (World.grownBy.refl _ _))
  | some ad =>
    refine wpList_wanted hgd fun K hK => wp_append_own w s x t ho lo 3 i (.int .i64 0) 1 8 ht hi hz hsize hby rfl (by omega) (.slice A n c) n (ics l) hs hown.row ad m d (ics r) hx hl ?_ (ics_one r) hmax (by omega) hlo ?_
    · intro j u hu
      have hj : j < r.length := by
        have := (List.getElem?_eq_some_iff.1 hu).1
        rwa [ics_len] at this
      obtain ⟨_, e, hc⟩ := hr.2 (by have := hr.len; omega)
      obtain rfl := Option.some.inj e
      have hrj : r[j]? = some r[j] := List.getElem?_eq_getElem hj
      rw [ics_get hrj] at hu
      rw [← hu]
      exact hc j _ hrj
    · intro v' w' h1 h2 _
      exact hK _ _ (close v' w' h1 h2)

theorem append_rdi {P : Program} {w : World} {ops : Array Oper} {rest : List Oper} {o : Oper} {a : Act} {Q : Exit → Act → World → Prop} (hgd : o.guard = none) (s x : Operand) (t : TypeId)
    (ho : o.op = .call { callee := .builtin .append, args := #[s, x], argTypes := #[t, t] })
    (i : TypeInfo) (ht : P.underlying t = some (.slice 3)) (hi : P.info? 3 = some i) (hz : i.zero = some (.int .i64 0)) (hsize : i.size = 1) (hby : i.bytes = 8)
    (lo : Nat) (A : Option Addr) (n c : Nat) (l : List Int) (hs : a.eval s = .slice A n c) (hown : OwnI w lo A n c l)
    (B : Option Addr) (m d : Nat) (r : List Int) (hx : a.eval x = .slice B m d) (hr : RdI w B m r) (hb : n + m ≤ 17592186044416) (hlo : lo ≤ w.heap.size)
    (h : ∀ A' c' w', OwnI w' lo A' (n + m) c' (l ++ r) → Below lo w w' → w.grownBy w' (Value.slice A n c).ownBlock → wpList P ops Q rest (a.put o.dst (.slice A' (n + m) c')) w') : wpList P ops Q (o :: rest) a w :=
  append_rdi_w (by simp [Region.wanted, hgd]) s x t ho i ht hi hz hsize hby lo A n c l hs hown B m d r hx hr hb hlo h

end Go.Proofs.YtlbkbcafkjgckaaDoor.imem

/-
  The model's draws of lists: a new slice of a bounded number of bytes or of integers; nothing that was there is changed but the cursor.
  Conditions: those that each theorem names.
-/
namespace Go.Proofs.YtlbkbcafkjgckaaDoor.draw
open Go.ChangeShapes Go.WideShapes Go.ChangeAt Go.RowKit mem imem
set_option linter.unusedVariables false

theorem code_of_rd {w : World} {A : Option Addr} {n : Nat} {l : List Int} (h : Rd w A n l) : Code w w.heap.size A n := fun hn => by
  obtain ⟨a, e, hlt⟩ := h.lt hn
  refine ⟨a, e, hlt, fun j hj => ?_⟩
  obtain ⟨a', v, e', hv, v0, v1, hc⟩ := h.at_ hj
  rw [e] at e'
  obtain rfl := Option.some.inj e'
  exact ⟨v, v0, v1, hc⟩
theorem Cur.far {w w' : World} {N B : Nat} (h : Cur w N) (hb : Below B w w') (hN : N < B) : Cur w' N := by
  obtain ⟨A, n, c, i, x, hbk, hc, hn, i0, i1⟩ := h
  exact ⟨A, n, c, i, x, (hb.block N hN).trans hbk, hc.keep fun k hlt => hb.block k (by omega), hn, i0, i1⟩
theorem only_far {a w w' : World} {N : Nat} (h : a.grownBy w (some N)) (hb : Below a.heap.size w w') : a.grownBy w' (some N) :=
  ⟨hb.os.trans h.os, hb.tape.trans h.tape, hb.output.trans h.output, Nat.le_trans h.size hb.size, fun k hk hne => (hb.block k hk).trans (h.block k hk hne)⟩





end Go.Proofs.YtlbkbcafkjgckaaDoor.draw

