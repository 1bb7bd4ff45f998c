/-
  The model's cursor over the bytes of a draw: what its functions return, and that they write nothing but the cursor.
  Conditions: the cursor is one that the draw has made; the texts and numbers of a list are of bounded size.
-/
import Derived.Test.YtlbkbcafkjgckaaDoorRows
import Derived.WalkKit
import Derived.ProofKit
import Derived.IntWalk
import Derived.Lib.Hide
import Derived.Lib.SmallJoins
import Derived.BigQuiet
import Derived.Deep.QuietTactic
import Derived.WalkLawsBesides
import Derived.Laws.BitsLemmas
import Derived.Laws.Closers25b
import Derived.OwnWalk
import Derived.Laws.AppendOwn
namespace Go.Proofs.YtlbkbcafkjgckaaDoor.draw
open Go.ChangeShapes Go.WideShapes Go.ChangeAt Go.RowKit
set_option linter.unusedVariables false

theorem and255 (n : Int) : bits .and .i64 n 255 = n % 256 := by
  have h255 : (BitVec.ofInt 64 255).toNat = 2 ^ 8 - 1 := by decide
  have key : (BitVec.ofInt 64 n &&& BitVec.ofInt 64 255).toNat = (n % ((2 ^ 64 : Nat) : Int)).toNat % 2 ^ 8 := by
    rw [BitVec.toNat_and, BitVec.toNat_ofInt, h255, Nat.and_two_pow_sub_one_eq_mod]
  show IntKind.i64.wrap ((BitVec.ofInt 64 n &&& BitVec.ofInt 64 255).toNat : Nat) = n % 256
  rw [key, IntKind.wrap_i64]
  omega

/-- A slice of bytes that lies below block N. -/
def Code (w : World) (N : Nat) (A : Option Addr) (n : Nat) : Prop :=
  0 < n → ∃ a, A = some a ∧ a.block < N ∧ ∀ j, j < n → ∃ v : Int, 0 ≤ v ∧ v ≤ 255 ∧ w.cell? (a.add j) = some (.int .u8 v)

theorem Code.at_ {w : World} {N n k : Nat} {A : Option Addr} (h : Code w N A n) (hk : k < n) : ∃ (a : Addr) (v : Int), A = some a ∧ 0 ≤ v ∧ v ≤ 255 ∧ w.cell? (a.add k) = some (.int .u8 v) := by
  obtain ⟨a, e, _, hc⟩ := h (by omega)
  obtain ⟨v, h0, h1, h2⟩ := hc k hk
  exact ⟨a, v, e, h0, h1, h2⟩

theorem add_block (a : Addr) (n : Nat) : (a.add n).block = a.block := by unfold Addr.add; split <;> rfl

theorem Code.grown {w w' : World} {N n : Nat} {A : Option Addr} (h : Code w N A n) (hN : N ≤ w.heap.size) (hg : w.grownBy w' (some N)) : Code w' N A n := fun hn => by
  obtain ⟨a, e, hb, hc⟩ := h hn
  refine ⟨a, e, hb, fun j hj => ?_⟩
  obtain ⟨v, h0, h1, h2⟩ := hc j hj
  exact ⟨v, h0, h1, (World.cell?_of_block (hg.block _ (by rw [add_block]; omega) (by rw [add_block]; intro e; injection e; omega))).trans h2⟩

/-- Block N is a cursor. -/
def Cur (w : World) (N : Nat) : Prop :=
  ∃ (A : Option Addr) (n c : Nat) (i h : Int), w.heap[N]? = some (.cells #[.slice A n c, .int .i64 i, .int .i64 h] 112 (0, 0)) ∧ Code w N A n ∧ n ≤ 9223372036854775807 ∧ 0 ≤ i ∧ i ≤ (n : Int)

def ByteQ (N : Nat) (w : World) (e : Ending) (w' : World) : Prop :=
  ∃ x : Int, e = .returned (.int .i64 x) ∧ 0 ≤ x ∧ x ≤ 255 ∧ Cur w' N ∧ w.grownBy w' (some N)

theorem only_set {a w : World} {N : Nat} (h : a.grownBy w (some N)) (o : Nat) (u : Value) : a.grownBy (w.setCell ⟨N, o, none⟩ u) (some N) :=
  ⟨h.os, h.tape, h.output, by simpa [World.setCell] using h.size, fun k hk hne => (Below.heap_setCell w ⟨N, o, none⟩ u k (fun e => hne (by rw [e]))).trans (h.block k hk hne)⟩
theorem only_draws {a w : World} {r : Option Nat} (h : a.grownBy w r) (n : Nat) : a.grownBy (w.drewN n) r := ⟨h.os, h.tape, h.output, h.size, h.block⟩
theorem only_new {a w : World} {r : Option Nat} (h : a.grownBy w r) (o : Obj) : a.grownBy (w.alloc o) r :=
  ⟨h.os, h.tape, h.output, Nat.le_trans h.size (by simp), fun k hk hne => (Below.heap_alloc w o k (Nat.lt_of_lt_of_le hk h.size)).trans (h.block k hk hne)⟩
theorem only_trans {a b c : World} {r : Option Nat} (h : a.grownBy b r) (k : b.grownBy c r) : a.grownBy c r :=
  ⟨k.os.trans h.os, k.tape.trans h.tape, k.output.trans h.output, Nat.le_trans h.size k.size, fun j hj hne => (k.block j (Nat.lt_of_lt_of_le hj h.size) hne).trans (h.block j hj hne)⟩
theorem block_lt {w : World} {N : Nat} {o : Obj} (h : w.heap[N]? = some o) : N < w.heap.size := by
  rcases Nat.lt_or_ge N w.heap.size with hlt | hge
  · exact hlt
  · rw [Array.getElem?_eq_none hge] at h; cases h

theorem byte (N : Nat) (w : World) (hC : Cur w N) :
    Calls Tryd.prog 133 #[.pointer (some ⟨N, 0, none⟩)] w (ByteQ N w) := by
  obtain ⟨A, n, c, i, h, hb, hcode, hn, hi0, hi1⟩ := hC
  have c0 : w.cell? ⟨N, 0, none⟩ = some (.slice A n c) := Joins.cell_of_block hb 0
  have c1 : w.cell? ⟨N, 1, none⟩ = some (.int .i64 i) := Joins.cell_of_block hb 1
  have c2 : w.cell? ⟨N, 2, none⟩ = some (.int .i64 h) := Joins.cell_of_block hb 2
  have f1 : w.frozen? ⟨N, 1, none⟩ = false := Joins.unfrozen_of_block hb 1
  have f2 : w.frozen? ⟨N, 2, none⟩ = false := Joins.unfrozen_of_block hb 2
  have hs : ∀ v m, ((w.setCell ⟨N, 2, none⟩ v).drewN m).heap[N]? = some (.cells #[.slice A n c, .int .i64 i, v] 112 (0, 0)) := fun v m => Joins.block_setCell hb v
  have hg : ∀ v m, w.grownBy ((w.setCell ⟨N, 2, none⟩ v).drewN m) (some N) := fun v m => only_draws (only_set (World.grownBy.refl _ _) 2 v) m
  have hN := block_lt hb
  have HS := Lib.hid hs; have HC := Lib.hid hcode; clear hs hb hcode
  go_enter Tryd.func133, Tryd.ntmps133
  go_wp2
  go_quiet (fail)
  rw [and255]
  have hs1 := HS.out (Value.int IntKind.i64 (wrap64 (wrap64 (h * 6364136223846793005) + 1442695040888963407))) nq
  have hg1 := hg (Value.int IntKind.i64 (wrap64 (wrap64 (h * 6364136223846793005) + 1442695040888963407))) nq
  generalize wrap64 (wrap64 (h * 6364136223846793005) + 1442695040888963407) = h1 at *
  generalize wrap64 (h * 6364136223846793005) = h2 at *
  generalize hx : (bits BinOp.xor IntKind.i64 (h1 / 8589934592) (h1 / 140737488355328)) % 256 = x at *
  have x0 : 0 ≤ x := by omega
  have x1 : x ≤ 255 := by omega
  clear hx
  have hcode1 := HC.out.grown (by omega) hg1
  generalize ((w.setCell ⟨N, 2, none⟩ (.int .i64 h1)).drewN nq) = w1 at *
  clear c0 c1 c2 f1 f2 hg HS HC
  have c0 : w1.cell? ⟨N, 0, none⟩ = some (.slice A n c) := Joins.cell_of_block hs1 0
  have c1 : w1.cell? ⟨N, 1, none⟩ = some (.int .i64 i) := Joins.cell_of_block hs1 1
  have f1 : w1.frozen? ⟨N, 1, none⟩ = false := Joins.unfrozen_of_block hs1 1
  by_cases hlt : i < (n : Int)
  · obtain ⟨k, rfl⟩ := Int.eq_ofNat_of_zero_le hi0
    obtain ⟨a, v, rfl, v0, v1, hv⟩ := hcode1.at_ (k := k) (by omega)
    have HS1 := Lib.hid hs1; have HC1 := Lib.hid hcode1; have HG1 := Lib.hid hg1; clear hs1 hcode1 hg1
    go_wp2
    go_quiet (fail)
    go_wp2
    go_quiet (fail)
    rw [and255]
    generalize hy : (x + v) % 256 = y at *
    have y0 : 0 ≤ y := by omega
    have y1 : y ≤ 255 := by omega
    clear hy
    go_wp2
    go_ret
    refine ⟨y, rfl, y0, y1, ⟨some a, n, c, (k : Int) + 1, h1, Joins.block_setCell HS1.out _, HC1.out.grown (block_lt HS1.out |> Nat.le_of_lt) (only_draws (only_set (World.grownBy.refl _ _) 1 _) _), hn, by omega, by omega⟩, only_draws (only_set HG1.out 1 _) _⟩
  · have HS1 := Lib.hid hs1; have HC1 := Lib.hid hcode1; have HG1 := Lib.hid hg1; clear hs1 hcode1 hg1
    go_wp2
    go_quiet (fail)
    go_wp2
    go_ret
    exact ⟨x, rfl, x0, x1, ⟨A, n, c, i, h1, HS1.out, HC1.out, hn, hi0, hi1⟩, only_draws HG1.out _⟩

def IntQ (lo hi : Int) (N : Nat) (w : World) (e : Ending) (w' : World) : Prop :=
  ∃ r : Int, e = .returned (.int .i64 r) ∧ lo ≤ r ∧ r ≤ hi ∧ Cur w' N ∧ w.grownBy w' (some N)

theorem IntQ.mono {lo hi lo' hi' : Int} {N : Nat} {w w' : World} {e : Ending} (h : IntQ lo hi N w e w') (h0 : lo' ≤ lo) (h1 : hi ≤ hi') : IntQ lo' hi' N w e w' := by
  obtain ⟨r, he, a, b, c, d⟩ := h
  exact ⟨r, he, by omega, by omega, c, d⟩

/-- A number from 0 to n - 1; 0 where n is not above 0. -/
theorem below (N : Nat) (n : Int) (hn : n ≤ 1000000000) (w : World) (hC : Cur w N) :
    Calls Tryd.prog 99 #[.pointer (some ⟨N, 0, none⟩), .int .i64 n] w (IntQ 0 (max (n - 1) 0) N w) := by
  have HC := Lib.hid hC; clear hC
  by_cases h0 : n ≤ 0
  · go_enter Tryd.func99, Tryd.ntmps99
    go_wp2
    go_ret
    exact ⟨0, rfl, by omega, by omega, HC.out, World.grownBy.refl _ _⟩
  · by_cases h1 : n ≤ 256
    · go_enter Tryd.func99, Tryd.ntmps99
      go_wp2_with (fail)
      refine (byte N _ HC.out).mono ?_
      rintro e w1 ⟨x, rfl, x0, x1, hC1, hg1⟩
      have m0 := Int.emod_nonneg x (b := n) (by omega)
      have m1 := Int.emod_lt_of_pos x (b := n) (by omega)
      have HC1 := Lib.hid hC1; have HG1 := Lib.hid hg1; clear hC1 hg1
      go_wp2
      go_ret
      exact ⟨x % n, rfl, m0, by omega, HC1.out, HG1.out⟩
    · go_enter Tryd.func99, Tryd.ntmps99
      go_wp2_with (fail)
      refine (byte N _ HC.out).mono ?_
      rintro e w1 ⟨x, rfl, x0, x1, hC1, hg1⟩
      have HC1 := Lib.hid hC1; have HG1 := Lib.hid hg1; clear hC1 hg1
      go_wp2_with (fail)
      refine (byte N _ HC1.out).mono ?_
      rintro e w2 ⟨y, rfl, y0, y1, hC2, hg2⟩
      have HC2 := Lib.hid hC2; have HG2 := Lib.hid hg2; clear hC2 hg2
      go_wp2_with (fail)
      refine (byte N _ HC2.out).mono ?_
      rintro e w3 ⟨z, rfl, z0, z1, hC3, hg3⟩
      have m0 := Int.emod_nonneg (x * 65536 + y * 256 + z) (b := n) (by omega)
      have m1 := Int.emod_lt_of_pos (x * 65536 + y * 256 + z) (b := n) (by omega)
      have HC3 := Lib.hid hC3; have HG3 := Lib.hid hg3; clear hC3 hg3
      go_wp2
      go_ret
      exact ⟨(x * 65536 + y * 256 + z) % n, rfl, m0, by omega, HC3.out, only_trans (only_trans HG1.out HG2.out) HG3.out⟩

def BoolQ (N : Nat) (w : World) (e : Ending) (w' : World) : Prop :=
  ∃ b : Bool, e = .returned (.bool b) ∧ Cur w' N ∧ w.grownBy w' (some N)

theorem once (N : Nat) (n : Int) (hn : n ≤ 1000000000) (w : World) (hC : Cur w N) :
    Calls Tryd.prog 55 #[.pointer (some ⟨N, 0, none⟩), .int .i64 n] w (BoolQ N w) := by
  have HC := Lib.hid hC; clear hC
  go_enter Tryd.func55, Tryd.ntmps55
  go_wp2_with (fail)
  refine (below N n hn _ HC.out).mono ?_
  rintro e w1 ⟨x, rfl, x0, x1, hC1, hg1⟩
  have HC1 := Lib.hid hC1; have HG1 := Lib.hid hg1; clear hC1 hg1
  go_wp2
  go_ret
  exact ⟨_, rfl, HC1.out, HG1.out⟩

/-- A slice of numbers between lo and hi in a block other than the cursor's. -/
def Ints (lo hi : Int) (w : World) (N L n : Nat) : Prop := L ≠ N ∧ L < w.heap.size ∧ ∀ j, j < n → ∃ v : Int, lo ≤ v ∧ v ≤ hi ∧ w.cell? ⟨L, j, none⟩ = some (.int .i64 v)

theorem pickInt (lo hi : Int) (N L n c : Nat) (hn : 1 ≤ n) (hn2 : n ≤ 1000000) (w : World) (hC : Cur w N) (hL : Ints lo hi w N L n) :
    Calls Tryd.prog 98 #[.pointer (some ⟨N, 0, none⟩), .slice (some ⟨L, 0, none⟩) n c] w (IntQ lo hi N w) := by
  have HC := Lib.hid hC; have HL := Lib.hid hL; clear hC hL
  go_enter Tryd.func98, Tryd.ntmps98
  go_wp2_with (fail)
  refine (below N (n : Int) (by omega) _ HC.out).mono ?_
  rintro e w1 ⟨x, rfl, x0, x1, hC1, hg1⟩
  obtain ⟨k, rfl⟩ := Int.eq_ofNat_of_zero_le x0
  have hk : k < n := by omega
  have hcell : ∃ v : Int, lo ≤ v ∧ v ≤ hi ∧ w1.cell? ⟨L, k, none⟩ = some (.int .i64 v) := by
    obtain ⟨l1, l2, l3⟩ := HL.out
    obtain ⟨v, v0, v1, hv⟩ := l3 k hk
    exact ⟨v, v0, v1, hg1.cell hv (by intro e; injection e with e; exact l1 e)⟩
  obtain ⟨v, v0, v1, hv⟩ := hcell
  have HC1 := Lib.hid hC1; have HG1 := Lib.hid hg1; clear hC1 hg1
  go_wp2
  go_ret
  exact ⟨v, rfl, v0, v1, HC1.out, HG1.out⟩

/-- A slice of texts of at most m bytes in a block other than the cursor's. -/
def Strs (m : Nat) (w : World) (N L n : Nat) : Prop := L ≠ N ∧ L < w.heap.size ∧ ∀ j, j < n → ∃ s : ByteArray, s.size ≤ m ∧ w.cell? ⟨L, j, none⟩ = some (.string s)

def StrQ (m : Nat) (N : Nat) (w : World) (e : Ending) (w' : World) : Prop :=
  ∃ s : ByteArray, e = .returned (.string s) ∧ s.size ≤ m ∧ Cur w' N ∧ w.grownBy w' (some N)

theorem pickStr (m N L n c : Nat) (hn : 1 ≤ n) (hn2 : n ≤ 1000000) (w : World) (hC : Cur w N) (hL : Strs m w N L n) :
    Calls Tryd.prog 97 #[.pointer (some ⟨N, 0, none⟩), .slice (some ⟨L, 0, none⟩) n c] w (StrQ m N w) := by
  have HC := Lib.hid hC; have HL := Lib.hid hL; clear hC hL
  go_enter Tryd.func97, Tryd.ntmps97
  go_wp2_with (fail)
  refine (below N (n : Int) (by omega) _ HC.out).mono ?_
  rintro e w1 ⟨x, rfl, x0, x1, hC1, hg1⟩
  obtain ⟨k, rfl⟩ := Int.eq_ofNat_of_zero_le x0
  have hk : k < n := by omega
  have hcell : ∃ s : ByteArray, s.size ≤ m ∧ w1.cell? ⟨L, k, none⟩ = some (.string s) := by
    obtain ⟨l1, l2, l3⟩ := HL.out
    obtain ⟨v, v0, hv⟩ := l3 k hk
    exact ⟨v, v0, hg1.cell hv (by intro e; injection e with e; exact l1 e)⟩
  obtain ⟨v, v0, hv⟩ := hcell
  have HC1 := Lib.hid hC1; have HG1 := Lib.hid hg1; clear hC1 hg1
  go_wp2
  go_ret
  exact ⟨v, rfl, v0, HC1.out, HG1.out⟩

end Go.Proofs.YtlbkbcafkjgckaaDoor.draw
