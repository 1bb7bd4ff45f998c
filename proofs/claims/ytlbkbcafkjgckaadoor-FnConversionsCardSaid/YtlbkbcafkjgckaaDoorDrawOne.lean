/-
  The model's draws of one number, and of a cursor: each changes nothing that was there but the cursor.
  Conditions: the bytes of the draw are at most 1048576.
-/
import Derived.Test.YtlbkbcafkjgckaaDoorDraw
namespace Go.Proofs.YtlbkbcafkjgckaaDoor.draw
open Go.ChangeShapes Go.WideShapes Go.ChangeAt Go.RowKit
set_option linter.unusedVariables false

theorem and30 (n : Int) : bits .and .i64 n 1073741823 = n % 1073741824 := by
  have h30 : (BitVec.ofInt 64 1073741823).toNat = 2 ^ 30 - 1 := by decide
  have key : (BitVec.ofInt 64 n &&& BitVec.ofInt 64 1073741823).toNat = (n % ((2 ^ 64 : Nat) : Int)).toNat % 2 ^ 30 := by
    rw [BitVec.toNat_and, BitVec.toNat_ofInt, h30, Nat.and_two_pow_sub_one_eq_mod]
  show IntKind.i64.wrap ((BitVec.ofInt 64 n &&& BitVec.ofInt 64 1073741823).toNat : Nat) = n % 1073741824
  rw [key, IntKind.wrap_i64]
  omega

theorem Code.keep {w w' : World} {N n : Nat} {A : Option Addr} (h : Code w N A n) (hk : ∀ k, k < N → w'.heap[k]? = w.heap[k]?) : Code w' N A n := fun hn => by
  obtain ⟨a, e, hb, hc⟩ := h hn
  refine ⟨a, e, hb, fun j hj => ?_⟩
  obtain ⟨v, h0, h1, h2⟩ := hc j hj
  exact ⟨v, h0, h1, (World.cell?_of_block (hk _ (by rw [add_block]; omega))).trans h2⟩

theorem Code.later {w w' : World} {n : Nat} {A : Option Addr} (h : Code w w.heap.size A n) (hb : Below w.heap.size w w') : Code w' w'.heap.size A n := fun hn => by
  obtain ⟨a, e, hlt, hc⟩ := (h.keep fun k hk => hb.block k hk) hn
  exact ⟨a, e, Nat.lt_of_lt_of_le hlt hb.size, hc⟩

theorem Cur.keep {w w' : World} {N : Nat} (h : Cur w N) (hk : ∀ k, k < w.heap.size → w'.heap[k]? = w.heap[k]?) : Cur w' N := by
  obtain ⟨A, n, c, i, x, hb, hc, hn, i0, i1⟩ := h
  have hN := block_lt hb
  exact ⟨A, n, c, i, x, (hk N hN).trans hb, hc.keep fun k hlt => hk k (by omega), hn, i0, i1⟩
theorem Cur.new {w : World} {N : Nat} (h : Cur w N) (o : Obj) : Cur (w.alloc o) N := h.keep fun k hk => Below.heap_alloc w o k hk
theorem Cur.below {w w' : World} {N : Nat} (h : Cur w N) (hb : Below w.heap.size w w') : Cur w' N := h.keep hb.block
theorem Cur.lt {w : World} {N : Nat} (h : Cur w N) : N < w.heap.size := by
  obtain ⟨A, n, c, i, x, hb, _⟩ := h
  exact block_lt hb

theorem ints_new (lo hi : Int) (w : World) (t : TypeId) (zs : List Int) (h : ∀ z ∈ zs, lo ≤ z ∧ z ≤ hi) (N : Nat) (hN : N < w.heap.size) :
    Ints lo hi (w.alloc (.cells (zs.map (Value.int .i64)).toArray t)) N w.heap.size zs.length := by
  refine ⟨by omega, by simp, fun j hj => ?_⟩
  obtain ⟨a, b⟩ := h zs[j] (List.getElem_mem _)
  refine ⟨zs[j], a, b, ?_⟩
  rw [World.cell?_alloc_new]
  simp [hj]

theorem odd (N : Nat) (w : World) (hC : Cur w N) :
    Calls Tryd.prog 56 #[.pointer (some ⟨N, 0, none⟩)] w (IntQ (-9223372036854775808) 9223372036854775807 N w) := by
  have hN := hC.lt
  have HI := Lib.hid (ints_new (-9223372036854775808) 9223372036854775807 w 3 [-1, 0, 1, 2, 255, 256, 65535, 2147483647, 2147483648, 4294967295, 4294967296, -2147483648, 9223372036854775807, -9223372036854775808] (by decide) N hN)
  have HC := Lib.hid hC; clear hC
  go_enter Tryd.func56, Tryd.ntmps56
  go_wp2_with (fail)
  refine (pickInt (-9223372036854775808) 9223372036854775807 N w.heap.size 14 14 (by omega) (by omega) _ (HC.out.new _) HI.out).mono ?_
  rintro e w1 ⟨x, rfl, x0, x1, hC1, hg1⟩
  have HC1 := Lib.hid hC1; have HG1 := Lib.hid hg1; clear hC1 hg1
  go_wp2
  go_ret
  exact ⟨x, rfl, x0, x1, HC1.out, only_trans (World.grownBy_alloc _ _ _) HG1.out⟩



theorem cur_new (w : World) (A : Option Addr) (n c : Nat) (x : Int) (hn : n ≤ 1048576) (hA : Code w w.heap.size A n) :
    Cur (w.alloc (.cells #[.slice A n c, .int .i64 0, .int .i64 x] 112)) w.heap.size :=
  ⟨A, n, c, 0, x, by show (w.heap.push _)[w.heap.size]? = _; simp, hA.keep fun k hk => Below.heap_alloc w _ k hk, by omega, by omega, by omega⟩

def NewQ (w : World) (e : Ending) (w' : World) : Prop :=
  ∃ N : Nat, e = .returned (.pointer (some ⟨N, 0, none⟩)) ∧ w.heap.size ≤ N ∧ Cur w' N ∧ Below w.heap.size w w'

theorem new (A : Option Addr) (n c : Nat) (hn : n ≤ 1048576) (w : World) (hA : Code w w.heap.size A n) :
    Calls Tryd.prog 53 #[.slice A n c] w (NewQ w) := by
  have HA := Lib.hid hA; clear hA
  go_enter Tryd.func53, Tryd.ntmps53
  go_wp2
  go_loop [3, 4] (fun h i => ∃ (k : Nat) (x : Int), k ≤ n ∧ i = .int .i64 k ∧ 0 ≤ x ∧ x ≤ 1073741824 ∧ h = .int .i64 x) (fun _ i => n - (RowKit.intOf i).toNat)
  case atStart => exact ⟨0, 193017 + (n : Int), by omega, rfl, by omega, by omega, rfl⟩
  case round =>
    obtain ⟨k, x, hk, rfl, x0, x1, rfl⟩ := hrel
    by_cases hlt : k < n
    · obtain ⟨a, v, rfl, v0, v1, hv⟩ := HA.out.at_ hlt
      by_cases h4 : (k : Int) < 4000
      · go_wp2
        rw [and30]
        exact ⟨⟨k + 1, (x * 137 + v + 11) % 1073741824, by omega, by go_num, by omega, by omega, rfl⟩, by simp only [RowKit.intOf]; omega⟩
      · go_wp2
        go_ret
        exact ⟨w.heap.size, rfl, Nat.le_refl _, cur_new w _ n c x hn HA.out, Joins.below_alloc1 w _⟩
    · go_wp2
      go_ret
      exact ⟨w.heap.size, rfl, Nat.le_refl _, cur_new w _ n c x hn HA.out, Joins.below_alloc1 w _⟩

theorem below_of {B N : Nat} {a b c : World} (h : Below B a b) (hg : b.grownBy c (some N)) (hN : B ≤ N) (hs : B ≤ b.heap.size) : Below B a c :=
  h.grown hg hs (by intro k e; injection e with e; omega)


end Go.Proofs.YtlbkbcafkjgckaaDoor.draw
