/-
  The model's reading of a token: l14Token.
  Conditions: the text has at most 2^40 bytes.
-/
import Derived.Test.YtakdbfifbkngnaaGreatDoorLaSLmB
namespace Go.Proofs.YtakdbfifbkngnaaGreatDoor.lex
open Go.ChangeShapes Go.WideShapes Go.ChangeAt Go.RowKit mem
set_option linter.unusedVariables false

/-- What the model's reading of a token returns. -/
def TkE (k : Nat) (r : TR) (e : Ending) : Prop :=
  match r with
  | .bad c => ∃ (kk nn : Int) (tt : ByteArray), e = .returned (.tuple #[.agg #[.int .i64 kk, .int .i64 nn, .string tt, .int .i64 (k : Int)], .int .i64 (k : Int), .int .i64 (c : Int)])
  | .good kk n t z => e = .returned (.tuple #[.agg #[.int .i64 (kk : Int), .int .i64 n, .string (tx t), .int .i64 (k : Int)], .int .i64 ((k + z : Nat) : Int), .int .i64 0])
theorem setT {w : World} {R T j : Nat} {v : Value} {o : Option Obj} (h : w.heap[R]? = o) (hne : R ≠ T) : (w.setCell ⟨T, j, none⟩ v).heap[R]? = o := by rw [set_other hne]; exact h

/-- The two readings of digits agree. -/
theorem pr_two {b : UInt8} {l : List UInt8} (hd : isDn b.toNat = true) : (dec.pr (-1000000000) 1000000000 (b :: l)) = if (dec.pr 0 1000000000000 (b :: l)).2 = true ∧ (dec.pr 0 1000000000000 (b :: l)).1 ≤ 1000000000 then dec.pr 0 1000000000000 (b :: l) else (0, false) := by
  have key : ∀ n, Lib.itoa n = b :: l → 0 ≤ n := fun n h => by
    rcases Int.lt_or_le n 0 with h0 | h0
    · rw [dec.itoa_neg' h0] at h
      injection h with h1 h2
      rw [← h1] at hd
      exact absurd hd (by decide)
    · exact h0
  cases hb : (dec.pr 0 1000000000000 (b :: l)).2 with
  | true =>
    obtain ⟨h1, h2, h3⟩ := dec.pr_true hb
    have e0 := dec.pr_yes (low := 0) (high := 1000000000000) h1 (by omega) (by omega) h2 h3
    by_cases h9 : (dec.pr 0 1000000000000 (b :: l)).1 ≤ 1000000000
    · rw [if_pos ⟨rfl, h9⟩, e0]
      exact dec.pr_yes h1 (by omega) (by omega) (by omega) h9
    · rw [if_neg (fun hh => h9 hh.2)]
      refine dec.pr_no fun n hn hl hh => ?_
      have e1 := dec.pr_yes (low := 0) (high := 1000000000000) hn (by omega) (by omega) (key n hn) (by omega)
      rw [e1] at h9
      exact h9 hh
  | false =>
    rw [if_neg (by simp)]
    refine dec.pr_no fun n hn hl hh => ?_
    have e1 := dec.pr_yes (low := 0) (high := 1000000000000) hn (by omega) (by omega) (key n hn) (by omega)
    rw [e1] at hb
    cases hb

theorem ext_list (s : ByteArray) (a n : Nat) : s.extract a (a + n) = tx ((s.data.toList.drop a).take n) := by
  have := Lib.extract_data s a (a + n)
  rw [Nat.add_sub_cancel_left] at this
  rw [← this, tx_of]

def TkC (s : ByteArray) (k : Nat) (w : World) (r : TR) : Prop := Calls Tryz.prog 58 #[.string s, .int .i64 (k : Int)] w fun e w' => TkE k r e ∧ Below w.heap.size w w'
theorem tkR0 (w : World) (k : Nat) (kk : Int) : Hid (((w.alloc (.cells #[.int .i64 0, .int .i64 0, .string ⟨#[]⟩, .int .i64 0] IT)).alloc (.cells #[.int .i64 kk, .int .i64 0, .string ⟨#[]⟩, .int .i64 (k : Int)] IT)).heap[w.heap.size]? = some (.cells #[.int .i64 0, .int .i64 0, .string ⟨#[]⟩, .int .i64 0] IT (0, 0))) := Lib.hid (heap_alloc2_old w _ _)
theorem tkT0 (w : World) (k : Nat) (kk : Int) : Hid (((w.alloc (.cells #[.int .i64 0, .int .i64 0, .string ⟨#[]⟩, .int .i64 0] IT)).alloc (.cells #[.int .i64 kk, .int .i64 0, .string ⟨#[]⟩, .int .i64 (k : Int)] IT)).heap[w.heap.size + 1]? = some (.cells #[.int .i64 kk, .int .i64 0, .string ⟨#[]⟩, .int .i64 (k : Int)] IT (0, 0))) := Lib.hid (heap_alloc2_new w _ _)
theorem tkB0 (w : World) (k : Nat) (kk : Int) : Hid (Below w.heap.size w ((w.alloc (.cells #[.int .i64 0, .int .i64 0, .string ⟨#[]⟩, .int .i64 0] IT)).alloc (.cells #[.int .i64 kk, .int .i64 0, .string ⟨#[]⟩, .int .i64 (k : Int)] IT))) := Lib.hid (b2 w _ _)
theorem letter39 (w : World) : Calls Tryz.prog 101 #[.int .u8 39] w (BoS w false) := letter_s 39 w
theorem digit39 (w : World) : Calls Tryz.prog 102 #[.int .u8 39] w (BoS w false) := digit_s 39 w

end Go.Proofs.YtakdbfifbkngnaaGreatDoor.lex

