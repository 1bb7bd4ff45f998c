/-
  What HashText of the project returns: the fold of the text's bytes, though it goes from character to character.
  Conditions: the text has at most 2^47 bytes.
-/
import Derived.Test.YtclnbfndkcpopaaHashB
import Derived.Laws.RangeAny
import Derived.Lib.Strings
namespace Go.Proofs.Ytclnbfndkcpopaa.hsh
open Go.ChangeShapes Go.WideShapes Go.ChangeAt Go.RowKit mem imem
set_option linter.unusedVariables false

theorem width_pos (s : ByteArray) (pos : Nat) (h : pos < s.size) : 1 ≤ (Utf8.decode s pos).2 := by
  by_cases ha : (s[pos]'h).toNat < 128
  · rw [decode_ascii s pos h ha]; exact Nat.le_refl _
  · exact (decode_high s pos h (by omega)).2

theorem txt_extract (s : ByteArray) (i j : Nat) : txt (s.extract i j) = ((txt s).drop i).take (j - i) := by
  unfold txt
  rw [Lib.extract_eq, List.map_take, List.map_drop]
theorem extract_le (s : ByteArray) (i j : Nat) : (s.extract i j).size ≤ s.size := by
  have h1 := txt_len (s.extract i j)
  have h2 := txt_len s
  rw [txt_extract, List.length_take, List.length_drop] at h1
  omega
theorem fold_part (d : Int) (s : ByteArray) (i j : Nat) (h : i ≤ j) : dig.fold (dig.fold d ((txt s).take i)) (txt (s.extract i j)) = dig.fold d ((txt s).take j) := by
  rw [txt_extract, ← dig.fold_app, ← List.take_add, Nat.add_sub_cancel' h]

/-- A call that only makes memory. -/
def NumQ (w : World) (x : Int) (e : Ending) (w' : World) : Prop := e = .returned (.int .i64 x) ∧ Below w.heap.size w w'

theorem implText (s : ByteArray) (hs : s.size ≤ 140737488355328) (w : World) :
    Calls Try.prog 45 #[.string s] w (NumQ w (dig.fold 11 (txt s))) := by
  go_enter Try.func45, Try.ntmps45
  go_wp2
  go_loopw [3, 4, 5] (fun x y z wr => ∃ (st pos : Nat) (d : Int), st ≤ pos ∧ st ≤ s.size ∧ wr.heap[w.heap.size]? = some (.stringIter s pos) ∧ x = .int .i64 d ∧ y = .int .i64 st ∧ Hid (dig.fold 11 ((txt s).take st) = d) ∧ Hid (dig.In d) ∧ Below w.heap.size w wr) (fun _ _ _ wr => s.size - wr.iterPos w.heap.size)
  case atStart => exact ⟨0, 0, 11, by omega, by omega, World.iter_heap w s 0, rfl, rfl, rfl, dig.in11, (Below.refl _ _).alloc (Nat.le_refl _) _⟩
  case round =>
    obtain ⟨st, pos, d, h1, h2, hit, rfl, rfl, HD, HI, hb⟩ := hrel
    have hpos0 := iterPos_of hit
    have HB := Lib.hid hb; clear hb
    by_cases hp : pos < s.size
    · have hnx : ∀ ty, (Instr.next (.pointer (some ⟨w.heap.size, 0, none⟩)) true ty).run Try.prog wr = _ := fun ty => Lib.run_next_any_at wr w.heap.size s pos ty hit hp
      have hwd := width_pos s pos hp
      have h3 : pos ≤ s.size := by omega
      have hit2 := Lib.iterAt_heap wr w.heap.size s pos (pos + (Utf8.decode s pos).2) hit
      have hb2 := Lib.below_iterAt HB.out (k := w.heap.size) (Nat.le_refl _) s (pos + (Utf8.decode s pos).2)
      obtain ⟨W1, hW1⟩ : ∃ W1, W1 = wr.iterAt w.heap.size s (pos + (Utf8.decode s pos).2) := ⟨_, rfl⟩
      rw [← hW1] at hnx hit2 hb2
      have hsz := extract_le s st pos
      have HP := Lib.hid (fold_part 11 s st pos h1)
      have HI2 := Lib.hid hit2; have HB2 := Lib.hid hb2; have H0 := Lib.hid hpos0; have HS := Lib.hid hsz
      clear hW1 hit2 hb2 hit hpos0 hsz
      go_wp2_with (go_at_call 72; refine (bytes d HI.out _ (by have := HS.out; omega) _).mono ?_; rintro e w' ⟨rfl, rfl⟩)
      go_roundw
      case measure => rw [iterPos_of HI2.out, H0.out]; omega
      case rel => exact ⟨pos, _, _, by omega, by omega, HI2.out, rfl, rfl, by show _ = _; rw [← HP.out, HD.out], dig.fold_in HI.out _, HB2.out⟩
    · have hnx : ∀ ty, (Instr.next (.pointer (some ⟨w.heap.size, 0, none⟩)) true ty).run Try.prog wr = _ := fun ty => Lib.run_next_end_at wr w.heap.size s pos ty hit hp
      have HP := Lib.hid (fold_part 11 s st s.size h2)
      have HA := Lib.hid (dig.fold_all (l := txt s) (k := s.size) 11 (by have := txt_len s; omega))
      have HS := Lib.hid (extract_le s st s.size)
      clear hit hpos0
      go_wp2_with (go_at_call 72; refine (bytes d HI.out _ (by have := HS.out; omega) _).mono ?_; rintro e w' ⟨rfl, rfl⟩)
      go_ret
      exact ⟨ret_int (by rw [← HD.out, HP.out, HA.out]), HB.out⟩

end Go.Proofs.Ytclnbfndkcpopaa.hsh
