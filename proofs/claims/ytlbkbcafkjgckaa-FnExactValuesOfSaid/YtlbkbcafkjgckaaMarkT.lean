/-
  The laws' marks: the text of a mark.
  Conditions: the number is above 0 and at most 10^15.
-/
import Derived.Test.YtlbkbcafkjgckaaMark
namespace Go.Proofs.Ytlbkbcafkjgckaa.tree
open Go.ChangeShapes Go.WideShapes Go.ChangeAt Go.RowKit mem
set_option linter.unusedVariables false

theorem mgo_step {f q : Nat} (hq : q ≠ 0) (o : ByteArray) : mgo (f + 1) q o = mgo f (q / 10) (digOf q ++ o) := by rw [mgo, if_neg hq]
theorem mgo_zero (f : Nat) (o : ByteArray) : mgo f 0 o = o := by cases f <;> simp [mgo]

set_option maxHeartbeats 800000 in
theorem markText (k : Int) (h0 : 1 ≤ k) (h1 : k ≤ 1000000000000000) (w : World) : Calls Try.prog 23 #[.int .i64 k] w (MtQ w k) := by
  obtain ⟨K, rfl⟩ : ∃ K : Nat, k = (K : Int) := ⟨k.toNat, by omega⟩
  unfold MtQ mtx
  rw [Int.toNat_natCast]
  obtain ⟨T, HT⟩ : ∃ T, Hid (mgo 30 K ⟨#[]⟩ = T) := ⟨_, Lib.hid rfl⟩
  rw [HT.out]
  go_enter Try.func23, Try.ntmps23
  go_wp2_with (fail)
  go_loopg [0, 3] 30 (fun gk kv ov wr => ∃ (q : Nat) (o : ByteArray), kv = .int .i64 q ∧ ov = .string o ∧ q ≤ 1000000000000000 ∧ q < 10 ^ gk ∧ o.size + gk = 30 ∧ Hid (mgo gk q o = T) ∧ Below w.heap.size w wr)
  case atStart => exact ⟨K, ⟨#[]⟩, rfl, rfl, by omega, by omega, rfl, HT, Below.refl _ _⟩
  case round =>
    obtain ⟨q, o, rfl, rfl, hq, hp, ho, HQ, hb⟩ := hrel
    have HB := Lib.hid hb
    have HP := Lib.hid hp
    clear hb hp
    by_cases hq0 : q = 0
    · subst hq0
      have e : T = o := by rw [← HQ.out, mgo_zero]
      subst e
      have ho' : T.size ≤ 30 := by omega
      go_wp2_with (fail)
      go_ret
      exact ⟨rfl, HB.out⟩
    · have hpos : 0 < q := by omega
      have hgk : gk ≠ 0 := fun e => by have := HP.out; rw [e] at this; simp at this; omega
      obtain ⟨f, HF⟩ : ∃ f, Hid (gk = f + 1) := ⟨gk - 1, Lib.hid (by omega)⟩
      have hd0 : (0 : Int) ≤ (q : Int) % 10 := by omega
      have hd1 : (q : Int) % 10 ≤ 9 := by omega
      have hcv := conv_rd (P := Try.prog) _ 67 9 5 Try.underlying67 Try.underlying5 Try.underlying9 (rd_one wr (48 + (q : Int) % 10) (by omega) (by omega) 5) 1
      rw [show strOfNums [48 + (q : Int) % 10] = digOf q by
        have e : (48 + (q : Int) % 10).toNat = 48 + q % 10 := by omega
        simp [strOfNums, digOf, e]] at hcv
      have hd2 : (digOf q).size ≤ 1 := Nat.le_refl 1
      have ho2 : o.size ≤ 30 := by omega
      obtain ⟨D, HD⟩ : ∃ D, Hid (digOf q = D) := ⟨_, Lib.hid rfl⟩
      rw [HD.out] at hcv hd2
      go_wp2_with (fail)
      clear hcv
      go_roundg f
      case rel =>
        refine ⟨q / 10, D ++ o, rfl, rfl, by omega, ?_, ?_, Lib.hid ?_, bs HB.out (b1 _ _)⟩
        · exact Nat.div_lt_of_lt_mul (by have := HP.out; rw [HF.out, Nat.pow_succ] at this; omega)
        · have e1 : (digOf q).size = 1 := rfl
          rw [HD.out] at e1
          have := HF.out
          rw [ByteArray.size_append]
          omega
        · rw [← HD.out, ← mgo_step hq0, ← HF.out]
          exact HQ.out
      case measure => have := HF.out; omega

end Go.Proofs.Ytlbkbcafkjgckaa.tree
