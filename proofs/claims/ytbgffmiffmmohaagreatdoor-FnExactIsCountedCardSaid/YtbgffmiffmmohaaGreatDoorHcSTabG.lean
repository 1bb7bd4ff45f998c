/-
  Whether a table is sound, of the model.
  Conditions: those that each theorem names; the package variables of the library's reading of numbers hold what the program's text lays.
-/
import Derived.Test.YtbgffmiffmmohaaGreatDoorHcSTabJ
import Derived.Test.YtbgffmiffmmohaaGreatDoorHcSTabK
namespace Go.Proofs.YtbgffmiffmmohaaGreatDoor.tree
open Go.ChangeShapes Go.WideShapes Go.ChangeAt Go.RowKit
set_option linter.unusedVariables false

set_option maxRecDepth 100000 in
set_option maxHeartbeats 2000000 in
theorem isTable_s {l : List Int} {sl : List Sl} {b : Bool} {A : Option Addr} {n c : Nat} {B : Option Addr} {m d : Nat} {x k : Int} (w : World) {S : Nat → Prop} (hr : TbIn w S l sl A n c B m d x k) (hn : n ≤ 1048576) (hm : m ≤ 1048576) (hst : SlB sl) (hE : prs.Env w) :
    Calls Tryz.prog 17 #[tbV b A n c B m d x k] w (BoP w (tabOk b l sl x k)) := by
  have hln : l.length = n := hr.heads.len
  have hlm : sl.length = m := hr.len
  have BAD : Hid (¬ ((0 ≤ x ∧ x ≤ 1000000001) ∧ sizeP b n m x) → (false = true ↔ tabOk b l sl x k)) := Lib.hid (fun hb => ⟨fun h => (by cases h), fun h => absurd ⟨h.1, by have := h.2.1; rwa [hln, hlm] at this⟩ hb⟩)
  clear hln hlm
  by_cases hx : ¬ (0 ≤ x ∧ x ≤ 1000000001)
  · have HF : Hid (false = true ↔ tabOk b l sl x k) := Lib.hid (BAD.out fun h => hx h.1)
    have hin : nums.inr x 0 1000000001 = false := by unfold nums.inr; simp; omega
    have IR := fun w => hin ▸ nums.l1In x 0 1000000001 w
    clear hin BAD hr hE hst
    go_enter Tryz.func17, Tryz.ntmps17
    go_wp2_with (fail)
    refine (IR _).mono ?_
    rintro e w1 ⟨rfl, rfl⟩
    go_wp2_with (fail)
    go_ret
    exact BoP.of HF.out (b1 _ _)
  replace hx := Decidable.not_not.1 hx
  obtain ⟨hx1, hx2⟩ := hx
  have hin : nums.inr x 0 1000000001 = true := by unfold nums.inr; simp; omega
  have IR := fun w => hin ▸ nums.l1In x 0 1000000001 w
  clear hin
  by_cases hm2 : ¬ (m ≤ 1024)
  · have HF : Hid (false = true ↔ tabOk b l sl x k) := Lib.hid (BAD.out fun h => by
      have := h.2
      cases b
      · have := this.2 rfl; omega
      · have := this.1 rfl; unfold p2 at this; omega)
    have h1 : (1024 : Int) < (m : Int) := by omega
    clear BAD hr hE hst hm2
    go_enter Tryz.func17, Tryz.ntmps17
    go_wp2_with (fail)
    refine (IR _).mono ?_
    rintro e w1 ⟨rfl, rfl⟩
    go_wp2_with (fail)
    go_ret
    exact BoP.of HF.out (b1 _ _)
  replace hm2 := Decidable.not_not.1 hm2
  cases b with
  | false =>
    by_cases h0 : ¬ (n = 0)
    · have HF : Hid (false = true ↔ tabOk false l sl x k) := Lib.hid (BAD.out fun h => h0 (h.2.2 rfl).1)
      have h1 : (0 : Int) < (n : Int) := by omega
      clear BAD hr hE hst h0
      go_enter Tryz.func17, Tryz.ntmps17
      go_wp2_with (fail)
      refine (IR _).mono ?_
      rintro e w1 ⟨rfl, rfl⟩
      go_wp2_with (fail)
      go_ret
      exact BoP.of HF.out (b1 _ _)
    replace h0 := Decidable.not_not.1 h0
    subst h0
    by_cases hmx : ¬ ((m : Int) ≤ x)
    · have HF : Hid (false = true ↔ tabOk false l sl x k) := Lib.hid (BAD.out fun h => hmx (h.2.2 rfl).2.1)
      have h1 : x < (m : Int) := by omega
      clear BAD hr hE hst hmx
      go_enter Tryz.func17, Tryz.ntmps17
      go_wp2_with (fail)
      refine (IR _).mono ?_
      rintro e w1 ⟨rfl, rfl⟩
      go_wp2_with (fail)
      go_ret
      exact BoP.of HF.out (b1 _ _)
    replace hmx := Decidable.not_not.1 hmx
    exact isTable_f w hr hm2 hmx hx1 hx2 hst hE
  | true =>
    by_cases h8 : ¬ (8 ≤ n ∧ n ≤ 1024)
    · have HF : Hid (false = true ↔ tabOk true l sl x k) := Lib.hid (BAD.out fun h => h8 (by have := (h.2.1 rfl).1; unfold p2 at this; omega))
      have hin : nums.inr n 8 1024 = false := by unfold nums.inr; simp; omega
      have IR2 := fun w => hin ▸ nums.l1In n 8 1024 w
      clear BAD hr hE hst h8 hin
      go_enter Tryz.func17, Tryz.ntmps17
      go_wp2_with (fail)
      refine (IR _).mono ?_
      rintro e w1 ⟨rfl, rfl⟩
      go_wp2_with (fail)
      refine (IR2 _).mono ?_
      rintro e w1 ⟨rfl, rfl⟩
      go_wp2_with (fail)
      go_ret
      exact BoP.of HF.out (b1 _ _)
    replace h8 := Decidable.not_not.1 h8
    have hin : nums.inr n 8 1024 = true := by unfold nums.inr; simp; omega
    have IR2 := fun w => hin ▸ nums.l1In n 8 1024 w
    clear hin
    obtain ⟨z, HZ⟩ : ∃ z, bits BinOp.and IntKind.i64 (n : Int) ((n : Int) - 1) = z := ⟨_, rfl⟩
    have hp := and_p2 h8.1 h8.2
    rw [HZ] at hp
    by_cases hz : ¬ (z = 0)
    · have HF : Hid (false = true ↔ tabOk true l sl x k) := Lib.hid (BAD.out fun h => hz (hp.2 (h.2.1 rfl).1))
      have hz2 : (z != 0) = true := by simp [hz]
      have h81 := h8.1
      have h82 := h8.2
      clear BAD hr hE hst h8 hp hz
      go_enter Tryz.func17, Tryz.ntmps17
      go_wp2_with (fail)
      refine (IR _).mono ?_
      rintro e w1 ⟨rfl, rfl⟩
      go_wp2_with (fail)
      refine (IR2 _).mono ?_
      rintro e w1 ⟨rfl, rfl⟩
      go_wp2_with (fail)
      go_ret
      exact BoP.of HF.out (b1 _ _)
    replace hz := Decidable.not_not.1 hz
    subst hz
    replace hp := hp.1 rfl
    by_cases hmn : ¬ (m ≤ n)
    · have HF : Hid (false = true ↔ tabOk true l sl x k) := Lib.hid (BAD.out fun h => hmn (h.2.1 rfl).2)
      have h1 : (n : Int) < (m : Int) := by omega
      have h81 := h8.1
      have h82 := h8.2
      clear BAD hr hE hst h8 hp hmn
      go_enter Tryz.func17, Tryz.ntmps17
      go_wp2_with (fail)
      refine (IR _).mono ?_
      rintro e w1 ⟨rfl, rfl⟩
      go_wp2_with (fail)
      refine (IR2 _).mono ?_
      rintro e w1 ⟨rfl, rfl⟩
      go_wp2_with (fail)
      go_ret
      exact BoP.of HF.out (b1 _ _)
    replace hmn := Decidable.not_not.1 hmn
    exact isTable_t w hr hp hmn hx1 hx2 hst hE

end Go.Proofs.YtbgffmiffmmohaaGreatDoor.tree

