/-
  What the package variables that a row lists hold gives what the lexer wants of them.
  Conditions: the variables hold what the program's text lays.
-/
import Derived.Test.YtakdbfifbkngnaaGreatDoorLaSLxF
import Derived.Test.YtakdbfifbkngnaaGreatDoorRows
import Derived.Lib.LaidU8
import Derived.PinnedBridge
import Derived.Shelf.Vars
import Derived.Stop.LaidErr
import Derived.LaidMore
import Derived.LaidHandle
import Derived.Lay
namespace Go.Proofs.YtakdbfifbkngnaaGreatDoor.lex
open Go.ChangeShapes Go.WideShapes Go.ChangeAt Go.RowKit
set_option linter.unusedVariables false

theorem u8x : U8Extra Tryz.prog Tryz.lays197_ren where
  n3 := by kernel_rfl
  n4 := by kernel_rfl
  y3 := by kernel_rfl
  y4 := by kernel_rfl
  c5 := by kernel_rfl
  c119 := by kernel_rfl
  c138 := by kernel_rfl
namespace envZ
def laidOf : List (String × DataW Unit) := Rows.fnExactLexRow.laid
theorem tTab : (Tryz.prog.globals[4]?).map (·.type) = some 234 := by kernel_rfl
theorem tES : (Tryz.prog.globals[7]?).map (·.type) = some 104 := by kernel_rfl
theorem tER : (Tryz.prog.globals[8]?).map (·.type) = some 104 := by kernel_rfl
theorem cellsErr : Tryz.prog.cellsOf 263 = 1 := by kernel_rfl
theorem cellsStr : Tryz.prog.cellsOf 9 = 1 := by kernel_rfl
theorem star : "*" ++ "errors.errorString" = "*errors.errorString" := by decide
theorem rowErr (u : TypeId) (h : Tryz.prog.typeName? 3 u = some "*errors.errorString") : u = 261 :=
  typeName_ptr_named (nm := "errors.errorString") (by rw [star]; kernel_rfl) (by kernel_rfl) (by decide) u (by rw [star]; exact h)
theorem env_of {W : World} (h : laidMetH Tryz.prog laidOf W) : Vars W := by
  rw [MakeChecks.laidMetH_plain _ _ _ (by kernel_rfl)] at h
  refine ⟨?_, ?_, ?_⟩
  · refine utf8Tabs_of_reads { Tryz.lays197 with } u8x ?_ ?_
    · rw [← Pinned.utf8First_eq]
      exact Lib.laidMet.reads h (.tail _ (.tail _ (.tail _ (.tail _ (.tail _ (.tail _ (.tail _ (.head _))))))))
    · exact Lib.laidMet.reads h (.tail _ (.tail _ (.tail _ (.head _))))
  · refine ⟨Lib.tabIs_of_head fmt.gTab tTab Tryz.underlying234 Tryz.underlying214 (by kernel_rfl) (by kernel_rfl) h.tail.tail, ?_, ?_⟩
    · obtain ⟨a1, s1, hv1, -, -, -⟩ := laid_sentinel h.tail.tail.tail.tail.tail prs.gES tES Tryz.underlying104 rowErr Tryz.underlying261 Tryz.underlying263 rfl rfl Tryz.underlying9 cellsErr cellsStr
      exact ⟨_, _, hv1⟩
    · obtain ⟨a1, s1, hv1, -, -, -⟩ := laid_sentinel h.tail.tail.tail.tail prs.gER tER Tryz.underlying104 rowErr Tryz.underlying261 Tryz.underlying263 rfl rfl Tryz.underlying9 cellsErr cellsStr
      exact ⟨_, _, hv1⟩
  · exact mtab_of_reads (Lib.laidMet.reads h (.tail _ (.tail _ (.tail _ (.tail _ (.tail _ (.tail _ (.head _))))))))
theorem door_met (os : Os) (args : Array Value) : laidMetH Tryz.prog laidOf ((World.laidAll Tryz.prog os laidOf).forCall (fun _ _ => 0) ⟨#[], args, []⟩).memory := by
  rw [MakeChecks.laidMetH_plain _ _ _ (by kernel_rfl)]
  exact laidMet_laidAll _ (by kernel_rfl) (by kernel_rfl)
theorem max_of {W : World} (h : W.ShapedOpen Tryz.prog) : MaxL W :=
  Go.Proofs.cell_of_shapedOpen_int (zero := #[.int .i64 0]) (t := 3) h (of_decide_eq_true (by kernel_rfl)) (by kernel_rfl) rfl (by kernel_rfl) (by kernel_rfl) Tryz.underlying3
end envZ

end Go.Proofs.YtakdbfifbkngnaaGreatDoor.lex

