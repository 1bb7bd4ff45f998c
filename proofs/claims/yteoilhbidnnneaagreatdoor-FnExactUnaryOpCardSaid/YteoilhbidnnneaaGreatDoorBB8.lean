/-
  What the texts behind this one use: 2 parts of one proof.
  Conditions: those that each theorem names.
-/
import Derived.Test.YteoilhbidnnneaaGreatDoorBB6
import Derived.Test.YteoilhbidnnneaaGreatDoorBSNumOf
import Derived.Test.YteoilhbidnnneaaGreatDoorBB1
import Derived.Test.YteoilhbidnnneaaGreatDoorBB3
import Derived.Test.YteoilhbidnnneaaGreatDoorBB5
import Derived.Test.YteoilhbidnnneaaGreatDoorBB2
import Derived.Test.YteoilhbidnnneaaGreatDoorBSGetK
/-
  What the operators on two values give, without the program.
  Conditions: those that each theorem names.
-/
namespace Go.Proofs.YteoilhbidnnneaaGreatDoor.tree
open Go.ChangeShapes Go.WideShapes Go.ChangeAt Go.RowKit ers
set_option linter.unusedVariables false

/-- A value without items. -/
def fV (p : Int × Int × ByteArray) : Value := vV p.1 p.2.1 p.2.2 0 none 0 0
def fT (p : Int × Int × ByteArray) : Tr := .mk p.1 p.2.1 p.2.2 0 [] []
def nulF : Int × Int × ByteArray := (0, 0, ⟨#[]⟩)
def boF (b : Bool) : (Int × Int × ByteArray) × Int := ((1, if b then 1 else 0, ⟨#[]⟩), 0)
def inF (n : Int) : (Int × Int × ByteArray) × Int := ((2, n, ⟨#[]⟩), 0)
/-- What two texts give together. -/
def conF (t u : Tr) : (Int × Int × ByteArray) × Int := if (tt t).2 = true then (if (tt u).2 = true then (if (tt t).1.size + (tt u).1.size ≤ 400 then ((3, 0, (tt t).1 ++ (tt u).1), 0) else (nulF, 9)) else (nulF, 1)) else (nulF, 1)
/-- What two numbers give. -/
def finF (p : Int × Int) : (Int × Int × ByteArray) × Int := if p.2 = 0 then inF p.1 else (nulF, p.2)
def ariF (op : Int) (t u : Tr) : (Int × Int × ByteArray) × Int := if (nn t).2 = true then (if (nn u).2 = true then finF (ari.arT op (nn t).1 (nn u).1) else (nulF, 2)) else (nulF, 2)
def flF (op : Int) (t u : Tr) : (Int × Int × ByteArray) × Int :=
  if op = 6 then conF t u else if op = 9 then boF (identB t u) else if op = 10 then boF (!identB t u) else if op = 15 then inF (cmpT t u) else if 7 ≤ op ∧ op ≤ 14 then boF (rels.relB op (cmpT t u)) else ariF op t u
def isU (op : Int) (t u : Tr) : Bool := decide (op = 1) && (isA t && isA u)
def binT (op : Int) (t u : Tr) : Tr := if isU op t u = true then uniR t u else fT (flF op t u).1
def binC (op : Int) (t u : Tr) : Int := if isU op t u = true then uniC t u else (flF op t u).2
/-- A result that is a machine's value. -/
def Fits (p : (Int × Int × ByteArray) × Int) : Prop := I64 p.1.1 ∧ I64 p.1.2.1 ∧ I64 0 ∧ p.1.2.2.size ≤ maxLen
theorem i64_lit : I64 0 ∧ I64 1 ∧ I64 2 ∧ I64 3 := by unfold I64; omega
theorem fits_nul (c : Int) : Fits (nulF, c) := ⟨i64_lit.1, i64_lit.1, i64_lit.1, Nat.zero_le _⟩
theorem fits_bo (b : Bool) : Fits (boF b) := by
  cases b
  · exact ⟨i64_lit.2.1, i64_lit.1, i64_lit.1, Nat.zero_le _⟩
  · exact ⟨i64_lit.2.1, i64_lit.2.1, i64_lit.1, Nat.zero_le _⟩
theorem fits_in {n : Int} (h : I64 n) : Fits (inF n) := ⟨i64_lit.2.2.1, h, i64_lit.1, Nat.zero_le _⟩
theorem fits_con (t u : Tr) : Fits (conF t u) := by
  unfold conF
  split
  · split
    · split
      · refine ⟨i64_lit.2.2.2, i64_lit.1, i64_lit.1, ?_⟩
        show ((tt t).1 ++ (tt u).1).size ≤ maxLen
        rw [ByteArray.size_append]
        unfold maxLen
        omega
      · exact fits_nul _
    · exact fits_nul _
  · exact fits_nul _
theorem arT_bd (op a b : Int) : -1000000000 ≤ (ari.arT op a b).1 ∧ (ari.arT op a b).1 ≤ 1000000000 := by
  unfold ari.arT
  repeat' split
  all_goals first | (constructor <;> decide) | skip
  unfold ari.fin
  split
  · rename_i h; exact ari.ok_bd h
  · constructor <;> decide
theorem fits_ari (op : Int) (t u : Tr) : Fits (ariF op t u) := by
  unfold ariF
  split
  · split
    · unfold finF
      split
      · have := arT_bd op (nn t).1 (nn u).1
        exact fits_in (by unfold I64; omega)
      · exact fits_nul _
    · exact fits_nul _
  · exact fits_nul _
theorem cmp_i64 (t u : Tr) : I64 (cmpT t u) := by
  have := cmp_rng t u
  unfold I64
  omega
theorem fits_fl (op : Int) (t u : Tr) : Fits (flF op t u) := by
  unfold flF
  repeat' split
  · exact fits_con t u
  · exact fits_bo _
  · exact fits_bo _
  · exact fits_in (cmp_i64 t u)
  · exact fits_bo _
  · exact fits_ari op t u
theorem flat_par {p : (Int × Int × ByteArray) × Int} (h : Fits p) (w : World) (par : Nat → Nat × Nat) (here : Nat × Nat) : TPar w par here (fT p.1) (fV p.1) := TPar.of h rfl ⟨Nat.zero_le _, Nat.zero_le _⟩ (fun h => absurd h (by simp))
theorem fT_cnt (p : Int × Int × ByteArray) : cnt (fT p) = 1 := by unfold fT; rw [cnt_mk']; rfl
theorem binT_cnt (op : Int) (t u : Tr) : cnt (binT op t u) ≤ cnt t + cnt u := by
  unfold binT
  split
  · exact uniR_cnt t u
  · have h3 : 1 ≤ cnt t := by cases t; rw [cnt_mk']; omega
    rw [fT_cnt]; omega

end Go.Proofs.YteoilhbidnnneaaGreatDoor.tree

/-
  What UnaryOp gives, without the program.
  Conditions: none.
-/
namespace Go.Proofs.YteoilhbidnnneaaGreatDoor.tree
open Go.ChangeShapes Go.WideShapes Go.ChangeAt Go.RowKit ers
set_option linter.unusedVariables false

/-- What UnaryOp gives. -/
def unF (op : Int) (t : Tr) : (Int × Int × ByteArray) × Int := if op = 1 then boF (!tb t) else if op = 2 then flF 2 (fT (2, 0, ⟨#[]⟩)) t else (nulF, 2)
theorem fits_un (op : Int) (t : Tr) : Fits (unF op t) := by
  unfold unF
  repeat' split
  · exact fits_bo _
  · exact fits_fl _ _ _
  · exact fits_nul _
theorem zeroTot (t : Tr) (h : tot t ≤ 1000000000) : tot (fT (2, 0, ⟨#[]⟩)) + tot t ≤ 1000000000 := by
  have : tot (fT (2, 0, ⟨#[]⟩)) = 0 := by unfold fT; rw [tot_mk]; rfl
  omega

end Go.Proofs.YteoilhbidnnneaaGreatDoor.tree

