/-
  References to blocks, counted: as lists of integers.
  Conditions: none.
-/
import Derived.Test.YtbgffmiffmmohaaGreatDoorHcB2
namespace Go.Proofs.YtbgffmiffmmohaaGreatDoor.tree
open Go.ChangeShapes Go.WideShapes Go.ChangeAt Go.RowKit
set_option linter.unusedVariables false

/-- One more reference to block n. -/
def bump (cs : List Int) (n : Int) : List Int := if 0 ≤ n ∧ n < cs.length then cs.set n.toNat (cs[n.toNat]?.getD 0 + 1) else cs
def addO (cs : List Int) : Tr → List Int
  | .mk k n _ _ _ _ => if k = 5 then bump cs n else cs
/-- The references of a list of values, put to the counts. -/
def addR (cs : List Int) (ts : List Tr) : List Int := ts.foldl addO cs
/-- What a live slot puts to the counts. -/
def addS (cs : List Int) (t : Sl) : List Int := if t.live then addO cs t.val else cs
/-- The references of some roots and of all blocks' live values. -/
def refsB (cs : List Int) (bl : List Bk) : List Int := bl.foldl (fun cs k => addR cs (livV k.slots)) cs
def refsOf (bl : List Bk) (roots : List Tr) : List Int := refsB (addR (List.replicate bl.length 0) roots) bl

theorem bump_len (cs : List Int) (n : Int) : (bump cs n).length = cs.length := by unfold bump; split <;> simp
theorem bump_in {cs : List Int} {j : Nat} {v : Int} (h : cs[j]? = some v) : bump cs (j : Int) = cs.set j (v + 1) := by
  have hj := (List.getElem?_eq_some_iff.1 h).1
  unfold bump
  rw [if_pos ⟨by omega, by omega⟩, Int.toNat_natCast, h]
  rfl
theorem bump_out {cs : List Int} {n : Int} (h : ¬ (0 ≤ n ∧ n < cs.length)) : bump cs n = cs := by unfold bump; rw [if_neg h]
theorem addO_not {cs : List Int} {k n : Int} {s : ByteArray} {x : Int} {ks : List Ky} {vs : List Tr} (h : ¬ k = 5) : addO cs (.mk k n s x ks vs) = cs := by rw [addO, if_neg h]
theorem addO_five (cs : List Int) (n : Int) (s : ByteArray) (x : Int) (ks : List Ky) (vs : List Tr) : addO cs (.mk 5 n s x ks vs) = bump cs n := by rw [addO, if_pos rfl]
theorem addO_len (cs : List Int) (t : Tr) : (addO cs t).length = cs.length := by
  obtain ⟨k, n, s, x, ks, vs⟩ := t
  rw [addO]
  split
  · exact bump_len _ _
  · rfl
theorem addR_len : ∀ (ts : List Tr) (cs : List Int), (addR cs ts).length = cs.length
  | [], cs => rfl
  | t :: ts, cs => by rw [addR, List.foldl_cons]; exact (addR_len ts (addO cs t)).trans (addO_len cs t)
theorem addR_take {cs : List Int} {ts : List Tr} {j : Nat} {t : Tr} (h : ts[j]? = some t) : addR cs (ts.take (j + 1)) = addO (addR cs (ts.take j)) t := by
  rw [List.take_add_one, h]
  simp [addR, List.foldl_append]
/-- All counts lie between 0 and M. -/
def Upto (cs : List Int) (M : Int) : Prop := ∀ (i : Nat) (v : Int), cs[i]? = some v → 0 ≤ v ∧ v ≤ M
theorem Upto.mono {cs : List Int} {M M' : Int} (h : Upto cs M) (hM : M ≤ M') : Upto cs M' := fun i v hv => ⟨(h i v hv).1, by have := (h i v hv).2; omega⟩
theorem Upto.bump {cs : List Int} {M : Int} (h : Upto cs M) (n : Int) : Upto (bump cs n) (M + 1) := fun i v hv => by
  unfold tree.bump at hv
  split at hv
  · rename_i hc
    rw [List.getElem?_set] at hv
    split at hv
    · rename_i he
      split at hv
      · obtain rfl := Option.some.inj hv
        have hj : n.toNat < cs.length := by omega
        rw [List.getElem?_eq_getElem hj, Option.getD_some]
        have := h n.toNat _ (List.getElem?_eq_getElem hj)
        omega
      · cases hv
    · have := h i v hv
      omega
  · have := h i v hv
    omega
theorem Upto.addO {cs : List Int} {M : Int} (h : Upto cs M) (t : Tr) : Upto (addO cs t) (M + 1) := by
  obtain ⟨k, n, s, x, ks, vs⟩ := t
  rw [tree.addO]
  split
  · exact h.bump n
  · exact h.mono (by omega)
theorem Upto.addR : ∀ (ts : List Tr) {cs : List Int} {M : Int}, Upto cs M → Upto (addR cs ts) (M + ts.length)
  | [], cs, M, h => h.mono (by simp)
  | t :: ts, cs, M, h => by
    rw [tree.addR, List.foldl_cons]
    exact (Upto.addR ts (h.addO t)).mono (by simp; omega)
theorem Upto.zero (L : Nat) : Upto (List.replicate L 0) 0 := fun i v hv => by
  rw [List.getElem?_replicate] at hv
  split at hv
  · obtain rfl := Option.some.inj hv; omega
  · cases hv
theorem addS_take {cs : List Int} {sl : List Sl} {j : Nat} {t : Sl} (h : sl[j]? = some t) : addR cs (livV (sl.take (j + 1))) = addS (addR cs (livV (sl.take j))) t := by
  unfold livV addS
  rw [liv_take h]
  cases t.live <;> simp [addR, List.foldl_append]
theorem livV_len (sl : List Sl) : (livV sl).length ≤ sl.length := by unfold livV; rw [List.length_map]; exact liv_len sl
theorem refsB_take {cs : List Int} {bl : List Bk} {j : Nat} {k : Bk} (h : bl[j]? = some k) : refsB cs (bl.take (j + 1)) = addR (refsB cs (bl.take j)) (livV k.slots) := by
  rw [List.take_add_one, h]
  simp [refsB, List.foldl_append]
theorem refsB_len : ∀ (bl : List Bk) (cs : List Int), (refsB cs bl).length = cs.length
  | [], cs => rfl
  | k :: bl, cs => by rw [refsB, List.foldl_cons]; exact (refsB_len bl _).trans (addR_len _ cs)
/-- How many slots blocks have. -/
def slB : List Bk → Nat
  | [] => 0
  | k :: bl => k.slots.length + slB bl
theorem slB_take : ∀ {bl : List Bk} {j : Nat} {k : Bk}, bl[j]? = some k → slB (bl.take (j + 1)) = slB (bl.take j) + k.slots.length
  | [], j, _, h => by simp at h
  | k0 :: bl, 0, k, h => by
    obtain rfl : k0 = k := by simpa using h
    simp [slB]
  | k0 :: bl, j + 1, k, h => by
    have := slB_take (bl := bl) (j := j) (k := k) (by simpa using h)
    rw [List.take_succ_cons, List.take_succ_cons, slB, slB, this]
    omega
theorem slB_le : ∀ (bl : List Bk) (j : Nat), slB (bl.take j) ≤ slB bl
  | [], j => by simp
  | k :: bl, 0 => by simp [slB]
  | k :: bl, j + 1 => by have := slB_le bl j; rw [List.take_succ_cons, slB, slB]; omega

end Go.Proofs.YtbgffmiffmmohaaGreatDoor.tree

