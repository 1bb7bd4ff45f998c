/-
  The union of the model, item by item.
  Conditions: the values hold at most 9 * 10^8 values; the right one's keys are those of a valid array.
-/
import Derived.Test.YtdglmnmalfpipaaGreatDoorVB14
import Derived.Test.YtdglmnmalfpipaaGreatDoorVSSetP
namespace Go.Proofs.YtdglmnmalfpipaaGreatDoor.tree
open Go.ChangeShapes Go.WideShapes Go.ChangeAt Go.RowKit
set_option linter.unusedVariables false

/-- What the round of the model's union knows. -/
structure UnR (ks ks' : List Ky) (vs vs' : List Tr) (j : Nat) (K : List Ky) (V : List Tr) : Prop where
  len : K.length = V.length
  sub : ∀ z ∈ K, z ∈ ks'.take j
  keys : K ++ uk ks (ks'.drop j) (vs'.drop j) = uk ks ks' vs'
  vals : V ++ uv ks (ks'.drop j) (vs'.drop j) = uv ks ks' vs'
theorem UnR.start (ks ks' : List Ky) (vs vs' : List Tr) : UnR ks ks' vs vs' 0 [] [] := ⟨rfl, fun z hz => by simp at hz, by simp, by simp⟩
theorem UnR.skip {ks ks' : List Ky} {vs vs' : List Tr} {j : Nat} {K : List Ky} {V : List Tr} (h : UnR ks ks' vs vs' j K V) {y : Ky} {t : Tr} (hy : ks'[j]? = some y) (ht : vs'[j]? = some t) (hm : y ∈ ks) : UnR ks ks' vs vs' (j + 1) K V := by
  obtain ⟨e1, e2⟩ := u_drop (K := ks) hy ht
  rw [if_pos hm] at e1 e2
  refine ⟨h.len, fun z hz => ?_, e1 ▸ h.keys, e2 ▸ h.vals⟩
  obtain ⟨hj, rfl⟩ := List.getElem?_eq_some_iff.1 hy
  rw [List.take_succ_eq_append_getElem hj]
  exact List.mem_append_left _ (h.sub z hz)
theorem UnR.more {ks ks' : List Ky} {vs vs' : List Tr} {j : Nat} {K : List Ky} {V : List Tr} (h : UnR ks ks' vs vs' j K V) {y : Ky} {t : Tr} (hy : ks'[j]? = some y) (ht : vs'[j]? = some t) (hm : y ∉ ks) : UnR ks ks' vs vs' (j + 1) (K ++ [y]) (V ++ [t]) := by
  obtain ⟨e1, e2⟩ := u_drop (K := ks) hy ht
  rw [if_neg hm] at e1 e2
  refine ⟨by simp [h.len], fun z hz => ?_, by rw [List.append_assoc, List.singleton_append, ← e1]; exact h.keys, by rw [List.append_assoc, List.singleton_append, ← e2]; exact h.vals⟩
  obtain ⟨hj, rfl⟩ := List.getElem?_eq_some_iff.1 hy
  rw [List.take_succ_eq_append_getElem hj]
  rcases List.mem_append.1 hz with h1 | h1
  · exact List.mem_append_left _ (h.sub z h1)
  · exact List.mem_append_right _ h1
theorem UnR.stop {ks ks' : List Ky} {vs vs' : List Tr} {K : List Ky} {V : List Tr} (h : UnR ks ks' vs vs' vs'.length K V) : K = uk ks ks' vs' ∧ V = uv ks ks' vs' := by
  have h1 := h.keys
  have h2 := h.vals
  rw [show vs'.drop vs'.length = [] from List.drop_length, uk_nil, List.append_nil] at h1
  rw [show vs'.drop vs'.length = [] from List.drop_length, uv_nil, List.append_nil] at h2
  exact ⟨h1, h2⟩
theorem cnts_pre : ∀ (a b : List Tr), cnts a ≤ cnts (a ++ b) := fun a b => by rw [cnts_append]; omega


end Go.Proofs.YtdglmnmalfpipaaGreatDoor.tree

