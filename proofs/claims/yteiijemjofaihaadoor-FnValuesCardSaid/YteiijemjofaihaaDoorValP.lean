/-
  What validity, weight and nest say of each other.
  Conditions: those that each theorem names.
-/
import Derived.Test.YteiijemjofaihaaDoorSoundV
import Derived.Test.YteiijemjofaihaaDoorWeigh
import Derived.Test.YteiijemjofaihaaDoorPend
import Derived.Test.YteiijemjofaihaaDoorKinds
namespace Go.Proofs.YteiijemjofaihaaDoor.tree
open Go.ChangeShapes Go.WideShapes Go.ChangeAt Go.RowKit
set_option linter.unusedVariables false

mutual
theorem wt_wgt : ∀ t, wt t = (wgt t : Int)
  | .mk k n s x ks vs => by
    unfold wt
    by_cases h : k = 4
    · subst h
      rw [sz_four, wgt_four, szl_wgts vs]
      push_cast
      omega
    · rw [sz_not h, wgt_not h]
      rfl
theorem szl_wgts : ∀ vs, szl 1 add vs 0 = (wgts vs : Int)
  | [] => by rw [szl_nil, wgts_nil]; rfl
  | t :: vs => by
    have h := wt_wgt t
    unfold wt at h
    rw [szl_cons, szl_add, szl_wgts vs, wgts_cons, h]
    unfold add
    push_cast
    omega
end
theorem mx_add {a b p q : Int} (h0 : 0 ≤ a) (h : a ≤ b) (h1 : 0 ≤ p) (h2 : p ≤ q) : 0 ≤ mx a p ∧ mx a p ≤ add b q := by
  unfold mx add
  split <;> omega
mutual
theorem nt_le : ∀ t, 0 ≤ nt t ∧ nt t ≤ wt t
  | .mk k n s x ks vs => by
    unfold nt wt
    by_cases h : k = 4
    · subst h
      rw [sz_four, sz_four]
      have := szl_le vs 0 0 (Int.le_refl _) (Int.le_refl _)
      omega
    · rw [sz_not h, sz_not h]
      omega
theorem szl_le : ∀ (vs : List Tr) (a b : Int), 0 ≤ a → a ≤ b → 0 ≤ szl 0 mx vs a ∧ szl 0 mx vs a ≤ szl 1 add vs b
  | [], a, b, h0, h => by rw [szl_nil, szl_nil]; exact ⟨h0, h⟩
  | t :: vs, a, b, h0, h => by
    have ht := nt_le t
    unfold nt wt at ht
    rw [szl_cons, szl_cons]
    have hm := mx_add h0 h ht.1 ht.2
    exact szl_le vs _ _ hm.1 hm.2
end
theorem snd_kind {k n x : Int} {s : ByteArray} {ks : List Ky} {vs : List Tr} (h : sndB (.mk k n s x ks vs) = true) : k = 0 ∨ k = 1 ∨ k = 2 ∨ k = 3 ∨ k = 4 ∨ k = 6 ∨ k = 7 ∨ k = 8 := by
  by_cases h4 : k = 4
  · omega
  · rw [snd_not h4] at h
    unfold restB scalB at h
    rw [Bool.and_eq_true] at h
    have h2 := h.2
    by_cases a : k = 0
    · omega
    rw [if_neg a] at h2
    by_cases a1 : k = 1
    · omega
    rw [if_neg a1] at h2
    by_cases a2 : k = 2
    · omega
    rw [if_neg a2] at h2
    by_cases a3 : k = 3
    · omega
    rw [if_neg a3] at h2
    by_cases a6 : k = 6 ∨ k = 7 ∨ k = 8
    · omega
    · rw [if_neg a6] at h2
      cases h2
theorem name_ne {k : Int} (h : k = 0 ∨ k = 1 ∨ k = 2 ∨ k = 3 ∨ k = 4 ∨ k = 6 ∨ k = 7 ∨ k = 8) : ((kinds.nameOf k).toList == []) = false := by
  rcases h with rfl | rfl | rfl | rfl | rfl | rfl | rfl | rfl <;> (rw [ByteArray.toList_eq]; rfl)
theorem val_facts {k n x : Int} {s : ByteArray} {ks : List Ky} {vs : List Tr} (h : valB (.mk k n s x ks vs) = true) : wt (.mk k n s x ks vs) ≤ 200 ∧ ((kinds.nameOf k).toList == []) = false := by
  unfold valB lightB at h
  rw [Bool.and_eq_true] at h
  refine ⟨?_, name_ne (snd_kind h.2)⟩
  have := of_decide_eq_true h.1
  rw [wt_wgt]
  omega
/-- The array of two values that the law makes. -/
def two (t : Tr) : Tr := .mk 4 0 ⟨#[]⟩ 2 [⟨false, 0, ⟨#[]⟩⟩, ⟨false, 1, ⟨#[]⟩⟩] [t, .mk 3 0 ⟨#[116]⟩ 0 [] []]
theorem wt_two (t : Tr) : wt (two t) = wt t + 2 := by
  unfold wt two
  rw [sz_four, szl_cons, szl_cons, szl_nil, sz_not (k := 3) (by omega)]
  unfold add
  omega
theorem mx_two {a : Int} (h : 0 ≤ a) : mx (mx 0 a) 0 = a := by
  unfold mx
  split <;> split <;> omega
theorem nt_two (t : Tr) : nt (two t) = nt t + 1 := by
  have h := (nt_le t).1
  unfold nt at h
  unfold nt two
  rw [sz_four, szl_cons, szl_cons, szl_nil, sz_not (k := 3) (by omega), mx_two h]
  omega
theorem plain_two (t : Tr) : plainB (two t) = plainB t := by
  unfold two
  rw [plainB, plainL_cons, plainL_cons, plainL, plainB]
  simp

end Go.Proofs.YteiijemjofaihaaDoor.tree
