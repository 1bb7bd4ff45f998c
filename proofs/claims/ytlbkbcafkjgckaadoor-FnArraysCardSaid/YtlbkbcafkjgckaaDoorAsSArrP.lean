/-
  What setting and deleting a key do to a valid array, without the program.
  Conditions: those that each theorem names.
-/
import Derived.Test.YtlbkbcafkjgckaaDoorAsB1
import Derived.Test.YtlbkbcafkjgckaaDoorCmB2
import Derived.Test.YtlbkbcafkjgckaaDoorAsSDelK
namespace Go.Proofs.YtlbkbcafkjgckaaDoor.tree
open Go.ChangeShapes Go.WideShapes Go.ChangeAt Go.RowKit
set_option linter.unusedVariables false

theorem pos_neg : ∀ (ks : List Ky) (y : Ky) (i : Nat), pos ks y i = -1 ↔ y ∉ ks
  | [], y, i => by simp [pos]
  | z :: ks, y, i => by
    rw [pos]
    by_cases h : z = y
    · subst h; simp
    · rw [if_neg h, pos_neg ks y (i + 1)]; simp; exact fun _ e => h e.symm
theorem pos_get : ∀ (ks : List Ky) (y : Ky) (i p : Nat), pos ks y i = ((i + p : Nat) : Int) → ks[p]? = some y
  | [], y, i, p, h => by simp [pos] at h; omega
  | z :: ks, y, i, p, h => by
    rw [pos] at h
    by_cases e : z = y
    · subst e
      rw [if_pos rfl] at h
      obtain rfl : p = 0 := by omega
      rfl
    · rw [if_neg e] at h
      have hg := pos_ge ks y (i + 1)
      obtain ⟨q, rfl⟩ : ∃ q, p = q + 1 := ⟨p - 1, by omega⟩
      rw [List.getElem?_cons_succ]
      exact pos_get ks y (i + 1) q (by rw [h]; omega)
theorem items_key {x : Int} {ks : List Ky} {vs : List Tr} (hl : ks.length = vs.length) (h : itemsB x [] ks vs = true) {j : Nat} {y : Ky} (hy : ks[j]? = some y) : y ∉ ks.take j ∧ belowB y x = true := by
  obtain ⟨t, ht⟩ : ∃ t, vs[j]? = some t := ⟨_, List.getElem?_eq_getElem (by have := (List.getElem?_eq_some_iff.1 hy).1; omega)⟩
  have := items_at hl h j (by have := (List.getElem?_eq_some_iff.1 ht).1; omega)
  rw [items_drop hy ht, Bool.and_eq_true, Bool.and_eq_true, Bool.and_eq_true] at this
  exact ⟨by simpa using this.1.1, this.1.2.1⟩
theorem below_num {y : Ky} {x : Int} (h : belowB y x = true) (ht : y.text = false) : y.num < x := by
  unfold belowB at h
  rw [Bool.and_eq_true, ht] at h
  simpa using h.2
theorem cnts_eras : ∀ (vs : List Tr) (i : Nat), cnts (vs.eraseIdx i) ≤ cnts vs
  | [], i => by simp
  | t :: vs, 0 => by rw [List.eraseIdx_cons_zero, cnts_cons']; omega
  | t :: vs, i + 1 => by
    have := cnts_eras vs i
    rw [List.eraseIdx_cons_succ, cnts_cons', cnts_cons']
    omega
theorem tots_eras : ∀ (ks : List Ky) (vs : List Tr) (i : Nat), ks.length = vs.length → tots (ks.eraseIdx i) (vs.eraseIdx i) ≤ tots ks vs
  | [], [], i, _ => by simp
  | y :: ks, t :: vs, 0, _ => by rw [List.eraseIdx_cons_zero, List.eraseIdx_cons_zero, tots_cons]; omega
  | y :: ks, t :: vs, i + 1, h => by
    have := tots_eras ks vs i (by simpa using h)
    rw [List.eraseIdx_cons_succ, List.eraseIdx_cons_succ, tots_cons, tots_cons]
    omega

/-- What the law says of the array behind setting a key. -/
structure ArrF (n x : Int) (s : ByteArray) (ks : List Ky) (vs : List Tr) (y : Ky) (u : Tr) (X : Int) (ks' : List Ky) (vs' : List Tr) (ks2 : List Ky) (vs2 : List Tr) : Prop where
  set_ : setT (.mk 4 n s x ks vs) y u = .mk 4 n s X ks' vs'
  len : ks'.length = vs'.length
  next : x ≤ X
  getr : getR (.mk 4 n s X ks' vs') y = u
  getb : getB (.mk 4 n s X ks' vs') y = true
  del : delT (.mk 4 n s X ks' vs') y = .mk 4 n s X ks2 vs2
  gone : getB (.mk 4 n s X ks2 vs2) y = false
  free : posV (.mk 4 n s X ks' vs') ⟨false, X, ⟨#[]⟩⟩ = -1
  less : vs2.length + 1 = vs'.length
  cnt2 : cnts vs2 ≤ cnts vs'
  tot2 : tots ks2 vs2 ≤ tots ks' vs'
  other : ∀ (i : Nat) (z : Ky), ks'[i]? = some z → z ≠ y → ks[i]? = some z ∧ ∃ t, vs[i]? = some t ∧ vs'[i]? = some t
  uniq : ∀ i j : Nat, ks'[i]? = some y → ks'[j]? = some y → i = j
  stay : ∀ i : Nat, ks[i]? = some y → ks'[i]? = some y
  more : ks'.length ≤ ks.length + 1
  here : ∀ i : Nat, ks'[i]? = some y → ks[i]? = some y ∨ (i = ks.length ∧ ks'.length = ks.length + 1)

theorem arr_set {n x : Int} {s : ByteArray} {ks : List Ky} {vs : List Tr} {y : Ky} (u : Tr) (hl : ks.length = vs.length) (hv : itemsB x [] ks vs = true) : ∃ X ks' vs' ks2 vs2, ArrF n x s ks vs y u X ks' vs' ks2 vs2 := by
  have hk := fun (j : Nat) (z : Ky) (hz : ks[j]? = some z) => items_key hl hv hz
  rcases posV_cases 4 n s x ks vs y with hp | ⟨p, hp, hi, -⟩
  · have hy : y ∉ ks := by rw [posV_four] at hp; exact (pos_neg ks y 0).1 hp
    have hpos : posV (.mk 4 n s (nxt x y) (ks ++ [y]) (vs ++ [u])) y = (ks.length : Nat) := by
      rw [posV_four]
      have := (pos_first (ks ++ [y]) y 0 ks.length (by simp)).2 (by simpa using hy)
      simpa using this
    have hnx : x ≤ nxt x y := by unfold nxt; split <;> (try split) <;> omega
    refine ⟨nxt x y, ks ++ [y], vs ++ [u], ks, vs, setT_none hp, by simp [hl], hnx, ?_, ?_, ?_, ?_, ?_, by simp, ?_, ?_, ?_, ?_, ?_, ?_, ?_⟩
    · unfold getR; rw [getT_some hpos, hl]; simp
    · unfold getB; rw [getT_some hpos, hl]; simp
    · rw [delT_some hpos]
      congr 1
      · rw [List.eraseIdx_append_of_length_le (Nat.le_refl _)]; simp
      · rw [hl, List.eraseIdx_append_of_length_le (Nat.le_refl _)]; simp
    · unfold getB; rw [getT_none (by rw [posV_four]; exact (pos_neg ks y 0).2 hy)]; rfl
    · rw [posV_four, pos_neg]
      intro h
      rcases List.mem_append.1 h with h | h
      · obtain ⟨j, hj, e⟩ := List.mem_iff_getElem.1 h
        have := below_num (hk j _ (List.getElem?_eq_getElem hj)).2 (by rw [e])
        rw [e] at this
        simp only at this
        omega
      · have e := List.mem_singleton.1 h
        have h1 : y.text = false := by rw [← e]
        have h2 : y.num = nxt x y := (congrArg Ky.num e).symm
        unfold nxt at h2
        rw [h1] at h2
        simp at h2
        split at h2 <;> omega
    · rw [cnts_append]; omega
    · rw [tots_append ks vs y u hl]; omega
    · intro i z hz hne
      by_cases hlt : i < ks.length
      · rw [List.getElem?_append_left hlt] at hz
        exact ⟨hz, vs[i]'(by omega), List.getElem?_eq_getElem (by omega), by rw [List.getElem?_append_left (by omega), List.getElem?_eq_getElem]⟩
      · rw [List.getElem?_append_right (by omega)] at hz
        have := (List.getElem?_eq_some_iff.1 hz).1
        simp at this
        rw [show i - ks.length = 0 by omega] at hz
        simp at hz
        exact absurd hz.symm hne
    · have one : ∀ i : Nat, (ks ++ [y])[i]? = some y → i = ks.length := fun i hz => by
        by_cases hlt : i < ks.length
        · rw [List.getElem?_append_left hlt] at hz
          exact absurd (List.mem_of_getElem? hz) hy
        · have := (List.getElem?_eq_some_iff.1 hz).1
          simp at this
          omega
      exact fun i j h1 h2 => by rw [one i h1, one j h2]
    · exact fun i h => absurd (List.mem_of_getElem? h) hy
    · simp
    · intro i hz
      by_cases hlt : i < ks.length
      · rw [List.getElem?_append_left hlt] at hz
        exact .inl hz
      · have := (List.getElem?_eq_some_iff.1 hz).1
        simp at this
        exact .inr ⟨by omega, by simp⟩
  · have hp0 : pos ks y 0 = ((0 + p : Nat) : Int) := by rw [posV_four] at hp; rw [hp]; simp
    have hy := pos_get ks y 0 p hp0
    have hnt : y ∉ ks.take p := (pos_first ks y 0 p hy).1 (by rw [hp0]; omega)
    have hpos : posV (.mk 4 n s x ks (vs.set p u)) y = (p : Nat) := by rw [posV_four]; rw [posV_four] at hp; exact hp
    have hg : (vs.set p u)[p]? = some u := List.getElem?_set_self (by omega)
    have hno : y ∉ ks.eraseIdx p := by
      rw [List.mem_eraseIdx_iff_getElem?]
      rintro ⟨j, hne, hj⟩
      rcases Nat.lt_or_ge j p with h | h
      · exact hnt (List.mem_iff_getElem?.2 ⟨j, by rw [List.getElem?_take_of_lt h]; exact hj⟩)
      · exact (hk j y hj).1 (List.mem_iff_getElem?.2 ⟨p, by rw [List.getElem?_take_of_lt (by omega)]; exact hy⟩)
    refine ⟨x, ks, vs.set p u, ks.eraseIdx p, (vs.set p u).eraseIdx p, setT_some hp, by simp [hl], Int.le_refl _, ?_, ?_, delT_some hpos, ?_, ?_, ?_, cnts_eras _ _, tots_eras _ _ _ (by simp [hl]), ?_, ?_, ?_, ?_, ?_⟩
    · unfold getR; rw [getT_some hpos, hg]; rfl
    · unfold getB; rw [getT_some hpos, hg]; rfl
    · unfold getB; rw [getT_none (by rw [posV_four]; exact (pos_neg _ y 0).2 hno)]; rfl
    · rw [posV_four, pos_neg]
      intro h
      obtain ⟨j, hj, e⟩ := List.mem_iff_getElem.1 h
      have := below_num (hk j _ (List.getElem?_eq_getElem hj)).2 (by rw [e])
      rw [e] at this
      simp only at this
      omega
    · rw [List.length_eraseIdx, if_pos (by simp; omega)]; simp; omega
    · intro i z hz hne
      have hil := (List.getElem?_eq_some_iff.1 hz).1
      refine ⟨hz, vs[i]'(by omega), List.getElem?_eq_getElem (by omega), ?_⟩
      rw [List.getElem?_set_ne (fun e => by subst e; rw [hy] at hz; injection hz with e; exact hne e.symm), List.getElem?_eq_getElem]
    · intro i j h1 h2
      rcases Nat.lt_trichotomy i j with h | h | h
      · exact absurd (List.mem_iff_getElem?.2 ⟨i, by rw [List.getElem?_take_of_lt h]; exact h1⟩) (hk j y h2).1
      · exact h
      · exact absurd (List.mem_iff_getElem?.2 ⟨j, by rw [List.getElem?_take_of_lt h]; exact h2⟩) (hk i y h1).1
    · exact fun i h => h
    · omega
    · exact fun i hz => .inl hz

end Go.Proofs.YtlbkbcafkjgckaaDoor.tree

