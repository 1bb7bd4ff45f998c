/-
  Whether a light value is valid, of the project.
  Conditions: those that each theorem names.
-/
import Derived.Test.YteiijemjofaihaaDoorFind
namespace Go.Proofs.YteiijemjofaihaaDoor.tree
open Go.ChangeShapes Go.WideShapes Go.ChangeAt Go.RowKit
set_option linter.unusedVariables false

/-- What a value that is no array has to be. -/
def scalB (k n : Int) (s : ByteArray) : Bool := if k = 0 then decide (n = 0) else if k = 1 then nums.inr n 0 1 else if k = 2 then nums.inr n (-1000000000) 1000000000 else if k = 3 then decide (n = 0) && decide (s.size ≤ 400) else if k = 6 ∨ k = 7 ∨ k = 8 then nums.inr n 0 255 else false
def restB (k n : Int) (s : ByteArray) (x : Int) (L : Nat) : Bool := ((decide (k = 3) || decide (s.size = 0)) && (decide (x = 0) && decide (L = 0))) && scalB k n s
mutual
/-- Whether a value is valid, but for its weight. -/
def sndB : Tr → Bool
  | .mk k n s x ks vs => if k = 4 then decide (s.size = 0) && (decide (n = 0) && (nums.inr x 0 1000000001 && itemsB x [] ks vs)) else restB k n s x vs.length
def itemsB (x : Int) : List Ky → List Ky → List Tr → Bool
  | seen, y :: ks, t :: vs => (!decide (y ∈ seen) && (belowB y x && sndB t)) && itemsB x (seen ++ [y]) ks vs
  | _, _, _ => true
end
theorem snd_four (n : Int) (s : ByteArray) (x : Int) (ks : List Ky) (vs : List Tr) : sndB (.mk 4 n s x ks vs) = (decide (s.size = 0) && (decide (n = 0) && (nums.inr x 0 1000000001 && itemsB x [] ks vs))) := by rw [sndB, if_pos rfl]
theorem snd_not {k n : Int} {s : ByteArray} {x : Int} {ks : List Ky} {vs : List Tr} (h : k ≠ 4) : sndB (.mk k n s x ks vs) = restB k n s x vs.length := by rw [sndB, if_neg h]
theorem items_cons (x : Int) (seen : List Ky) (y : Ky) (ks : List Ky) (t : Tr) (vs : List Tr) : itemsB x seen (y :: ks) (t :: vs) = ((!decide (y ∈ seen) && (belowB y x && sndB t)) && itemsB x (seen ++ [y]) ks vs) := by rw [itemsB]
theorem items_nil (x : Int) (seen ks : List Ky) : itemsB x seen ks [] = true := by cases ks <;> rw [itemsB] <;> simp
theorem items_drop {x : Int} {ks : List Ky} {vs : List Tr} {j : Nat} {y : Ky} {t : Tr} (hk : ks[j]? = some y) (hv : vs[j]? = some t) :
    itemsB x (ks.take j) (ks.drop j) (vs.drop j) = ((!decide (y ∈ ks.take j) && (belowB y x && sndB t)) && itemsB x (ks.take (j + 1)) (ks.drop (j + 1)) (vs.drop (j + 1))) := by
  obtain ⟨hj, rfl⟩ := List.getElem?_eq_some_iff.1 hk
  obtain ⟨hj', rfl⟩ := List.getElem?_eq_some_iff.1 hv
  rw [List.drop_eq_getElem_cons hj, List.drop_eq_getElem_cons hj', items_cons, List.take_succ_eq_append_getElem hj]
theorem tots_item : ∀ {ks : List Ky} {vs : List Tr} {j : Nat} {y : Ky} {t : Tr}, ks[j]? = some y → vs[j]? = some t → y.str.size + tot t ≤ tots ks vs
  | [], _, _, _, _, h, _ => by simp at h
  | _ :: _, [], _, _, _, _, h => by simp at h
  | z :: ks, u :: vs, 0, y, t, h, h' => by
    simp at h h'
    subst h h'
    rw [tots_cons]
    omega
  | z :: ks, u :: vs, j + 1, y, t, h, h' => by
    have := tots_item (ks := ks) (vs := vs) (j := j) (by simpa using h) (by simpa using h')
    rw [tots_cons]
    omega

theorem rest_str {k n : Int} {s : ByteArray} {x : Int} {L : Nat} (h : ¬ k = 3) (hs : ¬ s.size = 0) : restB k n s x L = false := by
  unfold restB
  simp [h, hs]
theorem rest_next {k n : Int} {s : ByteArray} {x : Int} {L : Nat} (h : ¬ x = 0) : restB k n s x L = false := by
  unfold restB
  simp [h]
theorem rest_items {k n : Int} {s : ByteArray} {x : Int} {L : Nat} (h : ¬ L = 0) : restB k n s x L = false := by
  unfold restB
  simp [h]
theorem rest_ok {k n : Int} {s : ByteArray} (h : k = 3 ∨ s.size = 0) : restB k n s 0 0 = scalB k n s := by
  unfold restB
  rcases h with h | h <;> simp [h]
theorem ret_dec {p q : Prop} [Decidable p] [Decidable q] (h : p ↔ q) : Ending.returned (.bool (decide p)) = .returned (.bool (decide q)) := by rw [decide_eq_decide.2 h]
theorem inRange_i (n l h : Int) (q : Bool) (hq : nums.inr n l h = q) (w : World) : Calls Tryd.prog 78 #[.int .i64 n, .int .i64 l, .int .i64 h] w fun e w' => e = .returned (.bool q) ∧ w = w' := hq ▸ nums.implInRange n l h w

theorem scal_i (k n : Int) (s : ByteArray) (A : Option Addr) (c : Nat) (h4 : ¬ k = 4) (hs : k = 3 ∨ s.size = 0) (hm : s.size ≤ maxLen) (w : World) :
    Calls Tryd.prog 81 #[vV k n s 0 A 0 c] w (BoQ w (scalB k n s)) := by
  unfold maxLen at hm
  by_cases h3 : k = 3
  · subst h3
    clear h4 hs
    by_cases hn : n = 0
    · subst hn
      have e : scalB 3 0 s = decide (s.size ≤ 400) := by simp [scalB]
      rw [e]
      clear e
      go_enter Tryd.func81, Tryd.ntmps81
      go_wp2_with (fail)
      go_ret
      exact ⟨ret_dec (p := (s.size : Int) ≤ 400) (by omega), b1 _ _⟩
    · have e : scalB 3 n s = false := by simp [scalB, hn]
      rw [e]
      clear e
      go_enter Tryd.func81, Tryd.ntmps81
      go_wp2_with (fail)
      go_ret
      exact ⟨rfl, b1 _ _⟩
  · obtain rfl := empty_of (hs.resolve_left h3)
    clear hs hm
    by_cases h0 : k = 0
    · subst h0
      have e : scalB 0 n ⟨#[]⟩ = decide (n = 0) := rfl
      rw [e]
      clear e h3 h4
      go_enter Tryd.func81, Tryd.ntmps81
      go_wp2_with (fail)
      go_ret
      exact ⟨rfl, b1 _ _⟩
    by_cases h1 : k = 1
    · subst h1
      obtain ⟨q, hq⟩ : ∃ q, scalB 1 n ⟨#[]⟩ = q := ⟨_, rfl⟩
      have IR := inRange_i n 0 1 q hq
      rw [hq]
      clear hq h3 h4 h0
      go_enter Tryd.func81, Tryd.ntmps81
      go_wp2_with (fail)
      refine (IR _).mono ?_
      rintro e w1 ⟨rfl, rfl⟩
      go_wp2_with (fail)
      go_ret
      exact ⟨rfl, b1 _ _⟩
    by_cases h2 : k = 2
    · subst h2
      obtain ⟨q, hq⟩ : ∃ q, scalB 2 n ⟨#[]⟩ = q := ⟨_, rfl⟩
      have IR := inRange_i n (-1000000000) 1000000000 q hq
      rw [hq]
      clear hq h3 h4 h0 h1
      go_enter Tryd.func81, Tryd.ntmps81
      go_wp2_with (fail)
      refine (IR _).mono ?_
      rintro e w1 ⟨rfl, rfl⟩
      go_wp2_with (fail)
      go_ret
      exact ⟨rfl, b1 _ _⟩
    by_cases h678 : k = 6 ∨ k = 7 ∨ k = 8
    · obtain ⟨q, hq⟩ : ∃ q, nums.inr n 0 255 = q := ⟨_, rfl⟩
      have IR := inRange_i n 0 255 q hq
      have e : scalB k n ⟨#[]⟩ = q := by
        unfold scalB
        rw [if_neg h0, if_neg h1, if_neg h2, if_neg h3, if_pos h678, hq]
      rw [e]
      clear hq e h3 h4 h0 h1 h2
      rcases h678 with rfl | rfl | rfl
      all_goals
        go_enter Tryd.func81, Tryd.ntmps81
        go_wp2_with (fail)
        refine (IR _).mono ?_
        rintro e w1 ⟨rfl, rfl⟩
        go_wp2_with (fail)
        go_ret
        exact ⟨rfl, b1 _ _⟩
    · have e : scalB k n ⟨#[]⟩ = false := by
        unfold scalB
        rw [if_neg h0, if_neg h1, if_neg h2, if_neg h3, if_neg h678]
      rw [e]
      clear e
      have h6 : ¬ k = 6 := fun h => h678 (.inl h)
      have h7 : ¬ k = 7 := fun h => h678 (.inr (.inl h))
      have h8 : ¬ k = 8 := fun h => h678 (.inr (.inr h))
      clear h678
      go_enter Tryd.func81, Tryd.ntmps81
      go_wp2_with (fail)
      go_ret
      exact ⟨rfl, b1 _ _⟩

theorem rest_i (k n : Int) (s : ByteArray) (x : Int) (A : Option Addr) (L c : Nat) (h4 : ¬ k = 4) (hm : s.size ≤ maxLen) (hL : L ≤ maxLen) (w : World) :
    Calls Tryd.prog 81 #[vV k n s x A L c] w (BoQ w (restB k n s x L)) := by
  by_cases hs : k = 3 ∨ s.size = 0
  · by_cases hx : x = 0
    · subst hx
      by_cases h0 : L = 0
      · subst h0
        rw [rest_ok hs]
        exact scal_i k n s A c h4 hs hm w
      · rw [rest_items h0]
        unfold maxLen at hL
        have h0' : ((L : Int) != 0) = true := by simp; omega
        have h4' : (k != 4) = true := by simp [h4]
        by_cases h3 : k = 3
        · subst h3
          clear hs h4'
          go_enter Tryd.func81, Tryd.ntmps81
          go_wp2_with (fail)
          go_ret
          exact ⟨rfl, b1 _ _⟩
        · obtain rfl := empty_of (hs.resolve_left h3)
          clear hs hm
          go_enter Tryd.func81, Tryd.ntmps81
          go_wp2_with (fail)
          go_ret
          exact ⟨rfl, b1 _ _⟩
    · rw [rest_next hx]
      by_cases h3 : k = 3
      · subst h3
        clear hs
        go_enter Tryd.func81, Tryd.ntmps81
        go_wp2_with (fail)
        go_ret
        exact ⟨rfl, b1 _ _⟩
      · obtain rfl := empty_of (hs.resolve_left h3)
        clear hs hm
        go_enter Tryd.func81, Tryd.ntmps81
        go_wp2_with (fail)
        go_ret
        exact ⟨rfl, b1 _ _⟩
  · have h3 : ¬ k = 3 := fun h => hs (.inl h)
    have h0 : ¬ s.size = 0 := fun h => hs (.inr h)
    rw [rest_str h3 h0]
    obtain ⟨l1, l2⟩ := list_of h0
    clear hs
    go_enter Tryd.func81, Tryd.ntmps81
    go_wp2_with (fail)
    go_ret
    exact ⟨rfl, b1 _ _⟩

end Go.Proofs.YteiijemjofaihaaDoor.tree
