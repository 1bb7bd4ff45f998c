/-
  What the texts behind this one use: 2 parts of one proof.
  Conditions: those that each theorem names.
-/
import Derived.Test.YtdglmnmalfpipaaGreatDoorVB5
import Derived.Test.YtdglmnmalfpipaaGreatDoorVB1
/-
  A table built anew, as a matter of lists.
  Conditions: none.
-/
namespace Go.Proofs.YtdglmnmalfpipaaGreatDoor.tree
open Go.ChangeShapes Go.WideShapes Go.ChangeAt Go.RowKit
set_option linter.unusedVariables false

/-- The heads of the first slots do not change with more slots. -/
theorem hs_append {n : Nat} {sl s2 : List Sl} : ∀ {j : Nat}, j ≤ sl.length → hs n (sl ++ s2) j = hs n sl j
  | 0, _ => rfl
  | j + 1, h => by
    obtain ⟨t, ht⟩ : ∃ t, sl[j]? = some t := ⟨_, List.getElem?_eq_getElem (by omega)⟩
    rw [hs_succ ht, hs_succ (by rw [List.getElem?_append_left (by omega)]; exact ht), hs_append (by omega)]
theorem lk_append {n : Nat} {sl s2 : List Sl} {j : Nat} {y : Ky} (h : j ≤ sl.length) : lk n (sl ++ s2) j y = lk n sl j y := by
  unfold lk
  rw [hs_append h]
/-- One more slot, linked to the one before. -/
def addS (n : Nat) (sl : List Sl) (y : Ky) (v : Tr) : List Sl := sl ++ [⟨y, v, true, lk n sl sl.length y⟩]
/-- The heads of all slots. -/
def hsA (n : Nat) (sl : List Sl) : List Int := hs n sl sl.length
theorem addS_len (n : Nat) (sl : List Sl) (y : Ky) (v : Tr) : (addS n sl y v).length = sl.length + 1 := by simp [addS]
theorem hsA_len (n : Nat) (sl : List Sl) : (hsA n sl).length = n := hs_len n sl _
theorem hsA_add (n : Nat) (sl : List Sl) (y : Ky) (v : Tr) : hsA n (addS n sl y v) = (hsA n sl).set (bk n y) sl.length := by
  unfold hsA
  rw [addS_len]
  have ht : (addS n sl y v)[sl.length]? = some ⟨y, v, true, lk n sl sl.length y⟩ := by simp [addS]
  rw [hs_succ ht]
  unfold addS
  rw [hs_append (Nat.le_refl _)]
/-- The live slots, built anew in a table of n heads. -/
def rbS (n : Nat) (sl : List Sl) : List Sl := (liv sl).foldl (fun s t => addS n s t.key t.val) []
theorem rbS_nil (n : Nat) : rbS n [] = [] := rfl
theorem rbS_take {n : Nat} {sl : List Sl} {j : Nat} {t : Sl} (h : sl[j]? = some t) : rbS n (sl.take (j + 1)) = if t.live = true then addS n (rbS n (sl.take j)) t.key t.val else rbS n (sl.take j) := by
  unfold rbS
  rw [liv_take h, List.foldl_append]
  cases t.live <;> simp
theorem rbS_len (n : Nat) (sl : List Sl) : (rbS n sl).length = (liv sl).length := by
  unfold rbS
  have key : ∀ (l : List Sl) (s : List Sl), (l.foldl (fun s t => addS n s t.key t.val) s).length = s.length + l.length := by
    intro l
    induction l with
    | nil => intro s; simp
    | cons t l ih => intro s; rw [List.foldl_cons, ih, addS_len, List.length_cons]; omega
  rw [key]
  simp
theorem rbS_le (n : Nat) (sl : List Sl) : (rbS n sl).length ≤ sl.length := by
  rw [rbS_len]
  exact liv_len sl
/-- How many heads a table of k live slots gets. -/
def room (k : Int) : Nat := if k < 8 then 8 else if k < 16 then 16 else if k < 32 then 32 else if k < 64 then 64 else if k < 128 then 128 else if k < 256 then 256 else if k < 512 then 512 else 1024
theorem room_cases (k : Int) : (k < 8 ∧ room k = 8) ∨ (8 ≤ k ∧ k < 16 ∧ room k = 16) ∨ (16 ≤ k ∧ k < 32 ∧ room k = 32) ∨ (32 ≤ k ∧ k < 64 ∧ room k = 64) ∨ (64 ≤ k ∧ k < 128 ∧ room k = 128) ∨ (128 ≤ k ∧ k < 256 ∧ room k = 256) ∨ (256 ≤ k ∧ k < 512 ∧ room k = 512) ∨ (512 ≤ k ∧ room k = 1024) := by
  unfold room
  by_cases h1 : k < 8
  · simp [h1]
  by_cases h2 : k < 16
  · simp [h1, h2]; omega
  by_cases h3 : k < 32
  · simp [h1, h2, h3]; omega
  by_cases h4 : k < 64
  · simp [h1, h2, h3, h4]; omega
  by_cases h5 : k < 128
  · simp [h1, h2, h3, h4, h5]; omega
  by_cases h6 : k < 256
  · simp [h1, h2, h3, h4, h5, h6]; omega
  by_cases h7 : k < 512
  · simp [h1, h2, h3, h4, h5, h6, h7]; omega
  · simp [h1, h2, h3, h4, h5, h6, h7]; omega
theorem room_p2 (k : Int) : p2 (room k) := by
  unfold p2
  rcases room_cases k with h | h | h | h | h | h | h | h <;> omega
theorem room_gt {k : Int} (h : k < 1024) : k < room k := by
  rcases room_cases k with h | h | h | h | h | h | h | h <;> omega
theorem room_at {k : Int} {s : Nat} (h : k < 1024) (hp : p2 s) (hl : s = 8 ∨ (s : Int) ≤ 2 * k) (hg : k < s) : room k = s := by
  unfold p2 at hp
  rcases room_cases k with h | h | h | h | h | h | h | h <;> omega
theorem p2_twice {k : Int} {s : Nat} (h : k < 1024) (hp : p2 s) (hl : (s : Int) ≤ k) : p2 (2 * s) := by
  unfold p2 at hp ⊢
  omega
/-- What a table is behind Rebuild. -/
def RbR (b : Bool) (l : List Int) (sl : List Sl) (x k : Int) (rb : Bool) (rl : List Int) (rs : List Sl) : Prop :=
  ((tabOk b l sl x k ∧ k < 1024) ∧ rb = true ∧ rs = rbS (room k) sl ∧ rl = hsA (room k) rs) ∨ (¬ (tabOk b l sl x k ∧ k < 1024) ∧ rb = b ∧ rs = sl ∧ rl = l)
theorem RbR.is (b : Bool) (l : List Int) (sl : List Sl) (x k : Int) : ∃ rb rl rs, RbR b l sl x k rb rl rs := by
  by_cases h : tabOk b l sl x k ∧ k < 1024
  · exact ⟨_, _, _, .inl ⟨h, rfl, rfl, rfl⟩⟩
  · exact ⟨_, _, _, .inr ⟨h, rfl, rfl, rfl⟩⟩
theorem RbR.one {b : Bool} {l : List Int} {sl : List Sl} {x k : Int} {rb rb' : Bool} {rl rl' : List Int} {rs rs' : List Sl} (h : RbR b l sl x k rb rl rs) (h' : RbR b l sl x k rb' rl' rs') : rb = rb' ∧ rl = rl' ∧ rs = rs' := by
  rcases h with ⟨a, b1, c1, d1⟩ | ⟨a, b1, c1, d1⟩ <;> rcases h' with ⟨a', b2, c2, d2⟩ | ⟨a', b2, c2, d2⟩
  · subst b1 c1 d1 b2 c2 d2; exact ⟨rfl, rfl, rfl⟩
  · exact absurd a a'
  · exact absurd a' a
  · subst b1 c1 d1 b2 c2 d2; exact ⟨rfl, rfl, rfl⟩

end Go.Proofs.YtdglmnmalfpipaaGreatDoor.tree

/-
  A key set in a table, as a matter of lists; what stays sound.
  Conditions: none.
-/
namespace Go.Proofs.YtdglmnmalfpipaaGreatDoor.tree
open Go.ChangeShapes Go.WideShapes Go.ChangeAt Go.RowKit
set_option linter.unusedVariables false

theorem liv_add (n : Nat) (sl : List Sl) (y : Ky) (v : Tr) : liv (addS n sl y v) = liv sl ++ [⟨y, v, true, lk n sl sl.length y⟩] := by
  unfold addS liv
  rw [List.filter_append]
  rfl
theorem livK_add (n : Nat) (sl : List Sl) (y : Ky) (v : Tr) : livK (addS n sl y v) = livK sl ++ [y] := by
  unfold livK
  rw [liv_add, List.map_append]
  rfl
theorem livV_add (n : Nat) (sl : List Sl) (y : Ky) (v : Tr) : livV (addS n sl y v) = livV sl ++ [v] := by
  unfold livV
  rw [liv_add, List.map_append]
  rfl
/-- What is rebuilt holds the same keys and values. -/
theorem rbS_live (n : Nat) (sl : List Sl) : livK (rbS n sl) = livK sl ∧ livV (rbS n sl) = livV sl := by
  unfold rbS
  have key : ∀ (l : List Sl) (s : List Sl), livK (l.foldl (fun s t => addS n s t.key t.val) s) = livK s ++ l.map (fun t => t.key) ∧ livV (l.foldl (fun s t => addS n s t.key t.val) s) = livV s ++ l.map (fun t => t.val) := by
    intro l
    induction l with
    | nil => intro s; simp
    | cons t l ih =>
      intro s
      rw [List.foldl_cons]
      obtain ⟨h1, h2⟩ := ih (addS n s t.key t.val)
      rw [h1, h2, livK_add, livV_add]
      simp
  obtain ⟨h1, h2⟩ := key (liv sl) []
  rw [h1, h2]
  exact ⟨rfl, rfl⟩
/-- Each slot of what is rebuilt is live, and linked as it should be. -/
theorem rbS_each (n : Nat) (sl : List Sl) : ∀ j t, (rbS n sl)[j]? = some t → t.live = true ∧ t.link = lk n (rbS n sl) j t.key ∧ ∃ u ∈ liv sl, t.key = u.key ∧ t.val = u.val := by
  have key : ∀ (l : List Sl) (P : Sl → Prop), (∀ u ∈ l, P u) → ∀ (s : List Sl), (∀ j t, s[j]? = some t → t.live = true ∧ t.link = lk n s j t.key ∧ ∃ u, P u ∧ t.key = u.key ∧ t.val = u.val) → ∀ j t, (l.foldl (fun s t => addS n s t.key t.val) s)[j]? = some t → t.live = true ∧ t.link = lk n (l.foldl (fun s t => addS n s t.key t.val) s) j t.key ∧ ∃ u, P u ∧ t.key = u.key ∧ t.val = u.val := by
    intro l P
    induction l with
    | nil => intro _ s hs; exact hs
    | cons u l ih =>
      intro hP s hs
      rw [List.foldl_cons]
      refine ih (fun v hv => hP v (List.mem_cons_of_mem _ hv)) _ fun j t ht => ?_
      by_cases hj : j < s.length
      · have ht' : s[j]? = some t := by
          unfold addS at ht
          rwa [List.getElem?_append_left hj] at ht
        obtain ⟨h1, h2, h3⟩ := hs j t ht'
        refine ⟨h1, ?_, h3⟩
        unfold addS
        rw [lk_append (by omega)]
        exact h2
      · have hl := (List.getElem?_eq_some_iff.1 ht).1
        rw [addS_len] at hl
        obtain rfl : j = s.length := by omega
        have e : (addS n s u.key u.val)[s.length]? = some ⟨u.key, u.val, true, lk n s s.length u.key⟩ := by simp [addS]
        rw [e] at ht
        obtain rfl := Option.some.inj ht
        refine ⟨rfl, ?_, u, hP u List.mem_cons_self, rfl, rfl⟩
        unfold addS
        rw [lk_append (Nat.le_refl _)]
  intro j t ht
  obtain ⟨h1, h2, u, h3, h4⟩ := key (liv sl) (fun u => u ∈ liv sl) (fun _ h => h) [] (fun j t h => by simp at h) j t ht
  exact ⟨h1, h2, u, h3, h4⟩

theorem livK_nodup {x : Int} {sl : List Sl} (h : rowS x sl) : ∀ J, J ≤ sl.length → (livK (sl.take J)).Nodup
  | 0, _ => by simp [livK, liv]
  | J + 1, hJ => by
    obtain ⟨t, ht⟩ : ∃ t, sl[J]? = some t := ⟨_, List.getElem?_eq_getElem (by omega)⟩
    have ih := livK_nodup h J (by omega)
    rw [livK_take ht]
    cases hl : t.live with
    | false => simpa using ih
    | true =>
      have hn := (h J t ht).2.1 hl
      simp only [if_true]
      rw [List.nodup_append]
      exact ⟨ih, by simp, fun a ha b hb => by
        rw [List.mem_singleton] at hb
        subst hb
        exact fun e => hn (e ▸ ha)⟩
/-- Rebuilding keeps a table sound. -/
theorem rb_ok {b : Bool} {l : List Int} {sl : List Sl} {x k : Int} (h : tabOk b l sl x k) (hk : k < 1024) : tabOk true (hsA (room k) (rbS (room k) sl)) (rbS (room k) sl) x k := by
  obtain ⟨h1, h2, ⟨h3, h4⟩, h5⟩ := h
  have hll : ((rbS (room k) sl).length : Int) = k := by rw [rbS_len, ← h4]; unfold livK; rw [List.length_map]
  obtain ⟨hK, hV⟩ := rbS_live (room k) sl
  have hall : ∀ j, livK ((rbS (room k) sl).take j) = (livK (rbS (room k) sl)).take j := by
    have e : ∀ s : List Sl, (∀ t ∈ s, t.live = true) → livK s = s.map (fun t => t.key) := fun s hs => by
      unfold livK liv
      rw [List.filter_eq_self.2 hs]
    have hlv : ∀ t ∈ rbS (room k) sl, t.live = true := fun t ht => by
      obtain ⟨i, hi⟩ := List.mem_iff_getElem?.1 ht
      exact (rbS_each (room k) sl i t hi).1
    intro j
    rw [e _ hlv, e _ (fun t ht => hlv t (List.mem_of_mem_take ht)), List.map_take]
  refine ⟨h1, ⟨fun _ => ⟨by rw [hsA_len]; exact room_p2 k, by rw [hsA_len]; have := room_gt hk; omega⟩, fun h => by cases h⟩, ⟨fun j t ht => ?_, by rw [hK]; exact h4⟩, fun j t ht => ⟨.inl rfl, by rw [hsA_len]; exact (rbS_each _ sl j t ht).2.1⟩, by rw [hsA_len]; rfl⟩
  obtain ⟨e1, e2, u, e3, e4, e5⟩ := rbS_each _ sl j t ht
  obtain ⟨hu1, hu2⟩ := List.mem_filter.1 e3
  obtain ⟨i, hi⟩ := List.mem_iff_getElem?.1 hu1
  obtain ⟨s1, s2, s3⟩ := h3 i u hi
  refine ⟨by rw [e4]; exact s1, fun _ hm => ?_, fun h => by rw [e1] at h; cases h⟩
  rw [hall, hK] at hm
  have hnd := livK_nodup h3 sl.length (Nat.le_refl _)
  rw [List.take_length] at hnd
  have hjl : j < (livK sl).length := by
    have h9 := (List.getElem?_eq_some_iff.1 ht).1
    rw [rbS_len] at h9
    unfold livK
    rw [List.length_map]
    exact h9
  have hget : (livK sl)[j]? = some t.key := by
    rw [← hK]
    have h9 := hall (j + 1)
    rw [livK_take ht, e1, hall] at h9
    rw [List.take_add_one] at h9
    have := List.append_cancel_left h9
    simp only [if_true] at this
    cases hq : (livK (rbS (room k) sl))[j]? with
    | none => rw [hq] at this; simp at this
    | some z => rw [hq] at this; simp at this; rw [this]
  obtain ⟨i2, hi2, e9⟩ := List.mem_iff_getElem.1 hm
  rw [List.length_take] at hi2
  rw [List.getElem_take] at e9
  have h10 : (livK sl)[j]'hjl = t.key := by
    rw [List.getElem?_eq_getElem hjl] at hget
    exact Option.some.inj hget
  exact (List.pairwise_iff_getElem.1 hnd) i2 j (by omega) hjl (by omega) (e9.trans h10.symm)

/-- A slot's value written anew. -/
def setV (sl : List Sl) (i : Nat) (v : Tr) : List Sl := match sl[i]? with
  | some t => sl.set i ⟨t.key, v, t.live, t.link⟩
  | none => sl
theorem setV_len (sl : List Sl) (i : Nat) (v : Tr) : (setV sl i v).length = sl.length := by
  unfold setV
  split
  · rw [List.length_set]
  · rfl
theorem setV_get {sl : List Sl} {i j : Nat} {v : Tr} {t : Sl} (h : (setV sl i v)[j]? = some t) : (j ≠ i ∧ sl[j]? = some t) ∨ (j = i ∧ ∃ t0, sl[i]? = some t0 ∧ t = ⟨t0.key, v, t0.live, t0.link⟩) := by
  unfold setV at h
  split at h
  · next t0 ht =>
    by_cases e : i = j
    · subst e
      rw [List.getElem?_set_self (List.getElem?_eq_some_iff.1 ht).1] at h
      exact .inr ⟨rfl, t0, ht, (Option.some.inj h).symm⟩
    · rw [List.getElem?_set_ne e] at h
      exact .inl ⟨fun h => e h.symm, h⟩
  · next hn => exact .inl ⟨(fun e => by subst e; rw [hn] at h; cases h), h⟩
/-- The next index behind a key. -/
def psX (x : Int) (y : Ky) : Int := if y.text = true then x else nums.mx x (y.num + 1)
/-- Must the table be built anew before a slot of this key is added? -/
def needB (b : Bool) (n m : Nat) (y : Ky) : Bool := if b = true then decide (m = n) else (decide (y ≠ ixK m) || decide (m = 1024))
/-- What a table is behind TableSet of a key and a value. -/
def StR (b : Bool) (l : List Int) (sl : List Sl) (x k : Int) (y : Ky) (v : Tr) (rb : Bool) (rl : List Int) (rs : List Sl) (rx rk : Int) (ok : Bool) : Prop :=
  (∃ i : Nat, fd sl y sl.length = i ∧ rb = b ∧ rl = l ∧ rs = setV sl i v ∧ rx = x ∧ rk = k ∧ ok = true) ∨
  (fd sl y sl.length = -1 ∧ k = 1024 ∧ rb = b ∧ rl = l ∧ rs = sl ∧ rx = x ∧ rk = k ∧ ok = false) ∨
  (fd sl y sl.length = -1 ∧ k ≠ 1024 ∧ needB b l.length sl.length y = true ∧ rb = true ∧ rs = addS (room k) (rbS (room k) sl) y v ∧ rl = (hsA (room k) (rbS (room k) sl)).set (bk (room k) y) (rbS (room k) sl).length ∧ rx = psX x y ∧ rk = k + 1 ∧ ok = true) ∨
  (fd sl y sl.length = -1 ∧ k ≠ 1024 ∧ needB b l.length sl.length y = false ∧ rb = b ∧ rs = addS l.length sl y v ∧ rl = l.set (bk l.length y) sl.length ∧ rx = psX x y ∧ rk = k + 1 ∧ ok = true)

theorem fd_none {sl : List Sl} {y : Ky} : ∀ J, J ≤ sl.length → fd sl y J = -1 → ∀ i t, i < J → sl[i]? = some t → ¬ (t.live = true ∧ t.key = y)
  | 0, _, _ => fun i t h => by omega
  | J + 1, hJ, h => fun i t hi ht => by
    obtain ⟨tJ, hs⟩ : ∃ t, sl[J]? = some t := ⟨_, List.getElem?_eq_getElem (by omega)⟩
    rw [fd_succ hs] at h
    split at h
    · omega
    · next hn =>
      by_cases e : i = J
      · subst e
        rw [ht] at hs
        obtain rfl := Option.some.inj hs
        exact hn
      · exact fd_none J (by omega) h i t (by omega) ht
theorem fd_not {sl : List Sl} {y : Ky} (h : fd sl y sl.length = -1) : y ∉ livK sl := fun hm => by
  obtain ⟨i, t, h1, h2, h3⟩ := mem_livK.1 hm
  exact fd_none _ (Nat.le_refl _) h i t (List.getElem?_eq_some_iff.1 h1).1 h1 ⟨h2, h3⟩
theorem fd_some {sl : List Sl} {y : Ky} : ∀ J, J ≤ sl.length → ∀ i : Nat, fd sl y J = i → ∃ t, sl[i]? = some t ∧ t.live = true ∧ t.key = y
  | 0, _ => fun i h => by simp [fd] at h
  | J + 1, hJ => fun i h => by
    obtain ⟨tJ, hs⟩ : ∃ t, sl[J]? = some t := ⟨_, List.getElem?_eq_getElem (by omega)⟩
    rw [fd_succ hs] at h
    split at h
    · next he =>
      obtain rfl : J = i := by omega
      exact ⟨tJ, hs, he⟩
    · exact fd_some J (by omega) i h
theorem keyB_lim {y : Ky} (h : keyB y = true) (ht : y.text = false) : -1000000000 ≤ y.num ∧ y.num ≤ 1000000000 := by
  unfold keyB at h
  rw [ht] at h
  unfold nums.inr at h
  simp at h
  omega
theorem psX_le (x : Int) (y : Ky) : x ≤ psX x y := by
  unfold psX nums.mx
  split
  · omega
  · split <;> omega
theorem psX_num {x : Int} {y : Ky} (ht : y.text = false) : y.num < psX x y := by
  unfold psX nums.mx
  rw [ht]
  simp only [Bool.false_eq_true, if_false]
  split <;> omega
theorem psX_bd {x : Int} {y : Ky} (hx : 0 ≤ x ∧ x ≤ 1000000001) (hy : keyB y = true) : 0 ≤ psX x y ∧ psX x y ≤ 1000000001 := by
  refine ⟨by have := psX_le x y; omega, ?_⟩
  unfold psX nums.mx
  split
  · omega
  · next h =>
    have := keyB_lim hy (by simpa using h)
    split <;> omega
/-- A slot added keeps a table sound. -/
theorem add_ok {b : Bool} {l : List Int} {sl : List Sl} {x k : Int} {y : Ky} {v : Tr} (h : tabOk b l sl x k) (hy : keyB y = true) (hn : y ∉ livK sl) (ht : b = true → sl.length < l.length) (hf : b = false → y = ixK sl.length ∧ sl.length < 1024) :
    tabOk b (l.set (bk l.length y) sl.length) (addS l.length sl y v) (psX x y) (k + 1) := by
  obtain ⟨h1, h2, ⟨h3, h4⟩, h5, h6⟩ := h
  have hll : (l.set (bk l.length y) sl.length : List Int).length = l.length := List.length_set ..
  have hxl := psX_le x y
  have tk : ∀ j, j ≤ sl.length → (addS l.length sl y v).take j = sl.take j := fun j hj => by
    unfold addS
    exact List.take_append_of_le_length hj
  have gt : ∀ j t, (addS l.length sl y v)[j]? = some t → (j < sl.length ∧ sl[j]? = some t) ∨ (j = sl.length ∧ t = ⟨y, v, true, lk l.length sl sl.length y⟩) := fun j t ht => by
    have hl := (List.getElem?_eq_some_iff.1 ht).1
    rw [addS_len] at hl
    unfold addS at ht
    by_cases hj : j < sl.length
    · rw [List.getElem?_append_left hj] at ht
      exact .inl ⟨hj, ht⟩
    · obtain rfl : j = sl.length := by omega
      rw [List.getElem?_append_right (Nat.le_refl _), Nat.sub_self] at ht
      exact .inr ⟨rfl, by simpa using ht.symm⟩
  refine ⟨psX_bd h1 hy, ⟨fun hb => ?_, fun hb => ?_⟩, ⟨fun j t hj => ?_, ?_⟩, fun j t hj => ?_, ?_⟩
  · rw [hll, addS_len]
    exact ⟨(h2.1 hb).1, ht hb⟩
  · rw [hll, addS_len]
    obtain ⟨e, hm⟩ := hf hb
    have hnum : y.num < psX x y := psX_num (by rw [e]; rfl)
    have hyn : y.num = (sl.length : Int) := by rw [e]; rfl
    exact ⟨(h2.2 hb).1, by push_cast; omega, by omega⟩
  · rcases gt j t hj with ⟨hlt, hj⟩ | ⟨rfl, rfl⟩
    · obtain ⟨s1, s2, s3⟩ := h3 j t hj
      refine ⟨?_, by rw [tk j (by omega)]; exact s2, s3⟩
      rw [Bool.and_eq_true, Bool.or_eq_true, decide_eq_true_eq] at s1 ⊢
      exact ⟨s1.1, s1.2.imp id fun h => by omega⟩
    · refine ⟨?_, fun _ => by rw [tk _ (Nat.le_refl _), List.take_length]; exact hn, fun h => by cases h⟩
      rw [Bool.and_eq_true, Bool.or_eq_true, decide_eq_true_eq]
      refine ⟨hy, ?_⟩
      cases hyt : y.text with
      | true => exact .inl rfl
      | false => exact .inr (psX_num hyt)
  · rw [livK_add, List.length_append, List.length_singleton]
    push_cast
    omega
  · rw [hll]
    rcases gt j t hj with ⟨hlt, hj⟩ | ⟨rfl, rfl⟩
    · obtain ⟨s1, s2⟩ := h5 j t hj
      refine ⟨s1, ?_⟩
      unfold addS
      rw [lk_append (by omega)]
      exact s2
    · refine ⟨?_, ?_⟩
      · cases b with
        | true => exact .inl rfl
        | false => exact .inr (hf rfl).1
      · unfold addS
        rw [lk_append (Nat.le_refl _)]
  · rw [hll, addS_len]
    have := hsA_add l.length sl y v
    unfold hsA at this
    rw [addS_len] at this
    rw [this, h6]
/-- Slots alike, but for the values of live ones. -/
def Alk (sl s2 : List Sl) : Prop := s2.length = sl.length ∧ ∀ (j : Nat) (t : Sl), s2[j]? = some t → ∃ t0 : Sl, sl[j]? = some t0 ∧ t.key = t0.key ∧ t.live = t0.live ∧ t.link = t0.link ∧ (t0.live = false → t.val = t0.val)
theorem Alk.hs {sl s2 : List Sl} (h : Alk sl s2) (n : Nat) : ∀ j, j ≤ sl.length → hs n s2 j = hs n sl j
  | 0, _ => rfl
  | j + 1, hj => by
    obtain ⟨t, ht⟩ : ∃ t, s2[j]? = some t := ⟨_, List.getElem?_eq_getElem (by rw [h.1]; omega)⟩
    obtain ⟨t0, h0, e, -⟩ := h.2 j t ht
    rw [hs_succ ht, hs_succ h0, Alk.hs h n j (by omega), e]
theorem Alk.livK {sl s2 : List Sl} (h : Alk sl s2) : ∀ j, j ≤ sl.length → livK (s2.take j) = livK (sl.take j)
  | 0, _ => rfl
  | j + 1, hj => by
    obtain ⟨t, ht⟩ : ∃ t, s2[j]? = some t := ⟨_, List.getElem?_eq_getElem (by rw [h.1]; omega)⟩
    obtain ⟨t0, h0, e, e2, -⟩ := h.2 j t ht
    rw [livK_take ht, livK_take h0, Alk.livK h j (by omega), e, e2]
theorem alk_ok {b : Bool} {l : List Int} {sl s2 : List Sl} {x k : Int} (h : tabOk b l sl x k) (ha : Alk sl s2) : tabOk b l s2 x k := by
  obtain ⟨h1, h2, ⟨h3, h4⟩, h5, h6⟩ := h
  have hlen := ha.1
  have hK : tree.livK s2 = tree.livK sl := by
    have := ha.livK sl.length (Nat.le_refl _)
    rwa [List.take_length, ← hlen, List.take_length] at this
  refine ⟨h1, by rw [hlen]; exact h2, ⟨fun j t ht => ?_, by rw [hK]; exact h4⟩, fun j t ht => ?_, ?_⟩
  · obtain ⟨t0, h0, e1, e2, e3, e4⟩ := ha.2 j t ht
    have hj := (List.getElem?_eq_some_iff.1 h0).1
    obtain ⟨s1, s2', s3⟩ := h3 j t0 h0
    refine ⟨by rw [e1]; exact s1, fun hl => ?_, fun hl => ?_⟩
    · rw [ha.livK j (by omega), e1]
      exact s2' (by rw [← e2]; exact hl)
    · rw [e4 (by rw [← e2]; exact hl)]
      exact s3 (by rw [← e2]; exact hl)
  · obtain ⟨t0, h0, e1, e2, e3, e4⟩ := ha.2 j t ht
    have hj := (List.getElem?_eq_some_iff.1 h0).1
    obtain ⟨s1, s2'⟩ := h5 j t0 h0
    refine ⟨by rw [e1]; exact s1, ?_⟩
    rw [e3, s2', e1]
    unfold lk
    rw [ha.hs _ j (by omega)]
  · rw [hlen, ha.hs _ _ (Nat.le_refl _)]
    exact h6
theorem setV_alk {sl : List Sl} {y : Ky} {i : Nat} {v : Tr} (h : fd sl y sl.length = i) : Alk sl (setV sl i v) := by
  obtain ⟨t, ht, hl, hk⟩ := fd_some _ (Nat.le_refl _) i h
  refine ⟨setV_len sl i v, fun j u hu => ?_⟩
  rcases setV_get hu with ⟨hne, hu⟩ | ⟨rfl, t0, h0, rfl⟩
  · exact ⟨u, hu, rfl, rfl, rfl, fun _ => rfl⟩
  · refine ⟨t0, h0, rfl, rfl, rfl, fun h => ?_⟩
    rw [ht] at h0
    obtain rfl := Option.some.inj h0
    rw [hl] at h
    cases h
/-- Setting keeps a table sound. -/
theorem st_ok {b : Bool} {l : List Int} {sl : List Sl} {x k : Int} {y : Ky} {v : Tr} {rb : Bool} {rl : List Int} {rs : List Sl} {rx rk : Int} {ok : Bool} (h : tabOk b l sl x k) (hy : keyB y = true) (hs : StR b l sl x k y v rb rl rs rx rk ok) : tabOk rb rl rs rx rk := by
  have hk : k ≤ 1024 := by
    have h1 := h.2.2.1.2
    have h2 := livK_len sl
    have h3 := h.len.1
    omega
  rcases hs with ⟨i, hf, rfl, rfl, rfl, rfl, rfl, rfl⟩ | ⟨hf, hk4, rfl, rfl, rfl, rfl, rfl, rfl⟩ | ⟨hf, hk4, hn, rfl, rfl, rfl, rfl, rfl, rfl⟩ | ⟨hf, hk4, hn, rfl, rfl, rfl, rfl, rfl, rfl⟩
  · exact alk_ok h (setV_alk hf)
  · exact h
  · have hr := rb_ok h (by omega)
    have hkk : ((rbS (room k) sl).length : Int) = k := by
      have := h.2.2.1.2
      rw [rbS_len, ← this]
      unfold livK
      rw [List.length_map]
    have hroom := room_gt (show k < 1024 by omega)
    have ha := add_ok (y := y) (v := v) hr hy (by rw [(rbS_live _ sl).1]; exact fd_not hf) (fun _ => by rw [hsA_len]; omega) (fun h => by cases h)
    rw [hsA_len] at ha
    exact ha
  · refine add_ok h hy (fd_not hf) (fun hb => ?_) (fun hb => ?_)
    · have := (h.2.1.1 hb).2
      unfold needB at hn
      rw [if_pos hb] at hn
      have := of_decide_eq_false hn
      omega
    · have := (h.2.1.2 hb).2.2
      unfold needB at hn
      rw [if_neg (by simp [hb])] at hn
      rw [Bool.or_eq_false_iff] at hn
      have h1 := of_decide_eq_false hn.1
      have h2 := of_decide_eq_false hn.2
      exact ⟨by simpa using h1, by omega⟩

/-- The heads, the slot and the next index behind one more. -/
def psH (n : Nat) (l : List Int) (m : Nat) (y : Ky) : List Int := l.set (bk n y) m
def psS (n : Nat) (l : List Int) (y : Ky) (v : Tr) : Sl := ⟨y, v, true, (l[bk n y]?).getD (-1)⟩
theorem psH_bd {n m : Nat} {l : List Int} {y : Ky} (h : ∀ v ∈ l, -1 ≤ v ∧ v ≤ 1000000000) (hm : m ≤ 1000000000) : ∀ v ∈ psH n l m y, -1 ≤ v ∧ v ≤ 1000000000 := fun v hv => by
  unfold psH at hv
  rcases List.mem_or_eq_of_mem_set hv with hv | rfl
  · exact h v hv
  · exact ⟨by omega, by omega⟩
theorem psS_bd {n : Nat} {l : List Int} {y : Ky} {v : Tr} (h : ∀ v ∈ l, -1 ≤ v ∧ v ≤ 1000000000) : -1 ≤ (psS n l y v).link ∧ (psS n l y v).link ≤ 1000000000 := by
  unfold psS
  simp only
  cases e : l[bk n y]? with
  | none => simp
  | some u => simpa using h u (List.mem_of_getElem? e)

end Go.Proofs.YtdglmnmalfpipaaGreatDoor.tree

