/-
  What the texts behind this one use: 4 parts of one proof.
  Conditions: those that each theorem names.
-/
import Derived.Test.YtbgffmiffmmohaaGreatDoorSpB5
import Derived.Test.YtbgffmiffmmohaaGreatDoorSpB2
import Derived.Test.YtbgffmiffmmohaaGreatDoorSpSSetK
import Derived.Test.YtbgffmiffmmohaaGreatDoorSpB7
import Derived.Test.YtbgffmiffmmohaaGreatDoorSpB1
import Derived.Deep.RegionHeld3
import Derived.Test.YtbgffmiffmmohaaGreatDoorSpSGet6
import Derived.Test.YtbgffmiffmmohaaGreatDoorSpB6
/-
  Paths into a valid value, without the program: what is written is valid and is read again, what is deleted is gone.
  Conditions: those that each theorem names.
-/
namespace Go.Proofs.YtbgffmiffmmohaaGreatDoor.tree
open Go.ChangeShapes Go.WideShapes Go.ChangeAt Go.RowKit
set_option linter.unusedVariables false

theorem snd_nex {t : Tr} (h : sndB t = true) : 0 ≤ nex t ∧ nex t ≤ 1000000001 ∧ (knd t ≠ 4 → nex t = 0) := by
  obtain ⟨k, n, s, x, ks, vs⟩ := t
  show 0 ≤ x ∧ x ≤ 1000000001 ∧ (k ≠ 4 → x = 0)
  by_cases h4 : k = 4
  · subst h4
    rw [snd_four] at h
    unfold nums.inr at h
    simp at h
    omega
  · rw [snd_not h4] at h
    unfold restB at h
    simp at h
    omega
theorem snd_null : sndB nullT = true := by
  unfold nullT
  rw [snd_not (by decide)]
  rfl
theorem snd_arr : sndB arrT = true := by
  unfold arrT
  rw [snd_four, items_nil]
  rfl
theorem snd_opn {t : Tr} (h : sndB t = true) : sndB (opn t) = true := by unfold opn; split; exact snd_arr; exact h
theorem snd_getR {t : Tr} (hf : fits t) (h : sndB t = true) (y : Ky) : sndB (getR t y) = true := by
  obtain ⟨k, n, s, x, ks, vs⟩ := t
  rw [fits] at hf
  rcases posV_cases k n s x ks vs y with hp | ⟨i, hp, hi, rfl⟩
  · unfold getR; rw [getT_none hp]; exact snd_null
  · unfold getR; rw [getT_some hp]
    rw [snd_four] at h
    simp only [Bool.and_eq_true] at h
    rw [List.getElem?_eq_getElem (by omega)]
    exact (items_fact hf.1 h.2.2.2 (List.getElem?_eq_getElem hi) (List.getElem?_eq_getElem (by omega))).2
theorem stp_snd : ∀ (ys : List Ky) (t : Tr) (l : List (Tr × Ky)) (e : Tr), fits t → sndB t = true → stp t ys = some (l, e) → sndB e = true ∧ ∀ p ∈ l, sndB p.1 = true
  | [], t, l, e, hf, hs, h => by
    obtain ⟨rfl, rfl⟩ : [] = l ∧ t = e := by simpa [stp] using h
    exact ⟨hs, fun p hp => by cases hp⟩
  | y :: ys, t, l, e, hf, hs, h => by
    rw [stp_cons] at h
    by_cases h4 : knd (opn t) = 4
    · rw [if_pos h4] at h
      cases hs0 : stp (getR (opn t) y) ys with
      | none => rw [hs0] at h; simp at h
      | some p =>
        obtain ⟨l0, e0⟩ := p
        rw [hs0] at h
        obtain ⟨rfl, rfl⟩ : (opn t, y) :: l0 = l ∧ e0 = e := by simpa using h
        obtain ⟨a, b⟩ := stp_snd ys _ l0 e0 (fits_getR (fits_opn hf) y) (snd_getR (fits_opn hf) (snd_opn hs) y) hs0
        refine ⟨a, fun p hp => ?_⟩
        rcases List.mem_cons.1 hp with rfl | hp
        · exact snd_opn hs
        · exact b p hp
    · rw [if_neg h4] at h; simp at h

theorem belowB_mono {y : Ky} {x X : Int} (h : belowB y x = true) (hx : x ≤ X) : belowB y X = true := by
  unfold belowB at *
  simp only [Bool.and_eq_true, Bool.or_eq_true, decide_eq_true_eq] at *
  exact ⟨h.1, h.2.imp id (fun h => by omega)⟩
theorem items_of {x : Int} {ks : List Ky} {vs : List Tr} (hl : ks.length = vs.length) (h : ∀ (j : Nat) (y : Ky) (t : Tr), ks[j]? = some y → vs[j]? = some t → y ∉ ks.take j ∧ belowB y x = true ∧ sndB t = true) : itemsB x [] ks vs = true := by
  have : ∀ n j, j + n = vs.length → itemsB x (ks.take j) (ks.drop j) (vs.drop j) = true := by
    intro n
    induction n with
    | zero => intro j hj; rw [show vs.drop j = [] from List.drop_eq_nil_of_le (by omega)]; exact items_nil _ _ _
    | succ n ih =>
      intro j hj
      have hk : ks[j]? = some (ks[j]'(by omega)) := List.getElem?_eq_getElem (by omega)
      have hv : vs[j]? = some (vs[j]'(by omega)) := List.getElem?_eq_getElem (by omega)
      rw [items_drop hk hv, ih (j + 1) (by omega)]
      obtain ⟨a, b, c⟩ := h j _ _ hk hv
      simp [a, b, c]
  simpa using this vs.length 0 (by omega)
/-- A valid array with a valid value at a key that may stand there is valid. -/
theorem snd_setT {t : Tr} (hf : fits t) (h : sndB t = true) (h4 : knd t = 4) {y : Ky} (hy : keyB y = true) {u : Tr} (hu : sndB u = true) : sndB (setT t y u) = true := by
  obtain ⟨k, n, s, x, ks, vs⟩ := t
  obtain rfl : k = 4 := h4
  rw [fits] at hf
  rw [snd_four] at h
  simp only [Bool.and_eq_true, decide_eq_true_eq] at h
  obtain ⟨hs, hn, hx, hi⟩ := h
  have hF := fun (j : Nat) (z : Ky) (t : Tr) (hz : ks[j]? = some z) (ht : vs[j]? = some t) => And.intro (items_fact hf.1 hi hz ht) (items_key hf.1 hi hz)
  rcases posV_cases 4 n s x ks vs y with hp | ⟨i, hp, hil, -⟩
  · have hy0 : y ∉ ks := by rw [posV_four] at hp; exact (pos_neg ks y 0).1 hp
    have hnx : x ≤ nxt x y ∧ nums.inr (nxt x y) 0 1000000001 = true := by
      unfold nums.inr at *
      simp only [Bool.and_eq_true, decide_eq_true_eq] at *
      unfold nxt
      by_cases hb : y.text = true
      · rw [if_pos hb]; exact ⟨Int.le_refl _, hx⟩
      · have := keyB_num hy (by simpa using hb)
        rw [if_neg hb]
        split <;> omega
    rw [setT_none hp, snd_four]
    simp only [Bool.and_eq_true, decide_eq_true_eq]
    refine ⟨hs, hn, hnx.2, items_of (by simp [hf.1]) fun j z t hz ht => ?_⟩
    by_cases hj : j < ks.length
    · rw [List.getElem?_append_left hj] at hz
      rw [List.getElem?_append_left (by omega)] at ht
      obtain ⟨⟨a, b⟩, c, d⟩ := hF j z t hz ht
      rw [List.take_append_of_le_length (by omega)]
      exact ⟨a, belowB_mono d hnx.1, b⟩
    · have hj2 : j = ks.length := by
        have := (List.getElem?_eq_some_iff.1 hz).1
        simp at this
        omega
      subst hj2
      simp at hz
      rw [hf.1] at ht
      simp at ht
      subst hz ht
      refine ⟨by simpa using hy0, ?_, hu⟩
      unfold belowB
      rw [hy]
      unfold nxt
      cases hb : y.text with
      | true => rfl
      | false => simp; split <;> omega
  · rw [setT_some hp, snd_four]
    simp only [Bool.and_eq_true, decide_eq_true_eq]
    refine ⟨hs, hn, hx, items_of (by simp [hf.1]) fun j z t hz ht => ?_⟩
    have hjl : j < vs.length := by have := (List.getElem?_eq_some_iff.1 hz).1; omega
    obtain ⟨⟨a, b⟩, c, d⟩ := hF j z _ hz (List.getElem?_eq_getElem hjl)
    refine ⟨a, d, ?_⟩
    by_cases hji : j = i
    · subst hji
      rw [List.getElem?_set_self (by omega)] at ht
      obtain rfl := Option.some.inj ht
      exact hu
    · rw [List.getElem?_set_ne (fun e => hji e.symm), List.getElem?_eq_getElem hjl] at ht
      obtain rfl := Option.some.inj ht
      exact b
theorem snd_push {e : Tr} (hf : fits e) (h : sndB e = true) {u : Tr} (hu : sndB u = true) (h0 : (pushP e u).2 = 0) : sndB (pushP e u).1 = true := by
  unfold pushP at h0 ⊢
  by_cases h4 : knd (opn e) = 4
  · rw [if_pos h4] at h0 ⊢
    by_cases hi : nums.inr (nex (opn e)) 0 1000000000 = true
    · rw [if_pos hi]
      refine snd_setT (fits_opn hf) (snd_opn h) h4 ?_ hu
      unfold keyB pky
      unfold nums.inr at *
      have e0 : (⟨#[]⟩ : ByteArray).size = 0 := rfl
      simp [e0] at *
      omega
    · rw [if_neg hi] at h0; cases h0
  · rw [if_neg h4] at h0; cases h0
/-- What is written in a valid value is valid, but for its weight. -/
theorem snd_setP : ∀ (ys : List Ky) (t : Tr) (push : Bool) (u : Tr), fits t → sndB t = true → sndB u = true → (∀ y ∈ ys, keyB y = true) → (setP t ys push u).2 = 0 → sndB (setP t ys push u).1 = true
  | [], t, push, u, hf, hs, hu, hk, h => by
    rw [setP_nil] at h ⊢
    cases push with
    | false => exact hu
    | true => exact snd_push hf hs hu h
  | y :: ys, t, push, u, hf, hs, hu, hk, h => by
    rw [setP_cons] at h ⊢
    by_cases h4 : knd (opn t) = 4
    · rw [if_pos h4] at h ⊢
      by_cases h0 : (setP (getR (opn t) y) ys push u).2 = 0
      · rw [if_pos h0]
        exact snd_setT (fits_opn hf) (snd_opn hs) h4 (hk y (by simp)) (snd_setP ys _ push u (fits_getR (fits_opn hf) y) (snd_getR (fits_opn hf) (snd_opn hs) y) hu (fun z hz => hk z (List.mem_cons_of_mem _ hz)) h0)
      · rw [if_neg h0] at h; exact absurd h h0
    · rw [if_neg h4] at h; cases h
theorem pos_self {ks : List Ky} {y : Ky} (h : y ∉ ks) : pos (ks ++ [y]) y 0 = (ks.length : Nat) := by
  have := (pos_first (ks ++ [y]) y 0 ks.length (by simp)).2 (by simpa using h)
  simpa using this
/-- What was set is found. -/
theorem get_set {t : Tr} (hf : fits t) (h4 : knd t = 4) (y : Ky) (u : Tr) : getB (setT t y u) y = true ∧ getR (setT t y u) y = u := by
  obtain ⟨k, n, s, x, ks, vs⟩ := t
  obtain rfl : k = 4 := h4
  rw [fits] at hf
  rcases posV_cases 4 n s x ks vs y with hp | ⟨i, hp, hi, -⟩
  · have hy0 : y ∉ ks := by rw [posV_four] at hp; exact (pos_neg ks y 0).1 hp
    have hpos : posV (.mk 4 n s (nxt x y) (ks ++ [y]) (vs ++ [u])) y = (ks.length : Nat) := by rw [posV_four]; exact pos_self hy0
    rw [setT_none hp]
    unfold getB getR
    rw [getT_some hpos, hf.1]
    simp
  · have hpos : posV (.mk 4 n s x ks (vs.set i u)) y = i := by rw [posV_four]; rw [posV_four] at hp; exact hp
    rw [setT_some hp]
    unfold getB getR
    rw [getT_some hpos, List.getElem?_set_self (by omega)]
    simp
theorem gp_null : ∀ ys : List Ky, (gp nullT ys).1 = nullT
  | [] => rfl
  | y :: ys => by
    rw [gp_cons, if_neg (by unfold getB nullT; rw [getT_none (posV_not (by decide) y)]; simp)]
/-- What was written is read. -/
theorem gp_setP : ∀ (ys : List Ky) (t u : Tr), fits t → (setP t ys false u).2 = 0 → gp (setP t ys false u).1 ys = (u, true)
  | [], t, u, hf, h => rfl
  | y :: ys, t, u, hf, h => by
    rw [setP_cons] at h ⊢
    by_cases h4 : knd (opn t) = 4
    · rw [if_pos h4] at h ⊢
      by_cases h0 : (setP (getR (opn t) y) ys false u).2 = 0
      · rw [if_pos h0]
        obtain ⟨a, b⟩ := get_set (fits_opn hf) h4 y (setP (getR (opn t) y) ys false u).1
        show gp (setT _ _ _) _ = _
        rw [gp_cons, if_pos a, b]
        exact gp_setP ys _ u (fits_getR (fits_opn hf) y) h0
      · rw [if_neg h0] at h; exact absurd h h0
    · rw [if_neg h4] at h; cases h
theorem gp_push : ∀ (ys : List Ky) (t u : Tr), fits t → sndB t = true → (setP t ys true u).2 = 0 → gp (setP t ys true u).1 (ys ++ [⟨false, nex (gp t ys).1, ⟨#[]⟩⟩]) = (u, true)
  | [], t, u, hf, hs, h => by
    have he : setP t [] true u = pushP t u := rfl
    rw [he] at h ⊢
    have hn : nex (opn t) = nex t := by
      unfold opn
      split
      · next h0 => exact ((snd_nex hs).2.2 (by omega)).symm
      · rfl
    unfold pushP at h ⊢
    by_cases h4 : knd (opn t) = 4
    · rw [if_pos h4] at h ⊢
      by_cases hi : nums.inr (nex (opn t)) 0 1000000000 = true
      · rw [if_pos hi]
        obtain ⟨a, b⟩ := get_set (fits_opn hf) h4 (pky (opn t)) u
        have e : (⟨false, nex t, ⟨#[]⟩⟩ : Ky) = pky (opn t) := by unfold pky; rw [hn]
        show gp (setT _ _ _) [⟨false, nex t, ⟨#[]⟩⟩] = _
        rw [e, gp_cons, if_pos a, b]
        rfl
      · rw [if_neg hi] at h; cases h
    · rw [if_neg h4] at h; cases h
  | y :: ys, t, u, hf, hs, h => by
    rw [setP_cons] at h ⊢
    by_cases h4 : knd (opn t) = 4
    · rw [if_pos h4] at h ⊢
      by_cases h0 : (setP (getR (opn t) y) ys true u).2 = 0
      · rw [if_pos h0]
        obtain ⟨a, b⟩ := get_set (fits_opn hf) h4 y (setP (getR (opn t) y) ys true u).1
        have ih := gp_push ys (getR (opn t) y) u (fits_getR (fits_opn hf) y) (snd_getR (fits_opn hf) (snd_opn hs) y) h0
        have e : (gp t (y :: ys)).1 = (gp (getR (opn t) y) ys).1 := by
          rw [gp_cons]
          by_cases hb : getB t y = true
          · rw [if_pos hb, opn_four (getB_four hb)]
          · rw [if_neg hb]
            have e1 : getR (opn t) y = nullT := by
              unfold opn
              split
              · exact getR_none (by unfold getB arrT; rw [getT_none (by rw [posV_four]; rfl)]; simp)
              · exact getR_none hb
            rw [e1, gp_null]
        show gp (setT _ _ _) (y :: (ys ++ _)) = _
        rw [gp_cons, if_pos a, b, e]
        exact ih
      · rw [if_neg h0] at h; exact absurd h h0
    · rw [if_neg h4] at h; cases h
/-- What was deleted is gone. -/
theorem del_gone {t : Tr} (hf : fits t) (h : sndB t = true) (y : Ky) : getB (delT t y) y = false := by
  obtain ⟨k, n, s, x, ks, vs⟩ := t
  rw [fits] at hf
  rcases posV_cases k n s x ks vs y with hp | ⟨i, hp, hi, rfl⟩
  · rw [delT_none hp]; unfold getB; rw [getT_none hp]; rfl
  · rw [snd_four] at h
    simp only [Bool.and_eq_true] at h
    have hK := fun (j : Nat) (z : Ky) (hz : ks[j]? = some z) => (items_key hf.1 h.2.2.2 hz).1
    have hg : ks[i]? = some y := by rw [posV_four] at hp; exact pos_get ks y 0 i (by simpa using hp)
    rw [delT_some hp]
    unfold getB
    rw [getT_none]
    · rfl
    · rw [posV_four, pos_neg]
      intro hm
      obtain ⟨j, hj⟩ := List.mem_iff_getElem?.1 hm
      rw [List.getElem?_eraseIdx] at hj
      split at hj
      · next hji => exact hK i y hg (List.mem_iff_getElem?.2 ⟨j, by rw [List.getElem?_take_of_lt hji]; exact hj⟩)
      · next hji => exact hK (j + 1) y hj (List.mem_iff_getElem?.2 ⟨i, by rw [List.getElem?_take_of_lt (by omega)]; exact hg⟩)
theorem gp_delP : ∀ (ys : List Ky) (t : Tr), fits t → sndB t = true → ys ≠ [] → (gp (delP t ys) ys).2 = false
  | [], t, hf, hs, hn => absurd rfl hn
  | [y], t, hf, hs, hn => by
    show (gp (delT t y) [y]).2 = false
    rw [gp_cons, if_neg (by rw [del_gone hf hs y]; decide)]
  | y :: z :: ys, t, hf, hs, hn => by
    rw [delP_two]
    by_cases hb : getB t y = true
    · rw [if_pos hb]
      obtain ⟨a, b⟩ := get_set hf (getB_four hb) y (delP (getR t y) (z :: ys))
      rw [gp_cons, if_pos a, b]
      exact gp_delP (z :: ys) _ (fits_getR hf y) (snd_getR hf hs y) (by simp)
    · rw [if_neg hb, gp_cons, if_neg hb]

end Go.Proofs.YtbgffmiffmmohaaGreatDoor.tree

/-
  Writing at the end of a path, of the project.
  Conditions: the value is sound and holds at most 2^20 and two items; the keys are keys; at most 10^9 of them.
-/
namespace Go.Proofs.YtbgffmiffmmohaaGreatDoor.tree
open Go.ChangeShapes Go.WideShapes Go.ChangeAt Go.RowKit
set_option linter.unusedVariables false

theorem put_none {t : Tr} {ys : List Ky} {push : Bool} {u : Tr} (h : stp t ys = none) : putP t ys push u = (t, 6) := by
  have := (setP_stp ys t push u).1 h
  unfold putP
  rw [if_neg (by omega), this]
theorem put_set {t : Tr} {ys : List Ky} {push : Bool} {u r : Tr} (h : setP t ys push u = (r, 0)) : putP t ys push u = if wgt r ≤ 200 then (r, 0) else (t, 9) := by
  unfold putP
  rw [h]
  rfl
theorem put_err {t : Tr} {ys : List Ky} {push : Bool} {u : Tr} {c : Int} (h : (setP t ys push u).2 = c) (h0 : c ≠ 0) : putP t ys push u = (t, c) := by
  unfold putP
  rw [if_neg (by omega), h]
theorem key_num {y : Ky} (h : keyB y = true) (ht : y.text = false) : -1000000000 ≤ y.num ∧ y.num ≤ 1000000000 := by
  unfold keyB nums.inr at h
  rw [ht] at h
  simp at h
  exact h.1

/-- A row of steps whose store into a value's variable changes nothing of it. -/
theorem PsR.nobox4 {w w' : World} {R : Nat} {K N X : Int} {Z : ByteArray} {A : Option Addr} {L c : Nat} {sl : Value} {l : List (Tr × Ky)} (h : PsR w 0 (Nw 0 w) sl l) (hz : w.heap[R]? = some (.cells #[.int .i64 K, .int .i64 N, .string Z, .int .i64 X, .slice A L c] IV (0, 0))) (ho : ∀ b, b ≠ R → w'.heap[b]? = w.heap[b]?) : PsR w' 0 (Nw 0 w') sl l := by
  have hno : ∀ q, Nw 0 w q ∧ q ≠ R → Nw 0 w' q := fun q hq => hq.1.keep (Nat.le_refl _) (ho q hq.2)
  obtain ⟨xs, h1, h2⟩ := h
  refine ⟨xs, ⟨h1.1, ?_⟩, fun i p hp => ?_⟩
  · rcases h1.2 with h | ⟨g, cap, cur, rfl, hlo, hg, h5⟩
    · exact .inl h
    · refine .inr ⟨g, cap, cur, rfl, hlo, (ho g ?_).trans hg, h5⟩
      rintro rfl
      rw [hz] at hg
      injection hg with hg
      injection hg with _ e _
      exact absurd e (by decide)
  · obtain ⟨k, n, s, x, ks, vs, A, c, e1, e2, e3, e4⟩ := h2 i p hp
    exact ⟨k, n, s, x, ks, vs, A, c, e1, e2, e3, (e4.nobox hz (fun b h => by cases h)).stays hno (fun q hq _ => ho q hq.2)⟩

set_option maxRecDepth 100000 in
set_option maxHeartbeats 4000000 in
theorem written_i (t : Tr) (ys : List Ky) (push : Bool) (u : Tr) (v vu : Value) (A : Option Addr) (c : Nat) (w : World) (h : TIn w (Nw 0 w) t v) (hu : TIn w (Nw 0 w) u vu) (hk : KIn w ys A) (hm : ys.length ≤ 1000000000) (hN : cnt t ≤ 1048578) (hs : sndB t = true) (hy : ∀ y ∈ ys, keyB y = true) :
    Calls Tryz.prog 110 #[v, .bool push, vu, .slice A ys.length c] w (OutP w (putP t ys push u).1 (putP t ys push u).2) := by
  have hfits := h.fits
  have HNU := Lib.hid nullValue_i
  cases hst : stp t ys with
  | none =>
    rw [put_none hst]
    have ST : Hid (∀ w', Below w.heap.size w w' → Calls Tryz.prog 181 #[v, .slice A ys.length c] w' (fun e w2 => ∃ sl, e = .returned (.tuple #[sl, vV 0 0 ⟨#[]⟩ 0 none 0 0, .bool false]) ∧ Below w'.heap.size w' w2)) := Lib.hid fun w' hb => (stepsAlong_i t ys v A c w' _ (h.below' hb) (hk.below hb) hm).mono fun e w2 hq => by
      rcases hq with ⟨-, sl, u, h1, -, h2⟩ | ⟨l', t', sl, u, h1, -⟩
      · exact ⟨sl, h1, h2⟩
      · rw [hst] at h1; cases h1
    obtain ⟨k, n, s, x, ks, vs⟩ := t
    obtain ⟨A0, c0, rfl, -, -⟩ := h.out
    obtain ⟨L0, HL0⟩ : ∃ L, Hid (vs.length = L) := ⟨_, Lib.hid rfl⟩
    rw [HL0.out] at ST ⊢
    have HTU := Lib.hid hu
    obtain ⟨ku, nu, su, xu, ksu, vsu⟩ := u
    obtain ⟨Au, cu, rfl, -, -⟩ := hu.out
    obtain ⟨Lu, HLu⟩ : ∃ L, Hid (vsu.length = L) := ⟨_, Lib.hid rfl⟩
    rw [HLu.out] at HTU ⊢
    obtain ⟨L, HL⟩ : ∃ L, Hid (ys.length = L) := ⟨_, Lib.hid rfl⟩
    rw [HL.out] at ST ⊢
    clear h hu hk hm hN hs hy hfits hst
    go_enter Tryz.func110, Tryz.ntmps110
    go_wp2_with (fail)
    obtain ⟨a0, a1, a2, az, ab⟩ := al3 w #[.int .i64 k, .int .i64 n, .string s, .int .i64 x, .slice A0 L0 c0] #[.int .i64 ku, .int .i64 nu, .string su, .int .i64 xu, .slice Au Lu cu] #[.int .i64 0, .int .i64 0, .string ⟨#[]⟩, .int .i64 0, .slice none 0 0] IV IV IV
    refine (ST.out _ ab).mono ?_
    rintro e w1 ⟨sl, rfl, hb1⟩
    have HZ1 := Lib.hid (carry hb1 a2)
    have HB1 := Lib.hid (bs ab hb1)
    clear hb1 a0 a1 a2 az ab ST
    go_wp2_with (fail)
    refine (HNU.out _).mono ?_
    rintro e w2 ⟨rfl, hb2⟩
    have HZ2 := Lib.hid (carry hb2 (keepAlloc HZ1.out))
    have HB2 := Lib.hid (bs HB1.out (bs (b1 w1 _) hb2))
    obtain ⟨r, f⟩ := rowc HZ2.out
    clear hb2
    go_wp2_with (fail)
    generalize hwF : (((((w2.setCell ⟨w.heap.size + 1 + 1, 0, none⟩ (.int .i64 0)).setCell ⟨w.heap.size + 1 + 1, 1, none⟩ (.int .i64 0)).setCell ⟨w.heap.size + 1 + 1, 2, none⟩ (.string ⟨#[]⟩)).setCell ⟨w.heap.size + 1 + 1, 3, none⟩ (.int .i64 0)).setCell ⟨w.heap.size + 1 + 1, 4, none⟩ (.slice none 0 0)) = wF
    obtain ⟨rF, oF, bF⟩ := fill5 HZ2.out hwF
    refine bodyPost_ret (v := .tuple #[vV 0 0 ⟨#[]⟩ 0 none 0 0, .int .i64 6]) ?_ rfl ?_
    · simp [results, Tryz.results110, go_sem, rF]
    · exact nul_p (by omega) (bF _ _ (by omega) HB2.out)
  | some p =>
    obtain ⟨l, e0⟩ := p
    have hz0 := stp_small ys t l e0 hfits hst
    have hzm := stp_mem ys t l e0 hfits hst
    have hzl := stp_len ys t l e0 hst
    have hzs := stp_snd ys t l e0 hfits hs hst
    have hzp := (setP_stp ys t push u).2 l e0 hst
    have hke : 0 ≤ nex (opn e0) := (snd_nex (snd_opn hzs.1)).1
    have ST : Hid (∀ w', Below w.heap.size w w' → Calls Tryz.prog 181 #[v, .slice A ys.length c] w' (fun e w2 => ∃ sl u, e = .returned (.tuple #[sl, u, .bool true]) ∧ PsR w2 0 (Nw 0 w2) sl l ∧ TIn w2 (Nw 0 w2) e0 u ∧ Below w'.heap.size w' w2)) := Lib.hid fun w' hb => (steps_some hst v A c w' _ (h.below' hb) (hk.below hb) hm).mono fun e w2 ⟨sl, u, a, b, d, f⟩ => by
      have hq : ∀ q, Nw 0 w q ∧ q < w'.heap.size → Nw 0 w2 q := fun q hq => hq.1.keep (Nat.le_refl _) ((f.block q hq.2).trans (hb.block q hq.1.2.lt))
      exact ⟨sl, u, a, b.mono hq (Nat.zero_le _), d.stays hq (fun _ _ _ => rfl), f⟩
    have RW : Hid (∀ (T : Tr) w' sl u, PsR w' 0 (Nw 0 w') sl l → TIn w' (Nw 0 w') T u → Calls Tryz.prog 183 #[sl, u] w' (OutN w' (rew l T))) := Lib.hid fun T w' sl u hp hu => rewritten_i l sl T u w' 0 hp (by omega) hu (fun p hp => ⟨(hzm.2 p hp).1, by have := hz0.2.2 p hp; omega, fun _ h2 => key_num (hy _ (hzm.2 p hp).2.2) h2⟩)
    have PU : Hid (∀ w' v vu, TIn w' (Nw 0 w') e0 v → TIn w' (Nw 0 w') u vu → Calls Tryz.prog 182 #[v, vu] w' (OutP w' (pushP e0 u).1 (pushP e0 u).2)) := Lib.hid fun w' v vu h1 h2 => pushed_i e0 v u vu w' h1 h2 (by have := hz0.1; omega) hke
    have LI : Hid (∀ T w' v, TIn w' (Nw 0 w') T v → Calls Tryz.prog 169 #[v] w' (BoQ w' (lightB T))) := Lib.hid fun T w' v h => light_i T w' _ v h
    cases push with
    | true =>
      by_cases hp0 : (pushP e0 u).2 = 0
      · rw [put_set ((hzp.2 rfl).1 hp0)]
        rw [hp0] at PU
        obtain ⟨E, hE⟩ : ∃ E, E = (pushP e0 u).1 := ⟨_, rfl⟩
        rw [← hE] at PU ⊢
        obtain ⟨Q, HQ⟩ : ∃ Q, Hid (rew l E = Q) := ⟨_, Lib.hid rfl⟩
        replace RW : Hid (∀ w' sl u, PsR w' 0 (Nw 0 w') sl l → TIn w' (Nw 0 w') E u → Calls Tryz.prog 183 #[sl, u] w' (OutN w' Q)) := Lib.hid (HQ.out ▸ RW.out E)
        replace LI := Lib.hid (LI.out Q)
        rw [HQ.out]
        clear hE hp0 HQ
        obtain ⟨k, n, s, x, ks, vs⟩ := t
        obtain ⟨A0, c0, rfl, -, -⟩ := h.out
        obtain ⟨L0, HL0⟩ : ∃ L, Hid (vs.length = L) := ⟨_, Lib.hid rfl⟩
        rw [HL0.out] at ST ⊢
        have HTU := Lib.hid hu
        obtain ⟨ku, nu, su, xu, ksu, vsu⟩ := u
        obtain ⟨Au, cu, rfl, -, -⟩ := hu.out
        obtain ⟨Lu, HLu⟩ : ∃ L, Hid (vsu.length = L) := ⟨_, Lib.hid rfl⟩
        rw [HLu.out] at HTU ⊢
        obtain ⟨L, HL⟩ : ∃ L, Hid (ys.length = L) := ⟨_, Lib.hid rfl⟩
        rw [HL.out] at ST ⊢
        clear h hu hk hm hN hs hy hfits hst
        clear hz0 hzm hzl hzs hzp hke
        by_cases hw : wgt Q ≤ 200
        · rw [if_pos hw]
          rw [show lightB Q = true from by unfold lightB; simpa using hw] at LI
          clear hw
          obtain ⟨Ke, Ne, Ze, Xe, RKe, RVe⟩ := e0
          obtain ⟨RLe, HRLe⟩ : ∃ L, Hid (RVe.length = L) := ⟨_, Lib.hid rfl⟩
          obtain ⟨Kp, Np, Zp, Xp, RKp, RVp⟩ := E
          obtain ⟨RLp, HRLp⟩ : ∃ L, Hid (RVp.length = L) := ⟨_, Lib.hid rfl⟩
          obtain ⟨K, N, Z, X, RK, RV⟩ := Q
          obtain ⟨RL, HRL⟩ : ∃ L, Hid (RV.length = L) := ⟨_, Lib.hid rfl⟩
          go_enter Tryz.func110, Tryz.ntmps110
          go_wp2_with (fail)
          obtain ⟨a0, a1, a2, az, ab⟩ := al3 w #[.int .i64 k, .int .i64 n, .string s, .int .i64 x, .slice A0 L0 c0] #[.int .i64 ku, .int .i64 nu, .string su, .int .i64 xu, .slice Au Lu cu] #[.int .i64 0, .int .i64 0, .string ⟨#[]⟩, .int .i64 0, .slice none 0 0] IV IV IV
          refine (ST.out _ ab).mono ?_
          rintro e w1 ⟨sl, u1, rfl, hps, hu1, hb1⟩
          obtain ⟨A1, c1, rfl, -, -⟩ := hu1.out
          rw [HRLe.out] at hu1 ⊢
          have HPS := Lib.hid hps
          have HE1 := Lib.hid hu1
          have HZ1 := Lib.hid (carry hb1 a2)
          have HX1 := Lib.hid (carry hb1 a1)
          have HB1 := Lib.hid (bs ab hb1)
          have r1 : ∀ o q, (w1.alloc o).cell? ⟨w.heap.size + 1, q, none⟩ = _ := fun o q => (rowc (keepAlloc HX1.out)).1 q
          clear hps hu1 hb1 a0 a1 a2 az ab ST
          go_wp2_with (fail)
          refine (PU.out _ _ _ (HE1.out.nwb (b1 w1 (.cells #[.int .i64 Ke, .int .i64 Ne, .string Ze, .int .i64 Xe, .slice A1 RLe c1] IV))) (HTU.out.nwb (bs HB1.out (b1 w1 _)))).mono ?_
          rintro e w2 ⟨up, T, rfl, hup, hT, hb2⟩
          obtain rfl := hT rfl
          obtain ⟨Ap, cp, rfl, -, -⟩ := hup.out
          rw [HRLp.out] at hup ⊢
          have HP2 := Lib.hid hup
          have HPS2 := Lib.hid (HPS.out.nwb (bs (b1 w1 (.cells #[.int .i64 Ke, .int .i64 Ne, .string Ze, .int .i64 Xe, .slice A1 RLe c1] IV)) hb2))
          have HZ2 := Lib.hid (carry hb2 (keepAlloc HZ1.out))
          have HX2 := Lib.hid (carry hb2 (keepAlloc HX1.out))
          have HB2 := Lib.hid (bs HB1.out (bs (b1 w1 _) hb2))
          clear hup hb2 r1 PU HPS HE1 hT
          go_upto_region 8 with (fail)
          generalize hw3 : w2.alloc (.cells #[.int .i64 Kp, .int .i64 Np, .string Zp, .int .i64 Xp, .slice Ap RLp cp] IV) = w3
          have hb3 : Below w2.heap.size w2 w3 := hw3 ▸ b1 _ _
          have he3 : w3.heap[w2.heap.size]? = some (.cells #[.int .i64 Kp, .int .i64 Np, .string Zp, .int .i64 Xp, .slice Ap RLp cp] IV (0, 0)) := by rw [← hw3]; exact heap_alloc_new _ _
          have HZ3 := Lib.hid (carry hb3 HZ2.out)
          have HX3 := Lib.hid (carry hb3 HX2.out)
          have HP3 := Lib.hid (HP2.out.nwb hb3)
          have HPS3 := Lib.hid (HPS2.out.nwb hb3)
          have HB3 := Lib.hid (bs HB2.out hb3)
          obtain ⟨r3, f3⟩ := rowc he3
          obtain ⟨r4, f4⟩ := rowc HX3.out
          clear hw3 hb3 he3
          go_upto_region 9 with (fail)
          generalize hw4 : (((((w3.setCell ⟨w.heap.size + 1, 0, none⟩ (.int .i64 Kp)).setCell ⟨w.heap.size + 1, 1, none⟩ (.int .i64 Np)).setCell ⟨w.heap.size + 1, 2, none⟩ (.string Zp)).setCell ⟨w.heap.size + 1, 3, none⟩ (.int .i64 Xp)).setCell ⟨w.heap.size + 1, 4, none⟩ (.slice Ap RLp cp)) = w4
          obtain ⟨rx, ox, bx⟩ := fill5 HX3.out hw4
          have HB4 := Lib.hid (bx _ _ (Nat.le_succ _) HB3.out)
          have HZ4 := Lib.hid ((ox _ (by omega)).trans HZ3.out)
          have HPS4 := Lib.hid (HPS3.out.nobox4 HX3.out ox)
          have HP4 := Lib.hid ((HP3.out.nobox HX3.out (fun b h => by cases h)).stays (fun q hq => hq.1.keep (Nat.le_refl _) (ox q hq.2)) (fun q hq _ => ox q hq.2))
          clear r3 f3 r4 f4 hw4 ox bx
          go_wp2_with (fail)
          refine (RW.out _ _ _ HPS4.out HP4.out).mono ?_
          rintro e w5 ⟨u2, rfl, hu2, hb5⟩
          obtain ⟨Aq, cq, rfl, -, -⟩ := hu2.out
          rw [HRL.out] at hu2 ⊢
          have HQ5 := Lib.hid hu2
          have HZ5 := Lib.hid (carry hb5 HZ4.out)
          have HB5 := Lib.hid (bs HB4.out hb5)
          clear hu2 hb5 RW rx
          go_wp2_with (fail)
          have hbc := b1 w5 (.cells #[.int .i64 K, .int .i64 N, .string Z, .int .i64 X, .slice Aq RL cq] IV)
          have hec := heap_alloc_new w5 (.cells #[.int .i64 K, .int .i64 N, .string Z, .int .i64 X, .slice Aq RL cq] IV)
          refine (LI.out _ _ (HQ5.out.nwb hbc)).mono ?_
          rintro e w6 ⟨rfl, hb6⟩
          have HQ6 := Lib.hid ((HQ5.out.nwb hbc).nwb hb6)
          have HZ6 := Lib.hid (carry hb6 (keepAlloc HZ5.out))
          have HB6 := Lib.hid (bs HB5.out (bs hbc hb6))
          have HC6 := Lib.hid (carry hb6 hec)
          obtain ⟨r5, f5⟩ := rowc HC6.out
          obtain ⟨r6, f6⟩ := rowc HZ6.out
          clear hb6 hbc hec
          go_wp2_with (fail)
          generalize hwF : (((((w6.setCell ⟨w.heap.size + 1 + 1, 0, none⟩ (.int .i64 K)).setCell ⟨w.heap.size + 1 + 1, 1, none⟩ (.int .i64 N)).setCell ⟨w.heap.size + 1 + 1, 2, none⟩ (.string Z)).setCell ⟨w.heap.size + 1 + 1, 3, none⟩ (.int .i64 X)).setCell ⟨w.heap.size + 1 + 1, 4, none⟩ (.slice Aq RL cq)) = wF
          obtain ⟨rF, oF, bF⟩ := fill5 HZ6.out hwF
          refine bodyPost_ret (v := .tuple #[vV K N Z X Aq RL cq, .int .i64 0]) ?_ rfl ?_
          · simp [results, Tryz.results110, go_sem, rF]
          · exact ⟨_, _, rfl, (HQ6.out.nobox HZ6.out (fun b h => by cases h)).stays (fun q hq => hq.1.keep (Nat.le_refl _) (oF q hq.2)) (fun q hq _ => oF q hq.2), fun _ => rfl, bF _ _ (by omega) HB6.out⟩
        · rw [if_neg hw]
          rw [show lightB Q = false from by unfold lightB; simpa using hw] at LI
          clear hw
          obtain ⟨Ke, Ne, Ze, Xe, RKe, RVe⟩ := e0
          obtain ⟨RLe, HRLe⟩ : ∃ L, Hid (RVe.length = L) := ⟨_, Lib.hid rfl⟩
          obtain ⟨Kp, Np, Zp, Xp, RKp, RVp⟩ := E
          obtain ⟨RLp, HRLp⟩ : ∃ L, Hid (RVp.length = L) := ⟨_, Lib.hid rfl⟩
          obtain ⟨K, N, Z, X, RK, RV⟩ := Q
          obtain ⟨RL, HRL⟩ : ∃ L, Hid (RV.length = L) := ⟨_, Lib.hid rfl⟩
          go_enter Tryz.func110, Tryz.ntmps110
          go_wp2_with (fail)
          obtain ⟨a0, a1, a2, az, ab⟩ := al3 w #[.int .i64 k, .int .i64 n, .string s, .int .i64 x, .slice A0 L0 c0] #[.int .i64 ku, .int .i64 nu, .string su, .int .i64 xu, .slice Au Lu cu] #[.int .i64 0, .int .i64 0, .string ⟨#[]⟩, .int .i64 0, .slice none 0 0] IV IV IV
          refine (ST.out _ ab).mono ?_
          rintro e w1 ⟨sl, u1, rfl, hps, hu1, hb1⟩
          obtain ⟨A1, c1, rfl, -, -⟩ := hu1.out
          rw [HRLe.out] at hu1 ⊢
          have HPS := Lib.hid hps
          have HE1 := Lib.hid hu1
          have HZ1 := Lib.hid (carry hb1 a2)
          have HX1 := Lib.hid (carry hb1 a1)
          have HB1 := Lib.hid (bs ab hb1)
          have r1 : ∀ o q, (w1.alloc o).cell? ⟨w.heap.size + 1, q, none⟩ = _ := fun o q => (rowc (keepAlloc HX1.out)).1 q
          clear hps hu1 hb1 a0 a1 a2 az ab ST
          go_wp2_with (fail)
          refine (PU.out _ _ _ (HE1.out.nwb (b1 w1 (.cells #[.int .i64 Ke, .int .i64 Ne, .string Ze, .int .i64 Xe, .slice A1 RLe c1] IV))) (HTU.out.nwb (bs HB1.out (b1 w1 _)))).mono ?_
          rintro e w2 ⟨up, T, rfl, hup, hT, hb2⟩
          obtain rfl := hT rfl
          obtain ⟨Ap, cp, rfl, -, -⟩ := hup.out
          rw [HRLp.out] at hup ⊢
          have HP2 := Lib.hid hup
          have HPS2 := Lib.hid (HPS.out.nwb (bs (b1 w1 (.cells #[.int .i64 Ke, .int .i64 Ne, .string Ze, .int .i64 Xe, .slice A1 RLe c1] IV)) hb2))
          have HZ2 := Lib.hid (carry hb2 (keepAlloc HZ1.out))
          have HX2 := Lib.hid (carry hb2 (keepAlloc HX1.out))
          have HB2 := Lib.hid (bs HB1.out (bs (b1 w1 _) hb2))
          clear hup hb2 r1 PU HPS HE1 hT
          go_upto_region 8 with (fail)
          generalize hw3 : w2.alloc (.cells #[.int .i64 Kp, .int .i64 Np, .string Zp, .int .i64 Xp, .slice Ap RLp cp] IV) = w3
          have hb3 : Below w2.heap.size w2 w3 := hw3 ▸ b1 _ _
          have he3 : w3.heap[w2.heap.size]? = some (.cells #[.int .i64 Kp, .int .i64 Np, .string Zp, .int .i64 Xp, .slice Ap RLp cp] IV (0, 0)) := by rw [← hw3]; exact heap_alloc_new _ _
          have HZ3 := Lib.hid (carry hb3 HZ2.out)
          have HX3 := Lib.hid (carry hb3 HX2.out)
          have HP3 := Lib.hid (HP2.out.nwb hb3)
          have HPS3 := Lib.hid (HPS2.out.nwb hb3)
          have HB3 := Lib.hid (bs HB2.out hb3)
          obtain ⟨r3, f3⟩ := rowc he3
          obtain ⟨r4, f4⟩ := rowc HX3.out
          clear hw3 hb3 he3
          go_upto_region 9 with (fail)
          generalize hw4 : (((((w3.setCell ⟨w.heap.size + 1, 0, none⟩ (.int .i64 Kp)).setCell ⟨w.heap.size + 1, 1, none⟩ (.int .i64 Np)).setCell ⟨w.heap.size + 1, 2, none⟩ (.string Zp)).setCell ⟨w.heap.size + 1, 3, none⟩ (.int .i64 Xp)).setCell ⟨w.heap.size + 1, 4, none⟩ (.slice Ap RLp cp)) = w4
          obtain ⟨rx, ox, bx⟩ := fill5 HX3.out hw4
          have HB4 := Lib.hid (bx _ _ (Nat.le_succ _) HB3.out)
          have HZ4 := Lib.hid ((ox _ (by omega)).trans HZ3.out)
          have HPS4 := Lib.hid (HPS3.out.nobox4 HX3.out ox)
          have HP4 := Lib.hid ((HP3.out.nobox HX3.out (fun b h => by cases h)).stays (fun q hq => hq.1.keep (Nat.le_refl _) (ox q hq.2)) (fun q hq _ => ox q hq.2))
          clear r3 f3 r4 f4 hw4 ox bx
          go_wp2_with (fail)
          refine (RW.out _ _ _ HPS4.out HP4.out).mono ?_
          rintro e w5 ⟨u2, rfl, hu2, hb5⟩
          obtain ⟨Aq, cq, rfl, -, -⟩ := hu2.out
          rw [HRL.out] at hu2 ⊢
          have HQ5 := Lib.hid hu2
          have HZ5 := Lib.hid (carry hb5 HZ4.out)
          have HB5 := Lib.hid (bs HB4.out hb5)
          clear hu2 hb5 RW rx
          go_wp2_with (fail)
          have hbc := b1 w5 (.cells #[.int .i64 K, .int .i64 N, .string Z, .int .i64 X, .slice Aq RL cq] IV)
          have hec := heap_alloc_new w5 (.cells #[.int .i64 K, .int .i64 N, .string Z, .int .i64 X, .slice Aq RL cq] IV)
          refine (LI.out _ _ (HQ5.out.nwb hbc)).mono ?_
          rintro e w6 ⟨rfl, hb6⟩
          have HQ6 := Lib.hid ((HQ5.out.nwb hbc).nwb hb6)
          have HZ6 := Lib.hid (carry hb6 (keepAlloc HZ5.out))
          have HB6 := Lib.hid (bs HB5.out (bs hbc hb6))
          have HC6 := Lib.hid (carry hb6 hec)
          obtain ⟨r5, f5⟩ := rowc HC6.out
          obtain ⟨r6, f6⟩ := rowc HZ6.out
          clear hb6 hbc hec
          go_wp2_with (fail)
          clear r5 f5 r6 f6
          refine (HNU.out _).mono ?_
          rintro e w7 ⟨rfl, hb7⟩
          have HZ7 := Lib.hid (carry hb7 HZ6.out)
          have HB7 := Lib.hid (bs HB6.out hb7)
          obtain ⟨r, f⟩ := rowc HZ7.out
          clear hb7
          go_wp2_with (fail)
          generalize hwF : (((((w7.setCell ⟨w.heap.size + 1 + 1, 0, none⟩ (.int .i64 0)).setCell ⟨w.heap.size + 1 + 1, 1, none⟩ (.int .i64 0)).setCell ⟨w.heap.size + 1 + 1, 2, none⟩ (.string ⟨#[]⟩)).setCell ⟨w.heap.size + 1 + 1, 3, none⟩ (.int .i64 0)).setCell ⟨w.heap.size + 1 + 1, 4, none⟩ (.slice none 0 0)) = wF
          obtain ⟨rF, oF, bF⟩ := fill5 HZ7.out hwF
          refine bodyPost_ret (v := .tuple #[vV 0 0 ⟨#[]⟩ 0 none 0 0, .int .i64 9]) ?_ rfl ?_
          · simp [results, Tryz.results110, go_sem, rF]
          · exact nul_p (by omega) (bF _ _ (by omega) HB7.out)
      · rw [put_err ((hzp.2 rfl).2 hp0) hp0]
        obtain ⟨C, hC⟩ : ∃ C, C = (pushP e0 u).2 := ⟨_, rfl⟩
        obtain ⟨E, hE⟩ : ∃ E, E = (pushP e0 u).1 := ⟨_, rfl⟩
        rw [← hE] at PU
        rw [← hC] at PU hp0 ⊢
        clear hC hE
        obtain ⟨k, n, s, x, ks, vs⟩ := t
        obtain ⟨A0, c0, rfl, -, -⟩ := h.out
        obtain ⟨L0, HL0⟩ : ∃ L, Hid (vs.length = L) := ⟨_, Lib.hid rfl⟩
        rw [HL0.out] at ST ⊢
        have HTU := Lib.hid hu
        obtain ⟨ku, nu, su, xu, ksu, vsu⟩ := u
        obtain ⟨Au, cu, rfl, -, -⟩ := hu.out
        obtain ⟨Lu, HLu⟩ : ∃ L, Hid (vsu.length = L) := ⟨_, Lib.hid rfl⟩
        rw [HLu.out] at HTU ⊢
        obtain ⟨L, HL⟩ : ∃ L, Hid (ys.length = L) := ⟨_, Lib.hid rfl⟩
        rw [HL.out] at ST ⊢
        clear h hu hk hm hN hs hy hfits hst
        clear hz0 hzm hzl hzs hzp hke
        obtain ⟨Ke, Ne, Ze, Xe, RKe, RVe⟩ := e0
        obtain ⟨RLe, HRLe⟩ : ∃ L, Hid (RVe.length = L) := ⟨_, Lib.hid rfl⟩
        go_enter Tryz.func110, Tryz.ntmps110
        go_wp2_with (fail)
        obtain ⟨a0, a1, a2, az, ab⟩ := al3 w #[.int .i64 k, .int .i64 n, .string s, .int .i64 x, .slice A0 L0 c0] #[.int .i64 ku, .int .i64 nu, .string su, .int .i64 xu, .slice Au Lu cu] #[.int .i64 0, .int .i64 0, .string ⟨#[]⟩, .int .i64 0, .slice none 0 0] IV IV IV
        refine (ST.out _ ab).mono ?_
        rintro e w1 ⟨sl, u1, rfl, hps, hu1, hb1⟩
        obtain ⟨A1, c1, rfl, -, -⟩ := hu1.out
        rw [HRLe.out] at hu1 ⊢
        have HPS := Lib.hid hps
        have HE1 := Lib.hid hu1
        have HZ1 := Lib.hid (carry hb1 a2)
        have HX1 := Lib.hid (carry hb1 a1)
        have HB1 := Lib.hid (bs ab hb1)
        have r1 : ∀ o q, (w1.alloc o).cell? ⟨w.heap.size + 1, q, none⟩ = _ := fun o q => (rowc (keepAlloc HX1.out)).1 q
        clear hps hu1 hb1 a0 a1 a2 az ab ST
        go_wp2_with (fail)
        refine (PU.out _ _ _ (HE1.out.nwb (b1 w1 (.cells #[.int .i64 Ke, .int .i64 Ne, .string Ze, .int .i64 Xe, .slice A1 RLe c1] IV))) (HTU.out.nwb (bs HB1.out (b1 w1 _)))).mono ?_
        rintro e w2 ⟨up, T, rfl, hup, hT, hb2⟩
        obtain ⟨Kp, Np, Zp, Xp, RKp, RVp⟩ := T
        obtain ⟨RLp, HRLp⟩ : ∃ L, Hid (RVp.length = L) := ⟨_, Lib.hid rfl⟩
        obtain ⟨Ap, cp, rfl, -, -⟩ := hup.out
        rw [HRLp.out]
        have HPS2 := Lib.hid (HPS.out.nwb (bs (b1 w1 (.cells #[.int .i64 Ke, .int .i64 Ne, .string Ze, .int .i64 Xe, .slice A1 RLe c1] IV)) hb2))
        have HZ2 := Lib.hid (carry hb2 (keepAlloc HZ1.out))
        have HX2 := Lib.hid (carry hb2 (keepAlloc HX1.out))
        have HB2 := Lib.hid (bs HB1.out (bs (b1 w1 _) hb2))
        have hc0 : (C != 0) = true := by simpa using hp0
        have hc1 : (C == 0) = false := by simpa using hp0
        clear hup hb2 r1 PU HPS HE1 hT
        go_wp2_with (fail)
        refine (HNU.out _).mono ?_
        rintro e w3 ⟨rfl, hb3⟩
        have HZ3 := Lib.hid (carry hb3 (keepAlloc HZ2.out))
        have HB3 := Lib.hid (bs HB2.out (bs (b1 w2 _) hb3))
        obtain ⟨r, f⟩ := rowc HZ3.out
        clear hb3
        go_wp2_with (fail)
        generalize hwF : (((((w3.setCell ⟨w.heap.size + 1 + 1, 0, none⟩ (.int .i64 0)).setCell ⟨w.heap.size + 1 + 1, 1, none⟩ (.int .i64 0)).setCell ⟨w.heap.size + 1 + 1, 2, none⟩ (.string ⟨#[]⟩)).setCell ⟨w.heap.size + 1 + 1, 3, none⟩ (.int .i64 0)).setCell ⟨w.heap.size + 1 + 1, 4, none⟩ (.slice none 0 0)) = wF
        obtain ⟨rF, oF, bF⟩ := fill5 HZ3.out hwF
        refine bodyPost_ret (v := .tuple #[vV 0 0 ⟨#[]⟩ 0 none 0 0, .int .i64 C]) ?_ rfl ?_
        · simp [results, Tryz.results110, go_sem, rF]
        · exact nul_p hp0 (bF _ _ (by omega) HB3.out)
    | false =>
      rw [put_set (hzp.1 rfl)]
      obtain ⟨Q, HQ⟩ : ∃ Q, Hid (rew l u = Q) := ⟨_, Lib.hid rfl⟩
      replace RW : Hid (∀ w' sl vu, PsR w' 0 (Nw 0 w') sl l → TIn w' (Nw 0 w') u vu → Calls Tryz.prog 183 #[sl, vu] w' (OutN w' Q)) := Lib.hid (HQ.out ▸ RW.out u)
      replace LI := Lib.hid (LI.out Q)
      rw [HQ.out]
      clear HQ
      obtain ⟨k, n, s, x, ks, vs⟩ := t
      obtain ⟨A0, c0, rfl, -, -⟩ := h.out
      obtain ⟨L0, HL0⟩ : ∃ L, Hid (vs.length = L) := ⟨_, Lib.hid rfl⟩
      rw [HL0.out] at ST ⊢
      have HTU := Lib.hid hu
      obtain ⟨ku, nu, su, xu, ksu, vsu⟩ := u
      obtain ⟨Au, cu, rfl, -, -⟩ := hu.out
      obtain ⟨Lu, HLu⟩ : ∃ L, Hid (vsu.length = L) := ⟨_, Lib.hid rfl⟩
      rw [HLu.out] at HTU ⊢
      obtain ⟨L, HL⟩ : ∃ L, Hid (ys.length = L) := ⟨_, Lib.hid rfl⟩
      rw [HL.out] at ST ⊢
      clear h hu hk hm hN hs hy hfits hst
      clear hz0 hzm hzl hzs hzp hke
      by_cases hw : wgt Q ≤ 200
      · rw [if_pos hw]
        rw [show lightB Q = true from by unfold lightB; simpa using hw] at LI
        clear hw
        obtain ⟨Ke, Ne, Ze, Xe, RKe, RVe⟩ := e0
        obtain ⟨RLe, HRLe⟩ : ∃ L, Hid (RVe.length = L) := ⟨_, Lib.hid rfl⟩
        obtain ⟨K, N, Z, X, RK, RV⟩ := Q
        obtain ⟨RL, HRL⟩ : ∃ L, Hid (RV.length = L) := ⟨_, Lib.hid rfl⟩
        go_enter Tryz.func110, Tryz.ntmps110
        go_wp2_with (fail)
        obtain ⟨a0, a1, a2, az, ab⟩ := al3 w #[.int .i64 k, .int .i64 n, .string s, .int .i64 x, .slice A0 L0 c0] #[.int .i64 ku, .int .i64 nu, .string su, .int .i64 xu, .slice Au Lu cu] #[.int .i64 0, .int .i64 0, .string ⟨#[]⟩, .int .i64 0, .slice none 0 0] IV IV IV
        refine (ST.out _ ab).mono ?_
        rintro e w1 ⟨sl, u1, rfl, hps, hu1, hb1⟩
        obtain ⟨A1, c1, rfl, -, -⟩ := hu1.out
        rw [HRLe.out] at hu1 ⊢
        have HPS := Lib.hid hps
        have HE1 := Lib.hid hu1
        have HZ1 := Lib.hid (carry hb1 a2)
        have HX1 := Lib.hid (carry hb1 a1)
        have HB1 := Lib.hid (bs ab hb1)
        have r1 : ∀ o q, (w1.alloc o).cell? ⟨w.heap.size + 1, q, none⟩ = _ := fun o q => (rowc (keepAlloc HX1.out)).1 q
        clear hps hu1 hb1 a0 a1 a2 az ab ST
        go_wp2_with (fail)
        refine (RW.out _ _ _ (HPS.out.nwb (b1 w1 (.cells #[.int .i64 Ke, .int .i64 Ne, .string Ze, .int .i64 Xe, .slice A1 RLe c1] IV))) (HTU.out.nwb (bs HB1.out (b1 w1 _)))).mono ?_
        rintro e w2 ⟨u2, rfl, hu2, hb2⟩
        obtain ⟨Aq, cq, rfl, -, -⟩ := hu2.out
        rw [HRL.out] at hu2 ⊢
        have HQ2 := Lib.hid hu2
        have HZ2 := Lib.hid (carry hb2 (keepAlloc HZ1.out))
        have HB2 := Lib.hid (bs HB1.out (bs (b1 w1 _) hb2))
        clear hu2 hb2 RW r1
        go_wp2_with (fail)
        have hbc := b1 w2 (.cells #[.int .i64 K, .int .i64 N, .string Z, .int .i64 X, .slice Aq RL cq] IV)
        have hec := heap_alloc_new w2 (.cells #[.int .i64 K, .int .i64 N, .string Z, .int .i64 X, .slice Aq RL cq] IV)
        refine (LI.out _ _ (HQ2.out.nwb hbc)).mono ?_
        rintro e w3 ⟨rfl, hb3⟩
        have HQ3 := Lib.hid ((HQ2.out.nwb hbc).nwb hb3)
        have HZ3 := Lib.hid (carry hb3 (keepAlloc HZ2.out))
        have HB3 := Lib.hid (bs HB2.out (bs hbc hb3))
        have HC3 := Lib.hid (carry hb3 hec)
        obtain ⟨r5, f5⟩ := rowc HC3.out
        obtain ⟨r6, f6⟩ := rowc HZ3.out
        clear hb3 hbc hec
        go_wp2_with (fail)
        generalize hwF : (((((w3.setCell ⟨w.heap.size + 1 + 1, 0, none⟩ (.int .i64 K)).setCell ⟨w.heap.size + 1 + 1, 1, none⟩ (.int .i64 N)).setCell ⟨w.heap.size + 1 + 1, 2, none⟩ (.string Z)).setCell ⟨w.heap.size + 1 + 1, 3, none⟩ (.int .i64 X)).setCell ⟨w.heap.size + 1 + 1, 4, none⟩ (.slice Aq RL cq)) = wF
        obtain ⟨rF, oF, bF⟩ := fill5 HZ3.out hwF
        refine bodyPost_ret (v := .tuple #[vV K N Z X Aq RL cq, .int .i64 0]) ?_ rfl ?_
        · simp [results, Tryz.results110, go_sem, rF]
        · exact ⟨_, _, rfl, (HQ3.out.nobox HZ3.out (fun b h => by cases h)).stays (fun q hq => hq.1.keep (Nat.le_refl _) (oF q hq.2)) (fun q hq _ => oF q hq.2), fun _ => rfl, bF _ _ (by omega) HB3.out⟩
      · rw [if_neg hw]
        rw [show lightB Q = false from by unfold lightB; simpa using hw] at LI
        clear hw
        obtain ⟨Ke, Ne, Ze, Xe, RKe, RVe⟩ := e0
        obtain ⟨RLe, HRLe⟩ : ∃ L, Hid (RVe.length = L) := ⟨_, Lib.hid rfl⟩
        obtain ⟨K, N, Z, X, RK, RV⟩ := Q
        obtain ⟨RL, HRL⟩ : ∃ L, Hid (RV.length = L) := ⟨_, Lib.hid rfl⟩
        go_enter Tryz.func110, Tryz.ntmps110
        go_wp2_with (fail)
        obtain ⟨a0, a1, a2, az, ab⟩ := al3 w #[.int .i64 k, .int .i64 n, .string s, .int .i64 x, .slice A0 L0 c0] #[.int .i64 ku, .int .i64 nu, .string su, .int .i64 xu, .slice Au Lu cu] #[.int .i64 0, .int .i64 0, .string ⟨#[]⟩, .int .i64 0, .slice none 0 0] IV IV IV
        refine (ST.out _ ab).mono ?_
        rintro e w1 ⟨sl, u1, rfl, hps, hu1, hb1⟩
        obtain ⟨A1, c1, rfl, -, -⟩ := hu1.out
        rw [HRLe.out] at hu1 ⊢
        have HPS := Lib.hid hps
        have HE1 := Lib.hid hu1
        have HZ1 := Lib.hid (carry hb1 a2)
        have HX1 := Lib.hid (carry hb1 a1)
        have HB1 := Lib.hid (bs ab hb1)
        have r1 : ∀ o q, (w1.alloc o).cell? ⟨w.heap.size + 1, q, none⟩ = _ := fun o q => (rowc (keepAlloc HX1.out)).1 q
        clear hps hu1 hb1 a0 a1 a2 az ab ST
        go_wp2_with (fail)
        refine (RW.out _ _ _ (HPS.out.nwb (b1 w1 (.cells #[.int .i64 Ke, .int .i64 Ne, .string Ze, .int .i64 Xe, .slice A1 RLe c1] IV))) (HTU.out.nwb (bs HB1.out (b1 w1 _)))).mono ?_
        rintro e w2 ⟨u2, rfl, hu2, hb2⟩
        obtain ⟨Aq, cq, rfl, -, -⟩ := hu2.out
        rw [HRL.out] at hu2 ⊢
        have HQ2 := Lib.hid hu2
        have HZ2 := Lib.hid (carry hb2 (keepAlloc HZ1.out))
        have HB2 := Lib.hid (bs HB1.out (bs (b1 w1 _) hb2))
        clear hu2 hb2 RW r1
        go_wp2_with (fail)
        have hbc := b1 w2 (.cells #[.int .i64 K, .int .i64 N, .string Z, .int .i64 X, .slice Aq RL cq] IV)
        have hec := heap_alloc_new w2 (.cells #[.int .i64 K, .int .i64 N, .string Z, .int .i64 X, .slice Aq RL cq] IV)
        refine (LI.out _ _ (HQ2.out.nwb hbc)).mono ?_
        rintro e w3 ⟨rfl, hb3⟩
        have HQ3 := Lib.hid ((HQ2.out.nwb hbc).nwb hb3)
        have HZ3 := Lib.hid (carry hb3 (keepAlloc HZ2.out))
        have HB3 := Lib.hid (bs HB2.out (bs hbc hb3))
        have HC3 := Lib.hid (carry hb3 hec)
        obtain ⟨r5, f5⟩ := rowc HC3.out
        obtain ⟨r6, f6⟩ := rowc HZ3.out
        clear hb3 hbc hec
        go_wp2_with (fail)
        clear r5 f5 r6 f6
        refine (HNU.out _).mono ?_
        rintro e w4 ⟨rfl, hb4⟩
        have HZ4 := Lib.hid (carry hb4 HZ3.out)
        have HB4 := Lib.hid (bs HB3.out hb4)
        obtain ⟨r, f⟩ := rowc HZ4.out
        clear hb4
        go_wp2_with (fail)
        generalize hwF : (((((w4.setCell ⟨w.heap.size + 1 + 1, 0, none⟩ (.int .i64 0)).setCell ⟨w.heap.size + 1 + 1, 1, none⟩ (.int .i64 0)).setCell ⟨w.heap.size + 1 + 1, 2, none⟩ (.string ⟨#[]⟩)).setCell ⟨w.heap.size + 1 + 1, 3, none⟩ (.int .i64 0)).setCell ⟨w.heap.size + 1 + 1, 4, none⟩ (.slice none 0 0)) = wF
        obtain ⟨rF, oF, bF⟩ := fill5 HZ4.out hwF
        refine bodyPost_ret (v := .tuple #[vV 0 0 ⟨#[]⟩ 0 none 0 0, .int .i64 9]) ?_ rfl ?_
        · simp [results, Tryz.results110, go_sem, rF]
        · exact nul_p (by omega) (bF _ _ (by omega) HB4.out)

end Go.Proofs.YtbgffmiffmmohaaGreatDoor.tree

/-
  SetPath of the project.
  Conditions: the values hold at most 2^20 and two items and 10^9 letters, with the keys; the package variables of the library's reading of numbers hold what the program's text lays.
-/
namespace Go.Proofs.YtbgffmiffmmohaaGreatDoor.tree
open Go.ChangeShapes Go.WideShapes Go.ChangeAt Go.RowKit
set_option linter.unusedVariables false

/-- The answer of SetPath. -/
def setPR (t : Tr) (ys : List Ky) (push : Bool) (u : Tr) : Tr × Int := if valB t && (valB u && keysB ys) then putP t ys push u else (t, 5)
def OutSp (w : World) (t : Tr) (code : Int) (e : Ending) (w' : World) : Prop := ∃ u par R, e = .returned (.tuple #[u, .int .i64 code]) ∧ TPar w' par (R, 0) t u ∧ w.heap.size ≤ R ∧ Below w.heap.size w w'
theorem ktot_mem : ∀ {ys : List Ky} {y : Ky}, y ∈ ys → y.str.size ≤ ktot ys
  | z :: ys, y, h => by
    unfold ktot
    rcases List.mem_cons.1 h with rfl | h
    · omega
    · have := ktot_mem h; omega
theorem put_bad {t : Tr} {ys : List Ky} {push : Bool} {u : Tr} (h : (putP t ys push u).2 ≠ 0) : (putP t ys push u).1 = t := by
  unfold putP at h ⊢
  split
  · next h0 =>
    rw [if_pos h0] at h
    split
    · next h1 => rw [if_pos h1] at h; exact absurd rfl h
    · rfl
  · rfl
theorem put_size {t : Tr} {ys : List Ky} {push : Bool} {u : Tr} (hf : fits t) (h : (putP t ys push u).2 = 0) : cnt (putP t ys push u).1 ≤ cnt t + cnt u + ys.length ∧ tot (putP t ys push u).1 ≤ tot t + tot u + ktot ys + 1 := by
  unfold putP at h ⊢
  split
  · next h0 =>
    rw [if_pos h0] at h
    split
    · exact setP_size ys t push u hf h0
    · next h1 => rw [if_neg h1] at h; exact absurd (show (9 : Int) = 0 from h) (by decide)
  · next h0 => rw [if_neg h0] at h; exact absurd h h0

/-- A value with a code in a box of its own. -/
def CutC (w1 : World) (E : Tr) (C : Int) (p f : Value) (wx : World) : Prop :=
  ∃ B K N Z X A L c T, p = .pointer (some ⟨B, 0, none⟩) ∧ f = .int .i64 C ∧ Below w1.heap.size w1 wx ∧ w1.heap.size ≤ B ∧ wx.heap[B]? = some (.cells #[.int .i64 K, .int .i64 N, .string Z, .int .i64 X, .slice A L c] IV (0, 0)) ∧ TIn wx (Nw 0 wx) T (vV K N Z X A L c) ∧ (C = 0 → T = E)
section
variable {w1 n wF : World} {E T : Tr} {C K N X : Int} {Z : ByteArray} {L c B : Nat} {A : Option Addr}
theorem cutC_early (hw : Below w1.heap.size w1 n) (hB : w1.heap.size ≤ B) (ez : n.heap[B]? = some (.cells #[.int .i64 0, .int .i64 0, .string ⟨#[]⟩, .int .i64 0, .slice none 0 0] IV (0, 0))) (hv : TIn n (Nw 0 n) T (vV K N Z X A L c)) (hT : C = 0 → T = E)
    (hF : (((((n.setCell ⟨B, 0, none⟩ (.int .i64 K)).setCell ⟨B, 1, none⟩ (.int .i64 N)).setCell ⟨B, 2, none⟩ (.string Z)).setCell ⟨B, 3, none⟩ (.int .i64 X)).setCell ⟨B, 4, none⟩ (.slice A L c)) = wF) :
    CutC w1 E C (.pointer (some ⟨B, 0, none⟩)) (.int .i64 C) wF := by
  obtain ⟨-, oF, bF⟩ := fill5 ez hF
  have eF : wF.heap[B]? = some (.cells #[.int .i64 K, .int .i64 N, .string Z, .int .i64 X, .slice A L c] IV (0, 0)) := by
    rw [← hF]
    have := set_heap (set_heap (set_heap (set_heap (set_heap ez 0 (.int .i64 K)) 1 (.int .i64 N)) 2 (.string Z)) 3 (.int .i64 X)) 4 (.slice A L c)
    simpa using this
  exact ⟨B, K, N, Z, X, A, L, c, T, rfl, rfl, bF _ _ hB hw, hB, eF, (hv.nobox ez (fun b h => by cases h)).stays (fun q hq => hq.1.keep (Nat.le_refl _) (oF q hq.2)) (fun q hq _ => oF q hq.2), hT⟩
theorem cutC_box (hw : Below w1.heap.size w1 n) (hv : TIn n (Nw 0 n) T (vV K N Z X A L c)) (hT : C = 0 → T = E) :
    CutC w1 E C (.pointer (some ⟨n.heap.size, 0, none⟩)) (.int .i64 C) (n.alloc (.cells #[.int .i64 K, .int .i64 N, .string Z, .int .i64 X, .slice A L c] IV)) :=
  ⟨n.heap.size, K, N, Z, X, A, L, c, T, rfl, rfl, bs hw (b1 n _), hw.size, heap_alloc_new n _, hv.nwb (b1 n _), hT⟩
end

set_option maxRecDepth 100000 in
set_option maxHeartbeats 4000000 in
theorem setPath_i (t : Tr) (ys : List Ky) (push : Bool) (u : Tr) (v vu : Value) (A : Option Addr) (c : Nat) (w : World) (h : TIn w (Nw 0 w) t v) (hu : TIn w (Nw 0 w) u vu) (hk : KIn w ys A) (hc : ys.length ≤ c ∧ c ≤ maxLen) (hN : cnt t + cnt u + ys.length ≤ 1048578) (hT : tot t + tot u + ktot ys + 1 ≤ 1000000000) (hE : prs.Env w) :
    Calls Tryz.prog 40 #[v, .slice A ys.length c, .bool push, vu] w (OutSp w (setPR t ys push u).1 (setPR t ys push u).2) := by
  have hfits := h.fits
  have IT : Hid (∀ w', Below w.heap.size w w' → Calls Tryz.prog 90 #[v] w' (BoQ w' (valB t))) := Lib.hid fun w' hb => isValue_i t (by omega) w' _ v (hE.stays hb) (h.below' hb)
  have IU : Hid (∀ w', Below w.heap.size w w' → Calls Tryz.prog 90 #[vu] w' (BoQ w' (valB u))) := Lib.hid fun w' hb => isValue_i u (by omega) w' _ vu (hE.stays hb) (hu.below' hb)
  have hst : ∀ y ∈ ys, y.str.size ≤ 281474976710656 := fun y hy => by have := ktot_mem hy; omega
  have AK : Hid (∀ w', Below w.heap.size w w' → Calls Tryz.prog 109 #[.slice A ys.length c] w' (BoQ w' (keysB ys))) := Lib.hid fun w' hb => areKeys_i ys A c w' (hk.below hb) (Nat.le_trans hc.1 hc.2) hst (hE.stays hb)
  have CV : Hid (∀ w', Below w.heap.size w w' → Calls Tryz.prog 76 #[v] w' (CvQ w' t)) := Lib.hid fun w' hb => copyValue t v w' 0 (h.nwb hb) (by omega) (by omega)
  obtain ⟨b1v, HV1⟩ : ∃ b, Hid (valB t = b) := ⟨_, Lib.hid rfl⟩
  obtain ⟨b2v, HV2⟩ : ∃ b, Hid (valB u = b) := ⟨_, Lib.hid rfl⟩
  obtain ⟨b3v, HV3⟩ : ∃ b, Hid (keysB ys = b) := ⟨_, Lib.hid rfl⟩
  rw [HV1.out] at IT
  rw [HV2.out] at IU
  rw [HV3.out] at AK
  by_cases hok : (b1v && (b2v && b3v)) = true
  · have hR : setPR t ys push u = putP t ys push u := by unfold setPR; rw [HV1.out, HV2.out, HV3.out, if_pos hok]
    rw [hR]
    obtain ⟨rfl, rfl, rfl⟩ : b1v = true ∧ b2v = true ∧ b3v = true := by simpa using hok
    obtain ⟨M, hM, hML, hMc⟩ : ∃ M, M = (ys.take 200).length ∧ M ≤ ys.length ∧ (M : Int) = nums.mn ys.length 200 := ⟨_, rfl, by rw [List.length_take]; omega, by rw [List.length_take]; unfold nums.mn; split <;> omega⟩
    have hw2 : wgt t ≤ 200 ∧ sndB t = true := by
      have := HV1.out
      unfold valB lightB at this
      simpa using this
    have WR : Hid (∀ w', Below w.heap.size w w' → Calls Tryz.prog 110 #[v, .bool push, vu, .slice A M c] w' (OutP w' (putP t ys push u).1 (putP t ys push u).2)) := Lib.hid fun w' hb => by
      rw [putP_take t ys push u hfits hw2.1, hM]
      exact written_i t (ys.take 200) push u v vu A c w' (h.nwb hb) (hu.nwb hb) ((hk.take 200).below hb) (by rw [← hM]; omega) (by omega) hw2.2 (fun y hy => by
        have h3 := HV3.out
        unfold keysB at h3
        exact List.all_eq_true.1 h3 y (List.mem_of_mem_take hy))
    have MN := Lib.hid (fun w' => nums.implMin ys.length 200 w')
    rw [← hMc] at MN
    have hse : ∀ w', (sizeOf (Tryz.prog.elem 66)).run Tryz.prog w' = .ok 3 w' := fun w' => by
      obtain ⟨i0, hi, hz⟩ := ik_info
      have : Tryz.prog.elem 66 = IK := by kernel_rfl
      simp [sizeOf, typeInfo, this, hi, hz.2.1]
    have hs1 : ∀ w', (Instr.slice 66 (.slice A ys.length c) none (some (.int .i64 (M : Int))) none).run Tryz.prog w' = .ok (.slice A M c) w' := fun w' => by
      rw [run_slice_h (P := Tryz.prog) w' 66 A ys.length c (by kernel_rfl) .i64 (M : Int) (by omega) (by omega), hse]
      have h0 : A.map (fun q => q.add 0) = A := by cases A <;> simp [Addr.add]
      simp [Result.andThen, sliced, h0]
    obtain ⟨E, hEp⟩ : ∃ E, E = (putP t ys push u).1 := ⟨_, rfl⟩
    obtain ⟨C, hCp⟩ : ∃ C, C = (putP t ys push u).2 := ⟨_, rfl⟩
    have hps := put_size (push := push) (u := u) (ys := ys) hfits
    have hpb := put_bad (t := t) (push := push) (u := u) (ys := ys)
    rw [← hEp, ← hCp] at WR hps hpb ⊢
    clear hEp hCp hR hok
    have CE : Hid (C = 0 → ∀ w' v, TIn w' (Nw 0 w') E v → Calls Tryz.prog 76 #[v] w' (CvQ w' E)) := Lib.hid fun h0 w' v hv => copyValue E v w' 0 hv (by have := (hps h0).1; omega) (by have := (hps h0).2; omega)
    have hL9 : ys.length ≤ 1048578 := by omega
    obtain ⟨k, n, s, x, ks, vs⟩ := t
    obtain ⟨A0, c0, rfl, -, -⟩ := h.out
    obtain ⟨L0, HL0⟩ : ∃ L, Hid (vs.length = L) := ⟨_, Lib.hid rfl⟩
    obtain ⟨ku, nu, su, xu, ksu, vsu⟩ := u
    obtain ⟨Au, cu, rfl, -, -⟩ := hu.out
    obtain ⟨Lu, HLu⟩ : ∃ L, Hid (vsu.length = L) := ⟨_, Lib.hid rfl⟩
    rw [HL0.out] at IT CV WR ⊢
    rw [HLu.out] at IU WR ⊢
    obtain ⟨L, HL⟩ : ∃ L, Hid (ys.length = L) := ⟨_, Lib.hid rfl⟩
    rw [HL.out] at AK MN hs1 hML hc hL9 ⊢
    clear h hu hk hN hT hfits hE HV1 HV2 HV3
    clear hps hst hw2 hM hMc
    by_cases hC0 : C = 0
    · subst hC0
      replace CE := Lib.hid (CE.out rfl)
      clear hpb
      obtain ⟨K, N, Z, X, RK, RV⟩ := E
      obtain ⟨RL, HRL⟩ : ∃ L, Hid (RV.length = L) := ⟨_, Lib.hid rfl⟩
      go_enter Tryz.func40, Tryz.ntmps40
      go_wp2_with (fail)
      obtain ⟨a0, a1, a2, az, ab⟩ := al3 w #[.int .i64 k, .int .i64 n, .string s, .int .i64 x, .slice A0 L0 c0] #[.int .i64 ku, .int .i64 nu, .string su, .int .i64 xu, .slice Au Lu cu] #[.int .i64 0, .int .i64 0, .string ⟨#[]⟩, .int .i64 0, .slice none 0 0] IV IV IV
      refine (IT.out _ ab).mono ?_
      rintro e w1 ⟨rfl, hb1⟩
      have E01 := Lib.hid (carry hb1 a0)
      have E11 := Lib.hid (carry hb1 a1)
      have EZ1 := Lib.hid (carry hb1 a2)
      have HB1 := Lib.hid (bs ab hb1)
      clear a0 a1 a2 az ab hb1
      have d1_0 : w1.cell? ⟨w.heap.size, 0, none⟩ = some (.int .i64 k) := (rowc E01.out).1 0
      have d1_1 : w1.cell? ⟨w.heap.size, 1, none⟩ = some (.int .i64 n) := (rowc E01.out).1 1
      have d1_2 : w1.cell? ⟨w.heap.size, 2, none⟩ = some (.string s) := (rowc E01.out).1 2
      have d1_3 : w1.cell? ⟨w.heap.size, 3, none⟩ = some (.int .i64 x) := (rowc E01.out).1 3
      have d1_4 : w1.cell? ⟨w.heap.size, 4, none⟩ = some (.slice A0 L0 c0) := (rowc E01.out).1 4
      have x1_0 : w1.cell? ⟨w.heap.size + 1, 0, none⟩ = some (.int .i64 ku) := (rowc E11.out).1 0
      have x1_1 : w1.cell? ⟨w.heap.size + 1, 1, none⟩ = some (.int .i64 nu) := (rowc E11.out).1 1
      have x1_2 : w1.cell? ⟨w.heap.size + 1, 2, none⟩ = some (.string su) := (rowc E11.out).1 2
      have x1_3 : w1.cell? ⟨w.heap.size + 1, 3, none⟩ = some (.int .i64 xu) := (rowc E11.out).1 3
      have x1_4 : w1.cell? ⟨w.heap.size + 1, 4, none⟩ = some (.slice Au Lu cu) := (rowc E11.out).1 4
      go_wp2_with (fail)
      refine (IU.out _ HB1.out).mono ?_
      rintro e w2 ⟨rfl, hb2⟩
      have E02 := Lib.hid (carry hb2 E01.out)
      have E12 := Lib.hid (carry hb2 E11.out)
      have EZ2 := Lib.hid (carry hb2 EZ1.out)
      have HB2 := Lib.hid (bs HB1.out hb2)
      clear hb2
      clear d1_0 x1_0 d1_1 x1_1 d1_2 x1_2 d1_3 x1_3 d1_4 x1_4
      have d2_0 : w2.cell? ⟨w.heap.size, 0, none⟩ = some (.int .i64 k) := (rowc E02.out).1 0
      have d2_1 : w2.cell? ⟨w.heap.size, 1, none⟩ = some (.int .i64 n) := (rowc E02.out).1 1
      have d2_2 : w2.cell? ⟨w.heap.size, 2, none⟩ = some (.string s) := (rowc E02.out).1 2
      have d2_3 : w2.cell? ⟨w.heap.size, 3, none⟩ = some (.int .i64 x) := (rowc E02.out).1 3
      have d2_4 : w2.cell? ⟨w.heap.size, 4, none⟩ = some (.slice A0 L0 c0) := (rowc E02.out).1 4
      have x2_0 : w2.cell? ⟨w.heap.size + 1, 0, none⟩ = some (.int .i64 ku) := (rowc E12.out).1 0
      have x2_1 : w2.cell? ⟨w.heap.size + 1, 1, none⟩ = some (.int .i64 nu) := (rowc E12.out).1 1
      have x2_2 : w2.cell? ⟨w.heap.size + 1, 2, none⟩ = some (.string su) := (rowc E12.out).1 2
      have x2_3 : w2.cell? ⟨w.heap.size + 1, 3, none⟩ = some (.int .i64 xu) := (rowc E12.out).1 3
      have x2_4 : w2.cell? ⟨w.heap.size + 1, 4, none⟩ = some (.slice Au Lu cu) := (rowc E12.out).1 4
      go_wp2_with (fail)
      refine (AK.out _ HB2.out).mono ?_
      rintro e w3 ⟨rfl, hb3⟩
      have E03 := Lib.hid (carry hb3 E02.out)
      have E13 := Lib.hid (carry hb3 E12.out)
      have EZ3 := Lib.hid (carry hb3 EZ2.out)
      have HB3 := Lib.hid (bs HB2.out hb3)
      clear hb3
      clear d2_0 x2_0 d2_1 x2_1 d2_2 x2_2 d2_3 x2_3 d2_4 x2_4
      have d3_0 : w3.cell? ⟨w.heap.size, 0, none⟩ = some (.int .i64 k) := (rowc E03.out).1 0
      have d3_1 : w3.cell? ⟨w.heap.size, 1, none⟩ = some (.int .i64 n) := (rowc E03.out).1 1
      have d3_2 : w3.cell? ⟨w.heap.size, 2, none⟩ = some (.string s) := (rowc E03.out).1 2
      have d3_3 : w3.cell? ⟨w.heap.size, 3, none⟩ = some (.int .i64 x) := (rowc E03.out).1 3
      have d3_4 : w3.cell? ⟨w.heap.size, 4, none⟩ = some (.slice A0 L0 c0) := (rowc E03.out).1 4
      have x3_0 : w3.cell? ⟨w.heap.size + 1, 0, none⟩ = some (.int .i64 ku) := (rowc E13.out).1 0
      have x3_1 : w3.cell? ⟨w.heap.size + 1, 1, none⟩ = some (.int .i64 nu) := (rowc E13.out).1 1
      have x3_2 : w3.cell? ⟨w.heap.size + 1, 2, none⟩ = some (.string su) := (rowc E13.out).1 2
      have x3_3 : w3.cell? ⟨w.heap.size + 1, 3, none⟩ = some (.int .i64 xu) := (rowc E13.out).1 3
      have x3_4 : w3.cell? ⟨w.heap.size + 1, 4, none⟩ = some (.slice Au Lu cu) := (rowc E13.out).1 4
      have hA0 : A.map (fun q => q.add 0) = A := by cases A <;> simp [Addr.add]
      go_wp2_with (fail)
      have nz0 : w3.heap.size ≠ w.heap.size := by have := (Array.getElem?_eq_some_iff.1 E03.out).1; omega
      have nz1 : w3.heap.size ≠ w.heap.size + 1 := by have := (Array.getElem?_eq_some_iff.1 E13.out).1; omega
      go_cut [10, 11] (fun px fx wx => CutC w3 (.mk K N Z X RK RV) 0 px fx wx)
      case first =>
        have HW : Hid (Below w3.heap.size w3 w3) := Lib.hid (Below.refl _ _)
        go_region_held3 (fun w' => w'.cell? ⟨w.heap.size, 0, none⟩ = some (.int .i64 k) ∧ w'.cell? ⟨w.heap.size, 1, none⟩ = some (.int .i64 n) ∧ w'.cell? ⟨w.heap.size, 2, none⟩ = some (.string s) ∧ w'.cell? ⟨w.heap.size, 3, none⟩ = some (.int .i64 x) ∧ w'.cell? ⟨w.heap.size, 4, none⟩ = some (.slice A0 L0 c0) ∧ w'.cell? ⟨w.heap.size + 1, 0, none⟩ = some (.int .i64 ku) ∧ w'.cell? ⟨w.heap.size + 1, 1, none⟩ = some (.int .i64 nu) ∧ w'.cell? ⟨w.heap.size + 1, 2, none⟩ = some (.string su) ∧ w'.cell? ⟨w.heap.size + 1, 3, none⟩ = some (.int .i64 xu) ∧ w'.cell? ⟨w.heap.size + 1, 4, none⟩ = some (.slice Au Lu cu)) (go_keep) (first
          | (go_at_call 111
             refine (MN.out _).mono ?_
             rintro e w4 ⟨rfl, rfl⟩)
          | (go_at_call 110
             refine (WR.out _ (by first | exact HB3.out | exact HB3.out.trans ((Below.refl _ _).drew) | exact HB3.out.alloc HB3.out.size _ | exact (HB3.out.trans ((Below.refl _ _).drew)).alloc HB3.out.size _)).mono ?_
             rintro e w4 ⟨up, TP, rfl, hu, hTE, hb⟩
             have hbx : Below w3.heap.size w3 w4 := by first | exact hb | exact bs ((Below.refl _ _).drew) hb | exact bs (b1 _ _) hb | exact bs (bs ((Below.refl _ _).drew) (b1 _ _)) hb
             obtain ⟨K4, N4, Z4, X4, RK4, RV4⟩ := TP
             obtain ⟨A4, c4, rfl, -, -⟩ := hu.out
             obtain ⟨L4, HL4⟩ : ∃ L, Hid (RV4.length = L) := ⟨_, Lib.hid rfl⟩
             rw [HL4.out] at hu ⊢
             have HU4 := Lib.hid hu
             have HTE := Lib.hid hTE
             replace HW := Lib.hid (bs HW.out hbx)
             first | (have ez := Lib.hid (carry hb (heap_alloc_new w3 (.cells #[.int .i64 0, .int .i64 0, .string ⟨#[]⟩, .int .i64 0, .slice none 0 0] IV)))) | (have ez := Lib.hid (carry hb (heap_alloc_new w3.drew (.cells #[.int .i64 0, .int .i64 0, .string ⟨#[]⟩, .int .i64 0, .slice none 0 0] IV)))) | skip
             first | (have zr := (rowc ez.out).1; have zf := (rowc ez.out).2) | skip
             have d4_0 : w4.cell? ⟨w.heap.size, 0, none⟩ = some (.int .i64 k) := (rowc (carry hbx E03.out)).1 0
             have d4_1 : w4.cell? ⟨w.heap.size, 1, none⟩ = some (.int .i64 n) := (rowc (carry hbx E03.out)).1 1
             have d4_2 : w4.cell? ⟨w.heap.size, 2, none⟩ = some (.string s) := (rowc (carry hbx E03.out)).1 2
             have d4_3 : w4.cell? ⟨w.heap.size, 3, none⟩ = some (.int .i64 x) := (rowc (carry hbx E03.out)).1 3
             have d4_4 : w4.cell? ⟨w.heap.size, 4, none⟩ = some (.slice A0 L0 c0) := (rowc (carry hbx E03.out)).1 4
             have x4_0 : w4.cell? ⟨w.heap.size + 1, 0, none⟩ = some (.int .i64 ku) := (rowc (carry hbx E13.out)).1 0
             have x4_1 : w4.cell? ⟨w.heap.size + 1, 1, none⟩ = some (.int .i64 nu) := (rowc (carry hbx E13.out)).1 1
             have x4_2 : w4.cell? ⟨w.heap.size + 1, 2, none⟩ = some (.string su) := (rowc (carry hbx E13.out)).1 2
             have x4_3 : w4.cell? ⟨w.heap.size + 1, 3, none⟩ = some (.int .i64 xu) := (rowc (carry hbx E13.out)).1 3
             have x4_4 : w4.cell? ⟨w.heap.size + 1, 4, none⟩ = some (.slice Au Lu cu) := (rowc (carry hbx E13.out)).1 4
             have nz2 : w4.heap.size ≠ w.heap.size := by have := hbx.size; have := (Array.getElem?_eq_some_iff.1 E03.out).1; omega
             clear hu hb hbx hTE))
        all_goals
          go_wp2_with (fail)
          go_meet
          first
          | with_reducible exact cutC_box HW.out HU4.out (fun _ => HTE.out trivial)
          | exact cutC_early HW.out (Nat.le_refl _) ez.out HU4.out (fun _ => HTE.out trivial) rfl
      case rest =>
        obtain ⟨B, K4, N4, Z4, X4, A4, L4, c4, T4, hp, hf, hbx, hNB, en, hv, hTE⟩ := hcut
        subst hp hf
        have HN := Lib.hid en
        have HV4 := Lib.hid hv
        have HTE := Lib.hid hTE
        have EZ4 := Lib.hid (carry hbx EZ3.out)
        have E04 := Lib.hid (carry hbx E03.out)
        have HB4 := Lib.hid (bs HB3.out hbx)
        clear en hv hTE hbx hNB WR MN nz0 nz1 d3_0 x3_0 d3_1 x3_1 d3_2 x3_2 d3_3 x3_3 d3_4 x3_4 hs1 hse
        obtain rfl := HTE.out rfl
        obtain ⟨A4', c4', e4, -, -⟩ := HV4.out.out
        rw [HRL.out] at e4
        have e5 : K4 = K ∧ N4 = N ∧ Z4 = Z ∧ X4 = X ∧ L4 = RL := by
          unfold vV at e4
          simp at e4
          obtain ⟨q0, q1, q2, q3, -, q4, -⟩ := e4
          exact ⟨q0, q1, q2, q3, q4⟩
        clear e4
        obtain ⟨rfl, rfl, rfl, rfl, rfl⟩ := e5
        obtain ⟨r4, f4⟩ := rowc HN.out
        go_wp2_with (fail)
        refine (CE.out _ _ HV4.out).mono ?_
        rintro e w5 ⟨u, par, R, rfl, hu, hR, hb5⟩
        obtain ⟨Az, cz, rfl, -⟩ := hu.out
        rw [HRL.out] at hu ⊢
        have HU := Lib.hid hu
        have HR := Lib.hid hR
        have EZ5 := Lib.hid (carry hb5 EZ4.out)
        have HB5 := Lib.hid (bs HB4.out hb5)
        obtain ⟨rz, fz⟩ := rowc EZ5.out
        clear hu hR hb5
        clear r4 f4
        go_wp2_with (fail)
        generalize hwF : (((((w5.setCell ⟨w.heap.size + 1 + 1, 0, none⟩ (.int .i64 K4)).setCell ⟨w.heap.size + 1 + 1, 1, none⟩ (.int .i64 N4)).setCell ⟨w.heap.size + 1 + 1, 2, none⟩ (.string Z4)).setCell ⟨w.heap.size + 1 + 1, 3, none⟩ (.int .i64 X4)).setCell ⟨w.heap.size + 1 + 1, 4, none⟩ (.slice Az L4 cz)) = wF
        obtain ⟨rF, oF, bF⟩ := fill5 EZ5.out hwF
        refine bodyPost_ret (v := .tuple #[vV K4 N4 Z4 X4 Az L4 cz, .int .i64 0]) ?_ rfl ?_
        · simp [results, Tryz.results40, go_sem, rF]
        · have hz : w.heap.size + 1 + 1 < wc.heap.size := (Array.getElem?_eq_some_iff.1 EZ4.out).1
          refine ⟨_, par, R, rfl, ?_, Nat.le_trans HB4.out.size HR.out, bF _ _ (by omega) HB5.out⟩
          exact HU.out.above fun q hq _ => oF q (by have := HR.out; simp at hq; omega)
    · obtain rfl := hpb hC0
      clear CE
      go_enter Tryz.func40, Tryz.ntmps40
      go_wp2_with (fail)
      obtain ⟨a0, a1, a2, az, ab⟩ := al3 w #[.int .i64 k, .int .i64 n, .string s, .int .i64 x, .slice A0 L0 c0] #[.int .i64 ku, .int .i64 nu, .string su, .int .i64 xu, .slice Au Lu cu] #[.int .i64 0, .int .i64 0, .string ⟨#[]⟩, .int .i64 0, .slice none 0 0] IV IV IV
      refine (IT.out _ ab).mono ?_
      rintro e w1 ⟨rfl, hb1⟩
      have E01 := Lib.hid (carry hb1 a0)
      have E11 := Lib.hid (carry hb1 a1)
      have EZ1 := Lib.hid (carry hb1 a2)
      have HB1 := Lib.hid (bs ab hb1)
      clear a0 a1 a2 az ab hb1
      have d1_0 : w1.cell? ⟨w.heap.size, 0, none⟩ = some (.int .i64 k) := (rowc E01.out).1 0
      have d1_1 : w1.cell? ⟨w.heap.size, 1, none⟩ = some (.int .i64 n) := (rowc E01.out).1 1
      have d1_2 : w1.cell? ⟨w.heap.size, 2, none⟩ = some (.string s) := (rowc E01.out).1 2
      have d1_3 : w1.cell? ⟨w.heap.size, 3, none⟩ = some (.int .i64 x) := (rowc E01.out).1 3
      have d1_4 : w1.cell? ⟨w.heap.size, 4, none⟩ = some (.slice A0 L0 c0) := (rowc E01.out).1 4
      have x1_0 : w1.cell? ⟨w.heap.size + 1, 0, none⟩ = some (.int .i64 ku) := (rowc E11.out).1 0
      have x1_1 : w1.cell? ⟨w.heap.size + 1, 1, none⟩ = some (.int .i64 nu) := (rowc E11.out).1 1
      have x1_2 : w1.cell? ⟨w.heap.size + 1, 2, none⟩ = some (.string su) := (rowc E11.out).1 2
      have x1_3 : w1.cell? ⟨w.heap.size + 1, 3, none⟩ = some (.int .i64 xu) := (rowc E11.out).1 3
      have x1_4 : w1.cell? ⟨w.heap.size + 1, 4, none⟩ = some (.slice Au Lu cu) := (rowc E11.out).1 4
      go_wp2_with (fail)
      refine (IU.out _ HB1.out).mono ?_
      rintro e w2 ⟨rfl, hb2⟩
      have E02 := Lib.hid (carry hb2 E01.out)
      have E12 := Lib.hid (carry hb2 E11.out)
      have EZ2 := Lib.hid (carry hb2 EZ1.out)
      have HB2 := Lib.hid (bs HB1.out hb2)
      clear hb2
      clear d1_0 x1_0 d1_1 x1_1 d1_2 x1_2 d1_3 x1_3 d1_4 x1_4
      have d2_0 : w2.cell? ⟨w.heap.size, 0, none⟩ = some (.int .i64 k) := (rowc E02.out).1 0
      have d2_1 : w2.cell? ⟨w.heap.size, 1, none⟩ = some (.int .i64 n) := (rowc E02.out).1 1
      have d2_2 : w2.cell? ⟨w.heap.size, 2, none⟩ = some (.string s) := (rowc E02.out).1 2
      have d2_3 : w2.cell? ⟨w.heap.size, 3, none⟩ = some (.int .i64 x) := (rowc E02.out).1 3
      have d2_4 : w2.cell? ⟨w.heap.size, 4, none⟩ = some (.slice A0 L0 c0) := (rowc E02.out).1 4
      have x2_0 : w2.cell? ⟨w.heap.size + 1, 0, none⟩ = some (.int .i64 ku) := (rowc E12.out).1 0
      have x2_1 : w2.cell? ⟨w.heap.size + 1, 1, none⟩ = some (.int .i64 nu) := (rowc E12.out).1 1
      have x2_2 : w2.cell? ⟨w.heap.size + 1, 2, none⟩ = some (.string su) := (rowc E12.out).1 2
      have x2_3 : w2.cell? ⟨w.heap.size + 1, 3, none⟩ = some (.int .i64 xu) := (rowc E12.out).1 3
      have x2_4 : w2.cell? ⟨w.heap.size + 1, 4, none⟩ = some (.slice Au Lu cu) := (rowc E12.out).1 4
      go_wp2_with (fail)
      refine (AK.out _ HB2.out).mono ?_
      rintro e w3 ⟨rfl, hb3⟩
      have E03 := Lib.hid (carry hb3 E02.out)
      have E13 := Lib.hid (carry hb3 E12.out)
      have EZ3 := Lib.hid (carry hb3 EZ2.out)
      have HB3 := Lib.hid (bs HB2.out hb3)
      clear hb3
      clear d2_0 x2_0 d2_1 x2_1 d2_2 x2_2 d2_3 x2_3 d2_4 x2_4
      have d3_0 : w3.cell? ⟨w.heap.size, 0, none⟩ = some (.int .i64 k) := (rowc E03.out).1 0
      have d3_1 : w3.cell? ⟨w.heap.size, 1, none⟩ = some (.int .i64 n) := (rowc E03.out).1 1
      have d3_2 : w3.cell? ⟨w.heap.size, 2, none⟩ = some (.string s) := (rowc E03.out).1 2
      have d3_3 : w3.cell? ⟨w.heap.size, 3, none⟩ = some (.int .i64 x) := (rowc E03.out).1 3
      have d3_4 : w3.cell? ⟨w.heap.size, 4, none⟩ = some (.slice A0 L0 c0) := (rowc E03.out).1 4
      have x3_0 : w3.cell? ⟨w.heap.size + 1, 0, none⟩ = some (.int .i64 ku) := (rowc E13.out).1 0
      have x3_1 : w3.cell? ⟨w.heap.size + 1, 1, none⟩ = some (.int .i64 nu) := (rowc E13.out).1 1
      have x3_2 : w3.cell? ⟨w.heap.size + 1, 2, none⟩ = some (.string su) := (rowc E13.out).1 2
      have x3_3 : w3.cell? ⟨w.heap.size + 1, 3, none⟩ = some (.int .i64 xu) := (rowc E13.out).1 3
      have x3_4 : w3.cell? ⟨w.heap.size + 1, 4, none⟩ = some (.slice Au Lu cu) := (rowc E13.out).1 4
      have hA0 : A.map (fun q => q.add 0) = A := by cases A <;> simp [Addr.add]
      go_wp2_with (fail)
      have nz0 : w3.heap.size ≠ w.heap.size := by have := (Array.getElem?_eq_some_iff.1 E03.out).1; omega
      have nz1 : w3.heap.size ≠ w.heap.size + 1 := by have := (Array.getElem?_eq_some_iff.1 E13.out).1; omega
      go_cut [10, 11] (fun px fx wx => CutC w3 (.mk k n s x ks vs) C px fx wx)
      case first =>
        have HW : Hid (Below w3.heap.size w3 w3) := Lib.hid (Below.refl _ _)
        go_region_held3 (fun w' => w'.cell? ⟨w.heap.size, 0, none⟩ = some (.int .i64 k) ∧ w'.cell? ⟨w.heap.size, 1, none⟩ = some (.int .i64 n) ∧ w'.cell? ⟨w.heap.size, 2, none⟩ = some (.string s) ∧ w'.cell? ⟨w.heap.size, 3, none⟩ = some (.int .i64 x) ∧ w'.cell? ⟨w.heap.size, 4, none⟩ = some (.slice A0 L0 c0) ∧ w'.cell? ⟨w.heap.size + 1, 0, none⟩ = some (.int .i64 ku) ∧ w'.cell? ⟨w.heap.size + 1, 1, none⟩ = some (.int .i64 nu) ∧ w'.cell? ⟨w.heap.size + 1, 2, none⟩ = some (.string su) ∧ w'.cell? ⟨w.heap.size + 1, 3, none⟩ = some (.int .i64 xu) ∧ w'.cell? ⟨w.heap.size + 1, 4, none⟩ = some (.slice Au Lu cu)) (go_keep) (first
          | (go_at_call 111
             refine (MN.out _).mono ?_
             rintro e w4 ⟨rfl, rfl⟩)
          | (go_at_call 110
             refine (WR.out _ (by first | exact HB3.out | exact HB3.out.trans ((Below.refl _ _).drew) | exact HB3.out.alloc HB3.out.size _ | exact (HB3.out.trans ((Below.refl _ _).drew)).alloc HB3.out.size _)).mono ?_
             rintro e w4 ⟨up, TP, rfl, hu, hTE, hb⟩
             have hbx : Below w3.heap.size w3 w4 := by first | exact hb | exact bs ((Below.refl _ _).drew) hb | exact bs (b1 _ _) hb | exact bs (bs ((Below.refl _ _).drew) (b1 _ _)) hb
             obtain ⟨K4, N4, Z4, X4, RK4, RV4⟩ := TP
             obtain ⟨A4, c4, rfl, -, -⟩ := hu.out
             obtain ⟨L4, HL4⟩ : ∃ L, Hid (RV4.length = L) := ⟨_, Lib.hid rfl⟩
             rw [HL4.out] at hu ⊢
             have HU4 := Lib.hid hu
             have HTE := Lib.hid hTE
             replace HW := Lib.hid (bs HW.out hbx)
             first | (have ez := Lib.hid (carry hb (heap_alloc_new w3 (.cells #[.int .i64 0, .int .i64 0, .string ⟨#[]⟩, .int .i64 0, .slice none 0 0] IV)))) | (have ez := Lib.hid (carry hb (heap_alloc_new w3.drew (.cells #[.int .i64 0, .int .i64 0, .string ⟨#[]⟩, .int .i64 0, .slice none 0 0] IV)))) | skip
             first | (have zr := (rowc ez.out).1; have zf := (rowc ez.out).2) | skip
             have d4_0 : w4.cell? ⟨w.heap.size, 0, none⟩ = some (.int .i64 k) := (rowc (carry hbx E03.out)).1 0
             have d4_1 : w4.cell? ⟨w.heap.size, 1, none⟩ = some (.int .i64 n) := (rowc (carry hbx E03.out)).1 1
             have d4_2 : w4.cell? ⟨w.heap.size, 2, none⟩ = some (.string s) := (rowc (carry hbx E03.out)).1 2
             have d4_3 : w4.cell? ⟨w.heap.size, 3, none⟩ = some (.int .i64 x) := (rowc (carry hbx E03.out)).1 3
             have d4_4 : w4.cell? ⟨w.heap.size, 4, none⟩ = some (.slice A0 L0 c0) := (rowc (carry hbx E03.out)).1 4
             have x4_0 : w4.cell? ⟨w.heap.size + 1, 0, none⟩ = some (.int .i64 ku) := (rowc (carry hbx E13.out)).1 0
             have x4_1 : w4.cell? ⟨w.heap.size + 1, 1, none⟩ = some (.int .i64 nu) := (rowc (carry hbx E13.out)).1 1
             have x4_2 : w4.cell? ⟨w.heap.size + 1, 2, none⟩ = some (.string su) := (rowc (carry hbx E13.out)).1 2
             have x4_3 : w4.cell? ⟨w.heap.size + 1, 3, none⟩ = some (.int .i64 xu) := (rowc (carry hbx E13.out)).1 3
             have x4_4 : w4.cell? ⟨w.heap.size + 1, 4, none⟩ = some (.slice Au Lu cu) := (rowc (carry hbx E13.out)).1 4
             have nz2 : w4.heap.size ≠ w.heap.size := by have := hbx.size; have := (Array.getElem?_eq_some_iff.1 E03.out).1; omega
             clear hu hb hbx hTE))
        all_goals
          go_wp2_with (fail)
          go_meet
          first
          | with_reducible exact cutC_box HW.out HU4.out (fun h => absurd h hC0)
          | exact cutC_early HW.out (Nat.le_refl _) ez.out HU4.out (fun h => absurd h hC0) rfl
      case rest =>
        obtain ⟨B, K4, N4, Z4, X4, A4, L4, c4, T4, hp, hf, hbx, hNB, en, hv, hTE⟩ := hcut
        subst hp hf
        have HN := Lib.hid en
        have HV4 := Lib.hid hv
        have HTE := Lib.hid hTE
        have EZ4 := Lib.hid (carry hbx EZ3.out)
        have E04 := Lib.hid (carry hbx E03.out)
        have HB4 := Lib.hid (bs HB3.out hbx)
        clear en hv hTE hbx hNB WR MN nz0 nz1 d3_0 x3_0 d3_1 x3_1 d3_2 x3_2 d3_3 x3_3 d3_4 x3_4 hs1 hse
        have d4_0 : wc.cell? ⟨w.heap.size, 0, none⟩ = some (.int .i64 k) := (rowc E04.out).1 0
        have d4_1 : wc.cell? ⟨w.heap.size, 1, none⟩ = some (.int .i64 n) := (rowc E04.out).1 1
        have d4_2 : wc.cell? ⟨w.heap.size, 2, none⟩ = some (.string s) := (rowc E04.out).1 2
        have d4_3 : wc.cell? ⟨w.heap.size, 3, none⟩ = some (.int .i64 x) := (rowc E04.out).1 3
        have d4_4 : wc.cell? ⟨w.heap.size, 4, none⟩ = some (.slice A0 L0 c0) := (rowc E04.out).1 4
        have hc0 : (C != 0) = true := by simpa using hC0
        have hc1 : (C == 0) = false := by simpa using hC0
        go_wp2_with (fail)
        refine (CV.out _ HB4.out).mono ?_
        rintro e w5 ⟨u, par, R, rfl, hu, hR, hb5⟩
        obtain ⟨Az, cz, rfl, -⟩ := hu.out
        rw [HL0.out] at hu ⊢
        have HU := Lib.hid hu
        have HR := Lib.hid hR
        have EZ5 := Lib.hid (carry hb5 EZ4.out)
        have HB5 := Lib.hid (bs HB4.out hb5)
        obtain ⟨rz, fz⟩ := rowc EZ5.out
        clear hu hR hb5
        clear d4_0 d4_1 d4_2 d4_3 d4_4
        go_wp2_with (fail)
        generalize hwF : (((((w5.setCell ⟨w.heap.size + 1 + 1, 0, none⟩ (.int .i64 k)).setCell ⟨w.heap.size + 1 + 1, 1, none⟩ (.int .i64 n)).setCell ⟨w.heap.size + 1 + 1, 2, none⟩ (.string s)).setCell ⟨w.heap.size + 1 + 1, 3, none⟩ (.int .i64 x)).setCell ⟨w.heap.size + 1 + 1, 4, none⟩ (.slice Az L0 cz)) = wF
        obtain ⟨rF, oF, bF⟩ := fill5 EZ5.out hwF
        refine bodyPost_ret (v := .tuple #[vV k n s x Az L0 cz, .int .i64 C]) ?_ rfl ?_
        · simp [results, Tryz.results40, go_sem, rF]
        · have hz : w.heap.size + 1 + 1 < wc.heap.size := (Array.getElem?_eq_some_iff.1 EZ4.out).1
          refine ⟨_, par, R, rfl, ?_, Nat.le_trans HB4.out.size HR.out, bF _ _ (by omega) HB5.out⟩
          exact HU.out.above fun q hq _ => oF q (by have := HR.out; simp at hq; omega)
  · have hR : setPR t ys push u = (t, 5) := by unfold setPR; rw [HV1.out, HV2.out, HV3.out, if_neg hok]
    rw [hR]
    obtain ⟨T0, hT0⟩ : ∃ T, T = t := ⟨_, rfl⟩
    rw [← hT0] at CV ⊢
    clear hT0
    obtain ⟨k, n, s, x, ks, vs⟩ := t
    obtain ⟨A0, c0, rfl, -, -⟩ := h.out
    obtain ⟨L0, HL0⟩ : ∃ L, Hid (vs.length = L) := ⟨_, Lib.hid rfl⟩
    obtain ⟨ku, nu, su, xu, ksu, vsu⟩ := u
    obtain ⟨Au, cu, rfl, -, -⟩ := hu.out
    obtain ⟨Lu, HLu⟩ : ∃ L, Hid (vsu.length = L) := ⟨_, Lib.hid rfl⟩
    rw [HL0.out] at IT CV ⊢
    rw [HLu.out] at IU ⊢
    obtain ⟨L, HL⟩ : ∃ L, Hid (ys.length = L) := ⟨_, Lib.hid rfl⟩
    rw [HL.out] at AK hc ⊢
    clear h hu hk hN hT hfits hE HV1 HV2 HV3
    clear hst hR
    obtain ⟨K, N, Z, X, RK, RV⟩ := T0
    obtain ⟨RL, HRL⟩ : ∃ L, Hid (RV.length = L) := ⟨_, Lib.hid rfl⟩
    cases b1v with
    | false =>
      clear hok
      go_enter Tryz.func40, Tryz.ntmps40
      go_wp2_with (fail)
      obtain ⟨a0, a1, a2, az, ab⟩ := al3 w #[.int .i64 k, .int .i64 n, .string s, .int .i64 x, .slice A0 L0 c0] #[.int .i64 ku, .int .i64 nu, .string su, .int .i64 xu, .slice Au Lu cu] #[.int .i64 0, .int .i64 0, .string ⟨#[]⟩, .int .i64 0, .slice none 0 0] IV IV IV
      refine (IT.out _ ab).mono ?_
      rintro e w1 ⟨rfl, hb1⟩
      have E01 := Lib.hid (carry hb1 a0)
      have E11 := Lib.hid (carry hb1 a1)
      have EZ1 := Lib.hid (carry hb1 a2)
      have HB1 := Lib.hid (bs ab hb1)
      clear a0 a1 a2 az ab hb1
      have d1_0 : w1.cell? ⟨w.heap.size, 0, none⟩ = some (.int .i64 k) := (rowc E01.out).1 0
      have d1_1 : w1.cell? ⟨w.heap.size, 1, none⟩ = some (.int .i64 n) := (rowc E01.out).1 1
      have d1_2 : w1.cell? ⟨w.heap.size, 2, none⟩ = some (.string s) := (rowc E01.out).1 2
      have d1_3 : w1.cell? ⟨w.heap.size, 3, none⟩ = some (.int .i64 x) := (rowc E01.out).1 3
      have d1_4 : w1.cell? ⟨w.heap.size, 4, none⟩ = some (.slice A0 L0 c0) := (rowc E01.out).1 4
      have x1_0 : w1.cell? ⟨w.heap.size + 1, 0, none⟩ = some (.int .i64 ku) := (rowc E11.out).1 0
      have x1_1 : w1.cell? ⟨w.heap.size + 1, 1, none⟩ = some (.int .i64 nu) := (rowc E11.out).1 1
      have x1_2 : w1.cell? ⟨w.heap.size + 1, 2, none⟩ = some (.string su) := (rowc E11.out).1 2
      have x1_3 : w1.cell? ⟨w.heap.size + 1, 3, none⟩ = some (.int .i64 xu) := (rowc E11.out).1 3
      have x1_4 : w1.cell? ⟨w.heap.size + 1, 4, none⟩ = some (.slice Au Lu cu) := (rowc E11.out).1 4
      go_wp2_with (fail)
      refine (CV.out _ HB1.out).mono ?_
      rintro e w2 ⟨u, par, R, rfl, hu, hR, hb2⟩
      obtain ⟨Az, cz, rfl, -⟩ := hu.out
      rw [HRL.out] at hu ⊢
      have HU := Lib.hid hu
      have HR := Lib.hid hR
      have EZ2 := Lib.hid (carry hb2 EZ1.out)
      have HB2 := Lib.hid (bs HB1.out hb2)
      obtain ⟨rz, fz⟩ := rowc EZ2.out
      clear hu hR hb2
      clear d1_0 x1_0 d1_1 x1_1 d1_2 x1_2 d1_3 x1_3 d1_4 x1_4
      go_wp2_with (fail)
      generalize hwF : (((((w2.setCell ⟨w.heap.size + 1 + 1, 0, none⟩ (.int .i64 K)).setCell ⟨w.heap.size + 1 + 1, 1, none⟩ (.int .i64 N)).setCell ⟨w.heap.size + 1 + 1, 2, none⟩ (.string Z)).setCell ⟨w.heap.size + 1 + 1, 3, none⟩ (.int .i64 X)).setCell ⟨w.heap.size + 1 + 1, 4, none⟩ (.slice Az RL cz)) = wF
      obtain ⟨rF, oF, bF⟩ := fill5 EZ2.out hwF
      refine bodyPost_ret (v := .tuple #[vV K N Z X Az RL cz, .int .i64 5]) ?_ rfl ?_
      · simp [results, Tryz.results40, go_sem, rF]
      · have hz : w.heap.size + 1 + 1 < w1.heap.size := (Array.getElem?_eq_some_iff.1 EZ1.out).1
        refine ⟨_, par, R, rfl, ?_, Nat.le_trans HB1.out.size HR.out, bF _ _ (by omega) HB2.out⟩
        exact HU.out.above fun q hq _ => oF q (by have := HR.out; simp at hq; omega)
    | true =>
      cases b2v with
      | false =>
        clear hok
        go_enter Tryz.func40, Tryz.ntmps40
        go_wp2_with (fail)
        obtain ⟨a0, a1, a2, az, ab⟩ := al3 w #[.int .i64 k, .int .i64 n, .string s, .int .i64 x, .slice A0 L0 c0] #[.int .i64 ku, .int .i64 nu, .string su, .int .i64 xu, .slice Au Lu cu] #[.int .i64 0, .int .i64 0, .string ⟨#[]⟩, .int .i64 0, .slice none 0 0] IV IV IV
        refine (IT.out _ ab).mono ?_
        rintro e w1 ⟨rfl, hb1⟩
        have E01 := Lib.hid (carry hb1 a0)
        have E11 := Lib.hid (carry hb1 a1)
        have EZ1 := Lib.hid (carry hb1 a2)
        have HB1 := Lib.hid (bs ab hb1)
        clear a0 a1 a2 az ab hb1
        have d1_0 : w1.cell? ⟨w.heap.size, 0, none⟩ = some (.int .i64 k) := (rowc E01.out).1 0
        have d1_1 : w1.cell? ⟨w.heap.size, 1, none⟩ = some (.int .i64 n) := (rowc E01.out).1 1
        have d1_2 : w1.cell? ⟨w.heap.size, 2, none⟩ = some (.string s) := (rowc E01.out).1 2
        have d1_3 : w1.cell? ⟨w.heap.size, 3, none⟩ = some (.int .i64 x) := (rowc E01.out).1 3
        have d1_4 : w1.cell? ⟨w.heap.size, 4, none⟩ = some (.slice A0 L0 c0) := (rowc E01.out).1 4
        have x1_0 : w1.cell? ⟨w.heap.size + 1, 0, none⟩ = some (.int .i64 ku) := (rowc E11.out).1 0
        have x1_1 : w1.cell? ⟨w.heap.size + 1, 1, none⟩ = some (.int .i64 nu) := (rowc E11.out).1 1
        have x1_2 : w1.cell? ⟨w.heap.size + 1, 2, none⟩ = some (.string su) := (rowc E11.out).1 2
        have x1_3 : w1.cell? ⟨w.heap.size + 1, 3, none⟩ = some (.int .i64 xu) := (rowc E11.out).1 3
        have x1_4 : w1.cell? ⟨w.heap.size + 1, 4, none⟩ = some (.slice Au Lu cu) := (rowc E11.out).1 4
        go_wp2_with (fail)
        refine (IU.out _ HB1.out).mono ?_
        rintro e w2 ⟨rfl, hb2⟩
        have E02 := Lib.hid (carry hb2 E01.out)
        have E12 := Lib.hid (carry hb2 E11.out)
        have EZ2 := Lib.hid (carry hb2 EZ1.out)
        have HB2 := Lib.hid (bs HB1.out hb2)
        clear hb2
        clear d1_0 x1_0 d1_1 x1_1 d1_2 x1_2 d1_3 x1_3 d1_4 x1_4
        have d2_0 : w2.cell? ⟨w.heap.size, 0, none⟩ = some (.int .i64 k) := (rowc E02.out).1 0
        have d2_1 : w2.cell? ⟨w.heap.size, 1, none⟩ = some (.int .i64 n) := (rowc E02.out).1 1
        have d2_2 : w2.cell? ⟨w.heap.size, 2, none⟩ = some (.string s) := (rowc E02.out).1 2
        have d2_3 : w2.cell? ⟨w.heap.size, 3, none⟩ = some (.int .i64 x) := (rowc E02.out).1 3
        have d2_4 : w2.cell? ⟨w.heap.size, 4, none⟩ = some (.slice A0 L0 c0) := (rowc E02.out).1 4
        have x2_0 : w2.cell? ⟨w.heap.size + 1, 0, none⟩ = some (.int .i64 ku) := (rowc E12.out).1 0
        have x2_1 : w2.cell? ⟨w.heap.size + 1, 1, none⟩ = some (.int .i64 nu) := (rowc E12.out).1 1
        have x2_2 : w2.cell? ⟨w.heap.size + 1, 2, none⟩ = some (.string su) := (rowc E12.out).1 2
        have x2_3 : w2.cell? ⟨w.heap.size + 1, 3, none⟩ = some (.int .i64 xu) := (rowc E12.out).1 3
        have x2_4 : w2.cell? ⟨w.heap.size + 1, 4, none⟩ = some (.slice Au Lu cu) := (rowc E12.out).1 4
        go_wp2_with (fail)
        refine (CV.out _ HB2.out).mono ?_
        rintro e w3 ⟨u, par, R, rfl, hu, hR, hb3⟩
        obtain ⟨Az, cz, rfl, -⟩ := hu.out
        rw [HRL.out] at hu ⊢
        have HU := Lib.hid hu
        have HR := Lib.hid hR
        have EZ3 := Lib.hid (carry hb3 EZ2.out)
        have HB3 := Lib.hid (bs HB2.out hb3)
        obtain ⟨rz, fz⟩ := rowc EZ3.out
        clear hu hR hb3
        clear d2_0 x2_0 d2_1 x2_1 d2_2 x2_2 d2_3 x2_3 d2_4 x2_4
        go_wp2_with (fail)
        generalize hwF : (((((w3.setCell ⟨w.heap.size + 1 + 1, 0, none⟩ (.int .i64 K)).setCell ⟨w.heap.size + 1 + 1, 1, none⟩ (.int .i64 N)).setCell ⟨w.heap.size + 1 + 1, 2, none⟩ (.string Z)).setCell ⟨w.heap.size + 1 + 1, 3, none⟩ (.int .i64 X)).setCell ⟨w.heap.size + 1 + 1, 4, none⟩ (.slice Az RL cz)) = wF
        obtain ⟨rF, oF, bF⟩ := fill5 EZ3.out hwF
        refine bodyPost_ret (v := .tuple #[vV K N Z X Az RL cz, .int .i64 5]) ?_ rfl ?_
        · simp [results, Tryz.results40, go_sem, rF]
        · have hz : w.heap.size + 1 + 1 < w2.heap.size := (Array.getElem?_eq_some_iff.1 EZ2.out).1
          refine ⟨_, par, R, rfl, ?_, Nat.le_trans HB2.out.size HR.out, bF _ _ (by omega) HB3.out⟩
          exact HU.out.above fun q hq _ => oF q (by have := HR.out; simp at hq; omega)
      | true =>
        cases b3v with
        | true => exact absurd rfl hok
        | false =>
          clear hok
          go_enter Tryz.func40, Tryz.ntmps40
          go_wp2_with (fail)
          obtain ⟨a0, a1, a2, az, ab⟩ := al3 w #[.int .i64 k, .int .i64 n, .string s, .int .i64 x, .slice A0 L0 c0] #[.int .i64 ku, .int .i64 nu, .string su, .int .i64 xu, .slice Au Lu cu] #[.int .i64 0, .int .i64 0, .string ⟨#[]⟩, .int .i64 0, .slice none 0 0] IV IV IV
          refine (IT.out _ ab).mono ?_
          rintro e w1 ⟨rfl, hb1⟩
          have E01 := Lib.hid (carry hb1 a0)
          have E11 := Lib.hid (carry hb1 a1)
          have EZ1 := Lib.hid (carry hb1 a2)
          have HB1 := Lib.hid (bs ab hb1)
          clear a0 a1 a2 az ab hb1
          have d1_0 : w1.cell? ⟨w.heap.size, 0, none⟩ = some (.int .i64 k) := (rowc E01.out).1 0
          have d1_1 : w1.cell? ⟨w.heap.size, 1, none⟩ = some (.int .i64 n) := (rowc E01.out).1 1
          have d1_2 : w1.cell? ⟨w.heap.size, 2, none⟩ = some (.string s) := (rowc E01.out).1 2
          have d1_3 : w1.cell? ⟨w.heap.size, 3, none⟩ = some (.int .i64 x) := (rowc E01.out).1 3
          have d1_4 : w1.cell? ⟨w.heap.size, 4, none⟩ = some (.slice A0 L0 c0) := (rowc E01.out).1 4
          have x1_0 : w1.cell? ⟨w.heap.size + 1, 0, none⟩ = some (.int .i64 ku) := (rowc E11.out).1 0
          have x1_1 : w1.cell? ⟨w.heap.size + 1, 1, none⟩ = some (.int .i64 nu) := (rowc E11.out).1 1
          have x1_2 : w1.cell? ⟨w.heap.size + 1, 2, none⟩ = some (.string su) := (rowc E11.out).1 2
          have x1_3 : w1.cell? ⟨w.heap.size + 1, 3, none⟩ = some (.int .i64 xu) := (rowc E11.out).1 3
          have x1_4 : w1.cell? ⟨w.heap.size + 1, 4, none⟩ = some (.slice Au Lu cu) := (rowc E11.out).1 4
          go_wp2_with (fail)
          refine (IU.out _ HB1.out).mono ?_
          rintro e w2 ⟨rfl, hb2⟩
          have E02 := Lib.hid (carry hb2 E01.out)
          have E12 := Lib.hid (carry hb2 E11.out)
          have EZ2 := Lib.hid (carry hb2 EZ1.out)
          have HB2 := Lib.hid (bs HB1.out hb2)
          clear hb2
          clear d1_0 x1_0 d1_1 x1_1 d1_2 x1_2 d1_3 x1_3 d1_4 x1_4
          have d2_0 : w2.cell? ⟨w.heap.size, 0, none⟩ = some (.int .i64 k) := (rowc E02.out).1 0
          have d2_1 : w2.cell? ⟨w.heap.size, 1, none⟩ = some (.int .i64 n) := (rowc E02.out).1 1
          have d2_2 : w2.cell? ⟨w.heap.size, 2, none⟩ = some (.string s) := (rowc E02.out).1 2
          have d2_3 : w2.cell? ⟨w.heap.size, 3, none⟩ = some (.int .i64 x) := (rowc E02.out).1 3
          have d2_4 : w2.cell? ⟨w.heap.size, 4, none⟩ = some (.slice A0 L0 c0) := (rowc E02.out).1 4
          have x2_0 : w2.cell? ⟨w.heap.size + 1, 0, none⟩ = some (.int .i64 ku) := (rowc E12.out).1 0
          have x2_1 : w2.cell? ⟨w.heap.size + 1, 1, none⟩ = some (.int .i64 nu) := (rowc E12.out).1 1
          have x2_2 : w2.cell? ⟨w.heap.size + 1, 2, none⟩ = some (.string su) := (rowc E12.out).1 2
          have x2_3 : w2.cell? ⟨w.heap.size + 1, 3, none⟩ = some (.int .i64 xu) := (rowc E12.out).1 3
          have x2_4 : w2.cell? ⟨w.heap.size + 1, 4, none⟩ = some (.slice Au Lu cu) := (rowc E12.out).1 4
          go_wp2_with (fail)
          refine (AK.out _ HB2.out).mono ?_
          rintro e w3 ⟨rfl, hb3⟩
          have E03 := Lib.hid (carry hb3 E02.out)
          have E13 := Lib.hid (carry hb3 E12.out)
          have EZ3 := Lib.hid (carry hb3 EZ2.out)
          have HB3 := Lib.hid (bs HB2.out hb3)
          clear hb3
          clear d2_0 x2_0 d2_1 x2_1 d2_2 x2_2 d2_3 x2_3 d2_4 x2_4
          have d3_0 : w3.cell? ⟨w.heap.size, 0, none⟩ = some (.int .i64 k) := (rowc E03.out).1 0
          have d3_1 : w3.cell? ⟨w.heap.size, 1, none⟩ = some (.int .i64 n) := (rowc E03.out).1 1
          have d3_2 : w3.cell? ⟨w.heap.size, 2, none⟩ = some (.string s) := (rowc E03.out).1 2
          have d3_3 : w3.cell? ⟨w.heap.size, 3, none⟩ = some (.int .i64 x) := (rowc E03.out).1 3
          have d3_4 : w3.cell? ⟨w.heap.size, 4, none⟩ = some (.slice A0 L0 c0) := (rowc E03.out).1 4
          have x3_0 : w3.cell? ⟨w.heap.size + 1, 0, none⟩ = some (.int .i64 ku) := (rowc E13.out).1 0
          have x3_1 : w3.cell? ⟨w.heap.size + 1, 1, none⟩ = some (.int .i64 nu) := (rowc E13.out).1 1
          have x3_2 : w3.cell? ⟨w.heap.size + 1, 2, none⟩ = some (.string su) := (rowc E13.out).1 2
          have x3_3 : w3.cell? ⟨w.heap.size + 1, 3, none⟩ = some (.int .i64 xu) := (rowc E13.out).1 3
          have x3_4 : w3.cell? ⟨w.heap.size + 1, 4, none⟩ = some (.slice Au Lu cu) := (rowc E13.out).1 4
          go_wp2_with (fail)
          refine (CV.out _ HB3.out).mono ?_
          rintro e w4 ⟨u, par, R, rfl, hu, hR, hb4⟩
          obtain ⟨Az, cz, rfl, -⟩ := hu.out
          rw [HRL.out] at hu ⊢
          have HU := Lib.hid hu
          have HR := Lib.hid hR
          have EZ4 := Lib.hid (carry hb4 EZ3.out)
          have HB4 := Lib.hid (bs HB3.out hb4)
          obtain ⟨rz, fz⟩ := rowc EZ4.out
          clear hu hR hb4
          clear d3_0 x3_0 d3_1 x3_1 d3_2 x3_2 d3_3 x3_3 d3_4 x3_4
          go_wp2_with (fail)
          generalize hwF : (((((w4.setCell ⟨w.heap.size + 1 + 1, 0, none⟩ (.int .i64 K)).setCell ⟨w.heap.size + 1 + 1, 1, none⟩ (.int .i64 N)).setCell ⟨w.heap.size + 1 + 1, 2, none⟩ (.string Z)).setCell ⟨w.heap.size + 1 + 1, 3, none⟩ (.int .i64 X)).setCell ⟨w.heap.size + 1 + 1, 4, none⟩ (.slice Az RL cz)) = wF
          obtain ⟨rF, oF, bF⟩ := fill5 EZ4.out hwF
          refine bodyPost_ret (v := .tuple #[vV K N Z X Az RL cz, .int .i64 5]) ?_ rfl ?_
          · simp [results, Tryz.results40, go_sem, rF]
          · have hz : w.heap.size + 1 + 1 < w3.heap.size := (Array.getElem?_eq_some_iff.1 EZ3.out).1
            refine ⟨_, par, R, rfl, ?_, Nat.le_trans HB3.out.size HR.out, bF _ _ (by omega) HB4.out⟩
            exact HU.out.above fun q hq _ => oF q (by have := HR.out; simp at hq; omega)

end Go.Proofs.YtbgffmiffmmohaaGreatDoor.tree

/-
  Writing at the end of a path, of the model.
  Conditions: the values hold at most 10^9 values with the keys; the keys' numbers are in range.
-/
namespace Go.Proofs.YtbgffmiffmmohaaGreatDoor.tree
open Go.ChangeShapes Go.WideShapes Go.ChangeAt Go.RowKit
set_option linter.unusedVariables false

def OutW (w : World) (r : Tr × Int) (e : Ending) (w' : World) : Prop := ∃ u, e = .returned (.tuple #[u, .int .i64 r.2]) ∧ TIn w' (fun _ => True) r.1 u ∧ Below w.heap.size w w'
theorem arrVs (w : World) : Calls Tryz.prog 148 #[] w (GivesQ w (vV 4 0 ⟨#[]⟩ 0 none 0 0)) := by
  go_enter Tryz.func148, Tryz.ntmps148
  go_wp2
  exact bodyPost_ret (v := vV 4 0 ⟨#[]⟩ 0 none 0 0) (by simp [results, Tryz.results148, go_sem]) rfl ⟨rfl, b1 _ _⟩

theorem retW {w w1 wF : World} {R : Nat} {K N X code : Int} {Z : ByteArray} {A : Option Addr} {RL c : Nat} {RT : Tr} (hb : Below w.heap.size w w1) (hR : w.heap.size ≤ R) (hz : w1.heap[R]? = some (.cells #[.int .i64 0, .int .i64 0, .string ⟨#[]⟩, .int .i64 0, .slice none 0 0] IV (0, 0))) (hv : TIn w1 (fun _ => True) RT (vV K N Z X A RL c))
    (hF : (((((w1.setCell ⟨R, 0, none⟩ (.int .i64 K)).setCell ⟨R, 1, none⟩ (.int .i64 N)).setCell ⟨R, 2, none⟩ (.string Z)).setCell ⟨R, 3, none⟩ (.int .i64 X)).setCell ⟨R, 4, none⟩ (.slice A RL c)) = wF) :
    (∀ j, wF.cell? ⟨R, j, none⟩ = (#[Value.int .i64 K, .int .i64 N, .string Z, .int .i64 X, .slice A RL c] : Array Value)[j]?) ∧ OutW w (RT, code) (.returned (.tuple #[vV K N Z X A RL c, .int .i64 code])) wF := by
  obtain ⟨rF, oF, bF⟩ := fill5 hz hF
  exact ⟨rF, _, rfl, (hv.nobox hz (fun b h => by cases h)).stays (fun _ _ => trivial) (fun b hb _ => oF b hb.2), bF _ _ hR hb⟩

set_option maxRecDepth 100000 in
set_option maxHeartbeats 8000000 in
theorem l12Set_nil (t u : Tr) (v vu : Value) (push : Bool) (A : Option Addr) (c : Nat) (w : World) (h : TIn w (fun _ => True) t v) (hu : TIn w (fun _ => True) u vu) (hN : cnt t ≤ 1000000000) : Calls Tryz.prog 180 #[v, .slice A 0 c, .bool push, vu] w (OutW w (setP t [] push u)) := by
  have hco := (cnt_opn t).1
  have IN := Lib.hid (fun n w' => nums.l1In n 0 1000000000 w')
  have AV := Lib.hid arrVs
  obtain ⟨k, n, s, x, ks, vs⟩ := t
  obtain ⟨A0, c0, rfl, -, -⟩ := h.out
  obtain ⟨L0, HL0⟩ : ∃ L, Hid (vs.length = L) := ⟨_, Lib.hid rfl⟩
  obtain ⟨ku, nu, su, xu, ksu, vsu⟩ := u
  obtain ⟨Au, cu, rfl, -, -⟩ := hu.out
  obtain ⟨Lu, HLu⟩ : ∃ L, Hid (vsu.length = L) := ⟨_, Lib.hid rfl⟩
  rw [HL0.out] at h ⊢
  rw [HLu.out] at hu ⊢
  have HT := Lib.hid h
  have HTU := Lib.hid hu
  clear h hu
  cases push with
  | false =>
    rw [setP_nil, if_neg (by decide)]
    clear hco hN
    go_enter Tryz.func180, Tryz.ntmps180
    go_wp2_with (fail)
    obtain ⟨a0, a1, a2, az, ab⟩ := al3 w #[.int .i64 k, .int .i64 n, .string s, .int .i64 x, .slice A0 L0 c0] #[.int .i64 ku, .int .i64 nu, .string su, .int .i64 xu, .slice Au Lu cu] #[.int .i64 ku, .int .i64 nu, .string su, .int .i64 xu, .slice Au Lu cu] IV IV IV
    have rF := (rowc a2).1
    refine bodyPost_ret (v := .tuple #[vV ku nu su xu Au Lu cu, .int .i64 0]) ?_ rfl ?_
    · simp [results, Tryz.results180, go_sem, rF]
    · exact ⟨_, rfl, (HTU.out.below' ab).stays (fun _ _ => trivial) (fun _ _ _ => rfl), ab⟩
  | true =>
    rw [setP_nil, if_pos rfl]
    by_cases h0 : k = 0
    · subst h0
      rw [opn_zero, if_pos (show knd arrT = 4 from rfl), show nums.inr (nex arrT) 0 1000000000 = true from rfl, if_pos rfl]
      have HS6 : Hid (∀ w', Below w.heap.size w w' → Calls Tryz.prog 84 #[vV 4 0 ⟨#[]⟩ 0 none 0 0, .agg #[.bool false, .int .i64 0, .string ⟨#[]⟩], vV ku nu su xu Au Lu cu] w' (OutV w' (setT arrT ⟨false, 0, ⟨#[]⟩⟩ (.mk ku nu su xu ksu vsu)) (fun _ => True))) := Lib.hid fun w' hb => l6Set_g arrT _ ⟨false, 0, ⟨#[]⟩⟩ _ _ w' (fun _ => True) (flat ⟨by unfold I64; omega, by unfold I64; omega, by unfold I64; omega, Nat.zero_le _⟩ _ _ none 0 (Nat.zero_le _)) (HTU.out.below' hb) ⟨by show I64 0; unfold I64; omega, Nat.zero_le _⟩ (by unfold arrT; rw [cnt_mk', cnts_nil]; omega) (fun _ _ _ _ _ _ e => by cases e; rfl) (fun _ _ => by show (0 : Int) < _; omega)
      obtain ⟨R, hR⟩ : ∃ R, R = setT arrT ⟨false, 0, ⟨#[]⟩⟩ (.mk ku nu su xu ksu vsu) := ⟨_, rfl⟩
      rw [show pky arrT = ⟨false, 0, ⟨#[]⟩⟩ from rfl]
      rw [← hR] at HS6 ⊢
      clear hR hN hco
      obtain ⟨K, N, Z, X, RK, RV⟩ := R
      obtain ⟨RL, HRL⟩ : ∃ L, Hid (RV.length = L) := ⟨_, Lib.hid rfl⟩
      go_enter Tryz.func180, Tryz.ntmps180
      go_wp2_with (fail)
      obtain ⟨a0, a1, a2, az, ab⟩ := al3 w #[.int .i64 0, .int .i64 n, .string s, .int .i64 x, .slice A0 L0 c0] #[.int .i64 ku, .int .i64 nu, .string su, .int .i64 xu, .slice Au Lu cu] #[.int .i64 0, .int .i64 0, .string ⟨#[]⟩, .int .i64 0, .slice none 0 0] IV IV IV
      refine (AV.out _).mono ?_
      rintro e w1 ⟨rfl, hb1⟩
      have E01 := Lib.hid (carry hb1 a0)
      have E11 := Lib.hid (carry hb1 a1)
      have EZ1 := Lib.hid (carry hb1 a2)
      have HB1 := Lib.hid (bs ab hb1)
      obtain ⟨r0, f0⟩ := rowc E01.out
      clear hb1 a0 a1 a2 az ab
      go_upto_region 5 with (fail)
      generalize hwG : (((((w1.setCell ⟨w.heap.size, 0, none⟩ (.int .i64 4)).setCell ⟨w.heap.size, 1, none⟩ (.int .i64 0)).setCell ⟨w.heap.size, 2, none⟩ (.string ⟨#[]⟩)).setCell ⟨w.heap.size, 3, none⟩ (.int .i64 0)).setCell ⟨w.heap.size, 4, none⟩ (.slice none 0 0)) = W0
      obtain ⟨-, oG, bG⟩ := fill5 E01.out hwG
      have E0 : Hid (W0.heap[w.heap.size]? = some (.cells #[.int .i64 4, .int .i64 0, .string ⟨#[]⟩, .int .i64 0, .slice none 0 0] IV (0, 0))) := Lib.hid (by
        rw [← hwG]
        have := set_heap (set_heap (set_heap (set_heap (set_heap E01.out 0 (.int .i64 4)) 1 (.int .i64 0)) 2 (.string ⟨#[]⟩)) 3 (.int .i64 0)) 4 (.slice none 0 0)
        simpa using this)
      have E1 := Lib.hid ((oG _ (by omega)).trans E11.out)
      have EZ := Lib.hid ((oG _ (by omega)).trans EZ1.out)
      have HB0 := Lib.hid (bG _ _ (Nat.le_refl _) HB1.out)
      clear r0 f0 hwG oG bG E01 E11 EZ1 HB1
      obtain ⟨r0, f0⟩ := rowc E0.out
      obtain ⟨r1, f1⟩ := rowc E1.out
      go_wp2_with (fail)
      refine (IN.out _ _).mono ?_
      rintro e w1 ⟨rfl, rfl⟩
      rw [show nums.inr 0 0 1000000000 = true from rfl]
      go_wp2_with (fail)
      refine (HS6.out _ HB0.out).mono ?_
      rintro e w2 ⟨z, rfl, hz, hb2⟩
      obtain ⟨Az, cz, rfl, -, -⟩ := hz.out
      rw [HRL.out] at hz ⊢
      have HZV := Lib.hid hz
      have EZ2 := Lib.hid (carry hb2 EZ.out)
      have HB2 := Lib.hid (bs HB0.out hb2)
      obtain ⟨rz, fz⟩ := rowc EZ2.out
      clear hz hb2 r0 f0 r1 f1
      go_wp2_with (fail)
      generalize hwF : (((((w2.setCell ⟨w.heap.size + 1 + 1, 0, none⟩ (.int .i64 K)).setCell ⟨w.heap.size + 1 + 1, 1, none⟩ (.int .i64 N)).setCell ⟨w.heap.size + 1 + 1, 2, none⟩ (.string Z)).setCell ⟨w.heap.size + 1 + 1, 3, none⟩ (.int .i64 X)).setCell ⟨w.heap.size + 1 + 1, 4, none⟩ (.slice Az RL cz)) = wF
      obtain ⟨rF, hov⟩ := retW (code := 0) HB2.out (by omega) EZ2.out HZV.out hwF
      refine bodyPost_ret (v := .tuple #[vV K N Z X Az RL cz, .int .i64 0]) ?_ rfl hov
      simp [results, Tryz.results180, go_sem, rF]
    · by_cases h4 : k = 4
      · subst h4
        rw [opn_ne h0, if_pos (show knd (.mk 4 n s x ks vs) = 4 from rfl), show nex (.mk 4 n s x ks vs) = x from rfl, show pky (.mk 4 n s x ks vs) = ⟨false, x, ⟨#[]⟩⟩ from rfl]
        rw [opn_ne h0] at hco
        by_cases hin : nums.inr x 0 1000000000 = true
        · rw [if_pos hin]
          have hx : 0 ≤ x ∧ x ≤ 1000000000 := by unfold nums.inr at hin; simpa using hin
          have HS6 : Hid (∀ w', Below w.heap.size w w' → Calls Tryz.prog 84 #[vV 4 n s x A0 L0 c0, .agg #[.bool false, .int .i64 x, .string ⟨#[]⟩], vV ku nu su xu Au Lu cu] w' (OutV w' (setT (.mk 4 n s x ks vs) ⟨false, x, ⟨#[]⟩⟩ (.mk ku nu su xu ksu vsu)) (fun _ => True))) := Lib.hid fun w' hb => l6Set_g _ _ ⟨false, x, ⟨#[]⟩⟩ _ _ w' (fun _ => True) (HT.out.below' hb) (HTU.out.below' hb) ⟨by show I64 x; unfold I64; omega, Nat.zero_le _⟩ hN (fun _ _ _ _ _ _ e => by cases e; rfl) (fun _ _ => by show x < _; omega)
          obtain ⟨R, hR⟩ : ∃ R, R = setT (.mk 4 n s x ks vs) ⟨false, x, ⟨#[]⟩⟩ (.mk ku nu su xu ksu vsu) := ⟨_, rfl⟩
          rw [← hR] at HS6 ⊢
          clear hR hN hco
          obtain ⟨K, N, Z, X, RK, RV⟩ := R
          obtain ⟨RL, HRL⟩ : ∃ L, Hid (RV.length = L) := ⟨_, Lib.hid rfl⟩
          go_enter Tryz.func180, Tryz.ntmps180
          go_wp2_with (fail)
          obtain ⟨a0, a1, a2, az, ab⟩ := al3 w #[.int .i64 4, .int .i64 n, .string s, .int .i64 x, .slice A0 L0 c0] #[.int .i64 ku, .int .i64 nu, .string su, .int .i64 xu, .slice Au Lu cu] #[.int .i64 0, .int .i64 0, .string ⟨#[]⟩, .int .i64 0, .slice none 0 0] IV IV IV
          refine (IN.out _ _).mono ?_
          rintro e w1 ⟨rfl, rfl⟩
          rw [hin]
          obtain ⟨r0, f0⟩ := rowc a0
          obtain ⟨r1, f1⟩ := rowc a1
          go_wp2_with (fail)
          refine (HS6.out _ ab).mono ?_
          rintro e w2 ⟨z, rfl, hz, hb2⟩
          obtain ⟨Az, cz, rfl, -, -⟩ := hz.out
          rw [HRL.out] at hz ⊢
          have HZV := Lib.hid hz
          have EZ2 := Lib.hid (carry hb2 a2)
          have HB2 := Lib.hid (bs ab hb2)
          obtain ⟨rz, fz⟩ := rowc EZ2.out
          clear hz hb2 r0 f0 r1 f1 a0 a1 a2 az ab
          go_wp2_with (fail)
          generalize hwF : (((((w2.setCell ⟨w.heap.size + 1 + 1, 0, none⟩ (.int .i64 K)).setCell ⟨w.heap.size + 1 + 1, 1, none⟩ (.int .i64 N)).setCell ⟨w.heap.size + 1 + 1, 2, none⟩ (.string Z)).setCell ⟨w.heap.size + 1 + 1, 3, none⟩ (.int .i64 X)).setCell ⟨w.heap.size + 1 + 1, 4, none⟩ (.slice Az RL cz)) = wF
          obtain ⟨rF, hov⟩ := retW (code := 0) HB2.out (by omega) EZ2.out HZV.out hwF
          refine bodyPost_ret (v := .tuple #[vV K N Z X Az RL cz, .int .i64 0]) ?_ rfl hov
          simp [results, Tryz.results180, go_sem, rF]
        · rw [if_neg hin]
          replace hin : nums.inr x 0 1000000000 = false := by simpa using hin
          clear hN hco
          go_enter Tryz.func180, Tryz.ntmps180
          go_wp2_with (fail)
          obtain ⟨a0, a1, a2, az, ab⟩ := al3 w #[.int .i64 4, .int .i64 n, .string s, .int .i64 x, .slice A0 L0 c0] #[.int .i64 ku, .int .i64 nu, .string su, .int .i64 xu, .slice Au Lu cu] #[.int .i64 0, .int .i64 0, .string ⟨#[]⟩, .int .i64 0, .slice none 0 0] IV IV IV
          refine (IN.out _ _).mono ?_
          rintro e w1 ⟨rfl, rfl⟩
          rw [hin]
          obtain ⟨r0, f0⟩ := rowc a0
          clear a1 a2 az ab
          go_wp2_with (fail)
          obtain ⟨a0, a1, a2, az, ab⟩ := al3 w #[.int .i64 4, .int .i64 n, .string s, .int .i64 x, .slice A0 L0 c0] #[.int .i64 ku, .int .i64 nu, .string su, .int .i64 xu, .slice Au Lu cu] #[.int .i64 4, .int .i64 n, .string s, .int .i64 x, .slice A0 L0 c0] IV IV IV
          have rF := (rowc a2).1
          refine bodyPost_ret (v := .tuple #[vV 4 n s x A0 L0 c0, .int .i64 7]) ?_ rfl ?_
          · simp [results, Tryz.results180, go_sem, rF]
          · exact ⟨_, rfl, (HT.out.below' ab).stays (fun _ _ => trivial) (fun _ _ _ => rfl), ab⟩
      · rw [opn_ne h0, if_neg (show ¬ knd (.mk k n s x ks vs) = 4 from h4)]
        clear hN hco
        go_enter Tryz.func180, Tryz.ntmps180
        go_wp2_with (fail)
        obtain ⟨a0, a1, a2, az, ab⟩ := al3 w #[.int .i64 k, .int .i64 n, .string s, .int .i64 x, .slice A0 L0 c0] #[.int .i64 ku, .int .i64 nu, .string su, .int .i64 xu, .slice Au Lu cu] #[.int .i64 k, .int .i64 n, .string s, .int .i64 x, .slice A0 L0 c0] IV IV IV
        have rF := (rowc a2).1
        refine bodyPost_ret (v := .tuple #[vV k n s x A0 L0 c0, .int .i64 6]) ?_ rfl ?_
        · simp [results, Tryz.results180, go_sem, rF]
        · exact ⟨_, rfl, (HT.out.below' ab).stays (fun _ _ => trivial) (fun _ _ _ => rfl), ab⟩
end Go.Proofs.YtbgffmiffmmohaaGreatDoor.tree

