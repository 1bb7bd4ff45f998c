/-
  Texts as lists of bytes: how they are escaped in each context, how they are read back, and that reading back undoes escaping.
  Conditions: none.
-/
import Derived.Lib.Strings
import Derived.Lib.Bytealg
namespace Go.Proofs.YtofdnpbmanonpaaDoor.esc
set_option linter.unusedVariables false

/-- An upper-case hexadecimal digit, and the two of a byte. -/
def dig (n : Nat) : UInt8 := UInt8.ofNat (if n < 10 then 48 + n else 55 + n)
def pair (c : UInt8) : List UInt8 := [dig (c.toNat / 16), dig (c.toNat % 16)]

/-- What stands for a byte; nothing where it stands for itself. -/
def ents : List (UInt8 × List UInt8) := [(38, [38, 97, 109, 112, 59]), (60, [38, 108, 116, 59]), (62, [38, 103, 116, 59]), (34, [38, 113, 117, 111, 116, 59]), (39, [38, 35, 51, 57, 59])]
def ent (c : UInt8) : List UInt8 :=
  if c.toNat = 38 then [38, 97, 109, 112, 59] else if c.toNat = 60 then [38, 108, 116, 59] else if c.toNat = 62 then [38, 103, 116, 59]
  else if c.toNat = 34 then [38, 113, 117, 111, 116, 59] else if c.toNat = 39 then [38, 35, 51, 57, 59] else []
def Plain (n : Nat) : Prop := (65 ≤ n ∧ n ≤ 90) ∨ (97 ≤ n ∧ n ≤ 122) ∨ (48 ≤ n ∧ n ≤ 57) ∨ n = 45 ∨ n = 95 ∨ n = 46 ∨ n = 126
instance (n : Nat) : Decidable (Plain n) := by unfold Plain; infer_instance
def urlQ (c : UInt8) : List UInt8 := if Plain c.toNat then [] else 37 :: pair c
def Bare (n : Nat) : Prop := (32 ≤ n ∧ n ≤ 126) ∧ n ≠ 92 ∧ n ≠ 39 ∧ n ≠ 34 ∧ n ≠ 60 ∧ n ≠ 62 ∧ n ≠ 38
instance (n : Nat) : Decidable (Bare n) := by unfold Bare; infer_instance
def scrQ (c : UInt8) : List UInt8 := if Bare c.toNat then [] else 92 :: 120 :: pair c

def fill (q : UInt8 → List UInt8) (c : UInt8) : List UInt8 := if q c = [] then [c] else q c
def esc (q : UInt8 → List UInt8) (l : List UInt8) : List UInt8 := l.flatMap (fill q)
theorem fill_nil {q : UInt8 → List UInt8} {c : UInt8} (h : q c = []) : fill q c = [c] := if_pos h
theorem fill_not {q : UInt8 → List UInt8} {c : UInt8} (h : q c ≠ []) : fill q c = q c := if_neg h
theorem esc_nil (q) : esc q [] = [] := rfl
theorem esc_cons (q) (c : UInt8) (l : List UInt8) : esc q (c :: l) = fill q c ++ esc q l := by simp [esc]
theorem esc_app (q) (a b : List UInt8) : esc q (a ++ b) = esc q a ++ esc q b := by simp [esc]
theorem esc_one (q) (c : UInt8) : esc q [c] = fill q c := by simp [esc]
theorem esc_step (q) (l : List UInt8) (i : Nat) (h : i < l.length) : esc q (l.take (i + 1)) = esc q (l.take i) ++ fill q (l[i]'h) := by
  rw [List.take_succ_eq_append_getElem h, esc_app, esc_one]
theorem fill_pos (q) (c : UInt8) : 1 ≤ (fill q c).length := by
  unfold fill; split
  · simp
  · rename_i h; exact Nat.pos_of_ne_zero (by simpa using h)
theorem fill_ne (q) (c : UInt8) : fill q c ≠ [] := fun h => by have := fill_pos q c; rw [h] at this; simp at this

/-- At most six bytes stand for one. -/
def Six (q : UInt8 → List UInt8) : Prop := ∀ c, (q c).length ≤ 6
theorem six_ent : Six ent := fun c => by
  have key : ∀ n, n < 256 → (ent (UInt8.ofNat n)).length ≤ 6 := by decide +kernel
  have := key c.toNat c.toNat_lt
  rwa [UInt8.ofNat_toNat] at this
theorem six_url : Six urlQ := fun c => by unfold urlQ pair; split <;> simp
theorem six_scr : Six scrQ := fun c => by unfold scrQ pair; split <;> simp
theorem Six.fill {q} (h : Six q) (c : UInt8) : (fill q c).length ≤ 6 := by
  unfold esc.fill; split
  · simp
  · exact h c
theorem Six.esc {q} (h : Six q) (l : List UInt8) : (esc q l).length ≤ 6 * l.length := by
  induction l with
  | nil => simp [esc_nil]
  | cons c l ih => rw [esc_cons, List.length_append, List.length_cons]; have := h.fill c; omega
theorem Six.take {q} (h : Six q) (l : List UInt8) (i : Nat) : (esc.esc q (l.take i)).length ≤ 6 * i := by
  have := h.esc (l.take i)
  rw [List.length_take] at this
  omega

/-- A hexadecimal digit's value; lower-case ones only where 'small'. -/
def hexv (small : Bool) (c : UInt8) : Option Nat :=
  if 48 ≤ c.toNat ∧ c.toNat ≤ 57 then some (c.toNat - 48) else if 65 ≤ c.toNat ∧ c.toNat ≤ 70 then some (c.toNat - 55)
  else if small = true ∧ 97 ≤ c.toNat ∧ c.toNat ≤ 102 then some (c.toNat - 87) else none
def two (small : Bool) : List UInt8 → Option UInt8
  | a :: b :: _ => (hexv small a).bind fun x => (hexv small b).map fun y => UInt8.ofNat (16 * x + y)
  | _ => none
theorem hexv_lt {s : Bool} {c : UInt8} {x : Nat} (h : hexv s c = some x) : x < 16 := by
  unfold hexv at h
  split at h
  · cases h; omega
  · split at h
    · cases h; omega
    · split at h
      · cases h; omega
      · cases h
theorem hexv_dig (s : Bool) : ∀ k, k < 16 → hexv s (dig k) = some k := by cases s <;> decide
theorem dig_of_hexv {c : UInt8} {x : Nat} (h : hexv false c = some x) : dig x = c := by
  have key : ∀ n, n < 256 → ∀ x, hexv false (UInt8.ofNat n) = some x → dig x = UInt8.ofNat n := by
    have : ∀ n, n < 256 → (hexv false (UInt8.ofNat n)).all (fun x => decide (dig x = UInt8.ofNat n)) = true := by decide +kernel
    intro n hn x hx
    have h2 := this n hn
    rw [hx] at h2
    simpa using h2
  have := key c.toNat c.toNat_lt x (by rw [UInt8.ofNat_toNat]; exact h)
  rwa [UInt8.ofNat_toNat] at this
theorem hexv_small {c : UInt8} {x : Nat} (h : hexv false c = some x) : hexv true c = some x := by
  unfold hexv at h ⊢
  split at h
  · rename_i hc; rw [if_pos hc]; exact h
  · rename_i hc
    rw [if_neg hc]
    split at h
    · rename_i hd; rw [if_pos hd]; exact h
    · simp at h
theorem two_pair (s : Bool) (c : UInt8) (r : List UInt8) : two s (pair c ++ r) = some c := by
  have hc := c.toNat_lt
  show ((hexv s (dig (c.toNat / 16))).bind fun x => (hexv s (dig (c.toNat % 16))).map fun y => UInt8.ofNat (16 * x + y)) = some c
  rw [hexv_dig s _ (by omega), hexv_dig s _ (by omega)]
  show some (UInt8.ofNat (16 * (c.toNat / 16) + c.toNat % 16)) = some c
  rw [show 16 * (c.toNat / 16) + c.toNat % 16 = c.toNat by omega, UInt8.ofNat_toNat]
theorem toNat_join {x y : Nat} (hx : x < 16) (hy : y < 16) : (UInt8.ofNat (16 * x + y)).toNat = 16 * x + y := by
  rw [UInt8.toNat_ofNat']; omega
/-- Upper-case digits alone: the digits of the byte that they give. -/
theorem two_false (l : List UInt8) : two false l = (two true l).bind fun c => if Lib.hasPrefix l (pair c) then some c else none := by
  match l with
  | [] => rfl
  | [a] => rfl
  | a :: b :: r =>
    have hp : ∀ c, Lib.hasPrefix (a :: b :: r) (pair c) = (dig (c.toNat / 16) == a && dig (c.toNat % 16) == b) := fun c => by simp [Lib.hasPrefix, pair, List.isPrefixOf]
    have step : ∀ x y, x < 16 → y < 16 → (UInt8.ofNat (16 * x + y)).toNat / 16 = x ∧ (UInt8.ofNat (16 * x + y)).toNat % 16 = y := fun x y hx hy => by
      rw [toNat_join hx hy]; omega
    show ((hexv false a).bind fun x => (hexv false b).map fun y => UInt8.ofNat (16 * x + y)) = ((hexv true a).bind fun x => (hexv true b).map fun y => UInt8.ofNat (16 * x + y)).bind _
    cases ha : hexv true a with
    | none =>
      cases hf : hexv false a with
      | none => rfl
      | some x => rw [hexv_small hf] at ha; cases ha
    | some x =>
      cases hb : hexv true b with
      | none =>
        cases hf : hexv false b with
        | none => cases hexv false a <;> rfl
        | some y => rw [hexv_small hf] at hb; cases hb
      | some y =>
        have hx := hexv_lt ha
        have hy := hexv_lt hb
        show _ = if Lib.hasPrefix (a :: b :: r) (pair (UInt8.ofNat (16 * x + y))) then some (UInt8.ofNat (16 * x + y)) else none
        rw [hp, (step x y hx hy).1, (step x y hx hy).2]
        cases hfa : hexv false a with
        | none =>
          have : ¬ dig x = a := fun hh => by rw [← hh, hexv_dig false x hx] at hfa; cases hfa
          rw [beq_false_of_ne this]; rfl
        | some x' =>
          obtain rfl : x' = x := Option.some.inj ((hexv_small hfa).symm.trans ha)
          cases hfb : hexv false b with
          | none =>
            have : ¬ dig y = b := fun hh => by rw [← hh, hexv_dig false y hy] at hfb; cases hfb
            rw [beq_false_of_ne this, Bool.and_false]; rfl
          | some y' =>
            obtain rfl : y' = y := Option.some.inj ((hexv_small hfb).symm.trans hb)
            rw [dig_of_hexv hfa, dig_of_hexv hfb, beq_self_eq_true, beq_self_eq_true]; rfl

/-- What stands at the front of a text that is not empty: a byte and how many bytes stand for it. -/
def rdH (l : List UInt8) : Option (UInt8 × Nat) :=
  if (l.headD 0).toNat ≠ 38 then some (l.headD 0, 1) else (ents.find? fun e => Lib.hasPrefix l e.2).map fun e => (e.1, e.2.length)
def rdU (l : List UInt8) : Option (UInt8 × Nat) :=
  if (l.headD 0).toNat = 43 then some (32, 1) else if (l.headD 0).toNat ≠ 37 then some (l.headD 0, 1) else (two true (l.drop 1)).map fun c => (c, 3)
def rdS (l : List UInt8) : Option (UInt8 × Nat) :=
  if (l.headD 0).toNat ≠ 92 then some (l.headD 0, 1) else if ((l.drop 1).headD 0).toNat ≠ 120 then none else (two false (l.drop 2)).map fun c => (c, 4)

/-- A reading takes at least one byte, and no more than there are. -/
def Eats (rd : List UInt8 → Option (UInt8 × Nat)) : Prop := ∀ l c k, l ≠ [] → rd l = some (c, k) → 1 ≤ k ∧ k ≤ l.length
theorem len_of_ne {l : List UInt8} (h : l ≠ []) : 1 ≤ l.length := Nat.pos_of_ne_zero (by simpa using h)
theorem two_len {s : Bool} {l : List UInt8} {c : UInt8} (h : two s l = some c) : 2 ≤ l.length := by
  match l with
  | [] => cases h
  | [_] => cases h
  | _ :: _ :: _ => simp
theorem eats_H : Eats rdH := fun l c k hl h => by
  have h1 := len_of_ne hl
  unfold rdH at h
  split at h
  · cases h; omega
  · obtain ⟨e, he, hk⟩ := Option.map_eq_some_iff.1 h
    have hp := List.find?_some he
    have hm := List.mem_of_find?_eq_some he
    have hle := (List.isPrefixOf_iff_prefix.1 hp).length_le
    cases hk
    refine ⟨?_, hle⟩
    have : ∀ e ∈ ents, 1 ≤ e.2.length := by decide
    exact this e hm
theorem eats_U : Eats rdU := fun l c k hl h => by
  have h1 := len_of_ne hl
  unfold rdU at h
  split at h
  · cases h; omega
  · split at h
    · cases h; omega
    · obtain ⟨e, he, hk⟩ := Option.map_eq_some_iff.1 h
      have := two_len he
      rw [List.length_drop] at this
      cases hk; omega
theorem eats_S : Eats rdS := fun l c k hl h => by
  have h1 := len_of_ne hl
  unfold rdS at h
  split at h
  · cases h; omega
  · split at h
    · cases h
    · obtain ⟨e, he, hk⟩ := Option.map_eq_some_iff.1 h
      have := two_len he
      rw [List.length_drop] at this
      cases hk; omega

/-- The whole text read, piece by piece. -/
def unF (rd : List UInt8 → Option (UInt8 × Nat)) : Nat → List UInt8 → Option (List UInt8)
  | _, [] => some []
  | 0, _ :: _ => none
  | f + 1, c :: r => match rd (c :: r) with
    | none => none
    | some (b, k) => (unF rd f ((c :: r).drop k)).map (b :: ·)
def un (rd : List UInt8 → Option (UInt8 × Nat)) (l : List UInt8) : Option (List UInt8) := unF rd l.length l
theorem unF_fuel {rd} (hE : Eats rd) : ∀ f l, l.length ≤ f → unF rd f l = un rd l := by
  intro f
  induction f using Nat.strongRecOn with
  | _ f ih =>
    intro l hl
    match l, f, hl with
    | [], f, _ => cases f <;> rfl
    | c :: r, 0, hl => simp at hl
    | c :: r, f + 1, hl =>
      rw [un, List.length_cons]
      unfold unF
      cases hr : rd (c :: r) with
      | none => rfl
      | some bk =>
        obtain ⟨b, k⟩ := bk
        obtain ⟨h1, h2⟩ := hE _ b k (by simp) hr
        have hd : ((c :: r).drop k).length ≤ r.length := by rw [List.length_drop, List.length_cons]; omega
        have hr2 : r.length ≤ f := by simpa using hl
        show Option.map _ _ = Option.map _ _
        rw [ih f (by omega) _ (by omega)]
        by_cases hf : r.length < f + 1
        · rw [ih r.length hf _ hd]
        · omega
theorem un_nil (rd) : un rd [] = some [] := rfl
theorem un_none {rd} (hE : Eats rd) {l : List UInt8} (hl : l ≠ []) (h : rd l = none) : un rd l = none := by
  match l, hl with
  | c :: r, _ => rw [un, List.length_cons, unF, h]
theorem un_some {rd} (hE : Eats rd) {l : List UInt8} (hl : l ≠ []) {b : UInt8} {k : Nat} (h : rd l = some (b, k)) : un rd l = (un rd (l.drop k)).map (b :: ·) := by
  match l, hl with
  | c :: r, _ =>
    obtain ⟨h1, h2⟩ := hE _ b k (by simp) h
    rw [un, List.length_cons, unF, h]
    show Option.map _ _ = Option.map _ _
    rw [unF_fuel hE r.length _ (by rw [List.length_drop, List.length_cons]; omega)]
theorem un_len {rd} (hE : Eats rd) : ∀ n l r, l.length ≤ n → un rd l = some r → r.length ≤ l.length := by
  intro n
  induction n with
  | zero => intro l r hl h; obtain rfl : l = [] := by simpa using hl
            cases h; simp
  | succ n ih =>
    intro l r hl h
    by_cases h0 : l = []
    · subst h0; cases h; simp
    · cases hr : rd l with
      | none => rw [un_none hE h0 hr] at h; cases h
      | some bk =>
        obtain ⟨b, k⟩ := bk
        obtain ⟨h1, h2⟩ := hE _ b k h0 hr
        rw [un_some hE h0 hr] at h
        obtain ⟨r', hr', rfl⟩ := Option.map_eq_some_iff.1 h
        have := ih _ r' (by rw [List.length_drop]; omega) hr'
        rw [List.length_drop] at this
        rw [List.length_cons]; omega
/-- In the middle of the text: what has been read stands before what is to come. -/
def pre (a : List UInt8) (o : Option (List UInt8)) : Option (List UInt8) := o.map (a ++ ·)
theorem pre_nil (o) : pre [] o = o := by cases o <;> rfl
theorem pre_none (a) : pre a none = none := rfl
theorem pre_some (a b) : pre a (some b) = some (a ++ b) := rfl
theorem pre_step (a) (b : UInt8) (o) : pre a (o.map (b :: ·)) = pre (a ++ [b]) o := by cases o <;> simp [pre]
theorem mid_some {rd} (hE : Eats rd) {l : List UInt8} {i : Nat} (hi : i < l.length) {a : List UInt8} {b : UInt8} {k : Nat} (h : rd (l.drop i) = some (b, k)) (hm : un rd l = pre a (un rd (l.drop i))) :
    un rd l = pre (a ++ [b]) (un rd (l.drop (i + k))) := by
  have hne : l.drop i ≠ [] := fun hh => by have := congrArg List.length hh; rw [List.length_drop] at this; simp at this; omega
  rw [hm, un_some hE hne h, pre_step, List.drop_drop]
theorem mid_none {rd} (hE : Eats rd) {l : List UInt8} {i : Nat} (hi : i < l.length) {a : List UInt8} (h : rd (l.drop i) = none) (hm : un rd l = pre a (un rd (l.drop i))) : un rd l = none := by
  have hne : l.drop i ≠ [] := fun hh => by have := congrArg List.length hh; rw [List.length_drop] at this; simp at this; omega
  rw [hm, un_none hE hne h]; rfl
theorem mid_end {rd} {l : List UInt8} {i : Nat} (hi : l.length ≤ i) {a : List UInt8} (hm : un rd l = pre a (un rd (l.drop i))) : un rd l = some a := by
  rw [hm, List.drop_of_length_le hi, un_nil, pre_some, List.append_nil]

/-- Reading undoes escaping. -/
def Undoes (rd : List UInt8 → Option (UInt8 × Nat)) (q : UInt8 → List UInt8) : Prop := ∀ c r, rd (fill q c ++ r) = some (c, (fill q c).length)
theorem un_esc {rd q} (hE : Eats rd) (hU : Undoes rd q) (l : List UInt8) : un rd (esc q l) = some l := by
  induction l with
  | nil => rfl
  | cons c l ih =>
    rw [esc_cons, un_some hE (fun h => fill_ne q c (List.append_eq_nil_iff.1 h).1) (hU c _), List.drop_left, ih]
    rfl
theorem undoes_H : Undoes rdH ent := fun c r => by
  by_cases hc : ent c = []
  · rw [fill_nil hc]
    have : c.toNat ≠ 38 := fun hh => by unfold ent at hc; rw [if_pos hh] at hc; cases hc
    show (if c.toNat ≠ 38 then some (c, 1) else _) = some (c, 1)
    rw [if_pos this]
  · rw [fill_not hc]
    have e : ∀ n, c.toNat = n → c = UInt8.ofNat n := fun n h => by rw [← h, UInt8.ofNat_toNat]
    have key : ∀ n, n < 256 → ent (UInt8.ofNat n) ≠ [] → n = 38 ∨ n = 60 ∨ n = 62 ∨ n = 34 ∨ n = 39 := by decide +kernel
    have hk := key c.toNat c.toNat_lt (by rw [UInt8.ofNat_toNat]; exact hc)
    rcases hk with h | h | h | h | h <;> (rw [e _ h]; rfl)
theorem undoes_U : Undoes rdU urlQ := fun c r => by
  by_cases hc : Plain c.toNat
  · have hq : urlQ c = [] := if_pos hc
    rw [fill_nil hq]
    have h1 : c.toNat ≠ 43 := fun hh => by rw [hh] at hc; exact absurd hc (by decide)
    have h2 : c.toNat ≠ 37 := fun hh => by rw [hh] at hc; exact absurd hc (by decide)
    show (if c.toNat = 43 then some (32, 1) else if c.toNat ≠ 37 then some (c, 1) else _) = some (c, 1)
    rw [if_neg h1, if_pos h2]
  · have hq : urlQ c = 37 :: pair c := if_neg hc
    rw [fill_not (by rw [hq]; simp), hq]
    show (two true (pair c ++ r)).map (fun c => (c, 3)) = some (c, 3)
    rw [two_pair]; rfl
theorem undoes_S : Undoes rdS scrQ := fun c r => by
  by_cases hc : Bare c.toNat
  · have hq : scrQ c = [] := if_pos hc
    rw [fill_nil hq]
    have h1 : c.toNat ≠ 92 := fun hh => by rw [hh] at hc; exact absurd hc (by decide)
    show (if c.toNat ≠ 92 then some (c, 1) else _) = some (c, 1)
    rw [if_pos h1]
  · have hq : scrQ c = 92 :: 120 :: pair c := if_neg hc
    rw [fill_not (by rw [hq]; simp), hq]
    show (two false (pair c ++ r)).map (fun c => (c, 4)) = some (c, 4)
    rw [two_pair]; rfl

end Go.Proofs.YtofdnpbmanonpaaDoor.esc
