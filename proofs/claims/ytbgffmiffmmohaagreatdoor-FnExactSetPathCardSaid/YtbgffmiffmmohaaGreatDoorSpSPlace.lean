/-
  Where the items of an array lie, as a key of a map; and: what lies at one place is one list.
  Conditions: those that each theorem names.
-/
import Derived.Test.YtbgffmiffmmohaaGreatDoorSpB1
import Derived.Test.YtbgffmiffmmohaaGreatDoorSpB2
import Derived.Test.YtbgffmiffmmohaaGreatDoorSpSTreeCp
import Derived.LaidEql
import Derived.Laws.StructEq
namespace Go.Proofs.YtbgffmiffmmohaaGreatDoor.tree
open Go.ChangeShapes Go.WideShapes Go.ChangeAt Go.RowKit
set_option linter.unusedVariables false

abbrev PL : TypeId := 173

/-- A tree is what its value says. -/
theorem TIn.unique {w : World} {S : Nat → Prop} {t : Tr} {v : Value} (h : TIn w S t v) : ∀ {S' : Nat → Prop} {t' : Tr}, TIn w S' t' v → t = t' := by
  induction h with
  | mk k n s x ks vs A cap C hk hl hm hcap hc ht ih =>
    intro S' t' h'
    obtain ⟨k', n', s', x', ks', vs'⟩ := t'
    obtain ⟨A', c', he, -, hl', -, C', hc', ht'⟩ := h'.out
    simp at he
    obtain ⟨rfl, rfl, rfl, rfl, rfl, hlen, rfl⟩ := he
    have each : ∀ i (hi : i < vs.length) (hi' : i < vs'.length), ks[i]'(hl ▸ hi) = ks'[i]'(hl' ▸ hi') ∧ vs[i] = vs'[i] := by
      intro i hi hi'
      obtain ⟨a, ha, _, ⟨p0, p1, p2, _, _⟩, hs, hj⟩ := hc i hi
      obtain ⟨a', ha', _, ⟨q0, q1, q2, _, _⟩, hs', hj'⟩ := hc' i hi'
      rw [ha] at ha'
      obtain rfl := Option.some.inj ha'
      rw [p0] at q0; rw [p1] at q1; rw [p2] at q2
      have eC : C i = C' i := by
        apply Array.ext_getElem?
        intro j
        by_cases hj5 : j < 5
        · rw [← hj j hj5, ← hj' j hj5]
        · rw [Array.getElem?_eq_none (by omega), Array.getElem?_eq_none (by omega)]
      refine ⟨?_, ih i hi (eC ▸ ht' i hi')⟩
      generalize ks[i]'(hl ▸ hi) = y at *
      generalize ks'[i]'(hl' ▸ hi') = y' at *
      obtain ⟨b, m, z⟩ := y
      obtain ⟨b', m', z'⟩ := y'
      simp at q0 q1 q2
      simp [q0, q1, q2]
    have e1 : vs = vs' := List.ext_getElem hlen fun i hi hi' => (each i hi hi').2
    have e2 : ks = ks' := List.ext_getElem (by omega) fun i hi hi' => (each i (by omega) (by omega)).1
    rw [e1, e2]

/-- The items' place, as a value. -/
def plc (A : Option Addr) (n : Nat) : Value := if n = 0 then .agg #[.pointer none, .int .i64 0] else .agg #[.pointer A, .int .i64 n]
/-- At the place p lies the list. -/
def PlIs (w : World) (p : Value) (ks : List Ky) (vs : List Tr) : Prop := ∃ (S : Nat → Prop) (A : Option Addr), IsIn w S ks vs A ∧ p = plc A vs.length

theorem PlIs.unique {w : World} {p : Value} {ks ks' : List Ky} {vs vs' : List Tr} (h : PlIs w p ks vs) (h' : PlIs w p ks' vs') : ks = ks' ∧ vs = vs' := by
  obtain ⟨S, A, hi, e⟩ := h
  obtain ⟨S', A', hi', e'⟩ := h'
  rw [e] at e'
  have key : vs.length = vs'.length ∧ (vs.length ≠ 0 → A = A') := by
    unfold plc at e'
    by_cases h0 : vs.length = 0 <;> by_cases h1 : vs'.length = 0 <;> simp [h0, h1] at e'
    · exact ⟨by omega, fun h => absurd h0 h⟩
    · omega
    · exact ⟨by omega, fun _ => e'.1⟩
  obtain ⟨hl, hA⟩ := key
  by_cases h0 : vs.length = 0
  · have e1 : vs = [] := List.length_eq_zero_iff.1 h0
    have e2 : vs' = [] := List.length_eq_zero_iff.1 (by omega)
    have k1 := hi.1
    have k2 := hi'.1
    rw [e1] at k1
    rw [e2] at k2
    exact ⟨(List.length_eq_zero_iff.1 k1).trans (List.length_eq_zero_iff.1 k2).symm, e1.trans e2.symm⟩
  · obtain rfl := hA h0
    have u := (TIn.of (k := 0) (n := 0) (s := ⟨#[]⟩) (x := 0) vs.length ⟨by unfold I64; omega, by unfold I64; omega, by unfold I64; omega, Nat.zero_le _⟩ hi ⟨Nat.le_refl _, hi.2.1⟩).unique
      (t' := .mk 0 0 ⟨#[]⟩ 0 ks' vs') (S' := S') (by
        have := TIn.of (k := 0) (n := 0) (s := ⟨#[]⟩) (x := 0) vs'.length ⟨by unfold I64; omega, by unfold I64; omega, by unfold I64; omega, Nat.zero_le _⟩ hi' ⟨Nat.le_refl _, hi'.2.1⟩
        rwa [← hl] at this)
    injection u with _ _ _ _ u1 u2
    exact ⟨u1, u2⟩

theorem PlIs.stays {w w' : World} (hb : Below w.heap.size w w') {p : Value} {ks : List Ky} {vs : List Tr} (h : PlIs w p ks vs) : PlIs w' p ks vs := by
  obtain ⟨S, A, hi, e⟩ := h
  exact ⟨S, A, hi.below hb, e⟩

/-- A key of a map of places. -/
def GP (w : World) (x : Value) : Prop := ∃ (p : Option Addr) (n : Int), x = .agg #[.pointer p, .int .i64 n] ∧ ∀ a, p = some a → Plain w a.block

theorem gp_plc {w : World} {lo : Nat} {ks : List Ky} {vs : List Tr} {A : Option Addr} (h : IsIn w (Nw lo w) ks vs A) : GP w (plc A vs.length) := by
  unfold plc
  by_cases h0 : vs.length = 0
  · rw [if_pos h0]
    exact ⟨none, 0, rfl, fun a h => by cases h⟩
  · rw [if_neg h0]
    obtain ⟨hl, hm, C, hc, -⟩ := h
    obtain ⟨a, ha, hS, -⟩ := hc 0 (by omega)
    exact ⟨A, vs.length, rfl, fun a' h' => by rw [ha] at h'; obtain rfl := Option.some.inj h'; exact hS.2⟩

theorem gp_stays : raw.Stays GP := fun w w' B x hB hb h => by
  obtain ⟨p, n, rfl, hp⟩ := h
  refine ⟨p, n, rfl, fun a ha => ?_⟩
  obtain ⟨cs, t, hc⟩ := hp a ha
  obtain ⟨es, clock, hm⟩ := hB
  exact ⟨cs, t, (hb a.block (fun e => by rw [e, hm] at hc; cases hc) (Array.getElem?_eq_some_iff.1 hc).1).trans hc⟩
theorem gp_below {w w' : World} (hb : Below w.heap.size w w') {x : Value} (h : GP w x) : GP w' x := by
  obtain ⟨p, n, rfl, hp⟩ := h
  refine ⟨p, n, rfl, fun a ha => ?_⟩
  obtain ⟨cs, t, hc⟩ := hp a ha
  exact ⟨cs, t, carry hb hc⟩

theorem ptr_eq {w : World} {t e : TypeId} (ht : Tryz.prog.underlying t = some (.pointer e)) {i : TypeInfo} (he : Tryz.prog.info? e = some i) (hi : i.size ≠ 0) (d : Nat) {p q : Option Addr} (hp : ∀ a, p = some a → Plain w a.block) (hq : ∀ a, q = some a → Plain w a.block) :
    ∃ r : Bool, (Op.equalIn (d + 1) t (.pointer p) (.pointer q)).run Tryz.prog w = .ok r w ∧ (r = true ↔ p = q) := by
  cases p with
  | none => cases q <;> exact ⟨_, by simp [Op.equalIn, run_underlying ht]; rfl, by simp⟩
  | some a =>
    cases q with
    | none => exact ⟨_, by simp [Op.equalIn, run_underlying ht]; rfl, by simp⟩
    | some b =>
      by_cases hab : a = b
      · subst hab
        exact ⟨true, by simp [Op.equalIn, run_underlying ht, sizeOf, typeInfo, he, run_sameAddr_same], by simp⟩
      · obtain ⟨ca, ta, ha⟩ := hp a rfl
        obtain ⟨cb, tb, hb⟩ := hq b rfl
        exact ⟨false, by simp [Op.equalIn, run_underlying ht, sizeOf, typeInfo, he, hi, run_sameAddr_other w hab ha hb], by simp [hab]⟩

theorem pl_desc : ∃ f0 f1 : Field, Tryz.prog.underlying PL = some (.struct #[f0, f1]) ∧ f0.name ≠ "_" ∧ f1.name ≠ "_" ∧ f0.type = 171 ∧ f1.type = 3 ∧ f0.offset = 0 ∧ f1.offset = 1 :=
  ⟨_, _, Tryz.underlying173, by decide, by decide, rfl, rfl, rfl, rfl⟩
theorem pl_held : Tryz.prog.stoodInHeld PL = false := by kernel_rfl
theorem ie_size : ∃ i, Tryz.prog.info? IE = some i ∧ i.size ≠ 0 := by
  have := ieRow
  cases hq : Tryz.prog.info? IE with
  | none => rw [hq] at this; cases this
  | some i => rw [hq] at this; simp at this; exact ⟨i, rfl, by omega⟩

theorem part1 {P : Program} {w : World} {t : TypeId} {d : TypeDesc} (h : P.underlying t = some d) (hd : (match d with | .struct _ | .array _ _ => true | _ => false) = false) {cs : Array Value} {off : Nat} {v : Value} (hx : cs[off]? = some v) : (part t cs off).run P w = .ok v w := by
  cases d <;> simp_all [part, isAgg, run_underlying h]

theorem pl_eq (w : World) (d : Nat) {x y : Value} (hx : GP w x) (hy : GP w y) : ∃ r : Bool, (Op.equalIn (d + 2) PL x y).run Tryz.prog w = .ok r w ∧ (r = true ↔ x = y) := by
  obtain ⟨p, n, rfl, hp⟩ := hx
  obtain ⟨q, m, rfl, hq⟩ := hy
  obtain ⟨f0, f1, hu, n0, n1, t0, t1, o0, o1⟩ := pl_desc
  have hf : Tryz.prog.fieldsOf PL = #[f0, f1] := by simp [Program.fieldsOf, hu]
  obtain ⟨i, hi, hs⟩ := ie_size
  obtain ⟨r, hr, hiff⟩ := ptr_eq (t := 171) Tryz.underlying171 hi hs d hp hq
  have hi2 := run_equalIn_int (P := Tryz.prog) w d 3 .i64 .i64 n m Tryz.underlying3
  have pa : ∀ (cs : Array Value) (v : Value), cs[0]? = some v → (part 171 cs 0).run Tryz.prog w = .ok v w := fun cs v h => part1 Tryz.underlying171 rfl h
  have pb : ∀ (cs : Array Value) (v : Value), cs[1]? = some v → (part 3 cs 1).run Tryz.prog w = .ok v w := fun cs v h => part1 Tryz.underlying3 rfl h
  rw [run_equalIn_struct w (d + 1) PL _ _ (by rw [hf]; exact hu) pl_held, hf]
  refine ⟨r && (n == m), ?_, ?_⟩
  · have e1 := pa #[.pointer p, .int .i64 n] _ rfl
    have e2 := pa #[.pointer q, .int .i64 m] _ rfl
    have e3 := pb #[.pointer p, .int .i64 n] _ rfl
    have e4 := pb #[.pointer q, .int .i64 m] _ rfl
    cases r <;> cases hnm : (n == m) <;> simp [Op.eqFields, n0, n1, t0, t1, o0, o1, e1, e2, e3, e4, hr, hi2, hnm, Result.andThen]
  · rw [Bool.and_eq_true, hiff]
    simp

theorem pl_check (d : Nat) (w : World) (em : Bool) {x : Value} (h : GP w x) : (Instr.checkKey em (d + 2) PL x).run Tryz.prog w = .ok () w := by
  obtain ⟨p, n, rfl, hp⟩ := h
  obtain ⟨f0, f1, hu, n0, n1, t0, t1, o0, o1⟩ := pl_desc
  have pa : (part 171 #[.pointer p, .int .i64 n] 0).run Tryz.prog w = .ok (.pointer p) w := part1 Tryz.underlying171 rfl rfl
  have pb : (part 3 #[.pointer p, .int .i64 n] 1).run Tryz.prog w = .ok (.int .i64 n) w := part1 Tryz.underlying3 rfl rfl
  simp [Instr.checkKey, run_underlying hu, n0, n1, t0, t1, o0, o1, pa, pb, run_underlying Tryz.underlying171, run_underlying Tryz.underlying3, Result.andThen]
theorem pl_same (d : Nat) (p : Option Addr) (n : Int) : Instr.sameBits (d + 2) (.agg #[.pointer p, .int .i64 n]) (.agg #[.pointer p, .int .i64 n]) = true := by
  simp [Instr.sameBits]

theorem good_pl : raw.Good Tryz.prog PL GP where
  wide := by
    obtain ⟨f0, f1, hu, _⟩ := pl_desc
    rw [hu]
  check := fun w em x h => pl_check 9998 w em h
  eq := fun w x y hx hy => pl_eq w 9998 hx hy
  same := fun w x h => by
    obtain ⟨p, n, rfl, hp⟩ := h
    exact pl_same 9998 p n

theorem placeOf (A : Option Addr) (n c : Nat) (hn : n ≤ maxLen) (hA : 0 < n → ∃ a, A = some a) (w : World) : Calls Tryz.prog 161 #[.slice A n c] w (GivesQ w (plc A n)) := by
  unfold maxLen at hn
  by_cases h0 : n = 0
  · subst h0
    go_enter Tryz.func161, Tryz.ntmps161
    go_wp2
    exact bodyPost_ret (v := .agg #[.pointer none, .int .i64 0]) (by simp [results, Tryz.results161, go_sem]) rfl ⟨rfl, b1 _ _⟩
  · obtain ⟨a, rfl⟩ := hA (by omega)
    have hp : plc (some a) n = .agg #[.pointer (some a), .int .i64 n] := by unfold plc; rw [if_neg h0]
    rw [hp]
    have hpos : 0 < n := by omega
    have hp0 := Lib.hid hp
    have hne : ¬ ((n : Int) = 0) := by omega
    clear hp h0
    go_enter Tryz.func161, Tryz.ntmps161
    go_wp2
    refine bodyPost_ret (v := .agg #[.pointer (some a), .int .i64 n]) (by simp [results, Tryz.results161, go_sem]) rfl ⟨rfl, ?_⟩
    exact b1 _ _

end Go.Proofs.YtbgffmiffmmohaaGreatDoor.tree

