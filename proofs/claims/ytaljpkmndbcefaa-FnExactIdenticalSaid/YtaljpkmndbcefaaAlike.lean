/-
  Two values compared without their items, two keys compared, and two places as one key of a map.
  Conditions: those that each theorem names.
-/
import Derived.Test.YtaljpkmndbcefaaPairsV
import Derived.Test.YtaljpkmndbcefaaIsPlain
import Derived.Laws.StructEq
namespace Go.Proofs.Ytaljpkmndbcefaa.tree
open Go.ChangeShapes Go.WideShapes Go.ChangeAt Go.RowKit
set_option linter.unusedVariables false

/-! ### two places -/
abbrev P2 : TypeId := 66
def G2 (B : Nat) (w : World) (x : Value) : Prop := ∃ (p : Option Addr) (n : Int) (q : Option Addr) (m : Int), x = .agg #[.pointer p, .int .i64 n, .pointer q, .int .i64 m] ∧ (∀ a, p = some a → Lo B w a.block) ∧ ∀ a, q = some a → Lo B w a.block
theorem G2.kp {B : Nat} {w w' : World} (hk : Kp B w w') {x : Value} (h : G2 B w x) : G2 B w' x := by
  obtain ⟨p, n, q, m, e, hp, hq⟩ := h
  exact ⟨p, n, q, m, e, fun a ha => (hp a ha).kp hk, fun a ha => (hq a ha).kp hk⟩
theorem g2_stays (B : Nat) : raw.Stays (G2 B) := fun w w' b x hb h hx => by
  obtain ⟨es, clock, hm⟩ := hb
  exact hx.kp fun k _ hp => h k (fun e => by
    obtain ⟨cs, t, hc⟩ := hp
    rw [e, hm] at hc
    cases hc) hp.lt
theorem pl_info : ∃ i, Try.prog.info? PL = some i ∧ i.size = 2 := by
  have : (Try.prog.info? PL).map (·.size) = some 2 := by kernel_rfl
  cases hq : Try.prog.info? PL with
  | none => rw [hq] at this; cases this
  | some i => rw [hq] at this; simp at this; exact ⟨i, rfl, this⟩
theorem run_part_pl (w : World) (a n b m : Value) : (part PL #[a, n, b, m] 0).run Try.prog w = .ok (.agg #[a, n]) w ∧ (part PL #[a, n, b, m] 2).run Try.prog w = .ok (.agg #[b, m]) w := by
  obtain ⟨f0, f1, hu, _⟩ := pl_desc
  obtain ⟨i, hi, hs⟩ := pl_info
  constructor <;> simp [part, isAgg, run_underlying hu, sizeOf, typeInfo, hi, hs] <;> rfl

theorem g2_eq (d : Nat) (w : World) {x y : Value} (hx : ∃ p n q m, x = .agg #[.pointer p, .int .i64 n, .pointer q, .int .i64 m] ∧ GP w (.agg #[.pointer p, .int .i64 n]) ∧ GP w (.agg #[.pointer q, .int .i64 m]))
    (hy : ∃ p n q m, y = .agg #[.pointer p, .int .i64 n, .pointer q, .int .i64 m] ∧ GP w (.agg #[.pointer p, .int .i64 n]) ∧ GP w (.agg #[.pointer q, .int .i64 m])) :
    ∃ r : Bool, (Op.equalIn (d + 3) P2 x y).run Try.prog w = .ok r w ∧ (r = true ↔ x = y) := by
  obtain ⟨p, n, q, m, rfl, g1, g2⟩ := hx
  obtain ⟨p', n', q', m', rfl, g1', g2'⟩ := hy
  obtain ⟨r1, h1, i1⟩ := pl_eq w d g1 g1'
  obtain ⟨r2, h2, i2⟩ := pl_eq w d g2 g2'
  obtain ⟨a1, a2⟩ := run_part_pl w (.pointer p) (.int .i64 n) (.pointer q) (.int .i64 m)
  obtain ⟨b1, b2⟩ := run_part_pl w (.pointer p') (.int .i64 n') (.pointer q') (.int .i64 m')
  obtain ⟨i, hi, hs⟩ := pl_info
  refine ⟨r1 && r2, ?_, ?_⟩
  · rw [show d + 3 = (d + 2) + 1 from rfl, Op.equalIn]
    simp only [Sem.run_bind, run_underlying Try.underlying66, Result.andThen_ok]
    simp only [Std.Legacy.Range.forIn_eq_forIn_range', Std.Legacy.Range.size, Nat.sub_zero, Nat.add_one_sub_one, Nat.div_one]
    cases r1 <;> cases r2 <;> simp [List.range', sizeOf, typeInfo, hi, hs, a1, a2, b1, b2, h1, h2, Result.andThen]
  · rw [Bool.and_eq_true, i1, i2]
    simp
    constructor
    · rintro ⟨⟨rfl, rfl⟩, rfl, rfl⟩; exact ⟨rfl, rfl, rfl, rfl⟩
    · rintro ⟨rfl, rfl, rfl, rfl⟩; exact ⟨⟨rfl, rfl⟩, rfl, rfl⟩

theorem G2.two {B : Nat} {w : World} {x : Value} (h : G2 B w x) : ∃ p n q m, x = .agg #[.pointer p, .int .i64 n, .pointer q, .int .i64 m] ∧ GP w (.agg #[.pointer p, .int .i64 n]) ∧ GP w (.agg #[.pointer q, .int .i64 m]) := by
  obtain ⟨p, n, q, m, e, hp, hq⟩ := h
  exact ⟨p, n, q, m, e, ⟨p, n, rfl, fun a ha => (hp a ha).2⟩, ⟨q, m, rfl, fun a ha => (hq a ha).2⟩⟩
theorem g2_check (d : Nat) (w : World) (em : Bool) {x : Value} (h : ∃ p n q m, x = .agg #[.pointer p, .int .i64 n, .pointer q, .int .i64 m] ∧ GP w (.agg #[.pointer p, .int .i64 n]) ∧ GP w (.agg #[.pointer q, .int .i64 m])) : (Instr.checkKey em (d + 3) P2 x).run Try.prog w = .ok () w := by
  obtain ⟨p, n, q, m, rfl, g1, g2⟩ := h
  obtain ⟨a1, a2⟩ := run_part_pl w (.pointer p) (.int .i64 n) (.pointer q) (.int .i64 m)
  obtain ⟨i, hi, hs⟩ := pl_info
  have k1 := pl_check d w em g1
  have k2 := pl_check d w em g2
  rw [show d + 3 = (d + 2) + 1 from rfl, Instr.checkKey]
  simp only [Sem.run_bind, run_underlying Try.underlying66, Result.andThen_ok]
  simp only [Std.Legacy.Range.forIn_eq_forIn_range', Std.Legacy.Range.size, Nat.sub_zero, Nat.add_one_sub_one, Nat.div_one]
  simp [List.range', sizeOf, typeInfo, hi, hs, a1, a2, k1, k2, Result.andThen]
theorem g2_same (d : Nat) (p : Option Addr) (n : Int) (q : Option Addr) (m : Int) : Instr.sameBits (d + 2) (.agg #[.pointer p, .int .i64 n, .pointer q, .int .i64 m]) (.agg #[.pointer p, .int .i64 n, .pointer q, .int .i64 m]) = true := by
  simp [Instr.sameBits]
theorem good_g2 (B : Nat) : raw.Good Try.prog P2 (G2 B) where
  wide := by rw [Try.underlying66]
  check := fun w em x h => g2_check 9997 w em h.two
  eq := fun w x y hx hy => g2_eq 9997 w hx.two hy.two
  same := fun w x h => by
    obtain ⟨p, n, q, m, rfl, -, -⟩ := h
    exact g2_same 9998 p n q m

/-! ### two keys -/
theorem bytes_ne {s s' : ByteArray} (h : ¬ s.data.toList = s'.data.toList) : (s.toList == s'.toList) = false ∧ ¬ s.toList = s'.toList := by
  have h1 : ¬ s.toList = s'.toList := fun hh => h (by rwa [ByteArray.toList_eq, ByteArray.toList_eq] at hh)
  exact ⟨beq_false_of_ne h1, h1⟩
theorem bytes_same {s s' : ByteArray} (h : s.data.toList = s'.data.toList) : s = s' := by
  obtain ⟨⟨s⟩⟩ := s
  obtain ⟨⟨s'⟩⟩ := s'
  simp at h
  subst h
  rfl
theorem ik_desc : ∃ f0 f1 f2 : Field, Try.prog.underlying IK = some (.struct #[f0, f1, f2]) ∧ f0.name ≠ "_" ∧ f1.name ≠ "_" ∧ f2.name ≠ "_" ∧ f0.type = 4 ∧ f1.type = 3 ∧ f2.type = 9 ∧ f0.offset = 0 ∧ f1.offset = 1 ∧ f2.offset = 2 :=
  ⟨_, _, _, Try.underlying49, by decide, by decide, by decide, rfl, rfl, rfl, rfl, rfl, rfl⟩
theorem ik_held : Try.prog.stoodInHeld IK = false := by kernel_rfl
theorem ky_eq (d : Nat) (w : World) (y y' : Ky) : (Op.equalIn (d + 2) IK (kyV y) (kyV y')).run Try.prog w = .ok (decide (y = y')) w := by
  obtain ⟨b, n, s⟩ := y
  obtain ⟨b', n', s'⟩ := y'
  obtain ⟨f0, f1, f2, hu, n0, n1, n2, t0, t1, t2, o0, o1, o2⟩ := ik_desc
  have hf : Try.prog.fieldsOf IK = #[f0, f1, f2] := by simp [Program.fieldsOf, hu]
  have hb := run_equalIn_bool' (P := Try.prog) w d 4 b b' Try.underlying4
  have hi := run_equalIn_int (P := Try.prog) w d 3 .i64 .i64 n n' Try.underlying3
  have hs := run_equalIn_string (P := Try.prog) w d 9 s s' Try.underlying9
  have pa : ∀ (cs : Array Value) (v : Value), cs[0]? = some v → (part 4 cs 0).run Try.prog w = .ok v w := fun cs v h => part1 Try.underlying4 rfl h
  have pb : ∀ (cs : Array Value) (v : Value), cs[1]? = some v → (part 3 cs 1).run Try.prog w = .ok v w := fun cs v h => part1 Try.underlying3 rfl h
  have pc : ∀ (cs : Array Value) (v : Value), cs[2]? = some v → (part 9 cs 2).run Try.prog w = .ok v w := fun cs v h => part1 Try.underlying9 rfl h
  unfold kyV
  rw [run_equalIn_struct w (d + 1) IK _ _ (by rw [hf]; exact hu) ik_held, hf]
  have e1 := pa #[.bool b, .int .i64 n, .string s] _ rfl
  have e2 := pa #[.bool b', .int .i64 n', .string s'] _ rfl
  have e3 := pb #[.bool b, .int .i64 n, .string s] _ rfl
  have e4 := pb #[.bool b', .int .i64 n', .string s'] _ rfl
  have e5 := pc #[.bool b, .int .i64 n, .string s] _ rfl
  have e6 := pc #[.bool b', .int .i64 n', .string s'] _ rfl
  have key : decide ((⟨b, n, s⟩ : Ky) = ⟨b', n', s'⟩) = ((b == b') && ((n == n') && (s.toList == s'.toList))) := by
    rw [Bool.eq_iff_iff]
    simp only [decide_eq_true_eq, Ky.mk.injEq, Bool.and_eq_true, beq_iff_eq]
    constructor
    · rintro ⟨rfl, rfl, rfl⟩; exact ⟨rfl, rfl, rfl⟩
    · rintro ⟨rfl, rfl, h⟩
      exact ⟨rfl, rfl, bytes_same (by rwa [ByteArray.toList_eq, ByteArray.toList_eq] at h)⟩
  rw [key]
  generalize hq1 : (b == b') = q1 at *
  generalize hq2 : (n == n') = q2 at *
  generalize hq3 : (s.toList == s'.toList) = q3 at *
  cases q1 <;> cases q2 <;> cases q3 <;> simp [Op.eqFields, n0, n1, n2, t0, t1, t2, o0, o1, o2, e1, e2, e3, e4, e5, e6, hb, hi, hs, Result.andThen]
theorem ky_neq (w : World) (y y' : Ky) : (binOp .neq IK (kyV y) (kyV y')).run Try.prog w = .ok (.bool (!decide (y = y'))) w := by
  have := ky_eq 9998 w y y'
  unfold kyV at this ⊢
  rw [run_neq_struct, this]
  rfl

/-! ### two values without their items -/
theorem areAlike (k n : Int) (s : ByteArray) (x : Int) (ks : List Ky) (vs : List Tr) (A : Option Addr) (c : Nat) (k' n' : Int) (s' : ByteArray) (x' : Int) (ks' : List Ky) (vs' : List Tr) (A' : Option Addr) (c' : Nat) (w : World) :
    Calls Try.prog 45 #[vV k n s x A vs.length c, vV k' n' s' x' A' vs'.length c'] w (GivesQ w (.bool (alikeB (.mk k n s x ks vs) (.mk k' n' s' x' ks' vs')))) := by
  have e : alikeB (.mk k n s x ks vs) (.mk k' n' s' x' ks' vs') = (decide (k = k') && (decide (n = n') && (decide (s.data.toList = s'.data.toList) && decide (vs.length = vs'.length)))) := rfl
  rw [e]
  clear e
  generalize vs.length = L
  generalize vs'.length = L'
  by_cases h1 : k = k'
  · subst h1
    by_cases h2 : n = n'
    · subst h2
      by_cases h3 : s.data.toList = s'.data.toList
      · obtain rfl := bytes_same h3
        by_cases h4 : L = L'
        · subst h4
          simp only [decide_true, Bool.and_true]
          go_enter Try.func45, Try.ntmps45
          go_wp2
          go_ret
          exact ⟨rfl, b2 _ _ _⟩
        · have h5 : decide (L = L') = false := decide_eq_false h4
          have h6 : ((L : Int) == (L' : Int)) = false := beq_false_of_ne (by omega)
          simp only [decide_true, Bool.true_and, h5]
          clear h5
          go_enter Try.func45, Try.ntmps45
          go_wp2
          go_ret
          exact ⟨rfl, b2 _ _ _⟩
      · obtain ⟨g1, g2⟩ := bytes_ne h3
        have h5 : decide (s.data.toList = s'.data.toList) = false := decide_eq_false h3
        simp only [decide_true, Bool.true_and, h5, Bool.false_and]
        clear h5
        go_enter Try.func45, Try.ntmps45
        go_wp2
        go_ret
        exact ⟨rfl, b2 _ _ _⟩
    · have h5 : decide (n = n') = false := decide_eq_false h2
      simp only [decide_true, Bool.true_and, h5, Bool.false_and]
      clear h5
      go_enter Try.func45, Try.ntmps45
      go_wp2
      go_ret
      exact ⟨rfl, b2 _ _ _⟩
  · have h5 : decide (k = k') = false := decide_eq_false h1
    simp only [h5, Bool.false_and]
    clear h5
    go_enter Try.func45, Try.ntmps45
    go_wp2
    go_ret
    exact ⟨rfl, b2 _ _ _⟩

end Go.Proofs.Ytaljpkmndbcefaa.tree
