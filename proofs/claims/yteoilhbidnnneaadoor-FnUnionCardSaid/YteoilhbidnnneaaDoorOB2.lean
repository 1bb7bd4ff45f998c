/-
  What the texts behind this one use: 4 parts of one proof.
  Conditions: those that each theorem names.
-/
import Derived.Test.YteoilhbidnnneaaDoorOB1
import Derived.Test.YteoilhbidnnneaaDoorOSTreeEq
import Derived.Laws.Rows
import Derived.Lib.LaidU8
import Derived.ChangeArms
import Derived.OpenShut
import Derived.Lib.SmallJoins
import Derived.Laws.StructEq
import Derived.Deep.LoopGhost
import Derived.Test.YteoilhbidnnneaaDoorRows
import Derived.Stop.LaidErr
import Derived.LaidMore
import Derived.LaidHandle
/-
  OpSymbol and OpOf of the project and of the model: the project's table of symbols, and what both return.
  Conditions: the table holds what the program's text lays.
-/
namespace Go.Proofs.YteoilhbidnnneaaDoor.ops
open Go.ChangeShapes Go.WideShapes Go.ChangeAt Go.RowKit tree
set_option linter.unusedVariables false

def n0 : ByteArray := ⟨#[]⟩
def n1 : ByteArray := ⟨#[43]⟩
def n2 : ByteArray := ⟨#[45]⟩
def n3 : ByteArray := ⟨#[42]⟩
def n4 : ByteArray := ⟨#[47]⟩
def n5 : ByteArray := ⟨#[37]⟩
def n6 : ByteArray := ⟨#[46]⟩
def n7 : ByteArray := ⟨#[61, 61]⟩
def n8 : ByteArray := ⟨#[33, 61]⟩
def n9 : ByteArray := ⟨#[61, 61, 61]⟩
def n10 : ByteArray := ⟨#[33, 61, 61]⟩
def n11 : ByteArray := ⟨#[60]⟩
def n12 : ByteArray := ⟨#[60, 61]⟩
def n13 : ByteArray := ⟨#[62]⟩
def n14 : ByteArray := ⟨#[62, 61]⟩
def n15 : ByteArray := ⟨#[60, 61, 62]⟩
def cells : Array Value := #[.string n0, .string n1, .string n2, .string n3, .string n4, .string n5, .string n6, .string n7, .string n8, .string n9, .string n10, .string n11, .string n12, .string n13, .string n14, .string n15]
def Tab (w : World) : Prop := w.var? Tryd.prog "loop.example/g03011/impl.opSymbols" = some cells
theorem gTab : Tryd.prog.globalNamed "loop.example/g03011/impl.opSymbols" = some 0 := by kernel_rfl
theorem tTab : (Tryd.prog.globals[0]?).map (·.type) = some 60 := by kernel_rfl
theorem Tab.stays {w w' : World} (h : Tab w) (hb : Below w.heap.size w w') : Tab w' := Joins.var_stays gTab h hb (Nat.le_refl _)

/-- The table as the row lists it. -/
def data : DataW Unit := .agg [.lit (.string []), .lit (.string [43]), .lit (.string [45]), .lit (.string [42]), .lit (.string [47]), .lit (.string [37]), .lit (.string [46]), .lit (.string [61, 61]), .lit (.string [33, 61]), .lit (.string [61, 61, 61]), .lit (.string [33, 61, 61]), .lit (.string [60]), .lit (.string [60, 61]), .lit (.string [62]), .lit (.string [62, 61]), .lit (.string [60, 61, 62])]

theorem c9 : Tryd.prog.cellsOf 9 = 1 := by kernel_rfl
theorem cA : Tryd.prog.cellsOf 60 = 16 := by kernel_rfl
theorem len16 {α : Type} : ∀ {l : List α}, l.length = 16 → ∃ a0 a1 a2 a3 a4 a5 a6 a7 a8 a9 a10 a11 a12 a13 a14 a15, l = [a0, a1, a2, a3, a4, a5, a6, a7, a8, a9, a10, a11, a12, a13, a14, a15]
  | [a0, a1, a2, a3, a4, a5, a6, a7, a8, a9, a10, a11, a12, a13, a14, a15], _ => ⟨a0, a1, a2, a3, a4, a5, a6, a7, a8, a9, a10, a11, a12, a13, a14, a15, rfl⟩
theorem one {enc : TypeId × Value → Unit} {w : World} {base : Nat} {sp : Nat → Bool} {held : Bool} {fuel : Nat} {c : Value} {d : DataW Unit} {p : List MemPlace} (bs : List UInt8) (hd : d = .lit (.string bs))
    (h : DataW.trod enc Tryd.prog w base sp held fuel 9 [c] = some (d, p)) : c = .string ⟨bs.toArray⟩ := by
  subst hd
  obtain ⟨s, hs, hv, _⟩ := DataW.trod_string Tryd.underlying9 h
  simp at hs hv
  obtain ⟨hv, -⟩ := hv
  rw [hs, hv, Joins.bytes_eta]

theorem of_reads {w : World} (h : Lib.VarReads Tryd.prog w "loop.example/g03011/impl.opSymbols" data) : Tab w := by
  obtain ⟨g, t, cs, fuel, p, hg, ht, hv, hd⟩ := h
  obtain rfl := Option.some.inj (gTab.symm.trans hg)
  obtain rfl := Option.some.inj (tTab.symm.trans ht)
  unfold Tab
  rw [hv]
  congr 1
  apply Array.toList_inj.1
  obtain ⟨xs, m, rfl, hx, hl, hxl, hall⟩ := DataW.trod_array Tryd.underlying60 hd
  rw [cA] at hl
  have hxs := congrArg Prod.fst hx
  generalize cs.toList = l at *
  obtain ⟨a0, a1, a2, a3, a4, a5, a6, a7, a8, a9, a10, a11, a12, a13, a14, a15, rfl⟩ := len16 hl
  obtain ⟨u0, u1, u2, u3, u4, u5, u6, u7, u8, u9, u10, u11, u12, u13, u14, u15, rfl⟩ := len16 hxl
  have h0 := hall 0 (by omega)
  have h1 := hall 1 (by omega)
  have h2 := hall 2 (by omega)
  have h3 := hall 3 (by omega)
  have h4 := hall 4 (by omega)
  have h5 := hall 5 (by omega)
  have h6 := hall 6 (by omega)
  have h7 := hall 7 (by omega)
  have h8 := hall 8 (by omega)
  have h9 := hall 9 (by omega)
  have h10 := hall 10 (by omega)
  have h11 := hall 11 (by omega)
  have h12 := hall 12 (by omega)
  have h13 := hall 13 (by omega)
  have h14 := hall 14 (by omega)
  have h15 := hall 15 (by omega)
  simp only [c9] at h0 h1 h2 h3 h4 h5 h6 h7 h8 h9 h10 h11 h12 h13 h14 h15
  simp only [data, List.map_cons, List.map_nil, DataW.agg.injEq, List.cons.injEq, and_true] at hxs
  obtain ⟨e0, e1, e2, e3, e4, e5, e6, e7, e8, e9, e10, e11, e12, e13, e14, e15⟩ := hxs
  have k0 := one (c := a0) (p := u0.2) _ e0.symm h0
  have k1 := one (c := a1) (p := u1.2) _ e1.symm h1
  have k2 := one (c := a2) (p := u2.2) _ e2.symm h2
  have k3 := one (c := a3) (p := u3.2) _ e3.symm h3
  have k4 := one (c := a4) (p := u4.2) _ e4.symm h4
  have k5 := one (c := a5) (p := u5.2) _ e5.symm h5
  have k6 := one (c := a6) (p := u6.2) _ e6.symm h6
  have k7 := one (c := a7) (p := u7.2) _ e7.symm h7
  have k8 := one (c := a8) (p := u8.2) _ e8.symm h8
  have k9 := one (c := a9) (p := u9.2) _ e9.symm h9
  have k10 := one (c := a10) (p := u10.2) _ e10.symm h10
  have k11 := one (c := a11) (p := u11.2) _ e11.symm h11
  have k12 := one (c := a12) (p := u12.2) _ e12.symm h12
  have k13 := one (c := a13) (p := u13.2) _ e13.symm h13
  have k14 := one (c := a14) (p := u14.2) _ e14.symm h14
  have k15 := one (c := a15) (p := u15.2) _ e15.symm h15
  subst k0 k1 k2 k3 k4 k5 k6 k7 k8 k9 k10 k11 k12 k13 k14 k15
  rfl

/-- The table's cells, for the walk. -/
theorem Tab.cells {w : World} (h : Tab w) : ∃ t fr, w.heap[0]? = some (.cells cells t fr) := by
  unfold Tab World.var? at h
  rw [gTab] at h
  simp only [Option.bind_some] at h
  split at h
  · rename_i c t fr hb
    cases h
    exact ⟨t, fr, hb⟩
  · cases h

/-- The symbol of an operator. -/
def symOf (k : Int) : ByteArray :=
  if k = 0 then n0 else if k = 1 then n1 else if k = 2 then n2 else if k = 3 then n3 else if k = 4 then n4 else if k = 5 then n5 else if k = 6 then n6 else if k = 7 then n7 else if k = 8 then n8 else if k = 9 then n9 else if k = 10 then n10 else if k = 11 then n11 else if k = 12 then n12 else if k = 13 then n13 else if k = 14 then n14 else if k = 15 then n15 else ⟨#[]⟩
theorem symOf_out {k : Int} (h : ¬ (0 ≤ k ∧ k ≤ 15)) : symOf k = ⟨#[]⟩ := by
  unfold symOf
  rw [if_neg (by omega), if_neg (by omega), if_neg (by omega), if_neg (by omega), if_neg (by omega), if_neg (by omega), if_neg (by omega), if_neg (by omega), if_neg (by omega), if_neg (by omega), if_neg (by omega), if_neg (by omega), if_neg (by omega), if_neg (by omega), if_neg (by omega), if_neg (by omega)]
/-- The operator of a symbol. -/
def opOf (s : ByteArray) : Int :=
  if s = n1 then 1 else if s = n2 then 2 else if s = n3 then 3 else if s = n4 then 4 else if s = n5 then 5 else if s = n6 then 6 else if s = n7 then 7 else if s = n8 then 8 else if s = n9 then 9 else if s = n10 then 10 else if s = n11 then 11 else if s = n12 then 12 else if s = n13 then 13 else if s = n14 then 14 else if s = n15 then 15 else 0

set_option maxHeartbeats 4000000 in
theorem opSymbol_i (k : Int) (w : World) (hT : Tab w) : Calls Tryd.prog 15 #[.int .i64 k] w fun e w' => e = .returned (.string (symOf k)) ∧ w = w' := by
  obtain ⟨t, fr, hc⟩ := hT.cells
  have cc : ∀ j, w.cell? ⟨0, j, none⟩ = cells[j]? := fun j => cell_of_row w _ j cells t fr hc
  clear hc hT
  obtain ⟨q, HQ⟩ : ∃ q, Hid (nums.inr k 0 15 = q) := ⟨_, Lib.hid rfl⟩
  have IR : ∀ w, Calls Tryd.prog 39 #[.int .i64 k, .int .i64 0, .int .i64 15] w fun e w' => e = .returned (.bool q) ∧ w = w' := fun w => HQ.out ▸ nums.implInRange k 0 15 w
  by_cases h : 0 ≤ k ∧ k ≤ 15
  · obtain rfl : q = true := by rw [← HQ.out]; unfold nums.inr; simp; omega
    have hk : k = 0 ∨ k = 1 ∨ k = 2 ∨ k = 3 ∨ k = 4 ∨ k = 5 ∨ k = 6 ∨ k = 7 ∨ k = 8 ∨ k = 9 ∨ k = 10 ∨ k = 11 ∨ k = 12 ∨ k = 13 ∨ k = 14 ∨ k = 15 := by omega
    have c0 := cc 0; have c1 := cc 1; have c2 := cc 2; have c3 := cc 3; have c4 := cc 4; have c5 := cc 5; have c6 := cc 6; have c7 := cc 7; have c8 := cc 8; have c9 := cc 9; have c10 := cc 10; have c11 := cc 11; have c12 := cc 12; have c13 := cc 13; have c14 := cc 14; have c15 := cc 15
    simp only [ops.cells] at c0 c1 c2 c3 c4 c5 c6 c7 c8 c9 c10 c11 c12 c13 c14 c15
    clear cc h
    rcases hk with rfl | rfl | rfl | rfl | rfl | rfl | rfl | rfl | rfl | rfl | rfl | rfl | rfl | rfl | rfl | rfl
    all_goals
      go_enter Tryd.func15, Tryd.ntmps15
      go_wp2_with (fail)
      refine (IR _).mono ?_
      rintro e w1 ⟨rfl, rfl⟩
      go_wp2_with (fail)
      go_ret
      exact ⟨rfl, rfl⟩
  · obtain rfl : q = false := by rw [← HQ.out]; unfold nums.inr; simp; omega
    rw [symOf_out h]
    clear h cc
    go_enter Tryd.func15, Tryd.ntmps15
    go_wp2_with (fail)
    refine (IR _).mono ?_
    rintro e w1 ⟨rfl, rfl⟩
    go_wp2_with (fail)
    go_ret
    exact ⟨rfl, rfl⟩

set_option maxHeartbeats 4000000 in
theorem opSymbol_s (k : Int) (w : World) : Calls Tryd.prog 14 #[.int .i64 k] w fun e w' => e = .returned (.string (symOf k)) ∧ Below w.heap.size w w' := by
  obtain ⟨q, HQ⟩ : ∃ q, Hid (nums.inr k 1 15 = q) := ⟨_, Lib.hid rfl⟩
  have IR : ∀ w, Calls Tryd.prog 38 #[.int .i64 k, .int .i64 1, .int .i64 15] w fun e w' => e = .returned (.bool q) ∧ w = w' := fun w => HQ.out ▸ nums.l1In k 1 15 w
  by_cases h : 1 ≤ k ∧ k ≤ 15
  · obtain rfl : q = true := by rw [← HQ.out]; unfold nums.inr; simp; omega
    have hk : k = 1 ∨ k = 2 ∨ k = 3 ∨ k = 4 ∨ k = 5 ∨ k = 6 ∨ k = 7 ∨ k = 8 ∨ k = 9 ∨ k = 10 ∨ k = 11 ∨ k = 12 ∨ k = 13 ∨ k = 14 ∨ k = 15 := by omega
    clear h
    rcases hk with rfl | rfl | rfl | rfl | rfl | rfl | rfl | rfl | rfl | rfl | rfl | rfl | rfl | rfl | rfl
    all_goals
      go_enter Tryd.func14, Tryd.ntmps14
      go_wp2_with (fail)
      refine (IR _).mono ?_
      rintro e w1 ⟨rfl, rfl⟩
      go_wp2_with (fail)
      go_ret
      exact ⟨rfl, b1 _ _⟩
  · obtain rfl : q = false := by rw [← HQ.out]; unfold nums.inr; simp; omega
    have e : symOf k = ⟨#[]⟩ := by
      by_cases h0 : k = 0
      · subst h0; rfl
      · exact symOf_out (by omega)
    rw [e]
    clear e h
    go_enter Tryd.func14, Tryd.ntmps14
    go_wp2_with (fail)
    refine (IR _).mono ?_
    rintro e w1 ⟨rfl, rfl⟩
    go_wp2_with (fail)
    go_ret
    exact ⟨rfl, Below.refl _ _⟩

end Go.Proofs.YteoilhbidnnneaaDoor.ops

/-
  Two keys compared, and keys as the keys of a map.
  Conditions: those that each theorem names.
-/
namespace Go.Proofs.YteoilhbidnnneaaDoor.tree
open Go.ChangeShapes Go.WideShapes Go.ChangeAt Go.RowKit
set_option linter.unusedVariables false

instance : DecidableEq Ky := fun a b =>
  match a, b with
  | ⟨t, n, s⟩, ⟨t', n', s'⟩ => if h : t = t' ∧ n = n' ∧ s.data.toList = s'.data.toList then .isTrue (by
      obtain ⟨rfl, rfl, h⟩ := h
      obtain ⟨⟨s⟩⟩ := s
      obtain ⟨⟨s'⟩⟩ := s'
      simp at h
      subst h
      rfl) else .isFalse (fun e => h (by cases e; exact ⟨rfl, rfl, rfl⟩))

theorem kpart1 {P : Program} {w : World} {t : TypeId} {d : TypeDesc} (h : P.underlying t = some d) (hd : (match d with | .struct _ | .array _ _ => true | _ => false) = false) {cs : Array Value} {off : Nat} {v : Value} (hx : cs[off]? = some v) : (part t cs off).run P w = .ok v w := by
  cases d <;> simp_all [part, isAgg, run_underlying h]
theorem bytes_ne {s s' : ByteArray} (h : ¬ s.data.toList = s'.data.toList) : (s.toList == s'.toList) = false ∧ ¬ s.toList = s'.toList := by
  have h1 : ¬ s.toList = s'.toList := fun hh => h (by rwa [ByteArray.toList_eq, ByteArray.toList_eq] at hh)
  exact ⟨beq_false_of_ne h1, h1⟩
theorem bytes_same {s s' : ByteArray} (h : s.data.toList = s'.data.toList) : s = s' := by
  obtain ⟨⟨s⟩⟩ := s
  obtain ⟨⟨s'⟩⟩ := s'
  simp at h
  subst h
  rfl
theorem ik_desc : ∃ f0 f1 f2 : Field, Tryd.prog.underlying IK = some (.struct #[f0, f1, f2]) ∧ f0.name ≠ "_" ∧ f1.name ≠ "_" ∧ f2.name ≠ "_" ∧ f0.type = 4 ∧ f1.type = 3 ∧ f2.type = 9 ∧ f0.offset = 0 ∧ f1.offset = 1 ∧ f2.offset = 2 :=
  ⟨_, _, _, Tryd.underlying32, by decide, by decide, by decide, rfl, rfl, rfl, rfl, rfl, rfl⟩
theorem ik_held : Tryd.prog.stoodInHeld IK = false := by kernel_rfl
theorem ky_eq (d : Nat) (w : World) (y y' : Ky) : (Op.equalIn (d + 2) IK (kyV y) (kyV y')).run Tryd.prog w = .ok (decide (y = y')) w := by
  obtain ⟨b, n, s⟩ := y
  obtain ⟨b', n', s'⟩ := y'
  obtain ⟨f0, f1, f2, hu, n0, n1, n2, t0, t1, t2, o0, o1, o2⟩ := ik_desc
  have hf : Tryd.prog.fieldsOf IK = #[f0, f1, f2] := by simp [Program.fieldsOf, hu]
  have hb := run_equalIn_bool' (P := Tryd.prog) w d 4 b b' Tryd.underlying4
  have hi := run_equalIn_int (P := Tryd.prog) w d 3 .i64 .i64 n n' Tryd.underlying3
  have hs := run_equalIn_string (P := Tryd.prog) w d 9 s s' Tryd.underlying9
  have pa : ∀ (cs : Array Value) (v : Value), cs[0]? = some v → (part 4 cs 0).run Tryd.prog w = .ok v w := fun cs v h => kpart1 Tryd.underlying4 rfl h
  have pb : ∀ (cs : Array Value) (v : Value), cs[1]? = some v → (part 3 cs 1).run Tryd.prog w = .ok v w := fun cs v h => kpart1 Tryd.underlying3 rfl h
  have pc : ∀ (cs : Array Value) (v : Value), cs[2]? = some v → (part 9 cs 2).run Tryd.prog w = .ok v w := fun cs v h => kpart1 Tryd.underlying9 rfl h
  unfold kyV
  rw [run_equalIn_struct w (d + 1) IK _ _ (by rw [hf]; exact hu) ik_held, hf]
  have e1 := pa #[.bool b, .int .i64 n, .string s] _ rfl
  have e2 := pa #[.bool b', .int .i64 n', .string s'] _ rfl
  have e3 := pb #[.bool b, .int .i64 n, .string s] _ rfl
  have e4 := pb #[.bool b', .int .i64 n', .string s'] _ rfl
  have e5 := pc #[.bool b, .int .i64 n, .string s] _ rfl
  have e6 := pc #[.bool b', .int .i64 n', .string s'] _ rfl
  have key : decide ((⟨b, n, s⟩ : Ky) = ⟨b', n', s'⟩) = ((b == b') && ((n == n') && (s.toList == s'.toList))) := by
    rw [Bool.eq_iff_iff]
    simp only [decide_eq_true_eq, Ky.mk.injEq, Bool.and_eq_true, beq_iff_eq]
    constructor
    · rintro ⟨rfl, rfl, rfl⟩; exact ⟨rfl, rfl, rfl⟩
    · rintro ⟨rfl, rfl, h⟩
      refine ⟨rfl, rfl, bytes_same ?_⟩
      simp only [ByteArray.toList_eq] at h
      exact h
  rw [key]
  generalize hq1 : (b == b') = q1 at *
  generalize hq2 : (n == n') = q2 at *
  generalize hq3 : (s.toList == s'.toList) = q3 at *
  cases q1 <;> cases q2 <;> cases q3 <;> simp [Op.eqFields, n0, n1, n2, t0, t1, t2, o0, o1, o2, e1, e2, e3, e4, e5, e6, hb, hi, hs, Result.andThen]
theorem ky_neq (w : World) (y y' : Ky) : (binOp .neq IK (kyV y) (kyV y')).run Tryd.prog w = .ok (.bool (!decide (y = y'))) w := by
  have := ky_eq 9998 w y y'
  unfold kyV at this ⊢
  rw [run_neq_struct, this]
  rfl

theorem ky_eql (w : World) (y y' : Ky) : (binOp .eql IK (kyV y) (kyV y')).run Tryd.prog w = .ok (.bool (decide (y = y'))) w := by
  have := ky_eq 9998 w y y'
  unfold kyV at this ⊢
  rw [run_eql_struct, this]
  rfl

def GK (w : World) (v : Value) : Prop := ∃ y : Ky, v = kyV y
theorem ky_inj {y y' : Ky} (h : kyV y = kyV y') : y = y' := by
  obtain ⟨b, n, s⟩ := y
  obtain ⟨b', n', s'⟩ := y'
  simp [kyV] at h
  obtain ⟨rfl, rfl, rfl⟩ := h
  rfl
theorem ky_check (d : Nat) (w : World) (em : Bool) (y : Ky) : (Instr.checkKey em (d + 2) IK (kyV y)).run Tryd.prog w = .ok () w := by
  obtain ⟨b, n, s⟩ := y
  obtain ⟨f0, f1, f2, hu, n0, n1, n2, t0, t1, t2, o0, o1, o2⟩ := ik_desc
  have pa : (part 4 #[.bool b, .int .i64 n, .string s] 0).run Tryd.prog w = .ok (.bool b) w := kpart1 Tryd.underlying4 rfl rfl
  have pb : (part 3 #[.bool b, .int .i64 n, .string s] 1).run Tryd.prog w = .ok (.int .i64 n) w := kpart1 Tryd.underlying3 rfl rfl
  have pc : (part 9 #[.bool b, .int .i64 n, .string s] 2).run Tryd.prog w = .ok (.string s) w := kpart1 Tryd.underlying9 rfl rfl
  unfold kyV
  simp [Instr.checkKey, run_underlying hu, n0, n1, n2, t0, t1, t2, o0, o1, o2, pa, pb, pc, run_underlying Tryd.underlying4, run_underlying Tryd.underlying3, run_underlying Tryd.underlying9, Result.andThen]
theorem ky_same (d : Nat) (b : Bool) (n : Int) (s : ByteArray) : Instr.sameBits (d + 2) (.agg #[.bool b, .int .i64 n, .string s]) (.agg #[.bool b, .int .i64 n, .string s]) = true := by
  simp [Instr.sameBits]
  first | rfl | (obtain ⟨a⟩ := s; show (a == a) = true; simp) | exact beq_iff_eq.2 rfl
theorem good_ky : raw.Good Tryd.prog IK GK where
  wide := by
    obtain ⟨f0, f1, f2, hu, _⟩ := ik_desc
    rw [hu]
  check := fun w em x ⟨y, e⟩ => e ▸ ky_check 9998 w em y
  eq := fun w x x' ⟨y, e⟩ ⟨y', e'⟩ => ⟨decide (y = y'), by rw [e, e']; exact ky_eq 9998 w y y', by rw [e, e', decide_eq_true_eq]; exact ⟨fun h => h ▸ rfl, ky_inj⟩⟩
  same := fun w x ⟨y, e⟩ => by
    rw [e]
    obtain ⟨b, n, s⟩ := y
    exact ky_same 9998 b n s
theorem gk_stays : raw.Stays GK := fun _ _ _ _ _ _ h => h

end Go.Proofs.YteoilhbidnnneaaDoor.tree

/-
  OpOf of the project and of the model.
  Conditions: the table of symbols holds what the program's text lays.
-/
namespace Go.Proofs.YteoilhbidnnneaaDoor.ops
open Go.ChangeShapes Go.WideShapes Go.ChangeAt Go.RowKit tree
set_option linter.unusedVariables false

def syms : List ByteArray := [n0, n1, n2, n3, n4, n5, n6, n7, n8, n9, n10, n11, n12, n13, n14, n15]
theorem opOf_none {s : ByteArray} (h : ∀ i : Nat, i < 16 → syms[i]? ≠ some s) : opOf s = 0 := by
  have h1 : ¬ s = n1 := fun e => h 1 (by omega) (by rw [e]; rfl)
  have h2 : ¬ s = n2 := fun e => h 2 (by omega) (by rw [e]; rfl)
  have h3 : ¬ s = n3 := fun e => h 3 (by omega) (by rw [e]; rfl)
  have h4 : ¬ s = n4 := fun e => h 4 (by omega) (by rw [e]; rfl)
  have h5 : ¬ s = n5 := fun e => h 5 (by omega) (by rw [e]; rfl)
  have h6 : ¬ s = n6 := fun e => h 6 (by omega) (by rw [e]; rfl)
  have h7 : ¬ s = n7 := fun e => h 7 (by omega) (by rw [e]; rfl)
  have h8 : ¬ s = n8 := fun e => h 8 (by omega) (by rw [e]; rfl)
  have h9 : ¬ s = n9 := fun e => h 9 (by omega) (by rw [e]; rfl)
  have h10 : ¬ s = n10 := fun e => h 10 (by omega) (by rw [e]; rfl)
  have h11 : ¬ s = n11 := fun e => h 11 (by omega) (by rw [e]; rfl)
  have h12 : ¬ s = n12 := fun e => h 12 (by omega) (by rw [e]; rfl)
  have h13 : ¬ s = n13 := fun e => h 13 (by omega) (by rw [e]; rfl)
  have h14 : ¬ s = n14 := fun e => h 14 (by omega) (by rw [e]; rfl)
  have h15 : ¬ s = n15 := fun e => h 15 (by omega) (by rw [e]; rfl)
  unfold opOf
  rw [if_neg h1, if_neg h2, if_neg h3, if_neg h4, if_neg h5, if_neg h6, if_neg h7, if_neg h8, if_neg h9, if_neg h10, if_neg h11, if_neg h12, if_neg h13, if_neg h14, if_neg h15]
theorem sym_next {s : ByteArray} {j : Nat} (h : ∀ i : Nat, i < j → syms[i]? ≠ some s) (hj : syms[j]? ≠ some s) : ∀ i : Nat, i < j + 1 → syms[i]? ≠ some s := fun i hi => by
  rcases Nat.lt_or_ge i j with h1 | h1
  · exact h i h1
  · obtain rfl : i = j := by omega
    exact hj
theorem ne_toList {s s' : ByteArray} (h : ¬ s = s') : (s'.toList == s.toList) = false ∧ ¬ s'.toList = s.toList := bytes_ne fun e => h (bytes_same e).symm

theorem ix0 (w : World) : (Instr.index 60 (.agg #[.string n0, .string n1, .string n2, .string n3, .string n4, .string n5, .string n6, .string n7, .string n8, .string n9, .string n10, .string n11, .string n12, .string n13, .string n14, .string n15]) (.int .i64 0)).run Tryd.prog w = .ok (.string n0) w := by kernel_rfl
theorem ix1 (w : World) : (Instr.index 60 (.agg #[.string n0, .string n1, .string n2, .string n3, .string n4, .string n5, .string n6, .string n7, .string n8, .string n9, .string n10, .string n11, .string n12, .string n13, .string n14, .string n15]) (.int .i64 1)).run Tryd.prog w = .ok (.string n1) w := by kernel_rfl
theorem ix2 (w : World) : (Instr.index 60 (.agg #[.string n0, .string n1, .string n2, .string n3, .string n4, .string n5, .string n6, .string n7, .string n8, .string n9, .string n10, .string n11, .string n12, .string n13, .string n14, .string n15]) (.int .i64 2)).run Tryd.prog w = .ok (.string n2) w := by kernel_rfl
theorem ix3 (w : World) : (Instr.index 60 (.agg #[.string n0, .string n1, .string n2, .string n3, .string n4, .string n5, .string n6, .string n7, .string n8, .string n9, .string n10, .string n11, .string n12, .string n13, .string n14, .string n15]) (.int .i64 3)).run Tryd.prog w = .ok (.string n3) w := by kernel_rfl
theorem ix4 (w : World) : (Instr.index 60 (.agg #[.string n0, .string n1, .string n2, .string n3, .string n4, .string n5, .string n6, .string n7, .string n8, .string n9, .string n10, .string n11, .string n12, .string n13, .string n14, .string n15]) (.int .i64 4)).run Tryd.prog w = .ok (.string n4) w := by kernel_rfl
theorem ix5 (w : World) : (Instr.index 60 (.agg #[.string n0, .string n1, .string n2, .string n3, .string n4, .string n5, .string n6, .string n7, .string n8, .string n9, .string n10, .string n11, .string n12, .string n13, .string n14, .string n15]) (.int .i64 5)).run Tryd.prog w = .ok (.string n5) w := by kernel_rfl
theorem ix6 (w : World) : (Instr.index 60 (.agg #[.string n0, .string n1, .string n2, .string n3, .string n4, .string n5, .string n6, .string n7, .string n8, .string n9, .string n10, .string n11, .string n12, .string n13, .string n14, .string n15]) (.int .i64 6)).run Tryd.prog w = .ok (.string n6) w := by kernel_rfl
theorem ix7 (w : World) : (Instr.index 60 (.agg #[.string n0, .string n1, .string n2, .string n3, .string n4, .string n5, .string n6, .string n7, .string n8, .string n9, .string n10, .string n11, .string n12, .string n13, .string n14, .string n15]) (.int .i64 7)).run Tryd.prog w = .ok (.string n7) w := by kernel_rfl
theorem ix8 (w : World) : (Instr.index 60 (.agg #[.string n0, .string n1, .string n2, .string n3, .string n4, .string n5, .string n6, .string n7, .string n8, .string n9, .string n10, .string n11, .string n12, .string n13, .string n14, .string n15]) (.int .i64 8)).run Tryd.prog w = .ok (.string n8) w := by kernel_rfl
theorem ix9 (w : World) : (Instr.index 60 (.agg #[.string n0, .string n1, .string n2, .string n3, .string n4, .string n5, .string n6, .string n7, .string n8, .string n9, .string n10, .string n11, .string n12, .string n13, .string n14, .string n15]) (.int .i64 9)).run Tryd.prog w = .ok (.string n9) w := by kernel_rfl
theorem ix10 (w : World) : (Instr.index 60 (.agg #[.string n0, .string n1, .string n2, .string n3, .string n4, .string n5, .string n6, .string n7, .string n8, .string n9, .string n10, .string n11, .string n12, .string n13, .string n14, .string n15]) (.int .i64 10)).run Tryd.prog w = .ok (.string n10) w := by kernel_rfl
theorem ix11 (w : World) : (Instr.index 60 (.agg #[.string n0, .string n1, .string n2, .string n3, .string n4, .string n5, .string n6, .string n7, .string n8, .string n9, .string n10, .string n11, .string n12, .string n13, .string n14, .string n15]) (.int .i64 11)).run Tryd.prog w = .ok (.string n11) w := by kernel_rfl
theorem ix12 (w : World) : (Instr.index 60 (.agg #[.string n0, .string n1, .string n2, .string n3, .string n4, .string n5, .string n6, .string n7, .string n8, .string n9, .string n10, .string n11, .string n12, .string n13, .string n14, .string n15]) (.int .i64 12)).run Tryd.prog w = .ok (.string n12) w := by kernel_rfl
theorem ix13 (w : World) : (Instr.index 60 (.agg #[.string n0, .string n1, .string n2, .string n3, .string n4, .string n5, .string n6, .string n7, .string n8, .string n9, .string n10, .string n11, .string n12, .string n13, .string n14, .string n15]) (.int .i64 13)).run Tryd.prog w = .ok (.string n13) w := by kernel_rfl
theorem ix14 (w : World) : (Instr.index 60 (.agg #[.string n0, .string n1, .string n2, .string n3, .string n4, .string n5, .string n6, .string n7, .string n8, .string n9, .string n10, .string n11, .string n12, .string n13, .string n14, .string n15]) (.int .i64 14)).run Tryd.prog w = .ok (.string n14) w := by kernel_rfl
theorem ix15 (w : World) : (Instr.index 60 (.agg #[.string n0, .string n1, .string n2, .string n3, .string n4, .string n5, .string n6, .string n7, .string n8, .string n9, .string n10, .string n11, .string n12, .string n13, .string n14, .string n15]) (.int .i64 15)).run Tryd.prog w = .ok (.string n15) w := by kernel_rfl
set_option maxHeartbeats 8000000 in
set_option maxRecDepth 100000 in
theorem opOf_i (s : ByteArray) (w : World) (hT : Tab w) : Calls Tryd.prog 17 #[.string s] w fun e w' => e = .returned (.int .i64 (opOf s)) ∧ w = w' := by
  obtain ⟨t, fr, hc⟩ := hT.cells
  have cc : ∀ j, w.cell? ⟨0, j, none⟩ = cells[j]? := fun j => cell_of_row w _ j cells t fr hc
  clear hc hT
  have c0 := cc 0; have c1 := cc 1; have c2 := cc 2; have c3 := cc 3; have c4 := cc 4; have c5 := cc 5; have c6 := cc 6; have c7 := cc 7; have c8 := cc 8; have c9 := cc 9; have c10 := cc 10; have c11 := cc 11; have c12 := cc 12; have c13 := cc 13; have c14 := cc 14; have c15 := cc 15
  simp only [ops.cells] at c0 c1 c2 c3 c4 c5 c6 c7 c8 c9 c10 c11 c12 c13 c14 c15
  clear cc
  obtain ⟨W, HW⟩ : ∃ W, Hid (opOf s = W) := ⟨_, Lib.hid rfl⟩
  rw [HW.out]
  go_enter Tryd.func17, Tryd.ntmps17
  go_wp2
  clear c0 c1 c2 c3 c4 c5 c6 c7 c8 c9 c10 c11 c12 c13 c14 c15
  go_loop [6] (fun v => ∃ (j : Nat) (z : Int), v = .int .i64 z ∧ z = (j : Int) ∧ j ≤ 16 ∧ Hid (∀ i : Nat, i < j → syms[i]? ≠ some s)) (fun v => 16 - (intOf v).toNat)
  case atStart => exact ⟨0, 0, rfl, rfl, by omega, Lib.hid fun i hi => absurd hi (by omega)⟩
  case round =>
    obtain ⟨j, z, rfl, hz, hj, HS⟩ := hrel
    have hcs : j = 0 ∨ j = 1 ∨ j = 2 ∨ j = 3 ∨ j = 4 ∨ j = 5 ∨ j = 6 ∨ j = 7 ∨ j = 8 ∨ j = 9 ∨ j = 10 ∨ j = 11 ∨ j = 12 ∨ j = 13 ∨ j = 14 ∨ j = 15 ∨ j = 16 := by clear hz HS; omega
    clear hj
    rcases hcs with rfl | rfl | rfl | rfl | rfl | rfl | rfl | rfl | rfl | rfl | rfl | rfl | rfl | rfl | rfl | rfl | rfl

    · obtain rfl : z = 0 := by rw [hz]; rfl
      clear hz
      have hix := ix0
      by_cases hs : s = n0
      · subst hs
        have e : opOf n0 = 0 := by kernel_rfl
        obtain rfl : W = 0 := by rw [← HW.out]; exact e
        clear e HS HW
        go_wp2
        go_ret
        exact ⟨rfl, rfl⟩
      · obtain ⟨e1, e2⟩ := ne_toList hs
        have HS2 := Lib.hid (sym_next HS.out (fun e => hs (Option.some.inj e).symm))
        clear hs HS
        go_wp2
        exact ⟨⟨1, 1, rfl, rfl, by omega, HS2⟩, by simp [RowKit.intOf]⟩
    · obtain rfl : z = 1 := by rw [hz]; rfl
      clear hz
      have hix := ix1
      by_cases hs : s = n1
      · subst hs
        have e : opOf n1 = 1 := by kernel_rfl
        obtain rfl : W = 1 := by rw [← HW.out]; exact e
        clear e HS HW
        go_wp2
        go_ret
        exact ⟨rfl, rfl⟩
      · obtain ⟨e1, e2⟩ := ne_toList hs
        have HS2 := Lib.hid (sym_next HS.out (fun e => hs (Option.some.inj e).symm))
        clear hs HS
        go_wp2
        exact ⟨⟨2, 2, rfl, rfl, by omega, HS2⟩, by simp [RowKit.intOf]⟩
    · obtain rfl : z = 2 := by rw [hz]; rfl
      clear hz
      have hix := ix2
      by_cases hs : s = n2
      · subst hs
        have e : opOf n2 = 2 := by kernel_rfl
        obtain rfl : W = 2 := by rw [← HW.out]; exact e
        clear e HS HW
        go_wp2
        go_ret
        exact ⟨rfl, rfl⟩
      · obtain ⟨e1, e2⟩ := ne_toList hs
        have HS2 := Lib.hid (sym_next HS.out (fun e => hs (Option.some.inj e).symm))
        clear hs HS
        go_wp2
        exact ⟨⟨3, 3, rfl, rfl, by omega, HS2⟩, by simp [RowKit.intOf]⟩
    · obtain rfl : z = 3 := by rw [hz]; rfl
      clear hz
      have hix := ix3
      by_cases hs : s = n3
      · subst hs
        have e : opOf n3 = 3 := by kernel_rfl
        obtain rfl : W = 3 := by rw [← HW.out]; exact e
        clear e HS HW
        go_wp2
        go_ret
        exact ⟨rfl, rfl⟩
      · obtain ⟨e1, e2⟩ := ne_toList hs
        have HS2 := Lib.hid (sym_next HS.out (fun e => hs (Option.some.inj e).symm))
        clear hs HS
        go_wp2
        exact ⟨⟨4, 4, rfl, rfl, by omega, HS2⟩, by simp [RowKit.intOf]⟩
    · obtain rfl : z = 4 := by rw [hz]; rfl
      clear hz
      have hix := ix4
      by_cases hs : s = n4
      · subst hs
        have e : opOf n4 = 4 := by kernel_rfl
        obtain rfl : W = 4 := by rw [← HW.out]; exact e
        clear e HS HW
        go_wp2
        go_ret
        exact ⟨rfl, rfl⟩
      · obtain ⟨e1, e2⟩ := ne_toList hs
        have HS2 := Lib.hid (sym_next HS.out (fun e => hs (Option.some.inj e).symm))
        clear hs HS
        go_wp2
        exact ⟨⟨5, 5, rfl, rfl, by omega, HS2⟩, by simp [RowKit.intOf]⟩
    · obtain rfl : z = 5 := by rw [hz]; rfl
      clear hz
      have hix := ix5
      by_cases hs : s = n5
      · subst hs
        have e : opOf n5 = 5 := by kernel_rfl
        obtain rfl : W = 5 := by rw [← HW.out]; exact e
        clear e HS HW
        go_wp2
        go_ret
        exact ⟨rfl, rfl⟩
      · obtain ⟨e1, e2⟩ := ne_toList hs
        have HS2 := Lib.hid (sym_next HS.out (fun e => hs (Option.some.inj e).symm))
        clear hs HS
        go_wp2
        exact ⟨⟨6, 6, rfl, rfl, by omega, HS2⟩, by simp [RowKit.intOf]⟩
    · obtain rfl : z = 6 := by rw [hz]; rfl
      clear hz
      have hix := ix6
      by_cases hs : s = n6
      · subst hs
        have e : opOf n6 = 6 := by kernel_rfl
        obtain rfl : W = 6 := by rw [← HW.out]; exact e
        clear e HS HW
        go_wp2
        go_ret
        exact ⟨rfl, rfl⟩
      · obtain ⟨e1, e2⟩ := ne_toList hs
        have HS2 := Lib.hid (sym_next HS.out (fun e => hs (Option.some.inj e).symm))
        clear hs HS
        go_wp2
        exact ⟨⟨7, 7, rfl, rfl, by omega, HS2⟩, by simp [RowKit.intOf]⟩
    · obtain rfl : z = 7 := by rw [hz]; rfl
      clear hz
      have hix := ix7
      by_cases hs : s = n7
      · subst hs
        have e : opOf n7 = 7 := by kernel_rfl
        obtain rfl : W = 7 := by rw [← HW.out]; exact e
        clear e HS HW
        go_wp2
        go_ret
        exact ⟨rfl, rfl⟩
      · obtain ⟨e1, e2⟩ := ne_toList hs
        have HS2 := Lib.hid (sym_next HS.out (fun e => hs (Option.some.inj e).symm))
        clear hs HS
        go_wp2
        exact ⟨⟨8, 8, rfl, rfl, by omega, HS2⟩, by simp [RowKit.intOf]⟩
    · obtain rfl : z = 8 := by rw [hz]; rfl
      clear hz
      have hix := ix8
      by_cases hs : s = n8
      · subst hs
        have e : opOf n8 = 8 := by kernel_rfl
        obtain rfl : W = 8 := by rw [← HW.out]; exact e
        clear e HS HW
        go_wp2
        go_ret
        exact ⟨rfl, rfl⟩
      · obtain ⟨e1, e2⟩ := ne_toList hs
        have HS2 := Lib.hid (sym_next HS.out (fun e => hs (Option.some.inj e).symm))
        clear hs HS
        go_wp2
        exact ⟨⟨9, 9, rfl, rfl, by omega, HS2⟩, by simp [RowKit.intOf]⟩
    · obtain rfl : z = 9 := by rw [hz]; rfl
      clear hz
      have hix := ix9
      by_cases hs : s = n9
      · subst hs
        have e : opOf n9 = 9 := by kernel_rfl
        obtain rfl : W = 9 := by rw [← HW.out]; exact e
        clear e HS HW
        go_wp2
        go_ret
        exact ⟨rfl, rfl⟩
      · obtain ⟨e1, e2⟩ := ne_toList hs
        have HS2 := Lib.hid (sym_next HS.out (fun e => hs (Option.some.inj e).symm))
        clear hs HS
        go_wp2
        exact ⟨⟨10, 10, rfl, rfl, by omega, HS2⟩, by simp [RowKit.intOf]⟩
    · obtain rfl : z = 10 := by rw [hz]; rfl
      clear hz
      have hix := ix10
      by_cases hs : s = n10
      · subst hs
        have e : opOf n10 = 10 := by kernel_rfl
        obtain rfl : W = 10 := by rw [← HW.out]; exact e
        clear e HS HW
        go_wp2
        go_ret
        exact ⟨rfl, rfl⟩
      · obtain ⟨e1, e2⟩ := ne_toList hs
        have HS2 := Lib.hid (sym_next HS.out (fun e => hs (Option.some.inj e).symm))
        clear hs HS
        go_wp2
        exact ⟨⟨11, 11, rfl, rfl, by omega, HS2⟩, by simp [RowKit.intOf]⟩
    · obtain rfl : z = 11 := by rw [hz]; rfl
      clear hz
      have hix := ix11
      by_cases hs : s = n11
      · subst hs
        have e : opOf n11 = 11 := by kernel_rfl
        obtain rfl : W = 11 := by rw [← HW.out]; exact e
        clear e HS HW
        go_wp2
        go_ret
        exact ⟨rfl, rfl⟩
      · obtain ⟨e1, e2⟩ := ne_toList hs
        have HS2 := Lib.hid (sym_next HS.out (fun e => hs (Option.some.inj e).symm))
        clear hs HS
        go_wp2
        exact ⟨⟨12, 12, rfl, rfl, by omega, HS2⟩, by simp [RowKit.intOf]⟩
    · obtain rfl : z = 12 := by rw [hz]; rfl
      clear hz
      have hix := ix12
      by_cases hs : s = n12
      · subst hs
        have e : opOf n12 = 12 := by kernel_rfl
        obtain rfl : W = 12 := by rw [← HW.out]; exact e
        clear e HS HW
        go_wp2
        go_ret
        exact ⟨rfl, rfl⟩
      · obtain ⟨e1, e2⟩ := ne_toList hs
        have HS2 := Lib.hid (sym_next HS.out (fun e => hs (Option.some.inj e).symm))
        clear hs HS
        go_wp2
        exact ⟨⟨13, 13, rfl, rfl, by omega, HS2⟩, by simp [RowKit.intOf]⟩
    · obtain rfl : z = 13 := by rw [hz]; rfl
      clear hz
      have hix := ix13
      by_cases hs : s = n13
      · subst hs
        have e : opOf n13 = 13 := by kernel_rfl
        obtain rfl : W = 13 := by rw [← HW.out]; exact e
        clear e HS HW
        go_wp2
        go_ret
        exact ⟨rfl, rfl⟩
      · obtain ⟨e1, e2⟩ := ne_toList hs
        have HS2 := Lib.hid (sym_next HS.out (fun e => hs (Option.some.inj e).symm))
        clear hs HS
        go_wp2
        exact ⟨⟨14, 14, rfl, rfl, by omega, HS2⟩, by simp [RowKit.intOf]⟩
    · obtain rfl : z = 14 := by rw [hz]; rfl
      clear hz
      have hix := ix14
      by_cases hs : s = n14
      · subst hs
        have e : opOf n14 = 14 := by kernel_rfl
        obtain rfl : W = 14 := by rw [← HW.out]; exact e
        clear e HS HW
        go_wp2
        go_ret
        exact ⟨rfl, rfl⟩
      · obtain ⟨e1, e2⟩ := ne_toList hs
        have HS2 := Lib.hid (sym_next HS.out (fun e => hs (Option.some.inj e).symm))
        clear hs HS
        go_wp2
        exact ⟨⟨15, 15, rfl, rfl, by omega, HS2⟩, by simp [RowKit.intOf]⟩
    · obtain rfl : z = 15 := by rw [hz]; rfl
      clear hz
      have hix := ix15
      by_cases hs : s = n15
      · subst hs
        have e : opOf n15 = 15 := by kernel_rfl
        obtain rfl : W = 15 := by rw [← HW.out]; exact e
        clear e HS HW
        go_wp2
        go_ret
        exact ⟨rfl, rfl⟩
      · obtain ⟨e1, e2⟩ := ne_toList hs
        have HS2 := Lib.hid (sym_next HS.out (fun e => hs (Option.some.inj e).symm))
        clear hs HS
        go_wp2
        exact ⟨⟨16, 16, rfl, rfl, by omega, HS2⟩, by simp [RowKit.intOf]⟩
    · obtain rfl : z = 16 := by rw [hz]; rfl
      clear hz
      obtain rfl : W = 0 := by rw [← HW.out]; exact opOf_none HS.out
      clear HS HW
      go_wp2
      go_ret
      exact ⟨rfl, rfl⟩

set_option maxHeartbeats 8000000 in
set_option maxRecDepth 100000 in
theorem opOf_s (s : ByteArray) (w : World) : Calls Tryd.prog 16 #[.string s] w fun e w' => e = .returned (.int .i64 (opOf s)) ∧ Below w.heap.size w w' := by
  obtain ⟨W, HW⟩ : ∃ W, Hid (opOf s = W) := ⟨_, Lib.hid rfl⟩
  rw [HW.out]
  go_enter Tryd.func16, Tryd.ntmps16
  go_wp2
  go_loopg [3] 17 (fun gk v wr => ∃ (j : Nat) (z : Int), v = .int .i64 z ∧ z = (j : Int) ∧ gk + j = 18 ∧ 1 ≤ j ∧ j ≤ 16 ∧ Hid (∀ i : Nat, 1 ≤ i → i < j → syms[i]? ≠ some s) ∧ Below w.heap.size w wr)
  case atStart => exact ⟨1, 1, rfl, rfl, by omega, by omega, by omega, Lib.hid fun i h1 (hi : i < 1) => absurd hi (by omega), Below.refl _ _⟩
  case round =>
    obtain ⟨j, z, rfl, hz, hgj, hj1, hj, HS, hb⟩ := hrel
    have HB := Lib.hid hb
    have hcs : j = 1 ∨ j = 2 ∨ j = 3 ∨ j = 4 ∨ j = 5 ∨ j = 6 ∨ j = 7 ∨ j = 8 ∨ j = 9 ∨ j = 10 ∨ j = 11 ∨ j = 12 ∨ j = 13 ∨ j = 14 ∨ j = 15 ∨ j = 16 := by clear hz HS hgj hb HB; omega
    clear hj hj1 hb
    rcases hcs with rfl | rfl | rfl | rfl | rfl | rfl | rfl | rfl | rfl | rfl | rfl | rfl | rfl | rfl | rfl | rfl

    · obtain rfl : z = 1 := by rw [hz]; rfl
      clear hz
      have OS := opSymbol_s 1
      have eS : symOf 1 = n1 := by kernel_rfl
      rw [eS] at OS
      clear eS
      by_cases hs : s = n1
      · subst hs
        have e : opOf n1 = 1 := by kernel_rfl
        obtain rfl : W = 1 := by rw [← HW.out]; exact e
        clear e HS HW
        go_wp2_with (fail)
        refine (OS _).mono ?_
        rintro e w1 ⟨rfl, hb1⟩
        have HB1 := Lib.hid (bs HB.out hb1)
        clear hb1
        go_wp2_with (fail)
        go_ret
        exact ⟨rfl, HB1.out⟩
      · obtain ⟨e1, e2⟩ := ne_toList hs
        have HS2 : Hid (∀ i : Nat, 1 ≤ i → i < 1 + 1 → syms[i]? ≠ some s) := Lib.hid fun i h1 hi => by
          rcases Nat.lt_or_ge i 1 with h2 | h2
          · exact HS.out i h1 h2
          · obtain rfl : i = 1 := by omega
            exact fun e => hs (Option.some.inj e).symm
        clear hs HS
        go_wp2_with (fail)
        refine (OS _).mono ?_
        rintro e w1 ⟨rfl, hb1⟩
        have HB1 := Lib.hid (bs HB.out hb1)
        clear hb1
        go_wp2_with (fail)
        go_roundg 16
        case rel => exact ⟨2, 2, rfl, rfl, by omega, by omega, by omega, HS2, HB1.out⟩
        case measure => omega
    · obtain rfl : z = 2 := by rw [hz]; rfl
      clear hz
      have OS := opSymbol_s 2
      have eS : symOf 2 = n2 := by kernel_rfl
      rw [eS] at OS
      clear eS
      by_cases hs : s = n2
      · subst hs
        have e : opOf n2 = 2 := by kernel_rfl
        obtain rfl : W = 2 := by rw [← HW.out]; exact e
        clear e HS HW
        go_wp2_with (fail)
        refine (OS _).mono ?_
        rintro e w1 ⟨rfl, hb1⟩
        have HB1 := Lib.hid (bs HB.out hb1)
        clear hb1
        go_wp2_with (fail)
        go_ret
        exact ⟨rfl, HB1.out⟩
      · obtain ⟨e1, e2⟩ := ne_toList hs
        have HS2 : Hid (∀ i : Nat, 1 ≤ i → i < 2 + 1 → syms[i]? ≠ some s) := Lib.hid fun i h1 hi => by
          rcases Nat.lt_or_ge i 2 with h2 | h2
          · exact HS.out i h1 h2
          · obtain rfl : i = 2 := by omega
            exact fun e => hs (Option.some.inj e).symm
        clear hs HS
        go_wp2_with (fail)
        refine (OS _).mono ?_
        rintro e w1 ⟨rfl, hb1⟩
        have HB1 := Lib.hid (bs HB.out hb1)
        clear hb1
        go_wp2_with (fail)
        go_roundg 15
        case rel => exact ⟨3, 3, rfl, rfl, by omega, by omega, by omega, HS2, HB1.out⟩
        case measure => omega
    · obtain rfl : z = 3 := by rw [hz]; rfl
      clear hz
      have OS := opSymbol_s 3
      have eS : symOf 3 = n3 := by kernel_rfl
      rw [eS] at OS
      clear eS
      by_cases hs : s = n3
      · subst hs
        have e : opOf n3 = 3 := by kernel_rfl
        obtain rfl : W = 3 := by rw [← HW.out]; exact e
        clear e HS HW
        go_wp2_with (fail)
        refine (OS _).mono ?_
        rintro e w1 ⟨rfl, hb1⟩
        have HB1 := Lib.hid (bs HB.out hb1)
        clear hb1
        go_wp2_with (fail)
        go_ret
        exact ⟨rfl, HB1.out⟩
      · obtain ⟨e1, e2⟩ := ne_toList hs
        have HS2 : Hid (∀ i : Nat, 1 ≤ i → i < 3 + 1 → syms[i]? ≠ some s) := Lib.hid fun i h1 hi => by
          rcases Nat.lt_or_ge i 3 with h2 | h2
          · exact HS.out i h1 h2
          · obtain rfl : i = 3 := by omega
            exact fun e => hs (Option.some.inj e).symm
        clear hs HS
        go_wp2_with (fail)
        refine (OS _).mono ?_
        rintro e w1 ⟨rfl, hb1⟩
        have HB1 := Lib.hid (bs HB.out hb1)
        clear hb1
        go_wp2_with (fail)
        go_roundg 14
        case rel => exact ⟨4, 4, rfl, rfl, by omega, by omega, by omega, HS2, HB1.out⟩
        case measure => omega
    · obtain rfl : z = 4 := by rw [hz]; rfl
      clear hz
      have OS := opSymbol_s 4
      have eS : symOf 4 = n4 := by kernel_rfl
      rw [eS] at OS
      clear eS
      by_cases hs : s = n4
      · subst hs
        have e : opOf n4 = 4 := by kernel_rfl
        obtain rfl : W = 4 := by rw [← HW.out]; exact e
        clear e HS HW
        go_wp2_with (fail)
        refine (OS _).mono ?_
        rintro e w1 ⟨rfl, hb1⟩
        have HB1 := Lib.hid (bs HB.out hb1)
        clear hb1
        go_wp2_with (fail)
        go_ret
        exact ⟨rfl, HB1.out⟩
      · obtain ⟨e1, e2⟩ := ne_toList hs
        have HS2 : Hid (∀ i : Nat, 1 ≤ i → i < 4 + 1 → syms[i]? ≠ some s) := Lib.hid fun i h1 hi => by
          rcases Nat.lt_or_ge i 4 with h2 | h2
          · exact HS.out i h1 h2
          · obtain rfl : i = 4 := by omega
            exact fun e => hs (Option.some.inj e).symm
        clear hs HS
        go_wp2_with (fail)
        refine (OS _).mono ?_
        rintro e w1 ⟨rfl, hb1⟩
        have HB1 := Lib.hid (bs HB.out hb1)
        clear hb1
        go_wp2_with (fail)
        go_roundg 13
        case rel => exact ⟨5, 5, rfl, rfl, by omega, by omega, by omega, HS2, HB1.out⟩
        case measure => omega
    · obtain rfl : z = 5 := by rw [hz]; rfl
      clear hz
      have OS := opSymbol_s 5
      have eS : symOf 5 = n5 := by kernel_rfl
      rw [eS] at OS
      clear eS
      by_cases hs : s = n5
      · subst hs
        have e : opOf n5 = 5 := by kernel_rfl
        obtain rfl : W = 5 := by rw [← HW.out]; exact e
        clear e HS HW
        go_wp2_with (fail)
        refine (OS _).mono ?_
        rintro e w1 ⟨rfl, hb1⟩
        have HB1 := Lib.hid (bs HB.out hb1)
        clear hb1
        go_wp2_with (fail)
        go_ret
        exact ⟨rfl, HB1.out⟩
      · obtain ⟨e1, e2⟩ := ne_toList hs
        have HS2 : Hid (∀ i : Nat, 1 ≤ i → i < 5 + 1 → syms[i]? ≠ some s) := Lib.hid fun i h1 hi => by
          rcases Nat.lt_or_ge i 5 with h2 | h2
          · exact HS.out i h1 h2
          · obtain rfl : i = 5 := by omega
            exact fun e => hs (Option.some.inj e).symm
        clear hs HS
        go_wp2_with (fail)
        refine (OS _).mono ?_
        rintro e w1 ⟨rfl, hb1⟩
        have HB1 := Lib.hid (bs HB.out hb1)
        clear hb1
        go_wp2_with (fail)
        go_roundg 12
        case rel => exact ⟨6, 6, rfl, rfl, by omega, by omega, by omega, HS2, HB1.out⟩
        case measure => omega
    · obtain rfl : z = 6 := by rw [hz]; rfl
      clear hz
      have OS := opSymbol_s 6
      have eS : symOf 6 = n6 := by kernel_rfl
      rw [eS] at OS
      clear eS
      by_cases hs : s = n6
      · subst hs
        have e : opOf n6 = 6 := by kernel_rfl
        obtain rfl : W = 6 := by rw [← HW.out]; exact e
        clear e HS HW
        go_wp2_with (fail)
        refine (OS _).mono ?_
        rintro e w1 ⟨rfl, hb1⟩
        have HB1 := Lib.hid (bs HB.out hb1)
        clear hb1
        go_wp2_with (fail)
        go_ret
        exact ⟨rfl, HB1.out⟩
      · obtain ⟨e1, e2⟩ := ne_toList hs
        have HS2 : Hid (∀ i : Nat, 1 ≤ i → i < 6 + 1 → syms[i]? ≠ some s) := Lib.hid fun i h1 hi => by
          rcases Nat.lt_or_ge i 6 with h2 | h2
          · exact HS.out i h1 h2
          · obtain rfl : i = 6 := by omega
            exact fun e => hs (Option.some.inj e).symm
        clear hs HS
        go_wp2_with (fail)
        refine (OS _).mono ?_
        rintro e w1 ⟨rfl, hb1⟩
        have HB1 := Lib.hid (bs HB.out hb1)
        clear hb1
        go_wp2_with (fail)
        go_roundg 11
        case rel => exact ⟨7, 7, rfl, rfl, by omega, by omega, by omega, HS2, HB1.out⟩
        case measure => omega
    · obtain rfl : z = 7 := by rw [hz]; rfl
      clear hz
      have OS := opSymbol_s 7
      have eS : symOf 7 = n7 := by kernel_rfl
      rw [eS] at OS
      clear eS
      by_cases hs : s = n7
      · subst hs
        have e : opOf n7 = 7 := by kernel_rfl
        obtain rfl : W = 7 := by rw [← HW.out]; exact e
        clear e HS HW
        go_wp2_with (fail)
        refine (OS _).mono ?_
        rintro e w1 ⟨rfl, hb1⟩
        have HB1 := Lib.hid (bs HB.out hb1)
        clear hb1
        go_wp2_with (fail)
        go_ret
        exact ⟨rfl, HB1.out⟩
      · obtain ⟨e1, e2⟩ := ne_toList hs
        have HS2 : Hid (∀ i : Nat, 1 ≤ i → i < 7 + 1 → syms[i]? ≠ some s) := Lib.hid fun i h1 hi => by
          rcases Nat.lt_or_ge i 7 with h2 | h2
          · exact HS.out i h1 h2
          · obtain rfl : i = 7 := by omega
            exact fun e => hs (Option.some.inj e).symm
        clear hs HS
        go_wp2_with (fail)
        refine (OS _).mono ?_
        rintro e w1 ⟨rfl, hb1⟩
        have HB1 := Lib.hid (bs HB.out hb1)
        clear hb1
        go_wp2_with (fail)
        go_roundg 10
        case rel => exact ⟨8, 8, rfl, rfl, by omega, by omega, by omega, HS2, HB1.out⟩
        case measure => omega
    · obtain rfl : z = 8 := by rw [hz]; rfl
      clear hz
      have OS := opSymbol_s 8
      have eS : symOf 8 = n8 := by kernel_rfl
      rw [eS] at OS
      clear eS
      by_cases hs : s = n8
      · subst hs
        have e : opOf n8 = 8 := by kernel_rfl
        obtain rfl : W = 8 := by rw [← HW.out]; exact e
        clear e HS HW
        go_wp2_with (fail)
        refine (OS _).mono ?_
        rintro e w1 ⟨rfl, hb1⟩
        have HB1 := Lib.hid (bs HB.out hb1)
        clear hb1
        go_wp2_with (fail)
        go_ret
        exact ⟨rfl, HB1.out⟩
      · obtain ⟨e1, e2⟩ := ne_toList hs
        have HS2 : Hid (∀ i : Nat, 1 ≤ i → i < 8 + 1 → syms[i]? ≠ some s) := Lib.hid fun i h1 hi => by
          rcases Nat.lt_or_ge i 8 with h2 | h2
          · exact HS.out i h1 h2
          · obtain rfl : i = 8 := by omega
            exact fun e => hs (Option.some.inj e).symm
        clear hs HS
        go_wp2_with (fail)
        refine (OS _).mono ?_
        rintro e w1 ⟨rfl, hb1⟩
        have HB1 := Lib.hid (bs HB.out hb1)
        clear hb1
        go_wp2_with (fail)
        go_roundg 9
        case rel => exact ⟨9, 9, rfl, rfl, by omega, by omega, by omega, HS2, HB1.out⟩
        case measure => omega
    · obtain rfl : z = 9 := by rw [hz]; rfl
      clear hz
      have OS := opSymbol_s 9
      have eS : symOf 9 = n9 := by kernel_rfl
      rw [eS] at OS
      clear eS
      by_cases hs : s = n9
      · subst hs
        have e : opOf n9 = 9 := by kernel_rfl
        obtain rfl : W = 9 := by rw [← HW.out]; exact e
        clear e HS HW
        go_wp2_with (fail)
        refine (OS _).mono ?_
        rintro e w1 ⟨rfl, hb1⟩
        have HB1 := Lib.hid (bs HB.out hb1)
        clear hb1
        go_wp2_with (fail)
        go_ret
        exact ⟨rfl, HB1.out⟩
      · obtain ⟨e1, e2⟩ := ne_toList hs
        have HS2 : Hid (∀ i : Nat, 1 ≤ i → i < 9 + 1 → syms[i]? ≠ some s) := Lib.hid fun i h1 hi => by
          rcases Nat.lt_or_ge i 9 with h2 | h2
          · exact HS.out i h1 h2
          · obtain rfl : i = 9 := by omega
            exact fun e => hs (Option.some.inj e).symm
        clear hs HS
        go_wp2_with (fail)
        refine (OS _).mono ?_
        rintro e w1 ⟨rfl, hb1⟩
        have HB1 := Lib.hid (bs HB.out hb1)
        clear hb1
        go_wp2_with (fail)
        go_roundg 8
        case rel => exact ⟨10, 10, rfl, rfl, by omega, by omega, by omega, HS2, HB1.out⟩
        case measure => omega
    · obtain rfl : z = 10 := by rw [hz]; rfl
      clear hz
      have OS := opSymbol_s 10
      have eS : symOf 10 = n10 := by kernel_rfl
      rw [eS] at OS
      clear eS
      by_cases hs : s = n10
      · subst hs
        have e : opOf n10 = 10 := by kernel_rfl
        obtain rfl : W = 10 := by rw [← HW.out]; exact e
        clear e HS HW
        go_wp2_with (fail)
        refine (OS _).mono ?_
        rintro e w1 ⟨rfl, hb1⟩
        have HB1 := Lib.hid (bs HB.out hb1)
        clear hb1
        go_wp2_with (fail)
        go_ret
        exact ⟨rfl, HB1.out⟩
      · obtain ⟨e1, e2⟩ := ne_toList hs
        have HS2 : Hid (∀ i : Nat, 1 ≤ i → i < 10 + 1 → syms[i]? ≠ some s) := Lib.hid fun i h1 hi => by
          rcases Nat.lt_or_ge i 10 with h2 | h2
          · exact HS.out i h1 h2
          · obtain rfl : i = 10 := by omega
            exact fun e => hs (Option.some.inj e).symm
        clear hs HS
        go_wp2_with (fail)
        refine (OS _).mono ?_
        rintro e w1 ⟨rfl, hb1⟩
        have HB1 := Lib.hid (bs HB.out hb1)
        clear hb1
        go_wp2_with (fail)
        go_roundg 7
        case rel => exact ⟨11, 11, rfl, rfl, by omega, by omega, by omega, HS2, HB1.out⟩
        case measure => omega
    · obtain rfl : z = 11 := by rw [hz]; rfl
      clear hz
      have OS := opSymbol_s 11
      have eS : symOf 11 = n11 := by kernel_rfl
      rw [eS] at OS
      clear eS
      by_cases hs : s = n11
      · subst hs
        have e : opOf n11 = 11 := by kernel_rfl
        obtain rfl : W = 11 := by rw [← HW.out]; exact e
        clear e HS HW
        go_wp2_with (fail)
        refine (OS _).mono ?_
        rintro e w1 ⟨rfl, hb1⟩
        have HB1 := Lib.hid (bs HB.out hb1)
        clear hb1
        go_wp2_with (fail)
        go_ret
        exact ⟨rfl, HB1.out⟩
      · obtain ⟨e1, e2⟩ := ne_toList hs
        have HS2 : Hid (∀ i : Nat, 1 ≤ i → i < 11 + 1 → syms[i]? ≠ some s) := Lib.hid fun i h1 hi => by
          rcases Nat.lt_or_ge i 11 with h2 | h2
          · exact HS.out i h1 h2
          · obtain rfl : i = 11 := by omega
            exact fun e => hs (Option.some.inj e).symm
        clear hs HS
        go_wp2_with (fail)
        refine (OS _).mono ?_
        rintro e w1 ⟨rfl, hb1⟩
        have HB1 := Lib.hid (bs HB.out hb1)
        clear hb1
        go_wp2_with (fail)
        go_roundg 6
        case rel => exact ⟨12, 12, rfl, rfl, by omega, by omega, by omega, HS2, HB1.out⟩
        case measure => omega
    · obtain rfl : z = 12 := by rw [hz]; rfl
      clear hz
      have OS := opSymbol_s 12
      have eS : symOf 12 = n12 := by kernel_rfl
      rw [eS] at OS
      clear eS
      by_cases hs : s = n12
      · subst hs
        have e : opOf n12 = 12 := by kernel_rfl
        obtain rfl : W = 12 := by rw [← HW.out]; exact e
        clear e HS HW
        go_wp2_with (fail)
        refine (OS _).mono ?_
        rintro e w1 ⟨rfl, hb1⟩
        have HB1 := Lib.hid (bs HB.out hb1)
        clear hb1
        go_wp2_with (fail)
        go_ret
        exact ⟨rfl, HB1.out⟩
      · obtain ⟨e1, e2⟩ := ne_toList hs
        have HS2 : Hid (∀ i : Nat, 1 ≤ i → i < 12 + 1 → syms[i]? ≠ some s) := Lib.hid fun i h1 hi => by
          rcases Nat.lt_or_ge i 12 with h2 | h2
          · exact HS.out i h1 h2
          · obtain rfl : i = 12 := by omega
            exact fun e => hs (Option.some.inj e).symm
        clear hs HS
        go_wp2_with (fail)
        refine (OS _).mono ?_
        rintro e w1 ⟨rfl, hb1⟩
        have HB1 := Lib.hid (bs HB.out hb1)
        clear hb1
        go_wp2_with (fail)
        go_roundg 5
        case rel => exact ⟨13, 13, rfl, rfl, by omega, by omega, by omega, HS2, HB1.out⟩
        case measure => omega
    · obtain rfl : z = 13 := by rw [hz]; rfl
      clear hz
      have OS := opSymbol_s 13
      have eS : symOf 13 = n13 := by kernel_rfl
      rw [eS] at OS
      clear eS
      by_cases hs : s = n13
      · subst hs
        have e : opOf n13 = 13 := by kernel_rfl
        obtain rfl : W = 13 := by rw [← HW.out]; exact e
        clear e HS HW
        go_wp2_with (fail)
        refine (OS _).mono ?_
        rintro e w1 ⟨rfl, hb1⟩
        have HB1 := Lib.hid (bs HB.out hb1)
        clear hb1
        go_wp2_with (fail)
        go_ret
        exact ⟨rfl, HB1.out⟩
      · obtain ⟨e1, e2⟩ := ne_toList hs
        have HS2 : Hid (∀ i : Nat, 1 ≤ i → i < 13 + 1 → syms[i]? ≠ some s) := Lib.hid fun i h1 hi => by
          rcases Nat.lt_or_ge i 13 with h2 | h2
          · exact HS.out i h1 h2
          · obtain rfl : i = 13 := by omega
            exact fun e => hs (Option.some.inj e).symm
        clear hs HS
        go_wp2_with (fail)
        refine (OS _).mono ?_
        rintro e w1 ⟨rfl, hb1⟩
        have HB1 := Lib.hid (bs HB.out hb1)
        clear hb1
        go_wp2_with (fail)
        go_roundg 4
        case rel => exact ⟨14, 14, rfl, rfl, by omega, by omega, by omega, HS2, HB1.out⟩
        case measure => omega
    · obtain rfl : z = 14 := by rw [hz]; rfl
      clear hz
      have OS := opSymbol_s 14
      have eS : symOf 14 = n14 := by kernel_rfl
      rw [eS] at OS
      clear eS
      by_cases hs : s = n14
      · subst hs
        have e : opOf n14 = 14 := by kernel_rfl
        obtain rfl : W = 14 := by rw [← HW.out]; exact e
        clear e HS HW
        go_wp2_with (fail)
        refine (OS _).mono ?_
        rintro e w1 ⟨rfl, hb1⟩
        have HB1 := Lib.hid (bs HB.out hb1)
        clear hb1
        go_wp2_with (fail)
        go_ret
        exact ⟨rfl, HB1.out⟩
      · obtain ⟨e1, e2⟩ := ne_toList hs
        have HS2 : Hid (∀ i : Nat, 1 ≤ i → i < 14 + 1 → syms[i]? ≠ some s) := Lib.hid fun i h1 hi => by
          rcases Nat.lt_or_ge i 14 with h2 | h2
          · exact HS.out i h1 h2
          · obtain rfl : i = 14 := by omega
            exact fun e => hs (Option.some.inj e).symm
        clear hs HS
        go_wp2_with (fail)
        refine (OS _).mono ?_
        rintro e w1 ⟨rfl, hb1⟩
        have HB1 := Lib.hid (bs HB.out hb1)
        clear hb1
        go_wp2_with (fail)
        go_roundg 3
        case rel => exact ⟨15, 15, rfl, rfl, by omega, by omega, by omega, HS2, HB1.out⟩
        case measure => omega
    · obtain rfl : z = 15 := by rw [hz]; rfl
      clear hz
      have OS := opSymbol_s 15
      have eS : symOf 15 = n15 := by kernel_rfl
      rw [eS] at OS
      clear eS
      by_cases hs : s = n15
      · subst hs
        have e : opOf n15 = 15 := by kernel_rfl
        obtain rfl : W = 15 := by rw [← HW.out]; exact e
        clear e HS HW
        go_wp2_with (fail)
        refine (OS _).mono ?_
        rintro e w1 ⟨rfl, hb1⟩
        have HB1 := Lib.hid (bs HB.out hb1)
        clear hb1
        go_wp2_with (fail)
        go_ret
        exact ⟨rfl, HB1.out⟩
      · obtain ⟨e1, e2⟩ := ne_toList hs
        have HS2 : Hid (∀ i : Nat, 1 ≤ i → i < 15 + 1 → syms[i]? ≠ some s) := Lib.hid fun i h1 hi => by
          rcases Nat.lt_or_ge i 15 with h2 | h2
          · exact HS.out i h1 h2
          · obtain rfl : i = 15 := by omega
            exact fun e => hs (Option.some.inj e).symm
        clear hs HS
        go_wp2_with (fail)
        refine (OS _).mono ?_
        rintro e w1 ⟨rfl, hb1⟩
        have HB1 := Lib.hid (bs HB.out hb1)
        clear hb1
        go_wp2_with (fail)
        go_roundg 2
        case rel => exact ⟨16, 16, rfl, rfl, by omega, by omega, by omega, HS2, HB1.out⟩
        case measure => omega
    · obtain rfl : z = 16 := by rw [hz]; rfl
      clear hz
      have e : opOf s = 0 := by
        by_cases h0 : s = n0
        · subst h0; kernel_rfl
        · exact opOf_none fun i hi => by
            rcases Nat.eq_zero_or_pos i with rfl | h1
            · exact fun e => h0 (Option.some.inj e).symm
            · exact HS.out i h1 hi
      obtain rfl : W = 0 := by rw [← HW.out]; exact e
      clear HS HW e
      go_wp2
      go_ret
      exact ⟨rfl, HB.out⟩

end Go.Proofs.YteoilhbidnnneaaDoor.ops

/-
  What the table of operators' symbols holds.
  Conditions: the variable holds what the program's text lays.
-/
namespace Go.Proofs.YteoilhbidnnneaaDoor.ops
open Go.ChangeShapes Go.WideShapes Go.ChangeAt Go.RowKit
set_option linter.unusedVariables false

namespace env
def laidOf : List (String × DataW Unit) := Rows.fnExactOpSymbolRow.laid
theorem env_of {W : World} (h : laidMetH Tryd.prog laidOf W) : Tab W := by
  rw [MakeChecks.laidMetH_plain _ _ _ (by kernel_rfl)] at h
  exact of_reads (Lib.laidMet.reads h (List.mem_cons_self ..))
theorem door_met (os : Os) (args : Array Value) : laidMetH Tryd.prog laidOf ((World.doorLaid Tryd.prog 400 os).forCall (fun _ _ => 0) ⟨#[], args, []⟩).memory :=
  laidMetH_of_parts3 (fuel := 8) (laidMet_of_run' 8 (by kernel_rfl) (by kernel_rfl)) (by kernel_rfl) (by kernel_rfl)
end env

end Go.Proofs.YteoilhbidnnneaaDoor.ops

