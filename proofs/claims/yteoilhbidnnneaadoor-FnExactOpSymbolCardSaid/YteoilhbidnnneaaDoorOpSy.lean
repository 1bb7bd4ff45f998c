/-
  OpSymbol and OpOf of the project and of the model: the project's table of symbols, and what both return.
  Conditions: the table holds what the program's text lays.
-/
import Derived.Test.YteoilhbidnnneaaDoorSmall
import Derived.Test.YteoilhbidnnneaaDoorTreeEq
import Derived.Laws.Rows
import Derived.Lib.LaidU8
import Derived.ChangeArms
import Derived.OpenShut
import Derived.Lib.SmallJoins
namespace Go.Proofs.YteoilhbidnnneaaDoor.ops
open Go.ChangeShapes Go.WideShapes Go.ChangeAt Go.RowKit tree
set_option linter.unusedVariables false

def n0 : ByteArray := ⟨#[]⟩
def n1 : ByteArray := ⟨#[43]⟩
def n2 : ByteArray := ⟨#[45]⟩
def n3 : ByteArray := ⟨#[42]⟩
def n4 : ByteArray := ⟨#[47]⟩
def n5 : ByteArray := ⟨#[37]⟩
def n6 : ByteArray := ⟨#[46]⟩
def n7 : ByteArray := ⟨#[61, 61]⟩
def n8 : ByteArray := ⟨#[33, 61]⟩
def n9 : ByteArray := ⟨#[61, 61, 61]⟩
def n10 : ByteArray := ⟨#[33, 61, 61]⟩
def n11 : ByteArray := ⟨#[60]⟩
def n12 : ByteArray := ⟨#[60, 61]⟩
def n13 : ByteArray := ⟨#[62]⟩
def n14 : ByteArray := ⟨#[62, 61]⟩
def n15 : ByteArray := ⟨#[60, 61, 62]⟩
def cells : Array Value := #[.string n0, .string n1, .string n2, .string n3, .string n4, .string n5, .string n6, .string n7, .string n8, .string n9, .string n10, .string n11, .string n12, .string n13, .string n14, .string n15]
def Tab (w : World) : Prop := w.var? Tryd.prog "loop.example/g03011/impl.opSymbols" = some cells
theorem gTab : Tryd.prog.globalNamed "loop.example/g03011/impl.opSymbols" = some 0 := by kernel_rfl
theorem tTab : (Tryd.prog.globals[0]?).map (·.type) = some 60 := by kernel_rfl
theorem Tab.stays {w w' : World} (h : Tab w) (hb : Below w.heap.size w w') : Tab w' := Joins.var_stays gTab h hb (Nat.le_refl _)

/-- The table as the row lists it. -/
def data : DataW Unit := .agg [.lit (.string []), .lit (.string [43]), .lit (.string [45]), .lit (.string [42]), .lit (.string [47]), .lit (.string [37]), .lit (.string [46]), .lit (.string [61, 61]), .lit (.string [33, 61]), .lit (.string [61, 61, 61]), .lit (.string [33, 61, 61]), .lit (.string [60]), .lit (.string [60, 61]), .lit (.string [62]), .lit (.string [62, 61]), .lit (.string [60, 61, 62])]

theorem c9 : Tryd.prog.cellsOf 9 = 1 := by kernel_rfl
theorem cA : Tryd.prog.cellsOf 60 = 16 := by kernel_rfl
theorem len16 {α : Type} : ∀ {l : List α}, l.length = 16 → ∃ a0 a1 a2 a3 a4 a5 a6 a7 a8 a9 a10 a11 a12 a13 a14 a15, l = [a0, a1, a2, a3, a4, a5, a6, a7, a8, a9, a10, a11, a12, a13, a14, a15]
  | [a0, a1, a2, a3, a4, a5, a6, a7, a8, a9, a10, a11, a12, a13, a14, a15], _ => ⟨a0, a1, a2, a3, a4, a5, a6, a7, a8, a9, a10, a11, a12, a13, a14, a15, rfl⟩
theorem one {enc : TypeId × Value → Unit} {w : World} {base : Nat} {sp : Nat → Bool} {held : Bool} {fuel : Nat} {c : Value} {d : DataW Unit} {p : List MemPlace} (bs : List UInt8) (hd : d = .lit (.string bs))
    (h : DataW.trod enc Tryd.prog w base sp held fuel 9 [c] = some (d, p)) : c = .string ⟨bs.toArray⟩ := by
  subst hd
  obtain ⟨s, hs, hv, _⟩ := DataW.trod_string Tryd.underlying9 h
  simp at hs hv
  obtain ⟨hv, -⟩ := hv
  rw [hs, hv, Joins.bytes_eta]

theorem of_reads {w : World} (h : Lib.VarReads Tryd.prog w "loop.example/g03011/impl.opSymbols" data) : Tab w := by
  obtain ⟨g, t, cs, fuel, p, hg, ht, hv, hd⟩ := h
  obtain rfl := Option.some.inj (gTab.symm.trans hg)
  obtain rfl := Option.some.inj (tTab.symm.trans ht)
  unfold Tab
  rw [hv]
  congr 1
  apply Array.toList_inj.1
  obtain ⟨xs, m, rfl, hx, hl, hxl, hall⟩ := DataW.trod_array Tryd.underlying60 hd
  rw [cA] at hl
  have hxs := congrArg Prod.fst hx
  generalize cs.toList = l at *
  obtain ⟨a0, a1, a2, a3, a4, a5, a6, a7, a8, a9, a10, a11, a12, a13, a14, a15, rfl⟩ := len16 hl
  obtain ⟨u0, u1, u2, u3, u4, u5, u6, u7, u8, u9, u10, u11, u12, u13, u14, u15, rfl⟩ := len16 hxl
  have h0 := hall 0 (by omega)
  have h1 := hall 1 (by omega)
  have h2 := hall 2 (by omega)
  have h3 := hall 3 (by omega)
  have h4 := hall 4 (by omega)
  have h5 := hall 5 (by omega)
  have h6 := hall 6 (by omega)
  have h7 := hall 7 (by omega)
  have h8 := hall 8 (by omega)
  have h9 := hall 9 (by omega)
  have h10 := hall 10 (by omega)
  have h11 := hall 11 (by omega)
  have h12 := hall 12 (by omega)
  have h13 := hall 13 (by omega)
  have h14 := hall 14 (by omega)
  have h15 := hall 15 (by omega)
  simp only [c9] at h0 h1 h2 h3 h4 h5 h6 h7 h8 h9 h10 h11 h12 h13 h14 h15
  simp only [data, List.map_cons, List.map_nil, DataW.agg.injEq, List.cons.injEq, and_true] at hxs
  obtain ⟨e0, e1, e2, e3, e4, e5, e6, e7, e8, e9, e10, e11, e12, e13, e14, e15⟩ := hxs
  have k0 := one (c := a0) (p := u0.2) _ e0.symm h0
  have k1 := one (c := a1) (p := u1.2) _ e1.symm h1
  have k2 := one (c := a2) (p := u2.2) _ e2.symm h2
  have k3 := one (c := a3) (p := u3.2) _ e3.symm h3
  have k4 := one (c := a4) (p := u4.2) _ e4.symm h4
  have k5 := one (c := a5) (p := u5.2) _ e5.symm h5
  have k6 := one (c := a6) (p := u6.2) _ e6.symm h6
  have k7 := one (c := a7) (p := u7.2) _ e7.symm h7
  have k8 := one (c := a8) (p := u8.2) _ e8.symm h8
  have k9 := one (c := a9) (p := u9.2) _ e9.symm h9
  have k10 := one (c := a10) (p := u10.2) _ e10.symm h10
  have k11 := one (c := a11) (p := u11.2) _ e11.symm h11
  have k12 := one (c := a12) (p := u12.2) _ e12.symm h12
  have k13 := one (c := a13) (p := u13.2) _ e13.symm h13
  have k14 := one (c := a14) (p := u14.2) _ e14.symm h14
  have k15 := one (c := a15) (p := u15.2) _ e15.symm h15
  subst k0 k1 k2 k3 k4 k5 k6 k7 k8 k9 k10 k11 k12 k13 k14 k15
  rfl

/-- The table's cells, for the walk. -/
theorem Tab.cells {w : World} (h : Tab w) : ∃ t fr, w.heap[0]? = some (.cells cells t fr) := by
  unfold Tab World.var? at h
  rw [gTab] at h
  simp only [Option.bind_some] at h
  split at h
  · rename_i c t fr hb
    cases h
    exact ⟨t, fr, hb⟩
  · cases h

/-- The symbol of an operator. -/
def symOf (k : Int) : ByteArray :=
  if k = 0 then n0 else if k = 1 then n1 else if k = 2 then n2 else if k = 3 then n3 else if k = 4 then n4 else if k = 5 then n5 else if k = 6 then n6 else if k = 7 then n7 else if k = 8 then n8 else if k = 9 then n9 else if k = 10 then n10 else if k = 11 then n11 else if k = 12 then n12 else if k = 13 then n13 else if k = 14 then n14 else if k = 15 then n15 else ⟨#[]⟩
theorem symOf_out {k : Int} (h : ¬ (0 ≤ k ∧ k ≤ 15)) : symOf k = ⟨#[]⟩ := by
  unfold symOf
  rw [if_neg (by omega), if_neg (by omega), if_neg (by omega), if_neg (by omega), if_neg (by omega), if_neg (by omega), if_neg (by omega), if_neg (by omega), if_neg (by omega), if_neg (by omega), if_neg (by omega), if_neg (by omega), if_neg (by omega), if_neg (by omega), if_neg (by omega), if_neg (by omega)]
/-- The operator of a symbol. -/
def opOf (s : ByteArray) : Int :=
  if s = n1 then 1 else if s = n2 then 2 else if s = n3 then 3 else if s = n4 then 4 else if s = n5 then 5 else if s = n6 then 6 else if s = n7 then 7 else if s = n8 then 8 else if s = n9 then 9 else if s = n10 then 10 else if s = n11 then 11 else if s = n12 then 12 else if s = n13 then 13 else if s = n14 then 14 else if s = n15 then 15 else 0

set_option maxHeartbeats 4000000 in
theorem opSymbol_i (k : Int) (w : World) (hT : Tab w) : Calls Tryd.prog 15 #[.int .i64 k] w fun e w' => e = .returned (.string (symOf k)) ∧ w = w' := by
  obtain ⟨t, fr, hc⟩ := hT.cells
  have cc : ∀ j, w.cell? ⟨0, j, none⟩ = cells[j]? := fun j => cell_of_row w _ j cells t fr hc
  clear hc hT
  obtain ⟨q, HQ⟩ : ∃ q, Hid (nums.inr k 0 15 = q) := ⟨_, Lib.hid rfl⟩
  have IR : ∀ w, Calls Tryd.prog 39 #[.int .i64 k, .int .i64 0, .int .i64 15] w fun e w' => e = .returned (.bool q) ∧ w = w' := fun w => HQ.out ▸ nums.implInRange k 0 15 w
  by_cases h : 0 ≤ k ∧ k ≤ 15
  · obtain rfl : q = true := by rw [← HQ.out]; unfold nums.inr; simp; omega
    have hk : k = 0 ∨ k = 1 ∨ k = 2 ∨ k = 3 ∨ k = 4 ∨ k = 5 ∨ k = 6 ∨ k = 7 ∨ k = 8 ∨ k = 9 ∨ k = 10 ∨ k = 11 ∨ k = 12 ∨ k = 13 ∨ k = 14 ∨ k = 15 := by omega
    have c0 := cc 0; have c1 := cc 1; have c2 := cc 2; have c3 := cc 3; have c4 := cc 4; have c5 := cc 5; have c6 := cc 6; have c7 := cc 7; have c8 := cc 8; have c9 := cc 9; have c10 := cc 10; have c11 := cc 11; have c12 := cc 12; have c13 := cc 13; have c14 := cc 14; have c15 := cc 15
    simp only [ops.cells] at c0 c1 c2 c3 c4 c5 c6 c7 c8 c9 c10 c11 c12 c13 c14 c15
    clear cc h
    rcases hk with rfl | rfl | rfl | rfl | rfl | rfl | rfl | rfl | rfl | rfl | rfl | rfl | rfl | rfl | rfl | rfl
    all_goals
      go_enter Tryd.func15, Tryd.ntmps15
      go_wp2_with (fail)
      refine (IR _).mono ?_
      rintro e w1 ⟨rfl, rfl⟩
      go_wp2_with (fail)
      go_ret
      exact ⟨rfl, rfl⟩
  · obtain rfl : q = false := by rw [← HQ.out]; unfold nums.inr; simp; omega
    rw [symOf_out h]
    clear h cc
    go_enter Tryd.func15, Tryd.ntmps15
    go_wp2_with (fail)
    refine (IR _).mono ?_
    rintro e w1 ⟨rfl, rfl⟩
    go_wp2_with (fail)
    go_ret
    exact ⟨rfl, rfl⟩

set_option maxHeartbeats 4000000 in
theorem opSymbol_s (k : Int) (w : World) : Calls Tryd.prog 14 #[.int .i64 k] w fun e w' => e = .returned (.string (symOf k)) ∧ Below w.heap.size w w' := by
  obtain ⟨q, HQ⟩ : ∃ q, Hid (nums.inr k 1 15 = q) := ⟨_, Lib.hid rfl⟩
  have IR : ∀ w, Calls Tryd.prog 38 #[.int .i64 k, .int .i64 1, .int .i64 15] w fun e w' => e = .returned (.bool q) ∧ w = w' := fun w => HQ.out ▸ nums.l1In k 1 15 w
  by_cases h : 1 ≤ k ∧ k ≤ 15
  · obtain rfl : q = true := by rw [← HQ.out]; unfold nums.inr; simp; omega
    have hk : k = 1 ∨ k = 2 ∨ k = 3 ∨ k = 4 ∨ k = 5 ∨ k = 6 ∨ k = 7 ∨ k = 8 ∨ k = 9 ∨ k = 10 ∨ k = 11 ∨ k = 12 ∨ k = 13 ∨ k = 14 ∨ k = 15 := by omega
    clear h
    rcases hk with rfl | rfl | rfl | rfl | rfl | rfl | rfl | rfl | rfl | rfl | rfl | rfl | rfl | rfl | rfl
    all_goals
      go_enter Tryd.func14, Tryd.ntmps14
      go_wp2_with (fail)
      refine (IR _).mono ?_
      rintro e w1 ⟨rfl, rfl⟩
      go_wp2_with (fail)
      go_ret
      exact ⟨rfl, b1 _ _⟩
  · obtain rfl : q = false := by rw [← HQ.out]; unfold nums.inr; simp; omega
    have e : symOf k = ⟨#[]⟩ := by
      by_cases h0 : k = 0
      · subst h0; rfl
      · exact symOf_out (by omega)
    rw [e]
    clear e h
    go_enter Tryd.func14, Tryd.ntmps14
    go_wp2_with (fail)
    refine (IR _).mono ?_
    rintro e w1 ⟨rfl, rfl⟩
    go_wp2_with (fail)
    go_ret
    exact ⟨rfl, Below.refl _ _⟩

end Go.Proofs.YteoilhbidnnneaaDoor.ops
