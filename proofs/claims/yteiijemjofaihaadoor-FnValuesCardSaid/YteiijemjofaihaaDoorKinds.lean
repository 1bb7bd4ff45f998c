/-
  KindName of the project and of the model: the project's table of names, and what both return.
  Conditions: the table holds what the program's text lays.
-/
import Derived.Test.YteiijemjofaihaaDoorSmall
import Derived.Test.YteiijemjofaihaaDoorTreeEq
import Derived.Laws.Rows
import Derived.Lib.LaidU8
import Derived.ChangeArms
import Derived.OpenShut
import Derived.Lib.SmallJoins
namespace Go.Proofs.YteiijemjofaihaaDoor.kinds
open Go.ChangeShapes Go.WideShapes Go.ChangeAt Go.RowKit tree
set_option linter.unusedVariables false

def n0 : ByteArray := ⟨#[110, 117, 108, 108]⟩
def n1 : ByteArray := ⟨#[98, 111, 111, 108]⟩
def n2 : ByteArray := ⟨#[105, 110, 116]⟩
def n3 : ByteArray := ⟨#[115, 116, 114, 105, 110, 103]⟩
def n4 : ByteArray := ⟨#[97, 114, 114, 97, 121]⟩
def n6 : ByteArray := ⟨#[111, 98, 106, 101, 99, 116]⟩
def n7 : ByteArray := ⟨#[99, 108, 111, 115, 117, 114, 101]⟩
def n8 : ByteArray := ⟨#[103, 101, 110, 101, 114, 97, 116, 111, 114]⟩
def cells : Array Value := #[.string n0, .string n1, .string n2, .string n3, .string n4, .string n4, .string n6, .string n7, .string n8]
def Tab (w : World) : Prop := w.var? Tryd.prog "loop.example/g03011/impl.kindNames" = some cells
theorem gTab : Tryd.prog.globalNamed "loop.example/g03011/impl.kindNames" = some 0 := by kernel_rfl
theorem tTab : (Tryd.prog.globals[0]?).map (·.type) = some 106 := by kernel_rfl
theorem Tab.stays {w w' : World} (h : Tab w) (hb : Below w.heap.size w w') : Tab w' := Joins.var_stays gTab h hb (Nat.le_refl _)

/-- The table as the row lists it. -/
def data : DataW Unit := .agg [.lit (.string [110, 117, 108, 108]), .lit (.string [98, 111, 111, 108]), .lit (.string [105, 110, 116]), .lit (.string [115, 116, 114, 105, 110, 103]), .lit (.string [97, 114, 114, 97, 121]), .lit (.string [97, 114, 114, 97, 121]), .lit (.string [111, 98, 106, 101, 99, 116]), .lit (.string [99, 108, 111, 115, 117, 114, 101]), .lit (.string [103, 101, 110, 101, 114, 97, 116, 111, 114])]

theorem c9 : Tryd.prog.cellsOf 9 = 1 := by kernel_rfl
theorem cA : Tryd.prog.cellsOf 106 = 9 := by kernel_rfl
theorem len9 {α : Type} : ∀ {l : List α}, l.length = 9 → ∃ a b c d e f g h i, l = [a, b, c, d, e, f, g, h, i]
  | [a, b, c, d, e, f, g, h, i], _ => ⟨a, b, c, d, e, f, g, h, i, rfl⟩
theorem one {enc : TypeId × Value → Unit} {w : World} {base : Nat} {sp : Nat → Bool} {held : Bool} {fuel : Nat} {c : Value} {d : DataW Unit} {p : List MemPlace} (bs : List UInt8) (hd : d = .lit (.string bs))
    (h : DataW.trod enc Tryd.prog w base sp held fuel 9 [c] = some (d, p)) : c = .string ⟨bs.toArray⟩ := by
  subst hd
  obtain ⟨s, hs, hv, _⟩ := DataW.trod_string Tryd.underlying9 h
  simp at hs hv
  obtain ⟨hv, -⟩ := hv
  rw [hs, hv, Joins.bytes_eta]

theorem of_reads {w : World} (h : Lib.VarReads Tryd.prog w "loop.example/g03011/impl.kindNames" data) : Tab w := by
  obtain ⟨g, t, cs, fuel, p, hg, ht, hv, hd⟩ := h
  obtain rfl := Option.some.inj (gTab.symm.trans hg)
  obtain rfl := Option.some.inj (tTab.symm.trans ht)
  unfold Tab
  rw [hv]
  congr 1
  apply Array.toList_inj.1
  obtain ⟨xs, m, rfl, hx, hl, hxl, hall⟩ := DataW.trod_array Tryd.underlying106 hd
  rw [cA] at hl
  have hxs := congrArg Prod.fst hx
  generalize cs.toList = l at *
  obtain ⟨a0, a1, a2, a3, a4, a5, a6, a7, a8, rfl⟩ := len9 hl
  obtain ⟨u0, u1, u2, u3, u4, u5, u6, u7, u8, rfl⟩ := len9 hxl
  have h0 := hall 0 (by omega); have h1 := hall 1 (by omega); have h2 := hall 2 (by omega); have h3 := hall 3 (by omega); have h4 := hall 4 (by omega)
  have h5 := hall 5 (by omega); have h6 := hall 6 (by omega); have h7 := hall 7 (by omega); have h8 := hall 8 (by omega)
  simp only [c9] at h0 h1 h2 h3 h4 h5 h6 h7 h8
  simp only [data, List.map_cons, List.map_nil, DataW.agg.injEq, List.cons.injEq, and_true] at hxs
  obtain ⟨e0, e1, e2, e3, e4, e5, e6, e7, e8⟩ := hxs
  have k0 := one (c := a0) (p := u0.2) _ e0.symm h0
  have k1 := one (c := a1) (p := u1.2) _ e1.symm h1
  have k2 := one (c := a2) (p := u2.2) _ e2.symm h2
  have k3 := one (c := a3) (p := u3.2) _ e3.symm h3
  have k4 := one (c := a4) (p := u4.2) _ e4.symm h4
  have k5 := one (c := a5) (p := u5.2) _ e5.symm h5
  have k6 := one (c := a6) (p := u6.2) _ e6.symm h6
  have k7 := one (c := a7) (p := u7.2) _ e7.symm h7
  have k8 := one (c := a8) (p := u8.2) _ e8.symm h8
  subst k0 k1 k2 k3 k4 k5 k6 k7 k8
  rfl

/-- The table's cells, for the walk. -/
theorem Tab.cells {w : World} (h : Tab w) : ∃ t fr, w.heap[0]? = some (.cells cells t fr) := by
  unfold Tab World.var? at h
  rw [gTab] at h
  simp only [Option.bind_some] at h
  split at h
  · rename_i c t fr hb
    cases h
    exact ⟨t, fr, hb⟩
  · cases h

def nameOf (k : Int) : ByteArray :=
  if k = 0 then n0 else if k = 1 then n1 else if k = 2 then n2 else if k = 3 then n3 else if k = 4 then n4 else if k = 5 then n4 else if k = 6 then n6 else if k = 7 then n7 else if k = 8 then n8 else ⟨#[]⟩

theorem kindName_i (k : Int) (w : World) (hT : Tab w) : Calls Tryd.prog 37 #[.int .i64 k] w fun e w' => e = .returned (.string (nameOf k)) ∧ Below w.heap.size w w' := by
  obtain ⟨t, fr, hc⟩ := hT.cells
  have cc : ∀ j, w.cell? ⟨0, j, none⟩ = cells[j]? := fun j => cell_of_row w _ j cells t fr hc
  clear hc hT
  obtain ⟨q, HQ⟩ : ∃ q, Hid (nums.inr k 0 8 = q) := ⟨_, Lib.hid rfl⟩
  have IR : ∀ w, Calls Tryd.prog 78 #[.int .i64 k, .int .i64 0, .int .i64 8] w fun e w' => e = .returned (.bool q) ∧ w = w' := fun w => HQ.out ▸ nums.implInRange k 0 8 w
  by_cases h : 0 ≤ k ∧ k ≤ 8
  · obtain rfl : q = true := by rw [← HQ.out]; unfold nums.inr; simp; omega
    have hk : k = 0 ∨ k = 1 ∨ k = 2 ∨ k = 3 ∨ k = 4 ∨ k = 5 ∨ k = 6 ∨ k = 7 ∨ k = 8 := by omega
    have c0 := cc 0; have c1 := cc 1; have c2 := cc 2; have c3 := cc 3; have c4 := cc 4; have c5 := cc 5; have c6 := cc 6; have c7 := cc 7; have c8 := cc 8
    simp only [kinds.cells] at c0 c1 c2 c3 c4 c5 c6 c7 c8
    clear cc h
    rcases hk with rfl | rfl | rfl | rfl | rfl | rfl | rfl | rfl | rfl
    all_goals
      go_enter Tryd.func37, Tryd.ntmps37
      go_wp2_with (fail)
      refine (IR _).mono ?_
      rintro e w1 ⟨rfl, rfl⟩
      go_wp2_with (fail)
      go_ret
      exact ⟨rfl, Below.refl _ _⟩
  · obtain rfl : q = false := by rw [← HQ.out]; unfold nums.inr; simp; omega
    have e : nameOf k = ⟨#[]⟩ := by
      unfold nameOf
      rw [if_neg (by omega), if_neg (by omega), if_neg (by omega), if_neg (by omega), if_neg (by omega), if_neg (by omega), if_neg (by omega), if_neg (by omega), if_neg (by omega)]
    rw [e]
    clear e h cc
    go_enter Tryd.func37, Tryd.ntmps37
    go_wp2_with (fail)
    refine (IR _).mono ?_
    rintro e w1 ⟨rfl, rfl⟩
    go_wp2_with (fail)
    go_ret
    exact ⟨rfl, Below.refl _ _⟩


end Go.Proofs.YteiijemjofaihaaDoor.kinds
