/-
  What the texts behind this one use: 8 parts of one proof.
  Conditions: those that each theorem names.
-/
import Derived.Test.YtdglmnmalfpipaaGreatDoorVB4
import Derived.Test.YtdglmnmalfpipaaGreatDoorShelf
import Derived.Test.YtdglmnmalfpipaaGreatDoorVSTreeEq
import Derived.Test.YtdglmnmalfpipaaGreatDoorVB1
import Derived.Laws.Rows
import Derived.Lib.LaidU8
import Derived.ChangeArms
import Derived.OpenShut
import Derived.Lib.SmallJoins
/-
  Keys of a valid array: where they stand, that none stands twice.
  Conditions: those that each theorem names.
-/
namespace Go.Proofs.YtdglmnmalfpipaaGreatDoor.tree
open Go.ChangeShapes Go.WideShapes Go.ChangeAt Go.RowKit
set_option linter.unusedVariables false

theorem items_at {x : Int} {ks : List Ky} {vs : List Tr} (hl : ks.length = vs.length) (h : itemsB x [] ks vs = true) : ∀ j, j ≤ vs.length → itemsB x (ks.take j) (ks.drop j) (vs.drop j) = true
  | 0, _ => by simpa using h
  | j + 1, hj => by
    have ih := items_at hl h j (by omega)
    rw [items_drop (List.getElem?_eq_getElem (by omega : j < ks.length)) (List.getElem?_eq_getElem (by omega : j < vs.length)), Bool.and_eq_true] at ih
    exact ih.2
theorem items_fact {x : Int} {ks : List Ky} {vs : List Tr} (hl : ks.length = vs.length) (h : itemsB x [] ks vs = true) {j : Nat} {y : Ky} {t : Tr} (hy : ks[j]? = some y) (ht : vs[j]? = some t) : y ∉ ks.take j ∧ sndB t = true := by
  have := items_at hl h j (by have := (List.getElem?_eq_some_iff.1 ht).1; omega)
  rw [items_drop hy ht, Bool.and_eq_true, Bool.and_eq_true, Bool.and_eq_true] at this
  exact ⟨by simpa using this.1.1, this.1.2.2⟩
theorem pos_neg : ∀ (ks : List Ky) (y : Ky) (i : Nat), pos ks y i = -1 ↔ y ∉ ks
  | [], y, i => by simp [pos]
  | z :: ks, y, i => by
    rw [pos]
    by_cases h : z = y
    · subst h; simp
    · rw [if_neg h, pos_neg ks y (i + 1)]; simp; exact fun _ e => h e.symm
theorem pos_get : ∀ (ks : List Ky) (y : Ky) (i p : Nat), pos ks y i = ((i + p : Nat) : Int) → ks[p]? = some y
  | [], y, i, p, h => by simp [pos] at h; omega
  | z :: ks, y, i, p, h => by
    rw [pos] at h
    by_cases e : z = y
    · subst e
      rw [if_pos rfl] at h
      obtain rfl : p = 0 := by omega
      rfl
    · rw [if_neg e] at h
      have hg := pos_ge ks y (i + 1)
      obtain ⟨q, rfl⟩ : ∃ q, p = q + 1 := ⟨p - 1, by omega⟩
      rw [List.getElem?_cons_succ]
      exact pos_get ks y (i + 1) q (by rw [h]; omega)
theorem items_key {x : Int} {ks : List Ky} {vs : List Tr} (hl : ks.length = vs.length) (h : itemsB x [] ks vs = true) {j : Nat} {y : Ky} (hy : ks[j]? = some y) : y ∉ ks.take j ∧ belowB y x = true := by
  obtain ⟨t, ht⟩ : ∃ t, vs[j]? = some t := ⟨_, List.getElem?_eq_getElem (by have := (List.getElem?_eq_some_iff.1 hy).1; omega)⟩
  have := items_at hl h j (by have := (List.getElem?_eq_some_iff.1 ht).1; omega)
  rw [items_drop hy ht, Bool.and_eq_true, Bool.and_eq_true, Bool.and_eq_true] at this
  exact ⟨by simpa using this.1.1, this.1.2.1⟩
theorem below_num {y : Ky} {x : Int} (h : belowB y x = true) (ht : y.text = false) : y.num < x := by
  unfold belowB at h
  rw [Bool.and_eq_true, ht] at h
  simpa using h.2

end Go.Proofs.YtdglmnmalfpipaaGreatDoor.tree

/-
  Whether two values are identical, without the program.
  Conditions: those that each theorem names.
-/
namespace Go.Proofs.YtdglmnmalfpipaaGreatDoor.tree
open Go.ChangeShapes Go.WideShapes Go.ChangeAt Go.RowKit
set_option linter.unusedVariables false

/-- Kind, Num, Str and the number of items. -/
def alikeB (t t' : Tr) : Bool :=
  match t, t' with
  | .mk k n s _ _ vs, .mk k' n' s' _ _ vs' => decide (k = k') && (decide (n = n') && (decide (s.data.toList = s'.data.toList) && decide (vs.length = vs'.length)))
mutual
def identB : Tr → Tr → Bool
  | .mk k n s _ ks vs, .mk k' n' s' _ ks' vs' => (decide (k = k') && (decide (n = n') && (decide (s.data.toList = s'.data.toList) && decide (vs.length = vs'.length)))) && identL ks vs ks' vs'
def identL : List Ky → List Tr → List Ky → List Tr → Bool
  | y :: ks, t :: vs, y' :: ks', t' :: vs' => (decide (y = y') && identB t t') && identL ks vs ks' vs'
  | _, _, _, _ => true
end

theorem identB_mk (k n : Int) (s : ByteArray) (x : Int) (ks : List Ky) (vs : List Tr) (k' n' : Int) (s' : ByteArray) (x' : Int) (ks' : List Ky) (vs' : List Tr) :
    identB (.mk k n s x ks vs) (.mk k' n' s' x' ks' vs') = (alikeB (.mk k n s x ks vs) (.mk k' n' s' x' ks' vs') && identL ks vs ks' vs') := by rw [identB]; rfl
theorem identL_drop {ks : List Ky} {vs : List Tr} {ks' : List Ky} {vs' : List Tr} {j : Nat} {y y' : Ky} {t t' : Tr} (h1 : ks[j]? = some y) (h2 : vs[j]? = some t) (h3 : ks'[j]? = some y') (h4 : vs'[j]? = some t') :
    identL (ks.drop j) (vs.drop j) (ks'.drop j) (vs'.drop j) = ((decide (y = y') && identB t t') && identL (ks.drop (j + 1)) (vs.drop (j + 1)) (ks'.drop (j + 1)) (vs'.drop (j + 1))) := by
  obtain ⟨a1, rfl⟩ := List.getElem?_eq_some_iff.1 h1
  obtain ⟨a2, rfl⟩ := List.getElem?_eq_some_iff.1 h2
  obtain ⟨a3, rfl⟩ := List.getElem?_eq_some_iff.1 h3
  obtain ⟨a4, rfl⟩ := List.getElem?_eq_some_iff.1 h4
  rw [List.drop_eq_getElem_cons a1, List.drop_eq_getElem_cons a2, List.drop_eq_getElem_cons a3, List.drop_eq_getElem_cons a4, identL]

end Go.Proofs.YtdglmnmalfpipaaGreatDoor.tree

/-
  The laws' marks on a value that has no items.
  Conditions: those that each theorem names.
-/
namespace Go.Proofs.YtdglmnmalfpipaaGreatDoor.tree
open Go.ChangeShapes Go.WideShapes Go.ChangeAt Go.RowKit
set_option linter.unusedVariables false

theorem markItems0 (A : Option Addr) (c : Nat) (m : Int) (w : World) : Calls Tryz.prog 122 #[.slice A 0 c, .int .i64 m] w (GivesQ w (.int .i64 m)) := by
  go_enter Tryz.func122, Tryz.ntmps122
  go_wp2
  go_loopg [1, 5] 1 (fun gk l i wr => l = .int .i64 m ∧ i = .int .i64 0 ∧ gk = 1 ∧ w = wr)
  case atStart => exact ⟨rfl, rfl, rfl, rfl⟩
  case round =>
    obtain ⟨rfl, rfl, rfl, rfl⟩ := hrel
    go_wp2
    go_ret
    exact ⟨rfl, Below.refl _ _⟩

set_option maxRecDepth 100000 in
theorem heldItems0 (A : Option Addr) (c : Nat) (m : Int) (w : World) : Calls Tryz.prog 185 #[.slice A 0 c, .int .i64 m] w (GivesQ w (.int .i64 m)) := by
  go_enter Tryz.func185, Tryz.ntmps185
  go_wp2
  go_loopg [1, 5] 1 (fun gk l i wr => l = .int .i64 m ∧ i = .int .i64 0 ∧ gk = 1 ∧ w = wr)
  case atStart => exact ⟨rfl, rfl, rfl, rfl⟩
  case round =>
    obtain ⟨rfl, rfl, rfl, rfl⟩ := hrel
    go_wp2
    go_ret
    exact ⟨rfl, Below.refl _ _⟩

theorem markV0 (k n : Int) (s : ByteArray) (x : Int) (A : Option Addr) (c : Nat) (m : Int) (w : World) : Calls Tryz.prog 49 #[vV k n s x A 0 c, .int .i64 m] w (GivesQ w (.int .i64 m)) := by
  go_enter Tryz.func49, Tryz.ntmps49
  go_wp2_with (fail)
  refine (markItems0 A c m _).mono ?_
  rintro e w1 ⟨rfl, hb1⟩
  have HB := Lib.hid hb1
  clear hb1
  go_wp2_with (fail)
  go_ret
  exact ⟨rfl, bs (b1 _ _) HB.out⟩


end Go.Proofs.YtdglmnmalfpipaaGreatDoor.tree

/-
  Integers and texts as values, of the project and of the model.
  Conditions: those that each theorem names.
-/
namespace Go.Proofs.YtdglmnmalfpipaaGreatDoor.tree
open Go.ChangeShapes Go.WideShapes Go.ChangeAt Go.RowKit
set_option linter.unusedVariables false

theorem intValue_i (n : Int) (w : World) : Calls Tryz.prog 107 #[.int .i64 n] w (GivesQ w (vV 2 n ⟨#[]⟩ 0 none 0 0)) := by
  go_enter Tryz.func107, Tryz.ntmps107
  go_wp2
  exact bodyPost_ret (v := vV 2 n ⟨#[]⟩ 0 none 0 0) (by simp [results, Tryz.results107, go_sem]) rfl ⟨rfl, b1 _ _⟩
theorem intValue_s (n : Int) (w : World) : Calls Tryz.prog 188 #[.int .i64 n] w (GivesQ w (vV 2 n ⟨#[]⟩ 0 none 0 0)) := by
  go_enter Tryz.func188, Tryz.ntmps188
  go_wp2
  exact bodyPost_ret (v := vV 2 n ⟨#[]⟩ 0 none 0 0) (by simp [results, Tryz.results188, go_sem]) rfl ⟨rfl, b1 _ _⟩

theorem textValue_s (s : ByteArray) (w : World) : Calls Tryz.prog 98 #[.string s] w (GivesQ w (vV 3 0 s 0 none 0 0)) := by
  go_enter Tryz.func98, Tryz.ntmps98
  go_wp2
  exact bodyPost_ret (v := vV 3 0 s 0 none 0 0) (by simp [results, Tryz.results98, go_sem]) rfl ⟨rfl, b1 _ _⟩

end Go.Proofs.YtdglmnmalfpipaaGreatDoor.tree

/-
  A text as a value.
  Conditions: those that each theorem names.
-/
namespace Go.Proofs.YtdglmnmalfpipaaGreatDoor.tree
open Go.ChangeShapes Go.WideShapes Go.ChangeAt Go.RowKit
set_option linter.unusedVariables false

theorem implClone (s : ByteArray) (hs : s.size ≤ 1099511627776) (w : World) : Calls Tryz.prog 63 #[.string s] w fun e w' => e = .returned (.string s) ∧ Below w.heap.size w w' := by
  go_enter Tryz.func63, Tryz.ntmps63
  go_wp2_with (fail)
  refine (Tryz.stringslite_Clone s _ (by omega)).mono ?_
  rintro e w1 ⟨rfl, hb⟩
  go_wp2
  go_ret
  exact ⟨rfl, hb⟩

theorem textValue_i (s : ByteArray) (hs : s.size ≤ 1099511627776) (w : World) : Calls Tryz.prog 156 #[.string s] w (GivesQ w (vV 3 0 s 0 none 0 0)) := by
  go_enter Tryz.func156, Tryz.ntmps156
  go_wp2_with (fail)
  refine (implClone s hs _).mono ?_
  rintro e w1 ⟨rfl, hb1⟩
  have a2 := carry hb1 (heap_alloc_new w _)
  have HB := Lib.hid (bs (b1 _ _) hb1)
  obtain ⟨r2, f2⟩ := rowc a2
  clear hb1 a2
  go_wp2_with (fail)
  refine bodyPost_ret (v := vV 3 0 s 0 none 0 0) (by simp [results, Tryz.results156, go_sem, r2]) rfl ⟨rfl, ?_⟩
  have hB := HB.out
  iterate 5 refine Below.setCell ?_ (by simp) _
  exact hB

end Go.Proofs.YtdglmnmalfpipaaGreatDoor.tree

/-
  Whether two values are arrays, of the project.
  Conditions: none.
-/
namespace Go.Proofs.YtdglmnmalfpipaaGreatDoor.tree
open Go.ChangeShapes Go.WideShapes Go.ChangeAt Go.RowKit
set_option linter.unusedVariables false

theorem areArrays (k n : Int) (s : ByteArray) (x : Int) (A : Option Addr) (L c : Nat) (k' n' : Int) (s' : ByteArray) (x' : Int) (A' : Option Addr) (L' c' : Nat) (w : World) :
    Calls Tryz.prog 100 #[vV k n s x A L c, vV k' n' s' x' A' L' c'] w (GivesQ w (.bool (decide (k = 4) && decide (k' = 4)))) := by
  by_cases h1 : k = 4
  · subst h1
    have e : decide ((4 : Int) = 4) = true := rfl
    rw [e, Bool.true_and]
    go_enter Tryz.func100, Tryz.ntmps100
    go_wp2
    go_ret
    exact ⟨rfl, b2 _ _ _⟩
  · rw [decide_eq_false h1, Bool.false_and]
    go_enter Tryz.func100, Tryz.ntmps100
    go_wp2
    go_ret
    exact ⟨rfl, b2 _ _ _⟩

end Go.Proofs.YtdglmnmalfpipaaGreatDoor.tree

/-
  The other values that are made out of nothing.
  Conditions: those that each theorem names.
-/
namespace Go.Proofs.YtdglmnmalfpipaaGreatDoor.tree
open Go.ChangeShapes Go.WideShapes Go.ChangeAt Go.RowKit
set_option linter.unusedVariables false

def boolV (b : Bool) : Value := if b then vV 1 1 ⟨#[]⟩ 0 none 0 0 else vV 1 0 ⟨#[]⟩ 0 none 0 0
theorem boolValue_i (b : Bool) (w : World) : Calls Tryz.prog 103 #[.bool b] w (GivesQ w (boolV b)) := by
  cases b
  · go_enter Tryz.func103, Tryz.ntmps103
    go_wp2
    exact bodyPost_ret (v := vV 1 0 ⟨#[]⟩ 0 none 0 0) (by simp [results, Tryz.results103, go_sem]) rfl ⟨rfl, b1 _ _⟩
  · go_enter Tryz.func103, Tryz.ntmps103
    go_wp2
    exact bodyPost_ret (v := vV 1 1 ⟨#[]⟩ 0 none 0 0) (by simp [results, Tryz.results103, go_sem]) rfl ⟨rfl, b1 _ _⟩
theorem boolValue_s (b : Bool) (w : World) : Calls Tryz.prog 186 #[.bool b] w (GivesQ w (boolV b)) := by
  cases b
  · go_enter Tryz.func186, Tryz.ntmps186
    go_wp2
    exact bodyPost_ret (v := vV 1 0 ⟨#[]⟩ 0 none 0 0) (by simp [results, Tryz.results186, go_sem]) rfl ⟨rfl, b1 _ _⟩
  · go_enter Tryz.func186, Tryz.ntmps186
    go_wp2
    exact bodyPost_ret (v := vV 1 1 ⟨#[]⟩ 0 none 0 0) (by simp [results, Tryz.results186, go_sem]) rfl ⟨rfl, b1 _ _⟩

theorem arrayValue_s (w : World) : Calls Tryz.prog 131 #[] w (GivesQ w (vV 4 0 ⟨#[]⟩ 0 none 0 0)) := by
  go_enter Tryz.func131, Tryz.ntmps131
  go_wp2
  exact bodyPost_ret (v := vV 4 0 ⟨#[]⟩ 0 none 0 0) (by simp [results, Tryz.results131, go_sem]) rfl ⟨rfl, b1 _ _⟩

end Go.Proofs.YtdglmnmalfpipaaGreatDoor.tree

/-
  ErrorName of the project and of the model: the project's table of names, and what both return.
  Conditions: the table holds what the program's text lays.
-/
namespace Go.Proofs.YtdglmnmalfpipaaGreatDoor.errs
open Go.ChangeShapes Go.WideShapes Go.ChangeAt Go.RowKit tree
set_option linter.unusedVariables false

def n0 : ByteArray := ⟨#[]⟩
def n1 : ByteArray := ⟨#[116, 101, 120, 116]⟩
def n2 : ByteArray := ⟨#[110, 117, 109, 98, 101, 114]⟩
def n3 : ByteArray := ⟨#[111, 118, 101, 114, 102, 108, 111, 119]⟩
def n4 : ByteArray := ⟨#[122, 101, 114, 111]⟩
def n5 : ByteArray := ⟨#[107, 101, 121]⟩
def n6 : ByteArray := ⟨#[105, 110, 100, 101, 120]⟩
def n7 : ByteArray := ⟨#[102, 117, 108, 108]⟩
def n8 : ByteArray := ⟨#[97, 114, 103, 115]⟩
def n9 : ByteArray := ⟨#[109, 101, 109, 111, 114, 121]⟩
def n10 : ByteArray := ⟨#[111, 117, 116, 112, 117, 116]⟩
def cells : Array Value := #[.string n0, .string n1, .string n2, .string n3, .string n4, .string n5, .string n6, .string n7, .string n8, .string n9, .string n10]
def Tab (w : World) : Prop := w.var? Tryz.prog "loop.example/g03011/impl.errorNames" = some cells
theorem gTab : Tryz.prog.globalNamed "loop.example/g03011/impl.errorNames" = some 0 := by kernel_rfl
theorem tTab : (Tryz.prog.globals[0]?).map (·.type) = some 143 := by kernel_rfl
theorem Tab.stays {w w' : World} (h : Tab w) (hb : Below w.heap.size w w') : Tab w' := Joins.var_stays gTab h hb (Nat.le_refl _)

/-- The table as the row lists it. -/
def data : DataW Unit := .agg [.lit (.string []), .lit (.string [116, 101, 120, 116]), .lit (.string [110, 117, 109, 98, 101, 114]), .lit (.string [111, 118, 101, 114, 102, 108, 111, 119]), .lit (.string [122, 101, 114, 111]), .lit (.string [107, 101, 121]), .lit (.string [105, 110, 100, 101, 120]), .lit (.string [102, 117, 108, 108]), .lit (.string [97, 114, 103, 115]), .lit (.string [109, 101, 109, 111, 114, 121]), .lit (.string [111, 117, 116, 112, 117, 116])]

theorem c9 : Tryz.prog.cellsOf 9 = 1 := by kernel_rfl
theorem cA : Tryz.prog.cellsOf 143 = 11 := by kernel_rfl
theorem len11 {α : Type} : ∀ {l : List α}, l.length = 11 → ∃ a0 a1 a2 a3 a4 a5 a6 a7 a8 a9 a10, l = [a0, a1, a2, a3, a4, a5, a6, a7, a8, a9, a10]
  | [a0, a1, a2, a3, a4, a5, a6, a7, a8, a9, a10], _ => ⟨a0, a1, a2, a3, a4, a5, a6, a7, a8, a9, a10, rfl⟩
theorem one {enc : TypeId × Value → Unit} {w : World} {base : Nat} {sp : Nat → Bool} {held : Bool} {fuel : Nat} {c : Value} {d : DataW Unit} {p : List MemPlace} (bs : List UInt8) (hd : d = .lit (.string bs))
    (h : DataW.trod enc Tryz.prog w base sp held fuel 9 [c] = some (d, p)) : c = .string ⟨bs.toArray⟩ := by
  subst hd
  obtain ⟨s, hs, hv, _⟩ := DataW.trod_string Tryz.underlying9 h
  simp at hs hv
  obtain ⟨hv, -⟩ := hv
  rw [hs, hv, Joins.bytes_eta]

theorem of_reads {w : World} (h : Lib.VarReads Tryz.prog w "loop.example/g03011/impl.errorNames" data) : Tab w := by
  obtain ⟨g, t, cs, fuel, p, hg, ht, hv, hd⟩ := h
  obtain rfl := Option.some.inj (gTab.symm.trans hg)
  obtain rfl := Option.some.inj (tTab.symm.trans ht)
  unfold Tab
  rw [hv]
  congr 1
  apply Array.toList_inj.1
  obtain ⟨xs, m, rfl, hx, hl, hxl, hall⟩ := DataW.trod_array Tryz.underlying143 hd
  rw [cA] at hl
  have hxs := congrArg Prod.fst hx
  generalize cs.toList = l at *
  obtain ⟨a0, a1, a2, a3, a4, a5, a6, a7, a8, a9, a10, rfl⟩ := len11 hl
  obtain ⟨u0, u1, u2, u3, u4, u5, u6, u7, u8, u9, u10, rfl⟩ := len11 hxl
  have h0 := hall 0 (by omega)
  have h1 := hall 1 (by omega)
  have h2 := hall 2 (by omega)
  have h3 := hall 3 (by omega)
  have h4 := hall 4 (by omega)
  have h5 := hall 5 (by omega)
  have h6 := hall 6 (by omega)
  have h7 := hall 7 (by omega)
  have h8 := hall 8 (by omega)
  have h9 := hall 9 (by omega)
  have h10 := hall 10 (by omega)
  simp only [c9] at h0 h1 h2 h3 h4 h5 h6 h7 h8 h9 h10
  simp only [data, List.map_cons, List.map_nil, DataW.agg.injEq, List.cons.injEq, and_true] at hxs
  obtain ⟨e0, e1, e2, e3, e4, e5, e6, e7, e8, e9, e10⟩ := hxs
  have k0 := one (c := a0) (p := u0.2) _ e0.symm h0
  have k1 := one (c := a1) (p := u1.2) _ e1.symm h1
  have k2 := one (c := a2) (p := u2.2) _ e2.symm h2
  have k3 := one (c := a3) (p := u3.2) _ e3.symm h3
  have k4 := one (c := a4) (p := u4.2) _ e4.symm h4
  have k5 := one (c := a5) (p := u5.2) _ e5.symm h5
  have k6 := one (c := a6) (p := u6.2) _ e6.symm h6
  have k7 := one (c := a7) (p := u7.2) _ e7.symm h7
  have k8 := one (c := a8) (p := u8.2) _ e8.symm h8
  have k9 := one (c := a9) (p := u9.2) _ e9.symm h9
  have k10 := one (c := a10) (p := u10.2) _ e10.symm h10
  subst k0 k1 k2 k3 k4 k5 k6 k7 k8 k9 k10
  rfl

/-- The table's cells, for the walk. -/
theorem Tab.cells {w : World} (h : Tab w) : ∃ t fr, w.heap[0]? = some (.cells cells t fr) := by
  unfold Tab World.var? at h
  rw [gTab] at h
  simp only [Option.bind_some] at h
  split at h
  · rename_i c t fr hb
    cases h
    exact ⟨t, fr, hb⟩
  · cases h

def nameOf (k : Int) : ByteArray :=
  if k = 0 then n0 else if k = 1 then n1 else if k = 2 then n2 else if k = 3 then n3 else if k = 4 then n4 else if k = 5 then n5 else if k = 6 then n6 else if k = 7 then n7 else if k = 8 then n8 else if k = 9 then n9 else if k = 10 then n10 else ⟨#[]⟩

theorem errorName_i (k : Int) (w : World) (hT : Tab w) : Calls Tryz.prog 38 #[.int .i64 k] w fun e w' => e = .returned (.string (nameOf k)) ∧ Below w.heap.size w w' := by
  obtain ⟨t, fr, hc⟩ := hT.cells
  have cc : ∀ j, w.cell? ⟨0, j, none⟩ = cells[j]? := fun j => cell_of_row w _ j cells t fr hc
  clear hc hT
  obtain ⟨q, HQ⟩ : ∃ q, Hid (nums.inr k 0 10 = q) := ⟨_, Lib.hid rfl⟩
  have IR : ∀ w, Calls Tryz.prog 95 #[.int .i64 k, .int .i64 0, .int .i64 10] w fun e w' => e = .returned (.bool q) ∧ w = w' := fun w => HQ.out ▸ nums.implInRange k 0 10 w
  by_cases h : 0 ≤ k ∧ k ≤ 10
  · obtain rfl : q = true := by rw [← HQ.out]; unfold nums.inr; simp; omega
    have hk : k = 0 ∨ k = 1 ∨ k = 2 ∨ k = 3 ∨ k = 4 ∨ k = 5 ∨ k = 6 ∨ k = 7 ∨ k = 8 ∨ k = 9 ∨ k = 10 := by omega
    have c0 := cc 0; have c1 := cc 1; have c2 := cc 2; have c3 := cc 3; have c4 := cc 4; have c5 := cc 5; have c6 := cc 6; have c7 := cc 7; have c8 := cc 8; have c9 := cc 9; have c10 := cc 10
    simp only [errs.cells] at c0 c1 c2 c3 c4 c5 c6 c7 c8 c9 c10
    clear cc h
    rcases hk with rfl | rfl | rfl | rfl | rfl | rfl | rfl | rfl | rfl | rfl | rfl
    all_goals
      go_enter Tryz.func38, Tryz.ntmps38
      go_wp2_with (fail)
      refine (IR _).mono ?_
      rintro e w1 ⟨rfl, rfl⟩
      go_wp2_with (fail)
      go_ret
      exact ⟨rfl, Below.refl _ _⟩
  · obtain rfl : q = false := by rw [← HQ.out]; unfold nums.inr; simp; omega
    have e : nameOf k = ⟨#[]⟩ := by
      unfold nameOf
      rw [if_neg (by omega), if_neg (by omega), if_neg (by omega), if_neg (by omega), if_neg (by omega), if_neg (by omega), if_neg (by omega), if_neg (by omega), if_neg (by omega), if_neg (by omega), if_neg (by omega)]
    rw [e]
    clear e h cc
    go_enter Tryz.func38, Tryz.ntmps38
    go_wp2_with (fail)
    refine (IR _).mono ?_
    rintro e w1 ⟨rfl, rfl⟩
    go_wp2_with (fail)
    go_ret
    exact ⟨rfl, Below.refl _ _⟩


end Go.Proofs.YtdglmnmalfpipaaGreatDoor.errs

