/-
  The project's table of entities: what a call reads of it.
  Conditions: the variable holds what the program's text lays.
-/
import Derived.Test.YtofdnpbmanonpaaDoorSeq
import Derived.Laws.Rows
import Derived.Lib.LaidU8
import Derived.ChangeArms
import Derived.OpenShut
namespace Go.Proofs.YtofdnpbmanonpaaDoor.ents
open Go.ChangeShapes Go.WideShapes Go.ChangeAt Go.RowKit
set_option linter.unusedVariables false

def cells : Array Value := #[.int .u8 38, .string ⟨#[38, 97, 109, 112, 59]⟩, .int .u8 60, .string ⟨#[38, 108, 116, 59]⟩, .int .u8 62, .string ⟨#[38, 103, 116, 59]⟩, .int .u8 34, .string ⟨#[38, 113, 117, 111, 116, 59]⟩, .int .u8 39, .string ⟨#[38, 35, 51, 57, 59]⟩]
def Ent (w : World) : Prop := w.var? Tryd.prog "loop.example/g03011/impl.entities" = some cells
theorem gEnt : Tryd.prog.globalNamed "loop.example/g03011/impl.entities" = some 0 := by kernel_rfl
theorem tEnt : (Tryd.prog.globals[0]?).map (·.type) = some 61 := by kernel_rfl
theorem stays : seq.Stays Ent := fun w w' h hb => Joins.var_stays gEnt h hb (Nat.le_refl _)

theorem Ent.load {w : World} (h : Ent w) : (loadVar 61 ⟨0, 0, none⟩).run Tryd.prog w = .ok (.agg cells) w := by
  unfold Ent World.var? at h
  rw [gEnt] at h
  simp only [Option.bind_some] at h
  split at h
  · rename_i c t fr hb
    cases h
    exact run_loadVar_row w _ t _ cells fr _ hb Tryd.underlying61 rfl (by kernel_rfl)
  · cases h

/-- The table as the row lists it. -/
def data : DataW Unit := .agg [.agg [.lit (.int .u8 38), .lit (.string [38, 97, 109, 112, 59])], .agg [.lit (.int .u8 60), .lit (.string [38, 108, 116, 59])], .agg [.lit (.int .u8 62), .lit (.string [38, 103, 116, 59])], .agg [.lit (.int .u8 34), .lit (.string [38, 113, 117, 111, 116, 59])], .agg [.lit (.int .u8 39), .lit (.string [38, 35, 51, 57, 59])]]

theorem c60 : Tryd.prog.cellsOf 60 = 2 := by kernel_rfl
theorem c61 : Tryd.prog.cellsOf 61 = 10 := by kernel_rfl
theorem c5 : Tryd.prog.cellsOf 5 = 1 := by kernel_rfl
theorem c9 : Tryd.prog.cellsOf 9 = 1 := by kernel_rfl

theorem len2 {α : Type} : ∀ {l : List α}, l.length = 2 → ∃ a b, l = [a, b]
  | [a, b], _ => ⟨a, b, rfl⟩
theorem len5 {α : Type} : ∀ {l : List α}, l.length = 5 → ∃ a b c d e, l = [a, b, c, d, e]
  | [a, b, c, d, e], _ => ⟨a, b, c, d, e, rfl⟩
theorem len10 {α : Type} {l : List α} (h : l.length = 10) : ∃ a b c d e f g i j k, l = [a, b, c, d, e, f, g, i, j, k] := by
  obtain ⟨a, b, c, d, e, h1⟩ := len5 (l := l.take 5) (by rw [List.length_take]; omega)
  obtain ⟨f, g, i, j, k, h2⟩ := len5 (l := l.drop 5) (by rw [List.length_drop]; omega)
  exact ⟨a, b, c, d, e, f, g, i, j, k, by rw [← List.take_append_drop 5 l, h1, h2]; rfl⟩

theorem one {enc : TypeId × Value → Unit} {w : World} {base : Nat} {sp : Nat → Bool} {held : Bool} {fuel : Nat} {cs : List Value} {d : DataW Unit} {p : List MemPlace} (x : Int) (bs : List UInt8) (hd : d = .agg [.lit (.int .u8 x), .lit (.string bs)])
    (h : DataW.trod enc Tryd.prog w base sp held fuel 60 cs = some (d, p)) : cs = [.int .u8 x, .string ⟨bs.toArray⟩] := by
  subst hd
  obtain ⟨xs, n, rfl, hx, hl, hxl, hall⟩ := DataW.trod_struct Tryd.underlying60 h
  rw [c60] at hl
  have h0 := hall 0 _ rfl
  have h1 := hall 1 _ rfl
  have hxs : xs.map (·.1) = [.lit (.int .u8 x), .lit (.string bs)] := by
    have := congrArg Prod.fst hx
    simpa using this.symm
  obtain ⟨a, b, rfl⟩ := len2 hl
  obtain ⟨u, v, rfl⟩ := len2 (l := xs) (by have := congrArg List.length hxs; simpa using this)
  · · simp only [List.getElem?_cons_zero] at h0
      simp only [List.getElem?_cons_succ, List.getElem?_cons_zero] at h1
      obtain ⟨z, hz, hu, _⟩ := DataW.trod_int Tryd.underlying5 h0
      obtain ⟨s, hs, hv, _⟩ := DataW.trod_string Tryd.underlying9 h1
      have hz' : List.take (Tryd.prog.cellsOf 5) [a, b] = [.int .u8 z] := hz
      have hs' : List.take (Tryd.prog.cellsOf 9) [b] = [.string s] := hs
      rw [c5] at hz'
      rw [c9] at hs'
      rw [hu, hv] at hxs
      simp at hz' hs' hxs
      obtain ⟨rfl, rfl⟩ := hxs
      rw [hz', hs', Joins.bytes_eta]

theorem of_reads {w : World} (h : Lib.VarReads Tryd.prog w "loop.example/g03011/impl.entities" data) : Ent w := by
  obtain ⟨g, t, cs, fuel, p, hg, ht, hv, hd⟩ := h
  obtain rfl := Option.some.inj (gEnt.symm.trans hg)
  obtain rfl := Option.some.inj (tEnt.symm.trans ht)
  unfold Ent
  rw [hv]
  congr 1
  apply Array.toList_inj.1
  obtain ⟨xs, m, rfl, hx, hl, hxl, hall⟩ := DataW.trod_array Tryd.underlying61 hd
  rw [c61] at hl
  have hxs := congrArg Prod.fst hx
  generalize cs.toList = l at *
  obtain ⟨a0, a1, a2, a3, a4, a5, a6, a7, a8, a9, rfl⟩ := len10 hl
  obtain ⟨u0, u1, u2, u3, u4, rfl⟩ := len5 hxl
  · · have h0 := hall 0 (by omega); have h1 := hall 1 (by omega); have h2 := hall 2 (by omega); have h3 := hall 3 (by omega); have h4 := hall 4 (by omega)
      simp only [c60] at h0 h1 h2 h3 h4
      simp only [data, List.map_cons, List.map_nil, DataW.agg.injEq, List.cons.injEq, and_true] at hxs
      obtain ⟨e0, e1, e2, e3, e4⟩ := hxs
      have k0 := one (cs := [a0, a1]) (p := u0.2) _ _ e0.symm h0
      have k1 := one (cs := [a2, a3]) (p := u1.2) _ _ e1.symm h1
      have k2 := one (cs := [a4, a5]) (p := u2.2) _ _ e2.symm h2
      have k3 := one (cs := [a6, a7]) (p := u3.2) _ _ e3.symm h3
      have k4 := one (cs := [a8, a9]) (p := u4.2) _ _ e4.symm h4
      simp only [List.cons.injEq, and_true] at k0 k1 k2 k3 k4
      obtain ⟨rfl, rfl⟩ := k0; obtain ⟨rfl, rfl⟩ := k1; obtain ⟨rfl, rfl⟩ := k2; obtain ⟨rfl, rfl⟩ := k3; obtain ⟨rfl, rfl⟩ := k4
      rfl

end Go.Proofs.YtofdnpbmanonpaaDoor.ents
