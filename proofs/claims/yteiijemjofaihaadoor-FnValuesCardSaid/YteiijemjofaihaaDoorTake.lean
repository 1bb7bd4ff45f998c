/-
  The stack of arrays in memory, and one step of it: an item is taken.
  Conditions: those that each theorem names.
-/
import Derived.Test.YteiijemjofaihaaDoorMeas
import Derived.Shelf.Abstract
namespace Go.Proofs.YteiijemjofaihaaDoor.tree
open Go.ChangeShapes Go.WideShapes Go.ChangeAt Go.RowKit
set_option linter.unusedVariables false

abbrev VIS : TypeId := 141

def Row (w : World) (B : Nat) (way : Value) (G : List Vis) : Prop := w.ownsRow B VIS 4 way G.length (G.reverse.flatMap Vis.cells)

theorem cells_len (G : List Vis) : (G.flatMap Vis.cells).length = G.length * 4 := by
  induction G with
  | nil => rfl
  | cons V l ih => rw [List.flatMap_cons, List.length_append, ih, List.length_cons]; simp [Vis.cells]; omega
theorem cells_rev (V : Vis) (l : List Vis) : (V :: l).reverse.flatMap Vis.cells = l.reverse.flatMap Vis.cells ++ V.cells := by simp

theorem Row.top {w : World} {B : Nat} {way : Value} {V : Vis} {l : List Vis} (h : Row w B way (V :: l)) :
    ∃ g c cur, way = .slice (some ⟨g, 0, none⟩) (l.length + 1) c ∧ B ≤ g ∧ w.heap[g]? = some (.cells cur VIS (0, 0)) ∧ l.length + 1 ≤ c ∧ c ≤ maxLen ∧ cur.size = c * 4 ∧ ∀ q, q < 4 → cur[l.length * 4 + q]? = V.cells[q]? := by
  obtain ⟨h1, h2⟩ := h
  rcases h2 with ⟨_, h0⟩ | ⟨g, cap, cur, rfl, hB, hg, hn, hm, hs, htake⟩
  · simp at h0
  · refine ⟨g, cap, cur, rfl, hB, hg, hn, hm, hs, fun q hq => ?_⟩
    have hl : (l.reverse.flatMap Vis.cells).length = l.length * 4 := by rw [cells_len, List.length_reverse]
    have e : (cur.toList.take ((V :: l).length * 4))[l.length * 4 + q]? = V.cells[q]? := by
      rw [htake, cells_rev, List.getElem?_append_right (by omega), hl]
      congr 1
      omega
    rw [List.getElem?_take_of_lt (by simp; omega)] at e
    rw [← e]
    simp

theorem Row.pop {w : World} {B g c : Nat} {n : Nat} {V : Vis} {l : List Vis} (h : Row w B (.slice (some ⟨g, 0, none⟩) n c) (V :: l)) : Row w B (.slice (some ⟨g, 0, none⟩) l.length c) l := by
  obtain ⟨h1, h2⟩ := h
  rcases h2 with ⟨h0, _⟩ | ⟨g', cap, cur, he, hB, hg, hn, hm, hs, htake⟩
  · cases h0
  · simp at he
    obtain ⟨rfl, -, rfl⟩ := he
    have hl : (l.reverse.flatMap Vis.cells).length = l.length * 4 := by rw [cells_len, List.length_reverse]
    refine ⟨hl, .inr ⟨g, c, cur, rfl, hB, hg, by simp at hn; omega, hm, hs, ?_⟩⟩
    have := congrArg (List.take (l.length * 4)) htake
    rw [List.take_take, cells_rev, List.take_append_of_le_length (by omega), List.take_of_length_le (l := List.flatMap _ _) (by omega)] at this
    rw [← this]
    congr 1
    simp

theorem Row.set {w w' : World} {B g c : Nat} {n : Nat} {V V' : Vis} {l : List Vis} {cur : Array Value} (h : Row w B (.slice (some ⟨g, 0, none⟩) n c) (V :: l)) (hg : w.heap[g]? = some (.cells cur VIS (0, 0)))
    (hp : V'.p = V.p) (hn : V'.n = V.n) (hg' : w'.heap[g]? = some (.cells ((cur.setIfInBounds (l.length * 4 + 2) (.int .i64 V'.size)).setIfInBounds (l.length * 4 + 3) (.slice V'.R V'.vs.length V'.c)) VIS (0, 0))) :
    Row w' B (.slice (some ⟨g, 0, none⟩) n c) (V' :: l) := by
  obtain ⟨h1, h2⟩ := h
  rcases h2 with ⟨h0, _⟩ | ⟨g', cap, cur', he, hB, hg2, hnc, hm, hs, htake⟩
  · cases h0
  · simp at he
    obtain ⟨rfl, rfl, rfl⟩ := he
    rw [hg] at hg2
    simp at hg2
    obtain rfl := hg2
    have hl : (l.reverse.flatMap Vis.cells).length = l.length * 4 := by rw [cells_len, List.length_reverse]
    refine ⟨by rw [cells_rev, List.length_append, hl]; simp [Vis.cells]; omega, .inr ⟨g, c, _, by simp, hB, hg', by simpa using hnc, hm, by simpa using hs, ?_⟩⟩
    simp only [List.length_cons, Array.toList_setIfInBounds] at htake hnc ⊢
    rw [List.take_set, List.take_set, htake, cells_rev, cells_rev, List.set_append, if_neg (by rw [hl]; omega), List.set_append, if_neg (by rw [hl]; omega), hl]
    congr 1
    have e2 : l.length * 4 + 2 - l.length * 4 = 2 := by omega
    have e3 : l.length * 4 + 3 - l.length * 4 = 3 := by omega
    rw [e2, e3]
    simp [Vis.cells, hp, hn]

/-- What a function must do to join sizes. -/
structure Joins (F : FuncId) (J : Int → Int → Int) : Prop where
  enters : ∀ args w, (callFunc F args).run Tryd.prog w = .ok (.enter F args) w
  calls : ∀ (a b : Int) (w : World), 0 ≤ a → a ≤ 1099511627776 → 0 ≤ b → b ≤ 1099511627776 → Calls Tryd.prog F #[.int .i64 a, .int .i64 b] w fun e w' => e = .returned (.int .i64 (J a b)) ∧ w = w'

/-- An item is taken. -/
def TakeQ (w : World) (g m : Nat) (size : Int) (a : Addr) (L c : Nat) (e : Ending) (w' : World) : Prop :=
  ∃ R, e = .returned (.tuple #[]) ∧ (R = some (a.add 8) ∨ L = 0) ∧ w' = (w.setCell ⟨g, m * 4 + 2, none⟩ (.int .i64 size)).setCell ⟨g, m * 4 + 3, none⟩ (.slice R L (c - 1))

theorem bodyPost_none {P : Program} {fn : Func} {R : Ending → World → Prop} {a : Act} {w : World} {v : Value} (hr : (results fn a.tmps).run P w = .ok v w) (hd : a.defers = []) (hR : R (.returned v) w) : bodyPost P fn R .normal a w := ⟨hd, v, hr, hR⟩

theorem take_any {F : FuncId} {J : Int → Int → Int} (hF : Joins F J) {w : World} {g m : Nat} {cur : Array Value} {t : TypeId} {size it : Int} {a : Addr} {L c : Nat} (hg : w.heap[g]? = some (.cells cur t (0, 0)))
    (h2 : cur[m * 4 + 2]? = some (.int .i64 size)) (h3 : cur[m * 4 + 3]? = some (.slice (some a) (L + 1) c)) (hc : L + 1 ≤ c) (hcm : c ≤ maxLen) (hs0 : 0 ≤ size) (hs1 : size ≤ 1099511627776) (hi0 : 0 ≤ it) (hi1 : it ≤ 1099511627776) :
    Calls Tryd.prog 123 #[.pointer (some ⟨g, m * 4, none⟩), .int .i64 it, .func (.func F) #[] #[]] w (TakeQ w g m (J size it) a L c) := by
  have hen := hF.enters
  have HF := Lib.hid hF
  obtain ⟨r, fr⟩ := rowc hg
  have c2 := (r (m * 4 + 2)).trans h2
  have c3 := (r (m * 4 + 3)).trans h3
  have hlt := (Array.getElem?_eq_some_iff.1 hg).1
  unfold maxLen at hcm
  clear hF hg r h2 h3
  by_cases h1 : c = 1
  · obtain rfl : L = 0 := by omega
    subst h1
    go_enter Tryd.func123, Tryd.ntmps123
    go_wp2_with (fail)
    refine (HF.out.calls size it _ hs0 hs1 hi0 hi1).mono ?_
    rintro e w1 ⟨rfl, rfl⟩
    go_wp2_with (fail)
    refine bodyPost_none (v := .tuple #[]) (by simp [results, Tryd.results123, noResult, go_sem]) rfl ⟨some a, rfl, .inr rfl, rfl⟩
  · go_enter Tryd.func123, Tryd.ntmps123
    go_wp2_with (fail)
    refine (HF.out.calls size it _ hs0 hs1 hi0 hi1).mono ?_
    rintro e w1 ⟨rfl, rfl⟩
    go_wp2_with (fail)
    refine bodyPost_none (v := .tuple #[]) (by simp [results, Tryd.results123, noResult, go_sem]) rfl ⟨some (a.add 8), rfl, .inl rfl, ?_⟩
    rw [add_pos a 8 (by omega)]

end Go.Proofs.YteiijemjofaihaaDoor.tree
