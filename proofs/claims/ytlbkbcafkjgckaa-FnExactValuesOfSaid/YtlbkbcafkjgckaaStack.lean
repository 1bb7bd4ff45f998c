/-
  A stack of lists that are still to be gone through, as it lies in memory.
  Conditions: those that each theorem names.
-/
import Derived.Test.YtlbkbcafkjgckaaMeas
import Derived.Maps.AppendAt
namespace Go.Proofs.Ytlbkbcafkjgckaa.tree
open Go.ChangeShapes Go.WideShapes Go.ChangeAt Go.RowKit
set_option linter.unusedVariables false

/-- A list that is still to be gone through. -/
structure Pend where
  R : Option Addr
  c : Nat
  ks : List Ky
  vs : List Tr
def Pend.cell (l : Pend) : Value := .slice l.R l.vs.length l.c
structure PendOk (B : Nat) (w : World) (l : Pend) : Prop where
  isin : IsIn w (Lo B w) l.ks l.vs l.R
  cap : l.vs.length ≤ l.c ∧ l.c ≤ maxLen

def lefts : List Pend → Nat
  | [] => 0
  | l :: P => 1 + wks l.vs + lefts P
theorem lefts_len : ∀ P : List Pend, P.length ≤ lefts P
  | [] => Nat.le_refl _
  | l :: P => by have := lefts_len P; rw [lefts, List.length_cons]; omega

mutual
theorem wk_cnt : ∀ t, wk t ≤ 3 * cnt t
  | .mk _ _ _ _ _ vs => by have := wks_cnts vs; rw [wk, cnt]; omega
theorem wks_cnts : ∀ vs, wks vs ≤ 3 * cnts vs
  | [] => by rw [wks]; omega
  | t :: vs => by have h1 := wk_cnt t; have h2 := wks_cnts vs; rw [wks, cnts]; omega
end

/-! ### the lists in memory -/
abbrev SE : TypeId := 28
def PRow (w : World) (B : Nat) (way : Value) (P : List Pend) : Prop := w.ownsRow B SE 1 way P.length (P.reverse.map Pend.cell)
theorem PRow.below {w w' : World} {B : Nat} {way : Value} {P : List Pend} (h : PRow w B way P) (hb : Below w.heap.size w w') : PRow w' B way P :=
  World.ownsRow.kept h (mem.none_of_below hb) (by
    cases e : way.ownBlock with
    | none => exact .inl rfl
    | some k => exact .inr (by simp))
theorem PRow.top {w : World} {B : Nat} {way : Value} {l : Pend} {P : List Pend} (h : PRow w B way (l :: P)) :
    ∃ g c, way = .slice (some ⟨g, 0, none⟩) (P.length + 1) c ∧ B ≤ g ∧ P.length + 1 ≤ c ∧ c ≤ maxLen ∧ w.cell? ⟨g, P.length, none⟩ = some l.cell ∧ PRow w B (.slice (some ⟨g, 0, none⟩) P.length c) P := by
  obtain ⟨h1, h2⟩ := h
  rcases h2 with ⟨_, h0⟩ | ⟨g, cap, cur, rfl, hB, hg, hn, hm, hs, htake⟩
  · simp at h0
  · have hl : (P.reverse.map Pend.cell).length = P.length := by simp
    have er : (l :: P).reverse.map Pend.cell = P.reverse.map Pend.cell ++ [l.cell] := by simp
    rw [Nat.mul_one, er] at htake
    rw [Nat.mul_one] at hs
    simp only [List.length_cons] at htake hn
    refine ⟨g, cap, rfl, hB, hn, hm, ?_, ⟨by simp, .inr ⟨g, cap, cur, rfl, hB, hg, by omega, hm, by omega, ?_⟩⟩⟩
    · rw [cell_of_row w g _ cur SE _ hg]
      have e : (cur.toList.take (P.length + 1))[P.length]? = some l.cell := by
        rw [htake, List.getElem?_append_right (by omega), hl]
        simp
      rw [List.getElem?_take_of_lt (by omega)] at e
      simpa using e
    · have := congrArg (List.take P.length) htake
      rw [List.take_take, List.take_append_of_le_length (by omega), List.take_of_length_le (l := List.map _ _) (by omega)] at this
      rw [Nat.mul_one, ← this]
      congr 1
      omega

theorem seRow : (Try.prog.info? SE).map (fun i => (i.zero, i.size, i.bytes)) = some (some (.slice none 0 0), 1, 24) := by kernel_rfl
theorem PRow.kept4 {w w' : World} {B b : Nat} {way : Value} {P : List Pend} (h : PRow w B way P) (hg : w.grownBy w' (some b)) (hb : b < B) : PRow w' B way P :=
  World.ownsRow.kept h hg (by
    cases e : way.ownBlock with
    | none => exact .inl rfl
    | some k =>
      refine .inr (fun h2 => ?_)
      rcases h.2 with ⟨h0, _⟩ | ⟨g, cap, cur, h0, hB, _⟩
      · rw [h0] at e; cases e
      · rw [h0] at e
        injection e with e
        injection h2 with h2
        have : g = k := e
        omega)
theorem PRow.own {w : World} {B : Nat} {way : Value} {P : List Pend} (h : PRow w B way P) : ∀ k, way.ownBlock = some k → B ≤ k := fun k e => by
  rcases h.2 with ⟨h0, _⟩ | ⟨g, cap, cur, h0, hB, _⟩
  · rw [h0] at e; cases e
  · rw [h0] at e
    injection e with e
    have : g = k := e
    omega
theorem one_new (w : World) (a : Value) (t : TypeId) : ∀ j u, [a][j]? = some u → (w.alloc (.cells #[a] t)).cell? ((⟨w.heap.size, 0, none⟩ : Addr).add j) = some u := by
  intro j u hj
  rw [Addr.add_lit, Nat.zero_add, cell_of_row _ _ j _ t _ (heap_alloc_new w _)]
  simpa using hj

theorem one_new' (w : World) (a : Value) (t : TypeId) {N : Nat} (hN : w.heap.size = N) : ∀ j u, [a][j]? = some u → (w.alloc (.cells #[a] t)).cell? ((⟨N, 0, none⟩ : Addr).add j) = some u := by
  subst hN
  exact one_new w a t
theorem PRow.nil {w : World} {B : Nat} {way : Value} (h : PRow w B way []) : ∃ A c, way = .slice A 0 c := by
  rcases h.2 with ⟨h0, _⟩ | ⟨g, cap, cur, h0, _⟩
  · exact ⟨none, 0, h0⟩
  · exact ⟨_, cap, h0⟩

theorem alH {w : World} {B b : Nat} {f : Value → Option Value} (h : raw.Holds w (GB B) b f) (o : Obj) : raw.Holds (w.alloc o) (GB B) b f :=
  h.kept (Below.heap_alloc w o b h.lt) (fun x hx => hx.kp (Kp.below (b1 w o)))
theorem isin_one {w : World} {S : Nat → Prop} {g : Nat} {y : Ky} {k n x : Int} {s : ByteArray} {A : Option Addr} {L c : Nat} {t : TypeId} {T : Tr} (hS : S g) (hy : I64 y.num ∧ y.str.size ≤ maxLen)
    (hg : w.heap[g]? = some (.cells #[.bool y.text, .int .i64 y.num, .string y.str, .int .i64 k, .int .i64 n, .string s, .int .i64 x, .slice A L c] t (0, 0))) (h : TIn w S T (vV k n s x A L c)) : IsIn w S [y] [T] (some ⟨g, 0, none⟩) := by
  obtain ⟨r, -⟩ := rowc hg
  refine ⟨rfl, by simp [maxLen], fun _ => #[.int .i64 k, .int .i64 n, .string s, .int .i64 x, .slice A L c], fun i hi => ?_, fun i hi => ?_⟩
  · obtain rfl : i = 0 := by simp at hi; omega
    refine ⟨_, rfl, hS, ⟨?_, ?_, ?_, hy⟩, rfl, fun j hj => ?_⟩
    · rw [Addr.add_lit]; exact r 0
    · rw [Addr.add_lit]; exact r 1
    · rw [Addr.add_lit]; exact r 2
    · rw [Addr.add_lit]
      match j, hj with
      | 0, _ => exact r 3
      | 1, _ => exact r 4
      | 2, _ => exact r 5
      | 3, _ => exact r 6
      | 4, _ => exact r 7
  · obtain rfl : i = 0 := by simp at hi; omega
    exact h
theorem zeroBool (w : World) : (zeroValue 4).run Try.prog w = .ok (.bool false) w := by kernel_rfl
theorem got1_none (z : Value) : raw.Got false z none = z := rfl
theorem got1_some (z v : Value) : raw.Got false z (some v) = v := rfl
theorem got_some (z v : Value) : raw.Got true z (some v) = .tuple #[v, .bool true] := rfl
theorem got_none (z : Value) : raw.Got true z none = .tuple #[z, .bool false] := rfl

end Go.Proofs.Ytlbkbcafkjgckaa.tree
