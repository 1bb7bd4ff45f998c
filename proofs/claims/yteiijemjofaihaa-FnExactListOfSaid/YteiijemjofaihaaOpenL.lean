/-
  How a list of values that came in is opened.
  Conditions: those that each theorem names.
-/
import Derived.Test.YteiijemjofaihaaOpenT
import Derived.Test.YteiijemjofaihaaVals
namespace Go.Proofs.Yteiijemjofaihaa.tree
open Go.ChangeShapes Go.WideShapes Go.ChangeAt Go.RowKit mem
set_option linter.unusedVariables false

section
variable {H : Type} {enc : TypeId × Value → H} {P : Program} {w : World} {base : Nat} {spare : Nat → Bool} {held : Bool}
theorem open_valS {tV tE tK tS tSS : TypeId} (T : Types P tV tE tK tS) (hSS : P.underlying tSS = some (.slice tV)) {fuel : Nat} {c0 : Value} {x : DataW H × List MemPlace} (h : DataW.trod enc P w base spare held fuel tSS [c0] = some x) :
    ∃ A c vs, c0 = .slice A (List.length vs) c ∧ (vs.length ≤ c ∧ c ≤ maxLen) ∧ VIn w (fun _ => True) vs A := by
  rcases DataW.trod_slice hSS h with ⟨hc4, _⟩ | ⟨a, len, cap, elems, rest, m, hfm, hc4, _, hbs, hlc, hcm, hel, hat, _⟩
  · simp at hc4
    subst hc4
    exact ⟨none, 0, [], rfl, ⟨Nat.le_refl _, Nat.zero_le _⟩, fun i t ht => by simp at ht⟩
  · simp at hc4
    subst hc4
    have each : ∀ i, i < len → ∃ t : Tr, ∃ k n s x ks vs A' c', t = .mk k n s x ks vs ∧ TIn w (fun _ => True) t (vV k n s x A' vs.length c') ∧ At5 w (a.add (i * 5)) k n s x A' vs.length c' := by
      intro i hi
      have hi2 := hat i hi
      rw [List.getElem?_eq_getElem (by omega)] at hi2
      obtain ⟨cs', hcs, htr⟩ := Option.bind_eq_some_iff.1 hi2
      rw [T.cV] at hcs
      obtain ⟨_, hcl, hcat⟩ := World.cells?_some hcs
      match cs', hcl with
      | [d3, d4, d5, d6, d7], _ =>
        obtain ⟨t, ht⟩ := open_tree T _ _ _ htr
        obtain ⟨k, n, s, x, ks, vs⟩ := t
        obtain ⟨A', c', e, -, -⟩ := ht.out
        have e' : d3 = .int .i64 k ∧ d4 = .int .i64 n ∧ d5 = .string s ∧ d6 = .int .i64 x ∧ d7 = .slice A' vs.length c' := by simpa using e
        obtain ⟨rfl, rfl, rfl, rfl, rfl⟩ := e'
        have at' : ∀ j, j < 5 → w.cell? (a.add (i * 5 + j)) = ([.int .i64 k, .int .i64 n, .string s, .int .i64 x, .slice A' vs.length c'] : List Value)[j]? := fun j hj => by
          have := hcat j hj
          rwa [add_add'] at this
        have sp : ∀ j, j ≠ 0 → a.add (i * 5 + j) = ⟨(a.add (i * 5)).block, (a.add (i * 5)).off + j, none⟩ := fun j hj => by rw [← add_add', add_pos _ _ hj]
        have at2 : ∀ j, j ≠ 0 → j < 5 → w.cell? ⟨(a.add (i * 5)).block, (a.add (i * 5)).off + j, none⟩ = _ := fun j h0 hj => (congrArg w.cell? (sp j h0)).symm.trans (at' j hj)
        exact ⟨.mk k n s x ks vs, k, n, s, x, ks, vs, A', c', rfl, ht, ⟨at' 0 (by omega), at2 1 (by omega) (by omega), at2 2 (by omega) (by omega), at2 3 (by omega) (by omega), at2 4 (by omega) (by omega)⟩⟩
    have hl : ((List.range len).map (fun i => if hi : i < len then (each i hi).choose else Tr.mk 0 0 ⟨#[]⟩ 0 [] [])).length = len := by simp
    refine ⟨some a, cap, (List.range len).map (fun i => if hi : i < len then (each i hi).choose else Tr.mk 0 0 ⟨#[]⟩ 0 [] []), by rw [hl], ⟨by rw [hl]; exact hlc, hcm⟩, fun i t ht => ?_⟩
    rw [List.getElem?_map] at ht
    obtain ⟨i', hi', rfl⟩ := Option.map_eq_some_iff.1 ht
    have hil : i < len := by
      have := (List.getElem?_eq_some_iff.1 hi').1
      simpa using this
    rw [List.getElem?_range hil] at hi'
    obtain rfl := Option.some.inj hi'
    simp only [dif_pos hil]
    obtain ⟨k, n, s, x, ks, vs, A', c', h1, h2, h3⟩ := (each i hil).choose_spec
    exact ⟨a, k, n, s, x, ks, vs, A', c', rfl, trivial, h1, h1 ▸ h2, h3⟩
end

set_option maxRecDepth 100000 in
theorem open_values {H : Type} {enc : TypeId × Value → H} {W : World} {base : Nat} {v : Value} {d : DataW H} {ps : List MemPlace} (hval : Value.okWide Try.prog W .any base 22 v) (h : DataW.Trod enc Try.prog W 0 (fun _ => true) true 22 v d ps) :
    ∃ A c vs, v = .slice A (List.length vs) c ∧ (vs.length ≤ c ∧ c ≤ maxLen) ∧ VIn W (fun _ => True) vs A := by
  obtain ⟨A, n, c, rfl⟩ := okWide_slice Try.underlying22 hval
  obtain ⟨fuel, hf⟩ := h
  exact open_valS opt.types Try.underlying22 hf

end Go.Proofs.Yteiijemjofaihaa.tree
