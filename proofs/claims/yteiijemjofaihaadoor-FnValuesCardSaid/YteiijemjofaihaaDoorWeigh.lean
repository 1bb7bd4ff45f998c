/-
  Weight and Nest, of the project and of the model.
  Conditions: those that each theorem names.
-/
import Derived.Test.YteiijemjofaihaaDoorMeasure
namespace Go.Proofs.YteiijemjofaihaaDoor.tree
open Go.ChangeShapes Go.WideShapes Go.ChangeAt Go.RowKit
set_option linter.unusedVariables false

def add (a b : Int) : Int := a + b
def mx (a b : Int) : Int := if a < b then b else a
theorem join_add : Join 1 add := ⟨by omega, by omega, fun a b h h' => by unfold add; omega, fun b h => by unfold add; omega⟩
theorem join_mx : Join 0 mx := ⟨by omega, by omega, fun a b h h' => by unfold mx; split <;> omega, fun b h => by unfold mx; split <;> omega⟩
def wt (t : Tr) : Int := sz 1 add t
def nt (t : Tr) : Int := sz 0 mx t

theorem joins_add : Joins 83 add where
  enters := enters_of Tryd.func83 (by kernel_rfl) rfl
  calls := fun a b w h0 h1 h2 h3 => by
    unfold add
    go_enter Tryd.func83, Tryd.ntmps83
    go_wp2
    go_ret
    exact ⟨rfl, rfl⟩
theorem joins_mx : Joins 66 mx where
  enters := enters_of Tryd.func66 (by kernel_rfl) rfl
  calls := fun a b w h0 h1 h2 h3 => by
    unfold mx
    by_cases h : a < b
    · rw [if_pos h]
      go_enter Tryd.func66, Tryd.ntmps66
      go_wp2
      go_ret
      exact ⟨rfl, rfl⟩
    · rw [if_neg h]
      go_enter Tryd.func66, Tryd.ntmps66
      go_wp2
      go_ret
      exact ⟨rfl, rfl⟩

theorem weight_i (t : Tr) (v : Value) (w : World) (lo : Nat) (h : TIn w (Nw lo w) t v) (hN : cnt t ≤ 1099511627000) : Calls Tryd.prog 35 #[v] w (GivesQ w (.int .i64 (wt t))) := by
  have M : ∀ o : Obj, Calls Tryd.prog 82 #[v, .int .i64 1, .func (.func 83) #[] #[]] (w.alloc o) (GivesQ (w.alloc o) (.int .i64 (wt t))) := fun o => measure join_add joins_add t v (w.alloc o) lo (h.nwb (b1 w o)) hN
  obtain ⟨k, n, s, x, ks, vs⟩ := t
  obtain ⟨A, c, rfl, hk, hin⟩ := h.out
  obtain ⟨W, HW⟩ : ∃ W, Hid (W = wt (.mk k n s x ks vs)) := ⟨_, Lib.hid rfl⟩
  rw [← HW.out] at M ⊢
  clear h hin hk hN
  go_enter Tryd.func35, Tryd.ntmps35
  go_wp2_with (fail)
  refine (M _).mono ?_
  rintro e w1 ⟨rfl, hb1⟩
  have HB1 := Lib.hid hb1
  clear hb1
  go_wp2_with (fail)
  go_ret
  exact ⟨rfl, bs (b1 _ _) HB1.out⟩
theorem nest_i (t : Tr) (v : Value) (w : World) (lo : Nat) (h : TIn w (Nw lo w) t v) (hN : cnt t ≤ 1099511627000) : Calls Tryd.prog 36 #[v] w (GivesQ w (.int .i64 (nt t))) := by
  have M : ∀ o : Obj, Calls Tryd.prog 82 #[v, .int .i64 0, .func (.func 66) #[] #[]] (w.alloc o) (GivesQ (w.alloc o) (.int .i64 (nt t))) := fun o => measure join_mx joins_mx t v (w.alloc o) lo (h.nwb (b1 w o)) hN
  obtain ⟨k, n, s, x, ks, vs⟩ := t
  obtain ⟨A, c, rfl, hk, hin⟩ := h.out
  obtain ⟨W, HW⟩ : ∃ W, Hid (W = nt (.mk k n s x ks vs)) := ⟨_, Lib.hid rfl⟩
  rw [← HW.out] at M ⊢
  clear h hin hk hN
  go_enter Tryd.func36, Tryd.ntmps36
  go_wp2_with (fail)
  refine (M _).mono ?_
  rintro e w1 ⟨rfl, hb1⟩
  have HB1 := Lib.hid hb1
  clear hb1
  go_wp2_with (fail)
  go_ret
  exact ⟨rfl, bs (b1 _ _) HB1.out⟩

theorem szl_add : ∀ (vs : List Tr) (a : Int), szl 1 add vs a = a + szl 1 add vs 0
  | [], a => by rw [szl, szl]; omega
  | t :: vs, a => by rw [szl, szl, szl_add vs (add a _), szl_add vs (add 0 _)]; unfold add; omega
theorem szl_drop {si : Int} {J : Int → Int → Int} {vs : List Tr} {j : Nat} {t : Tr} (h : vs[j]? = some t) (a : Int) : szl si J (vs.drop j) a = szl si J (vs.drop (j + 1)) (J a (sz si J t)) := by
  obtain ⟨hj, rfl⟩ := List.getElem?_eq_some_iff.1 h
  rw [List.drop_eq_getElem_cons hj, szl_cons]
theorem cnts_drop {vs : List Tr} {j : Nat} {t : Tr} (h : vs[j]? = some t) : cnts (vs.drop j) = cnt t + cnts (vs.drop (j + 1)) := by
  obtain ⟨hj, rfl⟩ := List.getElem?_eq_some_iff.1 h
  rw [List.drop_eq_getElem_cons hj, cnts_cons]
theorem cnts_mem : ∀ {vs : List Tr} {t : Tr}, t ∈ vs → cnt t ≤ cnts vs
  | [], _, h => by cases h
  | u :: vs, t, h => by
    rw [cnts_cons]
    rcases List.mem_cons.1 h with rfl | h
    · omega
    · have := cnts_mem h
      omega



theorem specMax (a b : Int) (w : World) : Calls Tryd.prog 24 #[.int .i64 a, .int .i64 b] w fun e w' => e = .returned (.int .i64 (mx a b)) ∧ w = w' := by
  unfold mx
  by_cases h : a < b
  · rw [if_pos h]
    go_enter Tryd.func24, Tryd.ntmps24
    go_wp2
    go_ret
    exact ⟨rfl, rfl⟩
  · rw [if_neg h]
    go_enter Tryd.func24, Tryd.ntmps24
    go_wp2
    go_ret
    exact ⟨rfl, rfl⟩



end Go.Proofs.YteiijemjofaihaaDoor.tree
