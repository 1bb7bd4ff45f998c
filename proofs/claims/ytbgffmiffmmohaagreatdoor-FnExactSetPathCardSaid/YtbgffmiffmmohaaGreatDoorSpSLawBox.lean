/-
  A variable of five cells that is made and filled in a region that draws its order.
  Conditions: those that each theorem names.
-/
import Derived.Test.YtbgffmiffmmohaaGreatDoorSpB5
namespace Go.Proofs.YtbgffmiffmmohaaGreatDoor.tree
open Go.ChangeShapes Go.WideShapes Go.ChangeAt Go.RowKit
set_option linter.unusedVariables false

theorem newbox {w wF : World} {t : TypeId} {a b c d e c0 c1 c2 c3 c4 : Value}
    (hF : ((((((w.alloc (.cells #[a, b, c, d, e] t)).setCell ⟨w.heap.size, 0, none⟩ c0).setCell ⟨w.heap.size, 1, none⟩ c1).setCell ⟨w.heap.size, 2, none⟩ c2).setCell ⟨w.heap.size, 3, none⟩ c3).setCell ⟨w.heap.size, 4, none⟩ c4) = wF) :
    wF.heap[w.heap.size]? = some (.cells #[c0, c1, c2, c3, c4] t (0, 0)) ∧ Below w.heap.size w wF ∧ wF.heap.size = w.heap.size + 1 := by
  subst hF
  refine ⟨?_, ?_, by simp []⟩
  · have := set_heap (set_heap (set_heap (set_heap (set_heap (heap_alloc_new w (.cells #[a, b, c, d, e] t)) 0 c0) 1 c1) 2 c2) 3 c3) 4 c4
    simpa using this
  · exact (((((b1 w _).setCell (Nat.le_refl _) _).setCell (Nat.le_refl _) _).setCell (Nat.le_refl _) _).setCell (Nat.le_refl _) _).setCell (Nat.le_refl _) _

/-- Plain blocks from lo on and below hi. -/
def RgP (lo hi : Nat) (w : World) (b : Nat) : Prop := Rg lo hi b ∧ Plain w b
theorem TIn.rgk {w w' : World} {lo hi : Nat} {t : Tr} {v : Value} (h : TIn w (RgP lo hi w) t v) (hb : ∀ b, Rg lo hi b → b < w.heap.size → w'.heap[b]? = w.heap[b]?) : TIn w' (RgP lo hi w') t v :=
  h.stays (fun b ⟨h1, cs, t, hc⟩ => ⟨h1, cs, t, (hb b h1 (Array.getElem?_eq_some_iff.1 hc).1).trans hc⟩) (fun b hr hl => hb b hr.1 hl)
theorem TIn.rgb {w w' : World} {lo hi : Nat} {t : Tr} {v : Value} (h : TIn w (RgP lo hi w) t v) (hb : Below w.heap.size w w') : TIn w' (RgP lo hi w') t v := h.rgk fun b _ hl => hb.block b hl
theorem TIn.rgp {w : World} {lo : Nat} {t : Tr} {v : Value} (h : TIn w (Nw lo w) t v) : TIn w (RgP lo w.heap.size w) t v := h.stays (fun b hb => ⟨⟨hb.1, hb.2.lt⟩, hb.2⟩) (fun _ _ _ => rfl)
theorem TIn.rgn {w : World} {lo hi : Nat} {t : Tr} {v : Value} (h : TIn w (RgP lo hi w) t v) : TIn w (Nw 0 w) t v := h.stays (fun b hb => ⟨Nat.zero_le _, hb.2⟩) (fun _ _ _ => rfl)
theorem TIn.nw0 {w : World} {lo : Nat} {t : Tr} {v : Value} (h : TIn w (Nw lo w) t v) : TIn w (Nw 0 w) t v := h.stays (fun b hb => ⟨Nat.zero_le _, hb.2⟩) (fun _ _ _ => rfl)
theorem markArg2 (t : Tr) (v : Value) (m : Int) (hm0 : 1 ≤ m) (hm1 : m + 7 * cnt t ≤ 100000000000) (w : World) (lo hi : Nat) (h : TIn w (RgP lo hi w) t v) :
    Calls Tryz.prog 34 #[v, .int .i64 m] w (fun e w' => ∃ q, e = .returned (.int .i64 q) ∧ m ≤ q ∧ q ≤ m + 7 * cnt t ∧ Fr (Rg lo hi) w w') :=
  (markVal t v m hm0 hm1 w _ h fun b hb' => hb'.2).mono fun e w' ⟨q, a, b, c, d⟩ => ⟨q, a, b, c, d.mono fun _ hb' => hb'.1⟩
theorem Below.fr {S : Nat → Prop} {lo : Nat} {w w1 w2 : World} (h : Below lo w w1) (hlo : lo ≤ w.heap.size) (hf : Fr S w1 w2) (hs : ∀ b, S b → lo ≤ b) : Below lo w w2 := h.trans (hf.below (Nat.le_trans hlo h.size) hs)

end Go.Proofs.YtbgffmiffmmohaaGreatDoor.tree

