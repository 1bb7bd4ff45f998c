/-
  ValuesOf of the project and of the model.
  Conditions: the value holds at most 2^20 and one items and 10^9 letters.
-/
import Derived.Test.YtlbkbcafkjgckaaDoorSoB2
import Derived.Test.YtlbkbcafkjgckaaDoorSoSCopyV
import Derived.Test.YtlbkbcafkjgckaaDoorAsSLawBox
import Derived.Test.YtlbkbcafkjgckaaDoorCmSCopyS
import Derived.Test.YtlbkbcafkjgckaaDoorSoSItemVals
import Derived.Test.YtlbkbcafkjgckaaDoorSoB1
namespace Go.Proofs.YtlbkbcafkjgckaaDoor.tree
open Go.ChangeShapes Go.WideShapes Go.ChangeAt Go.RowKit
set_option linter.unusedVariables false

/-- The values of a value. -/
def valuesT : Tr → List Tr
  | .mk k _ _ _ _ vs => if k = 4 then vs else []
def VoS (w : World) (vs : List Tr) (e : Ending) (w' : World) : Prop := ∃ A c, e = .returned (.slice A vs.length c) ∧ VIn w' (fun b => b < w'.heap.size) vs A ∧ Below w.heap.size w w'

set_option maxRecDepth 100000 in
set_option maxHeartbeats 1600000 in
theorem valuesOf_i (t : Tr) (v : Value) (w : World) (h : TIn w (Nw 0 w) t v) (hN : cnt t ≤ 1048578) (hT : tot t ≤ 1000000000) : Calls Tryd.prog 22 #[v] w (VoQ w (valuesT t)) := by
  obtain ⟨k, n, s, x, ks, vs⟩ := t
  obtain ⟨A, c, rfl, -, hin⟩ := h.out
  have CV := fun w' (h : TIn w' (Nw 0 w') _ (vV k n s x A vs.length c)) => copyValue (.mk k n s x ks vs) (vV k n s x A vs.length c) w' 0 h hN hT
  have hlen : vs.length ≤ 1048578 := by have := cnts_len vs; rw [cnt_mk'] at hN; omega
  have IVS := itemValues_i ks vs
  obtain ⟨L, HL⟩ : ∃ L, Hid (vs.length = L) := ⟨_, Lib.hid rfl⟩
  rw [HL.out] at h CV hlen IVS
  have HT := Lib.hid h
  have HCV := Lib.hid CV
  have HIV := Lib.hid IVS
  rw [HL.out]
  clear h hN hT hin CV IVS
  show Calls _ _ _ _ (VoQ w (if k = 4 then vs else []))
  by_cases h4 : k = 4
  · subst h4
    rw [if_pos rfl]
    go_enter Tryd.func22, Tryd.ntmps22
    go_wp2_with (fail)
    refine (HCV.out _ (HT.out.nwb (b1 w _))).mono ?_
    rintro e w1 ⟨u, par0, R, rfl, hu, hR, hb1⟩
    obtain ⟨par, hu2, hhg⟩ := hu.tight
    obtain ⟨A3, c3, rfl, -, -, -, hblk⟩ := hu2.out
    rw [HL.out] at hblk ⊢
    have HB1 := Lib.hid (bs (b1 w _) hb1)
    have HIV1 := Lib.hid (HIV.out A3 c3 w1 par R w.heap.size hlen (by have := hR; simp at this; omega) HB1.out.size hblk hhg)
    have hf4 := run_f4 4 n s x A3 L c3
    unfold IV at hf4
    clear hu hu2 hR hb1 hblk hhg
    go_wp2_with (fail)
    clear hf4
    refine HIV1.out.mono ?_
    rintro e w2 ⟨r, rfl, hvr, hb2⟩
    have HVR := Lib.hid hvr
    have HB2 := Lib.hid (bs HB1.out hb2)
    have hz := hb2.size
    clear hvr hb2
    go_wp2_with (fail)
    go_ret
    exact ⟨_, par, _, w1.heap.size, rfl, HVR.out, hz, HB2.out⟩
  · rw [if_neg h4]
    go_enter Tryd.func22, Tryd.ntmps22
    go_wp2_with (fail)
    go_ret
    exact ⟨_, fun _ => (0, 0), 0, 0, rfl, .inl ⟨_, 0, rfl, rfl, fun b hb => by simp [Value.ownBlock] at hb; subst hb; simp⟩, Nat.zero_le _, b2 _ _ _⟩


end Go.Proofs.YtlbkbcafkjgckaaDoor.tree

