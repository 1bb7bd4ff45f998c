/-
  What the texts behind this one use: 2 parts of one proof.
  Conditions: those that each theorem names.
-/
import Derived.Test.YteoilhbidnnneaaGreatDoorBSCmpK
import Derived.Test.YteoilhbidnnneaaGreatDoorBSLawBox
import Derived.Test.YteoilhbidnnneaaGreatDoorBB2
import Derived.Deep.CutBlock
import Derived.Deep.DeepCutAuto
/-
  Two arrays of which the comparison begins.
  Conditions: none.
-/
namespace Go.Proofs.YteoilhbidnnneaaGreatDoor.tree
open Go.ChangeShapes Go.WideShapes Go.ChangeAt Go.RowKit
set_option linter.unusedVariables false

def NmQ (w : World) (A : Option Addr) (L c : Nat) (A' : Option Addr) (L' c' : Nat) (e : Ending) (w' : World) : Prop :=
  ∃ b, e = .returned (.agg #[.slice A L c, .slice A' L' c', .int .i64 0, .map (some b)]) ∧ w.heap.size ≤ b ∧ raw.Holds w' GK b (fun _ => none) ∧ Below w.heap.size w w'
set_option maxHeartbeats 1000000 in
theorem newMatching (k n : Int) (s : ByteArray) (x : Int) (A : Option Addr) (L c : Nat) (k' n' : Int) (s' : ByteArray) (x' : Int) (A' : Option Addr) (L' c' : Nat) (w : World) :
    Calls Tryz.prog 111 #[vV k n s x A L c, vV k' n' s' x' A' L' c'] w (NmQ w A L c A' L' c') := by
  have hmm := @run_makeMap Tryz.prog
  go_enter Tryz.func111, Tryz.ntmps111
  go_wp2_with (fail)
  obtain ⟨_, _, _, az, ab⟩ := al3 w #[.int .i64 k, .int .i64 n, .string s, .int .i64 x, .slice A L c] #[.int .i64 k', .int .i64 n', .string s', .int .i64 x', .slice A' L' c'] #[.slice A L c, .slice A' L' c', .int .i64 0, .map (some (w.heap.size + 1 + 1 + 1))] IV IV MG
  have hmd := raw.Holds.made (((w.alloc (.cells #[.int .i64 k, .int .i64 n, .string s, .int .i64 x, .slice A L c] IV)).alloc (.cells #[.int .i64 k', .int .i64 n', .string s', .int .i64 x', .slice A' L' c'] IV)).alloc (.cells #[.slice A L c, .slice A' L' c', .int .i64 0, .map (some (w.heap.size + 1 + 1 + 1))] MG)) GK
  rw [az] at hmd
  refine bodyPost_ret (v := .agg #[.slice A L c, .slice A' L' c', .int .i64 0, .map (some (w.heap.size + 1 + 1 + 1))]) (by simp [results, Tryz.results111, go_sem]) rfl ⟨_, rfl, by omega, hmd, bs ab (b1 _ _)⟩

end Go.Proofs.YteoilhbidnnneaaGreatDoor.tree

/-
  The answer of a call, a value and an error, in a variable of its own, whenever a region that draws its order makes that variable.
  Conditions: those that each theorem names.
-/
namespace Go.Proofs.YteoilhbidnnneaaGreatDoor.tree
open Go.ChangeShapes Go.WideShapes Go.ChangeAt Go.RowKit
set_option linter.unusedVariables false

/-- The model's answer in a box. -/
def CutMC (w1 : World) (bb : Int) (K N : Int) (Z : ByteArray) (X : Int) (RL : Nat) (RT : Tr) (p f : Value) (wx : World) : Prop :=
  ∃ B A c, p = .pointer (some ⟨B, 0, none⟩) ∧ f = .int .i64 bb ∧ Below w1.heap.size w1 wx ∧ w1.heap.size ≤ B ∧ wx.heap[B]? = some (.cells #[.int .i64 K, .int .i64 N, .string Z, .int .i64 X, .slice A RL c] IV (0, 0)) ∧ TIn wx (fun b => b ≠ B) RT (vV K N Z X A RL c)
/-- The project's answer in a box. -/
def CutPC (w1 : World) (bb : Int) (K N : Int) (Z : ByteArray) (X : Int) (RL : Nat) (RT : Tr) (p f : Value) (wx : World) : Prop :=
  ∃ B A c par r, p = .pointer (some ⟨B, 0, none⟩) ∧ f = .int .i64 bb ∧ Below w1.heap.size w1 wx ∧ w1.heap.size ≤ B ∧ wx.heap[B]? = some (.cells #[.int .i64 K, .int .i64 N, .string Z, .int .i64 X, .slice A RL c] IV (0, 0)) ∧ TPar wx par (r, 0) RT (vV K N Z X A RL c) ∧ w1.heap.size ≤ r ∧ ∃ hi, (∀ b, Hang par (r, 0) b → Rg (r + 1) hi b) ∧ hi ≤ wx.heap.size ∧ (B ≤ r ∨ hi ≤ B)

section
variable {w1 n wF : World} {bb : Int} {K N X : Int} {Z : ByteArray} {RL c B : Nat} {RT : Tr} {A : Option Addr} {S : Nat → Prop}
theorem cutMC_early (hw : Below w1.heap.size w1 n) (hB : w1.heap.size ≤ B) (ez : n.heap[B]? = some (.cells #[.int .i64 0, .int .i64 0, .string ⟨#[]⟩, .int .i64 0, .slice none 0 0] IV (0, 0))) (hv : TIn n S RT (vV K N Z X A RL c)) (hS : ∀ q, S q → q ≠ B)
    (hF : (((((n.setCell ⟨B, 0, none⟩ (.int .i64 K)).setCell ⟨B, 1, none⟩ (.int .i64 N)).setCell ⟨B, 2, none⟩ (.string Z)).setCell ⟨B, 3, none⟩ (.int .i64 X)).setCell ⟨B, 4, none⟩ (.slice A RL c)) = wF) :
    CutMC w1 bb K N Z X RL RT (.pointer (some ⟨B, 0, none⟩)) (.int .i64 bb) wF := by
  obtain ⟨-, oF, bF⟩ := fill5 ez hF
  have eF : wF.heap[B]? = some (.cells #[.int .i64 K, .int .i64 N, .string Z, .int .i64 X, .slice A RL c] IV (0, 0)) := by
    rw [← hF]
    have := set_heap (set_heap (set_heap (set_heap (set_heap ez 0 (.int .i64 K)) 1 (.int .i64 N)) 2 (.string Z)) 3 (.int .i64 X)) 4 (.slice A RL c)
    simpa using this
  exact ⟨B, A, c, rfl, rfl, bF _ _ hB hw, hB, eF, hv.stays hS fun b hb _ => oF b (hS b hb)⟩
theorem cutMC_last (hw : Below w1.heap.size w1 n) (hv : TIn n S RT (vV K N Z X A RL c))
    (hF : ((((((n.alloc (.cells #[.int .i64 0, .int .i64 0, .string ⟨#[]⟩, .int .i64 0, .slice none 0 0] IV)).setCell ⟨n.heap.size, 0, none⟩ (.int .i64 K)).setCell ⟨n.heap.size, 1, none⟩ (.int .i64 N)).setCell ⟨n.heap.size, 2, none⟩ (.string Z)).setCell ⟨n.heap.size, 3, none⟩ (.int .i64 X)).setCell ⟨n.heap.size, 4, none⟩ (.slice A RL c)) = wF) :
    CutMC w1 bb K N Z X RL RT (.pointer (some ⟨n.heap.size, 0, none⟩)) (.int .i64 bb) wF := by
  refine cutMC_early (S := fun b => b < n.heap.size) (bs hw (b1 n _)) hw.size (heap_alloc_new n _) (hv.lt'.below' (b1 n _)) (fun q hq e => ?_) hF
  have hq' : q < n.heap.size := hq
  omega
theorem cutPC_early {par : Nat → Nat × Nat} {r : Nat} (hw : Below w1.heap.size w1 n) (hB : w1.heap.size ≤ B) (ez : n.heap[B]? = some (.cells #[.int .i64 0, .int .i64 0, .string ⟨#[]⟩, .int .i64 0, .slice none 0 0] IV (0, 0))) (hv : TPar n par (r, 0) RT (vV K N Z X A RL c)) (hr : B ≤ r)
    (hF : (((((n.setCell ⟨B, 0, none⟩ (.int .i64 K)).setCell ⟨B, 1, none⟩ (.int .i64 N)).setCell ⟨B, 2, none⟩ (.string Z)).setCell ⟨B, 3, none⟩ (.int .i64 X)).setCell ⟨B, 4, none⟩ (.slice A RL c)) = wF) :
    CutPC w1 bb K N Z X RL RT (.pointer (some ⟨B, 0, none⟩)) (.int .i64 bb) wF := by
  obtain ⟨-, oF, bF⟩ := fill5 ez hF
  have eF : wF.heap[B]? = some (.cells #[.int .i64 K, .int .i64 N, .string Z, .int .i64 X, .slice A RL c] IV (0, 0)) := by
    rw [← hF]
    have := set_heap (set_heap (set_heap (set_heap (set_heap ez 0 (.int .i64 K)) 1 (.int .i64 N)) 2 (.string Z)) 3 (.int .i64 X)) 4 (.slice A RL c)
    simpa using this
  obtain ⟨p2, h2, h3⟩ := hv.tight
  have hz : wF.heap.size = n.heap.size := by rw [← hF]; simp []
  exact ⟨B, A, c, p2, r, rfl, rfl, bF _ _ hB hw, hB, eF, h2.above fun b hb _ => oF b (by simp at hb; omega), Nat.le_trans hB hr, n.heap.size, h3, by rw [hz]; exact Nat.le_refl _, .inl hr⟩
theorem cutPC_last {par : Nat → Nat × Nat} {r : Nat} (hw : Below w1.heap.size w1 n) (hv : TPar n par (r, 0) RT (vV K N Z X A RL c)) (hr : w1.heap.size ≤ r)
    (hF : ((((((n.alloc (.cells #[.int .i64 0, .int .i64 0, .string ⟨#[]⟩, .int .i64 0, .slice none 0 0] IV)).setCell ⟨n.heap.size, 0, none⟩ (.int .i64 K)).setCell ⟨n.heap.size, 1, none⟩ (.int .i64 N)).setCell ⟨n.heap.size, 2, none⟩ (.string Z)).setCell ⟨n.heap.size, 3, none⟩ (.int .i64 X)).setCell ⟨n.heap.size, 4, none⟩ (.slice A RL c)) = wF) :
    CutPC w1 bb K N Z X RL RT (.pointer (some ⟨n.heap.size, 0, none⟩)) (.int .i64 bb) wF := by
  obtain ⟨en, hbx, hz⟩ := newbox hF
  obtain ⟨p2, h2, h3⟩ := hv.tight
  exact ⟨n.heap.size, A, c, p2, r, rfl, rfl, bs hw hbx, hw.size, en, h2.above fun b _ hl => hbx.block b hl, hr, n.heap.size, h3, by omega, .inr (Nat.le_refl _)⟩
theorem cutMC_box (hw : Below w1.heap.size w1 n) (hv : TIn n S RT (vV K N Z X A RL c)) :
    CutMC w1 bb K N Z X RL RT (.pointer (some ⟨n.heap.size, 0, none⟩)) (.int .i64 bb) (n.alloc (.cells #[.int .i64 K, .int .i64 N, .string Z, .int .i64 X, .slice A RL c] IV)) := by
  refine ⟨n.heap.size, A, c, rfl, rfl, bs hw (b1 n _), hw.size, heap_alloc_new n _, ((hv.lt'.below' (b1 n _)).stays (fun q hq e => ?_) (fun _ _ _ => rfl))⟩
  have hq' : q < n.heap.size := hq
  omega
theorem cutPC_box {par : Nat → Nat × Nat} {r : Nat} (hw : Below w1.heap.size w1 n) (hv : TPar n par (r, 0) RT (vV K N Z X A RL c)) (hr : w1.heap.size ≤ r) :
    CutPC w1 bb K N Z X RL RT (.pointer (some ⟨n.heap.size, 0, none⟩)) (.int .i64 bb) (n.alloc (.cells #[.int .i64 K, .int .i64 N, .string Z, .int .i64 X, .slice A RL c] IV)) := by
  obtain ⟨p2, h2, h3⟩ := hv.tight
  exact ⟨n.heap.size, A, c, p2, r, rfl, rfl, bs hw (b1 n _), hw.size, heap_alloc_new n _, h2.above fun b _ hl => (b1 n _).block b hl, hr, n.heap.size, h3, (b1 n _).size, .inr (Nat.le_refl _)⟩
end

end Go.Proofs.YteoilhbidnnneaaGreatDoor.tree

