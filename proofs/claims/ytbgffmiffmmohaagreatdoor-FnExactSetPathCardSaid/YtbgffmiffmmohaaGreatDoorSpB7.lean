/-
  What the texts behind this one use: 12 parts of one proof.
  Conditions: those that each theorem names.
-/
import Derived.Test.YtbgffmiffmmohaaGreatDoorSpSLawBox
import Derived.Test.YtbgffmiffmmohaaGreatDoorSpSGetK
import Derived.Deep.CutBlock
import Derived.Deep.DeepCutAuto
import Derived.Test.YtbgffmiffmmohaaGreatDoorSpB5
import Derived.Test.YtbgffmiffmmohaaGreatDoorSpB4
import Derived.RangeFuncNested
import Derived.RangeFuncBound
import Derived.RangeFuncCalls
import Derived.RangeFuncLeaves
import Derived.Shelf.Abstract
import Derived.OwnWalkIn
import Derived.TacticsInMore
import Derived.LoopNIn
import Derived.LoopIn
import Derived.Deep.RegionHeld3
import Derived.Test.YtbgffmiffmmohaaGreatDoorSpB2
import Derived.Test.YtbgffmiffmmohaaGreatDoorSpSGet6
import Derived.Test.YtbgffmiffmmohaaGreatDoorSpB6
/-
  The answer of a call in a variable of its own, whenever a region that draws its order makes that variable.
  Conditions: those that each theorem names.
-/
namespace Go.Proofs.YtbgffmiffmmohaaGreatDoor.tree
open Go.ChangeShapes Go.WideShapes Go.ChangeAt Go.RowKit
set_option linter.unusedVariables false

/-- The model's answer in a box. -/
def CutM (w1 : World) (bb : Bool) (K N : Int) (Z : ByteArray) (X : Int) (RL : Nat) (RT : Tr) (p f : Value) (wx : World) : Prop :=
  ∃ B A c, p = .pointer (some ⟨B, 0, none⟩) ∧ f = .bool bb ∧ Below w1.heap.size w1 wx ∧ w1.heap.size ≤ B ∧ wx.heap[B]? = some (.cells #[.int .i64 K, .int .i64 N, .string Z, .int .i64 X, .slice A RL c] IV (0, 0)) ∧ TIn wx (fun b => b ≠ B) RT (vV K N Z X A RL c)
/-- The project's answer in a box. -/
def CutP (w1 : World) (bb : Bool) (K N : Int) (Z : ByteArray) (X : Int) (RL : Nat) (RT : Tr) (p f : Value) (wx : World) : Prop :=
  ∃ B A c par r, p = .pointer (some ⟨B, 0, none⟩) ∧ f = .bool bb ∧ Below w1.heap.size w1 wx ∧ w1.heap.size ≤ B ∧ wx.heap[B]? = some (.cells #[.int .i64 K, .int .i64 N, .string Z, .int .i64 X, .slice A RL c] IV (0, 0)) ∧ TPar wx par (r, 0) RT (vV K N Z X A RL c) ∧ w1.heap.size ≤ r ∧ ∃ hi, (∀ b, Hang par (r, 0) b → Rg (r + 1) hi b) ∧ hi ≤ wx.heap.size ∧ (B ≤ r ∨ hi ≤ B)

section
variable {w1 n wF : World} {bb : Bool} {K N X : Int} {Z : ByteArray} {RL c B : Nat} {RT : Tr} {A : Option Addr} {S : Nat → Prop}
theorem cutM_early (hw : Below w1.heap.size w1 n) (hB : w1.heap.size ≤ B) (ez : n.heap[B]? = some (.cells #[.int .i64 0, .int .i64 0, .string ⟨#[]⟩, .int .i64 0, .slice none 0 0] IV (0, 0))) (hv : TIn n S RT (vV K N Z X A RL c)) (hS : ∀ q, S q → q ≠ B)
    (hF : (((((n.setCell ⟨B, 0, none⟩ (.int .i64 K)).setCell ⟨B, 1, none⟩ (.int .i64 N)).setCell ⟨B, 2, none⟩ (.string Z)).setCell ⟨B, 3, none⟩ (.int .i64 X)).setCell ⟨B, 4, none⟩ (.slice A RL c)) = wF) :
    CutM w1 bb K N Z X RL RT (.pointer (some ⟨B, 0, none⟩)) (.bool bb) wF := by
  obtain ⟨-, oF, bF⟩ := fill5 ez hF
  have eF : wF.heap[B]? = some (.cells #[.int .i64 K, .int .i64 N, .string Z, .int .i64 X, .slice A RL c] IV (0, 0)) := by
    rw [← hF]
    have := set_heap (set_heap (set_heap (set_heap (set_heap ez 0 (.int .i64 K)) 1 (.int .i64 N)) 2 (.string Z)) 3 (.int .i64 X)) 4 (.slice A RL c)
    simpa using this
  exact ⟨B, A, c, rfl, rfl, bF _ _ hB hw, hB, eF, hv.stays hS fun b hb _ => oF b (hS b hb)⟩
theorem cutM_last (hw : Below w1.heap.size w1 n) (hv : TIn n S RT (vV K N Z X A RL c))
    (hF : ((((((n.alloc (.cells #[.int .i64 0, .int .i64 0, .string ⟨#[]⟩, .int .i64 0, .slice none 0 0] IV)).setCell ⟨n.heap.size, 0, none⟩ (.int .i64 K)).setCell ⟨n.heap.size, 1, none⟩ (.int .i64 N)).setCell ⟨n.heap.size, 2, none⟩ (.string Z)).setCell ⟨n.heap.size, 3, none⟩ (.int .i64 X)).setCell ⟨n.heap.size, 4, none⟩ (.slice A RL c)) = wF) :
    CutM w1 bb K N Z X RL RT (.pointer (some ⟨n.heap.size, 0, none⟩)) (.bool bb) wF := by
  refine cutM_early (S := fun b => b < n.heap.size) (bs hw (b1 n _)) hw.size (heap_alloc_new n _) (hv.lt'.below' (b1 n _)) (fun q hq e => ?_) hF
  have hq' : q < n.heap.size := hq
  omega
theorem cutP_early {par : Nat → Nat × Nat} {r : Nat} (hw : Below w1.heap.size w1 n) (hB : w1.heap.size ≤ B) (ez : n.heap[B]? = some (.cells #[.int .i64 0, .int .i64 0, .string ⟨#[]⟩, .int .i64 0, .slice none 0 0] IV (0, 0))) (hv : TPar n par (r, 0) RT (vV K N Z X A RL c)) (hr : B ≤ r)
    (hF : (((((n.setCell ⟨B, 0, none⟩ (.int .i64 K)).setCell ⟨B, 1, none⟩ (.int .i64 N)).setCell ⟨B, 2, none⟩ (.string Z)).setCell ⟨B, 3, none⟩ (.int .i64 X)).setCell ⟨B, 4, none⟩ (.slice A RL c)) = wF) :
    CutP w1 bb K N Z X RL RT (.pointer (some ⟨B, 0, none⟩)) (.bool bb) wF := by
  obtain ⟨-, oF, bF⟩ := fill5 ez hF
  have eF : wF.heap[B]? = some (.cells #[.int .i64 K, .int .i64 N, .string Z, .int .i64 X, .slice A RL c] IV (0, 0)) := by
    rw [← hF]
    have := set_heap (set_heap (set_heap (set_heap (set_heap ez 0 (.int .i64 K)) 1 (.int .i64 N)) 2 (.string Z)) 3 (.int .i64 X)) 4 (.slice A RL c)
    simpa using this
  obtain ⟨p2, h2, h3⟩ := hv.tight
  have hz : wF.heap.size = n.heap.size := by rw [← hF]; simp []
  exact ⟨B, A, c, p2, r, rfl, rfl, bF _ _ hB hw, hB, eF, h2.above fun b hb _ => oF b (by simp at hb; omega), Nat.le_trans hB hr, n.heap.size, h3, by rw [hz]; exact Nat.le_refl _, .inl hr⟩
theorem cutP_last {par : Nat → Nat × Nat} {r : Nat} (hw : Below w1.heap.size w1 n) (hv : TPar n par (r, 0) RT (vV K N Z X A RL c)) (hr : w1.heap.size ≤ r)
    (hF : ((((((n.alloc (.cells #[.int .i64 0, .int .i64 0, .string ⟨#[]⟩, .int .i64 0, .slice none 0 0] IV)).setCell ⟨n.heap.size, 0, none⟩ (.int .i64 K)).setCell ⟨n.heap.size, 1, none⟩ (.int .i64 N)).setCell ⟨n.heap.size, 2, none⟩ (.string Z)).setCell ⟨n.heap.size, 3, none⟩ (.int .i64 X)).setCell ⟨n.heap.size, 4, none⟩ (.slice A RL c)) = wF) :
    CutP w1 bb K N Z X RL RT (.pointer (some ⟨n.heap.size, 0, none⟩)) (.bool bb) wF := by
  obtain ⟨en, hbx, hz⟩ := newbox hF
  obtain ⟨p2, h2, h3⟩ := hv.tight
  exact ⟨n.heap.size, A, c, p2, r, rfl, rfl, bs hw hbx, hw.size, en, h2.above fun b _ hl => hbx.block b hl, hr, n.heap.size, h3, by omega, .inr (Nat.le_refl _)⟩
theorem cutM_box (hw : Below w1.heap.size w1 n) (hv : TIn n S RT (vV K N Z X A RL c)) :
    CutM w1 bb K N Z X RL RT (.pointer (some ⟨n.heap.size, 0, none⟩)) (.bool bb) (n.alloc (.cells #[.int .i64 K, .int .i64 N, .string Z, .int .i64 X, .slice A RL c] IV)) := by
  refine ⟨n.heap.size, A, c, rfl, rfl, bs hw (b1 n _), hw.size, heap_alloc_new n _, ((hv.lt'.below' (b1 n _)).stays (fun q hq e => ?_) (fun _ _ _ => rfl))⟩
  have hq' : q < n.heap.size := hq
  omega
theorem cutP_box {par : Nat → Nat × Nat} {r : Nat} (hw : Below w1.heap.size w1 n) (hv : TPar n par (r, 0) RT (vV K N Z X A RL c)) (hr : w1.heap.size ≤ r) :
    CutP w1 bb K N Z X RL RT (.pointer (some ⟨n.heap.size, 0, none⟩)) (.bool bb) (n.alloc (.cells #[.int .i64 K, .int .i64 N, .string Z, .int .i64 X, .slice A RL c] IV)) := by
  obtain ⟨p2, h2, h3⟩ := hv.tight
  exact ⟨n.heap.size, A, c, p2, r, rfl, rfl, bs hw (b1 n _), hw.size, heap_alloc_new n _, h2.above fun b _ hl => (b1 n _).block b hl, hr, n.heap.size, h3, (b1 n _).size, .inr (Nat.le_refl _)⟩
end

end Go.Proofs.YtbgffmiffmmohaaGreatDoor.tree

/-
  The answer of a look at a key in a variable of its own, whenever a region that draws its order makes that variable; what lies below a place.
  Conditions: those that each theorem names.
-/
namespace Go.Proofs.YtbgffmiffmmohaaGreatDoor.tree
open Go.ChangeShapes Go.WideShapes Go.ChangeAt Go.RowKit
set_option linter.unusedVariables false

/-- What a value's blocks are, and that they were there. -/
theorem TIn.sub {w : World} {S : Nat → Prop} {t : Tr} {v : Value} (h : TIn w S t v) : TIn w (fun b => S b ∧ b < w.heap.size) t v := by
  induction h with
  | mk k n s x ks vs A cap C hk hl hm hcap hc ht ih =>
    refine TIn.mk k n s x ks vs A _ C hk hl hm hcap (fun i hi => ?_) ih
    obtain ⟨a, ha, hS, hky, hs, hj⟩ := hc i hi
    refine ⟨a, ha, ⟨hS, ?_⟩, hky, hs, hj⟩
    have := World.block_lt_of_cell? _ _ hky.1
    rwa [mem.add_block] at this
/-- A variable of a value is no list of items. -/
theorem TIn.nobox {w : World} {S : Nat → Prop} {t : Tr} {v : Value} {R : Nat} {K N X : Int} {Z : ByteArray} {sl : Value} (h : TIn w S t v) (hz : w.heap[R]? = some (.cells #[.int .i64 K, .int .i64 N, .string Z, .int .i64 X, sl] IV (0, 0))) (hs : ∀ b, sl ≠ .bool b) : TIn w (fun b => S b ∧ b ≠ R) t v := by
  induction h with
  | mk k n s x ks vs A cap C hk hl hm hcap hc ht ih =>
    refine TIn.mk k n s x ks vs A _ C hk hl hm hcap (fun i hi => ?_) ih
    obtain ⟨a, ha, hS, hky, hs', hj⟩ := hc i hi
    refine ⟨a, ha, ⟨hS, fun e => ?_⟩, hky, hs', hj⟩
    have h0 := hky.1
    unfold World.cell? at h0
    rw [mem.add_block, e, hz] at h0
    dsimp only at h0
    split at h0
    · cases h0
    · obtain ⟨hlt, h1⟩ := Array.getElem?_eq_some_iff.1 h0
      have h5 : ∀ (bv : Bool) (o : Nat) (h : o < 5), (#[Value.int .i64 K, .int .i64 N, .string Z, .int .i64 X, sl] : Array Value)[o] = .bool bv → False := by
        intro bv o h hb
        rcases o with _ | _ | _ | _ | _ | o
        · cases hb
        · cases hb
        · cases hb
        · cases hb
        · exact hs _ hb
        · omega
      exact h5 _ _ hlt h1
/-- Below lo nothing has changed. -/
theorem TIn.own {w w' : World} {lo : Nat} {S : Nat → Prop} {t : Tr} {v : Value} (h : TIn w (fun b => S b ∧ b < lo) t v) (hb : ∀ b, b < lo → w'.heap[b]? = w.heap[b]?) : TIn w' (fun b => S b ∧ b < lo) t v := h.stays (fun _ h => h) (fun b hs _ => hb b hs.2)

/-- The answer in a box. -/
def CutS (w1 : World) (S : Nat → Prop) (bb : Bool) (K N : Int) (Z : ByteArray) (X : Int) (RL : Nat) (RT : Tr) (p f : Value) (wx : World) : Prop :=
  ∃ B A c, p = .pointer (some ⟨B, 0, none⟩) ∧ f = .bool bb ∧ Below w1.heap.size w1 wx ∧ w1.heap.size ≤ B ∧ wx.heap[B]? = some (.cells #[.int .i64 K, .int .i64 N, .string Z, .int .i64 X, .slice A RL c] IV (0, 0)) ∧ TIn wx S RT (vV K N Z X A RL c)
section
variable {w1 n wF : World} {bb : Bool} {K N X : Int} {Z : ByteArray} {RL c B : Nat} {RT : Tr} {A : Option Addr} {S : Nat → Prop}
theorem cutS_early (hw : Below w1.heap.size w1 n) (hB : w1.heap.size ≤ B) (ez : n.heap[B]? = some (.cells #[.int .i64 0, .int .i64 0, .string ⟨#[]⟩, .int .i64 0, .slice none 0 0] IV (0, 0))) (hv : TIn n S RT (vV K N Z X A RL c)) (hS : ∀ q, S q → q ≠ B)
    (hF : (((((n.setCell ⟨B, 0, none⟩ (.int .i64 K)).setCell ⟨B, 1, none⟩ (.int .i64 N)).setCell ⟨B, 2, none⟩ (.string Z)).setCell ⟨B, 3, none⟩ (.int .i64 X)).setCell ⟨B, 4, none⟩ (.slice A RL c)) = wF) :
    CutS w1 S bb K N Z X RL RT (.pointer (some ⟨B, 0, none⟩)) (.bool bb) wF := by
  obtain ⟨-, oF, bF⟩ := fill5 ez hF
  have eF : wF.heap[B]? = some (.cells #[.int .i64 K, .int .i64 N, .string Z, .int .i64 X, .slice A RL c] IV (0, 0)) := by
    rw [← hF]
    have := set_heap (set_heap (set_heap (set_heap (set_heap ez 0 (.int .i64 K)) 1 (.int .i64 N)) 2 (.string Z)) 3 (.int .i64 X)) 4 (.slice A RL c)
    simpa using this
  exact ⟨B, A, c, rfl, rfl, bF _ _ hB hw, hB, eF, hv.stays (fun _ h => h) fun b hb _ => oF b (hS b hb)⟩
theorem cutS_box (hw : Below w1.heap.size w1 n) (hv : TIn n S RT (vV K N Z X A RL c)) :
    CutS w1 S bb K N Z X RL RT (.pointer (some ⟨n.heap.size, 0, none⟩)) (.bool bb) (n.alloc (.cells #[.int .i64 K, .int .i64 N, .string Z, .int .i64 X, .slice A RL c] IV)) :=
  ⟨n.heap.size, A, c, rfl, rfl, bs hw (b1 n _), hw.size, heap_alloc_new n _, hv.below' (b1 n _)⟩
end

end Go.Proofs.YtbgffmiffmmohaaGreatDoor.tree

/-
  What a value counts as when something is written into it, of the project.
  Conditions: none.
-/
namespace Go.Proofs.YtbgffmiffmmohaaGreatDoor.tree
open Go.ChangeShapes Go.WideShapes Go.ChangeAt Go.RowKit
set_option linter.unusedVariables false

theorem arrV_i (w : World) : Calls Tryz.prog 232 #[] w (GivesQ w (vV 4 0 ⟨#[]⟩ 0 none 0 0)) := by
  go_enter Tryz.func232, Tryz.ntmps232
  go_wp2
  exact bodyPost_ret (v := vV 4 0 ⟨#[]⟩ 0 none 0 0) (by simp [results, Tryz.results232, go_sem]) rfl ⟨rfl, b1 _ _⟩
theorem opn_zero (n : Int) (s : ByteArray) (x : Int) (ks : List Ky) (vs : List Tr) : opn (.mk 0 n s x ks vs) = arrT := rfl
theorem opn_ne {k n : Int} {s : ByteArray} {x : Int} {ks : List Ky} {vs : List Tr} (h : k ≠ 0) : opn (.mk k n s x ks vs) = .mk k n s x ks vs := by
  unfold opn
  rw [if_neg (show ¬ knd (.mk k n s x ks vs) = 0 from h)]

set_option maxHeartbeats 800000 in
theorem opened_i (t : Tr) (v : Value) (w : World) (S : Nat → Prop) (h : TIn w S t v) :
    (knd (opn t) = 4 → Calls Tryz.prog 217 #[v] w (OutT w (opn t) true S)) ∧ (knd (opn t) ≠ 4 → Calls Tryz.prog 217 #[v] w (OutT w nullT false S)) := by
  obtain ⟨k, n, s, x, ks, vs⟩ := t
  obtain ⟨A, c, rfl, -, -⟩ := h.out
  obtain ⟨L, HL⟩ : ∃ L, Hid (vs.length = L) := ⟨_, Lib.hid rfl⟩
  rw [HL.out] at h ⊢
  have HT := Lib.hid h
  have HNU := Lib.hid nullValue_i
  have HAR := Lib.hid arrV_i
  clear h
  by_cases h0 : k = 0
  · subst h0
    rw [opn_zero]
    refine ⟨fun _ => ?_, fun h => absurd rfl h⟩
    go_enter Tryz.func217, Tryz.ntmps217
    go_wp2_with (fail)
    refine (HAR.out _).mono ?_
    rintro e w1 ⟨rfl, hb1⟩
    have HZ1 := Lib.hid (carry hb1 (heap_alloc2_new w _ _))
    have HB1 := Lib.hid (bs (b2 w _ _) hb1)
    obtain ⟨r, f⟩ := rowc HZ1.out
    clear hb1
    go_wp2_with (fail)
    generalize hwF : (((((w1.setCell ⟨w.heap.size + 1, 0, none⟩ (.int .i64 4)).setCell ⟨w.heap.size + 1, 1, none⟩ (.int .i64 0)).setCell ⟨w.heap.size + 1, 2, none⟩ (.string ⟨#[]⟩)).setCell ⟨w.heap.size + 1, 3, none⟩ (.int .i64 0)).setCell ⟨w.heap.size + 1, 4, none⟩ (.slice none 0 0)) = wF
    obtain ⟨rF, -, bF⟩ := fill5 HZ1.out hwF
    refine bodyPost_ret (v := .tuple #[vV 4 0 ⟨#[]⟩ 0 none 0 0, .bool true]) ?_ rfl ?_
    · simp [results, Tryz.results217, go_sem, rF]
    · exact ⟨_, rfl, flat ⟨by unfold I64; omega, by unfold I64; omega, by unfold I64; omega, Nat.zero_le _⟩ _ _ none 0 (Nat.zero_le _), bF _ _ (by omega) HB1.out⟩
  · rw [opn_ne h0]
    by_cases h4 : k = 4
    · subst h4
      refine ⟨fun _ => ?_, fun h => absurd rfl h⟩
      go_enter Tryz.func217, Tryz.ntmps217
      go_wp2_with (fail)
      have HZ1 := heap_alloc2_new w (.cells #[.int .i64 4, .int .i64 n, .string s, .int .i64 x, .slice A L c] IV) (.cells #[.int .i64 4, .int .i64 n, .string s, .int .i64 x, .slice A L c] IV)
      have hbF := b2 w (.cells #[.int .i64 4, .int .i64 n, .string s, .int .i64 x, .slice A L c] IV) (.cells #[.int .i64 4, .int .i64 n, .string s, .int .i64 x, .slice A L c] IV)
      have rF := (rowc HZ1).1
      refine bodyPost_ret (v := .tuple #[vV 4 n s x A L c, .bool true]) ?_ rfl ?_
      · simp [results, Tryz.results217, go_sem, rF]
      · exact ⟨_, rfl, HT.out.below' hbF, hbF⟩
    · refine ⟨fun h => absurd h h4, fun _ => ?_⟩
      go_enter Tryz.func217, Tryz.ntmps217
      go_wp2_with (fail)
      refine (HNU.out _).mono ?_
      rintro e w1 ⟨rfl, hb1⟩
      have HZ1 := Lib.hid (carry hb1 (heap_alloc2_new w _ _))
      have HB1 := Lib.hid (bs (b2 w _ _) hb1)
      obtain ⟨r, f⟩ := rowc HZ1.out
      clear hb1
      go_wp2_with (fail)
      generalize hwF : (((((w1.setCell ⟨w.heap.size + 1, 0, none⟩ (.int .i64 0)).setCell ⟨w.heap.size + 1, 1, none⟩ (.int .i64 0)).setCell ⟨w.heap.size + 1, 2, none⟩ (.string ⟨#[]⟩)).setCell ⟨w.heap.size + 1, 3, none⟩ (.int .i64 0)).setCell ⟨w.heap.size + 1, 4, none⟩ (.slice none 0 0)) = wF
      obtain ⟨rF, -, bF⟩ := fill5 HZ1.out hwF
      refine bodyPost_ret (v := .tuple #[vV 0 0 ⟨#[]⟩ 0 none 0 0, .bool false]) ?_ rfl ?_
      · simp [results, Tryz.results217, go_sem, rF]
      · exact ⟨_, rfl, flat ⟨by unfold I64; omega, by unfold I64; omega, by unfold I64; omega, Nat.zero_le _⟩ _ _ none 0 (Nat.zero_le _), bF _ _ (by omega) HB1.out⟩

end Go.Proofs.YtbgffmiffmmohaaGreatDoor.tree

/-
  A value behind the items of what a value counts as, of the project.
  Conditions: the value holds at most 2^20 and two items; its next index is none below 0.
-/
namespace Go.Proofs.YtbgffmiffmmohaaGreatDoor.tree
open Go.ChangeShapes Go.WideShapes Go.ChangeAt Go.RowKit
set_option linter.unusedVariables false

/-- A value with a code: where the code is 0, the value is the tree. -/
def OutP (w : World) (t : Tr) (code : Int) (e : Ending) (w' : World) : Prop := ∃ u T, e = .returned (.tuple #[u, .int .i64 code]) ∧ TIn w' (Nw 0 w') T u ∧ (code = 0 → T = t) ∧ Below w.heap.size w w'
theorem nul_in (w : World) (S : Nat → Prop) : TIn w S nullT (vV 0 0 ⟨#[]⟩ 0 none 0 0) := flat ⟨by unfold I64; omega, by unfold I64; omega, by unfold I64; omega, Nat.zero_le _⟩ _ _ none 0 (Nat.zero_le _)
theorem nul_p {w w' : World} {t : Tr} {code : Int} (hc : code ≠ 0) (hb : Below w.heap.size w w') : OutP w t code (.returned (.tuple #[vV 0 0 ⟨#[]⟩ 0 none 0 0, .int .i64 code])) w' := ⟨_, nullT, rfl, nul_in _ _, fun h => absurd h hc, hb⟩

set_option maxRecDepth 100000 in
set_option maxHeartbeats 1600000 in
theorem pushed_i (e0 : Tr) (v : Value) (u : Tr) (vu : Value) (w : World) (h : TIn w (Nw 0 w) e0 v) (hu : TIn w (Nw 0 w) u vu) (hN : cnt e0 ≤ 1048578) (hX : 0 ≤ nex (opn e0)) :
    Calls Tryz.prog 182 #[v, vu] w (OutP w (pushP e0 u).1 (pushP e0 u).2) := by
  have OP := opened_i e0 v
  have hco := (cnt_opn e0).1
  have HNU := Lib.hid nullValue_i
  by_cases h4 : knd (opn e0) = 4
  · have OP1 : Hid (∀ w', Below w.heap.size w w' → Calls Tryz.prog 217 #[v] w' (fun e w2 => ∃ u, e = .returned (.tuple #[u, .bool true]) ∧ TIn w2 (Nw 0 w2) (opn e0) u ∧ Below w'.heap.size w' w2)) := Lib.hid fun w' hb => ((OP w' _ (h.nwb hb)).1 h4).mono fun e w2 ⟨u, a, b, c⟩ => ⟨u, a, b.stays (fun b hb => hb.keep (Nat.le_refl _) (c.block b hb.2.lt)) (fun _ _ _ => rfl), c⟩
    have he : pushP e0 u = if nums.inr (nex (opn e0)) 0 1000000000 then (setT (opn e0) (pky (opn e0)) u, 0) else (opn e0, 7) := by unfold pushP; rw [if_pos h4]
    rw [he]
    obtain ⟨Q, hQ⟩ : ∃ Q, Q = opn e0 := ⟨_, rfl⟩
    rw [← hQ] at OP1 h4 hX hco ⊢
    obtain ⟨K, N, Z, X, RK, RV⟩ := Q
    obtain rfl : K = 4 := h4
    have HX0 : Hid (0 ≤ X) := Lib.hid hX
    have hin : nums.inr X 0 1000000000 = decide (X ≤ 1000000000) := by
      have : 0 ≤ X := hX
      unfold nums.inr
      simp [this]
    show Calls _ _ _ _ (OutP w (if nums.inr X 0 1000000000 = true then (setT (.mk 4 N Z X RK RV) ⟨false, X, ⟨#[]⟩⟩ u, (0 : Int)) else (.mk 4 N Z X RK RV, (7 : Int))).1 (if nums.inr X 0 1000000000 = true then (setT (.mk 4 N Z X RK RV) ⟨false, X, ⟨#[]⟩⟩ u, (0 : Int)) else (.mk 4 N Z X RK RV, (7 : Int))).2)
    rw [hin]
    obtain ⟨k, n, s, x, ks, vs⟩ := e0
    obtain ⟨A0, c0, rfl, -, -⟩ := h.out
    obtain ⟨L0, HL0⟩ : ∃ L, Hid (vs.length = L) := ⟨_, Lib.hid rfl⟩
    rw [HL0.out] at OP1 ⊢
    obtain ⟨RL, HRL⟩ : ∃ L, Hid (L = RV.length) := ⟨_, Lib.hid rfl⟩
    have HTU := Lib.hid hu
    have HC := Lib.hid (show cnt (Tr.mk 4 N Z X RK RV) ≤ 1048578 by omega)
    obtain ⟨ku, nu, su, xu, ksu, vsu⟩ := u
    obtain ⟨Au, cu, rfl, -, -⟩ := hu.out
    obtain ⟨Lu, HLu⟩ : ∃ L, Hid (vsu.length = L) := ⟨_, Lib.hid rfl⟩
    rw [HLu.out] at HTU ⊢
    clear h hu hN hX hco hQ OP he hin
    by_cases hx : X ≤ 1000000000
    · rw [if_pos (by simpa using hx)]
      go_enter Tryz.func182, Tryz.ntmps182
      go_wp2_with (fail)
      obtain ⟨a0, a1, a2, az, ab⟩ := al3 w #[.int .i64 k, .int .i64 n, .string s, .int .i64 x, .slice A0 L0 c0] #[.int .i64 ku, .int .i64 nu, .string su, .int .i64 xu, .slice Au Lu cu] #[.int .i64 0, .int .i64 0, .string ⟨#[]⟩, .int .i64 0, .slice none 0 0] IV IV IV
      refine (OP1.out _ ab).mono ?_
      rintro e w1 ⟨ua, rfl, hua, hb1⟩
      obtain ⟨A1, c1, rfl, -, -⟩ := hua.out
      rw [← HRL.out]
      have HU := Lib.hid (show TIn w1 (Nw 0 w1) (.mk 4 N Z X RK RV) (vV 4 N Z X A1 RL c1) by rw [HRL.out]; exact hua)
      have HZ1 := Lib.hid (carry hb1 a2)
      have HV1 := Lib.hid (carry hb1 a1)
      have HB1 := Lib.hid (bs ab hb1)
      have r1 : ∀ o q, (w1.alloc o).cell? ⟨w.heap.size + 1, q, none⟩ = _ := fun o q => (rowc (keepAlloc HV1.out)).1 q
      clear hua hb1 OP1 a0 a1 a2 az ab
      go_wp2_with (fail)
      have WI := withItem_i (.mk 4 N Z X RK RV) (vV 4 N Z X A1 RL c1) ⟨false, X, ⟨#[]⟩⟩ (.mk ku nu su xu ksu vsu) (vV ku nu su xu Au Lu cu) _ (HU.out.nwb (b1 w1 (.cells #[.int .i64 4, .int .i64 N, .string Z, .int .i64 X, .slice A1 RL c1] IV))) (HTU.out.nwb (bs HB1.out (b1 w1 _))) ⟨by have := HX0.out; show I64 X; unfold I64; omega, Nat.zero_le _⟩ (by rintro _ _ _ _ _ _ ⟨⟩; rfl) HC.out (fun _ _ => ⟨by have := HX0.out; show -1000000000 ≤ X; omega, hx⟩)
      refine WI.mono ?_
      rintro e w2 ⟨u, rfl, hu, hb2⟩
      obtain ⟨Q3, hQ3⟩ : ∃ Q, Q = setT (.mk 4 N Z X RK RV) ⟨false, X, ⟨#[]⟩⟩ (.mk ku nu su xu ksu vsu) := ⟨_, rfl⟩
      rw [← hQ3] at hu
      have HQ3 := Lib.hid hQ3
      clear hQ3
      obtain ⟨K3, N3, Z3, X3, RK3, RV3⟩ := Q3
      obtain ⟨A3, c3, rfl, -, -⟩ := hu.out
      obtain ⟨L3, HL3⟩ : ∃ L, Hid (RV3.length = L) := ⟨_, Lib.hid rfl⟩
      rw [HL3.out] at hu ⊢
      have HU2 := Lib.hid hu
      have HZ2 := Lib.hid (carry hb2 (keepAlloc HZ1.out))
      have HB2 := Lib.hid (bs HB1.out (bs (b1 w1 _) hb2))
      obtain ⟨r, f⟩ := rowc HZ2.out
      clear hu hb2 r1
      go_wp2_with (fail)
      generalize hwF : (((((w2.setCell ⟨w.heap.size + 1 + 1, 0, none⟩ (.int .i64 K3)).setCell ⟨w.heap.size + 1 + 1, 1, none⟩ (.int .i64 N3)).setCell ⟨w.heap.size + 1 + 1, 2, none⟩ (.string Z3)).setCell ⟨w.heap.size + 1 + 1, 3, none⟩ (.int .i64 X3)).setCell ⟨w.heap.size + 1 + 1, 4, none⟩ (.slice A3 L3 c3)) = wF
      obtain ⟨rF, oF, bF⟩ := fill5 HZ2.out hwF
      refine bodyPost_ret (v := .tuple #[vV K3 N3 Z3 X3 A3 L3 c3, .int .i64 0]) ?_ rfl ?_
      · simp [results, Tryz.results182, go_sem, rF]
      · refine ⟨_, _, rfl, (HU2.out.nobox HZ2.out (fun b h => by cases h)).stays (fun q hq => hq.1.keep (Nat.le_refl _) (oF q hq.2)) (fun q hq _ => oF q hq.2), fun _ => HQ3.out, bF _ _ (by omega) HB2.out⟩
    · rw [if_neg (by simpa using hx)]
      go_enter Tryz.func182, Tryz.ntmps182
      go_wp2_with (fail)
      obtain ⟨a0, a1, a2, az, ab⟩ := al3 w #[.int .i64 k, .int .i64 n, .string s, .int .i64 x, .slice A0 L0 c0] #[.int .i64 ku, .int .i64 nu, .string su, .int .i64 xu, .slice Au Lu cu] #[.int .i64 0, .int .i64 0, .string ⟨#[]⟩, .int .i64 0, .slice none 0 0] IV IV IV
      refine (OP1.out _ ab).mono ?_
      rintro e w1 ⟨ua, rfl, hua, hb1⟩
      obtain ⟨A1, c1, rfl, -, -⟩ := hua.out
      rw [← HRL.out]
      have HU := Lib.hid (show TIn w1 (Nw 0 w1) (.mk 4 N Z X RK RV) (vV 4 N Z X A1 RL c1) by rw [HRL.out]; exact hua)
      have HZ1 := Lib.hid (carry hb1 a2)
      have HV1 := Lib.hid (carry hb1 a1)
      have HB1 := Lib.hid (bs ab hb1)
      have r1 : ∀ o q, (w1.alloc o).cell? ⟨w.heap.size + 1, q, none⟩ = _ := fun o q => (rowc (keepAlloc HV1.out)).1 q
      clear hua hb1 OP1 a0 a1 a2 az ab
      go_wp2_with (fail)
      refine (HNU.out _).mono ?_
      rintro e w2 ⟨rfl, hb2⟩
      have HZ2 := Lib.hid (carry hb2 (keepAlloc HZ1.out))
      have HB2 := Lib.hid (bs HB1.out (bs (b1 w1 _) hb2))
      obtain ⟨r, f⟩ := rowc HZ2.out
      clear hb2
      go_wp2_with (fail)
      generalize hwF : (((((w2.setCell ⟨w.heap.size + 1 + 1, 0, none⟩ (.int .i64 0)).setCell ⟨w.heap.size + 1 + 1, 1, none⟩ (.int .i64 0)).setCell ⟨w.heap.size + 1 + 1, 2, none⟩ (.string ⟨#[]⟩)).setCell ⟨w.heap.size + 1 + 1, 3, none⟩ (.int .i64 0)).setCell ⟨w.heap.size + 1 + 1, 4, none⟩ (.slice none 0 0)) = wF
      obtain ⟨rF, oF, bF⟩ := fill5 HZ2.out hwF
      refine bodyPost_ret (v := .tuple #[vV 0 0 ⟨#[]⟩ 0 none 0 0, .int .i64 7]) ?_ rfl ?_
      · simp [results, Tryz.results182, go_sem, rF]
      · exact nul_p (by omega) (bF _ _ (by omega) HB2.out)
  · have OP1 : Hid (∀ w', Below w.heap.size w w' → Calls Tryz.prog 217 #[v] w' (OutT w' nullT false (Nw 0 w'))) := Lib.hid fun w' hb => (OP w' _ (h.nwb hb)).2 h4
    have he : pushP e0 u = (opn e0, 6) := by unfold pushP; rw [if_neg h4]
    rw [he]
    obtain ⟨Q, hQ⟩ : ∃ Q, Q = opn e0 := ⟨_, rfl⟩
    rw [← hQ]
    obtain ⟨k, n, s, x, ks, vs⟩ := e0
    obtain ⟨A0, c0, rfl, -, -⟩ := h.out
    obtain ⟨L0, HL0⟩ : ∃ L, Hid (vs.length = L) := ⟨_, Lib.hid rfl⟩
    rw [HL0.out] at OP1 ⊢
    obtain ⟨ku, nu, su, xu, ksu, vsu⟩ := u
    obtain ⟨Au, cu, rfl, -, -⟩ := hu.out
    obtain ⟨Lu, HLu⟩ : ∃ L, Hid (vsu.length = L) := ⟨_, Lib.hid rfl⟩
    rw [HLu.out]
    clear h hu hN hX hco hQ OP he h4
    go_enter Tryz.func182, Tryz.ntmps182
    go_wp2_with (fail)
    obtain ⟨a0, a1, a2, az, ab⟩ := al3 w #[.int .i64 k, .int .i64 n, .string s, .int .i64 x, .slice A0 L0 c0] #[.int .i64 ku, .int .i64 nu, .string su, .int .i64 xu, .slice Au Lu cu] #[.int .i64 0, .int .i64 0, .string ⟨#[]⟩, .int .i64 0, .slice none 0 0] IV IV IV
    refine (OP1.out _ ab).mono ?_
    rintro e w1 ⟨ua, rfl, hua, hb1⟩
    obtain ⟨A1, c1, rfl, -, -⟩ := hua.out
    have HZ1 := Lib.hid (carry hb1 a2)
    have HB1 := Lib.hid (bs ab hb1)
    clear hua hb1 OP1 a0 a1 a2 az ab
    go_wp2_with (fail)
    refine (HNU.out _).mono ?_
    rintro e w2 ⟨rfl, hb2⟩
    have HZ2 := Lib.hid (carry hb2 (keepAlloc HZ1.out))
    have HB2 := Lib.hid (bs HB1.out (bs (b1 w1 _) hb2))
    obtain ⟨r, f⟩ := rowc HZ2.out
    clear hb2
    go_wp2_with (fail)
    generalize hwF : (((((w2.setCell ⟨w.heap.size + 1 + 1, 0, none⟩ (.int .i64 0)).setCell ⟨w.heap.size + 1 + 1, 1, none⟩ (.int .i64 0)).setCell ⟨w.heap.size + 1 + 1, 2, none⟩ (.string ⟨#[]⟩)).setCell ⟨w.heap.size + 1 + 1, 3, none⟩ (.int .i64 0)).setCell ⟨w.heap.size + 1 + 1, 4, none⟩ (.slice none 0 0)) = wF
    obtain ⟨rF, oF, bF⟩ := fill5 HZ2.out hwF
    refine bodyPost_ret (v := .tuple #[vV 0 0 ⟨#[]⟩ 0 none 0 0, .int .i64 6]) ?_ rfl ?_
    · simp [results, Tryz.results182, go_sem, rF]
    · exact nul_p (by omega) (bF _ _ (by omega) HB2.out)

end Go.Proofs.YtbgffmiffmmohaaGreatDoor.tree

/-
  What stands at the end of a path, of the project.
  Conditions: those that each theorem names.
-/
namespace Go.Proofs.YtbgffmiffmmohaaGreatDoor.tree
open Go.ChangeShapes Go.WideShapes Go.ChangeAt Go.RowKit
set_option linter.unusedVariables false

theorem drop_cons' {α : Type} {ys : List α} {j : Nat} {y : α} (h : ys[j]? = some y) : ys.drop j = y :: ys.drop (j + 1) := by
  obtain ⟨hj, rfl⟩ := List.getElem?_eq_some_iff.1 h
  exact List.drop_eq_getElem_cons hj

set_option maxRecDepth 100000 in
set_option maxHeartbeats 1600000 in
theorem valueAt_i (t : Tr) (ys : List Ky) (v : Value) (A : Option Addr) (c : Nat) (w : World) (S : Nat → Prop) (h : TIn w S t v) (hk : KIn w ys A) (hm : ys.length ≤ maxLen) : Calls Tryz.prog 218 #[v, .slice A ys.length c] w (OutT w (gp t ys).1 (gp t ys).2 S) := by
  obtain ⟨k, n, s, x, ks, vs⟩ := t
  obtain ⟨A0, c0, rfl, -, -⟩ := h.out
  obtain ⟨Q, b, HG⟩ : ∃ Q b, Hid (gp (.mk k n s x ks vs) ys = (Q, b)) := ⟨_, _, Lib.hid rfl⟩
  rw [HG.out]
  show Calls _ _ _ _ (OutT w Q b S)
  obtain ⟨L, HL⟩ : ∃ L, Hid (ys.length = L) := ⟨_, Lib.hid rfl⟩
  obtain ⟨L0, HL0⟩ : ∃ L, Hid (vs.length = L) := ⟨_, Lib.hid rfl⟩
  rw [HL.out] at hm ⊢
  rw [HL0.out] at h ⊢
  unfold maxLen at hm
  have HT := Lib.hid h
  have HK := Lib.hid hk
  have HNU := Lib.hid nullValue_i
  clear h hk
  go_enter Tryz.func218, Tryz.ntmps218
  go_wp2_with (fail)
  go_loopg [11] (L + 1) (fun gk i wr => ∃ (j : Nat) (k n : Int) (s : ByteArray) (x : Int) (ks : List Ky) (vs : List Tr) (A1 : Option Addr) (L1 c1 : Nat), i = .int .i64 j ∧ gk + j = L + 1 ∧ j ≤ L ∧ Hid (gp (.mk k n s x ks vs) (ys.drop j) = (Q, b)) ∧ Hid (vs.length = L1) ∧ Hid (TIn w S (.mk k n s x ks vs) (vV k n s x A1 L1 c1)) ∧
    Hid (wr.heap[w.heap.size]? = some (.cells #[.int .i64 k, .int .i64 n, .string s, .int .i64 x, .slice A1 L1 c1] IV (0, 0))) ∧ Hid (wr.heap[w.heap.size + 1]? = some (.cells #[.int .i64 0, .int .i64 0, .string ⟨#[]⟩, .int .i64 0, .slice none 0 0] IV (0, 0))) ∧ Below w.heap.size w wr)
  case atStart => exact ⟨0, k, n, s, x, ks, vs, A0, L0, c0, rfl, by omega, by omega, by rw [List.drop_zero]; exact HG, HL0, HT, Lib.hid (heap_alloc2_old w _ _), Lib.hid (heap_alloc2_new w _ _), b2 _ _ _⟩
  case round =>
    clear HT HL0 HG
    obtain ⟨j, k, n, s, x, ks, vs, A1, L1, c1, rfl, hgj, hjL, HG, HL1, HT, HE, HZ, hb⟩ := hrel
    have HB := Lib.hid hb
    clear hb
    obtain ⟨e0, f0⟩ := rowc HE.out
    obtain ⟨ez, fz⟩ := rowc HZ.out
    by_cases hlt : j < L
    · obtain ⟨y, hy⟩ : ∃ y, ys[j]? = some y := ⟨_, List.getElem?_eq_getElem (by rw [HL.out]; exact hlt)⟩
      have hg := HG.out
      rw [drop_cons' hy, gp_cons] at hg
      obtain ⟨a, rfl, hyb, p0, p1, p2⟩ := HK.out.below HB.out j y hy
      have FI := fun w' (h : TIn w' S (.mk k n s x ks vs) (vV k n s x A1 L1 c1)) => findKey_i (.mk k n s x ks vs) (vV k n s x A1 L1 c1) y w' S h
      unfold kyV at FI
      have HYS := Lib.hid hy
      have ea : ∀ o j, (wr.alloc o).cell? ⟨w.heap.size, j, none⟩ = _ := fun o j => (rowc (keepAlloc HE.out)).1 j
      rcases posV_cases k n s x ks vs y with hp | ⟨i, hp, hi, rfl⟩
      · have eb : getB (.mk k n s x ks vs) y = false := by unfold getB; rw [getT_none hp]; rfl
        rw [if_neg (by rw [eb]; decide)] at hg
        obtain ⟨rfl, rfl⟩ : nullT = Q ∧ false = b := by simpa using hg
        rw [hp] at FI
        have HF := Lib.hid FI
        clear FI hp eb hg hy hyb
        go_wp2_with (fail)
        refine (HF.out _ (HT.out.below' (bs HB.out (b1 _ _)))).mono ?_
        rintro e w1 ⟨rfl, hb1⟩
        have HB1 := Lib.hid (bs (bs HB.out (b1 _ _)) hb1)
        have HZ1 := Lib.hid (carry (bs (b1 _ _) hb1) HZ.out)
        clear hb1
        go_wp2_with (fail)
        refine (HNU.out _).mono ?_
        rintro e w2 ⟨rfl, hb2⟩
        have HB2 := Lib.hid (bs HB1.out hb2)
        have HZ2 := Lib.hid (carry hb2 HZ1.out)
        obtain ⟨r2, g2⟩ := rowc HZ2.out
        clear hb2
        go_wp2_with (fail)
        generalize hwF : (((((w2.setCell ⟨w.heap.size + 1, 0, none⟩ (.int .i64 0)).setCell ⟨w.heap.size + 1, 1, none⟩ (.int .i64 0)).setCell ⟨w.heap.size + 1, 2, none⟩ (.string ⟨#[]⟩)).setCell ⟨w.heap.size + 1, 3, none⟩ (.int .i64 0)).setCell ⟨w.heap.size + 1, 4, none⟩ (.slice none 0 0)) = wF
        obtain ⟨rF, -, bF⟩ := fill5 HZ2.out hwF
        refine bodyPost_ret (v := .tuple #[vV 0 0 ⟨#[]⟩ 0 none 0 0, .bool false]) ?_ rfl ?_
        · simp [results, Tryz.results218, go_sem, rF]
        · exact ⟨_, rfl, flat ⟨by unfold I64; omega, by unfold I64; omega, by unfold I64; omega, Nat.zero_le _⟩ _ _ none 0 (Nat.zero_le _), bF _ _ (by omega) HB2.out⟩
      · obtain ⟨A1', c1', e', -, hin⟩ := HT.out.out
        rw [HL1.out] at e'
        unfold vV at e'
        obtain ⟨rfl, rfl⟩ : A1 = A1' ∧ c1 = c1' := by simpa using e'
        have hkl : ks.length = vs.length := hin.1
        obtain ⟨a2, y1, k1, n1, s1, x1, ks1, vs1, A2, c2, rfl, hS, hky, hvs, htin, hyb1, hkb, hin1, hcell⟩ := hin.item (i := i) (by omega)
        have hin2 := (hin.below HB.out)
        have eb : getB (.mk 4 n s x ks vs) y = true := by unfold getB; rw [getT_some hp, hvs]; rfl
        have er : getR (.mk 4 n s x ks vs) y = .mk k1 n1 s1 x1 ks1 vs1 := by unfold getR; rw [getT_some hp, hvs]; rfl
        rw [if_pos eb, er] at hg
        rw [hp] at FI
        have HF := Lib.hid FI
        have hiL : i < L1 := by rw [← HL1.out]; omega
        have hLm : L1 ≤ maxLen := by rw [← HL1.out]; exact hin.2.1
        unfold maxLen at hLm
        obtain ⟨L2, HL2⟩ : ∃ L, Hid (vs1.length = L) := ⟨_, Lib.hid rfl⟩
        rw [HL2.out] at htin hcell
        have HT2 := Lib.hid htin
        have HC2 := Lib.hid hcell
        have HG2 := Lib.hid hg
        clear FI hp eb er hg hy hyb hin hin2 hkl hky hvs htin hyb1 hkb hin1 hcell hS hi e'
        go_wp2_with (fail)
        refine (HF.out _ (HT.out.below' (bs HB.out (b1 _ _)))).mono ?_
        rintro e w1 ⟨rfl, hb1⟩
        have HB1 := Lib.hid (bs (bs HB.out (b1 _ _)) hb1)
        have HZ1 := Lib.hid (carry (bs (b1 _ _) hb1) HZ.out)
        have HE1 := Lib.hid (carry (bs (b1 _ _) hb1) HE.out)
        obtain ⟨q0, q1, q2, q3, q4, q5, q6, q7⟩ := HC2.out.below HB1.out
        obtain ⟨r1, g1⟩ := rowc HE1.out
        clear hb1
        go_wp2_with (fail)
        generalize hwF : (((((w1.setCell ⟨w.heap.size, 0, none⟩ (.int .i64 k1)).setCell ⟨w.heap.size, 1, none⟩ (.int .i64 n1)).setCell ⟨w.heap.size, 2, none⟩ (.string s1)).setCell ⟨w.heap.size, 3, none⟩ (.int .i64 x1)).setCell ⟨w.heap.size, 4, none⟩ (.slice A2 L2 c2)) = wF
        obtain ⟨-, oF, bF⟩ := fill5 HE1.out hwF
        have eF : wF.heap[w.heap.size]? = some (.cells #[.int .i64 k1, .int .i64 n1, .string s1, .int .i64 x1, .slice A2 L2 c2] IV (0, 0)) := by
          rw [← hwF]
          have := set_heap (set_heap (set_heap (set_heap (set_heap HE1.out 0 (.int .i64 k1)) 1 (.int .i64 n1)) 2 (.string s1)) 3 (.int .i64 x1)) 4 (.slice A2 L2 c2)
          simpa using this
        go_roundg (L - j)
        case rel => exact ⟨j + 1, k1, n1, s1, x1, ks1, vs1, A2, L2, c2, by go_num, by omega, by omega, HG2, HL2, HT2, Lib.hid eF, Lib.hid ((oF _ (by omega)).trans HZ1.out), bF _ _ (Nat.le_refl _) HB1.out⟩
        case measure => omega
    · obtain rfl : j = L := by omega
      have hg := HG.out
      rw [show ys.drop j = [] from List.drop_eq_nil_of_le (Nat.le_of_eq HL.out)] at hg
      obtain ⟨rfl, rfl⟩ : .mk k n s x ks vs = Q ∧ true = b := by simpa [gp] using hg
      clear hg
      go_wp2_with (fail)
      generalize hwF : (((((wr.setCell ⟨w.heap.size + 1, 0, none⟩ (.int .i64 k)).setCell ⟨w.heap.size + 1, 1, none⟩ (.int .i64 n)).setCell ⟨w.heap.size + 1, 2, none⟩ (.string s)).setCell ⟨w.heap.size + 1, 3, none⟩ (.int .i64 x)).setCell ⟨w.heap.size + 1, 4, none⟩ (.slice A1 L1 c1)) = wF
      obtain ⟨rF, oF, bF⟩ := fill5 HZ.out hwF
      refine bodyPost_ret (v := .tuple #[vV k n s x A1 L1 c1, .bool true]) ?_ rfl ?_
      · simp [results, Tryz.results218, go_sem, rF]
      · have hbF := bF _ _ (by omega) HB.out
        exact ⟨_, rfl, HT.out.below' hbF, hbF⟩

end Go.Proofs.YtbgffmiffmmohaaGreatDoor.tree

/-
  The way along a path, of the project: the arrays with their keys in a row of the call's own, and what stands at the end.
  Conditions: at most 10^9 keys.
-/
namespace Go.Proofs.YtbgffmiffmmohaaGreatDoor.tree
open Go.ChangeShapes Go.WideShapes Go.ChangeAt Go.RowKit
set_option linter.unusedVariables false

abbrev PS : TypeId := 228
theorem psRow : (Tryz.prog.info? PS).map (fun i => (i.zero, i.size, i.bytes)) = some (some (.agg #[.int .i64 0, .int .i64 0, .string ⟨#[]⟩, .int .i64 0, .slice none 0 0, .bool false, .int .i64 0, .string ⟨#[]⟩]), 8, 96) := by kernel_rfl
theorem ps_info : ∃ i, Tryz.prog.info? PS = some i ∧ (i.zero = some (.agg #[.int .i64 0, .int .i64 0, .string ⟨#[]⟩, .int .i64 0, .slice none 0 0, .bool false, .int .i64 0, .string ⟨#[]⟩]) ∧ i.size = 8 ∧ i.bytes = 96) := by
  have := psRow
  cases hq : Tryz.prog.info? PS with
  | none => rw [hq] at this; cases this
  | some i => rw [hq] at this; simp at this; exact ⟨i, rfl, this⟩
/-- The eight cells of a step. -/
def psC (k n : Int) (s : ByteArray) (x : Int) (A : Option Addr) (L c : Nat) (y : Ky) : List Value := [.int .i64 k, .int .i64 n, .string s, .int .i64 x, .slice A L c, .bool y.text, .int .i64 y.num, .string y.str]
theorem psC_one (k n : Int) (s : ByteArray) (x : Int) (A : Option Addr) (L c : Nat) (y : Ky) : ∀ u ∈ psC k n s x A L c y, u.oneCell' = true := by simp [psC, Value.oneCell']
def PsX (w : World) (T : Nat → Prop) (xs : List Value) (l : List (Tr × Ky)) : Prop := ∀ (i : Nat) (p : Tr × Ky), l[i]? = some p → ∃ k n s x ks vs A c, p.1 = .mk k n s x ks vs ∧ (I64 p.2.num ∧ p.2.str.size ≤ maxLen) ∧ (∀ q, q < 8 → xs[i * 8 + q]? = (psC k n s x A vs.length c p.2)[q]?) ∧ TIn w T p.1 (vV k n s x A vs.length c)
/-- A row of steps of a call's own; what hangs on it lies in T. -/
def PsR (w : World) (lo : Nat) (T : Nat → Prop) (v : Value) (l : List (Tr × Ky)) : Prop := ∃ xs, w.ownsRow lo PS 8 v l.length xs ∧ PsX w T xs l
theorem PsR.own {w : World} {lo : Nat} {T : Nat → Prop} {v : Value} {l : List (Tr × Ky)} (h : PsR w lo T v l) : ∀ b, v.ownBlock = some b → lo ≤ b ∧ b < w.heap.size := by
  obtain ⟨xs, h1, -⟩ := h
  exact World.ownsRow.lt h1
theorem PsR.keep {w w' : World} {lo P : Nat} {S : Nat → Prop} {v : Value} {l : List (Tr × Ky)} (h : PsR w lo (fun b => S b ∧ b < P) v l) (hb : ∀ b, b < P → w'.heap[b]? = w.heap[b]?) (hv : ∀ b, v.ownBlock = some b → lo ≤ b → b < w.heap.size → w'.heap[b]? = w.heap[b]?) : PsR w' lo (fun b => S b ∧ b < P) v l := by
  obtain ⟨xs, h1, h2⟩ := h
  refine ⟨xs, ?_, fun i p hp => ?_⟩
  · obtain ⟨h3, h4⟩ := h1
    refine ⟨h3, ?_⟩
    rcases h4 with h4 | ⟨g, cap, cur, rfl, hlo, hg, h5⟩
    · exact .inl h4
    · exact .inr ⟨g, cap, cur, rfl, hlo, (hv g rfl hlo (Array.getElem?_eq_some_iff.1 hg).1).trans hg, h5⟩
  · obtain ⟨k, n, s, x, ks, vs, A, c, e1, e2, e3, e4⟩ := h2 i p hp
    exact ⟨k, n, s, x, ks, vs, A, c, e1, e2, e3, e4.own hb⟩
theorem PsR.snoc {w w' : World} {lo P : Nat} {S : Nat → Prop} {v' : Value} {l : List (Tr × Ky)} {xs : List Value} {k n : Int} {s : ByteArray} {x : Int} {ks : List Ky} {vs : List Tr} {A : Option Addr} {c : Nat} {y : Ky}
    (hx : PsX w (fun b => S b ∧ b < P) xs l) (hl : xs.length = l.length * 8) (hb : ∀ b, b < P → w'.heap[b]? = w.heap[b]?) (ho : w'.ownsRow lo PS 8 v' (l.length + 1) (xs ++ psC k n s x A vs.length c y)) (hy : I64 y.num ∧ y.str.size ≤ maxLen) (ht : TIn w' (fun b => S b ∧ b < P) (.mk k n s x ks vs) (vV k n s x A vs.length c)) : PsR w' lo (fun b => S b ∧ b < P) v' (l ++ [(.mk k n s x ks vs, y)]) := by
  refine ⟨_, by rw [List.length_append]; exact ho, fun i p hp => ?_⟩
  by_cases hi : i < l.length
  · rw [List.getElem?_append_left hi] at hp
    obtain ⟨k', n', s', x', ks', vs', A', c', e1, e2, e3, e4⟩ := hx i p hp
    exact ⟨k', n', s', x', ks', vs', A', c', e1, e2, fun q hq => by rw [List.getElem?_append_left (by omega)]; exact e3 q hq, e4.own hb⟩
  · have hi2 : i = l.length := by
      have := (List.getElem?_eq_some_iff.1 hp).1
      simp at this
      omega
    subst hi2
    simp at hp
    subst hp
    exact ⟨k, n, s, x, ks, vs, A, c, rfl, hy, fun q hq => by rw [List.getElem?_append_right (by omega), hl, Nat.add_sub_cancel_left], ht⟩
/-- The way so far, and what is left of it. -/
def preP (l : List (Tr × Ky)) : Option (List (Tr × Ky) × Tr) → Option (List (Tr × Ky) × Tr)
  | some (l2, e) => some (l ++ l2, e)
  | none => none
theorem preP_step {l : List (Tr × Ky)} {t : Tr} {y : Ky} {ys : List Ky} (h4 : knd (opn t) = 4) : preP l (stp t (y :: ys)) = preP (l ++ [(opn t, y)]) (stp (getR (opn t) y) ys) := by
  rw [stp_cons, if_pos h4]
  cases stp (getR (opn t) y) ys with
  | none => rfl
  | some p => obtain ⟨l2, e⟩ := p; show some _ = some _; rw [List.append_assoc]; rfl
theorem gp_one (t : Tr) (y : Ky) : (gp t [y]).1 = getR t y := by
  rw [gp_cons]
  by_cases hb : getB t y = true
  · rw [if_pos hb]; rfl
  · rw [if_neg hb, getR_none hb]

def StpQ (w : World) (S : Nat → Prop) (R : Option (List (Tr × Ky) × Tr)) (e : Ending) (w' : World) : Prop :=
  (R = none ∧ ∃ sl u, e = .returned (.tuple #[sl, vV 0 0 ⟨#[]⟩ 0 none 0 0, .bool false]) ∧ u = sl ∧ Below w.heap.size w w') ∨
  ∃ l t' sl u, R = some (l, t') ∧ e = .returned (.tuple #[sl, u, .bool true]) ∧ PsR w' (w.heap.size + 1 + 1) (fun b => S b ∧ b < w.heap.size) sl l ∧ TIn w' (fun b => S b ∧ b < w.heap.size) t' u ∧ Below w.heap.size w w'

set_option maxRecDepth 100000 in
set_option maxHeartbeats 4000000 in
theorem stepsAlong_i (t : Tr) (ys : List Ky) (v : Value) (A : Option Addr) (c : Nat) (w : World) (S : Nat → Prop) (h : TIn w S t v) (hk : KIn w ys A) (hm : ys.length ≤ 1000000000) : Calls Tryz.prog 181 #[v, .slice A ys.length c] w (StpQ w S (stp t ys)) := by
  obtain ⟨k, n, s, x, ks, vs⟩ := t
  obtain ⟨A0, c0, rfl, -, -⟩ := h.out
  obtain ⟨R, HR⟩ : ∃ R, Hid (stp (.mk k n s x ks vs) ys = R) := ⟨_, Lib.hid rfl⟩
  rw [HR.out]
  obtain ⟨L, HL⟩ : ∃ L, Hid (ys.length = L) := ⟨_, Lib.hid rfl⟩
  obtain ⟨L0, HL0⟩ : ∃ L, Hid (vs.length = L) := ⟨_, Lib.hid rfl⟩
  rw [HL.out] at hm ⊢
  rw [HL0.out] at h ⊢
  have HT := Lib.hid h.sub
  have HK := Lib.hid hk
  have HNU := Lib.hid nullValue_i
  obtain ⟨P, HP⟩ : ∃ P, Hid (P = w.heap.size) := ⟨_, Lib.hid rfl⟩
  obtain ⟨T, HTE⟩ : ∃ T : Nat → Prop, Hid (T = fun b => S b ∧ b < P) := ⟨_, Lib.hid rfl⟩
  have HT : Hid (TIn w T (.mk k n s x ks vs) (vV k n s x A0 L0 c0)) := Lib.hid (by rw [HTE.out, HP.out]; exact h.sub)
  obtain ⟨i0, hi, hz⟩ := ps_info
  have HII := Lib.hid hi
  have HZZ := Lib.hid hz
  obtain ⟨W0, HW0⟩ : ∃ W, Hid (W = (w.alloc (.cells #[.int .i64 k, .int .i64 n, .string s, .int .i64 x, .slice A0 L0 c0] IV)).alloc (.cells #[.int .i64 0, .int .i64 0, .string ⟨#[]⟩, .int .i64 0, .slice none 0 0] IV)) := ⟨_, Lib.hid rfl⟩
  have hWs : W0.heap.size = w.heap.size + 1 + 1 := by rw [HW0.out]; simp
  have hmk := run_make (P := Tryz.prog) W0 191 PS i0 _ Tryz.underlying191 hi hz.1 .i64 .i64 0 L (by omega) (by omega) (by rw [hz.2.2]; omega) (by omega)
  rw [hz.2.1] at hmk
  simp only [Int.toNat_natCast] at hmk
  obtain ⟨arr0, HA⟩ : ∃ a, Hid (a = madeCells (Value.agg #[.int .i64 0, .int .i64 0, .string ⟨#[]⟩, .int .i64 0, .slice none 0 0, .bool false, .int .i64 0, .string ⟨#[]⟩]).cells (L * 8)) := ⟨_, Lib.hid rfl⟩
  rw [← HA.out] at hmk
  rw [HW0.out] at hmk
  have HSZ0 : Hid (arr0.size = L * 8) := Lib.hid (by rw [HA.out, madeSize])
  clear h hk hi hz
  go_enter Tryz.func181, Tryz.ntmps181
  go_wp2_with (fail)
  rw [← HW0.out]
  have hE0 : W0.heap[w.heap.size]? = some (.cells #[.int .i64 k, .int .i64 n, .string s, .int .i64 x, .slice A0 L0 c0] IV (0, 0)) := by rw [HW0.out]; exact heap_alloc2_old w _ _
  have hZ0 : W0.heap[w.heap.size + 1]? = some (.cells #[.int .i64 0, .int .i64 0, .string ⟨#[]⟩, .int .i64 0, .slice none 0 0] IV (0, 0)) := by rw [HW0.out]; exact heap_alloc2_new w _ _
  have hB0 : Below w.heap.size w W0 := by rw [HW0.out]; exact b2 w _ _
  have HST : Hid (∃ sl, sl = Value.slice (some ⟨w.heap.size + 1 + 1, 0, none⟩) 0 L ∧ PsR (W0.alloc (.cells arr0 PS)) (w.heap.size + 1 + 1) T sl []) := Lib.hid (by
    refine ⟨_, rfl, [], ?_, fun i p hp => by simp at hp⟩
    refine ⟨rfl, .inr ⟨w.heap.size + 1 + 1, L, arr0, rfl, Nat.le_refl _, by rw [← hWs]; exact heap_alloc_new W0 _, Nat.zero_le _, by unfold maxLen; omega, HSZ0.out, rfl⟩⟩)
  have HE0 := Lib.hid (keepAlloc (o' := .cells arr0 PS) hE0)
  have HZ0 := Lib.hid (keepAlloc (o' := .cells arr0 PS) hZ0)
  have HB0 := Lib.hid (bs hB0 (b1 W0 (.cells arr0 PS)))
  clear hE0 hZ0 hB0 hmk hWs
  go_loopg [7, 17] (L + 1) (fun gk sl i wr => ∃ (j : Nat) (l0 : List (Tr × Ky)) (k n : Int) (s : ByteArray) (x : Int) (ks : List Ky) (vs : List Tr) (A1 : Option Addr) (L1 c1 : Nat), i = .int .i64 j ∧ gk + j = L + 1 ∧ j ≤ L ∧ Hid (l0.length = j) ∧ Hid (preP l0 (stp (.mk k n s x ks vs) (ys.drop j)) = R) ∧ Hid (vs.length = L1) ∧ Hid (TIn wr T (.mk k n s x ks vs) (vV k n s x A1 L1 c1)) ∧ Hid (PsR wr (w.heap.size + 1 + 1) T sl l0) ∧
    Hid (wr.heap[w.heap.size]? = some (.cells #[.int .i64 k, .int .i64 n, .string s, .int .i64 x, .slice A1 L1 c1] IV (0, 0))) ∧ Hid (wr.heap[w.heap.size + 1]? = some (.cells #[.int .i64 0, .int .i64 0, .string ⟨#[]⟩, .int .i64 0, .slice none 0 0] IV (0, 0))) ∧ Below w.heap.size w wr)
  case atStart =>
    obtain ⟨sl, hsl, hps⟩ := HST.out
    subst hsl
    refine ⟨0, [], k, n, s, x, ks, vs, A0, L0, c0, rfl, by omega, by omega, Lib.hid rfl, Lib.hid ?_, HL0, Lib.hid (HT.out.below' HB0.out), Lib.hid hps, HE0, HZ0, HB0.out⟩
    rw [List.drop_zero, HR.out]
    cases R with
    | none => rfl
    | some p => rfl
  case round =>
    clear HT HL0 HR HST HE0 HZ0 HB0
    obtain ⟨j, l0, k, n, s, x, ks, vs, A1, L1, c1, rfl, hgj, hjL, HL2, HG, HL1, HT, HPS, HE, HZ, hb⟩ := hrel
    have HB := Lib.hid hb
    clear hb
    by_cases hlt : j < L
    · obtain ⟨y, hy⟩ : ∃ y, ys[j]? = some y := ⟨_, List.getElem?_eq_getElem (by rw [HL.out]; exact hlt)⟩
      have hg := HG.out
      rw [drop_cons' hy] at hg
      obtain ⟨a, rfl, hyb, p0, p1, p2⟩ := HK.out.below HB.out j y hy
      have HYB := Lib.hid hyb
      obtain ⟨OT, HOT⟩ : ∃ OT, Hid (OT = opn (.mk k n s x ks vs)) := ⟨_, Lib.hid rfl⟩
      obtain ⟨hop1, hop2⟩ : (knd OT = 4 → ∀ w', Below wr.heap.size wr w' → Calls Tryz.prog 217 #[vV k n s x A1 L1 c1] w' (OutT w' OT true T)) ∧ (knd OT ≠ 4 → ∀ w', Below wr.heap.size wr w' → Calls Tryz.prog 217 #[vV k n s x A1 L1 c1] w' (OutT w' nullT false T)) := by
        rw [HOT.out]
        exact ⟨fun h w' hb => (opened_i _ _ w' T (HT.out.below' hb)).1 h, fun h w' hb => (opened_i _ _ w' T (HT.out.below' hb)).2 h⟩
      have e0 : ∀ o q, (wr.alloc o).cell? ⟨w.heap.size, q, none⟩ = _ := fun o q => (rowc (keepAlloc HE.out)).1 q
      by_cases h4 : knd OT = 4
      · have HOP := Lib.hid (hop1 h4)
        rw [preP_step (by rw [← HOT.out]; exact h4), ← HOT.out] at hg
        have HG2 := Lib.hid hg
        obtain ⟨K, N, Z, X, RK, RV⟩ := OT
        obtain ⟨RL, HRL⟩ : ∃ L, Hid (RV.length = L) := ⟨_, Lib.hid rfl⟩
        clear hop1 hop2 hg hy hyb
        obtain ⟨yb, yn, ys'⟩ := y
        simp only at p0 p1 p2
        go_wp2_with (fail)
        refine (HOP.out _ (b1 _ _)).mono ?_
        rintro e w1 ⟨u, rfl, hu, hb1⟩
        obtain ⟨Am, cm, rfl, -, -⟩ := hu.out
        rw [HRL.out] at hu ⊢
        have HU := Lib.hid hu
        have HB1 := Lib.hid (bs HB.out (bs (b1 _ _) hb1))
        have HBr := Lib.hid (bs (b1 _ _) hb1)
        have HKB := Lib.hid (carry hb1 (heap_alloc_new wr _))
        have HE1 := Lib.hid (carry (bs (b1 _ _) hb1) HE.out)
        have HZ1 := Lib.hid (carry (bs (b1 _ _) hb1) HZ.out)
        have hwr : wr.heap.size < w1.heap.size := (Array.getElem?_eq_some_iff.1 HKB.out).1
        obtain ⟨W2, HW2⟩ : ∃ W, Hid (W = w1.alloc (.cells #[.int .i64 K, .int .i64 N, .string Z, .int .i64 X, .slice Am RL cm] IV)) := ⟨_, Lib.hid rfl⟩
        have hW2s : W2.heap.size = w1.heap.size + 1 := by rw [HW2.out]; simp
        have HAB : Hid (W2.heap[w1.heap.size]? = some (.cells #[.int .i64 K, .int .i64 N, .string Z, .int .i64 X, .slice Am RL cm] IV (0, 0))) := Lib.hid (by rw [HW2.out]; exact heap_alloc_new w1 _)
        have HKB2 : Hid (W2.heap[wr.heap.size]? = some (.cells #[.bool yb, .int .i64 yn, .string ys'] IK (0, 0))) := Lib.hid (by rw [HW2.out]; exact keepAlloc HKB.out)
        obtain ⟨rk, fk⟩ := rowc HKB.out
        have rk2 : ∀ o q, (w1.alloc o).cell? ⟨wr.heap.size, q, none⟩ = _ := fun o q => (rowc (keepAlloc HKB.out)).1 q
        have HB2 : Hid (Below w.heap.size w W2) := Lib.hid (by rw [HW2.out]; exact bs HB1.out (b1 _ _))
        have HB12 : Hid (Below w1.heap.size w1 W2) := Lib.hid (by rw [HW2.out]; exact b1 _ _)
        have HE2 := Lib.hid (carry HB12.out HE1.out)
        have HZ2 := Lib.hid (carry HB12.out HZ1.out)
        have HBr2 : Hid (Below wr.heap.size wr W2) := Lib.hid (by rw [HW2.out]; exact bs HBr.out (b1 _ _))
        obtain ⟨xs, hown, hpx⟩ := HPS.out
        have HPX := Lib.hid hpx
        have HXL := Lib.hid hown.1
        have hlow : ∀ b, u7.ownBlock = some b → w.heap.size + 1 + 1 ≤ b ∧ b < wr.heap.size := HPS.out.own
        have HLOW := Lib.hid hlow
        have HOWN : Hid (∀ o, (W2.alloc o).ownsRow (w.heap.size + 1 + 1) PS 8 u7 l0.length xs) := Lib.hid (fun o => World.ownsRow.kept hown (mem.none_of_below (bs HBr2.out (b1 _ _))) ownBlock_keep)
        have HNEW : Hid (∀ q u, (psC K N Z X Am RL cm ⟨yb, yn, ys'⟩)[q]? = some u → (W2.alloc (.cells #[.int .i64 K, .int .i64 N, .string Z, .int .i64 X, .slice Am RL cm, .bool yb, .int .i64 yn, .string ys'] PS)).cell? ((⟨W2.heap.size, 0, none⟩ : Addr).add q) = some u) := Lib.hid (eight_new W2 _ _ _ _ _ _ _ _ _)
        have hle : W2.heap.size = w1.heap.size + 1 := hW2s
        have hlj := HL2.out
        clear hu hb1 p0 p1 p2 e0 hown hpx hlow
        go_wp2_with (first
          | (at_builtin; rw [← HW2.out]; rw [← hle]; refine wpList_append_own _ rfl _ _ 191 rfl (w.heap.size + 1 + 1) PS i0 _ 8 96 Tryz.underlying191 HII.out HZZ.out.1 HZZ.out.2.1 HZZ.out.2.2 rfl (by decide) u7 l0.length xs rfl (HOWN.out _) ⟨W2.heap.size, 0, none⟩ 1 1 (psC K N Z X Am RL cm ⟨yb, yn, ys'⟩) rfl rfl HNEW.out (psC_one _ _ _ _ _ _ _ _) (by unfold maxLen; omega) (by omega) (by have := HB2.out.size; have := HZ1.out; have := (Array.getElem?_eq_some_iff.1 HZ1.out).1; simp; omega) ?_
             intro v' w5 hown' hgrow' hnil
             have HO5 := Lib.hid hown'
             have HG5 := Lib.hid hgrow'
             have hlo5 : ∀ q, (∀ b, w.heap.size + 1 + 1 ≤ b → b < wr.heap.size → b ≠ q) → q < W2.heap.size → w5.heap[q]? = W2.heap[q]? := fun q hq hl => (HG5.out.block q (by simp; omega) (fun e => hq q (HLOW.out q e.symm).1 (HLOW.out q e.symm).2 rfl)).trans ((b1 W2 _).block q hl)
             have K5 := Lib.hid ((hlo5 wr.heap.size (fun b _ h2 => by omega) (by omega)).trans HKB2.out)
             have A5 := Lib.hid ((hlo5 w1.heap.size (fun b _ h2 => by omega) (by omega)).trans HAB.out)
             have E5 := Lib.hid ((hlo5 w.heap.size (fun b h1 _ => by omega) (by have := (Array.getElem?_eq_some_iff.1 HE1.out).1; omega)).trans HE2.out)
             have Z5 := Lib.hid ((hlo5 (w.heap.size + 1) (fun b h1 _ => by omega) (by have := (Array.getElem?_eq_some_iff.1 HZ1.out).1; omega)).trans HZ2.out)
             have HLO5 := Lib.hid hlo5
             have HS5 : Hid (W2.heap.size ≤ w5.heap.size) := Lib.hid (by have := HG5.out.size; simp at this; omega)
             obtain ⟨ra5, fa5⟩ := rowc A5.out
             obtain ⟨rk5, fk5⟩ := rowc K5.out
             clear hown' hgrow' hnil hlo5)
          | fail)
        have HB5 : Hid (Below w.heap.size w w5) := Lib.hid (grown_below' (HB2.out.alloc HB2.out.size _) HG5.out (by have := HB2.out.size; simp; omega) (fun b hb => by have := (HLOW.out b hb).1; omega))
        have HU5 : Hid (TIn w5 T (.mk K N Z X RK RV) (vV K N Z X Am RL cm)) := Lib.hid (by
          rw [HTE.out]
          refine TIn.own (w := w1) (by rw [← HTE.out]; exact HU.out) fun b hb => ?_
          have hP := HP.out
          have h1 := HB.out.size
          rw [HLO5.out b (fun q h1 _ => by omega) (by omega), HW2.out]
          exact (b1 w1 _).block b (by omega))
        have VA := valueAt_i (.mk K N Z X RK RV) [⟨yb, yn, ys'⟩] (vV K N Z X Am RL cm) (some ⟨w5.heap.size, 0, none⟩) 1 (w5.alloc (.cells #[.bool yb, .int .i64 yn, .string ys'] IK)) T (HU5.out.below' (b1 _ _)) (fun i z hz => by
          match i, hz with
          | 0, hz =>
            obtain rfl : (⟨yb, yn, ys'⟩ : Ky) = z := by simpa using hz
            have hr := (rowc (heap_alloc_new w5 (.cells #[.bool yb, .int .i64 yn, .string ys'] IK))).1
            exact ⟨_, rfl, HYB.out, hr 0, hr 1, hr 2⟩
          | i + 1, hz => simp at hz) (by simp [maxLen])
        rw [gp_one] at VA
        obtain ⟨G2, HG2'⟩ : ∃ G, Hid (G = getR (.mk K N Z X RK RV) ⟨yb, yn, ys'⟩) := ⟨_, Lib.hid rfl⟩
        rw [← HG2'.out] at VA
        have HVA := Lib.hid VA
        obtain ⟨K2, N2, Z2, X2, RK2, RV2⟩ := G2
        obtain ⟨RL2, HRL2⟩ : ∃ L, Hid (RV2.length = L) := ⟨_, Lib.hid rfl⟩
        clear VA ra5 fa5 rk5 fk5 hlj hle hW2s rk fk rk2 hwr
        refine HVA.out.mono ?_
        rintro e w6 ⟨u, rfl, hu, hb6⟩
        obtain ⟨A2, c2, rfl, -, -⟩ := hu.out
        rw [HRL2.out] at hu ⊢
        have HU6 := Lib.hid hu
        have HB6 := Lib.hid (bs HB5.out (bs (b1 w5 _) hb6))
        have HB56 := Lib.hid (bs (b1 w5 _) hb6)
        have HE6 := Lib.hid (carry HB56.out E5.out)
        have HZ6 := Lib.hid (carry HB56.out Z5.out)
        obtain ⟨r6, f6⟩ := rowc HE6.out
        clear hu hb6
        go_wp2_with (fail)
        generalize hwF : (((((w6.setCell ⟨w.heap.size, 0, none⟩ (.int .i64 K2)).setCell ⟨w.heap.size, 1, none⟩ (.int .i64 N2)).setCell ⟨w.heap.size, 2, none⟩ (.string Z2)).setCell ⟨w.heap.size, 3, none⟩ (.int .i64 X2)).setCell ⟨w.heap.size, 4, none⟩ (.slice A2 RL2 c2)) = wF
        obtain ⟨-, oF, bF⟩ := fill5 HE6.out hwF
        have eF : wF.heap[w.heap.size]? = some (.cells #[.int .i64 K2, .int .i64 N2, .string Z2, .int .i64 X2, .slice A2 RL2 c2] IV (0, 0)) := by
          rw [← hwF]
          have := set_heap (set_heap (set_heap (set_heap (set_heap HE6.out 0 (.int .i64 K2)) 1 (.int .i64 N2)) 2 (.string Z2)) 3 (.int .i64 X2)) 4 (.slice A2 RL2 c2)
          simpa using this
        have HOF := Lib.hid oF
        have hP := HP.out
        go_roundg (L - j)
        case rel =>
          refine ⟨j + 1, l0 ++ [(.mk K N Z X RK RV, ⟨yb, yn, ys'⟩)], K2, N2, Z2, X2, RK2, RV2, A2, RL2, c2, by go_num, by omega, by omega, Lib.hid (by rw [List.length_append, HL2.out]; rfl), Lib.hid (by rw [HG2'.out]; exact HG2.out), HRL2, Lib.hid ?_, Lib.hid ?_, Lib.hid eF, Lib.hid ((oF _ (by omega)).trans HZ6.out), bF _ _ (Nat.le_refl _) HB6.out⟩
          · rw [HTE.out]
            exact TIn.own (w := w6) (by rw [← HTE.out]; exact HU6.out) fun b hb => oF b (by omega)
          · rw [HTE.out]
            have h5 : PsR w5 (w.heap.size + 1 + 1) (fun b => S b ∧ b < P) v' (l0 ++ [(.mk K N Z X RK RV, ⟨yb, yn, ys'⟩)]) := by
              have hox := HO5.out
              refine PsR.snoc (w := wr) (xs := xs) (by rw [← HTE.out]; exact HPX.out) (by rw [HXL.out]) (fun b hb => ?_) (by rw [HRL.out]; exact hox) HYB.out (by rw [← HTE.out, HRL.out]; exact HU5.out)
              have h1 := HB.out.size
              have h2 := HBr2.out.size
              rw [HLO5.out b (fun q h1 _ => by omega) (by omega)]
              exact HBr2.out.block b (by omega)
            refine h5.keep (fun b hb => ?_) (fun b _ h1 h2 => ?_)
            · rw [oF b (by omega)]
              have h1 := HB5.out.size
              exact HB56.out.block b (by omega)
            · rw [oF b (by omega)]
              exact HB56.out.block b h2
        case measure => omega
      · have HOP := Lib.hid (hop2 h4)
        rw [stp_cons, if_neg (by rw [← HOT.out]; exact h4)] at hg
        obtain rfl : none = R := hg
        clear hop1 hop2 hy hyb
        obtain ⟨yb, yn, ys'⟩ := y
        simp only at p0 p1 p2
        go_wp2_with (fail)
        refine (HOP.out _ (b1 _ _)).mono ?_
        rintro e w1 ⟨u, rfl, hu, hb1⟩
        obtain ⟨Am, cm, rfl, -, -⟩ := hu.out
        have HB1 := Lib.hid (bs HB.out (bs (b1 _ _) hb1))
        have HZ1 := Lib.hid (carry (bs (b1 _ _) hb1) HZ.out)
        clear hu hb1 p0 p1 p2 e0
        go_wp2_with (fail)
        refine (HNU.out _).mono ?_
        rintro e w2 ⟨rfl, hb2⟩
        have HB2 := Lib.hid (bs HB1.out (bs (b1 _ _) hb2))
        have HZ2 := Lib.hid (carry (bs (b1 _ _) hb2) HZ1.out)
        obtain ⟨r2, g2⟩ := rowc HZ2.out
        clear hb2
        go_wp2_with (fail)
        generalize hwF : (((((w2.setCell ⟨w.heap.size + 1, 0, none⟩ (.int .i64 0)).setCell ⟨w.heap.size + 1, 1, none⟩ (.int .i64 0)).setCell ⟨w.heap.size + 1, 2, none⟩ (.string ⟨#[]⟩)).setCell ⟨w.heap.size + 1, 3, none⟩ (.int .i64 0)).setCell ⟨w.heap.size + 1, 4, none⟩ (.slice none 0 0)) = wF
        obtain ⟨rF, -, bF⟩ := fill5 HZ2.out hwF
        refine bodyPost_ret (v := .tuple #[.slice none 0 0, vV 0 0 ⟨#[]⟩ 0 none 0 0, .bool false]) ?_ rfl ?_
        · simp [results, Tryz.results181, go_sem, rF]
        · exact .inl ⟨rfl, _, _, rfl, rfl, bF _ _ (by omega) HB2.out⟩
    · obtain rfl : j = L := by omega
      have hg := HG.out
      rw [show ys.drop j = [] from List.drop_eq_nil_of_le (Nat.le_of_eq HL.out)] at hg
      have hg2 : some (l0, Tr.mk k n s x ks vs) = R := by rw [← hg]; show _ = some (l0 ++ [], _); rw [List.append_nil]
      subst hg2
      obtain ⟨e0, f0⟩ := rowc HE.out
      obtain ⟨ez, fz⟩ := rowc HZ.out
      clear hg
      go_wp2_with (fail)
      go_region
      go_wp2_with (fail)
      generalize hwF : (((((wr.setCell ⟨w.heap.size + 1, 0, none⟩ (.int .i64 k)).setCell ⟨w.heap.size + 1, 1, none⟩ (.int .i64 n)).setCell ⟨w.heap.size + 1, 2, none⟩ (.string s)).setCell ⟨w.heap.size + 1, 3, none⟩ (.int .i64 x)).setCell ⟨w.heap.size + 1, 4, none⟩ (.slice A1 L1 c1)) = wF
      obtain ⟨rF, oF, bF⟩ := fill5 HZ.out hwF
      have rF2 : ∀ q, wF.drew.cell? ⟨w.heap.size + 1, q, none⟩ = _ := rF
      have oF2 : ∀ q, q ≠ w.heap.size + 1 → wF.drew.heap[q]? = wr.heap[q]? := oF
      have hBF := (bF w.heap.size w (by omega) HB.out).drew
      have hP := HP.out
      clear rF oF bF hwF
      generalize wF.drew = wG at *
      refine bodyPost_ret (v := .tuple #[u7, vV k n s x A1 L1 c1, .bool true]) ?_ rfl ?_
      · simp [results, Tryz.results181, go_sem, rF2]
      · refine .inr ⟨l0, .mk k n s x ks vs, u7, _, rfl, rfl, ?_, ?_, hBF⟩
        · have := HPS.out
          rw [HTE.out, HP.out] at this
          exact this.keep (fun b hb => oF2 b (by omega)) (fun b _ h1 _ => oF2 b (by omega))
        · have := HT.out
          rw [HTE.out, HP.out] at this
          exact TIn.own this fun b hb => oF2 b (by omega)

end Go.Proofs.YtbgffmiffmmohaaGreatDoor.tree

/-
  slices.Backward over a row of steps: its contract as an iterator, for every loop body that keeps what lay below a place.
  Conditions: those that each theorem names.
-/
namespace Go.Proofs.YtbgffmiffmmohaaGreatDoor.tree
open Go.ChangeShapes Go.WideShapes Go.ChangeAt Go.RowKit Go.Shelf
set_option linter.unusedVariables false
attribute [local go_sem] Oper.semAt_some

/-- What has come when k rounds are over. -/
def upto {α : Type} (f : Nat → α) (k : Nat) : List α := (List.range k).map f
theorem upto_succ {α : Type} (f : Nat → α) (k : Nat) : upto f (k + 1) = upto f k ++ [f k] := by simp [upto, List.range_succ]
theorem upto_length {α : Type} (f : Nat → α) (k : Nat) : (upto f k).length = k := by simp [upto]

/-- What lay below n₀ lies as it lay, and so does the variable in block B. -/
def KpB (n₀ B : Nat) (W W' : World) : Prop := Below n₀ W W' ∧ ∀ cs t fr, W.heap[B]? = some (.cells cs t fr) → W'.heap[B]? = W.heap[B]?
theorem KpB.refl (n₀ B : Nat) (W : World) : KpB n₀ B W W := ⟨Below.refl _ _, fun _ _ _ _ => rfl⟩
theorem kpB_t {n₀ B : Nat} {A C D : World} (h : KpB n₀ B A C) (k : KpB n₀ B C D) : KpB n₀ B A D := ⟨h.1.trans k.1, fun cs t fr e => (k.2 cs t fr ((h.2 cs t fr e).trans e)).trans (h.2 cs t fr e)⟩
theorem kpB_b {n₀ B : Nat} {w : World} (hn : n₀ ≤ w.heap.size) (W : World) (l : Nat) (o o' : Obj) (hl : w.heap.size ≤ l) (h : W.heap[l]? = some o) (hc : o.isCells = false) (hk : o.isWalk = false) : KpB n₀ B W (W.putObj l o') :=
  ⟨belowK_b hn W l o o' hl h hc hk, fun cs t fr e => World.putObj_heap_other (fun eq => by rw [← eq, e] at h; cases h; cases hc)⟩
theorem KpB.box {n₀ B : Nat} {W W' : World} (h : KpB n₀ B W W') {cs : Array Value} {t : TypeId} (e : W.heap[B]? = some (.cells cs t (0, 0))) : W'.heap[B]? = some (.cells cs t (0, 0)) := (h.2 _ _ _ e).trans e

section
variable {α : Type}
set_option maxRecDepth 100000 in
set_option maxHeartbeats 2000000 in
theorem bwd1_in (encs : α → Array Value) (idx : α → Int) (cl : α → List Value) (hcl : ∀ x, (cl x).length = 8) (hencs : ∀ x, encs x = #[.int .i64 (idx x), .agg (cl x).toArray])
    (F : Fence) (n : Nat) (h7 : F.fn 234) (hro : F.round = none) (hn : 1 ≤ n) (l Bs n₀ b len cap : Nat) (f : Nat → α) (hreach : len ≤ 1000000000) (hb : b < n₀) (hf : ∀ j, j < len → idx (f j) = ((len - 1 - j : Nat) : Int)) (J Jx : List α → World → Prop)
    (hY : ∀ pre x W, J pre W → pre.length < len → YieldAt F (n - 1) Tryz.prog l (encs x) W fun e W' =>
      (e = .returned (.bool true) ∧ J (pre ++ [x]) W' ∧ KpB n₀ Bs W W') ∨ (e = .returned (.bool false) ∧ Jx (pre ++ [x]) W'))
    (W : World) (hBs : W.heap[Bs]? = some (.cells #[.slice (some ⟨b, 0, none⟩) len cap] 191 (0, 0))) (hc : ∀ j, j < len → ∀ q, q < 8 → W.cell? ⟨b, (len - 1 - j) * 8 + q, none⟩ = (cl (f j))[q]?) (h0 : J [] W) :
    CallsIn F n Tryz.prog 234 #[.func (.yield l) #[] #[], .pointer (some ⟨Bs, 0, none⟩)] W fun e W' => (∃ v, e = .returned v) ∧
      ((∃ ys, ys = upto f len ∧ J ys W') ∨ (∃ pre, (∃ k, k ≤ len ∧ pre = upto f k) ∧ Jx pre W')) := by
  refine callsIn_of_wp Tryz.func234 rfl h7 ?_ hro
  simp only [Tryz.ntmps234, List.size_toArray, List.length_cons, List.length_nil, Nat.reduceAdd, Nat.reduceSub, Array.replicate_succ, Array.replicate_zero, List.push_toArray, List.append_toArray, List.nil_append, List.cons_append]
  have hBs0 : W.cell? ⟨Bs, 0, none⟩ = some (.slice (some ⟨b, 0, none⟩) len cap) := (rowc hBs).1 0
  gi_wp2
  gi_loopw [3] (fun i wr => ∃ k m : Nat, k + m = len ∧ i = .int .i64 ((m : Int) - 1) ∧ J (upto f k) wr ∧ KpB n₀ Bs W wr)
    (fun i _ => (intOf i + 1).toNat)
  case atStart => exact ⟨0, len, by omega, rfl, h0, KpB.refl _ _ _⟩
  case round =>
    obtain ⟨k, m, hk, rfl, hJs, hnx⟩ := hrel
    have hBs' : wr.cell? ⟨Bs, 0, none⟩ = some (.slice (some ⟨b, 0, none⟩) len cap) := (rowc (hnx.box hBs)).1 0
    cases m with
    | zero =>
      obtain rfl : k = len := by omega
      gi_wp2
      go_end0
      exact ⟨⟨_, rfl⟩, .inl ⟨_, rfl, hJs⟩⟩
    | succ m =>
      have hkl : k < len := by omega
      have e1 : ((m + 1 : Nat) : Int) - 1 = m := by omega
      rw [e1]
      have hcx : ∀ q, q < 8 → wr.cell? ⟨b, m * 8 + q, none⟩ = (cl (f k))[q]? := fun q hq => by
        have := hc k hkl q hq
        rw [show len - 1 - k = m by omega] at this
        exact (hnx.1.cell (p := ⟨b, m * 8 + q, none⟩) hb).trans this
      obtain ⟨fn, tmps, assign, body, hy, hR⟩ := hY _ (f k) wr hJs (by rw [upto_length]; exact hkl)
      rw [hencs, hf k hkl, show len - 1 - k = m by omega] at hy
      have hl8 := hcl (f k)
      match hcs : cl (f k), hl8 with
      | [d0, d1, d2, d3, d4, d5, d6, d7], _ =>
        rw [hcs] at hy hcx
        have p0 := hcx 0 (by omega)
        have p1 := hcx 1 (by omega)
        have p2 := hcx 2 (by omega)
        have p3 := hcx 3 (by omega)
        have p4 := hcx 4 (by omega)
        have p5 := hcx 5 (by omega)
        have p6 := hcx 6 (by omega)
        have p7 := hcx 7 (by omega)
        simp only [Nat.add_zero, List.getElem?_cons_zero, List.getElem?_cons_succ] at p0 p1 p2 p3 p4 p5 p6 p7
        clear hcx hc
        gi_wp2
        refine hR.mono ?_
        rintro e W3 (⟨rfl, hJ3, hk3⟩ | ⟨rfl, hJx3⟩)
        · gi_wp2
          go_roundw
          case rel => exact ⟨k + 1, m, by omega, by simp, by rw [upto_succ]; exact hJ3, kpB_t hnx hk3⟩
          case measure => first | (simp [intOf]; done) | (simp [intOf]; omega)
        · gi_wp2
          refine bodyPost_ret (results_none rfl _ _ _) rfl ?_
          exact ⟨⟨_, rfl⟩, .inr ⟨_, ⟨k + 1, by omega, (upto_succ _ _).symm⟩, hJx3⟩⟩
set_option maxRecDepth 100000 in
set_option maxHeartbeats 1000000 in
theorem bwd1_nil_in (F : Fence) (n : Nat) (h7 : F.fn 234) (hro : F.round = none) (l Bs : Nat) (J : List α → World → Prop) (W : World) (hBs : W.cell? ⟨Bs, 0, none⟩ = some (.slice none 0 0)) (h0 : J [] W) :
    CallsIn F n Tryz.prog 234 #[.func (.yield l) #[] #[], .pointer (some ⟨Bs, 0, none⟩)] W fun e W' => (∃ v, e = .returned v) ∧ J [] W' := by
  refine callsIn_of_wp Tryz.func234 rfl h7 ?_ hro
  simp only [Tryz.ntmps234, List.size_toArray, List.length_cons, List.length_nil, Nat.reduceAdd, Nat.reduceSub, Array.replicate_succ, Array.replicate_zero, List.push_toArray, List.append_toArray, List.nil_append, List.cons_append]
  gi_wp2
  gi_loopw [3] (fun i wr => i = .int .i64 (-1) ∧ J [] wr) (fun _ _ => 0)
  case atStart => exact ⟨rfl, h0⟩
  case round =>
    obtain ⟨rfl, hJs⟩ := hrel
    gi_wp2
    go_end0
    exact ⟨⟨_, rfl⟩, hJs⟩
set_option maxHeartbeats 1000000 in
theorem bwd_in (F : Fence) (n : Nat) (h5 : F.fn 220) (hro : F.round = none) (a : Option Addr) (len cap : Nat) (w : World) :
    CallsIn F n Tryz.prog 220 #[.slice a len cap] w fun e w' => e = .returned (.func (.func 234) #[] #[.pointer (some ⟨w.heap.size, 0, none⟩)]) ∧ w' = w.alloc (.cells #[.slice a len cap] 191) := by
  refine callsIn_of_wp Tryz.func220 rfl h5 ?_ hro
  simp only [Tryz.ntmps220, List.size_toArray, List.length_cons, List.length_nil, Nat.reduceAdd, Nat.reduceSub, Array.replicate_succ, Array.replicate_zero, List.push_toArray, List.append_toArray, List.nil_append, List.cons_append]
  gi_wp2
  go_ret
  exact ⟨rfl, rfl⟩

/-- A row of items that lies in a block below n₀, or none. -/
def BwR (cl : α → List Value) (f : Nat → α) (n₀ : Nat) (W : World) (sv : Value) (len : Nat) : Prop :=
  (sv = .slice none 0 0 ∧ len = 0) ∨ ∃ b cap, sv = .slice (some ⟨b, 0, none⟩) len cap ∧ b < n₀ ∧ ∀ j, j < len → ∀ q, q < 8 → W.cell? ⟨b, (len - 1 - j) * 8 + q, none⟩ = (cl (f j))[q]?
theorem BwR.below {cl : α → List Value} {f : Nat → α} {n₀ : Nat} {A B : World} (h : Below n₀ A B) {sv : Value} {len : Nat} : BwR cl f n₀ A sv len → BwR cl f n₀ B sv len
  | .inl e => .inl e
  | .inr ⟨b, cap, e, hb, hc⟩ => .inr ⟨b, cap, e, hb, fun j hj q hq => (h.cell (p := ⟨b, (len - 1 - j) * 8 + q, none⟩) hb).trans (hc j hj q hq)⟩
theorem bwd_stops (encs : α → Array Value) (idx : α → Int) (cl : α → List Value) (hcl : ∀ x, (cl x).length = 8) (hencs : ∀ x, encs x = #[.int .i64 (idx x), .agg (cl x).toArray])
    (F : Fence) (n : Nat) (h7 : F.fn 234) (hro : F.round = none) (hn : 1 ≤ n) (Bs n₀ : Nat) (sv : Value) (len : Nat) (f : Nat → α) (hreach : len ≤ 1000000000) (hf : ∀ j, j < len → idx (f j) = ((len - 1 - j : Nat) : Int)) (w : World) (hn₀ : n₀ ≤ w.heap.size)
    (hc : w.heap[Bs]? = some (.cells #[sv] 191 (0, 0))) (hI : BwR cl f n₀ w sv len) :
    SeqStopsK F n Tryz.prog 234 #[.pointer (some ⟨Bs, 0, none⟩)] encs (KpB n₀ Bs) (fun ys => ys = upto f len) (fun pre => ∃ k, k ≤ len ∧ pre = upto f k) len w := fun l J Jx W hW _ _ hY h0 => by
  have hc' := (hW.block Bs (Array.getElem?_eq_some_iff.1 hc).1).trans hc
  rcases hI.below (hW.mono hn₀) with ⟨rfl, rfl⟩ | ⟨b, cap, rfl, hb, hcs⟩
  · exact (bwd1_nil_in F n h7 hro l Bs J W ((rowc hc').1 0) h0).mono fun e W' ⟨he, hj⟩ => ⟨he, .inl ⟨_, rfl, hj⟩⟩
  · exact bwd1_in encs idx cl hcl hencs F n h7 hro hn l Bs n₀ b len cap f hreach hb hf J Jx hY W hc' hcs h0
end

end Go.Proofs.YtbgffmiffmmohaaGreatDoor.tree

/-
  The way back along a path, of the project: a range over slices.Backward.
  Conditions: at most 10^9 steps; each array holds at most 2^20 and two items; new integer keys lie within the integers that the document names.
-/
namespace Go.Proofs.YtbgffmiffmmohaaGreatDoor.tree
open Go.ChangeShapes Go.WideShapes Go.ChangeAt Go.RowKit Go.Shelf
set_option linter.unusedVariables false
attribute [local go_sem] Oper.semAt_some

/-- What a step of the way is. -/
def StOk (w0 : World) (q : Int × (Tr × Ky) × List Value) : Prop := ∃ n s x ks vs A c, q.2.1.1 = .mk 4 n s x ks vs ∧ (I64 q.2.1.2.num ∧ q.2.1.2.str.size ≤ maxLen) ∧ q.2.2 = psC 4 n s x A vs.length c q.2.1.2 ∧ TIn w0 (Nw 0 w0) (.mk 4 n s x ks vs) (vV 4 n s x A vs.length c) ∧ cnt (.mk 4 n s x ks vs) ≤ 1048578 ∧ (posV (.mk 4 n s x ks vs) q.2.1.2 = -1 → q.2.1.2.text = false → -1000000000 ≤ q.2.1.2.num ∧ q.2.1.2.num ≤ 1000000000)
abbrev StA (w0 : World) := { q : Int × (Tr × Ky) × List Value // StOk w0 q }
theorem stOk_dummy (w0 : World) : StOk w0 (0, (arrT, ⟨false, 0, ⟨#[]⟩⟩), psC 4 0 ⟨#[]⟩ 0 none 0 0 ⟨false, 0, ⟨#[]⟩⟩) :=
  ⟨0, ⟨#[]⟩, 0, [], [], none, 0, rfl, ⟨by unfold I64; simp, Nat.zero_le _⟩, rfl, flat ⟨by unfold I64; omega, by unfold I64; omega, by unfold I64; omega, Nat.zero_le _⟩ _ _ none 0 (Nat.zero_le _), by rw [cnt_mk', cnts_nil]; omega, fun _ _ => by simp⟩
def enS {w0 : World} (x : StA w0) : Array Value := #[.int .i64 x.1.1, .agg x.1.2.2.toArray]
def fw {w0 : World} (pre : List (StA w0)) (u : Tr) : Tr := pre.foldl (fun t x => setT x.1.2.1.1 x.1.2.1.2 t) u
theorem fw_snoc {w0 : World} (pre : List (StA w0)) (x : StA w0) (u : Tr) : fw (pre ++ [x]) u = setT x.1.2.1.1 x.1.2.1.2 (fw pre u) := by
  unfold fw
  rw [List.foldl_append]
  rfl
theorem len8 {w0 : World} (x : StA w0) : x.1.2.2.length = 8 := by
  obtain ⟨n, s, y, ks, vs, A, c, -, -, e, -⟩ := x.2
  rw [e]
  rfl
/-- The steps in the order in which they come, the last one first. -/
theorem fw_upto {w0 : World} (l : List (Tr × Ky)) (f : Nat → StA w0) (u : Tr) (hf : ∀ j, j < l.length → l[l.length - 1 - j]? = some (f j).1.2.1) : fw (upto f l.length) u = rew l u := by
  have key : ∀ k, k ≤ l.length → fw (upto f k) u = rew (l.drop (l.length - k)) u := by
    intro k
    induction k with
    | zero => intro _; rw [Nat.sub_zero, List.drop_length]; rfl
    | succ k ih =>
      intro hk
      rw [upto_succ, fw_snoc, ih (by omega)]
      have h := hf k (by omega)
      obtain ⟨h1, h2⟩ := List.getElem?_eq_some_iff.1 h
      have e : l.length - (k + 1) = l.length - 1 - k := by omega
      rw [e, List.drop_eq_getElem_cons h1, h2, rew_cons, show l.length - 1 - k + 1 = l.length - k by omega]
  have := key l.length (Nat.le_refl _)
  rwa [Nat.sub_self, List.drop_zero] at this

/-- What the loop's own variables hold between two rounds. -/
def RwI (w0 : World) (P : Nat) (u : Tr) (pre : List (StA w0)) (W : World) : Prop :=
  ∃ K N Z X RK RV A L c, fw pre u = .mk K N Z X RK RV ∧ RV.length = L ∧ W.heap[P]? = some (.cells #[.int .i64 K, .int .i64 N, .string Z, .int .i64 X, .slice A L c] IV (0, 0)) ∧ TIn W (fun b => Nw 0 W b ∧ b ≠ P ∧ b ≠ P + 1) (.mk K N Z X RK RV) (vV K N Z X A L c) ∧
    W.heap[P + 1]? = some (.cells #[.int .i64 0, .int .i64 0, .string ⟨#[]⟩, .int .i64 0, .slice none 0 0] IV (0, 0))
theorem cells_own {A B : World} {row : Option Nat} (hg : A.grownBy B row) (hr : ∀ r, row = some r → ∃ o : Obj, A.heap[r]? = some o ∧ o.isCells = false) {q : Nat} {cs : Array Value} {t : TypeId} {fr : Nat × Nat} (h : A.heap[q]? = some (.cells cs t fr)) : B.heap[q]? = some (.cells cs t fr) :=
  (hg.block q (Array.getElem?_eq_some_iff.1 h).1 (fun e => by
    obtain ⟨o, h1, h2⟩ := hr q e.symm
    rw [h] at h1
    cases h1
    cases h2)).trans h
theorem rwI_own (w0 : World) (P : Nat) (u : Tr) : Own (RwI w0 P u) := fun pre A B row hs hg hr => by
  obtain ⟨K, N, Z, X, RK, RV, A1, L, c, h1, h2, h3, h4, h5⟩ := hs
  have pl : ∀ b, Nw 0 A b → B.heap[b]? = A.heap[b]? := fun b ⟨_, cs, t, hc⟩ => (cells_own hg hr hc).trans hc.symm
  exact ⟨K, N, Z, X, RK, RV, A1, L, c, h1, h2, cells_own hg hr h3, h4.stays (fun b hb => ⟨hb.1.keep (Nat.le_refl _) (pl b hb.1), hb.2⟩) (fun b hb _ => pl b hb.1), cells_own hg hr h5⟩

set_option maxRecDepth 100000 in
set_option maxHeartbeats 4000000 in
theorem rewritten_i (l : List (Tr × Ky)) (sl : Value) (u : Tr) (vu : Value) (w : World) (lo : Nat) (hps : PsR w lo (Nw 0 w) sl l) (hlen : l.length ≤ 1000000000) (hu : TIn w (Nw 0 w) u vu)
    (hall : ∀ p ∈ l, knd p.1 = 4 ∧ cnt p.1 ≤ 1048578 ∧ (posV p.1 p.2 = -1 → p.2.text = false → -1000000000 ≤ p.2.num ∧ p.2.num ≤ 1000000000)) : Calls Tryz.prog 183 #[sl, vu] w (OutN w (rew l u)) := by
  obtain ⟨xs, hown, hpx⟩ := hps
  have hst : ∀ j, j < l.length → ∃ q : StA w, q.1.1 = ((l.length - 1 - j : Nat) : Int) ∧ l[l.length - 1 - j]? = some q.1.2.1 ∧ ∀ r, r < 8 → xs[(l.length - 1 - j) * 8 + r]? = q.1.2.2[r]? := fun j hj => by
    have hp : l[l.length - 1 - j]? = some (l[l.length - 1 - j]'(by omega)) := List.getElem?_eq_getElem _
    generalize l[l.length - 1 - j]'(by omega) = p at hp
    obtain ⟨k, n, s, x, ks, vs, A, c, e1, e2, e3, e4⟩ := hpx _ p hp
    obtain ⟨h1, h2, h3⟩ := hall p (List.mem_of_getElem? hp)
    rw [e1] at h1 h2 h3 e4
    obtain rfl : k = 4 := h1
    exact ⟨⟨(((l.length - 1 - j : Nat) : Int), p, psC 4 n s x A vs.length c p.2), n, s, x, ks, vs, A, c, e1, e2, rfl, e4, h2, h3⟩, rfl, hp, e3⟩
  obtain ⟨f, hf⟩ : ∃ f : Nat → StA w, ∀ j, j < l.length → (f j).1.1 = ((l.length - 1 - j : Nat) : Int) ∧ l[l.length - 1 - j]? = some (f j).1.2.1 ∧ ∀ r, r < 8 → xs[(l.length - 1 - j) * 8 + r]? = (f j).1.2.2[r]? :=
    ⟨fun j => if h : j < l.length then (hst j h).choose else ⟨_, stOk_dummy w⟩, fun j hj => by simp only [dif_pos hj]; exact (hst j hj).choose_spec⟩
  have hfw := fw_upto l f u (fun j hj => (hf j hj).2.1)
  obtain ⟨LL, HLL⟩ : ∃ L, Hid (l.length = L) := ⟨_, Lib.hid rfl⟩
  have hbw : BwR (fun x : StA w => x.1.2.2) f w.heap.size w sl LL := by
    rw [← HLL.out]
    rcases hown.2 with ⟨rfl, h0⟩ | ⟨g, cap, cur, rfl, -, hg, hnc, hcm, hcs, htk⟩
    · exact .inl ⟨rfl, h0⟩
    · refine .inr ⟨g, cap, rfl, (Array.getElem?_eq_some_iff.1 hg).1, fun j hj r hr => ?_⟩
      rw [(rowc hg).1, ← (hf j hj).2.2 r hr, ← htk, List.getElem?_take_of_lt (by omega), Array.getElem?_toList]
  have hsl : ∃ A c, sl = .slice A LL c := by
    rcases hbw with ⟨rfl, h0⟩ | ⟨b, cap, rfl, -⟩
    · exact ⟨none, 0, by rw [h0]⟩
    · exact ⟨_, _, rfl⟩
  obtain ⟨A0, c0, rfl⟩ := hsl
  have HFW := Lib.hid (HLL.out ▸ hfw)
  have HF := Lib.hid (fun j (hj : j < LL) => (hf j (by rw [HLL.out]; exact hj)).1)
  rw [HLL.out] at hlen HF
  have HBW := Lib.hid hbw
  obtain ⟨k, n, s, x, ks, vs⟩ := u
  obtain ⟨Au, cu, rfl, -, -⟩ := hu.out
  obtain ⟨Lu, HLu⟩ : ∃ L, Hid (vs.length = L) := ⟨_, Lib.hid rfl⟩
  rw [HLu.out] at hu ⊢
  have HU := Lib.hid hu.sub
  clear hown hpx hst hf hfw hbw hu hall
  refine (callsIn_wide (n := 6)).1 ?_
  refine callsIn_of_wp_marks Tryz.func183 rfl trivial ?_ rfl
  simp only [Tryz.ntmps183, List.size_toArray, List.length_cons, List.length_nil, Nat.reduceAdd, Nat.reduceSub, Array.replicate_succ, Array.replicate_zero, List.push_toArray, List.append_toArray, List.nil_append, List.cons_append]
  gi_wp2_with (refine ⟨trivial, ?_⟩; gi_at_call 220; refine (bwd_in Fence.wide _ trivial rfl _ _ _ _).mono ?_; rintro e w' ⟨rfl, rfl⟩)
  obtain ⟨W0, hW0⟩ : ∃ W0, (((w.alloc (.cells #[.int .i64 k, .int .i64 n, .string s, .int .i64 x, .slice Au Lu cu] IV)).alloc (.cells #[.int .i64 0, .int .i64 0, .string ⟨#[]⟩, .int .i64 0, .slice none 0 0] IV)).alloc (.cells #[.slice A0 LL c0] 191)) = W0 := ⟨_, rfl⟩
  obtain ⟨P, HP⟩ : ∃ P, Hid (P = w.heap.size) := ⟨_, Lib.hid rfl⟩
  obtain ⟨q0, q1, q2, hsz, hB0⟩ := al3 w #[.int .i64 k, .int .i64 n, .string s, .int .i64 x, .slice Au Lu cu] #[.int .i64 0, .int .i64 0, .string ⟨#[]⟩, .int .i64 0, .slice none 0 0] #[.slice A0 LL c0] IV IV 191
  rw [hW0] at q0 q1 q2 hsz hB0 ⊢
  clear hW0
  refine wpIn_rangeFunc_ownH rfl (by omega) (gf := 234) (lb := #[.pointer (some ⟨w.heap.size + 1 + 1, 0, none⟩)]) rfl trivial (enters_of Tryz.func234 (by kernel_rfl) rfl)
    (bwd_stops enS (fun x : StA w => x.1.1) (fun x => x.1.2.2) len8 (fun _ => rfl) Fence.wide _ trivial rfl (by omega) (w.heap.size + 1 + 1) w.heap.size (.slice A0 LL c0) LL f hlen HF.out W0 hB0.size q2 (HBW.out.below hB0)) kpB_t (kpB_b hB0.size) (Below.refl _ _) (fun _ => rfl)
    (fun pre W => RwI w w.heap.size (.mk k n s x ks vs) pre W ∧ Below w.heap.size w W)
    (fun _ _ _ => False)
    (OwnFrom.and (Own.from (rwI_own _ _ _) _) (ownFrom_below (Nat.le_refl _) hB0.size))
    (fun _ _ _ _ _ hs _ _ => hs)
    ⟨⟨k, n, s, x, ks, vs, Au, Lu, cu, rfl, HLu.out, q0, HU.out.stays (fun b hb => ⟨hb.1.keep (Nat.le_refl _) (hB0.block b hb.2), by have := hb.2; omega, by have := hb.2; omega⟩) (fun b hb _ => hB0.block b hb.2), q1⟩, hB0⟩
    (fun x' a' W => ∃ Bx, w.heap.size + 1 < Bx ∧ W.heap[Bx]? = some (.cells x'.1.2.2.toArray PS (0, 0)) ∧ a' = { tmps := #[.slice A0 LL c0, .agg #[.int .i64 k, .int .i64 n, .string s, .int .i64 x, .slice Au Lu cu], undef, .pointer (some ⟨w.heap.size, 0, none⟩), .pointer (some ⟨w.heap.size + 1, 0, none⟩), undef, .pointer (some ⟨Bx, 0, none⟩), .slice A0 LL c0, .func (.func 234) #[] #[.pointer (some ⟨w.heap.size + 1 + 1, 0, none⟩)], .int .i64 x'.1.1, .agg x'.1.2.2.toArray, undef, undef, undef, undef, undef, undef, undef], defers := [] })
    (fun x' a' _ X Y row hs hg hr => by obtain ⟨Bx, h1, h2, h3⟩ := hs; exact ⟨Bx, h1, cells_own hg (fun r e => (hr r e).2) h2, h3⟩)
    ?assign ?body ?done ?stop
  case assign =>
    rintro l' pre ⟨⟨i, ⟨t1, y1⟩, cs⟩, n1, s1, x1, ks1, vs1, A1, c1, e1, e2, e3, e4, e5, e6⟩ W K ⟨hI, hBW⟩ hK
    simp only at e1 e2 e3
    subst e1 e3
    obtain ⟨L1, HL1⟩ : ∃ L, Hid (vs1.length = L) := ⟨_, Lib.hid rfl⟩
    unfold enS psC at *
    simp only at hK ⊢
    gi_wp2
    have hs := hBW.size
    have hb := b1 W (.cells #[.int .i64 4, .int .i64 n1, .string s1, .int .i64 x1, .slice A1 vs1.length c1, .bool y1.text, .int .i64 y1.num, .string y1.str] PS)
    have hI2 := hI
    obtain ⟨K', N', Z', X', RK', RV', A', L', c', h1, h2, h3, h4, h5⟩ := hI
    have hlt := (Array.getElem?_eq_some_iff.1 h5).1
    refine hK _ _ ((KeepsOthers.alloc _ _).from _) ⟨(Below.refl _ W).alloc hs _, fun cs t fr e => hb.block _ (Array.getElem?_eq_some_iff.1 e).1⟩ ⟨⟨K', N', Z', X', RK', RV', A', L', c', h1, h2, carry hb h3, h4.stays (fun b hb2 => ⟨hb2.1.keep (Nat.le_refl _) (hb.block b hb2.1.2.lt), hb2.2⟩) (fun b hb2 hl => hb.block b hl), carry hb h5⟩, hBW.alloc hs _⟩ ⟨W.heap.size, ?_, heap_alloc_new W _, rfl⟩
    exact hlt
  case body =>
    rintro l' pre x' a' W hl' ⟨r, hr⟩ ⟨⟨K, N, Z, X, RK, RV, A2, L2, c2, h1, h2, h3, h4, h5⟩, hBW⟩ ⟨Bx, hBx, hbx, rfl⟩ hlt
    have hx2 := x'.2
    obtain ⟨n1, s1, x1, ks1, vs1, A1, c1, e1, e2, e3, e4, e5, e6⟩ := hx2
    have e7 : fw (pre ++ [x']) (.mk k n s x ks vs) = setT (.mk 4 n1 s1 x1 ks1 vs1) x'.1.2.1.2 (.mk K N Z X RK RV) := by rw [fw_snoc, h1, e1]
    rw [e3] at hbx ⊢
    obtain ⟨y1, hy1⟩ : ∃ y, x'.1.2.1.2 = y := ⟨_, rfl⟩
    obtain ⟨i, hi⟩ : ∃ i, x'.1.1 = i := ⟨_, rfl⟩
    rw [hy1] at e2 e6 e7 hbx ⊢
    rw [hi]
    clear hi hy1 e1 e3
    have hT1 : TIn W (fun b => Nw 0 W b ∧ b ≠ w.heap.size ∧ b ≠ w.heap.size + 1) (.mk 4 n1 s1 x1 ks1 vs1) (vV 4 n1 s1 x1 A1 vs1.length c1) := e4.sub.stays (fun b hb => ⟨hb.1.keep (Nat.le_refl _) (hBW.block b hb.2), by have := hb.2; omega, by have := hb.2; omega⟩) (fun b hb _ => hBW.block b hb.2)
    obtain ⟨L1, HL1⟩ : ∃ L, Hid (vs1.length = L) := ⟨_, Lib.hid rfl⟩
    have WI := withItem_g (.mk 4 n1 s1 x1 ks1 vs1) (vV 4 n1 s1 x1 A1 vs1.length c1) y1 (.mk K N Z X RK RV) (vV K N Z X A2 L2 c2) W (fun b => Nw 0 W b ∧ b ≠ w.heap.size ∧ b ≠ w.heap.size + 1) (fun b hb => hb.1) hT1 h4 e2 (fun _ _ _ _ _ _ e => by cases e; rfl) e5 e6
    obtain ⟨T3, hT3⟩ : ∃ T, setT (.mk 4 n1 s1 x1 ks1 vs1) y1 (.mk K N Z X RK RV) = T := ⟨_, rfl⟩
    rw [hT3] at e7 WI
    obtain ⟨K3, N3, Z3, X3, RK3, RV3⟩ := T3
    obtain ⟨L3, HL3⟩ : ∃ L, Hid (RV3.length = L) := ⟨_, Lib.hid rfl⟩
    rw [HL1.out] at WI
    have hbx2 : W.heap[Bx]? = some (.cells #[.int .i64 4, .int .i64 n1, .string s1, .int .i64 x1, .slice A1 L1 c1, .bool y1.text, .int .i64 y1.num, .string y1.str] PS (0, 0)) := by rw [← HL1.out]; exact hbx
    obtain ⟨rb, fb⟩ := rowc hbx2
    obtain ⟨rx, fx⟩ := rowc h3
    unfold vV kyV at WI
    have HWI := Lib.hid WI
    have HH := Lib.hid (And.intro h3 (And.intro h5 hBW))
    have HE7 := Lib.hid e7
    clear WI hT1 e2 e4 e5 e6 h1 h4 hr hT3 hbx hbx2 e7 h3 h5 hBW
    unfold psC at *
    rw [HL1.out] at *
    gi_wp2_with (refine ⟨trivial, ?_⟩; gi_at_call 219; refine (CallsIn.inRound l' (callsIn_wide.2 HWI.out)).mono ?_; rintro e w1 ⟨u2, rfl, hu2, hb2⟩; obtain ⟨A3, c3, rfl, -, -⟩ := hu2.out; rw [HL3.out] at hu2 ⊢; have HU2 := Lib.hid hu2; have HB2 := Lib.hid hb2; obtain ⟨r3, f3⟩ := rowc (carry hb2 HH.out.1); clear hu2 hb2)
    obtain ⟨g3, g5, gB⟩ := HH.out
    have hU2 := HU2.out
    have hB2 := HB2.out
    have hW0 := gB.size
    have hlt5 := (Array.getElem?_eq_some_iff.1 g5).1
    generalize hwF : (((((w1.setCell ⟨w.heap.size, 0, none⟩ (.int .i64 K3)).setCell ⟨w.heap.size, 1, none⟩ (.int .i64 N3)).setCell ⟨w.heap.size, 2, none⟩ (.string Z3)).setCell ⟨w.heap.size, 3, none⟩ (.int .i64 X3)).setCell ⟨w.heap.size, 4, none⟩ (.slice A3 L3 c3)) = wF
    have e3' := carry hB2 g3
    obtain ⟨-, oF, bF⟩ := fill5 e3' hwF
    have eF : wF.heap[w.heap.size]? = some (.cells #[.int .i64 K3, .int .i64 N3, .string Z3, .int .i64 X3, .slice A3 L3 c3] IV (0, 0)) := by
      rw [← hwF]
      have := set_heap (set_heap (set_heap (set_heap (set_heap e3' 0 (.int .i64 K3)) 1 (.int .i64 N3)) 2 (.string Z3)) 3 (.int .i64 X3)) 4 (.slice A3 L3 c3)
      simpa using this
    have hzF : wF.heap.size = w1.heap.size := by rw [← hwF]; simp []
    have hBW' : Below w.heap.size W wF := bF _ _ (Nat.le_refl _) (hB2.mono hW0)
    refine ⟨KeepsOthers.from ⟨by rw [hzF]; exact hB2.size, fun q o hq ho => ?_⟩ _, ⟨hBW', fun cs t fr e => ?_⟩, ⟨K3, N3, Z3, X3, RK3, RV3, A3, L3, c3, HE7.out, HL3.out, eF, hU2.stays (fun b hb => ?_) (fun b hb _ => oF b ?_), ?_⟩, gB.trans hBW'⟩
    · have hne : q ≠ w.heap.size := fun e => by rw [e, g3] at hq; cases hq; cases ho
      rw [oF q hne, hB2.block q (Array.getElem?_eq_some_iff.1 hq).1]
      exact hq
    · rw [oF _ (by omega), hB2.block _ (Array.getElem?_eq_some_iff.1 e).1]
    · have hne : b ≠ w.heap.size ∧ b ≠ w.heap.size + 1 := by
        rcases hb.1 with h | h
        · exact h.2
        · exact ⟨by omega, by omega⟩
      exact ⟨hb.2.keep (Nat.le_refl _) (oF b hne.1), hne⟩
    · rcases hb.1 with h | h
      · exact h.2.1
      · omega
    · rw [oF _ (by omega)]
      exact carry hB2 g5
  case done =>
    rintro D zs W hD rfl ⟨⟨K, N, Z, X, RK, RV, A2, L2, c2, h1, h2, h3, h4, h5⟩, hBW⟩ hK
    rw [HFW.out] at h1
    obtain ⟨r3, f3⟩ := rowc h3
    obtain ⟨r5, f5⟩ := rowc h5
    gi_wp2
    generalize hwF : (((((W.setCell ⟨w.heap.size + 1, 0, none⟩ (.int .i64 K)).setCell ⟨w.heap.size + 1, 1, none⟩ (.int .i64 N)).setCell ⟨w.heap.size + 1, 2, none⟩ (.string Z)).setCell ⟨w.heap.size + 1, 3, none⟩ (.int .i64 X)).setCell ⟨w.heap.size + 1, 4, none⟩ (.slice A2 L2 c2)) = wF
    obtain ⟨rF, oF, bF⟩ := fill5 h5 hwF
    have hne : D ≠ w.heap.size + 1 := fun e => by rw [e, h5] at hK; cases hK
    have hKF : wF.heap[D]? = some (.deferred (some [])) := (oF D hne).trans hK
    have hBF := bF w.heap.size w (by omega) hBW
    refine ⟨by simp, .inl ⟨_, _, rfl, run_takeDeferred hKF, ?_⟩⟩
    have hc5 : ∀ j u, (#[Value.int .i64 K, .int .i64 N, .string Z, .int .i64 X, .slice A2 L2 c2] : Array Value)[j]? = some u → (wF.putObj D (.deferred none)).cell? ⟨w.heap.size + 1, j, none⟩ = some u := fun j u hu => cell_kept ((rF j).trans hu) (grownBy_putObj' _ D (.deferred none)) (fun r e => by cases e; exact ⟨_, hKF, rfl⟩)
    have c0' := hc5 0 _ rfl
    have c1' := hc5 1 _ rfl
    have c2' := hc5 2 _ rfl
    have c3' := hc5 3 _ rfl
    have c4' := hc5 4 _ rfl
    refine ⟨vV K N Z X A2 L2 c2, ?_, vV K N Z X A2 L2 c2, rfl, ?_, ?_⟩
    · simp [results, Tryz.f183, go_sem, c0', c1', c2', c3', c4', vV]
    · rw [h1]
      refine h4.stays (fun b hb => ?_) (fun b hb _ => ?_)
      · have hbD : b ≠ D := fun e => by obtain ⟨_, cs, t, hc⟩ := hb.1; rw [e, hK] at hc; cases hc
        exact hb.1.keep (Nat.le_refl _) ((World.putObj_heap_other hbD).trans (oF b hb.2.2))
      · have hbD : b ≠ D := fun e => by obtain ⟨_, cs, t, hc⟩ := hb.1; rw [e, hK] at hc; cases hc
        exact (World.putObj_heap_other hbD).trans (oF b hb.2.2)
    · have hsz0 := hB0.size
      exact hBF.trans (belowK_b (w := w) (Nat.le_refl _) wF D _ _ (by omega) hKF rfl rfl)
  case stop =>
    rintro D c pre W _ _ h _
    exact h.elim

end Go.Proofs.YtbgffmiffmmohaaGreatDoor.tree

/-
  DeletePath of the project.
  Conditions: the value holds at most 2^20 and one items and 10^9 letters; at most 10^9 keys.
-/
namespace Go.Proofs.YtbgffmiffmmohaaGreatDoor.tree
open Go.ChangeShapes Go.WideShapes Go.ChangeAt Go.RowKit
set_option linter.unusedVariables false

def OutDp (w : World) (t : Tr) (e : Ending) (w' : World) : Prop := ∃ u par R, e = .returned u ∧ TPar w' par (R, 0) t u ∧ w.heap.size ≤ R ∧ Below w.heap.size w w'
theorem PsR.mono {w : World} {lo lo' : Nat} {T T' : Nat → Prop} {v : Value} {l : List (Tr × Ky)} (h : PsR w lo T v l) (hT : ∀ b, T b → T' b) (hl : lo' ≤ lo) : PsR w lo' T' v l := by
  obtain ⟨xs, h1, h2⟩ := h
  refine ⟨xs, ⟨h1.1, ?_⟩, fun i p hp => ?_⟩
  · rcases h1.2 with h | ⟨g, cap, cur, rfl, hlo, h⟩
    · exact .inl h
    · exact .inr ⟨g, cap, cur, rfl, Nat.le_trans hl hlo, h⟩
  · obtain ⟨k, n, s, x, ks, vs, A, c, e1, e2, e3, e4⟩ := h2 i p hp
    exact ⟨k, n, s, x, ks, vs, A, c, e1, e2, e3, e4.stays hT (fun _ _ _ => rfl)⟩
theorem PsR.stays {w w' : World} {lo : Nat} {T T' : Nat → Prop} {v : Value} {l : List (Tr × Ky)} (h : PsR w lo T v l) (hT : ∀ b, T b → T' b) (hb : ∀ b, T b → b < w.heap.size → w'.heap[b]? = w.heap[b]?) (hv : ∀ b, v.ownBlock = some b → lo ≤ b → b < w.heap.size → w'.heap[b]? = w.heap[b]?) : PsR w' lo T' v l := by
  obtain ⟨xs, h1, h2⟩ := h
  refine ⟨xs, ⟨h1.1, ?_⟩, fun i p hp => ?_⟩
  · rcases h1.2 with h | ⟨g, cap, cur, rfl, hlo, hg, h5⟩
    · exact .inl h
    · exact .inr ⟨g, cap, cur, rfl, hlo, (hv g rfl hlo (Array.getElem?_eq_some_iff.1 hg).1).trans hg, h5⟩
  · obtain ⟨k, n, s, x, ks, vs, A, c, e1, e2, e3, e4⟩ := h2 i p hp
    exact ⟨k, n, s, x, ks, vs, A, c, e1, e2, e3, e4.stays hT hb⟩
theorem PsR.nwb {w w' : World} {lo : Nat} {v : Value} {l : List (Tr × Ky)} (h : PsR w lo (Nw 0 w) v l) (hb : Below w.heap.size w w') : PsR w' lo (Nw 0 w') v l := h.stays (fun b h => h.keep (Nat.le_refl _) (hb.block b h.2.lt)) (fun b h _ => hb.block b h.2.lt) (fun b _ _ hl => hb.block b hl)

/-- What stepsAlong gives, in the variables of a region that draws its order. -/
def CutSt (w1 : World) (l : List (Tr × Ky)) (K N : Int) (Z : ByteArray) (X : Int) (RL : Nat) (RT : Tr) (s p f : Value) (wx : World) : Prop :=
  ∃ B A c, p = .pointer (some ⟨B, 0, none⟩) ∧ f = .bool true ∧ Below w1.heap.size w1 wx ∧ w1.heap.size ≤ B ∧ wx.heap[B]? = some (.cells #[.int .i64 K, .int .i64 N, .string Z, .int .i64 X, .slice A RL c] IV (0, 0)) ∧ TIn wx (Nw 0 wx) RT (vV K N Z X A RL c) ∧ PsR wx 0 (Nw 0 wx) s l
section
variable {w1 n wF : World} {l : List (Tr × Ky)} {K N X : Int} {Z : ByteArray} {RL c B lo : Nat} {RT : Tr} {A : Option Addr} {s : Value} {T : Nat → Prop}
theorem cutSt_box (hw : Below w1.heap.size w1 n) (hT : ∀ b, T b → Nw 0 n b) (hv : TIn n T RT (vV K N Z X A RL c)) (hp : PsR n lo T s l) :
    CutSt w1 l K N Z X RL RT s (.pointer (some ⟨n.heap.size, 0, none⟩)) (.bool true) (n.alloc (.cells #[.int .i64 K, .int .i64 N, .string Z, .int .i64 X, .slice A RL c] IV)) :=
  ⟨n.heap.size, A, c, rfl, rfl, bs hw (b1 n _), hw.size, heap_alloc_new n _, (hv.stays hT (fun _ _ _ => rfl)).nwb (b1 n _), ((hp.mono hT (Nat.zero_le _)).nwb (b1 n _))⟩
theorem cutSt_early (hw : Below w1.heap.size w1 n) (hB : w1.heap.size ≤ B) (hT : ∀ b, T b → Nw 0 n b ∧ b ≠ B) (hlo : B < lo) (ez : n.heap[B]? = some (.cells #[.int .i64 0, .int .i64 0, .string ⟨#[]⟩, .int .i64 0, .slice none 0 0] IV (0, 0))) (hv : TIn n T RT (vV K N Z X A RL c)) (hp : PsR n lo T s l)
    (hF : (((((n.setCell ⟨B, 0, none⟩ (.int .i64 K)).setCell ⟨B, 1, none⟩ (.int .i64 N)).setCell ⟨B, 2, none⟩ (.string Z)).setCell ⟨B, 3, none⟩ (.int .i64 X)).setCell ⟨B, 4, none⟩ (.slice A RL c)) = wF) :
    CutSt w1 l K N Z X RL RT s (.pointer (some ⟨B, 0, none⟩)) (.bool true) wF := by
  obtain ⟨-, oF, bF⟩ := fill5 ez hF
  have eF : wF.heap[B]? = some (.cells #[.int .i64 K, .int .i64 N, .string Z, .int .i64 X, .slice A RL c] IV (0, 0)) := by
    rw [← hF]
    have := set_heap (set_heap (set_heap (set_heap (set_heap ez 0 (.int .i64 K)) 1 (.int .i64 N)) 2 (.string Z)) 3 (.int .i64 X)) 4 (.slice A RL c)
    simpa using this
  exact ⟨B, A, c, rfl, rfl, bF _ _ hB hw, hB, eF, hv.stays (fun b hb => (hT b hb).1.keep (Nat.le_refl _) (oF b (hT b hb).2)) (fun b hb _ => oF b (hT b hb).2),
    (hp.stays (fun b hb => (hT b hb).1.keep (Nat.le_refl _) (oF b (hT b hb).2)) (fun b hb _ => oF b (hT b hb).2) (fun b _ h1 _ => oF b (by omega))).mono (fun _ h => h) (Nat.zero_le _)⟩
end
theorem steps_some {t : Tr} {ys : List Ky} {l : List (Tr × Ky)} {e0 : Tr} (hs : stp t ys = some (l, e0)) (v : Value) (A : Option Addr) (c : Nat) (w : World) (S : Nat → Prop) (h : TIn w S t v) (hk : KIn w ys A) (hm : ys.length ≤ 1000000000) :
    Calls Tryz.prog 181 #[v, .slice A ys.length c] w (fun e w' => ∃ sl u, e = .returned (.tuple #[sl, u, .bool true]) ∧ PsR w' (w.heap.size + 1 + 1) (fun b => S b ∧ b < w.heap.size) sl l ∧ TIn w' (fun b => S b ∧ b < w.heap.size) e0 u ∧ Below w.heap.size w w') :=
  (stepsAlong_i t ys v A c w S h hk hm).mono fun e w' hq => by
    rcases hq with ⟨h1, -⟩ | ⟨l', t', sl, u, h1, h2, h3, h4, h5⟩
    · rw [hs] at h1; cases h1
    · rw [hs] at h1
      obtain ⟨rfl, rfl⟩ : l = l' ∧ e0 = t' := by simpa using h1
      exact ⟨sl, u, h2, h3, h4, h5⟩

/-- What a step of the way is, by what the value is. -/
theorem stp_small : ∀ (ys : List Ky) (t : Tr) (l : List (Tr × Ky)) (e : Tr), fits t → stp t ys = some (l, e) → cnt e ≤ cnt t ∧ tot e ≤ tot t ∧ ∀ p ∈ l, cnt p.1 ≤ cnt t ∧ tot p.1 ≤ tot t
  | [], t, l, e, hf, h => by
    obtain ⟨rfl, rfl⟩ : [] = l ∧ t = e := by simpa [stp] using h
    exact ⟨Nat.le_refl _, Nat.le_refl _, fun p hp => by cases hp⟩
  | y :: ys, t, l, e, hf, h => by
    rw [stp_cons] at h
    by_cases h4 : knd (opn t) = 4
    · rw [if_pos h4] at h
      cases hs : stp (getR (opn t) y) ys with
      | none => rw [hs] at h; simp at h
      | some p =>
        obtain ⟨l0, e0⟩ := p
        rw [hs] at h
        obtain ⟨rfl, rfl⟩ : (opn t, y) :: l0 = l ∧ e0 = e := by simpa using h
        have ho := cnt_opn t
        have hr : cnt (getR (opn t) y) ≤ cnt (opn t) ∧ tot (getR (opn t) y) ≤ tot (opn t) := by
          have e0 : cnt nullT = 1 := by unfold nullT; rw [cnt_mk', cnts_nil]
          have e1 : tot nullT = 0 := by unfold nullT; rw [tot_mk]; simp [tots]; rfl
          by_cases hb : getB (opn t) y = true
          · have h1 := setT_sizeB (fits_opn hf) y nullT hb
            have e2 : 1 ≤ cnt (setT (opn t) y nullT) := by cases hq : setT (opn t) y nullT; rw [cnt_mk']; omega
            omega
          · rw [getR_none hb]
            have e2 : 1 ≤ cnt (opn t) := by cases hq : opn t; rw [cnt_mk']; omega
            omega
        obtain ⟨a, b, c⟩ := stp_small ys _ l0 e0 (fits_getR (fits_opn hf) y) hs
        refine ⟨by omega, by omega, fun p hp => ?_⟩
        rcases List.mem_cons.1 hp with rfl | hp
        · exact ho
        · have := c p hp; omega
    · rw [if_neg h4] at h; simp at h

end Go.Proofs.YtbgffmiffmmohaaGreatDoor.tree

/-
  Whether all keys of a list are keys, of the project.
  Conditions: the keys' texts are short; the package variables of the library's reading of numbers hold what the program's text lays.
-/
namespace Go.Proofs.YtbgffmiffmmohaaGreatDoor.tree
open Go.ChangeShapes Go.WideShapes Go.ChangeAt Go.RowKit
set_option linter.unusedVariables false

def keysB (ys : List Ky) : Bool := ys.all keyB
set_option maxRecDepth 100000 in
set_option maxHeartbeats 1600000 in
theorem areKeys_i (ys : List Ky) (A : Option Addr) (c : Nat) (w : World) (hk : KIn w ys A) (hm : ys.length ≤ maxLen) (hs : ∀ y ∈ ys, y.str.size ≤ 281474976710656) (hE : prs.Env w) : Calls Tryz.prog 109 #[.slice A ys.length c] w (BoQ w (keysB ys)) := by
  obtain ⟨L, HL⟩ : ∃ L, Hid (ys.length = L) := ⟨_, Lib.hid rfl⟩
  rw [HL.out] at hm ⊢
  unfold maxLen at hm
  have HK := Lib.hid hk
  have HEN := Lib.hid hE
  have KI := Lib.hid (fun (y : Ky) (h : y ∈ ys) w' (hE : prs.Env w') => isKey_i y (hs y h) w' hE)
  clear hk hE hs
  obtain ⟨q, HQ⟩ : ∃ q, Hid (keysB ys = q) := ⟨_, Lib.hid rfl⟩
  rw [HQ.out]
  go_enter Tryz.func109, Tryz.ntmps109
  go_wp2_with (fail)
  go_loopg [7] (L + 1) (fun gk i wr => ∃ (j : Nat), i = .int .i64 j ∧ gk + j = L + 1 ∧ j ≤ L ∧ Hid (keysB (ys.drop j) = q) ∧ Below w.heap.size w wr)
  case atStart => exact ⟨0, rfl, by omega, by omega, Lib.hid (by rw [List.drop_zero]; exact HQ.out), Below.refl _ _⟩
  case round =>
    clear HQ
    obtain ⟨j, rfl, hgj, hjL, HG, hb⟩ := hrel
    have HB := Lib.hid hb
    clear hb
    by_cases hlt : j < L
    · obtain ⟨y, hy⟩ : ∃ y, ys[j]? = some y := ⟨_, List.getElem?_eq_getElem (by rw [HL.out]; exact hlt)⟩
      have hg := HG.out
      rw [drop_cons' hy, show keysB (y :: ys.drop (j + 1)) = (keyB y && keysB (ys.drop (j + 1))) from rfl] at hg
      obtain ⟨a, rfl, hyb, p0, p1, p2⟩ := HK.out.below HB.out j y hy
      have KQ := Lib.hid (KI.out y (List.mem_of_getElem? hy))
      unfold kyV at KQ
      cases hkb : keyB y with
      | false =>
        rw [hkb] at hg KQ
        obtain rfl : false = q := by simpa using hg
        clear hg hkb hy hyb
        go_wp2_with (fail)
        refine (KQ.out _ (HEN.out.stays (bs HB.out (b1 _ _)))).mono ?_
        rintro e w1 ⟨rfl, hb1⟩
        have HB1 := Lib.hid (bs (bs HB.out (b1 _ _)) hb1)
        clear hb1
        go_wp2_with (fail)
        go_ret
        exact ⟨rfl, HB1.out⟩
      | true =>
        rw [hkb] at hg KQ
        have HG2 := Lib.hid (show keysB (ys.drop (j + 1)) = q by simpa using hg)
        clear hg hkb hy hyb
        go_wp2_with (fail)
        refine (KQ.out _ (HEN.out.stays (bs HB.out (b1 _ _)))).mono ?_
        rintro e w1 ⟨rfl, hb1⟩
        have HB1 := Lib.hid (bs (bs HB.out (b1 _ _)) hb1)
        clear hb1
        go_wp2_with (fail)
        go_roundg (L - j)
        case rel => exact ⟨j + 1, by go_num, by omega, by omega, HG2, HB1.out⟩
        case measure => omega
    · obtain rfl : j = L := by omega
      have hg := HG.out
      rw [show ys.drop j = [] from List.drop_eq_nil_of_le (Nat.le_of_eq HL.out)] at hg
      obtain rfl : true = q := by simpa [keysB] using hg
      clear hg
      go_wp2_with (fail)
      go_ret
      exact ⟨rfl, HB.out⟩

end Go.Proofs.YtbgffmiffmmohaaGreatDoor.tree

/-
  A value that is put into the result's variable.
  Conditions: those that each theorem names.
-/
namespace Go.Proofs.YtbgffmiffmmohaaGreatDoor.tree
open Go.ChangeShapes Go.WideShapes Go.ChangeAt Go.RowKit
set_option linter.unusedVariables false

theorem getR_le (t : Tr) (y : Ky) : cnt (getR t y) ≤ cnt t := by
  obtain ⟨k, n, s, x, ks, vs⟩ := t
  have e0 : cnt nullT = 1 := by unfold nullT; rw [cnt_mk', cnts_nil]
  rcases posV_cases k n s x ks vs y with hp | ⟨i, hp, hi, rfl⟩
  · unfold getR; rw [getT_none hp]; show cnt nullT ≤ _; rw [e0, cnt_mk']; omega
  · unfold getR; rw [getT_some hp]
    cases hv : vs[i]? with
    | none => show cnt nullT ≤ _; rw [e0, cnt_mk']; omega
    | some u => have := cnts_lt hv; show cnt u ≤ _; rw [cnt_mk']; omega
theorem delP_not {k n x : Int} {s : ByteArray} {ks : List Ky} {vs : List Tr} (h : k ≠ 4) : ∀ ys : List Ky, delP (.mk k n s x ks vs) ys = .mk k n s x ks vs
  | [] => rfl
  | [y] => delT_none (posV_not h y)
  | y :: z :: ys => by rw [delP_two, if_neg (fun hb => h (getB_four (t := .mk k n s x ks vs) hb))]

theorem st5a {w : World} {a : Addr} {B : Nat} {u c0 c1 c2 c3 c4 : Value} (h : w.cell? a = some u) (hne : a.block ≠ B) : (((((w.setCell ⟨B, 0, none⟩ c0).setCell ⟨B, 1, none⟩ c1).setCell ⟨B, 2, none⟩ c2).setCell ⟨B, 3, none⟩ c3).setCell ⟨B, 4, none⟩ c4).cell? a = some u :=
  cell_stays (fun _ => by rw [set_other hne, set_other hne, set_other hne, set_other hne, set_other hne]) h
/-- A value that was put into the result's variable. -/
theorem ret5 {w w1 wF : World} {R : Nat} {K N X : Int} {Z : ByteArray} {A : Option Addr} {RL c : Nat} {RT : Tr} {T : Nat → Prop} (hb : Below w.heap.size w w1) (hR : w.heap.size ≤ R) (hz : w1.heap[R]? = some (.cells #[.int .i64 0, .int .i64 0, .string ⟨#[]⟩, .int .i64 0, .slice none 0 0] IV (0, 0))) (hT : ∀ b, T b → b ≠ R) (hv : TIn w1 T RT (vV K N Z X A RL c))
    (hF : (((((w1.setCell ⟨R, 0, none⟩ (.int .i64 K)).setCell ⟨R, 1, none⟩ (.int .i64 N)).setCell ⟨R, 2, none⟩ (.string Z)).setCell ⟨R, 3, none⟩ (.int .i64 X)).setCell ⟨R, 4, none⟩ (.slice A RL c)) = wF) :
    (∀ j, wF.cell? ⟨R, j, none⟩ = (#[Value.int .i64 K, .int .i64 N, .string Z, .int .i64 X, .slice A RL c] : Array Value)[j]?) ∧ OutV w RT (fun _ => True) (.returned (vV K N Z X A RL c)) wF := by
  obtain ⟨rF, oF, bF⟩ := fill5 hz hF
  exact ⟨rF, _, rfl, hv.stays (fun _ _ => trivial) (fun b hb _ => oF b (hT b hb)), bF _ _ hR hb⟩

/-- What is in the result's variable behind a region that draws its order. -/
def CutR (w : World) (R : Nat) (K N : Int) (Z : ByteArray) (X : Int) (RL : Nat) (RT : Tr) (wx : World) : Prop :=
  ∃ A c, wx.heap[R]? = some (.cells #[.int .i64 K, .int .i64 N, .string Z, .int .i64 X, .slice A RL c] IV (0, 0)) ∧ TIn wx (fun _ => True) RT (vV K N Z X A RL c) ∧ Below w.heap.size w wx
theorem cutR {w w1 wF : World} {R : Nat} {K N X : Int} {Z : ByteArray} {A : Option Addr} {RL c : Nat} {RT : Tr} {T : Nat → Prop} (hb : Below w.heap.size w w1) (hR : w.heap.size ≤ R) (hz : w1.heap[R]? = some (.cells #[.int .i64 0, .int .i64 0, .string ⟨#[]⟩, .int .i64 0, .slice none 0 0] IV (0, 0))) (hT : ∀ b, T b → b ≠ R) (hv : TIn w1 T RT (vV K N Z X A RL c))
    (hF : (((((w1.setCell ⟨R, 0, none⟩ (.int .i64 K)).setCell ⟨R, 1, none⟩ (.int .i64 N)).setCell ⟨R, 2, none⟩ (.string Z)).setCell ⟨R, 3, none⟩ (.int .i64 X)).setCell ⟨R, 4, none⟩ (.slice A RL c)) = wF) : CutR w R K N Z X RL RT wF := by
  obtain ⟨-, oF, bF⟩ := fill5 hz hF
  have eF : wF.heap[R]? = some (.cells #[.int .i64 K, .int .i64 N, .string Z, .int .i64 X, .slice A RL c] IV (0, 0)) := by
    rw [← hF]
    have := set_heap (set_heap (set_heap (set_heap (set_heap hz 0 (.int .i64 K)) 1 (.int .i64 N)) 2 (.string Z)) 3 (.int .i64 X)) 4 (.slice A RL c)
    simpa using this
  exact ⟨A, c, eF, hv.stays (fun _ _ => trivial) (fun b hb _ => oF b (hT b hb)), bF _ _ hR hb⟩

end Go.Proofs.YtbgffmiffmmohaaGreatDoor.tree

/-
  Whether all keys of a list are keys, of the model.
  Conditions: the keys' texts are short; the package variables of the library's reading of numbers hold what the program's text lays.
-/
namespace Go.Proofs.YtbgffmiffmmohaaGreatDoor.tree
open Go.ChangeShapes Go.WideShapes Go.ChangeAt Go.RowKit
set_option linter.unusedVariables false

set_option maxRecDepth 100000 in
set_option maxHeartbeats 1600000 in
theorem l12Keys_s (ys : List Ky) (A : Option Addr) (c : Nat) (w : World) (hk : KIn w ys A) (hm : ys.length ≤ maxLen) (hs : ∀ y ∈ ys, y.str.size ≤ 281474976710656) (hE : prs.Env w) : Calls Tryz.prog 106 #[.slice A ys.length c] w (BoQ w (keysB ys)) := by
  obtain ⟨L, HL⟩ : ∃ L, Hid (ys.length = L) := ⟨_, Lib.hid rfl⟩
  rw [HL.out] at hm ⊢
  unfold maxLen at hm
  have HK := Lib.hid hk
  have HEN := Lib.hid hE
  have KI := Lib.hid (fun (y : Ky) (h : y ∈ ys) w' (hE : prs.Env w') => isKey_s y (hs y h) w' hE)
  clear hk hE hs
  obtain ⟨q, HQ⟩ : ∃ q, Hid (keysB ys = q) := ⟨_, Lib.hid rfl⟩
  rw [HQ.out]
  go_enter Tryz.func106, Tryz.ntmps106
  go_wp2_with (fail)
  go_loopg [3] (L + 1) (fun gk i wr => ∃ (j : Nat), i = .int .i64 j ∧ gk + j = L + 1 ∧ j ≤ L ∧ Hid (keysB (ys.drop j) = q) ∧ Below w.heap.size w wr)
  case atStart => exact ⟨0, rfl, by omega, by omega, Lib.hid (by rw [List.drop_zero]; exact HQ.out), Below.refl _ _⟩
  case round =>
    clear HQ
    obtain ⟨j, rfl, hgj, hjL, HG, hb⟩ := hrel
    have HB := Lib.hid hb
    clear hb
    by_cases hlt : j < L
    · obtain ⟨y, hy⟩ : ∃ y, ys[j]? = some y := ⟨_, List.getElem?_eq_getElem (by rw [HL.out]; exact hlt)⟩
      have hg := HG.out
      rw [drop_cons' hy, show keysB (y :: ys.drop (j + 1)) = (keyB y && keysB (ys.drop (j + 1))) from rfl] at hg
      obtain ⟨a, rfl, hyb, p0, p1, p2⟩ := HK.out.below HB.out j y hy
      have KQ := Lib.hid (KI.out y (List.mem_of_getElem? hy))
      unfold kyV at KQ
      cases hkb : keyB y with
      | false =>
        rw [hkb] at hg KQ
        obtain rfl : false = q := by simpa using hg
        clear hg hkb hy hyb
        go_wp2_with (fail)
        refine (KQ.out _ (HEN.out.stays HB.out)).mono ?_
        rintro e w1 ⟨rfl, hb1⟩
        have HB1 := Lib.hid (bs HB.out hb1)
        clear hb1
        go_wp2_with (fail)
        go_ret
        exact ⟨rfl, HB1.out⟩
      | true =>
        rw [hkb] at hg KQ
        have HG2 := Lib.hid (show keysB (ys.drop (j + 1)) = q by simpa using hg)
        clear hg hkb hy hyb
        go_wp2_with (fail)
        refine (KQ.out _ (HEN.out.stays HB.out)).mono ?_
        rintro e w1 ⟨rfl, hb1⟩
        have HB1 := Lib.hid (bs HB.out hb1)
        clear hb1
        go_wp2_with (fail)
        go_roundg (L - j)
        case rel => exact ⟨j + 1, by go_num, by omega, by omega, HG2, HB1.out⟩
        case measure => omega
    · obtain rfl : j = L := by omega
      have hg := HG.out
      rw [show ys.drop j = [] from List.drop_eq_nil_of_le (Nat.le_of_eq HL.out)] at hg
      obtain rfl : true = q := by simpa [keysB] using hg
      clear hg
      go_wp2_with (fail)
      go_ret
      exact ⟨rfl, HB.out⟩

end Go.Proofs.YtbgffmiffmmohaaGreatDoor.tree

