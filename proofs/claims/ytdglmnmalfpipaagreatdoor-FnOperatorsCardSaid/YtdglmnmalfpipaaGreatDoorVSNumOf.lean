/-
  ToNumber of the project and of the model.
  Conditions: the value holds at most 10^9 items and letters; the project's two errors hold pointers that are not the same.
-/
import Derived.Test.YtdglmnmalfpipaaGreatDoorVSTextOf
namespace Go.Proofs.YtdglmnmalfpipaaGreatDoor.ers
open Go.ChangeShapes Go.WideShapes Go.ChangeAt Go.RowKit tree
set_option linter.unusedVariables false

/-- The number of a value, and whether it is one. -/
def nn (t : Tr) : Int × Bool := match t with
  | .mk k n s _ _ _ => if 0 ≤ k ∧ k ≤ 2 then (ti t, true) else if k = 3 then (if lead.isn s then (lead.li s, true) else (0, false)) else (0, false)
theorem nn_mk (k n : Int) (s : ByteArray) (x : Int) (ks : List Ky) (vs : List Tr) : nn (.mk k n s x ks vs) = if 0 ≤ k ∧ k ≤ 2 then (ti (.mk k n s x ks vs), true) else if k = 3 then (if lead.isn s then (lead.li s, true) else (0, false)) else (0, false) := rfl
def nnV (t : Tr) : Value := .tuple #[.int .i64 (nn t).1, .int .i64 (if (nn t).2 then 0 else 2)]
def noV (b : Addr) (t : Tr) : Value := .tuple #[.int .i64 (nn t).1, if (nn t).2 then .nilIface else .iface 270 (.pointer (some b))]

set_option maxHeartbeats 1000000 in
theorem numberOf (t : Tr) (v : Value) (w : World) (S : Nat → Prop) (h : TIn w S t v) (hT : tot t ≤ 1000000000) (b : Addr) (hB : HasN w b) : Calls Tryz.prog 175 #[v] w (GivesQ w (noV b t)) := by
  have TI := fun w' (hb : Below w.heap.size w w') => toInt_i t v w' S (h.below' hb) hT
  obtain ⟨k, n, s, x, ks, vs⟩ := t
  obtain ⟨A, c, rfl, hk, -⟩ := h.out
  rw [tot_mk] at hT
  have LI := Lib.hid (lead.leadingInt_i s (by omega))
  have IN := Lib.hid (lead.isNumeric_i s (by omega))
  unfold noV
  rw [nn_mk]
  obtain ⟨L, HL⟩ : ∃ L, Hid (L = vs.length) := ⟨_, Lib.hid rfl⟩
  obtain ⟨q, HQ⟩ : ∃ q, Hid (ti (.mk k n s x ks vs) = q) := ⟨_, Lib.hid rfl⟩
  obtain ⟨g, HG⟩ : ∃ g, Hid (lead.isn s = g) := ⟨_, Lib.hid rfl⟩
  obtain ⟨l, HLI⟩ : ∃ l, Hid (lead.li s = l) := ⟨_, Lib.hid rfl⟩
  rw [HQ.out] at TI ⊢
  rw [← HL.out] at TI ⊢
  rw [HG.out] at IN ⊢
  rw [HLI.out] at LI ⊢
  have HTI := Lib.hid TI
  have HB := Lib.hid hB
  have hc := hB.cell
  clear h hT hk hB TI
  by_cases h0 : 0 ≤ k ∧ k ≤ 2
  · rw [if_pos h0]
    obtain rfl | rfl | rfl : k = 0 ∨ k = 1 ∨ k = 2 := by omega
    all_goals
      show Calls _ _ _ _ (GivesQ w (.tuple #[.int .i64 q, .nilIface]))
      go_enter Tryz.func175, Tryz.ntmps175
      go_wp2_with (fail)
      refine (HTI.out _ (b1 w _)).mono ?_
      rintro e w1 ⟨rfl, hb1⟩
      have HB1 := Lib.hid (bs (b1 w _) hb1)
      clear hb1
      go_wp2_with (fail)
      go_ret2
      exact ⟨rfl, HB1.out⟩
  rw [if_neg h0]
  by_cases h3 : k = 3
  · subst h3
    rw [if_pos rfl]
    clear h0
    cases g
    · show Calls _ _ _ _ (GivesQ w (.tuple #[.int .i64 0, .iface 270 (.pointer (some b))]))
      go_enter Tryz.func175, Tryz.ntmps175
      go_wp2_with (fail)
      refine (IN.out _).mono ?_
      rintro e w1 ⟨rfl, hb1⟩
      have HB1 := Lib.hid (bs (b1 w _) hb1)
      clear hb1
      have hcn := (HB.out.stays HB1.out).cell
      go_wp2_with (fail)
      go_region
      all_goals
        go_wp2_with (fail)
        go_ret2
        exact ⟨rfl, HB1.out.drew⟩
    · show Calls _ _ _ _ (GivesQ w (.tuple #[.int .i64 l, .nilIface]))
      go_enter Tryz.func175, Tryz.ntmps175
      go_wp2_with (fail)
      refine (IN.out _).mono ?_
      rintro e w1 ⟨rfl, hb1⟩
      have HB1 := Lib.hid (bs (b1 w _) hb1)
      obtain ⟨r1, f1⟩ := rowc (carry hb1 (heap_alloc_new w _))
      clear hb1
      go_wp2_with (fail)
      refine (LI.out _).mono ?_
      rintro e w2 ⟨rfl, hb2⟩
      have HB2 := Lib.hid (bs HB1.out hb2)
      clear hb2
      go_wp2_with (fail)
      go_ret2
      exact ⟨rfl, HB2.out⟩
  rw [if_neg h3]
  have hcn : ∀ o, (w.alloc o).cell? ⟨2, 0, none⟩ = some (.iface 270 (.pointer (some b))) := fun o => (HB.out.stays (b1 w o)).cell
  clear hc
  have h00 : ¬ k = 0 := by omega
  have h01 : ¬ k = 1 := by omega
  have h02 : ¬ k = 2 := by omega
  clear h0
  show Calls _ _ _ _ (GivesQ w (.tuple #[.int .i64 0, .iface 270 (.pointer (some b))]))
  go_enter Tryz.func175, Tryz.ntmps175
  go_wp2_with (fail)
  go_region
  all_goals
    go_wp2_with (fail)
    go_ret2
    exact ⟨rfl, (b1 _ _).drew⟩



end Go.Proofs.YtdglmnmalfpipaaGreatDoor.ers

