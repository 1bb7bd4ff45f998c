/-
  ToText and ToNumber of the project and of the model, with the errors between.
  Conditions: the value holds at most 10^9 items and letters; the table of powers of ten and the project's two errors hold what the program's text lays.
-/
import Derived.Test.YtdglmnmalfpipaaGreatDoorVSErrIs
import Derived.Test.YtdglmnmalfpipaaGreatDoorVB11
import Derived.Test.YtdglmnmalfpipaaGreatDoorVB1
import Derived.Test.YtdglmnmalfpipaaGreatDoorVB4
import Derived.BigQuiet
import Derived.Lib.ItoaLen
namespace Go.Proofs.YtdglmnmalfpipaaGreatDoor.ers
open Go.ChangeShapes Go.WideShapes Go.ChangeAt Go.RowKit tree
set_option linter.unusedVariables false

theorem gT : Tryz.prog.globalNamed "loop.example/g03011/impl.errNoText" = some 1 := by kernel_rfl
theorem gN : Tryz.prog.globalNamed "loop.example/g03011/impl.errNoNumber" = some 2 := by kernel_rfl
/-- The error of a value without text. -/
def HasT (w : World) (a : Addr) : Prop := w.var? Tryz.prog "loop.example/g03011/impl.errNoText" = some #[.iface 270 (.pointer (some a))]
def HasN (w : World) (b : Addr) : Prop := w.var? Tryz.prog "loop.example/g03011/impl.errNoNumber" = some #[.iface 270 (.pointer (some b))]
theorem HasT.stays {w w' : World} {a : Addr} (h : HasT w a) (hb : Below w.heap.size w w') : HasT w' a := Joins.var_stays gT h hb (Nat.le_refl _)
theorem HasN.stays {w w' : World} {a : Addr} (h : HasN w a) (hb : Below w.heap.size w w') : HasN w' a := Joins.var_stays gN h hb (Nat.le_refl _)
theorem HasT.cell {w : World} {a : Addr} (h : HasT w a) : w.cell? ⟨1, 0, none⟩ = some (.iface 270 (.pointer (some a))) := by simpa using World.var?_cell gT h 0
theorem HasN.cell {w : World} {a : Addr} (h : HasN w a) : w.cell? ⟨2, 0, none⟩ = some (.iface 270 (.pointer (some a))) := by simpa using World.var?_cell gN h 0



/-- The text of a value, and whether it has one. -/
def tt : Tr → ByteArray × Bool
  | .mk k n s _ _ _ => if k = 0 then (⟨#[]⟩, true) else if k = 1 then (if n = 0 then ⟨#[]⟩ else ⟨#[49]⟩, true) else if k = 2 then (⟨(Lib.itoa n).toArray⟩, true) else if k = 3 then (s, true) else (⟨#[]⟩, false)
theorem tt_mk (k n : Int) (s : ByteArray) (x : Int) (ks : List Ky) (vs : List Tr) : tt (.mk k n s x ks vs) = if k = 0 then (⟨#[]⟩, true) else if k = 1 then (if n = 0 then ⟨#[]⟩ else ⟨#[49]⟩, true) else if k = 2 then (⟨(Lib.itoa n).toArray⟩, true) else if k = 3 then (s, true) else (⟨#[]⟩, false) := rfl
theorem tt_size (k n : Int) (s : ByteArray) (x : Int) (ks : List Ky) (vs : List Tr) (hs : s.size ≤ 1000000000) (hn : -9223372036854775808 ≤ n ∧ n ≤ 9223372036854775807) : (tt (.mk k n s x ks vs)).1.size ≤ 1099511627776 := by
  rw [tt_mk]
  split
  · simp [ByteArray.size]
  · split
    · show ByteArray.size (if n = 0 then _ else _) ≤ _
      split <;> simp [ByteArray.size]
    · split
      · show (Lib.itoa n).toArray.size ≤ _
        have := Lib.itoa_length_le n hn.1 hn.2
        simp
        omega
      · split
        · show s.size ≤ _
          omega
        · simp [ByteArray.size]
/-- ToText's two answers. -/
def ttV (t : Tr) : Value := .tuple #[.string (tt t).1, .int .i64 (if (tt t).2 then 0 else 1)]
/-- textOf's two answers. -/
def toV (a : Addr) (t : Tr) : Value := .tuple #[.string (tt t).1, if (tt t).2 then .nilIface else .iface 270 (.pointer (some a))]

set_option maxHeartbeats 1000000 in
theorem textOf (t : Tr) (v : Value) (w : World) (S : Nat → Prop) (h : TIn w S t v) (hT : tot t ≤ 1000000000) (a : Addr) (hE : fmt.Tab w) (hA : HasT w a) : Calls Tryz.prog 171 #[v] w (GivesQ w (toV a t)) := by
  obtain ⟨k, n, s, x, ks, vs⟩ := t
  have TB := fun w' (hb : Below w.heap.size w w') => toBool_i (.mk k n s x ks vs) v w' S (h.below' hb)
  obtain ⟨A, c, rfl, hk, -⟩ := h.out
  rw [tot_mk] at hT
  have FM := Lib.hid (fun w' (hb : Below w.heap.size w w') => fmt.implFormat n hk.2.1.1 hk.2.1.2 w' (hE.stays hb))
  have HA := Lib.hid hA
  have hc := hA.cell
  unfold toV
  rw [tt_mk]
  obtain ⟨L, HL⟩ : ∃ L, Hid (L = vs.length) := ⟨_, Lib.hid rfl⟩
  rw [← HL.out] at TB ⊢
  have hb0 : k = 1 → tb (.mk k n s x ks vs) = (n != 0) := fun h1 => by
    show (if k = 0 then _ else if k = 1 ∨ k = 2 then _ else _) = _
    rw [if_neg (by omega), if_pos (.inl h1)]
  have TB' := fun (h1 : k = 1) w' (hb : Below w.heap.size w w') => hb0 h1 ▸ TB w' hb
  have HTB := Lib.hid TB'
  clear h hT hk hE hA TB TB' hb0
  by_cases h0 : k = 0
  · subst h0
    show Calls _ _ _ _ (GivesQ w (.tuple #[.string ⟨#[]⟩, .nilIface]))
    go_enter Tryz.func171, Tryz.ntmps171
    go_wp2
    go_ret2
    exact ⟨rfl, b1 _ _⟩
  rw [if_neg h0]
  by_cases h1 : k = 1
  · subst h1
    rw [if_pos rfl]
    by_cases hn : n = 0
    · subst hn
      have TB1 : Hid (∀ w' (hb : Below w.heap.size w w'), Calls Tryz.prog 204 #[vV 1 0 s x A L c] w' (GivesQ w' (.bool false))) := Lib.hid (HTB.out rfl)
      unfold vV at TB1
      show Calls _ _ _ _ (GivesQ w (.tuple #[.string ⟨#[]⟩, .nilIface]))
      go_enter Tryz.func171, Tryz.ntmps171
      go_wp2_with (fail)
      refine (TB1.out _ (b1 w _)).mono ?_
      rintro e w1 ⟨rfl, hb1⟩
      have HB1 := Lib.hid (bs (b1 w _) hb1)
      clear hb1
      go_wp2_with (fail)
      go_ret2
      exact ⟨rfl, HB1.out⟩
    · have hn2 : (n != 0) = true := by simp [hn]
      have TB1 : Hid (∀ w' (hb : Below w.heap.size w w'), Calls Tryz.prog 204 #[vV 1 n s x A L c] w' (GivesQ w' (.bool true))) := Lib.hid (fun w' hb => hn2 ▸ HTB.out rfl w' hb)
      unfold vV at TB1
      rw [if_neg hn]
      clear hn hn2
      show Calls _ _ _ _ (GivesQ w (.tuple #[.string ⟨#[49]⟩, .nilIface]))
      go_enter Tryz.func171, Tryz.ntmps171
      go_wp2_with (fail)
      refine (TB1.out _ (b1 w _)).mono ?_
      rintro e w1 ⟨rfl, hb1⟩
      have HB1 := Lib.hid (bs (b1 w _) hb1)
      clear hb1
      go_wp2_with (fail)
      go_ret2
      exact ⟨rfl, HB1.out⟩
  rw [if_neg h1]
  by_cases h2 : k = 2
  · subst h2
    rw [if_pos rfl]
    obtain ⟨z, HZ⟩ : ∃ z : ByteArray, Hid (⟨(Lib.itoa n).toArray⟩ = z) := ⟨_, Lib.hid rfl⟩
    unfold fmt.num at FM
    rw [HZ.out] at FM ⊢
    show Calls _ _ _ _ (GivesQ w (.tuple #[.string z, .nilIface]))
    go_enter Tryz.func171, Tryz.ntmps171
    go_wp2_with (fail)
    refine (FM.out _ (b1 w _)).mono ?_
    rintro e w1 ⟨rfl, hb1⟩
    have HB1 := Lib.hid (bs (b1 w _) hb1)
    clear hb1
    go_wp2_with (fail)
    go_ret2
    exact ⟨rfl, HB1.out⟩
  rw [if_neg h2]
  by_cases h3 : k = 3
  · subst h3
    rw [if_pos rfl]
    show Calls _ _ _ _ (GivesQ w (.tuple #[.string s, .nilIface]))
    go_enter Tryz.func171, Tryz.ntmps171
    go_wp2
    go_ret2
    exact ⟨rfl, b1 _ _⟩
  rw [if_neg h3]
  have hcn : ∀ o, (w.alloc o).cell? ⟨1, 0, none⟩ = some (.iface 270 (.pointer (some a))) := fun o => (HA.out.stays (b1 w o)).cell
  clear hc
  show Calls _ _ _ _ (GivesQ w (.tuple #[.string ⟨#[]⟩, .iface 270 (.pointer (some a))]))
  go_enter Tryz.func171, Tryz.ntmps171
  go_wp2_with (fail)
  go_region
  all_goals
    go_wp2_with (fail)
    go_ret2
    exact ⟨rfl, (b1 _ _).drew⟩



end Go.Proofs.YtdglmnmalfpipaaGreatDoor.ers

