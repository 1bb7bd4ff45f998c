/-
  What EscapeIn and IsSafeIn of the project return.
  Conditions: the text has at most 2^37 bytes; the table of entities and the library's variable for a wrong form hold what the program's text lays.
-/
import Derived.Test.YtofdnpbmanonpaaDoorWriting
import Derived.Test.YtofdnpbmanonpaaDoorHtmlEsc
import Derived.Test.YtofdnpbmanonpaaDoorUrlEsc
import Derived.Test.YtofdnpbmanonpaaDoorUrlRead
namespace Go.Proofs.YtofdnpbmanonpaaDoor.seq
open Go.ChangeShapes Go.WideShapes Go.ChangeAt Go.RowKit
set_option linter.unusedVariables false

def escIn (k : Int) (l : List UInt8) : List UInt8 := if k = 1 then esc.esc esc.ent l else if k = 2 then esc.esc esc.urlQ l else if k = 3 then esc.esc esc.scrQ l else l
def unIn (k : Int) (l : List UInt8) : Option (List UInt8) := if k = 1 then esc.un esc.rdH l else if k = 2 then esc.un esc.rdU l else if k = 3 then esc.un esc.rdS l else some l
def safeIn (k : Int) (l : List UInt8) : Bool := match unIn k l with
  | none => false
  | some r => decide (escIn k r = l)
theorem safe_none {k : Int} {l : List UInt8} (h : unIn k l = none) : safeIn k l = false := by unfold safeIn; rw [h]
theorem safe_some {k : Int} {l r : List UInt8} (h : unIn k l = some r) : safeIn k l = decide (escIn k r = l) := by unfold safeIn; rw [h]
theorem unIn_len {k : Int} {l r : List UInt8} (h : unIn k l = some r) : r.length ≤ l.length := by
  unfold unIn at h
  split at h
  · exact esc.un_len esc.eats_H _ _ _ (Nat.le_refl _) h
  · split at h
    · exact esc.un_len esc.eats_U _ _ _ (Nat.le_refl _) h
    · split at h
      · exact esc.un_len esc.eats_S _ _ _ (Nat.le_refl _) h
      · cases h; exact Nat.le_refl _

theorem implClone (s : ByteArray) (hs : s.size ≤ 1099511627776) (w : World) : Calls Tryd.prog 45 #[.string s] w fun e w' => e = .returned (.string s) ∧ Below w.heap.size w w' := by
  go_enter Tryd.func45, Tryd.ntmps45
  go_wp2_with (fail)
  refine (Tryd.stringslite_Clone s _ (by omega)).mono ?_
  rintro e w1 ⟨rfl, hb⟩
  go_wp2
  go_ret
  exact ⟨rfl, hb⟩
theorem implRaw (s : ByteArray) (hs : s.size ≤ 1099511627776) (w : World) : Calls Tryd.prog 46 #[.string s] w fun e w' => e = .returned (.tuple #[.string s, .bool true]) ∧ Below w.heap.size w w' := by
  go_enter Tryd.func46, Tryd.ntmps46
  go_wp2_with (fail)
  refine (implClone s hs _).mono ?_
  rintro e w1 ⟨rfl, hb⟩
  go_wp2
  go_ret2
  exact ⟨rfl, hb⟩

theorem str_ne {s x : ByteArray} (h : ¬ x.data.toList = s.data.toList) : ¬ x.toList = s.toList ∧ (x.toList == s.toList) = false := by
  have h1 : ¬ x.toList = s.toList := fun hh => h (by rwa [ByteArray.toList_eq, ByteArray.toList_eq] at hh)
  exact ⟨h1, beq_false_of_ne h1⟩
theorem str_eq {s x : ByteArray} (h : x.data.toList = s.data.toList) : x = s := by
  rw [← Joins.bytes_eta x, ← Joins.bytes_eta s, h]

theorem run_field0 (f g : FuncId) (W : World) : (Instr.field WR (.agg #[.func (.func f) #[] #[], .func (.func g) #[] #[]]) 0).run Tryd.prog W = .ok (.func (.func f) #[] #[]) W := by kernel_rfl

set_option maxRecDepth 100000 in
theorem implIn0 (s : ByteArray) (hs : s.size ≤ 1099511627776) (w : World) (hE : ents.Both w) :
    Calls Tryd.prog 13 #[.int .i64 0, .string s] w (StrQ w (escIn 0 s.data.toList)) := by
  have HE := Lib.hid hE; clear hE
  have HX : Hid (escIn 0 s.data.toList = s.data.toList) := rfl
  have hfl := run_field0 45 46
  go_enter Tryd.func13, Tryd.ntmps13
  go_wp2_with (fail)
  refine (writing0 _).mono ?_
  rintro e w1 ⟨he, hb⟩
  unfold pairOf at he
  subst he
  have HB := Lib.hid hb; have HE1 := Lib.hid (ents.staysBoth _ _ HE.out hb); clear hb
  go_wp2_with (fail)
  refine (implClone s hs _).mono ?_
  rintro e w2 ⟨rfl, hb⟩
  have HB2 := Lib.hid (HB.out.trans (hb.mono HB.out.size)); clear hb
  go_wp2
  go_ret
  exact ⟨by rw [HX.out, tx_eta]; rfl, HB2.out⟩

set_option maxHeartbeats 1000000 in
set_option maxRecDepth 100000 in
theorem implSafe0 (s : ByteArray) (hs : s.size ≤ 1099511627776) (w : World) (hE : ents.Both w) :
    Calls Tryd.prog 20 #[.int .i64 0, .string s] w fun e w' => e = .returned (.bool (safeIn 0 s.data.toList)) ∧ Below w.heap.size w w' := by
  have HE := Lib.hid hE; clear hE
  have HX : ∀ l, Hid (escIn 0 l = l) := fun l => rfl
  have HU : Hid (unIn 0 s.data.toList = some s.data.toList) := rfl
  go_enter Tryd.func20, Tryd.ntmps20
  go_wp2_with (fail)
  refine (writing0 _).mono ?_
  rintro e w1 ⟨he, hb⟩
  unfold pairOf at he
  subst he
  have HB := Lib.hid hb; clear hb
  have hnew : (w1.alloc (.cells nil2 WR)).heap[w1.heap.size]? = some (.cells nil2 WR (0, 0)) := heap_alloc_new w1 _
  obtain ⟨W5, hR, hD, hS⟩ := two_st hnew ((Below.refl w1.heap.size w1).alloc (Nat.le_refl _) _) 45 46
  unfold nil2 at hS
  have HR := Lib.hid hR; have HS := Lib.hid hS; have HB5 := Lib.hid (HB.out.trans (hD.mono HB.out.size)); clear hR hD hS hnew
  have HE5 := Lib.hid (ents.staysBoth _ _ HE.out HB5.out)
  go_wp2
  refine upon_eq HS.out ?_
  rw [Oper.upon_skip]
  have hlt5 : w1.heap.size < W5.heap.size := by
    rcases Nat.lt_or_ge w1.heap.size W5.heap.size with h' | h'
    · exact h'
    · have := HR.out; simp [Array.getElem?_eq_none h'] at this
  have HL5 := Lib.hid hlt5; clear hlt5
  have d1 : W5.cell? ⟨w1.heap.size, 1, none⟩ = some (.func (.func 46) #[] #[]) := Lib.cell_of_heap HR.out 1
  go_wp2_with (fail)
  refine (implRaw s hs _).mono ?_
  rintro e w2 ⟨rfl, hb⟩
  have HB6 := Lib.hid (HB5.out.trans (hb.mono HB5.out.size))
  have d0 : w2.cell? ⟨w1.heap.size, 0, none⟩ = some (.func (.func 45) #[] #[]) := Lib.cell_of_heap ((hb.block _ HL5.out).trans HR.out) 0
  have HSf : Hid (safeIn 0 s.data.toList = true) := by show _ = _; rw [safe_some HU.out, HX s.data.toList |>.out]; simp
  clear d1 hb
  go_wp2_with (fail)
  refine (implClone s hs _).mono ?_
  rintro e w3 ⟨rfl, hb⟩
  have HB7 := Lib.hid (HB6.out.trans (hb.mono HB6.out.size)); clear hb d0
  go_wp2
  go_ret
  exact ⟨by rw [HSf.out]; rfl, HB7.out⟩

set_option maxRecDepth 100000 in
theorem implIn1 (s : ByteArray) (hs : s.size ≤ 1099511627776) (w : World) (hE : ents.Both w) :
    Calls Tryd.prog 13 #[.int .i64 1, .string s] w (StrQ w (escIn 1 s.data.toList)) := by
  have HE := Lib.hid hE; clear hE
  have HX : Hid (escIn 1 s.data.toList = esc.esc esc.ent s.data.toList) := rfl
  have hfl := run_field0 15 14
  go_enter Tryd.func13, Tryd.ntmps13
  go_wp2_with (fail)
  refine (writing1 _).mono ?_
  rintro e w1 ⟨he, hb⟩
  unfold pairOf at he
  subst he
  have HB := Lib.hid hb; have HE1 := Lib.hid (ents.staysBoth _ _ HE.out hb); clear hb
  go_wp2_with (fail)
  refine (implEscHTML s hs _ HE1.out.1).mono ?_
  rintro e w2 ⟨rfl, hb⟩
  have HB2 := Lib.hid (HB.out.trans (hb.mono HB.out.size)); clear hb
  go_wp2
  go_ret
  exact ⟨by rw [HX.out]; rfl, HB2.out⟩

set_option maxHeartbeats 1000000 in
set_option maxRecDepth 100000 in
theorem implSafe1 (s : ByteArray) (hs : s.size ≤ 1099511627776) (w : World) (hE : ents.Both w) :
    Calls Tryd.prog 20 #[.int .i64 1, .string s] w fun e w' => e = .returned (.bool (safeIn 1 s.data.toList)) ∧ Below w.heap.size w w' := by
  have HE := Lib.hid hE; clear hE
  have HX : ∀ l, Hid (escIn 1 l = esc.esc esc.ent l) := fun l => rfl
  have HU : Hid (unIn 1 s.data.toList = esc.un esc.rdH s.data.toList) := rfl
  go_enter Tryd.func20, Tryd.ntmps20
  go_wp2_with (fail)
  refine (writing1 _).mono ?_
  rintro e w1 ⟨he, hb⟩
  unfold pairOf at he
  subst he
  have HB := Lib.hid hb; clear hb
  have hnew : (w1.alloc (.cells nil2 WR)).heap[w1.heap.size]? = some (.cells nil2 WR (0, 0)) := heap_alloc_new w1 _
  obtain ⟨W5, hR, hD, hS⟩ := two_st hnew ((Below.refl w1.heap.size w1).alloc (Nat.le_refl _) _) 15 14
  unfold nil2 at hS
  have HR := Lib.hid hR; have HS := Lib.hid hS; have HB5 := Lib.hid (HB.out.trans (hD.mono HB.out.size)); clear hR hD hS hnew
  have HE5 := Lib.hid (ents.staysBoth _ _ HE.out HB5.out)
  go_wp2
  refine upon_eq HS.out ?_
  rw [Oper.upon_skip]
  have hlt5 : w1.heap.size < W5.heap.size := by
    rcases Nat.lt_or_ge w1.heap.size W5.heap.size with h' | h'
    · exact h'
    · have := HR.out; simp [Array.getElem?_eq_none h'] at this
  have HL5 := Lib.hid hlt5; clear hlt5
  have d1 : W5.cell? ⟨w1.heap.size, 1, none⟩ = some (.func (.func 14) #[] #[]) := Lib.cell_of_heap HR.out 1
  go_wp2_with (fail)
  refine (implUnHTML s hs _ HE5.out.1).mono ?_
  rintro e w2 ⟨he, hb⟩
  have HB6 := Lib.hid (HB5.out.trans (hb.mono HB5.out.size)); have HE6 := Lib.hid (ents.staysBoth _ _ HE5.out hb)
  have d0 : w2.cell? ⟨w1.heap.size, 0, none⟩ = some (.func (.func 15) #[] #[]) := Lib.cell_of_heap ((hb.block _ HL5.out).trans HR.out) 0
  clear d1 hb
  obtain ⟨o, ho⟩ : ∃ o, o = esc.un esc.rdH s.data.toList := ⟨_, rfl⟩
  rw [← ho] at he
  cases o with
  | none =>
    have HSf : Hid (safeIn 1 s.data.toList = false) := safe_none (HU.out.trans ho.symm)
    obtain rfl : e = .returned (.tuple #[.string ⟨#[]⟩, .bool false]) := he
    clear ho d0
    go_wp2
    go_ret
    exact ⟨by rw [HSf.out]; rfl, HB6.out⟩
  | some r =>
    have hr := HU.out.trans ho.symm
    obtain ⟨u, hu⟩ : ∃ u, u = tx r := ⟨_, rfl⟩
    have hus : u.size ≤ 1099511627776 := by rw [hu, tx_size]; have h1 := unIn_len hr; rw [len_eq] at h1; omega
    obtain ⟨y, hy⟩ : ∃ y, y = tx (esc.esc esc.ent r) := ⟨_, rfl⟩
    have HS1 := Lib.hid (safe_some hr)
    obtain rfl : e = .returned (.tuple #[.string u, .bool true]) := he.trans (by rw [hu]; rfl)
    have HUu := Lib.hid hu; have HY := Lib.hid hy
    clear he ho hr hu hy
    go_wp2_with (fail)
    refine (implEscHTML u hus _ HE6.out.1).mono ?_
    rintro e w3 ⟨he, hb⟩
    obtain rfl : e = .returned (.string y) := he.trans (by rw [HY.out, HUu.out])
    have HB7 := Lib.hid (HB6.out.trans (hb.mono HB6.out.size)); clear he hb d0
    by_cases hq : esc.esc esc.ent r = s.data.toList
    · have HSf : Hid (safeIn 1 s.data.toList = true) := by show _ = _; rw [HS1.out, HX r |>.out, decide_eq_true hq]
      obtain rfl : y = s := str_eq (by rw [HY.out]; exact hq)
      clear hq
      go_wp2
      go_ret
      exact ⟨by rw [HSf.out]; rfl, HB7.out⟩
    · have HSf : Hid (safeIn 1 s.data.toList = false) := by show _ = _; rw [HS1.out, HX r |>.out, decide_eq_false hq]
      obtain ⟨q1, q2⟩ := str_ne (s := s) (x := y) (by rw [HY.out]; exact hq)
      clear hq
      go_wp2
      go_ret
      exact ⟨by rw [HSf.out]; rfl, HB7.out⟩

set_option maxRecDepth 100000 in
theorem implIn2 (s : ByteArray) (hs : s.size ≤ 1099511627776) (w : World) (hE : ents.Both w) :
    Calls Tryd.prog 13 #[.int .i64 2, .string s] w (StrQ w (escIn 2 s.data.toList)) := by
  have HE := Lib.hid hE; clear hE
  have HX : Hid (escIn 2 s.data.toList = esc.esc esc.urlQ s.data.toList) := rfl
  have hfl := run_field0 17 16
  go_enter Tryd.func13, Tryd.ntmps13
  go_wp2_with (fail)
  refine (writing2 _).mono ?_
  rintro e w1 ⟨he, hb⟩
  unfold pairOf at he
  subst he
  have HB := Lib.hid hb; have HE1 := Lib.hid (ents.staysBoth _ _ HE.out hb); clear hb
  go_wp2_with (fail)
  refine (implEscURL s hs _).mono ?_
  rintro e w2 ⟨rfl, hb⟩
  have HB2 := Lib.hid (HB.out.trans (hb.mono HB.out.size)); clear hb
  go_wp2
  go_ret
  exact ⟨by rw [HX.out]; rfl, HB2.out⟩

set_option maxHeartbeats 1000000 in
set_option maxRecDepth 100000 in
theorem implSafe2 (s : ByteArray) (hs : s.size ≤ 1099511627776) (w : World) (hE : ents.Both w) :
    Calls Tryd.prog 20 #[.int .i64 2, .string s] w fun e w' => e = .returned (.bool (safeIn 2 s.data.toList)) ∧ Below w.heap.size w w' := by
  have HE := Lib.hid hE; clear hE
  have HX : ∀ l, Hid (escIn 2 l = esc.esc esc.urlQ l) := fun l => rfl
  have HU : Hid (unIn 2 s.data.toList = esc.un esc.rdU s.data.toList) := rfl
  go_enter Tryd.func20, Tryd.ntmps20
  go_wp2_with (fail)
  refine (writing2 _).mono ?_
  rintro e w1 ⟨he, hb⟩
  unfold pairOf at he
  subst he
  have HB := Lib.hid hb; clear hb
  have hnew : (w1.alloc (.cells nil2 WR)).heap[w1.heap.size]? = some (.cells nil2 WR (0, 0)) := heap_alloc_new w1 _
  obtain ⟨W5, hR, hD, hS⟩ := two_st hnew ((Below.refl w1.heap.size w1).alloc (Nat.le_refl _) _) 17 16
  unfold nil2 at hS
  have HR := Lib.hid hR; have HS := Lib.hid hS; have HB5 := Lib.hid (HB.out.trans (hD.mono HB.out.size)); clear hR hD hS hnew
  have HE5 := Lib.hid (ents.staysBoth _ _ HE.out HB5.out)
  go_wp2
  refine upon_eq HS.out ?_
  rw [Oper.upon_skip]
  have hlt5 : w1.heap.size < W5.heap.size := by
    rcases Nat.lt_or_ge w1.heap.size W5.heap.size with h' | h'
    · exact h'
    · have := HR.out; simp [Array.getElem?_eq_none h'] at this
  have HL5 := Lib.hid hlt5; clear hlt5
  have d1 : W5.cell? ⟨w1.heap.size, 1, none⟩ = some (.func (.func 16) #[] #[]) := Lib.cell_of_heap HR.out 1
  go_wp2_with (fail)
  refine (implUnURL s hs _ HE5.out.2).mono ?_
  rintro e w2 ⟨he, hb⟩
  have HB6 := Lib.hid (HB5.out.trans (hb.mono HB5.out.size)); have HE6 := Lib.hid (ents.staysBoth _ _ HE5.out hb)
  have d0 : w2.cell? ⟨w1.heap.size, 0, none⟩ = some (.func (.func 17) #[] #[]) := Lib.cell_of_heap ((hb.block _ HL5.out).trans HR.out) 0
  clear d1 hb
  obtain ⟨o, ho⟩ : ∃ o, o = esc.un esc.rdU s.data.toList := ⟨_, rfl⟩
  rw [← ho] at he
  cases o with
  | none =>
    have HSf : Hid (safeIn 2 s.data.toList = false) := safe_none (HU.out.trans ho.symm)
    obtain rfl : e = .returned (.tuple #[.string ⟨#[]⟩, .bool false]) := he
    clear ho d0
    go_wp2
    go_ret
    exact ⟨by rw [HSf.out]; rfl, HB6.out⟩
  | some r =>
    have hr := HU.out.trans ho.symm
    obtain ⟨u, hu⟩ : ∃ u, u = tx r := ⟨_, rfl⟩
    have hus : u.size ≤ 1099511627776 := by rw [hu, tx_size]; have h1 := unIn_len hr; rw [len_eq] at h1; omega
    obtain ⟨y, hy⟩ : ∃ y, y = tx (esc.esc esc.urlQ r) := ⟨_, rfl⟩
    have HS1 := Lib.hid (safe_some hr)
    obtain rfl : e = .returned (.tuple #[.string u, .bool true]) := he.trans (by rw [hu]; rfl)
    have HUu := Lib.hid hu; have HY := Lib.hid hy
    clear he ho hr hu hy
    go_wp2_with (fail)
    refine (implEscURL u hus _).mono ?_
    rintro e w3 ⟨he, hb⟩
    obtain rfl : e = .returned (.string y) := he.trans (by rw [HY.out, HUu.out])
    have HB7 := Lib.hid (HB6.out.trans (hb.mono HB6.out.size)); clear he hb d0
    by_cases hq : esc.esc esc.urlQ r = s.data.toList
    · have HSf : Hid (safeIn 2 s.data.toList = true) := by show _ = _; rw [HS1.out, HX r |>.out, decide_eq_true hq]
      obtain rfl : y = s := str_eq (by rw [HY.out]; exact hq)
      clear hq
      go_wp2
      go_ret
      exact ⟨by rw [HSf.out]; rfl, HB7.out⟩
    · have HSf : Hid (safeIn 2 s.data.toList = false) := by show _ = _; rw [HS1.out, HX r |>.out, decide_eq_false hq]
      obtain ⟨q1, q2⟩ := str_ne (s := s) (x := y) (by rw [HY.out]; exact hq)
      clear hq
      go_wp2
      go_ret
      exact ⟨by rw [HSf.out]; rfl, HB7.out⟩

set_option maxRecDepth 100000 in
theorem implIn3 (s : ByteArray) (hs : s.size ≤ 1099511627776) (w : World) (hE : ents.Both w) :
    Calls Tryd.prog 13 #[.int .i64 3, .string s] w (StrQ w (escIn 3 s.data.toList)) := by
  have HE := Lib.hid hE; clear hE
  have HX : Hid (escIn 3 s.data.toList = esc.esc esc.scrQ s.data.toList) := rfl
  have hfl := run_field0 19 18
  go_enter Tryd.func13, Tryd.ntmps13
  go_wp2_with (fail)
  refine (writing3 _).mono ?_
  rintro e w1 ⟨he, hb⟩
  unfold pairOf at he
  subst he
  have HB := Lib.hid hb; have HE1 := Lib.hid (ents.staysBoth _ _ HE.out hb); clear hb
  go_wp2_with (fail)
  refine (implEscScript s hs _).mono ?_
  rintro e w2 ⟨rfl, hb⟩
  have HB2 := Lib.hid (HB.out.trans (hb.mono HB.out.size)); clear hb
  go_wp2
  go_ret
  exact ⟨by rw [HX.out]; rfl, HB2.out⟩

set_option maxHeartbeats 1000000 in
set_option maxRecDepth 100000 in
theorem implSafe3 (s : ByteArray) (hs : s.size ≤ 1099511627776) (w : World) (hE : ents.Both w) :
    Calls Tryd.prog 20 #[.int .i64 3, .string s] w fun e w' => e = .returned (.bool (safeIn 3 s.data.toList)) ∧ Below w.heap.size w w' := by
  have HE := Lib.hid hE; clear hE
  have HX : ∀ l, Hid (escIn 3 l = esc.esc esc.scrQ l) := fun l => rfl
  have HU : Hid (unIn 3 s.data.toList = esc.un esc.rdS s.data.toList) := rfl
  go_enter Tryd.func20, Tryd.ntmps20
  go_wp2_with (fail)
  refine (writing3 _).mono ?_
  rintro e w1 ⟨he, hb⟩
  unfold pairOf at he
  subst he
  have HB := Lib.hid hb; clear hb
  have hnew : (w1.alloc (.cells nil2 WR)).heap[w1.heap.size]? = some (.cells nil2 WR (0, 0)) := heap_alloc_new w1 _
  obtain ⟨W5, hR, hD, hS⟩ := two_st hnew ((Below.refl w1.heap.size w1).alloc (Nat.le_refl _) _) 19 18
  unfold nil2 at hS
  have HR := Lib.hid hR; have HS := Lib.hid hS; have HB5 := Lib.hid (HB.out.trans (hD.mono HB.out.size)); clear hR hD hS hnew
  have HE5 := Lib.hid (ents.staysBoth _ _ HE.out HB5.out)
  go_wp2
  refine upon_eq HS.out ?_
  rw [Oper.upon_skip]
  have hlt5 : w1.heap.size < W5.heap.size := by
    rcases Nat.lt_or_ge w1.heap.size W5.heap.size with h' | h'
    · exact h'
    · have := HR.out; simp [Array.getElem?_eq_none h'] at this
  have HL5 := Lib.hid hlt5; clear hlt5
  have d1 : W5.cell? ⟨w1.heap.size, 1, none⟩ = some (.func (.func 18) #[] #[]) := Lib.cell_of_heap HR.out 1
  go_wp2_with (fail)
  refine (implUnScript s hs _ HE5.out.2).mono ?_
  rintro e w2 ⟨he, hb⟩
  have HB6 := Lib.hid (HB5.out.trans (hb.mono HB5.out.size)); have HE6 := Lib.hid (ents.staysBoth _ _ HE5.out hb)
  have d0 : w2.cell? ⟨w1.heap.size, 0, none⟩ = some (.func (.func 19) #[] #[]) := Lib.cell_of_heap ((hb.block _ HL5.out).trans HR.out) 0
  clear d1 hb
  obtain ⟨o, ho⟩ : ∃ o, o = esc.un esc.rdS s.data.toList := ⟨_, rfl⟩
  rw [← ho] at he
  cases o with
  | none =>
    have HSf : Hid (safeIn 3 s.data.toList = false) := safe_none (HU.out.trans ho.symm)
    obtain rfl : e = .returned (.tuple #[.string ⟨#[]⟩, .bool false]) := he
    clear ho d0
    go_wp2
    go_ret
    exact ⟨by rw [HSf.out]; rfl, HB6.out⟩
  | some r =>
    have hr := HU.out.trans ho.symm
    obtain ⟨u, hu⟩ : ∃ u, u = tx r := ⟨_, rfl⟩
    have hus : u.size ≤ 1099511627776 := by rw [hu, tx_size]; have h1 := unIn_len hr; rw [len_eq] at h1; omega
    obtain ⟨y, hy⟩ : ∃ y, y = tx (esc.esc esc.scrQ r) := ⟨_, rfl⟩
    have HS1 := Lib.hid (safe_some hr)
    obtain rfl : e = .returned (.tuple #[.string u, .bool true]) := he.trans (by rw [hu]; rfl)
    have HUu := Lib.hid hu; have HY := Lib.hid hy
    clear he ho hr hu hy
    go_wp2_with (fail)
    refine (implEscScript u hus _).mono ?_
    rintro e w3 ⟨he, hb⟩
    obtain rfl : e = .returned (.string y) := he.trans (by rw [HY.out, HUu.out])
    have HB7 := Lib.hid (HB6.out.trans (hb.mono HB6.out.size)); clear he hb d0
    by_cases hq : esc.esc esc.scrQ r = s.data.toList
    · have HSf : Hid (safeIn 3 s.data.toList = true) := by show _ = _; rw [HS1.out, HX r |>.out, decide_eq_true hq]
      obtain rfl : y = s := str_eq (by rw [HY.out]; exact hq)
      clear hq
      go_wp2
      go_ret
      exact ⟨by rw [HSf.out]; rfl, HB7.out⟩
    · have HSf : Hid (safeIn 3 s.data.toList = false) := by show _ = _; rw [HS1.out, HX r |>.out, decide_eq_false hq]
      obtain ⟨q1, q2⟩ := str_ne (s := s) (x := y) (by rw [HY.out]; exact hq)
      clear hq
      go_wp2
      go_ret
      exact ⟨by rw [HSf.out]; rfl, HB7.out⟩

set_option maxRecDepth 100000 in
theorem implInX (x : Int) (h0 : ¬ 0 = x) (h1 : ¬ 1 = x) (h2 : ¬ 2 = x) (h3 : ¬ 3 = x) (s : ByteArray) (hs : s.size ≤ 1099511627776) (w : World) (hE : ents.Both w) :
    Calls Tryd.prog 13 #[.int .i64 x, .string s] w (StrQ w (escIn x s.data.toList)) := by
  have HE := Lib.hid hE; clear hE
  have HX : Hid (escIn x s.data.toList = s.data.toList) := (by unfold escIn; rw [if_neg (fun h => h1 h.symm), if_neg (fun h => h2 h.symm), if_neg (fun h => h3 h.symm)]; exact rfl)
  have hfl := run_field0 45 46
  go_enter Tryd.func13, Tryd.ntmps13
  go_wp2_with (fail)
  refine (writingX x h0 h1 h2 h3 _).mono ?_
  rintro e w1 ⟨he, hb⟩
  unfold pairOf at he
  subst he
  have HB := Lib.hid hb; have HE1 := Lib.hid (ents.staysBoth _ _ HE.out hb); clear hb
  go_wp2_with (fail)
  refine (implClone s hs _).mono ?_
  rintro e w2 ⟨rfl, hb⟩
  have HB2 := Lib.hid (HB.out.trans (hb.mono HB.out.size)); clear hb
  go_wp2
  go_ret
  exact ⟨by rw [HX.out, tx_eta]; rfl, HB2.out⟩

set_option maxHeartbeats 1000000 in
set_option maxRecDepth 100000 in
theorem implSafeX (x : Int) (h0 : ¬ 0 = x) (h1 : ¬ 1 = x) (h2 : ¬ 2 = x) (h3 : ¬ 3 = x) (s : ByteArray) (hs : s.size ≤ 1099511627776) (w : World) (hE : ents.Both w) :
    Calls Tryd.prog 20 #[.int .i64 x, .string s] w fun e w' => e = .returned (.bool (safeIn x s.data.toList)) ∧ Below w.heap.size w w' := by
  have HE := Lib.hid hE; clear hE
  have HX : ∀ l, Hid (escIn x l = l) := fun l => (by unfold escIn; rw [if_neg (fun h => h1 h.symm), if_neg (fun h => h2 h.symm), if_neg (fun h => h3 h.symm)]; exact rfl)
  have HU : Hid (unIn x s.data.toList = some s.data.toList) := (by unfold unIn; rw [if_neg (fun h => h1 h.symm), if_neg (fun h => h2 h.symm), if_neg (fun h => h3 h.symm)]; exact rfl)
  go_enter Tryd.func20, Tryd.ntmps20
  go_wp2_with (fail)
  refine (writingX x h0 h1 h2 h3 _).mono ?_
  rintro e w1 ⟨he, hb⟩
  unfold pairOf at he
  subst he
  have HB := Lib.hid hb; clear hb
  have hnew : (w1.alloc (.cells nil2 WR)).heap[w1.heap.size]? = some (.cells nil2 WR (0, 0)) := heap_alloc_new w1 _
  obtain ⟨W5, hR, hD, hS⟩ := two_st hnew ((Below.refl w1.heap.size w1).alloc (Nat.le_refl _) _) 45 46
  unfold nil2 at hS
  have HR := Lib.hid hR; have HS := Lib.hid hS; have HB5 := Lib.hid (HB.out.trans (hD.mono HB.out.size)); clear hR hD hS hnew
  have HE5 := Lib.hid (ents.staysBoth _ _ HE.out HB5.out)
  go_wp2
  refine upon_eq HS.out ?_
  rw [Oper.upon_skip]
  have hlt5 : w1.heap.size < W5.heap.size := by
    rcases Nat.lt_or_ge w1.heap.size W5.heap.size with h' | h'
    · exact h'
    · have := HR.out; simp [Array.getElem?_eq_none h'] at this
  have HL5 := Lib.hid hlt5; clear hlt5
  have d1 : W5.cell? ⟨w1.heap.size, 1, none⟩ = some (.func (.func 46) #[] #[]) := Lib.cell_of_heap HR.out 1
  go_wp2_with (fail)
  refine (implRaw s hs _).mono ?_
  rintro e w2 ⟨rfl, hb⟩
  have HB6 := Lib.hid (HB5.out.trans (hb.mono HB5.out.size))
  have d0 : w2.cell? ⟨w1.heap.size, 0, none⟩ = some (.func (.func 45) #[] #[]) := Lib.cell_of_heap ((hb.block _ HL5.out).trans HR.out) 0
  have HSf : Hid (safeIn x s.data.toList = true) := by show _ = _; rw [safe_some HU.out, HX s.data.toList |>.out]; simp
  clear d1 hb
  go_wp2_with (fail)
  refine (implClone s hs _).mono ?_
  rintro e w3 ⟨rfl, hb⟩
  have HB7 := Lib.hid (HB6.out.trans (hb.mono HB6.out.size)); clear hb d0
  go_wp2
  go_ret
  exact ⟨by rw [HSf.out]; rfl, HB7.out⟩

theorem implEscIn (k : Int) (s : ByteArray) (hs : s.size ≤ 1099511627776) (w : World) (hE : ents.Both w) :
    Calls Tryd.prog 13 #[.int .i64 k, .string s] w (StrQ w (escIn k s.data.toList)) := by
  by_cases h0 : 0 = k
  · subst h0; exact implIn0 s hs w hE
  · by_cases h1 : 1 = k
    · subst h1; exact implIn1 s hs w hE
    · by_cases h2 : 2 = k
      · subst h2; exact implIn2 s hs w hE
      · by_cases h3 : 3 = k
        · subst h3; exact implIn3 s hs w hE
        · exact implInX k h0 h1 h2 h3 s hs w hE
theorem implSafeIn (k : Int) (s : ByteArray) (hs : s.size ≤ 1099511627776) (w : World) (hE : ents.Both w) :
    Calls Tryd.prog 20 #[.int .i64 k, .string s] w fun e w' => e = .returned (.bool (safeIn k s.data.toList)) ∧ Below w.heap.size w w' := by
  by_cases h0 : 0 = k
  · subst h0; exact implSafe0 s hs w hE
  · by_cases h1 : 1 = k
    · subst h1; exact implSafe1 s hs w hE
    · by_cases h2 : 2 = k
      · subst h2; exact implSafe2 s hs w hE
      · by_cases h3 : 3 = k
        · subst h3; exact implSafe3 s hs w hE
        · exact implSafeX k h0 h1 h2 h3 s hs w hE

end Go.Proofs.YtofdnpbmanonpaaDoor.seq
