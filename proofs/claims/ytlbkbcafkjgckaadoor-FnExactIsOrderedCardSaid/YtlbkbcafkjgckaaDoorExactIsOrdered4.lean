/-
  What the texts behind this one use: 13 of the parts of one proof.
  Conditions: those that each theorem names.
-/
import Derived.Deep.DeepCutAuto
import Derived.Deep.RegionWith
import Derived.BigQuiet
import Derived.Maps.AppendAt
import Derived.Test.YtlbkbcafkjgckaaDoorRows
import Derived.WalkKit
import Derived.ProofKit
import Derived.IntWalk
import Derived.Lib.Hide
import Derived.Deep.QuietTactic
import Derived.WalkLawsBesides
import Derived.Deep.RegionHeld3
import Derived.Deep.CutBlock
import Derived.OpenShut
import Derived.Carry
import Derived.Test.YtlbkbcafkjgckaaDoorExactIsOrdered1
import Derived.Test.YtlbkbcafkjgckaaDoorExactIsOrdered2
import Derived.Test.YtlbkbcafkjgckaaDoorExactIsOrdered3
/-
  How the project compares two values without going into arrays.
  Conditions: the values hold at most 10^9 items and letters; the table of powers of ten and the project's two errors hold what the program's text lays.
-/
namespace Go.Proofs.YtlbkbcafkjgckaaDoor.tree
open Go.ChangeShapes Go.WideShapes Go.ChangeAt Go.RowKit ers
set_option linter.unusedVariables false

theorem isNullAndText (k n : Int) (s : ByteArray) (x : Int) (A : Option Addr) (L c : Nat) (k' n' : Int) (s' : ByteArray) (x' : Int) (A' : Option Addr) (L' c' : Nat) (w : World) :
    Calls Tryd.prog 111 #[vV k n s x A L c, vV k' n' s' x' A' L' c'] w (GivesQ w (.bool (decide (k = 0) && decide (k' = 3)))) := by
  by_cases h1 : k = 0
  · subst h1
    have e : decide ((0 : Int) = 0) = true := rfl
    rw [e, Bool.true_and]
    go_enter Tryd.func111, Tryd.ntmps111
    go_wp2
    go_ret
    exact ⟨rfl, b2 _ _ _⟩
  · rw [decide_eq_false h1, Bool.false_and]
    go_enter Tryd.func111, Tryd.ntmps111
    go_wp2
    go_ret
    exact ⟨rfl, b2 _ _ _⟩
theorem areArrays (k n : Int) (s : ByteArray) (x : Int) (A : Option Addr) (L c : Nat) (k' n' : Int) (s' : ByteArray) (x' : Int) (A' : Option Addr) (L' c' : Nat) (w : World) :
    Calls Tryd.prog 71 #[vV k n s x A L c, vV k' n' s' x' A' L' c'] w (GivesQ w (.bool (decide (k = 4) && decide (k' = 4)))) := by
  by_cases h1 : k = 4
  · subst h1
    have e : decide ((4 : Int) = 4) = true := rfl
    rw [e, Bool.true_and]
    go_enter Tryd.func71, Tryd.ntmps71
    go_wp2
    go_ret
    exact ⟨rfl, b2 _ _ _⟩
  · rw [decide_eq_false h1, Bool.false_and]
    go_enter Tryd.func71, Tryd.ntmps71
    go_wp2
    go_ret
    exact ⟨rfl, b2 _ _ _⟩
theorem isNullOrBool (k n : Int) (s : ByteArray) (x : Int) (A : Option Addr) (L c : Nat) (w : World) :
    Calls Tryd.prog 113 #[vV k n s x A L c] w (GivesQ w (.bool (decide (k = 0) || decide (k = 1)))) := by
  by_cases h1 : k = 0
  · subst h1
    have e : decide ((0 : Int) = 0) = true := rfl
    rw [e, Bool.true_or]
    go_enter Tryd.func113, Tryd.ntmps113
    go_wp2
    go_ret
    exact ⟨rfl, b1 _ _⟩
  · rw [decide_eq_false h1, Bool.false_or]
    have e0 : (k == 0 || k == 1) = decide (k = 1) := by by_cases h : k = 1 <;> simp_all
    go_enter Tryd.func113, Tryd.ntmps113
    go_wp2
    go_ret
    exact ⟨by rw [← e0]; rfl, b1 _ _⟩
theorem isIntOrText (k n : Int) (s : ByteArray) (x : Int) (A : Option Addr) (L c : Nat) (w : World) :
    Calls Tryd.prog 116 #[vV k n s x A L c] w (GivesQ w (.bool (decide (k = 2) || decide (k = 3)))) := by
  by_cases h1 : k = 2
  · subst h1
    have e : decide ((2 : Int) = 2) = true := rfl
    rw [e, Bool.true_or]
    go_enter Tryd.func116, Tryd.ntmps116
    go_wp2
    go_ret
    exact ⟨rfl, b1 _ _⟩
  · rw [decide_eq_false h1, Bool.false_or]
    have e0 : (k == 2 || k == 3) = decide (k = 3) := by by_cases h : k = 3 <;> simp_all
    go_enter Tryd.func116, Tryd.ntmps116
    go_wp2
    go_ret
    exact ⟨by rw [← e0]; rfl, b1 _ _⟩

theorem compareTexts (t t' : Tr) (v v' : Value) (w : World) (S S' : Nat → Prop) (h : TIn w S t v) (h' : TIn w S' t' v') (hT : tot t ≤ 1000000000) (hT' : tot t' ≤ 1000000000) (hE : CmE w) :
    Calls Tryd.prog 112 #[v, v'] w (GivesQ w (.int .i64 (bys (tt t).1 (tt t').1))) := by
  obtain ⟨hF, ⟨a, hA⟩, -⟩ := hE
  have TO := fun w' (hb : Below w.heap.size w w') => textOf t v w' S (h.below' hb) hT a (hF.stays hb) (hA.stays hb)
  have TO' := fun w' (hb : Below w.heap.size w w') => textOf t' v' w' S' (h'.below' hb) hT' a (hF.stays hb) (hA.stays hb)
  obtain ⟨k, n, s, x, A, L, c, rfl⟩ : ∃ k n s x A L c, v = vV k n s x A L c := by
    cases h with
    | mk k n s x ks vs A cap C => exact ⟨k, n, s, x, A, _, cap, rfl⟩
  obtain ⟨k', n', s', x', A', L', c', rfl⟩ : ∃ k n s x A L c, v' = vV k n s x A L c := by
    cases h' with
    | mk k n s x ks vs A cap C => exact ⟨k, n, s, x, A, _, cap, rfl⟩
  unfold toV at TO TO'
  obtain ⟨z, HZ⟩ : ∃ z, Hid ((tt t).1 = z) := ⟨_, Lib.hid rfl⟩
  obtain ⟨z', HZ'⟩ : ∃ z, Hid ((tt t').1 = z) := ⟨_, Lib.hid rfl⟩
  rw [HZ.out] at TO ⊢
  rw [HZ'.out] at TO' ⊢
  obtain ⟨q, HQ⟩ : ∃ q : Value, Hid ((if (tt t).2 = true then Value.nilIface else .iface 206 (.pointer (some a))) = q) := ⟨_, Lib.hid rfl⟩
  obtain ⟨q', HQ'⟩ : ∃ q : Value, Hid ((if (tt t').2 = true then Value.nilIface else .iface 206 (.pointer (some a))) = q) := ⟨_, Lib.hid rfl⟩
  rw [HQ.out] at TO
  rw [HQ'.out] at TO'
  replace TO := Lib.hid TO
  replace TO' := Lib.hid TO'
  clear h h' hF hA HZ HZ' HQ HQ'
  go_enter Tryd.func112, Tryd.ntmps112
  go_wp2_with (fail)
  refine (TO.out _ (b2 w _ _)).mono ?_
  rintro e w1 ⟨rfl, hb1⟩
  have E1 := Lib.hid (carry hb1 (heap_alloc2_new w _ _))
  have HB1 := Lib.hid (bs (b2 w _ _) hb1)
  obtain ⟨r1, -⟩ := rowc E1.out
  clear hb1
  go_wp2_with (fail)
  refine (TO'.out _ HB1.out).mono ?_
  rintro e w2 ⟨rfl, hb2⟩
  have HB2 := Lib.hid (bs HB1.out hb2)
  clear hb2 r1
  go_wp2_with (fail)
  refine (Tryd.strings_Compare z z' _).mono ?_
  rintro e w3 ⟨rfl, rfl⟩
  go_wp2_with (fail)
  go_ret
  exact ⟨rfl, HB2.out⟩

def CutQ (w : World) (b : Bool) (N : Nat) (C C' : Array Value) (v : Value) (wx : World) : Prop :=
  v = .bool b ∧ Below w.heap.size w wx ∧ wx.heap[N]? = some (.cells C IV (0, 0)) ∧ wx.heap[N + 1]? = some (.cells C' IV (0, 0))
def CutN (w : World) (z : Int) (v : Value) (wx : World) : Prop := v = .int .i64 z ∧ Below w.heap.size w wx

set_option maxHeartbeats 4000000 in
set_option maxRecDepth 100000 in
theorem compareOutside (t t' : Tr) (v v' : Value) (w : World) (S S' : Nat → Prop) (h : TIn w S t v) (h' : TIn w S' t' v') (hT : tot t ≤ 1000000000) (hT' : tot t' ≤ 1000000000) (hE : CmE w) :
    Calls Tryd.prog 70 #[v, v'] w (GivesQ w (.int .i64 (ordO t t'))) := by
  obtain ⟨k, n, s, x, ks, vs⟩ := t
  obtain ⟨k', n', s', x', ks', vs'⟩ := t'
  obtain ⟨A, c, rfl, -, hin⟩ := h.out
  obtain ⟨A', c', rfl, -, hin'⟩ := h'.out
  have NU : ∀ w', Below w.heap.size w w' → ∃ b, Calls Tryd.prog 84 #[vV k n s x A vs.length c] w' (GivesQ w' (noV b (.mk k n s x ks vs))) := fun w' hb => by
    obtain ⟨-, -, b, hB⟩ := hE
    exact ⟨b, numberOf _ _ w' S (h.below' hb) hT b (hB.stays hb)⟩
  have NU' : ∀ w', Below w.heap.size w w' → ∃ b, Calls Tryd.prog 84 #[vV k' n' s' x' A' vs'.length c'] w' (GivesQ w' (noV b (.mk k' n' s' x' ks' vs'))) := fun w' hb => by
    obtain ⟨-, -, b, hB⟩ := hE
    exact ⟨b, numberOf _ _ w' S' (h'.below' hb) hT' b (hB.stays hb)⟩
  have TR := fun w' (hb : Below w.heap.size w w') => truth_i _ _ w' S (h.below' hb)
  have TR' := fun w' (hb : Below w.heap.size w w') => truth_i _ _ w' S' (h'.below' hb)
  have CT := fun w' (hb : Below w.heap.size w w') => compareTexts _ _ _ _ w' S S' (h.below' hb) (h'.below' hb) hT hT' (hE.stays hb)
  unfold noV at *
  rw [ordO_mk]
  obtain ⟨L, HL⟩ : ∃ L, Hid (vs.length = L) := ⟨_, Lib.hid rfl⟩
  obtain ⟨L', HL'⟩ : ∃ L, Hid (vs'.length = L) := ⟨_, Lib.hid rfl⟩
  have hm : L ≤ maxLen := by rw [← HL.out]; exact hin.2.1
  have hm' : L' ≤ maxLen := by rw [← HL'.out]; exact hin'.2.1
  unfold maxLen at hm hm'
  rw [HL.out] at NU TR CT ⊢
  rw [HL'.out] at NU' TR' CT ⊢
  obtain ⟨⟨m1, o1⟩, HN⟩ : ∃ z, Hid (nn (.mk k n s x ks vs) = z) := ⟨_, Lib.hid rfl⟩
  obtain ⟨⟨m2, o2⟩, HN'⟩ : ∃ z, Hid (nn (.mk k' n' s' x' ks' vs') = z) := ⟨_, Lib.hid rfl⟩
  rw [HN.out] at NU ⊢
  rw [HN'.out] at NU' ⊢
  obtain ⟨p1, HP⟩ : ∃ z, Hid (tr01 (.mk k n s x ks vs) = z) := ⟨_, Lib.hid rfl⟩
  obtain ⟨p2, HP'⟩ : ∃ z, Hid (tr01 (.mk k' n' s' x' ks' vs') = z) := ⟨_, Lib.hid rfl⟩
  rw [HP.out] at TR ⊢
  rw [HP'.out] at TR' ⊢
  obtain ⟨y, HY⟩ : ∃ z, Hid (bys (tt (.mk k n s x ks vs)).1 (tt (.mk k' n' s' x' ks' vs')).1 = z) := ⟨_, Lib.hid rfl⟩
  rw [HY.out] at CT ⊢
  replace NU := Lib.hid NU
  replace NU' := Lib.hid NU'
  replace TR := Lib.hid TR
  replace TR' := Lib.hid TR'
  replace CT := Lib.hid CT
  have NT := Lib.hid (fun w' => isNullAndText k n s x A L c k' n' s' x' A' L' c' w')
  have NT' := Lib.hid (fun w' => isNullAndText k' n' s' x' A' L' c' k n s x A L c w')
  have NB := Lib.hid (fun w' => isNullOrBool k n s x A L c w')
  have NB' := Lib.hid (fun w' => isNullOrBool k' n' s' x' A' L' c' w')
  have IT := Lib.hid (fun w' => isIntOrText k n s x A L c w')
  have IT' := Lib.hid (fun w' => isIntOrText k' n' s' x' A' L' c' w')
  have AR := Lib.hid (fun w' => areArrays k n s x A L c k' n' s' x' A' L' c' w')
  have HE := Lib.hid hE
  clear h h' hin hin' hT hT' hE HN HN' HP HP' HY
  show Calls _ _ _ _ (GivesQ w (.int .i64 (if (k = 0 ∧ k' = 3) ∨ (k' = 0 ∧ k = 3) then y else if (k = 0 ∨ k = 1) ∨ (k' = 0 ∨ k' = 1) then Lib.compareInt p1 p2 else if o1 = true ∧ o2 = true then Lib.compareInt m1 m2
    else if (k = 2 ∨ k = 3) ∧ (k' = 2 ∨ k' = 3) then y else if k = 4 ∧ k' = 4 then Lib.compareInt L L' else if k = 4 then 1 else if k' = 4 then -1 else if k = k' ∧ n = n' then 0 else 2)))
  obtain ⟨W, HW⟩ : ∃ z, Hid ((if (k = 0 ∧ k' = 3) ∨ (k' = 0 ∧ k = 3) then y else if (k = 0 ∨ k = 1) ∨ (k' = 0 ∨ k' = 1) then Lib.compareInt p1 p2 else if o1 = true ∧ o2 = true then Lib.compareInt m1 m2
    else if (k = 2 ∨ k = 3) ∧ (k' = 2 ∨ k' = 3) then y else if k = 4 ∧ k' = 4 then Lib.compareInt L L' else if k = 4 then 1 else if k' = 4 then -1 else if k = k' ∧ n = n' then 0 else 2) = z) := ⟨_, Lib.hid rfl⟩
  rw [HW.out]
  go_enter Tryd.func70, Tryd.ntmps70
  go_wp2_with (fail)
  obtain ⟨b0, N0⟩ := NU.out _ (b2 w (.cells #[.int .i64 k, .int .i64 n, .string s, .int .i64 x, .slice A L c] IV) (.cells #[.int .i64 k', .int .i64 n', .string s', .int .i64 x', .slice A' L' c'] IV))
  obtain ⟨q1, HQ1⟩ : ∃ q : Value, Hid ((if o1 = true then Value.nilIface else .iface 206 (.pointer (some b0))) = q) := ⟨_, Lib.hid rfl⟩
  rw [HQ1.out] at N0
  refine N0.mono ?_
  rintro e w1 ⟨rfl, hb1⟩
  have EA := Lib.hid (carry hb1 (heap_alloc2_old w _ _))
  have EB := Lib.hid (carry hb1 (heap_alloc2_new w _ _))
  have HB1 := Lib.hid (bs (b2 w _ _) hb1)
  obtain ⟨rB, -⟩ := rowc EB.out
  clear hb1 N0
  go_wp2_with (fail)
  obtain ⟨b9, N9⟩ := NU'.out _ HB1.out
  obtain ⟨q2, HQ2⟩ : ∃ q : Value, Hid ((if o2 = true then Value.nilIface else .iface 206 (.pointer (some b9))) = q) := ⟨_, Lib.hid rfl⟩
  rw [HQ2.out] at N9
  refine N9.mono ?_
  rintro e w2 ⟨rfl, hb2⟩
  have EA2 := Lib.hid (carry hb2 EA.out)
  have EB2 := Lib.hid (carry hb2 EB.out)
  have HB2 := Lib.hid (bs HB1.out hb2)
  clear hb2 N9 rB EA EB
  obtain ⟨rA, -⟩ := rowc EA2.out
  obtain ⟨rB, -⟩ := rowc EB2.out
  go_upto_region 3 with fail
  go_cut [19] (fun v wx => CutQ w2 ((decide (k = 0) && decide (k' = 3)) || (decide (k' = 0) && decide (k = 3))) w.heap.size #[.int .i64 k, .int .i64 n, .string s, .int .i64 x, .slice A L c] #[.int .i64 k', .int .i64 n', .string s', .int .i64 x', .slice A' L' c'] v wx)
  case first =>
    go_wp2_with (fail)
    refine (NT.out _).mono ?_
    rintro e w3 ⟨rfl, hb3⟩
    have EA3 := Lib.hid (carry hb3 EA2.out)
    have EB3 := Lib.hid (carry hb3 EB2.out)
    have HB3 := Lib.hid hb3
    clear hb3 rA rB
    obtain ⟨rA, -⟩ := rowc EA3.out
    obtain ⟨rB, -⟩ := rowc EB3.out
    cases hq : (decide (k = 0) && decide (k' = 3))
    · skip
      go_wp2_with (fail)
      refine (NT'.out _).mono ?_
      rintro e w4 ⟨rfl, hb4⟩
      have HB4 := Lib.hid hb4
      clear hb4
      go_wp2_with (fail)
      go_meet
      exact ⟨by rw [hq, Bool.false_or], bs HB3.out HB4.out, carry HB4.out EA3.out, carry HB4.out EB3.out⟩
    · skip
      go_wp2_with (fail)
      go_meet
      exact ⟨by rw [hq, Bool.true_or], HB3.out, EA3.out, EB3.out⟩
  case rest =>
    obtain ⟨rfl, hbc, hx0, hx1⟩ := hcut
    have HB3 := Lib.hid (bs HB2.out hbc)
    have EA3 := Lib.hid hx0
    have EB3 := Lib.hid hx1
    clear hbc hx0 hx1 rA rB EA2 EB2
    obtain ⟨rA, -⟩ := rowc EA3.out
    obtain ⟨rB, -⟩ := rowc EB3.out
    cases hq : ((decide (k = 0) && decide (k' = 3)) || (decide (k' = 0) && decide (k = 3)))
    case true =>
      have HWE : Hid (W = y) := Lib.hid (by rw [← HW.out, if_pos (by simpa using hq)])
      go_wp2_with (fail)
      refine (CT.out _ HB3.out).mono ?_
      rintro e w4 ⟨rfl, hb4⟩
      have HB4 := Lib.hid (bs HB3.out hb4)
      clear hb4
      go_wp2_with (fail)
      go_ret
      exact ⟨by rw [HWE.out]; rfl, HB4.out⟩
    case false =>
      have HW1 := Lib.hid ((if_neg (by simpa using hq)).symm.trans HW.out)
      clear hq
      go_upto_region 5 with fail
      go_cut [31] (fun v wx => CutQ wc ((decide (k = 0) || decide (k = 1)) || (decide (k' = 0) || decide (k' = 1))) w.heap.size #[.int .i64 k, .int .i64 n, .string s, .int .i64 x, .slice A L c] #[.int .i64 k', .int .i64 n', .string s', .int .i64 x', .slice A' L' c'] v wx)
      case first =>
        go_wp2_with (fail)
        refine (NB.out _).mono ?_
        rintro e w3 ⟨rfl, hb3⟩
        have EA5 := Lib.hid (carry hb3 EA3.out)
        have EB5 := Lib.hid (carry hb3 EB3.out)
        have HB5 := Lib.hid hb3
        clear hb3 rA rB
        obtain ⟨rA, -⟩ := rowc EA5.out
        obtain ⟨rB, -⟩ := rowc EB5.out
        cases hq : (decide (k = 0) || decide (k = 1))
        · skip
          go_wp2_with (fail)
          refine (NB'.out _).mono ?_
          rintro e w4 ⟨rfl, hb4⟩
          have HB4 := Lib.hid hb4
          clear hb4
          go_wp2_with (fail)
          go_meet
          exact ⟨by rw [hq, Bool.false_or], bs HB5.out HB4.out, carry HB4.out EA5.out, carry HB4.out EB5.out⟩
        · skip
          go_wp2_with (fail)
          go_meet
          exact ⟨by rw [hq, Bool.true_or], HB5.out, EA5.out, EB5.out⟩

      case rest =>
        obtain ⟨rfl, hbc, hx0, hx1⟩ := hcut
        have HBn := Lib.hid (bs HB3.out hbc)
        have EAn := Lib.hid hx0
        have EBn := Lib.hid hx1
        clear hbc hx0 hx1 rA rB EA3 EB3 HB3
        have HB3 := Lib.hid HBn.out
        have EA3 := Lib.hid EAn.out
        have EB3 := Lib.hid EBn.out
        clear HBn EAn EBn
        obtain ⟨rA, -⟩ := rowc EA3.out
        obtain ⟨rB, -⟩ := rowc EB3.out
        cases hq : ((decide (k = 0) || decide (k = 1)) || (decide (k' = 0) || decide (k' = 1)))
        case true =>
          have HWE : Hid (W = Lib.compareInt p1 p2) := Lib.hid (by rw [← HW1.out, if_pos (by simpa using hq)])
          have HC : Hid (Below wc.heap.size wc wc) := Lib.hid (Below.refl _ _)
          go_upto_region 6 with fail
          go_region_with (first
            | (go_at_call_of 115 A
               refine (TR.out _ (bs HB3.out (by first | exact HC.out | exact HC.out.drew))).mono ?_
               rintro e wz ⟨rfl, hbz⟩
               have HCX : Hid (Below wc.heap.size wc wz) := Lib.hid (by first | exact bs HC.out hbz | exact bs (HC.out.drew) hbz)
               clear HC hbz rA rB
               have HC := Lib.hid HCX.out
               clear HCX
               obtain ⟨rA, -⟩ := rowc (carry HC.out EA3.out)
               obtain ⟨rB, -⟩ := rowc (carry HC.out EB3.out))
            | (go_at_call_of 115 A'
               refine (TR'.out _ (bs HB3.out (by first | exact HC.out | exact HC.out.drew))).mono ?_
               rintro e wz ⟨rfl, hbz⟩
               have HCX : Hid (Below wc.heap.size wc wz) := Lib.hid (by first | exact bs HC.out hbz | exact bs (HC.out.drew) hbz)
               clear HC hbz rA rB
               have HC := Lib.hid HCX.out
               clear HCX
               obtain ⟨rA, -⟩ := rowc (carry HC.out EA3.out)
               obtain ⟨rB, -⟩ := rowc (carry HC.out EB3.out))
            | (go_at_call 114
               refine (Tryd.cmp_Compare_int p1 p2 _).mono ?_
               rintro e wz ⟨rfl, rfl⟩))
          all_goals
            go_wp2_with (fail)
            go_ret
            exact ⟨by rw [HWE.out]; rfl, bs HB3.out HC.out⟩
        case false =>
          have HW2 := Lib.hid ((if_neg (by simpa using hq)).symm.trans HW1.out)
          clear hq
          go_upto_region 7 with fail
          go_cut [43] (fun v wx => CutQ wc (o1 && o2) w.heap.size #[.int .i64 k, .int .i64 n, .string s, .int .i64 x, .slice A L c] #[.int .i64 k', .int .i64 n', .string s', .int .i64 x', .slice A' L' c'] v wx)
          case first =>
            have f1 := HQ1.out
            have f2 := HQ2.out
            clear HQ1 HQ2
            cases o1 <;> cases o2
            all_goals
              simp only [if_true, if_false, Bool.false_eq_true] at f1 f2
              subst f1 f2
              go_wp2_with (fail)
              go_meet
              exact ⟨rfl, Below.refl _ _, EA3.out, EB3.out⟩

          case rest =>
            obtain ⟨rfl, hbc, hx0, hx1⟩ := hcut
            have HBn := Lib.hid (bs HB3.out hbc)
            have EAn := Lib.hid hx0
            have EBn := Lib.hid hx1
            clear hbc hx0 hx1 rA rB EA3 EB3 HB3
            have HB3 := Lib.hid HBn.out
            have EA3 := Lib.hid EAn.out
            have EB3 := Lib.hid EBn.out
            clear HBn EAn EBn
            obtain ⟨rA, -⟩ := rowc EA3.out
            obtain ⟨rB, -⟩ := rowc EB3.out
            cases hq : (o1 && o2)
            case true =>
              have HWE : Hid (W = Lib.compareInt m1 m2) := Lib.hid (by rw [← HW2.out, if_pos (by simpa using hq)])
              go_wp2_with (fail)
              refine (Tryd.cmp_Compare_int m1 m2 _).mono ?_
              rintro e w4 ⟨rfl, rfl⟩
              go_wp2_with (fail)
              go_ret
              exact ⟨by rw [HWE.out]; rfl, HB3.out⟩
            case false =>
              have HW3 := Lib.hid ((if_neg (by simpa using hq)).symm.trans HW2.out)
              clear hq
              go_upto_region 9 with fail
              go_cut [53] (fun v wx => CutQ wc ((decide (k = 2) || decide (k = 3)) && (decide (k' = 2) || decide (k' = 3))) w.heap.size #[.int .i64 k, .int .i64 n, .string s, .int .i64 x, .slice A L c] #[.int .i64 k', .int .i64 n', .string s', .int .i64 x', .slice A' L' c'] v wx)
              case first =>
                go_wp2_with (fail)
                refine (IT.out _).mono ?_
                rintro e w3 ⟨rfl, hb3⟩
                have EA5 := Lib.hid (carry hb3 EA3.out)
                have EB5 := Lib.hid (carry hb3 EB3.out)
                have HB5 := Lib.hid hb3
                clear hb3 rA rB
                obtain ⟨rA, -⟩ := rowc EA5.out
                obtain ⟨rB, -⟩ := rowc EB5.out
                cases hq : (decide (k = 2) || decide (k = 3))
                · skip
                  go_wp2_with (fail)
                  go_meet
                  exact ⟨by rw [hq, Bool.false_and], HB5.out, EA5.out, EB5.out⟩
                · skip
                  go_wp2_with (fail)
                  refine (IT'.out _).mono ?_
                  rintro e w4 ⟨rfl, hb4⟩
                  have HB4 := Lib.hid hb4
                  clear hb4
                  go_wp2_with (fail)
                  go_meet
                  exact ⟨by rw [hq, Bool.true_and], bs HB5.out HB4.out, carry HB4.out EA5.out, carry HB4.out EB5.out⟩

              case rest =>
                obtain ⟨rfl, hbc, hx0, hx1⟩ := hcut
                have HBn := Lib.hid (bs HB3.out hbc)
                have EAn := Lib.hid hx0
                have EBn := Lib.hid hx1
                clear hbc hx0 hx1 rA rB EA3 EB3 HB3
                have HB3 := Lib.hid HBn.out
                have EA3 := Lib.hid EAn.out
                have EB3 := Lib.hid EBn.out
                clear HBn EAn EBn
                obtain ⟨rA, -⟩ := rowc EA3.out
                obtain ⟨rB, -⟩ := rowc EB3.out
                cases hq : ((decide (k = 2) || decide (k = 3)) && (decide (k' = 2) || decide (k' = 3)))
                case true =>
                  have HWE : Hid (W = y) := Lib.hid (by rw [← HW3.out, if_pos (by simpa using hq)])
                  go_wp2_with (fail)
                  refine (CT.out _ HB3.out).mono ?_
                  rintro e w4 ⟨rfl, hb4⟩
                  have HB4 := Lib.hid (bs HB3.out hb4)
                  clear hb4
                  go_wp2_with (fail)
                  go_ret
                  exact ⟨by rw [HWE.out]; rfl, HB4.out⟩
                case false =>
                  have HW4 := Lib.hid ((if_neg (by simpa using hq)).symm.trans HW3.out)
                  clear hq
                  go_upto_region 11 with fail
                  go_cut [63] (fun v wx => CutQ wc (decide (k = 4) && decide (k' = 4)) w.heap.size #[.int .i64 k, .int .i64 n, .string s, .int .i64 x, .slice A L c] #[.int .i64 k', .int .i64 n', .string s', .int .i64 x', .slice A' L' c'] v wx)
                  case first =>
                    go_wp2_with (fail)
                    refine (AR.out _).mono ?_
                    rintro e w3 ⟨rfl, hb3⟩
                    have HB4 := Lib.hid hb3
                    clear hb3
                    go_wp2_with (fail)
                    go_meet
                    exact ⟨rfl, HB4.out, carry HB4.out EA3.out, carry HB4.out EB3.out⟩

                  case rest =>
                    obtain ⟨rfl, hbc, hx0, hx1⟩ := hcut
                    have HBn := Lib.hid (bs HB3.out hbc)
                    have EAn := Lib.hid hx0
                    have EBn := Lib.hid hx1
                    clear hbc hx0 hx1 rA rB EA3 EB3 HB3
                    have HB3 := Lib.hid HBn.out
                    have EA3 := Lib.hid EAn.out
                    have EB3 := Lib.hid EBn.out
                    clear HBn EAn EBn
                    obtain ⟨rA, -⟩ := rowc EA3.out
                    obtain ⟨rB, -⟩ := rowc EB3.out
                    cases hq : (decide (k = 4) && decide (k' = 4))
                    case true =>
                      have HWE : Hid (W = Lib.compareInt L L') := Lib.hid (by rw [← HW4.out, if_pos (by simpa using hq)])
                      go_wp2_with (fail)
                      refine (Tryd.cmp_Compare_int (L : Int) (L' : Int) _).mono ?_
                      rintro e w4 ⟨rfl, rfl⟩
                      go_wp2_with (fail)
                      go_ret
                      exact ⟨by rw [HWE.out]; rfl, HB3.out⟩
                    case false =>
                      have HW5 := Lib.hid ((if_neg (by simpa using hq)).symm.trans HW4.out)
                      clear hq
                      clear TR TR' CT NT NT' NB NB' IT IT' AR NU NU'
                      by_cases h4 : k = 4
                      · subst h4
                        have HWE : Hid (W = 1) := Lib.hid (by rw [← HW5.out, if_pos rfl])
                        go_wp2_with (fail)
                        go_ret
                        exact ⟨by rw [HWE.out]; rfl, HB3.out⟩
                      · have HW6 := Lib.hid ((if_neg h4).symm.trans HW5.out)
                        by_cases h4' : k' = 4
                        · subst h4'
                          have HWE : Hid (W = -1) := Lib.hid (by rw [← HW6.out, if_pos rfl])
                          go_wp2_with (fail)
                          go_ret
                          exact ⟨by rw [HWE.out]; rfl, HB3.out⟩
                        · have HW7 := Lib.hid ((if_neg h4').symm.trans HW6.out)
                          by_cases hk : k = k'
                          · subst hk
                            by_cases hn : n = n'
                            · subst hn
                              have HWE : Hid (W = 0) := Lib.hid (by rw [← HW7.out, if_pos ⟨rfl, rfl⟩])
                              go_wp2_with (fail)
                              go_ret
                              exact ⟨by rw [HWE.out]; rfl, HB3.out⟩
                            · have HWE : Hid (W = 2) := Lib.hid (by rw [← HW7.out, if_neg (fun h => hn h.2)])
                              go_wp2_with (fail)
                              go_ret
                              exact ⟨by rw [HWE.out]; rfl, HB3.out⟩
                          · have HWE : Hid (W = 2) := Lib.hid (by rw [← HW7.out, if_neg (fun h => hk h.1)])
                            go_wp2_with (fail)
                            go_ret
                            exact ⟨by rw [HWE.out]; rfl, HB3.out⟩

end Go.Proofs.YtlbkbcafkjgckaaDoor.tree

/-
  How the project compares two values.
  Conditions: the values hold at most 10^9 items and letters; the table of powers of ten and the project's two errors hold what the program's text lays.
-/
namespace Go.Proofs.YtlbkbcafkjgckaaDoor.tree
open Go.ChangeShapes Go.WideShapes Go.ChangeAt Go.RowKit ers
set_option linter.unusedVariables false

theorem mgRow : (Tryd.prog.info? MG).map (fun i => (i.zero, i.size, i.bytes)) = some (some (.agg #[.slice none 0 0, .slice none 0 0, .int .i64 0, .map none]), 4, 64) := by kernel_rfl
theorem mg_info : ∃ i, Tryd.prog.info? MG = some i ∧ (i.zero = some (.agg #[.slice none 0 0, .slice none 0 0, .int .i64 0, .map none]) ∧ i.size = 4 ∧ i.bytes = 64) := by
  have := mgRow
  cases hq : Tryd.prog.info? MG with
  | none => rw [hq] at this; cases this
  | some i => rw [hq] at this; simp at this; exact ⟨i, rfl, this⟩
theorem four_new9 (w : World) (a b c d : Value) (t : TypeId) : ∀ j u, [a, b, c, d][j]? = some u → (w.alloc (.cells #[a, b, c, d] t)).cell? ((⟨w.heap.size, 0, none⟩ : Addr).add j) = some u := by
  intro j u hj
  rw [Addr.add_lit, Nat.zero_add, cell_of_row _ _ j _ t _ (heap_alloc_new w _)]
  simpa using hj
theorem al29 {w : World} {B b : Nat} {f : Value → Option Value} (h : raw.Holds w (G2 B) b f) (o : Obj) : raw.Holds (w.alloc o) (G2 B) b f :=
  h.kept (Below.heap_alloc w o b h.lt) (fun x hx => hx.kp (Kp.below (b1 w o)))
theorem zeroBool9 (w : World) : (zeroValue 4).run Tryd.prog w = .ok (.bool false) w := by kernel_rfl

def CutC (w4 : World) (NA NZ : Nat) (C C' : Array Value) (pa : Option Addr) (ma : Int) (pb : Option Addr) (mb : Int) (v : Value) (wx : World) : Prop :=
  ∃ NP, v = .pointer (some ⟨NP, 0, none⟩) ∧ NZ ≤ NP ∧ wx.heap[NP]? = some (.cells #[.pointer pa, .int .i64 ma, .pointer pb, .int .i64 mb] P2 (0, 0)) ∧ Below w4.heap.size w4 wx ∧ wx.heap[NA]? = some (.cells C IV (0, 0)) ∧ wx.heap[NA + 1]? = some (.cells C' IV (0, 0))

theorem getL_totI {ks : List Ky} {vs : List Tr} {y : Ky} {u : Tr} (hl : ks.length = vs.length) (h : getL ks vs y = some u) : tot u ≤ tots ks vs := by
  unfold getL at h
  split at h
  · cases h
  · have hv := (List.getElem?_eq_some_iff.1 h).1
    exact Nat.le_trans (Nat.le_add_left _ _) (it (List.getElem?_eq_getElem (by omega : (pos ks y 0).toNat < ks.length)) h)
where
  it : ∀ {ks : List Ky} {vs : List Tr} {j : Nat} {y : Ky} {t : Tr}, ks[j]? = some y → vs[j]? = some t → y.str.size + tot t ≤ tots ks vs
  | [], _, _, _, _, h, _ => by simp at h
  | _ :: _, [], _, _, _, _, h => by simp at h
  | z :: ks, u :: vs, 0, y, t, h, h' => by
    simp at h h'
    subst h h'
    rw [tots]
    omega
  | z :: ks, u :: vs, j + 1, y, t, h, h' => by
    have := it (ks := ks) (vs := vs) (j := j) (by simpa using h) (by simpa using h')
    rw [tots]
    omega
theorem cstart {w W2 w1 : World} {ks ks' : List Ky} {vs vs' : List Tr} {A A' : Option Addr} {c c' b : Nat} {W : Int} (hlo : IsIn w (Lo w.heap.size w) ks vs A) (hlo' : IsIn w (Lo w.heap.size w) ks' vs' A') (hc : (vs.length ≤ c ∧ c ≤ maxLen) ∧ vs'.length ≤ c' ∧ c' ≤ maxLen)
    (hT : tots ks vs ≤ 1000000000 ∧ tots ks' vs' ≤ 1000000000) (hW : cmpL ks vs ks' vs' = W) (hb2 : Below w.heap.size w W2) (hz2 : W2.heap.size = w.heap.size + 1 + 1 + 1) (hm2 : raw.Holds W2 (G2 w.heap.size) (w.heap.size + 1 + 1) (fun _ => none))
    (hb1 : Below W2.heap.size W2 w1) (hbn : W2.heap.size ≤ b) (hmb : raw.Holds w1 GK b (fun _ => none)) :
    CRel W w.heap.size (w.heap.size + 1 + 1) w (1 + wks vs) (.slice (some ⟨w1.heap.size, 0, none⟩) 1 1) (w1.alloc (.cells #[.slice A vs.length c, .slice A' vs'.length c', .int .i64 0, .map (some b)] MG)) := by
  have hbf : Below w.heap.size w (w1.alloc (.cells #[.slice A vs.length c, .slice A' vs'.length c', .int .i64 0, .map (some b)] MG)) := bs (bs hb2 hb1) (b1 _ _)
  have hk : Kp w.heap.size w _ := Kp.below hbf
  have hmb' := hmb.kept (Below.heap_alloc w1 (.cells #[.slice A vs.length c, .slice A' vs'.length c', .int .i64 0, .map (some b)] MG) b hmb.lt) (fun _ hx => hx)
  have hm1 := hm2.kept (hb1.block _ hm2.lt) (fun x hx => hx.kp (Kp.below hb1))
  have hs1 := hb1.size
  refine ⟨[⟨A, c, ks, vs, A', c', ks', vs', 0, b, ks, vs⟩], fun _ => none, by simp [left9], ⟨fun X hX => ?_, ⟨(thn_zero _).symm, hW⟩, ⟨fun _ h => by simp at h, trivial⟩, fun q z hq => by cases hq⟩,
    ⟨rfl, .inr ⟨w1.heap.size, 1, _, rfl, by omega, heap_alloc_new w1 _, by simp, by simp [maxLen], rfl, rfl⟩⟩, al29 hm1 _, fun X hX => ?_, hbf, fun X hX => ?_⟩
  · obtain rfl := List.mem_singleton.1 hX
    exact ⟨hlo.kp hk, hc.1, hlo'.kp hk, hc.2, Nat.le_refl _, Nat.zero_le _, _, hmb', fun y => by simp [pos]⟩
  · obtain rfl := List.mem_singleton.1 hX
    show w.heap.size + 1 + 1 < b
    omega
  · obtain rfl := List.mem_singleton.1 hX
    exact hT

set_option maxHeartbeats 2000000 in
set_option maxRecDepth 100000 in
theorem compareItems (n : Int) (s : ByteArray) (x : Int) (ks : List Ky) (vs : List Tr) (A : Option Addr) (c : Nat) (n' : Int) (s' : ByteArray) (x' : Int) (ks' : List Ky) (vs' : List Tr) (A' : Option Addr) (c' : Nat) (w : World) (lo lo' : Nat)
    (h : TIn w (Nw lo w) (.mk 4 n s x ks vs) (vV 4 n s x A vs.length c)) (h' : TIn w (Nw lo' w) (.mk 4 n' s' x' ks' vs') (vV 4 n' s' x' A' vs'.length c')) (hN : cnts vs ≤ 1000000000) (hT : tots ks vs ≤ 1000000000) (hT' : tots ks' vs' ≤ 1000000000) (hE : CmE w) :
    Calls Tryd.prog 72 #[vV 4 n s x A vs.length c, vV 4 n' s' x' A' vs'.length c'] w (GivesQ w (.int .i64 (cmpL ks vs ks' vs'))) := by
  obtain ⟨_, _, e1, -, hin⟩ := h.out
  obtain ⟨rfl, rfl⟩ : A = _ ∧ c = _ := by simpa [vV] using e1
  obtain ⟨_, _, e2, -, hin'⟩ := h'.out
  obtain ⟨rfl, rfl⟩ : A' = _ ∧ c' = _ := by simpa [vV] using e2
  have hcap := h.cap
  have hcap' := h'.cap
  have hw0 : 1 + wks vs ≤ 4000000000 := by have := wks_cnts vs; omega
  obtain ⟨L, HL⟩ : ∃ L, Hid (vs.length = L) := ⟨_, Lib.hid rfl⟩
  obtain ⟨L', HL'⟩ : ∃ L, Hid (vs'.length = L) := ⟨_, Lib.hid rfl⟩
  have hlo : IsIn w (Lo w.heap.size w) ks vs A := hin.stays (fun b hb => ⟨hb.2.lt, hb.2⟩) (fun _ _ _ => rfl)
  have hlo' : IsIn w (Lo w.heap.size w) ks' vs' A' := hin'.stays (fun b hb => ⟨hb.2.lt, hb.2⟩) (fun _ _ _ => rfl)
  have HI := Lib.hid hlo
  have HI' := Lib.hid hlo'
  have HCA := Lib.hid (And.intro hcap hcap')
  have HTB := Lib.hid (And.intro hT hT')
  have HEN := Lib.hid hE
  obtain ⟨W, HW⟩ : ∃ W, Hid (cmpL ks vs ks' vs' = W) := ⟨_, Lib.hid rfl⟩
  rw [HL.out, HL'.out, HW.out]
  have NM := Lib.hid (fun w9 => newMatching 4 n s x A L c 4 n' s' x' A' L' c' w9)
  have hmm := @run_makeMap Tryd.prog
  clear e1 e2 h h' hin hin' hcap hcap' hT hT' hE hlo hlo' hN
  go_enter Tryd.func72, Tryd.ntmps72
  go_wp2_with (fail)
  clear hmm
  obtain ⟨W2, HW2⟩ : ∃ W, Hid (((w.alloc (.cells #[.int .i64 4, .int .i64 n, .string s, .int .i64 x, .slice A L c] IV)).alloc (.cells #[.int .i64 4, .int .i64 n', .string s', .int .i64 x', .slice A' L' c'] IV)).alloc (.map #[] 0) = W) := ⟨_, Lib.hid rfl⟩
  have hz2 : Hid (W2.heap.size = w.heap.size + 1 + 1 + 1) := Lib.hid (by rw [← HW2.out]; simp)
  have hb2 : Hid (Below w.heap.size w W2) := Lib.hid (by rw [← HW2.out]; exact bs (b2 w _ _) (b1 _ _))
  have hm2 : Hid (raw.Holds W2 (G2 w.heap.size) (w.heap.size + 1 + 1) (fun _ => none)) := Lib.hid (by
    have := raw.Holds.made ((w.alloc (.cells #[.int .i64 4, .int .i64 n, .string s, .int .i64 x, .slice A L c] IV)).alloc (.cells #[.int .i64 4, .int .i64 n', .string s', .int .i64 x', .slice A' L' c'] IV)) (G2 w.heap.size)
    rw [show ((w.alloc (.cells #[.int .i64 4, .int .i64 n, .string s, .int .i64 x, .slice A L c] IV)).alloc (.cells #[.int .i64 4, .int .i64 n', .string s', .int .i64 x', .slice A' L' c'] IV)).heap.size = w.heap.size + 1 + 1 by simp] at this
    rw [← HW2.out]
    exact this)
  rw [HW2.out]
  refine (NM.out _).mono ?_
  rintro e w1 ⟨b, rfl, hbn, hmb, hb1⟩
  have HST0 := Lib.hid (cstart HI.out HI'.out HCA.out HTB.out HW.out hb2.out hz2.out hm2.out hb1 hbn hmb)
  rw [HL.out, HL'.out] at HST0
  clear hbn hmb hb1 hz2 hb2 hm2 HW2 HI HI' HCA HTB NM
  go_wp2_with (fail)
  go_loopg [6] (1 + wks vs) (fun gk way wr => CRel W w.heap.size (w.heap.size + 1 + 1) w gk way wr ∧ gk ≤ 1 + wks vs)
  case atStart => exact ⟨HST0.out, Nat.le_refl _⟩
  case round =>
    obtain ⟨⟨G, e, hgk, hst, hrow, hm1, hE9, hb, htb⟩, hle⟩ := hrel
    clear HST0
    cases G with
    | nil =>
      obtain ⟨A0, c0, rfl⟩ := hrow.nil
      have HFI := Lib.hid hst.fine
      have HB := Lib.hid hb
      clear hgk hst hrow hm1 hE9 hb htb
      go_wp2_with (fail)
      go_ret
      exact ⟨by rw [HFI.out]; rfl, HB.out⟩
    | cons F G =>
      obtain ⟨g, cc, cur, rfl, hgB, hg, hlc, hcm, hcs, hq⟩ := hrow.top
      obtain ⟨m, HM⟩ : ∃ m, Hid (G.length = m) := ⟨_, Lib.hid rfl⟩
      have hmb : m ≤ 4000000000 := by
        have h1 := left9_len G
        have h2 := HM.out
        rw [left9] at hgk
        omega
      rw [HM.out] at hlc hq ⊢
      obtain ⟨rg, -⟩ := rowc hg
      have c0 := (rg _).trans (hq 0 (by omega))
      have hF := hst.ok _ List.mem_cons_self
      obtain ⟨R, c9, ks9, vs9, A9, c9', ks9', vs9', p9, b9, ks0, vs0⟩ := F
      simp only [Mt.cells, Nat.add_zero, List.getElem?_cons_zero] at c0
      have HG := Lib.hid hg
      have HGK := Lib.hid hgk
      have HST := Lib.hid hst
      have HROW := Lib.hid hrow
      have HM1 := Lib.hid hm1
      have HE9 := Lib.hid hE9
      have HB := Lib.hid hb
      have HTB := Lib.hid htb
      have HQ := Lib.hid hq
      have HF := Lib.hid hF
      clear hg hgk hst hrow hm1 hE9 hb htb hq hF rg
      unfold maxLen at hcm
      cases vs9 with
      | nil =>
        simp only [List.length_nil] at c0
        go_wp2_with (fail)
        go_roundg (left9 G)
        case rel =>
          have hp := HROW.out.pop
          rw [HM.out] at hp
          refine ⟨⟨G, e, rfl, HST.out.pop rfl, hp, HM1.out, fun X hX => HE9.out X (List.mem_cons_of_mem _ hX), HB.out, fun X hX => HTB.out X (List.mem_cons_of_mem _ hX)⟩, ?_⟩
          have := HGK.out
          rw [left9] at this
          omega
        case measure =>
          have := HGK.out
          rw [left9] at this
          omega
      | cons t ts =>
        cases ks9 with
        | nil => have := HF.out.isin.1; simp at this
        | cons y kt =>
          obtain ⟨f9, hmf, hff⟩ := HF.out.map
          have hEB9 : w.heap.size + 1 + 1 < b9 := HE9.out _ List.mem_cons_self
          have hSS : ∀ z, Lo w.heap.size wr z → z ≠ g ∧ z ≠ b9 := fun z hz => ⟨by have := hz.1; omega, fun e1 => hold_np hmf (e1 ▸ hz.2)⟩
          have TK := takeM (S := Lo w.heap.size wr) (S' := Lo w.heap.size wr) HG.out HQ.out rfl rfl HF.out.isin HF.out.cap HF.out.isin' HF.out.hp hmf hff hSS hSS
          have HTK0 := Lib.hid TK
          obtain ⟨Lr, HLr⟩ : ∃ L, Hid (ts.length = L) := ⟨_, Lib.hid rfl⟩
          simp only [List.length_cons] at c0
          rw [HLr.out] at c0
          clear TK hmf hff hSS hEB9
          go_wp2_with (fail)
          refine HTK0.out.mono ?_
          rintro e0 w4 ⟨R1, hTk, hR1, hres⟩
          obtain ⟨hb4, hkp4, hnone, hsome⟩ := CSt.took HST.out HROW.out HM1.out HE9.out (Nat.le_refl _) (by omega) HB.out hgB HG.out (by rw [HM.out]; exact HQ.out) rfl rfl (by rw [HM.out]; exact hTk) hR1 ⟨by have := HF.out.cap; simp at this; simp; omega, by have := HF.out.cap; simp at this; simp; omega⟩
          have HB4 := Lib.hid hb4
          have HK4 := Lib.hid hkp4
          have HNO := Lib.hid hnone
          have HSO := Lib.hid hsome
          clear hb4 hkp4 hnone hsome hTk hR1 c0 HTK0
          rcases hres with ⟨hn, rfl⟩ | ⟨u, k1, n1, s1, x1, A1, L1, c1, k2, n2, s2, x2, A2, L2, c2, hu, rfl, ht1, ht2⟩
          · have HW2 := Lib.hid (HNO.out hn)
            clear hn HNO HSO
            go_wp2_with (fail)
            go_ret
            exact ⟨by rw [HW2.out]; rfl, bs HB4.out (b2 w4 _ _)⟩
          · have hle0 := HTB.out _ List.mem_cons_self
            have htt : tot t ≤ 1000000000 := by
              have h1 : tots (y :: kt) (t :: ts) ≤ 1000000000 := hle0.1
              rw [tots_cons] at h1
              omega
            have htu : tot u ≤ 1000000000 := Nat.le_trans (getL_totI HF.out.isin'.1 hu) hle0.2
            obtain ⟨F8, hst', hrow', hm', hE', hleft, ⟨e1, e2, e3, e4⟩, hcnt⟩ := HSO.out u hu
            have htb' : ∀ X ∈ F8 :: G, Tb X := fun X hX => by
              rcases List.mem_cons.1 hX with rfl | hX
              · refine ⟨?_, by rw [e3, e4]; exact hle0.2⟩
                rw [e1, e2]
                have h1 : tots (y :: kt) (t :: ts) ≤ 1000000000 := hle0.1
                rw [tots_cons] at h1
                omega
              · exact HTB.out X (List.mem_cons_of_mem _ hX)
            have hT1 := ht1.kp HK4.out
            have hT2 := ht2.kp HK4.out
            have hleft2 : left9 (F8 :: G) + wk t = gk := hleft.trans HGK.out.symm
            clear hle0 hleft ht1 ht2 hu HNO HSO e1 e2 e3 e4 HST HROW HM1 HE9 HTB HQ HF HG HGK
            obtain ⟨_, _, _, _, ks1, vs1⟩ := t
            obtain ⟨_, _, q1, -, hin1⟩ := hT1.out
            obtain ⟨rfl, rfl, rfl, rfl, rfl, rfl, rfl⟩ : _ = _ ∧ _ = _ ∧ _ = _ ∧ _ = _ ∧ _ = _ ∧ _ = _ ∧ _ = _ := by simpa [vV] using q1
            obtain ⟨_, _, _, _, ks2, vs2⟩ := u
            obtain ⟨_, _, q2, -, hin2⟩ := hT2.out
            obtain ⟨rfl, rfl, rfl, rfl, rfl, rfl, rfl⟩ : _ = _ ∧ _ = _ ∧ _ = _ ∧ _ = _ ∧ _ = _ ∧ _ = _ ∧ _ = _ := by simpa [vV] using q2
            have hcap1 := hT1.cap
            have hcap2 := hT2.cap
            have CO : ∀ w', Below w4.heap.size w4 w' → Calls Tryd.prog 70 #[vV k1 n1 s1 x1 A1 vs1.length c1, vV k2 n2 s2 x2 A2 vs2.length c2] w' (GivesQ w' (.int .i64 (ordO (.mk k1 n1 s1 x1 ks1 vs1) (.mk k2 n2 s2 x2 ks2 vs2)))) := fun w' hb => compareOutside _ _ _ _ w' _ _ (hT1.below' hb) (hT2.below' hb) htt htu (HEN.out.stays (bs HB4.out hb))
            have hp1 : PlB w.heap.size w4 (plc A1 vs1.length) ks1 vs1 := ⟨A1, hin1, rfl⟩
            have hp2 : PlB w.heap.size w4 (plc A2 vs2.length) ks2 vs2 := ⟨A2, hin2, rfl⟩
            obtain ⟨pa, ma, hpl1⟩ := plc_form A1 vs1.length
            obtain ⟨pb, mb, hpl2⟩ := plc_form A2 vs2.length
            have some_of : ∀ {w : World} {S : Nat → Prop} {ks : List Ky} {vs : List Tr} {A : Option Addr}, IsIn w S ks vs A → 0 < vs.length → ∃ a, A = some a := fun hi h0 => by
              obtain ⟨_, _, C, hc, _⟩ := hi
              obtain ⟨a, ha, _⟩ := hc 0 h0
              exact ⟨a, ha⟩
            obtain ⟨L1, HL1⟩ : ∃ L, Hid (L = vs1.length) := ⟨_, Lib.hid rfl⟩
            obtain ⟨L2, HL2⟩ : ∃ L, Hid (L = vs2.length) := ⟨_, Lib.hid rfl⟩
            have PO1 : ∀ w, Calls Tryd.prog 107 #[.slice A1 L1 c1] w (GivesQ w (.agg #[.pointer pa, .int .i64 ma])) := fun w => by rw [HL1.out, ← hpl1]; exact placeOf A1 vs1.length c1 hin1.2.1 (some_of hin1) w
            have PO2 : ∀ w, Calls Tryd.prog 107 #[.slice A2 L2 c2] w (GivesQ w (.agg #[.pointer pb, .int .i64 mb])) := fun w => by rw [HL2.out, ← hpl2]; exact placeOf A2 vs2.length c2 hin2.2.1 (some_of hin2) w
            have hkey : G2 w.heap.size w4 (.agg #[.pointer pa, .int .i64 ma, .pointer pb, .int .i64 mb]) := by
              obtain ⟨p, n, e1, h1⟩ := hp1.gb
              obtain ⟨q, m, e2, h2⟩ := hp2.gb
              rw [hpl1] at e1
              rw [hpl2] at e2
              simp at e1 e2
              obtain ⟨rfl, rfl⟩ := e1
              obtain ⟨rfl, rfl⟩ := e2
              exact ⟨_, _, _, _, rfl, h1, h2⟩
            have hpq : pq (plc A1 vs1.length) (plc A2 vs2.length) = .agg #[.pointer pa, .int .i64 ma, .pointer pb, .int .i64 mb] := by rw [hpl1, hpl2]; rfl
            have hglt : g < w4.heap.size := (hrow'.own g rfl).2.1
            have AR := Lib.hid (fun w9 => areArrays k1 n1 s1 x1 A1 L1 c1 k2 n2 s2 x2 A2 L2 c2 w9)
            have NM2 := Lib.hid (fun w9 => newMatching k1 n1 s1 x1 A1 L1 c1 k2 n2 s2 x2 A2 L2 c2 w9)
            obtain ⟨z, HZ⟩ : ∃ z, Hid (ordO (.mk k1 n1 s1 x1 ks1 vs1) (.mk k2 n2 s2 x2 ks2 vs2) = z) := ⟨_, Lib.hid rfl⟩
            rw [← HL1.out, ← HL2.out, HZ.out] at CO
            have HTX : Hid (tots ks1 vs1 ≤ 1000000000 ∧ tots ks2 vs2 ≤ 1000000000) := Lib.hid (by rw [tot_mk] at htt htu; omega)
            have HCO := Lib.hid CO
            have HST := Lib.hid hst'
            have HROW := Lib.hid hrow'
            have HM1 := Lib.hid hm'
            have HE9 := Lib.hid hE'
            have HTB := Lib.hid htb'
            have HPQ := Lib.hid hpq
            have HP1 := Lib.hid hp1
            have HP2 := Lib.hid hp2
            have HKEY := Lib.hid hkey
            have HI1 := Lib.hid (And.intro hin1 hin2)
            have HCP := Lib.hid (And.intro hcap1 hcap2)
            have HCN := Lib.hid hcnt
            have HLF := Lib.hid hleft2
            clear CO hst' hrow' hm' hE' htb' hpq hp1 hp2 hkey hin1 hin2 hcap1 hcap2 hcnt hleft2 hT1 hT2 q1 q2 htt htu hpl1 hpl2
            rw [HM.out] at HROW
            have WB : Hid (∀ w', Below w4.heap.size w4 w' → Below w.heap.size w w') := Lib.hid (fun w' hb => bs HB4.out hb)
            have RND : Hid (cmpT (.mk k1 n1 s1 x1 ks1 vs1) (.mk k2 n2 s2 x2 ks2 vs2) = 0 → ∀ w', Below w4.heap.size w4 w' → (CRel W w.heap.size (w.heap.size + 1 + 1) w (left9 (F8 :: G)) (.slice (some ⟨g, 0, none⟩) (m + 1) cc) w' ∧ left9 (F8 :: G) ≤ 1 + wks vs) ∧ left9 (F8 :: G) < gk) := Lib.hid (fun h0 w' hb => by
              have h1 := HST.out
              rw [h0] at h1
              have h2 := HLF.out
              rw [wk_mk] at h2
              exact ⟨⟨⟨F8 :: G, e, rfl, h1.kp (Kp.below hb) (fun X hX => hb.block _ (h1.ok X hX).lt), HROW.out.below hb, HM1.out.kept (hb.block _ HM1.out.lt) (fun x hx => hx.kp (Kp.below hb)), HE9.out, bs HB4.out hb, HTB.out⟩, by omega⟩, by omega⟩)
            rw [← HL1.out, ← HL2.out]
            go_wp2_with (fail)
            refine (HCO.out _ (b2 w4 _ _)).mono ?_
            rintro e0 w5 ⟨rfl, hb5⟩
            have eA := carry hb5 (heap_alloc2_old w4 _ _)
            have eB := carry hb5 (heap_alloc2_new w4 _ _)
            have HBC := Lib.hid (bs (b2 w4 _ _) hb5)
            by_cases hz : z = 0
            · subst hz
              obtain ⟨NZ, hNZ⟩ : ∃ NZ, NZ = w5.heap.size := ⟨_, rfl⟩
              have HNZ := Lib.hid hNZ
              have HNZB : Hid (w4.heap.size ≤ NZ) := Lib.hid (by rw [hNZ]; exact HBC.out.size)
              have HNAZ : Hid (w4.heap.size < NZ) := Lib.hid (by rw [hNZ]; exact (Array.getElem?_eq_some_iff.1 eA).1)
              have HNBZ : Hid (w4.heap.size + 1 < NZ) := Lib.hid (by rw [hNZ]; exact (Array.getElem?_eq_some_iff.1 eB).1)
              clear hNZ
              obtain ⟨NA, hNA⟩ : ∃ N, N = w4.heap.size := ⟨_, rfl⟩
              rw [← hNA] at eA eB ⊢
              have HNA := Lib.hid hNA
              have HNAZ : Hid (NA < NZ) := Lib.hid (by rw [hNA]; exact HNAZ.out)
              have HNBZ : Hid (NA + 1 < NZ) := Lib.hid (by rw [hNA]; exact HNBZ.out)
              have EA := Lib.hid eA
              have EB := Lib.hid eB
              obtain ⟨rA, -⟩ := rowc eA
              obtain ⟨rB, -⟩ := rowc eB
              clear hb5 eA eB hNA
              go_wp2_with (fail)
              go_cut [12] (fun s12 wx => CutC w4 NA NZ #[.int .i64 k1, .int .i64 n1, .string s1, .int .i64 x1, .slice A1 L1 c1] #[.int .i64 k2, .int .i64 n2, .string s2, .int .i64 x2, .slice A2 L2 c2] pa ma pb mb s12 wx)
              case first =>
                have HZ : Hid (NZ ≤ w5.heap.size) := Lib.hid (Nat.le_of_eq HNZ.out)
                have lA0 : NA < w5.heap.size := (Array.getElem?_eq_some_iff.1 EA.out).1
                have lB0 : NA + 1 < w5.heap.size := (Array.getElem?_eq_some_iff.1 EB.out).1
                go_region_with (first
                  | (go_at_call_of 107 A1; refine (PO1 _).mono ?_
                     rintro e0 wz ⟨rfl, hbz⟩
                     have HBX : Hid (Below w4.heap.size w4 wz) := Lib.hid (by
                       have hs := HBC.out.size
                       first
                         | exact bs HBC.out hbz
                         | exact bs (HBC.out.drew) hbz
                         | exact bs (HBC.out.alloc hs _) hbz
                         | exact bs (HBC.out.drew.alloc hs _) hbz)
                     have EAX : Hid (wz.heap[NA]? = _) := Lib.hid (by first | exact carry hbz EA.out | exact carry hbz (keepAlloc EA.out))
                     have EBX : Hid (wz.heap[NA + 1]? = _) := Lib.hid (by first | exact carry hbz EB.out | exact carry hbz (keepAlloc EB.out))
                     have HZX : Hid (NZ ≤ wz.heap.size) := Lib.hid (Nat.le_trans HZ.out (Nat.le_trans (by simp) hbz.size))
                     try (have EPX := carry hbz EP.out
                          clear EP
                          have EP := Lib.hid EPX
                          clear EPX)
                     try (with_reducible (have EPX := carry hbz (heap_alloc_new _ (.cells #[.pointer none, .int .i64 0, .pointer none, .int .i64 0] 137)))
                          try simp only [heap_drew] at EPX
                          have EP := Lib.hid EPX
                          have HPZ := Lib.hid HZ.out
                          clear EPX)
                     clear HBC EA EB rA rB hbz HZ
                     try clear rP fP
                     have HBC := Lib.hid HBX.out
                     have EA := Lib.hid EAX.out
                     have EB := Lib.hid EBX.out
                     have HZ := Lib.hid HZX.out
                     clear HBX EAX EBX HZX
                     try (have EPY := rowc EP.out
                          obtain ⟨rP, fP⟩ := EPY)
                     have lA : NA < wz.heap.size := (Array.getElem?_eq_some_iff.1 EA.out).1
                     have lB : NA + 1 < wz.heap.size := (Array.getElem?_eq_some_iff.1 EB.out).1
                     obtain ⟨rA, -⟩ := rowc EA.out
                     obtain ⟨rB, -⟩ := rowc EB.out)
                  | (go_at_call_of 107 A2; refine (PO2 _).mono ?_
                     rintro e0 wz ⟨rfl, hbz⟩
                     have HBX : Hid (Below w4.heap.size w4 wz) := Lib.hid (by
                       have hs := HBC.out.size
                       first
                         | exact bs HBC.out hbz
                         | exact bs (HBC.out.drew) hbz
                         | exact bs (HBC.out.alloc hs _) hbz
                         | exact bs (HBC.out.drew.alloc hs _) hbz)
                     have EAX : Hid (wz.heap[NA]? = _) := Lib.hid (by first | exact carry hbz EA.out | exact carry hbz (keepAlloc EA.out))
                     have EBX : Hid (wz.heap[NA + 1]? = _) := Lib.hid (by first | exact carry hbz EB.out | exact carry hbz (keepAlloc EB.out))
                     have HZX : Hid (NZ ≤ wz.heap.size) := Lib.hid (Nat.le_trans HZ.out (Nat.le_trans (by simp) hbz.size))
                     try (have EPX := carry hbz EP.out
                          clear EP
                          have EP := Lib.hid EPX
                          clear EPX)
                     try (with_reducible (have EPX := carry hbz (heap_alloc_new _ (.cells #[.pointer none, .int .i64 0, .pointer none, .int .i64 0] 137)))
                          try simp only [heap_drew] at EPX
                          have EP := Lib.hid EPX
                          have HPZ := Lib.hid HZ.out
                          clear EPX)
                     clear HBC EA EB rA rB hbz HZ
                     try clear rP fP
                     have HBC := Lib.hid HBX.out
                     have EA := Lib.hid EAX.out
                     have EB := Lib.hid EBX.out
                     have HZ := Lib.hid HZX.out
                     clear HBX EAX EBX HZX
                     try (have EPY := rowc EP.out
                          obtain ⟨rP, fP⟩ := EPY)
                     have lA : NA < wz.heap.size := (Array.getElem?_eq_some_iff.1 EA.out).1
                     have lB : NA + 1 < wz.heap.size := (Array.getElem?_eq_some_iff.1 EB.out).1
                     obtain ⟨rA, -⟩ := rowc EA.out
                     obtain ⟨rB, -⟩ := rowc EB.out))
                all_goals
                  go_wp2_with (fail)
                  go_meet
                  first
                    | exact ⟨_, rfl, HZ.out, heap_alloc_new _ _, HBC.out.alloc HBC.out.size _, keepAlloc EA.out, keepAlloc EB.out⟩
                    | (have hne : ∀ q, q < NZ → q ≠ _ := fun q hq => Nat.ne_of_lt (Nat.lt_of_lt_of_le hq HPZ.out)
                       refine ⟨_, rfl, HPZ.out, set_heap (set_heap (set_heap (set_heap EP.out 0 _) 1 _) 2 _) 3 _, ?_, ?_, ?_⟩
                       · have hle := Nat.le_trans HNZB.out HPZ.out
                         exact (((HBC.out.setCell hle _).setCell hle _).setCell hle _).setCell hle _
                       · have hq := hne NA HNAZ.out
                         exact (set_other hq).trans ((set_other hq).trans ((set_other hq).trans ((set_other hq).trans EA.out)))
                       · have hq := hne (NA + 1) HNBZ.out
                         exact (set_other hq).trans ((set_other hq).trans ((set_other hq).trans ((set_other hq).trans EB.out))))
              case rest =>
                obtain ⟨NP, rfl, hNZP, hP, hBx, hxA, hxB⟩ := hcut
                have HBX := Lib.hid hBx
                have EP := Lib.hid hP
                have EA' := Lib.hid hxA
                have EB' := Lib.hid hxB
                obtain ⟨rA7, -⟩ := rowc hxA
                obtain ⟨rB7, -⟩ := rowc hxB
                clear hP hBx hxA hxB rA rB EA EB HBC
                by_cases h4 : k1 = 4 ∧ k2 = 4
                · obtain ⟨rfl, rfl⟩ := h4
                  have hcm : cmpT (.mk 4 n1 s1 x1 ks1 vs1) (.mk 4 n2 s2 x2 ks2 vs2) = cmpL ks1 vs1 ks2 vs2 := by rw [cmpT_mk, if_pos ⟨HZ.out, rfl, rfl⟩]
                  have h44 : (decide ((4 : Int) = 4) && decide ((4 : Int) = 4)) = true := rfl
                  have AR4 := AR
                  rw [h44] at AR4
                  have hlt1 : cnts vs1 < cnts F8.vs0 := by have := HCN.out; rw [cnt_mk] at this; omega
                  have HCM := Lib.hid hcm
                  have HLT1 := Lib.hid hlt1
                  clear hcm h44 AR hlt1
                  cases hek : e (.agg #[.pointer pa, .int .i64 ma, .pointer pb, .int .i64 mb]) with
                  | some zz =>
                    have HK0 : Hid (zz = .bool true ∧ cmpL ks1 vs1 ks2 vs2 = 0) := Lib.hid (HST.out.known HP1.out HP2.out HLT1.out (by rw [HPQ.out]; exact hek))
                    obtain rfl := HK0.out.1
                    have HEK := Lib.hid hek
                    clear hek
                    go_wp2_with (fail)
                    refine (AR4.out _).mono ?_
                    rintro e0 w7 ⟨rfl, hb7⟩
                    have HB7 := Lib.hid (bs HBX.out hb7)
                    obtain ⟨rP, -⟩ := rowc (carry hb7 EP.out)
                    have hm17 : raw.Holds w7 (G2 w.heap.size) (w.heap.size + 1 + 1) e := HM1.out.kept (HB7.out.block _ HM1.out.lt) (fun x hx => hx.kp (Kp.below HB7.out))
                    have hk7 := HKEY.out.kp (Kp.below HB7.out)
                    clear hb7 rA7 rB7
                    go_wp2_with (first | (at_lookup; refine raw.wpList_lookup_w _ (by rfl) _ _ 128 false rfl hm17 (good_g2 _) Tryd.underlying128 (zeroBool9 _) rfl rfl hk7 HEK.out (got1_some _ _) ?_) | fail)
                    go_roundg (left9 (F8 :: G))
                    case rel => exact (RND.out (HCM.out.trans HK0.out.2) _ HB7.out).1
                    case measure => exact (RND.out (HCM.out.trans HK0.out.2) _ HB7.out).2
                  | none =>
                    have HEK := Lib.hid hek
                    obtain ⟨i0, hi, hz⟩ := mg_info
                    have HII := Lib.hid hi
                    have HZZ := Lib.hid hz
                    clear hek hi hz
                    go_wp2_with (fail)
                    refine (AR4.out _).mono ?_
                    rintro e0 w7 ⟨rfl, hb7⟩
                    have HB7 := Lib.hid (bs HBX.out hb7)
                    have EA7 := Lib.hid (carry hb7 EA'.out)
                    have EB7 := Lib.hid (carry hb7 EB'.out)
                    have EP7 := Lib.hid (carry hb7 EP.out)
                    obtain ⟨rP, -⟩ := rowc EP7.out
                    have hm17 : raw.Holds w7 (G2 w.heap.size) (w.heap.size + 1 + 1) e := HM1.out.kept (HB7.out.block _ HM1.out.lt) (fun x hx => hx.kp (Kp.below HB7.out))
                    have HM17 := Lib.hid hm17
                    have hk7 := HKEY.out.kp (Kp.below HB7.out)
                    have hNE : w.heap.size + 1 + 1 < w4.heap.size := HM1.out.lt
                    clear hb7 rA7 rB7
                    go_wp2_with (first
                      | (at_lookup; refine raw.wpList_lookup_w _ (by rfl) _ _ 128 false rfl hm17 (good_g2 _) Tryd.underlying128 (zeroBool9 _) rfl rfl hk7 HEK.out (got1_none _) ?_)
                      | (at_mapUpdate; refine raw.wpList_update _ rfl _ _ _ 128 rfl hm17 (good_g2 _) (g2_stays _) Tryd.underlying128 rfl rfl rfl hk7 ?_
                         intro w8 hm18 hgr8
                         have HM18 := Lib.hid hm18
                         have HGR8 := Lib.hid hgr8
                         obtain ⟨rA8, _⟩ := rowc ((hgr8.block NA (Array.getElem?_eq_some_iff.1 EA7.out).1 (by intro h; injection h with h; have := HNA.out; omega)).trans EA7.out)
                         obtain ⟨rB8, _⟩ := rowc ((hgr8.block (NA + 1) (Array.getElem?_eq_some_iff.1 EB7.out).1 (by intro h; injection h with h; have := HNA.out; omega)).trans EB7.out)
                         clear hm18 hgr8)
                      | fail)
                    refine (NM2.out _).mono ?_
                    rintro e0 w9 ⟨bn, rfl, hbn9, hmb9, hb9⟩
                    have HR9 := Lib.hid (((HROW.out.below HB7.out).keptN HGR8.out (hold_np HM17.out)).below hb9)
                    have HBN := Lib.hid (And.intro hbn9 (And.intro hmb9 hb9))
                    have hRL : (F8 :: G).length = m + 1 := by have := HM.out; simp; omega
                    have hrw : w9.ownsRow w.heap.size MG 4 (.slice (some ⟨g, 0, none⟩) (m + 1) cc) (m + 1) ((F8 :: G).reverse.flatMap Mt.cells) := by
                      have := HR9.out
                      unfold CRow at this
                      rwa [hRL] at this
                    have HRW := Lib.hid hrw
                    have hs9 : w.heap.size ≤ w9.heap.size := by
                      have q1 := HB4.out.size
                      have q2 := HB7.out.size
                      have q3 := HGR8.out.size
                      have q4 := hb9.size
                      omega
                    clear hbn9 hmb9 hb9 rA8 rB8 rP hm17 hk7 hrw hRL
                    go_wp2_with (first
                      | (at_builtin; refine wpList_append_own _ rfl _ _ 133 rfl w.heap.size MG i0 _ 4 64 Tryd.underlying133 HII.out HZZ.out.1 HZZ.out.2.1 HZZ.out.2.2 rfl (by decide) _ (m + 1) _ rfl (HRW.out.alloc _) ⟨w9.heap.size, 0, none⟩ 1 1 [.slice A1 L1 c1, .slice A2 L2 c2, .int .i64 0, .map (some bn)] rfl rfl (four_new9 _ _ _ _ _ _) (by intro u hu; simp at hu; rcases hu with rfl | rfl | rfl | rfl <;> rfl) (by unfold maxLen; omega) (by omega) (by simp; omega) ?_
                         intro v' w10 hown' hgrow' hnil
                         have HR10 := Lib.hid hown'
                         have HG10 := Lib.hid hgrow'
                         clear hown' hgrow' hnil)
                      | fail)
                    go_roundg (1 + wks vs1 + left9 (F8 :: G))
                    case rel =>
                      have hk04 : Kp w.heap.size w4 w4 := Kp.refl _ _
                      have hst := HST.out
                      rw [HCM.out] at hst
                      have h2 := HLF.out
                      rw [wk_mk] at h2
                      have hm18 := HM18.out
                      rw [← HPQ.out] at hm18
                      obtain ⟨hb1', hb2', hb3'⟩ := HBN.out
                      have hrow10 := HR10.out
                      rw [← HM.out, HL1.out, HL2.out] at hrow10
                      refine ⟨CRel.push hst HM1.out HE9.out (Nat.le_refl _) (by omega) HB4.out HI1.out.1 HCP.out.1 HI1.out.2 HCP.out.2 HLT1.out HB7.out HM17.out hm18 HGR8.out (bs hb3' (b1 _ _)) hb1' (hb2'.kept (Below.heap_alloc w9 _ bn hb2'.lt) (fun _ hx => hx)) hrow10 HG10.out (fun k hk => ?_) HTB.out HTX.out, by omega⟩
                      obtain ⟨h5, h6, cs, tt, h7⟩ := HR9.out.own g rfl
                      obtain rfl : g = k := by injection hk
                      exact ⟨h5, cs, tt, keepAlloc h7⟩
                    case measure =>
                      have h2 := HLF.out
                      rw [wk_mk] at h2
                      omega
                · have hcm : cmpT (.mk k1 n1 s1 x1 ks1 vs1) (.mk k2 n2 s2 x2 ks2 vs2) = 0 := by rw [cmpT_mk, if_neg (fun h => h4 h.2)]; exact HZ.out
                  have h44 : (decide (k1 = 4) && decide (k2 = 4)) = false := by
                    by_cases h5 : k1 = 4
                    · rw [decide_eq_true h5, decide_eq_false (fun h6 => h4 ⟨h5, h6⟩)]; rfl
                    · rw [decide_eq_false h5]; rfl
                  have AR4 := AR
                  rw [h44] at AR4
                  have HCM := Lib.hid hcm
                  clear hcm h44 AR h4
                  go_wp2_with (fail)
                  refine (AR4.out _).mono ?_
                  rintro e0 w7 ⟨rfl, hb7⟩
                  have HB7 := Lib.hid (bs HBX.out hb7)
                  clear hb7 rA7 rB7
                  go_wp2_with (fail)
                  go_roundg (left9 (F8 :: G))
                  case rel => exact (RND.out HCM.out _ HB7.out).1
                  case measure => exact (RND.out HCM.out _ HB7.out).2
            · have hc : cmpT (.mk k1 n1 s1 x1 ks1 vs1) (.mk k2 n2 s2 x2 ks2 vs2) = z := by rw [cmpT_mk, HZ.out, if_neg (fun h => hz h.1)]
              have h1 := HST.out
              rw [hc] at h1
              have HWZ := Lib.hid (h1.stop hz)
              have HB5 := Lib.hid (WB.out _ HBC.out)
              clear hc h1 RND WB
              go_wp2_with (fail)
              go_ret
              exact ⟨by rw [HWZ.out]; rfl, HB5.out⟩

end Go.Proofs.YtlbkbcafkjgckaaDoor.tree

/-
  Items in a row of the call's own, all of whose blocks satisfy P.
  Conditions: those that each theorem names.
-/
namespace Go.Proofs.YtlbkbcafkjgckaaDoor.tree
open Go.ChangeShapes Go.WideShapes Go.ChangeAt Go.RowKit
set_option linter.unusedVariables false

def OwR (w : World) (P : Nat → Prop) (v : Value) (xs : List Value) (ks : List Ky) (vs : List Tr) : Prop :=
  w.ownsRow 0 IE 8 v vs.length xs ∧ (∀ b, v.ownBlock = some b → P b) ∧ ks.length = vs.length ∧ ∀ i, i < vs.length → ∃ y k n s x ks' vs' A c, ks[i]? = some y ∧ vs[i]? = some (.mk k n s x ks' vs') ∧ (I64 y.num ∧ y.str.size ≤ maxLen) ∧
    xAt8 xs i y k n s x A vs'.length c ∧ TIn w (fun b => P b ∧ v.ownBlock ≠ some b) (.mk k n s x ks' vs') (vV k n s x A vs'.length c)

section
variable {w w' : World} {P P' : Nat → Prop} {v : Value} {xs : List Value} {ks : List Ky} {vs : List Tr}
theorem OwR.of {lo : Nat} (h : ORowX w lo v xs ks vs) : OwR w (fun b => lo ≤ b ∧ b < w.heap.size) v xs ks vs := by
  have hb := ORow.block (lo := lo) (ks := ks) (vs := vs) ⟨xs, h⟩
  obtain ⟨h1, h2, h3⟩ := h
  refine ⟨⟨h1.1, h1.2.imp id fun ⟨g, cap, cur, e, hlo, r⟩ => ⟨g, cap, cur, e, Nat.zero_le _, r⟩⟩, hb, h2, fun i hi => ?_⟩
  obtain ⟨y, k, n, s, x, ks', vs', A, c, a1, a2, a3, a4, a5⟩ := h3 i hi
  refine ⟨y, k, n, s, x, ks', vs', A, c, a1, a2, a3, a4, ?_⟩
  have h' : TIn w (fun b => SX lo v b ∧ b < w.heap.size) (.mk k n s x ks' vs') (vV k n s x A vs'.length c) := by
    generalize (Tr.mk k n s x ks' vs') = t at a5
    generalize (vV k n s x A vs'.length c) = u at a5
    clear a1 a2 a4
    induction a5 with
    | mk k n s x ks vs A cap C hk hl hm hcap hc ht ih =>
      refine .mk k n s x ks vs A cap C hk hl hm hcap (fun i hi => ?_) ih
      obtain ⟨a, ha, hS, hky, hs, hj⟩ := hc i hi
      refine ⟨a, ha, ⟨hS, ?_⟩, hky, hs, hj⟩
      have := World.block_lt_of_cell? _ _ hky.1
      rwa [mem.add_block] at this
  exact h'.stays (fun b hb => ⟨⟨hb.1.1, hb.2⟩, hb.1.2⟩) (fun _ _ _ => rfl)
theorem OwR.mono (h : OwR w P v xs ks vs) (hP : ∀ b, P b → P' b) : OwR w P' v xs ks vs := by
  obtain ⟨h1, h0, h2, h3⟩ := h
  refine ⟨h1, fun b e => hP b (h0 b e), h2, fun i hi => ?_⟩
  obtain ⟨y, k, n, s, x, ks', vs', A, c, a1, a2, a3, a4, a5⟩ := h3 i hi
  exact ⟨y, k, n, s, x, ks', vs', A, c, a1, a2, a3, a4, a5.stays (fun b hb => ⟨hP b hb.1, hb.2⟩) (fun _ _ _ => rfl)⟩
theorem OwR.keep (h : OwR w P v xs ks vs) (hs : ∀ b, P b → b < w.heap.size → w'.heap[b]? = w.heap[b]?) : OwR w' P v xs ks vs := by
  obtain ⟨h1, h0, h2, h3⟩ := h
  refine ⟨⟨h1.1, ?_⟩, h0, h2, fun i hi => ?_⟩
  · rcases h1.2 with h | ⟨g, cap, cur, e, hlo, hg, hr⟩
    · exact .inl h
    · exact .inr ⟨g, cap, cur, e, hlo, (hs g (h0 g (by rw [e]; rfl)) (Array.getElem?_eq_some_iff.1 hg).1).trans hg, hr⟩
  · obtain ⟨y, k, n, s, x, ks', vs', A, c, a1, a2, a3, a4, a5⟩ := h3 i hi
    exact ⟨y, k, n, s, x, ks', vs', A, c, a1, a2, a3, a4, a5.stays (fun _ h => h) fun b hb hlt => hs b hb.1 hlt⟩
theorem OwR.below (h : OwR w P v xs ks vs) (hb : Below w.heap.size w w') : OwR w' P v xs ks vs := h.keep fun b _ hl => hb.block b hl
theorem OwR.row (h : OwR w P v xs ks vs) : ORow w 0 v ks vs := by
  obtain ⟨h1, h0, h2, h3⟩ := h
  refine ⟨xs, h1, h2, fun i hi => ?_⟩
  obtain ⟨y, k, n, s, x, ks', vs', A, c, a1, a2, a3, a4, a5⟩ := h3 i hi
  exact ⟨y, k, n, s, x, ks', vs', A, c, a1, a2, a3, a4, a5.stays (fun b hb => ⟨Nat.zero_le _, hb.2⟩) (fun _ _ _ => rfl)⟩
theorem OwR.isin (h : OwR w P v xs ks vs) (hm : vs.length ≤ maxLen) : ∃ A c, v = .slice A vs.length c ∧ (vs.length ≤ c ∧ c ≤ maxLen) ∧ IsIn w (fun b => 0 ≤ b) ks vs A := h.row.isin hm

/-- One more. -/
theorem OwR.more {Q : Nat → Prop} (h : OwR w P v xs ks vs)
    {y : Ky} {k n x : Int} {s : ByteArray} {ks' : List Ky} {vs' : List Tr} {A : Option Addr} {c : Nat} (hy : I64 y.num ∧ y.str.size ≤ maxLen) (ht : TIn w Q (.mk k n s x ks' vs') (vV k n s x A vs'.length c)) (hQ : ∀ b, Q b → v.ownBlock ≠ some b)
    {v' : Value} (ho : w'.ownsRow 0 IE 8 v' (vs.length + 1) (xs ++ [.bool y.text, .int .i64 y.num, .string y.str, .int .i64 k, .int .i64 n, .string s, .int .i64 x, .slice A vs'.length c])) (hg : w.grownBy w' v.ownBlock) (hat : v'.ownBlock = v.ownBlock ∨ v'.ownBlock = some w.heap.size) :
    OwR w' (fun b => ((P b ∧ v.ownBlock ≠ some b) ∨ Q b) ∨ v'.ownBlock = some b) v' (xs ++ [.bool y.text, .int .i64 y.num, .string y.str, .int .i64 k, .int .i64 n, .string s, .int .i64 x, .slice A vs'.length c]) (ks ++ [y]) (vs ++ [.mk k n s x ks' vs']) := by
  obtain ⟨h1, h0, h2, h3⟩ := h
  have hxl : xs.length = vs.length * 8 := h1.1
  have st : ∀ {t : Tr} {u : Value} {R : Nat → Prop}, (∀ b, R b → v.ownBlock ≠ some b) → (∀ b, R b → (P b ∧ v.ownBlock ≠ some b) ∨ Q b) → TIn w R t u → TIn w' (fun b => (((P b ∧ v.ownBlock ≠ some b) ∨ Q b) ∨ v'.ownBlock = some b) ∧ v'.ownBlock ≠ some b) t u := fun {t u R} hR1 hR2 h => by
    have h' : TIn w (fun b => R b ∧ b < w.heap.size) t u := by
      induction h with
      | mk k n s x ks vs A cap C hk hl hm hcap hc ht ih =>
        refine .mk k n s x ks vs A cap C hk hl hm hcap (fun i hi => ?_) ih
        obtain ⟨a, ha, hS, hky, hs, hj⟩ := hc i hi
        refine ⟨a, ha, ⟨hS, ?_⟩, hky, hs, hj⟩
        have := World.block_lt_of_cell? _ _ hky.1
        rwa [mem.add_block] at this
    exact h'.stays (fun b ⟨hb1, hb3⟩ => ⟨.inl (hR2 b hb1), fun e => by
      rcases hat with h | h
      · exact hR1 b hb1 (h ▸ e)
      · rw [h] at e; injection e with e; omega⟩) (fun b ⟨hb1, hb3⟩ hlt => hg.block b hlt (fun e => hR1 b hb1 e.symm))
  refine ⟨by rw [List.length_append]; exact ho, fun b e => .inr e, by rw [List.length_append, List.length_append, h2]; rfl, fun i hi => ?_⟩
  rw [List.length_append] at hi
  simp only [List.length_cons, List.length_nil] at hi
  by_cases e : i = vs.length
  · subst e
    refine ⟨y, k, n, s, x, ks', vs', A, c, by rw [List.getElem?_append_right (by omega), h2]; simp, by rw [List.getElem?_append_right (by omega)]; simp, hy, fun q hq => ?_, st hQ (fun b hb => .inr hb) ht⟩
    rw [List.getElem?_append_right (by omega), hxl, Nat.add_sub_cancel_left]
    match q, hq with
    | 0, _ => rfl
    | 1, _ => rfl
    | 2, _ => rfl
    | 3, _ => rfl
    | 4, _ => rfl
    | 5, _ => rfl
    | 6, _ => rfl
    | 7, _ => rfl
  · obtain ⟨y1, k1, n1, s1, x1, ks1, vs1, A1, c1, a1, a2, a3, a4, a5⟩ := h3 i (by omega)
    refine ⟨y1, k1, n1, s1, x1, ks1, vs1, A1, c1, by rw [List.getElem?_append_left (by omega)]; exact a1, by rw [List.getElem?_append_left (by omega)]; exact a2, a3, fun q hq => ?_, st (fun b hb => hb.2) (fun b hb => .inl hb) a5⟩
    rw [List.getElem?_append_left (by omega)]
    exact a4 q hq

theorem OwR.isinP (h : OwR w P v xs ks vs) (hm : vs.length ≤ maxLen) : ∃ A c, v = .slice A vs.length c ∧ (vs.length ≤ c ∧ c ≤ maxLen) ∧ IsIn w P ks vs A := by
  obtain ⟨h1, h0, h2, h3⟩ := h
  rcases h1.2 with ⟨rfl, h0'⟩ | ⟨g, cap, cur, rfl, hlo, hg, hnc, hcm, hsz, htk⟩
  · obtain rfl : vs = [] := List.length_eq_zero_iff.1 h0'
    obtain rfl : ks = [] := List.length_eq_zero_iff.1 h2
    exact ⟨none, 0, rfl, ⟨by simp, by simp⟩, IsIn.nil _ _ _⟩
  · refine ⟨some ⟨g, 0, none⟩, cap, rfl, ⟨hnc, hcm⟩, h2, hm, ?_⟩
    have each : ∀ i, ∃ C : Array Value, ∀ (hi : i < vs.length), KyAt w ⟨g, 0, none⟩ i (ks[i]'(h2 ▸ hi)) ∧ C.size = 5 ∧ (∀ j, j < 5 → w.cell? ((⟨g, 0, none⟩ : Addr).add (8 * i + (3 + j))) = C[j]?) ∧ TIn w P (vs[i]) (.agg C) := by
      intro i
      by_cases hi : i < vs.length
      · obtain ⟨y, k, n, s, x, ks', vs', A, c, hy, ht, hyb, hat, hT⟩ := h3 i hi
        have ey : ks[i]'(h2 ▸ hi) = y := by rw [List.getElem?_eq_getElem (h2 ▸ hi)] at hy; exact Option.some.inj hy
        have et : vs[i] = .mk k n s x ks' vs' := by rw [List.getElem?_eq_getElem hi] at ht; exact Option.some.inj ht
        have at_ : ∀ q, q < 8 → w.cell? ((⟨g, 0, none⟩ : Addr).add (8 * i + q)) = (eV y k n s x A vs'.length c).cells[q]? := fun q hq => by
          rw [Addr.add_lit, Nat.zero_add, cell_of_row w g _ cur IE _ hg, ← hat q hq, ← htk, List.getElem?_take_of_lt (by omega), Nat.mul_comm]
          simp
        refine ⟨#[.int .i64 k, .int .i64 n, .string s, .int .i64 x, .slice A vs'.length c], fun _ => ?_⟩
        rw [ey, et]
        refine ⟨⟨at_ 0 (by omega), at_ 1 (by omega), at_ 2 (by omega), hyb⟩, rfl, fun j hj => ?_, hT.stays (fun b hb => hb.1) (fun b _ _ => rfl)⟩
        rw [at_ (3 + j) (by omega)]
        match j, hj with
        | 0, _ => rfl
        | 1, _ => rfl
        | 2, _ => rfl
        | 3, _ => rfl
        | 4, _ => rfl
      · exact ⟨#[], fun h => absurd h hi⟩
    exact ⟨fun i => (each i).choose, fun i hi => ⟨_, rfl, h0 g rfl, ((each i).choose_spec hi).1, ((each i).choose_spec hi).2.1, ((each i).choose_spec hi).2.2.1⟩, fun i hi => ((each i).choose_spec hi).2.2.2⟩

/-- Items in a row of the call's own, all of whose blocks are plain and lie at lo or above. -/
def OwP (w : World) (lo : Nat) (v : Value) (xs : List Value) (ks : List Ky) (vs : List Tr) : Prop := OwR w (Nw lo w) v xs ks vs
theorem OwP.nil (w : World) (lo : Nat) : OwP w lo (.slice none 0 0) [] [] [] := ⟨World.ownsRow_nil w 0 _ 8, fun b e => by simp [Value.ownBlock] at e, rfl, fun i hi => absurd hi (by simp)⟩
theorem Plain.same {b : Nat} (h : Plain w b) (hs : w'.heap[b]? = w.heap[b]?) : Plain w' b := by
  obtain ⟨cs, t, hc⟩ := h
  exact ⟨cs, t, hs.trans hc⟩
theorem OwP.above {lo : Nat} (h : OwP w lo v xs ks vs) (hs : ∀ b, lo ≤ b → b < w.heap.size → w'.heap[b]? = w.heap[b]?) : OwP w' lo v xs ks vs :=
  (OwR.keep h fun b hb hl => hs b hb.1 hl).mono fun b hb => ⟨hb.1, hb.2.same (hs b hb.1 hb.2.lt)⟩
theorem OwP.below {lo : Nat} (h : OwP w lo v xs ks vs) (hb : Below w.heap.size w w') : OwP w' lo v xs ks vs := h.above fun b _ hl => hb.block b hl
theorem OwP.mono {lo lo' : Nat} (h : OwP w lo v xs ks vs) (hl : lo' ≤ lo) : OwP w lo' v xs ks vs := OwR.mono h fun b hb => ⟨Nat.le_trans hl hb.1, hb.2⟩
theorem OwP.block {lo : Nat} (h : OwP w lo v xs ks vs) : ∀ k, v.ownBlock = some k → lo ≤ k ∧ k < w.heap.size := fun k e => ⟨(h.2.1 k e).1, (h.2.1 k e).2.lt⟩
theorem OwP.len {lo : Nat} (h : OwP w lo v xs ks vs) : ks.length = vs.length := h.2.2.1
theorem OwP.isin {lo : Nat} (h : OwP w lo v xs ks vs) (hm : vs.length ≤ maxLen) : ∃ A c, v = .slice A vs.length c ∧ (vs.length ≤ c ∧ c ≤ maxLen) ∧ IsIn w (Nw lo w) ks vs A := OwR.isinP h hm
/-- One more, whose blocks are new. -/
theorem OwP.more {lo lq : Nat} (h : OwP w lo v xs ks vs) (hlq : lo ≤ lq) (hvq : ∀ b, v.ownBlock = some b → b < lq)
    {y : Ky} {k n x : Int} {s : ByteArray} {ks' : List Ky} {vs' : List Tr} {A : Option Addr} {c : Nat} (hy : I64 y.num ∧ y.str.size ≤ maxLen) (ht : TIn w (Nw lq w) (.mk k n s x ks' vs') (vV k n s x A vs'.length c))
    {v' : Value} (ho : w'.ownsRow 0 IE 8 v' (vs.length + 1) (xs ++ [.bool y.text, .int .i64 y.num, .string y.str, .int .i64 k, .int .i64 n, .string s, .int .i64 x, .slice A vs'.length c])) (hg : w.grownBy w' v.ownBlock) (hat : v'.ownBlock = v.ownBlock ∨ v'.ownBlock = some w.heap.size) (hlw : lo ≤ w.heap.size) :
    OwP w' lo v' (xs ++ [.bool y.text, .int .i64 y.num, .string y.str, .int .i64 k, .int .i64 n, .string s, .int .i64 x, .slice A vs'.length c]) (ks ++ [y]) (vs ++ [.mk k n s x ks' vs']) := by
  have hm := OwR.more (Q := Nw lq w) h hy ht (fun b hb e => by have := hvq b e; have := hb.1; omega) ho hg hat
  have hown : ∀ b, v'.ownBlock = some b → lo ≤ b ∧ Plain w' b := fun b e => by
    refine ⟨?_, ?_⟩
    · rcases hat with h' | h'
      · exact (OwP.block h b (h' ▸ e)).1
      · rw [h'] at e; injection e with e; omega
    · rcases ho.2 with ⟨rfl, h'⟩ | ⟨g, cap, cur, rfl, hlo, hgc, hr⟩
      · simp [Value.ownBlock] at e
      · simp [Value.ownBlock] at e
        subst e
        exact ⟨cur, IE, hgc⟩
  refine OwR.mono hm fun b hb => ?_
  rcases hb with (⟨hb, hne⟩ | hb) | hb
  · exact ⟨hb.1, hb.2.same (hg.block b hb.2.lt (fun e => hne e.symm))⟩
  · exact ⟨Nat.le_trans hlq hb.1, hb.2.same (hg.block b hb.2.lt (fun e => by have := hvq b e.symm; have := hb.1; omega))⟩
  · exact hown b hb
end

end Go.Proofs.YtlbkbcafkjgckaaDoor.tree

/-
  CompareValues and LooseEqual of the project.
  Conditions: the values hold at most 10^9 items and letters; the table of powers of ten and the project's two errors hold what the program's text lays.
-/
namespace Go.Proofs.YtlbkbcafkjgckaaDoor.tree
open Go.ChangeShapes Go.WideShapes Go.ChangeAt Go.RowKit ers
set_option linter.unusedVariables false

theorem Nw.to {w w' : World} {lo : Nat} (hb : Below w.heap.size w w') {t : Tr} {v : Value} (h : TIn w (Nw lo w) t v) : TIn w' (Nw lo w') t v := h.stays (fun b hb2 => ⟨hb2.1, Plain.same hb2.2 (hb.block b hb2.2.lt)⟩) (fun b hb2 hl => hb.block b hl)

set_option maxHeartbeats 1000000 in
theorem compare_i (t t' : Tr) (hT : tot t ≤ 1000000000) (hT' : tot t' ≤ 1000000000) (w : World) (lo lo' : Nat) (v v' : Value) (hE : CmE w) (h : TIn w (Nw lo w) t v) (h' : TIn w (Nw lo' w) t' v') :
    Calls Tryd.prog 24 #[v, v'] w (GivesQ w (.int .i64 (cmpT t t'))) := by
  have CO := fun w' (hb : Below w.heap.size w w') => compareOutside t t' v v' w' _ _ (h.below' hb) (h'.below' hb) hT hT' (hE.stays hb)
  have hct := cnt_tot t h.fits
  obtain ⟨k, n, s, x, ks, vs⟩ := t
  obtain ⟨k', n', s', x', ks', vs'⟩ := t'
  obtain ⟨A, c, rfl, -, -⟩ := h.out
  obtain ⟨A', c', rfl, -, -⟩ := h'.out
  have CI : k = 4 → k' = 4 → ∀ w' (hb : Below w.heap.size w w'), Calls Tryd.prog 72 #[vV 4 n s x A vs.length c, vV 4 n' s' x' A' vs'.length c'] w' (GivesQ w' (.int .i64 (cmpL ks vs ks' vs'))) := fun h1 h2 w' hb => by
    subst h1 h2
    rw [tot_mk] at hT hT'
    rw [cnt_mk] at hct
    rw [tot_mk] at hct
    exact compareItems n s x ks vs A c n' s' x' ks' vs' A' c' w' lo lo' (Nw.to hb h) (Nw.to hb h') (by omega) (by omega) (by omega) (hE.stays hb)
  obtain ⟨L, HL⟩ : ∃ L, Hid (vs.length = L) := ⟨_, Lib.hid rfl⟩
  obtain ⟨L', HL'⟩ : ∃ L, Hid (vs'.length = L) := ⟨_, Lib.hid rfl⟩
  obtain ⟨z, HZ⟩ : ∃ z, Hid (ordO (.mk k n s x ks vs) (.mk k' n' s' x' ks' vs') = z) := ⟨_, Lib.hid rfl⟩
  obtain ⟨W, HW⟩ : ∃ z, Hid (cmpT (.mk k n s x ks vs) (.mk k' n' s' x' ks' vs') = z) := ⟨_, Lib.hid rfl⟩
  rw [HL.out, HL'.out] at CO CI ⊢
  rw [HZ.out] at CO
  rw [HW.out]
  have HCO := Lib.hid CO
  have HCI := Lib.hid CI
  have AR := Lib.hid (fun w9 => areArrays k n s x A L c k' n' s' x' A' L' c' w9)
  clear h h' hE CO CI hct hT hT'
  go_enter Tryd.func24, Tryd.ntmps24
  go_wp2_with (fail)
  refine (HCO.out _ (b2 w _ _)).mono ?_
  rintro e w1 ⟨rfl, hb1⟩
  have EA := Lib.hid (carry hb1 (heap_alloc2_old w _ _))
  have EB := Lib.hid (carry hb1 (heap_alloc2_new w _ _))
  have HB := Lib.hid (bs (b2 w _ _) hb1)
  clear hb1
  obtain ⟨rA, -⟩ := rowc EA.out
  obtain ⟨rB, -⟩ := rowc EB.out
  by_cases hz : z = 0
  · subst hz
    by_cases h4 : k = 4 ∧ k' = 4
    · obtain ⟨rfl, rfl⟩ := h4
      have h44 : (decide ((4 : Int) = 4) && decide ((4 : Int) = 4)) = true := rfl
      rw [h44] at AR
      have HWC : Hid (cmpL ks vs ks' vs' = W) := Lib.hid (by rw [← HW.out, cmpT_mk, if_pos ⟨HZ.out, rfl, rfl⟩])
      have HC2 := Lib.hid (HCI.out rfl rfl)
      rw [HWC.out] at HC2
      clear h44 HCI
      go_wp2_with (fail)
      refine (AR.out _).mono ?_
      rintro e w2 ⟨rfl, hb2⟩
      have HB2 := Lib.hid (bs HB.out hb2)
      have EA2 := Lib.hid (carry hb2 EA.out)
      have EB2 := Lib.hid (carry hb2 EB.out)
      clear hb2 rA rB
      obtain ⟨rA, -⟩ := rowc EA2.out
      obtain ⟨rB, -⟩ := rowc EB2.out
      go_wp2_with (fail)
      refine (HC2.out _ HB2.out).mono ?_
      rintro e w3 ⟨rfl, hb3⟩
      have HB3 := Lib.hid (bs HB2.out hb3)
      clear hb3
      go_wp2_with (fail)
      go_ret
      exact ⟨rfl, HB3.out⟩
    · have h44 : (decide (k = 4) && decide (k' = 4)) = false := by
        by_cases h5 : k = 4
        · rw [decide_eq_true h5, decide_eq_false (fun h6 => h4 ⟨h5, h6⟩)]; rfl
        · rw [decide_eq_false h5]; rfl
      rw [h44] at AR
      have HWC : Hid (W = 0) := Lib.hid (by rw [← HW.out, cmpT_mk, if_neg (fun h => h4 h.2)]; exact HZ.out)
      clear h44 HCI h4
      go_wp2_with (fail)
      refine (AR.out _).mono ?_
      rintro e w2 ⟨rfl, hb2⟩
      have HB2 := Lib.hid (bs HB.out hb2)
      clear hb2 rA rB
      go_wp2_with (fail)
      go_ret
      exact ⟨by rw [HWC.out]; rfl, HB2.out⟩
  · have HWC : Hid (W = z) := Lib.hid (by rw [← HW.out, cmpT_mk, HZ.out, if_neg (fun h => hz h.1)])
    clear HCI
    go_wp2_with (fail)
    go_ret
    exact ⟨by rw [HWC.out]; rfl, HB.out⟩

theorem loose_i (t t' : Tr) (hT : tot t ≤ 1000000000) (hT' : tot t' ≤ 1000000000) (w : World) (lo lo' : Nat) (v v' : Value) (hE : CmE w) (h : TIn w (Nw lo w) t v) (h' : TIn w (Nw lo' w) t' v') :
    Calls Tryd.prog 25 #[v, v'] w (GivesQ w (.bool (decide (cmpT t t' = 0)))) := by
  have CV := fun w' (hb : Below w.heap.size w w') => compare_i t t' hT hT' w' lo lo' v v' (hE.stays hb) (Nw.to hb h) (Nw.to hb h')
  obtain ⟨k, n, s, x, A, L, c, rfl⟩ : ∃ k n s x A L c, v = vV k n s x A L c := by
    cases h with
    | mk k n s x ks vs A cap C => exact ⟨k, n, s, x, A, _, cap, rfl⟩
  obtain ⟨k', n', s', x', A', L', c', rfl⟩ : ∃ k n s x A L c, v' = vV k n s x A L c := by
    cases h' with
    | mk k n s x ks vs A cap C => exact ⟨k, n, s, x, A, _, cap, rfl⟩
  obtain ⟨z, HZ⟩ : ∃ z, Hid (cmpT t t' = z) := ⟨_, Lib.hid rfl⟩
  rw [HZ.out] at CV ⊢
  have HCV := Lib.hid CV
  clear CV h h' hE
  go_enter Tryd.func25, Tryd.ntmps25
  go_wp2_with (fail)
  refine (HCV.out _ (by first | exact b2 w _ _ | exact Below.refl _ _)).mono ?_
  rintro e w1 ⟨rfl, hb1⟩
  have HB : Hid (Below w.heap.size w w1) := Lib.hid (by first | exact bs (b2 w _ _) hb1 | exact hb1)
  clear hb1
  by_cases hz : z = 0
  · subst hz
    go_wp2_with (fail)
    go_ret
    exact ⟨rfl, HB.out⟩
  · have hd : decide (z = 0) = false := decide_eq_false hz
    rw [hd]
    go_wp2_with (fail)
    go_ret
    exact ⟨by rw [hd, show (z == 0) = false from beq_eq_false_iff_ne.2 hz]; rfl, HB.out⟩

end Go.Proofs.YtlbkbcafkjgckaaDoor.tree

/-
  The model's look at a key.
  Conditions: none.
-/
namespace Go.Proofs.YtlbkbcafkjgckaaDoor.tree
open Go.ChangeShapes Go.WideShapes Go.ChangeAt Go.RowKit
set_option linter.unusedVariables false

set_option maxHeartbeats 800000 in
theorem l6Get_s (t : Tr) (v : Value) (y : Ky) (w : World) (S : Nat → Prop) (h : TIn w S t v) : Calls Tryd.prog 132 #[v, kyV y] w (OutT w (getR t y) (getB t y) S) := by
  obtain ⟨k, n, s, x, ks, vs⟩ := t
  obtain ⟨A, c, rfl, -, hin⟩ := h.out
  have FI := fun w h => findV_s (.mk k n s x ks vs) (vV k n s x A vs.length c) y w S h
  obtain ⟨L, HL⟩ : ∃ L, Hid (L = vs.length) := ⟨_, Lib.hid rfl⟩
  have hm : L ≤ maxLen := by rw [HL.out]; exact hin.2.1
  unfold maxLen at hm
  have hkl : Hid (ks.length = L) := Lib.hid (by rw [HL.out]; exact hin.1)
  rw [← HL.out] at h FI ⊢
  have HT := Lib.hid h
  have HI := Lib.hid hin
  clear h hin
  rcases posV_cases k n s x ks vs y with hp | ⟨i, hp, hi, rfl⟩
  · have e1 : getR (.mk k n s x ks vs) y = nullT := by unfold getR; rw [getT_none hp]; rfl
    have e2 : getB (.mk k n s x ks vs) y = false := by unfold getB; rw [getT_none hp]; rfl
    rw [e1, e2]
    rw [hp] at FI
    have HF := Lib.hid FI
    clear FI hp e1 e2
    obtain ⟨yb, yn, ys⟩ := y
    unfold kyV at HF ⊢
    go_enter Tryd.func132, Tryd.ntmps132
    go_wp2_with (fail)
    obtain ⟨a0, a1, a2, az, ab⟩ := al3 w #[.int .i64 k, .int .i64 n, .string s, .int .i64 x, .slice A L c] #[.bool yb, .int .i64 yn, .string ys] #[.int .i64 0, .int .i64 0, .string ⟨#[]⟩, .int .i64 0, .slice none 0 0] IV IK IV
    refine (HF.out _ (HT.out.below' ab)).mono ?_
    rintro e w1 ⟨rfl, hb1⟩
    have A2 := Lib.hid (carry hb1 a2)
    have HB1 := Lib.hid (bs ab hb1)
    obtain ⟨r, f⟩ := rowc A2.out
    clear a0 a1 a2 az ab hb1
    go_wp2_with (fail)
    generalize hwF : (((((w1.setCell ⟨w.heap.size + 1 + 1, 0, none⟩ (.int .i64 0)).setCell ⟨w.heap.size + 1 + 1, 1, none⟩ (.int .i64 0)).setCell ⟨w.heap.size + 1 + 1, 2, none⟩ (.string ⟨#[]⟩)).setCell ⟨w.heap.size + 1 + 1, 3, none⟩ (.int .i64 0)).setCell ⟨w.heap.size + 1 + 1, 4, none⟩ (.slice none 0 0)) = wF
    obtain ⟨rF, -, bF⟩ := fill5 A2.out hwF
    refine bodyPost_ret (v := .tuple #[vV 0 0 ⟨#[]⟩ 0 none 0 0, .bool false]) ?_ rfl ?_
    · simp [results, Tryd.results132, go_sem, rF]
    · exact ⟨_, rfl, flat ⟨by unfold I64; omega, by unfold I64; omega, by unfold I64; omega, Nat.zero_le _⟩ _ _ none 0 (Nat.zero_le _), bF _ _ (by omega) HB1.out⟩
  · obtain ⟨t', ht'⟩ : ∃ t', vs[i]? = some t' := ⟨_, List.getElem?_eq_getElem (by rw [← HL.out, ← hkl.out]; exact hi)⟩
    have e1 : getR (.mk 4 n s x ks vs) y = t' := by unfold getR; rw [getT_some hp, ht']; rfl
    have e2 : getB (.mk 4 n s x ks vs) y = true := by unfold getB; rw [getT_some hp, ht']; rfl
    rw [e1, e2]
    rw [hp] at FI
    have hiL : i < L := by rw [← hkl.out]; exact hi
    obtain ⟨a, y1, k1, n1, s1, x1, ks1, vs1, A1, c1, rfl, hS, hky, hvs, htin, hyb, hkb, hin1, hcell⟩ := HI.out.item (i := i) (by rw [← HL.out]; exact hiL)
    rw [ht'] at hvs
    obtain rfl := Option.some.inj hvs
    obtain ⟨L1, HL1⟩ : ∃ L1, Hid (L1 = vs1.length) := ⟨_, Lib.hid rfl⟩
    rw [← HL1.out] at hcell
    have HF := Lib.hid FI
    have HC := Lib.hid hcell
    have HV := Lib.hid htin
    clear FI hp e1 e2 hcell htin hky hyb hkb hin1 hS ht'
    obtain ⟨yb, yn, ys⟩ := y
    unfold kyV at HF ⊢
    go_enter Tryd.func132, Tryd.ntmps132
    go_wp2_with (fail)
    obtain ⟨a0, a1, a2, az, ab⟩ := al3 w #[.int .i64 4, .int .i64 n, .string s, .int .i64 x, .slice (some a) L c] #[.bool yb, .int .i64 yn, .string ys] #[.int .i64 0, .int .i64 0, .string ⟨#[]⟩, .int .i64 0, .slice none 0 0] IV IK IV
    refine (HF.out _ (HT.out.below' ab)).mono ?_
    rintro e w1 ⟨rfl, hb1⟩
    have A0 := Lib.hid (carry hb1 a0)
    have A2 := Lib.hid (carry hb1 a2)
    have HB1 := Lib.hid (bs ab hb1)
    obtain ⟨p0, p1, p2, p3, p4, p5, p6, p7⟩ := HC.out.below HB1.out
    have q4 := (rowc A0.out).1 4
    obtain ⟨r, f⟩ := rowc A2.out
    clear a0 a1 a2 az ab hb1
    go_wp2_with (fail)
    generalize hwF : (((((w1.setCell ⟨w.heap.size + 1 + 1, 0, none⟩ (.int .i64 k1)).setCell ⟨w.heap.size + 1 + 1, 1, none⟩ (.int .i64 n1)).setCell ⟨w.heap.size + 1 + 1, 2, none⟩ (.string s1)).setCell ⟨w.heap.size + 1 + 1, 3, none⟩ (.int .i64 x1)).setCell ⟨w.heap.size + 1 + 1, 4, none⟩ (.slice A1 L1 c1)) = wF
    obtain ⟨rF, oF, bF⟩ := fill5 A2.out hwF
    refine bodyPost_ret (v := .tuple #[vV k1 n1 s1 x1 A1 L1 c1, .bool true]) ?_ rfl ?_
    · simp [results, Tryd.results132, go_sem, rF]
    · have hb := bF w.heap.size w (by omega) HB1.out
      exact ⟨_, by rw [HL1.out], HV.out.below' hb, hb⟩

end Go.Proofs.YtlbkbcafkjgckaaDoor.tree

/-
  What Mod and InRange of the project and of the model, and the model's own range test, return at every integer; they change nothing.
  Conditions: none but that arguments are of Go's type int.
-/
namespace Go.Proofs.YtlbkbcafkjgckaaDoor.mdl
open Go.ChangeShapes Go.WideShapes Go.ChangeAt Go.RowKit
set_option linter.unusedVariables false

def inr (n l h : Int) : Bool := decide (l ≤ n) && decide (n ≤ h)
theorem inr_of {n l h : Int} (h0 : l ≤ n) (h1 : n ≤ h) : inr n l h = true := by unfold inr; simp; omega
theorem inr_not {n l h : Int} (hh : ¬ (l ≤ n ∧ n ≤ h)) : inr n l h = false := by unfold inr; simp; omega

theorem ret_int {k : IntKind} {a b : Int} (h : a = b) : Ending.returned (.int k a) = .returned (.int k b) := by rw [h]

theorem l1In (n l h : Int) (w : World) : Calls Tryd.prog 61 #[.int .i64 n, .int .i64 l, .int .i64 h] w fun e w' => e = .returned (.bool (inr n l h)) ∧ w = w' := by
  by_cases h1 : l ≤ n
  all_goals
    by_cases h2 : n ≤ h
    all_goals
      go_enter Tryd.func61, Tryd.ntmps61
      go_wp2
      go_ret
      exact ⟨by simp [inr, h1, h2], rfl⟩

theorem implInRange (n l h : Int) (w : World) : Calls Tryd.prog 86 #[.int .i64 n, .int .i64 l, .int .i64 h] w fun e w' => e = .returned (.bool (inr n l h)) ∧ w = w' := by
  by_cases h1 : l ≤ n
  all_goals
    by_cases h2 : n ≤ h
    all_goals
      go_enter Tryd.func86, Tryd.ntmps86
      go_wp2
      go_ret
      exact ⟨by simp [inr, h1, h2], rfl⟩

theorem tm_bd (n m : Int) (h : 1 ≤ m) : -m < n.tmod m ∧ n.tmod m < m ∧ (n.tmod m + m) % m = n % m ∧ (n.tmod m < 0 → n.tmod m + m = n % m) ∧ (0 ≤ n.tmod m → n.tmod m = n % m) := by
  have e1 := Int.emod_nonneg n (b := m) (by omega)
  have e2 := Int.emod_lt_of_pos n (b := m) (by omega)
  have e3 : (n % m + m) % m = n % m := by rw [Int.add_emod_right, Int.emod_emod]
  have e4 : n % m % m = n % m := Int.emod_emod _ _
  rw [Int.tmod_eq_emod]
  split
  · have z : n % m - ((0 : Nat) : Int) = n % m := by omega
    rw [z]; exact ⟨by omega, by omega, e3, by omega, by omega⟩
  · rename_i hn
    have h0 : n % m ≠ 0 := fun hh => hn (Or.inr (Int.dvd_of_emod_eq_zero hh))
    have h1 : (m.natAbs : Int) = m := by omega
    rw [h1]
    have e5 : n % m - m + m = n % m := by omega
    rw [e5]
    exact ⟨by omega, by omega, e4, by omega, by omega⟩

def md (n m : Int) : Int := if inr m 1 1000000000000 = true then n % m else 0



theorem md_pos (n m : Int) (h0 : 1 ≤ m) (h1 : m ≤ 1000000000000) : md n m = n % m := by unfold md; rw [if_pos (inr_of h0 h1)]

end Go.Proofs.YtlbkbcafkjgckaaDoor.mdl

/-
  How the model compares two values.
  Conditions: the values hold at most 10^9 items and letters.
-/
namespace Go.Proofs.YtlbkbcafkjgckaaDoor.tree
open Go.ChangeShapes Go.WideShapes Go.ChangeAt Go.RowKit ers
set_option linter.unusedVariables false

theorem cell_eq {w w' : World} {a : Addr} (h : w'.heap[a.block]? = w.heap[a.block]?) : w'.cell? a = w.cell? a := by unfold World.cell?; rw [h]
theorem less_cb : ∀ (a b : List UInt8), Op.bytesLess a b = decide (Lib.compareBytes a b = -1) ∧ (a == b) = decide (Lib.compareBytes a b = 0) ∧ (Lib.compareBytes a b = -1 ∨ Lib.compareBytes a b = 0 ∨ Lib.compareBytes a b = 1)
  | [], [] => by simp [Op.bytesLess, Lib.compareBytes]
  | [], _ :: _ => by simp [Op.bytesLess, Lib.compareBytes]
  | _ :: _, [] => by simp [Op.bytesLess, Lib.compareBytes]
  | a :: r, b :: r' => by
    obtain ⟨h1, h2, h3⟩ := less_cb r r'
    simp only [Op.bytesLess, Lib.compareBytes]
    by_cases hlt : a < b
    · have : ¬ a = b := fun e => UInt8.lt_irrefl _ (e ▸ hlt)
      simp [hlt, this]
    · by_cases hgt : b < a
      · have : ¬ a = b := fun e => UInt8.lt_irrefl _ (e ▸ hgt)
        simp [hlt, hgt, this]
      · have : a = b := UInt8.le_antisymm (UInt8.not_lt.1 hgt) (UInt8.not_lt.1 hlt)
        subst this
        simp only [hlt, if_false]
        refine ⟨by simp [h1], ?_, h3⟩
        rw [← h2]
        simp
theorem l9Bytes (a b : ByteArray) (w : World) : Calls Tryd.prog 93 #[.string a, .string b] w (GivesQ w (.int .i64 (bys a b))) := by
  obtain ⟨h1, h2, h3⟩ := less_cb a.data.toList b.data.toList
  rw [← ByteArray.toList_eq, ← ByteArray.toList_eq] at h1 h2 h3
  obtain ⟨q, HQ⟩ : ∃ q, Hid (bys a b = q) := ⟨_, Lib.hid rfl⟩
  have e : Lib.compareBytes a.toList b.toList = q := by rw [← HQ.out]; unfold bys; rw [ByteArray.toList_eq, ByteArray.toList_eq]
  rw [e] at h1 h2 h3
  rw [HQ.out]
  clear e HQ
  rcases h3 with rfl | rfl | rfl
  · have h1' : Op.bytesLess a.toList b.toList = true := h1
    have h2' : (a.toList == b.toList) = false := h2
    clear h1 h2
    go_enter Tryd.func93, Tryd.ntmps93
    go_wp2
    go_ret
    exact ⟨rfl, Below.refl _ _⟩
  · have h1' : Op.bytesLess a.toList b.toList = false := h1
    have h2' : (a.toList == b.toList) = true := h2
    clear h1 h2
    go_enter Tryd.func93, Tryd.ntmps93
    go_wp2
    go_ret
    exact ⟨rfl, Below.refl _ _⟩
  · have h1' : Op.bytesLess a.toList b.toList = false := h1
    have h2' : (a.toList == b.toList) = false := h2
    clear h1 h2
    go_enter Tryd.func93, Tryd.ntmps93
    go_wp2
    go_ret
    exact ⟨rfl, Below.refl _ _⟩
theorem l9Order (a b : Int) (w : World) : Calls Tryd.prog 94 #[.int .i64 a, .int .i64 b] w (GivesQ w (.int .i64 (Lib.compareInt a b))) := by
  unfold Lib.compareInt
  by_cases h1 : a < b
  · rw [if_pos h1]
    go_enter Tryd.func94, Tryd.ntmps94
    go_wp2
    go_ret
    exact ⟨rfl, Below.refl _ _⟩
  · rw [if_neg h1]
    by_cases h2 : a > b
    · rw [if_pos h2]
      go_enter Tryd.func94, Tryd.ntmps94
      go_wp2
      go_ret
      exact ⟨rfl, Below.refl _ _⟩
    · rw [if_neg h2]
      go_enter Tryd.func94, Tryd.ntmps94
      go_wp2
      go_ret
      exact ⟨rfl, Below.refl _ _⟩
theorem l9Bit (t : Tr) (v : Value) (w : World) (S : Nat → Prop) (h : TIn w S t v) : Calls Tryd.prog 95 #[v] w (GivesQ w (.int .i64 (tr01 t))) := by
  have TB := fun w' (hb : Below w.heap.size w w') => toBool_s t v w' S (h.below' hb)
  obtain ⟨k, n, s, x, A, L, c, rfl⟩ : ∃ k n s x A L c, v = vV k n s x A L c := by
    cases h with
    | mk k n s x ks vs A cap C => exact ⟨k, n, s, x, A, _, cap, rfl⟩
  unfold tr01
  obtain ⟨b, HB⟩ : ∃ b, Hid (tb t = b) := ⟨_, Lib.hid rfl⟩
  rw [HB.out] at TB ⊢
  have HTB := Lib.hid TB
  clear h TB
  cases b
  all_goals
    go_enter Tryd.func95, Tryd.ntmps95
    go_wp2_with (fail)
    refine (HTB.out _ (b1 w _)).mono ?_
    rintro e w1 ⟨rfl, hb1⟩
    have HB1 := Lib.hid (bs (b1 w _) hb1)
    clear hb1
    go_wp2_with (fail)
    go_ret
    exact ⟨rfl, HB1.out⟩
theorem in_9 (n l h : Int) (b : Bool) (hb : (decide (l ≤ n) && decide (n ≤ h)) = b) (w : World) : Calls Tryd.prog 61 #[.int .i64 n, .int .i64 l, .int .i64 h] w fun e w' => e = .returned (.bool b) ∧ w = w' := by
  have := nums.l1In n l h w
  unfold nums.inr at this
  rwa [hb] at this

theorem getL_getT {n x : Int} {s : ByteArray} {ks : List Ky} {vs : List Tr} (y : Ky) : getT (.mk 4 n s x ks vs) y = getL ks vs y := by
  show (if posV (.mk 4 n s x ks vs) y = -1 then none else vs[(posV (.mk 4 n s x ks vs) y).toNat]?) = _
  rw [posV_four]
  rfl

/-- The model's answer in a box. -/
def CutG (w1 : World) (bb : Bool) (k n : Int) (s : ByteArray) (x : Int) (L : Nat) (T : Tr) (p f : Value) (wx : World) : Prop :=
  ∃ B A c, p = .pointer (some ⟨B, 0, none⟩) ∧ f = .bool bb ∧ Below w1.heap.size w1 wx ∧ w1.heap.size ≤ B ∧ wx.heap[B]? = some (.cells #[.int .i64 k, .int .i64 n, .string s, .int .i64 x, .slice A L c] IV (0, 0)) ∧ TIn wx (fun b => b ≠ B) T (vV k n s x A L c)

def CmS (t : Tr) : Prop := ∀ (t' : Tr) (w : World) (S S' : Nat → Prop) (v v' : Value), TIn w S t v → TIn w S' t' v' → tot t ≤ 1000000000 → tot t' ≤ 1000000000 → Calls Tryd.prog 47 #[v, v'] w (GivesQ w (.int .i64 (cmpT t t')))

theorem cmpL_drop {ks : List Ky} {vs : List Tr} {ks' : List Ky} {vs' : List Tr} {j : Nat} {y : Ky} {t : Tr} (h1 : ks[j]? = some y) (h2 : vs[j]? = some t) : cmpL (ks.drop j) (vs.drop j) ks' vs' = match getL ks' vs' y with
    | none => 2
    | some u => thn (cmpT t u) (cmpL (ks.drop (j + 1)) (vs.drop (j + 1)) ks' vs') := by
  obtain ⟨a1, rfl⟩ := List.getElem?_eq_some_iff.1 h1
  obtain ⟨a2, rfl⟩ := List.getElem?_eq_some_iff.1 h2
  rw [List.drop_eq_getElem_cons a1, List.drop_eq_getElem_cons a2, cmpL_cons]
  rfl
theorem tots_item9 : ∀ {ks : List Ky} {vs : List Tr} {j : Nat} {y : Ky} {t : Tr}, ks[j]? = some y → vs[j]? = some t → y.str.size + tot t ≤ tots ks vs
  | [], _, _, _, _, h, _ => by simp at h
  | _ :: _, [], _, _, _, _, h => by simp at h
  | z :: ks, u :: vs, 0, y, t, h, h' => by
    simp at h h'
    subst h h'
    rw [tots]
    omega
  | z :: ks, u :: vs, j + 1, y, t, h, h' => by
    have := tots_item9 (ks := ks) (vs := vs) (j := j) (by simpa using h) (by simpa using h')
    rw [tots]
    omega
theorem getL_tot {ks : List Ky} {vs : List Tr} {y : Ky} {u : Tr} (hl : ks.length = vs.length) (h : getL ks vs y = some u) : tot u ≤ tots ks vs := by
  unfold getL at h
  split at h
  · cases h
  · have hv := (List.getElem?_eq_some_iff.1 h).1
    exact Nat.le_trans (Nat.le_add_left _ _) (tots_item9 (List.getElem?_eq_getElem (by omega : (pos ks y 0).toNat < ks.length)) h)

theorem cmpL_some {ks : List Ky} {vs : List Tr} {ks' : List Ky} {vs' : List Tr} {j : Nat} {y : Ky} {t u : Tr} (h1 : ks[j]? = some y) (h2 : vs[j]? = some t) (hu : getL ks' vs' y = some u) : cmpL (ks.drop j) (vs.drop j) ks' vs' = thn (cmpT t u) (cmpL (ks.drop (j + 1)) (vs.drop (j + 1)) ks' vs') := by rw [cmpL_drop h1 h2, hu]
theorem cmpL_none {ks : List Ky} {vs : List Tr} {ks' : List Ky} {vs' : List Tr} {j : Nat} {y : Ky} {t : Tr} (h1 : ks[j]? = some y) (h2 : vs[j]? = some t) (hu : getL ks' vs' y = none) : cmpL (ks.drop j) (vs.drop j) ks' vs' = 2 := by rw [cmpL_drop h1 h2, hu]
theorem get_of {n x : Int} {s : ByteArray} {ks : List Ky} {vs : List Tr} {y : Ky} {b : Bool} {r : Tr} (h1 : getB (.mk 4 n s x ks vs) y = b) (h2 : getR (.mk 4 n s x ks vs) y = r) : (b = false → getL ks vs y = none) ∧ (b = true → getL ks vs y = some r) := by
  unfold getB at h1
  unfold getR at h2
  rw [getL_getT] at h1 h2
  cases hq : getL ks vs y with
  | none => rw [hq] at h1; subst h1; exact ⟨fun _ => rfl, fun h => Bool.noConfusion h⟩
  | some u => rw [hq] at h1 h2; subst h1; subst h2; exact ⟨fun h => Bool.noConfusion h, fun _ => rfl⟩

set_option maxHeartbeats 4000000 in
set_option maxRecDepth 100000 in
theorem l9Arrays (ks : List Ky) (vs : List Tr) (ih : ∀ t ∈ vs, CmS t) (n : Int) (s : ByteArray) (x : Int) (A : Option Addr) (c : Nat) (n' : Int) (s' : ByteArray) (x' : Int) (ks' : List Ky) (vs' : List Tr) (A' : Option Addr) (c' : Nat) (w : World) (S S' : Nat → Prop)
    (h : TIn w S (.mk 4 n s x ks vs) (vV 4 n s x A vs.length c)) (h' : TIn w S' (.mk 4 n' s' x' ks' vs') (vV 4 n' s' x' A' vs'.length c')) (hT : tots ks vs ≤ 1000000000) (hT' : tots ks' vs' ≤ 1000000000) :
    Calls Tryd.prog 96 #[vV 4 n s x A vs.length c, vV 4 n' s' x' A' vs'.length c'] w (GivesQ w (.int .i64 (if Lib.compareInt vs.length vs'.length = 0 then cmpL ks vs ks' vs' else Lib.compareInt vs.length vs'.length))) := by
  obtain ⟨_, _, e1, -, hin⟩ := h.out
  obtain ⟨rfl, rfl⟩ : A = _ ∧ c = _ := by simpa [vV] using e1
  obtain ⟨_, _, e2, -, hin'⟩ := h'.out
  obtain ⟨rfl, rfl⟩ : A' = _ ∧ c' = _ := by simpa [vV] using e2
  clear e1 e2
  obtain ⟨L, HL⟩ : ∃ L, Hid (vs.length = L) := ⟨_, Lib.hid rfl⟩
  obtain ⟨L', HL'⟩ : ∃ L, Hid (vs'.length = L) := ⟨_, Lib.hid rfl⟩
  have hm : L ≤ maxLen := by rw [← HL.out]; exact hin.2.1
  have hm' : L' ≤ maxLen := by rw [← HL'.out]; exact hin'.2.1
  unfold maxLen at hm hm'
  have HKL' : Hid (ks'.length = vs'.length) := Lib.hid hin'.1
  have HH := Lib.hid h
  have HH' := Lib.hid h'
  have HIN := Lib.hid hin
  have HIN' := Lib.hid hin'
  have HT := Lib.hid hT
  have HT' := Lib.hid hT'
  have IH := Lib.hid ih
  rw [HL.out] at HH ⊢
  rw [HL'.out] at HH' ⊢
  clear h h' hin hin' hT hT' ih
  by_cases hne : L = L'
  · subst hne
    have hci : Lib.compareInt (L : Int) (L : Int) = 0 := by unfold Lib.compareInt; rw [if_neg (by omega), if_neg (by omega)]
    rw [hci, if_pos rfl]
    obtain ⟨W, HW⟩ : ∃ W, Hid (cmpL ks vs ks' vs' = W) := ⟨_, Lib.hid rfl⟩
    rw [HW.out]
    clear hci
    go_enter Tryd.func96, Tryd.ntmps96
    go_wp2_with (fail)
    go_loopg [5] (L + 1) (fun gk i wr => ∃ j : Nat, i = .int .i64 j ∧ gk + j = L + 1 ∧ j ≤ L ∧ Hid (cmpL (ks.drop j) (vs.drop j) ks' vs' = W) ∧
      Hid (wr.heap[w.heap.size]? = some (.cells #[.int .i64 4, .int .i64 n, .string s, .int .i64 x, .slice A L c] IV (0, 0))) ∧ Hid (wr.heap[w.heap.size + 1]? = some (.cells #[.int .i64 4, .int .i64 n', .string s', .int .i64 x', .slice A' L c'] IV (0, 0))) ∧ Below w.heap.size w wr)
    case atStart => exact ⟨0, rfl, by omega, by omega, Lib.hid HW.out, Lib.hid (heap_alloc2_old w _ _), Lib.hid (heap_alloc2_new w _ _), b2 _ _ _⟩
    case round =>
      obtain ⟨j, rfl, hgj, hjL, HQ, HE, HE', hb⟩ := hrel
      have HB := Lib.hid hb
      clear hb
      obtain ⟨r0, -⟩ := rowc HE.out
      obtain ⟨r1, -⟩ := rowc HE'.out
      by_cases hlt : j < L
      · obtain ⟨a, y, k1, n1, s1, x1, ks1, vs1, A1, c1, rfl, hS, hky, hvs, ht, hyb, hkb, hin1, hcell⟩ := (HIN.out.below HB.out).item (i := j) (by rw [HL.out]; exact hlt)
        have HKY := Lib.hid hky
        have htot : tot (.mk k1 n1 s1 x1 ks1 vs1) ≤ 1000000000 := by
          have := tots_item9 hky hvs
          have := HT.out
          omega
        have HVS := Lib.hid hvs
        have HTI := Lib.hid ht
        have HTOT := Lib.hid htot
        obtain ⟨L1, HL1⟩ : ∃ L1, Hid (vs1.length = L1) := ⟨_, Lib.hid rfl⟩
        rw [HL1.out] at hcell HTI
        have L6 : Hid (∀ w', Below w.heap.size w w' → Calls Tryd.prog 132 #[vV 4 n' s' x' A' L c', kyV y] w' (OutT w' (getR (.mk 4 n' s' x' ks' vs') y) (getB (.mk 4 n' s' x' ks' vs') y) (fun b => b < w.heap.size))) := Lib.hid (fun w' hb => l6Get_s _ _ y w' (fun b => b < w.heap.size) (HH'.out.lt'.below' hb))
        obtain ⟨K, N, Z, X, RK, RV, hgr⟩ : ∃ K N Z X RK RV, getR (.mk 4 n' s' x' ks' vs') y = .mk K N Z X RK RV := by
          cases hq : getR (.mk 4 n' s' x' ks' vs') y with
          | mk K N Z X RK RV => exact ⟨K, N, Z, X, RK, RV, rfl⟩
        obtain ⟨bb, hgb⟩ : ∃ bb, getB (.mk 4 n' s' x' ks' vs') y = bb := ⟨_, rfl⟩
        rw [hgr, hgb] at L6
        have HGO := Lib.hid (get_of hgb hgr)
        obtain ⟨RL, HRL⟩ : ∃ L, Hid (RV.length = L) := ⟨_, Lib.hid rfl⟩
        obtain ⟨yb, yn, ys⟩ := y
        have NW0 : w.heap.size + 1 < wr.heap.size := (Array.getElem?_eq_some_iff.1 HE'.out).1
        have NW1 : w.heap.size < wr.heap.size := Nat.lt_of_succ_lt NW0
        have NW2 : (a.add (j * 8)).block < wr.heap.size := World.block_lt_of_cell? _ _ hcell.c0
        clear hky hvs ht hyb hkb hin1 hS htot hgr hgb
        obtain ⟨p0, p1, p2, p3, p4, p5, p6, p7⟩ := hcell
        simp only at p0 p1 p2
        have c04 := r0 4
        have c10 := r1 0
        have c11 := r1 1
        have c12 := r1 2
        have c13 := r1 3
        have c14 := r1 4
        simp only [List.getElem?_toArray, List.getElem?_cons_succ, List.getElem?_cons_zero] at c04 c10 c11 c12 c13 c14
        clear r0 r1
        unfold kyV vV at L6
        go_upto_region 6 with fail
        go_cut [6, 7] (fun p f wx => CutG wr bb K N Z X RL (.mk K N Z X RK RV) p f wx)
        case first =>
          refine wp_region_held_drew (S := fun w' => ∀ b, b < wr.heap.size → w'.heap[b]? = wr.heap[b]?) (by kernel_rfl) ?_ (fun hHeld => ?_)
          · exact fun b hb => rfl
          refine wpAnyH_take (i := 0) (v := ?_) rfl (by kernel_rfl) (by kernel_rfl) (by kernel_rfl) (fun _ _ _ h => h) (Or.inl ⟨by kernel_rfl, ?_⟩) (by assumption) ?_
          rotate_left
          · intro w9 hSw
            have hS9 : ∀ b, b < wr.heap.size → w9.heap[b]? = wr.heap[b]? := hSw
            have y0 := (cell_eq (w := wr) (w' := w9) (a := ⟨w.heap.size + 1, 0, none⟩) (hS9 _ NW0)).trans c10
            have y1 := (cell_eq (w := wr) (w' := w9) (a := ⟨w.heap.size + 1, 1, none⟩) (hS9 _ NW0)).trans c11
            have y2 := (cell_eq (w := wr) (w' := w9) (a := ⟨w.heap.size + 1, 2, none⟩) (hS9 _ NW0)).trans c12
            have y3 := (cell_eq (w := wr) (w' := w9) (a := ⟨w.heap.size + 1, 3, none⟩) (hS9 _ NW0)).trans c13
            have y4 := (cell_eq (w := wr) (w' := w9) (a := ⟨w.heap.size + 1, 4, none⟩) (hS9 _ NW0)).trans c14
            go_simp
            try (with_reducible rfl)
          try simp only [Act.put, List.setIfInBounds_toArray, List.set_cons_zero, List.set_cons_succ, List.getElem_toArray, List.getElem_cons_zero, List.getElem_cons_succ]
          refine wpAnyH_take (i := 1) (v := ?_) rfl (by kernel_rfl) (by kernel_rfl) (by kernel_rfl) (fun _ _ _ h => h) (Or.inl ⟨by kernel_rfl, ?_⟩) (by assumption) ?_
          rotate_left
          · intro w9 hSw
            go_simp
            try (with_reducible rfl)
          try simp only [Act.put, List.setIfInBounds_toArray, List.set_cons_zero, List.set_cons_succ, List.getElem_toArray, List.getElem_cons_zero, List.getElem_cons_succ]
          refine wpAnyH_take (i := 2) (v := ?_) rfl (by kernel_rfl) (by kernel_rfl) (by kernel_rfl) (fun _ _ _ h => h) (Or.inl ⟨by kernel_rfl, ?_⟩) (by assumption) ?_
          rotate_left
          · intro w9 hSw
            have hS9 : ∀ b, b < wr.heap.size → w9.heap[b]? = wr.heap[b]? := hSw
            have y4 := (cell_eq (w := wr) (w' := w9) (a := ⟨w.heap.size, 4, none⟩) (hS9 _ NW1)).trans c04
            go_simp
            try (with_reducible rfl)
          try simp only [Act.put, List.setIfInBounds_toArray, List.set_cons_zero, List.set_cons_succ, List.getElem_toArray, List.getElem_cons_zero, List.getElem_cons_succ]
          refine wpAnyH_take (i := 3) (v := ?_) rfl (by kernel_rfl) (by kernel_rfl) (by kernel_rfl) (fun _ _ _ h => h) (Or.inl ⟨by kernel_rfl, ?_⟩) (by assumption) ?_
          rotate_left
          · intro w9 hSw
            go_simp
            try (with_reducible rfl)
          try simp only [Act.put, List.setIfInBounds_toArray, List.set_cons_zero, List.set_cons_succ, List.getElem_toArray, List.getElem_cons_zero, List.getElem_cons_succ]
          refine wpAnyH_take (i := 4) (v := ?_) rfl (by kernel_rfl) (by kernel_rfl) (by kernel_rfl) (fun _ _ _ h => h) (Or.inl ⟨by kernel_rfl, ?_⟩) (by assumption) ?_
          rotate_left
          · intro w9 hSw
            go_simp
            try (with_reducible rfl)
          try simp only [Act.put, List.setIfInBounds_toArray, List.set_cons_zero, List.set_cons_succ, List.getElem_toArray, List.getElem_cons_zero, List.getElem_cons_succ]
          refine wpAnyH_take (i := 5) (v := ?_) rfl (by kernel_rfl) (by kernel_rfl) (by kernel_rfl) (fun _ _ _ h => h) (Or.inl ⟨by kernel_rfl, ?_⟩) (by assumption) ?_
          rotate_left
          · intro w9 hSw
            go_simp
            try (with_reducible rfl)
          try simp only [Act.put, List.setIfInBounds_toArray, List.set_cons_zero, List.set_cons_succ, List.getElem_toArray, List.getElem_cons_zero, List.getElem_cons_succ]
          refine wpAnyH_take (i := 6) (v := ?_) rfl (by kernel_rfl) (by kernel_rfl) (by kernel_rfl) (fun _ _ _ h => h) (Or.inl ⟨by kernel_rfl, ?_⟩) (by assumption) ?_
          rotate_left
          · intro w9 hSw
            have hS9 : ∀ b, b < wr.heap.size → w9.heap[b]? = wr.heap[b]? := hSw
            have y0 := (cell_eq (w := wr) (w' := w9) (a := a.add (j * 8)) (hS9 _ NW2)).trans p0
            have y1 := (cell_eq (w := wr) (w' := w9) (a := ⟨(a.add (j * 8)).block, (a.add (j * 8)).off + 1, none⟩) (hS9 _ NW2)).trans p1
            have y2 := (cell_eq (w := wr) (w' := w9) (a := ⟨(a.add (j * 8)).block, (a.add (j * 8)).off + 2, none⟩) (hS9 _ NW2)).trans p2
            go_simp
            try (with_reducible rfl)
          try simp only [Act.put, List.setIfInBounds_toArray, List.set_cons_zero, List.set_cons_succ, List.getElem_toArray, List.getElem_cons_zero, List.getElem_cons_succ]
          refine wpAnyH_ready (rs := [7, 11]) (by kernel_rfl) (by simp) ?_
          refine AllReadyH.cons rfl (fun K hK => ?_) ?_
          · go_simp
            go_at_call 132
            refine (L6.out _ ?_).mono ?_
            · exact bs HB.out ((Below.refl wr.heap.size wr).drew)
            rintro e w4 ⟨u, rfl, hv, hb⟩
            have HWX := Lib.hid (bs ((Below.refl wr.heap.size wr).drew) hb)
            obtain ⟨Am, cm, rfl, -, -⟩ := hv.out
            have HMM := Lib.hid hv
            rw [HRL.out] at HMM ⊢
            clear hv hb
            try go_wp2_with (fail)
            refine hK.out _ _ ?_ (fun hHeld => ?_)
            · exact fun b hb9 => HWX.out.block b hb9
            clear hK K
            try simp only [Act.put, List.setIfInBounds_toArray, List.set_cons_zero, List.set_cons_succ, List.getElem_toArray, List.getElem_cons_zero, List.getElem_cons_succ]
            refine wpAnyH_take (i := 8) (v := ?_) rfl (by kernel_rfl) (by kernel_rfl) (by kernel_rfl) (fun _ _ _ h => h) (Or.inl ⟨by kernel_rfl, ?_⟩) (by assumption) ?_
            rotate_left
            · intro w9 hSw
              go_simp
              try (with_reducible rfl)
            try simp only [Act.put, List.setIfInBounds_toArray, List.set_cons_zero, List.set_cons_succ, List.getElem_toArray, List.getElem_cons_zero, List.getElem_cons_succ]
            refine wpAnyH_take (i := 9) (v := ?_) rfl (by kernel_rfl) (by kernel_rfl) (by kernel_rfl) (fun _ _ _ h => h) (Or.inl ⟨by kernel_rfl, ?_⟩) (by assumption) ?_
            rotate_left
            · intro w9 hSw
              go_simp
              try (with_reducible rfl)
            try simp only [Act.put, List.setIfInBounds_toArray, List.set_cons_zero, List.set_cons_succ, List.getElem_toArray, List.getElem_cons_zero, List.getElem_cons_succ]
            refine wpAnyH_take (i := 10) (v := ?_) rfl (by kernel_rfl) (by kernel_rfl) (by kernel_rfl) (fun _ _ _ h => h) (Or.inl ⟨by kernel_rfl, ?_⟩) (by assumption) ?_
            rotate_left
            · intro w9 hSw
              go_simp
              try (with_reducible rfl)
            try simp only [Act.put, List.setIfInBounds_toArray, List.set_cons_zero, List.set_cons_succ, List.getElem_toArray, List.getElem_cons_zero, List.getElem_cons_succ]
            refine wpAnyH_ready (rs := [11]) (by kernel_rfl) (by simp) ?_
            refine AllReadyH.cons rfl (fun K hK => ?_) AllReadyH.nil
            go_simp
            refine hK.out _ _ ?_ (fun hHeld => ?_)
            · exact fun b hb9 => ((b1 w4 _).block b (Nat.lt_of_lt_of_le hb9 HWX.out.size)).trans (HWX.out.block b hb9)
            clear hK K
            try simp only [Act.put, List.setIfInBounds_toArray, List.set_cons_zero, List.set_cons_succ, List.getElem_toArray, List.getElem_cons_zero, List.getElem_cons_succ]
            refine wpAnyH_ready (rs := [12]) (by kernel_rfl) (by simp) ?_
            refine AllReadyH.cons rfl (fun K hK => ?_) AllReadyH.nil
            go_simp
            refine hK.out _ _ ?_ (fun hHeld => ?_)
            · exact fun b hb9 => ((b1 w4 _).block b (Nat.lt_of_lt_of_le hb9 HWX.out.size)).trans (HWX.out.block b hb9)
            clear hK K
            try simp only [Act.put, List.setIfInBounds_toArray, List.set_cons_zero, List.set_cons_succ, List.getElem_toArray, List.getElem_cons_zero, List.getElem_cons_succ]
            refine wpAnyH_ready (rs := [13]) (by kernel_rfl) (by simp) ?_
            refine AllReadyH.cons rfl (fun K hK => ?_) AllReadyH.nil
            go_simp
            refine hK.out _ _ ?_ (fun hHeld => ?_)
            · exact fun b hb9 => ((b1 w4 _).block b (Nat.lt_of_lt_of_le hb9 HWX.out.size)).trans (HWX.out.block b hb9)
            clear hK K
            try simp only [Act.put, List.setIfInBounds_toArray, List.set_cons_zero, List.set_cons_succ, List.getElem_toArray, List.getElem_cons_zero, List.getElem_cons_succ]
            refine wpAnyH_done (by kernel_rfl) ?_ _
            go_wp2_with (fail)
            go_meet
            have hwsz := HWX.out.size
            exact ⟨_, Am, cm, rfl, rfl, bs HWX.out (b1 w4 _), hwsz, heap_alloc_new w4 _, (HMM.out.below' (b1 w4 _)).stays (fun b (hb : b < w.heap.size) => by show b ≠ _; omega) (fun _ _ _ => rfl)⟩
          refine AllReadyH.cons rfl (fun K hK => ?_) AllReadyH.nil
          go_simp
          refine hK.out _ _ ?_ (fun hHeld => ?_)
          · exact fun b hb9 => (Below.drew (b1 wr _)).block b hb9
          clear hK K
          try simp only [Act.put, List.setIfInBounds_toArray, List.set_cons_zero, List.set_cons_succ, List.getElem_toArray, List.getElem_cons_zero, List.getElem_cons_succ]
          refine wpAnyH_ready (rs := [7]) (by kernel_rfl) (by simp) ?_
          refine AllReadyH.cons rfl (fun K hK => ?_) AllReadyH.nil
          go_simp
          go_at_call 132
          refine (L6.out _ ?_).mono ?_
          · exact bs HB.out (Below.drew (b1 wr (.cells #[.int .i64 0, .int .i64 0, .string ⟨#[]⟩, .int .i64 0, .slice none 0 0] IV)))
          rintro e w4 ⟨u, rfl, hv, hb⟩
          have HWX := Lib.hid (bs (Below.drew (b1 wr (.cells #[.int .i64 0, .int .i64 0, .string ⟨#[]⟩, .int .i64 0, .slice none 0 0] IV))) hb)
          obtain ⟨Am, cm, rfl, -, -⟩ := hv.out
          have HMM := Lib.hid hv
          rw [HRL.out] at HMM ⊢
          have EZ : Hid (w4.heap[wr.heap.size]? = some (.cells #[.int .i64 0, .int .i64 0, .string ⟨#[]⟩, .int .i64 0, .slice none 0 0] IV (0, 0))) := Lib.hid (carry hb (heap_alloc_new wr (.cells #[.int .i64 0, .int .i64 0, .string ⟨#[]⟩, .int .i64 0, .slice none 0 0] IV)))
          obtain ⟨zr, zf⟩ := rowc EZ.out
          clear hv hb
          try go_wp2_with (fail)
          refine hK.out _ _ ?_ (fun hHeld => ?_)
          · exact fun b hb9 => HWX.out.block b hb9
          clear hK K
          try simp only [Act.put, List.setIfInBounds_toArray, List.set_cons_zero, List.set_cons_succ, List.getElem_toArray, List.getElem_cons_zero, List.getElem_cons_succ]
          refine wpAnyH_take (i := 8) (v := ?_) rfl (by kernel_rfl) (by kernel_rfl) (by kernel_rfl) (fun _ _ _ h => h) (Or.inl ⟨by kernel_rfl, ?_⟩) (by assumption) ?_
          rotate_left
          · intro w9 hSw
            go_simp
            try (with_reducible rfl)
          try simp only [Act.put, List.setIfInBounds_toArray, List.set_cons_zero, List.set_cons_succ, List.getElem_toArray, List.getElem_cons_zero, List.getElem_cons_succ]
          refine wpAnyH_take (i := 9) (v := ?_) rfl (by kernel_rfl) (by kernel_rfl) (by kernel_rfl) (fun _ _ _ h => h) (Or.inl ⟨by kernel_rfl, ?_⟩) (by assumption) ?_
          rotate_left
          · intro w9 hSw
            go_simp
            try (with_reducible rfl)
          try simp only [Act.put, List.setIfInBounds_toArray, List.set_cons_zero, List.set_cons_succ, List.getElem_toArray, List.getElem_cons_zero, List.getElem_cons_succ]
          refine wpAnyH_take (i := 10) (v := ?_) rfl (by kernel_rfl) (by kernel_rfl) (by kernel_rfl) (fun _ _ _ h => h) (Or.inl ⟨by kernel_rfl, ?_⟩) (by assumption) ?_
          rotate_left
          · intro w9 hSw
            go_simp
            try (with_reducible rfl)
          try simp only [Act.put, List.setIfInBounds_toArray, List.set_cons_zero, List.set_cons_succ, List.getElem_toArray, List.getElem_cons_zero, List.getElem_cons_succ]
          refine wpAnyH_ready (rs := [12]) (by kernel_rfl) (by simp) ?_
          refine AllReadyH.cons rfl (fun K hK => ?_) AllReadyH.nil
          go_simp
          refine hK.out _ _ ?_ (fun hHeld => ?_)
          · exact fun b hb9 => (by have hq : b ≠ wr.heap.size := Nat.ne_of_lt hb9; exact (set_other hq).trans ((set_other hq).trans ((set_other hq).trans ((set_other hq).trans ((set_other hq).trans (HWX.out.block b hb9))))))
          clear hK K
          try simp only [Act.put, List.setIfInBounds_toArray, List.set_cons_zero, List.set_cons_succ, List.getElem_toArray, List.getElem_cons_zero, List.getElem_cons_succ]
          refine wpAnyH_ready (rs := [13]) (by kernel_rfl) (by simp) ?_
          refine AllReadyH.cons rfl (fun K hK => ?_) AllReadyH.nil
          go_simp
          refine hK.out _ _ ?_ (fun hHeld => ?_)
          · exact fun b hb9 => (by have hq : b ≠ wr.heap.size := Nat.ne_of_lt hb9; exact (set_other hq).trans ((set_other hq).trans ((set_other hq).trans ((set_other hq).trans ((set_other hq).trans (HWX.out.block b hb9))))))
          clear hK K
          try simp only [Act.put, List.setIfInBounds_toArray, List.set_cons_zero, List.set_cons_succ, List.getElem_toArray, List.getElem_cons_zero, List.getElem_cons_succ]
          refine wpAnyH_done (by kernel_rfl) ?_ _
          go_wp2_with (fail)
          go_meet
          refine ⟨wr.heap.size, Am, cm, rfl, rfl, ?_, Nat.le_refl _, set_heap (set_heap (set_heap (set_heap (set_heap EZ.out 0 _) 1 _) 2 _) 3 _) 4 _, HMM.out.stays (fun b (hb : b < w.heap.size) => by show b ≠ _; omega) (fun b (hb : b < w.heap.size) hl => ?_)⟩
          · have hle := Nat.le_refl wr.heap.size
            exact ((((HWX.out.setCell hle _).setCell hle _).setCell hle _).setCell hle _).setCell hle _
          · have hq : b ≠ wr.heap.size := by omega
            exact (set_other hq).trans ((set_other hq).trans ((set_other hq).trans ((set_other hq).trans (set_other hq))))
        case rest =>
          obtain ⟨BX, Ax, cx, rfl, rfl, hbx, hnx, hXB, hXT⟩ := hcut
          have HBX := Lib.hid (bs HB.out hbx)
          have HXB := Lib.hid hXB
          have HXT := Lib.hid hXT
          have HXE := Lib.hid (carry hbx HE.out)
          have HXE2 := Lib.hid (carry hbx HE'.out)
          have HW9 := Lib.hid hbx
          have y3 := (cell_eq (w := wr) (w' := wc) (a := ⟨(a.add (j * 8)).block, (a.add (j * 8)).off + 3, none⟩) (hbx.block _ NW2)).trans p3
          have y4 := (cell_eq (w := wr) (w' := wc) (a := ⟨(a.add (j * 8)).block, (a.add (j * 8)).off + 4, none⟩) (hbx.block _ NW2)).trans p4
          have y5 := (cell_eq (w := wr) (w' := wc) (a := ⟨(a.add (j * 8)).block, (a.add (j * 8)).off + 5, none⟩) (hbx.block _ NW2)).trans p5
          have y6 := (cell_eq (w := wr) (w' := wc) (a := ⟨(a.add (j * 8)).block, (a.add (j * 8)).off + 6, none⟩) (hbx.block _ NW2)).trans p6
          have y7 := (cell_eq (w := wr) (w' := wc) (a := ⟨(a.add (j * 8)).block, (a.add (j * 8)).off + 7, none⟩) (hbx.block _ NW2)).trans p7
          have x04 := (cell_eq (w := wr) (w' := wc) (a := ⟨w.heap.size, 4, none⟩) (hbx.block _ NW1)).trans c04
          clear hbx hXB hXT p0 p1 p2 p3 p4 p5 p6 p7 c04 c10 c11 c12 c13 c14 L6 hnx
          obtain ⟨xr, -⟩ := rowc HXB.out
          have z0 := xr 0
          have z1 := xr 1
          have z2 := xr 2
          have z3 := xr 3
          have z4 := xr 4
          simp only [List.getElem?_toArray, List.getElem?_cons_succ, List.getElem?_cons_zero] at z0 z1 z2 z3 z4
          clear xr
          cases bb with
          | false =>
            have HWN : Hid (W = 2) := Lib.hid (HQ.out.symm.trans (cmpL_none HKY.out HVS.out (HGO.out.1 rfl)))
            clear y3 y4 y5 y6 y7 z0 z1 z2 z3 z4 x04
            go_wp2_with (fail)
            go_ret
            exact ⟨by rw [HWN.out]; rfl, HBX.out⟩
          | true =>
            have HGS : Hid (getL ks' vs' ⟨yb, yn, ys⟩ = some (.mk K N Z X RK RV)) := Lib.hid (HGO.out.2 rfl)
            have HDS : Hid (thn (cmpT (.mk k1 n1 s1 x1 ks1 vs1) (.mk K N Z X RK RV)) (cmpL (ks.drop (j + 1)) (vs.drop (j + 1)) ks' vs') = W) := Lib.hid ((cmpL_some HKY.out HVS.out HGS.out).symm.trans HQ.out)
            have hu9 : tot (.mk K N Z X RK RV) ≤ 1000000000 := Nat.le_trans (getL_tot HKL'.out HGS.out) HT'.out
            have CV : ∀ w', Below wc.heap.size wc w' → Calls Tryd.prog 47 #[vV k1 n1 s1 x1 A1 L1 c1, vV K N Z X Ax RL cx] w' (GivesQ w' (.int .i64 (cmpT (.mk k1 n1 s1 x1 ks1 vs1) (.mk K N Z X RK RV)))) := fun w' hb => IH.out _ (List.mem_of_getElem? HVS.out) _ w' _ _ _ _ (HTI.out.below' (bs HW9.out hb)) (HXT.out.below' hb) HTOT.out hu9
            obtain ⟨z, HZ⟩ : ∃ z, Hid (cmpT (.mk k1 n1 s1 x1 ks1 vs1) (.mk K N Z X RK RV) = z) := ⟨_, Lib.hid rfl⟩
            rw [HZ.out] at CV HDS
            have HCV := Lib.hid CV
            clear CV hu9 HGO HGS
            by_cases hz : z = 0
            · subst hz
              go_wp2_with (fail)
              go_region_with ((go_at_call 47; refine (HCV.out _ ?_).mono ?_; exact ((Below.refl wc.heap.size wc).drew); rintro e w5 ⟨rfl, hb5⟩; have HB5 := Lib.hid (bs ((Below.refl wc.heap.size wc).drew) hb5); clear hb5))
              all_goals
                go_wp2_with (fail)
                go_roundg (L - j)
                case rel => exact ⟨j + 1, by go_num, by omega, by omega, Lib.hid (by have := HDS.out; rwa [thn_zero] at this), Lib.hid (carry HB5.out HXE.out), Lib.hid (carry HB5.out HXE2.out), bs HBX.out HB5.out⟩
                case measure => omega
            · have HWZ : Hid (W = z) := Lib.hid (by have := HDS.out; rw [thn_not hz] at this; exact this.symm)
              go_wp2_with (fail)
              go_region_with ((go_at_call 47; refine (HCV.out _ ?_).mono ?_; exact ((Below.refl wc.heap.size wc).drew); rintro e w5 ⟨rfl, hb5⟩; have HB5 := Lib.hid (bs ((Below.refl wc.heap.size wc).drew) hb5); clear hb5))
              all_goals
                go_wp2_with (fail)
                go_ret
                exact ⟨by rw [HWZ.out]; rfl, bs HBX.out HB5.out⟩
      · obtain rfl : j = L := by omega
        have HWN : Hid (W = 0) := Lib.hid (by
          have h2 := HQ.out
          rw [show vs.drop j = [] from List.drop_eq_nil_of_le (Nat.le_of_eq HL.out), cmpL_nil] at h2
          exact h2.symm)
        have c04 := r0 4
        simp only [List.getElem?_toArray, List.getElem?_cons_succ, List.getElem?_cons_zero] at c04
        clear r0 r1
        go_wp2_with (fail)
        go_ret
        exact ⟨by rw [HWN.out]; rfl, HB.out⟩
  · have hci : Lib.compareInt (L : Int) (L' : Int) ≠ 0 := by unfold Lib.compareInt; split <;> (try split) <;> omega
    rw [if_neg hci]
    have OR := l9Order (L : Int) (L' : Int)
    obtain ⟨z, HZ⟩ : ∃ z, Hid (Lib.compareInt (L : Int) (L' : Int) = z) := ⟨_, Lib.hid rfl⟩
    rw [HZ.out] at OR ⊢
    have hne2 : ¬ (L : Int) = (L' : Int) := by omega
    clear hci
    go_enter Tryd.func96, Tryd.ntmps96
    go_wp2_with (fail)
    refine (OR _).mono ?_
    rintro e w1 ⟨rfl, hb1⟩
    have HB1 := Lib.hid (bs (b2 w _ _) hb1)
    clear hb1
    go_wp2_with (fail)
    go_ret
    exact ⟨rfl, HB1.out⟩

end Go.Proofs.YtlbkbcafkjgckaaDoor.tree

/-
  CompareValues and LooseEqual of the model.
  Conditions: the values hold at most 10^9 items and letters.
-/
namespace Go.Proofs.YtlbkbcafkjgckaaDoor.tree
open Go.ChangeShapes Go.WideShapes Go.ChangeAt Go.RowKit ers
set_option linter.unusedVariables false

def CutV9 (w : World) (b : Bool) (N : Nat) (C C' : Array Value) (v : Value) (wx : World) : Prop :=
  v = .bool b ∧ Below w.heap.size w wx ∧ wx.heap[N]? = some (.cells C IV (0, 0)) ∧ wx.heap[N + 1]? = some (.cells C' IV (0, 0))
theorem chain9 (k n : Int) (s : ByteArray) (x : Int) (ks : List Ky) (vs : List Tr) (k' n' : Int) (s' : ByteArray) (x' : Int) (ks' : List Ky) (vs' : List Tr) (y p1 p2 m1 m2 WA : Int) (o1 o2 : Bool)
    (hy : bys (tt (.mk k n s x ks vs)).1 (tt (.mk k' n' s' x' ks' vs')).1 = y) (h1 : tr01 (.mk k n s x ks vs) = p1) (h2 : tr01 (.mk k' n' s' x' ks' vs') = p2) (h3 : nn (.mk k n s x ks vs) = (m1, o1)) (h4 : nn (.mk k' n' s' x' ks' vs') = (m2, o2))
    (h5 : (if Lib.compareInt vs.length vs'.length = 0 then cmpL ks vs ks' vs' else Lib.compareInt vs.length vs'.length) = WA) : cmpT (.mk k n s x ks vs) (.mk k' n' s' x' ks' vs') = (if (k = 0 ∧ k' = 3) ∨ (k' = 0 ∧ k = 3) then y else if (k = 0 ∨ k = 1) ∨ (k' = 0 ∨ k' = 1) then Lib.compareInt p1 p2 else if o1 = true ∧ o2 = true then Lib.compareInt m1 m2 else if (k = 2 ∨ k = 3) ∧ (k' = 2 ∨ k' = 3) then y else if k = 4 ∧ k' = 4 then WA else if k = 4 then 1 else if k' = 4 then -1 else if k = k' ∧ n = n' then 0 else 2) := by
  by_cases h : k = 4 ∧ k' = 4
  · obtain ⟨rfl, rfl⟩ := h
    have ho : o1 = false := by
      rw [nn_mk] at h3
      simp at h3
      exact h3.2
    subst ho
    have hO : ordO (.mk 4 n s x ks vs) (.mk 4 n' s' x' ks' vs') = Lib.compareInt vs.length vs'.length := by
      rw [ordO_mk, h3]
      rw [if_neg (by omega), if_neg (by omega), if_neg (by simp), if_neg (by omega), if_pos ⟨rfl, rfl⟩]
    have hC : (if ((4 : Int) = 0 ∧ (4 : Int) = 3) ∨ ((4 : Int) = 0 ∧ (4 : Int) = 3) then y else if ((4 : Int) = 0 ∨ (4 : Int) = 1) ∨ ((4 : Int) = 0 ∨ (4 : Int) = 1) then Lib.compareInt p1 p2 else if false = true ∧ o2 = true then Lib.compareInt m1 m2 else if ((4 : Int) = 2 ∨ (4 : Int) = 3) ∧ ((4 : Int) = 2 ∨ (4 : Int) = 3) then y else if (4 : Int) = 4 ∧ (4 : Int) = 4 then WA else if (4 : Int) = 4 then 1 else if (4 : Int) = 4 then -1 else if (4 : Int) = (4 : Int) ∧ n = n' then 0 else 2) = WA := by
      rw [if_neg (by omega), if_neg (by omega), if_neg (by simp), if_neg (by omega), if_pos ⟨rfl, rfl⟩]
    rw [cmpT_mk, hO]
    refine Eq.trans ?_ hC.symm
    rw [← h5]
    by_cases hz : Lib.compareInt vs.length vs'.length = 0
    · rw [if_pos ⟨hz, rfl, rfl⟩, if_pos hz]
    · rw [if_neg (fun h => hz h.1), if_neg hz]
  · rw [cmpT_mk, if_neg (fun hh => h hh.2), ordO_mk, hy, h1, h2, h3, h4]
    simp only [if_neg h]

set_option maxHeartbeats 4000000 in
set_option maxRecDepth 100000 in
theorem compare_t : ∀ t, CmS t := Tr.ind fun k n s x ks vs ih t' w S S' v v' h h' hT hT' => by
  obtain ⟨k', n', s', x', ks', vs'⟩ := t'
  obtain ⟨A, c, rfl, -, hin⟩ := h.out
  obtain ⟨A', c', rfl, -, hin'⟩ := h'.out
  have TN := fun w' (hb : Below w.heap.size w w') => toNumber_s _ _ w' S (h.below' hb) hT
  have TN' := fun w' (hb : Below w.heap.size w w') => toNumber_s _ _ w' S' (h'.below' hb) hT'
  have TX := fun w' (hb : Below w.heap.size w w') => toText_s _ _ w' S (h.below' hb) hT
  have TX' := fun w' (hb : Below w.heap.size w w') => toText_s _ _ w' S' (h'.below' hb) hT'
  have BI := fun w' (hb : Below w.heap.size w w') => l9Bit _ _ w' S (h.below' hb)
  have BI' := fun w' (hb : Below w.heap.size w w') => l9Bit _ _ w' S' (h'.below' hb)
  have AA : k = 4 → k' = 4 → ∀ w' (hb : Below w.heap.size w w'), Calls Tryd.prog 96 #[vV 4 n s x A vs.length c, vV 4 n' s' x' A' vs'.length c'] w' (GivesQ w' (.int .i64 (if Lib.compareInt vs.length vs'.length = 0 then cmpL ks vs ks' vs' else Lib.compareInt vs.length vs'.length))) := fun h1 h2 w' hb => by
    subst h1 h2
    rw [tot_mk] at hT hT'
    exact l9Arrays ks vs ih n s x A c n' s' x' ks' vs' A' c' w' S S' (h.below' hb) (h'.below' hb) (by omega) (by omega)
  unfold nnV at TN TN'
  unfold ttV at TX TX'
  have hm : vs.length ≤ maxLen := hin.2.1
  have hm' : vs'.length ≤ maxLen := hin'.2.1
  obtain ⟨WA, HWA⟩ : ∃ z, Hid ((if Lib.compareInt vs.length vs'.length = 0 then cmpL ks vs ks' vs' else Lib.compareInt vs.length vs'.length) = z) := ⟨_, Lib.hid rfl⟩
  rw [HWA.out] at AA
  obtain ⟨⟨m1, o1⟩, HN⟩ : ∃ z, Hid (nn (.mk k n s x ks vs) = z) := ⟨_, Lib.hid rfl⟩
  obtain ⟨⟨m2, o2⟩, HN'⟩ : ∃ z, Hid (nn (.mk k' n' s' x' ks' vs') = z) := ⟨_, Lib.hid rfl⟩
  rw [HN.out] at TN
  rw [HN'.out] at TN'
  obtain ⟨p1, HP⟩ : ∃ z, Hid (tr01 (.mk k n s x ks vs) = z) := ⟨_, Lib.hid rfl⟩
  obtain ⟨p2, HP'⟩ : ∃ z, Hid (tr01 (.mk k' n' s' x' ks' vs') = z) := ⟨_, Lib.hid rfl⟩
  rw [HP.out] at BI
  rw [HP'.out] at BI'
  obtain ⟨y, HY⟩ : ∃ z, Hid (bys (tt (.mk k n s x ks vs)).1 (tt (.mk k' n' s' x' ks' vs')).1 = z) := ⟨_, Lib.hid rfl⟩
  have hch := chain9 k n s x ks vs k' n' s' x' ks' vs' y p1 p2 m1 m2 WA o1 o2 HY.out HP.out HP'.out HN.out HN'.out HWA.out
  have HY1 : Hid (k = 0 → k' = 3 → bys ⟨#[]⟩ s' = y) := Lib.hid (fun h1 h2 => by rw [← HY.out, tt_mk, tt_mk, if_pos h1, h2]; rfl)
  have HY2 : Hid (k = 3 → k' = 0 → bys s ⟨#[]⟩ = y) := Lib.hid (fun h1 h2 => by rw [← HY.out, tt_mk, tt_mk, h1, if_pos h2]; rfl)
  obtain ⟨z, HZ⟩ : ∃ z, Hid ((tt (.mk k n s x ks vs)).1 = z) := ⟨_, Lib.hid rfl⟩
  obtain ⟨z', HZ'⟩ : ∃ z, Hid ((tt (.mk k' n' s' x' ks' vs')).1 = z) := ⟨_, Lib.hid rfl⟩
  rw [HZ.out] at TX HY
  rw [HZ'.out] at TX' HY
  obtain ⟨f1, HF⟩ : ∃ z : Int, Hid ((if (tt (.mk k n s x ks vs)).2 then (0 : Int) else 1) = z) := ⟨_, Lib.hid rfl⟩
  obtain ⟨f2, HF'⟩ : ∃ z : Int, Hid ((if (tt (.mk k' n' s' x' ks' vs')).2 then (0 : Int) else 1) = z) := ⟨_, Lib.hid rfl⟩
  rw [HF.out] at TX
  rw [HF'.out] at TX'
  obtain ⟨g1, HG⟩ : ∃ z : Int, Hid ((if o1 = true then (0 : Int) else 2) = z) := ⟨_, Lib.hid rfl⟩
  obtain ⟨g2, HG'⟩ : ∃ z : Int, Hid ((if o2 = true then (0 : Int) else 2) = z) := ⟨_, Lib.hid rfl⟩
  replace TN : ∀ w', Below w.heap.size w w' → Calls Tryd.prog 46 #[vV k n s x A vs.length c] w' (GivesQ w' (.tuple #[.int .i64 m1, .int .i64 g1])) := fun w' hb => by rw [← HG.out]; exact TN w' hb
  replace TN' : ∀ w', Below w.heap.size w w' → Calls Tryd.prog 46 #[vV k' n' s' x' A' vs'.length c'] w' (GivesQ w' (.tuple #[.int .i64 m2, .int .i64 g2])) := fun w' hb => by rw [← HG'.out]; exact TN' w' hb
  obtain ⟨L, HL⟩ : ∃ L, Hid (vs.length = L) := ⟨_, Lib.hid rfl⟩
  obtain ⟨L', HL'⟩ : ∃ L, Hid (vs'.length = L) := ⟨_, Lib.hid rfl⟩
  rw [HL.out] at TN TX BI AA hm ⊢
  rw [HL'.out] at TN' TX' BI' AA hm' ⊢
  unfold maxLen at hm hm'
  obtain ⟨W, HWW⟩ : ∃ z, Hid (cmpT (.mk k n s x ks vs) (.mk k' n' s' x' ks' vs') = z) := ⟨_, Lib.hid rfl⟩
  have HW : Hid ((if (k = 0 ∧ k' = 3) ∨ (k' = 0 ∧ k = 3) then y else if (k = 0 ∨ k = 1) ∨ (k' = 0 ∨ k' = 1) then Lib.compareInt p1 p2 else if o1 = true ∧ o2 = true then Lib.compareInt m1 m2 else if (k = 2 ∨ k = 3) ∧ (k' = 2 ∨ k' = 3) then y else if k = 4 ∧ k' = 4 then WA else if k = 4 then 1 else if k' = 4 then -1 else if k = k' ∧ n = n' then 0 else 2) = W) := Lib.hid (hch.symm.trans HWW.out)
  rw [HWW.out]
  replace TN := Lib.hid TN
  replace TN' := Lib.hid TN'
  replace TX := Lib.hid TX
  replace TX' := Lib.hid TX'
  replace BI := Lib.hid BI
  replace BI' := Lib.hid BI'
  replace AA := Lib.hid AA
  have BY := Lib.hid (fun a b w' => l9Bytes a b w')
  have OR := Lib.hid (fun a b w' => l9Order a b w')
  clear h h' hin hin' hT hT' ih hch HWA HN HN' HP HP' HZ HZ' HF HF' HWW
  go_enter Tryd.func47, Tryd.ntmps47
  go_wp2_with (fail)
  refine (TN.out _ (b2 w _ _)).mono ?_
  rintro e w1 ⟨rfl, hb1⟩
  have EA := Lib.hid (carry hb1 (heap_alloc2_old w _ _))
  have EB := Lib.hid (carry hb1 (heap_alloc2_new w _ _))
  have HB1 := Lib.hid (bs (b2 w _ _) hb1)
  obtain ⟨rB, -⟩ := rowc EB.out
  clear hb1
  go_wp2_with (fail)
  refine (TN'.out _ HB1.out).mono ?_
  rintro e w2 ⟨rfl, hb2⟩
  have EA2 := Lib.hid (carry hb2 EA.out)
  have EB2 := Lib.hid (carry hb2 EB.out)
  have HB2 := Lib.hid (bs HB1.out hb2)
  clear hb2 rB EA EB
  obtain ⟨rA, -⟩ := rowc EA2.out
  obtain ⟨rB, -⟩ := rowc EB2.out
  go_upto_region 3 with fail
  go_cut [23] (fun v wx => CutV9 w2 ((decide (k = 0) && decide (k' = 3))) w.heap.size #[.int .i64 k, .int .i64 n, .string s, .int .i64 x, .slice A L c] #[.int .i64 k', .int .i64 n', .string s', .int .i64 x', .slice A' L' c'] v wx)
  case first =>
    by_cases hq : k = 0
    · subst hq
      go_wp2_with (fail)
      go_meet
      exact ⟨rfl, Below.refl _ _, EA2.out, EB2.out⟩
    · go_wp2_with (fail)
      go_meet
      exact ⟨by rw [decide_eq_false hq]; rfl, Below.refl _ _, EA2.out, EB2.out⟩
  case rest =>
    obtain ⟨rfl, hbc, hx0, hx1⟩ := hcut
    have HBn := Lib.hid (bs HB2.out hbc)
    clear hbc rA rB EA2 EB2 HB2
    have HB2 := Lib.hid HBn.out
    have EA2 := Lib.hid hx0
    have EB2 := Lib.hid hx1
    clear HBn hx0 hx1
    obtain ⟨rA, -⟩ := rowc EA2.out
    obtain ⟨rB, -⟩ := rowc EB2.out
    cases hq : ((decide (k = 0) && decide (k' = 3)))
    case true =>
      have hq2 : k = 0 ∧ k' = 3 := by simpa using hq
      obtain ⟨rfl, rfl⟩ := hq2
      have HWE : Hid (W = y) := Lib.hid (by rw [← HW.out, if_pos (.inl ⟨rfl, rfl⟩)])
      have BY9 := BY.out ⟨#[]⟩ s'
      rw [HY1.out rfl rfl] at BY9
      go_wp2_with (fail)
      refine (BY9 _).mono ?_
      rintro e w4 ⟨rfl, hb4⟩
      have HB4 := Lib.hid (bs HB2.out hb4)
      clear hb4
      go_wp2_with (fail)
      go_ret
      exact ⟨by rw [HWE.out]; rfl, HB4.out⟩
    case false =>
      have NA := Lib.hid (show ¬ (k = 0 ∧ k' = 3) by simpa using hq)
      clear hq
      go_upto_region 5 with fail
      go_cut [35] (fun v wx => CutV9 wc ((decide (k = 3) && decide (k' = 0))) w.heap.size #[.int .i64 k, .int .i64 n, .string s, .int .i64 x, .slice A L c] #[.int .i64 k', .int .i64 n', .string s', .int .i64 x', .slice A' L' c'] v wx)
      case first =>
        by_cases hq : k = 3
        · subst hq
          go_wp2_with (fail)
          go_meet
          exact ⟨rfl, Below.refl _ _, EA2.out, EB2.out⟩
        · go_wp2_with (fail)
          go_meet
          exact ⟨by rw [decide_eq_false hq]; rfl, Below.refl _ _, EA2.out, EB2.out⟩
      case rest =>
        obtain ⟨rfl, hbc, hx0, hx1⟩ := hcut
        have HBn := Lib.hid (bs HB2.out hbc)
        clear hbc rA rB EA2 EB2 HB2
        have HB2 := Lib.hid HBn.out
        have EA2 := Lib.hid hx0
        have EB2 := Lib.hid hx1
        clear HBn hx0 hx1
        obtain ⟨rA, -⟩ := rowc EA2.out
        obtain ⟨rB, -⟩ := rowc EB2.out
        cases hq : ((decide (k = 3) && decide (k' = 0)))
        case true =>
          have hq2 : k = 3 ∧ k' = 0 := by simpa using hq
          obtain ⟨rfl, rfl⟩ := hq2
          have HWE : Hid (W = y) := Lib.hid (by rw [← HW.out, if_pos (.inr ⟨rfl, rfl⟩)])
          have BY9 := BY.out s ⟨#[]⟩
          rw [HY2.out rfl rfl] at BY9
          go_wp2_with (fail)
          refine (BY9 _).mono ?_
          rintro e w4 ⟨rfl, hb4⟩
          have HB4 := Lib.hid (bs HB2.out hb4)
          clear hb4
          go_wp2_with (fail)
          go_ret
          exact ⟨by rw [HWE.out]; rfl, HB4.out⟩
        case false =>
          have NB := Lib.hid (show ¬ (k = 3 ∧ k' = 0) by simpa using hq)
          clear hq
          have HW1 := Lib.hid ((if_neg (by rintro (h | h); exact NA.out h; exact NB.out h.symm)).symm.trans HW.out)
          clear NA NB HY1 HY2
          go_upto_region 7 with fail
          go_cut [47] (fun v wx => CutV9 wc (((decide (0 ≤ k) && decide (k ≤ 1)) || (decide (0 ≤ k') && decide (k' ≤ 1)))) w.heap.size #[.int .i64 k, .int .i64 n, .string s, .int .i64 x, .slice A L c] #[.int .i64 k', .int .i64 n', .string s', .int .i64 x', .slice A' L' c'] v wx)
          case first =>
            cases hq : (decide (0 ≤ k) && decide (k ≤ 1))
            case false =>
              go_wp2_with (fail)
              refine (in_9 k 0 1 _ hq _).mono ?_
              rintro e w9 ⟨rfl, rfl⟩
              cases hq' : (decide (0 ≤ k') && decide (k' ≤ 1))
              all_goals
                go_wp2_with (fail)
                refine (in_9 k' 0 1 _ hq' _).mono ?_
                rintro e w9 ⟨rfl, rfl⟩
                go_wp2_with (fail)
                go_meet
                exact ⟨by rw [hq, hq']; rfl, Below.refl _ _, EA2.out, EB2.out⟩
            case true =>
              go_wp2_with (fail)
              refine (in_9 k 0 1 _ hq _).mono ?_
              rintro e w9 ⟨rfl, rfl⟩
              go_wp2_with (fail)
              go_meet
              exact ⟨by rw [hq]; rfl, Below.refl _ _, EA2.out, EB2.out⟩
          case rest =>
            obtain ⟨rfl, hbc, hx0, hx1⟩ := hcut
            have HBn := Lib.hid (bs HB2.out hbc)
            clear hbc rA rB EA2 EB2 HB2
            have HB2 := Lib.hid HBn.out
            have EA2 := Lib.hid hx0
            have EB2 := Lib.hid hx1
            clear HBn hx0 hx1
            obtain ⟨rA, -⟩ := rowc EA2.out
            obtain ⟨rB, -⟩ := rowc EB2.out
            cases hq : (((decide (0 ≤ k) && decide (k ≤ 1)) || (decide (0 ≤ k') && decide (k' ≤ 1))))
            case true =>
              have hq2 : (k = 0 ∨ k = 1) ∨ (k' = 0 ∨ k' = 1) := by simp at hq; omega
              have HWE : Hid (W = Lib.compareInt p1 p2) := Lib.hid (by rw [← HW1.out, if_pos hq2])
              clear hq hq2
              have HC : Hid (Below wc.heap.size wc wc) := Lib.hid (Below.refl _ _)
              go_upto_region 8 with fail
              go_region_with (first
                | (go_at_call_of 95 A
                   refine (BI.out _ (bs HB2.out (by first | exact HC.out | exact HC.out.drew))).mono ?_
                   rintro e wz ⟨rfl, hbz⟩
                   have HCX : Hid (Below wc.heap.size wc wz) := Lib.hid (by first | exact bs HC.out hbz | exact bs (HC.out.drew) hbz)
                   clear HC hbz rA rB
                   have HC := Lib.hid HCX.out
                   clear HCX
                   obtain ⟨rA, -⟩ := rowc (carry HC.out EA2.out)
                   obtain ⟨rB, -⟩ := rowc (carry HC.out EB2.out))
                | (go_at_call_of 95 A'
                   refine (BI'.out _ (bs HB2.out (by first | exact HC.out | exact HC.out.drew))).mono ?_
                   rintro e wz ⟨rfl, hbz⟩
                   have HCX : Hid (Below wc.heap.size wc wz) := Lib.hid (by first | exact bs HC.out hbz | exact bs (HC.out.drew) hbz)
                   clear HC hbz rA rB
                   have HC := Lib.hid HCX.out
                   clear HCX
                   obtain ⟨rA, -⟩ := rowc (carry HC.out EA2.out)
                   obtain ⟨rB, -⟩ := rowc (carry HC.out EB2.out))
                | (go_at_call 94
                   refine (OR.out p1 p2 _).mono ?_
                   rintro e wz ⟨rfl, hbz⟩
                   have HCX : Hid (Below wc.heap.size wc wz) := Lib.hid (bs HC.out hbz)
                   clear HC hbz
                   have HC := Lib.hid HCX.out
                   clear HCX))
              all_goals
                go_wp2_with (fail)
                go_ret
                exact ⟨by rw [HWE.out]; rfl, bs HB2.out HC.out⟩
            case false =>
              have hn2 : ¬ ((k = 0 ∨ k = 1) ∨ (k' = 0 ∨ k' = 1)) := fun h => by simp at hq; omega
              have HW2 := Lib.hid ((if_neg hn2).symm.trans HW1.out)
              clear hq hn2 HW1
              go_upto_region 9 with fail
              go_cut [61] (fun v wx => CutV9 wc ((o1 && o2)) w.heap.size #[.int .i64 k, .int .i64 n, .string s, .int .i64 x, .slice A L c] #[.int .i64 k', .int .i64 n', .string s', .int .i64 x', .slice A' L' c'] v wx)
              case first =>
                have f1 := HG.out
                have f2 := HG'.out
                clear HG HG'
                cases o1 <;> cases o2
                all_goals
                  simp only [if_true, if_false, Bool.false_eq_true] at f1 f2
                  subst f1 f2
                  go_wp2_with (fail)
                  go_meet
                  exact ⟨rfl, Below.refl _ _, EA2.out, EB2.out⟩
              case rest =>
                obtain ⟨rfl, hbc, hx0, hx1⟩ := hcut
                have HBn := Lib.hid (bs HB2.out hbc)
                clear hbc rA rB EA2 EB2 HB2
                have HB2 := Lib.hid HBn.out
                have EA2 := Lib.hid hx0
                have EB2 := Lib.hid hx1
                clear HBn hx0 hx1
                obtain ⟨rA, -⟩ := rowc EA2.out
                obtain ⟨rB, -⟩ := rowc EB2.out
                cases hq : ((o1 && o2))
                case true =>
                  have HWE : Hid (W = Lib.compareInt m1 m2) := Lib.hid (by rw [← HW2.out, if_pos (by simpa using hq)])
                  go_wp2_with (fail)
                  refine (OR.out m1 m2 _).mono ?_
                  rintro e w4 ⟨rfl, hb4⟩
                  have HB4 := Lib.hid (bs HB2.out hb4)
                  clear hb4
                  go_wp2_with (fail)
                  go_ret
                  exact ⟨by rw [HWE.out]; rfl, HB4.out⟩
                case false =>
                  have HW3 := Lib.hid ((if_neg (by simpa using hq)).symm.trans HW2.out)
                  clear hq HW2
                  go_upto_region 11 with fail
                  go_cut [71] (fun v wx => CutV9 wc (((decide (2 ≤ k) && decide (k ≤ 3)) && (decide (2 ≤ k') && decide (k' ≤ 3)))) w.heap.size #[.int .i64 k, .int .i64 n, .string s, .int .i64 x, .slice A L c] #[.int .i64 k', .int .i64 n', .string s', .int .i64 x', .slice A' L' c'] v wx)
                  case first =>
                    cases hq : (decide (2 ≤ k) && decide (k ≤ 3))
                    case false =>
                      go_wp2_with (fail)
                      refine (in_9 k 2 3 _ hq _).mono ?_
                      rintro e w9 ⟨rfl, rfl⟩
                      go_wp2_with (fail)
                      go_meet
                      exact ⟨by rw [hq]; rfl, Below.refl _ _, EA2.out, EB2.out⟩
                    case true =>
                      go_wp2_with (fail)
                      refine (in_9 k 2 3 _ hq _).mono ?_
                      rintro e w9 ⟨rfl, rfl⟩
                      cases hq' : (decide (2 ≤ k') && decide (k' ≤ 3))
                      all_goals
                        go_wp2_with (fail)
                        refine (in_9 k' 2 3 _ hq' _).mono ?_
                        rintro e w9 ⟨rfl, rfl⟩
                        go_wp2_with (fail)
                        go_meet
                        exact ⟨by rw [hq, hq']; rfl, Below.refl _ _, EA2.out, EB2.out⟩
                  case rest =>
                    obtain ⟨rfl, hbc, hx0, hx1⟩ := hcut
                    have HBn := Lib.hid (bs HB2.out hbc)
                    clear hbc rA rB EA2 EB2 HB2
                    have HB2 := Lib.hid HBn.out
                    have EA2 := Lib.hid hx0
                    have EB2 := Lib.hid hx1
                    clear HBn hx0 hx1
                    obtain ⟨rA, -⟩ := rowc EA2.out
                    obtain ⟨rB, -⟩ := rowc EB2.out
                    cases hq : (((decide (2 ≤ k) && decide (k ≤ 3)) && (decide (2 ≤ k') && decide (k' ≤ 3))))
                    case true =>
                      have hq2 : (k = 2 ∨ k = 3) ∧ (k' = 2 ∨ k' = 3) := by simp at hq; omega
                      have HWE : Hid (W = bys z z') := Lib.hid (by rw [← HW3.out, if_pos hq2]; exact HY.out.symm)
                      clear hq hq2
                      go_wp2_with (fail)
                      refine (TX.out _ HB2.out).mono ?_
                      rintro e w4 ⟨rfl, hb4⟩
                      have HB4 := Lib.hid (bs HB2.out hb4)
                      have EB4 := Lib.hid (carry hb4 EB2.out)
                      clear hb4 rA rB
                      obtain ⟨rB, -⟩ := rowc EB4.out
                      go_wp2_with (fail)
                      refine (TX'.out _ HB4.out).mono ?_
                      rintro e w5 ⟨rfl, hb5⟩
                      have HB5 := Lib.hid (bs HB4.out hb5)
                      clear hb5 rB
                      go_wp2_with (fail)
                      refine (BY.out z z' _).mono ?_
                      rintro e w6 ⟨rfl, hb6⟩
                      have HB6 := Lib.hid (bs HB5.out hb6)
                      clear hb6
                      go_wp2_with (fail)
                      go_ret
                      exact ⟨by rw [HWE.out]; rfl, HB6.out⟩
                    case false =>
                      have hn2 : ¬ ((k = 2 ∨ k = 3) ∧ (k' = 2 ∨ k' = 3)) := fun h => by simp at hq; omega
                      have HW4 := Lib.hid ((if_neg hn2).symm.trans HW3.out)
                      clear hq hn2 HW3 TN TN' TX TX' BI BI' BY OR HG HG' HY
                      by_cases h4 : k = 4
                      · subst h4
                        by_cases h4' : k' = 4
                        · subst h4'
                          have HWE : Hid (W = WA) := Lib.hid (by rw [← HW4.out, if_pos ⟨rfl, rfl⟩])
                          go_wp2_with (fail)
                          refine (AA.out (by trivial) (by trivial) _ HB2.out).mono ?_
                          rintro e w4 ⟨rfl, hb4⟩
                          have HB4 := Lib.hid (bs HB2.out hb4)
                          clear hb4
                          go_wp2_with (fail)
                          go_ret
                          exact ⟨by rw [HWE.out]; rfl, HB4.out⟩
                        · have HWE : Hid (W = 1) := Lib.hid (by rw [← HW4.out, if_neg (fun h => h4' h.2), if_pos rfl])
                          go_wp2_with (fail)
                          go_ret
                          exact ⟨by rw [HWE.out]; rfl, HB2.out⟩
                      · by_cases h4' : k' = 4
                        · subst h4'
                          have HWE : Hid (W = -1) := Lib.hid (by rw [← HW4.out, if_neg (fun h => h4 h.1), if_neg h4, if_pos rfl])
                          go_wp2_with (fail)
                          go_ret
                          exact ⟨by rw [HWE.out]; rfl, HB2.out⟩
                        · by_cases hk : k = k'
                          · subst hk
                            by_cases hn : n = n'
                            · subst hn
                              have HWE : Hid (W = 0) := Lib.hid (by rw [← HW4.out, if_neg (fun h => h4 h.1), if_neg h4, if_neg h4, if_pos ⟨rfl, rfl⟩])
                              go_wp2_with (fail)
                              go_ret
                              exact ⟨by rw [HWE.out]; rfl, HB2.out⟩
                            · have HWE : Hid (W = 2) := Lib.hid (by rw [← HW4.out, if_neg (fun h => h4 h.1), if_neg h4, if_neg h4, if_neg (fun h => hn h.2)])
                              go_wp2_with (fail)
                              go_ret
                              exact ⟨by rw [HWE.out]; rfl, HB2.out⟩
                          · have HWE : Hid (W = 2) := Lib.hid (by rw [← HW4.out, if_neg (fun h => h4 h.1), if_neg h4, if_neg h4', if_neg (fun h => hk h.1)])
                            go_wp2_with (fail)
                            go_ret
                            exact ⟨by rw [HWE.out]; rfl, HB2.out⟩

theorem compare_s (t t' : Tr) (hT : tot t ≤ 1000000000) (hT' : tot t' ≤ 1000000000) (w : World) (S S' : Nat → Prop) (v v' : Value) (h : TIn w S t v) (h' : TIn w S' t' v') : Calls Tryd.prog 47 #[v, v'] w (GivesQ w (.int .i64 (cmpT t t'))) := compare_t t t' w S S' v v' h h' hT hT'
theorem loose_s (t t' : Tr) (hT : tot t ≤ 1000000000) (hT' : tot t' ≤ 1000000000) (w : World) (S S' : Nat → Prop) (v v' : Value) (h : TIn w S t v) (h' : TIn w S' t' v') :
    Calls Tryd.prog 48 #[v, v'] w (GivesQ w (.bool (decide (cmpT t t' = 0)))) := by
  have CV := fun w' (hb : Below w.heap.size w w') => compare_s t t' hT hT' w' S S' v v' (h.below' hb) (h'.below' hb)
  obtain ⟨k, n, s, x, A, L, c, rfl⟩ : ∃ k n s x A L c, v = vV k n s x A L c := by
    cases h with
    | mk k n s x ks vs A cap C => exact ⟨k, n, s, x, A, _, cap, rfl⟩
  obtain ⟨k', n', s', x', A', L', c', rfl⟩ : ∃ k n s x A L c, v' = vV k n s x A L c := by
    cases h' with
    | mk k n s x ks vs A cap C => exact ⟨k, n, s, x, A, _, cap, rfl⟩
  obtain ⟨z, HZ⟩ : ∃ z, Hid (cmpT t t' = z) := ⟨_, Lib.hid rfl⟩
  rw [HZ.out] at CV ⊢
  have HCV := Lib.hid CV
  clear CV h h'
  go_enter Tryd.func48, Tryd.ntmps48
  go_wp2_with (fail)
  refine (HCV.out _ (by first | exact b2 w _ _ | exact Below.refl _ _)).mono ?_
  rintro e w1 ⟨rfl, hb1⟩
  have HB : Hid (Below w.heap.size w w1) := Lib.hid (by first | exact bs (b2 w _ _) hb1 | exact hb1)
  clear hb1
  by_cases hz : z = 0
  · subst hz
    go_wp2_with (fail)
    go_ret
    exact ⟨rfl, HB.out⟩
  · have hd : decide (z = 0) = false := decide_eq_false hz
    rw [hd]
    go_wp2_with (fail)
    go_ret
    exact ⟨by rw [hd, show (z == 0) = false from beq_eq_false_iff_ne.2 hz]; rfl, HB.out⟩

end Go.Proofs.YtlbkbcafkjgckaaDoor.tree

/-
  Rows of values: five cells written at once; the first j values of a row.
  Conditions: those that each theorem names.
-/
namespace Go.Proofs.YtlbkbcafkjgckaaDoor.tree
open Go.ChangeShapes Go.WideShapes Go.ChangeAt Go.RowKit
set_option linter.unusedVariables false

def set5 (arr : Array Value) (o : Nat) (c0 c1 c2 c3 c4 : Value) : Array Value := ((((arr.setIfInBounds o c0).setIfInBounds (o + 1) c1).setIfInBounds (o + 2) c2).setIfInBounds (o + 3) c3).setIfInBounds (o + 4) c4
theorem set5_size (arr : Array Value) (o : Nat) (c0 c1 c2 c3 c4 : Value) : (set5 arr o c0 c1 c2 c3 c4).size = arr.size := by simp [set5]
theorem set5_out (arr : Array Value) (o : Nat) (c0 c1 c2 c3 c4 : Value) (p : Nat) (h : p < o ∨ o + 5 ≤ p) : (set5 arr o c0 c1 c2 c3 c4)[p]? = arr[p]? := by
  unfold set5
  rw [Array.getElem?_setIfInBounds_ne (by omega), Array.getElem?_setIfInBounds_ne (by omega), Array.getElem?_setIfInBounds_ne (by omega), Array.getElem?_setIfInBounds_ne (by omega), Array.getElem?_setIfInBounds_ne (by omega)]
theorem set5_in (arr : Array Value) (o : Nat) (c0 c1 c2 c3 c4 : Value) (h : o + 5 ≤ arr.size) (q : Nat) (hq : q < 5) : (set5 arr o c0 c1 c2 c3 c4)[o + q]? = (#[c0, c1, c2, c3, c4] : Array Value)[q]? := by
  unfold set5
  have hq' : q = 0 ∨ q = 1 ∨ q = 2 ∨ q = 3 ∨ q = 4 := by omega
  rcases hq' with rfl | rfl | rfl | rfl | rfl <;> simp [Array.getElem?_setIfInBounds] <;> omega
theorem set5_heap {W : World} {g : Nat} {arr : Array Value} {t : TypeId} (h : W.heap[g]? = some (.cells arr t (0, 0))) (o : Nat) (c0 c1 c2 c3 c4 : Value) :
    (((((W.setCell ⟨g, o, none⟩ c0).setCell ⟨g, o + 1, none⟩ c1).setCell ⟨g, o + 2, none⟩ c2).setCell ⟨g, o + 3, none⟩ c3).setCell ⟨g, o + 4, none⟩ c4).heap[g]? = some (.cells (set5 arr o c0 c1 c2 c3 c4) t (0, 0)) :=
  set_heap (set_heap (set_heap (set_heap (set_heap h _ _) _ _) _ _) _ _) _ _
theorem set5_other {W : World} {g k : Nat} (h : k ≠ g) (o : Nat) (c0 c1 c2 c3 c4 : Value) :
    (((((W.setCell ⟨g, o, none⟩ c0).setCell ⟨g, o + 1, none⟩ c1).setCell ⟨g, o + 2, none⟩ c2).setCell ⟨g, o + 3, none⟩ c3).setCell ⟨g, o + 4, none⟩ c4).heap[k]? = W.heap[k]? := by
  iterate 5 refine (set_other h).trans ?_
  rfl
theorem iv_info' : ∃ i, Tryd.prog.info? IV = some i ∧ (i.zero = some (.agg #[.int .i64 0, .int .i64 0, .string ⟨#[]⟩, .int .i64 0, .slice none 0 0]) ∧ i.size = 5 ∧ i.bytes = 64) := by
  have : (Tryd.prog.info? IV).map (fun i => (i.zero, i.size, i.bytes)) = some (some (.agg #[.int .i64 0, .int .i64 0, .string ⟨#[]⟩, .int .i64 0, .slice none 0 0]), 5, 64) := by kernel_rfl
  cases hq : Tryd.prog.info? IV with
  | none => rw [hq] at this; cases this
  | some i => rw [hq] at this; simp at this; exact ⟨i, rfl, this⟩
/-- The first j values of a row. -/
def V5 (w : World) (lo : Nat) (vs : List Tr) (arr : Array Value) (j : Nat) : Prop :=
  ∀ i, i < j → ∃ k n s x ks' vs' A' c', vs[i]? = some (.mk k n s x ks' vs') ∧ TIn w (Nw lo w) (.mk k n s x ks' vs') (vV k n s x A' vs'.length c') ∧ ∀ q, q < 5 → arr[i * 5 + q]? = (#[.int .i64 k, .int .i64 n, .string s, .int .i64 x, .slice A' vs'.length c'] : Array Value)[q]?
theorem V5.keep {w w' : World} {lo : Nat} {vs : List Tr} {arr : Array Value} {j : Nat} (h : V5 w lo vs arr j) (hb : ∀ b, lo ≤ b → b < w.heap.size → w'.heap[b]? = w.heap[b]?) : V5 w' lo vs arr j := fun i hi => by
  obtain ⟨k, n, s, x, ks', vs', A', c', e1, e2, e3⟩ := h i hi
  exact ⟨k, n, s, x, ks', vs', A', c', e1, e2.nw (Nat.le_refl _) fun b hb' hlt => hb b hb' hlt, e3⟩
theorem V5.more {w : World} {lo : Nat} {vs : List Tr} {arr : Array Value} {j : Nat} (h : V5 w lo vs arr j) (hs : j * 5 + 5 ≤ arr.size) {k n x : Int} {s : ByteArray} {ks' : List Ky} {vs' : List Tr} {A' : Option Addr} {c' : Nat} (hv : vs[j]? = some (.mk k n s x ks' vs')) (hT : TIn w (Nw lo w) (.mk k n s x ks' vs') (vV k n s x A' vs'.length c')) :
    V5 w lo vs (set5 arr (j * 5) (.int .i64 k) (.int .i64 n) (.string s) (.int .i64 x) (.slice A' vs'.length c')) (j + 1) := by
  intro i hi
  by_cases e : i = j
  · subst e
    exact ⟨k, n, s, x, ks', vs', A', c', hv, hT, fun q hq => set5_in _ _ _ _ _ _ _ hs q hq⟩
  · obtain ⟨k2, n2, s2, x2, ks2, vs2, A2, c2, e1, e2, e3⟩ := h i (by omega)
    exact ⟨k2, n2, s2, x2, ks2, vs2, A2, c2, e1, e2, fun q hq => by rw [set5_out _ _ _ _ _ _ _ _ (by omega)]; exact e3 q hq⟩
theorem V5.vin {w : World} {lo g : Nat} {vs : List Tr} {arr : Array Value} (h : V5 w lo vs arr vs.length) (hg : w.heap[g]? = some (.cells arr IV (0, 0))) (hlo : g ≤ lo) : VIn w (Nw g w) vs (some ⟨g, 0, none⟩) := fun i t ht => by
  obtain ⟨k, n, s, x, ks', vs', A', c', e1, e2, e3⟩ := h i (List.getElem?_eq_some_iff.1 ht).1
  rw [ht] at e1
  obtain rfl := Option.some.inj e1
  have at_ : ∀ q, q < 5 → w.cell? ⟨g, i * 5 + q, none⟩ = (#[.int .i64 k, .int .i64 n, .string s, .int .i64 x, .slice A' vs'.length c'] : Array Value)[q]? := fun q hq => by rw [cell_of_row w g _ arr IV _ hg]; exact e3 q hq
  refine ⟨_, k, n, s, x, ks', vs', A', c', rfl, ⟨Nat.le_refl _, _, _, hg⟩, rfl, e2.stays (fun b hb => ⟨Nat.le_trans hlo hb.1, hb.2⟩) (fun _ _ _ => rfl), ?_⟩
  rw [Addr.add_lit, Nat.zero_add]
  exact ⟨at_ 0 (by omega), at_ 1 (by omega), at_ 2 (by omega), at_ 3 (by omega), at_ 4 (by omega)⟩
end Go.Proofs.YtlbkbcafkjgckaaDoor.tree

/-
  The laws' copy of a list of values.
  Conditions: at most 2^20 values, each holds at most 2^20 items and letters.
-/
namespace Go.Proofs.YtlbkbcafkjgckaaDoor.tree
open Go.ChangeShapes Go.WideShapes Go.ChangeAt Go.RowKit
set_option linter.unusedVariables false

def VsQ (w : World) (vs : List Tr) (e : Ending) (w' : World) : Prop := ∃ g, e = .returned (.slice (some ⟨g, 0, none⟩) vs.length vs.length) ∧ VIn w' (Nw g w') vs (some ⟨g, 0, none⟩) ∧ w.heap.size ≤ g ∧ Below w.heap.size w w'

set_option maxRecDepth 100000 in
set_option maxHeartbeats 2000000 in
theorem toValueS (vs : List Tr) (hT : ∀ t ∈ vs, tot t ≤ 1048576) (hm : vs.length ≤ 1048576) (A : Option Addr) (c : Nat) (w : World) (S : Nat → Prop) (h : VIn w S vs A) : Calls Tryd.prog 51 #[.slice A vs.length c] w (VsQ w vs) := by
  obtain ⟨L, HL⟩ : ∃ L, Hid (vs.length = L) := ⟨_, Lib.hid rfl⟩
  rw [HL.out] at hm ⊢
  obtain ⟨i0, hi, hz⟩ := iv_info'
  have hmk := run_make (P := Tryd.prog) w 43 IV i0 _ Tryd.underlying43 hi hz.1 .i64 .i64 L L (by omega) (Int.le_refl _) (by rw [hz.2.2]; omega) (by omega)
  rw [hz.2.1] at hmk
  simp only [Int.toNat_natCast] at hmk
  obtain ⟨arr0, HA⟩ : ∃ a, Hid (a = madeCells (Value.agg #[.int .i64 0, .int .i64 0, .string ⟨#[]⟩, .int .i64 0, .slice none 0 0]).cells (L * 5)) := ⟨_, Lib.hid rfl⟩
  rw [← HA.out] at hmk
  have HSZ0 : Hid (arr0.size = L * 5) := Lib.hid (by rw [HA.out, madeSize])
  have HV := Lib.hid h
  have HTT := Lib.hid hT
  clear h hT hi hz
  go_enter Tryd.func51, Tryd.ntmps51
  go_wp2_with (fail)
  obtain ⟨N, HN⟩ : ∃ N, Hid (N = w.heap.size) := ⟨_, Lib.hid rfl⟩
  go_loopg [4] (L + 1) (fun gk i wr => ∃ (j : Nat) (arr : Array Value), i = .int .i64 j ∧ gk + j = L + 1 ∧ j ≤ L ∧ Hid (wr.heap[w.heap.size]? = some (.cells arr IV (0, 0))) ∧ Hid (arr.size = L * 5) ∧ Hid (V5 wr (w.heap.size + 1) vs arr j) ∧ Hid (Below w.heap.size w wr))
  case atStart => exact ⟨0, arr0, rfl, by omega, by omega, Lib.hid (heap_alloc_new w _), HSZ0, Lib.hid (fun i hi => absurd hi (by omega)), Lib.hid (b1 w _)⟩
  case round =>
    obtain ⟨j, arr, rfl, hgj, hjL, HG, HSZ, HLI, HB⟩ := hrel
    by_cases hlt : j < L
    · obtain ⟨t, ht⟩ : ∃ t, vs[j]? = some t := ⟨_, List.getElem?_eq_getElem (by rw [HL.out]; exact hlt)⟩
      have htt := HTT.out t (List.mem_of_getElem? ht)
      obtain ⟨a, k, n, s, x, ks', vs', A1, c1, rfl, -, rfl, hT, hcell⟩ := HV.out.below HB.out j t ht
      have CT : Hid (Calls Tryd.prog 44 #[vV k n s x A1 vs'.length c1] wr (CpQ wr (.mk k n s x ks' vs'))) := Lib.hid (cps _ htt wr S _ hT)
      have HVS := Lib.hid ht
      obtain ⟨L1, HL1⟩ : ∃ L1, Hid (vs'.length = L1) := ⟨_, Lib.hid rfl⟩
      rw [HL1.out] at hcell CT
      obtain ⟨p0, p1, p2, p3, p4⟩ := hcell
      have hz := HSZ.out
      unfold vV at CT
      clear hT ht htt
      go_wp2_with (fail)
      refine CT.out.mono ?_
      rintro e w1 ⟨v, rfl, hv, hb1⟩
      have HTV := Lib.hid hv
      obtain ⟨A2, c2, rfl, -⟩ := hv.out
      have hsm : w.heap.size < wr.heap.size := (Array.getElem?_eq_some_iff.1 HG.out).1
      have HG1 := Lib.hid (carry hb1 HG.out)
      have HB1 := Lib.hid (bs HB.out hb1)
      have HLM := Lib.hid ((HLI.out.keep (w' := w1) (fun b _ hlt => hb1.block b hlt)).more (by omega) HVS.out (HTV.out.stays (fun b hb => ⟨Nat.le_trans hsm hb.1, hb.2⟩) (fun _ _ _ => rfl)))
      rw [HL1.out] at HLM ⊢
      obtain ⟨rg, fg⟩ := rowc HG1.out
      have gx : ∀ q, q < 5 → ∃ u, w1.cell? ⟨w.heap.size, j * 5 + q, none⟩ = some u := fun q hq => ⟨_, (rg _).trans (Array.getElem?_eq_getElem (by omega))⟩
      obtain ⟨y0, z0⟩ := gx 0 (by omega)
      obtain ⟨y1, z1⟩ := gx 1 (by omega)
      obtain ⟨y2, z2⟩ := gx 2 (by omega)
      obtain ⟨y3, z3⟩ := gx 3 (by omega)
      obtain ⟨y4, z4⟩ := gx 4 (by omega)
      simp only [Nat.add_zero] at z0
      clear hv hb1 rg gx p0 p1 p2 p3 p4
      go_wp2_with (fail)
      go_roundg (L - j)
      case rel =>
        refine ⟨j + 1, _, by go_num, by omega, by omega, Lib.hid (set5_heap HG1.out _ _ _ _ _ _), Lib.hid (by rw [set5_size]; exact HSZ.out), Lib.hid (HLM.out.keep fun b hb _ => set5_other (by omega) _ _ _ _ _ _), Lib.hid ?_⟩
        iterate 5 refine Below.setCell ?_ (show w.heap.size ≤ w.heap.size by omega) _
        exact HB1.out
      case measure => omega
    · obtain rfl : j = L := by omega
      have hL := HLI.out
      rw [← HL.out] at hL
      have hv := hL.vin HG.out (Nat.le_succ _)
      go_wp2_with (fail)
      go_ret
      refine ⟨w.heap.size, ?_, hv, Nat.le_refl _, HB.out⟩
      rw [HL.out]
      rfl

/-- What the values of a list hold. -/
def tll : List Tr → Nat
  | [] => 0
  | t :: vs => tot t + tll vs
theorem tll_drop {vs : List Tr} {j : Nat} {t : Tr} (hv : vs[j]? = some t) : tll (vs.drop j) = tot t + tll (vs.drop (j + 1)) := by
  obtain ⟨hj, rfl⟩ := List.getElem?_eq_some_iff.1 hv
  rw [List.drop_eq_getElem_cons hj, tll]
theorem tll_mem : ∀ {vs : List Tr} {t : Tr}, t ∈ vs → tot t ≤ tll vs
  | t :: vs, u, h => by
    rw [tll]
    rcases List.mem_cons.1 h with rfl | h
    · omega
    · have := tll_mem h
      omega

set_option maxRecDepth 100000 in
set_option maxHeartbeats 2000000 in
theorem szValueS (vs : List Tr) (hm : vs.length ≤ maxLen) (A : Option Addr) (c : Nat) (w : World) (S : Nat → Prop) (h : VIn w S vs A) (left : Int) (h0 : 0 ≤ left) (h1 : left ≤ 1048576) :
    Calls Tryd.prog 49 #[.slice A vs.length c, .int .i64 left] w (SzQ left (vs.length + tll vs) w) := by
  obtain ⟨L, HL⟩ : ∃ L, Hid (L = vs.length) := ⟨_, Lib.hid rfl⟩
  rw [← HL.out] at hm ⊢
  unfold maxLen at hm
  by_cases hlt : left - L < 0
  · go_enter Tryd.func49, Tryd.ntmps49
    go_wp2_with (fail)
    go_ret
    exact ⟨-1, rfl, ⟨by omega, by omega, fun h => by omega⟩, Below.refl _ _⟩
  have hge : ¬ (left < L) := by omega
  clear hlt
  go_enter Tryd.func49, Tryd.ntmps49
  go_wp2_with (fail)
  go_loopg [1, 5] (L + 1) (fun gk l i wr => ∃ (j : Nat) (r : Int), l = .int .i64 r ∧ i = .int .i64 j ∧ gk + j = L + 1 ∧ j ≤ L ∧ 0 ≤ r ∧ r ≤ left ∧ Hid (r + tll vs = left - L + tll (vs.drop j)) ∧ Below w.heap.size w wr)
  case atStart => exact ⟨0, left - L, rfl, rfl, by omega, by omega, by omega, by omega, Lib.hid (by simp), Below.refl _ _⟩
  case round =>
    obtain ⟨j, r, rfl, rfl, hgj, hjL, hr0, hr1, HR, hb⟩ := hrel
    have HB := Lib.hid hb
    clear hb
    by_cases hlt : j < L
    · obtain ⟨t, ht⟩ : ∃ t, vs[j]? = some t := ⟨_, List.getElem?_eq_getElem (by rw [← HL.out]; exact hlt)⟩
      have HT := Lib.hid (tll_drop ht)
      obtain ⟨a, k, n, s, x, ks', vs', A1, c1, rfl, -, rfl, hT, hcell⟩ := h.below HB.out j t ht
      have CS : Hid (Calls Tryd.prog 42 #[vV k n s x A1 vs'.length c1, .int .i64 r] wr (SzQ r (tot (.mk k n s x ks' vs')) wr)) := Lib.hid (szV _ wr S _ hT r hr0 (by omega))
      obtain ⟨L1, HL1⟩ : ∃ L1, Hid (vs'.length = L1) := ⟨_, Lib.hid rfl⟩
      rw [HL1.out] at hcell CS
      obtain ⟨p0, p1, p2, p3, p4⟩ := hcell
      unfold vV at CS
      clear hT ht
      go_wp2_with (fail)
      refine CS.out.mono ?_
      rintro e w1 ⟨r2, rfl, ⟨hs1, hs2, hs3⟩, hb1⟩
      have HB1 := Lib.hid hb1
      have HR2 := Lib.hid hs3
      clear hb1 hs3 p0 p1 p2 p3 p4
      by_cases hq : r2 < 0
      · go_wp2_with (fail)
        go_ret
        exact ⟨-1, rfl, ⟨by omega, by omega, fun h => by omega⟩, bs HB.out HB1.out⟩
      · have hq0 : 0 ≤ r2 := by omega
        go_wp2_with (fail)
        go_roundg (L - j)
        case rel =>
          refine ⟨j + 1, r2, rfl, by go_num, by omega, by omega, hq0, by omega, Lib.hid ?_, bs HB.out HB1.out⟩
          have a1 := HR.out
          have a2 := HR2.out hq0
          have a3 := HT.out
          omega
        case measure => omega
    · obtain rfl : j = L := by omega
      have a1 := HR.out
      have a2 : tll (vs.drop j) = 0 := by rw [HL.out, List.drop_length]; rfl
      go_wp2_with (fail)
      go_ret
      exact ⟨r, rfl, ⟨by omega, hr1, fun _ => by omega⟩, HB.out⟩

end Go.Proofs.YtlbkbcafkjgckaaDoor.tree

/-
  How a slice of bytes that came in is opened, and the last step of every law: a call that returns true and changes nothing that was there meets its row.
  Conditions: those that each theorem names.
-/
namespace Go.Proofs.YtlbkbcafkjgckaaDoor.opn
open Go.ChangeShapes Go.WideShapes Go.ChangeAt Go.RowKit mem
set_option linter.unusedVariables false

section
variable {H : Type} {enc : TypeId × Value → H} {P : Program}

theorem all_stay (hl : laidOutB P = true) {W W' : World} (hb : Below W.heap.size W W') : ∀ (ts : List TypeId) (vs : List Value) (ds : List (DataW H)) (ps : List MemPlace),
    (∀ t ∈ ts, P.readableRec t = true ∧ t < P.types.size) → (∀ x ∈ ps, x.block < W.heap.size) → DataW.TrodAll enc P W 0 (fun _ => true) true ts vs ds ps →
    DataW.TrodAll enc P W' 0 (fun b => decide (b < W.heap.size)) true ts vs ds ps
  | [], vs, ds, ps, _, _, h => by
    obtain ⟨rfl, rfl, rfl⟩ := trodAll_nil h
    exact trodAll_mk0
  | t :: ts, vs, ds, ps, hr, hlt, h => by
    obtain ⟨v, vs', d, ds', p, q, rfl, rfl, rfl, h0, h1⟩ := trodAll_cons h
    have ht := hr t List.mem_cons_self
    exact trodAll_cons_mk (Below.trod hl ht.1 ht.2 h0 hb (fun x hx => hlt x (List.mem_append_left _ hx)))
      (all_stay hl hb ts vs' ds' q (fun u hu => hr u (List.mem_cons_of_mem _ hu)) (fun x hx => hlt x (List.mem_append_right _ hx)) h1)

/-- A law's post, from what its walk gives. -/
theorem post_true {f : Func} {s : ChangeSpec} {W W' : World} {args : Array Value} {ds : List (DataW H)} {before : List MemPlace} {tb : TypeId}
    (hW : DataW.Whole enc P f.params.toList s.vars false W args.toList ds [] before) (hv : s.vars = []) (hp : DataW.TrodAll enc P W 0 (fun _ => true) true f.params.toList args.toList ds before)
    (hfn : s.fn H (ds ++ []) = { results := [.lit (.bool true)], args := ds }) (hr : f.resultTypes = #[tb]) (htb : P.underlying tb = some .bool)
    (hl : laidOutB P = true) (hrd : f.params.toList.all (fun t => P.readableRec t && decide (t < P.types.size)) = true) (hb : Below W.heap.size W W') :
    s.post enc P f false true false false W args (.bool true) W' := by
  have hst := all_stay (enc := enc) hl hb f.params.toList args.toList ds before (fun t ht => by have := List.all_eq_true.1 hrd t ht; simpa using this) (fun x hx => hW.lt x hx) hp
  refine ⟨ds, [], before, [], before, [], hW, ?_, ?_, ?_, hb.frame _, fun h => by cases h⟩
  · rw [hfn, hr]
    exact trodAll_mk1 (shut_bool htb _)
  · rw [hfn]
    exact hst
  · rw [hfn, hv]
    rfl

theorem wf_u8 {n : Int} (h : (Lit.int .u8 n).wf = true) : 0 ≤ n ∧ n ≤ 255 := by
  have e1 : IntKind.u8.min = 0 := rfl
  have e2 : IntKind.u8.max = 255 := rfl
  simp [Lit.wf, e1, e2] at h
  omega

/-- A slice of bytes that came in. -/
theorem open_bytes {W : World} {base : Nat} {t e : TypeId} {v : Value} {d : DataW H} {ps : List MemPlace} (ht : P.underlying t = some (.slice e)) (he : P.underlying e = some (.int .u8)) (hc : P.cellsOf e = 1)
    (hval : Value.okWide P W .any base t v) (h : DataW.Trod enc P W 0 (fun _ => true) true t v d ps) :
    ∃ (A : Option Addr) (n c : Nat) (l : List Int), v = .slice A n c ∧ n ≤ maxLen ∧ Rd W A n l := by
  obtain ⟨A, n, c, rfl⟩ := okWide_slice ht hval
  obtain ⟨fuel, hf⟩ := h
  rcases open_ints ht he hc hf with ⟨hcs, _⟩ | ⟨a, len, cap, zs, hcs, _, hl, hm, hz, _, hcell, hwz⟩
  · simp [Value.cells] at hcs
    obtain ⟨rfl, rfl, rfl⟩ := hcs
    exact ⟨none, 0, 0, [], rfl, Nat.zero_le _, rfl, (fun _ h => by cases h), fun hn => absurd hn (by omega)⟩
  · simp [Value.cells] at hcs
    obtain ⟨rfl, rfl, rfl⟩ := hcs
    simp only [if_true] at hz
    have hle : n ≤ zs.length := by omega
    refine ⟨some a, n, c, zs.take n, rfl, by omega, by rw [List.length_take]; omega, fun x hx => wf_u8 (hwz x (List.mem_of_mem_take hx)), fun hn => ⟨a, rfl, fun j x hx => ?_⟩⟩
    have hj : j < n := by
      have := (List.getElem?_eq_some_iff.1 hx).1
      rw [List.length_take] at this
      omega
    rw [List.getElem?_take, if_pos hj] at hx
    have hcj := hcell j (by omega)
    rw [hcj]
    simp [List.getD, hx]
end
end Go.Proofs.YtlbkbcafkjgckaaDoor.opn

/-
  How a value and a key that came in are opened.
  Conditions: those that each theorem names.
-/
namespace Go.Proofs.YtlbkbcafkjgckaaDoor.opt
open Go.ChangeShapes Go.WideShapes Go.ChangeAt Go.RowKit mem tree
set_option linter.unusedVariables false

section
variable {H : Type} {enc : TypeId × Value → H}

theorem types : Types Tryd.prog LV LE LK 64 where
  value := ⟨_, _, _, _, _, Tryd.underlying66, by kernel_rfl, by kernel_rfl, by kernel_rfl, by kernel_rfl, by kernel_rfl, by kernel_rfl⟩
  items := Tryd.underlying64
  item := ⟨_, _, Tryd.underlying145, by kernel_rfl, by kernel_rfl, by kernel_rfl, by kernel_rfl⟩
  key := ⟨_, _, _, Tryd.underlying143, by kernel_rfl, by kernel_rfl, by kernel_rfl, by kernel_rfl⟩
  cV := by kernel_rfl
  cE := by kernel_rfl
  cK := by kernel_rfl

set_option maxRecDepth 100000 in
theorem open_value {W : World} {base : Nat} {v : Value} {d : DataW H} {ps : List MemPlace} (hval : Value.okWide Tryd.prog W .any base LV v) (h : DataW.Trod enc Tryd.prog W 0 (fun _ => true) true LV v d ps) : ∃ t, TIn W (fun _ => True) t v := by
  obtain ⟨cs, rfl, hsz⟩ := okWide_struct Tryd.underlying66 hval
  obtain ⟨fuel, hf⟩ := h
  exact open_tree types fuel _ _ hf

set_option maxRecDepth 100000 in
theorem open_key {W : World} {base : Nat} {v : Value} {d : DataW H} {ps : List MemPlace} (hval : Value.okWide Tryd.prog W .any base LK v) (h : DataW.Trod enc Tryd.prog W 0 (fun _ => true) true LK v d ps) : ∃ y : Ky, v = kyV y ∧ I64 y.num ∧ y.str.size ≤ maxLen := by
  obtain ⟨cs, rfl, hsz⟩ := okWide_struct Tryd.underlying143 hval
  obtain ⟨fuel, hf⟩ := h
  obtain ⟨y, he, hn, hs⟩ := tree.open_key types hf
  refine ⟨y, ?_, hn, hs⟩
  unfold kyV
  congr 1
  apply Array.ext'
  simpa [Value.cells] using he
end

end Go.Proofs.YtlbkbcafkjgckaaDoor.opt

/-
  How a list of values that came in is opened.
  Conditions: those that each theorem names.
-/
namespace Go.Proofs.YtlbkbcafkjgckaaDoor.tree
open Go.ChangeShapes Go.WideShapes Go.ChangeAt Go.RowKit mem
set_option linter.unusedVariables false

section
variable {H : Type} {enc : TypeId × Value → H} {P : Program} {w : World} {base : Nat} {spare : Nat → Bool} {held : Bool}
theorem open_valS {tV tE tK tS tSS : TypeId} (T : Types P tV tE tK tS) (hSS : P.underlying tSS = some (.slice tV)) {fuel : Nat} {c0 : Value} {x : DataW H × List MemPlace} (h : DataW.trod enc P w base spare held fuel tSS [c0] = some x) :
    ∃ A c vs, c0 = .slice A (List.length vs) c ∧ (vs.length ≤ c ∧ c ≤ maxLen) ∧ VIn w (fun _ => True) vs A := by
  rcases DataW.trod_slice hSS h with ⟨hc4, _⟩ | ⟨a, len, cap, elems, rest, m, hfm, hc4, _, hbs, hlc, hcm, hel, hat, _⟩
  · simp at hc4
    subst hc4
    exact ⟨none, 0, [], rfl, ⟨Nat.le_refl _, Nat.zero_le _⟩, fun i t ht => by simp at ht⟩
  · simp at hc4
    subst hc4
    have each : ∀ i, i < len → ∃ t : Tr, ∃ k n s x ks vs A' c', t = .mk k n s x ks vs ∧ TIn w (fun _ => True) t (vV k n s x A' vs.length c') ∧ At5 w (a.add (i * 5)) k n s x A' vs.length c' := by
      intro i hi
      have hi2 := hat i hi
      rw [List.getElem?_eq_getElem (by omega)] at hi2
      obtain ⟨cs', hcs, htr⟩ := Option.bind_eq_some_iff.1 hi2
      rw [T.cV] at hcs
      obtain ⟨_, hcl, hcat⟩ := World.cells?_some hcs
      match cs', hcl with
      | [d3, d4, d5, d6, d7], _ =>
        obtain ⟨t, ht⟩ := open_tree T _ _ _ htr
        obtain ⟨k, n, s, x, ks, vs⟩ := t
        obtain ⟨A', c', e, -, -⟩ := ht.out
        have e' : d3 = .int .i64 k ∧ d4 = .int .i64 n ∧ d5 = .string s ∧ d6 = .int .i64 x ∧ d7 = .slice A' vs.length c' := by simpa using e
        obtain ⟨rfl, rfl, rfl, rfl, rfl⟩ := e'
        have at' : ∀ j, j < 5 → w.cell? (a.add (i * 5 + j)) = ([.int .i64 k, .int .i64 n, .string s, .int .i64 x, .slice A' vs.length c'] : List Value)[j]? := fun j hj => by
          have := hcat j hj
          rwa [add_add'] at this
        have sp : ∀ j, j ≠ 0 → a.add (i * 5 + j) = ⟨(a.add (i * 5)).block, (a.add (i * 5)).off + j, none⟩ := fun j hj => by rw [← add_add', add_pos _ _ hj]
        have at2 : ∀ j, j ≠ 0 → j < 5 → w.cell? ⟨(a.add (i * 5)).block, (a.add (i * 5)).off + j, none⟩ = _ := fun j h0 hj => (congrArg w.cell? (sp j h0)).symm.trans (at' j hj)
        exact ⟨.mk k n s x ks vs, k, n, s, x, ks, vs, A', c', rfl, ht, ⟨at' 0 (by omega), at2 1 (by omega) (by omega), at2 2 (by omega) (by omega), at2 3 (by omega) (by omega), at2 4 (by omega) (by omega)⟩⟩
    have hl : ((List.range len).map (fun i => if hi : i < len then (each i hi).choose else Tr.mk 0 0 ⟨#[]⟩ 0 [] [])).length = len := by simp
    refine ⟨some a, cap, (List.range len).map (fun i => if hi : i < len then (each i hi).choose else Tr.mk 0 0 ⟨#[]⟩ 0 [] []), by rw [hl], ⟨by rw [hl]; exact hlc, hcm⟩, fun i t ht => ?_⟩
    rw [List.getElem?_map] at ht
    obtain ⟨i', hi', rfl⟩ := Option.map_eq_some_iff.1 ht
    have hil : i < len := by
      have := (List.getElem?_eq_some_iff.1 hi').1
      simpa using this
    rw [List.getElem?_range hil] at hi'
    obtain rfl := Option.some.inj hi'
    simp only [dif_pos hil]
    obtain ⟨k, n, s, x, ks, vs, A', c', h1, h2, h3⟩ := (each i hil).choose_spec
    exact ⟨a, k, n, s, x, ks, vs, A', c', rfl, trivial, h1, h1 ▸ h2, h3⟩
end

set_option maxRecDepth 100000 in
theorem open_values {H : Type} {enc : TypeId × Value → H} {W : World} {base : Nat} {v : Value} {d : DataW H} {ps : List MemPlace} (hval : Value.okWide Tryd.prog W .any base 71 v) (h : DataW.Trod enc Tryd.prog W 0 (fun _ => true) true 71 v d ps) :
    ∃ A c vs, v = .slice A (List.length vs) c ∧ (vs.length ≤ c ∧ c ≤ maxLen) ∧ VIn W (fun _ => True) vs A := by
  obtain ⟨A, n, c, rfl⟩ := okWide_slice Tryd.underlying71 hval
  obtain ⟨fuel, hf⟩ := h
  exact open_valS opt.types Tryd.underlying71 hf

end Go.Proofs.YtlbkbcafkjgckaaDoor.tree

