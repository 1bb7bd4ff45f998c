/-
  How the project compares two values without going into arrays.
  Conditions: the values hold at most 10^9 items and letters; the table of powers of ten and the project's two errors hold what the program's text lays.
-/
import Derived.Test.YtdglmnmalfpipaaGreatDoorVB7
import Derived.Test.YtdglmnmalfpipaaGreatDoorVB14
import Derived.Deep.DeepCutAuto
import Derived.Deep.RegionWith
import Derived.BigQuiet
namespace Go.Proofs.YtdglmnmalfpipaaGreatDoor.tree
open Go.ChangeShapes Go.WideShapes Go.ChangeAt Go.RowKit ers
set_option linter.unusedVariables false

theorem isNullAndText (k n : Int) (s : ByteArray) (x : Int) (A : Option Addr) (L c : Nat) (k' n' : Int) (s' : ByteArray) (x' : Int) (A' : Option Addr) (L' c' : Nat) (w : World) :
    Calls Tryz.prog 205 #[vV k n s x A L c, vV k' n' s' x' A' L' c'] w (GivesQ w (.bool (decide (k = 0) && decide (k' = 3)))) := by
  by_cases h1 : k = 0
  · subst h1
    have e : decide ((0 : Int) = 0) = true := rfl
    rw [e, Bool.true_and]
    go_enter Tryz.func205, Tryz.ntmps205
    go_wp2
    go_ret
    exact ⟨rfl, b2 _ _ _⟩
  · rw [decide_eq_false h1, Bool.false_and]
    go_enter Tryz.func205, Tryz.ntmps205
    go_wp2
    go_ret
    exact ⟨rfl, b2 _ _ _⟩
theorem isNullOrBool (k n : Int) (s : ByteArray) (x : Int) (A : Option Addr) (L c : Nat) (w : World) :
    Calls Tryz.prog 207 #[vV k n s x A L c] w (GivesQ w (.bool (decide (k = 0) || decide (k = 1)))) := by
  by_cases h1 : k = 0
  · subst h1
    have e : decide ((0 : Int) = 0) = true := rfl
    rw [e, Bool.true_or]
    go_enter Tryz.func207, Tryz.ntmps207
    go_wp2
    go_ret
    exact ⟨rfl, b1 _ _⟩
  · rw [decide_eq_false h1, Bool.false_or]
    have e0 : (k == 0 || k == 1) = decide (k = 1) := by by_cases h : k = 1 <;> simp_all
    go_enter Tryz.func207, Tryz.ntmps207
    go_wp2
    go_ret
    exact ⟨by rw [← e0]; rfl, b1 _ _⟩
theorem isIntOrText (k n : Int) (s : ByteArray) (x : Int) (A : Option Addr) (L c : Nat) (w : World) :
    Calls Tryz.prog 210 #[vV k n s x A L c] w (GivesQ w (.bool (decide (k = 2) || decide (k = 3)))) := by
  by_cases h1 : k = 2
  · subst h1
    have e : decide ((2 : Int) = 2) = true := rfl
    rw [e, Bool.true_or]
    go_enter Tryz.func210, Tryz.ntmps210
    go_wp2
    go_ret
    exact ⟨rfl, b1 _ _⟩
  · rw [decide_eq_false h1, Bool.false_or]
    have e0 : (k == 2 || k == 3) = decide (k = 3) := by by_cases h : k = 3 <;> simp_all
    go_enter Tryz.func210, Tryz.ntmps210
    go_wp2
    go_ret
    exact ⟨by rw [← e0]; rfl, b1 _ _⟩

theorem compareTexts (t t' : Tr) (v v' : Value) (w : World) (S S' : Nat → Prop) (h : TIn w S t v) (h' : TIn w S' t' v') (hT : tot t ≤ 1000000000) (hT' : tot t' ≤ 1000000000) (hE : CmE w) :
    Calls Tryz.prog 206 #[v, v'] w (GivesQ w (.int .i64 (bys (tt t).1 (tt t').1))) := by
  obtain ⟨hF, ⟨a, hA⟩, -⟩ := hE
  have TO := fun w' (hb : Below w.heap.size w w') => textOf t v w' S (h.below' hb) hT a (hF.stays hb) (hA.stays hb)
  have TO' := fun w' (hb : Below w.heap.size w w') => textOf t' v' w' S' (h'.below' hb) hT' a (hF.stays hb) (hA.stays hb)
  obtain ⟨k, n, s, x, A, L, c, rfl⟩ : ∃ k n s x A L c, v = vV k n s x A L c := by
    cases h with
    | mk k n s x ks vs A cap C => exact ⟨k, n, s, x, A, _, cap, rfl⟩
  obtain ⟨k', n', s', x', A', L', c', rfl⟩ : ∃ k n s x A L c, v' = vV k n s x A L c := by
    cases h' with
    | mk k n s x ks vs A cap C => exact ⟨k, n, s, x, A, _, cap, rfl⟩
  unfold toV at TO TO'
  obtain ⟨z, HZ⟩ : ∃ z, Hid ((tt t).1 = z) := ⟨_, Lib.hid rfl⟩
  obtain ⟨z', HZ'⟩ : ∃ z, Hid ((tt t').1 = z) := ⟨_, Lib.hid rfl⟩
  rw [HZ.out] at TO ⊢
  rw [HZ'.out] at TO' ⊢
  obtain ⟨q, HQ⟩ : ∃ q : Value, Hid ((if (tt t).2 = true then Value.nilIface else .iface 270 (.pointer (some a))) = q) := ⟨_, Lib.hid rfl⟩
  obtain ⟨q', HQ'⟩ : ∃ q : Value, Hid ((if (tt t').2 = true then Value.nilIface else .iface 270 (.pointer (some a))) = q) := ⟨_, Lib.hid rfl⟩
  rw [HQ.out] at TO
  rw [HQ'.out] at TO'
  replace TO := Lib.hid TO
  replace TO' := Lib.hid TO'
  clear h h' hF hA HZ HZ' HQ HQ'
  go_enter Tryz.func206, Tryz.ntmps206
  go_wp2_with (fail)
  refine (TO.out _ (b2 w _ _)).mono ?_
  rintro e w1 ⟨rfl, hb1⟩
  have E1 := Lib.hid (carry hb1 (heap_alloc2_new w _ _))
  have HB1 := Lib.hid (bs (b2 w _ _) hb1)
  obtain ⟨r1, -⟩ := rowc E1.out
  clear hb1
  go_wp2_with (fail)
  refine (TO'.out _ HB1.out).mono ?_
  rintro e w2 ⟨rfl, hb2⟩
  have HB2 := Lib.hid (bs HB1.out hb2)
  clear hb2 r1
  go_wp2_with (fail)
  refine (Tryz.strings_Compare z z' _).mono ?_
  rintro e w3 ⟨rfl, rfl⟩
  go_wp2_with (fail)
  go_ret
  exact ⟨rfl, HB2.out⟩

def CutQ (w : World) (b : Bool) (N : Nat) (C C' : Array Value) (v : Value) (wx : World) : Prop :=
  v = .bool b ∧ Below w.heap.size w wx ∧ wx.heap[N]? = some (.cells C IV (0, 0)) ∧ wx.heap[N + 1]? = some (.cells C' IV (0, 0))
def CutN (w : World) (z : Int) (v : Value) (wx : World) : Prop := v = .int .i64 z ∧ Below w.heap.size w wx

set_option maxHeartbeats 4000000 in
set_option maxRecDepth 100000 in
theorem compareOutside (t t' : Tr) (v v' : Value) (w : World) (S S' : Nat → Prop) (h : TIn w S t v) (h' : TIn w S' t' v') (hT : tot t ≤ 1000000000) (hT' : tot t' ≤ 1000000000) (hE : CmE w) :
    Calls Tryz.prog 173 #[v, v'] w (GivesQ w (.int .i64 (ordO t t'))) := by
  obtain ⟨k, n, s, x, ks, vs⟩ := t
  obtain ⟨k', n', s', x', ks', vs'⟩ := t'
  obtain ⟨A, c, rfl, -, hin⟩ := h.out
  obtain ⟨A', c', rfl, -, hin'⟩ := h'.out
  have NU : ∀ w', Below w.heap.size w w' → ∃ b, Calls Tryz.prog 175 #[vV k n s x A vs.length c] w' (GivesQ w' (noV b (.mk k n s x ks vs))) := fun w' hb => by
    obtain ⟨-, -, b, hB⟩ := hE
    exact ⟨b, numberOf _ _ w' S (h.below' hb) hT b (hB.stays hb)⟩
  have NU' : ∀ w', Below w.heap.size w w' → ∃ b, Calls Tryz.prog 175 #[vV k' n' s' x' A' vs'.length c'] w' (GivesQ w' (noV b (.mk k' n' s' x' ks' vs'))) := fun w' hb => by
    obtain ⟨-, -, b, hB⟩ := hE
    exact ⟨b, numberOf _ _ w' S' (h'.below' hb) hT' b (hB.stays hb)⟩
  have TR := fun w' (hb : Below w.heap.size w w') => truth_i _ _ w' S (h.below' hb)
  have TR' := fun w' (hb : Below w.heap.size w w') => truth_i _ _ w' S' (h'.below' hb)
  have CT := fun w' (hb : Below w.heap.size w w') => compareTexts _ _ _ _ w' S S' (h.below' hb) (h'.below' hb) hT hT' (hE.stays hb)
  unfold noV at *
  rw [ordO_mk]
  obtain ⟨L, HL⟩ : ∃ L, Hid (vs.length = L) := ⟨_, Lib.hid rfl⟩
  obtain ⟨L', HL'⟩ : ∃ L, Hid (vs'.length = L) := ⟨_, Lib.hid rfl⟩
  have hm : L ≤ maxLen := by rw [← HL.out]; exact hin.2.1
  have hm' : L' ≤ maxLen := by rw [← HL'.out]; exact hin'.2.1
  unfold maxLen at hm hm'
  rw [HL.out] at NU TR CT ⊢
  rw [HL'.out] at NU' TR' CT ⊢
  obtain ⟨⟨m1, o1⟩, HN⟩ : ∃ z, Hid (nn (.mk k n s x ks vs) = z) := ⟨_, Lib.hid rfl⟩
  obtain ⟨⟨m2, o2⟩, HN'⟩ : ∃ z, Hid (nn (.mk k' n' s' x' ks' vs') = z) := ⟨_, Lib.hid rfl⟩
  rw [HN.out] at NU ⊢
  rw [HN'.out] at NU' ⊢
  obtain ⟨p1, HP⟩ : ∃ z, Hid (tr01 (.mk k n s x ks vs) = z) := ⟨_, Lib.hid rfl⟩
  obtain ⟨p2, HP'⟩ : ∃ z, Hid (tr01 (.mk k' n' s' x' ks' vs') = z) := ⟨_, Lib.hid rfl⟩
  rw [HP.out] at TR ⊢
  rw [HP'.out] at TR' ⊢
  obtain ⟨y, HY⟩ : ∃ z, Hid (bys (tt (.mk k n s x ks vs)).1 (tt (.mk k' n' s' x' ks' vs')).1 = z) := ⟨_, Lib.hid rfl⟩
  rw [HY.out] at CT ⊢
  replace NU := Lib.hid NU
  replace NU' := Lib.hid NU'
  replace TR := Lib.hid TR
  replace TR' := Lib.hid TR'
  replace CT := Lib.hid CT
  have NT := Lib.hid (fun w' => isNullAndText k n s x A L c k' n' s' x' A' L' c' w')
  have NT' := Lib.hid (fun w' => isNullAndText k' n' s' x' A' L' c' k n s x A L c w')
  have NB := Lib.hid (fun w' => isNullOrBool k n s x A L c w')
  have NB' := Lib.hid (fun w' => isNullOrBool k' n' s' x' A' L' c' w')
  have IT := Lib.hid (fun w' => isIntOrText k n s x A L c w')
  have IT' := Lib.hid (fun w' => isIntOrText k' n' s' x' A' L' c' w')
  have AR := Lib.hid (fun w' => areArrays k n s x A L c k' n' s' x' A' L' c' w')
  have HE := Lib.hid hE
  clear h h' hin hin' hT hT' hE HN HN' HP HP' HY
  show Calls _ _ _ _ (GivesQ w (.int .i64 (if (k = 0 ∧ k' = 3) ∨ (k' = 0 ∧ k = 3) then y else if (k = 0 ∨ k = 1) ∨ (k' = 0 ∨ k' = 1) then Lib.compareInt p1 p2 else if o1 = true ∧ o2 = true then Lib.compareInt m1 m2
    else if (k = 2 ∨ k = 3) ∧ (k' = 2 ∨ k' = 3) then y else if k = 4 ∧ k' = 4 then Lib.compareInt L L' else if k = 4 then 1 else if k' = 4 then -1 else if k = k' ∧ n = n' then 0 else 2)))
  obtain ⟨W, HW⟩ : ∃ z, Hid ((if (k = 0 ∧ k' = 3) ∨ (k' = 0 ∧ k = 3) then y else if (k = 0 ∨ k = 1) ∨ (k' = 0 ∨ k' = 1) then Lib.compareInt p1 p2 else if o1 = true ∧ o2 = true then Lib.compareInt m1 m2
    else if (k = 2 ∨ k = 3) ∧ (k' = 2 ∨ k' = 3) then y else if k = 4 ∧ k' = 4 then Lib.compareInt L L' else if k = 4 then 1 else if k' = 4 then -1 else if k = k' ∧ n = n' then 0 else 2) = z) := ⟨_, Lib.hid rfl⟩
  rw [HW.out]
  go_enter Tryz.func173, Tryz.ntmps173
  go_wp2_with (fail)
  obtain ⟨b0, N0⟩ := NU.out _ (b2 w (.cells #[.int .i64 k, .int .i64 n, .string s, .int .i64 x, .slice A L c] IV) (.cells #[.int .i64 k', .int .i64 n', .string s', .int .i64 x', .slice A' L' c'] IV))
  obtain ⟨q1, HQ1⟩ : ∃ q : Value, Hid ((if o1 = true then Value.nilIface else .iface 270 (.pointer (some b0))) = q) := ⟨_, Lib.hid rfl⟩
  rw [HQ1.out] at N0
  refine N0.mono ?_
  rintro e w1 ⟨rfl, hb1⟩
  have EA := Lib.hid (carry hb1 (heap_alloc2_old w _ _))
  have EB := Lib.hid (carry hb1 (heap_alloc2_new w _ _))
  have HB1 := Lib.hid (bs (b2 w _ _) hb1)
  obtain ⟨rB, -⟩ := rowc EB.out
  clear hb1 N0
  go_wp2_with (fail)
  obtain ⟨b9, N9⟩ := NU'.out _ HB1.out
  obtain ⟨q2, HQ2⟩ : ∃ q : Value, Hid ((if o2 = true then Value.nilIface else .iface 270 (.pointer (some b9))) = q) := ⟨_, Lib.hid rfl⟩
  rw [HQ2.out] at N9
  refine N9.mono ?_
  rintro e w2 ⟨rfl, hb2⟩
  have EA2 := Lib.hid (carry hb2 EA.out)
  have EB2 := Lib.hid (carry hb2 EB.out)
  have HB2 := Lib.hid (bs HB1.out hb2)
  clear hb2 N9 rB EA EB
  obtain ⟨rA, -⟩ := rowc EA2.out
  obtain ⟨rB, -⟩ := rowc EB2.out
  go_upto_region 3 with fail
  go_cut [19] (fun v wx => CutQ w2 ((decide (k = 0) && decide (k' = 3)) || (decide (k' = 0) && decide (k = 3))) w.heap.size #[.int .i64 k, .int .i64 n, .string s, .int .i64 x, .slice A L c] #[.int .i64 k', .int .i64 n', .string s', .int .i64 x', .slice A' L' c'] v wx)
  case first =>
    go_wp2_with (fail)
    refine (NT.out _).mono ?_
    rintro e w3 ⟨rfl, hb3⟩
    have EA3 := Lib.hid (carry hb3 EA2.out)
    have EB3 := Lib.hid (carry hb3 EB2.out)
    have HB3 := Lib.hid hb3
    clear hb3 rA rB
    obtain ⟨rA, -⟩ := rowc EA3.out
    obtain ⟨rB, -⟩ := rowc EB3.out
    cases hq : (decide (k = 0) && decide (k' = 3))
    · skip
      go_wp2_with (fail)
      refine (NT'.out _).mono ?_
      rintro e w4 ⟨rfl, hb4⟩
      have HB4 := Lib.hid hb4
      clear hb4
      go_wp2_with (fail)
      go_meet
      exact ⟨by rw [hq, Bool.false_or], bs HB3.out HB4.out, carry HB4.out EA3.out, carry HB4.out EB3.out⟩
    · skip
      go_wp2_with (fail)
      go_meet
      exact ⟨by rw [hq, Bool.true_or], HB3.out, EA3.out, EB3.out⟩
  case rest =>
    obtain ⟨rfl, hbc, hx0, hx1⟩ := hcut
    have HB3 := Lib.hid (bs HB2.out hbc)
    have EA3 := Lib.hid hx0
    have EB3 := Lib.hid hx1
    clear hbc hx0 hx1 rA rB EA2 EB2
    obtain ⟨rA, -⟩ := rowc EA3.out
    obtain ⟨rB, -⟩ := rowc EB3.out
    cases hq : ((decide (k = 0) && decide (k' = 3)) || (decide (k' = 0) && decide (k = 3)))
    case true =>
      have HWE : Hid (W = y) := Lib.hid (by rw [← HW.out, if_pos (by simpa using hq)])
      go_wp2_with (fail)
      refine (CT.out _ HB3.out).mono ?_
      rintro e w4 ⟨rfl, hb4⟩
      have HB4 := Lib.hid (bs HB3.out hb4)
      clear hb4
      go_wp2_with (fail)
      go_ret
      exact ⟨by rw [HWE.out]; rfl, HB4.out⟩
    case false =>
      have HW1 := Lib.hid ((if_neg (by simpa using hq)).symm.trans HW.out)
      clear hq
      go_upto_region 5 with fail
      go_cut [31] (fun v wx => CutQ wc ((decide (k = 0) || decide (k = 1)) || (decide (k' = 0) || decide (k' = 1))) w.heap.size #[.int .i64 k, .int .i64 n, .string s, .int .i64 x, .slice A L c] #[.int .i64 k', .int .i64 n', .string s', .int .i64 x', .slice A' L' c'] v wx)
      case first =>
        go_wp2_with (fail)
        refine (NB.out _).mono ?_
        rintro e w3 ⟨rfl, hb3⟩
        have EA5 := Lib.hid (carry hb3 EA3.out)
        have EB5 := Lib.hid (carry hb3 EB3.out)
        have HB5 := Lib.hid hb3
        clear hb3 rA rB
        obtain ⟨rA, -⟩ := rowc EA5.out
        obtain ⟨rB, -⟩ := rowc EB5.out
        cases hq : (decide (k = 0) || decide (k = 1))
        · skip
          go_wp2_with (fail)
          refine (NB'.out _).mono ?_
          rintro e w4 ⟨rfl, hb4⟩
          have HB4 := Lib.hid hb4
          clear hb4
          go_wp2_with (fail)
          go_meet
          exact ⟨by rw [hq, Bool.false_or], bs HB5.out HB4.out, carry HB4.out EA5.out, carry HB4.out EB5.out⟩
        · skip
          go_wp2_with (fail)
          go_meet
          exact ⟨by rw [hq, Bool.true_or], HB5.out, EA5.out, EB5.out⟩

      case rest =>
        obtain ⟨rfl, hbc, hx0, hx1⟩ := hcut
        have HBn := Lib.hid (bs HB3.out hbc)
        have EAn := Lib.hid hx0
        have EBn := Lib.hid hx1
        clear hbc hx0 hx1 rA rB EA3 EB3 HB3
        have HB3 := Lib.hid HBn.out
        have EA3 := Lib.hid EAn.out
        have EB3 := Lib.hid EBn.out
        clear HBn EAn EBn
        obtain ⟨rA, -⟩ := rowc EA3.out
        obtain ⟨rB, -⟩ := rowc EB3.out
        cases hq : ((decide (k = 0) || decide (k = 1)) || (decide (k' = 0) || decide (k' = 1)))
        case true =>
          have HWE : Hid (W = Lib.compareInt p1 p2) := Lib.hid (by rw [← HW1.out, if_pos (by simpa using hq)])
          have HC : Hid (Below wc.heap.size wc wc) := Lib.hid (Below.refl _ _)
          go_upto_region 6 with fail
          go_region_with (first
            | (go_at_call_of 209 A
               refine (TR.out _ (bs HB3.out (by first | exact HC.out | exact HC.out.drew))).mono ?_
               rintro e wz ⟨rfl, hbz⟩
               have HCX : Hid (Below wc.heap.size wc wz) := Lib.hid (by first | exact bs HC.out hbz | exact bs (HC.out.drew) hbz)
               clear HC hbz rA rB
               have HC := Lib.hid HCX.out
               clear HCX
               obtain ⟨rA, -⟩ := rowc (carry HC.out EA3.out)
               obtain ⟨rB, -⟩ := rowc (carry HC.out EB3.out))
            | (go_at_call_of 209 A'
               refine (TR'.out _ (bs HB3.out (by first | exact HC.out | exact HC.out.drew))).mono ?_
               rintro e wz ⟨rfl, hbz⟩
               have HCX : Hid (Below wc.heap.size wc wz) := Lib.hid (by first | exact bs HC.out hbz | exact bs (HC.out.drew) hbz)
               clear HC hbz rA rB
               have HC := Lib.hid HCX.out
               clear HCX
               obtain ⟨rA, -⟩ := rowc (carry HC.out EA3.out)
               obtain ⟨rB, -⟩ := rowc (carry HC.out EB3.out))
            | (go_at_call 208
               refine (Tryz.cmp_Compare_int p1 p2 _).mono ?_
               rintro e wz ⟨rfl, rfl⟩))
          all_goals
            go_wp2_with (fail)
            go_ret
            exact ⟨by rw [HWE.out]; rfl, bs HB3.out HC.out⟩
        case false =>
          have HW2 := Lib.hid ((if_neg (by simpa using hq)).symm.trans HW1.out)
          clear hq
          go_upto_region 7 with fail
          go_cut [43] (fun v wx => CutQ wc (o1 && o2) w.heap.size #[.int .i64 k, .int .i64 n, .string s, .int .i64 x, .slice A L c] #[.int .i64 k', .int .i64 n', .string s', .int .i64 x', .slice A' L' c'] v wx)
          case first =>
            have f1 := HQ1.out
            have f2 := HQ2.out
            clear HQ1 HQ2
            cases o1 <;> cases o2
            all_goals
              simp only [if_true, if_false, Bool.false_eq_true] at f1 f2
              subst f1 f2
              go_wp2_with (fail)
              go_meet
              exact ⟨rfl, Below.refl _ _, EA3.out, EB3.out⟩

          case rest =>
            obtain ⟨rfl, hbc, hx0, hx1⟩ := hcut
            have HBn := Lib.hid (bs HB3.out hbc)
            have EAn := Lib.hid hx0
            have EBn := Lib.hid hx1
            clear hbc hx0 hx1 rA rB EA3 EB3 HB3
            have HB3 := Lib.hid HBn.out
            have EA3 := Lib.hid EAn.out
            have EB3 := Lib.hid EBn.out
            clear HBn EAn EBn
            obtain ⟨rA, -⟩ := rowc EA3.out
            obtain ⟨rB, -⟩ := rowc EB3.out
            cases hq : (o1 && o2)
            case true =>
              have HWE : Hid (W = Lib.compareInt m1 m2) := Lib.hid (by rw [← HW2.out, if_pos (by simpa using hq)])
              go_wp2_with (fail)
              refine (Tryz.cmp_Compare_int m1 m2 _).mono ?_
              rintro e w4 ⟨rfl, rfl⟩
              go_wp2_with (fail)
              go_ret
              exact ⟨by rw [HWE.out]; rfl, HB3.out⟩
            case false =>
              have HW3 := Lib.hid ((if_neg (by simpa using hq)).symm.trans HW2.out)
              clear hq
              go_upto_region 9 with fail
              go_cut [53] (fun v wx => CutQ wc ((decide (k = 2) || decide (k = 3)) && (decide (k' = 2) || decide (k' = 3))) w.heap.size #[.int .i64 k, .int .i64 n, .string s, .int .i64 x, .slice A L c] #[.int .i64 k', .int .i64 n', .string s', .int .i64 x', .slice A' L' c'] v wx)
              case first =>
                go_wp2_with (fail)
                refine (IT.out _).mono ?_
                rintro e w3 ⟨rfl, hb3⟩
                have EA5 := Lib.hid (carry hb3 EA3.out)
                have EB5 := Lib.hid (carry hb3 EB3.out)
                have HB5 := Lib.hid hb3
                clear hb3 rA rB
                obtain ⟨rA, -⟩ := rowc EA5.out
                obtain ⟨rB, -⟩ := rowc EB5.out
                cases hq : (decide (k = 2) || decide (k = 3))
                · skip
                  go_wp2_with (fail)
                  go_meet
                  exact ⟨by rw [hq, Bool.false_and], HB5.out, EA5.out, EB5.out⟩
                · skip
                  go_wp2_with (fail)
                  refine (IT'.out _).mono ?_
                  rintro e w4 ⟨rfl, hb4⟩
                  have HB4 := Lib.hid hb4
                  clear hb4
                  go_wp2_with (fail)
                  go_meet
                  exact ⟨by rw [hq, Bool.true_and], bs HB5.out HB4.out, carry HB4.out EA5.out, carry HB4.out EB5.out⟩

              case rest =>
                obtain ⟨rfl, hbc, hx0, hx1⟩ := hcut
                have HBn := Lib.hid (bs HB3.out hbc)
                have EAn := Lib.hid hx0
                have EBn := Lib.hid hx1
                clear hbc hx0 hx1 rA rB EA3 EB3 HB3
                have HB3 := Lib.hid HBn.out
                have EA3 := Lib.hid EAn.out
                have EB3 := Lib.hid EBn.out
                clear HBn EAn EBn
                obtain ⟨rA, -⟩ := rowc EA3.out
                obtain ⟨rB, -⟩ := rowc EB3.out
                cases hq : ((decide (k = 2) || decide (k = 3)) && (decide (k' = 2) || decide (k' = 3)))
                case true =>
                  have HWE : Hid (W = y) := Lib.hid (by rw [← HW3.out, if_pos (by simpa using hq)])
                  go_wp2_with (fail)
                  refine (CT.out _ HB3.out).mono ?_
                  rintro e w4 ⟨rfl, hb4⟩
                  have HB4 := Lib.hid (bs HB3.out hb4)
                  clear hb4
                  go_wp2_with (fail)
                  go_ret
                  exact ⟨by rw [HWE.out]; rfl, HB4.out⟩
                case false =>
                  have HW4 := Lib.hid ((if_neg (by simpa using hq)).symm.trans HW3.out)
                  clear hq
                  go_upto_region 11 with fail
                  go_cut [63] (fun v wx => CutQ wc (decide (k = 4) && decide (k' = 4)) w.heap.size #[.int .i64 k, .int .i64 n, .string s, .int .i64 x, .slice A L c] #[.int .i64 k', .int .i64 n', .string s', .int .i64 x', .slice A' L' c'] v wx)
                  case first =>
                    go_wp2_with (fail)
                    refine (AR.out _).mono ?_
                    rintro e w3 ⟨rfl, hb3⟩
                    have HB4 := Lib.hid hb3
                    clear hb3
                    go_wp2_with (fail)
                    go_meet
                    exact ⟨rfl, HB4.out, carry HB4.out EA3.out, carry HB4.out EB3.out⟩

                  case rest =>
                    obtain ⟨rfl, hbc, hx0, hx1⟩ := hcut
                    have HBn := Lib.hid (bs HB3.out hbc)
                    have EAn := Lib.hid hx0
                    have EBn := Lib.hid hx1
                    clear hbc hx0 hx1 rA rB EA3 EB3 HB3
                    have HB3 := Lib.hid HBn.out
                    have EA3 := Lib.hid EAn.out
                    have EB3 := Lib.hid EBn.out
                    clear HBn EAn EBn
                    obtain ⟨rA, -⟩ := rowc EA3.out
                    obtain ⟨rB, -⟩ := rowc EB3.out
                    cases hq : (decide (k = 4) && decide (k' = 4))
                    case true =>
                      have HWE : Hid (W = Lib.compareInt L L') := Lib.hid (by rw [← HW4.out, if_pos (by simpa using hq)])
                      go_wp2_with (fail)
                      refine (Tryz.cmp_Compare_int (L : Int) (L' : Int) _).mono ?_
                      rintro e w4 ⟨rfl, rfl⟩
                      go_wp2_with (fail)
                      go_ret
                      exact ⟨by rw [HWE.out]; rfl, HB3.out⟩
                    case false =>
                      have HW5 := Lib.hid ((if_neg (by simpa using hq)).symm.trans HW4.out)
                      clear hq
                      clear TR TR' CT NT NT' NB NB' IT IT' AR NU NU'
                      by_cases h4 : k = 4
                      · subst h4
                        have HWE : Hid (W = 1) := Lib.hid (by rw [← HW5.out, if_pos rfl])
                        go_wp2_with (fail)
                        go_ret
                        exact ⟨by rw [HWE.out]; rfl, HB3.out⟩
                      · have HW6 := Lib.hid ((if_neg h4).symm.trans HW5.out)
                        by_cases h4' : k' = 4
                        · subst h4'
                          have HWE : Hid (W = -1) := Lib.hid (by rw [← HW6.out, if_pos rfl])
                          go_wp2_with (fail)
                          go_ret
                          exact ⟨by rw [HWE.out]; rfl, HB3.out⟩
                        · have HW7 := Lib.hid ((if_neg h4').symm.trans HW6.out)
                          by_cases hk : k = k'
                          · subst hk
                            by_cases hn : n = n'
                            · subst hn
                              have HWE : Hid (W = 0) := Lib.hid (by rw [← HW7.out, if_pos ⟨rfl, rfl⟩])
                              go_wp2_with (fail)
                              go_ret
                              exact ⟨by rw [HWE.out]; rfl, HB3.out⟩
                            · have HWE : Hid (W = 2) := Lib.hid (by rw [← HW7.out, if_neg (fun h => hn h.2)])
                              go_wp2_with (fail)
                              go_ret
                              exact ⟨by rw [HWE.out]; rfl, HB3.out⟩
                          · have HWE : Hid (W = 2) := Lib.hid (by rw [← HW7.out, if_neg (fun h => hk h.1)])
                            go_wp2_with (fail)
                            go_ret
                            exact ⟨by rw [HWE.out]; rfl, HB3.out⟩

end Go.Proofs.YtdglmnmalfpipaaGreatDoor.tree

