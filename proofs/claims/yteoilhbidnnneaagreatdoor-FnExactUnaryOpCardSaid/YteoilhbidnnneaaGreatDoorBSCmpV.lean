/-
  CompareValues and LooseEqual of the model.
  Conditions: the values hold at most 10^9 items and letters.
-/
import Derived.Test.YteoilhbidnnneaaGreatDoorBSCmpS
namespace Go.Proofs.YteoilhbidnnneaaGreatDoor.tree
open Go.ChangeShapes Go.WideShapes Go.ChangeAt Go.RowKit ers
set_option linter.unusedVariables false

def CutV9 (w : World) (b : Bool) (N : Nat) (C C' : Array Value) (v : Value) (wx : World) : Prop :=
  v = .bool b ∧ Below w.heap.size w wx ∧ wx.heap[N]? = some (.cells C IV (0, 0)) ∧ wx.heap[N + 1]? = some (.cells C' IV (0, 0))
theorem chain9 (k n : Int) (s : ByteArray) (x : Int) (ks : List Ky) (vs : List Tr) (k' n' : Int) (s' : ByteArray) (x' : Int) (ks' : List Ky) (vs' : List Tr) (y p1 p2 m1 m2 WA : Int) (o1 o2 : Bool)
    (hy : bys (tt (.mk k n s x ks vs)).1 (tt (.mk k' n' s' x' ks' vs')).1 = y) (h1 : tr01 (.mk k n s x ks vs) = p1) (h2 : tr01 (.mk k' n' s' x' ks' vs') = p2) (h3 : nn (.mk k n s x ks vs) = (m1, o1)) (h4 : nn (.mk k' n' s' x' ks' vs') = (m2, o2))
    (h5 : (if Lib.compareInt vs.length vs'.length = 0 then cmpL ks vs ks' vs' else Lib.compareInt vs.length vs'.length) = WA) : cmpT (.mk k n s x ks vs) (.mk k' n' s' x' ks' vs') = (if (k = 0 ∧ k' = 3) ∨ (k' = 0 ∧ k = 3) then y else if (k = 0 ∨ k = 1) ∨ (k' = 0 ∨ k' = 1) then Lib.compareInt p1 p2 else if o1 = true ∧ o2 = true then Lib.compareInt m1 m2 else if (k = 2 ∨ k = 3) ∧ (k' = 2 ∨ k' = 3) then y else if k = 4 ∧ k' = 4 then WA else if k = 4 then 1 else if k' = 4 then -1 else if k = k' ∧ n = n' then 0 else 2) := by
  by_cases h : k = 4 ∧ k' = 4
  · obtain ⟨rfl, rfl⟩ := h
    have ho : o1 = false := by
      rw [nn_mk] at h3
      simp at h3
      exact h3.2
    subst ho
    have hO : ordO (.mk 4 n s x ks vs) (.mk 4 n' s' x' ks' vs') = Lib.compareInt vs.length vs'.length := by
      rw [ordO_mk, h3]
      rw [if_neg (by omega), if_neg (by omega), if_neg (by simp), if_neg (by omega), if_pos ⟨rfl, rfl⟩]
    have hC : (if ((4 : Int) = 0 ∧ (4 : Int) = 3) ∨ ((4 : Int) = 0 ∧ (4 : Int) = 3) then y else if ((4 : Int) = 0 ∨ (4 : Int) = 1) ∨ ((4 : Int) = 0 ∨ (4 : Int) = 1) then Lib.compareInt p1 p2 else if false = true ∧ o2 = true then Lib.compareInt m1 m2 else if ((4 : Int) = 2 ∨ (4 : Int) = 3) ∧ ((4 : Int) = 2 ∨ (4 : Int) = 3) then y else if (4 : Int) = 4 ∧ (4 : Int) = 4 then WA else if (4 : Int) = 4 then 1 else if (4 : Int) = 4 then -1 else if (4 : Int) = (4 : Int) ∧ n = n' then 0 else 2) = WA := by
      rw [if_neg (by omega), if_neg (by omega), if_neg (by simp), if_neg (by omega), if_pos ⟨rfl, rfl⟩]
    rw [cmpT_mk, hO]
    refine Eq.trans ?_ hC.symm
    rw [← h5]
    by_cases hz : Lib.compareInt vs.length vs'.length = 0
    · rw [if_pos ⟨hz, rfl, rfl⟩, if_pos hz]
    · rw [if_neg (fun h => hz h.1), if_neg hz]
  · rw [cmpT_mk, if_neg (fun hh => h hh.2), ordO_mk, hy, h1, h2, h3, h4]
    simp only [if_neg h]

set_option maxHeartbeats 4000000 in
set_option maxRecDepth 100000 in
theorem compare_t : ∀ t, CmS t := Tr.ind fun k n s x ks vs ih t' w S S' v v' h h' hT hT' => by
  obtain ⟨k', n', s', x', ks', vs'⟩ := t'
  obtain ⟨A, c, rfl, -, hin⟩ := h.out
  obtain ⟨A', c', rfl, -, hin'⟩ := h'.out
  have TN := fun w' (hb : Below w.heap.size w w') => toNumber_s _ _ w' S (h.below' hb) hT
  have TN' := fun w' (hb : Below w.heap.size w w') => toNumber_s _ _ w' S' (h'.below' hb) hT'
  have TX := fun w' (hb : Below w.heap.size w w') => toText_s _ _ w' S (h.below' hb) hT
  have TX' := fun w' (hb : Below w.heap.size w w') => toText_s _ _ w' S' (h'.below' hb) hT'
  have BI := fun w' (hb : Below w.heap.size w w') => l9Bit _ _ w' S (h.below' hb)
  have BI' := fun w' (hb : Below w.heap.size w w') => l9Bit _ _ w' S' (h'.below' hb)
  have AA : k = 4 → k' = 4 → ∀ w' (hb : Below w.heap.size w w'), Calls Tryz.prog 89 #[vV 4 n s x A vs.length c, vV 4 n' s' x' A' vs'.length c'] w' (GivesQ w' (.int .i64 (if Lib.compareInt vs.length vs'.length = 0 then cmpL ks vs ks' vs' else Lib.compareInt vs.length vs'.length))) := fun h1 h2 w' hb => by
    subst h1 h2
    rw [tot_mk] at hT hT'
    exact l9Arrays ks vs ih n s x A c n' s' x' ks' vs' A' c' w' S S' (h.below' hb) (h'.below' hb) (by omega) (by omega)
  unfold nnV at TN TN'
  unfold ttV at TX TX'
  have hm : vs.length ≤ maxLen := hin.2.1
  have hm' : vs'.length ≤ maxLen := hin'.2.1
  obtain ⟨WA, HWA⟩ : ∃ z, Hid ((if Lib.compareInt vs.length vs'.length = 0 then cmpL ks vs ks' vs' else Lib.compareInt vs.length vs'.length) = z) := ⟨_, Lib.hid rfl⟩
  rw [HWA.out] at AA
  obtain ⟨⟨m1, o1⟩, HN⟩ : ∃ z, Hid (nn (.mk k n s x ks vs) = z) := ⟨_, Lib.hid rfl⟩
  obtain ⟨⟨m2, o2⟩, HN'⟩ : ∃ z, Hid (nn (.mk k' n' s' x' ks' vs') = z) := ⟨_, Lib.hid rfl⟩
  rw [HN.out] at TN
  rw [HN'.out] at TN'
  obtain ⟨p1, HP⟩ : ∃ z, Hid (tr01 (.mk k n s x ks vs) = z) := ⟨_, Lib.hid rfl⟩
  obtain ⟨p2, HP'⟩ : ∃ z, Hid (tr01 (.mk k' n' s' x' ks' vs') = z) := ⟨_, Lib.hid rfl⟩
  rw [HP.out] at BI
  rw [HP'.out] at BI'
  obtain ⟨y, HY⟩ : ∃ z, Hid (bys (tt (.mk k n s x ks vs)).1 (tt (.mk k' n' s' x' ks' vs')).1 = z) := ⟨_, Lib.hid rfl⟩
  have hch := chain9 k n s x ks vs k' n' s' x' ks' vs' y p1 p2 m1 m2 WA o1 o2 HY.out HP.out HP'.out HN.out HN'.out HWA.out
  have HY1 : Hid (k = 0 → k' = 3 → bys ⟨#[]⟩ s' = y) := Lib.hid (fun h1 h2 => by rw [← HY.out, tt_mk, tt_mk, if_pos h1, h2]; rfl)
  have HY2 : Hid (k = 3 → k' = 0 → bys s ⟨#[]⟩ = y) := Lib.hid (fun h1 h2 => by rw [← HY.out, tt_mk, tt_mk, h1, if_pos h2]; rfl)
  obtain ⟨z, HZ⟩ : ∃ z, Hid ((tt (.mk k n s x ks vs)).1 = z) := ⟨_, Lib.hid rfl⟩
  obtain ⟨z', HZ'⟩ : ∃ z, Hid ((tt (.mk k' n' s' x' ks' vs')).1 = z) := ⟨_, Lib.hid rfl⟩
  rw [HZ.out] at TX HY
  rw [HZ'.out] at TX' HY
  obtain ⟨f1, HF⟩ : ∃ z : Int, Hid ((if (tt (.mk k n s x ks vs)).2 then (0 : Int) else 1) = z) := ⟨_, Lib.hid rfl⟩
  obtain ⟨f2, HF'⟩ : ∃ z : Int, Hid ((if (tt (.mk k' n' s' x' ks' vs')).2 then (0 : Int) else 1) = z) := ⟨_, Lib.hid rfl⟩
  rw [HF.out] at TX
  rw [HF'.out] at TX'
  obtain ⟨g1, HG⟩ : ∃ z : Int, Hid ((if o1 = true then (0 : Int) else 2) = z) := ⟨_, Lib.hid rfl⟩
  obtain ⟨g2, HG'⟩ : ∃ z : Int, Hid ((if o2 = true then (0 : Int) else 2) = z) := ⟨_, Lib.hid rfl⟩
  replace TN : ∀ w', Below w.heap.size w w' → Calls Tryz.prog 48 #[vV k n s x A vs.length c] w' (GivesQ w' (.tuple #[.int .i64 m1, .int .i64 g1])) := fun w' hb => by rw [← HG.out]; exact TN w' hb
  replace TN' : ∀ w', Below w.heap.size w w' → Calls Tryz.prog 48 #[vV k' n' s' x' A' vs'.length c'] w' (GivesQ w' (.tuple #[.int .i64 m2, .int .i64 g2])) := fun w' hb => by rw [← HG'.out]; exact TN' w' hb
  obtain ⟨L, HL⟩ : ∃ L, Hid (vs.length = L) := ⟨_, Lib.hid rfl⟩
  obtain ⟨L', HL'⟩ : ∃ L, Hid (vs'.length = L) := ⟨_, Lib.hid rfl⟩
  rw [HL.out] at TN TX BI AA hm ⊢
  rw [HL'.out] at TN' TX' BI' AA hm' ⊢
  unfold maxLen at hm hm'
  obtain ⟨W, HWW⟩ : ∃ z, Hid (cmpT (.mk k n s x ks vs) (.mk k' n' s' x' ks' vs') = z) := ⟨_, Lib.hid rfl⟩
  have HW : Hid ((if (k = 0 ∧ k' = 3) ∨ (k' = 0 ∧ k = 3) then y else if (k = 0 ∨ k = 1) ∨ (k' = 0 ∨ k' = 1) then Lib.compareInt p1 p2 else if o1 = true ∧ o2 = true then Lib.compareInt m1 m2 else if (k = 2 ∨ k = 3) ∧ (k' = 2 ∨ k' = 3) then y else if k = 4 ∧ k' = 4 then WA else if k = 4 then 1 else if k' = 4 then -1 else if k = k' ∧ n = n' then 0 else 2) = W) := Lib.hid (hch.symm.trans HWW.out)
  rw [HWW.out]
  replace TN := Lib.hid TN
  replace TN' := Lib.hid TN'
  replace TX := Lib.hid TX
  replace TX' := Lib.hid TX'
  replace BI := Lib.hid BI
  replace BI' := Lib.hid BI'
  replace AA := Lib.hid AA
  have BY := Lib.hid (fun a b w' => l9Bytes a b w')
  have OR := Lib.hid (fun a b w' => l9Order a b w')
  clear h h' hin hin' hT hT' ih hch HWA HN HN' HP HP' HZ HZ' HF HF' HWW
  go_enter Tryz.func45, Tryz.ntmps45
  go_wp2_with (fail)
  refine (TN.out _ (b2 w _ _)).mono ?_
  rintro e w1 ⟨rfl, hb1⟩
  have EA := Lib.hid (carry hb1 (heap_alloc2_old w _ _))
  have EB := Lib.hid (carry hb1 (heap_alloc2_new w _ _))
  have HB1 := Lib.hid (bs (b2 w _ _) hb1)
  obtain ⟨rB, -⟩ := rowc EB.out
  clear hb1
  go_wp2_with (fail)
  refine (TN'.out _ HB1.out).mono ?_
  rintro e w2 ⟨rfl, hb2⟩
  have EA2 := Lib.hid (carry hb2 EA.out)
  have EB2 := Lib.hid (carry hb2 EB.out)
  have HB2 := Lib.hid (bs HB1.out hb2)
  clear hb2 rB EA EB
  obtain ⟨rA, -⟩ := rowc EA2.out
  obtain ⟨rB, -⟩ := rowc EB2.out
  go_upto_region 3 with fail
  go_cut [23] (fun v wx => CutV9 w2 ((decide (k = 0) && decide (k' = 3))) w.heap.size #[.int .i64 k, .int .i64 n, .string s, .int .i64 x, .slice A L c] #[.int .i64 k', .int .i64 n', .string s', .int .i64 x', .slice A' L' c'] v wx)
  case first =>
    by_cases hq : k = 0
    · subst hq
      go_wp2_with (fail)
      go_meet
      exact ⟨rfl, Below.refl _ _, EA2.out, EB2.out⟩
    · go_wp2_with (fail)
      go_meet
      exact ⟨by rw [decide_eq_false hq]; rfl, Below.refl _ _, EA2.out, EB2.out⟩
  case rest =>
    obtain ⟨rfl, hbc, hx0, hx1⟩ := hcut
    have HBn := Lib.hid (bs HB2.out hbc)
    clear hbc rA rB EA2 EB2 HB2
    have HB2 := Lib.hid HBn.out
    have EA2 := Lib.hid hx0
    have EB2 := Lib.hid hx1
    clear HBn hx0 hx1
    obtain ⟨rA, -⟩ := rowc EA2.out
    obtain ⟨rB, -⟩ := rowc EB2.out
    cases hq : ((decide (k = 0) && decide (k' = 3)))
    case true =>
      have hq2 : k = 0 ∧ k' = 3 := by simpa using hq
      obtain ⟨rfl, rfl⟩ := hq2
      have HWE : Hid (W = y) := Lib.hid (by rw [← HW.out, if_pos (.inl ⟨rfl, rfl⟩)])
      have BY9 := BY.out ⟨#[]⟩ s'
      rw [HY1.out rfl rfl] at BY9
      go_wp2_with (fail)
      refine (BY9 _).mono ?_
      rintro e w4 ⟨rfl, hb4⟩
      have HB4 := Lib.hid (bs HB2.out hb4)
      clear hb4
      go_wp2_with (fail)
      go_ret
      exact ⟨by rw [HWE.out]; rfl, HB4.out⟩
    case false =>
      have NA := Lib.hid (show ¬ (k = 0 ∧ k' = 3) by simpa using hq)
      clear hq
      go_upto_region 5 with fail
      go_cut [35] (fun v wx => CutV9 wc ((decide (k = 3) && decide (k' = 0))) w.heap.size #[.int .i64 k, .int .i64 n, .string s, .int .i64 x, .slice A L c] #[.int .i64 k', .int .i64 n', .string s', .int .i64 x', .slice A' L' c'] v wx)
      case first =>
        by_cases hq : k = 3
        · subst hq
          go_wp2_with (fail)
          go_meet
          exact ⟨rfl, Below.refl _ _, EA2.out, EB2.out⟩
        · go_wp2_with (fail)
          go_meet
          exact ⟨by rw [decide_eq_false hq]; rfl, Below.refl _ _, EA2.out, EB2.out⟩
      case rest =>
        obtain ⟨rfl, hbc, hx0, hx1⟩ := hcut
        have HBn := Lib.hid (bs HB2.out hbc)
        clear hbc rA rB EA2 EB2 HB2
        have HB2 := Lib.hid HBn.out
        have EA2 := Lib.hid hx0
        have EB2 := Lib.hid hx1
        clear HBn hx0 hx1
        obtain ⟨rA, -⟩ := rowc EA2.out
        obtain ⟨rB, -⟩ := rowc EB2.out
        cases hq : ((decide (k = 3) && decide (k' = 0)))
        case true =>
          have hq2 : k = 3 ∧ k' = 0 := by simpa using hq
          obtain ⟨rfl, rfl⟩ := hq2
          have HWE : Hid (W = y) := Lib.hid (by rw [← HW.out, if_pos (.inr ⟨rfl, rfl⟩)])
          have BY9 := BY.out s ⟨#[]⟩
          rw [HY2.out rfl rfl] at BY9
          go_wp2_with (fail)
          refine (BY9 _).mono ?_
          rintro e w4 ⟨rfl, hb4⟩
          have HB4 := Lib.hid (bs HB2.out hb4)
          clear hb4
          go_wp2_with (fail)
          go_ret
          exact ⟨by rw [HWE.out]; rfl, HB4.out⟩
        case false =>
          have NB := Lib.hid (show ¬ (k = 3 ∧ k' = 0) by simpa using hq)
          clear hq
          have HW1 := Lib.hid ((if_neg (by rintro (h | h); exact NA.out h; exact NB.out h.symm)).symm.trans HW.out)
          clear NA NB HY1 HY2
          go_upto_region 7 with fail
          go_cut [47] (fun v wx => CutV9 wc (((decide (0 ≤ k) && decide (k ≤ 1)) || (decide (0 ≤ k') && decide (k' ≤ 1)))) w.heap.size #[.int .i64 k, .int .i64 n, .string s, .int .i64 x, .slice A L c] #[.int .i64 k', .int .i64 n', .string s', .int .i64 x', .slice A' L' c'] v wx)
          case first =>
            cases hq : (decide (0 ≤ k) && decide (k ≤ 1))
            case false =>
              go_wp2_with (fail)
              refine (in_9 k 0 1 _ hq _).mono ?_
              rintro e w9 ⟨rfl, rfl⟩
              cases hq' : (decide (0 ≤ k') && decide (k' ≤ 1))
              all_goals
                go_wp2_with (fail)
                refine (in_9 k' 0 1 _ hq' _).mono ?_
                rintro e w9 ⟨rfl, rfl⟩
                go_wp2_with (fail)
                go_meet
                exact ⟨by rw [hq, hq']; rfl, Below.refl _ _, EA2.out, EB2.out⟩
            case true =>
              go_wp2_with (fail)
              refine (in_9 k 0 1 _ hq _).mono ?_
              rintro e w9 ⟨rfl, rfl⟩
              go_wp2_with (fail)
              go_meet
              exact ⟨by rw [hq]; rfl, Below.refl _ _, EA2.out, EB2.out⟩
          case rest =>
            obtain ⟨rfl, hbc, hx0, hx1⟩ := hcut
            have HBn := Lib.hid (bs HB2.out hbc)
            clear hbc rA rB EA2 EB2 HB2
            have HB2 := Lib.hid HBn.out
            have EA2 := Lib.hid hx0
            have EB2 := Lib.hid hx1
            clear HBn hx0 hx1
            obtain ⟨rA, -⟩ := rowc EA2.out
            obtain ⟨rB, -⟩ := rowc EB2.out
            cases hq : (((decide (0 ≤ k) && decide (k ≤ 1)) || (decide (0 ≤ k') && decide (k' ≤ 1))))
            case true =>
              have hq2 : (k = 0 ∨ k = 1) ∨ (k' = 0 ∨ k' = 1) := by simp at hq; omega
              have HWE : Hid (W = Lib.compareInt p1 p2) := Lib.hid (by rw [← HW1.out, if_pos hq2])
              clear hq hq2
              have HC : Hid (Below wc.heap.size wc wc) := Lib.hid (Below.refl _ _)
              go_upto_region 8 with fail
              go_region_with (first
                | (go_at_call_of 88 A
                   refine (BI.out _ (bs HB2.out (by first | exact HC.out | exact HC.out.drew))).mono ?_
                   rintro e wz ⟨rfl, hbz⟩
                   have HCX : Hid (Below wc.heap.size wc wz) := Lib.hid (by first | exact bs HC.out hbz | exact bs (HC.out.drew) hbz)
                   clear HC hbz rA rB
                   have HC := Lib.hid HCX.out
                   clear HCX
                   obtain ⟨rA, -⟩ := rowc (carry HC.out EA2.out)
                   obtain ⟨rB, -⟩ := rowc (carry HC.out EB2.out))
                | (go_at_call_of 88 A'
                   refine (BI'.out _ (bs HB2.out (by first | exact HC.out | exact HC.out.drew))).mono ?_
                   rintro e wz ⟨rfl, hbz⟩
                   have HCX : Hid (Below wc.heap.size wc wz) := Lib.hid (by first | exact bs HC.out hbz | exact bs (HC.out.drew) hbz)
                   clear HC hbz rA rB
                   have HC := Lib.hid HCX.out
                   clear HCX
                   obtain ⟨rA, -⟩ := rowc (carry HC.out EA2.out)
                   obtain ⟨rB, -⟩ := rowc (carry HC.out EB2.out))
                | (go_at_call 87
                   refine (OR.out p1 p2 _).mono ?_
                   rintro e wz ⟨rfl, hbz⟩
                   have HCX : Hid (Below wc.heap.size wc wz) := Lib.hid (bs HC.out hbz)
                   clear HC hbz
                   have HC := Lib.hid HCX.out
                   clear HCX))
              all_goals
                go_wp2_with (fail)
                go_ret
                exact ⟨by rw [HWE.out]; rfl, bs HB2.out HC.out⟩
            case false =>
              have hn2 : ¬ ((k = 0 ∨ k = 1) ∨ (k' = 0 ∨ k' = 1)) := fun h => by simp at hq; omega
              have HW2 := Lib.hid ((if_neg hn2).symm.trans HW1.out)
              clear hq hn2 HW1
              go_upto_region 9 with fail
              go_cut [61] (fun v wx => CutV9 wc ((o1 && o2)) w.heap.size #[.int .i64 k, .int .i64 n, .string s, .int .i64 x, .slice A L c] #[.int .i64 k', .int .i64 n', .string s', .int .i64 x', .slice A' L' c'] v wx)
              case first =>
                have f1 := HG.out
                have f2 := HG'.out
                clear HG HG'
                cases o1 <;> cases o2
                all_goals
                  simp only [if_true, if_false, Bool.false_eq_true] at f1 f2
                  subst f1 f2
                  go_wp2_with (fail)
                  go_meet
                  exact ⟨rfl, Below.refl _ _, EA2.out, EB2.out⟩
              case rest =>
                obtain ⟨rfl, hbc, hx0, hx1⟩ := hcut
                have HBn := Lib.hid (bs HB2.out hbc)
                clear hbc rA rB EA2 EB2 HB2
                have HB2 := Lib.hid HBn.out
                have EA2 := Lib.hid hx0
                have EB2 := Lib.hid hx1
                clear HBn hx0 hx1
                obtain ⟨rA, -⟩ := rowc EA2.out
                obtain ⟨rB, -⟩ := rowc EB2.out
                cases hq : ((o1 && o2))
                case true =>
                  have HWE : Hid (W = Lib.compareInt m1 m2) := Lib.hid (by rw [← HW2.out, if_pos (by simpa using hq)])
                  go_wp2_with (fail)
                  refine (OR.out m1 m2 _).mono ?_
                  rintro e w4 ⟨rfl, hb4⟩
                  have HB4 := Lib.hid (bs HB2.out hb4)
                  clear hb4
                  go_wp2_with (fail)
                  go_ret
                  exact ⟨by rw [HWE.out]; rfl, HB4.out⟩
                case false =>
                  have HW3 := Lib.hid ((if_neg (by simpa using hq)).symm.trans HW2.out)
                  clear hq HW2
                  go_upto_region 11 with fail
                  go_cut [71] (fun v wx => CutV9 wc (((decide (2 ≤ k) && decide (k ≤ 3)) && (decide (2 ≤ k') && decide (k' ≤ 3)))) w.heap.size #[.int .i64 k, .int .i64 n, .string s, .int .i64 x, .slice A L c] #[.int .i64 k', .int .i64 n', .string s', .int .i64 x', .slice A' L' c'] v wx)
                  case first =>
                    cases hq : (decide (2 ≤ k) && decide (k ≤ 3))
                    case false =>
                      go_wp2_with (fail)
                      refine (in_9 k 2 3 _ hq _).mono ?_
                      rintro e w9 ⟨rfl, rfl⟩
                      go_wp2_with (fail)
                      go_meet
                      exact ⟨by rw [hq]; rfl, Below.refl _ _, EA2.out, EB2.out⟩
                    case true =>
                      go_wp2_with (fail)
                      refine (in_9 k 2 3 _ hq _).mono ?_
                      rintro e w9 ⟨rfl, rfl⟩
                      cases hq' : (decide (2 ≤ k') && decide (k' ≤ 3))
                      all_goals
                        go_wp2_with (fail)
                        refine (in_9 k' 2 3 _ hq' _).mono ?_
                        rintro e w9 ⟨rfl, rfl⟩
                        go_wp2_with (fail)
                        go_meet
                        exact ⟨by rw [hq, hq']; rfl, Below.refl _ _, EA2.out, EB2.out⟩
                  case rest =>
                    obtain ⟨rfl, hbc, hx0, hx1⟩ := hcut
                    have HBn := Lib.hid (bs HB2.out hbc)
                    clear hbc rA rB EA2 EB2 HB2
                    have HB2 := Lib.hid HBn.out
                    have EA2 := Lib.hid hx0
                    have EB2 := Lib.hid hx1
                    clear HBn hx0 hx1
                    obtain ⟨rA, -⟩ := rowc EA2.out
                    obtain ⟨rB, -⟩ := rowc EB2.out
                    cases hq : (((decide (2 ≤ k) && decide (k ≤ 3)) && (decide (2 ≤ k') && decide (k' ≤ 3))))
                    case true =>
                      have hq2 : (k = 2 ∨ k = 3) ∧ (k' = 2 ∨ k' = 3) := by simp at hq; omega
                      have HWE : Hid (W = bys z z') := Lib.hid (by rw [← HW3.out, if_pos hq2]; exact HY.out.symm)
                      clear hq hq2
                      go_wp2_with (fail)
                      refine (TX.out _ HB2.out).mono ?_
                      rintro e w4 ⟨rfl, hb4⟩
                      have HB4 := Lib.hid (bs HB2.out hb4)
                      have EB4 := Lib.hid (carry hb4 EB2.out)
                      clear hb4 rA rB
                      obtain ⟨rB, -⟩ := rowc EB4.out
                      go_wp2_with (fail)
                      refine (TX'.out _ HB4.out).mono ?_
                      rintro e w5 ⟨rfl, hb5⟩
                      have HB5 := Lib.hid (bs HB4.out hb5)
                      clear hb5 rB
                      go_wp2_with (fail)
                      refine (BY.out z z' _).mono ?_
                      rintro e w6 ⟨rfl, hb6⟩
                      have HB6 := Lib.hid (bs HB5.out hb6)
                      clear hb6
                      go_wp2_with (fail)
                      go_ret
                      exact ⟨by rw [HWE.out]; rfl, HB6.out⟩
                    case false =>
                      have hn2 : ¬ ((k = 2 ∨ k = 3) ∧ (k' = 2 ∨ k' = 3)) := fun h => by simp at hq; omega
                      have HW4 := Lib.hid ((if_neg hn2).symm.trans HW3.out)
                      clear hq hn2 HW3 TN TN' TX TX' BI BI' BY OR HG HG' HY
                      by_cases h4 : k = 4
                      · subst h4
                        by_cases h4' : k' = 4
                        · subst h4'
                          have HWE : Hid (W = WA) := Lib.hid (by rw [← HW4.out, if_pos ⟨rfl, rfl⟩])
                          go_wp2_with (fail)
                          refine (AA.out (by trivial) (by trivial) _ HB2.out).mono ?_
                          rintro e w4 ⟨rfl, hb4⟩
                          have HB4 := Lib.hid (bs HB2.out hb4)
                          clear hb4
                          go_wp2_with (fail)
                          go_ret
                          exact ⟨by rw [HWE.out]; rfl, HB4.out⟩
                        · have HWE : Hid (W = 1) := Lib.hid (by rw [← HW4.out, if_neg (fun h => h4' h.2), if_pos rfl])
                          go_wp2_with (fail)
                          go_ret
                          exact ⟨by rw [HWE.out]; rfl, HB2.out⟩
                      · by_cases h4' : k' = 4
                        · subst h4'
                          have HWE : Hid (W = -1) := Lib.hid (by rw [← HW4.out, if_neg (fun h => h4 h.1), if_neg h4, if_pos rfl])
                          go_wp2_with (fail)
                          go_ret
                          exact ⟨by rw [HWE.out]; rfl, HB2.out⟩
                        · by_cases hk : k = k'
                          · subst hk
                            by_cases hn : n = n'
                            · subst hn
                              have HWE : Hid (W = 0) := Lib.hid (by rw [← HW4.out, if_neg (fun h => h4 h.1), if_neg h4, if_neg h4, if_pos ⟨rfl, rfl⟩])
                              go_wp2_with (fail)
                              go_ret
                              exact ⟨by rw [HWE.out]; rfl, HB2.out⟩
                            · have HWE : Hid (W = 2) := Lib.hid (by rw [← HW4.out, if_neg (fun h => h4 h.1), if_neg h4, if_neg h4, if_neg (fun h => hn h.2)])
                              go_wp2_with (fail)
                              go_ret
                              exact ⟨by rw [HWE.out]; rfl, HB2.out⟩
                          · have HWE : Hid (W = 2) := Lib.hid (by rw [← HW4.out, if_neg (fun h => h4 h.1), if_neg h4, if_neg h4', if_neg (fun h => hk h.1)])
                            go_wp2_with (fail)
                            go_ret
                            exact ⟨by rw [HWE.out]; rfl, HB2.out⟩

theorem compare_s (t t' : Tr) (hT : tot t ≤ 1000000000) (hT' : tot t' ≤ 1000000000) (w : World) (S S' : Nat → Prop) (v v' : Value) (h : TIn w S t v) (h' : TIn w S' t' v') : Calls Tryz.prog 45 #[v, v'] w (GivesQ w (.int .i64 (cmpT t t'))) := compare_t t t' w S S' v v' h h' hT hT'

end Go.Proofs.YteoilhbidnnneaaGreatDoor.tree

