/-
  SortValues of the model.
  Conditions: at most 2^20 and two values of at most 10^9 letters each.
-/
import Derived.Test.YtlbkbcafkjgckaaGreatDoorCzB7
import Derived.Test.YtlbkbcafkjgckaaGreatDoorCzSCmpV
import Derived.Deep.RegionWith
import Derived.Deep.RegionHeld3
import Derived.Deep.RegionLaw
import Derived.Maps.AppendAt
namespace Go.Proofs.YtlbkbcafkjgckaaGreatDoor.tree
open Go.ChangeShapes Go.WideShapes Go.ChangeAt Go.RowKit
set_option linter.unusedVariables false

def CutB9 (w : World) (b : Bool) (v : Value) (wx : World) : Prop := v = .bool b ∧ Below w.heap.size w wx
/-- append to a row of the call's own, as one step of a region that draws. -/
theorem step_append_own {P : Program} {ops : Array Oper} {o : Oper} {a : Act} {w : World} {K : Act → World → Prop} {Q : Exit → Act → World → Prop} {E : Prop}
    (hg : o.guard = none) (s x : Operand) (t : TypeId) (hop : o.op = Op.call { callee := Callee.builtin Builtin.append, args := #[s, x], argTypes := #[t, t] })
    (base : Nat) (e : TypeId) (i : TypeInfo) (z : Value) (size bytes : Nat) (ht : P.underlying t = some (.slice e)) (hi : P.info? e = some i) (hz : i.zero = some z)
    (hsize : i.size = size) (hby : i.bytes = bytes) (hzs : z.cells.size = size) (hsz : 0 < size)
    (v : Value) (n : Nat) (xs : List Value) (hown : w.ownsRow base e size v n xs)
    (ad : Addr) (m c : Nat) (news : List Value) (hs : a.eval s = v) (hx : a.eval x = .slice (some ad) m c) (hl : news.length = m * size) (hnews : ∀ j u, news[j]? = some u → w.cell? (ad.add j) = some u) (h1 : ∀ u ∈ news, u.oneCell' = true)
    (h63 : n + m ≤ maxLen) (hbytes : (n + m) * bytes ≤ 140737488355328) (hbase : base ≤ w.heap.size)
    (hK : ∀ v' w', w'.ownsRow base e size v' (n + m) (xs ++ news) → w.grownBy w' v.ownBlock → (v' = .slice none 0 0 ↔ v = .slice none 0 0 ∧ m = 0) → (v'.ownBlock = v.ownBlock ∨ v'.ownBlock = some w.heap.size) → K (a.put o.dst v') w') :
    if Region.wanted o (yielded ops a.tmps) = true then Oper.wp P o a w K Q else E := by
  have hw : Region.wanted o (yielded ops a.tmps) = true := by simp [Region.wanted, hg]
  rw [if_pos hw]
  obtain ⟨v', w', hr, h2, h3, h4, h5⟩ := run_append_own_at (P := P) w base t o.type e i z size bytes ht hi hz hsize hby hzs hsz v n xs hown ad m c news hl hnews h1 h63 hbytes hbase
  unfold Oper.wp
  simp [execOp, hop, resolve, invoke, builtin, hs, hx, hr, Result.andThen]
  exact hK v' w' h2 h3 h4 h5
theorem five_in {w : World} {b : Nat} {c0 c1 c2 c3 c4 : Value} {t : TypeId} (h : w.heap[b]? = some (.cells #[c0, c1, c2, c3, c4] t (0, 0))) : ∀ j u, [c0, c1, c2, c3, c4][j]? = some u → w.cell? ((⟨b, 0, none⟩ : Addr).add j) = some u := by
  intro j u hj
  rw [Addr.add_lit, Nat.zero_add, cell_of_row _ _ j _ t _ h]
  simpa using hj
theorem own_any {w : World} {b base : Nat} (h : w.heap[b]? = some (.cells #[] IV (0, 0))) (hb : base ≤ b) : w.ownsRow base IV 5 (.slice (some ⟨b, 0, none⟩) 0 0) 0 [] :=
  ⟨rfl, .inr ⟨b, 0, #[], rfl, hb, h, Nat.le_refl _, Nat.zero_le _, rfl, rfl⟩⟩

set_option maxRecDepth 100000 in
set_option maxHeartbeats 4000000 in
theorem sortValues_s (vs : List Tr) (A : Option Addr) (c : Nat) (w : World) (S : Nat → Prop) (h : VIn w S vs A) (hm : vs.length ≤ 1048578) (hT : ∀ t ∈ vs, tot t ≤ 1000000000) (hN : ∀ t ∈ vs, cnt t ≤ 1000000000) :
    Calls Tryz.prog 5 #[.slice A vs.length c] w (VaQ w (isort vs)) := by
  have CV : Hid (∀ w' t t' v v', t ∈ vs → t' ∈ vs → TIn w' S t v → TIn w' S t' v' → Calls Tryz.prog 12 #[v, v'] w' (GivesQ w' (.int .i64 (cmpT t t')))) := Lib.hid (fun w' t t' v v' ht ht' h h' => compare_s t t' (hT t ht) (hT t' ht') w' _ _ v v' h h')
  have L5 : Hid (∀ w' S' A' c', VIn w' S' (isort vs) A' → Calls Tryz.prog 13 #[.slice A' (isort vs).length c'] w' (VaQ w' (isort vs))) := Lib.hid (fun w' S' A' c' h => l5All_s (isort vs) A' c' w' S' h (by rw [isort_len]; exact hm) (fun t ht => hN t ((isort_perm vs).mem_iff.1 ht)))
  obtain ⟨L, HL⟩ : ∃ L, Hid (vs.length = L) := ⟨_, Lib.hid rfl⟩
  rw [isort_len] at L5
  rw [HL.out] at hm L5 ⊢
  obtain ⟨i0, hi, hz⟩ := iv_info
  have HII := Lib.hid hi
  have HZZ := Lib.hid hz
  have HV := Lib.hid h
  clear h hT hN hi hz
  go_enter Tryz.func5, Tryz.ntmps5
  go_wp2_with (fail)
  obtain ⟨N, HN⟩ : ∃ N, Hid (w.heap.size = N) := ⟨_, Lib.hid rfl⟩
  rw [HN.out]
  go_loopg [3, 4] (L + 1) (fun gk r i wr => ∃ (j g C : Nat) (xs : List Value), r = .slice (some ⟨g, 0, none⟩) j C ∧ i = .int .i64 j ∧ gk + j = L + 1 ∧ j ≤ L ∧ Hid (wr.ownsRow N IV 5 (.slice (some ⟨g, 0, none⟩) j C) j xs) ∧ Hid (XV wr S (isort (vs.take j)) xs) ∧ Hid (Below N w wr))
  case atStart => exact ⟨0, N, 0, [], rfl, rfl, by omega, by omega, Lib.hid (by rw [← HN.out]; exact (World.ownsRow_made (base := w.heap.size) (e := IV) (size := 5) w #[] 0 (by simp) (Nat.zero_le _) rfl)), Lib.hid (XV.nil _ _), Lib.hid (HN.out ▸ b1 w _)⟩
  case round =>
    obtain ⟨j, g, C, xs, rfl, rfl, hgj, hjL, HO, HX, HB⟩ := hrel
    have HOO : Hid (∃ cur : Array Value, N ≤ g ∧ wr.heap[g]? = some (.cells cur IV (0, 0)) ∧ j ≤ C ∧ C ≤ maxLen ∧ cur.toList.take (j * 5) = xs) := Lib.hid (by
      rcases HO.out.2 with ⟨e, -⟩ | ⟨g2, cap, cur, e, hlo, hg, hnc, hcm, hsz, htk⟩
      · cases e
      · simp only [Value.slice.injEq, Option.some.injEq, Addr.mk.injEq, and_true, true_and] at e
        obtain ⟨rfl, rfl⟩ := e
        exact ⟨cur, hlo, hg, hnc, hcm, htk⟩)
    obtain ⟨cur, hNg, hgc, hjC, hCm, htk⟩ := HOO.out
    have HG := Lib.hid hgc
    have HTK := Lib.hid htk
    clear HOO hgc htk
    by_cases hlt : j < L
    · obtain ⟨t, ht⟩ : ∃ t, vs[j]? = some t := ⟨_, List.getElem?_eq_getElem (by rw [HL.out]; exact hlt)⟩
      obtain ⟨a, k, n, s, x, ks', vs', A1, c1, rfl, -, rfl, hT, hcell⟩ := (HV.out.below (HN.out ▸ HB.out)) j t ht
      have HIS := Lib.hid (isort_take vs ht)
      obtain ⟨sv, HSV⟩ : ∃ sv, Hid (isort (vs.take j) = sv) := ⟨_, Lib.hid rfl⟩
      rw [HSV.out] at HX HIS
      have HSL : Hid (sv.length = j) := Lib.hid (by rw [← HSV.out, isort_len, List.length_take, HL.out]; omega)
      have HSM : Hid (∀ u ∈ sv, u ∈ vs) := Lib.hid (fun u hu => List.mem_of_mem_take ((isort_perm (vs.take j)).mem_iff.1 (HSV.out ▸ hu)))
      have HTM := Lib.hid (List.mem_of_getElem? ht)
      obtain ⟨t, HTT⟩ : ∃ t, Hid (Tr.mk k n s x ks' vs' = t) := ⟨_, Lib.hid rfl⟩
      obtain ⟨L1, HL1⟩ : ∃ L1, Hid (vs'.length = L1) := ⟨_, Lib.hid rfl⟩
      rw [HTT.out] at hT HIS HTM
      rw [HL1.out] at hcell hT
      have HT := Lib.hid hT
      have HCE := Lib.hid hcell
      obtain ⟨q, HQ⟩ : ∃ q, Hid (insP sv t sv.length = q) := ⟨_, Lib.hid rfl⟩
      clear hT ht hcell
      go_wp2_with (fail)
      obtain ⟨P1, HP1⟩ : ∃ P, Hid (wr.heap.size = P) := ⟨_, Lib.hid rfl⟩
      obtain ⟨W0, HW0⟩ : ∃ W, Hid (wr = W) := ⟨_, Lib.hid rfl⟩
      have HWP : Hid (W0.heap.size = P1) := Lib.hid (by rw [← HW0.out]; exact HP1.out)
      have hgP : g < P1 := by rw [← HP1.out]; exact (Array.getElem?_eq_some_iff.1 HG.out).1
      go_loopg [5] (j + 1) (fun gk2 p wr2 => ∃ pp : Nat, p = .int .i64 pp ∧ gk2 = pp + 1 ∧ pp ≤ j ∧ Hid (insP sv t pp = q) ∧ Hid (Below P1 W0 wr2))
      case atStart => exact ⟨j, rfl, rfl, Nat.le_refl _, Lib.hid (HSL.out ▸ HQ.out), Lib.hid (by rw [← HW0.out, ← HP1.out]; exact Below.refl _ _)⟩
      case round =>
        obtain ⟨pp, rfl, hgp, hpj, HI, HB2⟩ := hrel
        have hNP : N ≤ P1 := by omega
        have HBW : Hid (∀ w', Below wr.heap.size wr w' → Below P1 W0 w') := Lib.hid (fun w' hb => HB2.out.trans (hb.mono (by rw [← HP1.out, HW0.out]; exact HB2.out.size)))
        have HBN : Hid (∀ w', Below P1 W0 w' → Below N w w') := Lib.hid (fun w' hb => (HW0.out ▸ HB.out).trans (hb.mono hNP))
        have HG2 : Hid (∀ w', Below P1 W0 w' → w'.heap[g]? = some (.cells cur IV (0, 0))) := Lib.hid (fun w' hb => (hb.block g hgP).trans (HW0.out ▸ HG.out))
        have HX2 : Hid (∀ w', Below P1 W0 w' → XV w' S sv xs) := Lib.hid (fun w' hb => (HW0.out ▸ HX.out).below (by rw [← HP1.out, HW0.out] at hb; exact hb))
        have HT2 : Hid (∀ w', Below P1 W0 w' → TIn w' S t (vV k n s x A1 L1 c1)) := Lib.hid (fun w' hb => (HW0.out ▸ HT.out).below' (by rw [← HP1.out, HW0.out] at hb; exact hb))
        have HC2 : Hid (∀ w', Below P1 W0 w' → At5 w' (a.add (j * 5)) k n s x A1 L1 c1) := Lib.hid (fun w' hb => (HW0.out ▸ HCE.out).below (by rw [← HP1.out, HW0.out] at hb; exact hb))
        obtain ⟨b, HBV⟩ : ∃ b : Bool, Hid (b = (decide (pp ≠ 0) && (match sv[pp - 1]? with | some u => decide (cmpT u t = 1) | none => false))) := ⟨_, Lib.hid rfl⟩
        go_upto_region 6 with fail
        go_cut [29] (fun v wx => CutB9 wr b v wx)
        case first =>
          rcases Nat.eq_zero_or_pos pp with hp0 | hp0
          · subst hp0
            have hb0 : b = false := by rw [HBV.out]; rfl
            subst hb0
            go_quiet ((fail))
            all_goals
              go_wp2_with (fail)
              go_meet
              exact ⟨rfl, ⟨rfl, rfl, rfl, Nat.le_refl _, fun _ _ => rfl⟩⟩
          · obtain ⟨m, HM⟩ : ∃ m, Hid (pp = m + 1) := ⟨pp - 1, Lib.hid (by omega)⟩
            have i1 : m < j := by have := HM.out; omega
            have i2 : (pp : Int) - 1 = (m : Int) := by have := HM.out; omega
            have i3 : IntKind.i64.wrap (m : Int) = (m : Int) := by rw [IntKind.wrap_i64]; omega
            obtain ⟨u, hu⟩ : ∃ u, sv[m]? = some u := ⟨_, List.getElem?_eq_getElem (by rw [HSL.out]; omega)⟩
            obtain ⟨uk, un, us, ux, uks, uvs, uA, uc, rfl, hut, huc⟩ := (HX2.out _ HB2.out).at_ hu
            obtain ⟨LU, HLU⟩ : ∃ LU, Hid (uvs.length = LU) := ⟨_, Lib.hid rfl⟩
            have HUM := Lib.hid (HSM.out _ (List.mem_of_getElem? hu))
            obtain ⟨z, HZ⟩ : ∃ z, Hid (cmpT (.mk uk un us ux uks uvs) t = z) := ⟨_, Lib.hid rfl⟩
            have hbz : b = decide (z = 1) := by rw [HBV.out, decide_eq_true (show pp ≠ 0 by omega), Bool.true_and, show pp - 1 = m by have := HM.out; omega, hu, ← HZ.out]
            have CVU : Hid (∀ w', Below wr.heap.size wr w' → Calls Tryz.prog 12 #[vV uk un us ux uA LU uc, vV k n s x A1 L1 c1] w' (GivesQ w' (.int .i64 z))) := Lib.hid (fun w' hb => by
              rw [← HZ.out, ← HLU.out]
              exact CV.out w' _ _ _ _ HUM.out HTM.out (hut.below' hb) (HT2.out _ (HBW.out _ hb)))
            rw [HLU.out] at huc
            have htk := HTK.out
            have uc_ : ∀ qq uu, qq < 5 → (#[.int .i64 uk, .int .i64 un, .string us, .int .i64 ux, .slice uA LU uc] : Array Value)[qq]? = some uu → wr.cell? ⟨g, m * 5 + qq, none⟩ = some uu := fun qq uu hqq he => by
              have h := (huc qq hqq).trans he
              rw [← htk, List.getElem?_take_of_lt (by omega), Array.getElem?_toList] at h
              exact ((rowc (HG2.out _ HB2.out)).1 _).trans h
            have u0 := uc_ 0 _ (by omega) rfl
            have u1 := uc_ 1 _ (by omega) rfl
            have u2 := uc_ 2 _ (by omega) rfl
            have u3 := uc_ 3 _ (by omega) rfl
            have u4 := uc_ 4 _ (by omega) rfl
            rw [Nat.add_zero] at u0
            obtain ⟨p0, p1, p2, p3, p4⟩ := HC2.out wr HB2.out
            have HBZ := Lib.hid hbz
            clear uc_ huc hut hu hbz htk
            by_cases hz1 : z = 1
            · subst hz1
              go_region_held3 (fun w' => w'.cell? ⟨g, m * 5, none⟩ = some (.int .i64 uk) ∧ w'.cell? ⟨g, m * 5 + 1, none⟩ = some (.int .i64 un) ∧ w'.cell? ⟨g, m * 5 + 2, none⟩ = some (.string us) ∧ w'.cell? ⟨g, m * 5 + 3, none⟩ = some (.int .i64 ux) ∧ w'.cell? ⟨g, m * 5 + 4, none⟩ = some (.slice uA LU uc) ∧ w'.cell? (a.add (j * 5)) = some (.int .i64 k) ∧ w'.cell? ⟨(a.add (j * 5)).block, (a.add (j * 5)).off + 1, none⟩ = some (.int .i64 n) ∧ w'.cell? ⟨(a.add (j * 5)).block, (a.add (j * 5)).off + 2, none⟩ = some (.string s) ∧ w'.cell? ⟨(a.add (j * 5)).block, (a.add (j * 5)).off + 3, none⟩ = some (.int .i64 x) ∧ w'.cell? ⟨(a.add (j * 5)).block, (a.add (j * 5)).off + 4, none⟩ = some (.slice A1 L1 c1)) (go_keep) ((go_at_call 12; refine (CVU.out _ ?_).mono ?_; exact ((Below.refl wr.heap.size wr).drew); rintro e w1 ⟨rfl, hb1⟩; have HB1 := Lib.hid (bs ((Below.refl wr.heap.size wr).drew) hb1); have kp : ∀ (p : Addr) (u : Value), wr.cell? p = some u → w1.cell? p = some u := fun p u h => cell_stays (fun hlt => HB1.out.block _ hlt) h; have u0 := kp _ _ u0; have u1 := kp _ _ u1; have u2 := kp _ _ u2; have u3 := kp _ _ u3; have u4 := kp _ _ u4; have p0 := kp _ _ p0; have p1 := kp _ _ p1; have p2 := kp _ _ p2; have p3 := kp _ _ p3; have p4 := kp _ _ p4; clear hb1 kp))
              all_goals
                go_wp2_with (fail)
                go_meet
                exact ⟨by rw [HBZ.out]; rfl, HB1.out⟩
            · have HBF : Hid (b = false) := Lib.hid (by rw [HBZ.out]; exact decide_eq_false hz1)
              go_region_held3 (fun w' => w'.cell? ⟨g, m * 5, none⟩ = some (.int .i64 uk) ∧ w'.cell? ⟨g, m * 5 + 1, none⟩ = some (.int .i64 un) ∧ w'.cell? ⟨g, m * 5 + 2, none⟩ = some (.string us) ∧ w'.cell? ⟨g, m * 5 + 3, none⟩ = some (.int .i64 ux) ∧ w'.cell? ⟨g, m * 5 + 4, none⟩ = some (.slice uA LU uc) ∧ w'.cell? (a.add (j * 5)) = some (.int .i64 k) ∧ w'.cell? ⟨(a.add (j * 5)).block, (a.add (j * 5)).off + 1, none⟩ = some (.int .i64 n) ∧ w'.cell? ⟨(a.add (j * 5)).block, (a.add (j * 5)).off + 2, none⟩ = some (.string s) ∧ w'.cell? ⟨(a.add (j * 5)).block, (a.add (j * 5)).off + 3, none⟩ = some (.int .i64 x) ∧ w'.cell? ⟨(a.add (j * 5)).block, (a.add (j * 5)).off + 4, none⟩ = some (.slice A1 L1 c1)) (go_keep) ((go_at_call 12; refine (CVU.out _ ?_).mono ?_; exact ((Below.refl wr.heap.size wr).drew); rintro e w1 ⟨rfl, hb1⟩; have HB1 := Lib.hid (bs ((Below.refl wr.heap.size wr).drew) hb1); have kp : ∀ (p : Addr) (u : Value), wr.cell? p = some u → w1.cell? p = some u := fun p u h => cell_stays (fun hlt => HB1.out.block _ hlt) h; have u0 := kp _ _ u0; have u1 := kp _ _ u1; have u2 := kp _ _ u2; have u3 := kp _ _ u3; have u4 := kp _ _ u4; have p0 := kp _ _ p0; have p1 := kp _ _ p1; have p2 := kp _ _ p2; have p3 := kp _ _ p3; have p4 := kp _ _ p4; clear hb1 kp))
              all_goals
                go_wp2_with (fail)
                go_meet
                exact ⟨by rw [HBF.out]; simp [hz1], HB1.out⟩
        case rest =>
          obtain ⟨rfl, hbc⟩ := hcut
          have HBC := Lib.hid (HBW.out _ hbc)
          clear hbc
          cases hb : b
          case true =>
            have hq : pp ≠ 0 ∧ insP sv t (pp - 1) = q := by
              have h := HBV.out
              rw [hb] at h
              have h0 : pp ≠ 0 := fun e => by rw [e] at h; simp at h
              refine ⟨h0, ?_⟩
              have hu : ∃ u, sv[pp - 1]? = some u ∧ cmpT u t = 1 := by
                cases hs : sv[pp - 1]? with
                | none => rw [hs] at h; simp at h
                | some u => rw [hs] at h; simp at h; exact ⟨u, rfl, h.2⟩
              obtain ⟨u, hu, hc⟩ := hu
              have := insP_step hu hc
              rw [show pp - 1 + 1 = pp by omega] at this
              rw [← this]
              exact HI.out
            have HQ2 := Lib.hid hq.2
            have hp0 := hq.1
            have i2 : (pp : Int) - 1 = ((pp - 1 : Nat) : Int) := by omega
            clear hq
            go_wp2_with (fail)
            go_roundg pp
            case rel => exact ⟨pp - 1, by go_num, by omega, by omega, HQ2, HBC⟩
            case measure => omega
          case false =>
            have HQ0 : Hid (q = pp) := Lib.hid (by
              rw [← HI.out]
              have h := HBV.out
              rw [hb] at h
              rcases Nat.eq_zero_or_pos pp with h0 | h0
              · rw [h0]; rfl
              · obtain ⟨u, hu⟩ : ∃ u, sv[pp - 1]? = some u := ⟨_, List.getElem?_eq_getElem (by rw [HSL.out]; omega)⟩
                rw [decide_eq_true (show pp ≠ 0 by omega), hu] at h
                have := insP_stop hu (by simpa using h.symm)
                rw [show pp - 1 + 1 = pp by omega] at this
                exact this)
            clear hb HBV
            go_wp2_with (fail)
            obtain ⟨p0, p1, p2, p3, p4⟩ := HC2.out wc HBC.out
            have hBE : Below P1 W0 (wc.alloc (.cells #[] IV)).drew := HBC.out.trans (((b1 wc _).drew).mono (HWP.out ▸ HBC.out.size))
            obtain ⟨e0, e1, e2, e3, e4⟩ := HC2.out _ hBE
            have hpC : pp ≤ C := by omega
            obtain ⟨a2, HA2⟩ : ∃ b, Hid (b = if C = pp then (⟨g, 0, none⟩ : Addr) else (⟨g, 0, none⟩ : Addr).add (pp * 5)) := ⟨_, Lib.hid rfl⟩
            have hse : ∀ w', (sizeOf (Tryz.prog.elem 24)).run Tryz.prog w' = .ok 5 w' := fun w' => by
              have : Tryz.prog.elem 24 = IV := by kernel_rfl
              simp [sizeOf, typeInfo, this, HII.out, HZZ.out.2.1]
            have hs1 : ∀ w', (Instr.slice 24 (.slice (some ⟨g, 0, none⟩) j C) none (some (.int .i64 pp)) none).run Tryz.prog w' = .ok (.slice (some ⟨g, 0, none⟩) pp C) w' := fun w' => by
              rw [run_slice_h (P := Tryz.prog) w' 24 (some ⟨g, 0, none⟩) j C (by kernel_rfl) .i64 (pp : Int) (by omega) (by omega), hse]
              simp [Result.andThen, sliced, Addr.add]
            have hs3 : ∀ w', (Instr.slice 24 (.slice (some ⟨g, 0, none⟩) j C) (some (.int .i64 pp)) none none).run Tryz.prog w' = .ok (.slice (some a2) (j - pp) (C - pp)) w' := fun w' => by
              rw [run_slice_l (P := Tryz.prog) w' 24 _ j C (by kernel_rfl) .i64 (pp : Int) (by omega) (by omega), hse]
              rw [HA2.out]
              by_cases h : C = pp
              · simp [Result.andThen, sliced, h]
              · simp [Result.andThen, sliced, h]
            clear hse
            have hxl : xs.length = j * 5 := HO.out.1
            have l1 : (xs.take (pp * 5)).length = pp * 5 := by rw [List.length_take]; omega
            have l3 : (xs.drop (pp * 5)).length = (j - pp) * 5 := by rw [List.length_drop]; omega
            have HS1 : Hid (∀ W', Below P1 W0 W' → ∀ i v, xs[i]? = some v → W'.cell? ((⟨g, 0, none⟩ : Addr).add i) = some v) := Lib.hid (fun W' hb i v hv => by
              rw [← HTK.out, List.getElem?_take] at hv
              split at hv
              · rw [Addr.add_lit, Nat.zero_add]
                refine ((rowc (HG2.out _ hb)).1 _).trans ?_
                rw [← Array.getElem?_toList]
                exact hv
              · cases hv)
            have HONE : Hid (∀ u ∈ xs, u.oneCell' = true) := Lib.hid (HX2.out _ HBC.out).one
            have HBU : Hid (∀ w', Below wc.heap.size wc w' → Below P1 W0 w') := Lib.hid (fun w' hb => HBC.out.trans (hb.mono (HWP.out ▸ HBC.out.size)))
            have HL13 := Lib.hid (And.intro l1 l3)
            clear l1 l3 hxl
            have HEFe : Hid (((wc.alloc (.cells #[] IV)).alloc (.cells #[.int .i64 k, .int .i64 n, .string s, .int .i64 x, .slice A1 L1 c1] IV)).heap[wc.heap.size]? = some (.cells #[] IV (0, 0))) := Lib.hid (keepAlloc (heap_alloc_new wc (.cells #[] IV)))
            have HEFf : Hid (((wc.alloc (.cells #[] IV)).alloc (.cells #[.int .i64 k, .int .i64 n, .string s, .int .i64 x, .slice A1 L1 c1] IV)).heap[wc.heap.size + 1]? = some (.cells #[.int .i64 k, .int .i64 n, .string s, .int .i64 x, .slice A1 L1 c1] IV (0, 0))) := Lib.hid (by
              have := heap_alloc_new (wc.alloc (.cells #[] IV)) (.cells #[.int .i64 k, .int .i64 n, .string s, .int .i64 x, .slice A1 L1 c1] IV)
              rwa [show (wc.alloc (.cells #[] IV)).heap.size = wc.heap.size + 1 by simp] at this)
            have HFEf : Hid (((wc.alloc (.cells #[.int .i64 k, .int .i64 n, .string s, .int .i64 x, .slice A1 L1 c1] IV)).alloc (.cells #[] IV)).heap[wc.heap.size]? = some (.cells #[.int .i64 k, .int .i64 n, .string s, .int .i64 x, .slice A1 L1 c1] IV (0, 0))) := Lib.hid (keepAlloc (heap_alloc_new wc (.cells #[.int .i64 k, .int .i64 n, .string s, .int .i64 x, .slice A1 L1 c1] IV)))
            have HFEe : Hid (((wc.alloc (.cells #[.int .i64 k, .int .i64 n, .string s, .int .i64 x, .slice A1 L1 c1] IV)).alloc (.cells #[] IV)).heap[wc.heap.size + 1]? = some (.cells #[] IV (0, 0))) := Lib.hid (by
              have := heap_alloc_new (wc.alloc (.cells #[.int .i64 k, .int .i64 n, .string s, .int .i64 x, .slice A1 L1 c1] IV)) (.cells #[] IV)
              rwa [show (wc.alloc (.cells #[.int .i64 k, .int .i64 n, .string s, .int .i64 x, .slice A1 L1 c1] IV)).heap.size = wc.heap.size + 1 by simp] at this)
            go_region_law? (first
              | (fail_if_success (have tok := T5)
                 refine step_append_own (by rfl) _ _ 24 (by rfl) wc.heap.size IV i0 _ 5 64 Tryz.underlying24 HII.out HZZ.out.1 HZZ.out.2.1 HZZ.out.2.2 rfl (by decide) (.slice (some ⟨_, 0, none⟩) 0 0) 0 [] (own_any (b := _) (by first | exact HEFe.out | exact HFEe.out | exact heap_alloc_new _ _) (by first | (simp; done) | (simp; omega))) ⟨g, 0, none⟩ pp C (xs.take (pp * 5)) (by rfl) (by rfl) HL13.out.1 (fun i v hv => HS1.out _ (HBU.out _ (by first | exact (b1 _ _).drew | exact (b2 _ _ _).drew)) i v (by rw [List.getElem?_take] at hv; split at hv; exact hv; cases hv)) (fun u hu => HONE.out u (List.mem_of_mem_take hu)) (by unfold maxLen; omega) (by omega) (by first | (simp; done) | (simp; omega)) ?_
                 intro v5 W5 own5 gb5 hn5 at5
                 have T5 : True := trivial
                 have HO5 := Lib.hid own5
                 have HB5 : Hid (Below wc.heap.size wc W5) := Lib.hid (grownB5 (by first | exact (b1 _ _).drew | exact (b2 _ _ _).drew) gb5 (by first | (simp; done) | (simp; omega)) (fun b hb => by simp [Value.ownBlock] at hb; omega))
                 first
                   | have HF5 : Hid (W5.heap[wc.heap.size + 1]? = some (.cells #[.int .i64 k, .int .i64 n, .string s, .int .i64 x, .slice A1 L1 c1] IV (0, 0))) := Lib.hid ((gb5.block _ (by simp; done) (by simp [Value.ownBlock])).trans HEFf.out)
                   | have HF5 : Hid (W5.heap[wc.heap.size]? = some (.cells #[.int .i64 k, .int .i64 n, .string s, .int .i64 x, .slice A1 L1 c1] IV (0, 0))) := Lib.hid ((gb5.block _ (by simp; omega) (by simp [Value.ownBlock])).trans HFEf.out)
                   | skip
                 have HN5 : Hid (v5 ≠ .slice none 0 0) := Lib.hid (fun e => by have := (hn5.1 e).1; cases this)
                 obtain ⟨f0, f1, f2, f3, f4⟩ := HC2.out _ (HBU.out _ HB5.out)
                 clear own5 gb5 hn5 at5)
              | (fail_if_success (have tok := T6)
                 have tok := T5
                 refine step_append_own (by rfl) _ _ 24 (by rfl) wc.heap.size IV i0 _ 5 64 Tryz.underlying24 HII.out HZZ.out.1 HZZ.out.2.1 HZZ.out.2.2 rfl (by decide) v5 (0 + pp) ([] ++ xs.take (pp * 5)) (World.ownsRow.alloc HO5.out _) ⟨W5.heap.size, 0, none⟩ 1 1 [.int .i64 k, .int .i64 n, .string s, .int .i64 x, .slice A1 L1 c1] (by rfl) (by rfl) rfl (five_new _ _ _ _ _ _ _) (five_one _ _ _ _ _ _ _) (by unfold maxLen; omega) (by omega) (by have := HB5.out.size; simp; omega) ?_
                 intro v6 W6 own6 gb6 hn6 at6
                 have T6 : True := trivial
                 have HO6 := Lib.hid own6
                 have HB6 : Hid (Below wc.heap.size wc W6) := Lib.hid (grownB5 (bs HB5.out (b1 _ _)) gb6 (by have := HB5.out.size; simp; omega) (fun b hb => (World.ownsRow.lt HO5.out b hb).1))
                 have HN6 : Hid (v6 ≠ .slice none 0 0) := Lib.hid (fun e => HN5.out (hn6.1 e).1)
                 clear own6 gb6 hn6 at6)
              | (fail_if_success (have tok := T6)
                 have tok := T5
                 refine step_append_own (by rfl) _ _ 24 (by rfl) wc.heap.size IV i0 _ 5 64 Tryz.underlying24 HII.out HZZ.out.1 HZZ.out.2.1 HZZ.out.2.2 rfl (by decide) v5 (0 + pp) ([] ++ xs.take (pp * 5)) HO5.out ⟨_, 0, none⟩ 1 1 [.int .i64 k, .int .i64 n, .string s, .int .i64 x, .slice A1 L1 c1] (by rfl) (by rfl) rfl (five_in HF5.out) (five_one _ _ _ _ _ _ _) (by unfold maxLen; omega) (by omega) HB5.out.size ?_
                 intro v6 W6 own6 gb6 hn6 at6
                 have T6 : True := trivial
                 have HO6 := Lib.hid own6
                 have HB6 : Hid (Below wc.heap.size wc W6) := Lib.hid (grownB5 HB5.out gb6 HB5.out.size (fun b hb => (World.ownsRow.lt HO5.out b hb).1))
                 have HN6 : Hid (v6 ≠ .slice none 0 0) := Lib.hid (fun e => HN5.out (hn6.1 e).1)
                 clear own6 gb6 hn6 at6)
              | (have tok := T6
                 refine step_append_own (by rfl) _ _ 24 (by rfl) wc.heap.size IV i0 _ 5 64 Tryz.underlying24 HII.out HZZ.out.1 HZZ.out.2.1 HZZ.out.2.2 rfl (by decide) v6 (0 + pp + 1) ([] ++ xs.take (pp * 5) ++ [.int .i64 k, .int .i64 n, .string s, .int .i64 x, .slice A1 L1 c1]) HO6.out a2 (j - pp) (C - pp) (xs.drop (pp * 5)) (by rfl) (by rfl) HL13.out.2 (fun i v hv => by
                   have hil : i < (j - pp) * 5 := by rw [← HL13.out.2]; exact (List.getElem?_eq_some_iff.1 hv).1
                   rw [List.getElem?_drop] at hv
                   have := HS1.out _ (HBU.out _ HB6.out) _ _ hv
                   rw [HA2.out, if_neg (by omega), add_add']
                   exact this) (fun u hu => HONE.out u (List.mem_of_mem_drop hu)) (by unfold maxLen; omega) (by omega) HB6.out.size ?_
                 intro v7 W7 own7 gb7 hn7 at7
                 have HO7 := Lib.hid own7
                 have HB7 : Hid (Below wc.heap.size wc W7) := Lib.hid (grownB5 HB6.out gb7 HB6.out.size (fun b hb => (World.ownsRow.lt HO6.out b hb).1))
                 have HN7 : Hid (v7 ≠ .slice none 0 0) := Lib.hid (fun e => HN6.out (hn7.1 e).1)
                 clear own7 gb7 hn7 at7))
            all_goals
              obtain ⟨g7, C7, rfl⟩ : ∃ g7 C7, v7 = .slice (some ⟨g7, 0, none⟩) (j + 1) C7 := by
                rcases HO7.out.2 with ⟨e, -⟩ | ⟨g7, cap, cur7, e, -⟩
                · exact absurd e HN7.out
                · exact ⟨g7, cap, by rw [e, show 0 + pp + 1 + (j - pp) = j + 1 by omega]⟩
              have HOx : Hid (W7.ownsRow N IV 5 (.slice (some ⟨g7, 0, none⟩) (j + 1) C7) (j + 1) (xs.take (pp * 5) ++ [.int .i64 k, .int .i64 n, .string s, .int .i64 x, .slice A1 L1 c1] ++ xs.drop (pp * 5))) := Lib.hid (by
                have h := HO7.out
                have hNw : N ≤ wc.heap.size := by have := (HBN.out _ HBC.out).size; have := HN.out; omega
                rw [show 0 + pp + 1 + (j - pp) = j + 1 by omega] at h
                exact ⟨h.1, h.2.imp id (fun ⟨g, cap, cur, e, hlo, r⟩ => ⟨g, cap, cur, e, Nat.le_trans hNw hlo, r⟩)⟩)
              have HBX := Lib.hid (HBU.out _ HB7.out)
              clear HO5 HO6 HO7 HB5 HB6 HB7 HN5 HN6 HN7
              go_wp2_with (fail)
              go_roundg (L - j)
              case rel =>
                refine ⟨j + 1, g7, C7, _, rfl, by go_num, by omega, by omega, HOx, Lib.hid ?_, Lib.hid (HBN.out _ HBX.out)⟩
                have hx := (HX2.out _ HBX.out).ins (p := pp) (by rw [HSL.out]; omega) (by rw [HTT.out, HL1.out]; exact HT2.out _ HBX.out)
                rw [HTT.out, HL1.out] at hx
                have he : ins sv t = sv.take pp ++ t :: sv.drop pp := by unfold ins; rw [HQ.out, HQ0.out]
                rw [HIS.out, he]
                exact hx
              case measure => omega
    · obtain rfl : j = L := by omega
      have HVN : Hid (VIn wr (fun b => S b ∨ b = g) (isort vs) (some ⟨g, 0, none⟩)) := Lib.hid (by
        have hx := HX.out
        rw [show vs.take j = vs by rw [← HL.out]; exact List.take_length] at hx
        refine (hx.stays (S' := fun b => S b ∨ b = g) (fun b h => .inl h) (fun _ _ _ => rfl)).vin (.inr rfl) (fun i v hv => ?_)
        rw [← HTK.out, List.getElem?_take] at hv
        split at hv
        · rw [Addr.add_lit, Nat.zero_add]
          refine ((rowc HG.out).1 _).trans ?_
          rw [← Array.getElem?_toList]
          exact hv
        · cases hv)
      clear HX HO
      go_wp2_with (fail)
      refine (L5.out _ _ _ _ HVN.out).mono ?_
      rintro e w2 ⟨A9, c9, rfl, h9, hb9⟩
      have H9 := Lib.hid h9
      have HB9 := Lib.hid (hb9.mono (show N ≤ wr.heap.size by have := HB.out.size; have := HN.out; omega))
      clear h9 hb9
      go_wp2_with (fail)
      go_ret
      exact ⟨A9, c9, rfl, H9.out, HN.out ▸ HB.out.trans HB9.out⟩

end Go.Proofs.YtlbkbcafkjgckaaGreatDoor.tree

