/-
  The laws' marks, put into a list of values that the law has made.
  Conditions: those that each theorem names.
-/
import Derived.Test.YteiijemjofaihaaMarkA
import Derived.Test.YteiijemjofaihaaVals
namespace Go.Proofs.Yteiijemjofaihaa.tree
open Go.ChangeShapes Go.WideShapes Go.ChangeAt Go.RowKit
set_option linter.unusedVariables false

section
variable {S : Nat → Prop} {w w' : World}
theorem At5.sim {g o : Nat} {k n x : Int} {s : ByteArray} {A : Option Addr} {L c : Nat} (h : At5 w ⟨g, o, none⟩ k n s x A L c) (hs : Sims S w w') (hg : S g) (hk : I64 k ∧ I64 n ∧ I64 x ∧ s.size ≤ maxLen) :
    ∃ k' n' s' x', At5 w' ⟨g, o, none⟩ k' n' s' x' A L c ∧ (I64 k' ∧ I64 n' ∧ I64 x' ∧ s'.size ≤ maxLen) := by
  obtain ⟨u3, q3, s3⟩ := hs.cell _ _ hg h.c0
  obtain ⟨n3, rfl, h3⟩ := s3.int hk.1
  obtain ⟨u4, q4, s4⟩ := hs.cell _ _ hg h.c1
  obtain ⟨n4, rfl, h4⟩ := s4.int hk.2.1
  obtain ⟨u5, q5, s5⟩ := hs.cell _ _ hg h.c2
  obtain ⟨z5, rfl, h5⟩ := s5.text hk.2.2.2
  obtain ⟨u6, q6, s6⟩ := hs.cell _ _ hg h.c3
  obtain ⟨n6, rfl, h6⟩ := s6.int hk.2.2.1
  obtain ⟨u7, q7, s7⟩ := hs.cell _ _ hg h.c4
  obtain rfl := s7.slice
  exact ⟨n3, n4, z5, n6, ⟨q3, q4, q5, q6, q7⟩, h3, h4, h6, h5⟩
theorem spot_none {w : World} {p : Addr} {u : Value} (h : w.cell? p = some u) : p.spot = none := by
  unfold World.cell? at h
  split at h
  · cases hs : p.spot with
    | none => rfl
    | some z => rw [hs] at h; simp at h
  · cases h
theorem VIn.sim {vs : List Tr} {A : Option Addr} (h : VIn w S vs A) (hs : Sims S w w') : ∃ vs', nrms vs' = nrms vs ∧ VIn w' S vs' A := by
  have each : ∀ i, ∃ t' : Tr, ∀ t, vs[i]? = some t → nrm t' = nrm t ∧ ∃ a k n s x ks' vs' A' c', A = some a ∧ S a.block ∧ t' = .mk k n s x ks' vs' ∧ TIn w' S t' (vV k n s x A' vs'.length c') ∧ At5 w' (a.add (i * 5)) k n s x A' vs'.length c' := by
    intro i
    cases hi : vs[i]? with
    | none => exact ⟨.mk 0 0 ⟨#[]⟩ 0 [] [], fun t ht => by cases ht⟩
    | some t =>
      obtain ⟨a, k, n, s, x, ks', vs', A', c', rfl, hSa, rfl, hT, hc⟩ := h i t hi
      obtain ⟨t2, hn, hT2⟩ := hT.sim hs
      obtain ⟨k2, n2, s2, x2, ks2, vs2⟩ := t2
      obtain ⟨A2, c2, e2, hk2, -⟩ := hT2.out
      obtain ⟨rfl, rfl, rfl, rfl, rfl, hl, rfl⟩ : k = k2 ∧ n = n2 ∧ s = s2 ∧ x = x2 ∧ A' = A2 ∧ vs'.length = vs2.length ∧ c' = c2 := by simpa using e2
      obtain ⟨_, _, _, hk, -⟩ := hT.out
      have hsp := spot_none hc.c0
      obtain ⟨gb, go, sp, hadd⟩ : ∃ gb go sp, a.add (i * 5) = ⟨gb, go, sp⟩ := ⟨_, _, _, rfl⟩
      rw [hadd] at hsp
      simp only at hsp
      subst hsp
      have hSg : S gb := by have := mem.add_block a (i * 5); rw [hadd] at this; simp only at this; rw [this]; exact hSa
      rw [hadd] at hc
      obtain ⟨k3, n3, s3, x3, hc3, hk3⟩ := hc.sim hs hSg hk
      rw [hl] at hc3 hT2
      refine ⟨.mk k3 n3 s3 x3 ks2 vs2, fun t ht => ?_⟩
      obtain rfl := Option.some.inj ht
      refine ⟨by rw [← hn, nrm_mk, nrm_mk], a, k3, n3, s3, x3, ks2, vs2, A', c', rfl, hSa, rfl, TIn.head hT2 hk3, ?_⟩
      rw [hadd]
      exact hc3
  refine ⟨(List.range vs.length).map fun i => (each i).choose, ?_, fun i t ht => ?_⟩
  · rw [nrms_map, nrms_map, List.map_map]
    apply List.ext_getElem
    · simp
    · intro i h1 h2
      simp only [List.getElem_map, List.getElem_range, Function.comp]
      exact ((each i).choose_spec _ (List.getElem?_eq_getElem (by simpa using h2))).1
  · rw [List.getElem?_map] at ht
    obtain ⟨i', hi', rfl⟩ := Option.map_eq_some_iff.1 ht
    have hil : i < vs.length := by
      have := (List.getElem?_eq_some_iff.1 hi').1
      simpa using this
    rw [List.getElem?_range hil] at hi'
    obtain rfl := Option.some.inj hi'
    exact ((each i).choose_spec _ (List.getElem?_eq_getElem hil)).2
end

set_option maxHeartbeats 2000000 in
set_option maxRecDepth 100000 in
theorem markValueS (vs : List Tr) (m : Int) (hm0 : 1 ≤ m) (hm1 : m + 7 * cnts vs ≤ 100000000000) (w : World) (S : Nat → Prop) (A : Option Addr) (c : Nat) (h : VIn w S vs A) (hm : vs.length ≤ maxLen) (hpl : ∀ b, S b → Plain w b) :
    Calls Try.prog 15 #[.slice A vs.length c, .int .i64 m] w (fun e w' => ∃ q, e = .returned (.int .i64 q) ∧ m ≤ q ∧ q ≤ m + 7 * cnts vs ∧ Sims S w w') := by
  obtain ⟨L, HL⟩ : ∃ L, Hid (L = vs.length) := ⟨_, Lib.hid rfl⟩
  rw [← HL.out] at hm ⊢
  unfold maxLen at hm
  have HV := Lib.hid h
  have HPL := Lib.hid hpl
  have HM1 := Lib.hid hm1
  obtain ⟨W, HW⟩ : ∃ W : Int, Hid (m + 7 * cnts vs = W) := ⟨_, Lib.hid rfl⟩
  rw [HW.out] at hm1 ⊢
  clear h hpl
  go_enter Try.func15, Try.ntmps15
  go_wp2_with (fail)
  go_loopg [1, 5] (L + 1) (fun gk l i wr => ∃ (j : Nat) (q : Int), i = .int .i64 j ∧ l = .int .i64 q ∧ gk + j = L + 1 ∧ j ≤ L ∧ m ≤ q ∧ q ≤ 100000000000 ∧ Hid (q ≤ m + 7 * cnts (vs.take j)) ∧ Hid (Sims S w wr))
  case atStart => exact ⟨0, m, rfl, rfl, by omega, by omega, by omega, by have := HM1.out; omega, Lib.hid (by omega), Lib.hid (Sims.refl _ _)⟩
  case round =>
    obtain ⟨j, q, rfl, rfl, hgj, hjL, hq0, hq1, HQ, HFR⟩ := hrel
    by_cases hlt : j < L
    · obtain ⟨vs2, hn2, hv2⟩ := HV.out.sim HFR.out
      have hl2 := nrms_len hn2
      obtain ⟨t, ht⟩ : ∃ t, vs[j]? = some t := ⟨_, List.getElem?_eq_getElem (by rw [← HL.out]; exact hlt)⟩
      obtain ⟨t2, ht2⟩ : ∃ t, vs2[j]? = some t := ⟨_, List.getElem?_eq_getElem (by rw [hl2, ← HL.out]; exact hlt)⟩
      have hnt := nrms_get hn2 ht ht2
      obtain ⟨a, k1, n1, s1, x1, ks1, vs1, A1, c1, rfl, hS, rfl, hT, hcell⟩ := hv2 j _ ht2
      obtain ⟨_, _, e1, hkb, hin⟩ := hT.out
      obtain ⟨kt, nt, st, xt, kst, vst⟩ := t
      have hni := nrm_items hnt
      have hli := nrms_len hni
      have hcl := cnts_lt ht
      rw [cnt_mk'] at hcl
      have hq7 : q + 4 + 7 * cnts vst ≤ 100000000000 := by have h1 := HQ.out; have h2 := HM1.out; omega
      obtain ⟨Q, HQ2⟩ : ∃ Q : Int, Hid (q + 4 + 7 * cnts vst = Q) := ⟨_, Lib.hid rfl⟩
      obtain ⟨L1, HL1⟩ : ∃ L1, Hid (L1 = vst.length) := ⟨_, Lib.hid rfl⟩
      rw [HQ2.out] at hq7
      have hQ0 : m ≤ Q := by rw [← HQ2.out]; omega
      have hin' : IsIn wr S ks1 vs1 A1 := by
        obtain ⟨-, -, -, -, rfl, -, -⟩ : k1 = k1 ∧ n1 = n1 ∧ s1 = s1 ∧ x1 = x1 ∧ A1 = _ ∧ vs1.length = vs1.length ∧ c1 = _ := by simpa using e1
        exact hin
      have IHJ : Hid (∀ z, z = q + 4 → ∀ w', Sims S wr w' → Calls Try.prog 39 #[.slice A1 L1 c1, .int .i64 z] w' (MyQ w' S Q)) := Lib.hid (fun z hz w' hw' => by
        subst hz
        obtain ⟨ks3, vs3, hn4, hin4⟩ := hin'.sim hw'
        have := markAny (.mk kt nt st xt kst vst) kt nt st xt kst vst rfl (q + 4) (by omega) (by rw [HQ2.out]; exact hq7) w' S A1 c1 ks3 vs3 (hn4.trans hni) hin4 (fun b hb => (HFR.out.trans hw').plain b hb (HPL.out b hb))
        rw [HQ2.out] at this
        rw [HL1.out]
        exact this)
      have HQ3 : Hid (Q ≤ m + 7 * cnts (vs.take (j + 1))) := Lib.hid (by have := HQ.out; rw [cnts_take ht, cnt_mk', ← HQ2.out]; push_cast; omega)
      have MT2 := markText (q + 2) (by omega) (by omega)
      have z2 := mtx_size (q + 2)
      obtain ⟨u2, HU2⟩ : ∃ u, Hid (mtx (q + 2) = u) := ⟨_, Lib.hid rfl⟩
      unfold MtQ at MT2
      rw [HU2.out] at MT2 z2
      rw [show q + 2 = q + 1 + 1 by omega] at MT2
      rw [hli, ← HL1.out] at hcell
      have hsp := spot_none hcell.c0
      obtain ⟨gb, go, sp, hadd⟩ : ∃ gb go sp, a.add (j * 5) = ⟨gb, go, sp⟩ := ⟨_, _, _, rfl⟩
      rw [hadd] at hsp
      simp only at hsp
      subst hsp
      have hSg : S gb := by have := mem.add_block a (j * 5); rw [hadd] at this; simp only at this; rw [this]; exact hS
      rw [hadd] at hcell
      have hpg : Plain wr gb := HFR.out.plain gb hSg (HPL.out gb hSg)
      have HPG := Lib.hid hpg
      have HSG := Lib.hid hSg
      have HC := Lib.hid hcell
      have HKB := Lib.hid hkb
      have f := frozen_plain hpg
      obtain ⟨p0, p1, p2, p3, p4⟩ := hcell
      clear hv2 hn2 hl2 ht2 hT hkb hin hin' hnt hni hli hcl ht hpg hSg hS e1
      go_wp2_with (fail)
      refine (MT2 _).mono ?_
      rintro e w1 ⟨rfl, hb1⟩
      have hs1 : Sims S wr w1 := ((Sims.set HSG.out (v := .int .i64 q) HC.out.c0 (.inr (.inr (.inl ⟨_, _, rfl, rfl, by unfold I64; omega⟩)))).trans (Sims.set HSG.out (u := .int .i64 n1) (v := .int .i64 (q + 1)) ((World.cell?_setCell_other _ _ _ _ (by simp)).trans HC.out.c1) (.inr (.inr (.inl ⟨_, _, rfl, rfl, by unfold I64; omega⟩))))).trans (Sims.of hb1)
      have HS1 := Lib.hid hs1
      obtain ⟨k2, n2, s2, x2, hc1, hkb1⟩ := HC.out.sim hs1 HSG.out HKB.out
      have HC1 := Lib.hid hc1
      have f1 := frozen_plain (hs1.plain gb HSG.out HPG.out)
      clear hb1 hs1 f p0 p1 p2 p3 p4 hkb1
      obtain ⟨p0, p1, p2, p3, p4⟩ := hc1
      go_wp2_with (fail)
      have HS3 : Hid (∀ v6, v6 = q + 3 → Sims S wr ((w1.setCell ⟨gb, go + 2, none⟩ (.string u2)).setCell ⟨gb, go + 3, none⟩ (.int .i64 v6))) := Lib.hid fun v6 h6 => (HS1.out.trans (Sims.set HSG.out (u := .string s2) HC1.out.c2 (.inr (.inr (.inr ⟨_, _, rfl, rfl, by unfold maxLen; omega⟩))))).trans (Sims.set HSG.out (u := .int .i64 x2) ((World.cell?_setCell_other _ _ _ _ (by simp)).trans HC1.out.c3) (.inr (.inr (.inl ⟨_, _, rfl, rfl, by unfold I64; omega⟩))))
      refine (IHJ.out _ (by omega) _ (HS3.out _ (by omega))).mono ?_
      rintro e w4 ⟨rfl, hs4⟩
      have HS4 := Lib.hid ((HS3.out _ (by omega)).trans hs4)
      clear f1 p0 p1 p2 p3 p4 hs4
      go_wp2_with (fail)
      go_roundg (L - j)
      case rel => exact ⟨j + 1, Q, by go_num, rfl, by omega, by omega, hQ0, hq7, HQ3, Lib.hid (HFR.out.trans HS4.out)⟩
      case measure => omega
    · obtain rfl : j = L := by omega
      have e : q ≤ W := by have := HQ.out; rw [HL.out, List.take_length] at this; rw [← HW.out]; exact this
      go_wp2_with (fail)
      go_ret
      exact ⟨q, rfl, hq0, e, HFR.out⟩

end Go.Proofs.Yteiijemjofaihaa.tree
