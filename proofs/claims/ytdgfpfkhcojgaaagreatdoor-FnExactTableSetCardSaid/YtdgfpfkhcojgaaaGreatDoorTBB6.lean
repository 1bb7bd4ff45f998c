/-
  What the texts behind this one use: 5 parts of one proof.
  Conditions: those that each theorem names.
-/
import Derived.Test.YtdgfpfkhcojgaaaGreatDoorTBB4
import Derived.Test.YtdgfpfkhcojgaaaGreatDoorTBSMarkA
import Derived.Test.YtdgfpfkhcojgaaaGreatDoorTBSLawBox
import Derived.Test.YtdgfpfkhcojgaaaGreatDoorTBSHeld
import Derived.Test.YtdgfpfkhcojgaaaGreatDoorTBB5
import Derived.Test.YtdgfpfkhcojgaaaGreatDoorTBSCopyS
import Derived.Test.YtdgfpfkhcojgaaaGreatDoorTBSVals
import Derived.Test.YtdgfpfkhcojgaaaGreatDoorTBSTreeCp
/-
  The laws' marks, put into a table that the law has made.
  Conditions: those that each theorem names.
-/
namespace Go.Proofs.YtdgfpfkhcojgaaaGreatDoor.tree
open Go.ChangeShapes Go.WideShapes Go.ChangeAt Go.RowKit
set_option linter.unusedVariables false

section
variable {S : Nat → Prop} {w w' : World}
theorem At10.at8 {q : Addr} {y : Ky} {k n x l : Int} {s : ByteArray} {A : Option Addr} {L c : Nat} {b : Bool} (h : At10 w q y k n s x A L c b l) : At8 w q y k n s x A L c := ⟨h.c0, h.c1, h.c2, h.c3, h.c4, h.c5, h.c6, h.c7⟩
theorem At10.sim {g o : Nat} {y : Ky} {k n x l : Int} {s : ByteArray} {A : Option Addr} {L c : Nat} {b : Bool} (h : At10 w ⟨g, o, none⟩ y k n s x A L c b l) (hs : Sims S w w') (hg : S g) (hy : I64 y.num ∧ y.str.size ≤ maxLen) (hk : I64 k ∧ I64 n ∧ I64 x ∧ s.size ≤ maxLen) (hl : I64 l) :
    ∃ y' k' n' s' x' b' l', At10 w' ⟨g, o, none⟩ y' k' n' s' x' A L c b' l' ∧ (I64 y'.num ∧ y'.str.size ≤ maxLen) ∧ (I64 k' ∧ I64 n' ∧ I64 x' ∧ s'.size ≤ maxLen) ∧ I64 l' := by
  obtain ⟨y', k', n', s', x', h8, hy', hk'⟩ := h.at8.sim hs hg hy hk
  obtain ⟨u8, q8, s8⟩ := hs.cell _ _ hg h.c8
  obtain ⟨b', rfl⟩ := s8.bool
  obtain ⟨u9, q9, s9⟩ := hs.cell _ _ hg h.c9
  obtain ⟨l', rfl, hl'⟩ := s9.int hl
  exact ⟨y', k', n', s', x', b', l', ⟨h8.c0, h8.c1, h8.c2, h8.c3, h8.c4, h8.c5, h8.c6, h8.c7, q8, q9⟩, hy', hk', hl'⟩
theorem spot_no {p : Addr} {u : Value} (h : w.cell? p = some u) : p.spot = none := by
  unfold World.cell? at h
  split at h
  · cases hs : p.spot with
    | none => rfl
    | some z => rw [hs] at h; simp at h
  · cases h
/-- A slot behind marks: its tree has its form. -/
theorem SIn.simAt {sl : List Sl} {A : Option Addr} (h : SIn w S sl A) (hs : Sims S w w') {j : Nat} {t : Sl} (ht : sl[j]? = some t) : ∃ a y k n s x ks vs A' c' b l, A = some a ∧ S a.block ∧ (a.add (j * 10)).spot = none ∧ (I64 y.num ∧ y.str.size ≤ maxLen) ∧ (I64 k ∧ I64 n ∧ I64 x ∧ s.size ≤ maxLen) ∧ I64 l ∧
    nrm (.mk k n s x ks vs) = nrm t.val ∧ TIn w' S (.mk k n s x ks vs) (vV k n s x A' vs.length c') ∧ At10 w' (a.add (j * 10)) y k n s x A' vs.length c' b l := by
  obtain ⟨a, k, n, s, x, ks', vs', A', c', rfl, hSa, hy, hl, hv, hT, hc⟩ := h j t ht
  obtain ⟨t2, hn, hT2⟩ := hT.sim hs
  obtain ⟨k2, n2, s2, x2, ks2, vs2⟩ := t2
  obtain ⟨A2, c2, e2, hk2, -⟩ := hT2.out
  obtain ⟨rfl, rfl, rfl, rfl, rfl, hl2, rfl⟩ : k = k2 ∧ n = n2 ∧ s = s2 ∧ x = x2 ∧ A' = A2 ∧ vs'.length = vs2.length ∧ c' = c2 := by simpa using e2
  have hsp := spot_no hc.c0
  obtain ⟨gb, go, sp, hadd⟩ : ∃ gb go sp, a.add (j * 10) = ⟨gb, go, sp⟩ := ⟨_, _, _, rfl⟩
  rw [hadd] at hsp
  simp only at hsp
  subst hsp
  have hSg : S gb := by have := mem.add_block a (j * 10); rw [hadd] at this; simp only at this; rw [this]; exact hSa
  rw [hadd] at hc
  obtain ⟨y3, k3, n3, s3, x3, b3, l3, hc3, hy3, hk3, hl3⟩ := hc.sim hs hSg hy hk2 hl
  rw [hl2] at hc3 hT2
  exact ⟨a, y3, k3, n3, s3, x3, ks2, vs2, A', c', b3, l3, rfl, hSa, by rw [hadd], hy3, hk3, hl3, by rw [← hn, nrm_mk, nrm_mk], TIn.head hT2 hk3, by rw [hadd]; exact hc3⟩
end
/-- How many marks slots take. -/
def cS : List Sl → Nat
  | [] => 0
  | t :: l => 2 + 7 * cnt t.val + cS l
theorem cS_take : ∀ {sl : List Sl} {j : Nat} {t : Sl}, sl[j]? = some t → cS (sl.take (j + 1)) = cS (sl.take j) + (2 + 7 * cnt t.val)
  | [], j, _, h => by simp at h
  | t0 :: sl, 0, t, h => by
    obtain rfl : t0 = t := by simpa using h
    simp [cS]
  | t0 :: sl, j + 1, t, h => by
    have := cS_take (sl := sl) (j := j) (t := t) (by simpa using h)
    rw [List.take_succ_cons, List.take_succ_cons, cS, cS, this]
    omega
theorem cS_le : ∀ (sl : List Sl) (j : Nat), cS (sl.take j) ≤ cS sl
  | [], j => by simp
  | t :: sl, 0 => by simp [cS]
  | t :: sl, j + 1 => by have := cS_le sl j; rw [List.take_succ_cons, cS, cS]; omega

theorem cS_len : ∀ sl : List Sl, sl.length ≤ cS sl
  | [] => by simp [cS]
  | t :: sl => by have := cS_len sl; rw [cS, List.length_cons]; omega

set_option maxHeartbeats 2000000 in
set_option maxRecDepth 100000 in
theorem markSlots (sl : List Sl) (m : Int) (hm0 : 1 ≤ m) (hm1 : m + cS sl ≤ 100000000000) (w : World) (S : Nat → Prop) (A : Option Addr) (c : Nat) (h : SIn w S sl A) (hm : sl.length ≤ maxLen) (hpl : ∀ b, S b → Plain w b) :
    Calls Tryz.prog 84 #[.slice A sl.length c, .int .i64 m] w (MyQ w S (m + cS sl)) := by
  obtain ⟨L, HL⟩ : ∃ L, Hid (L = sl.length) := ⟨_, Lib.hid rfl⟩
  rw [← HL.out] at hm ⊢
  unfold maxLen at hm
  have HV := Lib.hid h
  have HPL := Lib.hid hpl
  have HM1 := Lib.hid hm1
  obtain ⟨W, HW⟩ : ∃ W : Int, Hid (m + cS sl = W) := ⟨_, Lib.hid rfl⟩
  rw [HW.out] at hm1 ⊢
  clear h hpl
  go_enter Tryz.func84, Tryz.ntmps84
  go_wp2_with (fail)
  go_loopg [1, 5] (L + 1) (fun gk l i wr => ∃ (j : Nat) (q : Int), i = .int .i64 j ∧ l = .int .i64 q ∧ gk + j = L + 1 ∧ j ≤ L ∧ 1 ≤ q ∧ q ≤ 100000000000 ∧ Hid (q = m + cS (sl.take j)) ∧ Hid (Sims S w wr))
  case atStart => exact ⟨0, m, rfl, rfl, by omega, by omega, hm0, by have := HM1.out; omega, Lib.hid (by simp [cS]), Lib.hid (Sims.refl _ _)⟩
  case round =>
    obtain ⟨j, q, rfl, rfl, hgj, hjL, hq0, hq1, HQ, HFR⟩ := hrel
    by_cases hlt : j < L
    · obtain ⟨t, ht⟩ : ∃ t, sl[j]? = some t := ⟨_, List.getElem?_eq_getElem (by rw [← HL.out]; exact hlt)⟩
      obtain ⟨a, y, k1, n1, s1, x1, ks1, vs1, A1, c1, lb, ll, rfl, hS, hsp, hyb, hkb, hlb, hnt, htin, hcell⟩ := HV.out.simAt HFR.out ht
      have hct := cS_take ht
      have hcle := cS_le sl (j + 1)
      obtain ⟨yt, ⟨kt, nt, st, xt, kst, vst⟩, bt, lt⟩ := t
      simp only at hnt hct
      have hni := nrm_items hnt
      have hli := nrms_len hni
      rw [cnt_mk'] at hct
      have hq7 : q + 9 + 7 * cnts vst ≤ 100000000000 := by have h1 := HQ.out; have h2 := HM1.out; omega
      obtain ⟨Q, HQ2⟩ : ∃ Q : Int, Hid (q + 7 + 7 * cnts vst = Q) := ⟨_, Lib.hid rfl⟩
      obtain ⟨L1, HL1⟩ : ∃ L1, Hid (L1 = vst.length) := ⟨_, Lib.hid rfl⟩
      have hq9 : Q + 2 ≤ 100000000000 := by rw [← HQ2.out]; omega
      have hQ0 : 1 ≤ Q := by rw [← HQ2.out]; omega
      have hin' : IsIn wr S ks1 vs1 A1 := by
        obtain ⟨_, _, e1, -, hin⟩ := htin.out
        obtain ⟨-, -, -, -, rfl, -, -⟩ : k1 = k1 ∧ n1 = n1 ∧ s1 = s1 ∧ x1 = x1 ∧ A1 = _ ∧ vs1.length = vs1.length ∧ c1 = _ := by simpa using e1
        exact hin
      have IHJ : Hid (∀ z, z = q + 7 → ∀ w', Sims S wr w' → Calls Tryz.prog 85 #[.slice A1 L1 c1, .int .i64 z] w' (MyQ w' S Q)) := Lib.hid (fun z hz w' hw' => by
        subst hz
        obtain ⟨ks3, vs3, hn4, hin4⟩ := hin'.sim hw'
        have := markAny (.mk kt nt st xt kst vst) kt nt st xt kst vst rfl (q + 7) (by omega) (by omega) w' S A1 c1 ks3 vs3 (hn4.trans hni) hin4 (fun b hb => (HFR.out.trans hw').plain b hb (HPL.out b hb))
        rw [HQ2.out] at this
        rw [HL1.out]
        exact this)
      have HQ3 : Hid (Q + 1 + 1 = m + cS (sl.take (j + 1))) := Lib.hid (by rw [hct, ← HQ2.out, HQ.out]; push_cast; omega)
      have MT2 := markText (q + 2) (by omega) (by omega)
      have MT5 := markText (q + 5) (by omega) (by omega)
      have z2 := mtx_size (q + 2)
      have z5 := mtx_size (q + 5)
      obtain ⟨u2, HU2⟩ : ∃ u, Hid (mtx (q + 2) = u) := ⟨_, Lib.hid rfl⟩
      obtain ⟨u5, HU5⟩ : ∃ u, Hid (mtx (q + 5) = u) := ⟨_, Lib.hid rfl⟩
      unfold MtQ at MT2 MT5
      rw [HU2.out] at MT2 z2
      rw [HU5.out] at MT5 z5
      rw [show q + 2 = q + 1 + 1 by omega] at MT2
      rw [show q + 5 = q + 1 + 1 + 1 + 1 + 1 by omega] at MT5
      rw [hli, ← HL1.out] at hcell
      have HLB := Lib.hid hlb
      obtain ⟨gb, go, sp, hadd⟩ : ∃ gb go sp, a.add (j * 10) = ⟨gb, go, sp⟩ := ⟨_, _, _, rfl⟩
      rw [hadd] at hsp
      simp only at hsp
      subst hsp
      have hSg : S gb := by have := mem.add_block a (j * 10); rw [hadd] at this; simp only at this; rw [this]; exact hS
      rw [hadd] at hcell
      have hpg : Plain wr gb := HFR.out.plain gb hSg (HPL.out gb hSg)
      have HPG := Lib.hid hpg
      have HSG := Lib.hid hSg
      have HC := Lib.hid hcell
      have HYB := Lib.hid hyb
      have HKB := Lib.hid hkb
      have f := frozen_plain hpg
      obtain ⟨p0, p1, p2, p3, p4, p5, p6, p7, p8, p9⟩ := hcell
      clear htin hyb hkb hlb hin' hnt hni hli ht hpg hSg hS hct hcle
      go_wp2_with (fail)
      refine (MT2 _).mono ?_
      rintro e w1 ⟨rfl, hb1⟩
      have hs1 : Sims S wr w1 := ((Sims.set HSG.out HC.out.c0 (.inr (.inl ⟨_, _, rfl, rfl⟩))).trans (Sims.set HSG.out (u := .int .i64 y.num) ((World.cell?_setCell_other _ _ _ _ (by simp)).trans HC.out.c1) (.inr (.inr (.inl ⟨_, _, rfl, rfl, by unfold I64; omega⟩))))).trans (Sims.of hb1)
      have HS1 := Lib.hid hs1
      obtain ⟨y1, k2, n2, s2, x2, b1_, l1_, hc1, hyb1, hkb1, hlb1⟩ := HC.out.sim hs1 HSG.out HYB.out HKB.out HLB.out
      have HC1 := Lib.hid hc1
      have HYB1 := Lib.hid hyb1
      have HKB1 := Lib.hid hkb1
      have HLB1 := Lib.hid hlb1
      have f1 := frozen_plain (hs1.plain gb HSG.out HPG.out)
      clear hb1 hs1 f p0 p1 p2 p3 p4 p5 p6 p7 p8 p9 hyb1 hkb1 hlb1
      obtain ⟨p0, p1, p2, p3, p4, p5, p6, p7, p8, p9⟩ := hc1
      go_wp2_with (fail)
      refine (MT5 _).mono ?_
      rintro e w2 ⟨rfl, hb2⟩
      have hs2 : Sims S w1 w2 := (((Sims.set HSG.out HC1.out.c2 (v := .string u2) (.inr (.inr (.inr ⟨_, _, rfl, rfl, by unfold maxLen; omega⟩)))).trans
        (Sims.set HSG.out (u := .int .i64 k2) (v := .int .i64 (q + 1 + 1 + 1)) ((World.cell?_setCell_other _ _ _ _ (by simp)).trans HC1.out.c3) (.inr (.inr (.inl ⟨_, _, rfl, rfl, by unfold I64; omega⟩))))).trans
        (Sims.set HSG.out (u := .int .i64 n2) (v := .int .i64 (q + 1 + 1 + 1 + 1)) ((World.cell?_setCell_other _ _ _ _ (by simp)).trans ((World.cell?_setCell_other _ _ _ _ (by simp)).trans HC1.out.c4)) (.inr (.inr (.inl ⟨_, _, rfl, rfl, by unfold I64; omega⟩))))).trans (Sims.of hb2)
      have HS2 := Lib.hid (HS1.out.trans hs2)
      obtain ⟨y3, k3, n3, s3, x3, b3_, l3_, hc2, hyb2, hkb2, hlb2⟩ := HC1.out.sim hs2 HSG.out HYB1.out HKB1.out HLB1.out
      have HYB2 := Lib.hid hyb2
      have HKB2 := Lib.hid hkb2
      have HLB2 := Lib.hid hlb2
      have HC2 := Lib.hid hc2
      have f2 := frozen_plain (HS2.out.plain gb HSG.out HPG.out)
      clear hb2 hs2 f1 p0 p1 p2 p3 p4 p5 p6 p7 p8 p9 hyb2 hkb2 hlb2
      obtain ⟨p0, p1, p2, p3, p4, p5, p6, p7, p8, p9⟩ := hc2
      go_wp2_with (fail)
      have HS3 : Hid (∀ v6, v6 = q + 6 → Sims S wr ((w2.setCell ⟨gb, go + 5, none⟩ (.string u5)).setCell ⟨gb, go + 6, none⟩ (.int .i64 v6))) := Lib.hid fun v6 h6 => (HS2.out.trans (Sims.set HSG.out (u := .string s3) HC2.out.c5 (.inr (.inr (.inr ⟨_, _, rfl, rfl, by unfold maxLen; omega⟩))))).trans (Sims.set HSG.out (u := .int .i64 x3) ((World.cell?_setCell_other _ _ _ _ (by simp)).trans HC2.out.c6) (.inr (.inr (.inl ⟨_, _, rfl, rfl, by unfold I64; omega⟩))))
      refine (IHJ.out _ (by omega) _ (HS3.out _ (by omega))).mono ?_
      rintro e w4 ⟨rfl, hs4⟩
      have HS4 := Lib.hid ((HS3.out _ (by omega)).trans hs4)
      have HSW := Lib.hid ((HS2.out.trans (Sims.refl S w2)))
      obtain ⟨y5, k5, n5, s5, x5, b5, l5, hc4, -, -, hlb4⟩ := HC.out.sim HS4.out HSG.out HYB.out HKB.out HLB.out
      have HC4 := Lib.hid hc4
      have HL4 := Lib.hid hlb4
      have f4 := frozen_plain (HS4.out.plain gb HSG.out HPG.out)
      clear f2 p0 p1 p2 p3 p4 p5 p6 p7 p8 p9 hs4 hlb4 HSW
      obtain ⟨p0, p1, p2, p3, p4, p5, p6, p7, p8, p9⟩ := hc4
      go_wp2_with (fail)
      have HS5 : Hid (∀ v8 v9, v9 = Q + 1 → Sims S wr ((w4.setCell ⟨gb, go + 8, none⟩ (.bool v8)).setCell ⟨gb, go + 9, none⟩ (.int .i64 v9))) := Lib.hid fun v8 v9 h9 => (HS4.out.trans (Sims.set HSG.out (u := .bool b5) HC4.out.c8 (.inr (.inl ⟨_, _, rfl, rfl⟩)))).trans (Sims.set HSG.out (u := .int .i64 l5) ((World.cell?_setCell_other _ _ _ _ (by simp)).trans HC4.out.c9) (.inr (.inr (.inl ⟨_, _, rfl, rfl, by unfold I64; omega⟩))))
      go_roundg (L - j)
      case rel => exact ⟨j + 1, Q + 1 + 1, by go_num, rfl, by omega, by omega, by omega, by omega, HQ3, Lib.hid (HFR.out.trans (HS5.out _ _ rfl))⟩
      case measure => omega
    · obtain rfl : j = L := by omega
      have e : q = W := by have := HQ.out; rw [HL.out, List.take_length] at this; rw [← HW.out]; exact this
      subst e
      go_wp2_with (fail)
      go_ret
      exact ⟨rfl, HFR.out⟩

set_option maxHeartbeats 1600000 in
theorem markInts (A : Option Addr) (n c lo : Nat) (l : List Int) (w : World) (h : imem.OwnI w lo A n c l) (hn : n ≤ 1048576) (m : Int) (hm0 : 1 ≤ m) (hm1 : m ≤ 1000000000) :
    Calls Tryz.prog 83 #[.slice A n c, .int .i64 m] w (fun e w' => e = .returned (.int .i64 (m + n)) ∧ Fr (fun b => (Value.slice A n c).ownBlock = some b) w w') := by
  obtain ⟨W, HW⟩ : ∃ W : Int, Hid (m + n = W) := ⟨_, Lib.hid rfl⟩
  rw [HW.out]
  have HO := Lib.hid h
  clear h
  go_enter Tryz.func83, Tryz.ntmps83
  go_wp2_with (fail)
  go_loopg [1, 5] (n + 1) (fun gk lv i wr => ∃ (j : Nat) (q : Int) (l2 : List Int), i = .int .i64 j ∧ lv = .int .i64 q ∧ gk + j = n + 1 ∧ j ≤ n ∧ 1 ≤ q ∧ q ≤ 2000000000 ∧ Hid (q = m + j) ∧ Hid (imem.OwnI wr lo A n c l2) ∧ Hid (Fr (fun b => (Value.slice A n c).ownBlock = some b) w wr))
  case atStart => exact ⟨0, m, l, rfl, rfl, by omega, by omega, hm0, by omega, Lib.hid (by omega), HO, Lib.hid (Fr.refl _ _)⟩
  case round =>
    clear HO
    obtain ⟨j, q, l2, rfl, rfl, hgj, hjn, hq0, hq1, HQ, HO, HF⟩ := hrel
    by_cases hlt : j < n
    · obtain ⟨g, rfl, -, -, -⟩ := HO.out.head (by omega)
      obtain ⟨⟨v0, hv0⟩, hf0⟩ := HO.out.cellk hlt
      go_wp2_with (fail)
      go_roundg (n - j)
      case rel => exact ⟨j + 1, q + 1, _, by go_num, rfl, by omega, by omega, by omega, by have := HQ.out; omega, Lib.hid (by have := HQ.out; push_cast; omega), Lib.hid (HO.out.set j q).1, Lib.hid (HF.out.trans (Fr.set (S := fun b => (Value.slice (some ⟨g, 0, none⟩) n c).ownBlock = some b) (show (Value.slice (some ⟨g, 0, none⟩) n c).ownBlock = some g from rfl) _ _))⟩
      case measure => omega
    · obtain rfl : j = n := by omega
      have e : q = W := by rw [HQ.out, ← HW.out]
      subst e
      go_wp2_with (fail)
      go_ret
      exact ⟨rfl, HF.out⟩

set_option maxHeartbeats 1600000 in
theorem markTable2 {l : List Int} {sl : List Sl} {b : Bool} {A : Option Addr} {n c lo g m : Nat} {x k : Int} {S : Nat → Prop} (w : World) (h : imem.OwnI w lo A n c l) (hs : SIn w S sl (some ⟨g, 0, none⟩)) (hpl : ∀ q, S q → Plain w q) (hno : ∀ q, (Value.slice A n c).ownBlock = some q → ¬ S q) (hl : sl.length = m) (hn : n ≤ 1048576) (hc : cS sl ≤ 99000000000) :
    Calls Tryz.prog 33 #[tbV b A n c (some ⟨g, 0, none⟩) m m x k, .int .i64 1] w (fun e w' => ∃ q, e = .returned (.int .i64 q) ∧ 1 ≤ q ∧ q ≤ 1 + (n : Int) + cS sl ∧ Fr (fun q => S q ∨ (Value.slice A n c).ownBlock = some q) w w') := by
  have M1 := fun w' (hw : Below w.heap.size w w') => markInts A n c lo l w' (h.below hw) hn 1 (by omega) (by omega)
  have HBK : Hid (∀ q, (Value.slice A n c).ownBlock = some q → q < w.heap.size) := Lib.hid (fun q e => (h.block q e).2)
  have HNO := Lib.hid hno
  have HP0 := Lib.hid hpl
  by_cases hmm : sl.length ≤ maxLen
  · obtain ⟨W, HW⟩ : ∃ W : Int, Hid ((1 + (n : Int)) + cS sl = W) := ⟨_, Lib.hid rfl⟩
    have hW1 : 1 ≤ W := by rw [← HW.out]; omega
    have M2 : Hid (∀ w', SIn w' S sl (some ⟨g, 0, none⟩) → (∀ b, S b → Plain w' b) → Calls Tryz.prog 84 #[.slice (some ⟨g, 0, none⟩) m m, .int .i64 (1 + (n : Int))] w' (MyQ w' S W)) := Lib.hid (fun w' h1 h2 => by
      have := markSlots sl (1 + (n : Int)) (by omega) (by omega) w' S (some ⟨g, 0, none⟩) m h1 hmm h2
      rw [HW.out, hl] at this
      exact this)
    have HS := Lib.hid hs
    have HM1 := Lib.hid M1
    clear M1 h hs hpl hno
    go_enter Tryz.func33, Tryz.ntmps33
    go_wp2_with (fail)
    refine (HM1.out _ (b1 w _)).mono ?_
    rintro e w1 ⟨rfl, hf⟩
    have hB := b1 w (.cells #[.bool b, .slice A n c, .slice (some ⟨g, 0, none⟩) m m, .int .i64 x, .int .i64 k] IT)
    have hk : ∀ q, S q → w1.heap[q]? = w.heap[q]? := fun q hq => (hf.block q (Nat.lt_of_lt_of_le (HP0.out q hq).lt hB.size) (fun e => HNO.out q e hq)).trans (hB.block q (HP0.out q hq).lt)
    have HS1 : Hid (SIn w1 S sl (some ⟨g, 0, none⟩)) := Lib.hid (HS.out.stays (fun _ h => h) fun q hq _ => hk q hq)
    have HPL : Hid (∀ q, S q → Plain w1 q) := Lib.hid (fun q hq => (HP0.out q hq).same (hk q hq))
    have hbx : w1.heap[w.heap.size]? = some (.cells #[.bool b, .slice A n c, .slice (some ⟨g, 0, none⟩) m m, .int .i64 x, .int .i64 k] IT (0, 0)) := (hf.block w.heap.size (by simp) (fun e => by have := HBK.out _ e; omega)).trans (heap_alloc_new w _)
    have HF1 : Hid (Fr (fun q => S q ∨ (Value.slice A n c).ownBlock = some q) w w1) := Lib.hid ((Fr.of hB).trans (hf.mono fun q e => .inr e))
    have q2 := (rowc hbx).1 2
    simp at q2
    clear hf hB hk hbx
    go_wp2_with (fail)
    refine (M2.out _ HS1.out HPL.out).mono ?_
    rintro e w2 ⟨rfl, hs2⟩
    have HF2 : Hid (Fr (fun q => S q ∨ (Value.slice A n c).ownBlock = some q) w w2) := Lib.hid (HF1.out.trans (hs2.fr.mono fun q hq => .inl hq))
    clear hs2 q2
    go_wp2_with (fail)
    go_ret
    exact ⟨W, rfl, hW1, by rw [← HW.out]; exact Int.le_refl _, HF2.out⟩
  · exact absurd (cS_len sl) (by unfold maxLen at hmm; omega)
theorem markTable {l : List Int} {sl : List Sl} {b : Bool} {A : Option Addr} {n c lo g m : Nat} {x k : Int} {S : Nat → Prop} (w : World) (h : imem.OwnI w lo A n c l) (hs : SIn w S sl (some ⟨g, 0, none⟩)) (hpl : ∀ q, S q → Plain w q) (hno : ∀ q, (Value.slice A n c).ownBlock = some q → ¬ S q) (hl : sl.length = m) (hn : n ≤ 1048576) (hc : cS sl ≤ 99000000000) :
    Calls Tryz.prog 33 #[tbV b A n c (some ⟨g, 0, none⟩) m m x k, .int .i64 1] w (fun e w' => ∃ q, e = .returned (.int .i64 q) ∧ 1 ≤ q ∧ Fr (fun q => S q ∨ (Value.slice A n c).ownBlock = some q) w w') :=
  (markTable2 w h hs hpl hno hl hn hc).mono fun e w' ⟨q, a, b, _, d⟩ => ⟨q, a, b, d⟩

end Go.Proofs.YtdgfpfkhcojgaaaGreatDoor.tree

/-
  An own list of integers marked, with what it holds then, and read back.
  Conditions: those that each theorem names.
-/
namespace Go.Proofs.YtdgfpfkhcojgaaaGreatDoor.tree
open Go.ChangeShapes Go.WideShapes Go.ChangeAt Go.RowKit
set_option linter.unusedVariables false

/-- The numbers from m on. -/
def FromI (m : Int) (n : Nat) (l : List Int) : Prop := ∀ i : Nat, i < n → l[i]? = some (m + i)

set_option maxHeartbeats 1600000 in
theorem markIntsX (A : Option Addr) (n c lo : Nat) (l : List Int) (w : World) (h : imem.OwnI w lo A n c l) (hn : n ≤ 1048576) (m : Int) (hm0 : 1 ≤ m) (hm1 : m ≤ 1000000000) :
    Calls Tryz.prog 83 #[.slice A n c, .int .i64 m] w (fun e w' => e = .returned (.int .i64 (m + n)) ∧ Fr (fun b => (Value.slice A n c).ownBlock = some b) w w' ∧ ∃ l2, imem.OwnI w' lo A n c l2 ∧ FromI m n l2) := by
  obtain ⟨W, HW⟩ : ∃ W : Int, Hid (m + n = W) := ⟨_, Lib.hid rfl⟩
  rw [HW.out]
  have HO := Lib.hid h
  clear h
  go_enter Tryz.func83, Tryz.ntmps83
  go_wp2_with (fail)
  go_loopg [1, 5] (n + 1) (fun gk lv i wr => ∃ (j : Nat) (q : Int) (l2 : List Int), i = .int .i64 j ∧ lv = .int .i64 q ∧ gk + j = n + 1 ∧ j ≤ n ∧ 1 ≤ q ∧ q ≤ 2000000000 ∧ Hid (q = m + j) ∧ Hid (imem.OwnI wr lo A n c l2) ∧ Hid (Fr (fun b => (Value.slice A n c).ownBlock = some b) w wr) ∧ Hid (FromI m j l2))
  case atStart => exact ⟨0, m, l, rfl, rfl, by omega, by omega, hm0, by omega, Lib.hid (by omega), HO, Lib.hid (Fr.refl _ _), Lib.hid (fun i hi => absurd hi (by omega))⟩
  case round =>
    clear HO
    obtain ⟨j, q, l2, rfl, rfl, hgj, hjn, hq0, hq1, HQ, HO, HF, HM⟩ := hrel
    by_cases hlt : j < n
    · obtain ⟨g, rfl, -, -, -⟩ := HO.out.head (by omega)
      obtain ⟨⟨v0, hv0⟩, hf0⟩ := HO.out.cellk hlt
      have HM2 : Hid (FromI m (j + 1) (l2.set j q)) := Lib.hid fun i hi => by
        by_cases e : i = j
        · subst e
          rw [List.getElem?_set_self (by rw [HO.out.len]; exact hlt), HQ.out]
        · rw [List.getElem?_set_ne (fun e2 => e e2.symm)]
          exact HM.out i (by omega)
      go_wp2_with (fail)
      go_roundg (n - j)
      case rel => exact ⟨j + 1, q + 1, _, by go_num, rfl, by omega, by omega, by omega, by have := HQ.out; omega, Lib.hid (by have := HQ.out; push_cast; omega), Lib.hid (HO.out.set j q).1, Lib.hid (HF.out.trans (Fr.set (S := fun b => (Value.slice (some ⟨g, 0, none⟩) n c).ownBlock = some b) (show (Value.slice (some ⟨g, 0, none⟩) n c).ownBlock = some g from rfl) _ _)), HM2⟩
      case measure => omega
    · obtain rfl : j = n := by omega
      have e : q = W := by rw [HQ.out, ← HW.out]
      subst e
      go_wp2_with (fail)
      go_ret
      exact ⟨rfl, HF.out, l2, HO.out, HM.out⟩

set_option maxHeartbeats 1600000 in
theorem heldInts (A : Option Addr) (n c : Nat) (l : List Int) (w : World) (h : imem.RdI w A n l) (hn : n ≤ 1048576) (m : Int) (he : FromI m n l) (hm0 : 1 ≤ m) (hm1 : m ≤ 1000000000) :
    Calls Tryz.prog 86 #[.slice A n c, .int .i64 m] w (fun e w' => e = .returned (.int .i64 (m + n)) ∧ Below w.heap.size w w') := by
  obtain ⟨W, HW⟩ : ∃ W : Int, Hid (m + n = W) := ⟨_, Lib.hid rfl⟩
  rw [HW.out]
  have HO := Lib.hid h
  have HE := Lib.hid he
  clear h he
  go_enter Tryz.func86, Tryz.ntmps86
  go_wp2_with (fail)
  go_loopg [1, 5] (n + 1) (fun gk lv i wr => ∃ (j : Nat) (q : Int), i = .int .i64 j ∧ lv = .int .i64 q ∧ gk + j = n + 1 ∧ j ≤ n ∧ 1 ≤ q ∧ q ≤ 2000000000 ∧ Hid (q = m + j) ∧ Hid (Below w.heap.size w wr))
  case atStart => exact ⟨0, m, rfl, rfl, by omega, by omega, hm0, by omega, Lib.hid (by omega), Lib.hid (Below.refl _ _)⟩
  case round =>
    obtain ⟨j, q, rfl, rfl, hgj, hjn, hq0, hq1, HQ, HB⟩ := hrel
    by_cases hlt : j < n
    · obtain ⟨a, v, rfl, hv, hc⟩ := (HO.out.below HB.out).at_ hlt
      obtain rfl : q = v := by
        have := HE.out j hlt
        rw [hv, ← HQ.out] at this
        exact (Option.some.inj this).symm
      clear hv
      go_wp2_with (fail)
      go_roundg (n - j)
      case rel => exact ⟨j + 1, q + 1, by go_num, rfl, by omega, by omega, by omega, by have := HQ.out; omega, Lib.hid (by have := HQ.out; push_cast; omega), HB⟩
      case measure => omega
    · obtain rfl : j = n := by omega
      have e : q = W := by rw [HQ.out, ← HW.out]
      subst e
      go_wp2_with (fail)
      go_ret
      exact ⟨rfl, HB.out⟩

end Go.Proofs.YtdgfpfkhcojgaaaGreatDoor.tree

/-
  The marks of a table's slots, found again.
  Conditions: those that each theorem names.
-/
namespace Go.Proofs.YtdgfpfkhcojgaaaGreatDoor.tree
open Go.ChangeShapes Go.WideShapes Go.ChangeAt Go.RowKit
set_option linter.unusedVariables false

/-- A slot marked from m on. -/
def mkSl (m : Int) (t : Sl) : Sl := ⟨mkY m, mkT m t.val, decide ((m + 7 * cnt t.val) % 3 = 0), m + 7 * cnt t.val + 1⟩
def mkSls (m : Int) : List Sl → List Sl
  | [] => []
  | t :: sl => mkSl m t :: mkSls (m + (2 + 7 * cnt t.val)) sl
theorem mkSls_len : ∀ (m : Int) (sl : List Sl), (mkSls m sl).length = sl.length
  | _, [] => rfl
  | m, t :: sl => by
    have := mkSls_len (m + (2 + 7 * cnt t.val)) sl
    simp [mkSls, this]
theorem mkSls_get : ∀ (m : Int) (sl : List Sl) (j : Nat) (t : Sl), sl[j]? = some t → (mkSls m sl)[j]? = some (mkSl (m + cS (sl.take j)) t)
  | _, [], _, _, h => by simp at h
  | m, u :: sl, 0, t, h => by
    simp at h
    subst h
    simp [mkSls, cS]
  | m, u :: sl, j + 1, t, h => by
    simp at h
    have := mkSls_get (m + (2 + 7 * cnt u.val)) sl j t h
    simp only [mkSls, List.getElem?_cons_succ, List.take_succ_cons, this, cS]
    rw [show m + (2 + 7 * (cnt u.val : Int)) + (cS (sl.take j) : Int) = m + ((2 + 7 * cnt u.val + cS (sl.take j) : Nat) : Int) by push_cast; omega]

end Go.Proofs.YtdgfpfkhcojgaaaGreatDoor.tree

/-
  A value at a key, of the model.
  Conditions: the values hold at most 10^9 values; the package variables of the library's reading of numbers hold what the program's text lays.
-/
namespace Go.Proofs.YtdgfpfkhcojgaaaGreatDoor.tree
open Go.ChangeShapes Go.WideShapes Go.ChangeAt Go.RowKit
set_option linter.unusedVariables false

theorem specMax' (a b : Int) (w : World) : Calls Tryz.prog 103 #[.int .i64 a, .int .i64 b] w fun e w' => e = .returned (.int .i64 (nums.mx a b)) ∧ w = w' := by
  by_cases h : a < b
  all_goals
    go_enter Tryz.func103, Tryz.ntmps103
    go_wp2
    go_ret
    exact ⟨nums.ret_int (by unfold nums.mx; split <;> omega), rfl⟩

/-- append of items, of none too. -/
theorem run_append_A {P : Program} (w : World) (base : Nat) (t ty e : TypeId) (i : TypeInfo) (z : Value) (size bytes : Nat) (ht : P.underlying t = some (.slice e)) (hi : P.info? e = some i) (hz : i.zero = some z)
    (hsize : i.size = size) (hby : i.bytes = bytes) (hzs : z.cells.size = size) (hsz : 0 < size) (v : Value) (n : Nat) (xs : List Value) (hown : w.ownsRow base e size v n xs)
    (A : Option Addr) (m c : Nat) (news : List Value) (hl : news.length = m * size) (hnews : ∀ j u, news[j]? = some u → ∃ a, A = some a ∧ w.cell? (a.add j) = some u) (h1 : ∀ u ∈ news, u.oneCell' = true)
    (h63 : n + m ≤ maxLen) (hbytes : (n + m) * bytes ≤ 140737488355328) (hbase : base ≤ w.heap.size) (hA : A = none → m = 0) :
    ∃ v' w', (Builtin.append_ #[t, t] ty #[v, .slice A m c]).run P w = .ok v' w' ∧ w'.ownsRow base e size v' (n + m) (xs ++ news) ∧ w.grownBy w' v.ownBlock ∧ (v' = .slice none 0 0 ↔ v = .slice none 0 0 ∧ m = 0) := by
  cases A with
  | some a =>
    exact run_append_own (P := P) w base t ty e i z size bytes ht hi hz hsize hby hzs hsz v n xs hown a m c news hl (fun j u hj => by
      obtain ⟨a', e, h⟩ := hnews j u hj
      obtain rfl := Option.some.inj e
      exact h) h1 h63 hbytes hbase
  | none =>
    have h0 := hA rfl
    subst h0
    have hn : news = [] := List.eq_nil_of_length_eq_zero (by rw [hl]; omega)
    subst hn
    refine ⟨v, w, ?_, by rw [List.append_nil]; exact hown, ⟨rfl, rfl, rfl, Nat.le_refl _, fun _ _ _ => rfl⟩, by simp⟩
    rcases hown.2 with ⟨rfl, rfl⟩ | ⟨g, cap, cur, rfl, -, -, hnc, -⟩
    · simp [Builtin.append_, run_underlying ht, sizeOf, typeInfo, hi, Builtin.lenOf, Builtin.firstCells]
    · simp [Builtin.append_, run_underlying ht, sizeOf, typeInfo, hi, Builtin.lenOf, Builtin.firstCells, storeCells, hnc]

set_option maxRecDepth 100000 in
set_option maxHeartbeats 3200000 in
theorem l6Set_s (t : Tr) (v : Value) (y : Ky) (u : Tr) (vu : Value) (w : World) (S : Nat → Prop) (h : TIn w S t v) (hu : TIn w S u vu) (hy : I64 y.num ∧ y.str.size ≤ maxLen) (hN : cnt t ≤ 1000000000) (hk4 : ∀ k n s x ks vs, t = .mk k n s x ks vs → k = 4) (hnum : y.text = false → y.num < 9223372036854775807) :
    Calls Tryz.prog 62 #[v, kyV y, vu] w (OutV w (setT t y u) (fun _ => True)) := by
  obtain ⟨k, n, s, x, ks, vs⟩ := t
  obtain rfl := hk4 _ _ _ _ _ _ rfl
  obtain ⟨ku, nu, su, xu, ksu, vsu⟩ := u
  obtain ⟨A, c, rfl, hk, hin⟩ := h.out
  obtain ⟨Au, cu, rfl, hku, hinu⟩ := hu.out
  have hcap := h.cap
  have FI := fun w h => findV_s (.mk 4 n s x ks vs) (vV 4 n s x A vs.length c) y w S h
  obtain ⟨L, HL⟩ : ∃ L, Hid (vs.length = L) := ⟨_, Lib.hid rfl⟩
  obtain ⟨Lu, HLu⟩ : ∃ L, Hid (vsu.length = L) := ⟨_, Lib.hid rfl⟩
  have hm3 : L ≤ 1000000000 := by have := cnts_len vs; rw [cnt_mk'] at hN; rw [← HL.out]; omega
  have hkl : Hid (ks.length = L) := Lib.hid (by rw [← HL.out]; exact hin.1)
  have hcc : Hid (L ≤ c) := Lib.hid (by rw [← HL.out]; exact hcap.1)
  rw [HL.out] at h FI
  rw [HLu.out] at hu
  have HT := Lib.hid h
  have HTu := Lib.hid hu
  obtain ⟨cs, hcl, hsrc, hone, hit⟩ := hin.cellsA
  rw [HL.out] at hcl hit
  have HAN : Hid (A = none → L = 0) := Lib.hid (fun e => by
    subst e
    rcases Nat.eq_zero_or_pos L with h0 | h0
    · exact h0
    · obtain ⟨_, _, C, hc, -⟩ := hin
      obtain ⟨a, ha, -⟩ := hc 0 (by rw [HL.out]; exact h0)
      cases ha)
  have HCL := Lib.hid hcl
  have HIT := Lib.hid hit
  have HF := Lib.hid FI
  have HK := Lib.hid hk
  have HY := Lib.hid hy
  obtain ⟨i0, hi, hz⟩ := ie_info
  -- the boxes, the copy of the items
  rw [HL.out, HLu.out]
  obtain ⟨yb, yn, ys⟩ := y
  simp only at hnum
  obtain ⟨W, HW⟩ : ∃ W, Hid (W = (((w.alloc (.cells #[.int .i64 4, .int .i64 n, .string s, .int .i64 x, .slice A L c] IV)).alloc (.cells #[.bool yb, .int .i64 yn, .string ys] IK)).alloc (.cells #[.int .i64 ku, .int .i64 nu, .string su, .int .i64 xu, .slice Au Lu cu] IV)).alloc (.cells #[.int .i64 0, .int .i64 0, .string ⟨#[]⟩, .int .i64 0, .slice none 0 0] IV)) := ⟨_, Lib.hid rfl⟩
  obtain ⟨a0, a1, a2, a3, az, ab⟩ := al4 w _ _ _ _ _ _ _ _ _ HW.out
  obtain ⟨V, HV⟩ : ∃ V, Hid (V = (W.alloc (.cells #[.int .i64 4, .int .i64 n, .string s, .int .i64 x, .slice A L c] IV)).alloc (.cells #[] IE)) := ⟨_, Lib.hid rfl⟩
  have kv : ∀ {q : Nat} {o : Obj}, W.heap[q]? = some o → V.heap[q]? = some o := fun {q o} hq => by rw [HV.out]; exact keepAlloc (keepAlloc hq)
  have hVs : V.heap.size = w.heap.size + 1 + 1 + 1 + 1 + 1 + 1 := by rw [HV.out]; simp [az]
  have a4 : V.heap[w.heap.size + 1 + 1 + 1 + 1]? = some (.cells #[.int .i64 4, .int .i64 n, .string s, .int .i64 x, .slice A L c] IV (0, 0)) := by
    have := heap_alloc_new W (.cells #[.int .i64 4, .int .i64 n, .string s, .int .i64 x, .slice A L c] IV)
    rw [az] at this
    rw [HV.out]
    exact keepAlloc this
  have hBV : Below w.heap.size w V := by rw [HV.out]; exact bs ab (bs (b1 W _) (b1 _ _))
  have own0 : V.ownsRow (w.heap.size + 1 + 1 + 1 + 1 + 1) IE 8 (.slice (some ⟨w.heap.size + 1 + 1 + 1 + 1 + 1, 0, none⟩) 0 0) 0 [] := by
    have h1 : (W.alloc (.cells #[.int .i64 4, .int .i64 n, .string s, .int .i64 x, .slice A L c] IV)).heap.size = w.heap.size + 1 + 1 + 1 + 1 + 1 := by simp [az]
    have := World.ownsRow_made (base := w.heap.size + 1 + 1 + 1 + 1 + 1) (e := IE) (size := 8) (W.alloc (.cells #[.int .i64 4, .int .i64 n, .string s, .int .i64 x, .slice A L c] IV)) #[] 0 (by rw [h1]; exact Nat.le_refl _) (Nat.zero_le _) rfl
    rw [h1] at this
    rw [HV.out]
    exact this
  obtain ⟨v5, W5, hr1, own1, gb1, hn1⟩ := run_append_A (P := Tryz.prog) V (w.heap.size + 1 + 1 + 1 + 1 + 1) 30 30 IE i0 _ 8 96 Tryz.underlying30 hi hz.1 hz.2.1 hz.2.2 rfl (by decide) _ 0 [] own0 A L c cs hcl
    (fun j v hv => by
      obtain ⟨a, e, h⟩ := hsrc j v hv
      exact ⟨a, e, cell_stays (fun hlt => hBV.block _ hlt) h⟩) hone (by unfold maxLen; omega) (by omega) (by omega) HAN.out
  rcases own1.2 with ⟨rfl, -⟩ | ⟨g5, c5, cur5, rfl, hb5, hg5, hnc5, hcm5, hcs5, htk5⟩
  · exact absurd (hn1.1 rfl).1 (by simp)
  rw [Nat.zero_add] at hr1 hnc5 htk5
  rw [List.nil_append] at htk5
  have k5 : ∀ {q : Nat} {o : Obj}, q < w.heap.size + 1 + 1 + 1 + 1 + 1 → V.heap[q]? = some o → W5.heap[q]? = some o := fun {q o} hlt hq => (gb1.block q (by omega) (fun e => by simp [Value.ownBlock] at e; omega)).trans hq
  have hB5 : Below w.heap.size w W5 := grown_below' hBV gb1 (by omega) (fun b e => by simp [Value.ownBlock] at e; omega)
  have A05 := k5 (by omega) (kv a0)
  have A15 := k5 (by omega) (kv a1)
  have A25 := k5 (by omega) (kv a2)
  have A35 := k5 (by omega) (kv a3)
  have A45 := k5 (by omega) a4
  obtain ⟨W6, HW6⟩ : ∃ W6, Hid (W6 = W5.setCell ⟨w.heap.size + 1 + 1 + 1 + 1, 4, none⟩ (.slice (some ⟨g5, 0, none⟩) L c5)) := ⟨_, Lib.hid rfl⟩
  have k6 : ∀ {q : Nat} {o : Obj}, q ≠ w.heap.size + 1 + 1 + 1 + 1 → W5.heap[q]? = some o → W6.heap[q]? = some o := fun {q o} hne hq => by rw [HW6.out, set_other hne]; exact hq
  have A06 := k6 (by omega) A05
  have A16 := k6 (by omega) A15
  have A26 := k6 (by omega) A25
  have A36 := k6 (by omega) A35
  have A46 : W6.heap[w.heap.size + 1 + 1 + 1 + 1]? = some (.cells #[.int .i64 4, .int .i64 n, .string s, .int .i64 x, .slice (some ⟨g5, 0, none⟩) L c5] IV (0, 0)) := by rw [HW6.out]; exact set_heap A45 4 _
  have AG6 : W6.heap[g5]? = some (.cells cur5 IE (0, 0)) := by rw [HW6.out, set_other (by omega)]; exact hg5
  have hB6 : Below w.heap.size w W6 := by rw [HW6.out]; exact hB5.setCell (show w.heap.size ≤ w.heap.size + 1 + 1 + 1 + 1 by omega) _
  obtain ⟨rm0, fm0⟩ := rowc (show V.heap[w.heap.size]? = _ from kv a0)
  obtain ⟨rm4, fm4⟩ := rowc A45
  obtain ⟨r06, f06⟩ := rowc A06
  obtain ⟨r16, f16⟩ := rowc A16
  rw [HV.out] at hr1 rm0 fm0
  rw [HW6.out] at r06 f06 r16 f16
  have hat5 : ∀ p, p < L * 8 → cur5[p]? = cs[p]? := fun p hp => by rw [← htk5, List.getElem?_take_of_lt hp, Array.getElem?_toList]
  have HAT := Lib.hid hat5
  have HG6 := Lib.hid AG6
  have HC5 := Lib.hid (And.intro hnc5 hcm5)
  have HCS5 := Lib.hid hcs5
  have HTK5 := Lib.hid htk5
  have HB6 := Lib.hid hB6
  have HLE := Lib.hid hb5
  have H26 := Lib.hid A26
  have H06 := Lib.hid A06
  have H16 := Lib.hid A16
  have H36 := Lib.hid A36
  have H46 := Lib.hid A46
  have HII := Lib.hid hi
  have HZZ := Lib.hid hz
  have HWa := Lib.hid az
  clear h hu hin hN hcap hk hy FI hcl hsrc hone hit hku hinu hi hz a0 a1 a2 a3 ab kv hVs a4 hBV own0 own1 gb1 hn1 hb5 hg5 hnc5 hcm5 hcs5 htk5 k5 k6 hB5 A05 A15 A25 A35 A45 A06 A16 A26 A36 A46 AG6 hB6 hat5
  rcases posV_cases 4 n s x ks vs ⟨yb, yn, ys⟩ with hp | ⟨i, hp, hi, -⟩
  · rw [setT_none hp]
    rw [hp] at HF
    clear hp
    obtain ⟨X, HX⟩ : ∃ X, Hid (nxt x ⟨yb, yn, ys⟩ = X) := ⟨_, Lib.hid rfl⟩
    rw [HX.out]
    unfold kyV at HF ⊢
    go_enter Tryz.func62, Tryz.ntmps62
    rw [HW.out] at hr1 rm0 fm0
    unfold IE IV IK at hr1 rm0 fm0
    go_wp2_with (first
      | (at_builtin; refine wpList_append_eq (by rfl) _ _ _ (by rfl) (by with_reducible exact hr1) (by rfl) (by rfl) ?_)
      | fail)
    rw [← HW6.out]
    refine (HF.out _ (HT.out.below' HB6.out)).mono ?_
    rintro e w2 ⟨rfl, hb2⟩
    have hle := HLE.out
    have K26 := Lib.hid (carry hb2 H26.out)
    have K16 := Lib.hid (carry hb2 H16.out)
    have K36 := Lib.hid (carry hb2 H36.out)
    have K46 := Lib.hid (carry hb2 H46.out)
    have KG6 := Lib.hid (carry hb2 HG6.out)
    have KB6 := Lib.hid (bs HB6.out hb2)
    clear hb2 rm0 fm0 rm4 fm4 r06 f06 r16 f16 hr1
    obtain ⟨r1, f1⟩ := rowc K16.out
    obtain ⟨r2, f2⟩ := rowc K26.out
    obtain ⟨r3, f3⟩ := rowc K36.out
    obtain ⟨r4, f4⟩ := rowc K46.out
    have n2 : g5 ≠ w.heap.size + 1 + 1 := by omega
    have n3 : g5 ≠ w.heap.size + 1 + 1 + 1 := by omega
    have n4 : g5 ≠ w.heap.size + 1 + 1 + 1 + 1 := by omega
    have hc5 := HC5.out
    have hcl := HCL.out
    have g2s : w.heap.size + 1 + 1 + 1 + 1 < w2.heap.size := (Array.getElem?_eq_some_iff.1 K46.out).1
    have g5s : g5 < w2.heap.size := (Array.getElem?_eq_some_iff.1 KG6.out).1
    obtain ⟨V2, HV2⟩ : ∃ V, Hid (V = w2.alloc (.cells #[.bool yb, .int .i64 yn, .string ys, .int .i64 ku, .int .i64 nu, .string su, .int .i64 xu, .slice Au Lu cu] IE)) := ⟨_, Lib.hid rfl⟩
    have kv2 : ∀ {q : Nat} {o : Obj}, w2.heap[q]? = some o → V2.heap[q]? = some o := fun {q o} hq => by rw [HV2.out]; exact keepAlloc hq
    have hV2s : V2.heap.size = w2.heap.size + 1 := by rw [HV2.out]; simp
    have hBV2 : Below w.heap.size w V2 := by rw [HV2.out]; exact bs KB6.out (b1 w2 _)
    have own2 : V2.ownsRow (w.heap.size + 1 + 1 + 1 + 1 + 1) IE 8 (.slice (some ⟨g5, 0, none⟩) L c5) L cs := ⟨hcl, .inr ⟨g5, c5, cur5, rfl, hle, kv2 KG6.out, hc5.1, hc5.2, HCS5.out, HTK5.out⟩⟩
    obtain ⟨v7, W7, hr2, own3, gb2, hn2⟩ := run_append_own (P := Tryz.prog) V2 (w.heap.size + 1 + 1 + 1 + 1 + 1) 30 30 IE i0 _ 8 96 Tryz.underlying30 HII.out HZZ.out.1 HZZ.out.2.1 HZZ.out.2.2 rfl (by decide) _ L cs own2 ⟨w2.heap.size, 0, none⟩ 1 1 [.bool yb, .int .i64 yn, .string ys, .int .i64 ku, .int .i64 nu, .string su, .int .i64 xu, .slice Au Lu cu] rfl
      (by rw [HV2.out]; exact eight_new _ _ _ _ _ _ _ _ _ _) (eight_one _ _ _ _ _ _ _ _ _ _) (by unfold maxLen; omega) (by omega) (by omega)
    rcases own3.2 with ⟨rfl, h0⟩ | ⟨g7, c7, cur7, rfl, hb7, hg7, hnc7, hcm7, hcs7, htk7⟩
    · exact absurd h0 (by omega)
    have k7 : ∀ {q : Nat} {o : Obj}, q < w.heap.size + 1 + 1 + 1 + 1 + 1 → w2.heap[q]? = some o → W7.heap[q]? = some o := fun {q o} hlt hq => (gb2.block q (by omega) (fun e => by simp [Value.ownBlock] at e; omega)).trans (kv2 hq)
    have hB7 : Below w.heap.size w W7 := grown_below' hBV2 gb2 (by omega) (fun b e => by simp [Value.ownBlock] at e; omega)
    have A17 := k7 (by omega) K16.out
    have A37 := k7 (by omega) K36.out
    have A47 := k7 (by omega) K46.out
    obtain ⟨W8, HW8⟩ : ∃ W, Hid (W = W7.setCell ⟨w.heap.size + 1 + 1 + 1 + 1, 4, none⟩ (.slice (some ⟨g7, 0, none⟩) (L + 1) c7)) := ⟨_, Lib.hid rfl⟩
    have A48 : W8.heap[w.heap.size + 1 + 1 + 1 + 1]? = some (.cells #[.int .i64 4, .int .i64 n, .string s, .int .i64 x, .slice (some ⟨g7, 0, none⟩) (L + 1) c7] IV (0, 0)) := by rw [HW8.out]; exact set_heap A47 4 _
    have k8 : ∀ {q : Nat} {o : Obj}, q ≠ w.heap.size + 1 + 1 + 1 + 1 → W7.heap[q]? = some o → W8.heap[q]? = some o := fun {q o} hne hq => by rw [HW8.out, set_other hne]; exact hq
    have A18 := k8 (by omega) A17
    have A38 := k8 (by omega) A37
    have AG8 := k8 (by omega) hg7
    have hB8 : Below w.heap.size w W8 := by rw [HW8.out]; exact hB7.setCell (show w.heap.size ≤ w.heap.size + 1 + 1 + 1 + 1 by omega) _
    have hat7 : ∀ p, p < (L + 1) * 8 → cur7[p]? = (cs ++ [.bool yb, .int .i64 yn, .string ys, .int .i64 ku, .int .i64 nu, .string su, .int .i64 xu, .slice Au Lu cu])[p]? := fun p hp => by
      rw [← htk7, List.getElem?_take_of_lt (by omega), Array.getElem?_toList]
    have hin8 : ∀ (WE : World), WE.heap[g7]? = some (.cells cur7 IE (0, 0)) → Below w.heap.size w WE → IsIn WE (fun b => b ≠ w.heap.size + 1 + 1 + 1) (ks ++ [⟨yb, yn, ys⟩]) (vs ++ [.mk ku nu su xu ksu vsu]) (some ⟨g7, 0, none⟩) := fun WE hg hBE => by
      have hsS : ∀ b, b < w.heap.size → b ≠ w.heap.size + 1 + 1 + 1 := fun b hb => by omega
      have hsB : ∀ b, b < w.heap.size → b < w.heap.size → WE.heap[b]? = w.heap[b]? := fun b _ hlt => hBE.block b hlt
      have hvl : (vs ++ [Tr.mk ku nu su xu ksu vsu]).length = L + 1 := by rw [List.length_append, HL.out]; rfl
      have uT := HTu.out.lt'
      refine isin_row hg (by omega) (by rw [hvl, List.length_append, hkl.out]; rfl) (by rw [hvl]; unfold maxLen; omega) fun j hj => ?_
      rw [hvl] at hj
      by_cases e : j = L
      · subst e
        refine ⟨⟨yb, yn, ys⟩, ku, nu, su, xu, ksu, vsu, Au, cu, by rw [List.getElem?_append_right (by rw [hkl.out]; omega), hkl.out]; simp, by rw [List.getElem?_append_right (by rw [HL.out]; omega), HL.out]; simp, HY.out, fun q hq => ?_, by rw [HLu.out]; exact uT.stays hsS hsB⟩
        rw [hat7 _ (by omega), List.getElem?_append_right (by omega), hcl, Nat.add_sub_cancel_left, HLu.out]
        match q, hq with
        | 0, _ => rfl
        | 1, _ => rfl
        | 2, _ => rfl
        | 3, _ => rfl
        | 4, _ => rfl
        | 5, _ => rfl
        | 6, _ => rfl
        | 7, _ => rfl
      · obtain ⟨y1, k1, n1, s1, x1, ks1, vs1, A1', c1', q1, q2, q3, -, q5, q6⟩ := HIT.out j (by omega)
        refine ⟨y1, k1, n1, s1, x1, ks1, vs1, A1', c1', by rw [List.getElem?_append_left (by rw [hkl.out]; omega)]; exact q1, by rw [List.getElem?_append_left (by rw [HL.out]; omega)]; exact q2, q3, fun q hq => ?_, q6.lt'.stays hsS hsB⟩
        rw [hat7 _ (by omega), List.getElem?_append_left (by omega)]
        exact q5 q hq
    have hTE : ∀ (WE : World) (X : Int), I64 X → WE.heap[g7]? = some (.cells cur7 IE (0, 0)) → Below w.heap.size w WE → TIn WE (fun b => b ≠ w.heap.size + 1 + 1 + 1) (.mk 4 n s X (ks ++ [⟨yb, yn, ys⟩]) (vs ++ [.mk ku nu su xu ksu vsu])) (vV 4 n s X (some ⟨g7, 0, none⟩) (L + 1) c7) := fun WE X hX hg hBE => by
      have hvl : (vs ++ [Tr.mk ku nu su xu ksu vsu]).length = L + 1 := by rw [List.length_append, HL.out]; rfl
      have := TIn.of (k := 4) (n := n) (x := X) (s := s) c7 ⟨HK.out.1, HK.out.2.1, hX, HK.out.2.2.2⟩ (hin8 WE hg hBE) (by rw [hvl]; exact ⟨hnc7, hcm7⟩)
      rw [hvl] at this
      exact this
    obtain ⟨r17, f17⟩ := rowc A17
    obtain ⟨r47, f47⟩ := rowc A47
    obtain ⟨r18, f18⟩ := rowc A18
    obtain ⟨r38, f38⟩ := rowc A38
    obtain ⟨r48, f48⟩ := rowc A48
    rw [HW8.out] at r18 f18 r38 f38 r48 f48
    rw [HV2.out] at hr2
    have HG8 := Lib.hid AG8
    have HA38 := Lib.hid A38
    have HB8 := Lib.hid hB8
    have HTE0 := Lib.hid hTE
    have HLE7 := Lib.hid hb7
    have KK := HK.out
    have h0 := (rowc (keepAlloc (o' := .cells #[.bool yb, .int .i64 yn, .string ys, .int .i64 ku, .int .i64 nu, .string su, .int .i64 xu, .slice Au Lu cu] IE) K46.out)).1
    clear hle hc5 hcl g2s g5s kv2 hV2s hBV2 own2 own3 gb2 hn2 hb7 hg7 hnc7 hcm7 hcs7 htk7 k7 hB7 A17 A37 A47 A48 k8 A18 A38 AG8 hB8 hat7 hin8 hTE h0
    unfold IE at hr2
    cases yb with
    | true =>
      have eN : x = X := HX.out
      subst eN
      clear hnum
      have HTE := Lib.hid (HTE0.out W8 x KK.2.2.1 HG8.out HB8.out)
      have ER3 := Lib.hid HA38.out
      have HBE := Lib.hid HB8.out
      go_wp2_with (first
        | (at_builtin; refine wpList_append_eq (by rfl) _ _ _ (by rfl) (by with_reducible exact hr2) (by rfl) (by rfl) ?_)
        | fail)
      rw [← HW8.out]
      generalize hwF : (((((W8.setCell ⟨w.heap.size + 1 + 1 + 1, 0, none⟩ (.int .i64 4)).setCell ⟨w.heap.size + 1 + 1 + 1, 1, none⟩ (.int .i64 n)).setCell ⟨w.heap.size + 1 + 1 + 1, 2, none⟩ (.string s)).setCell ⟨w.heap.size + 1 + 1 + 1, 3, none⟩ (.int .i64 x)).setCell ⟨w.heap.size + 1 + 1 + 1, 4, none⟩ (.slice (some ⟨g7, 0, none⟩) (L + 1) c7)) = wF
      obtain ⟨rF, oF, bF⟩ := fill5 ER3.out hwF
      refine bodyPost_ret (v := vV 4 n s x (some ⟨g7, 0, none⟩) (L + 1) c7) ?_ rfl ?_
      · simp [results, Tryz.results62, go_sem, rF]
      · exact ⟨_, rfl, HTE.out.stays (fun _ _ => trivial) (fun b hb _ => oF b hb), bF _ _ (by omega) HBE.out⟩
    | false =>
      have hyn := hnum rfl
      have hyl := HY.out.1
      unfold I64 at hyl
      try simp only at hyl
      have MX := specMax' x (yn + 1)
      rw [max_nxt x ⟨false, yn, ys⟩ rfl, HX.out] at MX
      have hwy : IntKind.i64.wrap (yn + 1) = yn + 1 := by rw [IntKind.wrap_i64]; omega
      have hX : I64 X := by
        have hx := KK.2.2.1
        rw [← HX.out]
        unfold nxt I64 at *
        simp only
        split
        · exact hx
        · split
          · omega
          · exact hx
      obtain ⟨WE, HWE⟩ : ∃ W, Hid (W = W8.setCell ⟨w.heap.size + 1 + 1 + 1 + 1, 3, none⟩ (.int .i64 X)) := ⟨_, Lib.hid rfl⟩
      have hle7 := HLE7.out
      have HBE : Hid (Below w.heap.size w WE) := Lib.hid (by rw [HWE.out]; exact HB8.out.setCell (show w.heap.size ≤ w.heap.size + 1 + 1 + 1 + 1 by omega) _)
      have HTE := Lib.hid (HTE0.out WE X hX (by rw [HWE.out, set_other (by omega)]; exact HG8.out) HBE.out)
      have ER3 : Hid (WE.heap[w.heap.size + 1 + 1 + 1]? = some (.cells #[.int .i64 0, .int .i64 0, .string ⟨#[]⟩, .int .i64 0, .slice none 0 0] IV (0, 0))) := Lib.hid (by rw [HWE.out, set_other (by omega)]; exact HA38.out)
      clear hnum hX hle7
      go_wp2_with (first
        | (at_builtin; refine wpList_append_eq (by rfl) _ _ _ (by rfl) (by with_reducible exact hr2) (by rfl) (by rfl) ?_)
        | fail)
      refine (MX _).mono ?_
      rintro e w9 ⟨rfl, rfl⟩
      go_wp2_with (fail)
      rw [← HW8.out, ← HWE.out]
      generalize hwF : (((((WE.setCell ⟨w.heap.size + 1 + 1 + 1, 0, none⟩ (.int .i64 4)).setCell ⟨w.heap.size + 1 + 1 + 1, 1, none⟩ (.int .i64 n)).setCell ⟨w.heap.size + 1 + 1 + 1, 2, none⟩ (.string s)).setCell ⟨w.heap.size + 1 + 1 + 1, 3, none⟩ (.int .i64 X)).setCell ⟨w.heap.size + 1 + 1 + 1, 4, none⟩ (.slice (some ⟨g7, 0, none⟩) (L + 1) c7)) = wF
      obtain ⟨rF, oF, bF⟩ := fill5 ER3.out hwF
      refine bodyPost_ret (v := vV 4 n s X (some ⟨g7, 0, none⟩) (L + 1) c7) ?_ rfl ?_
      · simp [results, Tryz.results62, go_sem, rF]
      · exact ⟨_, rfl, HTE.out.stays (fun _ _ => trivial) (fun b hb _ => oF b hb), bF _ _ (by omega) HBE.out⟩
  · rw [setT_some hp]
    rw [hp] at HF
    have hiL : i < L := by rw [← hkl.out]; exact hi
    clear hp hi
    unfold kyV at HF ⊢
    go_enter Tryz.func62, Tryz.ntmps62
    rw [HW.out] at hr1 rm0 fm0
    unfold IE IV IK at hr1 rm0 fm0
    go_wp2_with (first
      | (at_builtin; refine wpList_append_eq (by rfl) _ _ _ (by rfl) (by with_reducible exact hr1) (by rfl) (by rfl) ?_)
      | fail)
    rw [← HW6.out]
    refine (HF.out _ (HT.out.below' HB6.out)).mono ?_
    rintro e w2 ⟨rfl, hb2⟩
    have hle := HLE.out
    have K26 := Lib.hid (carry hb2 H26.out)
    have K16 := Lib.hid (carry hb2 H16.out)
    have K36 := Lib.hid (carry hb2 H36.out)
    have K46 := Lib.hid (carry hb2 H46.out)
    have KG6 := Lib.hid (carry hb2 HG6.out)
    have KB6 := Lib.hid (bs HB6.out hb2)
    clear hb2 rm0 fm0 rm4 fm4 r06 f06 r16 f16 hr1
    obtain ⟨r1, f1⟩ := rowc K16.out
    obtain ⟨r2, f2⟩ := rowc K26.out
    obtain ⟨r3, f3⟩ := rowc K36.out
    obtain ⟨r4, f4⟩ := rowc K46.out
    have n2 : g5 ≠ w.heap.size + 1 + 1 := by omega
    have n3 : g5 ≠ w.heap.size + 1 + 1 + 1 := by omega
    have n4 : g5 ≠ w.heap.size + 1 + 1 + 1 + 1 := by omega
    obtain ⟨rg, fg⟩ := rowc KG6.out
    have hc5 := HC5.out
    have zg : ∀ q, q < 5 → ∃ u, w2.cell? ⟨g5, i * 8 + 3 + q, none⟩ = some u := fun q hq => ⟨_, (rg _).trans (Array.getElem?_eq_getElem (by rw [HCS5.out]; omega))⟩
    obtain ⟨z3, hz3⟩ := zg 0 (by omega)
    obtain ⟨z4, hz4⟩ := zg 1 (by omega)
    obtain ⟨z5, hz5⟩ := zg 2 (by omega)
    obtain ⟨z6, hz6⟩ := zg 3 (by omega)
    obtain ⟨z7, hz7⟩ := zg 4 (by omega)
    rw [Nat.add_zero] at hz3
    clear rg zg
    obtain ⟨WE, HWE⟩ : ∃ W3, Hid (W3 = ((((w2.setCell ⟨g5, i * 8 + 3, none⟩ (.int .i64 ku)).setCell ⟨g5, i * 8 + 3 + 1, none⟩ (.int .i64 nu)).setCell ⟨g5, i * 8 + 3 + 2, none⟩ (.string su)).setCell ⟨g5, i * 8 + 3 + 3, none⟩ (.int .i64 xu)).setCell ⟨g5, i * 8 + 3 + 4, none⟩ (.slice Au Lu cu)) := ⟨_, Lib.hid rfl⟩
    obtain ⟨AGE, oE, bE⟩ := put5_heap KG6.out HWE.out.symm
    have ER3 := Lib.hid ((oE _ (by omega)).trans K36.out)
    have HBE := Lib.hid (bE _ _ (by omega) KB6.out)
    have HTE : Hid (TIn WE (fun b => b ≠ w.heap.size + 1 + 1 + 1) (.mk 4 n s x ks (vs.set i (.mk ku nu su xu ksu vsu))) (vV 4 n s x (some ⟨g5, 0, none⟩) L c5)) := Lib.hid (by
      have hBE := HBE.out
      have hat := HAT.out
      have hsS : ∀ b, b < w.heap.size → b ≠ w.heap.size + 1 + 1 + 1 := fun b hb => by omega
      have hsB : ∀ b, b < w.heap.size → b < w.heap.size → WE.heap[b]? = w.heap[b]? := fun b _ hlt => hBE.block b hlt
      obtain ⟨y0, k0, n0, s0, x0, ks0, vs0, A0', c0', g1, g2, g3, -, g5', -⟩ := HIT.out i hiL
      have uT := HTu.out.lt'
      have hin4 := isin_put (w := WE) (S := fun b => b ≠ w.heap.size + 1 + 1 + 1) (g := g5) (i := i) (arr := cur5) (ks := ks) (vs := vs.set i (.mk ku nu su xu ksu vsu)) (y := y0) (k := ku) (n := nu) (x := xu) (s := su) (ks' := ksu) (vs' := vsu) (A := Au) (c := cu)
        (by rw [HLu.out]; exact AGE) n3 (by rw [List.length_set, hkl.out, HL.out]) (by rw [List.length_set, HL.out]; omega) (by rw [List.length_set, HL.out, HCS5.out]; omega) (by rw [List.length_set, HL.out]; exact hiL)
        g1 (by rw [List.getElem?_set_self (by rw [HL.out]; exact hiL)]) g3
        ((hat _ (by omega)).trans (g5' 0 (by omega))) ((hat _ (by omega)).trans (g5' 1 (by omega))) ((hat _ (by omega)).trans (g5' 2 (by omega)))
        (by rw [HLu.out]; exact uT.stays hsS hsB)
        (fun j hj hne => by
          rw [List.length_set, HL.out] at hj
          obtain ⟨y1, k1, n1, s1, x1, ks1, vs1, A1', c1', q1, q2, q3, -, q5, q6⟩ := HIT.out j hj
          exact ⟨y1, k1, n1, s1, x1, ks1, vs1, A1', c1', q1, by rw [List.getElem?_set_ne (fun e => hne e.symm)]; exact q2, q3, fun q hq => (hat _ (by omega)).trans (q5 q hq), q6.lt'.stays hsS hsB⟩)
      have := TIn.of c5 HK.out hin4 (by rw [List.length_set, HL.out]; exact hc5)
      rw [List.length_set, HL.out] at this
      exact this)
    clear AGE oE bE hle
    go_wp2_with (fail)
    rw [← HWE.out]
    generalize hwF : (((((WE.setCell ⟨w.heap.size + 1 + 1 + 1, 0, none⟩ (.int .i64 4)).setCell ⟨w.heap.size + 1 + 1 + 1, 1, none⟩ (.int .i64 n)).setCell ⟨w.heap.size + 1 + 1 + 1, 2, none⟩ (.string s)).setCell ⟨w.heap.size + 1 + 1 + 1, 3, none⟩ (.int .i64 x)).setCell ⟨w.heap.size + 1 + 1 + 1, 4, none⟩ (.slice (some ⟨g5, 0, none⟩) L c5)) = wF
    obtain ⟨rF, oF, bF⟩ := fill5 ER3.out hwF
    refine bodyPost_ret (v := vV 4 n s x (some ⟨g5, 0, none⟩) L c5) ?_ rfl ?_
    · simp [results, Tryz.results62, go_sem, rF]
    · exact ⟨_, rfl, HTE.out.stays (fun _ _ => trivial) (fun b hb _ => oF b hb), bF _ _ (by omega) HBE.out⟩

end Go.Proofs.YtdgfpfkhcojgaaaGreatDoor.tree

/-
  Rows of values: five cells written at once; the first j values of a row.
  Conditions: those that each theorem names.
-/
namespace Go.Proofs.YtdgfpfkhcojgaaaGreatDoor.tree
open Go.ChangeShapes Go.WideShapes Go.ChangeAt Go.RowKit
set_option linter.unusedVariables false

def set5 (arr : Array Value) (o : Nat) (c0 c1 c2 c3 c4 : Value) : Array Value := ((((arr.setIfInBounds o c0).setIfInBounds (o + 1) c1).setIfInBounds (o + 2) c2).setIfInBounds (o + 3) c3).setIfInBounds (o + 4) c4
theorem set5_size (arr : Array Value) (o : Nat) (c0 c1 c2 c3 c4 : Value) : (set5 arr o c0 c1 c2 c3 c4).size = arr.size := by simp [set5]
theorem set5_out (arr : Array Value) (o : Nat) (c0 c1 c2 c3 c4 : Value) (p : Nat) (h : p < o ∨ o + 5 ≤ p) : (set5 arr o c0 c1 c2 c3 c4)[p]? = arr[p]? := by
  unfold set5
  rw [Array.getElem?_setIfInBounds_ne (by omega), Array.getElem?_setIfInBounds_ne (by omega), Array.getElem?_setIfInBounds_ne (by omega), Array.getElem?_setIfInBounds_ne (by omega), Array.getElem?_setIfInBounds_ne (by omega)]
theorem set5_in (arr : Array Value) (o : Nat) (c0 c1 c2 c3 c4 : Value) (h : o + 5 ≤ arr.size) (q : Nat) (hq : q < 5) : (set5 arr o c0 c1 c2 c3 c4)[o + q]? = (#[c0, c1, c2, c3, c4] : Array Value)[q]? := by
  unfold set5
  have hq' : q = 0 ∨ q = 1 ∨ q = 2 ∨ q = 3 ∨ q = 4 := by omega
  rcases hq' with rfl | rfl | rfl | rfl | rfl <;> simp [Array.getElem?_setIfInBounds] <;> omega
theorem set5_heap {W : World} {g : Nat} {arr : Array Value} {t : TypeId} (h : W.heap[g]? = some (.cells arr t (0, 0))) (o : Nat) (c0 c1 c2 c3 c4 : Value) :
    (((((W.setCell ⟨g, o, none⟩ c0).setCell ⟨g, o + 1, none⟩ c1).setCell ⟨g, o + 2, none⟩ c2).setCell ⟨g, o + 3, none⟩ c3).setCell ⟨g, o + 4, none⟩ c4).heap[g]? = some (.cells (set5 arr o c0 c1 c2 c3 c4) t (0, 0)) :=
  set_heap (set_heap (set_heap (set_heap (set_heap h _ _) _ _) _ _) _ _) _ _
theorem set5_other {W : World} {g k : Nat} (h : k ≠ g) (o : Nat) (c0 c1 c2 c3 c4 : Value) :
    (((((W.setCell ⟨g, o, none⟩ c0).setCell ⟨g, o + 1, none⟩ c1).setCell ⟨g, o + 2, none⟩ c2).setCell ⟨g, o + 3, none⟩ c3).setCell ⟨g, o + 4, none⟩ c4).heap[k]? = W.heap[k]? := by
  iterate 5 refine (set_other h).trans ?_
  rfl
theorem iv_info' : ∃ i, Tryz.prog.info? IV = some i ∧ (i.zero = some (.agg #[.int .i64 0, .int .i64 0, .string ⟨#[]⟩, .int .i64 0, .slice none 0 0]) ∧ i.size = 5 ∧ i.bytes = 64) := by
  have : (Tryz.prog.info? IV).map (fun i => (i.zero, i.size, i.bytes)) = some (some (.agg #[.int .i64 0, .int .i64 0, .string ⟨#[]⟩, .int .i64 0, .slice none 0 0]), 5, 64) := by kernel_rfl
  cases hq : Tryz.prog.info? IV with
  | none => rw [hq] at this; cases this
  | some i => rw [hq] at this; simp at this; exact ⟨i, rfl, this⟩
/-- The first j values of a row. -/
def V5 (w : World) (lo : Nat) (vs : List Tr) (arr : Array Value) (j : Nat) : Prop :=
  ∀ i, i < j → ∃ k n s x ks' vs' A' c', vs[i]? = some (.mk k n s x ks' vs') ∧ TIn w (Nw lo w) (.mk k n s x ks' vs') (vV k n s x A' vs'.length c') ∧ ∀ q, q < 5 → arr[i * 5 + q]? = (#[.int .i64 k, .int .i64 n, .string s, .int .i64 x, .slice A' vs'.length c'] : Array Value)[q]?
theorem V5.keep {w w' : World} {lo : Nat} {vs : List Tr} {arr : Array Value} {j : Nat} (h : V5 w lo vs arr j) (hb : ∀ b, lo ≤ b → b < w.heap.size → w'.heap[b]? = w.heap[b]?) : V5 w' lo vs arr j := fun i hi => by
  obtain ⟨k, n, s, x, ks', vs', A', c', e1, e2, e3⟩ := h i hi
  exact ⟨k, n, s, x, ks', vs', A', c', e1, e2.nw (Nat.le_refl _) fun b hb' hlt => hb b hb' hlt, e3⟩
theorem V5.more {w : World} {lo : Nat} {vs : List Tr} {arr : Array Value} {j : Nat} (h : V5 w lo vs arr j) (hs : j * 5 + 5 ≤ arr.size) {k n x : Int} {s : ByteArray} {ks' : List Ky} {vs' : List Tr} {A' : Option Addr} {c' : Nat} (hv : vs[j]? = some (.mk k n s x ks' vs')) (hT : TIn w (Nw lo w) (.mk k n s x ks' vs') (vV k n s x A' vs'.length c')) :
    V5 w lo vs (set5 arr (j * 5) (.int .i64 k) (.int .i64 n) (.string s) (.int .i64 x) (.slice A' vs'.length c')) (j + 1) := by
  intro i hi
  by_cases e : i = j
  · subst e
    exact ⟨k, n, s, x, ks', vs', A', c', hv, hT, fun q hq => set5_in _ _ _ _ _ _ _ hs q hq⟩
  · obtain ⟨k2, n2, s2, x2, ks2, vs2, A2, c2, e1, e2, e3⟩ := h i (by omega)
    exact ⟨k2, n2, s2, x2, ks2, vs2, A2, c2, e1, e2, fun q hq => by rw [set5_out _ _ _ _ _ _ _ _ (by omega)]; exact e3 q hq⟩
theorem V5.vin {w : World} {lo g : Nat} {vs : List Tr} {arr : Array Value} (h : V5 w lo vs arr vs.length) (hg : w.heap[g]? = some (.cells arr IV (0, 0))) (hlo : g ≤ lo) : VIn w (Nw g w) vs (some ⟨g, 0, none⟩) := fun i t ht => by
  obtain ⟨k, n, s, x, ks', vs', A', c', e1, e2, e3⟩ := h i (List.getElem?_eq_some_iff.1 ht).1
  rw [ht] at e1
  obtain rfl := Option.some.inj e1
  have at_ : ∀ q, q < 5 → w.cell? ⟨g, i * 5 + q, none⟩ = (#[.int .i64 k, .int .i64 n, .string s, .int .i64 x, .slice A' vs'.length c'] : Array Value)[q]? := fun q hq => by rw [cell_of_row w g _ arr IV _ hg]; exact e3 q hq
  refine ⟨_, k, n, s, x, ks', vs', A', c', rfl, ⟨Nat.le_refl _, _, _, hg⟩, rfl, e2.stays (fun b hb => ⟨Nat.le_trans hlo hb.1, hb.2⟩) (fun _ _ _ => rfl), ?_⟩
  rw [Addr.add_lit, Nat.zero_add]
  exact ⟨at_ 0 (by omega), at_ 1 (by omega), at_ 2 (by omega), at_ 3 (by omega), at_ 4 (by omega)⟩
end Go.Proofs.YtdgfpfkhcojgaaaGreatDoor.tree

