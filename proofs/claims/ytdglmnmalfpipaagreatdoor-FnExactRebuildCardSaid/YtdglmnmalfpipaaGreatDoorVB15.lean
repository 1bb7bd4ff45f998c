/-
  What the texts behind this one use: 4 parts of one proof.
  Conditions: those that each theorem names.
-/
import Derived.Test.YtdglmnmalfpipaaGreatDoorVB9
import Derived.Test.YtdglmnmalfpipaaGreatDoorVSMarkA
import Derived.Test.YtdglmnmalfpipaaGreatDoorVSLawBox
import Derived.Test.YtdglmnmalfpipaaGreatDoorVSHeld
import Derived.Test.YtdglmnmalfpipaaGreatDoorVSCpW
import Derived.Test.YtdglmnmalfpipaaGreatDoorVB12
/-
  The laws' marks, put into a table that the law has made.
  Conditions: those that each theorem names.
-/
namespace Go.Proofs.YtdglmnmalfpipaaGreatDoor.tree
open Go.ChangeShapes Go.WideShapes Go.ChangeAt Go.RowKit
set_option linter.unusedVariables false

section
variable {S : Nat → Prop} {w w' : World}
theorem At10.at8 {q : Addr} {y : Ky} {k n x l : Int} {s : ByteArray} {A : Option Addr} {L c : Nat} {b : Bool} (h : At10 w q y k n s x A L c b l) : At8 w q y k n s x A L c := ⟨h.c0, h.c1, h.c2, h.c3, h.c4, h.c5, h.c6, h.c7⟩
theorem At10.sim {g o : Nat} {y : Ky} {k n x l : Int} {s : ByteArray} {A : Option Addr} {L c : Nat} {b : Bool} (h : At10 w ⟨g, o, none⟩ y k n s x A L c b l) (hs : Sims S w w') (hg : S g) (hy : I64 y.num ∧ y.str.size ≤ maxLen) (hk : I64 k ∧ I64 n ∧ I64 x ∧ s.size ≤ maxLen) (hl : I64 l) :
    ∃ y' k' n' s' x' b' l', At10 w' ⟨g, o, none⟩ y' k' n' s' x' A L c b' l' ∧ (I64 y'.num ∧ y'.str.size ≤ maxLen) ∧ (I64 k' ∧ I64 n' ∧ I64 x' ∧ s'.size ≤ maxLen) ∧ I64 l' := by
  obtain ⟨y', k', n', s', x', h8, hy', hk'⟩ := h.at8.sim hs hg hy hk
  obtain ⟨u8, q8, s8⟩ := hs.cell _ _ hg h.c8
  obtain ⟨b', rfl⟩ := s8.bool
  obtain ⟨u9, q9, s9⟩ := hs.cell _ _ hg h.c9
  obtain ⟨l', rfl, hl'⟩ := s9.int hl
  exact ⟨y', k', n', s', x', b', l', ⟨h8.c0, h8.c1, h8.c2, h8.c3, h8.c4, h8.c5, h8.c6, h8.c7, q8, q9⟩, hy', hk', hl'⟩
theorem spot_no {p : Addr} {u : Value} (h : w.cell? p = some u) : p.spot = none := by
  unfold World.cell? at h
  split at h
  · cases hs : p.spot with
    | none => rfl
    | some z => rw [hs] at h; simp at h
  · cases h
/-- A slot behind marks: its tree has its form. -/
theorem SIn.simAt {sl : List Sl} {A : Option Addr} (h : SIn w S sl A) (hs : Sims S w w') {j : Nat} {t : Sl} (ht : sl[j]? = some t) : ∃ a y k n s x ks vs A' c' b l, A = some a ∧ S a.block ∧ (a.add (j * 10)).spot = none ∧ (I64 y.num ∧ y.str.size ≤ maxLen) ∧ (I64 k ∧ I64 n ∧ I64 x ∧ s.size ≤ maxLen) ∧ I64 l ∧
    nrm (.mk k n s x ks vs) = nrm t.val ∧ TIn w' S (.mk k n s x ks vs) (vV k n s x A' vs.length c') ∧ At10 w' (a.add (j * 10)) y k n s x A' vs.length c' b l := by
  obtain ⟨a, k, n, s, x, ks', vs', A', c', rfl, hSa, hy, hl, hv, hT, hc⟩ := h j t ht
  obtain ⟨t2, hn, hT2⟩ := hT.sim hs
  obtain ⟨k2, n2, s2, x2, ks2, vs2⟩ := t2
  obtain ⟨A2, c2, e2, hk2, -⟩ := hT2.out
  obtain ⟨rfl, rfl, rfl, rfl, rfl, hl2, rfl⟩ : k = k2 ∧ n = n2 ∧ s = s2 ∧ x = x2 ∧ A' = A2 ∧ vs'.length = vs2.length ∧ c' = c2 := by simpa using e2
  have hsp := spot_no hc.c0
  obtain ⟨gb, go, sp, hadd⟩ : ∃ gb go sp, a.add (j * 10) = ⟨gb, go, sp⟩ := ⟨_, _, _, rfl⟩
  rw [hadd] at hsp
  simp only at hsp
  subst hsp
  have hSg : S gb := by have := mem.add_block a (j * 10); rw [hadd] at this; simp only at this; rw [this]; exact hSa
  rw [hadd] at hc
  obtain ⟨y3, k3, n3, s3, x3, b3, l3, hc3, hy3, hk3, hl3⟩ := hc.sim hs hSg hy hk2 hl
  rw [hl2] at hc3 hT2
  exact ⟨a, y3, k3, n3, s3, x3, ks2, vs2, A', c', b3, l3, rfl, hSa, by rw [hadd], hy3, hk3, hl3, by rw [← hn, nrm_mk, nrm_mk], TIn.head hT2 hk3, by rw [hadd]; exact hc3⟩
end
/-- How many marks slots take. -/
def cS : List Sl → Nat
  | [] => 0
  | t :: l => 2 + 7 * cnt t.val + cS l
theorem cS_take : ∀ {sl : List Sl} {j : Nat} {t : Sl}, sl[j]? = some t → cS (sl.take (j + 1)) = cS (sl.take j) + (2 + 7 * cnt t.val)
  | [], j, _, h => by simp at h
  | t0 :: sl, 0, t, h => by
    obtain rfl : t0 = t := by simpa using h
    simp [cS]
  | t0 :: sl, j + 1, t, h => by
    have := cS_take (sl := sl) (j := j) (t := t) (by simpa using h)
    rw [List.take_succ_cons, List.take_succ_cons, cS, cS, this]
    omega
theorem cS_le : ∀ (sl : List Sl) (j : Nat), cS (sl.take j) ≤ cS sl
  | [], j => by simp
  | t :: sl, 0 => by simp [cS]
  | t :: sl, j + 1 => by have := cS_le sl j; rw [List.take_succ_cons, cS, cS]; omega

theorem cS_len : ∀ sl : List Sl, sl.length ≤ cS sl
  | [] => by simp [cS]
  | t :: sl => by have := cS_len sl; rw [cS, List.length_cons]; omega

set_option maxHeartbeats 2000000 in
set_option maxRecDepth 100000 in
theorem markSlots (sl : List Sl) (m : Int) (hm0 : 1 ≤ m) (hm1 : m + cS sl ≤ 100000000000) (w : World) (S : Nat → Prop) (A : Option Addr) (c : Nat) (h : SIn w S sl A) (hm : sl.length ≤ maxLen) (hpl : ∀ b, S b → Plain w b) :
    Calls Tryz.prog 121 #[.slice A sl.length c, .int .i64 m] w (MyQ w S (m + cS sl)) := by
  obtain ⟨L, HL⟩ : ∃ L, Hid (L = sl.length) := ⟨_, Lib.hid rfl⟩
  rw [← HL.out] at hm ⊢
  unfold maxLen at hm
  have HV := Lib.hid h
  have HPL := Lib.hid hpl
  have HM1 := Lib.hid hm1
  obtain ⟨W, HW⟩ : ∃ W : Int, Hid (m + cS sl = W) := ⟨_, Lib.hid rfl⟩
  rw [HW.out] at hm1 ⊢
  clear h hpl
  go_enter Tryz.func121, Tryz.ntmps121
  go_wp2_with (fail)
  go_loopg [1, 5] (L + 1) (fun gk l i wr => ∃ (j : Nat) (q : Int), i = .int .i64 j ∧ l = .int .i64 q ∧ gk + j = L + 1 ∧ j ≤ L ∧ 1 ≤ q ∧ q ≤ 100000000000 ∧ Hid (q = m + cS (sl.take j)) ∧ Hid (Sims S w wr))
  case atStart => exact ⟨0, m, rfl, rfl, by omega, by omega, hm0, by have := HM1.out; omega, Lib.hid (by simp [cS]), Lib.hid (Sims.refl _ _)⟩
  case round =>
    obtain ⟨j, q, rfl, rfl, hgj, hjL, hq0, hq1, HQ, HFR⟩ := hrel
    by_cases hlt : j < L
    · obtain ⟨t, ht⟩ : ∃ t, sl[j]? = some t := ⟨_, List.getElem?_eq_getElem (by rw [← HL.out]; exact hlt)⟩
      obtain ⟨a, y, k1, n1, s1, x1, ks1, vs1, A1, c1, lb, ll, rfl, hS, hsp, hyb, hkb, hlb, hnt, htin, hcell⟩ := HV.out.simAt HFR.out ht
      have hct := cS_take ht
      have hcle := cS_le sl (j + 1)
      obtain ⟨yt, ⟨kt, nt, st, xt, kst, vst⟩, bt, lt⟩ := t
      simp only at hnt hct
      have hni := nrm_items hnt
      have hli := nrms_len hni
      rw [cnt_mk'] at hct
      have hq7 : q + 9 + 7 * cnts vst ≤ 100000000000 := by have h1 := HQ.out; have h2 := HM1.out; omega
      obtain ⟨Q, HQ2⟩ : ∃ Q : Int, Hid (q + 7 + 7 * cnts vst = Q) := ⟨_, Lib.hid rfl⟩
      obtain ⟨L1, HL1⟩ : ∃ L1, Hid (L1 = vst.length) := ⟨_, Lib.hid rfl⟩
      have hq9 : Q + 2 ≤ 100000000000 := by rw [← HQ2.out]; omega
      have hQ0 : 1 ≤ Q := by rw [← HQ2.out]; omega
      have hin' : IsIn wr S ks1 vs1 A1 := by
        obtain ⟨_, _, e1, -, hin⟩ := htin.out
        obtain ⟨-, -, -, -, rfl, -, -⟩ : k1 = k1 ∧ n1 = n1 ∧ s1 = s1 ∧ x1 = x1 ∧ A1 = _ ∧ vs1.length = vs1.length ∧ c1 = _ := by simpa using e1
        exact hin
      have IHJ : Hid (∀ z, z = q + 7 → ∀ w', Sims S wr w' → Calls Tryz.prog 122 #[.slice A1 L1 c1, .int .i64 z] w' (MyQ w' S Q)) := Lib.hid (fun z hz w' hw' => by
        subst hz
        obtain ⟨ks3, vs3, hn4, hin4⟩ := hin'.sim hw'
        have := markAny (.mk kt nt st xt kst vst) kt nt st xt kst vst rfl (q + 7) (by omega) (by omega) w' S A1 c1 ks3 vs3 (hn4.trans hni) hin4 (fun b hb => (HFR.out.trans hw').plain b hb (HPL.out b hb))
        rw [HQ2.out] at this
        rw [HL1.out]
        exact this)
      have HQ3 : Hid (Q + 1 + 1 = m + cS (sl.take (j + 1))) := Lib.hid (by rw [hct, ← HQ2.out, HQ.out]; push_cast; omega)
      have MT2 := markText (q + 2) (by omega) (by omega)
      have MT5 := markText (q + 5) (by omega) (by omega)
      have z2 := mtx_size (q + 2)
      have z5 := mtx_size (q + 5)
      obtain ⟨u2, HU2⟩ : ∃ u, Hid (mtx (q + 2) = u) := ⟨_, Lib.hid rfl⟩
      obtain ⟨u5, HU5⟩ : ∃ u, Hid (mtx (q + 5) = u) := ⟨_, Lib.hid rfl⟩
      unfold MtQ at MT2 MT5
      rw [HU2.out] at MT2 z2
      rw [HU5.out] at MT5 z5
      rw [show q + 2 = q + 1 + 1 by omega] at MT2
      rw [show q + 5 = q + 1 + 1 + 1 + 1 + 1 by omega] at MT5
      rw [hli, ← HL1.out] at hcell
      have HLB := Lib.hid hlb
      obtain ⟨gb, go, sp, hadd⟩ : ∃ gb go sp, a.add (j * 10) = ⟨gb, go, sp⟩ := ⟨_, _, _, rfl⟩
      rw [hadd] at hsp
      simp only at hsp
      subst hsp
      have hSg : S gb := by have := mem.add_block a (j * 10); rw [hadd] at this; simp only at this; rw [this]; exact hS
      rw [hadd] at hcell
      have hpg : Plain wr gb := HFR.out.plain gb hSg (HPL.out gb hSg)
      have HPG := Lib.hid hpg
      have HSG := Lib.hid hSg
      have HC := Lib.hid hcell
      have HYB := Lib.hid hyb
      have HKB := Lib.hid hkb
      have f := frozen_plain hpg
      obtain ⟨p0, p1, p2, p3, p4, p5, p6, p7, p8, p9⟩ := hcell
      clear htin hyb hkb hlb hin' hnt hni hli ht hpg hSg hS hct hcle
      go_wp2_with (fail)
      refine (MT2 _).mono ?_
      rintro e w1 ⟨rfl, hb1⟩
      have hs1 : Sims S wr w1 := ((Sims.set HSG.out HC.out.c0 (.inr (.inl ⟨_, _, rfl, rfl⟩))).trans (Sims.set HSG.out (u := .int .i64 y.num) ((World.cell?_setCell_other _ _ _ _ (by simp)).trans HC.out.c1) (.inr (.inr (.inl ⟨_, _, rfl, rfl, by unfold I64; omega⟩))))).trans (Sims.of hb1)
      have HS1 := Lib.hid hs1
      obtain ⟨y1, k2, n2, s2, x2, b1_, l1_, hc1, hyb1, hkb1, hlb1⟩ := HC.out.sim hs1 HSG.out HYB.out HKB.out HLB.out
      have HC1 := Lib.hid hc1
      have HYB1 := Lib.hid hyb1
      have HKB1 := Lib.hid hkb1
      have HLB1 := Lib.hid hlb1
      have f1 := frozen_plain (hs1.plain gb HSG.out HPG.out)
      clear hb1 hs1 f p0 p1 p2 p3 p4 p5 p6 p7 p8 p9 hyb1 hkb1 hlb1
      obtain ⟨p0, p1, p2, p3, p4, p5, p6, p7, p8, p9⟩ := hc1
      go_wp2_with (fail)
      refine (MT5 _).mono ?_
      rintro e w2 ⟨rfl, hb2⟩
      have hs2 : Sims S w1 w2 := (((Sims.set HSG.out HC1.out.c2 (v := .string u2) (.inr (.inr (.inr ⟨_, _, rfl, rfl, by unfold maxLen; omega⟩)))).trans
        (Sims.set HSG.out (u := .int .i64 k2) (v := .int .i64 (q + 1 + 1 + 1)) ((World.cell?_setCell_other _ _ _ _ (by simp)).trans HC1.out.c3) (.inr (.inr (.inl ⟨_, _, rfl, rfl, by unfold I64; omega⟩))))).trans
        (Sims.set HSG.out (u := .int .i64 n2) (v := .int .i64 (q + 1 + 1 + 1 + 1)) ((World.cell?_setCell_other _ _ _ _ (by simp)).trans ((World.cell?_setCell_other _ _ _ _ (by simp)).trans HC1.out.c4)) (.inr (.inr (.inl ⟨_, _, rfl, rfl, by unfold I64; omega⟩))))).trans (Sims.of hb2)
      have HS2 := Lib.hid (HS1.out.trans hs2)
      obtain ⟨y3, k3, n3, s3, x3, b3_, l3_, hc2, hyb2, hkb2, hlb2⟩ := HC1.out.sim hs2 HSG.out HYB1.out HKB1.out HLB1.out
      have HYB2 := Lib.hid hyb2
      have HKB2 := Lib.hid hkb2
      have HLB2 := Lib.hid hlb2
      have HC2 := Lib.hid hc2
      have f2 := frozen_plain (HS2.out.plain gb HSG.out HPG.out)
      clear hb2 hs2 f1 p0 p1 p2 p3 p4 p5 p6 p7 p8 p9 hyb2 hkb2 hlb2
      obtain ⟨p0, p1, p2, p3, p4, p5, p6, p7, p8, p9⟩ := hc2
      go_wp2_with (fail)
      have HS3 : Hid (∀ v6, v6 = q + 6 → Sims S wr ((w2.setCell ⟨gb, go + 5, none⟩ (.string u5)).setCell ⟨gb, go + 6, none⟩ (.int .i64 v6))) := Lib.hid fun v6 h6 => (HS2.out.trans (Sims.set HSG.out (u := .string s3) HC2.out.c5 (.inr (.inr (.inr ⟨_, _, rfl, rfl, by unfold maxLen; omega⟩))))).trans (Sims.set HSG.out (u := .int .i64 x3) ((World.cell?_setCell_other _ _ _ _ (by simp)).trans HC2.out.c6) (.inr (.inr (.inl ⟨_, _, rfl, rfl, by unfold I64; omega⟩))))
      refine (IHJ.out _ (by omega) _ (HS3.out _ (by omega))).mono ?_
      rintro e w4 ⟨rfl, hs4⟩
      have HS4 := Lib.hid ((HS3.out _ (by omega)).trans hs4)
      have HSW := Lib.hid ((HS2.out.trans (Sims.refl S w2)))
      obtain ⟨y5, k5, n5, s5, x5, b5, l5, hc4, -, -, hlb4⟩ := HC.out.sim HS4.out HSG.out HYB.out HKB.out HLB.out
      have HC4 := Lib.hid hc4
      have HL4 := Lib.hid hlb4
      have f4 := frozen_plain (HS4.out.plain gb HSG.out HPG.out)
      clear f2 p0 p1 p2 p3 p4 p5 p6 p7 p8 p9 hs4 hlb4 HSW
      obtain ⟨p0, p1, p2, p3, p4, p5, p6, p7, p8, p9⟩ := hc4
      go_wp2_with (fail)
      have HS5 : Hid (∀ v8 v9, v9 = Q + 1 → Sims S wr ((w4.setCell ⟨gb, go + 8, none⟩ (.bool v8)).setCell ⟨gb, go + 9, none⟩ (.int .i64 v9))) := Lib.hid fun v8 v9 h9 => (HS4.out.trans (Sims.set HSG.out (u := .bool b5) HC4.out.c8 (.inr (.inl ⟨_, _, rfl, rfl⟩)))).trans (Sims.set HSG.out (u := .int .i64 l5) ((World.cell?_setCell_other _ _ _ _ (by simp)).trans HC4.out.c9) (.inr (.inr (.inl ⟨_, _, rfl, rfl, by unfold I64; omega⟩))))
      go_roundg (L - j)
      case rel => exact ⟨j + 1, Q + 1 + 1, by go_num, rfl, by omega, by omega, by omega, by omega, HQ3, Lib.hid (HFR.out.trans (HS5.out _ _ rfl))⟩
      case measure => omega
    · obtain rfl : j = L := by omega
      have e : q = W := by have := HQ.out; rw [HL.out, List.take_length] at this; rw [← HW.out]; exact this
      subst e
      go_wp2_with (fail)
      go_ret
      exact ⟨rfl, HFR.out⟩

set_option maxHeartbeats 1600000 in
theorem markInts (A : Option Addr) (n c lo : Nat) (l : List Int) (w : World) (h : imem.OwnI w lo A n c l) (hn : n ≤ 1048576) (m : Int) (hm0 : 1 ≤ m) (hm1 : m ≤ 1000000000) :
    Calls Tryz.prog 120 #[.slice A n c, .int .i64 m] w (fun e w' => e = .returned (.int .i64 (m + n)) ∧ Fr (fun b => (Value.slice A n c).ownBlock = some b) w w') := by
  obtain ⟨W, HW⟩ : ∃ W : Int, Hid (m + n = W) := ⟨_, Lib.hid rfl⟩
  rw [HW.out]
  have HO := Lib.hid h
  clear h
  go_enter Tryz.func120, Tryz.ntmps120
  go_wp2_with (fail)
  go_loopg [1, 5] (n + 1) (fun gk lv i wr => ∃ (j : Nat) (q : Int) (l2 : List Int), i = .int .i64 j ∧ lv = .int .i64 q ∧ gk + j = n + 1 ∧ j ≤ n ∧ 1 ≤ q ∧ q ≤ 2000000000 ∧ Hid (q = m + j) ∧ Hid (imem.OwnI wr lo A n c l2) ∧ Hid (Fr (fun b => (Value.slice A n c).ownBlock = some b) w wr))
  case atStart => exact ⟨0, m, l, rfl, rfl, by omega, by omega, hm0, by omega, Lib.hid (by omega), HO, Lib.hid (Fr.refl _ _)⟩
  case round =>
    clear HO
    obtain ⟨j, q, l2, rfl, rfl, hgj, hjn, hq0, hq1, HQ, HO, HF⟩ := hrel
    by_cases hlt : j < n
    · obtain ⟨g, rfl, -, -, -⟩ := HO.out.head (by omega)
      obtain ⟨⟨v0, hv0⟩, hf0⟩ := HO.out.cellk hlt
      go_wp2_with (fail)
      go_roundg (n - j)
      case rel => exact ⟨j + 1, q + 1, _, by go_num, rfl, by omega, by omega, by omega, by have := HQ.out; omega, Lib.hid (by have := HQ.out; push_cast; omega), Lib.hid (HO.out.set j q).1, Lib.hid (HF.out.trans (Fr.set (S := fun b => (Value.slice (some ⟨g, 0, none⟩) n c).ownBlock = some b) (show (Value.slice (some ⟨g, 0, none⟩) n c).ownBlock = some g from rfl) _ _))⟩
      case measure => omega
    · obtain rfl : j = n := by omega
      have e : q = W := by rw [HQ.out, ← HW.out]
      subst e
      go_wp2_with (fail)
      go_ret
      exact ⟨rfl, HF.out⟩

set_option maxHeartbeats 1600000 in
theorem markTable {l : List Int} {sl : List Sl} {b : Bool} {A : Option Addr} {n c lo g m : Nat} {x k : Int} {S : Nat → Prop} (w : World) (h : imem.OwnI w lo A n c l) (hs : SIn w S sl (some ⟨g, 0, none⟩)) (hpl : ∀ q, S q → Plain w q) (hno : ∀ q, (Value.slice A n c).ownBlock = some q → ¬ S q) (hl : sl.length = m) (hn : n ≤ 1048576) (hc : cS sl ≤ 99000000000) :
    Calls Tryz.prog 48 #[tbV b A n c (some ⟨g, 0, none⟩) m m x k, .int .i64 1] w (fun e w' => ∃ q, e = .returned (.int .i64 q) ∧ 1 ≤ q ∧ Fr (fun q => S q ∨ (Value.slice A n c).ownBlock = some q) w w') := by
  have M1 := fun w' (hw : Below w.heap.size w w') => markInts A n c lo l w' (h.below hw) hn 1 (by omega) (by omega)
  have HBK : Hid (∀ q, (Value.slice A n c).ownBlock = some q → q < w.heap.size) := Lib.hid (fun q e => (h.block q e).2)
  have HNO := Lib.hid hno
  have HP0 := Lib.hid hpl
  by_cases hmm : sl.length ≤ maxLen
  · obtain ⟨W, HW⟩ : ∃ W : Int, Hid ((1 + (n : Int)) + cS sl = W) := ⟨_, Lib.hid rfl⟩
    have hW1 : 1 ≤ W := by rw [← HW.out]; omega
    have M2 : Hid (∀ w', SIn w' S sl (some ⟨g, 0, none⟩) → (∀ b, S b → Plain w' b) → Calls Tryz.prog 121 #[.slice (some ⟨g, 0, none⟩) m m, .int .i64 (1 + (n : Int))] w' (MyQ w' S W)) := Lib.hid (fun w' h1 h2 => by
      have := markSlots sl (1 + (n : Int)) (by omega) (by omega) w' S (some ⟨g, 0, none⟩) m h1 hmm h2
      rw [HW.out, hl] at this
      exact this)
    have HS := Lib.hid hs
    have HM1 := Lib.hid M1
    clear M1 h hs hpl hno
    go_enter Tryz.func48, Tryz.ntmps48
    go_wp2_with (fail)
    refine (HM1.out _ (b1 w _)).mono ?_
    rintro e w1 ⟨rfl, hf⟩
    have hB := b1 w (.cells #[.bool b, .slice A n c, .slice (some ⟨g, 0, none⟩) m m, .int .i64 x, .int .i64 k] IT)
    have hk : ∀ q, S q → w1.heap[q]? = w.heap[q]? := fun q hq => (hf.block q (Nat.lt_of_lt_of_le (HP0.out q hq).lt hB.size) (fun e => HNO.out q e hq)).trans (hB.block q (HP0.out q hq).lt)
    have HS1 : Hid (SIn w1 S sl (some ⟨g, 0, none⟩)) := Lib.hid (HS.out.stays (fun _ h => h) fun q hq _ => hk q hq)
    have HPL : Hid (∀ q, S q → Plain w1 q) := Lib.hid (fun q hq => (HP0.out q hq).same (hk q hq))
    have hbx : w1.heap[w.heap.size]? = some (.cells #[.bool b, .slice A n c, .slice (some ⟨g, 0, none⟩) m m, .int .i64 x, .int .i64 k] IT (0, 0)) := (hf.block w.heap.size (by simp) (fun e => by have := HBK.out _ e; omega)).trans (heap_alloc_new w _)
    have HF1 : Hid (Fr (fun q => S q ∨ (Value.slice A n c).ownBlock = some q) w w1) := Lib.hid ((Fr.of hB).trans (hf.mono fun q e => .inr e))
    have q2 := (rowc hbx).1 2
    simp at q2
    clear hf hB hk hbx
    go_wp2_with (fail)
    refine (M2.out _ HS1.out HPL.out).mono ?_
    rintro e w2 ⟨rfl, hs2⟩
    have HF2 : Hid (Fr (fun q => S q ∨ (Value.slice A n c).ownBlock = some q) w w2) := Lib.hid (HF1.out.trans (hs2.fr.mono fun q hq => .inl hq))
    clear hs2 q2
    go_wp2_with (fail)
    go_ret
    exact ⟨W, rfl, hW1, HF2.out⟩
  · exact absurd (cS_len sl) (by unfold maxLen at hmm; omega)

end Go.Proofs.YtdglmnmalfpipaaGreatDoor.tree

/-
  An own list of integers marked, with what it holds then, and read back.
  Conditions: those that each theorem names.
-/
namespace Go.Proofs.YtdglmnmalfpipaaGreatDoor.tree
open Go.ChangeShapes Go.WideShapes Go.ChangeAt Go.RowKit
set_option linter.unusedVariables false

/-- The numbers from m on. -/
def FromI (m : Int) (n : Nat) (l : List Int) : Prop := ∀ i : Nat, i < n → l[i]? = some (m + i)

set_option maxHeartbeats 1600000 in
theorem markIntsX (A : Option Addr) (n c lo : Nat) (l : List Int) (w : World) (h : imem.OwnI w lo A n c l) (hn : n ≤ 1048576) (m : Int) (hm0 : 1 ≤ m) (hm1 : m ≤ 1000000000) :
    Calls Tryz.prog 120 #[.slice A n c, .int .i64 m] w (fun e w' => e = .returned (.int .i64 (m + n)) ∧ Fr (fun b => (Value.slice A n c).ownBlock = some b) w w' ∧ ∃ l2, imem.OwnI w' lo A n c l2 ∧ FromI m n l2) := by
  obtain ⟨W, HW⟩ : ∃ W : Int, Hid (m + n = W) := ⟨_, Lib.hid rfl⟩
  rw [HW.out]
  have HO := Lib.hid h
  clear h
  go_enter Tryz.func120, Tryz.ntmps120
  go_wp2_with (fail)
  go_loopg [1, 5] (n + 1) (fun gk lv i wr => ∃ (j : Nat) (q : Int) (l2 : List Int), i = .int .i64 j ∧ lv = .int .i64 q ∧ gk + j = n + 1 ∧ j ≤ n ∧ 1 ≤ q ∧ q ≤ 2000000000 ∧ Hid (q = m + j) ∧ Hid (imem.OwnI wr lo A n c l2) ∧ Hid (Fr (fun b => (Value.slice A n c).ownBlock = some b) w wr) ∧ Hid (FromI m j l2))
  case atStart => exact ⟨0, m, l, rfl, rfl, by omega, by omega, hm0, by omega, Lib.hid (by omega), HO, Lib.hid (Fr.refl _ _), Lib.hid (fun i hi => absurd hi (by omega))⟩
  case round =>
    clear HO
    obtain ⟨j, q, l2, rfl, rfl, hgj, hjn, hq0, hq1, HQ, HO, HF, HM⟩ := hrel
    by_cases hlt : j < n
    · obtain ⟨g, rfl, -, -, -⟩ := HO.out.head (by omega)
      obtain ⟨⟨v0, hv0⟩, hf0⟩ := HO.out.cellk hlt
      have HM2 : Hid (FromI m (j + 1) (l2.set j q)) := Lib.hid fun i hi => by
        by_cases e : i = j
        · subst e
          rw [List.getElem?_set_self (by rw [HO.out.len]; exact hlt), HQ.out]
        · rw [List.getElem?_set_ne (fun e2 => e e2.symm)]
          exact HM.out i (by omega)
      go_wp2_with (fail)
      go_roundg (n - j)
      case rel => exact ⟨j + 1, q + 1, _, by go_num, rfl, by omega, by omega, by omega, by have := HQ.out; omega, Lib.hid (by have := HQ.out; push_cast; omega), Lib.hid (HO.out.set j q).1, Lib.hid (HF.out.trans (Fr.set (S := fun b => (Value.slice (some ⟨g, 0, none⟩) n c).ownBlock = some b) (show (Value.slice (some ⟨g, 0, none⟩) n c).ownBlock = some g from rfl) _ _)), HM2⟩
      case measure => omega
    · obtain rfl : j = n := by omega
      have e : q = W := by rw [HQ.out, ← HW.out]
      subst e
      go_wp2_with (fail)
      go_ret
      exact ⟨rfl, HF.out, l2, HO.out, HM.out⟩

set_option maxHeartbeats 1600000 in
theorem heldInts (A : Option Addr) (n c : Nat) (l : List Int) (w : World) (h : imem.RdI w A n l) (hn : n ≤ 1048576) (m : Int) (he : FromI m n l) (hm0 : 1 ≤ m) (hm1 : m ≤ 1000000000) :
    Calls Tryz.prog 123 #[.slice A n c, .int .i64 m] w (fun e w' => e = .returned (.int .i64 (m + n)) ∧ Below w.heap.size w w') := by
  obtain ⟨W, HW⟩ : ∃ W : Int, Hid (m + n = W) := ⟨_, Lib.hid rfl⟩
  rw [HW.out]
  have HO := Lib.hid h
  have HE := Lib.hid he
  clear h he
  go_enter Tryz.func123, Tryz.ntmps123
  go_wp2_with (fail)
  go_loopg [1, 5] (n + 1) (fun gk lv i wr => ∃ (j : Nat) (q : Int), i = .int .i64 j ∧ lv = .int .i64 q ∧ gk + j = n + 1 ∧ j ≤ n ∧ 1 ≤ q ∧ q ≤ 2000000000 ∧ Hid (q = m + j) ∧ Hid (Below w.heap.size w wr))
  case atStart => exact ⟨0, m, rfl, rfl, by omega, by omega, hm0, by omega, Lib.hid (by omega), Lib.hid (Below.refl _ _)⟩
  case round =>
    obtain ⟨j, q, rfl, rfl, hgj, hjn, hq0, hq1, HQ, HB⟩ := hrel
    by_cases hlt : j < n
    · obtain ⟨a, v, rfl, hv, hc⟩ := (HO.out.below HB.out).at_ hlt
      obtain rfl : q = v := by
        have := HE.out j hlt
        rw [hv, ← HQ.out] at this
        exact (Option.some.inj this).symm
      clear hv
      go_wp2_with (fail)
      go_roundg (n - j)
      case rel => exact ⟨j + 1, q + 1, by go_num, rfl, by omega, by omega, by omega, by have := HQ.out; omega, Lib.hid (by have := HQ.out; push_cast; omega), HB⟩
      case measure => omega
    · obtain rfl : j = n := by omega
      have e : q = W := by rw [HQ.out, ← HW.out]
      subst e
      go_wp2_with (fail)
      go_ret
      exact ⟨rfl, HB.out⟩

end Go.Proofs.YtdglmnmalfpipaaGreatDoor.tree

/-
  The marks of a table's slots, found again.
  Conditions: those that each theorem names.
-/
namespace Go.Proofs.YtdglmnmalfpipaaGreatDoor.tree
open Go.ChangeShapes Go.WideShapes Go.ChangeAt Go.RowKit
set_option linter.unusedVariables false

/-- A slot marked from m on. -/
def mkSl (m : Int) (t : Sl) : Sl := ⟨mkY m, mkT m t.val, decide ((m + 7 * cnt t.val) % 3 = 0), m + 7 * cnt t.val + 1⟩
def mkSls (m : Int) : List Sl → List Sl
  | [] => []
  | t :: sl => mkSl m t :: mkSls (m + (2 + 7 * cnt t.val)) sl
theorem mkSls_len : ∀ (m : Int) (sl : List Sl), (mkSls m sl).length = sl.length
  | _, [] => rfl
  | m, t :: sl => by
    have := mkSls_len (m + (2 + 7 * cnt t.val)) sl
    simp [mkSls, this]
theorem mkSls_get : ∀ (m : Int) (sl : List Sl) (j : Nat) (t : Sl), sl[j]? = some t → (mkSls m sl)[j]? = some (mkSl (m + cS (sl.take j)) t)
  | _, [], _, _, h => by simp at h
  | m, u :: sl, 0, t, h => by
    simp at h
    subst h
    simp [mkSls, cS]
  | m, u :: sl, j + 1, t, h => by
    simp at h
    have := mkSls_get (m + (2 + 7 * cnt u.val)) sl j t h
    simp only [mkSls, List.getElem?_cons_succ, List.take_succ_cons, this, cS]
    rw [show m + (2 + 7 * (cnt u.val : Int)) + (cS (sl.take j) : Int) = m + ((2 + 7 * cnt u.val + cS (sl.take j) : Nat) : Int) by push_cast; omega]

end Go.Proofs.YtdglmnmalfpipaaGreatDoor.tree

/-
  TableDelete of the project.
  Conditions: those that each theorem names; the package variables of the library's reading of numbers hold what the program's text lays.
-/
namespace Go.Proofs.YtdglmnmalfpipaaGreatDoor.tree
open Go.ChangeShapes Go.WideShapes Go.ChangeAt Go.RowKit
set_option linter.unusedVariables false

/-- What deleting at the found slot makes of the slots and of their number. -/
def tdSl (sl : List Sl) (v : Int) : List Sl := if v = -1 then sl else dropS sl v.toNat
def tdCt (k v : Int) : Int := if v = -1 then k else k - 1
def TdQ (w : World) (l : List Int) (sl : List Sl) (b : Bool) (n m : Nat) (x k : Int) (P : Prop) (z : Int) (e : Ending) (w' : World) : Prop :=
  ∃ v A1 c1 B1 d1 par R, ((P ∧ v = z) ∨ (¬ P ∧ v = -1)) ∧ e = .returned (tbV b A1 n c1 B1 m d1 x (tdCt k v)) ∧ OwnT w' par R w.heap.size l (tdSl sl v) A1 n c1 B1 m d1 ∧ Below w.heap.size w w'

set_option maxRecDepth 100000 in
set_option maxHeartbeats 4000000 in
theorem tableDelete_i {l : List Int} {sl : List Sl} {b : Bool} {A : Option Addr} {n c : Nat} {B : Option Addr} {m d : Nat} {x k : Int} (w : World) (hr : TbIn w (Nw 0 w) l sl A n c B m d x k) (hn : n ≤ 1048576) (hm : m ≤ 1048576) (hcn : cnt (.mk 0 0 ⟨#[]⟩ 0 (skS sl) (svS sl)) ≤ 1048578) (htt : tot (.mk 0 0 ⟨#[]⟩ 0 (skS sl) (svS sl)) ≤ 1000000000) (hst : SlB sl) (hE : prs.Env w) (y : Ky) (hys : y.str.size ≤ 140737488355328) :
    Calls Tryz.prog 20 #[tbV b A n c B m d x k, kyV y] w (TdQ w l sl b n m x k (tabOk b l sl x k) (fd sl y m)) := by
  obtain ⟨P, HP⟩ : ∃ P, Hid (w.heap.size = P) := ⟨_, Lib.hid rfl⟩
  have TR : Hid (∀ w', Below w.heap.size w w' → TbIn w' (Nw 0 w') l sl A n c B m d x k) := Lib.hid fun w' hb => ⟨hr.heads.below hb, hr.hn, hr.len, hr.cap, hr.slots.stays (fun q hq => ⟨Nat.zero_le _, hq.2.same (hb.block q hq.2.lt)⟩) (fun q hq hl => hb.block q hl), hr.next, hr.count⟩
  have FI : Hid (∀ w', Below w.heap.size w w' → Calls Tryz.prog 23 #[tbV b A n c B m d x k, kyV y] w' (FsQ w' (tabOk b l sl x k) (fd sl y m))) := Lib.hid fun w' hb => findTable_i w' (TR.out w' hb) hn hm hst (hE.stays hb) y hys
  have CP : Hid (∀ w', Below w.heap.size w w' → Calls Tryz.prog 62 #[tbV b A n c B m d x k] w' (CtQ w' l sl b n m x k)) := Lib.hid fun w' hb => copyTable_i w' (TR.out w' hb) hn hm hcn htt
  have HLN := Lib.hid hr.len
  have HK : Hid (tabOk b l sl x k → -1000000000000 ≤ k ∧ k ≤ 1000000000000) := Lib.hid fun h => by
    have h1 := h.2.2.1.2
    have h2 := livK_len sl
    have h3 := h.len.1
    omega
  obtain ⟨W, HW⟩ : ∃ W, Hid (fd sl y m = W) := ⟨_, Lib.hid rfl⟩
  have HWB : Hid (-1 ≤ W ∧ W < m) := Lib.hid (HW.out ▸ fd_bd sl y m)
  rw [HW.out] at FI ⊢
  obtain ⟨yb, yn, ys⟩ := y
  unfold kyV at FI ⊢
  simp only at FI
  clear hr hcn htt hst hE hys TR
  go_enter Tryz.func20, Tryz.ntmps20
  go_upto_region 1 with fail
  rw [HP.out]
  generalize hw0 : ((w.alloc (.cells #[.bool b, .slice A n c, .slice B m d, .int .i64 x, .int .i64 k] IT)).alloc (.cells #[.bool yb, .int .i64 yn, .string ys] 29)).alloc (.cells #[.bool false, .slice none 0 0, .slice none 0 0, .int .i64 0, .int .i64 0] IT) = w0
  obtain ⟨a0, a1, a2, az, ab⟩ := al3t w _ _ _ _ _ _ w0 hw0
  rw [HP.out] at a0 a1 a2 az
  have H0 := Lib.hid a0
  have H1 := Lib.hid a1
  have H2 := Lib.hid a2
  have HB := Lib.hid ab
  have hz0 : P + 3 ≤ w0.heap.size := by omega
  have r0 := (rowc H0.out).1
  have y0 := r0 0; have y1 := r0 1; have y2 := r0 2; have y3 := r0 3; have y4 := r0 4
  have r1 := (rowc H1.out).1
  have z0 := r1 0; have z1 := r1 1; have z2 := r1 2
  simp at y0 y1 y2 y3 y4 z0 z1 z2
  clear hw0 a0 a1 a2 az ab r0 r1
  go_wp2_with (fail)
  refine (FI.out _ HB.out).mono ?_
  rintro e w1 ⟨v, rfl, hv, hb⟩
  replace H0 := Lib.hid (carry hb H0.out)
  replace H2 := Lib.hid (carry hb H2.out)
  replace HB := Lib.hid (bs HB.out hb)
  have HV := Lib.hid hv
  have hz1 : P + 3 ≤ w1.heap.size := Nat.le_trans hz0 hb.size
  clear y0 y1 y2 y3 y4 z0 z1 z2 hb hv H1 FI
  have r0 := (rowc H0.out).1
  have y0 := r0 0; have y1 := r0 1; have y2 := r0 2; have y3 := r0 3; have y4 := r0 4
  simp at y0 y1 y2 y3 y4
  clear r0
  go_wp2_with (fail)
  refine (CP.out _ HB.out).mono ?_
  rintro e w2 ⟨A1, c1, B1, d1, par, R, rfl, hot, hb⟩
  replace H0 := Lib.hid (carry hb H0.out)
  replace H2 := Lib.hid (carry hb H2.out)
  replace HB := Lib.hid (bs HB.out hb)
  have HOT := Lib.hid hot
  obtain ⟨N, HN⟩ : ∃ N, Hid (w1.heap.size = N) := ⟨_, Lib.hid rfl⟩
  rw [HN.out] at HOT hz1
  obtain ⟨r0, f0⟩ := rowc H0.out
  clear hb hot CP y0 y1 y2 y3 y4
  go_upto_region 3 with fail
  generalize hw3 : World.setCell (World.setCell (World.setCell (World.setCell (World.setCell w2 _ _) _ _) _ _) _ _) _ _ = w3
  have H03 : Hid (w3.heap[P]? = some (.cells #[.bool b, .slice A1 n c1, .slice B1 m d1, .int .i64 x, .int .i64 k] IT (0, 0))) := Lib.hid (by
    rw [← hw3]
    have := set_heap (set_heap (set_heap (set_heap (set_heap H0.out 0 (.bool b)) 1 (.slice A1 n c1)) 2 (.slice B1 m d1)) 3 (.int .i64 x)) 4 (.int .i64 k)
    simpa using this)
  obtain ⟨-, oF, bF⟩ := fill5t H0.out hw3
  have H23 := Lib.hid ((oF (P + 2) (by omega)).trans H2.out)
  have HB3 := Lib.hid (bF _ _ (by rw [HP.out]; omega) HB.out)
  have HOT3 : Hid (OwnT w3 par R N l sl A1 n c1 B1 m d1) := Lib.hid ⟨owni_blk HOT.out.heads (fun q e => oF q (by have := (HOT.out.heads.block q e).1; omega)), HOT.out.low, HOT.out.len, HOT.out.cap, HOT.out.nod, by
    rcases HOT.out.slots with h | ⟨g, h1, h2, h3, h4, h5, h6⟩
    · exact .inl h
    · exact .inr ⟨g, h1, h2, h3, h4, h5, h6.same (oF g (by omega)) (fun q hq _ => oF q (by omega))⟩⟩
  clear hw3 oF bF r0 f0 H0 H2 HB HOT
  by_cases hv1 : v = -1
  · subst hv1
    have HOT4 : Hid (OwnT w3 par R N l (tdSl sl (-1)) A1 n c1 B1 m d1) := Lib.hid HOT3.out
    obtain ⟨r0, -⟩ := rowc H03.out
    have y0 := r0 0; have y1 := r0 1; have y2 := r0 2; have y3 := r0 3; have y4 := r0 4
    simp at y0 y1 y2 y3 y4
    have f2 := (rowc H23.out).2
    have r2 := (rowc H23.out).1
    obtain ⟨x0, e0⟩ : ∃ u, w3.cell? ⟨P + 2, 0, none⟩ = some u := ⟨_, r2 0⟩
    obtain ⟨x1, e1⟩ : ∃ u, w3.cell? ⟨P + 2, 1, none⟩ = some u := ⟨_, r2 1⟩
    obtain ⟨x2, e2⟩ : ∃ u, w3.cell? ⟨P + 2, 2, none⟩ = some u := ⟨_, r2 2⟩
    obtain ⟨x3, e3⟩ : ∃ u, w3.cell? ⟨P + 2, 3, none⟩ = some u := ⟨_, r2 3⟩
    obtain ⟨x4, e4⟩ : ∃ u, w3.cell? ⟨P + 2, 4, none⟩ = some u := ⟨_, r2 4⟩
    clear r0 r2
    go_wp2_with (fail)
    generalize hwF : World.setCell (World.setCell (World.setCell (World.setCell (World.setCell w3 _ _) _ _) _ _) _ _) _ _ = wF
    obtain ⟨rF, oF, bF⟩ := fill5t H23.out hwF
    clear hwF e0 e1 e2 e3 e4 f2
    refine bodyPost_ret (v := tbV b A1 n c1 B1 m d1 x (tdCt k (-1))) (by simp [results, Tryz.results20, go_sem, rF, tdCt]) rfl ⟨(-1), A1, c1, B1, d1, par, R, by have := HV.out; simpa using this, rfl, ⟨?_, HOT4.out.low, HOT4.out.len, HOT4.out.cap, HOT4.out.nod, ?_⟩, bF _ _ (by rw [HP.out]; omega) HB3.out⟩
    · exact (owni_blk HOT4.out.heads fun q e => oF q (by have := (HOT4.out.heads.block q e).1; omega)).less (by rw [HP.out]; omega)
    · rcases HOT4.out.slots with h | ⟨g, h1, h2, h3, h4, h5, h6⟩
      · exact .inl h
      · exact .inr ⟨g, h1, by rw [HP.out]; omega, h3, h4, h5, h6.same (oF g (by omega)) (fun q hq _ => oF q (by omega))⟩
  · have hvv : tabOk b l sl x k ∧ v = W := by
      rcases HV.out with h | h
      · exact h
      · exact absurd h.2 hv1
    obtain ⟨i, hi, him⟩ : ∃ i : Nat, v = i ∧ i < m := by
      have h1 := HWB.out
      have h2 := hvv.2
      exact ⟨v.toNat, by omega, by omega⟩
    have hkk := HK.out hvv.1
    subst hi
    have hne : ((i : Int) != -1) = true := by simp
    rcases HOT3.out.slots with ⟨-, h0⟩ | ⟨g, rfl, h2, h3, h4, h5, h6⟩
    · omega
    have DS : Hid (Calls Tryz.prog 73 #[.pointer (some ⟨P, 0, none⟩), .int .i64 i] w3 (DelQ w3 par R P g d1 m i b A1 n c1 x k sl)) := Lib.hid (deleteSlot_i w3 H03.out h6 him h4.1 (by omega) h3 (by omega) hkk)
    have HGG : Hid (N ≤ g ∧ g ≤ R ∧ (m ≤ d1 ∧ d1 ≤ maxLen) ∧ ∀ h, (Value.slice A1 n c1).ownBlock = some h → h ≠ g) := Lib.hid ⟨h2, h3, h4, h5⟩
    clear h2 h3 h4 h5 h6 hv1 hvv hkk
    go_wp2_with (fail)
    refine (DS.out).mono ?_
    rintro e w4 ⟨rfl, hbx, hlp, hfr⟩
    have H04 := Lib.hid hbx
    obtain ⟨hg1, hg2, hg3, hg4⟩ := HGG.out
    have H24 := Lib.hid ((hfr.block (P + 2) (Array.getElem?_eq_some_iff.1 H23.out).1 (fun h => by rcases h with h | h <;> omega)).trans H23.out)
    have HB4 := Lib.hid (HB3.out.trans (hfr.below (lo := w.heap.size) HB3.out.size (fun q h => by rw [HP.out]; rcases h with h | h <;> omega)))
    have htd : tdSl sl (i : Int) = dropS sl i := by unfold tdSl; rw [if_neg (by omega)]; simp
    have HOT4 : Hid (OwnT w4 par R N l (tdSl sl (i : Int)) A1 n c1 (some ⟨g, 0, none⟩) m d1) := Lib.hid ⟨owni_blk HOT3.out.heads (fun q e => by
      have h1 := HOT3.out.heads.block q e
      exact hfr.block q h1.2 (fun h => by rcases h with h | h; omega; exact hg4 q e h)), HOT3.out.low, by rw [htd, dropS_len]; exact HLN.out, HOT3.out.cap, (fun h => by cases h), .inr ⟨g, rfl, hg1, hg2, hg3, hg4, by rw [htd]; exact hlp⟩⟩
    clear hbx hlp hfr htd
    obtain ⟨r0, -⟩ := rowc H04.out
    have y0 := r0 0; have y1 := r0 1; have y2 := r0 2; have y3 := r0 3; have y4 := r0 4
    simp at y0 y1 y2 y3 y4
    have f2 := (rowc H24.out).2
    have r2 := (rowc H24.out).1
    obtain ⟨x0, e0⟩ : ∃ u, w4.cell? ⟨P + 2, 0, none⟩ = some u := ⟨_, r2 0⟩
    obtain ⟨x1, e1⟩ : ∃ u, w4.cell? ⟨P + 2, 1, none⟩ = some u := ⟨_, r2 1⟩
    obtain ⟨x2, e2⟩ : ∃ u, w4.cell? ⟨P + 2, 2, none⟩ = some u := ⟨_, r2 2⟩
    obtain ⟨x3, e3⟩ : ∃ u, w4.cell? ⟨P + 2, 3, none⟩ = some u := ⟨_, r2 3⟩
    obtain ⟨x4, e4⟩ : ∃ u, w4.cell? ⟨P + 2, 4, none⟩ = some u := ⟨_, r2 4⟩
    clear r0 r2
    go_wp2_with (fail)
    generalize hwF : World.setCell (World.setCell (World.setCell (World.setCell (World.setCell w4 _ _) _ _) _ _) _ _) _ _ = wF
    obtain ⟨rF, oF, bF⟩ := fill5t H24.out hwF
    clear hwF e0 e1 e2 e3 e4 f2
    refine bodyPost_ret (v := tbV b A1 n c1 (some ⟨g, 0, none⟩) m d1 x (tdCt k (i : Int))) (by simp [results, Tryz.results20, go_sem, rF, tdCt, show ¬ ((i : Int) = -1) by omega]) rfl ⟨(i : Int), A1, c1, some ⟨g, 0, none⟩, d1, par, R, by have := HV.out; simpa using this, rfl, ⟨?_, HOT4.out.low, HOT4.out.len, HOT4.out.cap, HOT4.out.nod, ?_⟩, bF _ _ (by rw [HP.out]; omega) HB4.out⟩
    · exact (owni_blk HOT4.out.heads fun q e => oF q (by have := (HOT4.out.heads.block q e).1; omega)).less (by rw [HP.out]; omega)
    · rcases HOT4.out.slots with h | ⟨g, h1, h2, h3, h4, h5, h6⟩
      · exact .inl h
      · exact .inr ⟨g, h1, by rw [HP.out]; omega, h3, h4, h5, h6.same (oF g (by omega)) (fun q hq _ => oF q (by omega))⟩

end Go.Proofs.YtdglmnmalfpipaaGreatDoor.tree

