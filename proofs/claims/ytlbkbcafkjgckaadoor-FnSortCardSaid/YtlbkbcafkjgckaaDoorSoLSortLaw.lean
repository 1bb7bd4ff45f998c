/-
  For all bytes the law FnSort returns true: sorting loses nothing, and integers come out in order.
  Conditions: the argument is of Go's type; the package variables that the row lists hold what the program's text lays, and the card ties that to the text.
-/
import Derived.Test.YtlbkbcafkjgckaaDoorRows
import Derived.Test.YtlbkbcafkjgckaaDoorCards
import Derived.Test.YtlbkbcafkjgckaaDoorTie
import Derived.LaidMore
import Derived.LaidHandle
import Derived.Stop.Joined
import Derived.SevenTiedAt
import Derived.Stop.LaidErr
import Derived.SizedLaws
import Derived.Deep.RegionWith
import Derived.Deep.RegionHeld3
import Derived.Deep.DeepCutAuto
import Derived.WalkKit
import Derived.ProofKit
import Derived.OpenShut
import Derived.Test.YtlbkbcafkjgckaaDoorSoB3
import Derived.Test.YtlbkbcafkjgckaaDoorCmB7
import Derived.Test.YtlbkbcafkjgckaaDoorSoSSame
import Derived.Test.YtlbkbcafkjgckaaDoorSoSDrawL
import Derived.Test.YtlbkbcafkjgckaaDoorCmSCmpJ
import Derived.Test.YtlbkbcafkjgckaaDoorCmB2
import Derived.Test.YtlbkbcafkjgckaaDoorCmSEnvCm
import Derived.Test.YtlbkbcafkjgckaaDoorSoB1
namespace Go.Proofs.YtlbkbcafkjgckaaDoor.fnSort
open Go.ChangeShapes Go.WideShapes Go.ChangeAt Go.RowKit mem tree ers
open Go.ChangeMaps (open_string)
set_option linter.unusedVariables false

theorem own : ownKnob Tryd.prog.godebug = none := by kernel_rfl


theorem bigNo (A : Option Addr) (n c : Nat) (h : (n : Int) ≤ 1048576) (w : World) :
    Calls Tryd.prog 12 #[.slice A n c] w fun e w' => e = .returned (.bool false) ∧ w = w' := by
  have hd : decide ((1048576 : Int) < (n : Int)) = false := by rw [decide_eq_false_iff_not]; omega
  go_enter Tryd.func12, Tryd.ntmps12
  go_wp2
  go_ret
  exact ⟨rfl, rfl⟩
def isK (t : Tr) : Bool := match t with | .mk k _ _ _ _ _ => decide (k = 2)
theorem tll_le : ∀ {vs : List Tr}, (∀ t ∈ vs, tot t ≤ 300) → tll vs ≤ 300 * vs.length
  | [], _ => by simp [tll]
  | t :: vs, h => by
    have h1 := h t List.mem_cons_self
    have h2 := tll_le (vs := vs) (fun u hu => h u (List.mem_cons_of_mem _ hu))
    rw [tll, List.length_cons]
    omega
theorem ints_ord {vs : List Tr} (h : vs.all isK = true) : ordB (isort vs) = true := isort_ord fun t ht => by
  have := List.all_eq_true.1 h t ht
  obtain ⟨k, n, s, x, ks, us⟩ := t
  have hk : k = 2 := by simpa [isK] using this
  exact ⟨n, s, x, ks, us, by rw [hk]⟩
theorem cnt_step {p : Tr → Bool} {l : List Tr} {z : Nat} {t : Tr} (h : l[z]? = some t) : (l.take (z + 1)).countP p = (l.take z).countP p + (if p t then 1 else 0) := by
  rw [List.take_add_one, h, List.countP_append]
  simp
theorem all_step {p : Tr → Bool} {l : List Tr} {z : Nat} {t : Tr} (h : l[z]? = some t) : (l.take (z + 1)).all p = ((l.take z).all p && p t) := by
  rw [List.take_add_one, h, List.all_append]
  simp
def CutW (W : World) (b : Bool) (v : Value) (wx : World) : Prop := v = .bool b ∧ Below W.heap.size W wx

set_option maxHeartbeats 8000000 in
set_option maxRecDepth 100000 in
theorem walk (A0 : Option Addr) (n0 c0 : Nat) (l0 : List Int) (w : World) (hn0 : n0 ≤ maxLen) (hr0 : Rd w A0 n0 l0) (hE : CmE w) :
    Calls Tryd.prog 5 #[.slice A0 n0 c0] w fun e w' => e = .returned (.bool true) ∧ Below w.heap.size w w' := by
  unfold maxLen at hn0
  by_cases hbig : (1048576 : Int) < (n0 : Int)
  · go_enter Tryd.func5, Tryd.ntmps5
    go_wp2
    go_ret
    exact ⟨rfl, Below.refl _ _⟩
  have HA := Lib.hid hr0
  have HE := Lib.hid hE
  clear hr0 hE
  go_enter Tryd.func5, Tryd.ntmps5
  go_wp2_with (go_at_call 12; refine (bigNo A0 n0 c0 (by omega) _).mono ?_; rintro e w0 ⟨rfl, rfl⟩)
  refine (draw.drawSort A0 n0 c0 (by omega) _ (draw.code_of_rd HA.out)).mono ?_
  rintro e w1 ⟨A, c, vs, rfl, hl, ht, hv, hb1⟩
  have hft := vfits hv
  have hcn := cnts_tll hft
  have htl := tll_le ht
  have HB1 := Lib.hid hb1
  have HV1 := Lib.hid hv
  have SV : Hid (Calls Tryd.prog 28 #[.slice A vs.length c] w1 (VoQ w1 (isort vs))) := Lib.hid (sortValues_i vs A c w1 (hv.stays (fun b hb => ⟨Nat.zero_le _, hb.2⟩) (fun _ _ _ => rfl)) (by omega) (by omega) (HE.out.stays hb1))
  obtain ⟨rs, HRS⟩ : ∃ rs, Hid (isort vs = rs) := ⟨_, Lib.hid rfl⟩
  have HP : Hid (vs.Perm rs) := Lib.hid (by rw [← HRS.out]; exact (isort_perm vs).symm)
  have HRL : Hid (rs.length = vs.length) := Lib.hid (by rw [← HRS.out]; exact isort_len vs)
  have HRO : Hid (vs.all isK = true → ordB rs = true) := Lib.hid (fun h => by rw [← HRS.out]; exact ints_ord h)
  have HTT : Hid (∀ t ∈ rs, tot t ≤ 1000000000) := Lib.hid (fun t h => by have := ht t (HP.out.mem_iff.2 h); omega)
  have hm : vs.length ≤ 6 := hl
  rw [HRS.out] at SV
  have HRL2 := HRL.out
  obtain ⟨L, HL⟩ : ∃ L, Hid (vs.length = L) := ⟨_, Lib.hid rfl⟩
  rw [HL.out] at SV hm HRL2 ⊢
  have HR := Lib.hid HRL2
  clear hv hb1 ht hft hcn htl hl HRL HRL2
  go_wp2_with (fail)
  refine SV.out.mono ?_
  rintro e w2 ⟨v, par, hh, hi, rfl, hv2, hhi, hb2⟩
  obtain ⟨A2, c2, rfl, -⟩ := hv2.out
  rw [HR.out] at hv2 ⊢
  have HR2 := Lib.hid hv2.vin0
  have HV2 := Lib.hid (HV1.out.below hb2)
  have HB2 := Lib.hid (bs HB1.out hb2)
  clear hv2 hhi hb2 SV HV1 HB1
  obtain ⟨W0, HW0⟩ : ∃ W, Hid (w2 = W) := ⟨_, Lib.hid rfl⟩
  have HV := Lib.hid (HW0.out ▸ HV2.out)
  have HX := Lib.hid (HW0.out ▸ HR2.out)
  have HBW := Lib.hid (HW0.out ▸ HB2.out)
  have HEW := Lib.hid (HE.out.stays HBW.out)
  have IO : Hid (∀ w', Below W0.heap.size W0 w' → Calls Tryd.prog 29 #[.slice A2 L c2] w' (GivesQ w' (.bool (ordB rs)))) := Lib.hid (fun w' hb => by
    have := isOrdered_i rs A2 c2 w' (Nw 0 w') (HX.out.stays (fun b hb2 => ⟨hb2.1, hb2.2.same (hb.block b hb2.2.lt)⟩) (fun b _ hl => hb.block b hl)) (by have := HR.out; omega) (fun w3 t t' v v' ht ht' hb3 h1 h2 => compare_i t t' (HTT.out t ht) (HTT.out t' ht') w3 0 0 v v' ((HEW.out.stays hb).stays hb3) (h1.stays (fun b hb2 => ⟨hb2.1, Plain.same hb2.2 (hb3.block b hb2.2.lt)⟩) (fun _ _ _ => rfl)) (h2.stays (fun b hb2 => ⟨hb2.1, Plain.same hb2.2 (hb3.block b hb2.2.lt)⟩) (fun _ _ _ => rfl)))
    rw [HR.out] at this
    exact this)
  obtain ⟨M0, HM0⟩ : ∃ M, Hid (W0.heap.size = M) := ⟨_, Lib.hid rfl⟩
  have HB0 : Hid (Below M0 W0 w2) := Lib.hid (by rw [HW0.out, ← HM0.out]; exact Below.refl _ _)
  rw [HM0.out] at IO
  have HFB : Hid (∀ w', Below M0 W0 w' → Below w.heap.size w w') := Lib.hid (fun w' hb => bs HBW.out (HM0.out ▸ hb))
  have VV : Hid (∀ w', Below M0 W0 w' → ∀ z t, vs[z]? = some t → ∃ (a : Addr) (k n : Int) (s : ByteArray) (x : Int) (B : Option Addr) (l d : Nat), A = some a ∧ isK t = decide (k = 2) ∧ (∃ S, TIn w' S t (vV k n s x B l d)) ∧ At5 w' (a.add (z * 5)) k n s x B l d) := Lib.hid (fun w' hb z t ht => by
    obtain ⟨a, k1, n1, s1, x1, ks1, vs1, A1, c1, ha, hS, rfl, hT, hcell⟩ := HV.out.below (HM0.out ▸ hb) z t ht
    exact ⟨a, k1, n1, s1, x1, A1, _, c1, ha, rfl, ⟨_, hT⟩, hcell⟩)
  have XX : Hid (∀ w', Below M0 W0 w' → ∀ z t, rs[z]? = some t → ∃ (a : Addr) (k n : Int) (s : ByteArray) (x : Int) (B : Option Addr) (l d : Nat), A2 = some a ∧ (∃ S, TIn w' S t (vV k n s x B l d)) ∧ At5 w' (a.add (z * 5)) k n s x B l d) := Lib.hid (fun w' hb z t ht => by
    obtain ⟨a, k1, n1, s1, x1, ks1, vs1, A1, c1, ha, hS, rfl, hT, hcell⟩ := HX.out.below (HM0.out ▸ hb) z t ht
    exact ⟨a, k1, n1, s1, x1, A1, _, c1, ha, ⟨_, hT⟩, hcell⟩)
  clear HV2 HR2 HB2 HV HX HBW HEW
  go_wp2_with (fail)
  go_loopg [5, 6] (L + 1) (fun gk b i wr => ∃ (j : Nat) (q : Bool), b = .bool q ∧ i = .int .i64 j ∧ gk + j = L + 1 ∧ j ≤ L ∧ Hid (q = (vs.take j).all isK) ∧ Hid (Below M0 W0 wr))
  case atStart => exact ⟨0, true, rfl, rfl, by omega, by omega, Lib.hid rfl, HB0⟩
  case round =>
    clear HB0
    obtain ⟨j, q, rfl, rfl, hgj, hjL, HQ, HB⟩ := hrel
    by_cases hlt : j < L
    · obtain ⟨t, ht⟩ : ∃ t, vs[j]? = some t := ⟨_, List.getElem?_eq_getElem (by rw [HL.out]; exact hlt)⟩
      obtain ⟨a, k1, n1, s1, x1, B1, l1, d1, ha, hk, ⟨S1, hT⟩, hc⟩ := VV.out wr HB.out j t ht
      subst ha
      have HQ2 : Hid ((q && decide (k1 = 2)) = (vs.take (j + 1)).all isK) := Lib.hid (by rw [all_step ht, ← hk, HQ.out])
      have HTJ := Lib.hid ht
      obtain ⟨p0, p1, p2, p3, p4⟩ := hc
      clear hk hT ht p1 p2 p3 p4 HQ
      go_upto_region 9 with fail
      go_cut [5] (fun v wx => v = .bool (q && decide (k1 = 2)) ∧ wr = wx)
      case first =>
        cases q
        · go_wp2_with (fail)
          go_meet
          exact ⟨rfl, rfl⟩
        · by_cases hk2 : k1 = 2
          · subst hk2
            go_wp2_with (fail)
            go_meet
            exact ⟨rfl, rfl⟩
          · have hkd := decide_eq_false hk2
            have hkb : (k1 == 2) = false := by simpa using hk2
            go_wp2_with (fail)
            go_meet
            exact ⟨by simp [hkd], rfl⟩
      case rest =>
        obtain ⟨rfl, rfl⟩ := hcut
        obtain ⟨q2, HQ3⟩ : ∃ q2, Hid ((q && decide (k1 = 2)) = q2) := ⟨_, Lib.hid rfl⟩
        rw [HQ3.out] at HQ2 ⊢
        clear p0 HQ3
        go_wp2_with (fail)
        go_loopg [7, 8, 9] (L + 1) (fun gk2 m n k wr2 => ∃ (z M Nn : Nat), m = .int .i64 M ∧ n = .int .i64 Nn ∧ k = .int .i64 z ∧ gk2 + z = L + 1 ∧ z ≤ L ∧ M ≤ z ∧ Nn ≤ z ∧ Hid (M = (vs.take z).countP (sameB t)) ∧ Hid (Nn = (rs.take z).countP (sameB t)) ∧ Hid (Below M0 W0 wr2))
        case atStart => exact ⟨0, 0, 0, rfl, rfl, rfl, by omega, by omega, by omega, by omega, Lib.hid rfl, Lib.hid rfl, HB⟩
        case round =>
          clear HB
          obtain ⟨z, M, Nn, rfl, rfl, rfl, hgz, hzL, hM, hN, HM, HN, HB⟩ := hrel
          by_cases hz : z < L
          · obtain ⟨u, hu⟩ : ∃ u, vs[z]? = some u := ⟨_, List.getElem?_eq_getElem (by rw [HL.out]; exact hz)⟩
            obtain ⟨y, hy⟩ : ∃ y, rs[z]? = some y := ⟨_, List.getElem?_eq_getElem (by rw [HR.out]; exact hz)⟩
            have HU := Lib.hid hu
            have HY := Lib.hid hy
            obtain ⟨b1, HB1⟩ : ∃ b, Hid (sameB t u = b) := ⟨_, Lib.hid rfl⟩
            obtain ⟨b2, HB2⟩ : ∃ b, Hid (sameB t y = b) := ⟨_, Lib.hid rfl⟩
            have HWR : Hid (∀ w', Below wr.heap.size wr w' → Below M0 W0 w') := Lib.hid (fun w' hb => HB.out.trans (hb.mono (by have := HB.out.size; have := HM0.out; omega)))
            clear hu hy
            go_upto_region 15 with fail
            go_cut [45] (fun v wx => CutW wr b1 v wx)
            case first =>
              obtain ⟨a1, k1, n1, s1, x1, B1, l1, d1, ha1, -, ⟨S1, hT1⟩, p0, p1, p2, p3, p4⟩ := VV.out wr HB.out j t HTJ.out
              obtain e1 := Option.some.inj ha1; subst e1
              obtain ⟨a2, k2, n2, s2, x2, B2, l2, d2, ha2, -, ⟨S2, hT2⟩, q0, q1, q2_, q3, q4⟩ := VV.out wr HB.out z u HU.out
              obtain e2 := Option.some.inj ha2; subst e2
              have SA : Hid (∀ w', Below wr.heap.size wr w' → Calls Tryd.prog 17 #[vV k1 n1 s1 x1 B1 l1 d1, vV k2 n2 s2 x2 B2 l2 d2] w' (GivesQ w' (.bool b1))) := Lib.hid (fun w' hb => by rw [← HB1.out]; exact same_l t u w' S1 S2 _ _ (hT1.below' hb) (hT2.below' hb))
              clear hT1 hT2
              go_region_held3 (fun w' => w'.cell? (a.add (j * 5)) = some (.int .i64 k1) ∧ w'.cell? ⟨(a.add (j * 5)).block, (a.add (j * 5)).off + 1, none⟩ = some (.int .i64 n1) ∧ w'.cell? ⟨(a.add (j * 5)).block, (a.add (j * 5)).off + 2, none⟩ = some (.string s1) ∧ w'.cell? ⟨(a.add (j * 5)).block, (a.add (j * 5)).off + 3, none⟩ = some (.int .i64 x1) ∧ w'.cell? ⟨(a.add (j * 5)).block, (a.add (j * 5)).off + 4, none⟩ = some (.slice B1 l1 d1) ∧ w'.cell? (a.add (z * 5)) = some (.int .i64 k2) ∧ w'.cell? ⟨(a.add (z * 5)).block, (a.add (z * 5)).off + 1, none⟩ = some (.int .i64 n2) ∧ w'.cell? ⟨(a.add (z * 5)).block, (a.add (z * 5)).off + 2, none⟩ = some (.string s2) ∧ w'.cell? ⟨(a.add (z * 5)).block, (a.add (z * 5)).off + 3, none⟩ = some (.int .i64 x2) ∧ w'.cell? ⟨(a.add (z * 5)).block, (a.add (z * 5)).off + 4, none⟩ = some (.slice B2 l2 d2)) (go_keep) ((go_at_call 17; refine (SA.out _ ?_).mono ?_; exact ((Below.refl wr.heap.size wr).drew); rintro e w9 ⟨rfl, hb9⟩; have HBZ := Lib.hid (bs ((Below.refl wr.heap.size wr).drew) hb9); have kp : ∀ (p : Addr) (u : Value), wr.cell? p = some u → w9.cell? p = some u := fun p u h => cell_stays (fun hlt => HBZ.out.block _ hlt) h; have p0 := kp _ _ p0; have p1 := kp _ _ p1; have p2 := kp _ _ p2; have p3 := kp _ _ p3; have p4 := kp _ _ p4; have q0 := kp _ _ q0; have q1 := kp _ _ q1; have q2_ := kp _ _ q2_; have q3 := kp _ _ q3; have q4 := kp _ _ q4; clear hb9 kp))
              all_goals
                go_wp2_with (fail)
                go_meet
                exact ⟨rfl, HBZ.out⟩
            case rest =>
              obtain ⟨rfl, hbc⟩ := hcut
              have HBC := Lib.hid (HWR.out _ hbc)
              have HWC : Hid (∀ w', Below wc.heap.size wc w' → Below M0 W0 w') := Lib.hid (fun w' hb => HBC.out.trans (hb.mono (by have := HBC.out.size; have := HM0.out; omega)))
              clear hbc HWR HB
              have hM1 : M + (if b1 then 1 else 0) ≤ z + 1 := by split <;> omega
              have hN1 : Nn + (if b2 then 1 else 0) ≤ z + 1 := by split <;> omega
              have HM2 : Hid (M + (if b1 then 1 else 0) = (vs.take (z + 1)).countP (sameB t)) := Lib.hid (by rw [cnt_step HU.out, HB1.out, HM.out])
              have HN2 : Hid (Nn + (if b2 then 1 else 0) = (rs.take (z + 1)).countP (sameB t)) := Lib.hid (by rw [cnt_step HY.out, HB2.out, HN.out])
              clear HM HN
              cases b1
              all_goals
                go_upto_region 17 with fail
                go_cut [62] (fun v wx => CutW wc b2 v wx)
                case first =>
                  obtain ⟨a1, k1, n1, s1, x1, B1, l1, d1, ha1, -, ⟨S1, hT1⟩, p0, p1, p2, p3, p4⟩ := VV.out wc HBC.out j t HTJ.out
                  obtain e1 := Option.some.inj ha1; subst e1
                  obtain ⟨a2, k2, n2, s2, x2, B2, l2, d2, rfl, ⟨S2, hT2⟩, q0, q1, q2_, q3, q4⟩ := XX.out wc HBC.out z y HY.out
                  have SA : Hid (∀ w', Below wc.heap.size wc w' → Calls Tryd.prog 17 #[vV k1 n1 s1 x1 B1 l1 d1, vV k2 n2 s2 x2 B2 l2 d2] w' (GivesQ w' (.bool b2))) := Lib.hid (fun w' hb => by rw [← HB2.out]; exact same_l t y w' S1 S2 _ _ (hT1.below' hb) (hT2.below' hb))
                  clear hT1 hT2
                  have hd : decide ((z : Int) < (L : Int)) = true := decide_eq_true (by omega)
                  go_region_held3 (fun w' => w'.cell? (a.add (j * 5)) = some (.int .i64 k1) ∧ w'.cell? ⟨(a.add (j * 5)).block, (a.add (j * 5)).off + 1, none⟩ = some (.int .i64 n1) ∧ w'.cell? ⟨(a.add (j * 5)).block, (a.add (j * 5)).off + 2, none⟩ = some (.string s1) ∧ w'.cell? ⟨(a.add (j * 5)).block, (a.add (j * 5)).off + 3, none⟩ = some (.int .i64 x1) ∧ w'.cell? ⟨(a.add (j * 5)).block, (a.add (j * 5)).off + 4, none⟩ = some (.slice B1 l1 d1) ∧ w'.cell? (a2.add (z * 5)) = some (.int .i64 k2) ∧ w'.cell? ⟨(a2.add (z * 5)).block, (a2.add (z * 5)).off + 1, none⟩ = some (.int .i64 n2) ∧ w'.cell? ⟨(a2.add (z * 5)).block, (a2.add (z * 5)).off + 2, none⟩ = some (.string s2) ∧ w'.cell? ⟨(a2.add (z * 5)).block, (a2.add (z * 5)).off + 3, none⟩ = some (.int .i64 x2) ∧ w'.cell? ⟨(a2.add (z * 5)).block, (a2.add (z * 5)).off + 4, none⟩ = some (.slice B2 l2 d2)) (go_keep) ((go_at_call 17; refine (SA.out _ ?_).mono ?_; exact ((Below.refl wc.heap.size wc).drew); rintro e w9 ⟨rfl, hb9⟩; have HBZ := Lib.hid (bs ((Below.refl wc.heap.size wc).drew) hb9); have kp : ∀ (p : Addr) (u : Value), wc.cell? p = some u → w9.cell? p = some u := fun p u h => cell_stays (fun hlt => HBZ.out.block _ hlt) h; have p0 := kp _ _ p0; have p1 := kp _ _ p1; have p2 := kp _ _ p2; have p3 := kp _ _ p3; have p4 := kp _ _ p4; have q0 := kp _ _ q0; have q1 := kp _ _ q1; have q2_ := kp _ _ q2_; have q3 := kp _ _ q3; have q4 := kp _ _ q4; clear hb9 kp))
                  all_goals
                    go_wp2_with (fail)
                    go_meet
                    exact ⟨rfl, HBZ.out⟩
                case rest =>
                  obtain ⟨rfl, hbd⟩ := hcut
                  have HBD := Lib.hid (HWC.out _ hbd)
                  clear hbd HWC HBC
                  cases b2
                  all_goals
                    go_wp2_with (fail)
                    go_roundg (L - z)
                    case rel => exact ⟨z + 1, _, _, by rw [← HM2.out]; simp, by rw [← HN2.out]; simp, by go_num, by omega, by omega, by rw [← HM2.out]; exact hM1, by rw [← HN2.out]; exact hN1, Lib.hid rfl, Lib.hid rfl, HBD⟩
                    case measure => omega
          · obtain rfl : z = L := by omega
            have hMN : M = Nn := by
              rw [HM.out, HN.out, show vs.take z = vs by rw [← HL.out, List.take_length], show rs.take z = rs by rw [← HR.out, List.take_length]]
              exact HP.out.countP_eq _
            subst hMN
            clear HM HN
            go_wp2_with (fail)
            go_roundg (z - j)
            case rel => exact ⟨j + 1, q2, rfl, by go_num, by omega, by omega, HQ2, HB⟩
            case measure => omega
    · obtain rfl : j = L := by omega
      have HQ2 : Hid (q = vs.all isK) := Lib.hid (by rw [HQ.out, show vs.take j = vs by rw [← HL.out, List.take_length]])
      clear HQ
      cases q
      · go_wp2_with (fail)
        go_ret
        exact ⟨rfl, HFB.out _ HB.out⟩
      · have ho := HRO.out HQ2.out.symm
        rw [ho] at IO
        go_wp2_with (fail)
        refine (IO.out _ HB.out).mono ?_
        rintro e w5 ⟨rfl, hb5⟩
        have HB5 := Lib.hid (HB.out.trans (hb5.mono (by have := HB.out.size; have := HM0.out; omega)))
        clear hb5
        go_wp2_with (fail)
        go_ret
        exact ⟨rfl, HFB.out _ HB5.out⟩


set_option maxRecDepth 100000 in
theorem lifted (os : Os) (started : os.Started) (H : Type) (enc : TypeId × Value → H) :
    ReturnsInHanded {} Tryd.checked os 5 .any (fun w args => (Rows.fnSortSpec.pre enc Tryd.prog Tryd.f5 [] false w args ∧ laidMetH Tryd.prog ers.cmp.laidOf w) ∧ sizedMet enc Tryd.prog Tryd.f5 (OpenSpec.ofChange Rows.fnSortSpec) false w args)
      (Rows.fnSortSpec.post enc Tryd.prog Tryd.f5 false true false false) := by
  refine returnsInHanded_of_change_and (C := Tryd.checked) (X := fun w _ => laidMetH Tryd.prog ers.cmp.laidOf w) (fun _ _ _ hh h => h.of_heap hh) own started (by kernel_rfl) Tryd.func5
    (ChangeSpec.witness_shaped (enc := enc) (C := Tryd.checked) (os := os) (X := fun w _ => laidMetH Tryd.prog ers.cmp.laidOf w) false (World.doorLaid Tryd.prog 400 os) #[.slice none 0 0] 8 rfl (World.shaped_of_RefB (by kernel_rfl) (by kernel_rfl)) (by kernel_rfl) (by kernel_rfl) (by kernel_rfl) (ers.cmp.door_met os _)) ?_
  intro W base args ds gs before hval0 hW _ hsz0 hL _
  have hval : ∀ (j : Nat) t v, Tryd.f5.params[j]? = some t → args[j]? = some v → Value.okWide Tryd.prog W .any base t v := hval0
  have hW' := hW
  obtain ⟨p, q, hA0, hV, rfl, hfz, hnd⟩ := hW
  have hA : DataW.TrodAll enc Tryd.prog W 0 (fun _ => true) true Tryd.f5.params.toList args.toList ds p := hA0
  have hA2 := hA
  rw [Tryd.params5] at hA hval
  obtain ⟨v0, d0, rfl, rfl, h0⟩ := trodAll_one hA
  have hE := ers.cmp.env_of hL
  obtain ⟨-, ⟨a, hEa⟩, ⟨b, hEb⟩⟩ := id hE
  obtain ⟨rfl, rfl⟩ := hV.unique (readNT enc hEa hEb _)
  obtain ⟨A0, n0, c0, l0, rfl, hn0, hr0⟩ := opn.open_bytes Tryd.underlying22 Tryd.underlying5 (by kernel_rfl) (hval 0 22 v0 rfl rfl) h0
  clear hA0 hval0
  refine (walk A0 n0 c0 l0 W hn0 hr0 hE).mono fun e W' ⟨he, hb⟩ => ?_
  subst he
  exact ⟨_, rfl, opn.post_true_vars2 hW' hA2 rfl rfl Tryd.underlying4 (by kernel_rfl) (by kernel_rfl) hb (readNT enc (hEa.stays hb) (hEb.stays hb) _)⟩

theorem over : Rows.FnSortSaid :=
  OpenClaim.holds_of_wide 5 Tryd.f5 rfl rfl rfl rfl rfl rfl rfl ⟨rfl, rfl, rfl, rfl, rfl⟩ rfl rfl rfl rfl rfl (by kernel_rfl) Tryd.func5 (by kernel_rfl)
    (of_decide_eq_true (by kernel_rfl)) (by unfold Func.isWrapper; first | (rw [if_pos (by decide +kernel)]; kernel_rfl) | (rw [if_neg (by decide +kernel)]; exact ⟨rfl, rfl⟩))
    (fun os started H enc _ => lifted os started H enc)

/-- The statement. -/
theorem proved : Rows.FnSortCardSaid :=
  Claim7.holds_tied_plain_at .later [] Rows.fnSortCard.laidKinds true Rows.fnSortCard.stood.harness Rows.fnSortCard.stood.looks
    over (fun _ h => by cases h) (by kernel_rfl) (fun _ h => by cases h) fnSort_row_tie rfl ⟨rfl, rfl⟩ (by kernel_rfl) rfl
    (fun f fn hf hfn => by
      obtain rfl : f = 5 := Option.some.inj ((show Tryd.prog.funcNamed "loop.example/g03011/laws.FnSort" = some 5 by kernel_rfl).symm.trans hf) |>.symm
      obtain rfl : fn = Tryd.f5 := (Option.some.inj (Tryd.func5.symm.trans hfn)).symm
      exact ⟨by kernel_rfl, fun j t ht => by
        rw [Tryd.params5] at ht
        have hm : t ∈ [22] := by simpa using Array.mem_of_getElem? ht
        have hall : ([22].all fun u => !Tryd.prog.wantsStandIn u) = true := by kernel_rfl
        exact (show Tryd.prog.wantsStandIn t = false by simpa using List.all_eq_true.1 hall t hm)⟩)
    (by kernel_rfl)
#print axioms proved
end Go.Proofs.YtlbkbcafkjgckaaDoor.fnSort

