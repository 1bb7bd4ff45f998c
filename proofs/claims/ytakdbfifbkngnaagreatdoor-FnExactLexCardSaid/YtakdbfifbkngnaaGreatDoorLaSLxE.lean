/-
  The project's lexer: readCode.
  Conditions: the source has at most 4000 bytes; the variables that are listed hold what the program's text lays.
-/
import Derived.Test.YtakdbfifbkngnaaGreatDoorLaSLxC
import Derived.Deep.RegionHeld3
import Derived.Deep.DeepCutAuto
namespace Go.Proofs.YtakdbfifbkngnaaGreatDoor.lex
open Go.ChangeShapes Go.WideShapes Go.ChangeAt Go.RowKit
set_option linter.unusedVariables false

theorem tokR_bad {l : List UInt8} {c : Nat} (h : tokR l = .bad c) : 2 ≤ c ∧ c ≤ 4 := by
  cases l with
  | nil => rw [tokR] at h; cases h; omega
  | cons b l =>
    rw [tokR] at h
    split at h
    · split at h
      · cases h; omega
      · cases h
    · split at h
      · cases h
      · split at h
        · split at h
          · cases h
          · cases h; omega
        · split at h
          · split at h
            · split at h
              · cases h
              · cases h; omega
            · cases h; omega
          · split at h
            · cases h; omega
            · cases h
theorem tokR_len {l : List UInt8} {k z : Nat} {n : Int} {t : List UInt8} (h : tokR l = .good k n t z) : t.length ≤ z := by
  cases l with
  | nil => rw [tokR] at h; cases h
  | cons b l =>
    rw [tokR] at h
    split at h
    · split at h
      · cases h
      · cases h; rw [List.length_take]; omega
    · split at h
      · cases h; rw [List.length_take]; omega
      · split at h
        · split at h
          · cases h; simp
          · cases h
        · split at h
          · split at h
            · rename_i t' k' hs
              split at h
              · cases h
                have := str_len l.length l (Nat.le_refl _) _ _ hs
                omega
              · cases h
            · cases h
          · split at h
            · cases h
            · cases h; exact Nat.le_refl _
theorem drc {w : World} {a : Addr} {u : Option Value} (h : w.cell? a = u) : w.drew.cell? a = u := h

/-- What readCode gives: a place behind a closing tag or at the end, or where a token fails. -/
def CoQ (w0 : World) (s : ByteArray) (p : Nat) (e : Ending) (w' : World) : Prop :=
  ∃ (p2 c : Nat) (out2 : List Tk), e = .returned (.int .i64 (c : Int)) ∧ St w0.heap.size s p2 out2 w' ∧ p ≤ p2 ∧ p2 ≤ s.size ∧ c ≤ 4 ∧ Below w0.heap.size w0 w' ∧ ((c = 0 ∧ Mid s.data.toList false p2 out2) ∨ (c ≠ 0 ∧ Lx s.data.toList false 0 (.bad c p2)))

set_option maxHeartbeats 8000000 in
set_option maxRecDepth 100000 in
theorem readCode (w0 : World) (hV : Vars w0) (hM : MaxL w0) (s : ByteArray) (p0 : Nat) (out0 : List Tk) (hs : s.size ≤ 4000) (w : World) (hb0 : Below w0.heap.size w0 w) (h : St w0.heap.size s p0 out0 w) (hm : Mid s.data.toList true p0 out0) :
    Calls Tryz.prog 33 #[.pointer (some ⟨w0.heap.size, 0, none⟩)] w (CoQ w0 s p0) := by
  obtain ⟨L, HL⟩ : ∃ L, Hid (s.data.toList = L) := ⟨_, Lib.hid rfl⟩
  have hlen : L.length = s.size := by rw [← HL.out, lead.size_eq]
  rw [HL.out] at hm
  have HLE := Lib.hid hlen
  have hp0 : p0 ≤ s.size := by have := hm.1; omega
  have HS0 := Lib.hid h
  have HM := Lib.hid hM
  have HVV := Lib.hid hV
  have HB0 := Lib.hid hb0
  have HM0 := Lib.hid hm
  clear hlen h hM hV hb0 hm
  go_enter Tryz.func33, Tryz.ntmps33
  go_wp2_with (fail)
  go_loopg [] (s.size - p0) (fun gk wr => ∃ (p : Nat) (out : List Tk), gk + p = s.size ∧ p0 ≤ p ∧ p ≤ s.size ∧ Hid (St w0.heap.size s p out wr) ∧ Hid (Mid L true p out) ∧ Hid (Below w0.heap.size w0 wr))
  case atStart => exact ⟨p0, out0, by omega, by omega, hp0, HS0, HM0, HB0⟩
  case round =>
    obtain ⟨p, out, hgk, hpp, hps, HS, HMi, HB⟩ := hrel
    have hstq := HS.out
    obtain ⟨v, hv, -⟩ := hstq
    obtain ⟨rr, ff⟩ := rowc hv
    have c0 := rr 0
    have c1 := rr 1
    have f1 := ff 1
    simp only [List.getElem?_toArray, List.getElem?_cons_zero, List.getElem?_cons_succ] at c0 c1
    clear hv rr ff
    by_cases hlt : p < s.size
    · have hso := HMi.out.so (by rw [HLE.out]; exact hlt)
      obtain ⟨n, hn⟩ : ∃ n, spc (L.drop p) = n := ⟨_, rfl⟩
      have hnl := spc_le (L.drop p)
      rw [hn, List.length_drop, HLE.out] at hnl
      have HSO := Lib.hid (Sofar.spaces n p hn hso)
      obtain ⟨x, hx⟩ : ∃ x, s.extract p s.size = x := ⟨_, rfl⟩
      have hxl : x.data.toList = L.drop p := by rw [← hx, tail_list, HL.out]
      have hxs : x.size = s.size - p := by rw [← hx, ByteArray.size_extract]; omega
      have LS := leadingSpace x (by omega)
      rw [hxl, hn] at LS
      have HX := Lib.hid hx
      have HLS := Lib.hid LS
      have hskip : spc (L.drop (p + n)) = 0 := by
        have := spc_skip (L.drop p)
        rwa [hn, List.drop_drop] at this
      have HSK := Lib.hid hskip
      have hB : w0.heap.size < wr.heap.size := HS.out.lt
      clear hso hn hx hxl LS hskip
      go_wp2_with (fail)
      go_quiet (fail)
      go_upto_region 2 with fail
      generalize hwd : World.drewN wr _ = wd
      have hbd : Below wr.heap.size wr wd := by rw [← hwd]; exact below_drewNg _ _
      have HSd := Lib.hid (HS.out.below hbd)
      have HBd := Lib.hid (HB.out.trans (hbd.mono HB.out.size))
      replace c1 : wd.cell? ⟨w0.heap.size, 1, none⟩ = some (.int .i64 (p : Int)) := cell_stays (fun hl => hbd.block _ hl) c1
      have hB : w0.heap.size < wd.heap.size := HSd.out.lt
      clear hwd hbd c0 f1
      go_cut [] (fun wx => St w0.heap.size s (p + n) out wx ∧ Below w0.heap.size w0 wx)
      case first =>
        go_region_with (first
          | (go_at_call 63; refine (rest w0.heap.size s p out (by omega) (by omega) _ (by first | exact HSd.out | exact HSd.out.below ((Below.refl _ _).drew))).mono ?_
             rintro e w2 ⟨he, hb⟩
             rw [HX.out] at he
             subst he
             have hbx : Below wd.heap.size wd w2 := by first | exact hb | exact bs ((Below.refl _ _).drew) hb
             have HS2 := Lib.hid (HSd.out.below hbx)
             have HB2 := Lib.hid (HBd.out.trans (hbx.mono HBd.out.size))
             replace c1 : w2.cell? ⟨w0.heap.size, 1, none⟩ = some (.int .i64 (p : Int)) := cell_stays (fun hlt => hbx.block _ hlt) c1
             clear hb hbx)
          | (go_at_call 66; refine (HLS.out _).mono ?_
             rintro e w3 ⟨rfl, hb⟩
             have hbx : Below w2.heap.size w2 w3 := by first | exact hb | exact bs ((Below.refl _ _).drew) hb
             have hst3 := HS2.out.below hbx
             have HS3 := Lib.hid hst3
             have HB3 := Lib.hid (HB2.out.trans (hbx.mono HB2.out.size))
             obtain ⟨v3, hv3, -⟩ := hst3
             replace c1 : w3.cell? ⟨w0.heap.size, 1, none⟩ = some (.int .i64 (p : Int)) := cell_stays (fun hlt => hbx.block _ hlt) c1
             have f1 := (rowc hv3).2 1
             clear hb hbx hv3))
        all_goals
          go_wp2_with (fail)
          go_meet
          refine ⟨?_, HB3.out.setCell (p := ⟨w0.heap.size, 1, none⟩) (Nat.le_refl _) _⟩
          have e : IntKind.i64.wrap ((p : Int) + (n : Int)) = ((p + n : Nat) : Int) := by rw [IntKind.wrap_i64]; push_cast; omega
          have := HS3.out.move (p + n)
          first | (rw [e]; exact this) | simpa using this
      case rest =>
        obtain ⟨hst1, hb1⟩ := hcut
        have HS1 := Lib.hid hst1
        have HB1 := Lib.hid hb1
        clear hst1 hb1 c1 HSd HBd hB
        obtain ⟨q, hq⟩ : ∃ q, p + n = q := ⟨_, rfl⟩
        rw [hq] at HS1 HSO HSK
        have hqs : q ≤ s.size := by omega
        have hpq : p ≤ q := by omega
        clear hq hnl HLS HX hxs x
        obtain ⟨y, hy⟩ : ∃ y, s.extract q s.size = y := ⟨_, rfl⟩
        have hyl : y.data.toList = L.drop q := by rw [← hy, tail_list, HL.out]
        have hys : y.size = s.size - q := by rw [← hy, ByteArray.size_extract]; omega
        have HY := Lib.hid hy
        have HYL := Lib.hid hyl
        clear hy hyl
        go_wp2_with (fail)
        refine (rest w0.heap.size s q out hqs (by omega) _ HS1.out).mono ?_
        rintro e w4 ⟨he, hb⟩
        rw [HY.out] at he
        subst he
        have HS4 := Lib.hid (HS1.out.below hb)
        have HB4 := Lib.hid (HB1.out.trans (hb.mono HB1.out.size))
        clear hb
        by_cases hqe : q = s.size
        · obtain rfl := empty_is (t := y) (by omega)
          go_wp2_with (fail)
          go_roundg (s.size - q)
          case rel => exact ⟨q, out, by omega, by omega, hqs, HS4, Lib.hid (Mid.of HSO.out (by rw [HLE.out]; exact hqs)), HB4⟩
          case measure => omega
        · have hql : q < s.size := by omega
          have hne := isEmpty_no (t := y) (by omega)
          have hol := HSO.out.1
          obtain ⟨b1, HP1⟩ : ∃ b, Hid (Lib.hasPrefix y.data.toList [63, 62] = b) := ⟨_, Lib.hid rfl⟩
          have HQ1 : Hid ([63, 62].isPrefixOf (L.drop q) = b1) := Lib.hid (by rw [← HP1.out, HYL.out]; rfl)
          cases b1 with
          | true =>
            have hq2 := pre_len HQ1.out
            rw [List.length_drop, HLE.out] at hq2
            simp only [List.length_cons, List.length_nil] at hq2
            have hstep := HSO.out.step (by rw [HLE.out]; exact hql) (stp_close HQ1.out) (by simp; omega)
            obtain ⟨d, hd⟩ : ∃ d, (if [10].isPrefixOf (L.drop (q + 2)) then 1 else 0) = d := ⟨_, rfl⟩
            have hdl : q + 2 + d ≤ s.size := by
              rw [← hd]
              split
              · rename_i h10
                have := pre_len h10
                rw [List.length_drop, HLE.out] at this
                simp only [List.length_cons, List.length_nil] at this
                omega
              · omega
            rw [hd] at hstep
            have HSTEP := Lib.hid hstep
            have RC := readClosingTag w0.heap.size s q out hs (by omega) hol
            rw [HL.out, hd] at RC
            have HRC := Lib.hid RC
            clear hstep hd RC
            go_wp2_with (first | (go_at_call 65; refine (Tryz.strings_HasPrefix y ⟨#[63, 62]⟩ _).mono ?_; rintro e w5 ⟨he, rfl⟩; obtain rfl : e = .returned (.bool _) := he.trans (congrArg (fun b => Ending.returned (.bool b)) HP1.out); clear he))
            refine (HRC.out _ HS4.out).mono ?_
            rintro e w6 ⟨rfl, hst, hb⟩
            have HS6 := Lib.hid hst
            have HB6 := Lib.hid (HB4.out.trans hb)
            clear hst hb
            go_wp2_with (fail)
            go_ret
            exact ⟨q + 2 + d, 0, _, rfl, HS6.out, by omega, hdl, by omega, HB6.out, .inl ⟨rfl, by rw [HL.out]; exact Mid.of HSTEP.out (by rw [HLE.out]; exact hdl)⟩⟩
          | false =>
            obtain ⟨b2, HP2⟩ : ∃ b, Hid (Lib.hasPrefix y.data.toList [47, 47] = b) := ⟨_, Lib.hid rfl⟩
            have HQ2 : Hid ([47, 47].isPrefixOf (L.drop q) = b2) := Lib.hid (by rw [← HP2.out, HYL.out]; rfl)
            cases b2 with
            | true =>
              have hcp := cmt_pos HQ2.out
              have hcl := cmt_le (L.drop q)
              rw [List.length_drop, HLE.out] at hcl
              have hstep := HSO.out.step (by rw [HLE.out]; exact hql) (stp_cmt HQ1.out HQ2.out) (by simp)
              rw [List.append_nil] at hstep
              have LC := leadingComment y (by omega)
              rw [HYL.out] at LC
              obtain ⟨m, hm⟩ : ∃ m, cmt (L.drop q) = m := ⟨_, rfl⟩
              rw [hm] at hstep LC hcp hcl
              have HSTEP := Lib.hid hstep
              have HLC := Lib.hid LC
              have c1 : w4.cell? ⟨w0.heap.size, 1, none⟩ = some (.int .i64 (q : Int)) := by
                obtain ⟨v, hv, -⟩ := HS4.out
                have := (rowc hv).1 1
                simpa using this
              have f1 : w4.frozen? ⟨w0.heap.size, 1, none⟩ = false := by
                obtain ⟨v, hv, -⟩ := HS4.out
                exact (rowc hv).2 1
              have hB : w0.heap.size < w4.heap.size := HS4.out.lt
              clear hm hstep LC
              go_upto_region 13 with (first | (go_at_call 65; refine (Tryz.strings_HasPrefix y ⟨#[63, 62]⟩ _).mono ?_; rintro e w5 ⟨he, rfl⟩; obtain rfl : e = .returned (.bool _) := he.trans (congrArg (fun b => Ending.returned (.bool b)) HP1.out); clear he) | (go_at_call 65; refine (Tryz.strings_HasPrefix y ⟨#[47, 47]⟩ _).mono ?_; rintro e w5 ⟨he, rfl⟩; obtain rfl : e = .returned (.bool _) := he.trans (congrArg (fun b => Ending.returned (.bool b)) HP2.out); clear he))
              have HSTEPc := HSTEP
              go_region_with (first
                | (go_at_call 68; refine (HLC.out _ (by first | exact HM.out.stays HB4.out | exact HM.out.stays HB4.out.drew)).mono ?_
                   rintro e w6 ⟨rfl, hb⟩
                   have hbx : Below w5.heap.size w5 w6 := by first | exact hb | exact bs ((Below.refl _ _).drew) hb
                   have hst6 := HS4.out.below hbx
                   have HS6 := Lib.hid hst6
                   have HB6 := Lib.hid (HB4.out.trans (hbx.mono HB4.out.size))
                   obtain ⟨v6, hv6, -⟩ := hst6
                   replace c1 : w6.cell? ⟨w0.heap.size, 1, none⟩ = some (.int .i64 (q : Int)) := cell_stays (fun hlt => hbx.block _ hlt) c1
                   replace f1 := (rowc hv6).2 1
                   clear hb hbx hv6))
              all_goals
                go_wp2_with (fail)
                go_roundg (s.size - (q + m))
                case rel =>
                  refine ⟨q + m, out, by omega, by omega, by omega, Lib.hid ?_, Lib.hid (Mid.of HSTEP.out (by rw [HLE.out]; omega)), Lib.hid (HB6.out.setCell (p := ⟨w0.heap.size, 1, none⟩) (Nat.le_refl _) _)⟩
                  have e : IntKind.i64.wrap ((q : Int) + (m : Int)) = ((q + m : Nat) : Int) := by rw [IntKind.wrap_i64]; push_cast; omega
                  have := HS6.out.move (q + m)
                  first | (rw [e]; exact this) | simpa using this
                case measure => omega
            | false =>
              have RT := readToken y (by omega) (by omega)
              rw [HYL.out] at RT
              cases htr : tokR (L.drop q) with
              | bad c =>
                rw [htr] at RT
                have hc := tokR_bad htr
                have HBAD := Lib.hid (HSO.out.fail (by rw [HLE.out]; exact hql) (stp_bad HQ1.out HQ2.out HSK.out htr))
                have HRT := Lib.hid RT
                have hc0 : ((c : Int) == 0) = false := beq_eq_false_iff_ne.2 (by omega)
                clear RT htr
                go_wp2_with (first | (go_at_call 65; refine (Tryz.strings_HasPrefix y ⟨#[63, 62]⟩ _).mono ?_; rintro e w5 ⟨he, rfl⟩; obtain rfl : e = .returned (.bool _) := he.trans (congrArg (fun b => Ending.returned (.bool b)) HP1.out); clear he) | (go_at_call 65; refine (Tryz.strings_HasPrefix y ⟨#[47, 47]⟩ _).mono ?_; rintro e w5 ⟨he, rfl⟩; obtain rfl : e = .returned (.bool _) := he.trans (congrArg (fun b => Ending.returned (.bool b)) HP2.out); clear he))
                refine (HRT.out _ (HVV.out.stays HB4.out)).mono ?_
                rintro e w6 ⟨he, hb⟩
                unfold RdE at he
                subst he
                have HS6 := Lib.hid (HS4.out.below hb)
                have HB6 := Lib.hid (HB4.out.trans (hb.mono HB4.out.size))
                clear hb
                go_wp2_with (fail)
                go_ret
                exact ⟨q, c, out, rfl, HS6.out.below (b1 _ _), by omega, hqs, by omega, HB6.out.alloc HB6.out.size _, .inr ⟨by omega, by rw [HL.out]; exact HBAD.out⟩⟩
              | good k nn t z =>
                rw [htr] at RT
                have hz := tokR_pos htr
                have htl := tokR_len htr
                rw [List.length_drop, HLE.out] at hz
                have HSTEP := Lib.hid (HSO.out.step (by rw [HLE.out]; exact hql) (stp_good HQ1.out HQ2.out HSK.out htr) (by simp; omega))
                have hts : (tx t).size ≤ 4000 := by rw [tx_size]; omega
                have HRT := Lib.hid RT
                clear RT htr htl
                go_wp2_with (first | (go_at_call 65; refine (Tryz.strings_HasPrefix y ⟨#[63, 62]⟩ _).mono ?_; rintro e w5 ⟨he, rfl⟩; obtain rfl : e = .returned (.bool _) := he.trans (congrArg (fun b => Ending.returned (.bool b)) HP1.out); clear he) | (go_at_call 65; refine (Tryz.strings_HasPrefix y ⟨#[47, 47]⟩ _).mono ?_; rintro e w5 ⟨he, rfl⟩; obtain rfl : e = .returned (.bool _) := he.trans (congrArg (fun b => Ending.returned (.bool b)) HP2.out); clear he))
                refine (HRT.out _ (HVV.out.stays HB4.out)).mono ?_
                rintro e w6 ⟨he, hb⟩
                replace he : e = .returned (.tuple #[.agg #[.int .i64 (k : Int), .int .i64 nn, .string (tx t), .int .i64 0], .int .i64 (z : Int), .int .i64 0]) := he
                obtain ⟨tt, htt⟩ : ∃ tt, tx t = tt := ⟨_, rfl⟩
                rw [htt] at he hts HSTEP
                subst he
                have HS6 := Lib.hid (HS4.out.below (bs hb (b1 w6 (.cells #[.int .i64 (k : Int), .int .i64 nn, .string tt, .int .i64 0] IT))))
                have HB6 := Lib.hid ((HB4.out.trans (hb.mono HB4.out.size)).alloc (HB4.out.trans (hb.mono HB4.out.size)).size (.cells #[.int .i64 (k : Int), .int .i64 nn, .string tt, .int .i64 0] IT))
                clear hb htt
                go_wp2_with (fail)
                refine (add w0.heap.size s q out (k : Int) nn tt 0 z (by omega) (by omega) (by omega) (by omega) _ HS6.out).mono ?_
                rintro e w7 ⟨rfl, hst, hb⟩
                have HS7 := Lib.hid hst
                have HB7 := Lib.hid (HB6.out.trans hb)
                clear hst hb
                go_wp2_with (fail)
                go_roundg (s.size - (q + z))
                case rel => exact ⟨q + z, _, by omega, by omega, by omega, HS7, Lib.hid (Mid.of HSTEP.out (by rw [HLE.out]; omega)), HB7⟩
                case measure => omega
    · have hpe : p = s.size := by omega
      go_wp2_with (fail)
      go_quiet (fail)
      go_wp2
      go_ret
      refine ⟨p, 0, out, rfl, HS.out.below (below_drewNg _ _), hpp, hps, by omega, HB.out.trans ((below_drewNg _ _).mono HB.out.size), .inl ⟨rfl, ?_⟩⟩
      rw [HL.out]
      have hm := HMi.out
      rw [hpe, ← HLE.out] at hm ⊢
      exact hm.any

end Go.Proofs.YtakdbfifbkngnaaGreatDoor.lex

