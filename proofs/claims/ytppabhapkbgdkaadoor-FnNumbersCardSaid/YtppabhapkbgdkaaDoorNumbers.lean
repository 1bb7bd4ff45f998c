/-
  For all bytes the law FnNumbers returns true: integers are read from their decimal form, and from nothing else; the bytes read as before.
  Conditions: the argument is of Go's type slice of bytes; the package variables that the row lists hold what the program's text lays, and the card ties that to the text.
-/
import Derived.Test.YtppabhapkbgdkaaDoorRows
import Derived.Test.YtppabhapkbgdkaaDoorCards
import Derived.Test.YtppabhapkbgdkaaDoorTie
import Derived.Test.YtppabhapkbgdkaaDoorSpecParse
import Derived.Test.YtppabhapkbgdkaaDoorEnv
import Derived.Test.YtppabhapkbgdkaaDoorDrawNum
import Derived.Test.YtppabhapkbgdkaaDoorLaw
import Derived.WalkKit
import Derived.ProofKit
import Derived.OpenShut
import Derived.LaidMore
import Derived.LaidHandle
import Derived.Stop.Joined
import Derived.SevenTiedAt
namespace Go.Proofs.YtppabhapkbgdkaaDoor.fnNumbers
open Go.ChangeShapes Go.WideShapes Go.ChangeAt Go.RowKit
set_option linter.unusedVariables false

theorem own : ownKnob Tryd.prog.godebug = none := by kernel_rfl

theorem pr_num (n low high : Int) (h0 : -9223372036854775808 ≤ n) (h1 : n ≤ 9223372036854775807) (l0 : -9223372036854775808 ≤ low) (l1 : high ≤ 9223372036854775807) :
    dec.pr low high (Lib.itoa n) = if low ≤ n ∧ n ≤ high then (n, true) else (0, false) := by
  split
  · rename_i h
    exact dec.pr_yes rfl h0 h1 h.1 h.2
  · rename_i h
    refine dec.pr_no fun m hm a b => h ?_
    have := dec.itoa_inj (by omega) (by omega) h0 h1 hm
    subst this
    exact ⟨a, b⟩

/-- What the second half of the law reads. -/
theorem tail_facts (t : ByteArray) : (dec.pr (-1000000000) 1000000000 t.data.toList).2 = true → fmt.num (dec.pr (-1000000000) 1000000000 t.data.toList).1 = .string t ∧ -1000000000 ≤ (dec.pr (-1000000000) 1000000000 t.data.toList).1 ∧ (dec.pr (-1000000000) 1000000000 t.data.toList).1 ≤ 1000000000 := fun h => by
  obtain ⟨a, b, c⟩ := dec.pr_true h
  exact ⟨by unfold fmt.num; rw [a, Joins.bytes_eta], b, c⟩

theorem bigNo (A : Option Addr) (n c : Nat) (h : (n : Int) ≤ 1048576) (w : World) :
    Calls Tryd.prog 7 #[.slice A n c] w fun e w' => e = .returned (.bool false) ∧ w = w' := by
  have hd : decide ((1048576 : Int) < (n : Int)) = false := by rw [decide_eq_false_iff_not]; omega
  go_enter Tryd.func7, Tryd.ntmps7
  go_wp2
  go_ret
  exact ⟨rfl, rfl⟩

theorem walk (A : Option Addr) (n c : Nat) (hn : n ≤ maxLen) (w : World) (hA : draw.Code w w.heap.size A n) (hE : prs.Env w) :
    Calls Tryd.prog 3 #[.slice A n c] w fun e w' => e = .returned (.bool true) ∧ Below w.heap.size w w' := by
  unfold maxLen at hn
  by_cases hbig : (1048576 : Int) < (n : Int)
  · go_enter Tryd.func3, Tryd.ntmps3
    go_wp2
    go_ret
    exact ⟨rfl, Below.refl _ _⟩
  · have HA := Lib.hid hA; have HE := Lib.hid hE; clear hA hE
    go_enter Tryd.func3, Tryd.ntmps3
    go_wp2_with (go_at_call 7; refine (bigNo A n c (by omega) _).mono ?_; rintro e w0 ⟨rfl, rfl⟩)
    refine (draw.drawFormatInt A n c (by omega) _ HA.out).mono ?_
    rintro e w1 ⟨x, rfl, x0, x1, hb1⟩
    have HB1 := Lib.hid hb1; clear hb1
    go_wp2_with (fail)
    refine (fmt.implFormat x x0 x1 _ (HE.out.stays HB1.out).1).mono ?_
    rintro e w2 ⟨rfl, hb2⟩
    have HB2 := Lib.hid (HB1.out.trans (hb2.mono HB1.out.size)); clear hb2
    have hsz := draw.num_size x x0 x1
    have hd : (⟨(Lib.itoa x).toArray⟩ : ByteArray).data.toList = Lib.itoa x := rfl
    have hp1 := pr_num x 0 1000000000000 x0 x1 (by omega) (by omega)
    have hp2 := pr_num x (-1000000000) 1000000000 x0 x1 (by omega) (by omega)
    rw [← hd] at hp1 hp2
    unfold fmt.num
    generalize (⟨(Lib.itoa x).toArray⟩ : ByteArray) = s at *
    have HP1 := Lib.hid hp1; have HP2 := Lib.hid hp2; clear hp1 hp2 hd
    go_wp2_with (fail)
    refine (prs.implParse s (by omega) _ (HE.out.stays HB2.out)).mono ?_
    rintro e w3 ⟨rfl, hb3⟩
    have HB3 := Lib.hid (HB2.out.trans (hb3.mono HB2.out.size)); clear hb3
    rw [HP1.out]
    generalize hy : (if 0 ≤ x ∧ x ≤ 1000000000000 then (x, true) else (0, false) : Int × Bool) = y
    obtain ⟨m, ok⟩ := y
    have HY := Lib.hid hy; clear hy
    unfold prs.two
    go_wp2_with (fail)
    refine (prs.implParseSigned s (by omega) _ (HE.out.stays HB3.out)).mono ?_
    rintro e w4 ⟨rfl, hb4⟩
    have HB4 := Lib.hid (HB3.out.trans (hb4.mono HB3.out.size)); clear hb4
    rw [HP2.out]
    generalize hz : (if -1000000000 ≤ x ∧ x ≤ 1000000000 then (x, true) else (0, false) : Int × Bool) = z
    obtain ⟨k, sg⟩ := z
    unfold prs.two
    have hy := HY.out
    by_cases c1 : x < -1000000000
    · rw [if_neg (by omega)] at hy hz
      obtain ⟨rfl, rfl⟩ := Prod.mk.inj hy
      obtain ⟨rfl, rfl⟩ := Prod.mk.inj hz
      clear hy hz HY HP1 HP2
      go_wp2_with (fail)
      refine (draw.drawParseSigned A n c (by omega) _ (HA.out.later HB4.out)).mono ?_
      rintro e w5 ⟨t, rfl, ht, hb5⟩
      have HB5 := Lib.hid (HB4.out.trans (hb5.mono HB4.out.size)); clear hb5
      go_wp2_with (fail)
      refine (prs.implParseSigned t (by omega) _ (HE.out.stays HB5.out)).mono ?_
      rintro e w6 ⟨rfl, hb6⟩
      have HB6 := Lib.hid (HB5.out.trans (hb6.mono HB5.out.size)); clear hb6
      have hf := tail_facts t
      generalize dec.pr (-1000000000) 1000000000 t.data.toList = z at *
      obtain ⟨x, rd⟩ := z
      unfold prs.two
      cases rd
      · clear hf
        go_wp2
        go_ret
        exact ⟨rfl, HB6.out⟩
      · obtain ⟨f1, f2, f3⟩ := hf rfl
        simp only at f1 f2 f3
        have F1 := Lib.hid f1; clear f1 hf
        have hm : nums.mx x (nums.mn x 0) = x := by unfold nums.mx nums.mn; split <;> split <;> omega
        have hi : nums.inr x (-1000000000) 1000000000 = true := by unfold nums.inr; simp; omega
        have HM := Lib.hid hm; have HI := Lib.hid hi; clear hm hi
        go_wp2_with (first | (go_at_call 9; refine (fmt.implFormat x (by omega) (by omega) _ (HE.out.stays HB6.out).1).mono ?_; rintro e w7 ⟨rfl, hb7⟩; rw [F1.out]) | (go_at_call 14; refine (nums.implMin _ _ _).mono ?_; rintro e w8 ⟨rfl, rfl⟩) | (go_at_call 13; refine (nums.implMax _ _ _).mono ?_; rintro e w9 ⟨rfl, rfl⟩; rw [HM.out]) | (go_at_call 15; refine (nums.implInRange _ _ _ _).mono ?_; rintro e w10 ⟨rfl, rfl⟩; rw [HI.out]))
        go_ret
        exact ⟨rfl, HB6.out.trans (hb7.mono HB6.out.size)⟩
    · by_cases c2 : x < 0
      · rw [if_neg (by omega)] at hy
        rw [if_pos (by omega)] at hz
        obtain ⟨rfl, rfl⟩ := Prod.mk.inj hy
        obtain ⟨rfl, rfl⟩ := Prod.mk.inj hz
        clear hy hz HY HP1 HP2
        go_wp2_with (fail)
        refine (draw.drawParseSigned A n c (by omega) _ (HA.out.later HB4.out)).mono ?_
        rintro e w5 ⟨t, rfl, ht, hb5⟩
        have HB5 := Lib.hid (HB4.out.trans (hb5.mono HB4.out.size)); clear hb5
        go_wp2_with (fail)
        refine (prs.implParseSigned t (by omega) _ (HE.out.stays HB5.out)).mono ?_
        rintro e w6 ⟨rfl, hb6⟩
        have HB6 := Lib.hid (HB5.out.trans (hb6.mono HB5.out.size)); clear hb6
        have hf := tail_facts t
        generalize dec.pr (-1000000000) 1000000000 t.data.toList = z at *
        obtain ⟨x, rd⟩ := z
        unfold prs.two
        cases rd
        · clear hf
          go_wp2
          go_ret
          exact ⟨rfl, HB6.out⟩
        · obtain ⟨f1, f2, f3⟩ := hf rfl
          simp only at f1 f2 f3
          have F1 := Lib.hid f1; clear f1 hf
          have hm : nums.mx x (nums.mn x 0) = x := by unfold nums.mx nums.mn; split <;> split <;> omega
          have hi : nums.inr x (-1000000000) 1000000000 = true := by unfold nums.inr; simp; omega
          have HM := Lib.hid hm; have HI := Lib.hid hi; clear hm hi
          go_wp2_with (first | (go_at_call 9; refine (fmt.implFormat x (by omega) (by omega) _ (HE.out.stays HB6.out).1).mono ?_; rintro e w7 ⟨rfl, hb7⟩; rw [F1.out]) | (go_at_call 14; refine (nums.implMin _ _ _).mono ?_; rintro e w8 ⟨rfl, rfl⟩) | (go_at_call 13; refine (nums.implMax _ _ _).mono ?_; rintro e w9 ⟨rfl, rfl⟩; rw [HM.out]) | (go_at_call 15; refine (nums.implInRange _ _ _ _).mono ?_; rintro e w10 ⟨rfl, rfl⟩; rw [HI.out]))
          go_ret
          exact ⟨rfl, HB6.out.trans (hb7.mono HB6.out.size)⟩
      · by_cases c3 : x ≤ 1000000000
        · rw [if_pos (by omega)] at hy
          rw [if_pos (by omega)] at hz
          obtain ⟨rfl, rfl⟩ := Prod.mk.inj hy
          obtain ⟨rfl, rfl⟩ := Prod.mk.inj hz
          clear hy hz HY HP1 HP2
          go_wp2_with (fail)
          refine (draw.drawParseSigned A n c (by omega) _ (HA.out.later HB4.out)).mono ?_
          rintro e w5 ⟨t, rfl, ht, hb5⟩
          have HB5 := Lib.hid (HB4.out.trans (hb5.mono HB4.out.size)); clear hb5
          go_wp2_with (fail)
          refine (prs.implParseSigned t (by omega) _ (HE.out.stays HB5.out)).mono ?_
          rintro e w6 ⟨rfl, hb6⟩
          have HB6 := Lib.hid (HB5.out.trans (hb6.mono HB5.out.size)); clear hb6
          have hf := tail_facts t
          generalize dec.pr (-1000000000) 1000000000 t.data.toList = z at *
          obtain ⟨x, rd⟩ := z
          unfold prs.two
          cases rd
          · clear hf
            go_wp2
            go_ret
            exact ⟨rfl, HB6.out⟩
          · obtain ⟨f1, f2, f3⟩ := hf rfl
            simp only at f1 f2 f3
            have F1 := Lib.hid f1; clear f1 hf
            have hm : nums.mx x (nums.mn x 0) = x := by unfold nums.mx nums.mn; split <;> split <;> omega
            have hi : nums.inr x (-1000000000) 1000000000 = true := by unfold nums.inr; simp; omega
            have HM := Lib.hid hm; have HI := Lib.hid hi; clear hm hi
            go_wp2_with (first | (go_at_call 9; refine (fmt.implFormat x (by omega) (by omega) _ (HE.out.stays HB6.out).1).mono ?_; rintro e w7 ⟨rfl, hb7⟩; rw [F1.out]) | (go_at_call 14; refine (nums.implMin _ _ _).mono ?_; rintro e w8 ⟨rfl, rfl⟩) | (go_at_call 13; refine (nums.implMax _ _ _).mono ?_; rintro e w9 ⟨rfl, rfl⟩; rw [HM.out]) | (go_at_call 15; refine (nums.implInRange _ _ _ _).mono ?_; rintro e w10 ⟨rfl, rfl⟩; rw [HI.out]))
            go_ret
            exact ⟨rfl, HB6.out.trans (hb7.mono HB6.out.size)⟩
        · by_cases c4 : x ≤ 1000000000000
          · rw [if_pos (by omega)] at hy
            rw [if_neg (by omega)] at hz
            obtain ⟨rfl, rfl⟩ := Prod.mk.inj hy
            obtain ⟨rfl, rfl⟩ := Prod.mk.inj hz
            clear hy hz HY HP1 HP2
            go_wp2_with (fail)
            refine (draw.drawParseSigned A n c (by omega) _ (HA.out.later HB4.out)).mono ?_
            rintro e w5 ⟨t, rfl, ht, hb5⟩
            have HB5 := Lib.hid (HB4.out.trans (hb5.mono HB4.out.size)); clear hb5
            go_wp2_with (fail)
            refine (prs.implParseSigned t (by omega) _ (HE.out.stays HB5.out)).mono ?_
            rintro e w6 ⟨rfl, hb6⟩
            have HB6 := Lib.hid (HB5.out.trans (hb6.mono HB5.out.size)); clear hb6
            have hf := tail_facts t
            generalize dec.pr (-1000000000) 1000000000 t.data.toList = z at *
            obtain ⟨x, rd⟩ := z
            unfold prs.two
            cases rd
            · clear hf
              go_wp2
              go_ret
              exact ⟨rfl, HB6.out⟩
            · obtain ⟨f1, f2, f3⟩ := hf rfl
              simp only at f1 f2 f3
              have F1 := Lib.hid f1; clear f1 hf
              have hm : nums.mx x (nums.mn x 0) = x := by unfold nums.mx nums.mn; split <;> split <;> omega
              have hi : nums.inr x (-1000000000) 1000000000 = true := by unfold nums.inr; simp; omega
              have HM := Lib.hid hm; have HI := Lib.hid hi; clear hm hi
              go_wp2_with (first | (go_at_call 9; refine (fmt.implFormat x (by omega) (by omega) _ (HE.out.stays HB6.out).1).mono ?_; rintro e w7 ⟨rfl, hb7⟩; rw [F1.out]) | (go_at_call 14; refine (nums.implMin _ _ _).mono ?_; rintro e w8 ⟨rfl, rfl⟩) | (go_at_call 13; refine (nums.implMax _ _ _).mono ?_; rintro e w9 ⟨rfl, rfl⟩; rw [HM.out]) | (go_at_call 15; refine (nums.implInRange _ _ _ _).mono ?_; rintro e w10 ⟨rfl, rfl⟩; rw [HI.out]))
              go_ret
              exact ⟨rfl, HB6.out.trans (hb7.mono HB6.out.size)⟩
          · rw [if_neg (by omega)] at hy hz
            obtain ⟨rfl, rfl⟩ := Prod.mk.inj hy
            obtain ⟨rfl, rfl⟩ := Prod.mk.inj hz
            clear hy hz HY HP1 HP2
            go_wp2_with (fail)
            refine (draw.drawParseSigned A n c (by omega) _ (HA.out.later HB4.out)).mono ?_
            rintro e w5 ⟨t, rfl, ht, hb5⟩
            have HB5 := Lib.hid (HB4.out.trans (hb5.mono HB4.out.size)); clear hb5
            go_wp2_with (fail)
            refine (prs.implParseSigned t (by omega) _ (HE.out.stays HB5.out)).mono ?_
            rintro e w6 ⟨rfl, hb6⟩
            have HB6 := Lib.hid (HB5.out.trans (hb6.mono HB5.out.size)); clear hb6
            have hf := tail_facts t
            generalize dec.pr (-1000000000) 1000000000 t.data.toList = z at *
            obtain ⟨x, rd⟩ := z
            unfold prs.two
            cases rd
            · clear hf
              go_wp2
              go_ret
              exact ⟨rfl, HB6.out⟩
            · obtain ⟨f1, f2, f3⟩ := hf rfl
              simp only at f1 f2 f3
              have F1 := Lib.hid f1; clear f1 hf
              have hm : nums.mx x (nums.mn x 0) = x := by unfold nums.mx nums.mn; split <;> split <;> omega
              have hi : nums.inr x (-1000000000) 1000000000 = true := by unfold nums.inr; simp; omega
              have HM := Lib.hid hm; have HI := Lib.hid hi; clear hm hi
              go_wp2_with (first | (go_at_call 9; refine (fmt.implFormat x (by omega) (by omega) _ (HE.out.stays HB6.out).1).mono ?_; rintro e w7 ⟨rfl, hb7⟩; rw [F1.out]) | (go_at_call 14; refine (nums.implMin _ _ _).mono ?_; rintro e w8 ⟨rfl, rfl⟩) | (go_at_call 13; refine (nums.implMax _ _ _).mono ?_; rintro e w9 ⟨rfl, rfl⟩; rw [HM.out]) | (go_at_call 15; refine (nums.implInRange _ _ _ _).mono ?_; rintro e w10 ⟨rfl, rfl⟩; rw [HI.out]))
              go_ret
              exact ⟨rfl, HB6.out.trans (hb7.mono HB6.out.size)⟩

set_option maxRecDepth 100000 in
theorem lifted (os : Os) (started : os.Started) (H : Type) (enc : TypeId × Value → H) :
    ReturnsInHanded {} Tryd.checked os 3 .any (fun w args => (Rows.fnNumbersSpec.pre enc Tryd.prog Tryd.f3 [] false w args ∧ laidMetH Tryd.prog prs.laidOf w) ∧ sizedMet enc Tryd.prog Tryd.f3 (OpenSpec.ofChange Rows.fnNumbersSpec) false w args)
      (Rows.fnNumbersSpec.post enc Tryd.prog Tryd.f3 false true false false) := by
  refine returnsInHanded_of_change_and (C := Tryd.checked) (X := fun w _ => laidMetH Tryd.prog prs.laidOf w) (fun _ _ _ hh h => h.of_heap hh) own started (by kernel_rfl) Tryd.func3
    (ChangeSpec.witness_shaped (enc := enc) (C := Tryd.checked) (os := os) (X := fun w _ => laidMetH Tryd.prog prs.laidOf w) false (World.doorLaid Tryd.prog 400 os) #[.slice none 0 0] 8 rfl (World.shaped_of_RefB (by kernel_rfl) (by kernel_rfl)) (by kernel_rfl) (by kernel_rfl) (by kernel_rfl) (prs.door_met os _)) ?_
  intro W base args ds gs before hval0 hW _ hsz0 hL _
  have hval : ∀ (j : Nat) t v, Tryd.f3.params[j]? = some t → args[j]? = some v → Value.okWide Tryd.prog W .any base t v := hval0
  have hW' := hW
  obtain ⟨p, q, hA0, hV, rfl, hfz, hnd⟩ := hW
  have hA : DataW.TrodAll enc Tryd.prog W 0 (fun _ => true) true Tryd.f3.params.toList args.toList ds p := hA0
  have hA2 := hA
  rw [Tryd.params3] at hA hval
  obtain ⟨v0, d0, rfl, rfl, g0⟩ := trodAll_one hA
  obtain ⟨rfl, rfl⟩ := trodVars_none hV
  obtain ⟨A, n, c, rfl, hn, hcode⟩ := law.open_code Tryd.underlying22 Tryd.underlying5 (by kernel_rfl) (hval 0 22 v0 rfl rfl) g0
  clear hA0 hval0
  simp only [List.append_nil] at hW'
  refine (walk A n c hn W hcode (prs.env_of hL)).mono fun e W' ⟨he, hnx⟩ => ?_
  subst he
  exact ⟨_, rfl, law.post_true hW' rfl hA2 rfl rfl Tryd.underlying4 (by kernel_rfl) (by kernel_rfl) hnx⟩

theorem over : Rows.FnNumbersSaid :=
  OpenClaim.holds_of_wide 3 Tryd.f3 rfl rfl rfl rfl rfl rfl rfl ⟨rfl, rfl, rfl, rfl, rfl⟩ rfl rfl rfl rfl rfl (by kernel_rfl) Tryd.func3 (by kernel_rfl)
    (of_decide_eq_true (by kernel_rfl)) (by unfold Func.isWrapper; first | (rw [if_pos (by decide +kernel)]; kernel_rfl) | (rw [if_neg (by decide +kernel)]; exact ⟨rfl, rfl⟩))
    (fun os started H enc _ => lifted os started H enc)

/-- The statement. -/
theorem proved : Rows.FnNumbersCardSaid :=
  Claim7.holds_tied_plain_at .later [] Rows.fnNumbersCard.laidKinds true Rows.fnNumbersCard.stood.harness true
    over (fun _ h => by cases h) (by kernel_rfl) (fun _ h => by cases h) fnNumbers_row_tie rfl ⟨rfl, rfl⟩ (by kernel_rfl) rfl
    (fun f fn hf hfn => by
      obtain rfl : f = 3 := Option.some.inj ((show Tryd.prog.funcNamed "loop.example/g03011/laws.FnNumbers" = some 3 by kernel_rfl).symm.trans hf) |>.symm
      obtain rfl : fn = Tryd.f3 := (Option.some.inj (Tryd.func3.symm.trans hfn)).symm
      exact ⟨by kernel_rfl, fun j t ht => by
        rw [Tryd.params3] at ht
        have hm : t ∈ [22] := by simpa using Array.mem_of_getElem? ht
        have hall : ([22].all fun u => !Tryd.prog.wantsStandIn u) = true := by kernel_rfl
        exact (show Tryd.prog.wantsStandIn t = false by simpa using List.all_eq_true.1 hall t hm)⟩)
    (by kernel_rfl)
#print axioms proved
end Go.Proofs.YtppabhapkbgdkaaDoor.fnNumbers
