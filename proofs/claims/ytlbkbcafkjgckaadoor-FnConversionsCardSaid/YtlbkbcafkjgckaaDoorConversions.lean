/-
  For all bytes the law FnConversions returns true: integers are written and read back, canonical integers are integer keys, and texts that begin with a number are not numeric.
  Conditions: the argument is of Go's type; the package variables that the row lists hold what the program's text lays, and the card ties that to the text.
-/
import Derived.Test.YtlbkbcafkjgckaaDoorRows
import Derived.Test.YtlbkbcafkjgckaaDoorCards
import Derived.Test.YtlbkbcafkjgckaaDoorTie
import Derived.LaidMore
import Derived.LaidHandle
import Derived.Stop.Joined
import Derived.SevenTiedAt
import Derived.Stop.LaidErr
import Derived.SizedLaws
import Derived.WalkKit
import Derived.ProofKit
import Derived.OpenShut
import Derived.Test.YtlbkbcafkjgckaaDoorNumOf
import Derived.Test.YtlbkbcafkjgckaaDoorKeyOf
import Derived.Test.YtlbkbcafkjgckaaDoorConvP
import Derived.Test.YtlbkbcafkjgckaaDoorDrawN
import Derived.Test.YtlbkbcafkjgckaaDoorDrawList
import Derived.Test.YtlbkbcafkjgckaaDoorOpenW
import Derived.Test.YtlbkbcafkjgckaaDoorEnvCv
import Derived.Test.YtlbkbcafkjgckaaDoorOpen
namespace Go.Proofs.YtlbkbcafkjgckaaDoor.fnConversions
open Go.ChangeShapes Go.WideShapes Go.ChangeAt Go.RowKit mem tree ers lead
open Go.ChangeMaps (open_string)
set_option linter.unusedVariables false

theorem own : ownKnob Tryd.prog.godebug = none := by kernel_rfl

theorem bigNo (A : Option Addr) (n c : Nat) (h : (n : Int) ≤ 1048576) (w : World) :
    Calls Tryd.prog 12 #[.slice A n c] w fun e w' => e = .returned (.bool false) ∧ w = w' := by
  have hd : decide ((1048576 : Int) < (n : Int)) = false := by rw [decide_eq_false_iff_not]; omega
  go_enter Tryd.func12, Tryd.ntmps12
  go_wp2
  go_ret
  exact ⟨rfl, rfl⟩
theorem intV_i (n : Int) (w : World) : Calls Tryd.prog 36 #[.int .i64 n] w (GivesQ w (vV 2 n ⟨#[]⟩ 0 none 0 0)) := by
  go_enter Tryd.func36, Tryd.ntmps36
  go_wp2
  exact bodyPost_ret (v := vV 2 n ⟨#[]⟩ 0 none 0 0) (by simp [results, Tryd.results36, go_sem]) rfl ⟨rfl, b1 _ _⟩
theorem textV_i (s : ByteArray) (hs : s.size ≤ 1099511627776) (w : World) : Calls Tryd.prog 38 #[.string s] w (GivesQ w (vV 3 0 s 0 none 0 0)) := by
  go_enter Tryd.func38, Tryd.ntmps38
  go_wp2_with (fail)
  refine (implClone' s hs _).mono ?_
  rintro e w1 ⟨rfl, hb1⟩
  have a2 := carry hb1 (heap_alloc_new w _)
  have HB := Lib.hid (bs (b1 _ _) hb1)
  obtain ⟨r2, f2⟩ := rowc a2
  clear hb1 a2
  go_wp2_with (fail)
  refine bodyPost_ret (v := vV 3 0 s 0 none 0 0) (by simp [results, Tryd.results38, go_sem, r2]) rfl ⟨rfl, ?_⟩
  have hB := HB.out
  iterate 5 refine Below.setCell ?_ (by simp) _
  exact hB
theorem fl (k n : Int) (s : ByteArray) (hk : I64 k) (hn : I64 n) (hs : s.size ≤ maxLen) (w : World) : TIn w (fun _ => True) (.mk k n s 0 [] []) (vV k n s 0 none 0 0) := flat ⟨hk, hn, by unfold I64; omega, hs⟩ w _ none 0 (Nat.zero_le _)
theorem tot0 (k n : Int) (s : ByteArray) : tot (.mk k n s 0 [] []) = s.size := by rw [tot_mk]; simp [tots]

set_option maxRecDepth 100000 in
set_option maxHeartbeats 8000000 in
theorem walk (A0 : Option Addr) (n0 c0 : Nat) (l0 : List Int) (w : World) (hn0 : n0 ≤ maxLen) (hr0 : Rd w A0 n0 l0) (hE : CvE w) :
    Calls Tryd.prog 6 #[.slice A0 n0 c0] w fun e w' => e = .returned (.bool true) ∧ Below w.heap.size w w' := by
  unfold maxLen at hn0
  by_cases hbig : (1048576 : Int) < (n0 : Int)
  · go_enter Tryd.func6, Tryd.ntmps6
    go_wp2
    go_ret
    exact ⟨rfl, Below.refl _ _⟩
  have HA := Lib.hid hr0
  have HE := Lib.hid hE
  clear hr0 hE
  go_enter Tryd.func6, Tryd.ntmps6
  go_wp2_with (go_at_call 12; refine (bigNo A0 n0 c0 (by omega) _).mono ?_; rintro e w0 ⟨rfl, rfl⟩)
  refine (draw.drawToNumber A0 n0 c0 (by omega) _ (draw.code_of_rd HA.out)).mono ?_
  rintro e w1 ⟨k, n, s, x, A, L, c, rfl, hI, hb1⟩
  have HB1 := Lib.hid hb1
  have HI := Lib.hid hI
  have i0 : -9223372036854775808 ≤ n := hI.1
  have i1 : n ≤ 9223372036854775807 := hI.2
  obtain ⟨z, HZ⟩ : ∃ z, Hid (tx (Lib.itoa n) = z) := ⟨_, Lib.hid rfl⟩
  have hzs : z.size ≤ 100 := by rw [← HZ.out]; exact itoa_size n hI
  have HZS := Lib.hid hzs
  have LI := Lib.hid (fun w' => leadingInt_i z (by omega) w')
  have HLI : Hid (li z = max (-1000000000) (min 1000000000 n)) := Lib.hid (by rw [← HZ.out]; have := li_itoa n [] rfl; rwa [List.append_nil] at this)
  have FM : Hid (∀ w', Calls Tryd.prog 32 #[.int .i64 n] w' fun e w2 => e = .returned (.string z) ∧ Below w'.heap.size w' w2) := Lib.hid (fun w' => by rw [← HZ.out]; exact fmt.specFormat n i0 i1 w')
  have hf := run_f1 k n s x A L c
  unfold IV at hf
  clear hb1 hI hzs
  by_cases hlo : n < -1000000000
  · obtain ⟨m, HM⟩ : ∃ m, Hid (max (-1000000000) (min 1000000000 n) = m) := ⟨_, Lib.hid rfl⟩
    rw [HM.out] at HLI
    go_wp2_with (fail)
    refine (FM.out _).mono ?_
    rintro e w2 ⟨rfl, hb⟩
    have HB2 := Lib.hid (bs HB1.out hb)
    clear hb
    go_wp2_with (fail)
    refine (LI.out _).mono ?_
    rintro e w3 ⟨rfl, hb⟩
    rw [HLI.out]
    have HB3 := Lib.hid (bs HB2.out hb)
    clear hb
    go_wp2_with (fail)
    refine (sMin _ _ _).mono ?_
    rintro e w4 ⟨rfl, rfl⟩
    go_wp2_with (fail)
    refine (sMax _ _ _).mono ?_
    rintro e w5 ⟨rfl, rfl⟩
    have hmm : nums.mx (-1000000000) (nums.mn 1000000000 n) = m := by rw [← HM.out]; unfold nums.mx nums.mn; split <;> split <;> omega
    rw [hmm]
    clear hmm
    go_wp2_with (fail)
    go_ret
    exact ⟨rfl, HB3.out⟩
  by_cases hhi : 1000000000 < n
  · obtain ⟨m, HM⟩ : ∃ m, Hid (max (-1000000000) (min 1000000000 n) = m) := ⟨_, Lib.hid rfl⟩
    rw [HM.out] at HLI
    go_wp2_with (fail)
    refine (FM.out _).mono ?_
    rintro e w2 ⟨rfl, hb⟩
    have HB2 := Lib.hid (bs HB1.out hb)
    clear hb
    go_wp2_with (fail)
    refine (LI.out _).mono ?_
    rintro e w3 ⟨rfl, hb⟩
    rw [HLI.out]
    have HB3 := Lib.hid (bs HB2.out hb)
    clear hb
    go_wp2_with (fail)
    refine (sMin _ _ _).mono ?_
    rintro e w4 ⟨rfl, rfl⟩
    go_wp2_with (fail)
    refine (sMax _ _ _).mono ?_
    rintro e w5 ⟨rfl, rfl⟩
    have hmm : nums.mx (-1000000000) (nums.mn 1000000000 n) = m := by rw [← HM.out]; unfold nums.mx nums.mn; split <;> split <;> omega
    rw [hmm]
    clear hmm
    go_wp2_with (fail)
    go_ret
    exact ⟨rfl, HB3.out⟩
  have m0 : -1000000000 ≤ n := by omega
  have m1 : n ≤ 1000000000 := by omega
  have hcl : max (-1000000000) (min 1000000000 n) = n := by omega
  rw [hcl] at HLI
  have HZX : Hid (z ++ (⟨#[120]⟩ : ByteArray) = tx (Lib.itoa n ++ [120])) := Lib.hid (by rw [← HZ.out, tx_x])
  have HLX : Hid (li (z ++ (⟨#[120]⟩ : ByteArray)) = n) := Lib.hid (by rw [HZX.out, li_itoa n [120] (by rw [ld_no (by decide)]), hcl])
  have LX := Lib.hid (fun w' => leadingInt_i (z ++ (⟨#[120]⟩ : ByteArray)) (by rw [ByteArray.size_append]; have := HZS.out; show z.size + 1 ≤ _; omega) w')
  have IN := Lib.hid (fun w' => isNumeric_i z (by have := HZS.out; omega) w')
  have HIN : Hid (isn z = true) := Lib.hid (by rw [← HZ.out]; exact isn_itoa n m0 m1)
  have hzm : z.size ≤ maxLen := by have := HZS.out; unfold maxLen; omega
  have IV' := Lib.hid (intV_i n)
  have TV := Lib.hid (textV_i z (by have := HZS.out; omega))
  have TT : Hid (∀ w', CvE w' → Calls Tryd.prog 35 #[vV 2 n ⟨#[]⟩ 0 none 0 0] w' (GivesQ w' (.tuple #[.string z, .int .i64 0]))) := Lib.hid (fun w' hE => by
    obtain ⟨h1, a, b, ca, cb, ta, tb, h2, -⟩ := hE
    have := toText_i (.mk 2 n ⟨#[]⟩ 0 [] []) (vV 2 n ⟨#[]⟩ 0 none 0 0) w' _ (fl 2 n ⟨#[]⟩ (by unfold I64; omega) ⟨i0, i1⟩ (Nat.zero_le _) w') (by rw [tot0]; exact Nat.zero_le _) a h1.1 h2
    unfold ttV at this
    rw [tt_mk] at this
    have e : (⟨(Lib.itoa n).toArray⟩ : ByteArray) = z := HZ.out
    rw [e] at this
    exact this)
  have KO : Hid (∀ w', CvE w' → Calls Tryd.prog 37 #[vV 3 0 z 0 none 0 0] w' (GivesQ w' (.tuple #[.agg #[.bool false, .int .i64 n, .string ⟨#[]⟩], .bool true]))) := Lib.hid (fun w' hE => by
    have := keyOf_i (.mk 3 0 z 0 [] []) (vV 3 0 z 0 none 0 0) w' _ (fl 3 0 z (by unfold I64; omega) (by unfold I64; omega) hzm w') (by rw [tot0]; have := HZS.out; omega) hE.1
    have e : koY (.mk 3 0 z 0 [] []) = (⟨false, n, ⟨#[]⟩⟩, true) := by
      show (tkY z, true) = _
      rw [← HZ.out, tkY_itoa n m0 m1]
    rw [e] at this
    exact this)
  have TN : Hid (∀ w', CvE w' → Calls Tryd.prog 39 #[vV 3 0 z 0 none 0 0] w' (GivesQ w' (.tuple #[.int .i64 n, .int .i64 0]))) := Lib.hid (fun w' hE => by
    obtain ⟨-, a, b, ca, cb, ta, tb, h1, h2, h3, h4, h5⟩ := hE
    have := toNumber_i (.mk 3 0 z 0 [] []) (vV 3 0 z 0 none 0 0) w' _ (fl 3 0 z (by unfold I64; omega) (by unfold I64; omega) hzm w') (by rw [tot0]; have := HZS.out; omega) a b ca cb ta tb h1 h2 h3 h4 h5
    have e : nn (.mk 3 0 z 0 [] []) = (n, true) := by
      rw [nn_mk, if_neg (by omega), if_pos rfl, HIN.out, if_pos rfl, HLI.out]
    unfold nnV at this
    rw [e] at this
    exact this)
  have TB : Hid (∀ w', Calls Tryd.prog 41 #[vV 3 0 z 0 none 0 0] w' (GivesQ w' (.bool (n != 0)))) := Lib.hid (fun w' => by
    have := toBool_i (.mk 3 0 z 0 [] []) (vV 3 0 z 0 none 0 0) w' _ (fl 3 0 z (by unfold I64; omega) (by unfold I64; omega) hzm w')
    have e : tb (.mk 3 0 z 0 [] []) = (n != 0) := by
      show txB z = _
      rw [← HZ.out, txB_itoa n m0 m1]
    rw [e] at this
    exact this)
  have KE := fun w' => ky_eql w' ⟨false, n, ⟨#[]⟩⟩ ⟨false, n, ⟨#[]⟩⟩
  rw [show decide ((⟨false, n, ⟨#[]⟩⟩ : Ky) = ⟨false, n, ⟨#[]⟩⟩) = true by simp] at KE
  unfold kyV IK at KE
  simp only at KE
  unfold vV at IV' TV TT KO TN TB
  clear hcl hzm
  go_wp2_with (fail)
  refine (IV'.out _).mono ?_
  rintro e w2 ⟨rfl, hb⟩
  have HB2 := Lib.hid (bs HB1.out hb)
  clear hb
  go_wp2_with (fail)
  refine (TT.out _ (HE.out.stays HB2.out)).mono ?_
  rintro e w3 ⟨rfl, hb⟩
  have HB3 := Lib.hid (bs HB2.out hb)
  clear hb
  go_wp2_with (fail)
  refine (TV.out _).mono ?_
  rintro e w4 ⟨rfl, hb⟩
  have HB4 := Lib.hid (bs HB3.out hb)
  clear hb
  go_wp2_with (fail)
  refine (KO.out _ (HE.out.stays HB4.out)).mono ?_
  rintro e w5 ⟨rfl, hb⟩
  have HB5 := Lib.hid (bs HB4.out hb)
  clear hb
  go_wp2_with (fail)
  have nv := heap_alloc_new w5 (.cells #[.bool false, .int .i64 n, .string ⟨#[]⟩] 28)
  have nb := b1 w5 (.cells #[.bool false, .int .i64 n, .string ⟨#[]⟩] 28)
  refine (TV.out _).mono ?_
  rintro e w6 ⟨rfl, hb⟩
  have HB6 := Lib.hid (bs (bs HB5.out nb) hb)
  have HK6 := Lib.hid (carry hb nv)
  clear hb nv nb
  go_wp2_with (fail)
  refine (TN.out _ (HE.out.stays HB6.out)).mono ?_
  rintro e w7 ⟨rfl, hb⟩
  have HB7 := Lib.hid (bs HB6.out hb)
  have HK7 := Lib.hid (carry hb HK6.out)
  obtain ⟨r7, f7⟩ := rowc HK7.out
  clear hb HK6
  go_wp2_with (fail)
  refine (IN.out _).mono ?_
  rintro e w8 ⟨rfl, hb⟩
  rw [HIN.out]
  have HB8 := Lib.hid (bs HB7.out hb)
  clear hb r7 f7 HK7 KE
  have hz100 := HZS.out
  have hz101 : (⟨#[120]⟩ : ByteArray).size = 1 := rfl
  go_wp2_with (fail)
  refine (LX.out _).mono ?_
  rintro e w9 ⟨rfl, hb⟩
  rw [HLX.out]
  have HB9 := Lib.hid (bs HB8.out hb)
  clear hb
  go_wp2_with (fail)
  refine (TV.out _).mono ?_
  rintro e w10 ⟨rfl, hb⟩
  have HB10 := Lib.hid (bs HB9.out hb)
  clear hb
  go_wp2_with (fail)
  refine (TB.out _).mono ?_
  rintro e w11 ⟨rfl, hb⟩
  have HB11 := Lib.hid (bs HB10.out hb)
  clear hb
  cases hnz : (n != 0)
  all_goals
    go_wp2_with (fail)
    go_ret
    exact ⟨by first | rfl | simp [hnz], HB11.out⟩

set_option maxRecDepth 100000 in
theorem lifted (os : Os) (started : os.Started) (H : Type) (enc : TypeId × Value → H) :
    ReturnsInHanded {} Tryd.checked os 6 .any (fun w args => (Rows.fnConversionsSpec.pre enc Tryd.prog Tryd.f6 [] false w args ∧ laidMetH Tryd.prog ers.conv.laidOf w) ∧ sizedMet enc Tryd.prog Tryd.f6 (OpenSpec.ofChange Rows.fnConversionsSpec) false w args)
      (Rows.fnConversionsSpec.post enc Tryd.prog Tryd.f6 false true false false) := by
  refine returnsInHanded_of_change_and (C := Tryd.checked) (X := fun w _ => laidMetH Tryd.prog ers.conv.laidOf w) (fun _ _ _ hh h => h.of_heap hh) own started (by kernel_rfl) Tryd.func6
    (ChangeSpec.witness_shaped (enc := enc) (C := Tryd.checked) (os := os) (X := fun w _ => laidMetH Tryd.prog ers.conv.laidOf w) false (World.doorLaid Tryd.prog 400 os) #[.slice none 0 0] 8 rfl (World.shaped_of_RefB (by kernel_rfl) (by kernel_rfl)) (by kernel_rfl) (by kernel_rfl) (by kernel_rfl) (ers.conv.door_met os _)) ?_
  intro W base args ds gs before hval0 hW _ hsz0 hL _
  have hval : ∀ (j : Nat) t v, Tryd.f6.params[j]? = some t → args[j]? = some v → Value.okWide Tryd.prog W .any base t v := hval0
  have hW' := hW
  obtain ⟨p, q, hA0, hV, rfl, hfz, hnd⟩ := hW
  have hA : DataW.TrodAll enc Tryd.prog W 0 (fun _ => true) true Tryd.f6.params.toList args.toList ds p := hA0
  have hA2 := hA
  rw [Tryd.params6] at hA hval
  obtain ⟨v0, d0, rfl, rfl, h0⟩ := trodAll_one hA
  have hE := ers.conv.env_of hL
  obtain ⟨hE1, a, b, ca, cb, ta, tb, hEa, hEb, -, -, -⟩ := id hE
  obtain ⟨rfl, rfl⟩ := hV.unique (readTN enc hEa hEb _)
  obtain ⟨A0, n0, c0, l0, rfl, hn0, hr0⟩ := opn.open_bytes Tryd.underlying22 Tryd.underlying5 (by kernel_rfl) (hval 0 22 v0 rfl rfl) h0
  clear hA0 hval0
  refine (walk A0 n0 c0 l0 W hn0 hr0 hE).mono fun e W' ⟨he, hb⟩ => ?_
  subst he
  exact ⟨_, rfl, opn.post_true_vars2 hW' hA2 rfl rfl Tryd.underlying4 (by kernel_rfl) (by kernel_rfl) hb (readTN enc (hEa.stays hb) (hEb.stays hb) _)⟩

theorem over : Rows.FnConversionsSaid :=
  OpenClaim.holds_of_wide 6 Tryd.f6 rfl rfl rfl rfl rfl rfl rfl ⟨rfl, rfl, rfl, rfl, rfl⟩ rfl rfl rfl rfl rfl (by kernel_rfl) Tryd.func6 (by kernel_rfl)
    (of_decide_eq_true (by kernel_rfl)) (by unfold Func.isWrapper; first | (rw [if_pos (by decide +kernel)]; kernel_rfl) | (rw [if_neg (by decide +kernel)]; exact ⟨rfl, rfl⟩))
    (fun os started H enc _ => lifted os started H enc)

/-- The statement. -/
theorem proved : Rows.FnConversionsCardSaid :=
  Claim7.holds_tied_plain_at .later [] Rows.fnConversionsCard.laidKinds true Rows.fnConversionsCard.stood.harness Rows.fnConversionsCard.stood.looks
    over (fun _ h => by cases h) (by kernel_rfl) (fun _ h => by cases h) fnConversions_row_tie rfl ⟨rfl, rfl⟩ (by kernel_rfl) rfl
    (fun f fn hf hfn => by
      obtain rfl : f = 6 := Option.some.inj ((show Tryd.prog.funcNamed "loop.example/g03011/laws.FnConversions" = some 6 by kernel_rfl).symm.trans hf) |>.symm
      obtain rfl : fn = Tryd.f6 := (Option.some.inj (Tryd.func6.symm.trans hfn)).symm
      exact ⟨by kernel_rfl, fun j t ht => by
        rw [Tryd.params6] at ht
        have hm : t ∈ [22] := by simpa using Array.mem_of_getElem? ht
        have hall : ([22].all fun u => !Tryd.prog.wantsStandIn u) = true := by kernel_rfl
        exact (show Tryd.prog.wantsStandIn t = false by simpa using List.all_eq_true.1 hall t hm)⟩)
    (by kernel_rfl)
#print axioms proved
end Go.Proofs.YtlbkbcafkjgckaaDoor.fnConversions
