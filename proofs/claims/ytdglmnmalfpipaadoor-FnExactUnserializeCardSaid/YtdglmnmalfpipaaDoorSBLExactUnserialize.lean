/-
  Unserialize answers as its model at every text, every field; its answer owns its memory.
  Conditions: the package variables that the row lists hold what the program's text lays, and the card ties that to the text.
-/
import Derived.Test.YtdglmnmalfpipaaDoorRows
import Derived.Test.YtdglmnmalfpipaaDoorCards
import Derived.Test.YtdglmnmalfpipaaDoorTie
import Derived.LaidMore
import Derived.LaidHandle
import Derived.Stop.Joined
import Derived.SevenTiedAt
import Derived.Stop.LaidErr
import Derived.SizedLaws
import Derived.WalkKit
import Derived.ProofKit
import Derived.OpenShut
import Derived.Test.YtdglmnmalfpipaaDoorSBB2
import Derived.Test.YtdglmnmalfpipaaDoorSBB3
import Derived.Test.YtdglmnmalfpipaaDoorSBB4
import Derived.Test.YtdglmnmalfpipaaDoorSAB1
import Derived.Test.YtdglmnmalfpipaaDoorSASEnvKey
namespace Go.Proofs.YtdglmnmalfpipaaDoor.fnExactUnserialize
open Go.ChangeShapes Go.WideShapes Go.ChangeAt Go.RowKit tree
open Go.ChangeMaps (open_string)
set_option linter.unusedVariables false

theorem own : ownKnob Tryd.prog.godebug = none := by kernel_rfl

theorem unT_tot (l : List UInt8) : tot (unT l) ≤ l.length := by
  unfold unT
  cases h : unP l with
  | none => exact Nat.zero_le _
  | some t =>
    obtain ⟨⟨u, r, W⟩, h1, h2⟩ := Option.bind_eq_some_iff.1 h
    have := rdP_tot _ _ _ _ _ _ h1
    by_cases hc : r = [] ∧ valB u = true
    · simp only [hc, and_self, if_true] at h2
      injection h2 with h2
      rw [← h2]
      simp only [Option.getD_some]
      omega
    · simp only at h2
      rw [if_neg hc] at h2
      cases h2

set_option maxHeartbeats 4000000 in
set_option maxRecDepth 100000 in
theorem walk (s0 : ByteArray) (w : World) (hE : prs.Env w) : Calls Tryd.prog 4 #[.string s0] w fun e w' => e = .returned (.bool true) ∧ Below w.heap.size w w' := by
  by_cases hs : s0.size ≤ 1048576
  · have hl : s0.data.toList.length ≤ 1048576 := by rw [sz_list]; exact hs
    have US : Hid (∀ w, prs.Env w → Calls Tryd.prog 10 #[.string s0] w (UsQ s0.data.toList w)) := Lib.hid (fun w h => unserialize_s s0.data.toList hl w h)
    have UI : Hid (∀ w, prs.Env w → Calls Tryd.prog 11 #[.string s0] w (UnQ s0.data.toList w)) := Lib.hid (fun w h => unserialize_i s0.data.toList hl w h)
    obtain ⟨B, HB⟩ : ∃ b, Hid (unB s0.data.toList = b) := ⟨_, Lib.hid rfl⟩
    obtain ⟨k, n, s, x, ks, vs, HT⟩ : ∃ k n s x ks vs, Hid (unT s0.data.toList = .mk k n s x ks vs) := by
      cases h : unT s0.data.toList with
      | mk k n s x ks vs => exact ⟨k, n, s, x, ks, vs, Lib.hid rfl⟩
    have htot := unT_tot s0.data.toList
    rw [HT.out] at htot
    have HTT := Lib.hid (Nat.le_trans htot hl)
    unfold UsQ at US
    unfold UnQ at UI
    rw [HB.out, HT.out] at US UI
    have HEN := Lib.hid hE
    clear hE htot hl
    obtain ⟨l, HL⟩ : ∃ q, Hid (vs.length = q) := ⟨_, Lib.hid rfl⟩
    have HS2 : Hid (∀ w, prs.Env w → Calls Tryd.prog 10 #[.string s0] w (fun e w' => ∃ A c, e = .returned (.tuple #[vV k n s x A l c, .bool B]) ∧ TIn w' (Nw w.heap.size w') (.mk k n s x ks vs) (vV k n s x A l c) ∧ Below w.heap.size w w')) := Lib.hid (fun w h => (US.out w h).mono (by
      rintro e w' ⟨k', n', s', x', ks', vs', A, c, rfl, h1, h2, h3⟩
      cases h2
      rw [HL.out] at h1 ⊢
      exact ⟨A, c, rfl, h1, h3⟩))
    have HI2 : Hid (∀ w, prs.Env w → Calls Tryd.prog 11 #[.string s0] w (fun e w' => ∃ A c, e = .returned (.tuple #[vV k n s x A l c, .bool B]) ∧ FIn w' (fun b => w.heap.size ≤ b ∧ b < w'.heap.size) (.mk k n s x ks vs) (vV k n s x A l c) ∧ Below w.heap.size w w')) := Lib.hid (fun w h => (UI.out w h).mono (by
      rintro e w' ⟨k', n', s', x', ks', vs', A, c, rfl, h1, h2, h3⟩
      cases h2
      rw [HL.out] at h1 ⊢
      exact ⟨A, c, rfl, h1, h3⟩))
    clear US UI HB HT
    go_enter Tryd.func4, Tryd.ntmps4
    go_wp2_with (fail)
    refine (HS2.out _ HEN.out).mono ?_
    rintro e w1 ⟨A1, c1, rfl, ht1, hb1⟩
    have HB1 := Lib.hid hb1
    have HV1 := Lib.hid (ht1.stays (S' := fun b => b < w1.heap.size) (fun b hb => hb.2.lt) (fun _ _ _ => rfl))
    obtain ⟨w1a, HW1⟩ : ∃ q, Hid (w1.alloc (.cells #[.int .i64 k, .int .i64 n, .string s, .int .i64 x, .slice A1 l c1] IV) = q) := ⟨_, Lib.hid rfl⟩
    have E1 : Hid (w1a.heap[w1.heap.size]? = some (.cells #[.int .i64 k, .int .i64 n, .string s, .int .i64 x, .slice A1 l c1] IV (0, 0))) := Lib.hid (by rw [← HW1.out]; exact heap_alloc_new w1 _)
    have HB1a : Hid (Below w.heap.size w w1a) := Lib.hid (by rw [← HW1.out]; exact bs hb1 (b1 w1 _))
    have HV1a : Hid (TIn w1a (fun b => b < w1.heap.size) (.mk k n s x ks vs) (vV k n s x A1 l c1)) := Lib.hid (by rw [← HW1.out]; exact HV1.out.below' (b1 w1 _))
    have HZ1 : Hid (w1a.heap.size = w1.heap.size + 1) := Lib.hid (by rw [← HW1.out]; simp)
    clear ht1 hb1
    go_wp2_with (fail)
    rw [HW1.out]
    refine (HI2.out _ (HEN.out.stays HB1a.out)).mono ?_
    rintro e w2 ⟨A2, c2, rfl, hf2, hb2⟩
    obtain ⟨rk, par, ⟨R, i⟩, h1, h2, h3⟩ := hf2
    obtain ⟨w2a, HW2⟩ : ∃ q, Hid (w2.alloc (.cells #[.int .i64 k, .int .i64 n, .string s, .int .i64 x, .slice A2 l c2] IV) = q) := ⟨_, Lib.hid rfl⟩
    have E2 : Hid (w2a.heap[w2.heap.size]? = some (.cells #[.int .i64 k, .int .i64 n, .string s, .int .i64 x, .slice A2 l c2] IV (0, 0))) := Lib.hid (by rw [← HW2.out]; exact heap_alloc_new w2 _)
    have E1b : Hid (w2a.heap[w1.heap.size]? = some (.cells #[.int .i64 k, .int .i64 n, .string s, .int .i64 x, .slice A1 l c1] IV (0, 0))) := Lib.hid (by rw [← HW2.out]; exact keepAlloc (carry hb2 E1.out))
    have HBx : Hid (Below w1a.heap.size w1a w2a) := Lib.hid (by rw [← HW2.out]; exact bs hb2 (b1 w2 _))
    have HB2 : Hid (Below w.heap.size w w2a) := Lib.hid (bs HB1a.out HBx.out)
    have HV1b := Lib.hid (HV1a.out.below' HBx.out)
    have HRK : Hid (TRk w2a rk par (R, i) (.mk k n s x ks vs) (vV k n s x A2 l c2)) := Lib.hid (by rw [← HW2.out]; exact h1.keep fun b _ hlt => (b1 w2 _).block b hlt)
    have HRG : Hid (∀ b, HangR rk par (R, i) b → Rg w1a.heap.size w2.heap.size b) := Lib.hid (fun b hb => h3 b hb.nz)
    have HZ2 : Hid (w1a.heap.size ≤ w2.heap.size ∧ w2a.heap.size = w2.heap.size + 1) := Lib.hid ⟨hb2.size, by rw [← HW2.out]; simp⟩
    have HIT : Hid ((1 : Int) + 7 * itm (.mk k n s x ks vs) ≤ 100000000000) := Lib.hid (by
      have a := cnt_tot _ h1.tin.fits
      have b := itm_cnt (.mk k n s x ks vs)
      have c := HTT.out
      omega)
    obtain ⟨r1, -⟩ := rowc E1b.out
    obtain ⟨r2, -⟩ := rowc E2.out
    have r1a : ∀ o j, (w2.alloc o).cell? ⟨w1.heap.size, j, none⟩ = _ := fun o j => (rowc (keepAlloc (o' := o) (carry hb2 E1.out))).1 j
    clear h1 h2 h3 hb2 r1
    go_wp2_with (fail)
    rw [HW2.out]
    refine (eqV (.mk k n s x ks vs) _ _ _ _ _ HRK.out.tin HV1b.out).mono ?_
    rintro e w3 ⟨rfl, hb3⟩
    have E2c := Lib.hid (carry hb3 E2.out)
    have E1c := Lib.hid (carry hb3 E1b.out)
    have HV1c := Lib.hid (HV1b.out.below' hb3)
    have HRK3 := Lib.hid (HRK.out.keep (w' := w3) fun b _ hlt => hb3.block b hlt)
    have HB3 := Lib.hid (bs HB2.out hb3)
    have HZ3 := Lib.hid hb3.size
    obtain ⟨Q, HQ⟩ : ∃ Q : Int, Hid ((1 : Int) + 7 * itm (.mk k n s x ks vs) = Q) := ⟨_, Lib.hid rfl⟩
    have MK := Lib.hid (markSepR (.mk k n s x ks vs) (vV k n s x A2 l c2) 1 (by omega) HIT.out w3 rk par R i w1a.heap.size w2.heap.size HRK3.out HRG.out)
    have HD := Lib.hid (fun w' S h => heldSep (.mk k n s x ks vs) (vV k n s x A2 l c2) 1 (by omega) HIT.out w' S h)
    have hQ0 : 0 ≤ Q := by rw [← HQ.out]; omega
    rw [HQ.out] at MK HD
    clear hb3 r1a r2
    obtain ⟨r2, -⟩ := rowc E2c.out
    go_wp2_with (fail)
    refine MK.out.mono ?_
    rintro e w4 ⟨rfl, hr4, hf4⟩
    have hz1 := HZ1.out
    have hz2 := HZ2.out
    have hz3 := HZ3.out
    have E2d : Hid (w4.heap[w2.heap.size]? = some (.cells #[.int .i64 k, .int .i64 n, .string s, .int .i64 x, .slice A2 l c2] IV (0, 0))) := Lib.hid ((hf4.block _ (Array.getElem?_eq_some_iff.1 E2c.out).1 (fun h => by unfold Rg at h; omega)).trans E2c.out)
    have E1d : Hid (w4.heap[w1.heap.size]? = some (.cells #[.int .i64 k, .int .i64 n, .string s, .int .i64 x, .slice A1 l c1] IV (0, 0))) := Lib.hid ((hf4.block _ (Array.getElem?_eq_some_iff.1 E1c.out).1 (fun h => by unfold Rg at h; omega)).trans E1c.out)
    have HV1d := Lib.hid (HV1c.out.stays (w' := w4) (S' := fun b => b < w1.heap.size) (fun _ h => h) (fun b hb hlt => hf4.block b hlt (fun h => by unfold Rg at h; omega)))
    have hws : w.heap.size ≤ w1a.heap.size := HB1a.out.size
    have HB4 : Hid (Below w.heap.size w w4) := Lib.hid (HB3.out.trans (hf4.below HB3.out.size (fun b hb => by unfold Rg at hb; omega)))
    have HM4 := Lib.hid hr4.tin
    clear hr4 hf4 hz1 hz2 hz3 hws r2
    obtain ⟨r2, -⟩ := rowc E2d.out
    go_wp2_with (fail)
    refine (HD.out _ _ HM4.out).mono ?_
    rintro e w5 ⟨rfl, hb5⟩
    have E2e := Lib.hid (carry hb5 E2d.out)
    have E1e := Lib.hid (carry hb5 E1d.out)
    have HV1e := Lib.hid (HV1d.out.below' hb5)
    have HM5 := Lib.hid (HM4.out.below' hb5)
    have HB5 := Lib.hid (bs HB4.out hb5)
    have hq1 : ¬ Q < 0 := by omega
    clear hb5 r2
    go_wp2_with (fail)
    refine (HI2.out _ (HEN.out.stays HB5.out)).mono ?_
    rintro e w6 ⟨A6, c6, rfl, hf6, hb6⟩
    have HT6 := Lib.hid hf6.tin
    obtain ⟨w6a, HW6⟩ : ∃ q, Hid (w6.alloc (.cells #[.int .i64 k, .int .i64 n, .string s, .int .i64 x, .slice A6 l c6] IV) = q) := ⟨_, Lib.hid rfl⟩
    have HBy : Hid (Below w5.heap.size w5 w6a) := Lib.hid (by rw [← HW6.out]; exact bs hb6 (b1 w6 _))
    have HT6a : Hid (TIn w6a (Nw 0 w6a) (.mk k n s x ks vs) (vV k n s x A6 l c6)) := Lib.hid (by rw [← HW6.out]; exact HT6.out.nwb (b1 w6 _))
    have E2f := Lib.hid (carry HBy.out E2e.out)
    have HV1f := Lib.hid (HV1e.out.below' HBy.out)
    have HM6 := Lib.hid (HM5.out.below' HBy.out)
    have HB6 := Lib.hid (bs HB5.out HBy.out)
    have r1o : ∀ o j, (w6.alloc o).cell? ⟨w1.heap.size, j, none⟩ = _ := fun o j => (rowc (keepAlloc (o' := o) (carry hb6 E1e.out))).1 j
    clear hf6 hb6
    go_wp2_with (fail)
    rw [HW6.out]
    refine (eqV (.mk k n s x ks vs) _ _ _ _ _ HT6a.out HV1f.out).mono ?_
    rintro e w7 ⟨rfl, hb7⟩
    have HM7 := Lib.hid (HM6.out.below' hb7)
    have HB7 := Lib.hid (bs HB6.out hb7)
    obtain ⟨r2, -⟩ := rowc (carry hb7 E2f.out)
    clear hb7 r1o
    go_wp2_with (fail)
    refine (HD.out _ _ HM7.out).mono ?_
    rintro e w8 ⟨rfl, hb8⟩
    have HB8 := Lib.hid (bs HB7.out hb8)
    clear hb8 r2
    go_wp2_with (fail)
    go_ret
    exact ⟨rfl, HB8.out⟩
  · have hs1 : 1048576 < s0.size := by omega
    clear hs
    go_enter Tryd.func4, Tryd.ntmps4
    go_wp2
    go_ret
    exact ⟨rfl, Below.refl _ _⟩

set_option maxRecDepth 100000 in
theorem lifted (os : Os) (started : os.Started) (H : Type) (enc : TypeId × Value → H) :
    ReturnsInHanded {} Tryd.checked os 4 .any (fun w args => (Rows.fnExactUnserializeSpec.pre enc Tryd.prog Tryd.f4 [] false w args ∧ laidMetH Tryd.prog prs.laidOf w) ∧ sizedMet enc Tryd.prog Tryd.f4 (OpenSpec.ofChange Rows.fnExactUnserializeSpec) false w args)
      (Rows.fnExactUnserializeSpec.post enc Tryd.prog Tryd.f4 false true false false) := by
  refine returnsInHanded_of_change_and (C := Tryd.checked) (X := fun w _ => laidMetH Tryd.prog prs.laidOf w) (fun _ _ _ hh h => h.of_heap hh) own started (by kernel_rfl) Tryd.func4
    (ChangeSpec.witness_shaped (enc := enc) (C := Tryd.checked) (os := os) (X := fun w _ => laidMetH Tryd.prog prs.laidOf w) false (World.doorLaid Tryd.prog 400 os) #[.string ⟨#[]⟩] 8 rfl (World.shaped_of_RefB (by kernel_rfl) (by kernel_rfl)) (by kernel_rfl) (by kernel_rfl) (by kernel_rfl) (prs.door_met os _)) ?_
  intro W base args ds gs before hval0 hW _ hsz0 hL _
  have hval : ∀ (j : Nat) t v, Tryd.f4.params[j]? = some t → args[j]? = some v → Value.okWide Tryd.prog W .any base t v := hval0
  have hW' := hW
  obtain ⟨p, q, hA0, hV, rfl, hfz, hnd⟩ := hW
  have hA : DataW.TrodAll enc Tryd.prog W 0 (fun _ => true) true Tryd.f4.params.toList args.toList ds p := hA0
  have hA2 := hA
  rw [Tryd.params4] at hA hval
  obtain ⟨v0, d0, rfl, rfl, h0⟩ := trodAll_one hA
  obtain ⟨rfl, rfl⟩ := trodVars_none hV
  obtain ⟨s0, rfl, rfl, rfl, w0⟩ := open_string Tryd.underlying9 (hval 0 9 v0 rfl rfl) h0
  clear hA0 hval0
  simp only [List.append_nil] at hW' hA2
  refine (walk s0 W  (prs.env_of hL)).mono fun e W' ⟨he, hb⟩ => ?_
  subst he
  exact ⟨_, rfl, opn.post_true hW' rfl hA2 rfl rfl Tryd.underlying4 (by kernel_rfl) (by kernel_rfl) hb⟩

theorem over : Rows.FnExactUnserializeSaid :=
  OpenClaim.holds_of_wide 4 Tryd.f4 rfl rfl rfl rfl rfl rfl rfl ⟨rfl, rfl, rfl, rfl, rfl⟩ rfl rfl rfl rfl rfl (by kernel_rfl) Tryd.func4 (by kernel_rfl)
    (of_decide_eq_true (by kernel_rfl)) (by unfold Func.isWrapper; first | (rw [if_pos (by decide +kernel)]; kernel_rfl) | (rw [if_neg (by decide +kernel)]; exact ⟨rfl, rfl⟩))
    (fun os started H enc _ => lifted os started H enc)

/-- The statement. -/
theorem proved : Rows.FnExactUnserializeCardSaid :=
  Claim7.holds_tied_plain_at .later [] Rows.fnExactUnserializeCard.laidKinds true Rows.fnExactUnserializeCard.stood.harness Rows.fnExactUnserializeCard.stood.looks
    over (fun _ h => by cases h) (by kernel_rfl) (fun _ h => by cases h) fnExactUnserialize_row_tie rfl ⟨rfl, rfl⟩ (by kernel_rfl) rfl
    (fun f fn hf hfn => by
      obtain rfl : f = 4 := Option.some.inj ((show Tryd.prog.funcNamed "loop.example/g03011/laws.FnExactUnserialize" = some 4 by kernel_rfl).symm.trans hf) |>.symm
      obtain rfl : fn = Tryd.f4 := (Option.some.inj (Tryd.func4.symm.trans hfn)).symm
      exact ⟨by kernel_rfl, fun j t ht => by
        rw [Tryd.params4] at ht
        have hm : t ∈ [9] := by simpa using Array.mem_of_getElem? ht
        have hall : ([9].all fun u => !Tryd.prog.wantsStandIn u) = true := by kernel_rfl
        exact (show Tryd.prog.wantsStandIn t = false by simpa using List.all_eq_true.1 hall t hm)⟩)
    (by kernel_rfl)
#print axioms proved
end Go.Proofs.YtdglmnmalfpipaaDoor.fnExactUnserialize

