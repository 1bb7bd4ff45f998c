/-
  For all bytes the law FnValues returns true: valid values have at most the greatest weight, a nest below it, and a kind with a name; an array of a value weighs 1 more than its items and is one deeper.
  Conditions: the argument is of Go's type; the package variables that the row lists hold what the program's text lays, and the card ties that to the text.
-/
import Derived.Test.YteiijemjofaihaaDoorRows
import Derived.Test.YteiijemjofaihaaDoorCards
import Derived.Test.YteiijemjofaihaaDoorTie
import Derived.LaidMore
import Derived.LaidHandle
import Derived.Stop.Joined
import Derived.SevenTiedAt
import Derived.Stop.LaidErr
import Derived.SizedLaws
import Derived.Deep.RegionHeld3
import Derived.Deep.CutBlock
import Derived.Deep.DeepCutAuto
import Derived.WalkKit
import Derived.ProofKit
import Derived.OpenShut
import Derived.Test.YteiijemjofaihaaDoorValP
import Derived.Test.YteiijemjofaihaaDoorIsPlain
import Derived.Test.YteiijemjofaihaaDoorDrawI
import Derived.Test.YteiijemjofaihaaDoorDrawList
import Derived.Test.YteiijemjofaihaaDoorOpenV
import Derived.Test.YteiijemjofaihaaDoorEnvVl
import Derived.Test.YteiijemjofaihaaDoorClone
namespace Go.Proofs.YteiijemjofaihaaDoor.fnValues
open Go.ChangeShapes Go.WideShapes Go.ChangeAt Go.RowKit mem tree
open Go.ChangeMaps (open_string)
set_option linter.unusedVariables false

theorem own : ownKnob Tryd.prog.godebug = none := by kernel_rfl

theorem bigNo (A : Option Addr) (n c : Nat) (h : (n : Int) ≤ 1048576) (w : World) :
    Calls Tryd.prog 10 #[.slice A n c] w fun e w' => e = .returned (.bool false) ∧ w = w' := by
  have hd : decide ((1048576 : Int) < (n : Int)) = false := by rw [decide_eq_false_iff_not]; omega
  go_enter Tryd.func10, Tryd.ntmps10
  go_wp2
  go_ret
  exact ⟨rfl, rfl⟩
theorem arrV_i (w : World) : Calls Tryd.prog 38 #[] w (GivesQ w (vV 4 0 ⟨#[]⟩ 0 none 0 0)) := by
  go_enter Tryd.func38, Tryd.ntmps38
  go_wp2
  exact bodyPost_ret (v := vV 4 0 ⟨#[]⟩ 0 none 0 0) (by simp [results, Tryd.results38, go_sem]) rfl ⟨rfl, b1 _ _⟩
theorem nullV_i (w : World) : Calls Tryd.prog 40 #[] w (GivesQ w (vV 0 0 ⟨#[]⟩ 0 none 0 0)) := by
  go_enter Tryd.func40, Tryd.ntmps40
  go_wp2
  exact bodyPost_ret (v := vV 0 0 ⟨#[]⟩ 0 none 0 0) (by simp [results, Tryd.results40, go_sem]) rfl ⟨rfl, b1 _ _⟩
theorem trueV_i (w : World) : Calls Tryd.prog 41 #[.bool true] w (GivesQ w (vV 1 1 ⟨#[]⟩ 0 none 0 0)) := by
  go_enter Tryd.func41, Tryd.ntmps41
  go_wp2
  exact bodyPost_ret (v := vV 1 1 ⟨#[]⟩ 0 none 0 0) (by simp [results, Tryd.results41, go_sem]) rfl ⟨rfl, b1 _ _⟩
theorem textV_i (s : ByteArray) (hs : s.size ≤ 1099511627776) (w : World) : Calls Tryd.prog 29 #[.string s] w (GivesQ w (vV 3 0 s 0 none 0 0)) := by
  go_enter Tryd.func29, Tryd.ntmps29
  go_wp2_with (fail)
  refine (implClone' s hs _).mono ?_
  rintro e w1 ⟨rfl, hb1⟩
  have a2 := carry hb1 (heap_alloc_new w _)
  have HB := Lib.hid (bs (b1 _ _) hb1)
  obtain ⟨r2, f2⟩ := rowc a2
  clear hb1 a2
  go_wp2_with (fail)
  refine bodyPost_ret (v := vV 3 0 s 0 none 0 0) (by simp [results, Tryd.results29, go_sem, r2]) rfl ⟨rfl, ?_⟩
  have hB := HB.out
  iterate 5 refine Below.setCell ?_ (by simp) _
  exact hB
theorem cnt_two (t : Tr) : cnt (two t) = cnt t + 2 := by
  unfold two
  simp only [cnt, cnts]
  omega
theorem run_f0 (k n : Int) (s : ByteArray) (x : Int) (A : Option Addr) (L c : Nat) (W : World) : (Instr.field IV (vV k n s x A L c) 0).run Tryd.prog W = .ok (.int .i64 k) W := by kernel_rfl
theorem run_f1 (k n : Int) (s : ByteArray) (x : Int) (A : Option Addr) (L c : Nat) (W : World) : (Instr.field IV (vV k n s x A L c) 1).run Tryd.prog W = .ok (.int .i64 n) W := by kernel_rfl
theorem isin_two {w : World} {S : Nat → Prop} {I : Nat} {k n x : Int} {s : ByteArray} {ks : List Ky} {vs : List Tr} {A : Option Addr} {L c : Nat} {tt : TypeId} (hI : w.heap[I]? = some (.cells #[.bool false, .int .i64 0, .string ⟨#[]⟩, .int .i64 k, .int .i64 n, .string s, .int .i64 x, .slice A L c, .bool false, .int .i64 1, .string ⟨#[]⟩, .int .i64 3, .int .i64 0, .string ⟨#[116]⟩, .int .i64 0, .slice none 0 0] tt (0, 0)))
    (hS : S I) (hT : TIn w S (.mk k n s x ks vs) (vV k n s x A L c)) : TIn w S (two (.mk k n s x ks vs)) (vV 4 0 ⟨#[]⟩ 2 (some ⟨I, 0, none⟩) 2 2) := by
  obtain ⟨hr, -⟩ := rowc hI
  have hU : TIn w S (.mk 3 0 ⟨#[116]⟩ 0 [] []) (vV 3 0 ⟨#[116]⟩ 0 none 0 0) := flat ⟨by unfold I64; omega, by unfold I64; omega, by unfold I64; omega, by show (1 : Nat) ≤ maxLen; unfold maxLen; omega⟩ w S none 0 (Nat.zero_le _)
  refine TIn.of 2 ⟨by unfold I64; omega, by unfold I64; omega, by unfold I64; omega, Nat.zero_le _⟩ ⟨rfl, by simp [maxLen], fun i => if i = 0 then #[.int .i64 k, .int .i64 n, .string s, .int .i64 x, .slice A L c] else #[.int .i64 3, .int .i64 0, .string ⟨#[116]⟩, .int .i64 0, .slice none 0 0], fun i hi => ?_, fun i hi => ?_⟩ ⟨by simp, by unfold maxLen; omega⟩
  · have hi2 : i = 0 ∨ i = 1 := by simp at hi; omega
    rcases hi2 with rfl | rfl
    · refine ⟨⟨I, 0, none⟩, rfl, hS, ⟨by rw [Addr.add_lit]; exact hr 0, by rw [Addr.add_lit]; exact hr 1, by rw [Addr.add_lit]; exact hr 2, by unfold I64; constructor <;> (show _ ≤ _; simp), Nat.zero_le _⟩, rfl, fun j hj => ?_⟩
      rw [Addr.add_lit]
      match j, hj with
      | 0, _ => exact hr 3
      | 1, _ => exact hr 4
      | 2, _ => exact hr 5
      | 3, _ => exact hr 6
      | 4, _ => exact hr 7
    · refine ⟨⟨I, 0, none⟩, rfl, hS, ⟨by rw [Addr.add_lit]; exact hr 8, by rw [Addr.add_lit]; exact hr 9, by rw [Addr.add_lit]; exact hr 10, by unfold I64; constructor <;> (show _ ≤ _; simp), Nat.zero_le _⟩, rfl, fun j hj => ?_⟩
      rw [Addr.add_lit]
      match j, hj with
      | 0, _ => exact hr 11
      | 1, _ => exact hr 12
      | 2, _ => exact hr 13
      | 3, _ => exact hr 14
      | 4, _ => exact hr 15
  · have hi2 : i = 0 ∨ i = 1 := by simp at hi; omega
    rcases hi2 with rfl | rfl
    · exact hT
    · exact hU

set_option maxRecDepth 100000 in
set_option maxHeartbeats 8000000 in
theorem walk (A0 : Option Addr) (n0 c0 : Nat) (l0 : List Int) (w : World) (hn0 : n0 ≤ maxLen) (hr0 : Rd w A0 n0 l0) (hE : prs.VlE w) :
    Calls Tryd.prog 5 #[.slice A0 n0 c0] w fun e w' => e = .returned (.bool true) ∧ Below w.heap.size w w' := by
  unfold maxLen at hn0
  by_cases hbig : (1048576 : Int) < (n0 : Int)
  · go_enter Tryd.func5, Tryd.ntmps5
    go_wp2
    go_ret
    exact ⟨rfl, Below.refl _ _⟩
  have HA := Lib.hid hr0
  have HE := Lib.hid hE
  clear hr0 hE
  go_enter Tryd.func5, Tryd.ntmps5
  go_wp2_with (go_at_call 10; refine (bigNo A0 n0 c0 (by omega) _).mono ?_; rintro e w0 ⟨rfl, rfl⟩)
  refine (draw.drawIsValue A0 n0 c0 (by omega) _ (draw.code_of_rd HA.out)).mono ?_
  rintro e w1 ⟨k, n, s, x, ks, vs, A, L, c, rfl, hL, hT, htt, hb1⟩
  have HB1 := Lib.hid hb1
  have HT := Lib.hid hT
  obtain ⟨M, HM⟩ : ∃ M, Hid (w1.heap.size = M) := ⟨_, Lib.hid rfl⟩
  obtain ⟨w2, hw2⟩ : ∃ w2, w2 = w1.alloc (.cells #[.int .i64 k, .int .i64 n, .string s, .int .i64 x, .slice A L c] 26) := ⟨_, rfl⟩
  have hb2 : Below w1.heap.size w1 w2 := hw2 ▸ b1 w1 _
  have hev : w2.heap[M]? = some (.cells #[.int .i64 k, .int .i64 n, .string s, .int .i64 x, .slice A L c] IV (0, 0)) := by rw [hw2, ← HM.out]; exact heap_alloc_new w1 _
  have hcnt : cnt (.mk k n s x ks vs) ≤ 3000 := by have := cnt_tot _ hT.fits; rw [tot_mk] at this; omega
  have htot : tot (.mk k n s x ks vs) ≤ 2000 := by rw [tot_mk]; exact htt
  obtain ⟨q, HQ⟩ : ∃ q, Hid (valB (.mk k n s x ks vs) = q) := ⟨_, Lib.hid rfl⟩
  obtain ⟨W, HW⟩ : ∃ W, Hid (wt (.mk k n s x ks vs) = W) := ⟨_, Lib.hid rfl⟩
  obtain ⟨Nn, HN⟩ : ∃ N, Hid (nt (.mk k n s x ks vs) = N) := ⟨_, Lib.hid rfl⟩
  obtain ⟨g, HG⟩ : ∃ g, Hid (plainB (.mk k n s x ks vs) = g) := ⟨_, Lib.hid rfl⟩
  obtain ⟨nm, HNM⟩ : ∃ nm, Hid (kinds.nameOf k = nm) := ⟨_, Lib.hid rfl⟩
  have hNW : 0 ≤ Nn ∧ Nn ≤ W := by have := nt_le (.mk k n s x ks vs); rw [HN.out, HW.out] at this; exact this
  have hW3 : W ≤ 3000 := by have := sz_bd join_add (.mk k n s x ks vs); unfold wt at HW; rw [HW.out] at this; omega
  have HVF : Hid (q = true → W ≤ 200 ∧ (nm.toList == []) = false) := Lib.hid (fun hq => by have := val_facts (HQ.out.trans hq); rw [HW.out, HNM.out] at this; exact this)
  have CV : Hid (∀ w', Below w2.heap.size w2 w' → Calls Tryd.prog 34 #[vV k n s x A L c] w' (BoQ w' q)) := Lib.hid (fun w' hb => by rw [← HQ.out]; exact isValue_i _ (by omega) w' _ _ ((HE.out.stays (bs HB1.out (bs hb2 hb))).1) (hT.below' (bs hb2 hb)))
  have CW : Hid (∀ w', Below w2.heap.size w2 w' → Calls Tryd.prog 35 #[vV k n s x A L c] w' (GivesQ w' (.int .i64 W))) := Lib.hid (fun w' hb => by rw [← HW.out]; exact weight_i _ _ w' _ (hT.nwb (bs hb2 hb)) (by omega))
  have CN : Hid (∀ w', Below w2.heap.size w2 w' → Calls Tryd.prog 36 #[vV k n s x A L c] w' (GivesQ w' (.int .i64 Nn))) := Lib.hid (fun w' hb => by rw [← HN.out]; exact nest_i _ _ w' _ (hT.nwb (bs hb2 hb)) (by omega))
  have CP : Hid (∀ w', Below w2.heap.size w2 w' → Calls Tryd.prog 39 #[vV k n s x A L c] w' (GivesQ w' (.bool g))) := Lib.hid (fun w' hb => by rw [← HG.out]; exact isPlain_i _ _ w' _ (hT.nwb (bs hb2 hb)) (by omega))
  have CK : Hid (∀ w', Below w2.heap.size w2 w' → Calls Tryd.prog 37 #[.int .i64 k] w' fun e w3 => e = .returned (.string nm) ∧ Below w'.heap.size w' w3) := Lib.hid (fun w' hb => by rw [← HNM.out]; exact kinds.kindName_i k w' ((HE.out.stays (bs HB1.out (bs hb2 hb))).2))
  have HB2 := Lib.hid (Below.refl w2.heap.size w2)
  have HW2 := Lib.hid (bs HB1.out hb2)
  have HEV2 := Lib.hid hev
  have HB12 := Lib.hid hb2
  have HTT := Lib.hid htt
  have HC := Lib.hid hcnt
  have HW2E := Lib.hid hw2
  clear hb1 hT hev hb2 htt hcnt htot hL hw2
  have r2 := (rowc HEV2.out).1
  go_upto_region 4 with fail
  rw [← HW2E.out, HM.out]
  go_cut [29] (fun v wx => v = .bool false ∧ Below w2.heap.size w2 wx)
  case first =>
    have q0 := r2 0; have q1 := r2 1; have q2 := r2 2; have q3 := r2 3; have q4 := r2 4
    simp at q0 q1 q2 q3 q4
    clear r2
    unfold vV at CV CW CN
    cases q with
    | false =>
      refine wp_region_held_drew (S := (fun w' => w'.cell? ⟨M, 0, none⟩ = some (.int .i64 k) ∧ w'.cell? ⟨M, 1, none⟩ = some (.int .i64 n) ∧ w'.cell? ⟨M, 2, none⟩ = some (.string s) ∧ w'.cell? ⟨M, 3, none⟩ = some (.int .i64 x) ∧ w'.cell? ⟨M, 4, none⟩ = some (.slice A L c))) (by kernel_rfl) ?_ (fun hHeld => ?_)
      · (try dsimp only) <;> go_keep
      refine wpAnyH_take (i := 0) (v := ?_) rfl (by kernel_rfl) (by kernel_rfl) (by kernel_rfl) (fun _ _ _ h => h) (Or.inl ⟨by kernel_rfl, ?_⟩) (by assumption) ?_
      rotate_left
      · (intro w hSw; (try dsimp only at hSw); go_split_ands; go_simp; try (with_reducible rfl))
      try simp only [Act.put, List.setIfInBounds_toArray, List.set_cons_zero, List.set_cons_succ, List.getElem_toArray, List.getElem_cons_zero, List.getElem_cons_succ]
      refine wpAnyH_ready (rs := [1]) (by kernel_rfl) (by simp) ?_
      refine AllReadyH.cons rfl (fun K hK => ?_) AllReadyH.nil
      go_simp
      go_at_call 34
      refine (CV.out _ (Below.refl w2.heap.size w2).drew).mono ?_
      rintro e w3 ⟨rfl, hb⟩
      have HB3 := Lib.hid (bs HB2.out (bs ((Below.refl w2.heap.size w2).drew) hb))
      have HEV3 := Lib.hid (carry (bs ((Below.refl w2.heap.size w2).drew) hb) HEV2.out)
      obtain ⟨rr, -⟩ := rowc HEV3.out
      have q0 := rr 0; have q1 := rr 1; have q2 := rr 2; have q3 := rr 3; have q4 := rr 4
      simp at q0 q1 q2 q3 q4
      clear hb rr
      try go_wp2_with (fail)
      refine hK.out _ _ ?_ (fun hHeld => ?_)
      · (first | go_keep | (go_split_ands; refine ⟨?_, ?_, ?_, ?_, ?_⟩ <;> assumption))
      clear hK K
      try simp only [Act.put, List.setIfInBounds_toArray, List.set_cons_zero, List.set_cons_succ, List.getElem_toArray, List.getElem_cons_zero, List.getElem_cons_succ]
      refine wpAnyH_take (i := 2) (v := ?_) rfl (by kernel_rfl) (by kernel_rfl) (by kernel_rfl) (fun _ _ _ h => h) (Or.inl ⟨by kernel_rfl, ?_⟩) (by assumption) ?_
      rotate_left
      · (intro w hSw; (try dsimp only at hSw); go_split_ands; go_simp; try (with_reducible rfl))
      try simp only [Act.put, List.setIfInBounds_toArray, List.set_cons_zero, List.set_cons_succ, List.getElem_toArray, List.getElem_cons_zero, List.getElem_cons_succ]
      refine wpAnyH_take (i := 3) (v := undef) rfl (by kernel_rfl) (by kernel_rfl) (by kernel_rfl) (fun _ _ _ h => h) (Or.inr ⟨by kernel_rfl, rfl⟩) (by assumption) ?_
      try simp only [Act.put, List.setIfInBounds_toArray, List.set_cons_zero, List.set_cons_succ, List.getElem_toArray, List.getElem_cons_zero, List.getElem_cons_succ]
      refine wpAnyH_take (i := 4) (v := undef) rfl (by kernel_rfl) (by kernel_rfl) (by kernel_rfl) (fun _ _ _ h => h) (Or.inr ⟨by kernel_rfl, rfl⟩) (by assumption) ?_
      try simp only [Act.put, List.setIfInBounds_toArray, List.set_cons_zero, List.set_cons_succ, List.getElem_toArray, List.getElem_cons_zero, List.getElem_cons_succ]
      refine wpAnyH_take (i := 5) (v := undef) rfl (by kernel_rfl) (by kernel_rfl) (by kernel_rfl) (fun _ _ _ h => h) (Or.inr ⟨by kernel_rfl, rfl⟩) (by assumption) ?_
      try simp only [Act.put, List.setIfInBounds_toArray, List.set_cons_zero, List.set_cons_succ, List.getElem_toArray, List.getElem_cons_zero, List.getElem_cons_succ]
      refine wpAnyH_take (i := 6) (v := undef) rfl (by kernel_rfl) (by kernel_rfl) (by kernel_rfl) (fun _ _ _ h => h) (Or.inr ⟨by kernel_rfl, rfl⟩) (by assumption) ?_
      try simp only [Act.put, List.setIfInBounds_toArray, List.set_cons_zero, List.set_cons_succ, List.getElem_toArray, List.getElem_cons_zero, List.getElem_cons_succ]
      refine wpAnyH_take (i := 7) (v := undef) rfl (by kernel_rfl) (by kernel_rfl) (by kernel_rfl) (fun _ _ _ h => h) (Or.inr ⟨by kernel_rfl, rfl⟩) (by assumption) ?_
      try simp only [Act.put, List.setIfInBounds_toArray, List.set_cons_zero, List.set_cons_succ, List.getElem_toArray, List.getElem_cons_zero, List.getElem_cons_succ]
      refine wpAnyH_take (i := 8) (v := undef) rfl (by kernel_rfl) (by kernel_rfl) (by kernel_rfl) (fun _ _ _ h => h) (Or.inr ⟨by kernel_rfl, rfl⟩) (by assumption) ?_
      try simp only [Act.put, List.setIfInBounds_toArray, List.set_cons_zero, List.set_cons_succ, List.getElem_toArray, List.getElem_cons_zero, List.getElem_cons_succ]
      refine wpAnyH_take (i := 9) (v := undef) rfl (by kernel_rfl) (by kernel_rfl) (by kernel_rfl) (fun _ _ _ h => h) (Or.inr ⟨by kernel_rfl, rfl⟩) (by assumption) ?_
      try simp only [Act.put, List.setIfInBounds_toArray, List.set_cons_zero, List.set_cons_succ, List.getElem_toArray, List.getElem_cons_zero, List.getElem_cons_succ]
      refine wpAnyH_take (i := 10) (v := undef) rfl (by kernel_rfl) (by kernel_rfl) (by kernel_rfl) (fun _ _ _ h => h) (Or.inr ⟨by kernel_rfl, rfl⟩) (by assumption) ?_
      try simp only [Act.put, List.setIfInBounds_toArray, List.set_cons_zero, List.set_cons_succ, List.getElem_toArray, List.getElem_cons_zero, List.getElem_cons_succ]
      refine wpAnyH_take (i := 11) (v := undef) rfl (by kernel_rfl) (by kernel_rfl) (by kernel_rfl) (fun _ _ _ h => h) (Or.inr ⟨by kernel_rfl, rfl⟩) (by assumption) ?_
      try simp only [Act.put, List.setIfInBounds_toArray, List.set_cons_zero, List.set_cons_succ, List.getElem_toArray, List.getElem_cons_zero, List.getElem_cons_succ]
      refine wpAnyH_take (i := 12) (v := undef) rfl (by kernel_rfl) (by kernel_rfl) (by kernel_rfl) (fun _ _ _ h => h) (Or.inr ⟨by kernel_rfl, rfl⟩) (by assumption) ?_
      try simp only [Act.put, List.setIfInBounds_toArray, List.set_cons_zero, List.set_cons_succ, List.getElem_toArray, List.getElem_cons_zero, List.getElem_cons_succ]
      refine wpAnyH_take (i := 13) (v := undef) rfl (by kernel_rfl) (by kernel_rfl) (by kernel_rfl) (fun _ _ _ h => h) (Or.inr ⟨by kernel_rfl, rfl⟩) (by assumption) ?_
      try simp only [Act.put, List.setIfInBounds_toArray, List.set_cons_zero, List.set_cons_succ, List.getElem_toArray, List.getElem_cons_zero, List.getElem_cons_succ]
      refine wpAnyH_take (i := 14) (v := undef) rfl (by kernel_rfl) (by kernel_rfl) (by kernel_rfl) (fun _ _ _ h => h) (Or.inr ⟨by kernel_rfl, rfl⟩) (by assumption) ?_
      try simp only [Act.put, List.setIfInBounds_toArray, List.set_cons_zero, List.set_cons_succ, List.getElem_toArray, List.getElem_cons_zero, List.getElem_cons_succ]
      refine wpAnyH_take (i := 15) (v := undef) rfl (by kernel_rfl) (by kernel_rfl) (by kernel_rfl) (fun _ _ _ h => h) (Or.inr ⟨by kernel_rfl, rfl⟩) (by assumption) ?_
      try simp only [Act.put, List.setIfInBounds_toArray, List.set_cons_zero, List.set_cons_succ, List.getElem_toArray, List.getElem_cons_zero, List.getElem_cons_succ]
      refine wpAnyH_take (i := 16) (v := undef) rfl (by kernel_rfl) (by kernel_rfl) (by kernel_rfl) (fun _ _ _ h => h) (Or.inr ⟨by kernel_rfl, rfl⟩) (by assumption) ?_
      try simp only [Act.put, List.setIfInBounds_toArray, List.set_cons_zero, List.set_cons_succ, List.getElem_toArray, List.getElem_cons_zero, List.getElem_cons_succ]
      refine wpAnyH_take (i := 17) (v := undef) rfl (by kernel_rfl) (by kernel_rfl) (by kernel_rfl) (fun _ _ _ h => h) (Or.inr ⟨by kernel_rfl, rfl⟩) (by assumption) ?_
      try simp only [Act.put, List.setIfInBounds_toArray, List.set_cons_zero, List.set_cons_succ, List.getElem_toArray, List.getElem_cons_zero, List.getElem_cons_succ]
      refine wpAnyH_take (i := 18) (v := undef) rfl (by kernel_rfl) (by kernel_rfl) (by kernel_rfl) (fun _ _ _ h => h) (Or.inr ⟨by kernel_rfl, rfl⟩) (by assumption) ?_
      try simp only [Act.put, List.setIfInBounds_toArray, List.set_cons_zero, List.set_cons_succ, List.getElem_toArray, List.getElem_cons_zero, List.getElem_cons_succ]
      refine wpAnyH_take (i := 19) (v := undef) rfl (by kernel_rfl) (by kernel_rfl) (by kernel_rfl) (fun _ _ _ h => h) (Or.inr ⟨by kernel_rfl, rfl⟩) (by assumption) ?_
      try simp only [Act.put, List.setIfInBounds_toArray, List.set_cons_zero, List.set_cons_succ, List.getElem_toArray, List.getElem_cons_zero, List.getElem_cons_succ]
      refine wpAnyH_take (i := 20) (v := ?_) rfl (by kernel_rfl) (by kernel_rfl) (by kernel_rfl) (fun _ _ _ h => h) (Or.inl ⟨by kernel_rfl, ?_⟩) (by assumption) ?_
      rotate_left
      · (intro w hSw; (try dsimp only at hSw); go_split_ands; go_simp; try (with_reducible rfl))
      try simp only [Act.put, List.setIfInBounds_toArray, List.set_cons_zero, List.set_cons_succ, List.getElem_toArray, List.getElem_cons_zero, List.getElem_cons_succ]
      refine wpAnyH_done (by kernel_rfl) ?_ _
      go_wp2_with (fail)
      go_meet
      exact ⟨rfl, HB3.out⟩
    | true =>
      obtain ⟨hW2, hnm⟩ := HVF.out rfl
      refine wp_region_held_drew (S := (fun w' => w'.cell? ⟨M, 0, none⟩ = some (.int .i64 k) ∧ w'.cell? ⟨M, 1, none⟩ = some (.int .i64 n) ∧ w'.cell? ⟨M, 2, none⟩ = some (.string s) ∧ w'.cell? ⟨M, 3, none⟩ = some (.int .i64 x) ∧ w'.cell? ⟨M, 4, none⟩ = some (.slice A L c))) (by kernel_rfl) ?_ (fun hHeld => ?_)
      · (try dsimp only) <;> go_keep
      refine wpAnyH_take (i := 0) (v := ?_) rfl (by kernel_rfl) (by kernel_rfl) (by kernel_rfl) (fun _ _ _ h => h) (Or.inl ⟨by kernel_rfl, ?_⟩) (by assumption) ?_
      rotate_left
      · (intro w hSw; (try dsimp only at hSw); go_split_ands; go_simp; try (with_reducible rfl))
      try simp only [Act.put, List.setIfInBounds_toArray, List.set_cons_zero, List.set_cons_succ, List.getElem_toArray, List.getElem_cons_zero, List.getElem_cons_succ]
      refine wpAnyH_ready (rs := [1]) (by kernel_rfl) (by simp) ?_
      refine AllReadyH.cons rfl (fun K hK => ?_) AllReadyH.nil
      go_simp
      go_at_call 34
      refine (CV.out _ (Below.refl w2.heap.size w2).drew).mono ?_
      rintro e w3 ⟨rfl, hb⟩
      have HB3 := Lib.hid (bs HB2.out (bs ((Below.refl w2.heap.size w2).drew) hb))
      have HEV3 := Lib.hid (carry (bs ((Below.refl w2.heap.size w2).drew) hb) HEV2.out)
      obtain ⟨rr, -⟩ := rowc HEV3.out
      have q0 := rr 0; have q1 := rr 1; have q2 := rr 2; have q3 := rr 3; have q4 := rr 4
      simp at q0 q1 q2 q3 q4
      clear hb rr
      try go_wp2_with (fail)
      refine hK.out _ _ ?_ (fun hHeld => ?_)
      · (first | go_keep | (go_split_ands; refine ⟨?_, ?_, ?_, ?_, ?_⟩ <;> assumption))
      clear hK K
      try simp only [Act.put, List.setIfInBounds_toArray, List.set_cons_zero, List.set_cons_succ, List.getElem_toArray, List.getElem_cons_zero, List.getElem_cons_succ]
      refine wpAnyH_take (i := 2) (v := ?_) rfl (by kernel_rfl) (by kernel_rfl) (by kernel_rfl) (fun _ _ _ h => h) (Or.inl ⟨by kernel_rfl, ?_⟩) (by assumption) ?_
      rotate_left
      · (intro w hSw; (try dsimp only at hSw); go_split_ands; go_simp; try (with_reducible rfl))
      try simp only [Act.put, List.setIfInBounds_toArray, List.set_cons_zero, List.set_cons_succ, List.getElem_toArray, List.getElem_cons_zero, List.getElem_cons_succ]
      refine wpAnyH_take (i := 3) (v := ?_) rfl (by kernel_rfl) (by kernel_rfl) (by kernel_rfl) (fun _ _ _ h => h) (Or.inl ⟨by kernel_rfl, ?_⟩) (by assumption) ?_
      rotate_left
      · (intro w hSw; (try dsimp only at hSw); go_split_ands; go_simp; try (with_reducible rfl))
      try simp only [Act.put, List.setIfInBounds_toArray, List.set_cons_zero, List.set_cons_succ, List.getElem_toArray, List.getElem_cons_zero, List.getElem_cons_succ]
      refine wpAnyH_ready (rs := [4]) (by kernel_rfl) (by simp) ?_
      refine AllReadyH.cons rfl (fun K hK => ?_) AllReadyH.nil
      go_simp
      go_at_call 35
      refine (CW.out _ HB3.out).mono ?_
      rintro e w4 ⟨rfl, hb⟩
      have HB4 := Lib.hid (bs HB3.out hb)
      have HEV4 := Lib.hid (carry hb HEV3.out)
      obtain ⟨rr, -⟩ := rowc HEV4.out
      have q0 := rr 0; have q1 := rr 1; have q2 := rr 2; have q3 := rr 3; have q4 := rr 4
      simp at q0 q1 q2 q3 q4
      clear hb rr
      try go_wp2_with (fail)
      refine hK.out _ _ ?_ (fun hHeld => ?_)
      · (first | go_keep | (go_split_ands; refine ⟨?_, ?_, ?_, ?_, ?_⟩ <;> assumption))
      clear hK K
      try simp only [Act.put, List.setIfInBounds_toArray, List.set_cons_zero, List.set_cons_succ, List.getElem_toArray, List.getElem_cons_zero, List.getElem_cons_succ]
      refine wpAnyH_take (i := 5) (v := ?_) rfl (by kernel_rfl) (by kernel_rfl) (by kernel_rfl) (fun _ _ _ h => h) (Or.inl ⟨by kernel_rfl, ?_⟩) (by assumption) ?_
      rotate_left
      · (intro w hSw; (try dsimp only at hSw); go_split_ands; go_simp; try (with_reducible rfl))
      try simp only [Act.put, List.setIfInBounds_toArray, List.set_cons_zero, List.set_cons_succ, List.getElem_toArray, List.getElem_cons_zero, List.getElem_cons_succ]
      rw [show decide (W > 200) = false by rw [decide_eq_false_iff_not]; omega]
      refine wpAnyH_take (i := 6) (v := ?_) rfl (by kernel_rfl) (by kernel_rfl) (by kernel_rfl) (fun _ _ _ h => h) (Or.inl ⟨by kernel_rfl, ?_⟩) (by assumption) ?_
      rotate_left
      · (intro w hSw; (try dsimp only at hSw); go_split_ands; go_simp; try (with_reducible rfl))
      try simp only [Act.put, List.setIfInBounds_toArray, List.set_cons_zero, List.set_cons_succ, List.getElem_toArray, List.getElem_cons_zero, List.getElem_cons_succ]
      refine wpAnyH_take (i := 7) (v := ?_) rfl (by kernel_rfl) (by kernel_rfl) (by kernel_rfl) (fun _ _ _ h => h) (Or.inl ⟨by kernel_rfl, ?_⟩) (by assumption) ?_
      rotate_left
      · (intro w hSw; (try dsimp only at hSw); go_split_ands; go_simp; try (with_reducible rfl))
      try simp only [Act.put, List.setIfInBounds_toArray, List.set_cons_zero, List.set_cons_succ, List.getElem_toArray, List.getElem_cons_zero, List.getElem_cons_succ]
      refine wpAnyH_take (i := 9) (v := ?_) rfl (by kernel_rfl) (by kernel_rfl) (by kernel_rfl) (fun _ _ _ h => h) (Or.inl ⟨by kernel_rfl, ?_⟩) (by assumption) ?_
      rotate_left
      · (intro w hSw; (try dsimp only at hSw); go_split_ands; go_simp; try (with_reducible rfl))
      try simp only [Act.put, List.setIfInBounds_toArray, List.set_cons_zero, List.set_cons_succ, List.getElem_toArray, List.getElem_cons_zero, List.getElem_cons_succ]
      refine wpAnyH_ready (rs := [8]) (by kernel_rfl) (by simp) ?_
      refine AllReadyH.cons rfl (fun K hK => ?_) AllReadyH.nil
      go_simp
      go_at_call 36
      refine (CN.out _ HB4.out).mono ?_
      rintro e w5 ⟨rfl, hb⟩
      have HB5 := Lib.hid (bs HB4.out hb)
      have HEV5 := Lib.hid (carry hb HEV4.out)
      obtain ⟨rr, -⟩ := rowc HEV5.out
      have q0 := rr 0; have q1 := rr 1; have q2 := rr 2; have q3 := rr 3; have q4 := rr 4
      simp at q0 q1 q2 q3 q4
      clear hb rr
      try go_wp2_with (fail)
      refine hK.out _ _ ?_ (fun hHeld => ?_)
      · (first | go_keep | (go_split_ands; refine ⟨?_, ?_, ?_, ?_, ?_⟩ <;> assumption))
      clear hK K
      try simp only [Act.put, List.setIfInBounds_toArray, List.set_cons_zero, List.set_cons_succ, List.getElem_toArray, List.getElem_cons_zero, List.getElem_cons_succ]
      refine wpAnyH_ready (rs := [10]) (by kernel_rfl) (by simp) ?_
      refine AllReadyH.cons rfl (fun K hK => ?_) AllReadyH.nil
      go_simp
      go_at_call 35
      refine (CW.out _ HB5.out).mono ?_
      rintro e w6 ⟨rfl, hb⟩
      have HB6 := Lib.hid (bs HB5.out hb)
      have HEV6 := Lib.hid (carry hb HEV5.out)
      obtain ⟨rr, -⟩ := rowc HEV6.out
      have q0 := rr 0; have q1 := rr 1; have q2 := rr 2; have q3 := rr 3; have q4 := rr 4
      simp at q0 q1 q2 q3 q4
      clear hb rr
      try go_wp2_with (fail)
      refine hK.out _ _ ?_ (fun hHeld => ?_)
      · (first | go_keep | (go_split_ands; refine ⟨?_, ?_, ?_, ?_, ?_⟩ <;> assumption))
      clear hK K
      try simp only [Act.put, List.setIfInBounds_toArray, List.set_cons_zero, List.set_cons_succ, List.getElem_toArray, List.getElem_cons_zero, List.getElem_cons_succ]
      refine wpAnyH_take (i := 11) (v := ?_) rfl (by kernel_rfl) (by kernel_rfl) (by kernel_rfl) (fun _ _ _ h => h) (Or.inl ⟨by kernel_rfl, ?_⟩) (by assumption) ?_
      rotate_left
      · (intro w hSw; (try dsimp only at hSw); go_split_ands; go_simp; try (with_reducible rfl))
      try simp only [Act.put, List.setIfInBounds_toArray, List.set_cons_zero, List.set_cons_succ, List.getElem_toArray, List.getElem_cons_zero, List.getElem_cons_succ]
      rw [show IntKind.i64.wrap (W + 1) = W + 1 by rw [IntKind.wrap_i64]; omega]
      refine wpAnyH_take (i := 12) (v := ?_) rfl (by kernel_rfl) (by kernel_rfl) (by kernel_rfl) (fun _ _ _ h => h) (Or.inl ⟨by kernel_rfl, ?_⟩) (by assumption) ?_
      rotate_left
      · (intro w hSw; (try dsimp only at hSw); go_split_ands; go_simp; try (with_reducible rfl))
      try simp only [Act.put, List.setIfInBounds_toArray, List.set_cons_zero, List.set_cons_succ, List.getElem_toArray, List.getElem_cons_zero, List.getElem_cons_succ]
      rw [show decide (Nn ≥ W + 1) = false by rw [decide_eq_false_iff_not]; omega]
      refine wpAnyH_take (i := 13) (v := ?_) rfl (by kernel_rfl) (by kernel_rfl) (by kernel_rfl) (fun _ _ _ h => h) (Or.inl ⟨by kernel_rfl, ?_⟩) (by assumption) ?_
      rotate_left
      · (intro w hSw; (try dsimp only at hSw); go_split_ands; go_simp; try (with_reducible rfl))
      try simp only [Act.put, List.setIfInBounds_toArray, List.set_cons_zero, List.set_cons_succ, List.getElem_toArray, List.getElem_cons_zero, List.getElem_cons_succ]
      refine wpAnyH_take (i := 14) (v := ?_) rfl (by kernel_rfl) (by kernel_rfl) (by kernel_rfl) (fun _ _ _ h => h) (Or.inl ⟨by kernel_rfl, ?_⟩) (by assumption) ?_
      rotate_left
      · (intro w hSw; (try dsimp only at hSw); go_split_ands; go_simp; try (with_reducible rfl))
      try simp only [Act.put, List.setIfInBounds_toArray, List.set_cons_zero, List.set_cons_succ, List.getElem_toArray, List.getElem_cons_zero, List.getElem_cons_succ]
      refine wpAnyH_take (i := 15) (v := ?_) rfl (by kernel_rfl) (by kernel_rfl) (by kernel_rfl) (fun _ _ _ h => h) (Or.inl ⟨by kernel_rfl, ?_⟩) (by assumption) ?_
      rotate_left
      · (intro w hSw; (try dsimp only at hSw); go_split_ands; go_simp; try (with_reducible rfl))
      try simp only [Act.put, List.setIfInBounds_toArray, List.set_cons_zero, List.set_cons_succ, List.getElem_toArray, List.getElem_cons_zero, List.getElem_cons_succ]
      refine wpAnyH_take (i := 16) (v := ?_) rfl (by kernel_rfl) (by kernel_rfl) (by kernel_rfl) (fun _ _ _ h => h) (Or.inl ⟨by kernel_rfl, ?_⟩) (by assumption) ?_
      rotate_left
      · (intro w hSw; (try dsimp only at hSw); go_split_ands; go_simp; try (with_reducible rfl))
      try simp only [Act.put, List.setIfInBounds_toArray, List.set_cons_zero, List.set_cons_succ, List.getElem_toArray, List.getElem_cons_zero, List.getElem_cons_succ]
      refine wpAnyH_ready (rs := [17]) (by kernel_rfl) (by simp) ?_
      refine AllReadyH.cons rfl (fun K hK => ?_) AllReadyH.nil
      go_simp
      go_at_call 37
      refine (CK.out _ HB6.out).mono ?_
      rintro e w7 ⟨rfl, hb⟩
      have HB7 := Lib.hid (bs HB6.out hb)
      have HEV7 := Lib.hid (carry hb HEV6.out)
      obtain ⟨rr, -⟩ := rowc HEV7.out
      have q0 := rr 0; have q1 := rr 1; have q2 := rr 2; have q3 := rr 3; have q4 := rr 4
      simp at q0 q1 q2 q3 q4
      clear hb rr
      try go_wp2_with (fail)
      refine hK.out _ _ ?_ (fun hHeld => ?_)
      · (first | go_keep | (go_split_ands; refine ⟨?_, ?_, ?_, ?_, ?_⟩ <;> assumption))
      clear hK K
      try simp only [Act.put, List.setIfInBounds_toArray, List.set_cons_zero, List.set_cons_succ, List.getElem_toArray, List.getElem_cons_zero, List.getElem_cons_succ]
      refine wpAnyH_take (i := 18) (v := ?_) rfl (by kernel_rfl) (by kernel_rfl) (by kernel_rfl) (fun _ _ _ h => h) (Or.inl ⟨by kernel_rfl, ?_⟩) (by assumption) ?_
      rotate_left
      · (intro w hSw; (try dsimp only at hSw); go_split_ands; go_simp; try (with_reducible rfl))
      try simp only [Act.put, List.setIfInBounds_toArray, List.set_cons_zero, List.set_cons_succ, List.getElem_toArray, List.getElem_cons_zero, List.getElem_cons_succ]
      refine wpAnyH_take (i := 19) (v := ?_) rfl (by kernel_rfl) (by kernel_rfl) (by kernel_rfl) (fun _ _ _ h => h) (Or.inl ⟨by kernel_rfl, ?_⟩) (by assumption) ?_
      rotate_left
      · (intro w hSw; (try dsimp only at hSw); go_split_ands; go_simp; try (with_reducible rfl))
      try simp only [Act.put, List.setIfInBounds_toArray, List.set_cons_zero, List.set_cons_succ, List.getElem_toArray, List.getElem_cons_zero, List.getElem_cons_succ]
      refine wpAnyH_take (i := 20) (v := ?_) rfl (by kernel_rfl) (by kernel_rfl) (by kernel_rfl) (fun _ _ _ h => h) (Or.inl ⟨by kernel_rfl, ?_⟩) (by assumption) ?_
      rotate_left
      · (intro w hSw; (try dsimp only at hSw); go_split_ands; go_simp; try (with_reducible rfl))
      try simp only [Act.put, List.setIfInBounds_toArray, List.set_cons_zero, List.set_cons_succ, List.getElem_toArray, List.getElem_cons_zero, List.getElem_cons_succ]
      refine wpAnyH_done (by kernel_rfl) ?_ _
      go_wp2_with (fail)
      go_meet
      exact ⟨rfl, HB7.out⟩
  case rest =>
    obtain ⟨rfl, hbc⟩ := hcut
    have HB3 := Lib.hid hbc
    have HEV3 := Lib.hid (carry hbc HEV2.out)
    have CA := arrV_i
    unfold vV at CA
    clear hbc r2 HVF
    go_wp2_with (fail)
    refine (CA _).mono ?_
    rintro e w4 ⟨rfl, hb⟩
    have HB4 := Lib.hid (bs HB3.out hb)
    have HEV4 := Lib.hid (carry hb HEV3.out)
    clear hb
    go_upto_region 8 with fail
    obtain ⟨X, HX⟩ : ∃ X, Hid (w4.heap.size = X) := ⟨_, Lib.hid rfl⟩
    obtain ⟨w5, hw5⟩ : ∃ w5, w5 = w4.alloc (.cells #[.int .i64 4, .int .i64 0, .string ⟨#[]⟩, .int .i64 2, .slice none 0 0] 26) := ⟨_, rfl⟩
    have hb5 : Below w4.heap.size w4 w5 := hw5 ▸ b1 w4 _
    have HX5 : Hid (w5.heap[X]? = some (.cells #[.int .i64 4, .int .i64 0, .string ⟨#[]⟩, .int .i64 2, .slice none 0 0] IV (0, 0))) := Lib.hid (by rw [hw5, ← HX.out]; exact heap_alloc_new w4 _)
    have HB5 := Lib.hid (bs HB4.out hb5)
    have HEV5 := Lib.hid (carry hb5 HEV4.out)
    have TX := textV_i ⟨#[116]⟩ (by show (1 : Nat) ≤ _; omega)
    unfold vV at TX
    have hXB : w2.heap.size ≤ X := by rw [← HX.out]; exact HB4.out.size
    have hXM : M < X := by rw [← HX.out]; exact (Array.getElem?_eq_some_iff.1 HEV4.out).1
    rw [← hw5, HX.out]
    have HW5 := Lib.hid hw5
    obtain ⟨r5, -⟩ := rowc HEV5.out
    have q0 := r5 0; have q1 := r5 1; have q2 := r5 2; have q3 := r5 3; have q4 := r5 4
    simp at q0 q1 q2 q3 q4
    clear hb5 hw5 r5
    refine wp_region_held_drew (S := (fun w' => w'.cell? ⟨M, 0, none⟩ = some (.int .i64 k) ∧ w'.cell? ⟨M, 1, none⟩ = some (.int .i64 n) ∧ w'.cell? ⟨M, 2, none⟩ = some (.string s) ∧ w'.cell? ⟨M, 3, none⟩ = some (.int .i64 x) ∧ w'.cell? ⟨M, 4, none⟩ = some (.slice A L c))) (by kernel_rfl) ?_ (fun hHeld => ?_)
    · (try dsimp only) <;> go_keep
    refine wpAnyH_take (i := 0) (v := ?_) rfl (by kernel_rfl) (by kernel_rfl) (by kernel_rfl) (fun _ _ _ h => h) (Or.inl ⟨by kernel_rfl, ?_⟩) (by assumption) ?_
    rotate_left
    · (intro w hSw; (try dsimp only at hSw); go_split_ands; go_simp; try (with_reducible rfl))
    try simp only [Act.put, List.setIfInBounds_toArray, List.set_cons_zero, List.set_cons_succ, List.getElem_toArray, List.getElem_cons_zero, List.getElem_cons_succ]
    refine wpAnyH_take (i := 1) (v := ?_) rfl (by kernel_rfl) (by kernel_rfl) (by kernel_rfl) (fun _ _ _ h => h) (Or.inl ⟨by kernel_rfl, ?_⟩) (by assumption) ?_
    rotate_left
    · (intro w hSw; (try dsimp only at hSw); go_split_ands; go_simp; try (with_reducible rfl))
    try simp only [Act.put, List.setIfInBounds_toArray, List.set_cons_zero, List.set_cons_succ, List.getElem_toArray, List.getElem_cons_zero, List.getElem_cons_succ]
    refine wpAnyH_take (i := 2) (v := ?_) rfl (by kernel_rfl) (by kernel_rfl) (by kernel_rfl) (fun _ _ _ h => h) (Or.inl ⟨by kernel_rfl, ?_⟩) (by assumption) ?_
    rotate_left
    · (intro w hSw; (try dsimp only at hSw); go_split_ands; go_simp; try (with_reducible rfl))
    try simp only [Act.put, List.setIfInBounds_toArray, List.set_cons_zero, List.set_cons_succ, List.getElem_toArray, List.getElem_cons_zero, List.getElem_cons_succ]
    refine wpAnyH_ready (rs := [3]) (by kernel_rfl) (by simp) ?_
    refine AllReadyH.cons rfl (fun K hK => ?_) AllReadyH.nil
    go_simp
    go_at_call 29
    refine (TX _).mono ?_
    rintro e w6 ⟨rfl, hb⟩
    have HB6 := Lib.hid (bs HB5.out (bs ((Below.refl w5.heap.size w5).drew) hb))
    have HEV6 := Lib.hid (carry (bs ((Below.refl w5.heap.size w5).drew) hb) HEV5.out)
    obtain ⟨rr, -⟩ := rowc HEV6.out
    have q0 := rr 0; have q1 := rr 1; have q2 := rr 2; have q3 := rr 3; have q4 := rr 4
    simp at q0 q1 q2 q3 q4
    have HX6 := Lib.hid (carry (bs ((Below.refl w5.heap.size w5).drew) hb) HX5.out)
    clear hb rr
    try go_wp2_with (fail)
    refine hK.out _ _ ?_ (fun hHeld => ?_)
    · (first | go_keep | (go_split_ands; refine ⟨?_, ?_, ?_, ?_, ?_⟩ <;> assumption))
    clear hK K
    try simp only [Act.put, List.setIfInBounds_toArray, List.set_cons_zero, List.set_cons_succ, List.getElem_toArray, List.getElem_cons_zero, List.getElem_cons_succ]
    refine wpAnyH_take (i := 4) (v := ?_) rfl (by kernel_rfl) (by kernel_rfl) (by kernel_rfl) (fun _ _ _ h => h) (Or.inl ⟨by kernel_rfl, ?_⟩) (by assumption) ?_
    rotate_left
    · (intro w hSw; (try dsimp only at hSw); go_split_ands; go_simp; try (with_reducible rfl))
    try simp only [Act.put, List.setIfInBounds_toArray, List.set_cons_zero, List.set_cons_succ, List.getElem_toArray, List.getElem_cons_zero, List.getElem_cons_succ]
    refine wpAnyH_ready (rs := [5]) (by kernel_rfl) (by simp) ?_
    refine AllReadyH.cons rfl (fun K hK => ?_) AllReadyH.nil
    go_simp
    obtain ⟨w7, hw7⟩ : ∃ w7, w7 = w6.alloc (.cells #[.bool false, .int .i64 0, .string ⟨#[]⟩, .int .i64 k, .int .i64 n, .string s, .int .i64 x, .slice A L c, .bool false, .int .i64 1, .string ⟨#[]⟩, .int .i64 3, .int .i64 0, .string ⟨#[116]⟩, .int .i64 0, .slice none 0 0] 40) := ⟨_, rfl⟩
    obtain ⟨I, HI⟩ : ∃ I, Hid (w6.heap.size = I) := ⟨_, Lib.hid rfl⟩
    have hXI : X < I := by rw [← HI.out]; exact (Array.getElem?_eq_some_iff.1 HX6.out).1
    rw [← hw7, HI.out]
    have hb7 : Below w6.heap.size w6 w7 := hw7 ▸ b1 w6 _
    have HI7 : Hid (w7.heap[I]? = some (.cells #[.bool false, .int .i64 0, .string ⟨#[]⟩, .int .i64 k, .int .i64 n, .string s, .int .i64 x, .slice A L c, .bool false, .int .i64 1, .string ⟨#[]⟩, .int .i64 3, .int .i64 0, .string ⟨#[116]⟩, .int .i64 0, .slice none 0 0] 40 (0, 0))) := Lib.hid (by rw [hw7, ← HI.out]; exact heap_alloc_new w6 _)
    have HB7 := Lib.hid (bs HB6.out hb7)
    have HX7 := Lib.hid (carry hb7 HX6.out)
    have HEV7 := Lib.hid (carry hb7 HEV6.out)
    obtain ⟨rr, -⟩ := rowc HEV7.out
    have q0 := rr 0; have q1 := rr 1; have q2 := rr 2; have q3 := rr 3; have q4 := rr 4
    simp at q0 q1 q2 q3 q4
    clear hb7 rr hw7
    refine hK.out _ _ ?_ (fun hHeld => ?_)
    · (first | go_keep | (go_split_ands; refine ⟨?_, ?_, ?_, ?_, ?_⟩ <;> assumption))
    clear hK K
    try simp only [Act.put, List.setIfInBounds_toArray, List.set_cons_zero, List.set_cons_succ, List.getElem_toArray, List.getElem_cons_zero, List.getElem_cons_succ]
    refine wpAnyH_take (i := 6) (v := ?_) rfl (by kernel_rfl) (by kernel_rfl) (by kernel_rfl) (fun _ _ _ h => h) (Or.inl ⟨by kernel_rfl, ?_⟩) (by assumption) ?_
    rotate_left
    · (intro w hSw; (try dsimp only at hSw); go_split_ands; go_simp; try (with_reducible rfl))
    try simp only [Act.put, List.setIfInBounds_toArray, List.set_cons_zero, List.set_cons_succ, List.getElem_toArray, List.getElem_cons_zero, List.getElem_cons_succ]
    refine wpAnyH_ready (rs := [7]) (by kernel_rfl) (by simp) ?_
    refine AllReadyH.cons rfl (fun K hK => ?_) AllReadyH.nil
    obtain ⟨rx, fx⟩ := rowc HX7.out
    go_simp
    obtain ⟨w8, hw8⟩ : ∃ w8, w8 = w7.setCell ⟨X, 4, none⟩ (.slice (some ⟨I, 0, none⟩) 2 2) := ⟨_, rfl⟩
    rw [← hw8]
    have HEV8 : Hid (w8.heap[M]? = some (.cells #[.int .i64 k, .int .i64 n, .string s, .int .i64 x, .slice A L c] IV (0, 0))) := Lib.hid (by rw [hw8, set_other (by omega)]; exact HEV7.out)
    have HI8 : Hid (w8.heap[I]? = some (.cells #[.bool false, .int .i64 0, .string ⟨#[]⟩, .int .i64 k, .int .i64 n, .string s, .int .i64 x, .slice A L c, .bool false, .int .i64 1, .string ⟨#[]⟩, .int .i64 3, .int .i64 0, .string ⟨#[116]⟩, .int .i64 0, .slice none 0 0] 40 (0, 0))) := Lib.hid (by rw [hw8, set_other (by omega)]; exact HI7.out)
    have HX8 : Hid (w8.heap[X]? = some (.cells #[.int .i64 4, .int .i64 0, .string ⟨#[]⟩, .int .i64 2, .slice (some ⟨I, 0, none⟩) 2 2] IV (0, 0))) := Lib.hid (by rw [hw8]; have := set_heap HX7.out 4 (.slice (some ⟨I, 0, none⟩) 2 2); simpa using this)
    have HB8 : Hid (Below w2.heap.size w2 w8) := Lib.hid (by rw [hw8]; exact HB7.out.setCell hXB _)
    obtain ⟨rr, -⟩ := rowc HEV8.out
    have q0 := rr 0; have q1 := rr 1; have q2 := rr 2; have q3 := rr 3; have q4 := rr 4
    obtain ⟨rz, -⟩ := rowc HX8.out
    have p0 := rz 0; have p1 := rz 1; have p2 := rz 2; have p3 := rz 3; have p4 := rz 4
    simp at q0 q1 q2 q3 q4 p0 p1 p2 p3 p4
    clear rr rx fx rz hw8
    refine hK.out _ _ ?_ (fun hHeld => ?_)
    · (first | go_keep | (go_split_ands; refine ⟨?_, ?_, ?_, ?_, ?_⟩ <;> assumption))
    clear hK K
    try simp only [Act.put, List.setIfInBounds_toArray, List.set_cons_zero, List.set_cons_succ, List.getElem_toArray, List.getElem_cons_zero, List.getElem_cons_succ]
    refine wpAnyH_done (by kernel_rfl) ?_ _
    rename_i K8 a8
    clear K8 a8
    have HT8 : Hid (TIn w8 (Nw w.heap.size w8) (two (.mk k n s x ks vs)) (vV 4 0 ⟨#[]⟩ 2 (some ⟨I, 0, none⟩) 2 2)) := Lib.hid (isin_two HI8.out ⟨by have := HB1.out.size; have := HB12.out.size; omega, _, _, HI8.out⟩ (HT.out.nwb (bs HB12.out HB8.out)))
    have hc8 : cnt (two (.mk k n s x ks vs)) ≤ 3100 := by rw [cnt_two]; have := HC.out; omega
    have CW2 : Hid (∀ w', Below w8.heap.size w8 w' → Calls Tryd.prog 35 #[vV 4 0 ⟨#[]⟩ 2 (some ⟨I, 0, none⟩) 2 2] w' (GivesQ w' (.int .i64 (W + 2)))) := Lib.hid (fun w' hb => by rw [← HW.out, ← wt_two]; exact weight_i _ _ w' _ (HT8.out.nwb hb) (by omega))
    have CN2 : Hid (∀ w', Below w8.heap.size w8 w' → Calls Tryd.prog 36 #[vV 4 0 ⟨#[]⟩ 2 (some ⟨I, 0, none⟩) 2 2] w' (GivesQ w' (.int .i64 (Nn + 1)))) := Lib.hid (fun w' hb => by rw [← HN.out, ← nt_two]; exact nest_i _ _ w' _ (HT8.out.nwb hb) (by omega))
    have CP2 : Hid (∀ w', Below w8.heap.size w8 w' → Calls Tryd.prog 39 #[vV 4 0 ⟨#[]⟩ 2 (some ⟨I, 0, none⟩) 2 2] w' (GivesQ w' (.bool g))) := Lib.hid (fun w' hb => by rw [← HG.out, ← plain_two]; exact isPlain_i _ _ w' _ (HT8.out.nwb hb) (by omega))
    have CNU := Lib.hid nullV_i
    have CBO := Lib.hid trueV_i
    have hf0 := run_f0 0 0 ⟨#[]⟩ 0 none 0 0
    have hf1 := run_f1 1 1 ⟨#[]⟩ 0 none 0 0
    have HD8 := Lib.hid (Below.refl w8.heap.size w8)
    unfold IV at hf0 hf1
    unfold vV at CW2 CN2 CP2 CW CN CP CNU CBO hf0 hf1
    clear hc8 TX CA
    go_upto_region 9 with fail
    cases g with
    | false =>
      refine wp_region_held_drew (S := (fun w' => w'.cell? ⟨M, 0, none⟩ = some (.int .i64 k) ∧ w'.cell? ⟨M, 1, none⟩ = some (.int .i64 n) ∧ w'.cell? ⟨M, 2, none⟩ = some (.string s) ∧ w'.cell? ⟨M, 3, none⟩ = some (.int .i64 x) ∧ w'.cell? ⟨M, 4, none⟩ = some (.slice A L c) ∧ w'.cell? ⟨X, 0, none⟩ = some (.int .i64 4) ∧ w'.cell? ⟨X, 1, none⟩ = some (.int .i64 0) ∧ w'.cell? ⟨X, 2, none⟩ = some (.string ⟨#[]⟩) ∧ w'.cell? ⟨X, 3, none⟩ = some (.int .i64 2) ∧ w'.cell? ⟨X, 4, none⟩ = some (.slice (some ⟨I, 0, none⟩) 2 2))) (by kernel_rfl) ?_ (fun hHeld => ?_)
      · (try dsimp only) <;> (first | go_keep | (refine ⟨?_, ?_, ?_, ?_, ?_, ?_, ?_, ?_, ?_, ?_⟩ <;> assumption))
      refine wpAnyH_take (i := 0) (v := ?_) rfl (by kernel_rfl) (by kernel_rfl) (by kernel_rfl) (fun _ _ _ h => h) (Or.inl ⟨by kernel_rfl, ?_⟩) (by assumption) ?_
      rotate_left
      · (intro w hSw; (try dsimp only at hSw); go_split_ands; go_simp; try (with_reducible rfl))
      try simp only [Act.put, List.setIfInBounds_toArray, List.set_cons_zero, List.set_cons_succ, List.getElem_toArray, List.getElem_cons_zero, List.getElem_cons_succ]
      refine wpAnyH_take (i := 2) (v := ?_) rfl (by kernel_rfl) (by kernel_rfl) (by kernel_rfl) (fun _ _ _ h => h) (Or.inl ⟨by kernel_rfl, ?_⟩) (by assumption) ?_
      rotate_left
      · (intro w hSw; (try dsimp only at hSw); go_split_ands; go_simp; try (with_reducible rfl))
      try simp only [Act.put, List.setIfInBounds_toArray, List.set_cons_zero, List.set_cons_succ, List.getElem_toArray, List.getElem_cons_zero, List.getElem_cons_succ]
      refine wpAnyH_ready (rs := [1]) (by kernel_rfl) (by simp) ?_
      refine AllReadyH.cons rfl (fun K hK => ?_) AllReadyH.nil
      go_simp
      go_at_call 35
      refine (CW2.out _ ((Below.refl w8.heap.size w8).drew)).mono ?_
      rintro e w9 ⟨rfl, hb⟩
      have HD9 := Lib.hid (bs HD8.out (bs ((Below.refl w8.heap.size w8).drew) hb))
      obtain ⟨rr, -⟩ := rowc (carry HD9.out HEV8.out)
      have q0 := rr 0; have q1 := rr 1; have q2 := rr 2; have q3 := rr 3; have q4 := rr 4
      obtain ⟨rz, -⟩ := rowc (carry HD9.out HX8.out)
      have p0 := rz 0; have p1 := rz 1; have p2 := rz 2; have p3 := rz 3; have p4 := rz 4
      simp at q0 q1 q2 q3 q4 p0 p1 p2 p3 p4
      clear hb rr rz
      try go_wp2_with (fail)
      refine hK.out _ _ ?_ (fun hHeld => ?_)
      · (first | go_keep | (go_split_ands; refine ⟨?_, ?_, ?_, ?_, ?_, ?_, ?_, ?_, ?_, ?_⟩ <;> assumption))
      clear hK K
      try simp only [Act.put, List.setIfInBounds_toArray, List.set_cons_zero, List.set_cons_succ, List.getElem_toArray, List.getElem_cons_zero, List.getElem_cons_succ]
      refine wpAnyH_ready (rs := [3]) (by kernel_rfl) (by simp) ?_
      refine AllReadyH.cons rfl (fun K hK => ?_) AllReadyH.nil
      go_simp
      go_at_call 35
      refine (CW.out _ (bs HB8.out (HD9.out))).mono ?_
      rintro e w10 ⟨rfl, hb⟩
      have HD10 := Lib.hid (bs HD9.out hb)
      obtain ⟨rr, -⟩ := rowc (carry HD10.out HEV8.out)
      have q0 := rr 0; have q1 := rr 1; have q2 := rr 2; have q3 := rr 3; have q4 := rr 4
      obtain ⟨rz, -⟩ := rowc (carry HD10.out HX8.out)
      have p0 := rz 0; have p1 := rz 1; have p2 := rz 2; have p3 := rz 3; have p4 := rz 4
      simp at q0 q1 q2 q3 q4 p0 p1 p2 p3 p4
      clear hb rr rz
      try go_wp2_with (fail)
      refine hK.out _ _ ?_ (fun hHeld => ?_)
      · (first | go_keep | (go_split_ands; refine ⟨?_, ?_, ?_, ?_, ?_, ?_, ?_, ?_, ?_, ?_⟩ <;> assumption))
      clear hK K
      try simp only [Act.put, List.setIfInBounds_toArray, List.set_cons_zero, List.set_cons_succ, List.getElem_toArray, List.getElem_cons_zero, List.getElem_cons_succ]
      refine wpAnyH_take (i := 4) (v := ?_) rfl (by kernel_rfl) (by kernel_rfl) (by kernel_rfl) (fun _ _ _ h => h) (Or.inl ⟨by kernel_rfl, ?_⟩) (by assumption) ?_
      rotate_left
      · (intro w hSw; (try dsimp only at hSw); go_split_ands; go_simp; try (with_reducible rfl))
      try simp only [Act.put, List.setIfInBounds_toArray, List.set_cons_zero, List.set_cons_succ, List.getElem_toArray, List.getElem_cons_zero, List.getElem_cons_succ]
      rw [show IntKind.i64.wrap (W + 2) = W + 2 by rw [IntKind.wrap_i64]; omega]
      refine wpAnyH_take (i := 5) (v := ?_) rfl (by kernel_rfl) (by kernel_rfl) (by kernel_rfl) (fun _ _ _ h => h) (Or.inl ⟨by kernel_rfl, ?_⟩) (by assumption) ?_
      rotate_left
      · (intro w hSw; (try dsimp only at hSw); go_split_ands; go_simp; try (with_reducible rfl))
      try simp only [Act.put, List.setIfInBounds_toArray, List.set_cons_zero, List.set_cons_succ, List.getElem_toArray, List.getElem_cons_zero, List.getElem_cons_succ]
      refine wpAnyH_take (i := 6) (v := ?_) rfl (by kernel_rfl) (by kernel_rfl) (by kernel_rfl) (fun _ _ _ h => h) (Or.inl ⟨by kernel_rfl, ?_⟩) (by assumption) ?_
      rotate_left
      · (intro w hSw; (try dsimp only at hSw); go_split_ands; go_simp; try (with_reducible rfl))
      try simp only [Act.put, List.setIfInBounds_toArray, List.set_cons_zero, List.set_cons_succ, List.getElem_toArray, List.getElem_cons_zero, List.getElem_cons_succ]
      refine wpAnyH_take (i := 7) (v := ?_) rfl (by kernel_rfl) (by kernel_rfl) (by kernel_rfl) (fun _ _ _ h => h) (Or.inl ⟨by kernel_rfl, ?_⟩) (by assumption) ?_
      rotate_left
      · (intro w hSw; (try dsimp only at hSw); go_split_ands; go_simp; try (with_reducible rfl))
      try simp only [Act.put, List.setIfInBounds_toArray, List.set_cons_zero, List.set_cons_succ, List.getElem_toArray, List.getElem_cons_zero, List.getElem_cons_succ]
      refine wpAnyH_take (i := 9) (v := ?_) rfl (by kernel_rfl) (by kernel_rfl) (by kernel_rfl) (fun _ _ _ h => h) (Or.inl ⟨by kernel_rfl, ?_⟩) (by assumption) ?_
      rotate_left
      · (intro w hSw; (try dsimp only at hSw); go_split_ands; go_simp; try (with_reducible rfl))
      try simp only [Act.put, List.setIfInBounds_toArray, List.set_cons_zero, List.set_cons_succ, List.getElem_toArray, List.getElem_cons_zero, List.getElem_cons_succ]
      refine wpAnyH_ready (rs := [8]) (by kernel_rfl) (by simp) ?_
      refine AllReadyH.cons rfl (fun K hK => ?_) AllReadyH.nil
      go_simp
      go_at_call 36
      refine (CN2.out _ (HD10.out)).mono ?_
      rintro e w11 ⟨rfl, hb⟩
      have HD11 := Lib.hid (bs HD10.out hb)
      obtain ⟨rr, -⟩ := rowc (carry HD11.out HEV8.out)
      have q0 := rr 0; have q1 := rr 1; have q2 := rr 2; have q3 := rr 3; have q4 := rr 4
      obtain ⟨rz, -⟩ := rowc (carry HD11.out HX8.out)
      have p0 := rz 0; have p1 := rz 1; have p2 := rz 2; have p3 := rz 3; have p4 := rz 4
      simp at q0 q1 q2 q3 q4 p0 p1 p2 p3 p4
      clear hb rr rz
      try go_wp2_with (fail)
      refine hK.out _ _ ?_ (fun hHeld => ?_)
      · (first | go_keep | (go_split_ands; refine ⟨?_, ?_, ?_, ?_, ?_, ?_, ?_, ?_, ?_, ?_⟩ <;> assumption))
      clear hK K
      try simp only [Act.put, List.setIfInBounds_toArray, List.set_cons_zero, List.set_cons_succ, List.getElem_toArray, List.getElem_cons_zero, List.getElem_cons_succ]
      refine wpAnyH_ready (rs := [10]) (by kernel_rfl) (by simp) ?_
      refine AllReadyH.cons rfl (fun K hK => ?_) AllReadyH.nil
      go_simp
      go_at_call 36
      refine (CN.out _ (bs HB8.out (HD11.out))).mono ?_
      rintro e w12 ⟨rfl, hb⟩
      have HD12 := Lib.hid (bs HD11.out hb)
      obtain ⟨rr, -⟩ := rowc (carry HD12.out HEV8.out)
      have q0 := rr 0; have q1 := rr 1; have q2 := rr 2; have q3 := rr 3; have q4 := rr 4
      obtain ⟨rz, -⟩ := rowc (carry HD12.out HX8.out)
      have p0 := rz 0; have p1 := rz 1; have p2 := rz 2; have p3 := rz 3; have p4 := rz 4
      simp at q0 q1 q2 q3 q4 p0 p1 p2 p3 p4
      clear hb rr rz
      try go_wp2_with (fail)
      refine hK.out _ _ ?_ (fun hHeld => ?_)
      · (first | go_keep | (go_split_ands; refine ⟨?_, ?_, ?_, ?_, ?_, ?_, ?_, ?_, ?_, ?_⟩ <;> assumption))
      clear hK K
      try simp only [Act.put, List.setIfInBounds_toArray, List.set_cons_zero, List.set_cons_succ, List.getElem_toArray, List.getElem_cons_zero, List.getElem_cons_succ]
      refine wpAnyH_take (i := 11) (v := ?_) rfl (by kernel_rfl) (by kernel_rfl) (by kernel_rfl) (fun _ _ _ h => h) (Or.inl ⟨by kernel_rfl, ?_⟩) (by assumption) ?_
      rotate_left
      · (intro w hSw; (try dsimp only at hSw); go_split_ands; go_simp; try (with_reducible rfl))
      try simp only [Act.put, List.setIfInBounds_toArray, List.set_cons_zero, List.set_cons_succ, List.getElem_toArray, List.getElem_cons_zero, List.getElem_cons_succ]
      rw [show IntKind.i64.wrap (Nn + 1) = Nn + 1 by rw [IntKind.wrap_i64]; omega]
      refine wpAnyH_take (i := 12) (v := ?_) rfl (by kernel_rfl) (by kernel_rfl) (by kernel_rfl) (fun _ _ _ h => h) (Or.inl ⟨by kernel_rfl, ?_⟩) (by assumption) ?_
      rotate_left
      · (intro w hSw; (try dsimp only at hSw); go_split_ands; go_simp; try (with_reducible rfl))
      try simp only [Act.put, List.setIfInBounds_toArray, List.set_cons_zero, List.set_cons_succ, List.getElem_toArray, List.getElem_cons_zero, List.getElem_cons_succ]
      refine wpAnyH_take (i := 13) (v := ?_) rfl (by kernel_rfl) (by kernel_rfl) (by kernel_rfl) (fun _ _ _ h => h) (Or.inl ⟨by kernel_rfl, ?_⟩) (by assumption) ?_
      rotate_left
      · (intro w hSw; (try dsimp only at hSw); go_split_ands; go_simp; try (with_reducible rfl))
      try simp only [Act.put, List.setIfInBounds_toArray, List.set_cons_zero, List.set_cons_succ, List.getElem_toArray, List.getElem_cons_zero, List.getElem_cons_succ]
      refine wpAnyH_take (i := 14) (v := ?_) rfl (by kernel_rfl) (by kernel_rfl) (by kernel_rfl) (fun _ _ _ h => h) (Or.inl ⟨by kernel_rfl, ?_⟩) (by assumption) ?_
      rotate_left
      · (intro w hSw; (try dsimp only at hSw); go_split_ands; go_simp; try (with_reducible rfl))
      try simp only [Act.put, List.setIfInBounds_toArray, List.set_cons_zero, List.set_cons_succ, List.getElem_toArray, List.getElem_cons_zero, List.getElem_cons_succ]
      refine wpAnyH_take (i := 15) (v := ?_) rfl (by kernel_rfl) (by kernel_rfl) (by kernel_rfl) (fun _ _ _ h => h) (Or.inl ⟨by kernel_rfl, ?_⟩) (by assumption) ?_
      rotate_left
      · (intro w hSw; (try dsimp only at hSw); go_split_ands; go_simp; try (with_reducible rfl))
      try simp only [Act.put, List.setIfInBounds_toArray, List.set_cons_zero, List.set_cons_succ, List.getElem_toArray, List.getElem_cons_zero, List.getElem_cons_succ]
      refine wpAnyH_take (i := 17) (v := ?_) rfl (by kernel_rfl) (by kernel_rfl) (by kernel_rfl) (fun _ _ _ h => h) (Or.inl ⟨by kernel_rfl, ?_⟩) (by assumption) ?_
      rotate_left
      · (intro w hSw; (try dsimp only at hSw); go_split_ands; go_simp; try (with_reducible rfl))
      try simp only [Act.put, List.setIfInBounds_toArray, List.set_cons_zero, List.set_cons_succ, List.getElem_toArray, List.getElem_cons_zero, List.getElem_cons_succ]
      refine wpAnyH_ready (rs := [16]) (by kernel_rfl) (by simp) ?_
      refine AllReadyH.cons rfl (fun K hK => ?_) AllReadyH.nil
      go_simp
      go_at_call 39
      refine (CP2.out _ (HD12.out)).mono ?_
      rintro e w13 ⟨rfl, hb⟩
      have HD13 := Lib.hid (bs HD12.out hb)
      obtain ⟨rr, -⟩ := rowc (carry HD13.out HEV8.out)
      have q0 := rr 0; have q1 := rr 1; have q2 := rr 2; have q3 := rr 3; have q4 := rr 4
      obtain ⟨rz, -⟩ := rowc (carry HD13.out HX8.out)
      have p0 := rz 0; have p1 := rz 1; have p2 := rz 2; have p3 := rz 3; have p4 := rz 4
      simp at q0 q1 q2 q3 q4 p0 p1 p2 p3 p4
      clear hb rr rz
      try go_wp2_with (fail)
      refine hK.out _ _ ?_ (fun hHeld => ?_)
      · (first | go_keep | (go_split_ands; refine ⟨?_, ?_, ?_, ?_, ?_, ?_, ?_, ?_, ?_, ?_⟩ <;> assumption))
      clear hK K
      try simp only [Act.put, List.setIfInBounds_toArray, List.set_cons_zero, List.set_cons_succ, List.getElem_toArray, List.getElem_cons_zero, List.getElem_cons_succ]
      refine wpAnyH_ready (rs := [18]) (by kernel_rfl) (by simp) ?_
      refine AllReadyH.cons rfl (fun K hK => ?_) AllReadyH.nil
      go_simp
      go_at_call 39
      refine (CP.out _ (bs HB8.out (HD13.out))).mono ?_
      rintro e w14 ⟨rfl, hb⟩
      have HD14 := Lib.hid (bs HD13.out hb)
      obtain ⟨rr, -⟩ := rowc (carry HD14.out HEV8.out)
      have q0 := rr 0; have q1 := rr 1; have q2 := rr 2; have q3 := rr 3; have q4 := rr 4
      obtain ⟨rz, -⟩ := rowc (carry HD14.out HX8.out)
      have p0 := rz 0; have p1 := rz 1; have p2 := rz 2; have p3 := rz 3; have p4 := rz 4
      simp at q0 q1 q2 q3 q4 p0 p1 p2 p3 p4
      clear hb rr rz
      try go_wp2_with (fail)
      refine hK.out _ _ ?_ (fun hHeld => ?_)
      · (first | go_keep | (go_split_ands; refine ⟨?_, ?_, ?_, ?_, ?_, ?_, ?_, ?_, ?_, ?_⟩ <;> assumption))
      clear hK K
      try simp only [Act.put, List.setIfInBounds_toArray, List.set_cons_zero, List.set_cons_succ, List.getElem_toArray, List.getElem_cons_zero, List.getElem_cons_succ]
      refine wpAnyH_take (i := 19) (v := ?_) rfl (by kernel_rfl) (by kernel_rfl) (by kernel_rfl) (fun _ _ _ h => h) (Or.inl ⟨by kernel_rfl, ?_⟩) (by assumption) ?_
      rotate_left
      · (intro w hSw; (try dsimp only at hSw); go_split_ands; go_simp; try (with_reducible rfl))
      try simp only [Act.put, List.setIfInBounds_toArray, List.set_cons_zero, List.set_cons_succ, List.getElem_toArray, List.getElem_cons_zero, List.getElem_cons_succ]
      refine wpAnyH_take (i := 20) (v := ?_) rfl (by kernel_rfl) (by kernel_rfl) (by kernel_rfl) (fun _ _ _ h => h) (Or.inl ⟨by kernel_rfl, ?_⟩) (by assumption) ?_
      rotate_left
      · (intro w hSw; (try dsimp only at hSw); go_split_ands; go_simp; try (with_reducible rfl))
      try simp only [Act.put, List.setIfInBounds_toArray, List.set_cons_zero, List.set_cons_succ, List.getElem_toArray, List.getElem_cons_zero, List.getElem_cons_succ]
      refine wpAnyH_take (i := 21) (v := ?_) rfl (by kernel_rfl) (by kernel_rfl) (by kernel_rfl) (fun _ _ _ h => h) (Or.inl ⟨by kernel_rfl, ?_⟩) (by assumption) ?_
      rotate_left
      · (intro w hSw; (try dsimp only at hSw); go_split_ands; go_simp; try (with_reducible rfl))
      try simp only [Act.put, List.setIfInBounds_toArray, List.set_cons_zero, List.set_cons_succ, List.getElem_toArray, List.getElem_cons_zero, List.getElem_cons_succ]
      refine wpAnyH_ready (rs := [22]) (by kernel_rfl) (by simp) ?_
      refine AllReadyH.cons rfl (fun K hK => ?_) AllReadyH.nil
      go_simp
      go_at_call 40
      refine (CNU.out _).mono ?_
      rintro e w15 ⟨rfl, hb⟩
      have HD15 := Lib.hid (bs HD14.out hb)
      obtain ⟨rr, -⟩ := rowc (carry HD15.out HEV8.out)
      have q0 := rr 0; have q1 := rr 1; have q2 := rr 2; have q3 := rr 3; have q4 := rr 4
      obtain ⟨rz, -⟩ := rowc (carry HD15.out HX8.out)
      have p0 := rz 0; have p1 := rz 1; have p2 := rz 2; have p3 := rz 3; have p4 := rz 4
      simp at q0 q1 q2 q3 q4 p0 p1 p2 p3 p4
      clear hb rr rz
      try go_wp2_with (fail)
      refine hK.out _ _ ?_ (fun hHeld => ?_)
      · (first | go_keep | (go_split_ands; refine ⟨?_, ?_, ?_, ?_, ?_, ?_, ?_, ?_, ?_, ?_⟩ <;> assumption))
      clear hK K
      try simp only [Act.put, List.setIfInBounds_toArray, List.set_cons_zero, List.set_cons_succ, List.getElem_toArray, List.getElem_cons_zero, List.getElem_cons_succ]
      refine wpAnyH_take (i := 23) (v := ?_) rfl (by kernel_rfl) (by kernel_rfl) (by kernel_rfl) (fun _ _ _ h => h) (Or.inl ⟨by kernel_rfl, ?_⟩) (by assumption) ?_
      rotate_left
      · (intro w hSw; (try dsimp only at hSw); go_split_ands; go_simp; try (with_reducible rfl))
      try simp only [Act.put, List.setIfInBounds_toArray, List.set_cons_zero, List.set_cons_succ, List.getElem_toArray, List.getElem_cons_zero, List.getElem_cons_succ]
      refine wpAnyH_take (i := 24) (v := ?_) rfl (by kernel_rfl) (by kernel_rfl) (by kernel_rfl) (fun _ _ _ h => h) (Or.inl ⟨by kernel_rfl, ?_⟩) (by assumption) ?_
      rotate_left
      · (intro w hSw; (try dsimp only at hSw); go_split_ands; go_simp; try (with_reducible rfl))
      try simp only [Act.put, List.setIfInBounds_toArray, List.set_cons_zero, List.set_cons_succ, List.getElem_toArray, List.getElem_cons_zero, List.getElem_cons_succ]
      refine wpAnyH_take (i := 25) (v := ?_) rfl (by kernel_rfl) (by kernel_rfl) (by kernel_rfl) (fun _ _ _ h => h) (Or.inl ⟨by kernel_rfl, ?_⟩) (by assumption) ?_
      rotate_left
      · (intro w hSw; (try dsimp only at hSw); go_split_ands; go_simp; try (with_reducible rfl))
      try simp only [Act.put, List.setIfInBounds_toArray, List.set_cons_zero, List.set_cons_succ, List.getElem_toArray, List.getElem_cons_zero, List.getElem_cons_succ]
      refine wpAnyH_take (i := 26) (v := ?_) rfl (by kernel_rfl) (by kernel_rfl) (by kernel_rfl) (fun _ _ _ h => h) (Or.inl ⟨by kernel_rfl, ?_⟩) (by assumption) ?_
      rotate_left
      · (intro w hSw; (try dsimp only at hSw); go_split_ands; go_simp; try (with_reducible rfl))
      try simp only [Act.put, List.setIfInBounds_toArray, List.set_cons_zero, List.set_cons_succ, List.getElem_toArray, List.getElem_cons_zero, List.getElem_cons_succ]
      refine wpAnyH_ready (rs := [27]) (by kernel_rfl) (by simp) ?_
      refine AllReadyH.cons rfl (fun K hK => ?_) AllReadyH.nil
      go_simp
      go_at_call 41
      refine (CBO.out _).mono ?_
      rintro e w16 ⟨rfl, hb⟩
      have HD16 := Lib.hid (bs HD15.out hb)
      obtain ⟨rr, -⟩ := rowc (carry HD16.out HEV8.out)
      have q0 := rr 0; have q1 := rr 1; have q2 := rr 2; have q3 := rr 3; have q4 := rr 4
      obtain ⟨rz, -⟩ := rowc (carry HD16.out HX8.out)
      have p0 := rz 0; have p1 := rz 1; have p2 := rz 2; have p3 := rz 3; have p4 := rz 4
      simp at q0 q1 q2 q3 q4 p0 p1 p2 p3 p4
      clear hb rr rz
      try go_wp2_with (fail)
      refine hK.out _ _ ?_ (fun hHeld => ?_)
      · (first | go_keep | (go_split_ands; refine ⟨?_, ?_, ?_, ?_, ?_, ?_, ?_, ?_, ?_, ?_⟩ <;> assumption))
      clear hK K
      try simp only [Act.put, List.setIfInBounds_toArray, List.set_cons_zero, List.set_cons_succ, List.getElem_toArray, List.getElem_cons_zero, List.getElem_cons_succ]
      refine wpAnyH_take (i := 28) (v := ?_) rfl (by kernel_rfl) (by kernel_rfl) (by kernel_rfl) (fun _ _ _ h => h) (Or.inl ⟨by kernel_rfl, ?_⟩) (by assumption) ?_
      rotate_left
      · (intro w hSw; (try dsimp only at hSw); go_split_ands; go_simp; try (with_reducible rfl))
      try simp only [Act.put, List.setIfInBounds_toArray, List.set_cons_zero, List.set_cons_succ, List.getElem_toArray, List.getElem_cons_zero, List.getElem_cons_succ]
      refine wpAnyH_take (i := 29) (v := ?_) rfl (by kernel_rfl) (by kernel_rfl) (by kernel_rfl) (fun _ _ _ h => h) (Or.inl ⟨by kernel_rfl, ?_⟩) (by assumption) ?_
      rotate_left
      · (intro w hSw; (try dsimp only at hSw); go_split_ands; go_simp; try (with_reducible rfl))
      try simp only [Act.put, List.setIfInBounds_toArray, List.set_cons_zero, List.set_cons_succ, List.getElem_toArray, List.getElem_cons_zero, List.getElem_cons_succ]
      refine wpAnyH_take (i := 30) (v := ?_) rfl (by kernel_rfl) (by kernel_rfl) (by kernel_rfl) (fun _ _ _ h => h) (Or.inl ⟨by kernel_rfl, ?_⟩) (by assumption) ?_
      rotate_left
      · (intro w hSw; (try dsimp only at hSw); go_split_ands; go_simp; try (with_reducible rfl))
      try simp only [Act.put, List.setIfInBounds_toArray, List.set_cons_zero, List.set_cons_succ, List.getElem_toArray, List.getElem_cons_zero, List.getElem_cons_succ]
      refine wpAnyH_take (i := 31) (v := ?_) rfl (by kernel_rfl) (by kernel_rfl) (by kernel_rfl) (fun _ _ _ h => h) (Or.inl ⟨by kernel_rfl, ?_⟩) (by assumption) ?_
      rotate_left
      · (intro w hSw; (try dsimp only at hSw); go_split_ands; go_simp; try (with_reducible rfl))
      try simp only [Act.put, List.setIfInBounds_toArray, List.set_cons_zero, List.set_cons_succ, List.getElem_toArray, List.getElem_cons_zero, List.getElem_cons_succ]
      refine wpAnyH_done (by kernel_rfl) ?_ _
      go_wp2_with (fail)
      go_ret
      exact ⟨rfl, bs HW2.out (bs HB8.out HD16.out)⟩
    | true =>
      refine wp_region_held_drew (S := (fun w' => w'.cell? ⟨M, 0, none⟩ = some (.int .i64 k) ∧ w'.cell? ⟨M, 1, none⟩ = some (.int .i64 n) ∧ w'.cell? ⟨M, 2, none⟩ = some (.string s) ∧ w'.cell? ⟨M, 3, none⟩ = some (.int .i64 x) ∧ w'.cell? ⟨M, 4, none⟩ = some (.slice A L c) ∧ w'.cell? ⟨X, 0, none⟩ = some (.int .i64 4) ∧ w'.cell? ⟨X, 1, none⟩ = some (.int .i64 0) ∧ w'.cell? ⟨X, 2, none⟩ = some (.string ⟨#[]⟩) ∧ w'.cell? ⟨X, 3, none⟩ = some (.int .i64 2) ∧ w'.cell? ⟨X, 4, none⟩ = some (.slice (some ⟨I, 0, none⟩) 2 2))) (by kernel_rfl) ?_ (fun hHeld => ?_)
      · (try dsimp only) <;> (first | go_keep | (refine ⟨?_, ?_, ?_, ?_, ?_, ?_, ?_, ?_, ?_, ?_⟩ <;> assumption))
      refine wpAnyH_take (i := 0) (v := ?_) rfl (by kernel_rfl) (by kernel_rfl) (by kernel_rfl) (fun _ _ _ h => h) (Or.inl ⟨by kernel_rfl, ?_⟩) (by assumption) ?_
      rotate_left
      · (intro w hSw; (try dsimp only at hSw); go_split_ands; go_simp; try (with_reducible rfl))
      try simp only [Act.put, List.setIfInBounds_toArray, List.set_cons_zero, List.set_cons_succ, List.getElem_toArray, List.getElem_cons_zero, List.getElem_cons_succ]
      refine wpAnyH_take (i := 2) (v := ?_) rfl (by kernel_rfl) (by kernel_rfl) (by kernel_rfl) (fun _ _ _ h => h) (Or.inl ⟨by kernel_rfl, ?_⟩) (by assumption) ?_
      rotate_left
      · (intro w hSw; (try dsimp only at hSw); go_split_ands; go_simp; try (with_reducible rfl))
      try simp only [Act.put, List.setIfInBounds_toArray, List.set_cons_zero, List.set_cons_succ, List.getElem_toArray, List.getElem_cons_zero, List.getElem_cons_succ]
      refine wpAnyH_ready (rs := [1]) (by kernel_rfl) (by simp) ?_
      refine AllReadyH.cons rfl (fun K hK => ?_) AllReadyH.nil
      go_simp
      go_at_call 35
      refine (CW2.out _ ((Below.refl w8.heap.size w8).drew)).mono ?_
      rintro e w9 ⟨rfl, hb⟩
      have HD9 := Lib.hid (bs HD8.out (bs ((Below.refl w8.heap.size w8).drew) hb))
      obtain ⟨rr, -⟩ := rowc (carry HD9.out HEV8.out)
      have q0 := rr 0; have q1 := rr 1; have q2 := rr 2; have q3 := rr 3; have q4 := rr 4
      obtain ⟨rz, -⟩ := rowc (carry HD9.out HX8.out)
      have p0 := rz 0; have p1 := rz 1; have p2 := rz 2; have p3 := rz 3; have p4 := rz 4
      simp at q0 q1 q2 q3 q4 p0 p1 p2 p3 p4
      clear hb rr rz
      try go_wp2_with (fail)
      refine hK.out _ _ ?_ (fun hHeld => ?_)
      · (first | go_keep | (go_split_ands; refine ⟨?_, ?_, ?_, ?_, ?_, ?_, ?_, ?_, ?_, ?_⟩ <;> assumption))
      clear hK K
      try simp only [Act.put, List.setIfInBounds_toArray, List.set_cons_zero, List.set_cons_succ, List.getElem_toArray, List.getElem_cons_zero, List.getElem_cons_succ]
      refine wpAnyH_ready (rs := [3]) (by kernel_rfl) (by simp) ?_
      refine AllReadyH.cons rfl (fun K hK => ?_) AllReadyH.nil
      go_simp
      go_at_call 35
      refine (CW.out _ (bs HB8.out (HD9.out))).mono ?_
      rintro e w10 ⟨rfl, hb⟩
      have HD10 := Lib.hid (bs HD9.out hb)
      obtain ⟨rr, -⟩ := rowc (carry HD10.out HEV8.out)
      have q0 := rr 0; have q1 := rr 1; have q2 := rr 2; have q3 := rr 3; have q4 := rr 4
      obtain ⟨rz, -⟩ := rowc (carry HD10.out HX8.out)
      have p0 := rz 0; have p1 := rz 1; have p2 := rz 2; have p3 := rz 3; have p4 := rz 4
      simp at q0 q1 q2 q3 q4 p0 p1 p2 p3 p4
      clear hb rr rz
      try go_wp2_with (fail)
      refine hK.out _ _ ?_ (fun hHeld => ?_)
      · (first | go_keep | (go_split_ands; refine ⟨?_, ?_, ?_, ?_, ?_, ?_, ?_, ?_, ?_, ?_⟩ <;> assumption))
      clear hK K
      try simp only [Act.put, List.setIfInBounds_toArray, List.set_cons_zero, List.set_cons_succ, List.getElem_toArray, List.getElem_cons_zero, List.getElem_cons_succ]
      refine wpAnyH_take (i := 4) (v := ?_) rfl (by kernel_rfl) (by kernel_rfl) (by kernel_rfl) (fun _ _ _ h => h) (Or.inl ⟨by kernel_rfl, ?_⟩) (by assumption) ?_
      rotate_left
      · (intro w hSw; (try dsimp only at hSw); go_split_ands; go_simp; try (with_reducible rfl))
      try simp only [Act.put, List.setIfInBounds_toArray, List.set_cons_zero, List.set_cons_succ, List.getElem_toArray, List.getElem_cons_zero, List.getElem_cons_succ]
      rw [show IntKind.i64.wrap (W + 2) = W + 2 by rw [IntKind.wrap_i64]; omega]
      refine wpAnyH_take (i := 5) (v := ?_) rfl (by kernel_rfl) (by kernel_rfl) (by kernel_rfl) (fun _ _ _ h => h) (Or.inl ⟨by kernel_rfl, ?_⟩) (by assumption) ?_
      rotate_left
      · (intro w hSw; (try dsimp only at hSw); go_split_ands; go_simp; try (with_reducible rfl))
      try simp only [Act.put, List.setIfInBounds_toArray, List.set_cons_zero, List.set_cons_succ, List.getElem_toArray, List.getElem_cons_zero, List.getElem_cons_succ]
      refine wpAnyH_take (i := 6) (v := ?_) rfl (by kernel_rfl) (by kernel_rfl) (by kernel_rfl) (fun _ _ _ h => h) (Or.inl ⟨by kernel_rfl, ?_⟩) (by assumption) ?_
      rotate_left
      · (intro w hSw; (try dsimp only at hSw); go_split_ands; go_simp; try (with_reducible rfl))
      try simp only [Act.put, List.setIfInBounds_toArray, List.set_cons_zero, List.set_cons_succ, List.getElem_toArray, List.getElem_cons_zero, List.getElem_cons_succ]
      refine wpAnyH_take (i := 7) (v := ?_) rfl (by kernel_rfl) (by kernel_rfl) (by kernel_rfl) (fun _ _ _ h => h) (Or.inl ⟨by kernel_rfl, ?_⟩) (by assumption) ?_
      rotate_left
      · (intro w hSw; (try dsimp only at hSw); go_split_ands; go_simp; try (with_reducible rfl))
      try simp only [Act.put, List.setIfInBounds_toArray, List.set_cons_zero, List.set_cons_succ, List.getElem_toArray, List.getElem_cons_zero, List.getElem_cons_succ]
      refine wpAnyH_take (i := 9) (v := ?_) rfl (by kernel_rfl) (by kernel_rfl) (by kernel_rfl) (fun _ _ _ h => h) (Or.inl ⟨by kernel_rfl, ?_⟩) (by assumption) ?_
      rotate_left
      · (intro w hSw; (try dsimp only at hSw); go_split_ands; go_simp; try (with_reducible rfl))
      try simp only [Act.put, List.setIfInBounds_toArray, List.set_cons_zero, List.set_cons_succ, List.getElem_toArray, List.getElem_cons_zero, List.getElem_cons_succ]
      refine wpAnyH_ready (rs := [8]) (by kernel_rfl) (by simp) ?_
      refine AllReadyH.cons rfl (fun K hK => ?_) AllReadyH.nil
      go_simp
      go_at_call 36
      refine (CN2.out _ (HD10.out)).mono ?_
      rintro e w11 ⟨rfl, hb⟩
      have HD11 := Lib.hid (bs HD10.out hb)
      obtain ⟨rr, -⟩ := rowc (carry HD11.out HEV8.out)
      have q0 := rr 0; have q1 := rr 1; have q2 := rr 2; have q3 := rr 3; have q4 := rr 4
      obtain ⟨rz, -⟩ := rowc (carry HD11.out HX8.out)
      have p0 := rz 0; have p1 := rz 1; have p2 := rz 2; have p3 := rz 3; have p4 := rz 4
      simp at q0 q1 q2 q3 q4 p0 p1 p2 p3 p4
      clear hb rr rz
      try go_wp2_with (fail)
      refine hK.out _ _ ?_ (fun hHeld => ?_)
      · (first | go_keep | (go_split_ands; refine ⟨?_, ?_, ?_, ?_, ?_, ?_, ?_, ?_, ?_, ?_⟩ <;> assumption))
      clear hK K
      try simp only [Act.put, List.setIfInBounds_toArray, List.set_cons_zero, List.set_cons_succ, List.getElem_toArray, List.getElem_cons_zero, List.getElem_cons_succ]
      refine wpAnyH_ready (rs := [10]) (by kernel_rfl) (by simp) ?_
      refine AllReadyH.cons rfl (fun K hK => ?_) AllReadyH.nil
      go_simp
      go_at_call 36
      refine (CN.out _ (bs HB8.out (HD11.out))).mono ?_
      rintro e w12 ⟨rfl, hb⟩
      have HD12 := Lib.hid (bs HD11.out hb)
      obtain ⟨rr, -⟩ := rowc (carry HD12.out HEV8.out)
      have q0 := rr 0; have q1 := rr 1; have q2 := rr 2; have q3 := rr 3; have q4 := rr 4
      obtain ⟨rz, -⟩ := rowc (carry HD12.out HX8.out)
      have p0 := rz 0; have p1 := rz 1; have p2 := rz 2; have p3 := rz 3; have p4 := rz 4
      simp at q0 q1 q2 q3 q4 p0 p1 p2 p3 p4
      clear hb rr rz
      try go_wp2_with (fail)
      refine hK.out _ _ ?_ (fun hHeld => ?_)
      · (first | go_keep | (go_split_ands; refine ⟨?_, ?_, ?_, ?_, ?_, ?_, ?_, ?_, ?_, ?_⟩ <;> assumption))
      clear hK K
      try simp only [Act.put, List.setIfInBounds_toArray, List.set_cons_zero, List.set_cons_succ, List.getElem_toArray, List.getElem_cons_zero, List.getElem_cons_succ]
      refine wpAnyH_take (i := 11) (v := ?_) rfl (by kernel_rfl) (by kernel_rfl) (by kernel_rfl) (fun _ _ _ h => h) (Or.inl ⟨by kernel_rfl, ?_⟩) (by assumption) ?_
      rotate_left
      · (intro w hSw; (try dsimp only at hSw); go_split_ands; go_simp; try (with_reducible rfl))
      try simp only [Act.put, List.setIfInBounds_toArray, List.set_cons_zero, List.set_cons_succ, List.getElem_toArray, List.getElem_cons_zero, List.getElem_cons_succ]
      rw [show IntKind.i64.wrap (Nn + 1) = Nn + 1 by rw [IntKind.wrap_i64]; omega]
      refine wpAnyH_take (i := 12) (v := ?_) rfl (by kernel_rfl) (by kernel_rfl) (by kernel_rfl) (fun _ _ _ h => h) (Or.inl ⟨by kernel_rfl, ?_⟩) (by assumption) ?_
      rotate_left
      · (intro w hSw; (try dsimp only at hSw); go_split_ands; go_simp; try (with_reducible rfl))
      try simp only [Act.put, List.setIfInBounds_toArray, List.set_cons_zero, List.set_cons_succ, List.getElem_toArray, List.getElem_cons_zero, List.getElem_cons_succ]
      refine wpAnyH_take (i := 13) (v := ?_) rfl (by kernel_rfl) (by kernel_rfl) (by kernel_rfl) (fun _ _ _ h => h) (Or.inl ⟨by kernel_rfl, ?_⟩) (by assumption) ?_
      rotate_left
      · (intro w hSw; (try dsimp only at hSw); go_split_ands; go_simp; try (with_reducible rfl))
      try simp only [Act.put, List.setIfInBounds_toArray, List.set_cons_zero, List.set_cons_succ, List.getElem_toArray, List.getElem_cons_zero, List.getElem_cons_succ]
      refine wpAnyH_take (i := 14) (v := ?_) rfl (by kernel_rfl) (by kernel_rfl) (by kernel_rfl) (fun _ _ _ h => h) (Or.inl ⟨by kernel_rfl, ?_⟩) (by assumption) ?_
      rotate_left
      · (intro w hSw; (try dsimp only at hSw); go_split_ands; go_simp; try (with_reducible rfl))
      try simp only [Act.put, List.setIfInBounds_toArray, List.set_cons_zero, List.set_cons_succ, List.getElem_toArray, List.getElem_cons_zero, List.getElem_cons_succ]
      refine wpAnyH_take (i := 15) (v := ?_) rfl (by kernel_rfl) (by kernel_rfl) (by kernel_rfl) (fun _ _ _ h => h) (Or.inl ⟨by kernel_rfl, ?_⟩) (by assumption) ?_
      rotate_left
      · (intro w hSw; (try dsimp only at hSw); go_split_ands; go_simp; try (with_reducible rfl))
      try simp only [Act.put, List.setIfInBounds_toArray, List.set_cons_zero, List.set_cons_succ, List.getElem_toArray, List.getElem_cons_zero, List.getElem_cons_succ]
      refine wpAnyH_take (i := 17) (v := ?_) rfl (by kernel_rfl) (by kernel_rfl) (by kernel_rfl) (fun _ _ _ h => h) (Or.inl ⟨by kernel_rfl, ?_⟩) (by assumption) ?_
      rotate_left
      · (intro w hSw; (try dsimp only at hSw); go_split_ands; go_simp; try (with_reducible rfl))
      try simp only [Act.put, List.setIfInBounds_toArray, List.set_cons_zero, List.set_cons_succ, List.getElem_toArray, List.getElem_cons_zero, List.getElem_cons_succ]
      refine wpAnyH_ready (rs := [16]) (by kernel_rfl) (by simp) ?_
      refine AllReadyH.cons rfl (fun K hK => ?_) AllReadyH.nil
      go_simp
      go_at_call 39
      refine (CP2.out _ (HD12.out)).mono ?_
      rintro e w13 ⟨rfl, hb⟩
      have HD13 := Lib.hid (bs HD12.out hb)
      obtain ⟨rr, -⟩ := rowc (carry HD13.out HEV8.out)
      have q0 := rr 0; have q1 := rr 1; have q2 := rr 2; have q3 := rr 3; have q4 := rr 4
      obtain ⟨rz, -⟩ := rowc (carry HD13.out HX8.out)
      have p0 := rz 0; have p1 := rz 1; have p2 := rz 2; have p3 := rz 3; have p4 := rz 4
      simp at q0 q1 q2 q3 q4 p0 p1 p2 p3 p4
      clear hb rr rz
      try go_wp2_with (fail)
      refine hK.out _ _ ?_ (fun hHeld => ?_)
      · (first | go_keep | (go_split_ands; refine ⟨?_, ?_, ?_, ?_, ?_, ?_, ?_, ?_, ?_, ?_⟩ <;> assumption))
      clear hK K
      try simp only [Act.put, List.setIfInBounds_toArray, List.set_cons_zero, List.set_cons_succ, List.getElem_toArray, List.getElem_cons_zero, List.getElem_cons_succ]
      refine wpAnyH_ready (rs := [18]) (by kernel_rfl) (by simp) ?_
      refine AllReadyH.cons rfl (fun K hK => ?_) AllReadyH.nil
      go_simp
      go_at_call 39
      refine (CP.out _ (bs HB8.out (HD13.out))).mono ?_
      rintro e w14 ⟨rfl, hb⟩
      have HD14 := Lib.hid (bs HD13.out hb)
      obtain ⟨rr, -⟩ := rowc (carry HD14.out HEV8.out)
      have q0 := rr 0; have q1 := rr 1; have q2 := rr 2; have q3 := rr 3; have q4 := rr 4
      obtain ⟨rz, -⟩ := rowc (carry HD14.out HX8.out)
      have p0 := rz 0; have p1 := rz 1; have p2 := rz 2; have p3 := rz 3; have p4 := rz 4
      simp at q0 q1 q2 q3 q4 p0 p1 p2 p3 p4
      clear hb rr rz
      try go_wp2_with (fail)
      refine hK.out _ _ ?_ (fun hHeld => ?_)
      · (first | go_keep | (go_split_ands; refine ⟨?_, ?_, ?_, ?_, ?_, ?_, ?_, ?_, ?_, ?_⟩ <;> assumption))
      clear hK K
      try simp only [Act.put, List.setIfInBounds_toArray, List.set_cons_zero, List.set_cons_succ, List.getElem_toArray, List.getElem_cons_zero, List.getElem_cons_succ]
      refine wpAnyH_take (i := 19) (v := ?_) rfl (by kernel_rfl) (by kernel_rfl) (by kernel_rfl) (fun _ _ _ h => h) (Or.inl ⟨by kernel_rfl, ?_⟩) (by assumption) ?_
      rotate_left
      · (intro w hSw; (try dsimp only at hSw); go_split_ands; go_simp; try (with_reducible rfl))
      try simp only [Act.put, List.setIfInBounds_toArray, List.set_cons_zero, List.set_cons_succ, List.getElem_toArray, List.getElem_cons_zero, List.getElem_cons_succ]
      refine wpAnyH_take (i := 20) (v := ?_) rfl (by kernel_rfl) (by kernel_rfl) (by kernel_rfl) (fun _ _ _ h => h) (Or.inl ⟨by kernel_rfl, ?_⟩) (by assumption) ?_
      rotate_left
      · (intro w hSw; (try dsimp only at hSw); go_split_ands; go_simp; try (with_reducible rfl))
      try simp only [Act.put, List.setIfInBounds_toArray, List.set_cons_zero, List.set_cons_succ, List.getElem_toArray, List.getElem_cons_zero, List.getElem_cons_succ]
      refine wpAnyH_take (i := 21) (v := ?_) rfl (by kernel_rfl) (by kernel_rfl) (by kernel_rfl) (fun _ _ _ h => h) (Or.inl ⟨by kernel_rfl, ?_⟩) (by assumption) ?_
      rotate_left
      · (intro w hSw; (try dsimp only at hSw); go_split_ands; go_simp; try (with_reducible rfl))
      try simp only [Act.put, List.setIfInBounds_toArray, List.set_cons_zero, List.set_cons_succ, List.getElem_toArray, List.getElem_cons_zero, List.getElem_cons_succ]
      refine wpAnyH_ready (rs := [22]) (by kernel_rfl) (by simp) ?_
      refine AllReadyH.cons rfl (fun K hK => ?_) AllReadyH.nil
      go_simp
      go_at_call 40
      refine (CNU.out _).mono ?_
      rintro e w15 ⟨rfl, hb⟩
      have HD15 := Lib.hid (bs HD14.out hb)
      obtain ⟨rr, -⟩ := rowc (carry HD15.out HEV8.out)
      have q0 := rr 0; have q1 := rr 1; have q2 := rr 2; have q3 := rr 3; have q4 := rr 4
      obtain ⟨rz, -⟩ := rowc (carry HD15.out HX8.out)
      have p0 := rz 0; have p1 := rz 1; have p2 := rz 2; have p3 := rz 3; have p4 := rz 4
      simp at q0 q1 q2 q3 q4 p0 p1 p2 p3 p4
      clear hb rr rz
      try go_wp2_with (fail)
      refine hK.out _ _ ?_ (fun hHeld => ?_)
      · (first | go_keep | (go_split_ands; refine ⟨?_, ?_, ?_, ?_, ?_, ?_, ?_, ?_, ?_, ?_⟩ <;> assumption))
      clear hK K
      try simp only [Act.put, List.setIfInBounds_toArray, List.set_cons_zero, List.set_cons_succ, List.getElem_toArray, List.getElem_cons_zero, List.getElem_cons_succ]
      refine wpAnyH_take (i := 23) (v := ?_) rfl (by kernel_rfl) (by kernel_rfl) (by kernel_rfl) (fun _ _ _ h => h) (Or.inl ⟨by kernel_rfl, ?_⟩) (by assumption) ?_
      rotate_left
      · (intro w hSw; (try dsimp only at hSw); go_split_ands; go_simp; try (with_reducible rfl))
      try simp only [Act.put, List.setIfInBounds_toArray, List.set_cons_zero, List.set_cons_succ, List.getElem_toArray, List.getElem_cons_zero, List.getElem_cons_succ]
      refine wpAnyH_take (i := 24) (v := ?_) rfl (by kernel_rfl) (by kernel_rfl) (by kernel_rfl) (fun _ _ _ h => h) (Or.inl ⟨by kernel_rfl, ?_⟩) (by assumption) ?_
      rotate_left
      · (intro w hSw; (try dsimp only at hSw); go_split_ands; go_simp; try (with_reducible rfl))
      try simp only [Act.put, List.setIfInBounds_toArray, List.set_cons_zero, List.set_cons_succ, List.getElem_toArray, List.getElem_cons_zero, List.getElem_cons_succ]
      refine wpAnyH_take (i := 25) (v := ?_) rfl (by kernel_rfl) (by kernel_rfl) (by kernel_rfl) (fun _ _ _ h => h) (Or.inl ⟨by kernel_rfl, ?_⟩) (by assumption) ?_
      rotate_left
      · (intro w hSw; (try dsimp only at hSw); go_split_ands; go_simp; try (with_reducible rfl))
      try simp only [Act.put, List.setIfInBounds_toArray, List.set_cons_zero, List.set_cons_succ, List.getElem_toArray, List.getElem_cons_zero, List.getElem_cons_succ]
      refine wpAnyH_take (i := 26) (v := ?_) rfl (by kernel_rfl) (by kernel_rfl) (by kernel_rfl) (fun _ _ _ h => h) (Or.inl ⟨by kernel_rfl, ?_⟩) (by assumption) ?_
      rotate_left
      · (intro w hSw; (try dsimp only at hSw); go_split_ands; go_simp; try (with_reducible rfl))
      try simp only [Act.put, List.setIfInBounds_toArray, List.set_cons_zero, List.set_cons_succ, List.getElem_toArray, List.getElem_cons_zero, List.getElem_cons_succ]
      refine wpAnyH_ready (rs := [27]) (by kernel_rfl) (by simp) ?_
      refine AllReadyH.cons rfl (fun K hK => ?_) AllReadyH.nil
      go_simp
      go_at_call 41
      refine (CBO.out _).mono ?_
      rintro e w16 ⟨rfl, hb⟩
      have HD16 := Lib.hid (bs HD15.out hb)
      obtain ⟨rr, -⟩ := rowc (carry HD16.out HEV8.out)
      have q0 := rr 0; have q1 := rr 1; have q2 := rr 2; have q3 := rr 3; have q4 := rr 4
      obtain ⟨rz, -⟩ := rowc (carry HD16.out HX8.out)
      have p0 := rz 0; have p1 := rz 1; have p2 := rz 2; have p3 := rz 3; have p4 := rz 4
      simp at q0 q1 q2 q3 q4 p0 p1 p2 p3 p4
      clear hb rr rz
      try go_wp2_with (fail)
      refine hK.out _ _ ?_ (fun hHeld => ?_)
      · (first | go_keep | (go_split_ands; refine ⟨?_, ?_, ?_, ?_, ?_, ?_, ?_, ?_, ?_, ?_⟩ <;> assumption))
      clear hK K
      try simp only [Act.put, List.setIfInBounds_toArray, List.set_cons_zero, List.set_cons_succ, List.getElem_toArray, List.getElem_cons_zero, List.getElem_cons_succ]
      refine wpAnyH_take (i := 28) (v := ?_) rfl (by kernel_rfl) (by kernel_rfl) (by kernel_rfl) (fun _ _ _ h => h) (Or.inl ⟨by kernel_rfl, ?_⟩) (by assumption) ?_
      rotate_left
      · (intro w hSw; (try dsimp only at hSw); go_split_ands; go_simp; try (with_reducible rfl))
      try simp only [Act.put, List.setIfInBounds_toArray, List.set_cons_zero, List.set_cons_succ, List.getElem_toArray, List.getElem_cons_zero, List.getElem_cons_succ]
      refine wpAnyH_take (i := 29) (v := ?_) rfl (by kernel_rfl) (by kernel_rfl) (by kernel_rfl) (fun _ _ _ h => h) (Or.inl ⟨by kernel_rfl, ?_⟩) (by assumption) ?_
      rotate_left
      · (intro w hSw; (try dsimp only at hSw); go_split_ands; go_simp; try (with_reducible rfl))
      try simp only [Act.put, List.setIfInBounds_toArray, List.set_cons_zero, List.set_cons_succ, List.getElem_toArray, List.getElem_cons_zero, List.getElem_cons_succ]
      refine wpAnyH_take (i := 30) (v := ?_) rfl (by kernel_rfl) (by kernel_rfl) (by kernel_rfl) (fun _ _ _ h => h) (Or.inl ⟨by kernel_rfl, ?_⟩) (by assumption) ?_
      rotate_left
      · (intro w hSw; (try dsimp only at hSw); go_split_ands; go_simp; try (with_reducible rfl))
      try simp only [Act.put, List.setIfInBounds_toArray, List.set_cons_zero, List.set_cons_succ, List.getElem_toArray, List.getElem_cons_zero, List.getElem_cons_succ]
      refine wpAnyH_take (i := 31) (v := ?_) rfl (by kernel_rfl) (by kernel_rfl) (by kernel_rfl) (fun _ _ _ h => h) (Or.inl ⟨by kernel_rfl, ?_⟩) (by assumption) ?_
      rotate_left
      · (intro w hSw; (try dsimp only at hSw); go_split_ands; go_simp; try (with_reducible rfl))
      try simp only [Act.put, List.setIfInBounds_toArray, List.set_cons_zero, List.set_cons_succ, List.getElem_toArray, List.getElem_cons_zero, List.getElem_cons_succ]
      refine wpAnyH_done (by kernel_rfl) ?_ _
      go_wp2_with (fail)
      go_ret
      exact ⟨rfl, bs HW2.out (bs HB8.out HD16.out)⟩


set_option maxRecDepth 100000 in
theorem lifted (os : Os) (started : os.Started) (H : Type) (enc : TypeId × Value → H) :
    ReturnsInHanded {} Tryd.checked os 5 .any (fun w args => (Rows.fnValuesSpec.pre enc Tryd.prog Tryd.f5 [] false w args ∧ laidMetH Tryd.prog prs.vals.laidOf w) ∧ sizedMet enc Tryd.prog Tryd.f5 (OpenSpec.ofChange Rows.fnValuesSpec) false w args)
      (Rows.fnValuesSpec.post enc Tryd.prog Tryd.f5 false true false false) := by
  refine returnsInHanded_of_change_and (C := Tryd.checked) (X := fun w _ => laidMetH Tryd.prog prs.vals.laidOf w) (fun _ _ _ hh h => h.of_heap hh) own started (by kernel_rfl) Tryd.func5
    (ChangeSpec.witness_shaped (enc := enc) (C := Tryd.checked) (os := os) (X := fun w _ => laidMetH Tryd.prog prs.vals.laidOf w) false (World.doorLaid Tryd.prog 400 os) #[.slice none 0 0] 8 rfl (World.shaped_of_RefB (by kernel_rfl) (by kernel_rfl)) (by kernel_rfl) (by kernel_rfl) (by kernel_rfl) (prs.vals.door_met os _)) ?_
  intro W base args ds gs before hval0 hW _ hsz0 hL _
  have hval : ∀ (j : Nat) t v, Tryd.f5.params[j]? = some t → args[j]? = some v → Value.okWide Tryd.prog W .any base t v := hval0
  have hW' := hW
  obtain ⟨p, q, hA0, hV, rfl, hfz, hnd⟩ := hW
  have hA : DataW.TrodAll enc Tryd.prog W 0 (fun _ => true) true Tryd.f5.params.toList args.toList ds p := hA0
  have hA2 := hA
  rw [Tryd.params5] at hA hval
  obtain ⟨v0, d0, rfl, rfl, h0⟩ := trodAll_one hA
  have hV2 := hV
  obtain ⟨gv, tv, cv, fv, dg, pv, rfl, -, -, -, -, -⟩ := trodVars_one hV
  obtain ⟨A0, n0, c0, l0, rfl, hn0, hr0⟩ := opn.open_bytes Tryd.underlying22 Tryd.underlying5 (by kernel_rfl) (hval 0 22 v0 rfl rfl) h0
  clear hA0 hval0
  refine (walk A0 n0 c0 l0 W hn0 hr0 (prs.vals.env_of hL)).mono fun e W' ⟨he, hb⟩ => ?_
  subst he
  exact ⟨_, rfl, opn.post_true_vars hW' hA2 hV2 rfl rfl Tryd.underlying4 (by kernel_rfl) (by kernel_rfl) (by kernel_rfl) hb⟩

theorem over : Rows.FnValuesSaid :=
  OpenClaim.holds_of_wide 5 Tryd.f5 rfl rfl rfl rfl rfl rfl rfl ⟨rfl, rfl, rfl, rfl, rfl⟩ rfl rfl rfl rfl rfl (by kernel_rfl) Tryd.func5 (by kernel_rfl)
    (of_decide_eq_true (by kernel_rfl)) (by unfold Func.isWrapper; first | (rw [if_pos (by decide +kernel)]; kernel_rfl) | (rw [if_neg (by decide +kernel)]; exact ⟨rfl, rfl⟩))
    (fun os started H enc _ => lifted os started H enc)

/-- The statement. -/
theorem proved : Rows.FnValuesCardSaid :=
  Claim7.holds_tied_plain_at .later [] Rows.fnValuesCard.laidKinds true Rows.fnValuesCard.stood.harness Rows.fnValuesCard.stood.looks
    over (fun _ h => by cases h) (by kernel_rfl) (fun _ h => by cases h) fnValues_row_tie rfl ⟨rfl, rfl⟩ (by kernel_rfl) rfl
    (fun f fn hf hfn => by
      obtain rfl : f = 5 := Option.some.inj ((show Tryd.prog.funcNamed "loop.example/g03011/laws.FnValues" = some 5 by kernel_rfl).symm.trans hf) |>.symm
      obtain rfl : fn = Tryd.f5 := (Option.some.inj (Tryd.func5.symm.trans hfn)).symm
      exact ⟨by kernel_rfl, fun j t ht => by
        rw [Tryd.params5] at ht
        have hm : t ∈ [22] := by simpa using Array.mem_of_getElem? ht
        have hall : ([22].all fun u => !Tryd.prog.wantsStandIn u) = true := by kernel_rfl
        exact (show Tryd.prog.wantsStandIn t = false by simpa using List.all_eq_true.1 hall t hm)⟩)
    (by kernel_rfl)
#print axioms proved
end Go.Proofs.YteiijemjofaihaaDoor.fnValues
