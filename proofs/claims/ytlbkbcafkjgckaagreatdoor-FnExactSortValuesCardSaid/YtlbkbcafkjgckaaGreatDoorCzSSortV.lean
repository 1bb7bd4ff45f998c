/-
  SortValues of the project.
  Conditions: the values hold at most 2^20 and one items and 10^9 letters.
-/
import Derived.Test.YtlbkbcafkjgckaaGreatDoorCzSSortI
import Derived.Test.YtlbkbcafkjgckaaGreatDoorCzB8
import Derived.Test.YtlbkbcafkjgckaaGreatDoorCzSItemVals
namespace Go.Proofs.YtlbkbcafkjgckaaGreatDoor.tree
open Go.ChangeShapes Go.WideShapes Go.ChangeAt Go.RowKit ers
set_option linter.unusedVariables false

theorem tll_perm {l l' : List Tr} (h : l.Perm l') : tll l = tll l' := by
  induction h with
  | nil => rfl
  | cons a _ ih => rw [tll, tll, ih]
  | swap a b l => rw [tll, tll, tll, tll]; omega
  | trans _ _ ih1 ih2 => rw [ih1, ih2]

set_option maxRecDepth 100000 in
set_option maxHeartbeats 1600000 in
theorem sortValues_i (vs : List Tr) (A : Option Addr) (c : Nat) (w : World) (h : VIn w (Nw 0 w) vs A) (hc : cnts vs ≤ 1048577) (ht : tll vs ≤ 100000000) (hE : CmE w) :
    Calls Tryz.prog 7 #[.slice A vs.length c] w (VoQ w (isort vs)) := by
  have hp := isort_perm vs
  have hl : (isort vs).length = vs.length := isort_len vs
  have hm : vs.length ≤ 1048577 := by have := cnts_len vs; omega
  have htt : ∀ t ∈ vs, tot t ≤ 1000000000 := fun t h => by have := tll_mem h; omega
  have SI := insertionSort_i vs A c w h (by omega) hE htt
  unfold SiQ at SI
  have LO : Hid (∀ A' c' w', VIn w' (Nw 0 w') (isort vs) A' → Calls Tryz.prog 16 #[.slice A' (isort vs).length c'] w' (CvQ w' (listT (isort vs)))) := Lib.hid (fun A' c' w' h' => by
    refine listOf_i (isort vs) A' c' w' h' ?_ ?_
    · unfold listT; rw [cnt_mk', cnts_perm hp]; omega
    · unfold listT; rw [tot_mk]; have h1 := tots_l (lKeys (isort vs).length) (isort vs) lKeys_str; have h2 := tll_perm hp; show 0 + _ ≤ _; omega)
  have IVS : Hid (∀ A' c' w' par R lo, lo ≤ R → lo ≤ w'.heap.size → (0 < (isort vs).length → ∃ g, A' = some ⟨g, 0, none⟩ ∧ par g = (R, 0) ∧ R < g ∧ PBlk w' par g (lKeys (isort vs).length) (isort vs)) → (∀ b, Hang par (R, 0) b → Rg (R + 1) w'.heap.size b) → Calls Tryz.prog 15 #[.slice A' (isort vs).length c'] w' (IvQ w' par (blkOf A') lo (isort vs))) := Lib.hid (fun A' c' w' par R lo h1 h2 h3 h4 => itemValues_i (lKeys (isort vs).length) (isort vs) A' c' w' par R lo (by omega) h1 h2 h3 h4)
  obtain ⟨sv, HSV⟩ : ∃ sv, Hid (isort vs = sv) := ⟨_, Lib.hid rfl⟩
  rw [HSV.out] at hl SI LO IVS ⊢
  obtain ⟨L, HL⟩ : ∃ L, Hid (vs.length = L) := ⟨_, Lib.hid rfl⟩
  rw [HL.out] at hl SI hm ⊢
  rw [hl] at LO IVS
  have HLS := Lib.hid hl
  clear h hc ht htt hp hl hE
  go_enter Tryz.func7, Tryz.ntmps7
  go_wp2_with (fail)
  refine SI.mono ?_
  rintro e w1 ⟨g, c1, rfl, hv1, hb1⟩
  have HB1 := Lib.hid hb1
  have HV1 := Lib.hid hv1
  clear hv1 hb1 SI
  go_wp2_with (fail)
  refine (LO.out _ _ _ HV1.out).mono ?_
  rintro e w2 ⟨u, par0, R, rfl, hu, hR, hb2⟩
  obtain ⟨par, hu2, hhg⟩ := hu.tight
  unfold listT at hu2
  obtain ⟨A3, c3, rfl, -, -, -, hblk⟩ := hu2.out
  rw [HLS.out] at hblk ⊢
  have HB2 := Lib.hid (bs HB1.out hb2)
  have HIV := Lib.hid (IVS.out A3 c3 w2 par R w.heap.size (by have := HB1.out.size; omega) HB2.out.size hblk hhg)
  have hf4 := run_f4 4 0 ⟨#[]⟩ L A3 L c3
  unfold IV at hf4
  clear hu hu2 hR hb2 hblk hhg LO IVS
  go_wp2_with (fail)
  clear hf4
  refine HIV.out.mono ?_
  rintro e w3 ⟨r, rfl, hvr, hb3⟩
  have HVR := Lib.hid hvr
  have HB3 := Lib.hid (bs HB2.out hb3)
  have hz := hb3.size
  clear hvr hb3
  go_wp2_with (fail)
  go_ret
  exact ⟨_, par, _, w2.heap.size, rfl, HVR.out, hz, HB3.out⟩

end Go.Proofs.YtlbkbcafkjgckaaGreatDoor.tree

