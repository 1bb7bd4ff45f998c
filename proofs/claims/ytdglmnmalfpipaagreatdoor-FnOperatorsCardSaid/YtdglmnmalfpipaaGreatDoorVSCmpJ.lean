/-
  CompareValues and LooseEqual of the project.
  Conditions: the values hold at most 10^9 items and letters; the table of powers of ten and the project's two errors hold what the program's text lays.
-/
import Derived.Test.YtdglmnmalfpipaaGreatDoorVSCmpI
import Derived.Test.YtdglmnmalfpipaaGreatDoorVB8
namespace Go.Proofs.YtdglmnmalfpipaaGreatDoor.tree
open Go.ChangeShapes Go.WideShapes Go.ChangeAt Go.RowKit ers
set_option linter.unusedVariables false

theorem Nw.to {w w' : World} {lo : Nat} (hb : Below w.heap.size w w') {t : Tr} {v : Value} (h : TIn w (Nw lo w) t v) : TIn w' (Nw lo w') t v := h.stays (fun b hb2 => ⟨hb2.1, Plain.same hb2.2 (hb.block b hb2.2.lt)⟩) (fun b hb2 hl => hb.block b hl)

set_option maxHeartbeats 1000000 in
theorem compare_i (t t' : Tr) (hT : tot t ≤ 1000000000) (hT' : tot t' ≤ 1000000000) (w : World) (lo lo' : Nat) (v v' : Value) (hE : CmE w) (h : TIn w (Nw lo w) t v) (h' : TIn w (Nw lo' w) t' v') :
    Calls Tryz.prog 106 #[v, v'] w (GivesQ w (.int .i64 (cmpT t t'))) := by
  have CO := fun w' (hb : Below w.heap.size w w') => compareOutside t t' v v' w' _ _ (h.below' hb) (h'.below' hb) hT hT' (hE.stays hb)
  have hct := cnt_tot t h.fits
  obtain ⟨k, n, s, x, ks, vs⟩ := t
  obtain ⟨k', n', s', x', ks', vs'⟩ := t'
  obtain ⟨A, c, rfl, -, -⟩ := h.out
  obtain ⟨A', c', rfl, -, -⟩ := h'.out
  have CI : k = 4 → k' = 4 → ∀ w' (hb : Below w.heap.size w w'), Calls Tryz.prog 174 #[vV 4 n s x A vs.length c, vV 4 n' s' x' A' vs'.length c'] w' (GivesQ w' (.int .i64 (cmpL ks vs ks' vs'))) := fun h1 h2 w' hb => by
    subst h1 h2
    rw [tot_mk] at hT hT'
    rw [cnt_mk] at hct
    rw [tot_mk] at hct
    exact compareItems n s x ks vs A c n' s' x' ks' vs' A' c' w' lo lo' (Nw.to hb h) (Nw.to hb h') (by omega) (by omega) (by omega) (hE.stays hb)
  obtain ⟨L, HL⟩ : ∃ L, Hid (vs.length = L) := ⟨_, Lib.hid rfl⟩
  obtain ⟨L', HL'⟩ : ∃ L, Hid (vs'.length = L) := ⟨_, Lib.hid rfl⟩
  obtain ⟨z, HZ⟩ : ∃ z, Hid (ordO (.mk k n s x ks vs) (.mk k' n' s' x' ks' vs') = z) := ⟨_, Lib.hid rfl⟩
  obtain ⟨W, HW⟩ : ∃ z, Hid (cmpT (.mk k n s x ks vs) (.mk k' n' s' x' ks' vs') = z) := ⟨_, Lib.hid rfl⟩
  rw [HL.out, HL'.out] at CO CI ⊢
  rw [HZ.out] at CO
  rw [HW.out]
  have HCO := Lib.hid CO
  have HCI := Lib.hid CI
  have AR := Lib.hid (fun w9 => areArrays k n s x A L c k' n' s' x' A' L' c' w9)
  clear h h' hE CO CI hct hT hT'
  go_enter Tryz.func106, Tryz.ntmps106
  go_wp2_with (fail)
  refine (HCO.out _ (b2 w _ _)).mono ?_
  rintro e w1 ⟨rfl, hb1⟩
  have EA := Lib.hid (carry hb1 (heap_alloc2_old w _ _))
  have EB := Lib.hid (carry hb1 (heap_alloc2_new w _ _))
  have HB := Lib.hid (bs (b2 w _ _) hb1)
  clear hb1
  obtain ⟨rA, -⟩ := rowc EA.out
  obtain ⟨rB, -⟩ := rowc EB.out
  by_cases hz : z = 0
  · subst hz
    by_cases h4 : k = 4 ∧ k' = 4
    · obtain ⟨rfl, rfl⟩ := h4
      have h44 : (decide ((4 : Int) = 4) && decide ((4 : Int) = 4)) = true := rfl
      rw [h44] at AR
      have HWC : Hid (cmpL ks vs ks' vs' = W) := Lib.hid (by rw [← HW.out, cmpT_mk, if_pos ⟨HZ.out, rfl, rfl⟩])
      have HC2 := Lib.hid (HCI.out rfl rfl)
      rw [HWC.out] at HC2
      clear h44 HCI
      go_wp2_with (fail)
      refine (AR.out _).mono ?_
      rintro e w2 ⟨rfl, hb2⟩
      have HB2 := Lib.hid (bs HB.out hb2)
      have EA2 := Lib.hid (carry hb2 EA.out)
      have EB2 := Lib.hid (carry hb2 EB.out)
      clear hb2 rA rB
      obtain ⟨rA, -⟩ := rowc EA2.out
      obtain ⟨rB, -⟩ := rowc EB2.out
      go_wp2_with (fail)
      refine (HC2.out _ HB2.out).mono ?_
      rintro e w3 ⟨rfl, hb3⟩
      have HB3 := Lib.hid (bs HB2.out hb3)
      clear hb3
      go_wp2_with (fail)
      go_ret
      exact ⟨rfl, HB3.out⟩
    · have h44 : (decide (k = 4) && decide (k' = 4)) = false := by
        by_cases h5 : k = 4
        · rw [decide_eq_true h5, decide_eq_false (fun h6 => h4 ⟨h5, h6⟩)]; rfl
        · rw [decide_eq_false h5]; rfl
      rw [h44] at AR
      have HWC : Hid (W = 0) := Lib.hid (by rw [← HW.out, cmpT_mk, if_neg (fun h => h4 h.2)]; exact HZ.out)
      clear h44 HCI h4
      go_wp2_with (fail)
      refine (AR.out _).mono ?_
      rintro e w2 ⟨rfl, hb2⟩
      have HB2 := Lib.hid (bs HB.out hb2)
      clear hb2 rA rB
      go_wp2_with (fail)
      go_ret
      exact ⟨by rw [HWC.out]; rfl, HB2.out⟩
  · have HWC : Hid (W = z) := Lib.hid (by rw [← HW.out, cmpT_mk, HZ.out, if_neg (fun h => hz h.1)])
    clear HCI
    go_wp2_with (fail)
    go_ret
    exact ⟨by rw [HWC.out]; rfl, HB.out⟩


end Go.Proofs.YtdglmnmalfpipaaGreatDoor.tree

