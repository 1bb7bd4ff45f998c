/-
  TableDelete of the model.
  Conditions: those that each theorem names; the package variables of the library's reading of numbers hold what the program's text lays.
-/
import Derived.Test.YtdglmnmalfpipaaGreatDoorVSDr7
import Derived.Test.YtdglmnmalfpipaaGreatDoorVSTabG
namespace Go.Proofs.YtdglmnmalfpipaaGreatDoor.tree
open Go.ChangeShapes Go.WideShapes Go.ChangeAt Go.RowKit
set_option linter.unusedVariables false

/-- A table of the model's own comes back. -/
def OwnR7 (w : World) (b : Bool) (l : List Int) (sl : List Sl) (n m : Nat) (x k : Int) (v : Value) (w' : World) : Prop :=
  ∃ A1 c1 g d1 M N, v = tbV b A1 n c1 (some ⟨g, 0, none⟩) m d1 x k ∧ w.heap.size ≤ M ∧ M ≤ N ∧ imem.OwnI w' M A1 n c1 l ∧ (∀ h, (Value.slice A1 n c1).ownBlock = some h → h < N) ∧ SRow w' N (.slice (some ⟨g, 0, none⟩) m d1) sl
def TdsQ (w : World) (l : List Int) (sl : List Sl) (b : Bool) (n m : Nat) (x k : Int) (P : Prop) (z : Int) (e : Ending) (w' : World) : Prop :=
  ∃ v u, ((P ∧ v = z) ∨ (¬ P ∧ v = -1)) ∧ e = .returned u ∧ OwnR7 w b l (tdSl sl v) n m x (tdCt k v) u w' ∧ Below w.heap.size w w'

set_option maxRecDepth 100000 in
set_option maxHeartbeats 4000000 in
theorem tableDelete_s {l : List Int} {sl : List Sl} {b : Bool} {A : Option Addr} {n c : Nat} {B : Option Addr} {m d : Nat} {x k : Int} (w : World) {S : Nat → Prop} (hr : TbIn w S l sl A n c B m d x k) (hn : n ≤ 1048576) (hm : m ≤ 1048576) (hct : ∀ t ∈ sl, cnt t.val ≤ 1000000000) (hst : SlB sl) (hE : prs.Env w) (y : Ky) (hys : y.str.size ≤ 140737488355328) :
    Calls Tryz.prog 51 #[tbV b A n c B m d x k, kyV y] w (TdsQ w l sl b n m x k (tabOk b l sl x k) (fd sl y m)) := by
  obtain ⟨P, HP⟩ : ∃ P, Hid (w.heap.size = P) := ⟨_, Lib.hid rfl⟩
  have TR : Hid (∀ w', Below w.heap.size w w' → TbIn w' S l sl A n c B m d x k) := Lib.hid fun w' hb => ⟨hr.heads.below hb, hr.hn, hr.len, hr.cap, hr.slots.below hb, hr.next, hr.count⟩
  have IT_ : Hid (∀ w', Below w.heap.size w w' → Calls Tryz.prog 15 #[tbV b A n c B m d x k] w' (BoP w' (tabOk b l sl x k))) := Lib.hid fun w' hb => isTable_s w' (TR.out w' hb) hn hm hst (hE.stays hb)
  have CP : Hid (∀ w', Below w.heap.size w w' → Calls Tryz.prog 112 #[tbV b A n c B m d x k] w' (Q7 w' b l sl n m x k)) := Lib.hid fun w' hb => l7Copy_s w' (TR.out w' hb) hn (by omega) hct
  have HLN := Lib.hid hr.len
  have HK : Hid (tabOk b l sl x k → -1000000000000 ≤ k ∧ k ≤ 1000000000000) := Lib.hid fun h => by
    have h1 := h.2.2.1.2
    have h2 := livK_len sl
    have h3 := h.len.1
    omega
  have HX := Lib.hid hr.next
  obtain ⟨W, HW⟩ : ∃ W, Hid (fd sl y m = W) := ⟨_, Lib.hid rfl⟩
  have DR : Hid (∀ w' M N A1 c1 g d1, tabOk b l sl x k → imem.OwnI w' M A1 n c1 l → (∀ h, (Value.slice A1 n c1).ownBlock = some h → h < N) → SRow w' N (.slice (some ⟨g, 0, none⟩) m d1) sl → Calls Tryz.prog 125 #[tbV b A1 n c1 (some ⟨g, 0, none⟩) m d1 x k, kyV y] w' (Dr7Q w' M N b l sl A1 n c1 g m d1 x k W)) := Lib.hid fun w' M N A1 c1 g d1 hok h1 h2 h3 => HW.out ▸ l7Drop_s w' h1 hn h2 h3 HLN.out (by omega) HX.out (HK.out hok) hok y hys
  rw [HW.out]
  obtain ⟨yb, yn, ys⟩ := y
  unfold kyV at DR ⊢
  simp only at DR
  clear hr hst hE hys TR HK HX hct
  go_enter Tryz.func51, Tryz.ntmps51
  go_upto_region 1 with fail
  rw [HP.out]
  generalize hw0 : ((w.alloc (.cells #[.bool b, .slice A n c, .slice B m d, .int .i64 x, .int .i64 k] IT)).alloc (.cells #[.bool yb, .int .i64 yn, .string ys] 29)).alloc (.cells #[.bool false, .slice none 0 0, .slice none 0 0, .int .i64 0, .int .i64 0] IT) = w0
  obtain ⟨a0, a1, a2, az, ab⟩ := al3t w _ _ _ _ _ _ w0 hw0
  rw [HP.out] at a0 a1 a2 az
  have H0 := Lib.hid a0
  have H1 := Lib.hid a1
  have H2 := Lib.hid a2
  have HB := Lib.hid ab
  have hz0 : P + 3 ≤ w0.heap.size := by omega
  have r0 := (rowc H0.out).1
  have y0 := r0 0; have y1 := r0 1; have y2 := r0 2; have y3 := r0 3; have y4 := r0 4
  simp at y0 y1 y2 y3 y4
  clear hw0 a0 a1 a2 az ab r0
  go_wp2_with (fail)
  refine (IT_.out _ HB.out).mono ?_
  rintro e w1 ⟨q, rfl, hq, hb⟩
  have hz1 : P + 3 ≤ w1.heap.size := Nat.le_trans hz0 hb.size
  replace H0 := Lib.hid (carry hb H0.out)
  replace H1 := Lib.hid (carry hb H1.out)
  replace H2 := Lib.hid (carry hb H2.out)
  replace HB := Lib.hid (bs HB.out hb)
  have HQ := Lib.hid hq
  clear hb hq IT_ y0 y1 y2 y3 y4 hz0
  have r0 := (rowc H0.out).1
  have y0 := r0 0; have y1 := r0 1; have y2 := r0 2; have y3 := r0 3; have y4 := r0 4
  have r1 := (rowc H1.out).1
  have z0 := r1 0; have z1 := r1 1; have z2 := r1 2
  simp at y0 y1 y2 y3 y4 z0 z1 z2
  clear r0 r1
  cases q with
  | false =>
    have HF : Hid (¬ tabOk b l sl x k) := Lib.hid (fun h => by have := HQ.out.2 h; cases this)
    go_wp2_with (fail)
    refine (CP.out _ HB.out).mono ?_
    rintro e w2 ⟨A1, c1, g, d1, M, N, rfl, hM, hMN, ho, hlo, hs, hb⟩
    replace H2 := Lib.hid (carry hb H2.out)
    replace HB := Lib.hid (bs HB.out hb)
    have HO := Lib.hid ho
    have HLO := Lib.hid hlo
    have HS := Lib.hid hs
    have hPM : P + 3 ≤ M := Nat.le_trans hz1 hM
    have r2 := (rowc H2.out).1
    have f2 := (rowc H2.out).2
    have v0 := r2 0; have v1 := r2 1; have v2 := r2 2; have v3 := r2 3; have v4 := r2 4
    simp at v0 v1 v2 v3 v4
    clear hb ho hlo hs hM r2 y0 y1 y2 y3 y4 z0 z1 z2 CP DR
    go_wp2_with (fail)
    generalize hwF : World.setCell (World.setCell (World.setCell (World.setCell (World.setCell w2 _ _) _ _) _ _) _ _) _ _ = wF
    obtain ⟨rF, oF, bF⟩ := fill5s H2.out hwF
    have HBF := bF w.heap.size w (by rw [HP.out]; omega) HB.out
    clear hwF
    exact bodyPost_ret (v := tbV b A1 n c1 (some ⟨g, 0, none⟩) m d1 x k) (by simp [results, Tryz.results51, go_sem, rF, tbV]) rfl ⟨-1, _, .inr ⟨HF.out, rfl⟩, rfl, ⟨A1, c1, g, d1, M, N, rfl, by rw [HP.out]; omega, hMN, owni_at HO.out fun q e => oF q (by have := (HO.out.block q e).1; omega), HLO.out, HS.out.above fun q hq _ => oF q (by omega)⟩, HBF⟩
  | true =>
    have HF : Hid (tabOk b l sl x k) := Lib.hid (HQ.out.1 rfl)
    clear HQ
    go_wp2_with (fail)
    go_region_with (first
      | (go_at_call 112; refine (CP.out _ (bs HB.out ((Below.refl w1.heap.size w1).drew))).mono ?_
         rintro e w2 ⟨A1, c1, g, d1, M, N, rfl, hM, hMN, ho, hlo, hs, hb⟩
         have hbx := bs ((Below.refl w1.heap.size w1).drew) hb
         have HM : Hid (P + 3 ≤ M) := Lib.hid (Nat.le_trans hz1 hM)
         have HMN := Lib.hid hMN
         have HO := Lib.hid ho
         have HLO := Lib.hid hlo
         have HS := Lib.hid hs
         have HY2 := Lib.hid (carry hbx H1.out)
         have HR2 := Lib.hid (carry hbx H2.out)
         have HB2 := Lib.hid (bs HB.out hbx)
         have x0 : w2.cell? ⟨P + 1, 0, none⟩ = some (.bool yb) := (rowc HY2.out).1 0
         have x1 : w2.cell? ⟨P + 1, 1, none⟩ = some (.int .i64 yn) := (rowc HY2.out).1 1
         have x2 : w2.cell? ⟨P + 1, 2, none⟩ = some (.string ys) := (rowc HY2.out).1 2
         clear hM hMN ho hlo hs hb hbx)
      | (go_at_call 125
         refine (DR.out _ M N A1 c1 g d1 HF.out HO.out HLO.out HS.out).mono ?_
         rintro e w3 ⟨rfl, ho3, hs3, hf3⟩
         have HO3 := Lib.hid ho3
         have HS3 := Lib.hid hs3
         have hgN := HS.out.block g rfl
         have HR3 : Hid (w3.heap[P + 2]? = some (.cells #[.bool false, .slice none 0 0, .slice none 0 0, .int .i64 0, .int .i64 0] IT (0, 0))) := Lib.hid ((hf3.block (P + 2) (Array.getElem?_eq_some_iff.1 HR2.out).1 (by have := HM.out; have := HMN.out; omega)).trans HR2.out)
         have HB3 : Hid (Below w.heap.size w w3) := Lib.hid (HB2.out.trans (hf3.below HB2.out.size (fun q e => by have := HM.out; have := HMN.out; have := HP.out; omega)))
         have v0 : w3.cell? ⟨P + 1 + 1, 0, none⟩ = some (.bool false) := (rowc HR3.out).1 0
         have v1 : w3.cell? ⟨P + 1 + 1, 1, none⟩ = some (.slice none 0 0) := (rowc HR3.out).1 1
         have v2 : w3.cell? ⟨P + 1 + 1, 2, none⟩ = some (.slice none 0 0) := (rowc HR3.out).1 2
         have v3 : w3.cell? ⟨P + 1 + 1, 3, none⟩ = some (.int .i64 0) := (rowc HR3.out).1 3
         have v4 : w3.cell? ⟨P + 1 + 1, 4, none⟩ = some (.int .i64 0) := (rowc HR3.out).1 4
         have f3 := (rowc HR3.out).2
         clear ho3 hs3 hf3 hgN x0 x1 x2))
    all_goals
      go_wp2_with (fail)
      generalize hwF : World.setCell (World.setCell (World.setCell (World.setCell (World.setCell w3 _ _) _ _) _ _) _ _) _ _ = wF
      obtain ⟨rF, oF, bF⟩ := fill5s HR3.out hwF
      have HBF := bF w.heap.size w (by rw [HP.out]; omega) HB3.out
      have hPM := HM.out
      have hMN2 := HMN.out
      clear hwF
      exact bodyPost_ret (v := tbV b A1 n c1 (some ⟨g, 0, none⟩) m d1 x (tdCt k W)) (by simp [results, Tryz.results51, go_sem, rF, tbV]) rfl ⟨W, _, .inl ⟨HF.out, rfl⟩, rfl, ⟨A1, c1, g, d1, M, N, rfl, by rw [HP.out]; omega, hMN2, owni_at HO3.out fun q e => oF q (by have := (HO3.out.block q e).1; omega), HLO.out, HS3.out.above fun q hq _ => oF q (by omega)⟩, HBF⟩

end Go.Proofs.YtdglmnmalfpipaaGreatDoor.tree

