/-
  What the texts behind this one use: 2 parts of one proof.
  Conditions: those that each theorem names.
-/
import Derived.Test.YtdglmnmalfpipaaGreatDoorVSRbT
import Derived.Test.YtdglmnmalfpipaaGreatDoorVB5
import Derived.Test.YtdglmnmalfpipaaGreatDoorVSCpW
import Derived.Test.YtdglmnmalfpipaaGreatDoorVSBuild7
import Derived.Test.YtdglmnmalfpipaaGreatDoorVSTabG
/-
  Rebuild of the project.
  Conditions: those that each theorem names; the package variables of the library's reading of numbers hold what the program's text lays.
-/
namespace Go.Proofs.YtdglmnmalfpipaaGreatDoor.tree
open Go.ChangeShapes Go.WideShapes Go.ChangeAt Go.RowKit
set_option linter.unusedVariables false

def RbQ (w : World) (b : Bool) (l : List Int) (sl : List Sl) (x k : Int) (e : Ending) (w' : World) : Prop :=
  ∃ rb rl rs A' c' B' d' G, RbR b l sl x k rb rl rs ∧ e = .returned (tbV rb A' rl.length c' B' rs.length d' x k) ∧ OwnF w' w.heap.size rl rs A' rl.length c' B' rs.length d' G ∧ Below w.heap.size w w'

set_option maxRecDepth 100000 in
set_option maxHeartbeats 4000000 in
theorem rebuild_i {l : List Int} {sl : List Sl} {b : Bool} {A : Option Addr} {n c : Nat} {B : Option Addr} {m d : Nat} {x k : Int} (w : World) (hr : TbIn w (Nw 0 w) l sl A n c B m d x k) (hn : n ≤ 1048576) (hm : m ≤ 1048576) (hcn : cnt (.mk 0 0 ⟨#[]⟩ 0 (skS sl) (svS sl)) ≤ 1048578) (htt : tot (.mk 0 0 ⟨#[]⟩ 0 (skS sl) (svS sl)) ≤ 1000000000) (hst : SlB sl) (hE : prs.Env w) :
    Calls Tryz.prog 21 #[tbV b A n c B m d x k] w (RbQ w b l sl x k) := by
  obtain ⟨P, HP⟩ : ∃ P, Hid (w.heap.size = P) := ⟨_, Lib.hid rfl⟩
  have TR : Hid (∀ w', Below w.heap.size w w' → TbIn w' (Nw 0 w') l sl A n c B m d x k) := Lib.hid fun w' hb => ⟨hr.heads.below hb, hr.hn, hr.len, hr.cap, hr.slots.stays (fun q hq => ⟨Nat.zero_le _, hq.2.same (hb.block q hq.2.lt)⟩) (fun q hq hl => hb.block q hl), hr.next, hr.count⟩
  have ITQ : Hid (∀ w', Below w.heap.size w w' → Calls Tryz.prog 60 #[tbV b A n c B m d x k] w' (BoP w' (tabOk b l sl x k))) := Lib.hid fun w' hb => isTable_i w' (TR.out w' hb) hn hm hst (hE.stays hb)
  have CP : Hid (∀ w', Below w.heap.size w w' → Calls Tryz.prog 62 #[tbV b A n c B m d x k] w' (CtQ w' l sl b n m x k)) := Lib.hid fun w' hb => copyTable_i w' (TR.out w' hb) hn hm hcn htt
  have RT : Hid (∀ w' lo A1 c1 B1 d1 G, tabOk b l sl x k → k < 1024 → lo ≤ w'.heap.size → OwnF w' lo l sl A1 n c1 B1 m d1 G → Calls Tryz.prog 74 #[tbV b A1 n c1 B1 m d1 x k] w' (RtQ w' lo (room k) (rbS (room k) sl) x k m G)) := Lib.hid fun w' lo A1 c1 B1 d1 G h1 h2 h3 h4 => rebuiltTable_i w' h4 h3 h1 h2 hst
  have hlm := hr.len
  have hln : l.length = n := hr.heads.len
  have HLM := Lib.hid hlm
  have HLN := Lib.hid hln
  clear hr hcn htt hst hE TR hlm hln
  go_enter Tryz.func21, Tryz.ntmps21
  go_upto_region 1 with fail
  rw [HP.out]
  generalize hw0 : (w.alloc (.cells #[.bool b, .slice A n c, .slice B m d, .int .i64 x, .int .i64 k] IT)).alloc (.cells #[.bool false, .slice none 0 0, .slice none 0 0, .int .i64 0, .int .i64 0] IT) = w0
  have hb0 : Below w.heap.size w w0 := hw0 ▸ b2 w _ _
  have H0 : Hid (w0.heap[P]? = some (.cells #[.bool b, .slice A n c, .slice B m d, .int .i64 x, .int .i64 k] IT (0, 0))) := Lib.hid (by rw [← hw0, ← HP.out]; exact heap_alloc2_old w _ _)
  have H1 : Hid (w0.heap[P + 1]? = some (.cells #[.bool false, .slice none 0 0, .slice none 0 0, .int .i64 0, .int .i64 0] IT (0, 0))) := Lib.hid (by rw [← hw0, ← HP.out]; exact heap_alloc2_new w _ _)
  have hz0 : P + 2 ≤ w0.heap.size := by rw [← hw0, ← HP.out]; simp
  have HB := Lib.hid hb0
  obtain ⟨r0, f0⟩ := rowc H0.out
  have y0 := r0 0; have y1 := r0 1; have y2 := r0 2; have y3 := r0 3; have y4 := r0 4
  simp at y0 y1 y2 y3 y4
  clear r0
  clear hw0 hb0
  go_wp2_with (fail)
  refine (ITQ.out _ HB.out).mono ?_
  rintro e w1 ⟨q, rfl, hq, hb⟩
  have hz1 : P + 2 ≤ w1.heap.size := Nat.le_trans hz0 hb.size
  replace H0 := Lib.hid (carry hb H0.out)
  replace H1 := Lib.hid (carry hb H1.out)
  replace HB := Lib.hid (bs HB.out hb)
  have HQ := Lib.hid hq
  clear hb hq ITQ y0 y1 y2 y3 y4 hz0
  obtain ⟨r0, f0⟩ := rowc H0.out
  have y0 := r0 0; have y1 := r0 1; have y2 := r0 2; have y3 := r0 3; have y4 := r0 4
  simp at y0 y1 y2 y3 y4
  clear r0
  cases q with
  | false =>
    have HN : Hid (¬ (tabOk b l sl x k ∧ k < 1024)) := Lib.hid (fun h => by have := HQ.out.2 h.1; cases this)
    go_wp2_with (fail)
    refine (CP.out _ HB.out).mono ?_
    rintro e w2 ⟨A1, c1, B1, d1, par, R, rfl, hot, hb⟩
    have HOT2 := Lib.hid hot
    have H02 := Lib.hid (carry hb H0.out)
    have H12 := Lib.hid (carry hb H1.out)
    have HB2 := Lib.hid (bs HB.out hb)
    have hz2 : w1.heap.size ≤ w2.heap.size := hb.size
    obtain ⟨r0, f0⟩ := rowc H02.out
    have y0 := r0 0; have y1 := r0 1; have y2 := r0 2; have y3 := r0 3; have y4 := r0 4
    simp at y0 y1 y2 y3 y4
    clear hot hb r0
    go_upto_region 3 with fail
    generalize hw3 : World.setCell (World.setCell (World.setCell (World.setCell (World.setCell w2 _ _) _ _) _ _) _ _) _ _ = w3
    obtain ⟨c3, o3, b3'⟩ := fill5t H02.out hw3
    have hz3 : w2.heap.size ≤ w3.heap.size := by rw [← hw3]; simp []
    have H03 : Hid (w3.heap[P]? = some (.cells #[.bool b, .slice A1 n c1, .slice B1 m d1, .int .i64 x, .int .i64 k] IT (0, 0))) := Lib.hid (by
      rw [← hw3]
      have := set_heap (set_heap (set_heap (set_heap (set_heap H02.out 0 (.bool b)) 1 (.slice A1 n c1)) 2 (.slice B1 m d1)) 3 (.int .i64 x)) 4 (.int .i64 k)
      simpa using this)
    have H13 := Lib.hid ((o3 (P + 1) (by omega)).trans H12.out)
    have HB3 := Lib.hid (b3' _ _ (by rw [HP.out]; omega) HB2.out)
    obtain ⟨G, hOF2⟩ := HOT2.out.ownF
    have HOF : Hid (OwnF w3 w1.heap.size l sl A1 n c1 B1 m d1 G) := Lib.hid (hOF2.keep hz3 fun q hq _ => o3 q (by have := (hOF2.rg q hq).1; omega))
    obtain ⟨r0, f0⟩ := rowc H03.out
    clear hOF2 hw3 o3 b3' c3 y0 y1 y2 y3 y4
    have y0 := r0 0; have y1 := r0 1; have y2 := r0 2; have y3 := r0 3; have y4 := r0 4
    simp at y0 y1 y2 y3 y4
    obtain ⟨r1, f1⟩ := rowc H13.out
    have v0 := r1 0; have v1 := r1 1; have v2 := r1 2; have v3 := r1 3; have v4 := r1 4
    simp at v0 v1 v2 v3 v4
    clear r0 r1
    go_wp2_with (fail)
    generalize hwF : World.setCell (World.setCell (World.setCell (World.setCell (World.setCell w3 _ _) _ _) _ _) _ _) _ _ = wF
    obtain ⟨rF, oF, bF⟩ := fill5t H13.out hwF
    have hzF : w3.heap.size ≤ wF.heap.size := by rw [← hwF]; simp []
    clear hwF
    refine bodyPost_ret (v := tbV b A1 n c1 B1 m d1 x k) (by simp [results, Tryz.results21, go_sem, rF, tbV]) rfl ?_
    refine ⟨b, l, sl, A1, c1, B1, d1, G, .inr ⟨HN.out, rfl, rfl, rfl⟩, by rw [HLN.out, HLM.out], ?_, bF _ _ (by rw [HP.out]; omega) HB3.out⟩
    rw [HLN.out, HLM.out]
    exact (HOF.out.keep hzF fun q hq _ => oF q (by have := (HOF.out.rg q hq).1; omega)).lower (by have := HP.out; omega)
  | true =>
    have HOK : Hid (tabOk b l sl x k) := Lib.hid (HQ.out.1 rfl)
    by_cases hk : k < 1024
    · go_wp2_with (fail)
      refine (CP.out _ HB.out).mono ?_
      rintro e w2 ⟨A1, c1, B1, d1, par, R, rfl, hot, hb⟩
      have HOT2 := Lib.hid hot
      have H02 := Lib.hid (carry hb H0.out)
      have H12 := Lib.hid (carry hb H1.out)
      have HB2 := Lib.hid (bs HB.out hb)
      have hz2 : w1.heap.size ≤ w2.heap.size := hb.size
      obtain ⟨r0, f0⟩ := rowc H02.out
      have y0 := r0 0; have y1 := r0 1; have y2 := r0 2; have y3 := r0 3; have y4 := r0 4
      simp at y0 y1 y2 y3 y4
      clear hot hb r0
      go_upto_region 3 with fail
      generalize hw3 : World.setCell (World.setCell (World.setCell (World.setCell (World.setCell w2 _ _) _ _) _ _) _ _) _ _ = w3
      obtain ⟨c3, o3, b3'⟩ := fill5t H02.out hw3
      have hz3 : w2.heap.size ≤ w3.heap.size := by rw [← hw3]; simp []
      have H03 : Hid (w3.heap[P]? = some (.cells #[.bool b, .slice A1 n c1, .slice B1 m d1, .int .i64 x, .int .i64 k] IT (0, 0))) := Lib.hid (by
        rw [← hw3]
        have := set_heap (set_heap (set_heap (set_heap (set_heap H02.out 0 (.bool b)) 1 (.slice A1 n c1)) 2 (.slice B1 m d1)) 3 (.int .i64 x)) 4 (.int .i64 k)
        simpa using this)
      have H13 := Lib.hid ((o3 (P + 1) (by omega)).trans H12.out)
      have HB3 := Lib.hid (b3' _ _ (by rw [HP.out]; omega) HB2.out)
      obtain ⟨G, hOF2⟩ := HOT2.out.ownF
      have HOF : Hid (OwnF w3 w1.heap.size l sl A1 n c1 B1 m d1 G) := Lib.hid (hOF2.keep hz3 fun q hq _ => o3 q (by have := (hOF2.rg q hq).1; omega))
      obtain ⟨r0, f0⟩ := rowc H03.out
      clear hOF2 hw3 o3 b3' c3 y0 y1 y2 y3 y4
      have y0 := r0 0; have y1 := r0 1; have y2 := r0 2; have y3 := r0 3; have y4 := r0 4
      simp at y0 y1 y2 y3 y4
      clear r0
      go_wp2_with (fail)
      refine (RT.out _ _ _ _ _ _ _ HOK.out hk (by omega) HOF.out).mono ?_
      rintro e w4 ⟨g5, B5, d5, G5, rfl, hof5, hb, hown⟩
      have HOF5 := Lib.hid hof5
      have H04 := Lib.hid (carry hb H03.out)
      have H14 := Lib.hid (carry hb H13.out)
      have HB4 := Lib.hid (bs HB3.out hb)
      have hz4 : P + 2 ≤ w4.heap.size := by have := hb.size; omega
      have HOW : Hid (∀ q, FOwn (some ⟨g5, 0, none⟩) (room k) (room k) B5 (rbS (room k) sl).length d5 G5 q → P + 2 ≤ q) := Lib.hid (fun q hq => by
        have := (HOF5.out.rg q hq).1
        omega)
      obtain ⟨r0, f0⟩ := rowc H04.out
      have y0 := r0 0; have y1 := r0 1; have y2 := r0 2; have y3 := r0 3; have y4 := r0 4
      simp at y0 y1 y2 y3 y4
      obtain ⟨r1, f1⟩ := rowc H14.out
      have v0 := r1 0; have v1 := r1 1; have v2 := r1 2; have v3 := r1 3; have v4 := r1 4
      simp at v0 v1 v2 v3 v4
      clear hof5 hb hown r0 r1
      go_upto_region 5 with fail
      generalize hw5 : World.setCell (World.setCell (World.setCell (World.setCell (World.setCell w4 _ _) _ _) _ _) _ _) _ _ = w5
      obtain ⟨c5, o5, b5⟩ := fill5t H04.out hw5
      have hz5 : w4.heap.size ≤ w5.heap.size := by rw [← hw5]; simp []
      have H15 := Lib.hid ((o5 (P + 1) (by omega)).trans H14.out)
      have HOF6 := Lib.hid (HOF5.out.keep hz5 fun q hq _ => o5 q (by have := HOW.out q hq; omega))
      have HB5 := Lib.hid (b5 _ _ (by rw [HP.out]; omega) HB4.out)
      have p0 := c5 0; have p1 := c5 1; have p2 := c5 2; have p3 := c5 3; have p4 := c5 4
      simp at p0 p1 p2 p3 p4
      obtain ⟨r1, f1⟩ := rowc H15.out
      have v0 := r1 0; have v1 := r1 1; have v2 := r1 2; have v3 := r1 3; have v4 := r1 4
      simp at v0 v1 v2 v3 v4
      clear hw5 o5 b5 c5 y0 y1 y2 y3 y4 f0 r1
      go_wp2_with (fail)
      generalize hwF : World.setCell (World.setCell (World.setCell (World.setCell (World.setCell w5 _ _) _ _) _ _) _ _) _ _ = wF
      obtain ⟨rF, oF, bF⟩ := fill5t H15.out hwF
      have hzF : w5.heap.size ≤ wF.heap.size := by rw [← hwF]; simp []
      clear hwF
      refine bodyPost_ret (v := tbV true (some ⟨g5, 0, none⟩) (room k) (room k) B5 (rbS (room k) sl).length d5 x k) (by simp [results, Tryz.results21, go_sem, rF, tbV]) rfl ?_
      refine ⟨true, hsA (room k) (rbS (room k) sl), rbS (room k) sl, _, _, _, _, G5, .inl ⟨⟨HOK.out, hk⟩, rfl, rfl, rfl⟩, by rw [hsA_len], ?_, bF _ _ (by rw [HP.out]; omega) HB5.out⟩
      rw [hsA_len]
      exact (HOF6.out.keep hzF fun q hq _ => oF q (by have := HOW.out q hq; omega)).lower (by have := HP.out; omega)
    · have HN : Hid (¬ (tabOk b l sl x k ∧ k < 1024)) := Lib.hid (fun h => hk h.2)
      go_wp2_with (fail)
      refine (CP.out _ HB.out).mono ?_
      rintro e w2 ⟨A1, c1, B1, d1, par, R, rfl, hot, hb⟩
      have HOT2 := Lib.hid hot
      have H02 := Lib.hid (carry hb H0.out)
      have H12 := Lib.hid (carry hb H1.out)
      have HB2 := Lib.hid (bs HB.out hb)
      have hz2 : w1.heap.size ≤ w2.heap.size := hb.size
      obtain ⟨r0, f0⟩ := rowc H02.out
      have y0 := r0 0; have y1 := r0 1; have y2 := r0 2; have y3 := r0 3; have y4 := r0 4
      simp at y0 y1 y2 y3 y4
      clear hot hb r0
      go_upto_region 3 with fail
      generalize hw3 : World.setCell (World.setCell (World.setCell (World.setCell (World.setCell w2 _ _) _ _) _ _) _ _) _ _ = w3
      obtain ⟨c3, o3, b3'⟩ := fill5t H02.out hw3
      have hz3 : w2.heap.size ≤ w3.heap.size := by rw [← hw3]; simp []
      have H03 : Hid (w3.heap[P]? = some (.cells #[.bool b, .slice A1 n c1, .slice B1 m d1, .int .i64 x, .int .i64 k] IT (0, 0))) := Lib.hid (by
        rw [← hw3]
        have := set_heap (set_heap (set_heap (set_heap (set_heap H02.out 0 (.bool b)) 1 (.slice A1 n c1)) 2 (.slice B1 m d1)) 3 (.int .i64 x)) 4 (.int .i64 k)
        simpa using this)
      have H13 := Lib.hid ((o3 (P + 1) (by omega)).trans H12.out)
      have HB3 := Lib.hid (b3' _ _ (by rw [HP.out]; omega) HB2.out)
      obtain ⟨G, hOF2⟩ := HOT2.out.ownF
      have HOF : Hid (OwnF w3 w1.heap.size l sl A1 n c1 B1 m d1 G) := Lib.hid (hOF2.keep hz3 fun q hq _ => o3 q (by have := (hOF2.rg q hq).1; omega))
      obtain ⟨r0, f0⟩ := rowc H03.out
      clear hOF2 hw3 o3 b3' c3 y0 y1 y2 y3 y4
      have y0 := r0 0; have y1 := r0 1; have y2 := r0 2; have y3 := r0 3; have y4 := r0 4
      simp at y0 y1 y2 y3 y4
      obtain ⟨r1, f1⟩ := rowc H13.out
      have v0 := r1 0; have v1 := r1 1; have v2 := r1 2; have v3 := r1 3; have v4 := r1 4
      simp at v0 v1 v2 v3 v4
      clear r0 r1
      go_wp2_with (fail)
      generalize hwF : World.setCell (World.setCell (World.setCell (World.setCell (World.setCell w3 _ _) _ _) _ _) _ _) _ _ = wF
      obtain ⟨rF, oF, bF⟩ := fill5t H13.out hwF
      have hzF : w3.heap.size ≤ wF.heap.size := by rw [← hwF]; simp []
      clear hwF
      refine bodyPost_ret (v := tbV b A1 n c1 B1 m d1 x k) (by simp [results, Tryz.results21, go_sem, rF, tbV]) rfl ?_
      refine ⟨b, l, sl, A1, c1, B1, d1, G, .inr ⟨HN.out, rfl, rfl, rfl⟩, by rw [HLN.out, HLM.out], ?_, bF _ _ (by rw [HP.out]; omega) HB3.out⟩
      rw [HLN.out, HLM.out]
      exact (HOF.out.keep hzF fun q hq _ => oF q (by have := (HOF.out.rg q hq).1; omega)).lower (by have := HP.out; omega)

end Go.Proofs.YtdglmnmalfpipaaGreatDoor.tree

/-
  Rebuild of the model.
  Conditions: those that each theorem names; the package variables of the library's reading of numbers hold what the program's text lays.
-/
namespace Go.Proofs.YtdglmnmalfpipaaGreatDoor.tree
open Go.ChangeShapes Go.WideShapes Go.ChangeAt Go.RowKit
set_option linter.unusedVariables false

def RbsQ (w : World) (b : Bool) (l : List Int) (sl : List Sl) (x k : Int) (e : Ending) (w' : World) : Prop :=
  ∃ rb rl rs A' c' B' d', RbR b l sl x k rb rl rs ∧ e = .returned (tbV rb A' rl.length c' B' rs.length d' x k) ∧ KT w' (Rg w.heap.size w'.heap.size) rl rs A' rl.length c' B' rs.length d' ∧ Below w.heap.size w w'
/-- What the model has built, to be read. -/
theorem kt_srs {w : World} {lo L : Nat} {S : Nat → Prop} {l : List Int} {sl : List Sl} {A B : Option Addr} {n c m d : Nat} (ho : imem.OwnI w L A n c l) (hs : SRs w L S (.slice B m d) sl) (hlm : sl.length = m) (hm : m ≤ 1048576) (hL : lo ≤ L) (hS : ∀ q, S q → lo ≤ q) : KT w (Rg lo w.heap.size) l sl A n c B m d := by
  have hblk := hs.block
  obtain ⟨A', c', e, hcap, hin⟩ := hs.sin (by unfold maxLen; omega)
  obtain ⟨rfl, rfl, rfl⟩ : B = A' ∧ m = sl.length ∧ d = c' := by simpa using e
  refine ⟨⟨L, ho⟩, fun q e => ?_, hin.both.stays (fun q hq => ⟨?_, hq.2⟩) (fun _ _ _ => rfl), hlm, hcap⟩
  · have := ho.block q e
    exact ⟨by omega, this.2⟩
  · rcases hq.1 with h | h
    · exact hS q h
    · have := (hblk q h).1
      omega
theorem KT.up {w w' : World} {lo : Nat} {l : List Int} {sl : List Sl} {A B : Option Addr} {n c m d : Nat} (h : KT w (Rg lo w.heap.size) l sl A n c B m d) (hz : w.heap.size ≤ w'.heap.size) (hs : ∀ q, lo ≤ q → w'.heap[q]? = w.heap[q]?) : KT w' (Rg lo w'.heap.size) l sl A n c B m d :=
  (h.keep fun q hq _ => hs q hq.1).mono fun q hq => ⟨hq.1, Nat.lt_of_lt_of_le hq.2 hz⟩

set_option maxRecDepth 100000 in
set_option maxHeartbeats 4000000 in
theorem rebuild_s {l : List Int} {sl : List Sl} {b : Bool} {A : Option Addr} {n c : Nat} {B : Option Addr} {m d : Nat} {x k : Int} (w : World) {S : Nat → Prop} (hr : TbIn w S l sl A n c B m d x k) (hn : n ≤ 1048576) (hm : m ≤ 1048576) (hct : ∀ t ∈ sl, cnt t.val ≤ 1000000000) (hst : SlB sl) (hE : prs.Env w) :
    Calls Tryz.prog 52 #[tbV b A n c B m d x k] w (RbsQ w b l sl x k) := by
  obtain ⟨P, HP⟩ : ∃ P, Hid (w.heap.size = P) := ⟨_, Lib.hid rfl⟩
  have TR : Hid (∀ w', Below w.heap.size w w' → TbIn w' S l sl A n c B m d x k) := Lib.hid fun w' hb => ⟨hr.heads.below hb, hr.hn, hr.len, hr.cap, hr.slots.below hb, hr.next, hr.count⟩
  have ITQ : Hid (∀ w', Below w.heap.size w w' → Calls Tryz.prog 15 #[tbV b A n c B m d x k] w' (BoP w' (tabOk b l sl x k))) := Lib.hid fun w' hb => isTable_s w' (TR.out w' hb) hn hm hst (hE.stays hb)
  have CP : Hid (∀ w', Below w.heap.size w w' → Calls Tryz.prog 112 #[.agg #[.bool b, .slice A n c, .slice B m d, .int .i64 x, .int .i64 k]] w' (Q7 w' b l sl n m x k)) := Lib.hid fun w' hb => l7Copy_s w' (TR.out w' hb) hn (by omega) hct
  have HLM := Lib.hid hr.len
  have HLN : Hid (l.length = n) := Lib.hid hr.heads.len
  have RM : Hid (k < 1024 → -1000000000000 ≤ k → ∀ w', Calls Tryz.prog 127 #[.agg #[.bool b, .slice A n c, .slice B m d, .int .i64 x, .int .i64 k]] w' (LtQ w' (room k))) := Lib.hid fun h1 h2 w' => l7Room_s b A n c B m d x k ⟨h2, h1⟩ w'
  have BU : Hid (∀ w' N A1 c1 g d1, tabOk b l sl x k → SRow w' N (.slice (some ⟨g, 0, none⟩) m d1) sl → Calls Tryz.prog 126 #[.agg #[.bool b, .slice A1 n c1, .slice (some ⟨g, 0, none⟩) m d1, .int .i64 x, .int .i64 k], .int .i64 (room k : Int)] w' (Bu7Q w' (fun q => N ≤ q) (room k) (rbS (room k) sl) x)) := Lib.hid fun w' N A1 c1 g d1 hok hs => by
    obtain ⟨A', c', e, hcap, hin⟩ := hs.sin (by rw [hr.len]; unfold maxLen; omega)
    obtain ⟨rfl, -, rfl⟩ : some ⟨g, 0, none⟩ = A' ∧ m = sl.length ∧ d1 = c' := by simpa using e
    have hp := room_p2 k
    unfold p2 at hp
    exact l7Build_s (l := l) w' hin hr.len hm hok.1 hok.2.2.1.1 hst (room k) (by omega) (by omega) (by have := hok.len.1; have := hr.len; omega)
  clear hr hct hst hE TR
  go_enter Tryz.func52, Tryz.ntmps52
  go_upto_region 1 with fail
  rw [HP.out]
  generalize hw0 : (w.alloc (.cells #[.bool b, .slice A n c, .slice B m d, .int .i64 x, .int .i64 k] IT)).alloc (.cells #[.bool false, .slice none 0 0, .slice none 0 0, .int .i64 0, .int .i64 0] IT) = w0
  have hb0 : Below w.heap.size w w0 := hw0 ▸ b2 w _ _
  have H0 : Hid (w0.heap[P]? = some (.cells #[.bool b, .slice A n c, .slice B m d, .int .i64 x, .int .i64 k] IT (0, 0))) := Lib.hid (by rw [← hw0, ← HP.out]; exact heap_alloc2_old w _ _)
  have H1 : Hid (w0.heap[P + 1]? = some (.cells #[.bool false, .slice none 0 0, .slice none 0 0, .int .i64 0, .int .i64 0] IT (0, 0))) := Lib.hid (by rw [← hw0, ← HP.out]; exact heap_alloc2_new w _ _)
  have hz0 : P + 2 ≤ w0.heap.size := by rw [← hw0, ← HP.out]; simp
  have HB := Lib.hid hb0
  have y0 : w0.cell? ⟨P, 0, none⟩ = some (.bool b) := (rowc H0.out).1 0
  have y1 : w0.cell? ⟨P, 1, none⟩ = some (.slice A n c) := (rowc H0.out).1 1
  have y2 : w0.cell? ⟨P, 2, none⟩ = some (.slice B m d) := (rowc H0.out).1 2
  have y3 : w0.cell? ⟨P, 3, none⟩ = some (.int .i64 x) := (rowc H0.out).1 3
  have y4 : w0.cell? ⟨P, 4, none⟩ = some (.int .i64 k) := (rowc H0.out).1 4
  clear hw0 hb0
  go_wp2_with (fail)
  refine (ITQ.out _ HB.out).mono ?_
  rintro e w1 ⟨q, rfl, hq, hb⟩
  have hz1 : P + 2 ≤ w1.heap.size := Nat.le_trans hz0 hb.size
  replace H0 := Lib.hid (carry hb H0.out)
  replace H1 := Lib.hid (carry hb H1.out)
  replace HB := Lib.hid (bs HB.out hb)
  have HQ := Lib.hid hq
  clear hb hq ITQ y0 y1 y2 y3 y4 hz0
  have y0 : w1.cell? ⟨P, 0, none⟩ = some (.bool b) := (rowc H0.out).1 0
  have y1 : w1.cell? ⟨P, 1, none⟩ = some (.slice A n c) := (rowc H0.out).1 1
  have y2 : w1.cell? ⟨P, 2, none⟩ = some (.slice B m d) := (rowc H0.out).1 2
  have y3 : w1.cell? ⟨P, 3, none⟩ = some (.int .i64 x) := (rowc H0.out).1 3
  have y4 : w1.cell? ⟨P, 4, none⟩ = some (.int .i64 k) := (rowc H0.out).1 4
  cases q with
  | false =>
    have HN : Hid (¬ (tabOk b l sl x k ∧ k < 1024)) := Lib.hid (fun h => by have := HQ.out.2 h.1; cases this)
    go_wp2_with (fail)
    refine (CP.out _ HB.out).mono ?_
    rintro e w2 ⟨A1, c1, g, d1, M, N, rfl, hM, hMN, ho, hlo, hs, hb⟩
    have H12 := Lib.hid (carry hb H1.out)
    have HB2 := Lib.hid (bs HB.out hb)
    have HS := Lib.hid hs
    have HO := Lib.hid ho
    have hz2 : w1.heap.size ≤ w2.heap.size := hb.size
    obtain ⟨r1, f1⟩ := rowc H12.out
    have v0 := r1 0; have v1 := r1 1; have v2 := r1 2; have v3 := r1 3; have v4 := r1 4
    simp at v0 v1 v2 v3 v4
    clear hs ho hlo hb r1
    go_wp2_with (fail)
    generalize hwF : World.setCell (World.setCell (World.setCell (World.setCell (World.setCell w2 _ _) _ _) _ _) _ _) _ _ = wF
    obtain ⟨rF, oF, bF⟩ := fill5t H12.out hwF
    have hzF : w2.heap.size ≤ wF.heap.size := by rw [← hwF]; simp []
    clear hwF
    refine bodyPost_ret (v := tbV b A1 n c1 (some ⟨g, 0, none⟩) m d1 x k) (by simp [results, Tryz.results52, go_sem, rF, tbV]) rfl ?_
    have hkt : KT w2 (Rg (P + 2) w2.heap.size) l sl A1 n c1 (some ⟨g, 0, none⟩) m d1 := by
      obtain ⟨A', c', e, hcap, hin⟩ := HS.out.sin (by rw [HLM.out]; unfold maxLen; omega)
      obtain ⟨rfl, -, rfl⟩ : some ⟨g, 0, none⟩ = A' ∧ m = sl.length ∧ d1 = c' := by simpa using e
      exact ⟨⟨M, HO.out⟩, fun q e => by have := HO.out.block q e; exact ⟨by omega, this.2⟩, hin.both.stays (fun q hq => ⟨by have := hq.1; omega, hq.2⟩) (fun _ _ _ => rfl), HLM.out, by rw [← HLM.out]; exact hcap⟩
    refine ⟨b, l, sl, A1, c1, _, d1, .inr ⟨HN.out, rfl, rfl, rfl⟩, by rw [HLN.out, HLM.out], ?_, bF _ _ (by rw [HP.out]; omega) HB2.out⟩
    rw [HLN.out, HLM.out]
    exact (hkt.up hzF fun q hq => oF q (by omega)).mono fun q hq => ⟨by have := HP.out; have := hq.1; omega, hq.2⟩
  | true =>
    have HOK : Hid (tabOk b l sl x k) := Lib.hid (HQ.out.1 rfl)
    by_cases hk : k < 1024
    · have hk0 : 0 ≤ k := by have := HOK.out.2.2.1.2; omega
      have RM1 := Lib.hid (RM.out hk (by omega))
      have HC : Hid (Below w1.heap.size w1 w1) := Lib.hid (Below.refl _ _)
      have HRL : Hid (((rbS (room k) sl).length : Int) = k) := Lib.hid (by
        have := HOK.out.2.2.1.2
        rw [rbS_len, ← this]
        unfold livK
        rw [List.length_map])
      have HRm : Hid ((rbS (room k) sl).length ≤ 1048576) := Lib.hid (by have := rbS_le (room k) sl; have := HLM.out; omega)
      go_wp2_with (fail)
      go_region_held3 (fun w' => w'.cell? ⟨P, 0, none⟩ = some (.bool b) ∧ w'.cell? ⟨P, 1, none⟩ = some (.slice A n c) ∧ w'.cell? ⟨P, 2, none⟩ = some (.slice B m d) ∧ w'.cell? ⟨P, 3, none⟩ = some (.int .i64 x) ∧ w'.cell? ⟨P, 4, none⟩ = some (.int .i64 k)) (go_keep) (first
        | (go_at_call 112; refine (CP.out _ (by first | exact bs HB.out HC.out | exact bs HB.out (bs HC.out ((Below.refl _ _).drew)))).mono ?_
           rintro e w2 ⟨A1, c1, g, d1, M, N, rfl, hM, hMN, ho, hlo, hs, hb⟩
           have HM : Hid (P + 2 ≤ M) := Lib.hid (Nat.le_trans (Nat.le_trans hz1 HC.out.size) (by first | exact hM | simpa using hM))
           replace HC := Lib.hid (bs HC.out (by first | exact hb | exact bs ((Below.refl _ _).drew) hb))
           have HMN := Lib.hid hMN
           have HS := Lib.hid hs
           have H02 := Lib.hid (carry HC.out H0.out)
           have y0 : w2.cell? ⟨P, 0, none⟩ = some (.bool b) := (rowc H02.out).1 0
           have y1 : w2.cell? ⟨P, 1, none⟩ = some (.slice A n c) := (rowc H02.out).1 1
           have y2 : w2.cell? ⟨P, 2, none⟩ = some (.slice B m d) := (rowc H02.out).1 2
           have y3 : w2.cell? ⟨P, 3, none⟩ = some (.int .i64 x) := (rowc H02.out).1 3
           have y4 : w2.cell? ⟨P, 4, none⟩ = some (.int .i64 k) := (rowc H02.out).1 4
           clear hM hMN ho hlo hs hb)
        | (go_at_call 127; refine (RM1.out _).mono ?_
           rintro e w3 ⟨rfl, hb⟩
           replace HC := Lib.hid (bs HC.out (by first | exact hb | exact bs ((Below.refl _ _).drew) hb))
           first | (replace HS := Lib.hid (HS.out.below (by first | exact hb | exact bs ((Below.refl _ _).drew) hb))) | skip
           have H03 := Lib.hid (carry HC.out H0.out)
           have y0 : w3.cell? ⟨P, 0, none⟩ = some (.bool b) := (rowc H03.out).1 0
           have y1 : w3.cell? ⟨P, 1, none⟩ = some (.slice A n c) := (rowc H03.out).1 1
           have y2 : w3.cell? ⟨P, 2, none⟩ = some (.slice B m d) := (rowc H03.out).1 2
           have y3 : w3.cell? ⟨P, 3, none⟩ = some (.int .i64 x) := (rowc H03.out).1 3
           have y4 : w3.cell? ⟨P, 4, none⟩ = some (.int .i64 k) := (rowc H03.out).1 4
           clear hb)
        | (go_at_call 126; refine (BU.out _ N _ _ _ _ HOK.out (by first | exact HS.out | exact HS.out.below ((Below.refl _ _).drew))).mono ?_
           rintro e w4 ⟨A4, c4, B4, d4, rfl, ho4, hs4, hb⟩
           have HL4 : Hid (P + 2 ≤ w1.heap.size ∧ Below w1.heap.size w1 w4) := Lib.hid ⟨hz1, bs HC.out (by first | exact hb | exact bs ((Below.refl _ _).drew) hb)⟩
           have hsz : w1.heap.size ≤ w4.heap.size := HL4.out.2.size
           have HKT : Hid (KT w4 (Rg (P + 2) w4.heap.size) (hsA (room k) (rbS (room k) sl)) (rbS (room k) sl) A4 (room k) c4 B4 (rbS (room k) sl).length d4) := Lib.hid (kt_srs ho4 hs4 rfl HRm.out (by have := HC.out.size; first | omega | (simp; omega)) (fun q hq => by have := HM.out; have := HMN.out; have := hq.1; omega))
           have H04 := Lib.hid (carry HL4.out.2 H0.out)
           have H14 := Lib.hid (carry HL4.out.2 H1.out)
           have HB4 := Lib.hid (bs HB.out HL4.out.2)
           obtain ⟨r1, f1⟩ := rowc H14.out
           have v0 := r1 0; have v1 := r1 1; have v2 := r1 2; have v3 := r1 3; have v4 := r1 4
           simp at v0 v1 v2 v3 v4
           have y0 : w4.cell? ⟨P, 0, none⟩ = some (.bool b) := (rowc H04.out).1 0
           have y1 : w4.cell? ⟨P, 1, none⟩ = some (.slice A n c) := (rowc H04.out).1 1
           have y2 : w4.cell? ⟨P, 2, none⟩ = some (.slice B m d) := (rowc H04.out).1 2
           have y3 : w4.cell? ⟨P, 3, none⟩ = some (.int .i64 x) := (rowc H04.out).1 3
           have y4 : w4.cell? ⟨P, 4, none⟩ = some (.int .i64 k) := (rowc H04.out).1 4
           clear ho4 hs4 hb r1))
      all_goals
        go_wp2_with (fail)
        generalize hwF : World.setCell (World.setCell (World.setCell (World.setCell (World.setCell w4 _ _) _ _) _ _) _ _) _ _ = wF
        obtain ⟨rF, oF, bF⟩ := fill5t H14.out hwF
        have hzF : w4.heap.size ≤ wF.heap.size := by rw [← hwF]; simp []
        clear hwF
        refine bodyPost_ret (v := tbV true A4 (room k) c4 B4 (rbS (room k) sl).length d4 x ((rbS (room k) sl).length : Int)) (by simp [results, Tryz.results52, go_sem, rF, tbV]) rfl ?_
        refine ⟨true, hsA (room k) (rbS (room k) sl), rbS (room k) sl, A4, c4, B4, d4, .inl ⟨⟨HOK.out, hk⟩, rfl, rfl, rfl⟩, by rw [hsA_len, HRL.out], ?_, bF _ _ (by rw [HP.out]; omega) HB4.out⟩
        rw [hsA_len]
        exact (HKT.out.up hzF fun q hq => oF q (by omega)).mono fun q hq => ⟨by have := HP.out; have := hq.1; omega, hq.2⟩
    · have HN : Hid (¬ (tabOk b l sl x k ∧ k < 1024)) := Lib.hid (fun h => hk h.2)
      go_wp2_with (fail)
      refine (CP.out _ HB.out).mono ?_
      rintro e w2 ⟨A1, c1, g, d1, M, N, rfl, hM, hMN, ho, hlo, hs, hb⟩
      have H12 := Lib.hid (carry hb H1.out)
      have HB2 := Lib.hid (bs HB.out hb)
      have HS := Lib.hid hs
      have HO := Lib.hid ho
      have hz2 : w1.heap.size ≤ w2.heap.size := hb.size
      obtain ⟨r1, f1⟩ := rowc H12.out
      have v0 := r1 0; have v1 := r1 1; have v2 := r1 2; have v3 := r1 3; have v4 := r1 4
      simp at v0 v1 v2 v3 v4
      clear hs ho hlo hb r1
      go_wp2_with (fail)
      generalize hwF : World.setCell (World.setCell (World.setCell (World.setCell (World.setCell w2 _ _) _ _) _ _) _ _) _ _ = wF
      obtain ⟨rF, oF, bF⟩ := fill5t H12.out hwF
      have hzF : w2.heap.size ≤ wF.heap.size := by rw [← hwF]; simp []
      clear hwF
      refine bodyPost_ret (v := tbV b A1 n c1 (some ⟨g, 0, none⟩) m d1 x k) (by simp [results, Tryz.results52, go_sem, rF, tbV]) rfl ?_
      have hkt : KT w2 (Rg (P + 2) w2.heap.size) l sl A1 n c1 (some ⟨g, 0, none⟩) m d1 := by
        obtain ⟨A', c', e, hcap, hin⟩ := HS.out.sin (by rw [HLM.out]; unfold maxLen; omega)
        obtain ⟨rfl, -, rfl⟩ : some ⟨g, 0, none⟩ = A' ∧ m = sl.length ∧ d1 = c' := by simpa using e
        exact ⟨⟨M, HO.out⟩, fun q e => by have := HO.out.block q e; exact ⟨by omega, this.2⟩, hin.both.stays (fun q hq => ⟨by have := hq.1; omega, hq.2⟩) (fun _ _ _ => rfl), HLM.out, by rw [← HLM.out]; exact hcap⟩
      refine ⟨b, l, sl, A1, c1, _, d1, .inr ⟨HN.out, rfl, rfl, rfl⟩, by rw [HLN.out, HLM.out], ?_, bF _ _ (by rw [HP.out]; omega) HB2.out⟩
      rw [HLN.out, HLM.out]
      exact (hkt.up hzF fun q hq => oF q (by omega)).mono fun q hq => ⟨by have := HP.out; have := hq.1; omega, hq.2⟩

end Go.Proofs.YtdglmnmalfpipaaGreatDoor.tree

