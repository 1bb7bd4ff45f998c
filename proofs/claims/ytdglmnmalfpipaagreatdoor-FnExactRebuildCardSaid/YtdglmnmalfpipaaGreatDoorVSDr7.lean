/-
  A slot of the model's own table given up.
  Conditions: those that each theorem names.
-/
import Derived.Test.YtdglmnmalfpipaaGreatDoorVB12
import Derived.Test.YtdglmnmalfpipaaGreatDoorVB15
import Derived.Test.YtdglmnmalfpipaaGreatDoorVSSlotS
namespace Go.Proofs.YtdglmnmalfpipaaGreatDoor.tree
open Go.ChangeShapes Go.WideShapes Go.ChangeAt Go.RowKit
set_option linter.unusedVariables false

theorem SRow.del {w w' : World} {lo g m d i : Nat} {sl : List Sl} (h : SRow w lo (.slice (some ⟨g, 0, none⟩) m d) sl) (hi : i < sl.length)
    (hg : ∀ arr, w.heap[g]? = some (.cells arr IS (0, 0)) → w'.heap[g]? = some (.cells (clr arr (i * 10)) IS (0, 0))) (ho : ∀ q, q ≠ g → lo ≤ q → q < w.heap.size → w'.heap[q]? = w.heap[q]?) : SRow w' lo (.slice (some ⟨g, 0, none⟩) m d) (dropS sl i) := by
  obtain ⟨xs, h1, h3⟩ := h
  rcases h1.2 with ⟨e, h0⟩ | ⟨g', cap, cur, e, hlo, hgc, hnc, hcm, hsz, htk⟩
  · cases e
  · obtain ⟨rfl, rfl, rfl⟩ : g = g' ∧ m = sl.length ∧ d = cap := by simpa using e
    have rd : ∀ p, p < sl.length * 10 → xs[p]? = cur[p]? := fun p hp => by
      rw [← htk, List.getElem?_take, if_pos hp]
      simp
    obtain ⟨e3, e4, e5, e6, e7, e8⟩ := clr_in cur (i * 10) (by omega)
    refine ⟨(clr cur (i * 10)).toList.take (sl.length * 10), ⟨?_, .inr ⟨g, d, _, by rw [dropS_len], hlo, hg _ hgc, by rw [dropS_len]; exact hnc, hcm, by rw [clr_size]; exact hsz, by rw [dropS_len]⟩⟩, fun q t ht => ?_⟩
    · have hcs := clr_size cur (i * 10)
      rw [dropS_len, List.length_take]
      show min (sl.length * 10) (clr cur (i * 10)).size = sl.length * 10
      omega
    · have hql := (List.getElem?_eq_some_iff.1 ht).1
      rw [dropS_len] at hql
      have new : ∀ p, p < 10 → ((clr cur (i * 10)).toList.take (sl.length * 10))[q * 10 + p]? = (clr cur (i * 10))[q * 10 + p]? := fun p hp => by
        rw [List.getElem?_take, if_pos (by omega)]
        simp
      rcases dropS_get ht with ⟨hne, ht⟩ | ⟨rfl, t0, ht0, rfl⟩
      · obtain ⟨k, n, s, x, ks, vs, A, c, a1, a2, a3, a4, a5⟩ := h3 q t ht
        refine ⟨k, n, s, x, ks, vs, A, c, a1, a2, a3, fun p hp => ?_, a5.stays (fun _ h => h) fun b hb hl => ho b (fun e => hb.2 (by rw [e]; rfl)) hb.1 hl⟩
        rw [new p hp, clr_out _ _ _ (by omega), ← rd _ (by omega)]
        exact a4 p hp
      · obtain ⟨k, n, s, x, ks, vs, A, c, a1, a2, a3, a4, a5⟩ := h3 q t0 ht0
        have old : ∀ p, p < 10 → (p < 3 ∨ 9 ≤ p) → ((clr cur (q * 10)).toList.take (sl.length * 10))[q * 10 + p]? = ([.bool t0.key.text, .int .i64 t0.key.num, .string t0.key.str, .int .i64 k, .int .i64 n, .string s, .int .i64 x, .slice A vs.length c, .bool t0.live, .int .i64 t0.link] : List Value)[p]? := fun p hp h => by
          rw [new p hp, clr_out _ _ _ (by omega), ← rd _ (by omega)]
          exact a4 p hp
        refine ⟨0, 0, ⟨#[]⟩, 0, [], [], none, 0, rfl, a2, a3, fun p hp => ?_, TIn.of (x := 0) (s := ⟨#[]⟩) (k := 0) (n := 0) 0 ⟨by unfold I64; omega, by unfold I64; omega, by unfold I64; omega, Nat.zero_le _⟩ ⟨rfl, Nat.zero_le _, fun _ => #[], fun i hi => absurd hi (by simp), fun i hi => absurd hi (by simp)⟩ ⟨Nat.le_refl _, Nat.zero_le _⟩⟩
        match p, hp with
        | 0, _ => exact old 0 (by omega) (by omega)
        | 1, _ => exact old 1 (by omega) (by omega)
        | 2, _ => exact old 2 (by omega) (by omega)
        | 3, _ => exact (new 3 (by omega)).trans e3
        | 4, _ => exact (new 4 (by omega)).trans e4
        | 5, _ => exact (new 5 (by omega)).trans e5
        | 6, _ => exact (new 6 (by omega)).trans e6
        | 7, _ => exact (new 7 (by omega)).trans e7
        | 8, _ => exact (new 8 (by omega)).trans e8
        | 9, _ => exact old 9 (by omega) (by omega)

theorem fr_set1 (w : World) (g j : Nat) (v : Value) : Fr (fun q => q = g) w (w.setCell ⟨g, j, none⟩ v) := Fr.set (S := fun q => q = g) rfl j v
def Dr7Q (w : World) (M N : Nat) (b : Bool) (l : List Int) (sl : List Sl) (A : Option Addr) (n c g m d : Nat) (x k W : Int) (e : Ending) (w' : World) : Prop :=
  e = .returned (tbV b A n c (some ⟨g, 0, none⟩) m d x (tdCt k W)) ∧ imem.OwnI w' M A n c l ∧ SRow w' N (.slice (some ⟨g, 0, none⟩) m d) (tdSl sl W) ∧ Fr (fun q => q = g) w w'

set_option maxRecDepth 100000 in
set_option maxHeartbeats 4000000 in
theorem l7Drop_s {M N g : Nat} {l : List Int} {sl : List Sl} {b : Bool} {A : Option Addr} {n c : Nat} {m d : Nat} {x k : Int} (w : World) (hh : imem.OwnI w M A n c l) (hn : n ≤ 1048576) (hlo : ∀ h, (Value.slice A n c).ownBlock = some h → h < N) (hs : SRow w N (.slice (some ⟨g, 0, none⟩) m d) sl) (hlen : sl.length = m) (hm : m ≤ 1000000000) (hx : I64 x) (hk : -1000000000000 ≤ k ∧ k ≤ 1000000000000) (hok : tabOk b l sl x k) (y : Ky) (hys : y.str.size ≤ 140737488355328) :
    Calls Tryz.prog 125 #[tbV b A n c (some ⟨g, 0, none⟩) m d x k, kyV y] w (Dr7Q w M N b l sl A n c g m d x k (fd sl y m)) := by
  obtain ⟨P, HP⟩ : ∃ P, Hid (w.heap.size = P) := ⟨_, Lib.hid rfl⟩
  obtain ⟨A0, c0, e0, hcap, hsin⟩ := hs.sin (by rw [hlen]; unfold maxLen; omega)
  obtain ⟨rfl, -, rfl⟩ : some ⟨g, 0, none⟩ = A0 ∧ m = sl.length ∧ d = c0 := by simpa using e0
  have TR : TbIn w (fun q => N ≤ q) l sl A n c (some ⟨g, 0, none⟩) m d x k := ⟨hh.rd, by unfold maxLen; omega, hlen, by rw [← hlen]; exact hcap, hsin, hx, by unfold I64; omega⟩
  have LF : Hid (∀ w', Below w.heap.size w w' → Calls Tryz.prog 178 #[tbV b A n c (some ⟨g, 0, none⟩) m d x k, kyV y] w' (LtQ w' (fd sl y m))) := Lib.hid fun w' hb => by
    have h1 : TbIn w' (fun q => N ≤ q) l sl A n c (some ⟨g, 0, none⟩) m d x k := ⟨TR.heads.below hb, TR.hn, TR.len, TR.cap, TR.slots.below hb, TR.next, TR.count⟩
    cases b with
    | false => exact l7Find_f w' h1 hok y
    | true => exact l7Find_t w' h1 hok y hys
  obtain ⟨W, HW⟩ : ∃ W, Hid (fd sl y m = W) := ⟨_, Lib.hid rfl⟩
  have HWB : Hid (-1 ≤ W ∧ W < m) := Lib.hid (HW.out ▸ fd_bd sl y m)
  rw [HW.out] at LF ⊢
  have HH := Lib.hid hh
  have HS := Lib.hid hs
  have HLO := Lib.hid hlo
  have HGW := Lib.hid (hs.block g rfl)
  have HML := Lib.hid hlen
  obtain ⟨arr, HG, HSA⟩ : ∃ arr, Hid (w.heap[g]? = some (.cells arr IS (0, 0))) ∧ Hid (m * 10 ≤ arr.size) := by
    obtain ⟨xs, h1, -⟩ := hs
    rcases h1.2 with ⟨e, -⟩ | ⟨g', cap, cur, e, -, hgc, hnc, -, hsz, -⟩
    · cases e
    · obtain ⟨rfl, -, rfl⟩ : g = g' ∧ m = sl.length ∧ d = cap := by simpa using e
      exact ⟨cur, Lib.hid hgc, Lib.hid (by rw [← hlen, hsz]; exact Nat.mul_le_mul_right 10 hnc)⟩
  obtain ⟨yb, yn, ys⟩ := y
  unfold kyV at LF ⊢
  simp only at LF
  obtain ⟨hk1, hk2⟩ := hk
  have hP : N ≤ g ∧ g < P := by rw [← HP.out]; exact HGW.out
  clear hh hn hlo hs hlen hx hok hys TR hsin hcap e0 HW
  go_enter Tryz.func125, Tryz.ntmps125
  go_upto_region 1 with fail
  rw [HP.out]
  generalize hw0 : ((w.alloc (.cells #[.bool b, .slice A n c, .slice (some ⟨g, 0, none⟩) m d, .int .i64 x, .int .i64 k] IT)).alloc (.cells #[.bool yb, .int .i64 yn, .string ys] 29)).alloc (.cells #[.bool false, .slice none 0 0, .slice none 0 0, .int .i64 0, .int .i64 0] IT) = w0
  obtain ⟨a0, a1, a2, az, ab⟩ := al3t w _ _ _ _ _ _ w0 hw0
  rw [HP.out] at a0 a1 a2 az
  have H0 := Lib.hid a0
  have H1 := Lib.hid a1
  have H2 := Lib.hid a2
  have HB := Lib.hid ab
  have r0 := (rowc H0.out).1
  have y0 := r0 0; have y1 := r0 1; have y2 := r0 2; have y3 := r0 3; have y4 := r0 4
  have r1 := (rowc H1.out).1
  have z0 := r1 0; have z1 := r1 1; have z2 := r1 2
  simp at y0 y1 y2 y3 y4 z0 z1 z2
  clear hw0 a0 a1 a2 az ab r0 r1
  go_wp2_with (fail)
  refine (LF.out _ HB.out).mono ?_
  rintro e w1 ⟨rfl, hb⟩
  replace H0 := Lib.hid (carry hb H0.out)
  replace H2 := Lib.hid (carry hb H2.out)
  replace HB := Lib.hid (bs HB.out hb)
  clear y0 y1 y2 y3 y4 z0 z1 z2 hb H1 LF
  have r0 := (rowc H0.out).1
  have f0 := (rowc H0.out).2
  have y0 := r0 0; have y1 := r0 1; have y2 := r0 2; have y3 := r0 3; have y4 := r0 4
  have r2 := (rowc H2.out).1
  have f2 := (rowc H2.out).2
  have v0 := r2 0; have v1 := r2 1; have v2 := r2 2; have v3 := r2 3; have v4 := r2 4
  simp at y0 y1 y2 y3 y4 v0 v1 v2 v3 v4
  clear r0 r2
  by_cases hv : W = -1
  · subst hv
    go_wp2_with (fail)
    generalize hwF : World.setCell (World.setCell (World.setCell (World.setCell (World.setCell w1 _ _) _ _) _ _) _ _) _ _ = wF
    obtain ⟨rF, oF, bF⟩ := fill5s H2.out hwF
    have HBF := bF w.heap.size w (by rw [HP.out]; omega) HB.out
    clear hwF
    exact bodyPost_ret (v := tbV b A n c (some ⟨g, 0, none⟩) m d x k) (by simp [results, Tryz.results125, go_sem, rF, tbV]) rfl ⟨rfl, HH.out.below HBF, HS.out.below HBF, Fr.of HBF⟩
  · obtain ⟨i, rfl⟩ : ∃ i : Nat, W = i := ⟨W.toNat, by have := HWB.out; omega⟩
    have hii : (i : Int) < (m : Int) := HWB.out.2
    have hi : i < m := by omega
    have h0i : (0 : Int) ≤ (i : Int) := by omega
    have HG1 := Lib.hid (carry HB.out HG.out)
    obtain ⟨r1, f1⟩ := rowc HG1.out
    have hsz := HSA.out
    have z : ∀ q, q < 10 → ∃ u, w1.cell? ⟨g, i * 10 + q, none⟩ = some u := fun q hq => ⟨_, (r1 _).trans (Array.getElem?_eq_getElem (by omega))⟩
    obtain ⟨u8, z8⟩ := z 8 (by omega)
    clear z r1
    go_upto_region 4 with fail
    generalize hw2 : w1.setCell ⟨g, i * 10 + 8, none⟩ (.bool false) = w2
    have HG2 : Hid (w2.heap[g]? = some (.cells (arr.setIfInBounds (i * 10 + 8) (.bool false)) IS (0, 0))) := Lib.hid (by rw [← hw2]; exact set_heap HG1.out _ _)
    have ho2 : ∀ q, q ≠ g → w2.heap[q]? = w1.heap[q]? := fun q h => by rw [← hw2, set_other h]
    have H02 := Lib.hid ((ho2 P (by omega)).trans H0.out)
    have H22 := Lib.hid ((ho2 (P + 2) (by omega)).trans H2.out)
    have HF2 : Hid (Fr (fun q => q = g) w w2) := Lib.hid (by rw [← hw2]; exact (Fr.of HB.out).trans (fr_set1 _ _ _ _))
    obtain ⟨r1, f1⟩ := rowc HG2.out
    have z : ∀ q, q < 10 → ∃ u, w2.cell? ⟨g, i * 10 + q, none⟩ = some u := fun q hq => ⟨_, (r1 _).trans (Array.getElem?_eq_getElem (by rw [Array.size_setIfInBounds]; omega))⟩
    obtain ⟨u3, z3⟩ := z 3 (by omega)
    obtain ⟨u4, z4⟩ := z 4 (by omega)
    obtain ⟨u5, z5⟩ := z 5 (by omega)
    obtain ⟨u6, z6⟩ := z 6 (by omega)
    obtain ⟨u7, z7⟩ := z 7 (by omega)
    have y2 : w2.cell? ⟨P, 2, none⟩ = some (.slice (some ⟨g, 0, none⟩) m d) := (rowc H02.out).1 2
    clear hw2 ho2 z z8 r1 y0 y1 y3 y4 v0 v1 v2 v3 v4 f0 f2 HG1 H0 H2
    go_upto_region 5 with fail
    rw [show i * 10 + 3 + 1 = i * 10 + 4 from rfl, show i * 10 + 3 + 2 = i * 10 + 5 from rfl, show i * 10 + 3 + 3 = i * 10 + 6 from rfl, show i * 10 + 3 + 4 = i * 10 + 7 from rfl]
    generalize hw3 : World.setCell (World.setCell (World.setCell (World.setCell (World.setCell w2 _ _) _ _) _ _) _ _) _ _ = w3
    have HG3 : Hid (w3.heap[g]? = some (.cells (clr arr (i * 10)) IS (0, 0))) := Lib.hid (by
      rw [← hw3]
      unfold clr
      with_reducible exact set_heap (set_heap (set_heap (set_heap (set_heap HG2.out _ _) _ _) _ _) _ _) _ _)
    have ho3 : ∀ q, q ≠ g → w3.heap[q]? = w2.heap[q]? := fun q h => by rw [← hw3, set_other h, set_other h, set_other h, set_other h, set_other h]
    have H03 := Lib.hid ((ho3 P (by omega)).trans H02.out)
    have H23 := Lib.hid ((ho3 (P + 2) (by omega)).trans H22.out)
    have HF3 : Hid (Fr (fun q => q = g) w w3) := Lib.hid (by
      rw [← hw3]
      exact ((((HF2.out.trans (fr_set1 _ _ _ _)).trans (fr_set1 _ _ _ _)).trans (fr_set1 _ _ _ _)).trans (fr_set1 _ _ _ _)).trans (fr_set1 _ _ _ _))
    have y4 : w3.cell? ⟨P, 4, none⟩ = some (.int .i64 k) := (rowc H03.out).1 4
    have f4 := (rowc H03.out).2
    clear hw3 ho3 z3 z4 z5 z6 z7 f1 y2 H02 H22 HF2 HG2
    go_upto_region 6 with fail
    generalize hw4 : w3.setCell ⟨P, 4, none⟩ (.int .i64 (k - 1)) = w4
    have H04 : Hid (w4.heap[P]? = some (.cells #[.bool b, .slice A n c, .slice (some ⟨g, 0, none⟩) m d, .int .i64 x, .int .i64 (k - 1)] IT (0, 0))) := Lib.hid (by
      rw [← hw4]
      have := set_heap H03.out 4 (.int .i64 (k - 1))
      simpa using this)
    have ho4 : ∀ q, q ≠ P → w4.heap[q]? = w3.heap[q]? := fun q h => by rw [← hw4, set_other h]
    have H24 := Lib.hid ((ho4 (P + 2) (by omega)).trans H23.out)
    have HG4 := Lib.hid ((ho4 g (by omega)).trans HG3.out)
    have HF4 : Hid (Fr (fun q => q = g ∨ P ≤ q) w w4) := Lib.hid (by
      rw [← hw4]
      exact (HF3.out.mono fun q h => .inl h).trans (Fr.set (.inr (Nat.le_refl _)) _ _))
    have r0 := (rowc H04.out).1
    have y0 := r0 0; have y1 := r0 1; have y2 := r0 2; have y3 := r0 3; have y5 := r0 4
    have r2 := (rowc H24.out).1
    have f2 := (rowc H24.out).2
    have v0 := r2 0; have v1 := r2 1; have v2 := r2 2; have v3 := r2 3; have v4 := r2 4
    simp at y0 y1 y2 y3 y5 v0 v1 v2 v3 v4
    clear hw4 ho4 y4 f4 r0 r2 H03 H23 HG3 HF3
    go_wp2_with (fail)
    generalize hwF : World.setCell (World.setCell (World.setCell (World.setCell (World.setCell w4 _ _) _ _) _ _) _ _) _ _ = wF
    have HFF : Hid (Fr (fun q => q = g ∨ P ≤ q) w wF) := Lib.hid (by
      rw [← hwF]
      exact ((((HF4.out.trans (Fr.set (.inr (by omega)) _ _)).trans (Fr.set (.inr (by omega)) _ _)).trans (Fr.set (.inr (by omega)) _ _)).trans (Fr.set (.inr (by omega)) _ _)).trans (Fr.set (.inr (by omega)) _ _))
    obtain ⟨rF, oF, -⟩ := fill5s H24.out hwF
    clear hwF
    have hfr : Fr (fun q => q = g) w wF := ⟨HFF.out.os, HFF.out.tape, HFF.out.output, HFF.out.size, fun q hq hn => HFF.out.block q hq fun h => by
      rcases h with h | h
      · exact hn h
      · have := HP.out; omega⟩
    have hgF : wF.heap[g]? = some (.cells (clr arr (i * 10)) IS (0, 0)) := (oF g (by omega)).trans HG4.out
    have htd : tdSl sl (i : Int) = dropS sl i := by
      unfold tdSl
      rw [if_neg (by omega), Int.toNat_natCast]
    have hct : tdCt k (i : Int) = k - 1 := by
      unfold tdCt
      rw [if_neg (by omega)]
    refine bodyPost_ret (v := tbV b A n c (some ⟨g, 0, none⟩) m d x (k - 1)) (by simp [results, Tryz.results125, go_sem, rF, tbV]) rfl ⟨by rw [hct], owni_at HH.out fun q e => hfr.block q ?_ ?_, ?_, hfr⟩
    · exact (HH.out.block q e).2
    · have := HLO.out q e
      omega
    · rw [htd]
      refine HS.out.del (by rw [HML.out]; exact hi) (fun arr' hg' => ?_) (fun q hq _ hl => hfr.block q hl hq)
      have e : arr' = arr := (Obj.cells.inj (Option.some.inj (hg'.symm.trans HG.out))).1
      rw [e]
      exact hgF

end Go.Proofs.YtdglmnmalfpipaaGreatDoor.tree

