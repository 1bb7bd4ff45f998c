/-
  FindSlot of the project.
  Conditions: those that each theorem names; the package variables of the library's reading of numbers hold what the program's text lays.
-/
import Derived.Test.YtdgfpfkhcojgaaaGreatDoorTBB4
namespace Go.Proofs.YtdgfpfkhcojgaaaGreatDoor.tree
open Go.ChangeShapes Go.WideShapes Go.ChangeAt Go.RowKit
set_option linter.unusedVariables false

abbrev Z8 : Array Value := #[.int .i64 0, .int .i64 0, .int .i64 0, .int .i64 0, .int .i64 0, .int .i64 0, .int .i64 0, .int .i64 0]

set_option maxRecDepth 100000 in
set_option maxHeartbeats 4000000 in
theorem findSlot_i {l : List Int} {sl : List Sl} {b : Bool} {A : Option Addr} {n c : Nat} {B : Option Addr} {m d : Nat} {x k : Int} (w : World) {S : Nat → Prop} (hr : TbIn w S l sl A n c B m d x k) (hok : tabOk b l sl x k) (y : Ky) (hys : y.str.size ≤ 140737488355328) :
    Calls Tryz.prog 66 #[tbV b A n c B m d x k, kyV y] w (LtQ w (fd sl y m)) := by
  obtain ⟨g, HG⟩ : ∃ g, Hid (w.heap.size + 2 = g) := ⟨_, Lib.hid rfl⟩
  have hm : m ≤ 1024 := by have := hok.len.1; rw [hr.len] at this; exact this
  have CH : Hid (∀ w', w'.heap[g]? = some (.cells Z8 T8 (0, 0)) → Below w.heap.size w w' → Calls Tryz.prog 122 #[.slice (some ⟨g, 0, none⟩) 0 8, tbV b A n c B m d x k, kyV y] w' (ChQ w' g m sl y)) := Lib.hid fun w' h8 hb => by
    have hr' : TbIn w' (fun b => b < w.heap.size) l sl A n c B m d x k := ⟨hr.heads.below hb, hr.hn, hr.len, hr.cap, hr.slots.lt'.below hb, hr.next, hr.count⟩
    cases b with
    | false => exact chain_f w' hr' hok y g Z8 h8 rfl
    | true => exact chain_t w' hr' hok y hys g (fun b hb2 => by have := HG.out; omega) Z8 h8 rfl
  have HS := Lib.hid hr.slots
  have HLN := Lib.hid hr.len
  obtain ⟨W, HW⟩ : ∃ W, Hid (fd sl y m = W) := ⟨_, Lib.hid rfl⟩
  rw [HW.out]
  obtain ⟨yb, yn, ys⟩ := y
  unfold kyV at CH ⊢
  simp only at CH
  clear hr hok hys
  go_enter Tryz.func66, Tryz.ntmps66
  go_upto_region 2 with fail
  generalize hw0 : ((w.alloc (.cells #[.bool b, .slice A n c, .slice B m d, .int .i64 x, .int .i64 k] IT)).alloc (.cells #[.bool yb, .int .i64 yn, .string ys] 29)).alloc (.cells Z8 T8) = w0
  have hA : w0.heap[w.heap.size]? = some (.cells #[.bool b, .slice A n c, .slice B m d, .int .i64 x, .int .i64 k] IT (0, 0)) := hw0 ▸ keepAlloc (heap_alloc2_old w _ _)
  have hY : w0.heap[w.heap.size + 1]? = some (.cells #[.bool yb, .int .i64 yn, .string ys] 29 (0, 0)) := hw0 ▸ keepAlloc (heap_alloc2_new w _ _)
  have hZ : w0.heap[g]? = some (.cells Z8 T8 (0, 0)) := by
    rw [← hw0, ← HG.out]
    have := heap_alloc_new ((w.alloc (.cells #[.bool b, .slice A n c, .slice B m d, .int .i64 x, .int .i64 k] IT)).alloc (.cells #[.bool yb, .int .i64 yn, .string ys] 29)) (.cells Z8 T8)
    rwa [show ((w.alloc (.cells #[.bool b, .slice A n c, .slice B m d, .int .i64 x, .int .i64 k] IT)).alloc (.cells #[.bool yb, .int .i64 yn, .string ys] 29)).heap.size = w.heap.size + 2 by simp] at this
  have hb0 : Below w.heap.size w w0 := hw0 ▸ bs (b2 _ _ _) (b1 _ _)
  have HA := Lib.hid hA
  have HY := Lib.hid hY
  have HZ := Lib.hid hZ
  have HB := Lib.hid hb0
  have r0 := (rowc HA.out).1
  have y0 := r0 0; have y1 := r0 1; have y2 := r0 2; have y3 := r0 3; have y4 := r0 4
  have r1 := (rowc HY.out).1
  have z0 := r1 0; have z1 := r1 1; have z2 := r1 2
  simp at y0 y1 y2 y3 y4 z0 z1 z2
  rw [HG.out]
  clear hw0 hA hY hZ hb0 r0 r1
  go_wp2_with (fail)
  go_region_held3 (fun w' => w'.cell? ⟨w.heap.size, 0, none⟩ = some (.bool b) ∧ w'.cell? ⟨w.heap.size, 1, none⟩ = some (.slice A n c) ∧ w'.cell? ⟨w.heap.size, 2, none⟩ = some (.slice B m d) ∧ w'.cell? ⟨w.heap.size, 3, none⟩ = some (.int .i64 x) ∧ w'.cell? ⟨w.heap.size, 4, none⟩ = some (.int .i64 k) ∧ w'.cell? ⟨w.heap.size + 1, 0, none⟩ = some (.bool yb) ∧ w'.cell? ⟨w.heap.size + 1, 1, none⟩ = some (.int .i64 yn) ∧ w'.cell? ⟨w.heap.size + 1, 2, none⟩ = some (.string ys)) (first | go_keep | exact ⟨y0, y1, y2, y3, y4, z0, z1, z2⟩) (first
    | (go_at_call 122; refine (CH.out w0.drew HZ.out HB.out.drew).mono ?_
       rintro e w1 ⟨A1, L1, c1, r, rfl, hoc, hri, hsr, hL1, hg1⟩
       have hgs := HG.out
       have HA1 := Lib.hid ((hg1.block _ (Array.getElem?_eq_some_iff.1 HA.out).1 (fun e => by have := Option.some.inj e; omega)).trans HA.out)
       have HY1 := Lib.hid ((hg1.block _ (Array.getElem?_eq_some_iff.1 HY.out).1 (fun e => by have := Option.some.inj e; omega)).trans HY.out)
       have HB1 := Lib.hid (HB.out.drew.grown hg1 HB.out.drew.size (fun j e => by have := Option.some.inj e; omega))
       have HRD := Lib.hid hoc.rd
       have HRI := Lib.hid hri
       have HSR := Lib.hid (hsr.trans HW.out)
       have r0 := (rowc HA1.out).1
       have y0 := r0 0; have y1 := r0 1; have y2 := r0 2; have y3 := r0 3; have y4 := r0 4
       have r1 := (rowc HY1.out).1
       have z0 := r1 0; have z1 := r1 1; have z2 := r1 2
       simp at y0 y1 y2 y3 y4 z0 z1 z2
       clear hoc hri hsr hg1 r0 r1 hgs))
  clear y0 y1 y2 y3 y4 z0 z1 z2
  go_wp2_with (fail)
  go_loopg [13] (L1 + 1) (fun gk s wr => ∃ j : Nat, s = .int .i64 j ∧ gk + j = L1 + 1 ∧ j ≤ L1 ∧ Hid (sr sl ⟨yb, yn, ys⟩ (r.drop j) = W) ∧ Hid (Below w1.heap.size w1 wr))
  case atStart => exact ⟨0, rfl, by omega, by omega, HSR, Lib.hid (Below.refl _ _)⟩
  case round =>
    obtain ⟨j, rfl, hgj, hjL, HQ, HX⟩ := hrel
    have HAx := Lib.hid (carry HX.out HA1.out)
    have HYx := Lib.hid (carry HX.out HY1.out)
    have HBx := Lib.hid (bs HB1.out HX.out)
    by_cases hlt : j < L1
    · obtain ⟨ar, v, rfl, hv, hcv⟩ := (HRD.out.below HX.out).at_ hlt
      obtain ⟨i, rfl, him⟩ : ∃ i : Nat, v = i ∧ i < m := by
        have := HRI.out v (List.mem_of_getElem? hv)
        exact ⟨v.toNat, by omega, by omega⟩
      obtain ⟨t, ht⟩ : ∃ t, sl[i]? = some t := ⟨_, List.getElem?_eq_getElem (by have := HLN.out; omega)⟩
      have HD : Hid ((if t.live = true ∧ t.key = ⟨yb, yn, ys⟩ then (i : Int) else sr sl ⟨yb, yn, ys⟩ (r.drop (j + 1))) = W) := Lib.hid (by
        have h := HQ.out
        obtain ⟨hj, e⟩ := List.getElem?_eq_some_iff.1 hv
        rw [List.drop_eq_getElem_cons hj, e, sr_cons ht] at h
        exact h)
      obtain ⟨a2, k2, n2, s2, x2, ks2, vs2, A2, c2, ea, -, -, -, -, -, hcell⟩ := HS.out i t ht
      subst ea
      have hc10 := hcell.stays (w' := wr) (fun hl => HBx.out.block _ hl)
      obtain ⟨⟨y2b, y2n, y2s⟩, tv2, tb2, tl2⟩ := t
      have NE := fun w => ky_eql w ⟨y2b, y2n, y2s⟩ ⟨yb, yn, ys⟩
      obtain ⟨q9, HQ9⟩ : ∃ q, Hid (decide ((⟨y2b, y2n, y2s⟩ : Ky) = ⟨yb, yn, ys⟩) = q) := ⟨_, Lib.hid rfl⟩
      rw [HQ9.out] at NE
      unfold kyV at NE
      simp only at NE
      obtain ⟨p0, p1, p2, -, -, -, -, -, p8, -⟩ := hc10
      simp only at p0 p1 p2 p8
      have y2 := (rowc HAx.out).1 2
      have r1 := (rowc HYx.out).1
      have z0 := r1 0; have z1 := r1 1; have z2 := r1 2
      simp at y2 z0 z1 z2
      have him2 : (i : Int) < (m : Int) := by omega
      clear hv ht hcell r1
      cases tb2 with
      | false =>
        have HN : Hid (sr sl ⟨yb, yn, ys⟩ (r.drop (j + 1)) = W) := Lib.hid (by have := HD.out; simpa using this)
        go_wp2_with (fail)
        go_quiet ((fail))
        go_wp2_with (fail)
        go_roundg (L1 - j)
        case rel => exact ⟨j + 1, by go_num, by omega, by omega, HN, Lib.hid (bs HX.out (kbelow_drew _ _))⟩
        case measure => omega
      | true =>
        cases q9 with
        | false =>
          have HN : Hid (sr sl ⟨yb, yn, ys⟩ (r.drop (j + 1)) = W) := Lib.hid (by
            have h := HD.out
            rw [if_neg (fun h => of_decide_eq_false HQ9.out h.2)] at h
            exact h)
          go_wp2_with (fail)
          go_quiet ((fail))
          go_wp2_with (fail)
          go_roundg (L1 - j)
          case rel => exact ⟨j + 1, by go_num, by omega, by omega, HN, Lib.hid (bs HX.out (kbelow_drew _ _))⟩
          case measure => omega
        | true =>
          have HN : Hid ((i : Int) = W) := Lib.hid (by
            have h := HD.out
            rw [if_pos ⟨rfl, of_decide_eq_true HQ9.out⟩] at h
            exact h)
          go_wp2_with (fail)
          go_quiet ((fail))
          go_wp2_with (fail)
          go_ret
          exact ⟨by rw [← HN.out]; rfl, bs HBx.out (kbelow_drew _ _)⟩
    · obtain rfl : j = L1 := by omega
      have HN : Hid (-1 = W) := Lib.hid (by
        have h := HQ.out
        rw [List.drop_eq_nil_of_le (Nat.le_of_eq HRD.out.len)] at h
        exact h)
      go_wp2_with (fail)
      go_ret
      exact ⟨by rw [← HN.out]; rfl, HBx.out⟩

def FsQ (w : World) (p : Prop) (z : Int) (e : Ending) (w' : World) : Prop := ∃ v : Int, e = .returned (.int .i64 v) ∧ ((p ∧ v = z) ∨ (¬ p ∧ v = -1)) ∧ Below w.heap.size w w'
theorem findTable_i {l : List Int} {sl : List Sl} {b : Bool} {A : Option Addr} {n c : Nat} {B : Option Addr} {m d : Nat} {x k : Int} (w : World) {S : Nat → Prop} (hr : TbIn w S l sl A n c B m d x k) (hn : n ≤ 1048576) (hm : m ≤ 1048576) (hst : SlB sl) (hE : prs.Env w) (y : Ky) (hys : y.str.size ≤ 140737488355328) :
    Calls Tryz.prog 20 #[tbV b A n c B m d x k, kyV y] w (FsQ w (tabOk b l sl x k) (fd sl y m)) := by
  have TR : Hid (∀ w', Below w.heap.size w w' → TbIn w' S l sl A n c B m d x k) := Lib.hid fun w' hb => ⟨hr.heads.below hb, hr.hn, hr.len, hr.cap, hr.slots.below hb, hr.next, hr.count⟩
  have IS : Hid (∀ w', Below w.heap.size w w' → Calls Tryz.prog 50 #[tbV b A n c B m d x k] w' (BoP w' (tabOk b l sl x k))) := Lib.hid fun w' hb => isTable_i w' (TR.out w' hb) hn hm hst (hE.stays hb)
  have FI : Hid (tabOk b l sl x k → ∀ w', Below w.heap.size w w' → Calls Tryz.prog 66 #[tbV b A n c B m d x k, kyV y] w' (LtQ w' (fd sl y m))) := Lib.hid fun hok w' hb => findSlot_i w' (TR.out w' hb) hok y hys
  obtain ⟨W, HW⟩ : ∃ W, Hid (fd sl y m = W) := ⟨_, Lib.hid rfl⟩
  rw [HW.out] at FI ⊢
  obtain ⟨yb, yn, ys⟩ := y
  unfold kyV at FI ⊢
  simp only at FI
  clear hr hst hE hys TR
  go_enter Tryz.func20, Tryz.ntmps20
  go_wp2_with (fail)
  refine (IS.out _ (b2 _ _ _)).mono ?_
  rintro e w1 ⟨q, rfl, hq, hb⟩
  have HA := Lib.hid (carry hb (heap_alloc2_old w _ _))
  have HY := Lib.hid (carry hb (heap_alloc2_new w _ _))
  have HB := Lib.hid (bs (b2 _ _ _) hb)
  have HQ := Lib.hid hq
  have r0 := (rowc HA.out).1
  have y0 := r0 0; have y1 := r0 1; have y2 := r0 2; have y3 := r0 3; have y4 := r0 4
  have r1 := (rowc HY.out).1
  have z0 := r1 0; have z1 := r1 1; have z2 := r1 2
  simp at y0 y1 y2 y3 y4 z0 z1 z2
  clear hb hq r0 r1 IS
  cases q with
  | false =>
    have HF : Hid (¬ tabOk b l sl x k) := Lib.hid (fun h => by have := HQ.out.2 h; cases this)
    go_wp2_with (fail)
    go_ret
    exact ⟨-1, rfl, .inr ⟨HF.out, rfl⟩, HB.out⟩
  | true =>
    have HF : Hid (tabOk b l sl x k) := Lib.hid (HQ.out.1 rfl)
    go_wp2_with (fail)
    refine (FI.out HF.out _ HB.out).mono ?_
    rintro e w2 ⟨rfl, hb⟩
    replace HB := Lib.hid (bs HB.out hb)
    clear hb y0 y1 y2 y3 y4 z0 z1 z2
    go_wp2_with (fail)
    go_ret
    exact ⟨W, rfl, .inl ⟨HF.out, rfl⟩, HB.out⟩

end Go.Proofs.YtdgfpfkhcojgaaaGreatDoor.tree

