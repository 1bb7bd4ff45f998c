/-
  FindSlot of the model.
  Conditions: those that each theorem names; the package variables of the library's reading of numbers hold what the program's text lays.
-/
import Derived.Test.YtdgfpfkhcojgaaaGreatDoorTBSSlotI
import Derived.Test.YtdgfpfkhcojgaaaGreatDoorTBSTabG
namespace Go.Proofs.YtdgfpfkhcojgaaaGreatDoor.tree
open Go.ChangeShapes Go.WideShapes Go.ChangeAt Go.RowKit
set_option linter.unusedVariables false

set_option maxRecDepth 100000 in
set_option maxHeartbeats 4000000 in
theorem l7Find_f {l : List Int} {sl : List Sl} {A : Option Addr} {n c : Nat} {B : Option Addr} {m d : Nat} {x k : Int} (w : World) {S : Nat → Prop} (hr : TbIn w S l sl A n c B m d x k) (hok : tabOk false l sl x k) (y : Ky) :
    Calls Tryz.prog 128 #[tbV false A n c B m d x k, kyV y] w (LtQ w (fd sl y m)) := by
  have hlen := hr.len
  have hpk : ∀ (i : Nat) t, sl[i]? = some t → t.key = ixK i := fun i t h => by
    rcases (hok.2.2.2.1 i t h).1 with h | h
    · cases h
    · exact h
  have hm := hok.len.1
  rw [hlen] at hm
  obtain ⟨W, HW⟩ : ∃ W, Hid (fd sl y m = W) := ⟨_, Lib.hid rfl⟩
  rw [HW.out]
  obtain ⟨q, HQ⟩ : ∃ q, Hid (nums.inr y.num 0 ((m : Int) - 1) = q) := ⟨_, Lib.hid rfl⟩
  have LI : ∀ w, Calls Tryz.prog 56 #[.int .i64 y.num, .int .i64 0, .int .i64 ((m : Int) - 1)] w fun e w' => e = .returned (.bool q) ∧ w' = w := fun w => (HQ.out ▸ nums.l1In y.num 0 ((m : Int) - 1) w).mono fun e w' h => ⟨h.1, h.2.symm⟩
  by_cases hyb : y.text = true
  · have HF : Hid (-1 = W) := Lib.hid (by
      rw [← HW.out]
      rcases fd_packed hpk y m (by omega) with h | ⟨i, t, h1, h2, h3, h4, h5, h6⟩
      · exact h.symm
      · rw [h5] at hyb
        cases hyb)
    obtain ⟨yb, yn, ys⟩ := y
    simp only at hyb
    subst hyb
    unfold kyV
    clear hr hok hpk LI HQ
    go_enter Tryz.func128, Tryz.ntmps128
    go_wp2_with (fail)
    go_quiet ((fail))
    go_wp2_with (fail)
    go_ret
    exact ⟨by rw [← HF.out]; rfl, bs (b2 _ _ _) (kbelow_drew _ _)⟩
  replace hyb : y.text = false := by simpa using hyb
  cases q with
  | false =>
    have HF : Hid (-1 = W) := Lib.hid (by
      have := fd_out (sl := sl) hpk (y := y) (by
        have h := HQ.out
        unfold nums.inr at h
        simp at h
        rw [hlen]
        omega)
      rw [hlen] at this
      rw [← HW.out, this])
    obtain ⟨yb, yn, ys⟩ := y
    simp only at hyb LI
    subst hyb
    unfold kyV
    clear hr hok hpk HQ
    go_enter Tryz.func128, Tryz.ntmps128
    go_wp2_with (fail)
    go_quiet (first | (go_at_call 56; refine Calls.quiet_of_same (LI _)))
    go_wp2_with (fail)
    go_ret
    exact ⟨by rw [← HF.out]; rfl, bs (b2 _ _ _) (kbelow_drew _ _)⟩
  | true =>
    obtain ⟨i, hi, him⟩ : ∃ i : Nat, y.num = i ∧ i < m := by
      have h := HQ.out
      unfold nums.inr at h
      simp at h
      exact ⟨y.num.toNat, by omega, by omega⟩
    obtain ⟨t, ht⟩ : ∃ t, sl[i]? = some t := ⟨_, List.getElem?_eq_getElem (by omega)⟩
    have HF : Hid ((if t.live = true ∧ t.key = y then (i : Int) else -1) = W) := Lib.hid (by
      have := fd_at (sl := sl) hpk (y := y) ht hi
      rw [hlen] at this
      rw [← HW.out, this])
    obtain ⟨a2, k2, n2, s2, x2, ks2, vs2, A2, c2, ea, -, -, -, -, -, hcell⟩ := hr.slots i t ht
    subst ea
    obtain ⟨yb, yn, ys⟩ := y
    simp only at hyb hi LI
    subst hyb hi
    have hc10 := hcell.stays (w' := (w.alloc (.cells #[.bool false, .slice A n c, .slice (some a2) m d, .int .i64 x, .int .i64 k] IT)).alloc (.cells #[.bool false, .int .i64 i, .string ys] 29)) (fun hl => (b2 w _ _).block _ hl)
    obtain ⟨⟨y2b, y2n, y2s⟩, tv2, tb2, tl2⟩ := t
    have NE := fun w => ky_eql w ⟨y2b, y2n, y2s⟩ ⟨false, i, ys⟩
    obtain ⟨q9, HQ9⟩ : ∃ q, Hid (decide ((⟨y2b, y2n, y2s⟩ : Ky) = ⟨false, i, ys⟩) = q) := ⟨_, Lib.hid rfl⟩
    rw [HQ9.out] at NE
    unfold kyV at NE ⊢
    simp only at NE
    obtain ⟨p0, p1, p2, -, -, -, -, -, p8, -⟩ := hc10
    simp only at p0 p1 p2 p8
    have him2 : (i : Int) < (m : Int) := by omega
    have hii : (0 : Int) ≤ (i : Int) := by omega
    clear hr hok hpk HQ ht hcell
    cases tb2 with
    | false =>
      have HN : Hid (-1 = W) := Lib.hid (by have := HF.out; simpa using this)
      go_enter Tryz.func128, Tryz.ntmps128
      go_wp2_with (fail)
      go_quiet (first | (go_at_call 56; refine Calls.quiet_of_same (LI _)))
      go_wp2_with (fail)
      go_ret
      exact ⟨by rw [← HN.out]; rfl, bs (b2 _ _ _) (kbelow_drew _ _)⟩
    | true =>
      cases q9 with
      | false =>
        have HN : Hid (-1 = W) := Lib.hid (by
          have h := HF.out
          rw [if_neg (fun h => of_decide_eq_false HQ9.out h.2)] at h
          exact h)
        go_enter Tryz.func128, Tryz.ntmps128
        go_wp2_with (fail)
        go_quiet (first | (go_at_call 56; refine Calls.quiet_of_same (LI _)))
        go_wp2_with (fail)
        go_ret
        exact ⟨by rw [← HN.out]; rfl, bs (b2 _ _ _) (kbelow_drew _ _)⟩
      | true =>
        have HN : Hid ((i : Int) = W) := Lib.hid (by
          have h := HF.out
          rw [if_pos ⟨rfl, of_decide_eq_true HQ9.out⟩] at h
          exact h)
        go_enter Tryz.func128, Tryz.ntmps128
        go_wp2_with (fail)
        go_quiet (first | (go_at_call 56; refine Calls.quiet_of_same (LI _)))
        go_wp2_with (fail)
        go_ret
        exact ⟨by rw [← HN.out]; rfl, bs (b2 _ _ _) (kbelow_drew _ _)⟩

set_option maxRecDepth 100000 in
set_option maxHeartbeats 4000000 in
theorem l7Find_t {l : List Int} {sl : List Sl} {A : Option Addr} {n c : Nat} {B : Option Addr} {m d : Nat} {x k : Int} (w : World) {S : Nat → Prop} (hr : TbIn w S l sl A n c B m d x k) (hok : tabOk true l sl x k) (y : Ky) (hys : y.str.size ≤ 140737488355328) :
    Calls Tryz.prog 128 #[tbV true A n c B m d x k, kyV y] w (LtQ w (fd sl y m)) := by
  have hlen := hr.len
  have hln : l.length = n := hr.heads.len
  have hm := hok.len.1
  have hp : p2 n := by have := (hok.2.1.1 rfl).1; rwa [hln] at this
  have hn8 : 8 ≤ n ∧ n ≤ 1024 := by unfold p2 at hp; omega
  rw [hlen] at hm
  obtain ⟨W, HW⟩ : ∃ W, Hid (fd sl y m = W) := ⟨_, Lib.hid rfl⟩
  rw [HW.out]
  obtain ⟨q, HQ⟩ : ∃ q : Nat, Hid (bk n y = q) := ⟨_, Lib.hid rfl⟩
  obtain ⟨z, HZ⟩ : ∃ z, Hid (kh y = z) := ⟨_, Lib.hid rfl⟩
  have hq : q < n := HQ.out ▸ bk_lt (by omega) y
  have hqi : (q : Int) < (n : Int) := by omega
  have hrem : z.tmod (n : Int) = (q : Int) := by
    rw [← HQ.out, ← bk_int (by omega), ← HZ.out, Int.tmod_eq_emod_of_nonneg (kh_in _).1]
  have KH : Hid (∀ w', Calls Tryz.prog 57 #[kyV y] w' (KhQ w' z)) := Lib.hid fun w' => HZ.out ▸ keyHash_s y hys w'
  obtain ⟨v, hv⟩ : ∃ v, l[q]? = some v := ⟨_, List.getElem?_eq_getElem (by omega)⟩
  have HV : Hid (v = last n sl q m) := Lib.hid (by
    have h1 := hok.2.2.2.2
    rw [hln, hlen] at h1
    have h2 := hs_get (n := n) (sl := sl) hq m
    rw [h1, hv] at h2
    exact Option.some.inj h2)
  have HLK : Hid (∀ (i : Nat) t, sl[i]? = some t → bk n t.key = q → t.link = last n sl q i) := Lib.hid (fun i t h hb => by
    have h1 := (hok.2.2.2.1 i t h).2
    rw [hln, lk_pos (by omega), hb] at h1
    exact h1)
  obtain ⟨a, ha, hc⟩ := hr.heads.2 (by omega)
  subst ha
  have HC : Hid (w.cell? (a.add q) = some (.int .i64 v)) := Lib.hid (hc q v hv)
  have HS := Lib.hid hr.slots
  have HLN := Lib.hid hlen
  have HBQ : Hid (bk n y = q) := Lib.hid HQ.out
  obtain ⟨yb, yn, ys⟩ := y
  unfold kyV at KH ⊢
  simp only at KH
  have hn1 := hn8.1
  have hn2 := hn8.2
  have hnz : ¬ n = 0 := by omega
  clear hn8
  clear hr hok hp hv hc hys hlen hln HQ
  go_enter Tryz.func128, Tryz.ntmps128
  go_upto_region 5 with fail
  generalize hw0 : (w.alloc (.cells #[.bool true, .slice (some a) n c, .slice B m d, .int .i64 x, .int .i64 k] IT)).alloc (.cells #[.bool yb, .int .i64 yn, .string ys] 29) = w0
  have hb0 : Below w.heap.size w w0 := hw0 ▸ b2 _ _ _
  have HA : Hid (w0.heap[w.heap.size]? = some (.cells #[.bool true, .slice (some a) n c, .slice B m d, .int .i64 x, .int .i64 k] IT (0, 0))) := Lib.hid (hw0 ▸ heap_alloc2_old w _ _)
  have HY : Hid (w0.heap[w.heap.size + 1]? = some (.cells #[.bool yb, .int .i64 yn, .string ys] 29 (0, 0))) := Lib.hid (hw0 ▸ heap_alloc2_new w _ _)
  have HB := Lib.hid hb0
  have y1 : w0.cell? ⟨w.heap.size, 1, none⟩ = some (.slice (some a) n c) := (rowc HA.out).1 1
  have z0 : w0.cell? ⟨w.heap.size + 1, 0, none⟩ = some (.bool yb) := (rowc HY.out).1 0
  have z1 : w0.cell? ⟨w.heap.size + 1, 1, none⟩ = some (.int .i64 yn) := (rowc HY.out).1 1
  have z2 : w0.cell? ⟨w.heap.size + 1, 2, none⟩ = some (.string ys) := (rowc HY.out).1 2
  have hcc : w0.cell? (a.add q) = some (.int .i64 v) := cell_stays (fun hl => hb0.block _ hl) HC.out
  clear hw0 hb0
  go_wp2_with (fail)
  go_region_held3 (fun w' => w'.cell? ⟨w.heap.size, 1, none⟩ = some (.slice (some a) n c) ∧ w'.cell? ⟨w.heap.size + 1, 0, none⟩ = some (.bool yb) ∧ w'.cell? ⟨w.heap.size + 1, 1, none⟩ = some (.int .i64 yn) ∧ w'.cell? ⟨w.heap.size + 1, 2, none⟩ = some (.string ys) ∧ w'.cell? (a.add q) = some (.int .i64 v)) (first | go_keep | exact ⟨y1, z0, z1, z2, hcc⟩) (first
    | (go_at_call 57; refine (KH.out _).mono ?_
       rintro e w1 ⟨rfl, hb1⟩
       have hbx := bs ((Below.refl w0.heap.size w0).drew) hb1
       have HA1 := Lib.hid (carry hbx HA.out)
       have HY1 := Lib.hid (carry hbx HY.out)
       have HB1 := Lib.hid (bs HB.out hbx)
       have hcc : w1.cell? (a.add q) = some (.int .i64 v) := cell_stays (fun hl => HB1.out.block _ hl) HC.out
       have y1 : w1.cell? ⟨w.heap.size, 1, none⟩ = some (.slice (some a) n c) := (rowc HA1.out).1 1
       have z0 : w1.cell? ⟨w.heap.size + 1, 0, none⟩ = some (.bool yb) := (rowc HY1.out).1 0
       have z1 : w1.cell? ⟨w.heap.size + 1, 1, none⟩ = some (.int .i64 yn) := (rowc HY1.out).1 1
       have z2 : w1.cell? ⟨w.heap.size + 1, 2, none⟩ = some (.string ys) := (rowc HY1.out).1 2
       clear hb1 hbx))
  clear z0 z1 z2 y1 hcc hrem
  go_wp2_with (fail)
  go_loopg [5] m (fun gk s wr => ∃ (J : Nat) (v : Int), s = .int .i64 v ∧ J ≤ gk ∧ J ≤ m ∧ Hid (v = last n sl q J) ∧ Hid (fd sl ⟨yb, yn, ys⟩ J = W) ∧ Hid (Below w1.heap.size w1 wr))
  case atStart => exact ⟨m, v, rfl, Nat.le_refl _, Nat.le_refl _, HV, HW, Lib.hid (Below.refl _ _)⟩
  case round =>
    obtain ⟨J, v1, rfl, hgk, hJ, HV1, HFD, HX⟩ := hrel
    have HAx := Lib.hid (carry HX.out HA1.out)
    have HYx := Lib.hid (carry HX.out HY1.out)
    have HBx := Lib.hid (bs HB1.out HX.out)
    rcases last_fd (sl := sl) HBQ.out J (by have := HLN.out; omega) with ⟨h1, h2⟩ | ⟨i, t, hi, h1, h2, h3, h4⟩
    · have hv1 : v1 = -1 := HV1.out.trans h1
      subst hv1
      have HN : Hid (-1 = W) := Lib.hid (h2.symm.trans HFD.out)
      clear h1 h2
      go_wp2_with (fail)
      go_ret
      exact ⟨by rw [← HN.out]; rfl, HBx.out⟩
    · have hv1 : v1 = (i : Int) := HV1.out.trans h1
      subst hv1
      have HD : Hid ((if t.live = true ∧ t.key = ⟨yb, yn, ys⟩ then (i : Int) else fd sl ⟨yb, yn, ys⟩ i) = W) := Lib.hid (by rw [← fd_succ h2, ← h4]; exact HFD.out)
      have HLI : Hid (t.link = last n sl q i) := Lib.hid (HLK.out i t h2 h3)
      obtain ⟨a2, k2, n2, s2, x2, ks2, vs2, A2, c2, ea, -, -, -, -, -, hcell⟩ := HS.out i t h2
      subst ea
      have hc10 := hcell.stays (w' := wr) (fun hl => HBx.out.block _ hl)
      obtain ⟨⟨y2b, y2n, y2s⟩, tv2, tb2, tl2⟩ := t
      simp only at HLI
      have NE := fun w => ky_eql w ⟨y2b, y2n, y2s⟩ ⟨yb, yn, ys⟩
      obtain ⟨q9, HQ9⟩ : ∃ q, Hid (decide ((⟨y2b, y2n, y2s⟩ : Ky) = ⟨yb, yn, ys⟩) = q) := ⟨_, Lib.hid rfl⟩
      rw [HQ9.out] at NE
      unfold kyV at NE
      simp only at NE
      have HC9 := Lib.hid hc10.c9
      obtain ⟨p0, p1, p2, -, -, -, -, -, p8, p9⟩ := hc10
      simp only at p0 p1 p2 p8 p9
      have y2 := (rowc HAx.out).1 2
      have r1 := (rowc HYx.out).1
      have z0 := r1 0; have z1 := r1 1; have z2 := r1 2
      simp at y2 z0 z1 z2
      have him2 : (i : Int) < (m : Int) := by omega
      clear h1 h2 h3 h4 hcell r1
      cases tb2 with
      | false =>
        have HN : Hid (fd sl ⟨yb, yn, ys⟩ i = W) := Lib.hid (by have := HD.out; simpa using this)
        go_wp2_with (fail)
        go_quiet ((fail))
        go_wp2_with (fail)
        go_roundg i
        case rel => exact ⟨i, tl2, rfl, Nat.le_refl _, by omega, HLI, HN, Lib.hid (bs HX.out (kbelow_drew _ _))⟩
        case measure => omega
      | true =>
        cases q9 with
        | false =>
          have HN : Hid (fd sl ⟨yb, yn, ys⟩ i = W) := Lib.hid (by
            have h := HD.out
            rw [if_neg (fun h => of_decide_eq_false HQ9.out h.2)] at h
            exact h)
          go_wp2_with (fail)
          go_quiet ((fail))
          go_wp2_with (fail)
          go_roundg i
          case rel => exact ⟨i, tl2, rfl, Nat.le_refl _, by omega, HLI, HN, Lib.hid (bs HX.out (kbelow_drew _ _))⟩
          case measure => omega
        | true =>
          have HN : Hid ((i : Int) = W) := Lib.hid (by
            have h := HD.out
            rw [if_pos ⟨rfl, of_decide_eq_true HQ9.out⟩] at h
            exact h)
          go_wp2_with (fail)
          go_quiet ((fail))
          go_wp2_with (fail)
          go_ret
          exact ⟨by rw [← HN.out]; rfl, bs HBx.out (kbelow_drew _ _)⟩


end Go.Proofs.YtdgfpfkhcojgaaaGreatDoor.tree

