/-
  What the texts behind this one use: 7 parts of one proof.
  Conditions: those that each theorem names.
-/
import Derived.Test.YtdgfpfkhcojgaaaGreatDoorTBB2
import Derived.Deep.RegionHeld3
import Derived.Deep.QuietTactic
import Derived.Deep.CutBlock
import Derived.Deep.DeepCutAuto
import Derived.Deep.LoopGhost
import Derived.BigQuiet
/-
  Whether the slots of a table are linked as they must be, of the project.
  Conditions: those that each theorem names.
-/
namespace Go.Proofs.YtdgfpfkhcojgaaaGreatDoor.tree
open Go.ChangeShapes Go.WideShapes Go.ChangeAt Go.RowKit
set_option linter.unusedVariables false

theorem spot_none {w : World} {a : Addr} {v : Value} (h : w.cell? a = some v) : a.spot = none := by
  unfold World.cell? at h
  split at h
  · split at h
    · cases h
    · rename_i hs
      cases e : a.spot with
      | none => rfl
      | some k => rw [e] at hs; simp at hs
  · cases h
theorem equal_i (n : Nat) (hn : n ≤ 1048576) (lo g c d : Nat) (A : Option Addr) (xs ys : List Int) (w : World) (ho : imem.OwnI w lo (some ⟨g, 0, none⟩) n c xs) (hr : imem.RdI w A n ys) :
    Calls Tryz.prog 149 #[.slice (some ⟨g, 0, none⟩) n c, .slice A n d] w (BoQ w (decide (xs = ys))) := by
  have l1 := ho.len
  have l2 := hr.len
  rcases Nat.eq_zero_or_pos n with hz | hp
  · subst hz
    refine (Tryz.slices_Equal_int_empty _ A c 0 d w (by omega)).mono ?_
    rintro e w1 ⟨rfl, rfl⟩
    have e1 : xs = [] := List.eq_nil_of_length_eq_zero l1
    have e2 : ys = [] := List.eq_nil_of_length_eq_zero l2
    subst e1 e2
    exact ⟨rfl, Below.refl _ _⟩
  · obtain ⟨a, rfl, hc⟩ := hr.2 hp
    obtain ⟨v0, h0⟩ : ∃ v, ys[0]? = some v := ⟨_, List.getElem?_eq_getElem (by omega)⟩
    have hs := spot_none (hc 0 v0 h0)
    have ha0 : a.add 0 = a := by unfold Addr.add; rw [if_pos rfl]
    rw [ha0] at hs
    obtain ⟨ab, ao, asp⟩ := a
    simp only at hs
    subst hs
    refine (Tryz.slices_Equal_int g 0 n c ab ao n d xs ys w (by omega) (by omega) (by omega) (by omega) (fun j hj => ?_) (fun j hj => ?_)).mono ?_
    · have hx : xs[j]? = some xs[j] := List.getElem?_eq_getElem hj
      have := ho.row.cellAt j (by omega)
      rw [Nat.zero_add, this, imem.ics_get hx, List.getD, hx]
      rfl
    · have hy : ys[j]? = some ys[j] := List.getElem?_eq_getElem hj
      have := hc j _ hy
      rw [Addr.add_lit] at this
      rw [this, List.getD, hy]
      rfl
    · rintro e w1 ⟨rfl, q, rfl⟩
      refine ⟨?_, kbelow_drew _ _⟩
      rw [List.take_of_length_le (by omega), List.take_of_length_le (by omega)]
      by_cases e : xs = ys
      · subst e; simp
      · simp [e]

set_option maxRecDepth 100000 in
set_option maxHeartbeats 4000000 in
theorem rightLinks_i {l : List Int} {sl : List Sl} {b : Bool} {A : Option Addr} {n c : Nat} {B : Option Addr} {m d : Nat} {x k : Int} (w : World) {S : Nat → Prop} (hr : TbIn w S l sl A n c B m d x k) (hn : n ≤ 1048576) (hm : m ≤ 1048576) (hst : ∀ (j : Nat) t, sl[j]? = some t → t.key.str.size ≤ 140737488355328) :
    Calls Tryz.prog 107 #[tbV b A n c B m d x k] w (BoP w (rowL b n sl ∧ hs n sl m = l)) := by
  have HR := Lib.hid hr
  have HST := Lib.hid hst
  have hlen : Hid (sl.length = m) := Lib.hid hr.len
  clear hr hst
  have NH := fun w => newHeads_i n hn w
  go_enter Tryz.func107, Tryz.ntmps107
  go_wp2_with (fail)
  refine (NH _).mono ?_
  rintro e w1 ⟨g, rfl, hg, ho, hb⟩
  have HA0 := Lib.hid (carry hb (heap_alloc_new w _))
  have HB0 := Lib.hid (bs (b1 w _) hb)
  have HG : Hid (w.heap.size < g) := Lib.hid (by simp at hg; omega)
  have HO := Lib.hid (ho.less (show w.heap.size + 1 ≤ _ by simp))
  have r0 := (rowc HA0.out).1
  have z2 := r0 2
  simp at z2
  clear hb ho hg r0 NH
  go_wp2_with (fail)
  go_loopg [14] (m + 1) (fun gk i wr => ∃ j : Nat, i = .int .i64 j ∧ gk + j = m + 1 ∧ j ≤ m ∧ Hid (∀ (i : Nat) t, i < j → sl[i]? = some t → linkS b n sl i t) ∧
    Hid (wr.heap[w.heap.size]? = some (.cells #[.bool b, .slice A n c, .slice B m d, .int .i64 x, .int .i64 k] IT (0, 0))) ∧ Hid (imem.OwnI wr (w.heap.size + 1) (some ⟨g, 0, none⟩) n n (hs n sl j)) ∧ Hid (Below w.heap.size w wr))
  case atStart => exact ⟨0, rfl, by omega, by omega, Lib.hid (fun i t h => absurd h (by omega)), HA0, HO, HB0⟩
  case round =>
    clear z2 HA0 HB0 HO
    obtain ⟨j, rfl, hgj, hjm, HL, HA, HO, HB⟩ := hrel
    by_cases hlt : j < m
    · obtain ⟨t, htj⟩ : ∃ t, sl[j]? = some t := ⟨_, List.getElem?_eq_getElem (by have := hlen.out; omega)⟩
      obtain ⟨a, k1, n1, s1, x1, ks1, vs1, A1, c1, rfl, -, hyb, hlb, hv, hT, hcell⟩ := HR.out.slots j t htj
      have hc10 := hcell.stays (w' := wr) (fun hl => HB.out.block _ hl)
      have hys := HST.out j t htj
      have HSU := Lib.hid (hs_succ (n := n) htj)
      have HTJ := Lib.hid htj
      obtain ⟨⟨yb, yn, ys⟩, tv, tb, tl⟩ := t
      simp only at hyb hlb hv hT hc10 hys
      obtain ⟨L1, HL1⟩ : ∃ L, Hid (vs1.length = L) := ⟨_, Lib.hid rfl⟩
      rw [HL1.out] at hc10
      obtain ⟨p0, p1, p2, p3, p4, p5, p6, p7, p8, p9⟩ := hc10
      simp only at p0 p1 p2
      clear hyb hlb hT hcell htj hv
      go_upto_region 5 with fail
      obtain ⟨R, HRR⟩ : ∃ R, Hid (wr.heap.size = R) := ⟨_, Lib.hid rfl⟩
      rw [HRR.out]
      generalize hw1 : wr.alloc (.cells #[.bool yb, .int .i64 yn, .string ys, .int .i64 k1, .int .i64 n1, .string s1, .int .i64 x1, .slice A1 L1 c1, .bool tb, .int .i64 tl] 92) = w2
      have hb1 : Below wr.heap.size wr w2 := hw1 ▸ b1 wr _
      have H10 : Hid (w2.heap[R]? = some (.cells #[.bool yb, .int .i64 yn, .string ys, .int .i64 k1, .int .i64 n1, .string s1, .int .i64 x1, .slice A1 L1 c1, .bool tb, .int .i64 tl] 92 (0, 0))) := Lib.hid (by rw [← hw1, ← HRR.out]; exact heap_alloc_new wr _)
      have HB2 := Lib.hid (bs HB.out hb1)
      have HA2 := Lib.hid (carry hb1 HA.out)
      have HO2 := Lib.hid (HO.out.below hb1)
      have HGR : Hid (g < R) := Lib.hid (by have h1 := HO.out.block g rfl; have := HRR.out; omega)
      have r10 := (rowc H10.out).1
      have z0 := r10 0; have z1 := r10 1; have z2 := r10 2; have z9 := r10 9
      simp at z0 z1 z2 z9
      have y0 := (rowc HA2.out).1 0
      simp at y0
      clear hw1 hb1 r10 HA HO p0 p1 p2 p3 p4 p5 p6 p7 p8 p9
      obtain ⟨v, HV⟩ : ∃ v, Hid (lk n sl j ⟨yb, yn, ys⟩ = v) := ⟨_, Lib.hid rfl⟩
      have LS : Hid (∀ w', imem.OwnI w' (w.heap.size + 1) (some ⟨g, 0, none⟩) n n (hs n sl j) → Calls Tryz.prog 148 #[.slice (some ⟨g, 0, none⟩) n n, .agg #[.bool yb, .int .i64 yn, .string ys], .int .i64 j] w' (LkQ w' (w.heap.size + 1) (some ⟨g, 0, none⟩) n n v (hs n sl (j + 1)))) := Lib.hid (fun w' h => by
        have := linkSlot_i n n hn _ _ _ ⟨yb, yn, ys⟩ hys j w' h
        rw [HSU.out, ← HV.out]
        exact this)
      have NE := fun w => ky_eql w ⟨yb, yn, ys⟩ (ixK j)
      obtain ⟨q, HQ⟩ : ∃ q, Hid (decide ((⟨yb, yn, ys⟩ : Ky) = ixK j) = q) := ⟨_, Lib.hid rfl⟩
      rw [HQ.out] at NE
      unfold kyV ixK at NE
      simp only at NE
      cases b with
      | true =>
        have HIN : Hid (true = true ∨ (⟨yb, yn, ys⟩ : Ky) = ixK j) := Lib.hid (.inl rfl)
        by_cases htl : tl = v
        · subst htl
          go_wp2_with (fail)
          go_region_held3 (fun w' => w'.cell? ⟨R, 0, none⟩ = some (.bool yb) ∧ w'.cell? ⟨R, 1, none⟩ = some (.int .i64 yn) ∧ w'.cell? ⟨R, 2, none⟩ = some (.string ys) ∧ w'.cell? ⟨R, 9, none⟩ = some (.int .i64 tl)) (first | go_keep | exact ⟨z0, z1, z2, z9⟩) (first
            | (go_at_call 148; refine (LS.out w2.drew HO2.out).mono ?_
               rintro e w3 ⟨rfl, ho3, hg3⟩
               replace hg3 : w2.drew.grownBy w3 (some g) := hg3
               have h3 : w3.heap[R]? = _ := (hg3.block R (Array.getElem?_eq_some_iff.1 H10.out).1 (fun e => by injection e with e; have := HGR.out; omega)).trans H10.out
               have HA3 := Lib.hid ((hg3.block _ (Array.getElem?_eq_some_iff.1 HA2.out).1 (fun e => by injection e with e; have := HG.out; omega)).trans HA2.out)
               have HB3 := Lib.hid (HB2.out.drew.grown hg3 HB2.out.drew.size (fun b e => by injection e with e; have := HG.out; omega))
               have HO3 := Lib.hid ho3
               have r3 := (rowc h3).1
               have z0 := r3 0; have z1 := r3 1; have z2 := r3 2; have z9 := r3 9
               simp at z0 z1 z2 z9
               clear h3 hg3 ho3 r3))
          go_wp2_with (fail)
          go_roundg (m - j)
          case rel =>
            refine ⟨j + 1, by go_num, by omega, by omega, Lib.hid (fun i t hi ht => ?_), HA3, HO3, HB3⟩
            rcases Nat.lt_or_ge i j with h | h
            · exact HL.out i t h ht
            · obtain rfl : i = j := by omega
              rw [HTJ.out] at ht
              obtain rfl := Option.some.inj ht
              exact ⟨by simp, HV.out.symm⟩
          case measure => omega
        · have htl2 : (tl != v) = true := by simp [htl]
          have HF : Hid (false = true ↔ (rowL true n sl ∧ hs n sl m = l)) := Lib.hid ⟨fun h => (by cases h), fun h => absurd ((h.1 j _ HTJ.out).2.trans HV.out) htl⟩
          clear htl
          go_wp2_with (fail)
          go_region_held3 (fun w' => w'.cell? ⟨R, 0, none⟩ = some (.bool yb) ∧ w'.cell? ⟨R, 1, none⟩ = some (.int .i64 yn) ∧ w'.cell? ⟨R, 2, none⟩ = some (.string ys) ∧ w'.cell? ⟨R, 9, none⟩ = some (.int .i64 tl)) (first | go_keep | exact ⟨z0, z1, z2, z9⟩) (first
            | (go_at_call 148; refine (LS.out w2.drew HO2.out).mono ?_
               rintro e w3 ⟨rfl, ho3, hg3⟩
               replace hg3 : w2.drew.grownBy w3 (some g) := hg3
               have h3 : w3.heap[R]? = _ := (hg3.block R (Array.getElem?_eq_some_iff.1 H10.out).1 (fun e => by injection e with e; have := HGR.out; omega)).trans H10.out
               have HB3 := Lib.hid (HB2.out.drew.grown hg3 HB2.out.drew.size (fun b e => by injection e with e; have := HG.out; omega))
               have r3 := (rowc h3).1
               have z0 := r3 0; have z1 := r3 1; have z2 := r3 2; have z9 := r3 9
               simp at z0 z1 z2 z9
               clear h3 hg3 ho3 r3))
          go_wp2_with (fail)
          go_ret
          exact BoP.of HF.out HB3.out
      | false =>
        cases q with
        | true =>
          have HIN : Hid (false = true ∨ (⟨yb, yn, ys⟩ : Ky) = ixK j) := Lib.hid (.inr (of_decide_eq_true HQ.out))
          by_cases htl : tl = v
          · subst htl
            go_wp2_with (fail)
            go_region_held3 (fun w' => w'.cell? ⟨R, 0, none⟩ = some (.bool yb) ∧ w'.cell? ⟨R, 1, none⟩ = some (.int .i64 yn) ∧ w'.cell? ⟨R, 2, none⟩ = some (.string ys) ∧ w'.cell? ⟨R, 9, none⟩ = some (.int .i64 tl)) (first | go_keep | exact ⟨z0, z1, z2, z9⟩) (first
              | (go_at_call 148; refine (LS.out w2.drew HO2.out).mono ?_
                 rintro e w3 ⟨rfl, ho3, hg3⟩
                 replace hg3 : w2.drew.grownBy w3 (some g) := hg3
                 have h3 : w3.heap[R]? = _ := (hg3.block R (Array.getElem?_eq_some_iff.1 H10.out).1 (fun e => by injection e with e; have := HGR.out; omega)).trans H10.out
                 have HA3 := Lib.hid ((hg3.block _ (Array.getElem?_eq_some_iff.1 HA2.out).1 (fun e => by injection e with e; have := HG.out; omega)).trans HA2.out)
                 have HB3 := Lib.hid (HB2.out.drew.grown hg3 HB2.out.drew.size (fun b e => by injection e with e; have := HG.out; omega))
                 have HO3 := Lib.hid ho3
                 have r3 := (rowc h3).1
                 have z0 := r3 0; have z1 := r3 1; have z2 := r3 2; have z9 := r3 9
                 simp at z0 z1 z2 z9
                 clear h3 hg3 ho3 r3))
            go_wp2_with (fail)
            go_roundg (m - j)
            case rel =>
              refine ⟨j + 1, by go_num, by omega, by omega, Lib.hid (fun i t hi ht => ?_), HA3, HO3, HB3⟩
              rcases Nat.lt_or_ge i j with h | h
              · exact HL.out i t h ht
              · obtain rfl : i = j := by omega
                rw [HTJ.out] at ht
                obtain rfl := Option.some.inj ht
                exact ⟨by simpa using HIN.out, HV.out.symm⟩
            case measure => omega
          · have htl2 : (tl != v) = true := by simp [htl]
            have HF : Hid (false = true ↔ (rowL false n sl ∧ hs n sl m = l)) := Lib.hid ⟨fun h => (by cases h), fun h => absurd ((h.1 j _ HTJ.out).2.trans HV.out) htl⟩
            clear htl
            go_wp2_with (fail)
            go_region_held3 (fun w' => w'.cell? ⟨R, 0, none⟩ = some (.bool yb) ∧ w'.cell? ⟨R, 1, none⟩ = some (.int .i64 yn) ∧ w'.cell? ⟨R, 2, none⟩ = some (.string ys) ∧ w'.cell? ⟨R, 9, none⟩ = some (.int .i64 tl)) (first | go_keep | exact ⟨z0, z1, z2, z9⟩) (first
              | (go_at_call 148; refine (LS.out w2.drew HO2.out).mono ?_
                 rintro e w3 ⟨rfl, ho3, hg3⟩
                 replace hg3 : w2.drew.grownBy w3 (some g) := hg3
                 have h3 : w3.heap[R]? = _ := (hg3.block R (Array.getElem?_eq_some_iff.1 H10.out).1 (fun e => by injection e with e; have := HGR.out; omega)).trans H10.out
                 have HB3 := Lib.hid (HB2.out.drew.grown hg3 HB2.out.drew.size (fun b e => by injection e with e; have := HG.out; omega))
                 have r3 := (rowc h3).1
                 have z0 := r3 0; have z1 := r3 1; have z2 := r3 2; have z9 := r3 9
                 simp at z0 z1 z2 z9
                 clear h3 hg3 ho3 r3))
            go_wp2_with (fail)
            go_ret
            exact BoP.of HF.out HB3.out
        | false =>
          have HF : Hid (false = true ↔ (rowL false n sl ∧ hs n sl m = l)) := Lib.hid ⟨fun h => (by cases h), fun h => by
            rcases (h.1 j _ HTJ.out).1 with h | h
            · cases h
            · exact absurd h (of_decide_eq_false HQ.out)⟩
          go_wp2_with (fail)
          go_quiet ((fail))
          go_wp2_with (fail)
          go_ret
          exact BoP.of HF.out (bs HB2.out (kbelow_drew _ _))
    · obtain rfl : j = m := by omega
      have EQ := Lib.hid (equal_i n hn _ g n c A _ l wr HO.out (HR.out.heads.below HB.out))
      have HF : Hid (decide (hs n sl j = l) = true ↔ (rowL b n sl ∧ hs n sl j = l)) := Lib.hid (by
        rw [decide_eq_true_eq]
        exact ⟨fun h => ⟨fun i t ht => HL.out i t (by have := (List.getElem?_eq_some_iff.1 ht).1; have := hlen.out; omega) ht, h⟩, fun h => h.2⟩)
      obtain ⟨q, HQ⟩ : ∃ q, Hid (decide (hs n sl j = l) = q) := ⟨_, Lib.hid rfl⟩
      rw [HQ.out] at EQ HF
      have z1 := (rowc HA.out).1 1
      simp at z1
      go_wp2_with (fail)
      refine (EQ.out).mono ?_
      rintro e w2 ⟨rfl, hb2⟩
      have HB2 := Lib.hid (bs HB.out hb2)
      clear hb2 z1
      go_wp2_with (fail)
      go_ret
      exact BoP.of HF.out HB2.out

end Go.Proofs.YtdgfpfkhcojgaaaGreatDoor.tree

/-
  Whether a key may be one of an array, of the project.
  Conditions: those that each theorem names.
-/
namespace Go.Proofs.YtdgfpfkhcojgaaaGreatDoor.tree
open Go.ChangeShapes Go.WideShapes Go.ChangeAt Go.RowKit
set_option linter.unusedVariables false

def belowB (y : Ky) (x : Int) : Bool := keyB y && (y.text || decide (y.num < x))
theorem keyBelow_i (y : Ky) (hs : y.str.size ≤ 281474976710656) (x : Int) (w : World) (hE : prs.Env w) : Calls Tryz.prog 147 #[kyV y, .int .i64 x] w (BoQ w (belowB y x)) := by
  obtain ⟨q, HQ⟩ : ∃ q, Hid (keyB y = q) := ⟨_, Lib.hid rfl⟩
  have KI : ∀ o, Calls Tryz.prog 51 #[kyV y] (w.alloc o) (KeyQ (w.alloc o) q) := fun o => HQ.out ▸ isKey_i y hs _ (hE.stays (b1 w o))
  unfold belowB
  rw [HQ.out]
  obtain ⟨b, m, s⟩ := y
  unfold kyV at KI ⊢
  simp only at KI ⊢
  clear hE hs
  have key : ∀ r : Bool, decide (m < x) = r → Calls Tryz.prog 147 #[.agg #[.bool b, .int .i64 m, .string s], .int .i64 x] w (BoQ w (q && (b || r))) := fun r hr => by
    cases r with
    | true =>
      have hr := of_decide_eq_true hr
      cases q <;> cases b
      all_goals
        go_enter Tryz.func147, Tryz.ntmps147
        go_wp2_with (fail)
        refine (KI _).mono ?_
        rintro e w1 ⟨rfl, hb1⟩
        obtain ⟨r1, -⟩ := rowc (carry hb1 (heap_alloc_new w _))
        have HB := Lib.hid (bs (b1 w _) hb1)
        clear hb1
        go_wp2_with (fail)
        go_ret
        exact ⟨rfl, HB.out⟩
    | false =>
      have hr := of_decide_eq_false hr
      cases q <;> cases b
      all_goals
        go_enter Tryz.func147, Tryz.ntmps147
        go_wp2_with (fail)
        refine (KI _).mono ?_
        rintro e w1 ⟨rfl, hb1⟩
        obtain ⟨r1, -⟩ := rowc (carry hb1 (heap_alloc_new w _))
        have HB := Lib.hid (bs (b1 w _) hb1)
        clear hb1
        go_wp2_with (fail)
        go_ret
        exact ⟨rfl, HB.out⟩
  exact key _ rfl

end Go.Proofs.YtdgfpfkhcojgaaaGreatDoor.tree

/-
  Whether a light value is valid, of the project.
  Conditions: those that each theorem names.
-/
namespace Go.Proofs.YtdgfpfkhcojgaaaGreatDoor.tree
open Go.ChangeShapes Go.WideShapes Go.ChangeAt Go.RowKit
set_option linter.unusedVariables false

/-- What a value that is no array has to be. -/
def scalB (k n : Int) (s : ByteArray) : Bool := if k = 0 then decide (n = 0) else if k = 1 then nums.inr n 0 1 else if k = 2 then nums.inr n (-1000000000) 1000000000 else if k = 3 then decide (n = 0) && decide (s.size ≤ 400) else if k = 6 ∨ k = 7 ∨ k = 8 then nums.inr n 0 255 else false
def restB (k n : Int) (s : ByteArray) (x : Int) (L : Nat) : Bool := ((decide (k = 3) || decide (s.size = 0)) && (decide (x = 0) && decide (L = 0))) && scalB k n s
mutual
/-- Whether a value is valid, but for its weight. -/
def sndB : Tr → Bool
  | .mk k n s x ks vs => if k = 4 then decide (s.size = 0) && (decide (n = 0) && (nums.inr x 0 1000000001 && itemsB x [] ks vs)) else restB k n s x vs.length
def itemsB (x : Int) : List Ky → List Ky → List Tr → Bool
  | seen, y :: ks, t :: vs => (!decide (y ∈ seen) && (belowB y x && sndB t)) && itemsB x (seen ++ [y]) ks vs
  | _, _, _ => true
end
theorem snd_four (n : Int) (s : ByteArray) (x : Int) (ks : List Ky) (vs : List Tr) : sndB (.mk 4 n s x ks vs) = (decide (s.size = 0) && (decide (n = 0) && (nums.inr x 0 1000000001 && itemsB x [] ks vs))) := by rw [sndB, if_pos rfl]
theorem snd_not {k n : Int} {s : ByteArray} {x : Int} {ks : List Ky} {vs : List Tr} (h : k ≠ 4) : sndB (.mk k n s x ks vs) = restB k n s x vs.length := by rw [sndB, if_neg h]
theorem items_cons (x : Int) (seen : List Ky) (y : Ky) (ks : List Ky) (t : Tr) (vs : List Tr) : itemsB x seen (y :: ks) (t :: vs) = ((!decide (y ∈ seen) && (belowB y x && sndB t)) && itemsB x (seen ++ [y]) ks vs) := by rw [itemsB]
theorem items_nil (x : Int) (seen ks : List Ky) : itemsB x seen ks [] = true := by cases ks <;> rw [itemsB] <;> simp
theorem items_drop {x : Int} {ks : List Ky} {vs : List Tr} {j : Nat} {y : Ky} {t : Tr} (hk : ks[j]? = some y) (hv : vs[j]? = some t) :
    itemsB x (ks.take j) (ks.drop j) (vs.drop j) = ((!decide (y ∈ ks.take j) && (belowB y x && sndB t)) && itemsB x (ks.take (j + 1)) (ks.drop (j + 1)) (vs.drop (j + 1))) := by
  obtain ⟨hj, rfl⟩ := List.getElem?_eq_some_iff.1 hk
  obtain ⟨hj', rfl⟩ := List.getElem?_eq_some_iff.1 hv
  rw [List.drop_eq_getElem_cons hj, List.drop_eq_getElem_cons hj', items_cons, List.take_succ_eq_append_getElem hj]
theorem tots_item : ∀ {ks : List Ky} {vs : List Tr} {j : Nat} {y : Ky} {t : Tr}, ks[j]? = some y → vs[j]? = some t → y.str.size + tot t ≤ tots ks vs
  | [], _, _, _, _, h, _ => by simp at h
  | _ :: _, [], _, _, _, _, h => by simp at h
  | z :: ks, u :: vs, 0, y, t, h, h' => by
    simp at h h'
    subst h h'
    rw [tots_cons]
    omega
  | z :: ks, u :: vs, j + 1, y, t, h, h' => by
    have := tots_item (ks := ks) (vs := vs) (j := j) (by simpa using h) (by simpa using h')
    rw [tots_cons]
    omega

theorem rest_str {k n : Int} {s : ByteArray} {x : Int} {L : Nat} (h : ¬ k = 3) (hs : ¬ s.size = 0) : restB k n s x L = false := by
  unfold restB
  simp [h, hs]
theorem rest_next {k n : Int} {s : ByteArray} {x : Int} {L : Nat} (h : ¬ x = 0) : restB k n s x L = false := by
  unfold restB
  simp [h]
theorem rest_items {k n : Int} {s : ByteArray} {x : Int} {L : Nat} (h : ¬ L = 0) : restB k n s x L = false := by
  unfold restB
  simp [h]
theorem rest_ok {k n : Int} {s : ByteArray} (h : k = 3 ∨ s.size = 0) : restB k n s 0 0 = scalB k n s := by
  unfold restB
  rcases h with h | h <;> simp [h]
theorem ret_dec {p q : Prop} [Decidable p] [Decidable q] (h : p ↔ q) : Ending.returned (.bool (decide p)) = .returned (.bool (decide q)) := by rw [decide_eq_decide.2 h]
theorem inRange_i (n l h : Int) (q : Bool) (hq : nums.inr n l h = q) (w : World) : Calls Tryz.prog 104 #[.int .i64 n, .int .i64 l, .int .i64 h] w fun e w' => e = .returned (.bool q) ∧ w = w' := hq ▸ nums.implInRange n l h w

theorem scal_i (k n : Int) (s : ByteArray) (A : Option Addr) (c : Nat) (h4 : ¬ k = 4) (hs : k = 3 ∨ s.size = 0) (hm : s.size ≤ maxLen) (w : World) :
    Calls Tryz.prog 125 #[vV k n s 0 A 0 c] w (BoQ w (scalB k n s)) := by
  unfold maxLen at hm
  by_cases h3 : k = 3
  · subst h3
    clear h4 hs
    by_cases hn : n = 0
    · subst hn
      have e : scalB 3 0 s = decide (s.size ≤ 400) := by simp [scalB]
      rw [e]
      clear e
      go_enter Tryz.func125, Tryz.ntmps125
      go_wp2_with (fail)
      go_ret
      exact ⟨ret_dec (p := (s.size : Int) ≤ 400) (by omega), b1 _ _⟩
    · have e : scalB 3 n s = false := by simp [scalB, hn]
      rw [e]
      clear e
      go_enter Tryz.func125, Tryz.ntmps125
      go_wp2_with (fail)
      go_ret
      exact ⟨rfl, b1 _ _⟩
  · obtain rfl := empty_of (hs.resolve_left h3)
    clear hs hm
    by_cases h0 : k = 0
    · subst h0
      have e : scalB 0 n ⟨#[]⟩ = decide (n = 0) := rfl
      rw [e]
      clear e h3 h4
      go_enter Tryz.func125, Tryz.ntmps125
      go_wp2_with (fail)
      go_ret
      exact ⟨rfl, b1 _ _⟩
    by_cases h1 : k = 1
    · subst h1
      obtain ⟨q, hq⟩ : ∃ q, scalB 1 n ⟨#[]⟩ = q := ⟨_, rfl⟩
      have IR := inRange_i n 0 1 q hq
      rw [hq]
      clear hq h3 h4 h0
      go_enter Tryz.func125, Tryz.ntmps125
      go_wp2_with (fail)
      refine (IR _).mono ?_
      rintro e w1 ⟨rfl, rfl⟩
      go_wp2_with (fail)
      go_ret
      exact ⟨rfl, b1 _ _⟩
    by_cases h2 : k = 2
    · subst h2
      obtain ⟨q, hq⟩ : ∃ q, scalB 2 n ⟨#[]⟩ = q := ⟨_, rfl⟩
      have IR := inRange_i n (-1000000000) 1000000000 q hq
      rw [hq]
      clear hq h3 h4 h0 h1
      go_enter Tryz.func125, Tryz.ntmps125
      go_wp2_with (fail)
      refine (IR _).mono ?_
      rintro e w1 ⟨rfl, rfl⟩
      go_wp2_with (fail)
      go_ret
      exact ⟨rfl, b1 _ _⟩
    by_cases h678 : k = 6 ∨ k = 7 ∨ k = 8
    · obtain ⟨q, hq⟩ : ∃ q, nums.inr n 0 255 = q := ⟨_, rfl⟩
      have IR := inRange_i n 0 255 q hq
      have e : scalB k n ⟨#[]⟩ = q := by
        unfold scalB
        rw [if_neg h0, if_neg h1, if_neg h2, if_neg h3, if_pos h678, hq]
      rw [e]
      clear hq e h3 h4 h0 h1 h2
      rcases h678 with rfl | rfl | rfl
      all_goals
        go_enter Tryz.func125, Tryz.ntmps125
        go_wp2_with (fail)
        refine (IR _).mono ?_
        rintro e w1 ⟨rfl, rfl⟩
        go_wp2_with (fail)
        go_ret
        exact ⟨rfl, b1 _ _⟩
    · have e : scalB k n ⟨#[]⟩ = false := by
        unfold scalB
        rw [if_neg h0, if_neg h1, if_neg h2, if_neg h3, if_neg h678]
      rw [e]
      clear e
      have h6 : ¬ k = 6 := fun h => h678 (.inl h)
      have h7 : ¬ k = 7 := fun h => h678 (.inr (.inl h))
      have h8 : ¬ k = 8 := fun h => h678 (.inr (.inr h))
      clear h678
      go_enter Tryz.func125, Tryz.ntmps125
      go_wp2_with (fail)
      go_ret
      exact ⟨rfl, b1 _ _⟩

theorem rest_i (k n : Int) (s : ByteArray) (x : Int) (A : Option Addr) (L c : Nat) (h4 : ¬ k = 4) (hm : s.size ≤ maxLen) (hL : L ≤ maxLen) (w : World) :
    Calls Tryz.prog 125 #[vV k n s x A L c] w (BoQ w (restB k n s x L)) := by
  by_cases hs : k = 3 ∨ s.size = 0
  · by_cases hx : x = 0
    · subst hx
      by_cases h0 : L = 0
      · subst h0
        rw [rest_ok hs]
        exact scal_i k n s A c h4 hs hm w
      · rw [rest_items h0]
        unfold maxLen at hL
        have h0' : ((L : Int) != 0) = true := by simp; omega
        have h4' : (k != 4) = true := by simp [h4]
        by_cases h3 : k = 3
        · subst h3
          clear hs h4'
          go_enter Tryz.func125, Tryz.ntmps125
          go_wp2_with (fail)
          go_ret
          exact ⟨rfl, b1 _ _⟩
        · obtain rfl := empty_of (hs.resolve_left h3)
          clear hs hm
          go_enter Tryz.func125, Tryz.ntmps125
          go_wp2_with (fail)
          go_ret
          exact ⟨rfl, b1 _ _⟩
    · rw [rest_next hx]
      by_cases h3 : k = 3
      · subst h3
        clear hs
        go_enter Tryz.func125, Tryz.ntmps125
        go_wp2_with (fail)
        go_ret
        exact ⟨rfl, b1 _ _⟩
      · obtain rfl := empty_of (hs.resolve_left h3)
        clear hs hm
        go_enter Tryz.func125, Tryz.ntmps125
        go_wp2_with (fail)
        go_ret
        exact ⟨rfl, b1 _ _⟩
  · have h3 : ¬ k = 3 := fun h => hs (.inl h)
    have h0 : ¬ s.size = 0 := fun h => hs (.inr h)
    rw [rest_str h3 h0]
    obtain ⟨l1, l2⟩ := list_of h0
    clear hs
    go_enter Tryz.func125, Tryz.ntmps125
    go_wp2_with (fail)
    go_ret
    exact ⟨rfl, b1 _ _⟩

end Go.Proofs.YtdgfpfkhcojgaaaGreatDoor.tree

/-
  Whether a light value is valid, of the project: the items of an array.
  Conditions: the keys' texts have at most 2^48 bytes; the package variables of the library's reading of numbers hold what the program's text lays.
-/
namespace Go.Proofs.YtdgfpfkhcojgaaaGreatDoor.tree
open Go.ChangeShapes Go.WideShapes Go.ChangeAt Go.RowKit
set_option linter.unusedVariables false

theorem kzero (w : World) : (zeroValue 4).run Tryz.prog w = .ok (.bool false) w := by kernel_rfl
theorem kgot_some (z v : Value) : raw.Got false z (some v) = v := rfl
theorem kgot_none (z : Value) : raw.Got false z none = z := rfl
theorem kalH {w : World} {b : Nat} {f : Value → Option Value} (h : raw.Holds w GK b f) (o : Obj) : raw.Holds (w.alloc o) GK b f :=
  h.kept (Below.heap_alloc w o b h.lt) (fun _ hx => hx)
def SeenK (l : List Ky) (e : Value → Option Value) : Prop := ∀ y : Ky, e (kyV y) = if y ∈ l then some (.bool true) else none
theorem SeenK.push {l : List Ky} {e : Value → Option Value} (h : SeenK l e) (y : Ky) : SeenK (l ++ [y]) (raw.put e (kyV y) (.bool true)) := fun z => by
  by_cases hz : z = y
  · subst hz
    rw [raw.put_same]
    simp
  · rw [raw.put_other (fun e => hz (ky_inj e)), h z]
    simp [hz]

def SoI (t : Tr) : Prop := tot t ≤ 281474976710656 → ∀ (w : World) (S : Nat → Prop) (v : Value), prs.Env w → TIn w S t v → Calls Tryz.prog 125 #[v] w (BoQ w (sndB t))

set_option maxHeartbeats 1000000 in
theorem soundItems (n : Int) (s : ByteArray) (x : Int) (ks : List Ky) (vs : List Tr) (ih : ∀ t ∈ vs, SoI t) (A : Option Addr) (c : Nat) (w : World) (S : Nat → Prop) (hE : prs.Env w) (h : IsIn w S ks vs A) (hN : tots ks vs ≤ 281474976710656) :
    Calls Tryz.prog 156 #[vV 4 n s x A vs.length c] w (BoQ w (itemsB x [] ks vs)) := by
  obtain ⟨L, HL⟩ : ∃ L, Hid (L = vs.length) := ⟨_, Lib.hid rfl⟩
  have hm : L ≤ maxLen := by rw [HL.out]; exact h.2.1
  unfold maxLen at hm
  have HKL : Hid (ks.length = L) := Lib.hid (by rw [HL.out]; exact h.1)
  rw [← HL.out]
  have HI := Lib.hid h
  have HEN := Lib.hid hE
  clear h hE
  obtain ⟨W, HW⟩ : ∃ W, Hid (itemsB x [] ks vs = W) := ⟨_, Lib.hid rfl⟩
  rw [HW.out]
  have hmm := @run_makeMap Tryz.prog
  go_enter Tryz.func156, Tryz.ntmps156
  go_wp2_with (fail)
  clear hmm
  go_loopg [10] (L + 1) (fun gk i wr => ∃ (j : Nat) (e : Value → Option Value), i = .int .i64 j ∧ gk + j = L + 1 ∧ j ≤ L ∧ Hid (itemsB x (ks.take j) (ks.drop j) (vs.drop j) = W) ∧
    Hid (wr.heap[w.heap.size]? = some (.cells #[.int .i64 4, .int .i64 n, .string s, .int .i64 x, .slice A L c] IV (0, 0))) ∧ Hid (SeenK (ks.take j) e) ∧ raw.Holds wr GK (w.heap.size + 1) e ∧ Below w.heap.size w wr ∧ w.heap.size + 1 < wr.heap.size)
  case atStart =>
    have h1 := raw.Holds.made (w.alloc (.cells #[.int .i64 4, .int .i64 n, .string s, .int .i64 x, .slice A L c] IV)) GK
    have z1 : (w.alloc (.cells #[.int .i64 4, .int .i64 n, .string s, .int .i64 x, .slice A L c] IV)).heap.size = w.heap.size + 1 := by simp
    rw [z1] at h1
    exact ⟨0, fun _ => none, rfl, by omega, by omega, Lib.hid HW.out, Lib.hid (heap_alloc2_old w _ _), Lib.hid (fun y => by simp), h1, b2 _ _ _, h1.lt⟩
  case round =>
    obtain ⟨j, e, rfl, hgj, hjL, HQ, HE, HS, hm1, hb, hz⟩ := hrel
    have HB := Lib.hid hb
    have HZ := Lib.hid hz
    clear hb hz
    obtain ⟨r0, -⟩ := rowc HE.out
    by_cases hlt : j < L
    · obtain ⟨a, y, k', n', s', x', ks', vs', A1, c1, rfl, hS, hky, hvs, ht, hyb, hkb, hin', hcell⟩ := (HI.out.below HB.out).item (i := j) (by rw [← HL.out]; exact hlt)
      have htm := tots_item hky hvs
      have hys : y.str.size ≤ 281474976710656 := by omega
      have htt : tot (.mk k' n' s' x' ks' vs') ≤ 281474976710656 := by omega
      have HD := Lib.hid ((items_drop (x := x) hky hvs).symm.trans HQ.out)
      have HTK : Hid (ks.take (j + 1) = ks.take j ++ [y]) := Lib.hid (by
        obtain ⟨hj, rfl⟩ := List.getElem?_eq_some_iff.1 hky
        exact List.take_succ_eq_append_getElem hj)
      have hm2 := fun o => kalH hm1 o
      have hkk : ∀ w' : World, GK w' (.agg #[.bool y.text, .int .i64 y.num, .string y.str]) := fun _ => ⟨y, rfl⟩
      obtain ⟨q1, HQ1⟩ : ∃ q, Hid (belowB y x = q) := ⟨_, Lib.hid rfl⟩
      obtain ⟨q2, HQ2⟩ : ∃ q, Hid (sndB (.mk k' n' s' x' ks' vs') = q) := ⟨_, Lib.hid rfl⟩
      have KB : ∀ w' : World, Below wr.heap.size wr w' → Calls Tryz.prog 147 #[.agg #[.bool y.text, .int .i64 y.num, .string y.str], .int .i64 x] w' (BoQ w' q1) := fun w' hb' => HQ1.out ▸ keyBelow_i y hys x w' (HEN.out.stays (bs HB.out hb'))
      have ihj : ∀ w' : World, Below wr.heap.size wr w' → Calls Tryz.prog 125 #[vV k' n' s' x' A1 vs'.length c1] w' (BoQ w' q2) := fun w' hb' => HQ2.out ▸ ih _ (List.mem_of_getElem? hvs) htt w' S _ (HEN.out.stays (bs HB.out hb')) (ht.below' hb')
      rw [HQ1.out, HQ2.out] at HD
      obtain ⟨L1, HL1⟩ : ∃ L1, Hid (L1 = vs'.length) := ⟨_, Lib.hid rfl⟩
      rw [← HL1.out] at hcell ihj
      clear hky hvs ht hin' hyb hkb hS htm hys htt
      obtain ⟨p0, p1, p2, p3, p4, p5, p6, p7⟩ := hcell
      obtain ⟨NI, hNI⟩ : ∃ N, N = wr.heap.size := ⟨_, rfl⟩
      by_cases hsn : y ∈ ks.take j
      · have hek : e (.agg #[.bool y.text, .int .i64 y.num, .string y.str]) = some (.bool true) := (HS.out y).trans (if_pos hsn)
        have HEK := Lib.hid hek
        have HF : Hid (false = W) := Lib.hid (by have := HD.out; rw [decide_eq_true hsn] at this; simpa using this)
        clear hsn hek hm1
        go_wp2_with (first | (at_lookup; refine raw.wpList_lookup_to _ rfl _ _ 166 false rfl (hm2 _) good_ky Tryz.underlying166 (kzero _) rfl rfl (hkk _) HEK.out (kgot_some _ _) ?_) | fail)
        go_ret
        exact ⟨by rw [← HF.out]; rfl, bs HB.out (b1 _ _)⟩
      · have hek : e (.agg #[.bool y.text, .int .i64 y.num, .string y.str]) = none := (HS.out y).trans (if_neg hsn)
        have HEK := Lib.hid hek
        have HD2 : Hid (((q1 && q2) && itemsB x (ks.take (j + 1)) (ks.drop (j + 1)) (vs.drop (j + 1))) = W) := Lib.hid (by have := HD.out; rw [decide_eq_false hsn] at this; simpa using this)
        clear hsn hek hm1 HD
        have bx : ∀ o, (wr.alloc o).cell? ⟨w.heap.size, 3, none⟩ = some (.int .i64 x) := fun o => (rowc (keepAlloc (o' := o) HE.out)).1 3
        go_wp2_with (first | (at_lookup; refine raw.wpList_lookup_to _ rfl _ _ 166 false rfl (hm2 _) good_ky Tryz.underlying166 (kzero _) rfl rfl (hkk _) HEK.out (kgot_none _) ?_) | fail)
        refine (KB _ (b1 _ _)).mono ?_
        rintro e1 w1 ⟨rfl, hb1⟩
        have eI := carry hb1 (heap_alloc_new wr _)
        rw [← hNI] at eI ⊢
        have EI := Lib.hid eI
        obtain ⟨rI, -⟩ := rowc eI
        have hB1 := bs (b1 wr _) hb1
        have HB1 := Lib.hid hB1
        have hm3 : raw.Holds w1 GK (w.heap.size + 1) e := (hm2 _).kept (hb1.block _ (hm2 _).lt) (fun _ hx => hx)
        have hbIH := Lib.hid hb1
        clear hb1 eI hB1 hm2 r0 bx hNI
        cases q1 with
        | false =>
          have HF : Hid (false = W) := HD2
          go_wp2_with (fail)
          go_ret
          exact ⟨by rw [← HF.out]; rfl, bs HB.out HB1.out⟩
        | true =>
          go_wp2_with (fail)
          refine (ihj _ HB1.out).mono ?_
          rintro e2 w2 ⟨rfl, hb2⟩
          have eI2 := carry hb2 EI.out
          have EI2 := Lib.hid eI2
          obtain ⟨rI2, -⟩ := rowc eI2
          have hm4 : raw.Holds w2 GK (w.heap.size + 1) e := hm3.kept (hb2.block _ hm3.lt) (fun _ hx => hx)
          have HB2 := Lib.hid (bs HB1.out hb2)
          clear hb2 eI2 rI hm3
          cases q2 with
          | false =>
            have HF : Hid (false = W) := HD2
            go_wp2_with (fail)
            go_ret
            exact ⟨by rw [← HF.out]; rfl, bs HB.out HB2.out⟩
          | true =>
            have HF : Hid (itemsB x (ks.take (j + 1)) (ks.drop (j + 1)) (vs.drop (j + 1)) = W) := HD2
            go_wp2_with (first
              | (at_mapUpdate; refine raw.wpList_update _ rfl _ _ _ 166 rfl hm4 good_ky gk_stays Tryz.underlying166 rfl rfl rfl (hkk _) ?_
                 intro w4 hm14 hgr4
                 have HM14 := Lib.hid hm14
                 have HGR4 := Lib.hid hgr4
                 clear hm14 hgr4)
              | fail)
            go_roundg (L - j)
            case rel =>
              have hE2 := carry HB2.out HE.out
              have z4 := HB2.out.size
              have z5 := HZ.out
              refine ⟨j + 1, _, by go_num, by omega, by omega, HF, Lib.hid ((HGR4.out.block _ (Array.getElem?_eq_some_iff.1 hE2).1 (by intro h; injection h; omega)).trans hE2), Lib.hid (by rw [HTK.out]; exact HS.out.push y), HM14.out, ?_, HM14.out.lt⟩
              exact (bs HB.out HB2.out).grown HGR4.out (by omega) (fun k hk => by obtain rfl := Option.some.inj hk; omega)
            case measure => omega
    · obtain rfl : j = L := by omega
      have HF : Hid (true = W) := Lib.hid (by rw [← HQ.out, show vs.drop j = [] from List.drop_eq_nil_of_le (Nat.le_of_eq HL.out.symm), items_nil])
      clear hm1
      go_wp2_with (fail)
      go_ret
      exact ⟨by rw [← HF.out]; rfl, HB.out⟩

end Go.Proofs.YtdgfpfkhcojgaaaGreatDoor.tree

/-
  IsValue of the project.
  Conditions: the value has at most 2^48 letters and items; the package variables of the library's reading of numbers hold what the program's text lays.
-/
namespace Go.Proofs.YtdgfpfkhcojgaaaGreatDoor.tree
open Go.ChangeShapes Go.WideShapes Go.ChangeAt Go.RowKit
set_option linter.unusedVariables false

theorem sound_i : ∀ t, SoI t := Tr.ind fun k n s x ks vs ih hN w S v hE h => by
  obtain ⟨A, c, rfl, ⟨-, -, -, hs⟩, hin⟩ := h.out
  clear h
  rw [tot] at hN
  by_cases h4 : k = 4
  · subst h4
    have SI : ∀ o, Calls Tryz.prog 156 #[vV 4 n s x A vs.length c] (w.alloc o) (BoQ (w.alloc o) (itemsB x [] ks vs)) := fun o => soundItems n s x ks vs ih A c _ S (hE.stays (b1 w o)) (hin.below (b1 w o)) (by omega)
    rw [snd_four]
    obtain ⟨q, HQ⟩ : ∃ q, Hid (itemsB x [] ks vs = q) := ⟨_, Lib.hid rfl⟩
    obtain ⟨q1, HQ1⟩ : ∃ q, Hid (nums.inr x 0 1000000001 = q) := ⟨_, Lib.hid rfl⟩
    have IR := inRange_i x 0 1000000001 q1 HQ1.out
    rw [HQ.out] at SI ⊢
    rw [HQ1.out]
    have hm : vs.length ≤ maxLen := hin.2.1
    obtain ⟨L, HL⟩ : ∃ L, Hid (L = vs.length) := ⟨_, Lib.hid rfl⟩
    rw [← HL.out] at SI hm ⊢
    unfold maxLen at hm hs
    clear hin hE hN ih
    by_cases h0 : s.size = 0
    · obtain rfl := empty_of h0
      by_cases hn : n = 0
      · subst hn
        cases q1 with
        | false =>
          go_enter Tryz.func125, Tryz.ntmps125
          go_wp2_with (fail)
          refine (IR _).mono ?_
          rintro e w1 ⟨rfl, rfl⟩
          go_wp2_with (fail)
          go_ret
          exact ⟨rfl, b1 _ _⟩
        | true =>
          go_enter Tryz.func125, Tryz.ntmps125
          go_wp2_with (fail)
          refine (IR _).mono ?_
          rintro e w1 ⟨rfl, rfl⟩
          go_wp2_with (fail)
          refine (SI _).mono ?_
          rintro e w2 ⟨rfl, hb2⟩
          have HB := Lib.hid (bs (b1 _ _) hb2)
          clear hb2
          go_wp2_with (fail)
          go_ret
          exact ⟨rfl, HB.out⟩
      · have e : (decide ((⟨#[]⟩ : ByteArray).size = 0) && (decide (n = 0) && (q1 && q))) = false := by rw [decide_eq_false hn]; simp
        rw [e]
        clear e
        go_enter Tryz.func125, Tryz.ntmps125
        go_wp2_with (fail)
        go_ret
        exact ⟨rfl, b1 _ _⟩
    · have e : (decide (s.size = 0) && (decide (n = 0) && (q1 && q))) = false := by rw [decide_eq_false h0]; rfl
      rw [e]
      obtain ⟨l1, l2⟩ := list_of h0
      clear e
      go_enter Tryz.func125, Tryz.ntmps125
      go_wp2_with (fail)
      go_ret
      exact ⟨rfl, b1 _ _⟩
  · rw [snd_not h4]
    exact rest_i k n s x A vs.length c h4 hs hin.2.1 w

def valB (t : Tr) : Bool := lightB t && sndB t
theorem isValue_i (t : Tr) (hN : tot t ≤ 281474976710656) (w : World) (S : Nat → Prop) (v : Value) (hE : prs.Env w) (h : TIn w S t v) : Calls Tryz.prog 68 #[v] w (BoQ w (valB t)) := by
  have LI : ∀ o, Calls Tryz.prog 124 #[v] (w.alloc o) (BoQ (w.alloc o) (lightB t)) := fun o => light_i t _ S v (h.below' (b1 w o))
  have SI : ∀ w', Below w.heap.size w w' → Calls Tryz.prog 125 #[v] w' (BoQ w' (sndB t)) := fun w' hb => sound_i t hN w' S v (hE.stays hb) (h.below' hb)
  unfold valB
  obtain ⟨q1, HQ1⟩ : ∃ q, Hid (lightB t = q) := ⟨_, Lib.hid rfl⟩
  obtain ⟨q2, HQ2⟩ : ∃ q, Hid (sndB t = q) := ⟨_, Lib.hid rfl⟩
  rw [HQ1.out] at LI ⊢
  rw [HQ2.out] at SI ⊢
  obtain ⟨k, n, s, x, ks, vs⟩ := t
  obtain ⟨A, c, rfl, hk, hin⟩ := h.out
  clear h hk hin hE hN
  cases q1 with
  | false =>
    go_enter Tryz.func68, Tryz.ntmps68
    go_wp2_with (fail)
    refine (LI _).mono ?_
    rintro e w1 ⟨rfl, hb1⟩
    have HB := Lib.hid (bs (b1 _ _) hb1)
    clear hb1
    go_wp2_with (fail)
    go_ret
    exact ⟨rfl, HB.out⟩
  | true =>
    go_enter Tryz.func68, Tryz.ntmps68
    go_wp2_with (fail)
    refine (LI _).mono ?_
    rintro e w1 ⟨rfl, hb1⟩
    obtain ⟨r1, -⟩ := rowc (carry hb1 (heap_alloc_new w _))
    have HB := Lib.hid (bs (b1 _ _) hb1)
    clear hb1
    go_wp2_with (fail)
    refine (SI _ HB.out).mono ?_
    rintro e w2 ⟨rfl, hb2⟩
    have HB2 := Lib.hid (bs HB.out hb2)
    clear hb2
    go_wp2_with (fail)
    go_ret
    exact ⟨rfl, HB2.out⟩

end Go.Proofs.YtdgfpfkhcojgaaaGreatDoor.tree

/-
  Whether the slots of a table are sound, each by itself and all together, of the project.
  Conditions: those that each theorem names; the package variables of the library's reading of numbers hold what the program's text lays.
-/
namespace Go.Proofs.YtdgfpfkhcojgaaaGreatDoor.tree
open Go.ChangeShapes Go.WideShapes Go.ChangeAt Go.RowKit
set_option linter.unusedVariables false

/-- Block B is a map of c entries that holds f. -/
def HoldsC (w : World) (B : Nat) (f : Value → Option Value) (c : Nat) : Prop :=
  ∃ es clock, w.heap[B]? = some (.map es clock) ∧ (∀ e ∈ es.toList, GK w e.key) ∧ f = raw.look es.toList ∧ es.size = c
theorem HoldsC.holds {w : World} {B c : Nat} {f : Value → Option Value} (h : HoldsC w B f c) : raw.Holds w GK B f := by
  obtain ⟨es, clock, h1, h2, h3, -⟩ := h
  exact ⟨es, clock, h1, h2, h3⟩
theorem HoldsC.made (w : World) : HoldsC (w.alloc (.map #[] 0)) w.heap.size (fun _ => none) 0 := by
  obtain ⟨es, clock, h1, h2, h3⟩ := raw.Holds.made w GK
  refine ⟨#[], 0, ?_, by simp, rfl, rfl⟩
  show (w.heap.push _)[w.heap.size]? = _
  simp
theorem HoldsC.kept {w w' : World} {B c : Nat} {f : Value → Option Value} (h : HoldsC w B f c) (hb : w'.heap[B]? = w.heap[B]?) : HoldsC w' B f c := by
  obtain ⟨es, clock, h1, h2, h3, h4⟩ := h
  exact ⟨es, clock, hb.trans h1, h2, h3, h4⟩
theorem HoldsC.update {P : Program} {w : World} {B c : Nat} {f : Value → Option Value} (h : HoldsC w B f c) {K E T : TypeId} (g : raw.Good P K GK) (ht : P.underlying T = some (.map K E)) {k v : Value} (hk : GK w k) (hf : f k = none) :
    ∃ w', (Instr.mapUpdate T (.map (some B)) k v).run P w = .ok () w' ∧ HoldsC w' B (raw.put f k v) (c + 1) ∧ w.grownBy w' (some B) := by
  obtain ⟨es, clock, hb, hall, rfl, rfl⟩ := h
  have hchk := g.check w false k hk
  have gr : ∀ (o : Obj), w.grownBy { w with heap := w.heap.setIfInBounds B o } (some B) := fun o => ⟨rfl, rfl, rfl, by simp, fun i _ hi => (MapKept.heap_set (o' := o) hb).2 i (fun e => hi (by rw [e]))⟩
  rcases raw.find g w hk es.toList 0 hall with ⟨h1, h2⟩ | ⟨j, e, h1, h2, h3, h4, h5⟩
  · have hfk := (run_findKey_eq w g.wide k es.toList).trans h1
    refine ⟨{ w with heap := w.heap.setIfInBounds B (.map (es.push { key := k, val := v, born := clock }) (clock + 1)) }, by simp [Instr.mapUpdate, run_underlying ht, MapKept.run_getObj_map hb, hchk, hfk, MapKept.run_setObj_map _ hb, Result.andThen], ⟨_, _, (MapKept.heap_set hb).1, ?_, ?_, by simp⟩, gr _⟩
    · intro x hx
      simp only [Array.toList_push, List.mem_append, List.mem_singleton] at hx
      rcases hx with hx | rfl
      · exact hall x hx
      · exact hk
    · rw [Array.toList_push]
      exact (raw.look_push es.toList ⟨k, v, clock⟩ h2).symm
  · rw [hf] at h4
    cases h4
theorem HoldsC.len {P : Program} {w : World} {B c : Nat} {f : Value → Option Value} (h : HoldsC w B f c) {K E T : TypeId} (ht : P.underlying T = some (.map K E)) (ty : TypeId) : (Builtin.len_ #[T] ty #[.map (some B)]).run P w = .ok (.int .i64 c) w := by
  obtain ⟨es, clock, hb, -, -, rfl⟩ := h
  simp [Builtin.len_, run_underlying ht, MapKept.run_getObj_map hb, goInt, Result.andThen]
/-- 'm[k] = v' of a new key at the operation. -/
theorem wpList_updateC {P : Program} (w : World) {ops : Array Oper} {rest : List Oper} {o : Oper} {a : Act} {Q : Exit → Act → World → Prop}
    (hg : o.guard = none) (m x v : Operand) (t : TypeId) (hop : o.op = Op.mapUpdate t m x v)
    {K E : TypeId} {B c : Nat} {f : Value → Option Value} (hown : HoldsC w B f c) (g : raw.Good P K GK) (ht : P.underlying t = some (.map K E))
    (hm : a.eval m = .map (some B)) {k val : Value} (hx : a.eval x = k) (hv : a.eval v = val) (hk : GK w k) (hf : f k = none)
    (hK : ∀ w', HoldsC w' B (raw.put f k val) (c + 1) → w.grownBy w' (some B) → wpList P ops Q rest (a.put o.dst undef) w') :
    wpList P ops Q (o :: rest) a w := by
  refine wpList_plain hg fun K' hK' => ?_
  obtain ⟨w', hrun, r1, r2⟩ := hown.update g ht (v := val) hk hf
  unfold Oper.wp
  simp [execOp, hop, hm, hx, hv, hrun, Result.andThen]
  exact hK' _ _ (hK w' r1 r2)

theorem val_zero {k n : Int} {s : ByteArray} {x : Int} {ks : List Ky} {vs : List Tr} (hk : k = 0) : valB (.mk k n s x ks vs) = true ↔ zeroT (.mk k n s x ks vs) := by
  subst hk
  unfold valB lightB
  rw [wgt_not (by decide), snd_not (by decide)]
  unfold zeroT restB scalB
  simp
  constructor
  · rintro ⟨⟨h1, h2, h3⟩, h4⟩; exact ⟨h4, h1, h2, h3⟩
  · rintro ⟨h4, h1, h2, h3⟩; exact ⟨⟨h1, h2, h3⟩, h4⟩

set_option maxRecDepth 100000 in
set_option maxHeartbeats 4000000 in
theorem soundSlots_i {l : List Int} {sl : List Sl} {b : Bool} {A : Option Addr} {n c : Nat} {B : Option Addr} {m d : Nat} {x k : Int} (w : World) {S : Nat → Prop} (hr : TbIn w S l sl A n c B m d x k) (hm : m ≤ 1048576) (hst : ∀ (j : Nat) t, sl[j]? = some t → t.key.str.size ≤ 140737488355328 ∧ tot t.val ≤ 281474976710656) (hE : prs.Env w) :
    Calls Tryz.prog 106 #[tbV b A n c B m d x k] w (BoP w (rowS x sl ∧ ((livK sl).length : Int) = k)) := by
  have HR := Lib.hid hr
  have HST := Lib.hid hst
  have HEN := Lib.hid hE
  have hlen : Hid (sl.length = m) := Lib.hid hr.len
  clear hr hst hE
  have hmm := @run_makeMap Tryz.prog
  go_enter Tryz.func106, Tryz.ntmps106
  go_wp2_with (fail)
  clear hmm
  go_loopg [10] (m + 1) (fun gk i wr => ∃ (j : Nat) (e : Value → Option Value), i = .int .i64 j ∧ gk + j = m + 1 ∧ j ≤ m ∧ Hid (∀ (i : Nat) t, i < j → sl[i]? = some t → soundS x sl i t) ∧
    Hid (wr.heap[w.heap.size]? = some (.cells #[.bool b, .slice A n c, .slice B m d, .int .i64 x, .int .i64 k] IT (0, 0))) ∧ Hid (SeenK (livK (sl.take j)) e) ∧ Hid (HoldsC wr (w.heap.size + 1) e (livK (sl.take j)).length) ∧ Hid (Below w.heap.size w wr))
  case atStart =>
    have h1 := HoldsC.made (w.alloc (.cells #[.bool b, .slice A n c, .slice B m d, .int .i64 x, .int .i64 k] IT))
    have z1 : (w.alloc (.cells #[.bool b, .slice A n c, .slice B m d, .int .i64 x, .int .i64 k] IT)).heap.size = w.heap.size + 1 := by simp
    rw [z1] at h1
    exact ⟨0, fun _ => none, rfl, by omega, by omega, Lib.hid (fun i t h => absurd h (by omega)), Lib.hid (heap_alloc2_old w _ _), Lib.hid (fun y => by simp [livK, liv]), Lib.hid h1, Lib.hid (b2 _ _ _)⟩
  case round =>
    obtain ⟨j, e, rfl, hgj, hjm, HL, HA, HS, HM, HB⟩ := hrel
    by_cases hlt : j < m
    · obtain ⟨t, htj⟩ : ∃ t, sl[j]? = some t := ⟨_, List.getElem?_eq_getElem (by have := hlen.out; omega)⟩
      obtain ⟨a, k1, n1, s1, x1, ks1, vs1, A1, c1, rfl, -, hyb, hlb, hv, hT, hcell⟩ := HR.out.slots j t htj
      have hc10 := hcell.stays (w' := wr) (fun hl => HB.out.block _ hl)
      have hys := HST.out j t htj
      have HLT := Lib.hid (livK_take htj)
      have HTJ := Lib.hid htj
      obtain ⟨⟨yb, yn, ys⟩, tv, tb, tl⟩ := t
      simp only at hyb hlb hv hT hc10 hys
      subst hv
      obtain ⟨q1, HQ1⟩ : ∃ q, Hid (belowB ⟨yb, yn, ys⟩ x = q) := ⟨_, Lib.hid rfl⟩
      obtain ⟨q2, HQ2⟩ : ∃ q, Hid (valB (.mk k1 n1 s1 x1 ks1 vs1) = q) := ⟨_, Lib.hid rfl⟩
      have KB : Hid (∀ w' : World, Below w.heap.size w w' → Calls Tryz.prog 147 #[.agg #[.bool yb, .int .i64 yn, .string ys], .int .i64 x] w' (BoQ w' q1)) := Lib.hid fun w' hb' => HQ1.out ▸ keyBelow_i ⟨yb, yn, ys⟩ (by have := hys.1; show ys.size ≤ _; have : ys.size ≤ 140737488355328 := this; omega) x w' (HEN.out.stays hb')
      have IV0 : Hid (∀ w' : World, Below w.heap.size w w' → Calls Tryz.prog 68 #[vV k1 n1 s1 x1 A1 vs1.length c1] w' (BoQ w' q2)) := Lib.hid fun w' hb' => HQ2.out ▸ isValue_i _ hys.2 w' S _ (HEN.out.stays hb') (hT.below' hb')
      obtain ⟨L1, HL1⟩ : ∃ L, Hid (vs1.length = L) := ⟨_, Lib.hid rfl⟩
      rw [HL1.out] at hc10 IV0
      unfold vV at IV0
      obtain ⟨p0, p1, p2, p3, p4, p5, p6, p7, p8, p9⟩ := hc10
      simp only at p0 p1 p2
      clear hyb hlb hT hcell htj hys
      go_upto_region 5 with fail
      obtain ⟨R, HRR⟩ : ∃ R, Hid (wr.heap.size = R) := ⟨_, Lib.hid rfl⟩
      rw [HRR.out]
      generalize hw1 : wr.alloc (.cells #[.bool yb, .int .i64 yn, .string ys, .int .i64 k1, .int .i64 n1, .string s1, .int .i64 x1, .slice A1 L1 c1, .bool tb, .int .i64 tl] 92) = w2
      have hb1 : Below wr.heap.size wr w2 := hw1 ▸ b1 wr _
      have H10 : Hid (w2.heap[R]? = some (.cells #[.bool yb, .int .i64 yn, .string ys, .int .i64 k1, .int .i64 n1, .string s1, .int .i64 x1, .slice A1 L1 c1, .bool tb, .int .i64 tl] 92 (0, 0))) := Lib.hid (by rw [← hw1, ← HRR.out]; exact heap_alloc_new wr _)
      have HMR : Hid (w.heap.size + 1 < R) := Lib.hid (by have := HM.out.holds.lt; have := HRR.out; omega)
      replace HM := Lib.hid (HM.out.kept (hb1.block _ HM.out.holds.lt))
      replace HB := Lib.hid (bs HB.out hb1)
      replace HA := Lib.hid (carry hb1 HA.out)
      have r10 := (rowc H10.out).1
      have z0 := r10 0; have z1 := r10 1; have z2 := r10 2
      simp at z0 z1 z2
      have y3 := (rowc HA.out).1 3
      simp at y3
      clear hw1 hb1 r10 p0 p1 p2 p3 p4 p5 p6 p7 p8 p9
      go_wp2_with (fail)
      refine (KB.out _ HB.out).mono ?_
      rintro e1 w3 ⟨rfl, hb1⟩
      replace HM := Lib.hid (HM.out.kept (hb1.block _ HM.out.holds.lt))
      replace HB := Lib.hid (bs HB.out hb1)
      replace HA := Lib.hid (carry hb1 HA.out)
      replace H10 := Lib.hid (carry hb1 H10.out)
      have r10 := (rowc H10.out).1
      clear z0 z1 z2 y3 hb1
      have z0 := r10 0; have z1 := r10 1; have z2 := r10 2; have z3 := r10 3; have z4 := r10 4; have z5 := r10 5; have z6 := r10 6; have z7 := r10 7; have z8 := r10 8
      simp at z0 z1 z2 z3 z4 z5 z6 z7 z8
      clear r10
      cases q1 with
      | false =>
        have HF : Hid (false = true ↔ (rowS x sl ∧ ((livK sl).length : Int) = k)) := Lib.hid ⟨fun h => (by cases h), fun h => by
          have h1 := (h.1 j _ HTJ.out).1
          have h2 := HQ1.out
          unfold belowB at h2
          rw [h2] at h1
          cases h1⟩
        go_wp2_with (fail)
        go_ret
        exact BoP.of HF.out HB.out
      | true =>
        have hkk : ∀ w' : World, GK w' (.agg #[.bool yb, .int .i64 yn, .string ys]) := fun _ => ⟨⟨yb, yn, ys⟩, rfl⟩
        by_cases hsn : (⟨yb, yn, ys⟩ : Ky) ∈ livK (sl.take j)
        · have HEK : Hid (e (.agg #[.bool yb, .int .i64 yn, .string ys]) = some (.bool true)) := Lib.hid ((HS.out ⟨yb, yn, ys⟩).trans (if_pos hsn))
          cases tb with
          | true =>
            have HF : Hid (false = true ↔ (rowS x sl ∧ ((livK sl).length : Int) = k)) := Lib.hid ⟨fun h => (by cases h), fun h => absurd hsn ((h.1 j _ HTJ.out).2.1 rfl)⟩
            clear hsn
            go_wp2_with (first | (at_lookup; refine raw.wpList_lookup_w _ (by rfl) _ _ 166 false rfl HM.out.holds good_ky Tryz.underlying166 (kzero _) rfl rfl (hkk _) HEK.out (kgot_some _ _) ?_) | fail)
            go_ret
            exact BoP.of HF.out HB.out
          | false =>
            clear hsn
            by_cases hk : k1 = 0
            · have HVZ : Hid (q2 = true ↔ zeroT (.mk k1 n1 s1 x1 ks1 vs1)) := Lib.hid (by rw [← HQ2.out]; exact val_zero hk)
              subst hk
              go_wp2_with (first | (at_lookup; refine raw.wpList_lookup_w _ (by rfl) _ _ 166 false rfl HM.out.holds good_ky Tryz.underlying166 (kzero _) rfl rfl (hkk _) HEK.out (kgot_some _ _) ?_) | fail)
              refine (IV0.out _ HB.out).mono ?_
              rintro e2 w4 ⟨rfl, hb1⟩
              replace HM := Lib.hid (HM.out.kept (hb1.block _ HM.out.holds.lt))
              replace HB := Lib.hid (bs HB.out hb1)
              replace HA := Lib.hid (carry hb1 HA.out)
              clear hb1 z0 z1 z2 z3 z4 z5 z6 z7 z8
              cases q2 with
              | false =>
                have HF : Hid (false = true ↔ (rowS x sl ∧ ((livK sl).length : Int) = k)) := Lib.hid ⟨fun h => (by cases h), fun h => absurd (HVZ.out.2 ((h.1 j _ HTJ.out).2.2 rfl)) (by decide)⟩
                go_wp2_with (fail)
                go_ret
                exact BoP.of HF.out HB.out
              | true =>
                have HL2 : Hid (livK (sl.take (j + 1)) = livK (sl.take j)) := Lib.hid (by have := HLT.out; simpa using this)
                have HVT : Hid (zeroT (.mk 0 n1 s1 x1 ks1 vs1)) := Lib.hid (HVZ.out.1 rfl)
                have HQT : Hid (belowB ⟨yb, yn, ys⟩ x = true) := Lib.hid HQ1.out
                go_wp2_with (fail)
                go_roundg (m - j)
                case rel =>
                  refine ⟨j + 1, e, by go_num, by omega, by omega, Lib.hid (fun i t hi ht => ?_), HA, Lib.hid (by rw [HL2.out]; exact HS.out), Lib.hid (by rw [HL2.out]; exact HM.out), HB⟩
                  rcases Nat.lt_or_ge i j with h | h
                  · exact HL.out i t h ht
                  · obtain rfl : i = j := by omega
                    rw [HTJ.out] at ht
                    obtain rfl := Option.some.inj ht
                    exact ⟨HQ1.out, fun h => (by cases h), fun _ => HVT.out⟩
                case measure => omega
            · have hk2 : (k1 != 0) = true := by simp [hk]
              have HF : Hid (false = true ↔ (rowS x sl ∧ ((livK sl).length : Int) = k)) := Lib.hid ⟨fun h => (by cases h), fun h => absurd ((h.1 j _ HTJ.out).2.2 rfl).1 hk⟩
              clear hk
              go_wp2_with (first | (at_lookup; refine raw.wpList_lookup_w _ (by rfl) _ _ 166 false rfl HM.out.holds good_ky Tryz.underlying166 (kzero _) rfl rfl (hkk _) HEK.out (kgot_some _ _) ?_) | fail)
              go_ret
              exact BoP.of HF.out HB.out
        · have HEK : Hid (e (.agg #[.bool yb, .int .i64 yn, .string ys]) = none) := Lib.hid ((HS.out ⟨yb, yn, ys⟩).trans (if_neg hsn))
          cases tb with
          | true =>
            have HSN := Lib.hid hsn
            have HL2 : Hid (livK (sl.take (j + 1)) = livK (sl.take j) ++ [⟨yb, yn, ys⟩]) := Lib.hid (by have := HLT.out; simpa using this)
            clear hsn
            go_wp2_with (first
              | (at_lookup; refine raw.wpList_lookup_w _ (by rfl) _ _ 166 false rfl HM.out.holds good_ky Tryz.underlying166 (kzero _) rfl rfl (hkk _) HEK.out (kgot_none _) ?_)
              | (at_mapUpdate; refine wpList_updateC _ rfl _ _ _ 166 rfl HM.out good_ky Tryz.underlying166 rfl rfl rfl (hkk _) HEK.out ?_
                 intro w4 hm14 hgr4
                 have HM4 := Lib.hid hm14
                 have HGR4 := Lib.hid hgr4
                 clear hm14 hgr4)
              | fail)
            go_roundg (m - j)
            case rel =>
              refine ⟨j + 1, _, by go_num, by omega, by omega, Lib.hid (fun i t hi ht => ?_), Lib.hid ((HGR4.out.block _ (Array.getElem?_eq_some_iff.1 HA.out).1 (fun h => by injection h with h; omega)).trans HA.out), Lib.hid (by rw [HL2.out]; exact HS.out.push _), Lib.hid (by rw [HL2.out, List.length_append]; exact HM4.out), Lib.hid (HB.out.grown HGR4.out HB.out.size (fun h e => by injection e with e; omega))⟩
              rcases Nat.lt_or_ge i j with h | h
              · exact HL.out i t h ht
              · obtain rfl : i = j := by omega
                rw [HTJ.out] at ht
                obtain rfl := Option.some.inj ht
                exact ⟨HQ1.out, fun _ => HSN.out, fun h => (by cases h)⟩
            case measure => omega
          | false =>
            clear hsn
            by_cases hk : k1 = 0
            · have HVZ : Hid (q2 = true ↔ zeroT (.mk k1 n1 s1 x1 ks1 vs1)) := Lib.hid (by rw [← HQ2.out]; exact val_zero hk)
              subst hk
              go_wp2_with (first | (at_lookup; refine raw.wpList_lookup_w _ (by rfl) _ _ 166 false rfl HM.out.holds good_ky Tryz.underlying166 (kzero _) rfl rfl (hkk _) HEK.out (kgot_none _) ?_) | fail)
              refine (IV0.out _ HB.out).mono ?_
              rintro e2 w4 ⟨rfl, hb1⟩
              replace HM := Lib.hid (HM.out.kept (hb1.block _ HM.out.holds.lt))
              replace HB := Lib.hid (bs HB.out hb1)
              replace HA := Lib.hid (carry hb1 HA.out)
              clear hb1 z0 z1 z2 z3 z4 z5 z6 z7 z8
              cases q2 with
              | false =>
                have HF : Hid (false = true ↔ (rowS x sl ∧ ((livK sl).length : Int) = k)) := Lib.hid ⟨fun h => (by cases h), fun h => absurd (HVZ.out.2 ((h.1 j _ HTJ.out).2.2 rfl)) (by decide)⟩
                go_wp2_with (fail)
                go_ret
                exact BoP.of HF.out HB.out
              | true =>
                have HL2 : Hid (livK (sl.take (j + 1)) = livK (sl.take j)) := Lib.hid (by have := HLT.out; simpa using this)
                have HVT : Hid (zeroT (.mk 0 n1 s1 x1 ks1 vs1)) := Lib.hid (HVZ.out.1 rfl)
                have HQT : Hid (belowB ⟨yb, yn, ys⟩ x = true) := Lib.hid HQ1.out
                go_wp2_with (fail)
                go_roundg (m - j)
                case rel =>
                  refine ⟨j + 1, e, by go_num, by omega, by omega, Lib.hid (fun i t hi ht => ?_), HA, Lib.hid (by rw [HL2.out]; exact HS.out), Lib.hid (by rw [HL2.out]; exact HM.out), HB⟩
                  rcases Nat.lt_or_ge i j with h | h
                  · exact HL.out i t h ht
                  · obtain rfl : i = j := by omega
                    rw [HTJ.out] at ht
                    obtain rfl := Option.some.inj ht
                    exact ⟨HQ1.out, fun h => (by cases h), fun _ => HVT.out⟩
                case measure => omega
            · have hk2 : (k1 != 0) = true := by simp [hk]
              have HF : Hid (false = true ↔ (rowS x sl ∧ ((livK sl).length : Int) = k)) := Lib.hid ⟨fun h => (by cases h), fun h => absurd ((h.1 j _ HTJ.out).2.2 rfl).1 hk⟩
              clear hk
              go_wp2_with (first | (at_lookup; refine raw.wpList_lookup_w _ (by rfl) _ _ 166 false rfl HM.out.holds good_ky Tryz.underlying166 (kzero _) rfl rfl (hkk _) HEK.out (kgot_none _) ?_) | fail)
              go_ret
              exact BoP.of HF.out HB.out
    · obtain rfl : j = m := by omega
      have hln := fun ty => HM.out.len Tryz.underlying166 ty
      have e1 : sl.take j = sl := by rw [← hlen.out, List.take_length]
      rw [e1] at hln
      obtain ⟨c2, HC⟩ : ∃ c2, Hid ((livK sl).length = c2) := ⟨_, Lib.hid rfl⟩
      rw [HC.out] at hln
      have HF : Hid ((k == (c2 : Int)) = true ↔ (rowS x sl ∧ ((livK sl).length : Int) = k)) := Lib.hid (by
        rw [HC.out, beq_iff_eq]
        exact ⟨fun h => ⟨fun i t ht => HL.out i t (by have := (List.getElem?_eq_some_iff.1 ht).1; have := hlen.out; omega) ht, h.symm⟩, fun h => h.2.symm⟩)
      have z4 := (rowc HA.out).1 4
      simp at z4
      clear e1
      go_wp2_with (fail)
      go_ret
      exact BoP.of HF.out HB.out

end Go.Proofs.YtdgfpfkhcojgaaaGreatDoor.tree

/-
  Whether a table is sound, of the project.
  Conditions: those that each theorem names; the package variables of the library's reading of numbers hold what the program's text lays.
-/
namespace Go.Proofs.YtdgfpfkhcojgaaaGreatDoor.tree
open Go.ChangeShapes Go.WideShapes Go.ChangeAt Go.RowKit
set_option linter.unusedVariables false

/-- The bounds that a law's size gives. -/
structure SlB (sl : List Sl) : Prop where
  str : ∀ (j : Nat) t, sl[j]? = some t → t.key.str.size ≤ 140737488355328
  tot : ∀ (j : Nat) t, sl[j]? = some t → tot t.val ≤ 281474976710656

set_option maxHeartbeats 1000000 in
theorem isTable_i {l : List Int} {sl : List Sl} {b : Bool} {A : Option Addr} {n c : Nat} {B : Option Addr} {m d : Nat} {x k : Int} (w : World) {S : Nat → Prop} (hr : TbIn w S l sl A n c B m d x k) (hn : n ≤ 1048576) (hm : m ≤ 1048576) (hst : SlB sl) (hE : prs.Env w) :
    Calls Tryz.prog 50 #[tbV b A n c B m d x k] w (BoP w (tabOk b l sl x k)) := by
  have hln : l.length = n := hr.heads.len
  have hlm : sl.length = m := hr.len
  have HR : Hid (∀ w', Below w.heap.size w w' → TbIn w' S l sl A n c B m d x k) := Lib.hid fun w' hb => ⟨hr.heads.below hb, hr.hn, hr.len, hr.cap, hr.slots.below hb, hr.next, hr.count⟩
  have HEN := Lib.hid hE
  have HST := Lib.hid hst
  obtain ⟨q, HQ⟩ : ∃ q, Hid (nums.inr x 0 1000000001 = q) := ⟨_, Lib.hid rfl⟩
  have IR := fun w => HQ.out ▸ nums.implInRange x 0 1000000001 w
  have HT : Hid (tabOk b l sl x k ↔ (q = true ∧ sizeP b n m x ∧ (rowS x sl ∧ ((livK sl).length : Int) = k) ∧ (rowL b n sl ∧ hs n sl m = l))) := Lib.hid (by
    unfold tabOk
    rw [hln, hlm, ← HQ.out]
    unfold nums.inr
    simp)
  clear hr hE hst
  clear hln hlm
  cases q with
  | false =>
    have HF : Hid (false = true ↔ tabOk b l sl x k) := Lib.hid (by rw [HT.out]; simp)
    go_enter Tryz.func50, Tryz.ntmps50
    go_wp2_with (fail)
    refine (IR _).mono ?_
    rintro e w1 ⟨rfl, rfl⟩
    go_wp2_with (fail)
    go_ret
    exact BoP.of HF.out (b1 _ _)
  | true =>
    have hx : 0 ≤ x := by have := HQ.out; unfold nums.inr at this; simp at this; omega
    have RS := fun w => rightSize_i b A n c B m d x k hn hm hx w
    have SS : Hid (∀ w', Below w.heap.size w w' → Calls Tryz.prog 106 #[tbV b A n c B m d x k] w' (BoP w' (rowS x sl ∧ ((livK sl).length : Int) = k))) := Lib.hid fun w' hb => soundSlots_i w' (HR.out w' hb) hm (fun j t h => ⟨HST.out.str j t h, HST.out.tot j t h⟩) (HEN.out.stays hb)
    have RL : Hid (∀ w', Below w.heap.size w w' → Calls Tryz.prog 107 #[tbV b A n c B m d x k] w' (BoP w' (rowL b n sl ∧ hs n sl m = l))) := Lib.hid fun w' hb => rightLinks_i w' (HR.out w' hb) hn hm HST.out.str
    clear hx
    go_enter Tryz.func50, Tryz.ntmps50
    go_wp2_with (fail)
    refine (IR _).mono ?_
    rintro e w1 ⟨rfl, rfl⟩
    go_wp2_with (fail)
    refine (RS _).mono ?_
    rintro e w2 ⟨q1, rfl, h1, hb⟩
    have HA := Lib.hid (carry hb (heap_alloc_new _ _))
    have HB := Lib.hid (bs (b1 _ _) hb)
    have H1 := Lib.hid h1
    have r := (rowc HA.out).1
    have z0 := r 0; have z1 := r 1; have z2 := r 2; have z3 := r 3; have z4 := r 4
    simp at z0 z1 z2 z3 z4
    clear hb h1 r
    cases q1 with
    | false =>
      go_wp2_with (fail)
      go_ret
      exact BoP.of (by rw [HT.out]; have := H1.out; simp at this; simp [this]) HB.out
    | true =>
      go_wp2_with (fail)
      refine (SS.out _ HB.out).mono ?_
      rintro e w3 ⟨q2, rfl, h2, hb⟩
      replace HA := Lib.hid (carry hb HA.out)
      replace HB := Lib.hid (bs HB.out hb)
      have H2 := Lib.hid h2
      clear z0 z1 z2 z3 z4
      have r := (rowc HA.out).1
      have z0 := r 0; have z1 := r 1; have z2 := r 2; have z3 := r 3; have z4 := r 4
      simp at z0 z1 z2 z3 z4
      clear hb h2 r
      cases q2 with
      | false =>
        go_wp2_with (fail)
        go_ret
        exact BoP.of (by rw [HT.out]; have := H2.out; simp at this; simp only [Bool.false_eq_true, false_iff]; rintro ⟨-, -, h, -⟩; exact this h.1 h.2) HB.out
      | true =>
        go_wp2_with (fail)
        refine (RL.out _ HB.out).mono ?_
        rintro e w4 ⟨q3, rfl, h3, hb⟩
        replace HB := Lib.hid (bs HB.out hb)
        have H3 := Lib.hid h3
        clear z0 z1 z2 z3 z4 hb h3
        go_wp2_with (fail)
        go_ret
        exact BoP.of (by rw [HT.out, H3.out]; exact ⟨fun h => ⟨trivial, H1.out.1 trivial, H2.out.1 trivial, h⟩, fun h => h.2.2.2⟩) HB.out

end Go.Proofs.YtdgfpfkhcojgaaaGreatDoor.tree

