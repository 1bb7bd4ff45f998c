/-
  What the texts behind this one use: 6 parts of one proof.
  Conditions: those that each theorem names.
-/
import Derived.Test.YtdgfpfkhcojgaaaGreatDoorTBSRbT
import Derived.Test.YtdgfpfkhcojgaaaGreatDoorTBSSlotI
import Derived.Test.YtdgfpfkhcojgaaaGreatDoorTBB6
import Derived.Test.YtdgfpfkhcojgaaaGreatDoorTBSBuild7
import Derived.Test.YtdgfpfkhcojgaaaGreatDoorTBSSlotS
import Derived.Test.YtdgfpfkhcojgaaaGreatDoorTBB3
import Derived.Test.YtdgfpfkhcojgaaaGreatDoorTBSCpW
import Derived.Test.YtdgfpfkhcojgaaaGreatDoorTBB2
import Derived.Test.YtdgfpfkhcojgaaaGreatDoorTBB5
import Derived.Test.YtdgfpfkhcojgaaaGreatDoorTBSTabG
/-
  Whether a table must be built anew before a slot is added, of the project.
  Conditions: those that each theorem names.
-/
open Go.Lib (hid)
namespace Go.Proofs.YtdgfpfkhcojgaaaGreatDoor.tree
open Go.ChangeShapes Go.WideShapes Go.ChangeAt Go.RowKit
set_option linter.unusedVariables false
set_option maxRecDepth 100000 in
set_option maxHeartbeats 1000000 in
theorem needs_i (b : Bool) (A : Option Addr) (n c : Nat) (B : Option Addr) (m d : Nat) (x k : Int) (hm : m <= 1048576) (hn : n <= 1048576) (y : Ky) (w : World) :
   Calls Tryz.prog 112 #[tbV b A n c B m d x k, kyV y] w (fun e w' => e = .returned (.bool (needB b n m y)) /\ Below w.heap.size w w') := by
 obtain ⟨q, HQ⟩ : ∃ q, Hid (needB b n m y = q) := ⟨_, hid rfl⟩
 have NE := fun w => ky_neq w y (ixK m)
 obtain ⟨p, HPP⟩ : ∃ p, Hid (decide (y = ixK m) = p) := ⟨_, hid rfl⟩
 rw [HPP.out] at NE
 rw [HQ.out]
 obtain ⟨yb, yn, ys⟩ := y
 unfold kyV ixK at NE
 unfold kyV
 simp only at NE |-
 go_enter Tryz.func112, Tryz.ntmps112
 go_upto_region 1 with fail
 generalize hw0 : (w.alloc (.cells #[.bool b, .slice A n c, .slice B m d, .int .i64 x, .int .i64 k] IT)).alloc (.cells #[.bool yb, .int .i64 yn, .string ys] 29) = w0
 have HB : Hid (Below w.heap.size w w0) := hid (hw0 ▸ b2 _ _ _)
 have HA : Hid (w0.heap[w.heap.size]? = some (.cells #[.bool b, .slice A n c, .slice B m d, .int .i64 x, .int .i64 k] IT (0, 0))) := hid (hw0 ▸ heap_alloc2_old w _ _)
 have HY : Hid (w0.heap[w.heap.size + 1]? = some (.cells #[.bool yb, .int .i64 yn, .string ys] 29 (0, 0))) := hid (hw0 ▸ heap_alloc2_new w _ _)
 have y0 : w0.cell? ⟨w.heap.size, 0, none⟩ = some (.bool b) := (rowc HA.out).1 0
 have y1 : w0.cell? ⟨w.heap.size, 1, none⟩ = some (.slice A n c) := (rowc HA.out).1 1
 have y2 : w0.cell? ⟨w.heap.size, 2, none⟩ = some (.slice B m d) := (rowc HA.out).1 2
 have z0 : w0.cell? ⟨w.heap.size + 1, 0, none⟩ = some (.bool yb) := (rowc HY.out).1 0
 have z1 : w0.cell? ⟨w.heap.size + 1, 1, none⟩ = some (.int .i64 yn) := (rowc HY.out).1 1
 have z2 : w0.cell? ⟨w.heap.size + 1, 2, none⟩ = some (.string ys) := (rowc HY.out).1 2
 clear hw0
 cases b with
 | true =>
   go_wp2_with (fail)
   go_ret
   refine ⟨?_, HB.out⟩
   rw [← HQ.out]
   unfold needB
   simp
   rw [Bool.eq_iff_iff]
   simp
   try omega
 | false =>
   cases p with
   | false =>
     go_wp2_with (fail)
     go_ret
     refine ⟨?_, HB.out⟩
     have h1 := of_decide_eq_false HPP.out
     rw [← HQ.out]
     unfold needB
     simp [h1]
   | true =>
     have h1 := of_decide_eq_true HPP.out
     have HE := hid h1
     clear h1
     by_cases h4 : m = 1024
     . have h5 : ((m : Int) == 1024) = true := by rw [h4]; rfl
       have H4 := hid h4
       clear h4
       go_wp2_with (fail)
       go_ret
       refine ⟨?_, HB.out⟩
       rw [← HQ.out, HE.out]
       unfold needB
       simp [H4.out]
     . have h5 : decide (m = 1024) = false := decide_eq_false h4
       go_wp2_with (fail)
       go_ret
       refine ⟨?_, HB.out⟩
       rw [← HQ.out, HE.out]
       unfold needB
       simp [h4]
       try omega
end Go.Proofs.YtdgfpfkhcojgaaaGreatDoor.tree
/-
 A key set in a table of the call's own that lies in a box, of the project.
 Conditions: those that each theorem names.
-/
namespace Go.Proofs.YtdgfpfkhcojgaaaGreatDoor.tree
open Go.ChangeShapes Go.WideShapes Go.ChangeAt Go.RowKit
set_option linter.unusedVariables false
theorem BxT.own {w : World} {Q lo : Nat} {b : Bool} {l : List Int} {sl : List Sl} {A : Option Addr} {n c : Nat} {B : Option Addr} {m d : Nat} {x k : Int} {G : Nat -> Nat -> Prop} (h : BxT w Q lo b l sl A n c B m d x k G) (hl : ∀ i, i < m -> ∀ q, G i q -> lo <= q) : OwnF w lo l sl A n c B m d G :=
 ⟨h.heads, h.slots, fun q e => ⟨(h.hq q e).2.1, fun i hi => (h.hq q e).2.2 i (by rw [h.len]; exact hi)⟩, h.len, hl⟩
theorem OwnF.box {w : World} {Q lo : Nat} {b : Bool} {l : List Int} {sl : List Sl} {A : Option Addr} {n c : Nat} {B : Option Addr} {m d : Nat} {x k : Int} {G : Nat -> Nat -> Prop} (h : OwnF w lo l sl A n c B m d G) (hb : w.heap[Q]? = some (.cells #[.bool b, .slice A n c, .slice B m d, .int .i64 x, .int .i64 k] IT (0, 0))) (hQ : ∀ q, FOwn A n c B m d G q -> q ≠ Q) : BxT w Q lo b l sl A n c B m d x k G :=
 ⟨hb, h.heads, h.slots, fun q e => ⟨hQ q (.inl e), (h.hq q e).1, fun i hi => (h.hq q e).2 i (by rw [← h.len]; exact hi)⟩, fun e => hQ Q (.inr (.inl e)) rfl, fun i hi hg => hQ Q (.inr (.inr ⟨i, by rw [← h.len]; exact hi, hg⟩)) rfl, h.len⟩
theorem OwnF.keepd {w w' : World} {lo : Nat} {l : List Int} {sl : List Sl} {A B : Option Addr} {n c m d : Nat} {G : Nat -> Nat -> Prop} (h : OwnF w lo l sl A n c B m d G) (hb : Below w.heap.size w w') : OwnF w' lo l sl A n c B m d G := h.below hb
theorem BxT.raise {w : World} {Q lo lo' : Nat} {b : Bool} {l : List Int} {sl : List Sl} {A : Option Addr} {n c : Nat} {B : Option Addr} {m d : Nat} {x k : Int} {G : Nat -> Nat -> Prop} (h : BxT w Q lo b l sl A n c B m d x k G) (hl : ∀ q, FOwn A n c B m d G q -> lo' <= q) : BxT w Q lo' b l sl A n c B m d x k G :=
 ⟨h.box, owni_raise h.heads (fun q e => hl q (.inl e)), h.slots.imp fun xs hs => hs.raise (fun q e => hl q (.inr (.inl e))), h.hq, h.bq, h.gq, h.len⟩
theorem BxT.setv {w w' : World} {Q lo : Nat} {b : Bool} {l : List Int} {sl : List Sl} {A : Option Addr} {n c g i : Nat} {m d : Nat} {x k : Int} {G : Nat -> Nat -> Prop} (h : BxT w Q lo b l sl A n c (some ⟨g, 0, none⟩) m d x k G) (hi : i < m) {F : Nat -> Prop}
   {k1 n1 x1 : Int} {s1 : ByteArray} {ks1 : List Ky} {vs1 : List Tr} {A1 : Option Addr} {c1 : Nat} (hF : FIn w' F (.mk k1 n1 s1 x1 ks1 vs1) (vV k1 n1 s1 x1 A1 vs1.length c1))
   (hFd : ∀ q, F q -> q < w.heap.size /\ q ≠ g /\ (Value.slice A n c).ownBlock ≠ some q /\ q ≠ Q /\ ∀ j, j < m -> ¬ G j q)
   (hz : w.heap.size <= w'.heap.size)
   (hg : ∀ arr, w.heap[g]? = some (.cells arr IS (0, 0)) -> w'.heap[g]? = some (.cells (set5 arr (i * 10 + 3) (.int .i64 k1) (.int .i64 n1) (.string s1) (.int .i64 x1) (.slice A1 vs1.length c1)) IS (0, 0)))
   (ho : ∀ q, q ≠ g -> q < w.heap.size -> w'.heap[q]? = w.heap[q]?) : BxT w' Q lo b l (setV sl i (.mk k1 n1 s1 x1 ks1 vs1)) A n c (some ⟨g, 0, none⟩) m d x k (fun j => if j = i then F else G j) := by
 obtain ⟨hbox, hheads, ⟨xs, hs⟩, hhq, hbq, hgq, hlen⟩ := h
 have hlv := setV_len sl i (.mk k1 n1 s1 x1 ks1 vs1)
 rcases hs.laid hlen with ⟨e, -⟩ | ⟨g', e, hlo, hd, hL⟩
 . cases e
 obtain rfl : g = g' := by simpa using e
 have hapart := fun {i j : Nat} (hi : i < sl.length) (hj : j < sl.length) (hij : i ≠ j) {q : Nat} (hq : G i q) => hs.apart hi hj hij hq
 have hfoot := fun {i : Nat} (hi : i < sl.length) {q : Nat} (hq : G i q) => hs.foot hi hq
 obtain ⟨arr, ha, hsz, hrow⟩ := hL
 have hgl := (Array.getElem?_eq_some_iff.1 ha).1
 have hL' : LaidF w' g d (setV sl i (.mk k1 n1 s1 x1 ks1 vs1)) (fun j => if j = i then F else G j) := by
   have hi10 : i * 10 + 10 <= arr.size := by omega
   refine ⟨_, hg arr ha, by rw [set5_size]; exact hsz, fun j t ht => ?_⟩
   rcases setV_get ht with ⟨hne, ht⟩ | ⟨rfl, t0, ht0, rfl⟩
   . obtain ⟨a1, a2, k, n, s, x, ks, vs, A', c', hv, hT, hc⟩ := hrow j t ht
     have hjl := (List.getElem?_eq_some_iff.1 ht).1
     refine ⟨a1, a2, k, n, s, x, ks, vs, A', c', hv, ?_, fun q hq => ?_⟩
     . dsimp only
       rw [if_neg hne]
       exact hT.keep fun q hq hl => ho q (fun e => (hfoot hjl hq).2 (by rw [e]; rfl)) hl
     . rw [set5_out _ _ _ _ _ _ _ _ (by omega)]
       exact hc q hq
   . obtain ⟨a1, a2, k, n, s, x, ks, vs, A', c', hv, hT, hc⟩ := hrow j t0 ht0
     refine ⟨a1, a2, k1, n1, s1, x1, ks1, vs1, A1, c1, rfl, ?_, fun q hq => ?_⟩
     . dsimp only
       rw [if_pos rfl]
       exact hF
     . by_cases h3 : q < 3
       . rw [set5_out _ _ _ _ _ _ _ _ (by omega), hc q hq]
         obtain rfl | rfl | rfl : q = 0 \/ q = 1 \/ q = 2 := by omega
         . rfl
         . rfl
         . rfl
       . by_cases h8 : q < 8
         . obtain ⟨p, rfl⟩ : ∃ p, q = 3 + p := ⟨q - 3, by omega⟩
           rw [show j * 10 + (3 + p) = j * 10 + 3 + p by omega, set5_in _ _ _ _ _ _ _ (by omega) p (by omega)]
           obtain rfl | rfl | rfl | rfl | rfl : p = 0 \/ p = 1 \/ p = 2 \/ p = 3 \/ p = 4 := by omega
           all_goals rfl
         . rw [set5_out _ _ _ _ _ _ _ _ (by omega), hc q hq]
           obtain rfl | rfl : q = 8 \/ q = 9 := by omega
           . rfl
           . rfl
 have hG : ∀ j, j < m -> ∀ q, (if j = i then F else G j) q -> ((q < w.heap.size /\ q ≠ g) /\ ∀ j', j' ≠ j -> j' < m -> ¬ (if j' = i then F else G j') q) := fun j hj q hq => by
   by_cases e : j = i
   . rw [if_pos e] at hq
     refine ⟨⟨(hFd q hq).1, (hFd q hq).2.1⟩, fun j' hne hj' hq' => ?_⟩
     rw [if_neg (by omega)] at hq'
     exact (hFd q hq).2.2.2.2 j' hj' hq'
   . rw [if_neg e] at hq
     refine ⟨⟨(hfoot (by rw [hlen]; exact hj) hq).1, fun e2 => (hfoot (by rw [hlen]; exact hj) hq).2 (by rw [e2]; rfl)⟩, fun j' hne hj' hq' => ?_⟩
     by_cases e' : j' = i
     . rw [if_pos e'] at hq'
       exact (hFd q hq').2.2.2.2 j hj hq
     . rw [if_neg e'] at hq'
       exact hapart (by rw [hlen]; exact hj) (by rw [hlen]; exact hj') (fun e => hne e.symm) hq hq'
 have hQg : Q ≠ g := fun e => hbq (by rw [e]; rfl)
 refine ⟨(ho Q hQg (Array.getElem?_eq_some_iff.1 hbox).1).trans hbox, owni_blk hheads fun q e => ho q (fun e2 => (hhq q e).2.1 (by rw [e2]; rfl)) (hheads.block q e).2, hL'.row (by rw [hlv]; exact hlen) hd hlo (fun j hj q hq => ⟨⟨by have := (hG j hj q hq).1.1; omega, (hG j hj q hq).1.2⟩, fun j' hj' => (hG j hj q hq).2 j' (by omega) (by omega)⟩), fun q e => ⟨(hhq q e).1, (hhq q e).2.1, fun j hj hq => ?_⟩, hbq, fun j hj hq => ?_, by rw [hlv]; exact hlen⟩
 . rw [hlv] at hj
   try dsimp only at hq
   split at hq
   . exact (hFd q hq).2.2.1 e
   . exact (hhq q e).2.2 j hj hq
 . rw [hlv] at hj
   try dsimp only at hq
   split at hq
   . exact (hFd Q hq).2.2.2.1 rfl
   . exact hgq j hj hq
def StQ (w : World) (Q lo : Nat) (b : Bool) (l : List Int) (sl : List Sl) (A : Option Addr) (n c : Nat) (B : Option Addr) (m d : Nat) (x k : Int) (G : Nat -> Nat -> Prop) (y : Ky) (v : Tr) (F : Nat -> Prop) (e : Ending) (w' : World) : Prop :=
 ∃ rb rl rs rx rk ok A' n' c' B' m' d' G', StR b l sl x k y v rb rl rs rx rk ok /\ e = .returned (.bool ok) /\ BxT w' Q lo rb rl rs A' n' c' B' m' d' rx rk G' /\ Fr (BxF Q A n c B m d) w w' /\
   (∀ i, i < m' -> ∀ q, G' i q -> (∃ i', i' < m /\ G i' q) \/ F q)
set_option maxRecDepth 100000 in
set_option maxHeartbeats 4000000 in
theorem setSlot_i {Q lo : Nat} {b : Bool} {l : List Int} {sl : List Sl} {A : Option Addr} {n c : Nat} {B : Option Addr} {m d : Nat} {x k : Int} {G : Nat -> Nat -> Prop} (w : World) (h : BxT w Q lo b l sl A n c B m d x k G) (hlo : lo <= w.heap.size) (hok : tabOk b l sl x k) (hst : SlB sl)
   (y : Ky) (hyk : keyB y = true) (hys : y.str.size <= 140737488355328) {F : Nat -> Prop} {k1 n1 x1 : Int} {s1 : ByteArray} {ks1 : List Ky} {vs1 : List Tr} {A1 : Option Addr} {c1 : Nat} (hF : FIn w F (.mk k1 n1 s1 x1 ks1 vs1) (vV k1 n1 s1 x1 A1 vs1.length c1))
   (hFd : ∀ q, F q -> q < w.heap.size /\ (Value.slice B m d).ownBlock ≠ some q /\ (Value.slice A n c).ownBlock ≠ some q /\ q ≠ Q /\ ∀ i, i < sl.length -> ¬ G i q) :
   Calls Tryz.prog 54 #[.pointer (some ⟨Q, 0, none⟩), kyV y, vV k1 n1 s1 x1 A1 vs1.length c1] w (StQ w Q lo b l sl A n c B m d x k G y (.mk k1 n1 s1 x1 ks1 vs1) F) := by
 obtain ⟨P, HP⟩ : ∃ P, Hid (w.heap.size = P) := ⟨_, hid rfl⟩
 have hlm := h.len
 have hln : l.length = n := h.heads.len
 obtain ⟨hm1, hn1⟩ := hok.len
 rw [hlm] at hm1
 rw [hln] at hn1
 have hk0 : 0 <= k /\ k <= 1024 := by
   have h1 := hok.2.2.1.2
   have h2 := livK_len sl
   omega
 have hx0 := hok.1
 have HOWN : Hid (OwnF w 0 l sl A n c B m d G) := hid (by
   obtain ⟨xs, hs⟩ := h.slots
   exact ⟨h.heads.less (by omega), ⟨xs, hs.lower (by omega)⟩, fun q e => ⟨(h.hq q e).2.1, fun i hi => (h.hq q e).2.2 i (by omega)⟩, hlm, fun i hi q hg => Nat.zero_le _⟩)
 have TB := hid (HOWN.out.tbin (x := x) (k := k) (by unfold maxLen; omega) (by unfold I64; omega) (by unfold I64; omega))
 have TR : Hid (∀ w', Below w.heap.size w w' -> TbIn w' (fun q => 0 <= q) l sl A n c B m d x k) := hid fun w' hb => ⟨TB.out.heads.below hb, TB.out.hn, TB.out.len, TB.out.cap, TB.out.slots.below hb, TB.out.next, TB.out.count⟩
 have FS : Hid (∀ w', Below w.heap.size w w' -> Calls Tryz.prog 66 #[.agg #[.bool b, .slice A n c, .slice B m d, .int .i64 x, .int .i64 k], kyV y] w' (LtQ w' (fd sl y m))) := hid fun w' hb => findSlot_i w' (TR.out w' hb) hok y hys
 have ND : Hid (∀ w', Calls Tryz.prog 112 #[.agg #[.bool b, .slice A n c, .slice B m d, .int .i64 x, .int .i64 k], kyV y] w' (fun e w2 => e = .returned (.bool (needB b n m y)) /\ Below w'.heap.size w' w2)) := hid fun w' => needs_i b A n c B m d x k (by omega) (by omega) y w'
 have RT : Hid (k < 1024 -> ∀ w', Below w.heap.size w w' -> Calls Tryz.prog 64 #[.agg #[.bool b, .slice A n c, .slice B m d, .int .i64 x, .int .i64 k]] w' (RtQ w' 0 (room k) (rbS (room k) sl) x k m G)) := hid fun h3 w' hb => rebuiltTable_i w' (HOWN.out.below hb) (Nat.zero_le _) hok h3 hst
 obtain ⟨W, HW⟩ : ∃ W, Hid (fd sl y m = W) := ⟨_, hid rfl⟩
 have HWB : Hid (-1 <= W /\ W < m) := hid (HW.out ▸ fd_bd sl y m)
 obtain ⟨nb, HNB⟩ : ∃ q, Hid (needB b n m y = q) := ⟨_, hid rfl⟩
 rw [HW.out] at FS
 rw [HNB.out] at ND
 obtain ⟨L1, HL1⟩ : ∃ L, Hid (vs1.length = L) := ⟨_, hid rfl⟩
 have HYK := hid hyk
 have HYS := hid hys
 have HYL : Hid (-1000000000 <= y.num /\ y.num <= 1000000000) := hid (by
   cases hyt : y.text with
   | false => exact keyB_lim hyk hyt
   | true =>
     unfold keyB at hyk
     rw [hyt] at hyk
     simp at hyk
     omega)
 have HOK := hid hok
 have HBX := hid h
 have HFI := hid hF
 have HFD := hid hFd
 have HLM := hid hlm
 have HLN := hid hln
 have HLO := hid hlo
 have hQP : Q < P := by rw [← HP.out]; exact (Array.getElem?_eq_some_iff.1 h.box).1
 rw [HL1.out]
 obtain ⟨yb, yn, ys⟩ := y
 unfold kyV at FS ND |-
 simp only at FS ND |-
 clear h hok hst hyk hys hF hFd hlm hln hlo TB TR
 go_enter Tryz.func54, Tryz.ntmps54
 go_upto_region 1 with fail
 rw [HP.out]
 generalize hw0 : (w.alloc (.cells #[.bool yb, .int .i64 yn, .string ys] 29)).alloc (.cells #[.int .i64 k1, .int .i64 n1, .string s1, .int .i64 x1, .slice A1 L1 c1] IV) = w0
 have hb0 : Below w.heap.size w w0 := hw0 ▸ b2 w _ _
 have H0 : Hid (w0.heap[P]? = some (.cells #[.bool yb, .int .i64 yn, .string ys] 29 (0, 0))) := hid (by rw [← hw0, ← HP.out]; exact heap_alloc2_old w _ _)
 have H1 : Hid (w0.heap[P + 1]? = some (.cells #[.int .i64 k1, .int .i64 n1, .string s1, .int .i64 x1, .slice A1 L1 c1] IV (0, 0))) := hid (by rw [← hw0, ← HP.out]; exact heap_alloc2_new w _ _)
 have HB := hid hb0
 have HX0 : Hid (w0.heap[Q]? = some (.cells #[.bool b, .slice A n c, .slice B m d, .int .i64 x, .int .i64 k] IT (0, 0))) := hid (carry hb0 HBX.out.box)
 clear hw0 hb0
 have y0 : w0.cell? ⟨Q, 0, none⟩ = some (.bool b) := (rowc HX0.out).1 0
 have y1 : w0.cell? ⟨Q, 1, none⟩ = some (.slice A n c) := (rowc HX0.out).1 1
 have y2 : w0.cell? ⟨Q, 2, none⟩ = some (.slice B m d) := (rowc HX0.out).1 2
 have y3 : w0.cell? ⟨Q, 3, none⟩ = some (.int .i64 x) := (rowc HX0.out).1 3
 have y4 : w0.cell? ⟨Q, 4, none⟩ = some (.int .i64 k) := (rowc HX0.out).1 4
 have p0 : w0.cell? ⟨P, 0, none⟩ = some (.bool yb) := (rowc H0.out).1 0
 have p1 : w0.cell? ⟨P, 1, none⟩ = some (.int .i64 yn) := (rowc H0.out).1 1
 have p2 : w0.cell? ⟨P, 2, none⟩ = some (.string ys) := (rowc H0.out).1 2
 go_wp2_with (fail)
 go_region_held3 (fun w' => w'.cell? ⟨Q, 0, none⟩ = some (.bool b) /\ w'.cell? ⟨Q, 1, none⟩ = some (.slice A n c) /\ w'.cell? ⟨Q, 2, none⟩ = some (.slice B m d) /\ w'.cell? ⟨Q, 3, none⟩ = some (.int .i64 x) /\ w'.cell? ⟨Q, 4, none⟩ = some (.int .i64 k) /\ w'.cell? ⟨P, 0, none⟩ = some (.bool yb) /\ w'.cell? ⟨P, 1, none⟩ = some (.int .i64 yn) /\ w'.cell? ⟨P, 2, none⟩ = some (.string ys)) (go_keep) (first
   | (go_at_call 66; refine (FS.out _ (by first | exact HB.out | exact bs HB.out ((Below.refl _ _).drew))).mono ?_
      rintro e w1 ⟨rfl, hb⟩
      have hbx : Below w0.heap.size w0 w1 := by first | exact hb | exact bs ((Below.refl _ _).drew) hb
      have HB1 := hid (bs HB.out hbx)
      have H01 := hid (carry hbx H0.out)
      have H11 := hid (carry hbx H1.out)
      have HX1 := hid (carry hbx HX0.out)
      have y0 : w1.cell? ⟨Q, 0, none⟩ = some (.bool b) := (rowc HX1.out).1 0
      have y1 : w1.cell? ⟨Q, 1, none⟩ = some (.slice A n c) := (rowc HX1.out).1 1
      have y2 : w1.cell? ⟨Q, 2, none⟩ = some (.slice B m d) := (rowc HX1.out).1 2
      have y3 : w1.cell? ⟨Q, 3, none⟩ = some (.int .i64 x) := (rowc HX1.out).1 3
      have y4 : w1.cell? ⟨Q, 4, none⟩ = some (.int .i64 k) := (rowc HX1.out).1 4
      have p0 : w1.cell? ⟨P, 0, none⟩ = some (.bool yb) := (rowc H01.out).1 0
      have p1 : w1.cell? ⟨P, 1, none⟩ = some (.int .i64 yn) := (rowc H01.out).1 1
      have p2 : w1.cell? ⟨P, 2, none⟩ = some (.string ys) := (rowc H01.out).1 2
      clear hb hbx))
 clear H0 H1 HB HX0
 by_cases hv : W = -1
 . subst hv
   have HFN : Hid (fd sl ⟨yb, yn, ys⟩ sl.length = -1) := hid (by rw [HLM.out]; exact HW.out)
   by_cases hk4 : k = 1024
   . have h5 : (k == 1024) = true := by rw [hk4]; rfl
     have HK4 := hid hk4
     clear hk4
     go_wp2_with (fail)
     go_ret
     exact ⟨b, l, sl, x, k, false, A, n, c, B, m, d, G, .inr (.inl ⟨HFN.out, HK4.out, rfl, rfl, rfl, rfl, rfl, rfl⟩), rfl, HBX.out.below HB1.out, Fr.of HB1.out, fun i hi q hq => .inl ⟨i, hi, hq⟩⟩
   . have h5 : (k == 1024) = false := by simp [hk4]
     have RT1 := hid (RT.out (by omega))
     go_wp2_with (fail)
     go_region_held3 (fun w' => w'.cell? ⟨Q, 0, none⟩ = some (.bool b) /\ w'.cell? ⟨Q, 1, none⟩ = some (.slice A n c) /\ w'.cell? ⟨Q, 2, none⟩ = some (.slice B m d) /\ w'.cell? ⟨Q, 3, none⟩ = some (.int .i64 x) /\ w'.cell? ⟨Q, 4, none⟩ = some (.int .i64 k) /\ w'.cell? ⟨P, 0, none⟩ = some (.bool yb) /\ w'.cell? ⟨P, 1, none⟩ = some (.int .i64 yn) /\ w'.cell? ⟨P, 2, none⟩ = some (.string ys)) (go_keep) (first
       | (go_at_call 112; refine (ND.out _).mono ?_
          rintro e w2 ⟨rfl, hb⟩
          have hbx : Below w1.heap.size w1 w2 := by first | exact hb | exact bs ((Below.refl _ _).drew) hb
          have HB2 := hid (bs HB1.out hbx)
          have H02 := hid (carry hbx H01.out)
          have H12 := hid (carry hbx H11.out)
          have HX2 := hid (carry hbx HX1.out)
          have y0 : w2.cell? ⟨Q, 0, none⟩ = some (.bool b) := (rowc HX2.out).1 0
          have y1 : w2.cell? ⟨Q, 1, none⟩ = some (.slice A n c) := (rowc HX2.out).1 1
          have y2 : w2.cell? ⟨Q, 2, none⟩ = some (.slice B m d) := (rowc HX2.out).1 2
          have y3 : w2.cell? ⟨Q, 3, none⟩ = some (.int .i64 x) := (rowc HX2.out).1 3
          have y4 : w2.cell? ⟨Q, 4, none⟩ = some (.int .i64 k) := (rowc HX2.out).1 4
          have p0 : w2.cell? ⟨P, 0, none⟩ = some (.bool yb) := (rowc H02.out).1 0
          have p1 : w2.cell? ⟨P, 1, none⟩ = some (.int .i64 yn) := (rowc H02.out).1 1
          have p2 : w2.cell? ⟨P, 2, none⟩ = some (.string ys) := (rowc H02.out).1 2
          clear hb hbx))
     cases nb with
     | false =>
       have HBXW := hid (HBX.out.below HB2.out)
       have HFW := hid (HFI.out.below HB2.out)
       have HSZ := hid HB2.out.size
       have HFX : Hid (∀ q, F q -> q < w2.heap.size /\ (Value.slice B m d).ownBlock ≠ some q /\ (Value.slice A n c).ownBlock ≠ some q /\ q ≠ Q /\ ∀ i, i < sl.length -> ¬ G i q) := hid (fun q hq => ⟨by have := (HFD.out q hq).1; have := HSZ.out; omega, (HFD.out q hq).2⟩)
       have v0 : w2.cell? ⟨P + 1, 0, none⟩ = some (.int .i64 k1) := (rowc H12.out).1 0
       have v1 : w2.cell? ⟨P + 1, 1, none⟩ = some (.int .i64 n1) := (rowc H12.out).1 1
       have v2 : w2.cell? ⟨P + 1, 2, none⟩ = some (.string s1) := (rowc H12.out).1 2
       have v3 : w2.cell? ⟨P + 1, 3, none⟩ = some (.int .i64 x1) := (rowc H12.out).1 3
       have v4 : w2.cell? ⟨P + 1, 4, none⟩ = some (.slice A1 L1 c1) := (rowc H12.out).1 4
       have AS : Hid (Calls Tryz.prog 113 #[.pointer (some ⟨Q, 0, none⟩), .agg #[.bool yb, .int .i64 yn, .string ys], vV k1 n1 s1 x1 A1 L1 c1] w2 (AdQ w2 Q lo b l sl A n c B m d x k G ⟨yb, yn, ys⟩ (.mk k1 n1 s1 x1 ks1 vs1) F)) := hid (by
         have hsz := HSZ.out
         have h9 := addSlot_i w2 HBXW.out (by have := HLO.out; omega) (by omega) (by omega) ⟨by omega, by omega⟩ ⟨by omega, by omega⟩ (fun v hv => by have h6 := HOK.out.2.2.2.2; have := hs_bd l.length sl sl.length v (by rw [h6]; exact hv); have := HLM.out; omega) ⟨yb, yn, ys⟩ HYL.out HYS.out (F := F) (k1 := k1) (n1 := n1) (x1 := x1) (s1 := s1) (ks1 := ks1) (vs1 := vs1) (A1 := A1) (c1 := c1) HFW.out HFX.out
         rw [HL1.out] at h9
         unfold kyV at h9
         exact h9)
       go_wp2_with (fail)
       refine AS.out.mono ?_
       rintro e w5 ⟨rfl, B5, d5, hbx5, hfr5, -⟩
       have HBX5 := hid hbx5
       have HFR5 := hid hfr5
       clear hbx5 hfr5 p0 p1 p2 v0 v1 v2 v3 v4
       go_wp2_with (fail)
       go_ret
       refine ⟨b, _, _, _, _, true, A, n, c, B5, m + 1, d5, fun i => if i = m then F else G i, .inr (.inr (.inr ⟨HFN.out, hk4, by rw [HLN.out, HLM.out]; exact HNB.out, rfl, rfl, rfl, rfl, rfl, rfl⟩)), rfl, ?_, (Fr.of HB2.out).trans HFR5.out, fun i hi q hq => ?_⟩
       . have h9 := HBX5.out
         have h6 := HOK.out.2.2.2.2
         rw [HLN.out, HLM.out] at h6
         rw [HLN.out, HLM.out]
         unfold addS lk
         rw [HLM.out, h6]
         exact h9
       . dsimp only at hq
         split at hq
         . exact .inr hq
         . exact .inl ⟨i, by omega, hq⟩
     | true =>
       go_wp2_with (fail)
       refine (RT1.out _ HB2.out).mono ?_
       rintro e w3 ⟨g3, B3, d3, G3, rfl, hof3, hb, hnw, hg3⟩
       have hbx : Below w2.heap.size w2 w3 := by first | exact hb | exact bs ((Below.refl _ _).drew) hb
       have HB3 := hid (bs HB2.out hbx)
       have H03 := hid (carry hbx H02.out)
       have H13 := hid (carry hbx H12.out)
       have HX3 := hid (carry hbx HX2.out)
       have HOF3 := hid hof3
       have HNW : Hid (∀ q, ((Value.slice (some ⟨g3, 0, none⟩) (room k) (room k)).ownBlock = some q \/ (Value.slice B3 (rbS (room k) sl).length d3).ownBlock = some q) -> P + 2 <= q) := hid (fun q hq => by
         have h1 := hnw q hq
         have h2 := (Array.getElem?_eq_some_iff.1 H12.out).1
         first | omega | (simp at h1; omega))
       have HG3 := hid hg3
       have y0 : w3.cell? ⟨Q, 0, none⟩ = some (.bool b) := (rowc HX3.out).1 0
       have y1 : w3.cell? ⟨Q, 1, none⟩ = some (.slice A n c) := (rowc HX3.out).1 1
       have y2 : w3.cell? ⟨Q, 2, none⟩ = some (.slice B m d) := (rowc HX3.out).1 2
       have y3 : w3.cell? ⟨Q, 3, none⟩ = some (.int .i64 x) := (rowc HX3.out).1 3
       have y4 : w3.cell? ⟨Q, 4, none⟩ = some (.int .i64 k) := (rowc HX3.out).1 4
       have fq := (rowc HX3.out).2
       clear hof3 hb hnw hg3 hbx
       go_upto_region 9 with fail
       focus
         generalize hw4 : World.setCell (World.setCell (World.setCell (World.setCell (World.setCell w3 _ _) _ _) _ _) _ _) _ _ = w4
         have HX4 : Hid (w4.heap[Q]? = some (.cells #[.bool true, .slice (some ⟨g3, 0, none⟩) (room k) (room k), .slice B3 (rbS (room k) sl).length d3, .int .i64 x, .int .i64 k] IT (0, 0))) := hid (by
           rw [← hw4]
           have := set_heap (set_heap (set_heap (set_heap (set_heap HX3.out 0 (.bool true)) 1 (.slice (some ⟨g3, 0, none⟩) (room k) (room k))) 2 (.slice B3 (rbS (room k) sl).length d3)) 3 (.int .i64 x)) 4 (.int .i64 k)
           simpa using this)
         have ho4 : ∀ q, q ≠ Q -> w4.heap[q]? = w3.heap[q]? := fun q h => by rw [← hw4]; iterate 5 rw [set_other h]
         have hz4 : w4.heap.size = w3.heap.size := by rw [← hw4]; simp []
         have HF4 : Hid (Fr (fun q => q = Q) w w4) := hid (by
           rw [← hw4]
           exact (((((Fr.of HB3.out).trans (Fr.set (S := fun q => q = Q) rfl _ _)).trans (Fr.set (S := fun q => q = Q) rfl _ _)).trans (Fr.set (S := fun q => q = Q) rfl _ _)).trans (Fr.set (S := fun q => q = Q) rfl _ _)).trans (Fr.set (S := fun q => q = Q) rfl _ _))
         have hGold : ∀ i, i < (rbS (room k) sl).length -> ∀ q, G3 i q -> q < P /\ q ≠ Q /\ ∃ i', i' < m /\ G i' q := fun i hi q hq => by
           obtain ⟨i', h1, h2⟩ := HG3.out i hi q hq
           have h3 := (HOWN.out.foot h1 h2).1.2
           have h4 := HBX.out.gq i' (by rw [HLM.out]; exact h1)
           exact ⟨by have := HP.out; omega, fun e => h4 (by rw [← e]; exact h2), i', h1, h2⟩
         have HBXW : Hid (BxT w4 Q lo true (hsA (room k) (rbS (room k) sl)) (rbS (room k) sl) (some ⟨g3, 0, none⟩) (room k) (room k) B3 (rbS (room k) sl).length d3 x k G3) := hid (by
           have h4 := HOF3.out.keep (w' := w4) (by omega) (fun q hq _ => ho4 q (by
             rcases hq with hq | hq | ⟨i, hi, hq⟩
             . have := HNW.out q (.inl hq); omega
             . have := HNW.out q (.inr hq); omega
             . exact (hGold i hi q hq).2.1))
           obtain ⟨xs4, hs4⟩ := h4.slots
           have hlo := HLO.out
           have hpp := HP.out
           exact ⟨HX4.out, owni_raise h4.heads (fun q e => by have := HNW.out q (.inl e); omega), ⟨xs4, hs4.raise (fun q e => by have := HNW.out q (.inr e); omega)⟩, fun q e => ⟨by have := HNW.out q (.inl e); omega, (h4.hq q e).1, fun i hi => (h4.hq q e).2 i hi⟩, fun e => by have := HNW.out Q (.inr e); omega, fun i hi hq => (hGold i hi Q hq).2.1 rfl, h4.len⟩)
         have hFQ : ∀ q, F q -> q < P /\ q ≠ Q /\ ∀ i, i < (rbS (room k) sl).length -> ¬ G3 i q := fun q hq => ⟨by have := (HFD.out q hq).1; have := HP.out; omega, (HFD.out q hq).2.2.2.1, fun i hi hg => by
           obtain ⟨-, -, i', h1, h2⟩ := hGold i hi q hg
           exact (HFD.out q hq).2.2.2.2 i' (by rw [HLM.out]; exact h1) h2⟩
         have HFW : Hid (FIn w4 F (.mk k1 n1 s1 x1 ks1 vs1) (vV k1 n1 s1 x1 A1 vs1.length c1)) := hid ((HFI.out.below HB3.out).keep fun q hq hl => ho4 q (hFQ q hq).2.1)
         have HSZ : Hid (w.heap.size <= w4.heap.size) := hid HF4.out.size
         have HFX : Hid (∀ q, F q -> q < w4.heap.size /\ (Value.slice B3 (rbS (room k) sl).length d3).ownBlock ≠ some q /\ (Value.slice (some ⟨g3, 0, none⟩) (room k) (room k)).ownBlock ≠ some q /\ q ≠ Q /\ ∀ i, i < (rbS (room k) sl).length -> ¬ G3 i q) := hid (fun q hq => by
           obtain ⟨h1, h2, h3⟩ := hFQ q hq
           exact ⟨by have := HSZ.out; have := HP.out; omega, fun e => by have := HNW.out q (.inr e); omega, fun e => by have := HNW.out q (.inl e); omega, h2, h3⟩)
         have hRm := rbS_le (room k) sl
         have hRp := room_p2 k
         unfold tree.p2 at hRp
         have hlm := HLM.out
         have H04 := hid ((ho4 P (by omega)).trans H03.out)
         have H14 := hid ((ho4 (P + 1) (by omega)).trans H13.out)
         have p0 : w4.cell? ⟨P, 0, none⟩ = some (.bool yb) := (rowc H04.out).1 0
         have p1 : w4.cell? ⟨P, 1, none⟩ = some (.int .i64 yn) := (rowc H04.out).1 1
         have p2 : w4.cell? ⟨P, 2, none⟩ = some (.string ys) := (rowc H04.out).1 2
         have v0 : w4.cell? ⟨P + 1, 0, none⟩ = some (.int .i64 k1) := (rowc H14.out).1 0
         have v1 : w4.cell? ⟨P + 1, 1, none⟩ = some (.int .i64 n1) := (rowc H14.out).1 1
         have v2 : w4.cell? ⟨P + 1, 2, none⟩ = some (.string s1) := (rowc H14.out).1 2
         have v3 : w4.cell? ⟨P + 1, 3, none⟩ = some (.int .i64 x1) := (rowc H14.out).1 3
         have v4 : w4.cell? ⟨P + 1, 4, none⟩ = some (.slice A1 L1 c1) := (rowc H14.out).1 4
         clear hw4 y0 y1 y2 y3 y4 fq
         have AS : Hid (Calls Tryz.prog 113 #[.pointer (some ⟨Q, 0, none⟩), .agg #[.bool yb, .int .i64 yn, .string ys], vV k1 n1 s1 x1 A1 L1 c1] w4 (AdQ w4 Q lo true (hsA (room k) (rbS (room k) sl)) (rbS (room k) sl) (some ⟨g3, 0, none⟩) (room k) (room k) B3 (rbS (room k) sl).length d3 x k G3 ⟨yb, yn, ys⟩ (.mk k1 n1 s1 x1 ks1 vs1) F)) := hid (by
           have hsz := HSZ.out
           have h9 := addSlot_i w4 HBXW.out (by have := HLO.out; omega) (by omega) (by omega) ⟨by omega, by omega⟩ ⟨by omega, by omega⟩ (fun v hv => by have := hs_bd (room k) (rbS (room k) sl) _ v hv; omega) ⟨yb, yn, ys⟩ HYL.out HYS.out (F := F) (k1 := k1) (n1 := n1) (x1 := x1) (s1 := s1) (ks1 := ks1) (vs1 := vs1) (A1 := A1) (c1 := c1) HFW.out HFX.out
           rw [HL1.out] at h9
           unfold kyV at h9
           exact h9)
         go_wp2_with (fail)
         refine AS.out.mono ?_
         rintro e w5 ⟨rfl, B5, d5, hbx5, hfr5, -⟩
         have HBX5 := hid hbx5
         have HFR5 := hid hfr5
         clear hbx5 hfr5 p0 p1 p2 v0 v1 v2 v3 v4
         go_wp2_with (fail)
         go_ret
         refine ⟨true, _, _, _, _, true, _, _, _, B5, _, d5, _, .inr (.inr (.inl ⟨HFN.out, hk4, by rw [HLN.out, HLM.out]; exact HNB.out, rfl, rfl, rfl, rfl, rfl, rfl⟩)), rfl, HBX5.out, ?_, fun i hi q hq => ?_⟩
         . exact ⟨HFR5.out.os.trans HF4.out.os, HFR5.out.tape.trans HF4.out.tape, HFR5.out.output.trans HF4.out.output, Nat.le_trans HF4.out.size HFR5.out.size, fun q hl hn => (HFR5.out.block q (Nat.lt_of_lt_of_le hl HF4.out.size) (fun h => by
             have hpp := HP.out
             rcases h with h | h | h
             . exact hn (.inl h)
             . have := HNW.out q (.inl h); omega
             . have := HNW.out q (.inr h); omega)).trans (HF4.out.block q hl (fun h => hn (.inl h)))⟩
         . try dsimp only at hq
           split at hq
           . exact .inr hq
           . exact .inl (hGold i (by omega) q hq).2.2
 . obtain ⟨i, rfl⟩ : ∃ i : Nat, W = i := ⟨W.toNat, by have := HWB.out; omega⟩
   have hii : (i : Int) < (m : Int) := HWB.out.2
   have hi : i < m := by omega
   have h0i : (0 : Int) <= (i : Int) := by omega
   obtain ⟨xs, hs⟩ := HBX.out.slots
   rcases hs.laid HLM.out with ⟨-, h0, -⟩ | ⟨g, rfl, hlg, hdg, arr, ha, hsz, hrow⟩
   . omega
   have hgQ : g ≠ Q := fun e => HBX.out.bq (by rw [e]; rfl)
   have hgP : g < P := by rw [← HP.out]; exact (Array.getElem?_eq_some_iff.1 ha).1
   have HA1 := hid (carry HB1.out ha)
   obtain ⟨rr, ff⟩ := rowc HA1.out
   have z : ∀ q, q < 10 -> ∃ u, w1.cell? ⟨g, i * 10 + q, none⟩ = some u := fun q hq => ⟨_, (rr _).trans (Array.getElem?_eq_getElem (by omega))⟩
   obtain ⟨u3, z3⟩ := z 3 (by omega)
   obtain ⟨u4, z4⟩ := z 4 (by omega)
   obtain ⟨u5, z5⟩ := z 5 (by omega)
   obtain ⟨u6, z6⟩ := z 6 (by omega)
   obtain ⟨u7, z7⟩ := z 7 (by omega)
   have v0 : w1.cell? ⟨P + 1, 0, none⟩ = some (.int .i64 k1) := (rowc H11.out).1 0
   have v1 : w1.cell? ⟨P + 1, 1, none⟩ = some (.int .i64 n1) := (rowc H11.out).1 1
   have v2 : w1.cell? ⟨P + 1, 2, none⟩ = some (.string s1) := (rowc H11.out).1 2
   have v3 : w1.cell? ⟨P + 1, 3, none⟩ = some (.int .i64 x1) := (rowc H11.out).1 3
   have v4 : w1.cell? ⟨P + 1, 4, none⟩ = some (.slice A1 L1 c1) := (rowc H11.out).1 4
   have HA0 := hid ha
   clear hs hrow rr z ha
   go_wp2_with (fail)
   go_region
   all_goals
     generalize hw2 : World.setCell (World.setCell (World.setCell (World.setCell (World.setCell _ _ _) _ _) _ _) _ _) _ _ = w2
     have HG2 : Hid (w2.heap[g]? = some (.cells (set5 arr (i * 10 + 3) (.int .i64 k1) (.int .i64 n1) (.string s1) (.int .i64 x1) (.slice A1 L1 c1)) IS (0, 0))) := hid (by
       rw [← hw2]
       first | with_reducible exact set5_heap HA1.out _ _ _ _ _ _ | exact set5_heap (W := w1.drew) HA1.out _ _ _ _ _ _)
     have HO2 : Hid (∀ q, q ≠ g -> w2.heap[q]? = w1.heap[q]?) := hid (fun q h => by
       rw [← hw2]
       first | with_reducible exact set5_other h _ _ _ _ _ _ | exact set5_other (W := w1.drew) h _ _ _ _ _ _)
     have HF2 : Hid (Fr (fun q => q = g) w w2) := hid (by
       rw [← hw2]
       first
       | exact (((((Fr.of HB1.out).trans (Fr.set (S := fun q => q = g) rfl _ _)).trans (Fr.set (S := fun q => q = g) rfl _ _)).trans (Fr.set (S := fun q => q = g) rfl _ _)).trans (Fr.set (S := fun q => q = g) rfl _ _)).trans (Fr.set (S := fun q => q = g) rfl _ _)
       | exact (((((Fr.of (bs HB1.out ((Below.refl _ _).drew))).trans (Fr.set (S := fun q => q = g) rfl _ _)).trans (Fr.set (S := fun q => q = g) rfl _ _)).trans (Fr.set (S := fun q => q = g) rfl _ _)).trans (Fr.set (S := fun q => q = g) rfl _ _)).trans (Fr.set (S := fun q => q = g) rfl _ _))
     have HZ2 : Hid (w1.heap.size <= w2.heap.size) := hid (by rw [← hw2]; simp [])
     clear hw2 y0 y1 y2 y3 y4 p0 p1 p2 v0 v1 v2 v3 v4 z3 z4 z5 z6 z7 ff
     go_wp2_with (fail)
     go_ret
     have hsz1 := HB1.out.size
     have hB := (HBX.out.below HB1.out).setv (w' := w2) hi (F := F) (k1 := k1) (n1 := n1) (x1 := x1) (s1 := s1) (ks1 := ks1) (vs1 := vs1) (A1 := A1) (c1 := c1) ((HFI.out.below HB1.out).keep fun q hq _ => HO2.out q (fun e => (HFD.out q hq).2.1 (by rw [e]; rfl))) (fun q hq => ⟨by have := (HFD.out q hq).1; omega, fun e => (HFD.out q hq).2.1 (by rw [e]; rfl), (HFD.out q hq).2.2.1, (HFD.out q hq).2.2.2.1, fun j hj => (HFD.out q hq).2.2.2.2 j (by rw [HLM.out]; exact hj)⟩) HZ2.out (fun arr' h => by
       have e : arr' = arr := (Obj.cells.inj (Option.some.inj (h.symm.trans HA1.out))).1
       rw [e, HL1.out]
       exact HG2.out) (fun q h _ => HO2.out q h)
     refine ⟨b, l, _, x, k, true, A, n, c, _, m, d, fun j => if j = i then F else G j, .inl ⟨i, by rw [HLM.out]; exact HW.out, rfl, rfl, rfl, rfl, rfl, rfl⟩, rfl, hB.below ((Below.refl _ _).drew), (HF2.out.mono (S' := BxF Q A n c (some ⟨g, 0, none⟩) m d) (fun q e => Or.inr (Or.inr (by rw [e]; rfl)))).trans (Fr.of ((Below.refl _ _).drew)), fun j hj q hq => ?_⟩
     try dsimp only at hq
     split at hq
     . exact .inr hq
     . exact .inl ⟨j, hj, hq⟩
end Go.Proofs.YtdgfpfkhcojgaaaGreatDoor.tree
/-
 A key set in a table of its own, of the model.
 Conditions: those that each theorem names.
-/
namespace Go.Proofs.YtdgfpfkhcojgaaaGreatDoor.tree
open Go.ChangeShapes Go.WideShapes Go.ChangeAt Go.RowKit
set_option linter.unusedVariables false
theorem SRs.mono {w : World} {lo lo' : Nat} {S S' : Nat -> Prop} {v : Value} {sl : List Sl} (h : SRs w lo S v sl) (hS : ∀ q, S q -> S' q) (hl : lo' <= lo) : SRs w lo' S' v sl := by
 obtain ⟨xs, h1, h3⟩ := h
 refine ⟨xs, ⟨h1.1, h1.2.imp id fun ⟨g, cap, cur, e, hlo, r⟩ => ⟨g, cap, cur, e, Nat.le_trans hl hlo, r⟩⟩, fun i t ht => ?_⟩
 obtain ⟨k, n, s, x, ks, vs, A, c, a1, a2, a3, a4, a5⟩ := h3 i t ht
 exact ⟨k, n, s, x, ks, vs, A, c, a1, a2, a3, a4, a5.stays (fun q hq => ⟨hS q hq.1, hq.2⟩) (fun _ _ _ => rfl)⟩
theorem SRs.setv {w w' : World} {lo g m d i : Nat} {S S' : Nat -> Prop} {sl : List Sl} (h : SRs w lo S (.slice (some ⟨g, 0, none⟩) m d) sl) (hi : i < sl.length) {k1 n1 x1 : Int} {s1 : ByteArray} {ks1 : List Ky} {vs1 : List Tr} {A1 : Option Addr} {c1 : Nat} (hT : TIn w' (fun q => S' q /\ q ≠ g) (.mk k1 n1 s1 x1 ks1 vs1) (vV k1 n1 s1 x1 A1 vs1.length c1)) (hSS : ∀ q, S q -> S' q)
   (hg : ∀ arr, w.heap[g]? = some (.cells arr IS (0, 0)) -> w'.heap[g]? = some (.cells (set5 arr (i * 10 + 3) (.int .i64 k1) (.int .i64 n1) (.string s1) (.int .i64 x1) (.slice A1 vs1.length c1)) IS (0, 0))) (ho : ∀ q, q ≠ g -> q < w.heap.size -> w'.heap[q]? = w.heap[q]?) : SRs w' lo S' (.slice (some ⟨g, 0, none⟩) m d) (setV sl i (.mk k1 n1 s1 x1 ks1 vs1)) := by
 obtain ⟨xs, h1, h3⟩ := h
 have hlv := setV_len sl i (.mk k1 n1 s1 x1 ks1 vs1)
 rcases h1.2 with ⟨e, h0⟩ | ⟨g', cap, cur, e, hlo, hgc, hnc, hcm, hsz, htk⟩
 . cases e
 . obtain ⟨rfl, rfl, rfl⟩ : g = g' /\ m = sl.length /\ d = cap := by simpa using e
   have rd : ∀ p, p < sl.length * 10 -> xs[p]? = cur[p]? := fun p hp => by
     rw [← htk, List.getElem?_take, if_pos hp]
     simp
   refine ⟨(set5 cur (i * 10 + 3) (.int .i64 k1) (.int .i64 n1) (.string s1) (.int .i64 x1) (.slice A1 vs1.length c1)).toList.take (sl.length * 10), ⟨?_, .inr ⟨g, d, _, by rw [hlv], hlo, hg _ hgc, by rw [hlv]; exact hnc, hcm, by rw [set5_size]; exact hsz, by rw [hlv]⟩⟩, fun p t ht => ?_⟩
   . have hcs := set5_size cur (i * 10 + 3) (.int .i64 k1) (.int .i64 n1) (.string s1) (.int .i64 x1) (.slice A1 vs1.length c1)
     rw [hlv, List.length_take]
     show min (sl.length * 10) (set5 cur (i * 10 + 3) (.int .i64 k1) (.int .i64 n1) (.string s1) (.int .i64 x1) (.slice A1 vs1.length c1)).size = sl.length * 10
     omega
   . have hpl := (List.getElem?_eq_some_iff.1 ht).1
     rw [hlv] at hpl
     have new : ∀ q, q < 10 -> ((set5 cur (i * 10 + 3) (.int .i64 k1) (.int .i64 n1) (.string s1) (.int .i64 x1) (.slice A1 vs1.length c1)).toList.take (sl.length * 10))[p * 10 + q]? = (set5 cur (i * 10 + 3) (.int .i64 k1) (.int .i64 n1) (.string s1) (.int .i64 x1) (.slice A1 vs1.length c1))[p * 10 + q]? := fun q hq => by
       rw [List.getElem?_take, if_pos (by omega)]
       simp
     have hi10 : i * 10 + 10 <= cur.size := by omega
     rcases setV_get ht with ⟨hne, ht⟩ | ⟨rfl, t0, ht0, rfl⟩
     . obtain ⟨k, n, s, x, ks, vs, A, c, a1, a2, a3, a4, a5⟩ := h3 p t ht
       refine ⟨k, n, s, x, ks, vs, A, c, a1, a2, a3, fun q hq => ?_, a5.stays (fun q hq => ⟨hSS q hq.1, hq.2⟩) fun q hq hl => ho q (fun e => hq.2 (by rw [e]; rfl)) hl⟩
       rw [new q hq, set5_out _ _ _ _ _ _ _ _ (by omega), ← rd _ (by omega)]
       exact a4 q hq
     . obtain ⟨k, n, s, x, ks, vs, A, c, a1, a2, a3, a4, a5⟩ := h3 p t0 ht0
       refine ⟨k1, n1, s1, x1, ks1, vs1, A1, c1, rfl, a2, a3, fun q hq => ?_, hT.stays (fun q hq => ⟨hq.1, fun e => hq.2 (by simpa [Value.ownBlock] using e.symm)⟩) (fun _ _ _ => rfl)⟩
       rw [new q hq]
       by_cases h3 : q < 3
       . rw [set5_out _ _ _ _ _ _ _ _ (by omega), ← rd _ (by omega), a4 q hq]
         obtain rfl | rfl | rfl : q = 0 \/ q = 1 \/ q = 2 := by omega
         all_goals rfl
       . by_cases h8 : q < 8
         . obtain ⟨r, rfl⟩ : ∃ r, q = 3 + r := ⟨q - 3, by omega⟩
           rw [show p * 10 + (3 + r) = p * 10 + 3 + r by omega, set5_in _ _ _ _ _ _ _ (by omega) r (by omega)]
           obtain rfl | rfl | rfl | rfl | rfl : r = 0 \/ r = 1 \/ r = 2 \/ r = 3 \/ r = 4 := by omega
           all_goals rfl
         . rw [set5_out _ _ _ _ _ _ _ _ (by omega), ← rd _ (by omega), a4 q hq]
           obtain rfl | rfl : q = 8 \/ q = 9 := by omega
           all_goals rfl
structure M7 (w : World) (L : Nat) (S : Nat -> Prop) (l : List Int) (sl : List Sl) (A : Option Addr) (n c : Nat) (B : Option Addr) (m d : Nat) : Prop where
 heads : imem.OwnI w L A n c l
 slots : SRs w L S (.slice B m d) sl
 sep : ∀ q, (S q \/ (Value.slice B m d).ownBlock = some q) -> (Value.slice A n c).ownBlock ≠ some q
 low : ∀ q, S q -> L <= q /\ q < w.heap.size
 len : sl.length = m
theorem M7.keep {w w' : World} {L : Nat} {S : Nat -> Prop} {l : List Int} {sl : List Sl} {A B : Option Addr} {n c m d : Nat} (h : M7 w L S l sl A n c B m d) (hz : w.heap.size <= w'.heap.size) (hs : ∀ q, (S q \/ (Value.slice A n c).ownBlock = some q \/ (Value.slice B m d).ownBlock = some q) -> q < w.heap.size -> w'.heap[q]? = w.heap[q]?) : M7 w' L S l sl A n c B m d :=
 ⟨owni_blk h.heads fun q e => hs q (.inr (.inl e)) (h.heads.block q e).2, h.slots.keep fun q hq hl => hs q (hq.imp id .inr) hl, h.sep, fun q hq => ⟨(h.low q hq).1, by have := (h.low q hq).2; omega⟩, h.len⟩
theorem M7.lt {w : World} {L : Nat} {S : Nat -> Prop} {l : List Int} {sl : List Sl} {A B : Option Addr} {n c m d : Nat} (h : M7 w L S l sl A n c B m d) : ∀ q, (S q \/ (Value.slice A n c).ownBlock = some q \/ (Value.slice B m d).ownBlock = some q) -> L <= q /\ q < w.heap.size := fun q hq => by
 rcases hq with hq | hq | hq
 . exact h.low q hq
 . exact h.heads.block q hq
 . exact h.slots.block q hq
theorem M7.below {w w' : World} {L : Nat} {S : Nat -> Prop} {l : List Int} {sl : List Sl} {A B : Option Addr} {n c m d : Nat} (h : M7 w L S l sl A n c B m d) (hb : Below w.heap.size w w') : M7 w' L S l sl A n c B m d := h.keep hb.size fun q _ hl => hb.block q hl
theorem M7.cap {w : World} {L : Nat} {S : Nat -> Prop} {l : List Int} {sl : List Sl} {A B : Option Addr} {n c m d : Nat} (h : M7 w L S l sl A n c B m d) (hm : m <= maxLen) : (m <= d /\ d <= maxLen) /\ SIn w (fun q => S q \/ (Value.slice B m d).ownBlock = some q) sl B := by
 obtain ⟨A', c', e, hc, hin⟩ := h.slots.sin (by rw [h.len]; exact hm)
 obtain ⟨rfl, -, rfl⟩ : B = A' /\ m = sl.length /\ d = c' := by simpa using e
 rw [h.len] at hc
 exact ⟨hc, hin⟩
theorem M7.tbin {w : World} {L : Nat} {S : Nat -> Prop} {l : List Int} {sl : List Sl} {A B : Option Addr} {n c m d : Nat} {x k : Int} (h : M7 w L S l sl A n c B m d) (hm : m <= maxLen) (hn : n <= maxLen) (hx : I64 x) (hk : I64 k) : TbIn w (fun q => S q \/ (Value.slice B m d).ownBlock = some q) l sl A n c B m d x k :=
 ⟨h.heads.rd, hn, h.len, (h.cap hm).1, (h.cap hm).2, hx, hk⟩
def St7Q (w : World) (L : Nat) (S S2 : Nat -> Prop) (b : Bool) (l : List Int) (sl : List Sl) (A : Option Addr) (n c : Nat) (B : Option Addr) (m d : Nat) (x k : Int) (y : Ky) (v : Tr) (e : Ending) (w' : World) : Prop :=
 ∃ rb rl rs rx rk ok A' n' c' B' m' d' S', StR b l sl x k y v rb rl rs rx rk ok /\ e = .returned (.tuple #[tbV rb A' n' c' B' m' d' rx rk, .bool ok]) /\ M7 w' L S' rl rs A' n' c' B' m' d' /\ (∀ q, S' q -> (S q \/ (Value.slice B m d).ownBlock = some q) \/ S2 q) /\ Fr (fun q => (Value.slice A n c).ownBlock = some q \/ (Value.slice B m d).ownBlock = some q) w w'
theorem l7Push_m {w : World} {L : Nat} {S S2 : Nat -> Prop} {b : Bool} {l : List Int} {sl : List Sl} {A : Option Addr} {n c : Nat} {B : Option Addr} {m d : Nat} {x k : Int} (hM : M7 w L S l sl A n c B m d) (hbt : b = true -> 0 < n) (hbf : b = false -> n = 0) (hlo : L <= w.heap.size) (hn : n <= 1048576) (hm : m <= 1000000) (hx : -1000000000000 <= x /\ x <= 1000000000000) (hk : -1000000000000 <= k /\ k <= 1000000000000) (hli : ∀ v ∈ l, -1 <= v /\ v <= 1000000000)
   (y : Ky) (hy : -1000000000 <= y.num /\ y.num <= 1000000000) (hys : y.str.size <= 140737488355328) {k1 n1 x1 : Int} {s1 : ByteArray} {ks1 : List Ky} {vs1 : List Tr} {A1 : Option Addr} {c1 : Nat} (hT : TIn w S2 (.mk k1 n1 s1 x1 ks1 vs1) (vV k1 n1 s1 x1 A1 vs1.length c1)) (hS2 : ∀ q, S2 q -> (L <= q /\ q < w.heap.size) /\ (Value.slice A n c).ownBlock ≠ some q /\ (Value.slice B m d).ownBlock ≠ some q) :
   Calls Tryz.prog 131 #[tbV b A n c B m d x k, kyV y, vV k1 n1 s1 x1 A1 vs1.length c1] w (fun e w' => ∃ B' d', e = .returned (tbV b A n c B' (m + 1) d' (psX x y) (k + 1)) /\ M7 w' L (fun q => S q \/ S2 q) (psH n l m y) (sl ++ [psS n l y (.mk k1 n1 s1 x1 ks1 vs1)]) A n c B' (m + 1) d' /\ Fr (fun q => (Value.slice A n c).ownBlock = some q \/ (Value.slice B m d).ownBlock = some q) w w' /\ ∀ q, (Value.slice B' (m + 1) d').ownBlock = some q -> (Value.slice B m d).ownBlock = some q \/ w.heap.size <= q) := by
 refine (l7Push_s (M := L) (lo := L) (S := fun q => S q \/ S2 q) w hbt hbf hM.heads (hM.slots.mono (fun q h => .inl h) (Nat.le_refl _)) hM.len (fun q hq => ?_) (fun q hq => ?_) hlo hn hm hx hk hli y hy hys (hT.stays (fun q hq => ⟨.inr hq, (hS2 q hq).2.2⟩) (fun _ _ _ => rfl))).mono ?_
 . rcases hq with (hq | hq) | hq
   . exact hM.sep q (.inl hq)
   . exact (hS2 q hq).2.1
   . exact hM.sep q (.inr hq)
 . rcases hq with hq | hq
   . exact (hM.low q hq).2
   . exact (hS2 q hq).1.2
 . rintro e w' ⟨B', d', he, ho, hs, hf, hat⟩
   refine ⟨B', d', he, ⟨ho, hs, fun q hq => ?_, fun q hq => ?_, by rw [List.length_append, List.length_singleton, hM.len]⟩, hf, fun q e => by
     rcases hat with h | ⟨g, h, hg⟩
     . exact .inl (h ▸ e)
     . rw [h] at e; injection e with e; exact .inr (by omega)⟩
   . rcases hq with (hq | hq) | hq
     . exact hM.sep q (.inl hq)
     . exact (hS2 q hq).2.1
     . intro e2
       rcases hat with h | ⟨g, h, hg⟩
       . exact hM.sep q (.inr (h ▸ hq)) e2
       . rw [h] at hq
         injection hq with hq
         have := (hM.heads.block q e2).2
         omega
   . rcases hq with hq | hq
     . have := hM.low q hq; exact ⟨this.1, by have := hf.size; omega⟩
     . have := (hS2 q hq).1; exact ⟨this.1, by have := hf.size; omega⟩
theorem l7Build_m {w : World} {L : Nat} {S : Nat -> Prop} {b : Bool} {l : List Int} {sl : List Sl} {A : Option Addr} {n c : Nat} {B : Option Addr} {m d : Nat} {x k : Int} (hM : M7 w L S l sl A n c B m d) (hlo : L <= w.heap.size) (hok : tabOk b l sl x k) (hst : SlB sl) :
   Calls Tryz.prog 129 #[tbV b A n c B m d x k, .int .i64 (room k : Int)] w (fun e w' => ∃ A' c' B' d', e = .returned (tbV true A' (room k) c' B' (rbS (room k) sl).length d' x ((rbS (room k) sl).length : Int)) /\ M7 w' L (fun q => S q \/ (Value.slice B m d).ownBlock = some q) (hsA (room k) (rbS (room k) sl)) (rbS (room k) sl) A' (room k) c' B' (rbS (room k) sl).length d' /\ Below w.heap.size w w' /\ (∀ q, ((Value.slice A' (room k) c').ownBlock = some q \/ (Value.slice B' (rbS (room k) sl).length d').ownBlock = some q) -> w.heap.size <= q)) := by
 have hp := room_p2 k
 unfold p2 at hp
 have hm := hok.len.1
 rw [hM.len] at hm
 refine (l7Build_s (l := l) w (hM.cap (by unfold maxLen; omega)).2 hM.len (by omega) hok.1 hok.2.2.1.1 hst (room k) (by omega) (by omega) (by omega)).mono ?_
 rintro e w' ⟨A', c', B', d', he, ho, hs, hb, hab⟩
 have hold : ∀ q, (S q \/ (Value.slice B m d).ownBlock = some q) -> L <= q /\ q < w.heap.size := fun q hq => by
   rcases hq with hq | hq
   . exact hM.low q hq
   . exact hM.slots.block q hq
 refine ⟨A', c', B', d', he, ⟨ho.less hlo, hs.mono (fun q h => h.1) hlo, fun q hq e2 => ?_, fun q hq => ⟨(hold q hq).1, by have := (hold q hq).2; have := hb.size; omega⟩, rfl⟩, hb, fun q hq => ?_⟩
 . rcases hq with hq | hq
   . have h1 := (hold q hq).2
     have h2 := (ho.block q e2).1
     omega
   . exact hab q hq e2
 . rcases hq with hq | hq
   . exact (ho.block q hq).1
   . exact (hs.block q hq).1
end Go.Proofs.YtdgfpfkhcojgaaaGreatDoor.tree
/-
 A key set in a table of its own, of the model.
 Conditions: those that each theorem names.
-/
namespace Go.Proofs.YtdgfpfkhcojgaaaGreatDoor.tree
open Go.ChangeShapes Go.WideShapes Go.ChangeAt Go.RowKit
set_option linter.unusedVariables false
def BdC (w1 : World) (P L : Nat) (S : Nat -> Prop) (B : Option Addr) (m d : Nat) (sl : List Sl) (x k : Int) (wx : World) : Prop :=
 ∃ A4 c4 B4 d4 w3, Below w1.heap.size w1 w3 /\ M7 w3 L (fun q => S q \/ (Value.slice B m d).ownBlock = some q) (hsA (room k) (rbS (room k) sl)) (rbS (room k) sl) A4 (room k) c4 B4 (rbS (room k) sl).length d4 /\
   (∀ q, ((Value.slice A4 (room k) c4).ownBlock = some q \/ (Value.slice B4 (rbS (room k) sl).length d4).ownBlock = some q) -> P + 4 <= q) /\
   wx.heap[P]? = some (.cells #[.bool true, .slice A4 (room k) c4, .slice B4 (rbS (room k) sl).length d4, .int .i64 x, .int .i64 ((rbS (room k) sl).length : Int)] IT (0, 0)) /\ (∀ q, q ≠ P -> wx.heap[q]? = w3.heap[q]?) /\ wx.heap.size = w3.heap.size /\ Fr (fun q => q = P) w3 wx
theorem bdC {w1 w3 wx : World} {P L : Nat} {S : Nat -> Prop} {B : Option Addr} {m d : Nat} {sl : List Sl} {x k : Int} {A4 B4 : Option Addr} {c4 d4 : Nat} {a b c e f : Value} (h1 : Below w1.heap.size w1 w3) (h2 : M7 w3 L (fun q => S q \/ (Value.slice B m d).ownBlock = some q) (hsA (room k) (rbS (room k) sl)) (rbS (room k) sl) A4 (room k) c4 B4 (rbS (room k) sl).length d4)
   (h3 : ∀ q, ((Value.slice A4 (room k) c4).ownBlock = some q \/ (Value.slice B4 (rbS (room k) sl).length d4).ownBlock = some q) -> P + 4 <= q) (h4 : w3.heap[P]? = some (.cells #[a, b, c, e, f] IT (0, 0)))
   (hF : (((((w3.setCell ⟨P, 0, none⟩ (.bool true)).setCell ⟨P, 1, none⟩ (.slice A4 (room k) c4)).setCell ⟨P, 2, none⟩ (.slice B4 (rbS (room k) sl).length d4)).setCell ⟨P, 3, none⟩ (.int .i64 x)).setCell ⟨P, 4, none⟩ (.int .i64 ((rbS (room k) sl).length : Int))) = wx) : BdC w1 P L S B m d sl x k wx := by
 subst hF
 refine ⟨A4, c4, B4, d4, w3, h1, h2, h3, ?_, fun q h => ?_, by simp [], ((((Fr.set (S := fun q => q = P) rfl _ _).trans (Fr.set (S := fun q => q = P) rfl _ _)).trans (Fr.set (S := fun q => q = P) rfl _ _)).trans (Fr.set (S := fun q => q = P) rfl _ _)).trans (Fr.set (S := fun q => q = P) rfl _ _)⟩
 . have := set_heap (set_heap (set_heap (set_heap (set_heap h4 0 (.bool true)) 1 (.slice A4 (room k) c4)) 2 (.slice B4 (rbS (room k) sl).length d4)) 3 (.int .i64 x)) 4 (.int .i64 ((rbS (room k) sl).length : Int))
   simpa using this
 . iterate 5 rw [set_other h]
set_option maxRecDepth 100000 in
set_option maxHeartbeats 8000000 in
theorem l7Set_s {L : Nat} {S S2 : Nat -> Prop} {b : Bool} {l : List Int} {sl : List Sl} {A : Option Addr} {n c : Nat} {B : Option Addr} {m d : Nat} {x k : Int} (w : World) (hM : M7 w L S l sl A n c B m d) (hlo : L <= w.heap.size) (hok : tabOk b l sl x k) (hst : SlB sl)
   (y : Ky) (hyk : keyB y = true) (hys : y.str.size <= 140737488355328) {k1 n1 x1 : Int} {s1 : ByteArray} {ks1 : List Ky} {vs1 : List Tr} {A1 : Option Addr} {c1 : Nat} (hT : TIn w S2 (.mk k1 n1 s1 x1 ks1 vs1) (vV k1 n1 s1 x1 A1 vs1.length c1)) (hS2 : ∀ q, S2 q -> (L <= q /\ q < w.heap.size) /\ (Value.slice A n c).ownBlock ≠ some q /\ (Value.slice B m d).ownBlock ≠ some q) :
   Calls Tryz.prog 76 #[tbV b A n c B m d x k, kyV y, vV k1 n1 s1 x1 A1 vs1.length c1] w (St7Q w L S S2 b l sl A n c B m d x k y (.mk k1 n1 s1 x1 ks1 vs1)) := by
 obtain ⟨P, HP⟩ : ∃ P, Hid (w.heap.size = P) := ⟨_, hid rfl⟩
 have hlm := hM.len
 have hln : l.length = n := hM.heads.len
 obtain ⟨hm1, hn1⟩ := hok.len
 rw [hlm] at hm1
 rw [hln] at hn1
 have hk0 : 0 <= k /\ k <= 1024 := by
   have h1 := hok.2.2.1.2
   have h2 := livK_len sl
   omega
 have hx0 := hok.1
 have TB := hid (hM.tbin (x := x) (k := k) (by unfold maxLen; omega) (by unfold maxLen; omega) (by unfold I64; omega) (by unfold I64; omega))
 have FS : Hid (∀ w', Below w.heap.size w w' -> Calls Tryz.prog 128 #[.agg #[.bool b, .slice A n c, .slice B m d, .int .i64 x, .int .i64 k], kyV y] w' (LtQ w' (fd sl y m))) := hid fun w' hb => by
   have h1 : TbIn w' (fun q => S q \/ (Value.slice B m d).ownBlock = some q) l sl A n c B m d x k := ⟨TB.out.heads.below hb, TB.out.hn, TB.out.len, TB.out.cap, TB.out.slots.below hb, TB.out.next, TB.out.count⟩
   cases b with
   | false => exact l7Find_f w' h1 hok y
   | true => exact l7Find_t w' h1 hok y hys
 have RM : Hid (k < 1024 -> ∀ w', Calls Tryz.prog 130 #[.agg #[.bool b, .slice A n c, .slice B m d, .int .i64 x, .int .i64 k]] w' (LtQ w' (room k))) := hid fun h1 w' => l7Room_s b A n c B m d x k ⟨by omega, h1⟩ w'
 have HST := hid hst
 have BU : Hid (∀ w', Below w.heap.size w w' -> Calls Tryz.prog 129 #[.agg #[.bool b, .slice A n c, .slice B m d, .int .i64 x, .int .i64 k], .int .i64 (room k : Int)] w' (fun e w2 => ∃ A' c' B' d', e = .returned (.agg #[.bool true, .slice A' (room k) c', .slice B' (rbS (room k) sl).length d', .int .i64 x, .int .i64 ((rbS (room k) sl).length : Int)]) /\ M7 w2 L (fun q => S q \/ (Value.slice B m d).ownBlock = some q) (hsA (room k) (rbS (room k) sl)) (rbS (room k) sl) A' (room k) c' B' (rbS (room k) sl).length d' /\ Below w'.heap.size w' w2 /\ (∀ q, ((Value.slice A' (room k) c').ownBlock = some q \/ (Value.slice B' (rbS (room k) sl).length d').ownBlock = some q) -> w'.heap.size <= q))) := hid fun w' hb => l7Build_m (hM.below hb) (Nat.le_trans hlo hb.size) hok hst
 obtain ⟨W, HW⟩ : ∃ W, Hid (fd sl y m = W) := ⟨_, hid rfl⟩
 have HWB : Hid (-1 <= W /\ W < m) := hid (HW.out ▸ fd_bd sl y m)
 rw [HW.out] at FS
 obtain ⟨L1, HL1⟩ : ∃ L, Hid (vs1.length = L) := ⟨_, hid rfl⟩
 have HYS := hid hys
 have HYL : Hid (-1000000000 <= y.num /\ y.num <= 1000000000) := hid (by
   cases hyt : y.text with
   | false => exact keyB_lim hyk hyt
   | true =>
     unfold keyB at hyk
     rw [hyt] at hyk
     simp at hyk
     omega)
 have NE := fun w => ky_neq w y (ixK m)
 obtain ⟨p, HPP⟩ : ∃ p, Hid (decide (y = ixK m) = p) := ⟨_, hid rfl⟩
 rw [HPP.out] at NE
 have HOK := hid hok
 have HM := hid hM
 have HT := hid hT
 have HS2 := hid hS2
 have HLM := hid hlm
 have HLN := hid hln
 have HLO := hid hlo
 have HMP : Hid (∀ q, (S q \/ (Value.slice A n c).ownBlock = some q \/ (Value.slice B m d).ownBlock = some q) -> q < P) := hid (fun q hq => by rw [← HP.out]; exact (hM.lt q hq).2)
 rw [HL1.out]
 obtain ⟨yb, yn, ys⟩ := y
 unfold kyV ixK at NE
 unfold kyV at FS |-
 simp only at NE FS |-
 clear hM hok hst hyk hys hT hS2 hlm hln hlo TB
 go_enter Tryz.func76, Tryz.ntmps76
 go_upto_region 1 with fail
 rw [HP.out]
 generalize hw0 : (((w.alloc (.cells #[.bool b, .slice A n c, .slice B m d, .int .i64 x, .int .i64 k] IT)).alloc (.cells #[.bool yb, .int .i64 yn, .string ys] 29)).alloc (.cells #[.int .i64 k1, .int .i64 n1, .string s1, .int .i64 x1, .slice A1 L1 c1] IV)).alloc (.cells #[.bool false, .slice none 0 0, .slice none 0 0, .int .i64 0, .int .i64 0] IT) = w0
 obtain ⟨w00, hw00⟩ : ∃ q, ((w.alloc (.cells #[.bool b, .slice A n c, .slice B m d, .int .i64 x, .int .i64 k] IT)).alloc (.cells #[.bool yb, .int .i64 yn, .string ys] 29)).alloc (.cells #[.int .i64 k1, .int .i64 n1, .string s1, .int .i64 x1, .slice A1 L1 c1] IV) = q := ⟨_, rfl⟩
 rw [hw00] at hw0
 obtain ⟨a0, a1, a2, az, ab⟩ := al3t w _ _ _ _ _ _ w00 hw00
 rw [HP.out] at a0 a1 a2 az
 have H0 : Hid (w0.heap[P]? = some (.cells #[.bool b, .slice A n c, .slice B m d, .int .i64 x, .int .i64 k] IT (0, 0))) := hid (by rw [← hw0]; exact keepAlloc a0)
 have H1 : Hid (w0.heap[P + 1]? = some (.cells #[.bool yb, .int .i64 yn, .string ys] 29 (0, 0))) := hid (by rw [← hw0]; exact keepAlloc a1)
 have H2 : Hid (w0.heap[P + 2]? = some (.cells #[.int .i64 k1, .int .i64 n1, .string s1, .int .i64 x1, .slice A1 L1 c1] IV (0, 0))) := hid (by rw [← hw0]; exact keepAlloc a2)
 have H3 : Hid (w0.heap[P + 3]? = some (.cells #[.bool false, .slice none 0 0, .slice none 0 0, .int .i64 0, .int .i64 0] IT (0, 0))) := hid (by rw [← hw0, ← az]; exact heap_alloc_new w00 _)
 have HB : Hid (Below w.heap.size w w0) := hid (by rw [← hw0]; exact bs ab (b1 w00 _))
 clear hw0 hw00 a0 a1 a2 az ab
 have y0 : w0.cell? ⟨P, 0, none⟩ = some (.bool b) := (rowc H0.out).1 0
 have y1 : w0.cell? ⟨P, 1, none⟩ = some (.slice A n c) := (rowc H0.out).1 1
 have y2 : w0.cell? ⟨P, 2, none⟩ = some (.slice B m d) := (rowc H0.out).1 2
 have y3 : w0.cell? ⟨P, 3, none⟩ = some (.int .i64 x) := (rowc H0.out).1 3
 have y4 : w0.cell? ⟨P, 4, none⟩ = some (.int .i64 k) := (rowc H0.out).1 4
 have p0 : w0.cell? ⟨P + 1, 0, none⟩ = some (.bool yb) := (rowc H1.out).1 0
 have p1 : w0.cell? ⟨P + 1, 1, none⟩ = some (.int .i64 yn) := (rowc H1.out).1 1
 have p2 : w0.cell? ⟨P + 1, 2, none⟩ = some (.string ys) := (rowc H1.out).1 2
 go_wp2_with (fail)
 refine (FS.out _ HB.out).mono ?_
 rintro e w1 ⟨rfl, hb⟩
 replace H0 := hid (carry hb H0.out)
 replace H1 := hid (carry hb H1.out)
 replace H2 := hid (carry hb H2.out)
 replace H3 := hid (carry hb H3.out)
 replace HB := hid (bs HB.out hb)
 have HZ : Hid (P + 4 <= w1.heap.size) := hid (by have := (Array.getElem?_eq_some_iff.1 H3.out).1; omega)
 clear hb y0 y1 y2 y3 y4 p0 p1 p2
 by_cases hv : W = -1
 . subst hv
   have HFN : Hid (fd sl ⟨yb, yn, ys⟩ sl.length = -1) := hid (by rw [HLM.out]; exact HW.out)
   by_cases hk4 : k = 1024
   . have h5 : decide (1024 <= k) = true := by rw [hk4]; rfl
     have h6 : (1024 : Int) <= k := by omega
     have HK4 := hid hk4
     clear hk4
     have y0 : w1.cell? ⟨P, 0, none⟩ = some (.bool b) := (rowc H0.out).1 0
     have y1 : w1.cell? ⟨P, 1, none⟩ = some (.slice A n c) := (rowc H0.out).1 1
     have y2 : w1.cell? ⟨P, 2, none⟩ = some (.slice B m d) := (rowc H0.out).1 2
     have y3 : w1.cell? ⟨P, 3, none⟩ = some (.int .i64 x) := (rowc H0.out).1 3
     have y4 : w1.cell? ⟨P, 4, none⟩ = some (.int .i64 k) := (rowc H0.out).1 4
     obtain ⟨r1, f1⟩ := rowc H3.out
     have v0 := r1 0; have v1 := r1 1; have v2 := r1 2; have v3 := r1 3; have v4 := r1 4
     simp at v0 v1 v2 v3 v4
     clear r1
     go_wp2_with (fail)
     generalize hwF : World.setCell (World.setCell (World.setCell (World.setCell (World.setCell w1 _ _) _ _) _ _) _ _) _ _ = wF
     obtain ⟨rF, oF, bF⟩ := fill5t H3.out hwF
     have hzF : w1.heap.size <= wF.heap.size := by rw [← hwF]; simp []
     clear hwF
     refine bodyPost_ret (v := .tuple #[tbV b A n c B m d x k, .bool false]) (by simp [results, Tryz.results76, go_sem, rF, tbV]) rfl ?_
     have HBF := bF w.heap.size w (by rw [HP.out]; omega) HB.out
     exact ⟨b, l, sl, x, k, false, A, n, c, B, m, d, S, .inr (.inl ⟨HFN.out, HK4.out, rfl, rfl, rfl, rfl, rfl, rfl⟩), rfl, HM.out.below HBF, fun q h => .inl (.inl h), Fr.of HBF⟩
   . have h6 : ¬ (1024 : Int) <= k := by omega
     have h5 : decide (1024 <= k) = false := decide_eq_false h6
     have RM1 := hid (RM.out (by omega))
     have y0 : w1.cell? ⟨P, 0, none⟩ = some (.bool b) := (rowc H0.out).1 0
     have y1 : w1.cell? ⟨P, 1, none⟩ = some (.slice A n c) := (rowc H0.out).1 1
     have y2 : w1.cell? ⟨P, 2, none⟩ = some (.slice B m d) := (rowc H0.out).1 2
     have y3 : w1.cell? ⟨P, 3, none⟩ = some (.int .i64 x) := (rowc H0.out).1 3
     have y4 : w1.cell? ⟨P, 4, none⟩ = some (.int .i64 k) := (rowc H0.out).1 4
     have p0 : w1.cell? ⟨P + 1, 0, none⟩ = some (.bool yb) := (rowc H1.out).1 0
     have p1 : w1.cell? ⟨P + 1, 1, none⟩ = some (.int .i64 yn) := (rowc H1.out).1 1
     have p2 : w1.cell? ⟨P + 1, 2, none⟩ = some (.string ys) := (rowc H1.out).1 2
     cases b with
     | true =>
       by_cases hmn : m = n
       . have h7 : ((m : Int) == (n : Int)) = true := by rw [hmn]; simp
         have HNB : Hid (needB true n m ⟨yb, yn, ys⟩ = true) := hid (by unfold needB; simp [hmn])
         clear hmn
         go_wp2_with (fail)
         go_cut [] (fun wx => BdC w1 P L S B m d sl x k wx)
         case first =>
           go_region_with (first
             | (go_at_call 130; refine (RM1.out _).mono ?_
                rintro e w2 ⟨rfl, hb⟩
                have hbx : Below w1.heap.size w1 w2 := by first | exact hb | exact bs ((Below.refl _ _).drew) hb
                have HB2 := hid (bs HB.out hbx)
                have H02 := hid (carry hbx H0.out)
                have hz2 : w1.heap.size <= w2.heap.size := hbx.size
                have y0 : w2.cell? ⟨P, 0, none⟩ = some (.bool true) := (rowc H02.out).1 0
                have y1 : w2.cell? ⟨P, 1, none⟩ = some (.slice A n c) := (rowc H02.out).1 1
                have y2 : w2.cell? ⟨P, 2, none⟩ = some (.slice B m d) := (rowc H02.out).1 2
                have y3 : w2.cell? ⟨P, 3, none⟩ = some (.int .i64 x) := (rowc H02.out).1 3
                have y4 : w2.cell? ⟨P, 4, none⟩ = some (.int .i64 k) := (rowc H02.out).1 4
                have HX12 := hid hbx
                clear hb hbx)
             | (go_at_call 129; refine (BU.out _ (by first | exact HB2.out | exact bs HB2.out ((Below.refl _ _).drew))).mono ?_
                rintro e w3 ⟨A4, c4, B4, d4, rfl, hm4, hb, hnw⟩
                have hbx : Below w2.heap.size w2 w3 := by first | exact hb | exact bs ((Below.refl _ _).drew) hb
                have HX13 := hid (bs HX12.out hbx)
                have HM4 := hid hm4
                have HNW : Hid (∀ q, ((Value.slice A4 (room k) c4).ownBlock = some q \/ (Value.slice B4 (rbS (room k) sl).length d4).ownBlock = some q) -> P + 4 <= q) := hid (fun q hq => by
                  have h1 := hnw q hq
                  have h2 := HZ.out
                  first | omega | (simp at h1; omega))
                have H03 := hid (carry HX13.out H0.out)
                have y0 : w3.cell? ⟨P, 0, none⟩ = some (.bool true) := (rowc H03.out).1 0
                have y1 : w3.cell? ⟨P, 1, none⟩ = some (.slice A n c) := (rowc H03.out).1 1
                have y2 : w3.cell? ⟨P, 2, none⟩ = some (.slice B m d) := (rowc H03.out).1 2
                have y3 : w3.cell? ⟨P, 3, none⟩ = some (.int .i64 x) := (rowc H03.out).1 3
                have y4 : w3.cell? ⟨P, 4, none⟩ = some (.int .i64 k) := (rowc H03.out).1 4
                have f3 := (rowc H03.out).2
                clear hm4 hb hnw hbx))
           all_goals
             go_wp2_with (fail)
             go_meet
             exact bdC HX13.out HM4.out HNW.out H03.out rfl
         case rest =>
           obtain ⟨A4, c4, B4, d4, w3, hbx, hm4, hnw, h04, ho4, hz4, hfr4⟩ := hcut
           obtain ⟨w4, hwc⟩ : ∃ q, q = wc := ⟨wc, rfl⟩
           subst hwc
           have HX13 := hid hbx
           have HM4 := hid hm4
           have HNW := hid hnw
           have H04 := hid h04
           have HB3 := hid (bs HB.out HX13.out)
           have HF4 : Hid (Fr (fun q => P <= q) w w4) := hid ((Fr.of HB3.out).trans (hfr4.mono fun q e => by omega))
           have H14 := hid ((ho4 (P + 1) (by omega)).trans (carry HX13.out H1.out))
           have H24 := hid ((ho4 (P + 2) (by omega)).trans (carry HX13.out H2.out))
           have H34 := hid ((ho4 (P + 3) (by omega)).trans (carry HX13.out H3.out))
           have hz34 : w1.heap.size <= w3.heap.size := HX13.out.size
           have hpp := HP.out
           have hlm := HLM.out
           have hsz1 := HB.out.size
           have HM4w : Hid (M7 w4 L (fun q => S q \/ (Value.slice B m d).ownBlock = some q) (hsA (room k) (rbS (room k) sl)) (rbS (room k) sl) A4 (room k) c4 B4 (rbS (room k) sl).length d4) := hid (HM4.out.keep (w' := w4) (by omega) fun q hq hl => ho4 q (by
             rcases hq with (hq | hq) | hq | hq
             . have := HMP.out q (.inl hq); omega
             . have := HMP.out q (.inr (.inr hq)); omega
             . have := HNW.out q (.inl hq); omega
             . have := HNW.out q (.inr hq); omega))
           have HRK : Hid (((rbS (room k) sl).length : Int) = k) := hid (by
             have := HOK.out.2.2.1.2
             rw [rbS_len, ← this]
             unfold livK
             rw [List.length_map])
           have hrk := HRK.out
           have hrg := room_gt (show k < 1024 by omega)
           have h8 : (((rbS (room k) sl).length : Int) == (room k : Int)) = false := by simp; omega
           have hRm := rbS_le (room k) sl
           have hR8 : 8 <= room k /\ room k <= 1024 := by
             have hRp := room_p2 k
             unfold tree.p2 at hRp
             omega
           have HLX : Hid (L <= w4.heap.size) := hid (by have := HLO.out; omega)
           have HTX : Hid (TIn w4 S2 (.mk k1 n1 s1 x1 ks1 vs1) (vV k1 n1 s1 x1 A1 vs1.length c1)) := hid ((HT.out.below' HB3.out).stays (fun _ h => h) fun q hq hl => ho4 q (by have := (HS2.out q hq).1.2; omega))
           have HSX : Hid (∀ q, S2 q -> (L <= q /\ q < w4.heap.size) /\ (Value.slice A4 (room k) c4).ownBlock ≠ some q /\ (Value.slice B4 (rbS (room k) sl).length d4).ownBlock ≠ some q) := hid (fun q hq => by
             have h1 := (HS2.out q hq).1
             exact ⟨⟨h1.1, by omega⟩, fun e => by have := HNW.out q (.inl e); omega, fun e => by have := HNW.out q (.inr e); omega⟩)
           have HLI : Hid (∀ v ∈ hsA (room k) (rbS (room k) sl), -1 <= v /\ v <= 1000000000) := hid (fun v hv => by have := hs_bd (room k) (rbS (room k) sl) _ v hv; omega)
           have PU : Hid (Calls Tryz.prog 131 #[.agg #[.bool true, .slice A4 (room k) c4, .slice B4 (rbS (room k) sl).length d4, .int .i64 x, .int .i64 ((rbS (room k) sl).length : Int)], .agg #[.bool yb, .int .i64 yn, .string ys], vV k1 n1 s1 x1 A1 L1 c1] w4 (fun e w2 => ∃ B' d', e = .returned (.agg #[.bool true, .slice A4 (room k) c4, .slice B' ((rbS (room k) sl).length + 1) d', .int .i64 (psX x ⟨yb, yn, ys⟩), .int .i64 (((rbS (room k) sl).length : Int) + 1)]) /\ M7 w2 L (fun q => (S q \/ (Value.slice B m d).ownBlock = some q) \/ S2 q) (psH (room k) (hsA (room k) (rbS (room k) sl)) (rbS (room k) sl).length ⟨yb, yn, ys⟩) (rbS (room k) sl ++ [psS (room k) (hsA (room k) (rbS (room k) sl)) ⟨yb, yn, ys⟩ (.mk k1 n1 s1 x1 ks1 vs1)]) A4 (room k) c4 B' ((rbS (room k) sl).length + 1) d' /\ Fr (fun q => (Value.slice A4 (room k) c4).ownBlock = some q \/ (Value.slice B4 (rbS (room k) sl).length d4).ownBlock = some q) w4 w2 /\ ∀ q, (Value.slice B' ((rbS (room k) sl).length + 1) d').ownBlock = some q -> (Value.slice B4 (rbS (room k) sl).length d4).ownBlock = some q \/ w4.heap.size <= q)) := hid (by
             have h9 := l7Push_m (x := x) (k := ((rbS (room k) sl).length : Int)) (S2 := S2) (b := true) HM4w.out (by intro _; omega) (by intro h; cases h) HLX.out (by omega) (by omega) ⟨by omega, by omega⟩ ⟨by omega, by omega⟩ HLI.out ⟨yb, yn, ys⟩ HYL.out HYS.out HTX.out HSX.out
             rw [HL1.out] at h9
             unfold kyV tbV at h9
             exact h9)
           clear y0 y1 y2 y3 y4
           have y0 : w4.cell? ⟨P, 0, none⟩ = some (.bool true) := (rowc H04.out).1 0
           have y1 : w4.cell? ⟨P, 1, none⟩ = some (.slice A4 (room k) c4) := (rowc H04.out).1 1
           have y2 : w4.cell? ⟨P, 2, none⟩ = some (.slice B4 (rbS (room k) sl).length d4) := (rowc H04.out).1 2
           have y3 : w4.cell? ⟨P, 3, none⟩ = some (.int .i64 x) := (rowc H04.out).1 3
           have y4 : w4.cell? ⟨P, 4, none⟩ = some (.int .i64 ((rbS (room k) sl).length : Int)) := (rowc H04.out).1 4
           clear p0 p1 p2
           have p0 : w4.cell? ⟨P + 1, 0, none⟩ = some (.bool yb) := (rowc H14.out).1 0
           have p1 : w4.cell? ⟨P + 1, 1, none⟩ = some (.int .i64 yn) := (rowc H14.out).1 1
           have p2 : w4.cell? ⟨P + 1, 2, none⟩ = some (.string ys) := (rowc H14.out).1 2
           have q0 : w4.cell? ⟨P + 2, 0, none⟩ = some (.int .i64 k1) := (rowc H24.out).1 0
           have q1 : w4.cell? ⟨P + 2, 1, none⟩ = some (.int .i64 n1) := (rowc H24.out).1 1
           have q2 : w4.cell? ⟨P + 2, 2, none⟩ = some (.string s1) := (rowc H24.out).1 2
           have q3 : w4.cell? ⟨P + 2, 3, none⟩ = some (.int .i64 x1) := (rowc H24.out).1 3
           have q4 : w4.cell? ⟨P + 2, 4, none⟩ = some (.slice A1 L1 c1) := (rowc H24.out).1 4
           have HZ34 : Hid (w1.heap.size <= w4.heap.size /\ w4.heap.size = w3.heap.size) := hid ⟨by omega, hz4⟩
           clear hbx hm4 hnw h04 ho4 hfr4 hrk hrg hRm hR8 hz4 hz34 hlm hsz1
           go_wp2_with (fail)
           refine PU.out.mono ?_
           rintro e w5 ⟨B5, d5, rfl, hm5, hf5, hnr⟩
           have HM5 := hid hm5
           have HA4 : Hid (∀ q, (Value.slice A4 (room k) c4).ownBlock = some q -> q ≠ P + 3) := hid (fun q e => by have := HNW.out q (.inl e); omega)
           have HNR : Hid (∀ q, (Value.slice B5 ((rbS (room k) sl).length + 1) d5).ownBlock = some q -> q ≠ P + 3) := hid (fun q e e2 => by
             have h2 := HZ.out
             have h34 := HZ34.out
             rcases hnr q e with h | h
             . have := HNW.out q (.inr h); omega
             . omega)
           have HF5 : Hid (Fr (fun q => P <= q) w w5) := hid (HF4.out.trans (hf5.mono fun q h => by
             rcases h with h | h
             . have := HNW.out q (.inl h); omega
             . have := HNW.out q (.inr h); omega))
           have H35 := hid ((hf5.block (P + 3) (Array.getElem?_eq_some_iff.1 H34.out).1 (fun h => by
             rcases h with h | h
             . have := HNW.out _ (.inl h); omega
             . have := HNW.out _ (.inr h); omega)).trans H34.out)
           clear hm5 hf5 hnr y0 y1 y2 y3 y4 p0 p1 p2 q0 q1 q2 q3 q4 h8
           obtain ⟨r1, f1⟩ := rowc H35.out
           have v0 := r1 0; have v1 := r1 1; have v2 := r1 2; have v3 := r1 3; have v4 := r1 4
           simp at v0 v1 v2 v3 v4
           clear r1
           go_wp2_with (fail)
           generalize hwF : World.setCell (World.setCell (World.setCell (World.setCell (World.setCell w5 _ _) _ _) _ _) _ _) _ _ = wF
           obtain ⟨rF, oF, bF⟩ := fill5t H35.out hwF
           have hzF : w5.heap.size <= wF.heap.size := by rw [← hwF]; simp []
           have HFF : Hid (Fr (fun q => P <= q) w wF) := hid (by
             rw [← hwF]
             exact (((((HF5.out).trans (Fr.set (S := fun q => P <= q) (by omega) _ _)).trans (Fr.set (S := fun q => P <= q) (by omega) _ _)).trans (Fr.set (S := fun q => P <= q) (by omega) _ _)).trans (Fr.set (S := fun q => P <= q) (by omega) _ _)).trans (Fr.set (S := fun q => P <= q) (by omega) _ _))
           clear hwF
           refine bodyPost_ret (v := .tuple #[tbV true A4 (room k) c4 B5 ((rbS (room k) sl).length + 1) d5 (psX x ⟨yb, yn, ys⟩) (((rbS (room k) sl).length : Int) + 1), .bool true]) (by simp [results, Tryz.results76, go_sem, rF, tbV]) rfl ?_
           refine ⟨true, _, _, _, k + 1, true, A4, room k, c4, B5, _, d5, fun q => (S q \/ (Value.slice B m d).ownBlock = some q) \/ S2 q, .inr (.inr (.inl ⟨HFN.out, hk4, by rw [HLN.out, HLM.out]; exact HNB.out, rfl, rfl, rfl, rfl, rfl, rfl⟩)), by rw [HRK.out], HM5.out.keep hzF fun q hq hl => oF q ?_, fun q hq => hq, ⟨HFF.out.os, HFF.out.tape, HFF.out.output, HFF.out.size, fun q hl hn => HFF.out.block q hl (by omega)⟩⟩
           rcases hq with ((hq | hq) | hq) | hq | hq
           . have := HMP.out q (.inl hq); omega
           . have := HMP.out q (.inr (.inr hq)); omega
           . have := (HS2.out q hq).1.2; omega
           . exact HA4.out q hq
           . exact HNR.out q hq
       . have h7 : ((m : Int) == (n : Int)) = false := by simp; omega
         have HNB : Hid (needB true n m ⟨yb, yn, ys⟩ = false) := hid (by unfold needB; simp [hmn])
         clear hmn
         have q0 : w1.cell? ⟨P + 2, 0, none⟩ = some (.int .i64 k1) := (rowc H2.out).1 0
         have q1 : w1.cell? ⟨P + 2, 1, none⟩ = some (.int .i64 n1) := (rowc H2.out).1 1
         have q2 : w1.cell? ⟨P + 2, 2, none⟩ = some (.string s1) := (rowc H2.out).1 2
         have q3 : w1.cell? ⟨P + 2, 3, none⟩ = some (.int .i64 x1) := (rowc H2.out).1 3
         have q4 : w1.cell? ⟨P + 2, 4, none⟩ = some (.slice A1 L1 c1) := (rowc H2.out).1 4
         go_wp2_with (fail)
         have hlm := HLM.out
         have hln := HLN.out
         have hsz1 := HB.out.size
         have HM1 := hid (HM.out.below HB.out)
         have HLX : Hid (L <= w1.heap.size) := hid (Nat.le_trans HLO.out hsz1)
         have HTX := hid (HT.out.below' HB.out)
         have HSX : Hid (∀ q, S2 q -> (L <= q /\ q < w1.heap.size) /\ (Value.slice A n c).ownBlock ≠ some q /\ (Value.slice B m d).ownBlock ≠ some q) := hid (fun q hq => ⟨⟨(HS2.out q hq).1.1, by have := (HS2.out q hq).1.2; omega⟩, (HS2.out q hq).2⟩)
         have HLI : Hid (∀ v ∈ l, -1 <= v /\ v <= 1000000000) := hid (fun v hv => by have h6 := HOK.out.2.2.2.2; have := hs_bd l.length sl sl.length v (by rw [h6]; exact hv); omega)
         have PU : Hid (Calls Tryz.prog 131 #[.agg #[.bool true, .slice A n c, .slice B m d, .int .i64 x, .int .i64 k], .agg #[.bool yb, .int .i64 yn, .string ys], vV k1 n1 s1 x1 A1 L1 c1] w1 (fun e w2 => ∃ B' d', e = .returned (.agg #[.bool true, .slice A n c, .slice B' (m + 1) d', .int .i64 (psX x ⟨yb, yn, ys⟩), .int .i64 (k + 1)]) /\ M7 w2 L (fun q => S q \/ S2 q) (psH n (l) m ⟨yb, yn, ys⟩) (sl ++ [psS n (l) ⟨yb, yn, ys⟩ (.mk k1 n1 s1 x1 ks1 vs1)]) A n c B' (m + 1) d' /\ Fr (fun q => (Value.slice A n c).ownBlock = some q \/ (Value.slice B m d).ownBlock = some q) w1 w2 /\ ∀ q, (Value.slice B' (m + 1) d').ownBlock = some q -> (Value.slice B m d).ownBlock = some q \/ w1.heap.size <= q)) := hid (by
           have h9 := l7Push_m (x := x) (k := k) (S2 := S2) (b := true) HM1.out (by intro h; have h9 := (HOK.out.2.1.1 h).1; unfold tree.p2 at h9; omega) (by intro h; cases h) HLX.out (by omega) (by omega) ⟨by omega, by omega⟩ ⟨by omega, by omega⟩ HLI.out ⟨yb, yn, ys⟩ HYL.out HYS.out HTX.out HSX.out
           rw [HL1.out] at h9
           unfold kyV tbV at h9
           exact h9)
         refine PU.out.mono ?_
         rintro e w5 ⟨B5, d5, rfl, hm5, hf5, hnr⟩
         have HM5 := hid hm5
         have HNR : Hid (∀ q, (Value.slice B5 (m + 1) d5).ownBlock = some q -> q ≠ P + 3) := hid (fun q e e2 => by
           have h2 := HZ.out
           rcases hnr q e with h | h
           . have := HMP.out q (.inr (.inr h)); omega
           . omega)
         have HF5 : Hid (Fr (fun q => (Value.slice A n c).ownBlock = some q \/ (Value.slice B m d).ownBlock = some q) w w5) := hid ((Fr.of HB.out).trans hf5)
         have H35 := hid ((hf5.block (P + 3) (by have := HZ.out; omega) (fun h => by
           rcases h with h | h
           . have := HMP.out _ (.inr (.inl h)); omega
           . have := HMP.out _ (.inr (.inr h)); omega)).trans H3.out)
         clear hm5 hf5 hnr y0 y1 y2 y3 y4 p0 p1 p2 q0 q1 q2 q3 q4
         obtain ⟨r1, f1⟩ := rowc H35.out
         have v0 := r1 0; have v1 := r1 1; have v2 := r1 2; have v3 := r1 3; have v4 := r1 4
         simp at v0 v1 v2 v3 v4
         clear r1
         go_wp2_with (fail)
         generalize hwF : World.setCell (World.setCell (World.setCell (World.setCell (World.setCell w5 _ _) _ _) _ _) _ _) _ _ = wF
         obtain ⟨rF, oF, bF⟩ := fill5t H35.out hwF
         have hzF : w5.heap.size <= wF.heap.size := by rw [← hwF]; simp []
         have HFF : Hid (Fr (fun q => ((Value.slice A n c).ownBlock = some q \/ (Value.slice B m d).ownBlock = some q) \/ P <= q) w wF) := hid (by
           rw [← hwF]
           exact (((((HF5.out.mono (fun q e => Or.inl e)).trans (Fr.set (Or.inr (by omega)) _ _)).trans (Fr.set (Or.inr (by omega)) _ _)).trans (Fr.set (Or.inr (by omega)) _ _)).trans (Fr.set (Or.inr (by omega)) _ _)).trans (Fr.set (Or.inr (by omega)) _ _))
         clear hwF
         have hpp := HP.out
         refine bodyPost_ret (v := .tuple #[tbV true A n c B5 (m + 1) d5 (psX x ⟨yb, yn, ys⟩) (k + 1), .bool true]) (by simp [results, Tryz.results76, go_sem, rF, tbV]) rfl ?_
         have hm9 : M7 w5 L (fun q => S q \/ S2 q) (l.set (bk l.length ⟨yb, yn, ys⟩) sl.length) (addS l.length sl ⟨yb, yn, ys⟩ (.mk k1 n1 s1 x1 ks1 vs1)) A n c B5 (m + 1) d5 := by
           have h9 := HM5.out
           have h6 := HOK.out.2.2.2.2
           rw [hln, hlm] at h6
           rw [hln, hlm]
           unfold addS lk
           rw [hlm, h6]
           exact h9
         refine ⟨true, _, _, _, _, true, A, n, c, B5, m + 1, d5, fun q => S q \/ S2 q, .inr (.inr (.inr ⟨HFN.out, hk4, by rw [hln, hlm]; exact HNB.out, rfl, rfl, rfl, rfl, rfl, rfl⟩)), rfl, hm9.keep hzF fun q hq hl => oF q ?_, fun q hq => hq.imp (fun h => .inl h) id, ⟨HFF.out.os, HFF.out.tape, HFF.out.output, HFF.out.size, fun q hl hn => HFF.out.block q hl (fun hh => by rcases hh with hh | hh; exact hn hh; omega)⟩⟩
         rcases hq with (hq | hq) | hq | hq
         . have := HMP.out q (.inl hq); omega
         . have := (HS2.out q hq).1.2; omega
         . have := HMP.out q (.inr (.inl hq)); omega
         . intro e
           exact HNR.out q hq e
     | false =>
       cases p with
       | false =>
         have HNB : Hid (needB false n m ⟨yb, yn, ys⟩ = true) := hid (by unfold needB; simp [of_decide_eq_false HPP.out])
         go_wp2_with (fail)
         go_cut [] (fun wx => BdC w1 P L S B m d sl x k wx)
         case first =>
           go_region_with (first
             | (go_at_call 130; refine (RM1.out _).mono ?_
                rintro e w2 ⟨rfl, hb⟩
                have hbx : Below w1.heap.size w1 w2 := by first | exact hb | exact bs ((Below.refl _ _).drew) hb
                have HB2 := hid (bs HB.out hbx)
                have H02 := hid (carry hbx H0.out)
                have hz2 : w1.heap.size <= w2.heap.size := hbx.size
                have y0 : w2.cell? ⟨P, 0, none⟩ = some (.bool false) := (rowc H02.out).1 0
                have y1 : w2.cell? ⟨P, 1, none⟩ = some (.slice A n c) := (rowc H02.out).1 1
                have y2 : w2.cell? ⟨P, 2, none⟩ = some (.slice B m d) := (rowc H02.out).1 2
                have y3 : w2.cell? ⟨P, 3, none⟩ = some (.int .i64 x) := (rowc H02.out).1 3
                have y4 : w2.cell? ⟨P, 4, none⟩ = some (.int .i64 k) := (rowc H02.out).1 4
                have HX12 := hid hbx
                clear hb hbx)
             | (go_at_call 129; refine (BU.out _ (by first | exact HB2.out | exact bs HB2.out ((Below.refl _ _).drew))).mono ?_
                rintro e w3 ⟨A4, c4, B4, d4, rfl, hm4, hb, hnw⟩
                have hbx : Below w2.heap.size w2 w3 := by first | exact hb | exact bs ((Below.refl _ _).drew) hb
                have HX13 := hid (bs HX12.out hbx)
                have HM4 := hid hm4
                have HNW : Hid (∀ q, ((Value.slice A4 (room k) c4).ownBlock = some q \/ (Value.slice B4 (rbS (room k) sl).length d4).ownBlock = some q) -> P + 4 <= q) := hid (fun q hq => by
                  have h1 := hnw q hq
                  have h2 := HZ.out
                  first | omega | (simp at h1; omega))
                have H03 := hid (carry HX13.out H0.out)
                have y0 : w3.cell? ⟨P, 0, none⟩ = some (.bool false) := (rowc H03.out).1 0
                have y1 : w3.cell? ⟨P, 1, none⟩ = some (.slice A n c) := (rowc H03.out).1 1
                have y2 : w3.cell? ⟨P, 2, none⟩ = some (.slice B m d) := (rowc H03.out).1 2
                have y3 : w3.cell? ⟨P, 3, none⟩ = some (.int .i64 x) := (rowc H03.out).1 3
                have y4 : w3.cell? ⟨P, 4, none⟩ = some (.int .i64 k) := (rowc H03.out).1 4
                have f3 := (rowc H03.out).2
                clear hm4 hb hnw hbx))
           all_goals
             go_wp2_with (fail)
             go_meet
             exact bdC HX13.out HM4.out HNW.out H03.out rfl
         case rest =>
           obtain ⟨A4, c4, B4, d4, w3, hbx, hm4, hnw, h04, ho4, hz4, hfr4⟩ := hcut
           obtain ⟨w4, hwc⟩ : ∃ q, q = wc := ⟨wc, rfl⟩
           subst hwc
           have HX13 := hid hbx
           have HM4 := hid hm4
           have HNW := hid hnw
           have H04 := hid h04
           have HB3 := hid (bs HB.out HX13.out)
           have HF4 : Hid (Fr (fun q => P <= q) w w4) := hid ((Fr.of HB3.out).trans (hfr4.mono fun q e => by omega))
           have H14 := hid ((ho4 (P + 1) (by omega)).trans (carry HX13.out H1.out))
           have H24 := hid ((ho4 (P + 2) (by omega)).trans (carry HX13.out H2.out))
           have H34 := hid ((ho4 (P + 3) (by omega)).trans (carry HX13.out H3.out))
           have hz34 : w1.heap.size <= w3.heap.size := HX13.out.size
           have hpp := HP.out
           have hlm := HLM.out
           have hsz1 := HB.out.size
           have HM4w : Hid (M7 w4 L (fun q => S q \/ (Value.slice B m d).ownBlock = some q) (hsA (room k) (rbS (room k) sl)) (rbS (room k) sl) A4 (room k) c4 B4 (rbS (room k) sl).length d4) := hid (HM4.out.keep (w' := w4) (by omega) fun q hq hl => ho4 q (by
             rcases hq with (hq | hq) | hq | hq
             . have := HMP.out q (.inl hq); omega
             . have := HMP.out q (.inr (.inr hq)); omega
             . have := HNW.out q (.inl hq); omega
             . have := HNW.out q (.inr hq); omega))
           have HRK : Hid (((rbS (room k) sl).length : Int) = k) := hid (by
             have := HOK.out.2.2.1.2
             rw [rbS_len, ← this]
             unfold livK
             rw [List.length_map])
           have hrk := HRK.out
           have hrg := room_gt (show k < 1024 by omega)
           have h8 : (((rbS (room k) sl).length : Int) == (room k : Int)) = false := by simp; omega
           have hRm := rbS_le (room k) sl
           have hR8 : 8 <= room k /\ room k <= 1024 := by
             have hRp := room_p2 k
             unfold tree.p2 at hRp
             omega
           have HLX : Hid (L <= w4.heap.size) := hid (by have := HLO.out; omega)
           have HTX : Hid (TIn w4 S2 (.mk k1 n1 s1 x1 ks1 vs1) (vV k1 n1 s1 x1 A1 vs1.length c1)) := hid ((HT.out.below' HB3.out).stays (fun _ h => h) fun q hq hl => ho4 q (by have := (HS2.out q hq).1.2; omega))
           have HSX : Hid (∀ q, S2 q -> (L <= q /\ q < w4.heap.size) /\ (Value.slice A4 (room k) c4).ownBlock ≠ some q /\ (Value.slice B4 (rbS (room k) sl).length d4).ownBlock ≠ some q) := hid (fun q hq => by
             have h1 := (HS2.out q hq).1
             exact ⟨⟨h1.1, by omega⟩, fun e => by have := HNW.out q (.inl e); omega, fun e => by have := HNW.out q (.inr e); omega⟩)
           have HLI : Hid (∀ v ∈ hsA (room k) (rbS (room k) sl), -1 <= v /\ v <= 1000000000) := hid (fun v hv => by have := hs_bd (room k) (rbS (room k) sl) _ v hv; omega)
           have PU : Hid (Calls Tryz.prog 131 #[.agg #[.bool true, .slice A4 (room k) c4, .slice B4 (rbS (room k) sl).length d4, .int .i64 x, .int .i64 ((rbS (room k) sl).length : Int)], .agg #[.bool yb, .int .i64 yn, .string ys], vV k1 n1 s1 x1 A1 L1 c1] w4 (fun e w2 => ∃ B' d', e = .returned (.agg #[.bool true, .slice A4 (room k) c4, .slice B' ((rbS (room k) sl).length + 1) d', .int .i64 (psX x ⟨yb, yn, ys⟩), .int .i64 (((rbS (room k) sl).length : Int) + 1)]) /\ M7 w2 L (fun q => (S q \/ (Value.slice B m d).ownBlock = some q) \/ S2 q) (psH (room k) (hsA (room k) (rbS (room k) sl)) (rbS (room k) sl).length ⟨yb, yn, ys⟩) (rbS (room k) sl ++ [psS (room k) (hsA (room k) (rbS (room k) sl)) ⟨yb, yn, ys⟩ (.mk k1 n1 s1 x1 ks1 vs1)]) A4 (room k) c4 B' ((rbS (room k) sl).length + 1) d' /\ Fr (fun q => (Value.slice A4 (room k) c4).ownBlock = some q \/ (Value.slice B4 (rbS (room k) sl).length d4).ownBlock = some q) w4 w2 /\ ∀ q, (Value.slice B' ((rbS (room k) sl).length + 1) d').ownBlock = some q -> (Value.slice B4 (rbS (room k) sl).length d4).ownBlock = some q \/ w4.heap.size <= q)) := hid (by
             have h9 := l7Push_m (x := x) (k := ((rbS (room k) sl).length : Int)) (S2 := S2) (b := true) HM4w.out (by intro _; omega) (by intro h; cases h) HLX.out (by omega) (by omega) ⟨by omega, by omega⟩ ⟨by omega, by omega⟩ HLI.out ⟨yb, yn, ys⟩ HYL.out HYS.out HTX.out HSX.out
             rw [HL1.out] at h9
             unfold kyV tbV at h9
             exact h9)
           clear y0 y1 y2 y3 y4
           have y0 : w4.cell? ⟨P, 0, none⟩ = some (.bool true) := (rowc H04.out).1 0
           have y1 : w4.cell? ⟨P, 1, none⟩ = some (.slice A4 (room k) c4) := (rowc H04.out).1 1
           have y2 : w4.cell? ⟨P, 2, none⟩ = some (.slice B4 (rbS (room k) sl).length d4) := (rowc H04.out).1 2
           have y3 : w4.cell? ⟨P, 3, none⟩ = some (.int .i64 x) := (rowc H04.out).1 3
           have y4 : w4.cell? ⟨P, 4, none⟩ = some (.int .i64 ((rbS (room k) sl).length : Int)) := (rowc H04.out).1 4
           clear p0 p1 p2
           have p0 : w4.cell? ⟨P + 1, 0, none⟩ = some (.bool yb) := (rowc H14.out).1 0
           have p1 : w4.cell? ⟨P + 1, 1, none⟩ = some (.int .i64 yn) := (rowc H14.out).1 1
           have p2 : w4.cell? ⟨P + 1, 2, none⟩ = some (.string ys) := (rowc H14.out).1 2
           have q0 : w4.cell? ⟨P + 2, 0, none⟩ = some (.int .i64 k1) := (rowc H24.out).1 0
           have q1 : w4.cell? ⟨P + 2, 1, none⟩ = some (.int .i64 n1) := (rowc H24.out).1 1
           have q2 : w4.cell? ⟨P + 2, 2, none⟩ = some (.string s1) := (rowc H24.out).1 2
           have q3 : w4.cell? ⟨P + 2, 3, none⟩ = some (.int .i64 x1) := (rowc H24.out).1 3
           have q4 : w4.cell? ⟨P + 2, 4, none⟩ = some (.slice A1 L1 c1) := (rowc H24.out).1 4
           have HZ34 : Hid (w1.heap.size <= w4.heap.size /\ w4.heap.size = w3.heap.size) := hid ⟨by omega, hz4⟩
           clear hbx hm4 hnw h04 ho4 hfr4 hrk hrg hRm hR8 hz4 hz34 hlm hsz1
           go_wp2_with (fail)
           refine PU.out.mono ?_
           rintro e w5 ⟨B5, d5, rfl, hm5, hf5, hnr⟩
           have HM5 := hid hm5
           have HA4 : Hid (∀ q, (Value.slice A4 (room k) c4).ownBlock = some q -> q ≠ P + 3) := hid (fun q e => by have := HNW.out q (.inl e); omega)
           have HNR : Hid (∀ q, (Value.slice B5 ((rbS (room k) sl).length + 1) d5).ownBlock = some q -> q ≠ P + 3) := hid (fun q e e2 => by
             have h2 := HZ.out
             have h34 := HZ34.out
             rcases hnr q e with h | h
             . have := HNW.out q (.inr h); omega
             . omega)
           have HF5 : Hid (Fr (fun q => P <= q) w w5) := hid (HF4.out.trans (hf5.mono fun q h => by
             rcases h with h | h
             . have := HNW.out q (.inl h); omega
             . have := HNW.out q (.inr h); omega))
           have H35 := hid ((hf5.block (P + 3) (Array.getElem?_eq_some_iff.1 H34.out).1 (fun h => by
             rcases h with h | h
             . have := HNW.out _ (.inl h); omega
             . have := HNW.out _ (.inr h); omega)).trans H34.out)
           clear hm5 hf5 hnr y0 y1 y2 y3 y4 p0 p1 p2 q0 q1 q2 q3 q4 h8
           obtain ⟨r1, f1⟩ := rowc H35.out
           have v0 := r1 0; have v1 := r1 1; have v2 := r1 2; have v3 := r1 3; have v4 := r1 4
           simp at v0 v1 v2 v3 v4
           clear r1
           go_wp2_with (fail)
           generalize hwF : World.setCell (World.setCell (World.setCell (World.setCell (World.setCell w5 _ _) _ _) _ _) _ _) _ _ = wF
           obtain ⟨rF, oF, bF⟩ := fill5t H35.out hwF
           have hzF : w5.heap.size <= wF.heap.size := by rw [← hwF]; simp []
           have HFF : Hid (Fr (fun q => P <= q) w wF) := hid (by
             rw [← hwF]
             exact (((((HF5.out).trans (Fr.set (S := fun q => P <= q) (by omega) _ _)).trans (Fr.set (S := fun q => P <= q) (by omega) _ _)).trans (Fr.set (S := fun q => P <= q) (by omega) _ _)).trans (Fr.set (S := fun q => P <= q) (by omega) _ _)).trans (Fr.set (S := fun q => P <= q) (by omega) _ _))
           clear hwF
           refine bodyPost_ret (v := .tuple #[tbV true A4 (room k) c4 B5 ((rbS (room k) sl).length + 1) d5 (psX x ⟨yb, yn, ys⟩) (((rbS (room k) sl).length : Int) + 1), .bool true]) (by simp [results, Tryz.results76, go_sem, rF, tbV]) rfl ?_
           refine ⟨true, _, _, _, k + 1, true, A4, room k, c4, B5, _, d5, fun q => (S q \/ (Value.slice B m d).ownBlock = some q) \/ S2 q, .inr (.inr (.inl ⟨HFN.out, hk4, by rw [HLN.out, HLM.out]; exact HNB.out, rfl, rfl, rfl, rfl, rfl, rfl⟩)), by rw [HRK.out], HM5.out.keep hzF fun q hq hl => oF q ?_, fun q hq => hq, ⟨HFF.out.os, HFF.out.tape, HFF.out.output, HFF.out.size, fun q hl hn => HFF.out.block q hl (by omega)⟩⟩
           rcases hq with ((hq | hq) | hq) | hq | hq
           . have := HMP.out q (.inl hq); omega
           . have := HMP.out q (.inr (.inr hq)); omega
           . have := (HS2.out q hq).1.2; omega
           . exact HA4.out q hq
           . exact HNR.out q hq
       | true =>
         have HE := hid (of_decide_eq_true HPP.out)
         by_cases h4 : m = 1024
         . have h7 : ((m : Int) == 1024) = true := by rw [h4]; rfl
           have HNB : Hid (needB false n m ⟨yb, yn, ys⟩ = true) := hid (by unfold needB; simp [h4])
           clear h4
           go_wp2_with (fail)
           go_cut [] (fun wx => BdC w1 P L S B m d sl x k wx)
           case first =>
             go_region_with (first
               | (go_at_call 130; refine (RM1.out _).mono ?_
                  rintro e w2 ⟨rfl, hb⟩
                  have hbx : Below w1.heap.size w1 w2 := by first | exact hb | exact bs ((Below.refl _ _).drew) hb
                  have HB2 := hid (bs HB.out hbx)
                  have H02 := hid (carry hbx H0.out)
                  have hz2 : w1.heap.size <= w2.heap.size := hbx.size
                  have y0 : w2.cell? ⟨P, 0, none⟩ = some (.bool false) := (rowc H02.out).1 0
                  have y1 : w2.cell? ⟨P, 1, none⟩ = some (.slice A n c) := (rowc H02.out).1 1
                  have y2 : w2.cell? ⟨P, 2, none⟩ = some (.slice B m d) := (rowc H02.out).1 2
                  have y3 : w2.cell? ⟨P, 3, none⟩ = some (.int .i64 x) := (rowc H02.out).1 3
                  have y4 : w2.cell? ⟨P, 4, none⟩ = some (.int .i64 k) := (rowc H02.out).1 4
                  have HX12 := hid hbx
                  clear hb hbx)
               | (go_at_call 129; refine (BU.out _ (by first | exact HB2.out | exact bs HB2.out ((Below.refl _ _).drew))).mono ?_
                  rintro e w3 ⟨A4, c4, B4, d4, rfl, hm4, hb, hnw⟩
                  have hbx : Below w2.heap.size w2 w3 := by first | exact hb | exact bs ((Below.refl _ _).drew) hb
                  have HX13 := hid (bs HX12.out hbx)
                  have HM4 := hid hm4
                  have HNW : Hid (∀ q, ((Value.slice A4 (room k) c4).ownBlock = some q \/ (Value.slice B4 (rbS (room k) sl).length d4).ownBlock = some q) -> P + 4 <= q) := hid (fun q hq => by
                    have h1 := hnw q hq
                    have h2 := HZ.out
                    first | omega | (simp at h1; omega))
                  have H03 := hid (carry HX13.out H0.out)
                  have y0 : w3.cell? ⟨P, 0, none⟩ = some (.bool false) := (rowc H03.out).1 0
                  have y1 : w3.cell? ⟨P, 1, none⟩ = some (.slice A n c) := (rowc H03.out).1 1
                  have y2 : w3.cell? ⟨P, 2, none⟩ = some (.slice B m d) := (rowc H03.out).1 2
                  have y3 : w3.cell? ⟨P, 3, none⟩ = some (.int .i64 x) := (rowc H03.out).1 3
                  have y4 : w3.cell? ⟨P, 4, none⟩ = some (.int .i64 k) := (rowc H03.out).1 4
                  have f3 := (rowc H03.out).2
                  clear hm4 hb hnw hbx))
             all_goals
               go_wp2_with (fail)
               go_meet
               exact bdC HX13.out HM4.out HNW.out H03.out rfl
           case rest =>
             obtain ⟨A4, c4, B4, d4, w3, hbx, hm4, hnw, h04, ho4, hz4, hfr4⟩ := hcut
             obtain ⟨w4, hwc⟩ : ∃ q, q = wc := ⟨wc, rfl⟩
             subst hwc
             have HX13 := hid hbx
             have HM4 := hid hm4
             have HNW := hid hnw
             have H04 := hid h04
             have HB3 := hid (bs HB.out HX13.out)
             have HF4 : Hid (Fr (fun q => P <= q) w w4) := hid ((Fr.of HB3.out).trans (hfr4.mono fun q e => by omega))
             have H14 := hid ((ho4 (P + 1) (by omega)).trans (carry HX13.out H1.out))
             have H24 := hid ((ho4 (P + 2) (by omega)).trans (carry HX13.out H2.out))
             have H34 := hid ((ho4 (P + 3) (by omega)).trans (carry HX13.out H3.out))
             have hz34 : w1.heap.size <= w3.heap.size := HX13.out.size
             have hpp := HP.out
             have hlm := HLM.out
             have hsz1 := HB.out.size
             have HM4w : Hid (M7 w4 L (fun q => S q \/ (Value.slice B m d).ownBlock = some q) (hsA (room k) (rbS (room k) sl)) (rbS (room k) sl) A4 (room k) c4 B4 (rbS (room k) sl).length d4) := hid (HM4.out.keep (w' := w4) (by omega) fun q hq hl => ho4 q (by
               rcases hq with (hq | hq) | hq | hq
               . have := HMP.out q (.inl hq); omega
               . have := HMP.out q (.inr (.inr hq)); omega
               . have := HNW.out q (.inl hq); omega
               . have := HNW.out q (.inr hq); omega))
             have HRK : Hid (((rbS (room k) sl).length : Int) = k) := hid (by
               have := HOK.out.2.2.1.2
               rw [rbS_len, ← this]
               unfold livK
               rw [List.length_map])
             have hrk := HRK.out
             have hrg := room_gt (show k < 1024 by omega)
             have h8 : (((rbS (room k) sl).length : Int) == (room k : Int)) = false := by simp; omega
             have hRm := rbS_le (room k) sl
             have hR8 : 8 <= room k /\ room k <= 1024 := by
               have hRp := room_p2 k
               unfold tree.p2 at hRp
               omega
             have HLX : Hid (L <= w4.heap.size) := hid (by have := HLO.out; omega)
             have HTX : Hid (TIn w4 S2 (.mk k1 n1 s1 x1 ks1 vs1) (vV k1 n1 s1 x1 A1 vs1.length c1)) := hid ((HT.out.below' HB3.out).stays (fun _ h => h) fun q hq hl => ho4 q (by have := (HS2.out q hq).1.2; omega))
             have HSX : Hid (∀ q, S2 q -> (L <= q /\ q < w4.heap.size) /\ (Value.slice A4 (room k) c4).ownBlock ≠ some q /\ (Value.slice B4 (rbS (room k) sl).length d4).ownBlock ≠ some q) := hid (fun q hq => by
               have h1 := (HS2.out q hq).1
               exact ⟨⟨h1.1, by omega⟩, fun e => by have := HNW.out q (.inl e); omega, fun e => by have := HNW.out q (.inr e); omega⟩)
             have HLI : Hid (∀ v ∈ hsA (room k) (rbS (room k) sl), -1 <= v /\ v <= 1000000000) := hid (fun v hv => by have := hs_bd (room k) (rbS (room k) sl) _ v hv; omega)
             have PU : Hid (Calls Tryz.prog 131 #[.agg #[.bool true, .slice A4 (room k) c4, .slice B4 (rbS (room k) sl).length d4, .int .i64 x, .int .i64 ((rbS (room k) sl).length : Int)], .agg #[.bool yb, .int .i64 yn, .string ys], vV k1 n1 s1 x1 A1 L1 c1] w4 (fun e w2 => ∃ B' d', e = .returned (.agg #[.bool true, .slice A4 (room k) c4, .slice B' ((rbS (room k) sl).length + 1) d', .int .i64 (psX x ⟨yb, yn, ys⟩), .int .i64 (((rbS (room k) sl).length : Int) + 1)]) /\ M7 w2 L (fun q => (S q \/ (Value.slice B m d).ownBlock = some q) \/ S2 q) (psH (room k) (hsA (room k) (rbS (room k) sl)) (rbS (room k) sl).length ⟨yb, yn, ys⟩) (rbS (room k) sl ++ [psS (room k) (hsA (room k) (rbS (room k) sl)) ⟨yb, yn, ys⟩ (.mk k1 n1 s1 x1 ks1 vs1)]) A4 (room k) c4 B' ((rbS (room k) sl).length + 1) d' /\ Fr (fun q => (Value.slice A4 (room k) c4).ownBlock = some q \/ (Value.slice B4 (rbS (room k) sl).length d4).ownBlock = some q) w4 w2 /\ ∀ q, (Value.slice B' ((rbS (room k) sl).length + 1) d').ownBlock = some q -> (Value.slice B4 (rbS (room k) sl).length d4).ownBlock = some q \/ w4.heap.size <= q)) := hid (by
               have h9 := l7Push_m (x := x) (k := ((rbS (room k) sl).length : Int)) (S2 := S2) (b := true) HM4w.out (by intro _; omega) (by intro h; cases h) HLX.out (by omega) (by omega) ⟨by omega, by omega⟩ ⟨by omega, by omega⟩ HLI.out ⟨yb, yn, ys⟩ HYL.out HYS.out HTX.out HSX.out
               rw [HL1.out] at h9
               unfold kyV tbV at h9
               exact h9)
             clear y0 y1 y2 y3 y4
             have y0 : w4.cell? ⟨P, 0, none⟩ = some (.bool true) := (rowc H04.out).1 0
             have y1 : w4.cell? ⟨P, 1, none⟩ = some (.slice A4 (room k) c4) := (rowc H04.out).1 1
             have y2 : w4.cell? ⟨P, 2, none⟩ = some (.slice B4 (rbS (room k) sl).length d4) := (rowc H04.out).1 2
             have y3 : w4.cell? ⟨P, 3, none⟩ = some (.int .i64 x) := (rowc H04.out).1 3
             have y4 : w4.cell? ⟨P, 4, none⟩ = some (.int .i64 ((rbS (room k) sl).length : Int)) := (rowc H04.out).1 4
             clear p0 p1 p2
             have p0 : w4.cell? ⟨P + 1, 0, none⟩ = some (.bool yb) := (rowc H14.out).1 0
             have p1 : w4.cell? ⟨P + 1, 1, none⟩ = some (.int .i64 yn) := (rowc H14.out).1 1
             have p2 : w4.cell? ⟨P + 1, 2, none⟩ = some (.string ys) := (rowc H14.out).1 2
             have q0 : w4.cell? ⟨P + 2, 0, none⟩ = some (.int .i64 k1) := (rowc H24.out).1 0
             have q1 : w4.cell? ⟨P + 2, 1, none⟩ = some (.int .i64 n1) := (rowc H24.out).1 1
             have q2 : w4.cell? ⟨P + 2, 2, none⟩ = some (.string s1) := (rowc H24.out).1 2
             have q3 : w4.cell? ⟨P + 2, 3, none⟩ = some (.int .i64 x1) := (rowc H24.out).1 3
             have q4 : w4.cell? ⟨P + 2, 4, none⟩ = some (.slice A1 L1 c1) := (rowc H24.out).1 4
             have HZ34 : Hid (w1.heap.size <= w4.heap.size /\ w4.heap.size = w3.heap.size) := hid ⟨by omega, hz4⟩
             clear hbx hm4 hnw h04 ho4 hfr4 hrk hrg hRm hR8 hz4 hz34 hlm hsz1
             go_wp2_with (fail)
             refine PU.out.mono ?_
             rintro e w5 ⟨B5, d5, rfl, hm5, hf5, hnr⟩
             have HM5 := hid hm5
             have HA4 : Hid (∀ q, (Value.slice A4 (room k) c4).ownBlock = some q -> q ≠ P + 3) := hid (fun q e => by have := HNW.out q (.inl e); omega)
             have HNR : Hid (∀ q, (Value.slice B5 ((rbS (room k) sl).length + 1) d5).ownBlock = some q -> q ≠ P + 3) := hid (fun q e e2 => by
               have h2 := HZ.out
               have h34 := HZ34.out
               rcases hnr q e with h | h
               . have := HNW.out q (.inr h); omega
               . omega)
             have HF5 : Hid (Fr (fun q => P <= q) w w5) := hid (HF4.out.trans (hf5.mono fun q h => by
               rcases h with h | h
               . have := HNW.out q (.inl h); omega
               . have := HNW.out q (.inr h); omega))
             have H35 := hid ((hf5.block (P + 3) (Array.getElem?_eq_some_iff.1 H34.out).1 (fun h => by
               rcases h with h | h
               . have := HNW.out _ (.inl h); omega
               . have := HNW.out _ (.inr h); omega)).trans H34.out)
             clear hm5 hf5 hnr y0 y1 y2 y3 y4 p0 p1 p2 q0 q1 q2 q3 q4 h8
             obtain ⟨r1, f1⟩ := rowc H35.out
             have v0 := r1 0; have v1 := r1 1; have v2 := r1 2; have v3 := r1 3; have v4 := r1 4
             simp at v0 v1 v2 v3 v4
             clear r1
             go_wp2_with (fail)
             generalize hwF : World.setCell (World.setCell (World.setCell (World.setCell (World.setCell w5 _ _) _ _) _ _) _ _) _ _ = wF
             obtain ⟨rF, oF, bF⟩ := fill5t H35.out hwF
             have hzF : w5.heap.size <= wF.heap.size := by rw [← hwF]; simp []
             have HFF : Hid (Fr (fun q => P <= q) w wF) := hid (by
               rw [← hwF]
               exact (((((HF5.out).trans (Fr.set (S := fun q => P <= q) (by omega) _ _)).trans (Fr.set (S := fun q => P <= q) (by omega) _ _)).trans (Fr.set (S := fun q => P <= q) (by omega) _ _)).trans (Fr.set (S := fun q => P <= q) (by omega) _ _)).trans (Fr.set (S := fun q => P <= q) (by omega) _ _))
             clear hwF
             refine bodyPost_ret (v := .tuple #[tbV true A4 (room k) c4 B5 ((rbS (room k) sl).length + 1) d5 (psX x ⟨yb, yn, ys⟩) (((rbS (room k) sl).length : Int) + 1), .bool true]) (by simp [results, Tryz.results76, go_sem, rF, tbV]) rfl ?_
             refine ⟨true, _, _, _, k + 1, true, A4, room k, c4, B5, _, d5, fun q => (S q \/ (Value.slice B m d).ownBlock = some q) \/ S2 q, .inr (.inr (.inl ⟨HFN.out, hk4, by rw [HLN.out, HLM.out]; exact HNB.out, rfl, rfl, rfl, rfl, rfl, rfl⟩)), by rw [HRK.out], HM5.out.keep hzF fun q hq hl => oF q ?_, fun q hq => hq, ⟨HFF.out.os, HFF.out.tape, HFF.out.output, HFF.out.size, fun q hl hn => HFF.out.block q hl (by omega)⟩⟩
             rcases hq with ((hq | hq) | hq) | hq | hq
             . have := HMP.out q (.inl hq); omega
             . have := HMP.out q (.inr (.inr hq)); omega
             . have := (HS2.out q hq).1.2; omega
             . exact HA4.out q hq
             . exact HNR.out q hq
         . have h7 : ((m : Int) == 1024) = false := by simp; omega
           have HNB : Hid (needB false n m ⟨yb, yn, ys⟩ = false) := hid (by rw [HE.out]; unfold needB; simp [h4])
           clear h4
           have q0 : w1.cell? ⟨P + 2, 0, none⟩ = some (.int .i64 k1) := (rowc H2.out).1 0
           have q1 : w1.cell? ⟨P + 2, 1, none⟩ = some (.int .i64 n1) := (rowc H2.out).1 1
           have q2 : w1.cell? ⟨P + 2, 2, none⟩ = some (.string s1) := (rowc H2.out).1 2
           have q3 : w1.cell? ⟨P + 2, 3, none⟩ = some (.int .i64 x1) := (rowc H2.out).1 3
           have q4 : w1.cell? ⟨P + 2, 4, none⟩ = some (.slice A1 L1 c1) := (rowc H2.out).1 4
           go_wp2_with (fail)
           have hlm := HLM.out
           have hln := HLN.out
           have hsz1 := HB.out.size
           have HM1 := hid (HM.out.below HB.out)
           have HLX : Hid (L <= w1.heap.size) := hid (Nat.le_trans HLO.out hsz1)
           have HTX := hid (HT.out.below' HB.out)
           have HSX : Hid (∀ q, S2 q -> (L <= q /\ q < w1.heap.size) /\ (Value.slice A n c).ownBlock ≠ some q /\ (Value.slice B m d).ownBlock ≠ some q) := hid (fun q hq => ⟨⟨(HS2.out q hq).1.1, by have := (HS2.out q hq).1.2; omega⟩, (HS2.out q hq).2⟩)
           have HLI : Hid (∀ v ∈ l, -1 <= v /\ v <= 1000000000) := hid (fun v hv => by have h6 := HOK.out.2.2.2.2; have := hs_bd l.length sl sl.length v (by rw [h6]; exact hv); omega)
           have PU : Hid (Calls Tryz.prog 131 #[.agg #[.bool false, .slice A n c, .slice B m d, .int .i64 x, .int .i64 k], .agg #[.bool yb, .int .i64 yn, .string ys], vV k1 n1 s1 x1 A1 L1 c1] w1 (fun e w2 => ∃ B' d', e = .returned (.agg #[.bool false, .slice A n c, .slice B' (m + 1) d', .int .i64 (psX x ⟨yb, yn, ys⟩), .int .i64 (k + 1)]) /\ M7 w2 L (fun q => S q \/ S2 q) (psH n (l) m ⟨yb, yn, ys⟩) (sl ++ [psS n (l) ⟨yb, yn, ys⟩ (.mk k1 n1 s1 x1 ks1 vs1)]) A n c B' (m + 1) d' /\ Fr (fun q => (Value.slice A n c).ownBlock = some q \/ (Value.slice B m d).ownBlock = some q) w1 w2 /\ ∀ q, (Value.slice B' (m + 1) d').ownBlock = some q -> (Value.slice B m d).ownBlock = some q \/ w1.heap.size <= q)) := hid (by
             have h9 := l7Push_m (x := x) (k := k) (S2 := S2) (b := false) HM1.out (by intro h; cases h) (by intro h; have h9 := (HOK.out.2.1.2 h).1; omega) HLX.out (by omega) (by omega) ⟨by omega, by omega⟩ ⟨by omega, by omega⟩ HLI.out ⟨yb, yn, ys⟩ HYL.out HYS.out HTX.out HSX.out
             rw [HL1.out] at h9
             unfold kyV tbV at h9
             exact h9)
           refine PU.out.mono ?_
           rintro e w5 ⟨B5, d5, rfl, hm5, hf5, hnr⟩
           have HM5 := hid hm5
           have HNR : Hid (∀ q, (Value.slice B5 (m + 1) d5).ownBlock = some q -> q ≠ P + 3) := hid (fun q e e2 => by
             have h2 := HZ.out
             rcases hnr q e with h | h
             . have := HMP.out q (.inr (.inr h)); omega
             . omega)
           have HF5 : Hid (Fr (fun q => (Value.slice A n c).ownBlock = some q \/ (Value.slice B m d).ownBlock = some q) w w5) := hid ((Fr.of HB.out).trans hf5)
           have H35 := hid ((hf5.block (P + 3) (by have := HZ.out; omega) (fun h => by
             rcases h with h | h
             . have := HMP.out _ (.inr (.inl h)); omega
             . have := HMP.out _ (.inr (.inr h)); omega)).trans H3.out)
           clear hm5 hf5 hnr y0 y1 y2 y3 y4 p0 p1 p2 q0 q1 q2 q3 q4
           obtain ⟨r1, f1⟩ := rowc H35.out
           have v0 := r1 0; have v1 := r1 1; have v2 := r1 2; have v3 := r1 3; have v4 := r1 4
           simp at v0 v1 v2 v3 v4
           clear r1
           go_wp2_with (fail)
           generalize hwF : World.setCell (World.setCell (World.setCell (World.setCell (World.setCell w5 _ _) _ _) _ _) _ _) _ _ = wF
           obtain ⟨rF, oF, bF⟩ := fill5t H35.out hwF
           have hzF : w5.heap.size <= wF.heap.size := by rw [← hwF]; simp []
           have HFF : Hid (Fr (fun q => ((Value.slice A n c).ownBlock = some q \/ (Value.slice B m d).ownBlock = some q) \/ P <= q) w wF) := hid (by
             rw [← hwF]
             exact (((((HF5.out.mono (fun q e => Or.inl e)).trans (Fr.set (Or.inr (by omega)) _ _)).trans (Fr.set (Or.inr (by omega)) _ _)).trans (Fr.set (Or.inr (by omega)) _ _)).trans (Fr.set (Or.inr (by omega)) _ _)).trans (Fr.set (Or.inr (by omega)) _ _))
           clear hwF
           have hpp := HP.out
           refine bodyPost_ret (v := .tuple #[tbV false A n c B5 (m + 1) d5 (psX x ⟨yb, yn, ys⟩) (k + 1), .bool true]) (by simp [results, Tryz.results76, go_sem, rF, tbV]) rfl ?_
           have hm9 : M7 w5 L (fun q => S q \/ S2 q) (l.set (bk l.length ⟨yb, yn, ys⟩) sl.length) (addS l.length sl ⟨yb, yn, ys⟩ (.mk k1 n1 s1 x1 ks1 vs1)) A n c B5 (m + 1) d5 := by
             have h9 := HM5.out
             have h6 := HOK.out.2.2.2.2
             rw [hln, hlm] at h6
             rw [hln, hlm]
             unfold addS lk
             rw [hlm, h6]
             exact h9
           refine ⟨false, _, _, _, _, true, A, n, c, B5, m + 1, d5, fun q => S q \/ S2 q, .inr (.inr (.inr ⟨HFN.out, hk4, by rw [hln, hlm]; exact HNB.out, rfl, rfl, rfl, rfl, rfl, rfl⟩)), rfl, hm9.keep hzF fun q hq hl => oF q ?_, fun q hq => hq.imp (fun h => .inl h) id, ⟨HFF.out.os, HFF.out.tape, HFF.out.output, HFF.out.size, fun q hl hn => HFF.out.block q hl (fun hh => by rcases hh with hh | hh; exact hn hh; omega)⟩⟩
           rcases hq with (hq | hq) | hq | hq
           . have := HMP.out q (.inl hq); omega
           . have := (HS2.out q hq).1.2; omega
           . have := HMP.out q (.inr (.inl hq)); omega
           . intro e
             exact HNR.out q hq e
 . obtain ⟨i, rfl⟩ : ∃ i : Nat, W = i := ⟨W.toNat, by have := HWB.out; omega⟩
   have hii : (i : Int) < (m : Int) := HWB.out.2
   have hi : i < m := by omega
   have h0i : (0 : Int) <= (i : Int) := by omega
   obtain ⟨g, arr, rfl, ha, hsz⟩ : ∃ g arr, B = some ⟨g, 0, none⟩ /\ w.heap[g]? = some (.cells arr IS (0, 0)) /\ m * 10 <= arr.size := by
     obtain ⟨xs, h1, -⟩ := HM.out.slots
     rcases h1.2 with ⟨e, h0⟩ | ⟨g', cap, cur, e, -, hgc, hnc, -, hsz, -⟩
     . have := HLM.out; omega
     . obtain ⟨rfl, -, rfl⟩ : B = some ⟨g', 0, none⟩ /\ m = sl.length /\ d = cap := by simpa using e
       exact ⟨g', cur, rfl, hgc, by rw [← HLM.out, hsz]; exact Nat.mul_le_mul_right 10 hnc⟩
   have hgP : g < P := HMP.out g (.inr (.inr rfl))
   have HA1 := hid (carry HB.out ha)
   have HA0 := hid ha
   obtain ⟨rr, ff⟩ := rowc HA1.out
   have z : ∀ q, q < 10 -> ∃ u, w1.cell? ⟨g, i * 10 + q, none⟩ = some u := fun q hq => ⟨_, (rr _).trans (Array.getElem?_eq_getElem (by omega))⟩
   obtain ⟨u3, z3⟩ := z 3 (by omega)
   obtain ⟨u4, z4⟩ := z 4 (by omega)
   obtain ⟨u5, z5⟩ := z 5 (by omega)
   obtain ⟨u6, z6⟩ := z 6 (by omega)
   obtain ⟨u7, z7⟩ := z 7 (by omega)
   have y0 : w1.cell? ⟨P, 0, none⟩ = some (.bool b) := (rowc H0.out).1 0
   have y1 : w1.cell? ⟨P, 1, none⟩ = some (.slice A n c) := (rowc H0.out).1 1
   have y2 : w1.cell? ⟨P, 2, none⟩ = some (.slice (some ⟨g, 0, none⟩) m d) := (rowc H0.out).1 2
   have y3 : w1.cell? ⟨P, 3, none⟩ = some (.int .i64 x) := (rowc H0.out).1 3
   have y4 : w1.cell? ⟨P, 4, none⟩ = some (.int .i64 k) := (rowc H0.out).1 4
   have q0 : w1.cell? ⟨P + 2, 0, none⟩ = some (.int .i64 k1) := (rowc H2.out).1 0
   have q1 : w1.cell? ⟨P + 2, 1, none⟩ = some (.int .i64 n1) := (rowc H2.out).1 1
   have q2 : w1.cell? ⟨P + 2, 2, none⟩ = some (.string s1) := (rowc H2.out).1 2
   have q3 : w1.cell? ⟨P + 2, 3, none⟩ = some (.int .i64 x1) := (rowc H2.out).1 3
   have q4 : w1.cell? ⟨P + 2, 4, none⟩ = some (.slice A1 L1 c1) := (rowc H2.out).1 4
   clear rr z ha
   go_upto_region 4 with fail
   generalize hw2 : World.setCell (World.setCell (World.setCell (World.setCell (World.setCell w1 _ _) _ _) _ _) _ _) _ _ = w2
   have HG2 : Hid (w2.heap[g]? = some (.cells (set5 arr (i * 10 + 3) (.int .i64 k1) (.int .i64 n1) (.string s1) (.int .i64 x1) (.slice A1 L1 c1)) IS (0, 0))) := hid (by
     rw [← hw2]
     with_reducible exact set5_heap HA1.out _ _ _ _ _ _)
   have HO2 : Hid (∀ q, q ≠ g -> w2.heap[q]? = w1.heap[q]?) := hid (fun q h => by
     rw [← hw2]
     with_reducible exact set5_other h _ _ _ _ _ _)
   have HF2 : Hid (Fr (fun q => q = g) w w2) := hid (by
     rw [← hw2]
     exact (((((Fr.of HB.out).trans (Fr.set (S := fun q => q = g) rfl _ _)).trans (Fr.set (S := fun q => q = g) rfl _ _)).trans (Fr.set (S := fun q => q = g) rfl _ _)).trans (Fr.set (S := fun q => q = g) rfl _ _)).trans (Fr.set (S := fun q => q = g) rfl _ _))
   have hz2 : w2.heap.size = w1.heap.size := by rw [← hw2]; simp []
   have H02 := hid ((HO2.out P (by omega)).trans H0.out)
   have H32 := hid ((HO2.out (P + 3) (by omega)).trans H3.out)
   clear hw2 y0 y1 y2 y3 y4 q0 q1 q2 q3 q4 z3 z4 z5 z6 z7 ff
   have y0 : w2.cell? ⟨P, 0, none⟩ = some (.bool b) := (rowc H02.out).1 0
   have y1 : w2.cell? ⟨P, 1, none⟩ = some (.slice A n c) := (rowc H02.out).1 1
   have y2 : w2.cell? ⟨P, 2, none⟩ = some (.slice (some ⟨g, 0, none⟩) m d) := (rowc H02.out).1 2
   have y3 : w2.cell? ⟨P, 3, none⟩ = some (.int .i64 x) := (rowc H02.out).1 3
   have y4 : w2.cell? ⟨P, 4, none⟩ = some (.int .i64 k) := (rowc H02.out).1 4
   obtain ⟨r1, f1⟩ := rowc H32.out
   have v0 := r1 0; have v1 := r1 1; have v2 := r1 2; have v3 := r1 3; have v4 := r1 4
   simp at v0 v1 v2 v3 v4
   clear r1
   go_wp2_with (fail)
   generalize hwF : World.setCell (World.setCell (World.setCell (World.setCell (World.setCell w2 _ _) _ _) _ _) _ _) _ _ = wF
   obtain ⟨rF, oF, bF⟩ := fill5t H32.out hwF
   have hzF : wF.heap.size = w2.heap.size := by rw [← hwF]; simp []
   have HFF : Hid (Fr (fun q => q = g \/ P <= q) w wF) := hid (by
     rw [← hwF]
     exact (((((HF2.out.mono (fun q e => Or.inl e)).trans (Fr.set (S := fun q => q = g \/ P <= q) (Or.inr (by omega)) _ _)).trans (Fr.set (S := fun q => q = g \/ P <= q) (Or.inr (by omega)) _ _)).trans (Fr.set (S := fun q => q = g \/ P <= q) (Or.inr (by omega)) _ _)).trans (Fr.set (S := fun q => q = g \/ P <= q) (Or.inr (by omega)) _ _)).trans (Fr.set (S := fun q => q = g \/ P <= q) (Or.inr (by omega)) _ _))
   clear hwF
   have hpp := HP.out
   have hsz1 := HB.out.size
   refine bodyPost_ret (v := .tuple #[tbV b A n c (some ⟨g, 0, none⟩) m d x k, .bool true]) (by simp [results, Tryz.results76, go_sem, rF, tbV]) rfl ?_
   have hoF : ∀ q, q ≠ g -> q < w.heap.size -> wF.heap[q]? = w.heap[q]? := fun q h hl => HFF.out.block q hl (fun hh => by rcases hh with hh | hh; exact h hh; omega)
   have hSg : ∀ q, S2 q -> q ≠ g := fun q hq e => (HS2.out q hq).2.2 (by rw [e]; rfl)
   refine ⟨b, l, _, x, k, true, A, n, c, _, m, d, fun q => S q \/ S2 q, .inl ⟨i, by rw [HLM.out]; exact HW.out, rfl, rfl, rfl, rfl, rfl, rfl⟩, rfl, ⟨owni_blk HM.out.heads fun q e => hoF q (fun e2 => HM.out.sep q (.inr (by rw [e2]; rfl)) e) (HM.out.heads.block q e).2, ?_, fun q hq => ?_, fun q hq => ?_, by rw [setV_len]; exact HLM.out⟩, fun q hq => hq.imp (fun h => .inl h) id, ?_⟩
   . refine HM.out.slots.setv (w' := wF) (by rw [HLM.out]; exact hi) (HT.out.stays (fun q hq => ⟨.inr hq, hSg q hq⟩) fun q hq hl => hoF q (hSg q hq) hl) (fun q h => .inl h) (fun arr' h => ?_) hoF
     have e : arr' = arr := (Obj.cells.inj (Option.some.inj (h.symm.trans HA0.out))).1
     rw [e, HL1.out]
     exact (oF g (by omega)).trans HG2.out
   . rcases hq with (hq | hq) | hq
     . exact HM.out.sep q (.inl hq)
     . exact (HS2.out q hq).2.1
     . exact HM.out.sep q (.inr hq)
   . rcases hq with hq | hq
     . have := HM.out.low q hq; exact ⟨this.1, by omega⟩
     . have := (HS2.out q hq).1; exact ⟨this.1, by omega⟩
   . exact ⟨HFF.out.os, HFF.out.tape, HFF.out.output, HFF.out.size, fun q hl hn => hoF q (fun e => hn (.inr (by rw [e]; rfl))) hl⟩
end Go.Proofs.YtdgfpfkhcojgaaaGreatDoor.tree
/-
 TableSet of the project.
 Conditions: those that each theorem names; the package variables of the library's reading of numbers hold what the program's text lays.
-/
namespace Go.Proofs.YtdgfpfkhcojgaaaGreatDoor.tree
open Go.ChangeShapes Go.WideShapes Go.ChangeAt Go.RowKit
set_option linter.unusedVariables false
def TsR (b : Bool) (l : List Int) (sl : List Sl) (x k : Int) (y : Ky) (v : Tr) (rb : Bool) (rl : List Int) (rs : List Sl) (rx rk : Int) (ok : Bool) : Prop :=
 ((tabOk b l sl x k /\ keyB y = true) /\ StR b l sl x k y v rb rl rs rx rk ok) \/ (¬ (tabOk b l sl x k /\ keyB y = true) /\ rb = b /\ rl = l /\ rs = sl /\ rx = x /\ rk = k /\ ok = false)
def TsQ (w : World) (b : Bool) (l : List Int) (sl : List Sl) (x k : Int) (y : Ky) (v : Tr) (e : Ending) (w' : World) : Prop :=
 ∃ rb rl rs rx rk ok A' c' B' d' G, TsR b l sl x k y v rb rl rs rx rk ok /\ e = .returned (.tuple #[tbV rb A' rl.length c' B' rs.length d' rx rk, .bool ok]) /\ OwnF w' w.heap.size rl rs A' rl.length c' B' rs.length d' G /\ Below w.heap.size w w'
set_option maxRecDepth 100000 in
set_option maxHeartbeats 4000000 in
theorem tableSet_i {l : List Int} {sl : List Sl} {b : Bool} {A : Option Addr} {n c : Nat} {B : Option Addr} {m d : Nat} {x k : Int} (w : World) (hr : TbIn w (Nw 0 w) l sl A n c B m d x k) (hn : n <= 1048576) (hm : m <= 1048576) (hcn : cnt (.mk 0 0 ⟨#[]⟩ 0 (skS sl) (svS sl)) <= 1048578) (htt : tot (.mk 0 0 ⟨#[]⟩ 0 (skS sl) (svS sl)) <= 1000000000) (hst : SlB sl) (hE : prs.Env w)
   (y : Ky) (hys : y.str.size <= 1099511627776) {k1 n1 x1 : Int} {s1 : ByteArray} {ks1 : List Ky} {vs1 : List Tr} {A2 : Option Addr} {c2 : Nat} (hT : TIn w (Nw 0 w) (.mk k1 n1 s1 x1 ks1 vs1) (vV k1 n1 s1 x1 A2 vs1.length c2)) (hTc : cnt (.mk k1 n1 s1 x1 ks1 vs1) <= 1048578) (hTt : tot (.mk k1 n1 s1 x1 ks1 vs1) <= 1000000000) :
   Calls Tryz.prog 10 #[tbV b A n c B m d x k, kyV y, vV k1 n1 s1 x1 A2 vs1.length c2] w (TsQ w b l sl x k y (.mk k1 n1 s1 x1 ks1 vs1)) := by
 obtain ⟨P, HP⟩ : ∃ P, Hid (w.heap.size = P) := ⟨_, hid rfl⟩
 have TR : Hid (∀ w', Below w.heap.size w w' -> TbIn w' (Nw 0 w') l sl A n c B m d x k) := hid fun w' hb => ⟨hr.heads.below hb, hr.hn, hr.len, hr.cap, hr.slots.stays (fun q hq => ⟨Nat.zero_le _, hq.2.same (hb.block q hq.2.lt)⟩) (fun q hq hl => hb.block q hl), hr.next, hr.count⟩
 have ITQ : Hid (∀ w', Below w.heap.size w w' -> Calls Tryz.prog 50 #[.agg #[.bool b, .slice A n c, .slice B m d, .int .i64 x, .int .i64 k]] w' (BoP w' (tabOk b l sl x k))) := hid fun w' hb => isTable_i w' (TR.out w' hb) hn hm hst (hE.stays hb)
 have IKQ : Hid (∀ w', Below w.heap.size w w' -> Calls Tryz.prog 51 #[kyV y] w' (KeyQ w' (keyB y))) := hid fun w' hb => isKey_i y (by omega) w' (hE.stays hb)
 have CP : Hid (∀ w', Below w.heap.size w w' -> Calls Tryz.prog 52 #[.agg #[.bool b, .slice A n c, .slice B m d, .int .i64 x, .int .i64 k]] w' (CtQ w' l sl b n m x k)) := hid fun w' hb => copyTable_i w' (TR.out w' hb) hn hm hcn htt
 have CV : Hid (∀ w', Below w.heap.size w w' -> Calls Tryz.prog 55 #[vV k1 n1 s1 x1 A2 vs1.length c2] w' (CvQ w' (.mk k1 n1 s1 x1 ks1 vs1))) := hid fun w' hb => copyValue _ _ w' 0 (hT.stays (fun q hq => ⟨Nat.zero_le _, hq.2.same (hb.block q hq.2.lt)⟩) (fun q hq hl => hb.block q hl)) hTc hTt
 have CL := hid (implClone' y.str hys)
 obtain ⟨L1, HL1⟩ : ∃ L, Hid (vs1.length = L) := ⟨_, hid rfl⟩
 rw [HL1.out] at CV |-
 have HLM := hid hr.len
 have HLN : Hid (l.length = n) := hid hr.heads.len
 obtain ⟨kb, HKB⟩ : ∃ q, Hid (keyB y = q) := ⟨_, hid rfl⟩
 rw [HKB.out] at IKQ
 have HST := hid hst
 have SS : Hid (tabOk b l sl x k -> kb = true -> ∀ w' lo A1 c1 B1 d1 G F A3 c3, BxT w' P lo b l sl A1 n c1 B1 m d1 x k G -> lo <= w'.heap.size -> FIn w' F (.mk k1 n1 s1 x1 ks1 vs1) (vV k1 n1 s1 x1 A3 L1 c3) -> (∀ q, F q -> q < w'.heap.size /\ (Value.slice B1 m d1).ownBlock ≠ some q /\ (Value.slice A1 n c1).ownBlock ≠ some q /\ q ≠ P /\ ∀ i, i < sl.length -> ¬ G i q) -> Calls Tryz.prog 54 #[.pointer (some ⟨P, 0, none⟩), kyV y, vV k1 n1 s1 x1 A3 L1 c3] w' (StQ w' P lo b l sl A1 n c1 B1 m d1 x k G y (.mk k1 n1 s1 x1 ks1 vs1) F)) := hid fun hok hkb w' lo A1 c1 B1 d1 G F A3 c3 h1 h2 h3 h4 => by
   rw [← HL1.out] at h3 |-
   have hkk : keyB y = true := by rw [HKB.out]; exact hkb
   refine setSlot_i w' h1 h2 hok hst y hkk ?_ h3 h4
   cases hyt : y.text with
   | true =>
     unfold keyB at hkk
     rw [hyt] at hkk
     simp at hkk
     omega
   | false =>
     unfold keyB at hkk
     rw [hyt] at hkk
     simp at hkk
     omega
 obtain ⟨yb, yn, ys⟩ := y
 unfold kyV at IKQ SS |-
 simp only at CL IKQ SS |-
 clear hr hcn htt hst hE TR hys hT hTc hTt
 go_enter Tryz.func10, Tryz.ntmps10
 go_upto_region 1 with fail
 rw [HP.out]
 generalize hw0 : (((w.alloc (.cells #[.bool b, .slice A n c, .slice B m d, .int .i64 x, .int .i64 k] IT)).alloc (.cells #[.bool yb, .int .i64 yn, .string ys] 29)).alloc (.cells #[.int .i64 k1, .int .i64 n1, .string s1, .int .i64 x1, .slice A2 L1 c2] IV)).alloc (.cells #[.bool false, .slice none 0 0, .slice none 0 0, .int .i64 0, .int .i64 0] IT) = w0
 obtain ⟨w00, hw00⟩ : ∃ q, ((w.alloc (.cells #[.bool b, .slice A n c, .slice B m d, .int .i64 x, .int .i64 k] IT)).alloc (.cells #[.bool yb, .int .i64 yn, .string ys] 29)).alloc (.cells #[.int .i64 k1, .int .i64 n1, .string s1, .int .i64 x1, .slice A2 L1 c2] IV) = q := ⟨_, rfl⟩
 rw [hw00] at hw0
 obtain ⟨a0, a1, a2, az, ab⟩ := al3t w _ _ _ _ _ _ w00 hw00
 rw [HP.out] at a0 a1 a2 az
 have H0 : Hid (w0.heap[P]? = some (.cells #[.bool b, .slice A n c, .slice B m d, .int .i64 x, .int .i64 k] IT (0, 0))) := hid (by rw [← hw0]; exact keepAlloc a0)
 have H1 : Hid (w0.heap[P + 1]? = some (.cells #[.bool yb, .int .i64 yn, .string ys] 29 (0, 0))) := hid (by rw [← hw0]; exact keepAlloc a1)
 have H2 : Hid (w0.heap[P + 2]? = some (.cells #[.int .i64 k1, .int .i64 n1, .string s1, .int .i64 x1, .slice A2 L1 c2] IV (0, 0))) := hid (by rw [← hw0]; exact keepAlloc a2)
 have H3 : Hid (w0.heap[P + 3]? = some (.cells #[.bool false, .slice none 0 0, .slice none 0 0, .int .i64 0, .int .i64 0] IT (0, 0))) := hid (by rw [← hw0, ← az]; exact heap_alloc_new w00 _)
 have hz0 : P + 4 <= w0.heap.size := by rw [← hw0]; simp [az]
 have HB : Hid (Below w.heap.size w w0) := hid (by rw [← hw0]; exact bs ab (b1 w00 _))
 clear hw0 hw00 a0 a1 a2 az ab
 have y0 : w0.cell? ⟨P, 0, none⟩ = some (.bool b) := (rowc H0.out).1 0
 have y1 : w0.cell? ⟨P, 1, none⟩ = some (.slice A n c) := (rowc H0.out).1 1
 have y2 : w0.cell? ⟨P, 2, none⟩ = some (.slice B m d) := (rowc H0.out).1 2
 have y3 : w0.cell? ⟨P, 3, none⟩ = some (.int .i64 x) := (rowc H0.out).1 3
 have y4 : w0.cell? ⟨P, 4, none⟩ = some (.int .i64 k) := (rowc H0.out).1 4
 go_wp2_with (fail)
 refine (ITQ.out _ HB.out).mono ?_
 rintro e w1 ⟨q, rfl, hq, hb⟩
 have hz1 : P + 4 <= w1.heap.size := Nat.le_trans hz0 hb.size
 replace H0 := hid (carry hb H0.out)
 replace H1 := hid (carry hb H1.out)
 replace H2 := hid (carry hb H2.out)
 replace H3 := hid (carry hb H3.out)
 replace HB := hid (bs HB.out hb)
 have HQ := hid hq
 clear hb hq ITQ y0 y1 y2 y3 y4 hz0
 cases q with
 | false =>
   have HN : Hid (¬ (tabOk b l sl x k /\ keyB ⟨yb, yn, ys⟩ = true)) := hid (fun h => by have := HQ.out.2 h.1; cases this)
   have y0 : w1.cell? ⟨P, 0, none⟩ = some (.bool b) := (rowc H0.out).1 0
   have y1 : w1.cell? ⟨P, 1, none⟩ = some (.slice A n c) := (rowc H0.out).1 1
   have y2 : w1.cell? ⟨P, 2, none⟩ = some (.slice B m d) := (rowc H0.out).1 2
   have y3 : w1.cell? ⟨P, 3, none⟩ = some (.int .i64 x) := (rowc H0.out).1 3
   have y4 : w1.cell? ⟨P, 4, none⟩ = some (.int .i64 k) := (rowc H0.out).1 4
   go_wp2_with (fail)
   refine (CP.out _ HB.out).mono ?_
   rintro e w2 ⟨A1, c1, B1, d1, par, R, rfl, hot, hb⟩
   have HOT2 := hid hot
   have H02 := hid (carry hb H0.out)
   have H12 := hid (carry hb H1.out)
   have H22 := hid (carry hb H2.out)
   have H32 := hid (carry hb H3.out)
   have HB2 := hid (bs HB.out hb)
   have hz2 : w1.heap.size <= w2.heap.size := hb.size
   obtain ⟨r0, f0⟩ := rowc H02.out
   have y0 := r0 0; have y1 := r0 1; have y2 := r0 2; have y3 := r0 3; have y4 := r0 4
   simp at y0 y1 y2 y3 y4
   clear hot hb r0
   go_upto_region 3 with fail
   generalize hw3 : World.setCell (World.setCell (World.setCell (World.setCell (World.setCell w2 _ _) _ _) _ _) _ _) _ _ = w3
   obtain ⟨c3, o3, b3'⟩ := fill5t H02.out hw3
   have hz3 : w2.heap.size <= w3.heap.size := by rw [← hw3]; simp []
   have H03 : Hid (w3.heap[P]? = some (.cells #[.bool b, .slice A1 n c1, .slice B1 m d1, .int .i64 x, .int .i64 k] IT (0, 0))) := hid (by
     rw [← hw3]
     have := set_heap (set_heap (set_heap (set_heap (set_heap H02.out 0 (.bool b)) 1 (.slice A1 n c1)) 2 (.slice B1 m d1)) 3 (.int .i64 x)) 4 (.int .i64 k)
     simpa using this)
   have H13 := hid ((o3 (P + 1) (by omega)).trans H12.out)
   have H23 := hid ((o3 (P + 2) (by omega)).trans H22.out)
   have H33 := hid ((o3 (P + 3) (by omega)).trans H32.out)
   have HB3 := hid (b3' _ _ (by rw [HP.out]; omega) HB2.out)
   obtain ⟨G, hOF2⟩ := HOT2.out.ownF
   have HOF : Hid (OwnF w3 w1.heap.size l sl A1 n c1 B1 m d1 G) := hid (hOF2.keep hz3 fun q hq _ => o3 q (by have := (hOF2.rg q hq).1; omega))
   clear hOF2 hw3 o3 b3' c3 y0 y1 y2 y3 y4 H02 H12 H22 H32 HB2 HOT2
   have y0 : w3.cell? ⟨P, 0, none⟩ = some (.bool b) := (rowc H03.out).1 0
   have y1 : w3.cell? ⟨P, 1, none⟩ = some (.slice A1 n c1) := (rowc H03.out).1 1
   have y2 : w3.cell? ⟨P, 2, none⟩ = some (.slice B1 m d1) := (rowc H03.out).1 2
   have y3 : w3.cell? ⟨P, 3, none⟩ = some (.int .i64 x) := (rowc H03.out).1 3
   have y4 : w3.cell? ⟨P, 4, none⟩ = some (.int .i64 k) := (rowc H03.out).1 4
   obtain ⟨r1, f1⟩ := rowc H33.out
   have v0 := r1 0; have v1 := r1 1; have v2 := r1 2; have v3 := r1 3; have v4 := r1 4
   simp at v0 v1 v2 v3 v4
   clear r1
   go_wp2_with (fail)
   generalize hwF : World.setCell (World.setCell (World.setCell (World.setCell (World.setCell w3 _ _) _ _) _ _) _ _) _ _ = wF
   obtain ⟨rF, oF, bF⟩ := fill5t H33.out hwF
   have hzF : w3.heap.size <= wF.heap.size := by rw [← hwF]; simp []
   clear hwF
   refine bodyPost_ret (v := .tuple #[tbV b A1 n c1 B1 m d1 x k, .bool false]) (by simp [results, Tryz.results10, go_sem, rF, tbV]) rfl ?_
   refine ⟨b, l, sl, x, k, false, A1, c1, B1, d1, G, .inr ⟨HN.out, rfl, rfl, rfl, rfl, rfl, rfl⟩, by rw [HLN.out, HLM.out], ?_, bF _ _ (by rw [HP.out]; omega) HB3.out⟩
   rw [HLN.out, HLM.out]
   exact (HOF.out.keep hzF fun q hq _ => oF q (by have := (HOF.out.rg q hq).1; omega)).lower (by have := HP.out; omega)
 | true =>
   have HOK : Hid (tabOk b l sl x k) := hid (HQ.out.1 rfl)
   have p0 : w1.cell? ⟨P + 1, 0, none⟩ = some (.bool yb) := (rowc H1.out).1 0
   have p1 : w1.cell? ⟨P + 1, 1, none⟩ = some (.int .i64 yn) := (rowc H1.out).1 1
   have p2 : w1.cell? ⟨P + 1, 2, none⟩ = some (.string ys) := (rowc H1.out).1 2
   go_wp2_with (fail)
   refine (IKQ.out _ HB.out).mono ?_
   rintro e w1b ⟨rfl, hb⟩
   have hz1b : P + 4 <= w1b.heap.size := Nat.le_trans hz1 hb.size
   replace H0 := hid (carry hb H0.out)
   replace H1 := hid (carry hb H1.out)
   replace H2 := hid (carry hb H2.out)
   replace H3 := hid (carry hb H3.out)
   replace HB := hid (bs HB.out hb)
   clear hb IKQ p0 p1 p2 hz1
   have y0 : w1b.cell? ⟨P, 0, none⟩ = some (.bool b) := (rowc H0.out).1 0
   have y1 : w1b.cell? ⟨P, 1, none⟩ = some (.slice A n c) := (rowc H0.out).1 1
   have y2 : w1b.cell? ⟨P, 2, none⟩ = some (.slice B m d) := (rowc H0.out).1 2
   have y3 : w1b.cell? ⟨P, 3, none⟩ = some (.int .i64 x) := (rowc H0.out).1 3
   have y4 : w1b.cell? ⟨P, 4, none⟩ = some (.int .i64 k) := (rowc H0.out).1 4
   cases kb with
   | false =>
     have HN : Hid (¬ (tabOk b l sl x k /\ keyB ⟨yb, yn, ys⟩ = true)) := hid (fun h => by rw [HKB.out] at h; cases h.2)
     go_wp2_with (fail)
     refine (CP.out _ HB.out).mono ?_
     rintro e w2 ⟨A1, c1, B1, d1, par, R, rfl, hot, hb⟩
     have HOT2 := hid hot
     have H02 := hid (carry hb H0.out)
     have H12 := hid (carry hb H1.out)
     have H22 := hid (carry hb H2.out)
     have H32 := hid (carry hb H3.out)
     have HB2 := hid (bs HB.out hb)
     have hz2 : w1b.heap.size <= w2.heap.size := hb.size
     obtain ⟨r0, f0⟩ := rowc H02.out
     have y0 := r0 0; have y1 := r0 1; have y2 := r0 2; have y3 := r0 3; have y4 := r0 4
     simp at y0 y1 y2 y3 y4
     clear hot hb r0
     go_upto_region 3 with fail
     generalize hw3 : World.setCell (World.setCell (World.setCell (World.setCell (World.setCell w2 _ _) _ _) _ _) _ _) _ _ = w3
     obtain ⟨c3, o3, b3'⟩ := fill5t H02.out hw3
     have hz3 : w2.heap.size <= w3.heap.size := by rw [← hw3]; simp []
     have H03 : Hid (w3.heap[P]? = some (.cells #[.bool b, .slice A1 n c1, .slice B1 m d1, .int .i64 x, .int .i64 k] IT (0, 0))) := hid (by
       rw [← hw3]
       have := set_heap (set_heap (set_heap (set_heap (set_heap H02.out 0 (.bool b)) 1 (.slice A1 n c1)) 2 (.slice B1 m d1)) 3 (.int .i64 x)) 4 (.int .i64 k)
       simpa using this)
     have H13 := hid ((o3 (P + 1) (by omega)).trans H12.out)
     have H23 := hid ((o3 (P + 2) (by omega)).trans H22.out)
     have H33 := hid ((o3 (P + 3) (by omega)).trans H32.out)
     have HB3 := hid (b3' _ _ (by rw [HP.out]; omega) HB2.out)
     obtain ⟨G, hOF2⟩ := HOT2.out.ownF
     have HOF : Hid (OwnF w3 w1b.heap.size l sl A1 n c1 B1 m d1 G) := hid (hOF2.keep hz3 fun q hq _ => o3 q (by have := (hOF2.rg q hq).1; omega))
     clear hOF2 hw3 o3 b3' c3 y0 y1 y2 y3 y4 H02 H12 H22 H32 HB2 HOT2
     have y0 : w3.cell? ⟨P, 0, none⟩ = some (.bool b) := (rowc H03.out).1 0
     have y1 : w3.cell? ⟨P, 1, none⟩ = some (.slice A1 n c1) := (rowc H03.out).1 1
     have y2 : w3.cell? ⟨P, 2, none⟩ = some (.slice B1 m d1) := (rowc H03.out).1 2
     have y3 : w3.cell? ⟨P, 3, none⟩ = some (.int .i64 x) := (rowc H03.out).1 3
     have y4 : w3.cell? ⟨P, 4, none⟩ = some (.int .i64 k) := (rowc H03.out).1 4
     obtain ⟨r1, f1⟩ := rowc H33.out
     have v0 := r1 0; have v1 := r1 1; have v2 := r1 2; have v3 := r1 3; have v4 := r1 4
     simp at v0 v1 v2 v3 v4
     clear r1
     go_wp2_with (fail)
     generalize hwF : World.setCell (World.setCell (World.setCell (World.setCell (World.setCell w3 _ _) _ _) _ _) _ _) _ _ = wF
     obtain ⟨rF, oF, bF⟩ := fill5t H33.out hwF
     have hzF : w3.heap.size <= wF.heap.size := by rw [← hwF]; simp []
     clear hwF
     refine bodyPost_ret (v := .tuple #[tbV b A1 n c1 B1 m d1 x k, .bool false]) (by simp [results, Tryz.results10, go_sem, rF, tbV]) rfl ?_
     refine ⟨b, l, sl, x, k, false, A1, c1, B1, d1, G, .inr ⟨HN.out, rfl, rfl, rfl, rfl, rfl, rfl⟩, by rw [HLN.out, HLM.out], ?_, bF _ _ (by rw [HP.out]; omega) HB3.out⟩
     rw [HLN.out, HLM.out]
     exact (HOF.out.keep hzF fun q hq _ => oF q (by have := (HOF.out.rg q hq).1; omega)).lower (by have := HP.out; omega)
   | true =>
     have SS1 := hid (SS.out HOK.out rfl)
     go_wp2_with (fail)
     refine (CP.out _ HB.out).mono ?_
     rintro e w2 ⟨A1, c1, B1, d1, par, R, rfl, hot, hb⟩
     have HOT2 := hid hot
     have H02 := hid (carry hb H0.out)
     have H12 := hid (carry hb H1.out)
     have H22 := hid (carry hb H2.out)
     have H32 := hid (carry hb H3.out)
     have HB2 := hid (bs HB.out hb)
     have hz2 : w1b.heap.size <= w2.heap.size := hb.size
     obtain ⟨r0, f0⟩ := rowc H02.out
     have y0 := r0 0; have y1 := r0 1; have y2 := r0 2; have y3 := r0 3; have y4 := r0 4
     simp at y0 y1 y2 y3 y4
     clear hot hb r0
     go_upto_region 3 with fail
     generalize hw3 : World.setCell (World.setCell (World.setCell (World.setCell (World.setCell w2 _ _) _ _) _ _) _ _) _ _ = w3
     obtain ⟨c3, o3, b3'⟩ := fill5t H02.out hw3
     have hz3 : w2.heap.size <= w3.heap.size := by rw [← hw3]; simp []
     have H03 : Hid (w3.heap[P]? = some (.cells #[.bool b, .slice A1 n c1, .slice B1 m d1, .int .i64 x, .int .i64 k] IT (0, 0))) := hid (by
       rw [← hw3]
       have := set_heap (set_heap (set_heap (set_heap (set_heap H02.out 0 (.bool b)) 1 (.slice A1 n c1)) 2 (.slice B1 m d1)) 3 (.int .i64 x)) 4 (.int .i64 k)
       simpa using this)
     have H13 := hid ((o3 (P + 1) (by omega)).trans H12.out)
     have H23 := hid ((o3 (P + 2) (by omega)).trans H22.out)
     have H33 := hid ((o3 (P + 3) (by omega)).trans H32.out)
     have HB3 := hid (b3' _ _ (by rw [HP.out]; omega) HB2.out)
     obtain ⟨G, hOF2⟩ := HOT2.out.ownF
     have HOF : Hid (OwnF w3 w1b.heap.size l sl A1 n c1 B1 m d1 G) := hid (hOF2.keep hz3 fun q hq _ => o3 q (by have := (hOF2.rg q hq).1; omega))
     clear hOF2 hw3 o3 b3' c3 y0 y1 y2 y3 y4 H02 H12 H22 H32 HB2 HOT2
     have p2 : w3.cell? ⟨P + 1, 2, none⟩ = some (.string ys) := (rowc H13.out).1 2
     have fp := (rowc H13.out).2
     go_wp2_with (fail)
     refine (CL.out _).mono ?_
     rintro e w4 ⟨rfl, hb⟩
     have H04 := hid (carry hb H03.out)
     have H14 := hid (carry hb H13.out)
     have H24 := hid (carry hb H23.out)
     have H34 := hid (carry hb H33.out)
     have HB4 := hid (bs HB3.out hb)
     have HOF4 := hid (HOF.out.below hb)
     have p2 : w4.cell? ⟨P + 1, 2, none⟩ = some (.string ys) := (rowc H14.out).1 2
     have fp := (rowc H14.out).2
     have hz4 : w3.heap.size <= w4.heap.size := hb.size
     clear hb
     go_upto_region 6 with fail
     generalize hw5 : World.setCell w4 _ _ = w5
     have ho5 : ∀ q, q ≠ P + 1 -> w5.heap[q]? = w4.heap[q]? := fun q h => by rw [← hw5, set_other h]
     have hz5 : w5.heap.size = w4.heap.size := by rw [← hw5, set_size]
     have H15 : Hid (w5.heap[P + 1]? = some (.cells #[.bool yb, .int .i64 yn, .string ys] 29 (0, 0))) := hid (by
       rw [← hw5]
       have := set_heap H14.out 2 (.string ys)
       simpa using this)
     have H05 := hid ((ho5 P (by omega)).trans H04.out)
     have H25 := hid ((ho5 (P + 2) (by omega)).trans H24.out)
     have H35 := hid ((ho5 (P + 3) (by omega)).trans H34.out)
     have HB5 : Hid (Below w.heap.size w w5) := hid (by rw [← hw5]; exact HB4.out.setCell (show w.heap.size <= P + 1 by rw [HP.out]; omega) _)
     have HOF5 := hid (HOF4.out.keep (w' := w5) (by omega) fun q hq _ => ho5 q (by have := (HOF4.out.rg q hq).1; omega))
     have hz5b : P + 4 <= w5.heap.size := by omega
     clear hw5 ho5 p2 fp H04 H14 H24 H34 HB4 HOF4 CL
     have p0 : w5.cell? ⟨P + 1, 0, none⟩ = some (.bool yb) := (rowc H15.out).1 0
     have p1 : w5.cell? ⟨P + 1, 1, none⟩ = some (.int .i64 yn) := (rowc H15.out).1 1
     have p2 : w5.cell? ⟨P + 1, 2, none⟩ = some (.string ys) := (rowc H15.out).1 2
     have q0 : w5.cell? ⟨P + 2, 0, none⟩ = some (.int .i64 k1) := (rowc H25.out).1 0
     have q1 : w5.cell? ⟨P + 2, 1, none⟩ = some (.int .i64 n1) := (rowc H25.out).1 1
     have q2 : w5.cell? ⟨P + 2, 2, none⟩ = some (.string s1) := (rowc H25.out).1 2
     have q3 : w5.cell? ⟨P + 2, 3, none⟩ = some (.int .i64 x1) := (rowc H25.out).1 3
     have q4 : w5.cell? ⟨P + 2, 4, none⟩ = some (.slice A2 L1 c2) := (rowc H25.out).1 4
     go_wp2_with (fail)
     go_region_held3 (fun w' => w'.cell? ⟨P + 1, 0, none⟩ = some (.bool yb) /\ w'.cell? ⟨P + 1, 1, none⟩ = some (.int .i64 yn) /\ w'.cell? ⟨P + 1, 2, none⟩ = some (.string ys) /\ w'.cell? ⟨P + 2, 0, none⟩ = some (.int .i64 k1) /\ w'.cell? ⟨P + 2, 1, none⟩ = some (.int .i64 n1) /\ w'.cell? ⟨P + 2, 2, none⟩ = some (.string s1) /\ w'.cell? ⟨P + 2, 3, none⟩ = some (.int .i64 x1) /\ w'.cell? ⟨P + 2, 4, none⟩ = some (.slice A2 L1 c2)) (go_keep) (first
       | (go_at_call 55; refine (CV.out _ (by first | exact HB5.out | exact bs HB5.out ((Below.refl _ _).drew))).mono ?_
          rintro e w6 ⟨v6, par, R, rfl, hpar, hR, hb⟩
          have hbx : Below w5.heap.size w5 w6 := by first | exact hb | exact bs ((Below.refl _ _).drew) hb
          obtain ⟨par', hp', hrg⟩ := hpar.tight
          obtain ⟨A3, c3, rfl, -, -⟩ := hp'.tin.out
          rw [HL1.out] at hp' |-
          have HFI6 : Hid (FIn w6 (Hang par' (R, 0)) (.mk k1 n1 s1 x1 ks1 vs1) (vV k1 n1 s1 x1 A3 L1 c3)) := hid hp'.fin
          have HRG6 : Hid (∀ q, Hang par' (R, 0) q -> w5.heap.size <= q /\ q < w6.heap.size) := hid (fun q hq => by
            have h1 := hrg q hq
            have h2 : w5.heap.size <= R := by first | exact hR | simpa using hR
            exact ⟨by have := h1.1; omega, h1.2⟩)
          have HB6 := hid (bs HB5.out hbx)
          have H06 := hid (carry hbx H05.out)
          have H16 := hid (carry hbx H15.out)
          have H26 := hid (carry hbx H25.out)
          have H36 := hid (carry hbx H35.out)
          have HOF6 := hid (HOF5.out.below hbx)
          have HRT6 : Hid (∀ q, FOwn A1 n c1 B1 m d1 G q -> P + 4 <= q /\ q < w5.heap.size) := hid (fun q hq => by have := HOF5.out.rg q hq; exact ⟨by have := this.1; omega, this.2⟩)
          have hz6 : w5.heap.size <= w6.heap.size := hbx.size
          have p0 : w6.cell? ⟨P + 1, 0, none⟩ = some (.bool yb) := (rowc H16.out).1 0
          have p1 : w6.cell? ⟨P + 1, 1, none⟩ = some (.int .i64 yn) := (rowc H16.out).1 1
          have p2 : w6.cell? ⟨P + 1, 2, none⟩ = some (.string ys) := (rowc H16.out).1 2
          have q0 : w6.cell? ⟨P + 2, 0, none⟩ = some (.int .i64 k1) := (rowc H26.out).1 0
          have q1 : w6.cell? ⟨P + 2, 1, none⟩ = some (.int .i64 n1) := (rowc H26.out).1 1
          have q2 : w6.cell? ⟨P + 2, 2, none⟩ = some (.string s1) := (rowc H26.out).1 2
          have q3 : w6.cell? ⟨P + 2, 3, none⟩ = some (.int .i64 x1) := (rowc H26.out).1 3
          have q4 : w6.cell? ⟨P + 2, 4, none⟩ = some (.slice A2 L1 c2) := (rowc H26.out).1 4
          clear hpar hb hbx hp' hrg hR)
       | (go_at_call 54; refine (SS1.out _ (P + 4) _ _ _ _ _ _ _ _ ((OwnF.box (Q := P) (HOF6.out.keepd ((by first | exact Below.refl _ _ | exact (Below.refl _ _).drew))) (by first | exact H06.out) (fun q hq => by have := (HRT6.out q hq).1; omega)).raise (fun q hq => (HRT6.out q hq).1)) (by first | omega | (simp; omega)) (by first | exact HFI6.out | exact HFI6.out.below ((Below.refl _ _).drew)) (fun q hq => by
            have h1 := HRG6.out q hq
            refine ⟨by first | exact h1.2 | simpa using h1.2, fun e => ?_, fun e => ?_, by omega, fun i hi hg => ?_⟩
            . have := (HRT6.out q (.inr (.inl e))).2; omega
            . have := (HRT6.out q (.inl e)).2; omega
            . have := (HRT6.out q (.inr (.inr ⟨i, by rw [← HLM.out]; exact hi, hg⟩))).2; omega)).mono ?_
          rintro e w7 ⟨rb, rl, rs, rx, rk, ok, A7, n7, c7, B7, m7, d7, G7, hst7, rfl, hbx7, hfr7, hsub7⟩
          have HST7 := hid hst7
          have HBX7 := hid hbx7
          have HSUB7 := hid hsub7
          have hnot : ∀ q, q < P + 4 -> q ≠ P -> ¬ BxF P A1 n c1 B1 m d1 q := fun q h1 h2 h => by
            rcases h with h | h | h
            . exact h2 h
            . have := (HRT6.out q (.inl h)).1; omega
            . have := (HRT6.out q (.inr (.inl h))).1; omega
          have hfr : ∀ q, q < P + 4 -> q ≠ P -> w7.heap[q]? = w6.heap[q]? := fun q h1 h2 => hfr7.block q (by first | omega | (simp; omega)) (hnot q h1 h2)
          have hblo : ∀ q, BxF P A1 n c1 B1 m d1 q -> w.heap.size <= q := fun q h => by
            have hpp := HP.out
            rcases h with h | h | h
            . omega
            . have := (HRT6.out q (.inl h)).1; omega
            . have := (HRT6.out q (.inr (.inl h))).1; omega
          have HB7 : Hid (Below w.heap.size w w7) := hid ((by first | exact HB6.out.trans (hfr7.below (lo := w.heap.size) HB6.out.size hblo) | exact (bs HB6.out ((Below.refl _ _).drew)).trans (hfr7.below (lo := w.heap.size) HB6.out.size hblo)))
          have H17 := hid ((hfr (P + 1) (by omega) (by omega)).trans H16.out)
          have H27 := hid ((hfr (P + 2) (by omega) (by omega)).trans H26.out)
          have HRES := hid ((hfr (P + 3) (by omega) (by omega)).trans H36.out)
          have hz7 : w6.heap.size <= w7.heap.size := by first | exact hfr7.size | simpa using hfr7.size
          have p0 : w7.cell? ⟨P + 1, 0, none⟩ = some (.bool yb) := (rowc H17.out).1 0
          have p1 : w7.cell? ⟨P + 1, 1, none⟩ = some (.int .i64 yn) := (rowc H17.out).1 1
          have p2 : w7.cell? ⟨P + 1, 2, none⟩ = some (.string ys) := (rowc H17.out).1 2
          have q0 : w7.cell? ⟨P + 2, 0, none⟩ = some (.int .i64 k1) := (rowc H27.out).1 0
          have q1 : w7.cell? ⟨P + 2, 1, none⟩ = some (.int .i64 n1) := (rowc H27.out).1 1
          have q2 : w7.cell? ⟨P + 2, 2, none⟩ = some (.string s1) := (rowc H27.out).1 2
          have q3 : w7.cell? ⟨P + 2, 3, none⟩ = some (.int .i64 x1) := (rowc H27.out).1 3
          have q4 : w7.cell? ⟨P + 2, 4, none⟩ = some (.slice A2 L1 c2) := (rowc H27.out).1 4
          clear hst7 hbx7 hfr7 hsub7 hnot hfr hblo))
     clear p0 p1 p2 q0 q1 q2 q3 q4
     obtain ⟨r5, -⟩ := rowc HBX7.out.box
     have y0 := r5 0; have y1 := r5 1; have y2 := r5 2; have y3 := r5 3; have y4 := r5 4
     simp at y0 y1 y2 y3 y4
     clear r5
     obtain ⟨r1, f1⟩ := rowc HRES.out
     have v0 := r1 0; have v1 := r1 1; have v2 := r1 2; have v3 := r1 3; have v4 := r1 4
     simp at v0 v1 v2 v3 v4
     clear r1
     go_wp2_with (fail)
     generalize hwF : World.setCell (World.setCell (World.setCell (World.setCell (World.setCell w7 _ _) _ _) _ _) _ _) _ _ = wF
     obtain ⟨rF, oF, bF⟩ := fill5t HRES.out hwF
     have hzF : w7.heap.size <= wF.heap.size := by rw [← hwF]; simp []
     clear hwF
     refine bodyPost_ret (v := .tuple #[tbV rb A7 n7 c7 B7 m7 d7 rx rk, .bool ok]) (by simp [results, Tryz.results10, go_sem, rF, tbV]) rfl ?_
     have hl7 := HBX7.out.len
     have hn7 := HBX7.out.heads.len
     have hlow : ∀ i, i < m7 -> ∀ q, G7 i q -> P + 4 <= q := fun i hi q hq => by
       rcases HSUB7.out i hi q hq with ⟨i', h1, h2⟩ | h
       . exact (HRT6.out q (.inr (.inr ⟨i', h1, h2⟩))).1
       . have := (HRG6.out q h).1; omega
     have hof := HBX7.out.own hlow
     refine ⟨rb, rl, rs, rx, rk, ok, A7, c7, B7, d7, G7, .inl ⟨⟨HOK.out, HKB.out⟩, HST7.out⟩, by rw [hl7, hn7], ?_, bF _ _ (by rw [HP.out]; omega) HB7.out⟩
     rw [hl7, hn7]
     exact (hof.keep hzF fun q hq _ => oF q (by have := (hof.rg q hq).1; omega)).lower (by have := HP.out; omega)
end Go.Proofs.YtdgfpfkhcojgaaaGreatDoor.tree
/-
 Rebuild of the model.
 Conditions: those that each theorem names; the package variables of the library's reading of numbers hold what the program's text lays.
-/
namespace Go.Proofs.YtdgfpfkhcojgaaaGreatDoor.tree
open Go.ChangeShapes Go.WideShapes Go.ChangeAt Go.RowKit
set_option linter.unusedVariables false
def RbsQ (w : World) (b : Bool) (l : List Int) (sl : List Sl) (x k : Int) (e : Ending) (w' : World) : Prop :=
 ∃ rb rl rs A' c' B' d', RbR b l sl x k rb rl rs /\ e = .returned (tbV rb A' rl.length c' B' rs.length d' x k) /\ KT w' (Rg w.heap.size w'.heap.size) rl rs A' rl.length c' B' rs.length d' /\ Below w.heap.size w w'
theorem kt_srs {w : World} {lo L : Nat} {S : Nat -> Prop} {l : List Int} {sl : List Sl} {A B : Option Addr} {n c m d : Nat} (ho : imem.OwnI w L A n c l) (hs : SRs w L S (.slice B m d) sl) (hlm : sl.length = m) (hm : m <= 1048576) (hL : lo <= L) (hS : ∀ q, S q -> lo <= q) : KT w (Rg lo w.heap.size) l sl A n c B m d := by
 have hblk := hs.block
 obtain ⟨A', c', e, hcap, hin⟩ := hs.sin (by unfold maxLen; omega)
 obtain ⟨rfl, rfl, rfl⟩ : B = A' /\ m = sl.length /\ d = c' := by simpa using e
 refine ⟨⟨L, ho⟩, fun q e => ?_, hin.both.stays (fun q hq => ⟨?_, hq.2⟩) (fun _ _ _ => rfl), hlm, hcap⟩
 . have := ho.block q e
   exact ⟨by omega, this.2⟩
 . rcases hq.1 with h | h
   . exact hS q h
   . have := (hblk q h).1
     omega
theorem KT.up {w w' : World} {lo : Nat} {l : List Int} {sl : List Sl} {A B : Option Addr} {n c m d : Nat} (h : KT w (Rg lo w.heap.size) l sl A n c B m d) (hz : w.heap.size <= w'.heap.size) (hs : ∀ q, lo <= q -> w'.heap[q]? = w.heap[q]?) : KT w' (Rg lo w'.heap.size) l sl A n c B m d :=
 (h.keep fun q hq _ => hs q hq.1).mono fun q hq => ⟨hq.1, Nat.lt_of_lt_of_le hq.2 hz⟩
end Go.Proofs.YtdgfpfkhcojgaaaGreatDoor.tree
