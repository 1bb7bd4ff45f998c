/-
  What the texts behind this one use: 4 parts of one proof.
  Conditions: those that each theorem names.
-/
import Derived.Test.YtdgfpfkhcojgaaaGreatDoorTBB8
import Derived.Test.YtdgfpfkhcojgaaaGreatDoorTBB6
import Derived.Test.YtdgfpfkhcojgaaaGreatDoorRows
import Derived.Test.YtdgfpfkhcojgaaaGreatDoorCards
import Derived.Test.YtdgfpfkhcojgaaaGreatDoorTie
import Derived.LaidMore
import Derived.LaidHandle
import Derived.Stop.Joined
import Derived.SevenTiedAt
import Derived.Stop.LaidErr
import Derived.SizedLaws
import Derived.Deep.RegionHeld3
import Derived.WalkKit
import Derived.ProofKit
import Derived.OpenShut
import Derived.Test.YtdgfpfkhcojgaaaGreatDoorTBB7
import Derived.Test.YtdgfpfkhcojgaaaGreatDoorTBB4
import Derived.Test.YtdgfpfkhcojgaaaGreatDoorTBB2
import Derived.Test.YtdgfpfkhcojgaaaGreatDoorTBSLawBox
import Derived.Test.YtdgfpfkhcojgaaaGreatDoorTBSEnvKey
/-
  TableSet of the model.
  Conditions: those that each theorem names; the package variables of the library's reading of numbers hold what the program's text lays.
-/
open Go.Lib (hid)
namespace Go.Proofs.YtdgfpfkhcojgaaaGreatDoor.tree
open Go.ChangeShapes Go.WideShapes Go.ChangeAt Go.RowKit
set_option linter.unusedVariables false
theorem M7.kt {w : World} {L lo : Nat} {S : Nat -> Prop} {l : List Int} {sl : List Sl} {A B : Option Addr} {n c m d : Nat} (h : M7 w L S l sl A n c B m d) (hm : m <= maxLen) (hl : lo <= L) : KT w (Rg lo w.heap.size) l sl A n c B m d :=
 ⟨⟨L, h.heads⟩, fun q e => by have := h.heads.block q e; exact ⟨by omega, this.2⟩, (h.cap hm).2.stays (fun q hq => by
   have := h.lt q (hq.imp id .inr)
   exact ⟨by omega, this.2⟩) (fun _ _ _ => rfl), h.len, (h.cap hm).1⟩
theorem far5 {w : World} {b q : Nat} {i : Nat} {u v0 v1 v2 v3 v4 : Value} (h : w.cell? ⟨q, i, none⟩ = some u) (hq : b ≠ q) : (((((w.setCell ⟨b, 0, none⟩ v0).setCell ⟨b, 1, none⟩ v1).setCell ⟨b, 2, none⟩ v2).setCell ⟨b, 3, none⟩ v3).setCell ⟨b, 4, none⟩ v4).cell? ⟨q, i, none⟩ = some u := by
 rw [World.cell?_setCell_far _ _ _ _ hq, World.cell?_setCell_far _ _ _ _ hq, World.cell?_setCell_far _ _ _ _ hq, World.cell?_setCell_far _ _ _ _ hq, World.cell?_setCell_far _ _ _ _ hq]
 exact h
theorem ts_len {b : Bool} {l : List Int} {sl : List Sl} {x k : Int} {y : Ky} {v : Tr} {rb : Bool} {rl : List Int} {rs : List Sl} {rx rk : Int} {ok : Bool} (h : TsR b l sl x k y v rb rl rs rx rk ok) : rs.length <= sl.length + 1 /\ (rl.length <= l.length \/ rl.length <= 1024) := by
 have hp := room_p2 k
 unfold p2 at hp
 rcases h with ⟨-, h⟩ | ⟨-, rfl, rfl, rfl, -⟩
 . rcases h with ⟨i, -, rfl, rfl, rfl, -⟩ | ⟨-, -, rfl, rfl, rfl, -⟩ | ⟨-, -, -, rfl, rfl, rfl, -⟩ | ⟨-, -, -, rfl, rfl, rfl, -⟩
   . rw [setV_len]; exact ⟨by omega, .inl (Nat.le_refl _)⟩
   . exact ⟨by omega, .inl (Nat.le_refl _)⟩
   . rw [addS_len, List.length_set, hsA_len]; have := rbS_le (room k) sl; exact ⟨by omega, .inr (by omega)⟩
   . rw [addS_len, List.length_set]; exact ⟨by omega, .inl (Nat.le_refl _)⟩
 . exact ⟨by omega, .inl (Nat.le_refl _)⟩
def TssQ (w : World) (b : Bool) (l : List Int) (sl : List Sl) (x k : Int) (y : Ky) (v : Tr) (e : Ending) (w' : World) : Prop :=
 ∃ rb rl rs rx rk ok A' c' B' d', TsR b l sl x k y v rb rl rs rx rk ok /\ e = .returned (.tuple #[tbV rb A' rl.length c' B' rs.length d' rx rk, .bool ok]) /\ KT w' (Rg w.heap.size w'.heap.size) rl rs A' rl.length c' B' rs.length d' /\ Below w.heap.size w w'
set_option maxRecDepth 100000 in
set_option maxHeartbeats 8000000 in
theorem tableSet_s {l : List Int} {sl : List Sl} {b : Bool} {A : Option Addr} {n c : Nat} {B : Option Addr} {m d : Nat} {x k : Int} (w : World) {S : Nat -> Prop} (hr : TbIn w S l sl A n c B m d x k) (hn : n <= 1048576) (hm : m <= 1048576) (hct : ∀ t ∈ sl, cnt t.val <= 1000000000) (hst : SlB sl) (hE : prs.Env w)
   (y : Ky) (hys : y.str.size <= 140737488355328) {S1 : Nat -> Prop} {k1 n1 x1 : Int} {s1 : ByteArray} {ks1 : List Ky} {vs1 : List Tr} {A2 : Option Addr} {c2 : Nat} (hT : TIn w S1 (.mk k1 n1 s1 x1 ks1 vs1) (vV k1 n1 s1 x1 A2 vs1.length c2)) (hTc : cnt (.mk k1 n1 s1 x1 ks1 vs1) <= 1000000000) :
   Calls Tryz.prog 27 #[tbV b A n c B m d x k, kyV y, vV k1 n1 s1 x1 A2 vs1.length c2] w (TssQ w b l sl x k y (.mk k1 n1 s1 x1 ks1 vs1)) := by
 obtain ⟨P, HP⟩ : ∃ P, Hid (w.heap.size = P) := ⟨_, hid rfl⟩
 have TR : Hid (∀ w', Below w.heap.size w w' -> TbIn w' S l sl A n c B m d x k) := hid fun w' hb => ⟨hr.heads.below hb, hr.hn, hr.len, hr.cap, hr.slots.below hb, hr.next, hr.count⟩
 have ITQ : Hid (∀ w', Below w.heap.size w w' -> Calls Tryz.prog 12 #[.agg #[.bool b, .slice A n c, .slice B m d, .int .i64 x, .int .i64 k]] w' (BoP w' (tabOk b l sl x k))) := hid fun w' hb => isTable_s w' (TR.out w' hb) hn hm hst (hE.stays hb)
 have IKQ : Hid (∀ w', Below w.heap.size w w' -> Calls Tryz.prog 13 #[kyV y] w' (KeyQ w' (keyB y))) := hid fun w' hb => isKey_s y (by omega) w' (hE.stays hb)
 have CP : Hid (∀ w', Below w.heap.size w w' -> Calls Tryz.prog 75 #[.agg #[.bool b, .slice A n c, .slice B m d, .int .i64 x, .int .i64 k]] w' (Q7 w' b l sl n m x k)) := hid fun w' hb => l7Copy_s w' (TR.out w' hb) hn (by omega) hct
 have CV : Hid (∀ w', Below w.heap.size w w' -> Calls Tryz.prog 61 #[vV k1 n1 s1 x1 A2 vs1.length c2] w' (ToQ w' (.mk k1 n1 s1 x1 ks1 vs1))) := hid fun w' hb => l5Copy _ hTc w' S1 _ (hT.below' hb)
 obtain ⟨L1, HL1⟩ : ∃ L, Hid (vs1.length = L) := ⟨_, hid rfl⟩
 rw [HL1.out] at CV |-
 have HLM := hid hr.len
 have HLN : Hid (l.length = n) := hid hr.heads.len
 obtain ⟨kb, HKB⟩ : ∃ q, Hid (keyB y = q) := ⟨_, hid rfl⟩
 rw [HKB.out] at IKQ
 have SS : Hid (tabOk b l sl x k -> kb = true -> ∀ w' L A1 c1 B1 d1 S0 S2 A3 c3, M7 w' L S0 l sl A1 n c1 B1 m d1 -> L <= w'.heap.size -> TIn w' S2 (.mk k1 n1 s1 x1 ks1 vs1) (vV k1 n1 s1 x1 A3 L1 c3) -> (∀ q, S2 q -> (L <= q /\ q < w'.heap.size) /\ (Value.slice A1 n c1).ownBlock ≠ some q /\ (Value.slice B1 m d1).ownBlock ≠ some q) -> Calls Tryz.prog 76 #[.agg #[.bool b, .slice A1 n c1, .slice B1 m d1, .int .i64 x, .int .i64 k], kyV y, vV k1 n1 s1 x1 A3 L1 c3] w' (St7Q w' L S0 S2 b l sl A1 n c1 B1 m d1 x k y (.mk k1 n1 s1 x1 ks1 vs1))) := hid fun hok hkb w' L A1 c1 B1 d1 S0 S2 A3 c3 h1 h2 h3 h4 => by
   rw [← HL1.out] at h3 |-
   exact l7Set_s w' h1 h2 hok hst y (by rw [HKB.out]; exact hkb) hys h3 h4
 obtain ⟨yb, yn, ys⟩ := y
 unfold kyV at IKQ SS |-
 simp only at IKQ SS |-
 clear hr hct hst hE TR hys hT hTc
 go_enter Tryz.func27, Tryz.ntmps27
 go_upto_region 1 with fail
 rw [HP.out]
 generalize hw0 : (((w.alloc (.cells #[.bool b, .slice A n c, .slice B m d, .int .i64 x, .int .i64 k] IT)).alloc (.cells #[.bool yb, .int .i64 yn, .string ys] 29)).alloc (.cells #[.int .i64 k1, .int .i64 n1, .string s1, .int .i64 x1, .slice A2 L1 c2] IV)).alloc (.cells #[.bool false, .slice none 0 0, .slice none 0 0, .int .i64 0, .int .i64 0] IT) = w0
 obtain ⟨w00, hw00⟩ : ∃ q, ((w.alloc (.cells #[.bool b, .slice A n c, .slice B m d, .int .i64 x, .int .i64 k] IT)).alloc (.cells #[.bool yb, .int .i64 yn, .string ys] 29)).alloc (.cells #[.int .i64 k1, .int .i64 n1, .string s1, .int .i64 x1, .slice A2 L1 c2] IV) = q := ⟨_, rfl⟩
 rw [hw00] at hw0
 obtain ⟨a0, a1, a2, az, ab⟩ := al3t w _ _ _ _ _ _ w00 hw00
 rw [HP.out] at a0 a1 a2 az
 have H0 : Hid (w0.heap[P]? = some (.cells #[.bool b, .slice A n c, .slice B m d, .int .i64 x, .int .i64 k] IT (0, 0))) := hid (by rw [← hw0]; exact keepAlloc a0)
 have H1 : Hid (w0.heap[P + 1]? = some (.cells #[.bool yb, .int .i64 yn, .string ys] 29 (0, 0))) := hid (by rw [← hw0]; exact keepAlloc a1)
 have H2 : Hid (w0.heap[P + 2]? = some (.cells #[.int .i64 k1, .int .i64 n1, .string s1, .int .i64 x1, .slice A2 L1 c2] IV (0, 0))) := hid (by rw [← hw0]; exact keepAlloc a2)
 have H3 : Hid (w0.heap[P + 3]? = some (.cells #[.bool false, .slice none 0 0, .slice none 0 0, .int .i64 0, .int .i64 0] IT (0, 0))) := hid (by rw [← hw0, ← az]; exact heap_alloc_new w00 _)
 have hz0 : P + 4 <= w0.heap.size := by rw [← hw0]; simp [az]
 have HB : Hid (Below w.heap.size w w0) := hid (by rw [← hw0]; exact bs ab (b1 w00 _))
 clear hw0 hw00 a0 a1 a2 az ab
 have y0 : w0.cell? ⟨P, 0, none⟩ = some (.bool b) := (rowc H0.out).1 0
 have y1 : w0.cell? ⟨P, 1, none⟩ = some (.slice A n c) := (rowc H0.out).1 1
 have y2 : w0.cell? ⟨P, 2, none⟩ = some (.slice B m d) := (rowc H0.out).1 2
 have y3 : w0.cell? ⟨P, 3, none⟩ = some (.int .i64 x) := (rowc H0.out).1 3
 have y4 : w0.cell? ⟨P, 4, none⟩ = some (.int .i64 k) := (rowc H0.out).1 4
 go_wp2_with (fail)
 refine (CP.out _ HB.out).mono ?_
 rintro e w2 ⟨A3, c3, g3, d3, M, N, rfl, hM, hMN, ho, hlo, hs, hb⟩
 replace H0 := hid (carry hb H0.out)
 replace H1 := hid (carry hb H1.out)
 replace H2 := hid (carry hb H2.out)
 replace H3 := hid (carry hb H3.out)
 replace HB := hid (bs HB.out hb)
 have HM7 : Hid (M7 w2 (P + 4) (fun q => N <= q /\ q < w2.heap.size) l sl A3 n c3 (some ⟨g3, 0, none⟩) m d3) := hid (by
   have hg := hs.block g3 rfl
   refine ⟨ho.less (by omega), ?_, fun q hq e => ?_, fun q hq => ⟨by omega, hq.2⟩, HLM.out⟩
   . obtain ⟨xs, h1, h3⟩ := hs
     refine ⟨xs, ⟨h1.1, h1.2.imp id fun ⟨g, cap, cur, e, hlo, r⟩ => ⟨g, cap, cur, e, by omega, r⟩⟩, fun i t ht => ?_⟩
     obtain ⟨k, n, s, x, ks, vs, A, c, a1, a2, a3, a4, a5⟩ := h3 i t ht
     exact ⟨k, n, s, x, ks, vs, A, c, a1, a2, a3, a4, a5.both.stays (fun q hq => ⟨⟨hq.1.1, hq.2⟩, hq.1.2⟩) (fun _ _ _ => rfl)⟩
   . have h1 := hlo q e
     rcases hq with hq | hq
     . omega
     . have h2 : g3 = q := by simpa [Value.ownBlock] using hq
       omega)
 have hz2 : P + 4 <= w2.heap.size := Nat.le_trans hz0 hb.size
 clear hM hMN ho hlo hs hb y0 y1 y2 y3 y4 hz0 CP
 go_upto_region 2 with fail
 obtain ⟨P8, HP8⟩ : ∃ q, Hid (w2.heap.size = q) := ⟨_, hid rfl⟩
 rw [HP8.out]
 generalize hw3 : w2.alloc (.cells #[.bool b, .slice A3 n c3, .slice (some ⟨g3, 0, none⟩) m d3, .int .i64 x, .int .i64 k] IT) = w3
 have hb3 : Below w2.heap.size w2 w3 := hw3 ▸ b1 _ _
 have H8 : Hid (w3.heap[P8]? = some (.cells #[.bool b, .slice A3 n c3, .slice (some ⟨g3, 0, none⟩) m d3, .int .i64 x, .int .i64 k] IT (0, 0))) := hid (by rw [← hw3, ← HP8.out]; exact heap_alloc_new _ _)
 have hz3 : P + 4 <= P8 := by rw [← HP8.out]; exact hz2
 replace H0 := hid (carry hb3 H0.out)
 replace H1 := hid (carry hb3 H1.out)
 replace H2 := hid (carry hb3 H2.out)
 replace H3 := hid (carry hb3 H3.out)
 replace HB := hid (bs HB.out hb3)
 have HM7L : Hid (∀ q, ((N <= q /\ q < w2.heap.size) \/ (Value.slice A3 n c3).ownBlock = some q \/ (Value.slice (some ⟨g3, 0, none⟩) m d3).ownBlock = some q) -> P + 4 <= q /\ q < P8) := hid (fun q hq => by have := HM7.out.lt q hq; have h8 := HP8.out; omega)
 replace HM7 := hid (HM7.out.below hb3)
 clear hw3 hb3 hz2
 have y0 : w3.cell? ⟨P, 0, none⟩ = some (.bool b) := (rowc H0.out).1 0
 have y1 : w3.cell? ⟨P, 1, none⟩ = some (.slice A n c) := (rowc H0.out).1 1
 have y2 : w3.cell? ⟨P, 2, none⟩ = some (.slice B m d) := (rowc H0.out).1 2
 have y3 : w3.cell? ⟨P, 3, none⟩ = some (.int .i64 x) := (rowc H0.out).1 3
 have y4 : w3.cell? ⟨P, 4, none⟩ = some (.int .i64 k) := (rowc H0.out).1 4
 go_wp2_with (fail)
 refine (ITQ.out _ HB.out).mono ?_
 rintro e w4 ⟨q, rfl, hq, hb⟩
 have HQ := hid hq
 replace H0 := hid (carry hb H0.out)
 replace H1 := hid (carry hb H1.out)
 replace H2 := hid (carry hb H2.out)
 replace H3 := hid (carry hb H3.out)
 replace H8 := hid (carry hb H8.out)
 replace HB := hid (bs HB.out hb)
 replace HM7 := hid (HM7.out.below hb)
 clear hb hq ITQ y0 y1 y2 y3 y4
 cases q with
 | false =>
   have HN : Hid (¬ (tabOk b l sl x k /\ keyB ⟨yb, yn, ys⟩ = true)) := hid (fun h => by have := HQ.out.2 h.1; cases this)
   have o0 : w4.cell? ⟨P8, 0, none⟩ = some (.bool b) := (rowc H8.out).1 0
   have o1 : w4.cell? ⟨P8, 1, none⟩ = some (.slice A3 n c3) := (rowc H8.out).1 1
   have o2 : w4.cell? ⟨P8, 2, none⟩ = some (.slice (some ⟨g3, 0, none⟩) m d3) := (rowc H8.out).1 2
   have o3 : w4.cell? ⟨P8, 3, none⟩ = some (.int .i64 x) := (rowc H8.out).1 3
   have o4 : w4.cell? ⟨P8, 4, none⟩ = some (.int .i64 k) := (rowc H8.out).1 4
   obtain ⟨r1, f1⟩ := rowc H3.out
   have v0 := r1 0; have v1 := r1 1; have v2 := r1 2; have v3 := r1 3; have v4 := r1 4
   simp at v0 v1 v2 v3 v4
   clear r1
   go_wp2_with (fail)
   generalize hwF : World.setCell (World.setCell (World.setCell (World.setCell (World.setCell w4 _ _) _ _) _ _) _ _) _ _ = wF
   obtain ⟨rF, oF, bF⟩ := fill5t H3.out hwF
   have hzF : w4.heap.size <= wF.heap.size := by rw [← hwF]; simp []
   clear hwF
   refine bodyPost_ret (v := .tuple #[tbV b A3 n c3 (some ⟨g3, 0, none⟩) m d3 x k, .bool false]) (by simp [results, Tryz.results27, go_sem, rF, tbV]) rfl ?_
   refine ⟨b, l, sl, x, k, false, A3, c3, _, d3, .inr ⟨HN.out, rfl, rfl, rfl, rfl, rfl, rfl⟩, by rw [HLN.out, HLM.out], ?_, bF _ _ (by rw [HP.out]; omega) HB.out⟩
   rw [HLN.out, HLM.out]
   exact (HM7.out.keep hzF fun q hq hl => oF q (by have := (HM7.out.lt q hq).1; omega)).kt (by unfold maxLen; omega) (by have := HP.out; omega)
 | true =>
   have HOK : Hid (tabOk b l sl x k) := hid (HQ.out.1 rfl)
   have p0 : w4.cell? ⟨P + 1, 0, none⟩ = some (.bool yb) := (rowc H1.out).1 0
   have p1 : w4.cell? ⟨P + 1, 1, none⟩ = some (.int .i64 yn) := (rowc H1.out).1 1
   have p2 : w4.cell? ⟨P + 1, 2, none⟩ = some (.string ys) := (rowc H1.out).1 2
   go_wp2_with (fail)
   refine (IKQ.out _ HB.out).mono ?_
   rintro e w5 ⟨rfl, hb⟩
   replace H0 := hid (carry hb H0.out)
   replace H1 := hid (carry hb H1.out)
   replace H2 := hid (carry hb H2.out)
   replace H3 := hid (carry hb H3.out)
   replace H8 := hid (carry hb H8.out)
   replace HB := hid (bs HB.out hb)
   replace HM7 := hid (HM7.out.below hb)
   clear hb IKQ p0 p1 p2
   cases kb with
   | false =>
     have HN : Hid (¬ (tabOk b l sl x k /\ keyB ⟨yb, yn, ys⟩ = true)) := hid (fun h => by rw [HKB.out] at h; cases h.2)
     have o0 : w5.cell? ⟨P8, 0, none⟩ = some (.bool b) := (rowc H8.out).1 0
     have o1 : w5.cell? ⟨P8, 1, none⟩ = some (.slice A3 n c3) := (rowc H8.out).1 1
     have o2 : w5.cell? ⟨P8, 2, none⟩ = some (.slice (some ⟨g3, 0, none⟩) m d3) := (rowc H8.out).1 2
     have o3 : w5.cell? ⟨P8, 3, none⟩ = some (.int .i64 x) := (rowc H8.out).1 3
     have o4 : w5.cell? ⟨P8, 4, none⟩ = some (.int .i64 k) := (rowc H8.out).1 4
     obtain ⟨r1, f1⟩ := rowc H3.out
     have v0 := r1 0; have v1 := r1 1; have v2 := r1 2; have v3 := r1 3; have v4 := r1 4
     simp at v0 v1 v2 v3 v4
     clear r1
     go_wp2_with (fail)
     generalize hwF : World.setCell (World.setCell (World.setCell (World.setCell (World.setCell w5 _ _) _ _) _ _) _ _) _ _ = wF
     obtain ⟨rF, oF, bF⟩ := fill5t H3.out hwF
     have hzF : w5.heap.size <= wF.heap.size := by rw [← hwF]; simp []
     clear hwF
     refine bodyPost_ret (v := .tuple #[tbV b A3 n c3 (some ⟨g3, 0, none⟩) m d3 x k, .bool false]) (by simp [results, Tryz.results27, go_sem, rF, tbV]) rfl ?_
     refine ⟨b, l, sl, x, k, false, A3, c3, _, d3, .inr ⟨HN.out, rfl, rfl, rfl, rfl, rfl, rfl⟩, by rw [HLN.out, HLM.out], ?_, bF _ _ (by rw [HP.out]; omega) HB.out⟩
     rw [HLN.out, HLM.out]
     exact (HM7.out.keep hzF fun q hq hl => oF q (by have := (HM7.out.lt q hq).1; omega)).kt (by unfold maxLen; omega) (by have := HP.out; omega)
   | true =>
     have SS1 := hid (SS.out HOK.out rfl)
     have HC : Hid (Below w5.heap.size w5 w5) := hid (Below.refl _ _)
     have hz5 : P8 < w5.heap.size := (Array.getElem?_eq_some_iff.1 H8.out).1
     have o0 : w5.cell? ⟨P8, 0, none⟩ = some (.bool b) := (rowc H8.out).1 0
     have o1 : w5.cell? ⟨P8, 1, none⟩ = some (.slice A3 n c3) := (rowc H8.out).1 1
     have o2 : w5.cell? ⟨P8, 2, none⟩ = some (.slice (some ⟨g3, 0, none⟩) m d3) := (rowc H8.out).1 2
     have o3 : w5.cell? ⟨P8, 3, none⟩ = some (.int .i64 x) := (rowc H8.out).1 3
     have o4 : w5.cell? ⟨P8, 4, none⟩ = some (.int .i64 k) := (rowc H8.out).1 4
     have p0 : w5.cell? ⟨P + 1, 0, none⟩ = some (.bool yb) := (rowc H1.out).1 0
     have p1 : w5.cell? ⟨P + 1, 1, none⟩ = some (.int .i64 yn) := (rowc H1.out).1 1
     have p2 : w5.cell? ⟨P + 1, 2, none⟩ = some (.string ys) := (rowc H1.out).1 2
     have q0 : w5.cell? ⟨P + 2, 0, none⟩ = some (.int .i64 k1) := (rowc H2.out).1 0
     have q1 : w5.cell? ⟨P + 2, 1, none⟩ = some (.int .i64 n1) := (rowc H2.out).1 1
     have q2 : w5.cell? ⟨P + 2, 2, none⟩ = some (.string s1) := (rowc H2.out).1 2
     have q3 : w5.cell? ⟨P + 2, 3, none⟩ = some (.int .i64 x1) := (rowc H2.out).1 3
     have q4 : w5.cell? ⟨P + 2, 4, none⟩ = some (.slice A2 L1 c2) := (rowc H2.out).1 4
     go_wp2_with (fail)
     go_region_held3 (fun w' => w'.cell? ⟨P8, 0, none⟩ = some (.bool b) /\ w'.cell? ⟨P8, 1, none⟩ = some (.slice A3 n c3) /\ w'.cell? ⟨P8, 2, none⟩ = some (.slice (some ⟨g3, 0, none⟩) m d3) /\ w'.cell? ⟨P8, 3, none⟩ = some (.int .i64 x) /\ w'.cell? ⟨P8, 4, none⟩ = some (.int .i64 k) /\ w'.cell? ⟨P + 1, 0, none⟩ = some (.bool yb) /\ w'.cell? ⟨P + 1, 1, none⟩ = some (.int .i64 yn) /\ w'.cell? ⟨P + 1, 2, none⟩ = some (.string ys) /\ w'.cell? ⟨P + 2, 0, none⟩ = some (.int .i64 k1) /\ w'.cell? ⟨P + 2, 1, none⟩ = some (.int .i64 n1) /\ w'.cell? ⟨P + 2, 2, none⟩ = some (.string s1) /\ w'.cell? ⟨P + 2, 3, none⟩ = some (.int .i64 x1) /\ w'.cell? ⟨P + 2, 4, none⟩ = some (.slice A2 L1 c2)) (first | (go_keep; done) | exact HS13.out _ _ _ _ _) (first
       | (go_at_call 61; refine (CV.out _ (by first | exact HB.out | exact bs HB.out ((Below.refl _ _).drew))).mono ?_
          rintro e w6 ⟨v6, rfl, hv6, hb⟩
          have hbx : Below w5.heap.size w5 w6 := by first | exact hb | exact bs ((Below.refl _ _).drew) hb
          obtain ⟨A6, c6, rfl, -, -⟩ := hv6.out
          rw [HL1.out] at hv6 |-
          have HV6 : Hid (TIn w6 (fun q => w5.heap.size <= q /\ q < w6.heap.size) (.mk k1 n1 s1 x1 ks1 vs1) (vV k1 n1 s1 x1 A6 L1 c6)) := hid (hv6.both.stays (fun q hq => ⟨by have h9 := hq.1; first | exact h9 | simpa using h9, hq.2⟩) (fun _ _ _ => rfl))
          have HB6 := hid (bs HB.out hbx)
          have H16 := hid (carry hbx H1.out)
          have H26 := hid (carry hbx H2.out)
          have H36 := hid (carry hbx H3.out)
          have H86 := hid (carry hbx H8.out)
          have HM6 := hid (HM7.out.below hbx)
          have hz6 : w5.heap.size <= w6.heap.size := hbx.size
          have o0 : w6.cell? ⟨P8, 0, none⟩ = some (.bool b) := (rowc H86.out).1 0
          have o1 : w6.cell? ⟨P8, 1, none⟩ = some (.slice A3 n c3) := (rowc H86.out).1 1
          have o2 : w6.cell? ⟨P8, 2, none⟩ = some (.slice (some ⟨g3, 0, none⟩) m d3) := (rowc H86.out).1 2
          have o3 : w6.cell? ⟨P8, 3, none⟩ = some (.int .i64 x) := (rowc H86.out).1 3
          have o4 : w6.cell? ⟨P8, 4, none⟩ = some (.int .i64 k) := (rowc H86.out).1 4
          have p0 : w6.cell? ⟨P + 1, 0, none⟩ = some (.bool yb) := (rowc H16.out).1 0
          have p1 : w6.cell? ⟨P + 1, 1, none⟩ = some (.int .i64 yn) := (rowc H16.out).1 1
          have p2 : w6.cell? ⟨P + 1, 2, none⟩ = some (.string ys) := (rowc H16.out).1 2
          have q0 : w6.cell? ⟨P + 2, 0, none⟩ = some (.int .i64 k1) := (rowc H26.out).1 0
          have q1 : w6.cell? ⟨P + 2, 1, none⟩ = some (.int .i64 n1) := (rowc H26.out).1 1
          have q2 : w6.cell? ⟨P + 2, 2, none⟩ = some (.string s1) := (rowc H26.out).1 2
          have q3 : w6.cell? ⟨P + 2, 3, none⟩ = some (.int .i64 x1) := (rowc H26.out).1 3
          have q4 : w6.cell? ⟨P + 2, 4, none⟩ = some (.slice A2 L1 c2) := (rowc H26.out).1 4
          clear hv6 hb hbx)
       | (go_at_call 76; refine (SS1.out _ (P + 4) _ _ _ _ _ (fun q => w5.heap.size <= q /\ q < w6.heap.size) _ _ (by first | exact HM6.out | exact HM6.out.below ((Below.refl _ _).drew)) (by first | omega | (simp; omega)) (by first | exact HV6.out | exact HV6.out.below' ((Below.refl _ _).drew)) (fun q hq => ⟨⟨by omega, by first | exact hq.2 | simpa using hq.2⟩, fun e => by have := (HM7L.out q (.inr (.inl e))).2; omega, fun e => by have := (HM7L.out q (.inr (.inr e))).2; omega⟩)).mono ?_
          rintro e w7 ⟨rb, rl, rs, rx, rk, ok, A7, n7, c7, B7, m7, d7, S7, hst7, rfl, hm7, hsub7, hfr7⟩
          have HST7 := hid hst7
          have HM77 := hid hm7
          have HSUB7 := hid hsub7
          have hfr : ∀ q, q < P + 4 \/ q = P8 -> w7.heap[q]? = w6.heap[q]? := fun q h1 => hfr7.block q (by first | omega | (simp; omega)) (fun h => by
            rcases h with h | h
            . have := HM7L.out q (.inr (.inl h)); omega
            . have := HM7L.out q (.inr (.inr h)); omega)
          have hblo : ∀ q, ((Value.slice A3 n c3).ownBlock = some q \/ (Value.slice (some ⟨g3, 0, none⟩) m d3).ownBlock = some q) -> w.heap.size <= q := fun q h => by
            have hpp := HP.out
            have := HM7L.out q (.inr h)
            omega
          have HB7 : Hid (Below w.heap.size w w7) := hid (by first | exact HB6.out.trans (hfr7.below (lo := w.heap.size) HB6.out.size hblo) | exact (bs HB6.out ((Below.refl _ _).drew)).trans (hfr7.below (lo := w.heap.size) HB6.out.size hblo))
          have H17 := hid ((hfr (P + 1) (by omega)).trans H16.out)
          have H27 := hid ((hfr (P + 2) (by omega)).trans H26.out)
          have HRES := hid ((hfr (P + 3) (by omega)).trans H36.out)
          have H87 := hid ((hfr P8 (by omega)).trans H86.out)
          obtain ⟨r1, f1⟩ := rowc HRES.out
          have v0 := r1 0; have v1 := r1 1; have v2 := r1 2; have v3 := r1 3; have v4 := r1 4
          simp at v0 v1 v2 v3 v4
          clear r1
          have o0 : w7.cell? ⟨P8, 0, none⟩ = some (.bool b) := (rowc H87.out).1 0
          have o1 : w7.cell? ⟨P8, 1, none⟩ = some (.slice A3 n c3) := (rowc H87.out).1 1
          have o2 : w7.cell? ⟨P8, 2, none⟩ = some (.slice (some ⟨g3, 0, none⟩) m d3) := (rowc H87.out).1 2
          have o3 : w7.cell? ⟨P8, 3, none⟩ = some (.int .i64 x) := (rowc H87.out).1 3
          have o4 : w7.cell? ⟨P8, 4, none⟩ = some (.int .i64 k) := (rowc H87.out).1 4
          have p0 : w7.cell? ⟨P + 1, 0, none⟩ = some (.bool yb) := (rowc H17.out).1 0
          have p1 : w7.cell? ⟨P + 1, 1, none⟩ = some (.int .i64 yn) := (rowc H17.out).1 1
          have p2 : w7.cell? ⟨P + 1, 2, none⟩ = some (.string ys) := (rowc H17.out).1 2
          have q0 : w7.cell? ⟨P + 2, 0, none⟩ = some (.int .i64 k1) := (rowc H27.out).1 0
          have q1 : w7.cell? ⟨P + 2, 1, none⟩ = some (.int .i64 n1) := (rowc H27.out).1 1
          have q2 : w7.cell? ⟨P + 2, 2, none⟩ = some (.string s1) := (rowc H27.out).1 2
          have q3 : w7.cell? ⟨P + 2, 3, none⟩ = some (.int .i64 x1) := (rowc H27.out).1 3
          have q4 : w7.cell? ⟨P + 2, 4, none⟩ = some (.slice A2 L1 c2) := (rowc H27.out).1 4
          have nza_ : P8 ≠ P + 1 + 1 + 1 := by omega
          have nzb_ : P + 1 + 1 + 1 ≠ P8 := by omega
          have nzc_ : P + 1 ≠ P + 1 + 1 + 1 := by omega
          have nzd_ : P + 2 ≠ P + 1 + 1 + 1 := by omega
          have nze_ : P8 ≠ P + 3 := by omega
          have nzf_ : P + 1 ≠ P + 3 := by omega
          have nzg_ : P + 2 ≠ P + 3 := by omega
          have nzh_ : P + 1 + 1 ≠ P + 1 + 1 + 1 := by omega
          have HS13 : Hid (∀ z0 z1 z2 z3 z4 : Value, (fun w' => w'.cell? ⟨P8, 0, none⟩ = some (.bool b) /\ w'.cell? ⟨P8, 1, none⟩ = some (.slice A3 n c3) /\ w'.cell? ⟨P8, 2, none⟩ = some (.slice (some ⟨g3, 0, none⟩) m d3) /\ w'.cell? ⟨P8, 3, none⟩ = some (.int .i64 x) /\ w'.cell? ⟨P8, 4, none⟩ = some (.int .i64 k) /\ w'.cell? ⟨P + 1, 0, none⟩ = some (.bool yb) /\ w'.cell? ⟨P + 1, 1, none⟩ = some (.int .i64 yn) /\ w'.cell? ⟨P + 1, 2, none⟩ = some (.string ys) /\ w'.cell? ⟨P + 2, 0, none⟩ = some (.int .i64 k1) /\ w'.cell? ⟨P + 2, 1, none⟩ = some (.int .i64 n1) /\ w'.cell? ⟨P + 2, 2, none⟩ = some (.string s1) /\ w'.cell? ⟨P + 2, 3, none⟩ = some (.int .i64 x1) /\ w'.cell? ⟨P + 2, 4, none⟩ = some (.slice A2 L1 c2)) (((((w7.setCell ⟨P + 1 + 1 + 1, 0, none⟩ z0).setCell ⟨P + 1 + 1 + 1, 1, none⟩ z1).setCell ⟨P + 1 + 1 + 1, 2, none⟩ z2).setCell ⟨P + 1 + 1 + 1, 3, none⟩ z3).setCell ⟨P + 1 + 1 + 1, 4, none⟩ z4)) := hid (fun z0 z1 z2 z3 z4 => ⟨far5 o0 (by omega), far5 o1 (by omega), far5 o2 (by omega), far5 o3 (by omega), far5 o4 (by omega), far5 p0 (by omega), far5 p1 (by omega), far5 p2 (by omega), far5 q0 (by omega), far5 q1 (by omega), far5 q2 (by omega), far5 q3 (by omega), far5 q4 (by omega)⟩)
          clear hst7 hm7 hsub7 hfr7 hfr hblo))
     all_goals
       clear HS13
       go_wp2_with (fail)
       generalize hwF : World.setCell (World.setCell (World.setCell (World.setCell (World.setCell w7 _ _) _ _) _ _) _ _) _ _ = wF
       obtain ⟨rF, oF, bF⟩ := fill5t HRES.out hwF
       have hzF : w7.heap.size <= wF.heap.size := by rw [← hwF]; simp []
       clear hwF
       have HL7 := HM77.out.len
       have HL8 := HM77.out.heads.len
       have htl := ts_len (.inl ⟨⟨HOK.out, HKB.out⟩, HST7.out⟩)
       refine bodyPost_ret (v := .tuple #[tbV rb A7 n7 c7 B7 m7 d7 rx rk, .bool ok]) (by simp [results, Tryz.results27, go_sem, rF, tbV]) rfl ?_
       refine ⟨rb, rl, rs, rx, rk, ok, A7, c7, B7, d7, .inl ⟨⟨HOK.out, HKB.out⟩, HST7.out⟩, by rw [HL7, HL8], ?_, bF _ _ (by rw [HP.out]; omega) HB7.out⟩
       rw [HL7, HL8]
       exact (HM77.out.keep hzF fun q hq hl => oF q (by have := (HM77.out.lt q hq).1; omega)).kt (by have h9 := htl.1; have h8 := HLM.out; rw [← HL7]; unfold maxLen; omega) (by have := HP.out; omega)
end Go.Proofs.YtdgfpfkhcojgaaaGreatDoor.tree
/-
 What a table is behind TableSet: that there is one and but one, and its bounds.
 No project text is run here.
-/
namespace Go.Proofs.YtdgfpfkhcojgaaaGreatDoor.tree
set_option linter.unusedVariables false
theorem cS_snoc : ∀ (s : List Sl) (t : Sl), cS (s ++ [t]) = cS s + (2 + 7 * cnt t.val)
 | [], t => by simp [cS]
 | u :: s, t => by rw [List.cons_append, cS, cS, cS_snoc s t]; omega
theorem cS_liv : ∀ sl : List Sl, cS (liv sl) <= cS sl
 | [] => by simp [liv, cS]
 | t :: sl => by
   have ih := cS_liv sl
   unfold liv at ih |-
   rw [List.filter_cons, cS]
   split
   . rw [cS]; omega
   . omega
theorem cS_addS (n : Nat) (s : List Sl) (y : Ky) (v : Tr) : cS (addS n s y v) = cS s + (2 + 7 * cnt v) := by
 unfold addS
 rw [cS_snoc]
theorem cS_rbS (n : Nat) (sl : List Sl) : cS (rbS n sl) <= cS sl := by
 have key : ∀ (l s : List Sl), cS (l.foldl (fun s t => addS n s t.key t.val) s) = cS s + cS l := by
   intro l
   induction l with
   | nil => intro s; simp [cS]
   | cons t l ih =>
     intro s
     rw [List.foldl_cons, ih, cS_addS, cS]
     omega
 unfold rbS
 rw [key]
 have := cS_liv sl
 simp [cS]
 omega
theorem cS_set : ∀ (sl : List Sl) (i : Nat) (t : Sl), cS (sl.set i t) <= cS sl + (2 + 7 * cnt t.val)
 | [], i, t => by simp [cS]
 | u :: sl, 0, t => by rw [List.set_cons_zero, cS, cS]; omega
 | u :: sl, i + 1, t => by rw [List.set_cons_succ, cS, cS]; have := cS_set sl i t; omega
theorem cS_setV (sl : List Sl) (i : Nat) (v : Tr) : cS (setV sl i v) <= cS sl + (2 + 7 * cnt v) := by
 unfold setV
 split
 . next t _ => exact cS_set sl i _
 . omega
theorem StR.is (b : Bool) (l : List Int) (sl : List Sl) (x k : Int) (y : Ky) (v : Tr) : ∃ rb rl rs rx rk ok, StR b l sl x k y v rb rl rs rx rk ok := by
 have hb := fd_bd sl y sl.length
 by_cases h : fd sl y sl.length = -1
 . by_cases hk : k = 1024
   . exact ⟨_, _, _, _, _, _, .inr (.inl ⟨h, hk, rfl, rfl, rfl, rfl, rfl, rfl⟩)⟩
   . cases hn : needB b l.length sl.length y with
     | true => exact ⟨_, _, _, _, _, _, .inr (.inr (.inl ⟨h, hk, hn, rfl, rfl, rfl, rfl, rfl, rfl⟩))⟩
     | false => exact ⟨_, _, _, _, _, _, .inr (.inr (.inr ⟨h, hk, hn, rfl, rfl, rfl, rfl, rfl, rfl⟩))⟩
 . obtain ⟨i, hi⟩ : ∃ i : Nat, fd sl y sl.length = i := ⟨(fd sl y sl.length).toNat, by omega⟩
   exact ⟨_, _, _, _, _, _, .inl ⟨i, hi, rfl, rfl, rfl, rfl, rfl, rfl⟩⟩
theorem StR.one {b : Bool} {l : List Int} {sl : List Sl} {x k : Int} {y : Ky} {v : Tr} {rb rb' : Bool} {rl rl' : List Int} {rs rs' : List Sl} {rx rk rx' rk' : Int} {ok ok' : Bool} (h : StR b l sl x k y v rb rl rs rx rk ok) (h' : StR b l sl x k y v rb' rl' rs' rx' rk' ok') : rb = rb' /\ rl = rl' /\ rs = rs' /\ rx = rx' /\ rk = rk' /\ ok = ok' := by
 rcases h with ⟨i, a, rfl, rfl, rfl, rfl, rfl, rfl⟩ | ⟨a, a2, rfl, rfl, rfl, rfl, rfl, rfl⟩ | ⟨a, a2, a3, rfl, rfl, rfl, rfl, rfl, rfl⟩ | ⟨a, a2, a3, rfl, rfl, rfl, rfl, rfl, rfl⟩ <;>
   rcases h' with ⟨j, c, rfl, rfl, rfl, rfl, rfl, rfl⟩ | ⟨c, c2, rfl, rfl, rfl, rfl, rfl, rfl⟩ | ⟨c, c2, c3, rfl, rfl, rfl, rfl, rfl, rfl⟩ | ⟨c, c2, c3, rfl, rfl, rfl, rfl, rfl, rfl⟩ <;>
   first
   | exact ⟨rfl, rfl, rfl, rfl, rfl, rfl⟩
   | (have e : i = j := by omega
      subst e
      exact ⟨rfl, rfl, rfl, rfl, rfl, rfl⟩)
   | (exfalso; omega)
   | (rw [a3] at c3; cases c3)
theorem TsR.is (b : Bool) (l : List Int) (sl : List Sl) (x k : Int) (y : Ky) (v : Tr) : ∃ rb rl rs rx rk ok, TsR b l sl x k y v rb rl rs rx rk ok := by
 by_cases h : tabOk b l sl x k /\ keyB y = true
 . obtain ⟨rb, rl, rs, rx, rk, ok, hs⟩ := StR.is b l sl x k y v
   exact ⟨rb, rl, rs, rx, rk, ok, .inl ⟨h, hs⟩⟩
 . exact ⟨_, _, _, _, _, _, .inr ⟨h, rfl, rfl, rfl, rfl, rfl, rfl⟩⟩
theorem TsR.one {b : Bool} {l : List Int} {sl : List Sl} {x k : Int} {y : Ky} {v : Tr} {rb rb' : Bool} {rl rl' : List Int} {rs rs' : List Sl} {rx rk rx' rk' : Int} {ok ok' : Bool} (h : TsR b l sl x k y v rb rl rs rx rk ok) (h' : TsR b l sl x k y v rb' rl' rs' rx' rk' ok') : rb = rb' /\ rl = rl' /\ rs = rs' /\ rx = rx' /\ rk = rk' /\ ok = ok' := by
 rcases h with ⟨a, h⟩ | ⟨a, rfl, rfl, rfl, rfl, rfl, rfl⟩ <;> rcases h' with ⟨c, h'⟩ | ⟨c, rfl, rfl, rfl, rfl, rfl, rfl⟩
 . exact h.one h'
 . exact absurd a c
 . exact absurd c a
 . exact ⟨rfl, rfl, rfl, rfl, rfl, rfl⟩
theorem ts_facts {b : Bool} {l : List Int} {sl : List Sl} {x k : Int} {y : Ky} {v : Tr} {rb : Bool} {rl : List Int} {rs : List Sl} {rx rk : Int} {ok : Bool} (h : TsR b l sl x k y v rb rl rs rx rk ok) (hx : I64 x) (hk : I64 k) : I64 rx /\ I64 rk /\ cS rs <= cS sl + (2 + 7 * cnt v) := by
 have big : (tabOk b l sl x k /\ keyB y = true) -> I64 (psX x y) /\ I64 (k + 1) := fun ⟨h1, h2⟩ => by
   have h3 := h1.1
   have h4 := h1.2.2.1.2
   have h5 := livK_len sl
   have h6 := h1.len.1
   refine ⟨?_, ?_⟩
   . unfold psX
     split
     . exact hx
     . next hn =>
       unfold keyB at h2
       rw [if_neg hn] at h2
       unfold nums.inr at h2
       simp at h2
       unfold nums.mx
       split
       . unfold I64 at *; omega
       . exact hx
   . unfold I64 at *; omega
 rcases h with ⟨a, h⟩ | ⟨a, rfl, rfl, rfl, rfl, rfl, rfl⟩
 . obtain ⟨b1, b2⟩ := big a
   rcases h with ⟨i, -, rfl, rfl, rfl, rfl, rfl, rfl⟩ | ⟨-, -, rfl, rfl, rfl, rfl, rfl, rfl⟩ | ⟨-, -, -, rfl, rfl, rfl, rfl, rfl, rfl⟩ | ⟨-, -, -, rfl, rfl, rfl, rfl, rfl, rfl⟩
   . exact ⟨hx, hk, cS_setV _ _ _⟩
   . exact ⟨hx, hk, by omega⟩
   . exact ⟨b1, b2, by rw [cS_addS]; have := cS_rbS (room k) sl; omega⟩
   . exact ⟨b1, b2, by rw [cS_addS]; omega⟩
 . exact ⟨hx, hk, by omega⟩
end Go.Proofs.YtdgfpfkhcojgaaaGreatDoor.tree
/-
 TableSet answers as its model at every table, key and value; it leaves its arguments unmodified, and its answer owns its memory.
 Conditions: the package variables that the row lists hold what the program's text lays, and the card ties that to the text.
-/
namespace Go.Proofs.YtdgfpfkhcojgaaaGreatDoor.fnExactTableSet
open Go.ChangeShapes Go.WideShapes Go.ChangeAt Go.RowKit tree
open Go.ChangeMaps (open_string)
set_option linter.unusedVariables false
theorem own : ownKnob Tryz.prog.godebug = none := by kernel_rfl
theorem totS_mem : ∀ {sl : List Sl} {t : Sl}, t ∈ sl -> t.key.str.size + tot t.val <= totS sl
 | u :: sl, t, h => by
   rw [totS]
   rcases List.mem_cons.1 h with rfl | h
   . omega
   . have := totS_mem h; omega
theorem tot_sv (sl : List Sl) : tot (.mk 0 0 ⟨#[]⟩ 0 (skS sl) (svS sl)) = sl.length + totS sl := by
 rw [tot, tots_sv]
 have h : (svS sl).length = sl.length := by simp [svS]
 have h0 : (⟨#[]⟩ : ByteArray).size = 0 := rfl
 omega
theorem row5 {w : World} {g : Nat} {a b c d e : Value} {t : TypeId} (h : w.heap[g]? = some (.cells #[a, b, c, d, e] t (0, 0))) : w.cell? ⟨g, 0, none⟩ = some a /\ w.cell? ⟨g, 1, none⟩ = some b /\ w.cell? ⟨g, 2, none⟩ = some c /\ w.cell? ⟨g, 3, none⟩ = some d /\ w.cell? ⟨g, 4, none⟩ = some e := ⟨(rowc h).1 0, (rowc h).1 1, (rowc h).1 2, (rowc h).1 3, (rowc h).1 4⟩
theorem row3 {w : World} {g : Nat} {a b c : Value} {t : TypeId} (h : w.heap[g]? = some (.cells #[a, b, c] t (0, 0))) : w.cell? ⟨g, 0, none⟩ = some a /\ w.cell? ⟨g, 1, none⟩ = some b /\ w.cell? ⟨g, 2, none⟩ = some c := ⟨(rowc h).1 0, (rowc h).1 1, (rowc h).1 2⟩
theorem tri (w : World) (c0 c1 c2 : Array Value) (t0 t1 t2 : TypeId) : (((w.alloc (.cells c0 t0)).alloc (.cells c1 t1)).alloc (.cells c2 t2)).heap[w.heap.size]? = some (.cells c0 t0 (0, 0)) /\ (((w.alloc (.cells c0 t0)).alloc (.cells c1 t1)).alloc (.cells c2 t2)).heap[w.heap.size + 1]? = some (.cells c1 t1 (0, 0)) /\ (((w.alloc (.cells c0 t0)).alloc (.cells c1 t1)).alloc (.cells c2 t2)).heap[w.heap.size + 1 + 1]? = some (.cells c2 t2 (0, 0)) :=
 ⟨(al3 w c0 c1 c2 t0 t1 t2).1, (al3 w c0 c1 c2 t0 t1 t2).2.1, (al3 w c0 c1 c2 t0 t1 t2).2.2.1⟩
theorem sin_nw {w w' : World} {sl : List Sl} {A : Option Addr} (h : SIn w (Nw 0 w) sl A) (hb : Below w.heap.size w w') : SIn w' (Nw 0 w') sl A := h.stays (fun q hq => ⟨Nat.zero_le _, hq.2.same (hb.block q hq.2.lt)⟩) (fun q _ hl => hb.block q hl)
set_option maxHeartbeats 16000000 in
set_option maxRecDepth 100000 in
theorem walk (b : Bool) (A : Option Addr) (n c : Nat) (B : Option Addr) (m d : Nat) (x k : Int) (l : List Int) (sl : List Sl) (y : Ky) (t2 : Tr) (v2 : Value) (w : World) (hr : TbIn w (fun _ => True) l sl A n c B m d x k) (hy : I64 y.num /\ y.str.size <= maxLen) (hr2 : TIn w (fun _ => True) t2 v2) (hE : prs.Env w) : Calls Tryz.prog 5 #[.agg #[.bool b, .slice A n c, .slice B m d, .int .i64 x, .int .i64 k], kyV y, v2] w (TrueQ w) := by
 have SZ : Hid (∀ w', Below w.heap.size w w' -> Calls Tryz.prog 24 #[.agg #[.bool b, .slice A n c, .slice B m d, .int .i64 x, .int .i64 k], .int .i64 1048576] w' (SzQ 1048576 (n + (m + totS sl)) w')) := hid (fun w' hb => szTable (b := b) hr 1048576 (by omega) (by omega) w' hb)
 have SK : Hid (∀ left, 0 <= left -> left <= 1048576 -> ∀ w', Calls Tryz.prog 25 #[kyV y, .int .i64 left] w' (SzQ left y.str.size w')) := hid (fun left h0 h1 w' => szKey y hy.2 left h0 h1 w')
 have TK : Hid (∀ w', Calls Tryz.prog 29 #[kyV y] w' fun e w2 => e = .returned (kyV y) /\ Below w'.heap.size w' w2) := hid (toKey y)
 obtain ⟨kv, nv, sv, xv, ksv, vsv⟩ := t2
 obtain ⟨Av, cv, rfl, -, -⟩ := hr2.out
 obtain ⟨Lv, HLV⟩ : ∃ L, Hid (vsv.length = L) := ⟨_, hid rfl⟩
 obtain ⟨T2, HT2⟩ : ∃ T, Hid (T = Tr.mk kv nv sv xv ksv vsv) := ⟨_, hid rfl⟩
 rw [← HT2.out] at hr2
 rw [HLV.out] at hr2 |-
 have SV : Hid (∀ left, 0 <= left -> left <= 1048576 -> ∀ w', Below w.heap.size w w' -> Calls Tryz.prog 26 #[vV kv nv sv xv Av Lv cv, .int .i64 left] w' (SzQ left (tot T2) w')) := hid (fun left h0 h1 w' hb => szV T2 w' _ _ (hr2.below' hb) left h0 h1)
 have HR2 := hid hr2
 have hm := hr.len
 have hln : l.length = n := hr.heads.len
 have hx := hr.next
 have hk := hr.count
 have hfits := hr.slots.fits
 have hf2 := cnt_tot T2 hr2.fits
 have HEN := hid hE
 obtain ⟨rb, rl, rs, rx, rk, ok, hR⟩ := TsR.is b l sl x k y T2
 obtain ⟨ht1, ht2⟩ := ts_len hR
 obtain ⟨ht3, ht4, ht5⟩ := ts_facts hR hx hk
 have HU : Hid (∀ rb' rl' rs' rx' rk' ok', TsR b l sl x k y T2 rb' rl' rs' rx' rk' ok' -> rb = rb' /\ rl = rl' /\ rs = rs' /\ rx = rx' /\ rk = rk' /\ ok = ok') := hid (fun rb' rl' rs' rx' rk' ok' h => hR.one h)
 obtain ⟨rn, HRN⟩ : ∃ q, Hid (rl.length = q) := ⟨_, hid rfl⟩
 obtain ⟨rm, HRM⟩ : ∃ q, Hid (rs.length = q) := ⟨_, hid rfl⟩
 have hcT := cS_tot sl hfits
 have hcV := cnts_sv sl hfits
 have htV := tots_sv sl
 have CON : Hid (n + (m + totS sl) + y.str.size + tot T2 <= 1048576 -> (n <= 1048576 /\ m + totS sl <= 1048576 /\ m <= 1048576 /\ y.str.size <= 1048576 /\ tot T2 <= 1048576 /\ cnt T2 <= 1048577) /\ SlB sl) := hid (fun hs => ⟨⟨by omega, by omega, by omega, by omega, by omega, by omega⟩, ⟨fun j t h => by have := totS_mem (List.mem_of_getElem? h); omega, fun j t h => by have := totS_mem (List.mem_of_getElem? h); omega⟩⟩)
 have CON2 : Hid (n <= 1048576 -> m <= 1048576 -> rn <= 1048576 /\ rm <= 1048577) := hid (fun h1 h2 => by have h3 := HRN.out; have h4 := HRM.out; exact ⟨by omega, by omega⟩)
 have TT0 : Hid (n <= 1048576 -> m + totS sl <= 1048576 -> ∀ w', Below w.heap.size w w' -> Calls Tryz.prog 28 #[.agg #[.bool b, .slice A n c, .slice B m d, .int .i64 x, .int .i64 k]] w' (fun e w2 => ∃ A1 c1 g mid, e = .returned (.agg #[.bool b, .slice A1 n c1, .slice (some ⟨g, 0, none⟩) m m, .int .i64 x, .int .i64 k]) /\ imem.OwnI w2 w'.heap.size A1 n c1 l /\ (∀ q, (Value.slice A1 n c1).ownBlock = some q -> q < mid) /\ w'.heap.size <= mid /\ mid <= g /\ SIn w2 (Nw mid w2) sl (some ⟨g, 0, none⟩) /\ Below w'.heap.size w' w2)) := hid (fun h1 h2 w' hb => toTable (b := b) (w := w') ⟨hr.heads.below hb, hr.hn, hr.len, hr.cap, hr.slots.below hb, hr.next, hr.count⟩ h1 h2)
 have TV0 : Hid (tot T2 <= 1048576 -> ∀ w', Below w.heap.size w w' -> Calls Tryz.prog 30 #[vV kv nv sv xv Av Lv cv] w' (fun e w2 => ∃ A1 c1, e = .returned (vV kv nv sv xv A1 Lv c1) /\ TIn w2 (Nw w'.heap.size w2) T2 (vV kv nv sv xv A1 Lv c1) /\ Below w'.heap.size w' w2)) := hid (fun h1 w' hb => (cps T2 h1 w' _ _ (HR2.out.below' hb)).mono (by
   rintro e w2 ⟨v, rfl, hv, hb2⟩
   obtain ⟨A1, c1, rfl, -, -⟩ := TIn.out (HT2.out ▸ hv)
   rw [HLV.out] at hv |-
   exact ⟨A1, c1, rfl, hv, hb2⟩))
 have LS0 : Hid (n <= 1048576 -> m <= 1048576 -> m + totS sl <= 1048576 -> SlB sl -> y.str.size <= 1048576 -> cnt T2 <= 1048577 -> ∀ w' S lo A1 c1 g S1 A3 c3, Below w.heap.size w w' -> imem.OwnI w' lo A1 n c1 l -> SIn w' S sl (some ⟨g, 0, none⟩) -> TIn w' S1 T2 (vV kv nv sv xv A3 Lv c3) -> Calls Tryz.prog 27 #[.agg #[.bool b, .slice A1 n c1, .slice (some ⟨g, 0, none⟩) m m, .int .i64 x, .int .i64 k], kyV y, vV kv nv sv xv A3 Lv c3] w' (fun e w2 => ∃ A2 c2 B2 d2, e = .returned (.tuple #[.agg #[.bool rb, .slice A2 rn c2, .slice B2 rm d2, .int .i64 rx, .int .i64 rk], .bool ok]) /\ KT w2 (Rg w'.heap.size w2.heap.size) rl rs A2 rn c2 B2 rm d2 /\ Below w'.heap.size w' w2)) := hid (fun h1 h2 hmt h3 h4 h5 w' S lo A1 c1 g S1 A3 c3 hb ho hs hT => by
   rw [← HLV.out] at hT |-
   rw [HT2.out] at hT h5 HU
   exact (tableSet_s (b := b) w' ⟨ho.rd, hr.hn, hm, ⟨Nat.le_refl _, by unfold maxLen; omega⟩, hs, hx, hk⟩ h1 h2 (fun t ht => by have := cnt_tot t.val (hfits t ht); have := totS_mem ht; omega) h3 (HEN.out.stays hb) y (by omega) hT (by omega)).mono (by
     rintro e w2 ⟨rb', rl', rs', rx', rk', ok', A2, c2, B2, d2, hR', rfl, hkt, hb7⟩
     obtain ⟨rfl, rfl, rfl, rfl, rfl, rfl⟩ := HU.out _ _ _ _ _ _ hR'
     rw [HRN.out, HRM.out] at *
     exact ⟨A2, c2, B2, d2, rfl, hkt, hb7⟩))
 have LI0 : Hid (n <= 1048576 -> m <= 1048576 -> m + totS sl <= 1048576 -> SlB sl -> y.str.size <= 1048576 -> cnt T2 <= 1048577 -> tot T2 <= 1048576 -> ∀ w' lo A1 c1 g A3 c3, Below w.heap.size w w' -> imem.OwnI w' lo A1 n c1 l -> SIn w' (Nw 0 w') sl (some ⟨g, 0, none⟩) -> TIn w' (Nw 0 w') T2 (vV kv nv sv xv A3 Lv c3) -> Calls Tryz.prog 10 #[.agg #[.bool b, .slice A1 n c1, .slice (some ⟨g, 0, none⟩) m m, .int .i64 x, .int .i64 k], kyV y, vV kv nv sv xv A3 Lv c3] w' (fun e w2 => ∃ A2 c2 B2 d2 G, e = .returned (.tuple #[.agg #[.bool rb, .slice A2 rn c2, .slice B2 rm d2, .int .i64 rx, .int .i64 rk], .bool ok]) /\ OwnF w2 w'.heap.size rl rs A2 rn c2 B2 rm d2 G /\ Below w'.heap.size w' w2)) := hid (fun h1 h2 hmt h3 h4 h5 h6 w' lo A1 c1 g A3 c3 hb ho hs hT => by
   rw [← HLV.out] at hT |-
   rw [HT2.out] at hT h5 h6 HU
   exact (tableSet_i (b := b) w' ⟨ho.rd, hr.hn, hm, ⟨Nat.le_refl _, by unfold maxLen; omega⟩, hs, hx, hk⟩ h1 h2 (by rw [cnt_mk']; omega) (by rw [tot_sv]; omega) h3 (HEN.out.stays hb) y (by omega) hT (by omega) (by omega)).mono (by
     rintro e w2 ⟨rb', rl', rs', rx', rk', ok', A2, c2, B2, d2, G, hR', rfl, hot, hb7⟩
     obtain ⟨rfl, rfl, rfl, rfl, rfl, rfl⟩ := HU.out _ _ _ _ _ _ hR'
     rw [HRN.out, HRM.out] at *
     exact ⟨A2, c2, B2, d2, G, rfl, hot, hb7⟩))
 have ET0 : Hid (n <= 1048576 -> m <= 1048576 -> ∀ w' S S' A1 c1 lo1 g1 A2 c2 lo2 g2, imem.OwnI w' lo1 A1 n c1 l -> SIn w' S sl (some ⟨g1, 0, none⟩) -> imem.OwnI w' lo2 A2 n c2 l -> SIn w' S' sl (some ⟨g2, 0, none⟩) -> Calls Tryz.prog 31 #[.agg #[.bool b, .slice A1 n c1, .slice (some ⟨g1, 0, none⟩) m m, .int .i64 x, .int .i64 k], .agg #[.bool b, .slice A2 n c2, .slice (some ⟨g2, 0, none⟩) m m, .int .i64 x, .int .i64 k]] w' (TrueQ w')) := hid (fun h1 h2 w' S S' A1 c1 lo1 g1 A2 c2 lo2 g2 o1 s1 o2 s2 => eqTable (b := b) ⟨o1.rd, hr.hn, hm, ⟨Nat.le_refl _, by unfold maxLen; omega⟩, s1, hx, hk⟩ ⟨o2.rd, hr.hn, hm, ⟨Nat.le_refl _, by unfold maxLen; omega⟩, s2, hx, hk⟩ (by omega))
 have ER0 : Hid (rn <= 1048576 -> ∀ w' S lo G A1 c1 B1 d1 A2 c2 B2 d2, OwnF w' lo rl rs A1 rn c1 B1 rm d1 G -> KT w' S rl rs A2 rn c2 B2 rm d2 -> Calls Tryz.prog 31 #[.agg #[.bool rb, .slice A1 rn c1, .slice B1 rm d1, .int .i64 rx, .int .i64 rk], .agg #[.bool rb, .slice A2 rn c2, .slice B2 rm d2, .int .i64 rx, .int .i64 rk]] w' (TrueQ w')) := hid (fun h1 w' S lo G A1 c1 B1 d1 A2 c2 B2 d2 o t => eqTable (b := rb) (o.tbin (by unfold maxLen; omega) ht3 ht4) (t.tbin (by unfold maxLen; omega) ht3 ht4) (by omega))
 have MT0 : Hid (n <= 1048576 -> m + totS sl <= 1048576 -> ∀ w' S lo A1 c1 g, imem.OwnI w' lo A1 n c1 l -> SIn w' S sl (some ⟨g, 0, none⟩) -> (∀ q, S q -> Plain w' q) -> (∀ q, (Value.slice A1 n c1).ownBlock = some q -> ¬ S q) -> Calls Tryz.prog 33 #[.agg #[.bool b, .slice A1 n c1, .slice (some ⟨g, 0, none⟩) m m, .int .i64 x, .int .i64 k], .int .i64 1] w' (fun e w2 => ∃ q, e = .returned (.int .i64 q) /\ 1 <= q /\ q <= 100000000 /\ Fr (fun q => S q \/ (Value.slice A1 n c1).ownBlock = some q) w' w2)) := hid (fun h1 h2 w' S lo A1 c1 g o s hp hno => (markTable2 (b := b) w' o s hp hno hm h1 (by omega)).mono (by
   rintro e w2 ⟨q, rfl, a1, a2, a3⟩
   exact ⟨q, rfl, a1, by omega, a3⟩))
 obtain ⟨W, HW⟩ : ∃ W : Int, Hid (1 + (rn : Int) + cS rs = W) := ⟨_, hid rfl⟩
 have hW1 : 1 <= W := by rw [← HW.out]; omega
 have MX0 : Hid (rn <= 1048576 -> m + totS sl <= 1048576 -> cnt T2 <= 1048577 -> ∀ w' lo G A1 c1 B1 d1, OwnF w' lo rl rs A1 rn c1 B1 rm d1 G -> Calls Tryz.prog 33 #[.agg #[.bool rb, .slice A1 rn c1, .slice B1 rm d1, .int .i64 rx, .int .i64 rk], .int .i64 1] w' (fun e w2 => e = .returned (.int .i64 W) /\ (∃ l2, FromI 1 rn l2 /\ OwnF w2 lo l2 (mkSls (1 + (rn : Int)) rs) A1 rn c1 B1 rm d1 G) /\ Fr (FOwn A1 rn c1 B1 rm d1 G) w' w2)) := hid (fun h1 h2 h3 w' lo G A1 c1 B1 d1 o => HW.out ▸ markTableF (b := rb) (x := rx) (k := rk) w' o h1 (by omega))
 have HD0 : Hid (rn <= 1048576 -> rm <= 1048577 -> m + totS sl <= 1048576 -> cnt T2 <= 1048577 -> ∀ w' lo G l2 A1 c1 B1 d1, FromI 1 rn l2 -> OwnF w' lo l2 (mkSls (1 + (rn : Int)) rs) A1 rn c1 B1 rm d1 G -> Calls Tryz.prog 35 #[.agg #[.bool rb, .slice A1 rn c1, .slice B1 rm d1, .int .i64 rx, .int .i64 rk], .int .i64 1] w' (GivesQ w' (.int .i64 W))) := hid (fun h1 h0 h2 h3 w' lo G l2 A1 c1 B1 d1 hf o => HW.out ▸ heldTable (b := rb) (x := rx) (k := rk) w' o.heads.rd o.sin HRM.out (by unfold maxLen; omega) h1 hf (by omega))
 obtain ⟨yb, yn, ys⟩ := y
 unfold kyV at *
 simp only at SK TK LS0 LI0 CON |-
 clear hr hm hln hx hk hE HEN hR ht1 ht2 ht3 ht4 ht5 hcT hcV htV hfits HW HU hr2 hy hf2
 go_enter Tryz.func5, Tryz.ntmps5
 go_wp2_with (fail)
 refine (SZ.out _ (b3 w _ _ _)).mono ?_
 rintro e w0 ⟨r, rfl, ⟨ha, hb, hc⟩, hw0⟩
 have HB : Hid (Below w.heap.size w w0) := hid (bs (b3 w _ _ _) hw0)
 obtain ⟨tA, E0⟩ : ∃ tA, Hid (w0.heap[w.heap.size]? = some (.cells #[.bool b, .slice A n c, .slice B m d, .int .i64 x, .int .i64 k] tA (0, 0))) := ⟨_, hid (carry hw0 (tri w _ _ _ _ _ _).1)⟩
 obtain ⟨tK, EK⟩ : ∃ tA, Hid (w0.heap[w.heap.size + 1]? = some (.cells #[.bool yb, .int .i64 yn, .string ys] tA (0, 0))) := ⟨_, hid (carry hw0 (tri w _ _ _ _ _ _).2.1)⟩
 obtain ⟨tV, EV⟩ : ∃ tA, Hid (w0.heap[w.heap.size + 1 + 1]? = some (.cells #[.int .i64 kv, .int .i64 nv, .string sv, .int .i64 xv, .slice Av Lv cv] tA (0, 0))) := ⟨_, hid (carry hw0 (tri w _ _ _ _ _ _).2.2)⟩
 clear SZ hw0
 by_cases hlt : r < 0
 . go_wp2_with (fail)
   go_ret
   exact ⟨rfl, HB.out⟩
 have SK1 := hid (SK.out r (by omega) (by omega))
 clear SK
 obtain ⟨u0_, u1_, u2_⟩ := row3 EK.out
 go_wp2_with (fail)
 refine (SK1.out _).mono ?_
 rintro e w1 ⟨r1, rfl, ⟨ha1, hb1, hc1⟩, hb⟩
 replace E0 := hid (carry hb E0.out)
 replace EK := hid (carry hb EK.out)
 replace EV := hid (carry hb EV.out)
 replace HB := hid (bs HB.out hb)
 clear hb SK1
 clear u0_ u1_ u2_
 by_cases hlt1 : r1 < 0
 . go_wp2_with (fail)
   go_ret
   exact ⟨rfl, HB.out⟩
 have SV1 := hid (SV.out r1 (by omega) (by omega))
 clear SV
 obtain ⟨v0_, v1_, v2_, v3_, v4_⟩ := row5 EV.out
 go_wp2_with (fail)
 refine (SV1.out _ HB.out).mono ?_
 rintro e w2 ⟨r2, rfl, ⟨ha2, hb2, hc2⟩, hb⟩
 replace E0 := hid (carry hb E0.out)
 replace EK := hid (carry hb EK.out)
 replace EV := hid (carry hb EV.out)
 replace HB := hid (bs HB.out hb)
 clear hb SV1
 clear v0_ v1_ v2_ v3_ v4_
 by_cases hlt2 : r2 < 0
 . go_wp2_with (fail)
   go_ret
   exact ⟨rfl, HB.out⟩
 obtain ⟨⟨k1, k3, k4, k6, k7, k8⟩, k5⟩ := CON.out (by have := hc (by omega); have := hc1 (by omega); have := hc2 (by omega); omega)
 obtain ⟨k9, k10⟩ := CON2.out k1 k4
 have TT := hid (TT0.out k1 k3)
 have TV := hid (TV0.out k7)
 have ET := hid (ET0.out k1 k4)
 have ER := hid (ER0.out k9)
 have MT := hid (MT0.out k1 k3)
 have MX := hid (MX0.out k9 k3 k8)
 have HD := hid (HD0.out k9 k10 k3 k8)
 have LS := hid (LS0.out k1 k4 k3 k5 k6 k8)
 have LI := hid (LI0.out k1 k4 k3 k5 k6 k8 k7)
 have HF2 : Hid (cnt T2 <= 1048577) := hid k8
 clear k1 k3 k4 k5 k6 k7 k8 k9 k10 TT0 TV0 LS0 LI0 ET0 ER0 MT0 MX0 HD0 CON CON2 hc hc1 hc2
 go_wp2_with (fail)
 go_cut [8, 9] (fun p f wx => f = .bool ok /\ CutT w2 rb rn rm rx rk (PrM rl rs rn rm) p wx)
 case first =>
   have HW : Hid (Below w2.heap.size w2 w2) := hid (Below.refl _ _)
   have hzw_ : w2.heap.size <= w2.heap.size := Nat.le_refl _
   have nzz_ : w2.heap.size ≠ w.heap.size := by have := (Array.getElem?_eq_some_iff.1 E0.out).1; omega
   have nzu_ : w2.heap.size ≠ w.heap.size + 1 := by have := (Array.getElem?_eq_some_iff.1 EK.out).1; omega
   have nzv_ : w2.heap.size ≠ w.heap.size + 1 + 1 := by have := (Array.getElem?_eq_some_iff.1 EV.out).1; omega
   obtain ⟨z0_, z1_, z2_, z3_, z4_⟩ := row5 E0.out
   obtain ⟨u0_, u1_, u2_⟩ := row3 EK.out
   obtain ⟨v0_, v1_, v2_, v3_, v4_⟩ := row5 EV.out
   go_region_held3 (fun w' => w'.cell? ⟨w.heap.size, 0, none⟩ = some (.bool b) /\ w'.cell? ⟨w.heap.size, 1, none⟩ = some (.slice A n c) /\ w'.cell? ⟨w.heap.size, 2, none⟩ = some (.slice B m d) /\ w'.cell? ⟨w.heap.size, 3, none⟩ = some (.int .i64 x) /\ w'.cell? ⟨w.heap.size, 4, none⟩ = some (.int .i64 k) /\ w'.cell? ⟨w.heap.size + 1, 0, none⟩ = some (.bool yb) /\ w'.cell? ⟨w.heap.size + 1, 1, none⟩ = some (.int .i64 yn) /\ w'.cell? ⟨w.heap.size + 1, 2, none⟩ = some (.string ys) /\ w'.cell? ⟨w.heap.size + 1 + 1, 0, none⟩ = some (.int .i64 kv) /\ w'.cell? ⟨w.heap.size + 1 + 1, 1, none⟩ = some (.int .i64 nv) /\ w'.cell? ⟨w.heap.size + 1 + 1, 2, none⟩ = some (.string sv) /\ w'.cell? ⟨w.heap.size + 1 + 1, 3, none⟩ = some (.int .i64 xv) /\ w'.cell? ⟨w.heap.size + 1 + 1, 4, none⟩ = some (.slice Av Lv cv)) (go_keep) (first
     | (go_at_call 28; refine (TT.out _ (by first | exact HB.out | exact HB.out.trans ((Below.refl _ _).drew) | exact HB.out.alloc HB.out.size _ | exact (HB.out.trans ((Below.refl _ _).drew)).alloc HB.out.size _ | exact (HB.out.alloc HB.out.size _).trans ((Below.refl _ _).drew))).mono ?_
        rintro e w3 ⟨A5, c5, g5, m5, rfl, hown, hmid, hlo, hmg, hs, hb⟩
        have hbx : Below w2.heap.size w2 w3 := by first | exact hb | exact bs ((Below.refl _ _).drew) hb | exact bs (b1 _ _) hb | exact bs (bs ((Below.refl _ _).drew) (b1 _ _)) hb | exact bs (bs (b1 _ _) ((Below.refl _ _).drew)) hb
        first | (have ez := hid (carry hb (heap_alloc_new w2 (.cells #[.bool false, .slice none 0 0, .slice none 0 0, .int .i64 0, .int .i64 0] IT)))) | (have ez := hid (carry hb (heap_alloc_new w2.drew (.cells #[.bool false, .slice none 0 0, .slice none 0 0, .int .i64 0, .int .i64 0] IT)))) | (replace ez := hid (carry hbx ez.out)) | skip
        have HO5 := hid hown
        have HX5 := hid hs
        clear hown hmid hlo hmg hs
        replace E0 := hid (carry hbx E0.out)
        replace EK := hid (carry hbx EK.out)
        replace EV := hid (carry hbx EV.out)
        replace HB := hid (bs HB.out hbx)
        replace HW := hid (bs HW.out hbx)
        have hzw_ : w2.heap.size <= w3.heap.size := HW.out.size
        obtain ⟨z0_, z1_, z2_, z3_, z4_⟩ := row5 E0.out
        obtain ⟨u0_, u1_, u2_⟩ := row3 EK.out
        obtain ⟨v0_, v1_, v2_, v3_, v4_⟩ := row5 EV.out
        have nzz_ : w3.heap.size ≠ w.heap.size := by have := (Array.getElem?_eq_some_iff.1 E0.out).1; omega
        have nzu_ : w3.heap.size ≠ w.heap.size + 1 := by have := (Array.getElem?_eq_some_iff.1 EK.out).1; omega
        have nzv_ : w3.heap.size ≠ w.heap.size + 1 + 1 := by have := (Array.getElem?_eq_some_iff.1 EV.out).1; omega
        clear hb hbx)
     | (go_at_call 29; refine (TK.out _).mono ?_
        rintro e w4 ⟨rfl, hb⟩
        have hbx : Below w3.heap.size w3 w4 := by first | exact hb | exact bs ((Below.refl _ _).drew) hb | exact bs (b1 _ _) hb | exact bs (bs ((Below.refl _ _).drew) (b1 _ _)) hb | exact bs (bs (b1 _ _) ((Below.refl _ _).drew)) hb
        first | (have ez := hid (carry hb (heap_alloc_new w3 (.cells #[.bool false, .slice none 0 0, .slice none 0 0, .int .i64 0, .int .i64 0] IT)))) | (have ez := hid (carry hb (heap_alloc_new w3.drew (.cells #[.bool false, .slice none 0 0, .slice none 0 0, .int .i64 0, .int .i64 0] IT)))) | (replace ez := hid (carry hbx ez.out)) | skip
        replace E0 := hid (carry hbx E0.out)
        replace EK := hid (carry hbx EK.out)
        replace EV := hid (carry hbx EV.out)
        replace HO5 := hid (HO5.out.below hbx)
        replace HX5 := hid (HX5.out.below hbx)
        replace HB := hid (bs HB.out hbx)
        replace HW := hid (bs HW.out hbx)
        have hzw_ : w2.heap.size <= w4.heap.size := HW.out.size
        obtain ⟨z0_, z1_, z2_, z3_, z4_⟩ := row5 E0.out
        obtain ⟨u0_, u1_, u2_⟩ := row3 EK.out
        obtain ⟨v0_, v1_, v2_, v3_, v4_⟩ := row5 EV.out
        have nzz_ : w4.heap.size ≠ w.heap.size := by have := (Array.getElem?_eq_some_iff.1 E0.out).1; omega
        have nzu_ : w4.heap.size ≠ w.heap.size + 1 := by have := (Array.getElem?_eq_some_iff.1 EK.out).1; omega
        have nzv_ : w4.heap.size ≠ w.heap.size + 1 + 1 := by have := (Array.getElem?_eq_some_iff.1 EV.out).1; omega
        clear hb hbx)
     | (go_at_call 30; refine (TV.out _ (by first | exact HB.out | exact HB.out.trans ((Below.refl _ _).drew) | exact HB.out.alloc HB.out.size _ | exact (HB.out.trans ((Below.refl _ _).drew)).alloc HB.out.size _ | exact (HB.out.alloc HB.out.size _).trans ((Below.refl _ _).drew))).mono ?_
        rintro e w4b ⟨A3, c3, rfl, hv, hb⟩
        have hbx : Below w4.heap.size w4 w4b := by first | exact hb | exact bs ((Below.refl _ _).drew) hb | exact bs (b1 _ _) hb | exact bs (bs ((Below.refl _ _).drew) (b1 _ _)) hb | exact bs (bs (b1 _ _) ((Below.refl _ _).drew)) hb
        first | (have ez := hid (carry hb (heap_alloc_new w4 (.cells #[.bool false, .slice none 0 0, .slice none 0 0, .int .i64 0, .int .i64 0] IT)))) | (have ez := hid (carry hb (heap_alloc_new w4.drew (.cells #[.bool false, .slice none 0 0, .slice none 0 0, .int .i64 0, .int .i64 0] IT)))) | (replace ez := hid (carry hbx ez.out)) | skip
        have HV5 := hid hv
        clear hv
        replace E0 := hid (carry hbx E0.out)
        replace EK := hid (carry hbx EK.out)
        replace EV := hid (carry hbx EV.out)
        replace HO5 := hid (HO5.out.below hbx)
        replace HX5 := hid (HX5.out.below hbx)
        replace HB := hid (bs HB.out hbx)
        replace HW := hid (bs HW.out hbx)
        have hzw_ : w2.heap.size <= w4b.heap.size := HW.out.size
        obtain ⟨z0_, z1_, z2_, z3_, z4_⟩ := row5 E0.out
        obtain ⟨u0_, u1_, u2_⟩ := row3 EK.out
        obtain ⟨v0_, v1_, v2_, v3_, v4_⟩ := row5 EV.out
        have nzz_ : w4b.heap.size ≠ w.heap.size := by have := (Array.getElem?_eq_some_iff.1 E0.out).1; omega
        have nzu_ : w4b.heap.size ≠ w.heap.size + 1 := by have := (Array.getElem?_eq_some_iff.1 EK.out).1; omega
        have nzv_ : w4b.heap.size ≠ w.heap.size + 1 + 1 := by have := (Array.getElem?_eq_some_iff.1 EV.out).1; omega
        clear hb hbx)
     | (go_at_call 27; refine (LS.out _ _ _ _ _ _ _ _ _ (by first | exact HB.out | exact HB.out.trans ((Below.refl _ _).drew) | exact HB.out.alloc HB.out.size _ | exact (HB.out.trans ((Below.refl _ _).drew)).alloc HB.out.size _ | exact (HB.out.alloc HB.out.size _).trans ((Below.refl _ _).drew)) (by first | exact HO5.out | exact HO5.out.below ((Below.refl _ _).drew) | exact HO5.out.below (b1 _ _) | exact HO5.out.below (bs ((Below.refl _ _).drew) (b1 _ _)) | exact HO5.out.below (bs (b1 _ _) ((Below.refl _ _).drew))) (by first | exact HX5.out | exact HX5.out.below ((Below.refl _ _).drew) | exact HX5.out.below (b1 _ _) | exact HX5.out.below (bs ((Below.refl _ _).drew) (b1 _ _)) | exact HX5.out.below (bs (b1 _ _) ((Below.refl _ _).drew))) (by first | exact HV5.out | exact HV5.out.below' ((Below.refl _ _).drew) | exact HV5.out.below' (b1 _ _) | exact HV5.out.below' (bs ((Below.refl _ _).drew) (b1 _ _)) | exact HV5.out.below' (bs (b1 _ _) ((Below.refl _ _).drew)))).mono ?_
        rintro e w5x ⟨A6, c6, B6, d6, rfl, hkt, hb⟩
        have hbx : Below w4b.heap.size w4b w5x := by first | exact hb | exact bs ((Below.refl _ _).drew) hb | exact bs (b1 _ _) hb | exact bs (bs ((Below.refl _ _).drew) (b1 _ _)) hb | exact bs (bs (b1 _ _) ((Below.refl _ _).drew)) hb
        first | (have nzw := hid (Array.getElem?_eq_some_iff.1 ez.out).1; replace ez := hid (carry hbx ez.out)) | (have ez := hid (carry hb (heap_alloc_new w4b (.cells #[.bool false, .slice none 0 0, .slice none 0 0, .int .i64 0, .int .i64 0] IT))); have nzw := hid (Array.getElem?_eq_some_iff.1 (heap_alloc_new w4b (.cells #[.bool false, .slice none 0 0, .slice none 0 0, .int .i64 0, .int .i64 0] IT))).1) | (have ez := hid (carry hb (heap_alloc_new w4b.drew (.cells #[.bool false, .slice none 0 0, .slice none 0 0, .int .i64 0, .int .i64 0] IT))); have nzw := hid (Array.getElem?_eq_some_iff.1 (heap_alloc_new w4b.drew (.cells #[.bool false, .slice none 0 0, .slice none 0 0, .int .i64 0, .int .i64 0] IT))).1) | skip
        have HKT := hid hkt
        clear hkt HO5 HX5 HV5
        replace E0 := hid (carry hbx E0.out)
        replace EK := hid (carry hbx EK.out)
        replace EV := hid (carry hbx EV.out)
        replace HB := hid (bs HB.out hbx)
        replace HW := hid (bs HW.out hbx)
        have hzw_ : w2.heap.size <= w5x.heap.size := HW.out.size
        obtain ⟨z0_, z1_, z2_, z3_, z4_⟩ := row5 E0.out
        obtain ⟨u0_, u1_, u2_⟩ := row3 EK.out
        obtain ⟨v0_, v1_, v2_, v3_, v4_⟩ := row5 EV.out
        have nzz_ : w5x.heap.size ≠ w.heap.size := by have := (Array.getElem?_eq_some_iff.1 E0.out).1; omega
        have nzu_ : w5x.heap.size ≠ w.heap.size + 1 := by have := (Array.getElem?_eq_some_iff.1 EK.out).1; omega
        have nzv_ : w5x.heap.size ≠ w.heap.size + 1 + 1 := by have := (Array.getElem?_eq_some_iff.1 EV.out).1; omega
        clear hb hbx
        first | (have zr := (rowc ez.out).1; have zf := (rowc ez.out).2) | skip))
   all_goals
     go_wp2_with (fail)
     go_meet
     first
     | exact ⟨rfl, by with_reducible exact cutT_boxM HW.out HKT.out⟩
     | exact ⟨rfl, cutT_earlyM HW.out (by first | exact Nat.le_refl _ | assumption) ez.out HKT.out nzw.out rfl⟩
 case rest =>
   obtain ⟨hf, hcut⟩ := hcut
   subst hf
   obtain ⟨Q6, A6, c6, B6, d6, hp, hbx, hQ6, e6, hk6⟩ := hcut
   subst hp
   obtain ⟨w5, hwc⟩ : ∃ q, q = wc := ⟨wc, rfl⟩
   subst hwc
   have E6 := hid e6
   have HT6 := hid (show KT w5 (fun q => q < w5.heap.size) rl rs A6 rn c6 B6 rm d6 from hk6.both.mono fun q hq => hq.2)
   replace E0 := hid (carry hbx E0.out)
   replace EK := hid (carry hbx EK.out)
   replace EV := hid (carry hbx EV.out)
   replace HB := hid (bs HB.out hbx)
   obtain ⟨lo7, HLO7⟩ : ∃ q, Hid (w5.heap.size = q) := ⟨_, hid rfl⟩
   rw [HLO7.out] at HT6
   have HP7 : Hid (w.heap.size + 1 + 1 < lo7 /\ Q6 < lo7) := hid (by rw [← HLO7.out]; exact ⟨(Array.getElem?_eq_some_iff.1 EV.out).1, (Array.getElem?_eq_some_iff.1 E6.out).1⟩)
   clear e6 hk6 hbx hQ6 LS
   obtain ⟨z0_, z1_, z2_, z3_, z4_⟩ := row5 E0.out
   go_wp2_with (fail)
   refine (TT.out _ HB.out).mono ?_
   rintro e w6 ⟨A7, c7, g7, m7, rfl, hown, hmid, hlo, hmg, hs, hb⟩
   have HO := hid hown
   have HX := hid hs
   have HMD := hid (And.intro hmid hlo)
   have HSZ := hid hb.size
   replace E0 := hid (carry hb E0.out)
   replace EK := hid (carry hb EK.out)
   replace EV := hid (carry hb EV.out)
   replace E6 := hid (carry hb E6.out)
   replace HT6 := hid (HT6.out.below hb)
   replace HB := hid (bs HB.out hb)
   clear hown hmid hlo hmg hs hb
   clear z0_ z1_ z2_ z3_ z4_
   go_upto_region 13 with fail
   obtain ⟨N7, HN7⟩ : ∃ N, Hid (w6.heap.size = N) := ⟨_, hid rfl⟩
   have HLN : Hid (lo7 <= N7) := hid (by rw [← HLO7.out, ← HN7.out]; exact HSZ.out)
   rw [HLO7.out] at HO HMD
   have HOB : Hid (∀ q, (Value.slice A7 n c7).ownBlock = some q -> lo7 <= q /\ q < N7) := hid (fun q e => by rw [← HN7.out]; exact HO.out.block q e)
   generalize hwn : w6.alloc (.cells #[.bool b, .slice A7 n c7, .slice (some ⟨g7, 0, none⟩) m m, .int .i64 x, .int .i64 k] IT) = w7
   have hbx : Below w6.heap.size w6 w7 := hwn ▸ b1 _ _
   have E7 : Hid (w7.heap[N7]? = some (.cells #[.bool b, .slice A7 n c7, .slice (some ⟨g7, 0, none⟩) m m, .int .i64 x, .int .i64 k] IT (0, 0))) := hid (by rw [← hwn, ← HN7.out]; exact heap_alloc_new _ _)
   rw [HN7.out]
   replace E0 := hid (carry hbx E0.out)
   replace EK := hid (carry hbx EK.out)
   replace EV := hid (carry hbx EV.out)
   replace E6 := hid (carry hbx E6.out)
   replace HT6 := hid (HT6.out.below hbx)
   replace HO := hid (HO.out.below hbx)
   replace HX := hid (HX.out.below hbx)
   replace HB := hid (bs HB.out hbx)
   have HNW : Hid (∀ q, Nw m7 w6 q -> lo7 <= q /\ q < N7) := hid (fun q hq => ⟨Nat.le_trans HMD.out.2 hq.1, by rw [← HN7.out]; exact hq.2.lt⟩)
   have HPL : Hid (∀ q, Nw m7 w6 q -> Plain w7 q) := hid (fun q hq => hq.2.same (hbx.block q hq.2.lt))
   obtain ⟨lo9, HLO9⟩ : ∃ q, Hid (w7.heap.size = q) := ⟨_, hid rfl⟩
   have HP8 : Hid (N7 < lo9) := hid (by rw [← HLO9.out]; exact (Array.getElem?_eq_some_iff.1 E7.out).1)
   clear hwn hbx
   obtain ⟨v0_, v1_, v2_, v3_, v4_⟩ := row5 EV.out
   go_wp2_with (fail)
   refine (TV.out _ HB.out).mono ?_
   rintro e w8 ⟨A9, c9, rfl, hv, hb⟩
   have HV9 := hid hv.rgp
   have hsz := hb.size
   rw [HLO9.out] at HV9 hsz
   replace HPL : Hid (∀ q, Nw m7 w6 q -> Plain w8 q) := hid (fun q hq => (HPL.out q hq).same (hb.block q (HPL.out q hq).lt))
   replace E0 := hid (carry hb E0.out)
   replace EK := hid (carry hb EK.out)
   replace EV := hid (carry hb EV.out)
   replace E6 := hid (carry hb E6.out)
   replace E7 := hid (carry hb E7.out)
   replace HT6 := hid (HT6.out.below hb)
   replace HO := hid (HO.out.below hb)
   replace HX := hid (HX.out.below hb)
   replace HB := hid (bs HB.out hb)
   clear hv hb
   clear v0_ v1_ v2_ v3_ v4_
   go_upto_region 14 with fail
   obtain ⟨N9, HN9⟩ : ∃ N, Hid (w8.heap.size = N) := ⟨_, hid rfl⟩
   generalize hwn : w8.alloc (.cells #[.int .i64 kv, .int .i64 nv, .string sv, .int .i64 xv, .slice A9 Lv c9] IV) = w9
   have hbx : Below w8.heap.size w8 w9 := hwn ▸ b1 _ _
   have E9 : Hid (w9.heap[N9]? = some (.cells #[.int .i64 kv, .int .i64 nv, .string sv, .int .i64 xv, .slice A9 Lv c9] IV (0, 0))) := hid (by rw [← hwn, ← HN9.out]; exact heap_alloc_new _ _)
   rw [HN9.out]
   replace E0 := hid (carry hbx E0.out)
   replace EK := hid (carry hbx EK.out)
   replace EV := hid (carry hbx EV.out)
   replace E6 := hid (carry hbx E6.out)
   replace E7 := hid (carry hbx E7.out)
   replace HT6 := hid (HT6.out.below hbx)
   replace HO := hid (HO.out.below hbx)
   replace HX := hid (HX.out.below hbx)
   replace HV9 := hid (HV9.out.rgb hbx)
   replace HB := hid (bs HB.out hbx)
   rw [HN9.out] at HV9 hsz
   have HL9 : Hid (lo9 <= N9) := hid hsz
   replace HPL : Hid (∀ q, Nw m7 w6 q -> Plain w9 q) := hid (fun q hq => (HPL.out q hq).same (hbx.block q (HPL.out q hq).lt))
   have HP9 : Hid (N9 < w9.heap.size) := hid (Array.getElem?_eq_some_iff.1 E9.out).1
   have HXW : Hid (∀ w', Below w9.heap.size w9 w' -> SIn w' (Nw 0 w') sl (some ⟨g7, 0, none⟩)) := hid (fun w' hb => HX.out.stays (fun q hq => ⟨Nat.zero_le _, (HPL.out q hq).same (hb.block q (HPL.out q hq).lt)⟩) (fun q hq hl => hb.block q hl))
   have HVW : Hid (∀ w', Below w9.heap.size w9 w' -> TIn w' (Nw 0 w') T2 (vV kv nv sv xv A9 Lv c9)) := hid (fun w' hb => (HV9.out.rgb hb).rgn)
   clear hwn hbx hsz
   go_wp2_with (fail)
   go_cut [12, 13] (fun p f wx => f = .bool ok /\ CutT w9 rb rn rm rx rk (PrPF w9.heap.size rl rs rn rm) p wx)
   case first =>
     have HW : Hid (Below w9.heap.size w9 w9) := hid (Below.refl _ _)
     have hzw_ : w9.heap.size <= w9.heap.size := Nat.le_refl _
     have nzu_ : w9.heap.size ≠ w.heap.size + 1 := by have := (Array.getElem?_eq_some_iff.1 EK.out).1; omega
     have nzy_ : w9.heap.size ≠ N7 := by have := (Array.getElem?_eq_some_iff.1 E7.out).1; omega
     have nzq_ : w9.heap.size ≠ N9 := by have := (Array.getElem?_eq_some_iff.1 E9.out).1; omega
     obtain ⟨u0_, u1_, u2_⟩ := row3 EK.out
     obtain ⟨y0_, y1_, y2_, y3_, y4_⟩ := row5 E7.out
     obtain ⟨q0_, q1_, q2_, q3_, q4_⟩ := row5 E9.out
     go_region_held3 (fun w' => w'.cell? ⟨w.heap.size + 1, 0, none⟩ = some (.bool yb) /\ w'.cell? ⟨w.heap.size + 1, 1, none⟩ = some (.int .i64 yn) /\ w'.cell? ⟨w.heap.size + 1, 2, none⟩ = some (.string ys) /\ w'.cell? ⟨N7, 0, none⟩ = some (.bool b) /\ w'.cell? ⟨N7, 1, none⟩ = some (.slice A7 n c7) /\ w'.cell? ⟨N7, 2, none⟩ = some (.slice (some ⟨g7, 0, none⟩) m m) /\ w'.cell? ⟨N7, 3, none⟩ = some (.int .i64 x) /\ w'.cell? ⟨N7, 4, none⟩ = some (.int .i64 k) /\ w'.cell? ⟨N9, 0, none⟩ = some (.int .i64 kv) /\ w'.cell? ⟨N9, 1, none⟩ = some (.int .i64 nv) /\ w'.cell? ⟨N9, 2, none⟩ = some (.string sv) /\ w'.cell? ⟨N9, 3, none⟩ = some (.int .i64 xv) /\ w'.cell? ⟨N9, 4, none⟩ = some (.slice A9 Lv c9)) (go_keep) (first
       | (go_at_call 29; refine (TK.out _).mono ?_
          rintro e w10 ⟨rfl, hb⟩
          have hbx : Below w9.heap.size w9 w10 := by first | exact hb | exact bs ((Below.refl _ _).drew) hb | exact bs (b1 _ _) hb | exact bs (bs ((Below.refl _ _).drew) (b1 _ _)) hb | exact bs (bs (b1 _ _) ((Below.refl _ _).drew)) hb
          first | (have ez := hid (carry hb (heap_alloc_new w9 (.cells #[.bool false, .slice none 0 0, .slice none 0 0, .int .i64 0, .int .i64 0] IT)))) | (have ez := hid (carry hb (heap_alloc_new w9.drew (.cells #[.bool false, .slice none 0 0, .slice none 0 0, .int .i64 0, .int .i64 0] IT)))) | (replace ez := hid (carry hbx ez.out)) | skip
          replace E0 := hid (carry hbx E0.out)
          replace EK := hid (carry hbx EK.out)
          replace EV := hid (carry hbx EV.out)
          replace E6 := hid (carry hbx E6.out)
          replace E7 := hid (carry hbx E7.out)
          replace E9 := hid (carry hbx E9.out)
          replace HT6 := hid (HT6.out.below hbx)
          replace HO := hid (HO.out.below hbx)
          replace HX := hid (HX.out.below hbx)
          replace HV9 := hid (HV9.out.rgb hbx)
          replace HB := hid (bs HB.out hbx)
          replace HW := hid (bs HW.out hbx)
          have hzw_ : w9.heap.size <= w10.heap.size := HW.out.size
          obtain ⟨u0_, u1_, u2_⟩ := row3 EK.out
          obtain ⟨y0_, y1_, y2_, y3_, y4_⟩ := row5 E7.out
          obtain ⟨q0_, q1_, q2_, q3_, q4_⟩ := row5 E9.out
          have nzu_ : w10.heap.size ≠ w.heap.size + 1 := by have := (Array.getElem?_eq_some_iff.1 EK.out).1; omega
          have nzy_ : w10.heap.size ≠ N7 := by have := (Array.getElem?_eq_some_iff.1 E7.out).1; omega
          have nzq_ : w10.heap.size ≠ N9 := by have := (Array.getElem?_eq_some_iff.1 E9.out).1; omega
          clear hb hbx)
       | (go_at_call 10; refine (LI.out _ _ _ _ _ _ _ (by first | exact HB.out | exact HB.out.trans ((Below.refl _ _).drew) | exact HB.out.alloc HB.out.size _ | exact (HB.out.trans ((Below.refl _ _).drew)).alloc HB.out.size _ | exact (HB.out.alloc HB.out.size _).trans ((Below.refl _ _).drew)) (by first | exact HO.out | exact HO.out.below ((Below.refl _ _).drew) | exact HO.out.below (b1 _ _) | exact HO.out.below (bs ((Below.refl _ _).drew) (b1 _ _)) | exact HO.out.below (bs (b1 _ _) ((Below.refl _ _).drew))) (by first | exact HXW.out _ HW.out | exact HXW.out _ (bs HW.out ((Below.refl _ _).drew)) | exact HXW.out _ (bs HW.out (b1 _ _)) | exact HXW.out _ (bs HW.out (bs ((Below.refl _ _).drew) (b1 _ _))) | exact HXW.out _ (bs HW.out (bs (b1 _ _) ((Below.refl _ _).drew)))) (by first | exact HVW.out _ HW.out | exact HVW.out _ (bs HW.out ((Below.refl _ _).drew)) | exact HVW.out _ (bs HW.out (b1 _ _)) | exact HVW.out _ (bs HW.out (bs ((Below.refl _ _).drew) (b1 _ _))) | exact HVW.out _ (bs HW.out (bs (b1 _ _) ((Below.refl _ _).drew))))).mono ?_
          rintro e w11x ⟨A8, c8, B8, d8, G, rfl, hot, hb⟩
          have hbx : Below w10.heap.size w10 w11x := by first | exact hb | exact bs ((Below.refl _ _).drew) hb | exact bs (b1 _ _) hb | exact bs (bs ((Below.refl _ _).drew) (b1 _ _)) hb | exact bs (bs (b1 _ _) ((Below.refl _ _).drew)) hb
          first | (have nzw := hid (Array.getElem?_eq_some_iff.1 ez.out).1; replace ez := hid (carry hbx ez.out)) | (have ez := hid (carry hb (heap_alloc_new w10 (.cells #[.bool false, .slice none 0 0, .slice none 0 0, .int .i64 0, .int .i64 0] IT))); have nzw := hid (Array.getElem?_eq_some_iff.1 (heap_alloc_new w10 (.cells #[.bool false, .slice none 0 0, .slice none 0 0, .int .i64 0, .int .i64 0] IT))).1) | (have ez := hid (carry hb (heap_alloc_new w10.drew (.cells #[.bool false, .slice none 0 0, .slice none 0 0, .int .i64 0, .int .i64 0] IT))); have nzw := hid (Array.getElem?_eq_some_iff.1 (heap_alloc_new w10.drew (.cells #[.bool false, .slice none 0 0, .slice none 0 0, .int .i64 0, .int .i64 0] IT))).1) | skip
          have HOT := hid hot
          have hzl_ : w9.heap.size <= w10.heap.size := hzw_
          clear hot
          replace E0 := hid (carry hbx E0.out)
          replace EK := hid (carry hbx EK.out)
          replace EV := hid (carry hbx EV.out)
          replace E6 := hid (carry hbx E6.out)
          replace E7 := hid (carry hbx E7.out)
          replace E9 := hid (carry hbx E9.out)
          replace HT6 := hid (HT6.out.below hbx)
          replace HO := hid (HO.out.below hbx)
          replace HX := hid (HX.out.below hbx)
          replace HV9 := hid (HV9.out.rgb hbx)
          replace HB := hid (bs HB.out hbx)
          replace HW := hid (bs HW.out hbx)
          have hzw_ : w9.heap.size <= w11x.heap.size := HW.out.size
          obtain ⟨u0_, u1_, u2_⟩ := row3 EK.out
          obtain ⟨y0_, y1_, y2_, y3_, y4_⟩ := row5 E7.out
          obtain ⟨q0_, q1_, q2_, q3_, q4_⟩ := row5 E9.out
          have nzu_ : w11x.heap.size ≠ w.heap.size + 1 := by have := (Array.getElem?_eq_some_iff.1 EK.out).1; omega
          have nzy_ : w11x.heap.size ≠ N7 := by have := (Array.getElem?_eq_some_iff.1 E7.out).1; omega
          have nzq_ : w11x.heap.size ≠ N9 := by have := (Array.getElem?_eq_some_iff.1 E9.out).1; omega
          clear hb hbx
          first | (have zr := (rowc ez.out).1; have zf := (rowc ez.out).2) | skip))
     all_goals
       go_wp2_with (fail)
       go_meet
       first
       | exact ⟨rfl, by with_reducible exact cutT_boxPF HW.out HOT.out (by first | exact hzl_ | exact Nat.le_trans hzl_ (by simp))⟩
       | exact ⟨rfl, cutT_earlyPF HW.out (by first | exact Nat.le_refl _ | assumption) ez.out HOT.out nzw.out rfl⟩
   case rest =>
     obtain ⟨hf, hcut⟩ := hcut
     subst hf
     obtain ⟨Q8, A8, c8, B8, d8, hp, hbx, hQ8, e8, G, lo, hi, hot, hrg, hlo, hhi, hnq⟩ := hcut
     subst hp
     obtain ⟨w11, hwc⟩ : ∃ q, q = wc := ⟨wc, rfl⟩
     subst hwc
     have E8 := hid e8
     have HG8 := hid hot
     have HRG := hid hrg
     have HNQ := hid hnq
     have HPA := hid (And.intro hQ8 (And.intro hlo hhi))
     replace E0 := hid (carry hbx E0.out)
     replace EK := hid (carry hbx EK.out)
     replace EV := hid (carry hbx EV.out)
     replace E6 := hid (carry hbx E6.out)
     replace E7 := hid (carry hbx E7.out)
     replace E9 := hid (carry hbx E9.out)
     replace HT6 := hid (HT6.out.below hbx)
     replace HO := hid (HO.out.below hbx)
     replace HX := hid (HX.out.below hbx)
     replace HV9 := hid (HV9.out.rgb hbx)
     replace HPL : Hid (∀ q, Nw m7 w6 q -> Plain w11 q) := hid (fun q hq => (HPL.out q hq).same (hbx.block q (HPL.out q hq).lt))
     replace HB := hid (bs HB.out hbx)
     clear e8 hot hrg hnq hQ8 hlo hhi hbx HXW HVW
     obtain ⟨p0_, p1_, p2_, p3_, p4_⟩ := row5 E6.out
     obtain ⟨s0_, s1_, s2_, s3_, s4_⟩ := row5 E8.out
     go_wp2_with (fail)
     refine (ER.out _ _ _ _ _ _ _ _ _ _ _ _ HG8.out HT6.out).mono ?_
     rintro e w12 ⟨rfl, hb⟩
     replace HPL : Hid (∀ q, Nw m7 w6 q -> Plain w12 q) := hid (fun q hq => (HPL.out q hq).same (hb.block q (HPL.out q hq).lt))
     replace E0 := hid (carry hb E0.out)
     replace EK := hid (carry hb EK.out)
     replace EV := hid (carry hb EV.out)
     replace E6 := hid (carry hb E6.out)
     replace E7 := hid (carry hb E7.out)
     replace E9 := hid (carry hb E9.out)
     replace E8 := hid (carry hb E8.out)
     replace HT6 := hid (HT6.out.below hb)
     replace HO := hid (HO.out.below hb)
     replace HX := hid (HX.out.below hb)
     replace HV9 := hid (HV9.out.rgb hb)
     replace HG8 := hid (HG8.out.below hb)
     replace HB := hid (bs HB.out hb)
     clear hb
     clear p0_ p1_ p2_ p3_ p4_ s0_ s1_ s2_ s3_ s4_
     obtain ⟨z0_, z1_, z2_, z3_, z4_⟩ := row5 E0.out
     obtain ⟨y0_, y1_, y2_, y3_, y4_⟩ := row5 E7.out
     go_wp2_with (fail)
     go_region_held3 (fun w' => w'.cell? ⟨w.heap.size, 0, none⟩ = some (.bool b) /\ w'.cell? ⟨w.heap.size, 1, none⟩ = some (.slice A n c) /\ w'.cell? ⟨w.heap.size, 2, none⟩ = some (.slice B m d) /\ w'.cell? ⟨w.heap.size, 3, none⟩ = some (.int .i64 x) /\ w'.cell? ⟨w.heap.size, 4, none⟩ = some (.int .i64 k) /\ w'.cell? ⟨N7, 0, none⟩ = some (.bool b) /\ w'.cell? ⟨N7, 1, none⟩ = some (.slice A7 n c7) /\ w'.cell? ⟨N7, 2, none⟩ = some (.slice (some ⟨g7, 0, none⟩) m m) /\ w'.cell? ⟨N7, 3, none⟩ = some (.int .i64 x) /\ w'.cell? ⟨N7, 4, none⟩ = some (.int .i64 k)) (go_keep) (first
       | (go_at_call 28; refine (TT.out _ (by first | exact HB.out | exact HB.out.trans ((Below.refl _ _).drew) | exact HB.out.alloc HB.out.size _ | exact (HB.out.trans ((Below.refl _ _).drew)).alloc HB.out.size _ | exact (HB.out.alloc HB.out.size _).trans ((Below.refl _ _).drew))).mono ?_
          rintro e w13 ⟨A5, c5, g5, m5, rfl, hown, hmid, hlo, hmg, hs, hb⟩
          have hbx : Below w12.heap.size w12 w13 := by first | exact hb | exact bs ((Below.refl _ _).drew) hb | exact bs (b1 _ _) hb | exact bs (bs ((Below.refl _ _).drew) (b1 _ _)) hb | exact bs (bs (b1 _ _) ((Below.refl _ _).drew)) hb
          replace HPL : Hid (∀ q, Nw m7 w6 q -> Plain w13 q) := hid (fun q hq => (HPL.out q hq).same (hbx.block q (HPL.out q hq).lt))
          have HO5 := hid hown
          have HX5 := hid hs
          clear hown hmid hlo hmg hs
          replace E0 := hid (carry hbx E0.out)
          replace EK := hid (carry hbx EK.out)
          replace EV := hid (carry hbx EV.out)
          replace E6 := hid (carry hbx E6.out)
          replace E7 := hid (carry hbx E7.out)
          replace E9 := hid (carry hbx E9.out)
          replace E8 := hid (carry hbx E8.out)
          replace HT6 := hid (HT6.out.below hbx)
          replace HO := hid (HO.out.below hbx)
          replace HX := hid (HX.out.below hbx)
          replace HV9 := hid (HV9.out.rgb hbx)
          replace HG8 := hid (HG8.out.below hbx)
          replace HB := hid (bs HB.out hbx)
          obtain ⟨z0_, z1_, z2_, z3_, z4_⟩ := row5 E0.out
          obtain ⟨y0_, y1_, y2_, y3_, y4_⟩ := row5 E7.out
          clear hb hbx)
       | (go_at_call 31; refine (ET.out _ _ _ _ _ _ _ _ _ _ _ (by first | exact HO.out | exact HO.out.below ((Below.refl _ _).drew)) (by first | exact HX.out | exact HX.out.below ((Below.refl _ _).drew)) (by first | exact HO5.out | exact HO5.out.below ((Below.refl _ _).drew)) (by first | exact HX5.out | exact HX5.out.below ((Below.refl _ _).drew))).mono ?_
          rintro e w14 ⟨rfl, hb⟩
          have hbx : Below w13.heap.size w13 w14 := by first | exact hb | exact bs ((Below.refl _ _).drew) hb | exact bs (b1 _ _) hb | exact bs (bs ((Below.refl _ _).drew) (b1 _ _)) hb | exact bs (bs (b1 _ _) ((Below.refl _ _).drew)) hb
          replace HPL : Hid (∀ q, Nw m7 w6 q -> Plain w14 q) := hid (fun q hq => (HPL.out q hq).same (hbx.block q (HPL.out q hq).lt))
          clear HO5 HX5
          replace E0 := hid (carry hbx E0.out)
          replace EK := hid (carry hbx EK.out)
          replace EV := hid (carry hbx EV.out)
          replace E6 := hid (carry hbx E6.out)
          replace E7 := hid (carry hbx E7.out)
          replace E9 := hid (carry hbx E9.out)
          replace E8 := hid (carry hbx E8.out)
          replace HT6 := hid (HT6.out.below hbx)
          replace HO := hid (HO.out.below hbx)
          replace HX := hid (HX.out.below hbx)
          replace HV9 := hid (HV9.out.rgb hbx)
          replace HG8 := hid (HG8.out.below hbx)
          replace HB := hid (bs HB.out hbx)
          obtain ⟨z0_, z1_, z2_, z3_, z4_⟩ := row5 E0.out
          obtain ⟨y0_, y1_, y2_, y3_, y4_⟩ := row5 E7.out
          clear hb hbx))
     clear z0_ z1_ z2_ z3_ z4_ y0_ y1_ y2_ y3_ y4_
     obtain ⟨v0_, v1_, v2_, v3_, v4_⟩ := row5 EV.out
     obtain ⟨q0_, q1_, q2_, q3_, q4_⟩ := row5 E9.out
     go_wp2_with (fail)
     go_region_held3 (fun w' => w'.cell? ⟨w.heap.size + 1 + 1, 0, none⟩ = some (.int .i64 kv) /\ w'.cell? ⟨w.heap.size + 1 + 1, 1, none⟩ = some (.int .i64 nv) /\ w'.cell? ⟨w.heap.size + 1 + 1, 2, none⟩ = some (.string sv) /\ w'.cell? ⟨w.heap.size + 1 + 1, 3, none⟩ = some (.int .i64 xv) /\ w'.cell? ⟨w.heap.size + 1 + 1, 4, none⟩ = some (.slice Av Lv cv) /\ w'.cell? ⟨N9, 0, none⟩ = some (.int .i64 kv) /\ w'.cell? ⟨N9, 1, none⟩ = some (.int .i64 nv) /\ w'.cell? ⟨N9, 2, none⟩ = some (.string sv) /\ w'.cell? ⟨N9, 3, none⟩ = some (.int .i64 xv) /\ w'.cell? ⟨N9, 4, none⟩ = some (.slice A9 Lv c9)) (go_keep) (first
       | (go_at_call 30; refine (TV.out _ (by first | exact HB.out | exact HB.out.trans ((Below.refl _ _).drew) | exact HB.out.alloc HB.out.size _ | exact (HB.out.trans ((Below.refl _ _).drew)).alloc HB.out.size _ | exact (HB.out.alloc HB.out.size _).trans ((Below.refl _ _).drew))).mono ?_
          rintro e w15 ⟨A3, c3, rfl, hv, hb⟩
          have hbx : Below w14.heap.size w14 w15 := by first | exact hb | exact bs ((Below.refl _ _).drew) hb | exact bs (b1 _ _) hb | exact bs (bs ((Below.refl _ _).drew) (b1 _ _)) hb | exact bs (bs (b1 _ _) ((Below.refl _ _).drew)) hb
          replace HPL : Hid (∀ q, Nw m7 w6 q -> Plain w15 q) := hid (fun q hq => (HPL.out q hq).same (hbx.block q (HPL.out q hq).lt))
          have HV5 := hid hv
          clear hv
          replace E0 := hid (carry hbx E0.out)
          replace EK := hid (carry hbx EK.out)
          replace EV := hid (carry hbx EV.out)
          replace E6 := hid (carry hbx E6.out)
          replace E7 := hid (carry hbx E7.out)
          replace E9 := hid (carry hbx E9.out)
          replace E8 := hid (carry hbx E8.out)
          replace HT6 := hid (HT6.out.below hbx)
          replace HO := hid (HO.out.below hbx)
          replace HX := hid (HX.out.below hbx)
          replace HV9 := hid (HV9.out.rgb hbx)
          replace HG8 := hid (HG8.out.below hbx)
          replace HB := hid (bs HB.out hbx)
          obtain ⟨v0_, v1_, v2_, v3_, v4_⟩ := row5 EV.out
          obtain ⟨q0_, q1_, q2_, q3_, q4_⟩ := row5 E9.out
          clear hb hbx)
       | (go_at_call 32; refine (eqV T2 _ _ _ _ _ (by first | exact HV9.out | exact HV9.out.below' ((Below.refl _ _).drew)) (by first | exact HV5.out | exact HV5.out.below' ((Below.refl _ _).drew))).mono ?_
          rintro e w16 ⟨rfl, hb⟩
          have hbx : Below w15.heap.size w15 w16 := by first | exact hb | exact bs ((Below.refl _ _).drew) hb | exact bs (b1 _ _) hb | exact bs (bs ((Below.refl _ _).drew) (b1 _ _)) hb | exact bs (bs (b1 _ _) ((Below.refl _ _).drew)) hb
          replace HPL : Hid (∀ q, Nw m7 w6 q -> Plain w16 q) := hid (fun q hq => (HPL.out q hq).same (hbx.block q (HPL.out q hq).lt))
          clear HV5
          replace E0 := hid (carry hbx E0.out)
          replace EK := hid (carry hbx EK.out)
          replace EV := hid (carry hbx EV.out)
          replace E6 := hid (carry hbx E6.out)
          replace E7 := hid (carry hbx E7.out)
          replace E9 := hid (carry hbx E9.out)
          replace E8 := hid (carry hbx E8.out)
          replace HT6 := hid (HT6.out.below hbx)
          replace HO := hid (HO.out.below hbx)
          replace HX := hid (HX.out.below hbx)
          replace HV9 := hid (HV9.out.rgb hbx)
          replace HG8 := hid (HG8.out.below hbx)
          replace HB := hid (bs HB.out hbx)
          obtain ⟨v0_, v1_, v2_, v3_, v4_⟩ := row5 EV.out
          obtain ⟨q0_, q1_, q2_, q3_, q4_⟩ := row5 E9.out
          clear hb hbx))
     clear v0_ v1_ v2_ v3_ v4_ q0_ q1_ q2_ q3_ q4_
     have HP9o : Hid (N9 < lo /\ N9 < Q8) := hid (by have a1 := HP9.out; have a2 := HPA.out.1; have a3 := HPA.out.2.1; omega)
     obtain ⟨y0_, y1_, y2_, y3_, y4_⟩ := row5 E7.out
     go_wp2_with (fail)
     have hno : ∀ q, (Value.slice A7 n c7).ownBlock = some q -> ¬ Nw m7 w6 q := fun q e h => by have h1 := HMD.out.1 q e; have h2 := h.1; omega
     refine (MT.out _ _ _ _ _ _ HO.out HX.out HPL.out hno).mono ?_
     rintro e w17 ⟨p0, rfl, hq1, hq2, hf⟩
     have hch : ∀ p, (p < lo7 \/ N7 <= p) -> p < w16.heap.size -> w17.heap[p]? = w16.heap[p]? := fun p hp hl => hf.block p hl (fun h => by
       rcases h with h | h
       . have := HNW.out p h; omega
       . have := HOB.out p h; omega)
     replace HB : Hid (Below w.heap.size w w17) := hid (HB.out.trans (hf.below (lo := w.heap.size) HB.out.size (fun p hp => by
       have o0 := HP7.out.1; have o1 := HP7.out.2; have o2 := HLN.out; have o3 := HP8.out; have o4 := HL9.out; have o5 := HP9o.out.1; have o6 := HP9o.out.2;
       rcases hp with h | h
       . have := HNW.out p h; omega
       . have := HOB.out p h; omega)))
     replace E0 : Hid (w17.heap[w.heap.size]? = _) := hid ((hch _ (by have o0 := HP7.out.1; have o1 := HP7.out.2; have o2 := HLN.out; have o3 := HP8.out; have o4 := HL9.out; have o5 := HP9o.out.1; have o6 := HP9o.out.2; omega) (Array.getElem?_eq_some_iff.1 E0.out).1).trans E0.out)
     replace EK : Hid (w17.heap[w.heap.size + 1]? = _) := hid ((hch _ (by have o0 := HP7.out.1; have o1 := HP7.out.2; have o2 := HLN.out; have o3 := HP8.out; have o4 := HL9.out; have o5 := HP9o.out.1; have o6 := HP9o.out.2; omega) (Array.getElem?_eq_some_iff.1 EK.out).1).trans EK.out)
     replace EV : Hid (w17.heap[w.heap.size + 1 + 1]? = _) := hid ((hch _ (by have o0 := HP7.out.1; have o1 := HP7.out.2; have o2 := HLN.out; have o3 := HP8.out; have o4 := HL9.out; have o5 := HP9o.out.1; have o6 := HP9o.out.2; omega) (Array.getElem?_eq_some_iff.1 EV.out).1).trans EV.out)
     replace E6 : Hid (w17.heap[Q6]? = _) := hid ((hch _ (by have o0 := HP7.out.1; have o1 := HP7.out.2; have o2 := HLN.out; have o3 := HP8.out; have o4 := HL9.out; have o5 := HP9o.out.1; have o6 := HP9o.out.2; omega) (Array.getElem?_eq_some_iff.1 E6.out).1).trans E6.out)
     replace E9 : Hid (w17.heap[N9]? = _) := hid ((hch _ (by have o0 := HP7.out.1; have o1 := HP7.out.2; have o2 := HLN.out; have o3 := HP8.out; have o4 := HL9.out; have o5 := HP9o.out.1; have o6 := HP9o.out.2; omega) (Array.getElem?_eq_some_iff.1 E9.out).1).trans E9.out)
     replace E8 : Hid (w17.heap[Q8]? = _) := hid ((hch _ (by have o0 := HP7.out.1; have o1 := HP7.out.2; have o2 := HLN.out; have o3 := HP8.out; have o4 := HL9.out; have o5 := HP9o.out.1; have o6 := HP9o.out.2; omega) (Array.getElem?_eq_some_iff.1 E8.out).1).trans E8.out)
     replace HT6 := hid (HT6.out.keep (w' := w17) fun p hp hl => hch p (.inl hp) hl)
     replace HV9 := hid (HV9.out.rgk (w' := w17) fun p hp hl => hch p (by have h1 := hp.1; have o0 := HP7.out.1; have o1 := HP7.out.2; have o2 := HLN.out; have o3 := HP8.out; have o4 := HL9.out; have o5 := HP9o.out.1; have o6 := HP9o.out.2; omega) hl)
     replace HG8 := hid (HG8.out.keep (w' := w17) hf.size fun p hp hl => hch p (by have h1 := (HRG.out p hp).1; have o0 := HP7.out.1; have o1 := HP7.out.2; have o2 := HLN.out; have o3 := HP8.out; have o4 := HL9.out; have o5 := HP9o.out.1; have o6 := HP9o.out.2; omega) hl)
     clear y0_ y1_ y2_ y3_ y4_
     clear hf hch hno HO HX HPL HNW HOB HMD E7 MT
     obtain ⟨q0_, q1_, q2_, q3_, q4_⟩ := row5 E9.out
     go_wp2_with (fail)
     refine (markArg2 T2 _ p0 hq1 (by have := HF2.out; omega) _ lo9 N9 HV9.out).mono ?_
     rintro e w18 ⟨p1, rfl, hp1, hp2, hf⟩
     have hp3 : ¬ p1 < 0 := by omega
     have hch : ∀ p, ¬ Rg lo9 N9 p -> p < w17.heap.size -> w18.heap[p]? = w17.heap[p]? := fun p hp hl => hf.block p hl hp
     replace HB : Hid (Below w.heap.size w w18) := hid (HB.out.trans (hf.below (lo := w.heap.size) HB.out.size (fun p hp => by have h1 := hp.1; have o0 := HP7.out.1; have o1 := HP7.out.2; have o2 := HLN.out; have o3 := HP8.out; have o4 := HL9.out; have o5 := HP9o.out.1; have o6 := HP9o.out.2; omega)))
     replace E0 : Hid (w18.heap[w.heap.size]? = _) := hid ((hch _ (by unfold Rg; have o0 := HP7.out.1; have o1 := HP7.out.2; have o2 := HLN.out; have o3 := HP8.out; have o4 := HL9.out; have o5 := HP9o.out.1; have o6 := HP9o.out.2; omega) (Array.getElem?_eq_some_iff.1 E0.out).1).trans E0.out)
     replace EK : Hid (w18.heap[w.heap.size + 1]? = _) := hid ((hch _ (by unfold Rg; have o0 := HP7.out.1; have o1 := HP7.out.2; have o2 := HLN.out; have o3 := HP8.out; have o4 := HL9.out; have o5 := HP9o.out.1; have o6 := HP9o.out.2; omega) (Array.getElem?_eq_some_iff.1 EK.out).1).trans EK.out)
     replace EV : Hid (w18.heap[w.heap.size + 1 + 1]? = _) := hid ((hch _ (by unfold Rg; have o0 := HP7.out.1; have o1 := HP7.out.2; have o2 := HLN.out; have o3 := HP8.out; have o4 := HL9.out; have o5 := HP9o.out.1; have o6 := HP9o.out.2; omega) (Array.getElem?_eq_some_iff.1 EV.out).1).trans EV.out)
     replace E6 : Hid (w18.heap[Q6]? = _) := hid ((hch _ (by unfold Rg; have o0 := HP7.out.1; have o1 := HP7.out.2; have o2 := HLN.out; have o3 := HP8.out; have o4 := HL9.out; have o5 := HP9o.out.1; have o6 := HP9o.out.2; omega) (Array.getElem?_eq_some_iff.1 E6.out).1).trans E6.out)
     replace E8 : Hid (w18.heap[Q8]? = _) := hid ((hch _ (by unfold Rg; have o0 := HP7.out.1; have o1 := HP7.out.2; have o2 := HLN.out; have o3 := HP8.out; have o4 := HL9.out; have o5 := HP9o.out.1; have o6 := HP9o.out.2; omega) (Array.getElem?_eq_some_iff.1 E8.out).1).trans E8.out)
     replace HT6 := hid (HT6.out.keep (w' := w18) fun p hp hl => hch p (by unfold Rg; have o0 := HP7.out.1; have o1 := HP7.out.2; have o2 := HLN.out; have o3 := HP8.out; have o4 := HL9.out; have o5 := HP9o.out.1; have o6 := HP9o.out.2; omega) hl)
     replace HG8 := hid (HG8.out.keep (w' := w18) hf.size fun p hp hl => hch p (by have h1 := (HRG.out p hp).1; unfold Rg; have o0 := HP7.out.1; have o1 := HP7.out.2; have o2 := HLN.out; have o3 := HP8.out; have o4 := HL9.out; have o5 := HP9o.out.1; have o6 := HP9o.out.2; omega) hl)
     clear q0_ q1_ q2_ q3_ q4_
     clear hf hch HV9 E9
     obtain ⟨p0_, p1_, p2_, p3_, p4_⟩ := row5 E6.out
     obtain ⟨s0_, s1_, s2_, s3_, s4_⟩ := row5 E8.out
     go_wp2_with (fail)
     refine (ER.out _ _ _ _ _ _ _ _ _ _ _ _ HG8.out HT6.out).mono ?_
     rintro e w19 ⟨rfl, hb⟩
     replace E0 := hid (carry hb E0.out)
     replace EK := hid (carry hb EK.out)
     replace EV := hid (carry hb EV.out)
     replace E6 := hid (carry hb E6.out)
     replace E8 := hid (carry hb E8.out)
     replace HT6 := hid (HT6.out.below hb)
     replace HG8 := hid (HG8.out.below hb)
     replace HB := hid (bs HB.out hb)
     clear hb
     clear p0_ p1_ p2_ p3_ p4_ s0_ s1_ s2_ s3_ s4_
     obtain ⟨s0_, s1_, s2_, s3_, s4_⟩ := row5 E8.out
     go_wp2_with (fail)
     refine (MX.out _ _ _ _ _ _ _ HG8.out).mono ?_
     rintro e w20 ⟨rfl, ⟨l2, hfi, hot⟩, hf⟩
     have hch : ∀ p, ¬ Rg lo hi p -> p < w19.heap.size -> w20.heap[p]? = w19.heap[p]? := fun p hp hl => hf.block p hl (fun h => hp (HRG.out p h))
     replace HB : Hid (Below w.heap.size w w20) := hid (HB.out.trans (hf.below (lo := w.heap.size) HB.out.size (fun p hp => by have h1 := (HRG.out p hp).1; have o0 := HP7.out.1; have o1 := HP7.out.2; have o2 := HLN.out; have o3 := HP8.out; have o4 := HL9.out; have o5 := HP9o.out.1; have o6 := HP9o.out.2; omega)))
     replace E0 : Hid (w20.heap[w.heap.size]? = _) := hid ((hch _ (by unfold Rg; have o0 := HP7.out.1; have o1 := HP7.out.2; have o2 := HLN.out; have o3 := HP8.out; have o4 := HL9.out; have o5 := HP9o.out.1; have o6 := HP9o.out.2; omega) (Array.getElem?_eq_some_iff.1 E0.out).1).trans E0.out)
     replace EK : Hid (w20.heap[w.heap.size + 1]? = _) := hid ((hch _ (by unfold Rg; have o0 := HP7.out.1; have o1 := HP7.out.2; have o2 := HLN.out; have o3 := HP8.out; have o4 := HL9.out; have o5 := HP9o.out.1; have o6 := HP9o.out.2; omega) (Array.getElem?_eq_some_iff.1 EK.out).1).trans EK.out)
     replace EV : Hid (w20.heap[w.heap.size + 1 + 1]? = _) := hid ((hch _ (by unfold Rg; have o0 := HP7.out.1; have o1 := HP7.out.2; have o2 := HLN.out; have o3 := HP8.out; have o4 := HL9.out; have o5 := HP9o.out.1; have o6 := HP9o.out.2; omega) (Array.getElem?_eq_some_iff.1 EV.out).1).trans EV.out)
     replace E6 : Hid (w20.heap[Q6]? = _) := hid ((hch _ (by unfold Rg; have o0 := HP7.out.1; have o1 := HP7.out.2; have o2 := HLN.out; have o3 := HP8.out; have o4 := HL9.out; have o5 := HP9o.out.1; have o6 := HP9o.out.2; omega) (Array.getElem?_eq_some_iff.1 E6.out).1).trans E6.out)
     replace E8 : Hid (w20.heap[Q8]? = _) := hid ((hch _ HNQ.out (Array.getElem?_eq_some_iff.1 E8.out).1).trans E8.out)
     replace HT6 := hid (HT6.out.keep (w' := w20) fun p hp hl => hch p (by unfold Rg; have o0 := HP7.out.1; have o1 := HP7.out.2; have o2 := HLN.out; have o3 := HP8.out; have o4 := HL9.out; have o5 := HP9o.out.1; have o6 := HP9o.out.2; omega) hl)
     have HRS := hid hot
     have HFI := hid hfi
     clear hf hch hot hfi HG8
     clear s0_ s1_ s2_ s3_ s4_
     obtain ⟨s0_, s1_, s2_, s3_, s4_⟩ := row5 E8.out
     go_wp2_with (fail)
     refine (HD.out _ _ _ _ _ _ _ _ HFI.out HRS.out).mono ?_
     rintro e w21 ⟨rfl, hb⟩
     replace E0 := hid (carry hb E0.out)
     replace EK := hid (carry hb EK.out)
     replace EV := hid (carry hb EV.out)
     replace E6 := hid (carry hb E6.out)
     replace E8 := hid (carry hb E8.out)
     replace HT6 := hid (HT6.out.below hb)
     replace HRS := hid (HRS.out.below hb)
     replace HB := hid (bs HB.out hb)
     clear hb
     clear s0_ s1_ s2_ s3_ s4_
     go_wp2_with (fail)
     go_cut [17, 18] (fun p f wx => f = .bool ok /\ CutT w21 rb rn rm rx rk (PrPF w21.heap.size rl rs rn rm) p wx)
     case first =>
       have HW : Hid (Below w21.heap.size w21 w21) := hid (Below.refl _ _)
       have hzw_ : w21.heap.size <= w21.heap.size := Nat.le_refl _
       have nzz_ : w21.heap.size ≠ w.heap.size := by have := (Array.getElem?_eq_some_iff.1 E0.out).1; omega
       have nzu_ : w21.heap.size ≠ w.heap.size + 1 := by have := (Array.getElem?_eq_some_iff.1 EK.out).1; omega
       have nzv_ : w21.heap.size ≠ w.heap.size + 1 + 1 := by have := (Array.getElem?_eq_some_iff.1 EV.out).1; omega
       obtain ⟨z0_, z1_, z2_, z3_, z4_⟩ := row5 E0.out
       obtain ⟨u0_, u1_, u2_⟩ := row3 EK.out
       obtain ⟨v0_, v1_, v2_, v3_, v4_⟩ := row5 EV.out
       go_region_held3 (fun w' => w'.cell? ⟨w.heap.size, 0, none⟩ = some (.bool b) /\ w'.cell? ⟨w.heap.size, 1, none⟩ = some (.slice A n c) /\ w'.cell? ⟨w.heap.size, 2, none⟩ = some (.slice B m d) /\ w'.cell? ⟨w.heap.size, 3, none⟩ = some (.int .i64 x) /\ w'.cell? ⟨w.heap.size, 4, none⟩ = some (.int .i64 k) /\ w'.cell? ⟨w.heap.size + 1, 0, none⟩ = some (.bool yb) /\ w'.cell? ⟨w.heap.size + 1, 1, none⟩ = some (.int .i64 yn) /\ w'.cell? ⟨w.heap.size + 1, 2, none⟩ = some (.string ys) /\ w'.cell? ⟨w.heap.size + 1 + 1, 0, none⟩ = some (.int .i64 kv) /\ w'.cell? ⟨w.heap.size + 1 + 1, 1, none⟩ = some (.int .i64 nv) /\ w'.cell? ⟨w.heap.size + 1 + 1, 2, none⟩ = some (.string sv) /\ w'.cell? ⟨w.heap.size + 1 + 1, 3, none⟩ = some (.int .i64 xv) /\ w'.cell? ⟨w.heap.size + 1 + 1, 4, none⟩ = some (.slice Av Lv cv)) (go_keep) (first
         | (go_at_call 28; refine (TT.out _ (by first | exact HB.out | exact HB.out.trans ((Below.refl _ _).drew) | exact HB.out.alloc HB.out.size _ | exact (HB.out.trans ((Below.refl _ _).drew)).alloc HB.out.size _ | exact (HB.out.alloc HB.out.size _).trans ((Below.refl _ _).drew))).mono ?_
            rintro e w22 ⟨A5, c5, g5, m5, rfl, hown, hmid, hlo, hmg, hs, hb⟩
            have hbx : Below w21.heap.size w21 w22 := by first | exact hb | exact bs ((Below.refl _ _).drew) hb | exact bs (b1 _ _) hb | exact bs (bs ((Below.refl _ _).drew) (b1 _ _)) hb | exact bs (bs (b1 _ _) ((Below.refl _ _).drew)) hb
            first | (have ez := hid (carry hb (heap_alloc_new w21 (.cells #[.bool false, .slice none 0 0, .slice none 0 0, .int .i64 0, .int .i64 0] IT)))) | (have ez := hid (carry hb (heap_alloc_new w21.drew (.cells #[.bool false, .slice none 0 0, .slice none 0 0, .int .i64 0, .int .i64 0] IT)))) | (replace ez := hid (carry hbx ez.out)) | skip
            have HO5 := hid hown
            have HX5 := hid (show SIn w22 (Nw 0 w22) sl (some ⟨g5, 0, none⟩) from hs.stays (fun q hq => ⟨Nat.zero_le _, hq.2⟩) (fun _ _ _ => rfl))
            clear hown hmid hlo hmg hs
            replace E0 := hid (carry hbx E0.out)
            replace EK := hid (carry hbx EK.out)
            replace EV := hid (carry hbx EV.out)
            replace E6 := hid (carry hbx E6.out)
            replace E8 := hid (carry hbx E8.out)
            replace HT6 := hid (HT6.out.below hbx)
            replace HRS := hid (HRS.out.below hbx)
            replace HB := hid (bs HB.out hbx)
            replace HW := hid (bs HW.out hbx)
            have hzw_ : w21.heap.size <= w22.heap.size := HW.out.size
            obtain ⟨z0_, z1_, z2_, z3_, z4_⟩ := row5 E0.out
            obtain ⟨u0_, u1_, u2_⟩ := row3 EK.out
            obtain ⟨v0_, v1_, v2_, v3_, v4_⟩ := row5 EV.out
            have nzz_ : w22.heap.size ≠ w.heap.size := by have := (Array.getElem?_eq_some_iff.1 E0.out).1; omega
            have nzu_ : w22.heap.size ≠ w.heap.size + 1 := by have := (Array.getElem?_eq_some_iff.1 EK.out).1; omega
            have nzv_ : w22.heap.size ≠ w.heap.size + 1 + 1 := by have := (Array.getElem?_eq_some_iff.1 EV.out).1; omega
            clear hb hbx)
         | (go_at_call 29; refine (TK.out _).mono ?_
            rintro e w23 ⟨rfl, hb⟩
            have hbx : Below w22.heap.size w22 w23 := by first | exact hb | exact bs ((Below.refl _ _).drew) hb | exact bs (b1 _ _) hb | exact bs (bs ((Below.refl _ _).drew) (b1 _ _)) hb | exact bs (bs (b1 _ _) ((Below.refl _ _).drew)) hb
            first | (have ez := hid (carry hb (heap_alloc_new w22 (.cells #[.bool false, .slice none 0 0, .slice none 0 0, .int .i64 0, .int .i64 0] IT)))) | (have ez := hid (carry hb (heap_alloc_new w22.drew (.cells #[.bool false, .slice none 0 0, .slice none 0 0, .int .i64 0, .int .i64 0] IT)))) | (replace ez := hid (carry hbx ez.out)) | skip
            replace HX5 : Hid (SIn w23 (Nw 0 w23) sl (some ⟨g5, 0, none⟩)) := hid (sin_nw HX5.out hbx)
            replace E0 := hid (carry hbx E0.out)
            replace EK := hid (carry hbx EK.out)
            replace EV := hid (carry hbx EV.out)
            replace E6 := hid (carry hbx E6.out)
            replace E8 := hid (carry hbx E8.out)
            replace HT6 := hid (HT6.out.below hbx)
            replace HRS := hid (HRS.out.below hbx)
            replace HO5 := hid (HO5.out.below hbx)
            replace HB := hid (bs HB.out hbx)
            replace HW := hid (bs HW.out hbx)
            have hzw_ : w21.heap.size <= w23.heap.size := HW.out.size
            obtain ⟨z0_, z1_, z2_, z3_, z4_⟩ := row5 E0.out
            obtain ⟨u0_, u1_, u2_⟩ := row3 EK.out
            obtain ⟨v0_, v1_, v2_, v3_, v4_⟩ := row5 EV.out
            have nzz_ : w23.heap.size ≠ w.heap.size := by have := (Array.getElem?_eq_some_iff.1 E0.out).1; omega
            have nzu_ : w23.heap.size ≠ w.heap.size + 1 := by have := (Array.getElem?_eq_some_iff.1 EK.out).1; omega
            have nzv_ : w23.heap.size ≠ w.heap.size + 1 + 1 := by have := (Array.getElem?_eq_some_iff.1 EV.out).1; omega
            clear hb hbx)
         | (go_at_call 30; refine (TV.out _ (by first | exact HB.out | exact HB.out.trans ((Below.refl _ _).drew) | exact HB.out.alloc HB.out.size _ | exact (HB.out.trans ((Below.refl _ _).drew)).alloc HB.out.size _ | exact (HB.out.alloc HB.out.size _).trans ((Below.refl _ _).drew))).mono ?_
            rintro e w24 ⟨A3, c3, rfl, hv, hb⟩
            have hbx : Below w23.heap.size w23 w24 := by first | exact hb | exact bs ((Below.refl _ _).drew) hb | exact bs (b1 _ _) hb | exact bs (bs ((Below.refl _ _).drew) (b1 _ _)) hb | exact bs (bs (b1 _ _) ((Below.refl _ _).drew)) hb
            first | (have ez := hid (carry hb (heap_alloc_new w23 (.cells #[.bool false, .slice none 0 0, .slice none 0 0, .int .i64 0, .int .i64 0] IT)))) | (have ez := hid (carry hb (heap_alloc_new w23.drew (.cells #[.bool false, .slice none 0 0, .slice none 0 0, .int .i64 0, .int .i64 0] IT)))) | (replace ez := hid (carry hbx ez.out)) | skip
            replace HX5 : Hid (SIn w24 (Nw 0 w24) sl (some ⟨g5, 0, none⟩)) := hid (sin_nw HX5.out hbx)
            have HV5 := hid hv.nw0
            clear hv
            replace E0 := hid (carry hbx E0.out)
            replace EK := hid (carry hbx EK.out)
            replace EV := hid (carry hbx EV.out)
            replace E6 := hid (carry hbx E6.out)
            replace E8 := hid (carry hbx E8.out)
            replace HT6 := hid (HT6.out.below hbx)
            replace HRS := hid (HRS.out.below hbx)
            replace HO5 := hid (HO5.out.below hbx)
            replace HB := hid (bs HB.out hbx)
            replace HW := hid (bs HW.out hbx)
            have hzw_ : w21.heap.size <= w24.heap.size := HW.out.size
            obtain ⟨z0_, z1_, z2_, z3_, z4_⟩ := row5 E0.out
            obtain ⟨u0_, u1_, u2_⟩ := row3 EK.out
            obtain ⟨v0_, v1_, v2_, v3_, v4_⟩ := row5 EV.out
            have nzz_ : w24.heap.size ≠ w.heap.size := by have := (Array.getElem?_eq_some_iff.1 E0.out).1; omega
            have nzu_ : w24.heap.size ≠ w.heap.size + 1 := by have := (Array.getElem?_eq_some_iff.1 EK.out).1; omega
            have nzv_ : w24.heap.size ≠ w.heap.size + 1 + 1 := by have := (Array.getElem?_eq_some_iff.1 EV.out).1; omega
            clear hb hbx)
         | (go_at_call 10; refine (LI.out _ _ _ _ _ _ _ (by first | exact HB.out | exact HB.out.trans ((Below.refl _ _).drew) | exact HB.out.alloc HB.out.size _ | exact (HB.out.trans ((Below.refl _ _).drew)).alloc HB.out.size _ | exact (HB.out.alloc HB.out.size _).trans ((Below.refl _ _).drew)) (by first | exact HO5.out | exact HO5.out.below ((Below.refl _ _).drew) | exact HO5.out.below (b1 _ _) | exact HO5.out.below (bs ((Below.refl _ _).drew) (b1 _ _)) | exact HO5.out.below (bs (b1 _ _) ((Below.refl _ _).drew))) (by first | exact HX5.out | exact sin_nw HX5.out ((Below.refl _ _).drew) | exact sin_nw HX5.out (b1 _ _) | exact sin_nw HX5.out (bs ((Below.refl _ _).drew) (b1 _ _)) | exact sin_nw HX5.out (bs (b1 _ _) ((Below.refl _ _).drew))) (by first | exact HV5.out | exact HV5.out.nwb ((Below.refl _ _).drew) | exact HV5.out.nwb (b1 _ _) | exact HV5.out.nwb (bs ((Below.refl _ _).drew) (b1 _ _)) | exact HV5.out.nwb (bs (b1 _ _) ((Below.refl _ _).drew)))).mono ?_
            rintro e w25x ⟨A12, c12, B12, d12, G2, rfl, hot, hb⟩
            have hbx : Below w24.heap.size w24 w25x := by first | exact hb | exact bs ((Below.refl _ _).drew) hb | exact bs (b1 _ _) hb | exact bs (bs ((Below.refl _ _).drew) (b1 _ _)) hb | exact bs (bs (b1 _ _) ((Below.refl _ _).drew)) hb
            first | (have nzw := hid (Array.getElem?_eq_some_iff.1 ez.out).1; replace ez := hid (carry hbx ez.out)) | (have ez := hid (carry hb (heap_alloc_new w24 (.cells #[.bool false, .slice none 0 0, .slice none 0 0, .int .i64 0, .int .i64 0] IT))); have nzw := hid (Array.getElem?_eq_some_iff.1 (heap_alloc_new w24 (.cells #[.bool false, .slice none 0 0, .slice none 0 0, .int .i64 0, .int .i64 0] IT))).1) | (have ez := hid (carry hb (heap_alloc_new w24.drew (.cells #[.bool false, .slice none 0 0, .slice none 0 0, .int .i64 0, .int .i64 0] IT))); have nzw := hid (Array.getElem?_eq_some_iff.1 (heap_alloc_new w24.drew (.cells #[.bool false, .slice none 0 0, .slice none 0 0, .int .i64 0, .int .i64 0] IT))).1) | skip
            have HOT := hid hot
            have hzl_ : w21.heap.size <= w24.heap.size := hzw_
            clear hot
            clear HO5 HX5 HV5
            replace E0 := hid (carry hbx E0.out)
            replace EK := hid (carry hbx EK.out)
            replace EV := hid (carry hbx EV.out)
            replace E6 := hid (carry hbx E6.out)
            replace E8 := hid (carry hbx E8.out)
            replace HT6 := hid (HT6.out.below hbx)
            replace HRS := hid (HRS.out.below hbx)
            replace HB := hid (bs HB.out hbx)
            replace HW := hid (bs HW.out hbx)
            have hzw_ : w21.heap.size <= w25x.heap.size := HW.out.size
            obtain ⟨z0_, z1_, z2_, z3_, z4_⟩ := row5 E0.out
            obtain ⟨u0_, u1_, u2_⟩ := row3 EK.out
            obtain ⟨v0_, v1_, v2_, v3_, v4_⟩ := row5 EV.out
            have nzz_ : w25x.heap.size ≠ w.heap.size := by have := (Array.getElem?_eq_some_iff.1 E0.out).1; omega
            have nzu_ : w25x.heap.size ≠ w.heap.size + 1 := by have := (Array.getElem?_eq_some_iff.1 EK.out).1; omega
            have nzv_ : w25x.heap.size ≠ w.heap.size + 1 + 1 := by have := (Array.getElem?_eq_some_iff.1 EV.out).1; omega
            clear hb hbx
            first | (have zr := (rowc ez.out).1; have zf := (rowc ez.out).2) | skip))
       all_goals
         go_wp2_with (fail)
         go_meet
         first
         | exact ⟨rfl, by with_reducible exact cutT_boxPF HW.out HOT.out (by first | exact hzl_ | exact Nat.le_trans hzl_ (by simp))⟩
         | exact ⟨rfl, cutT_earlyPF HW.out (by first | exact Nat.le_refl _ | assumption) ez.out HOT.out nzw.out rfl⟩
     case rest =>
       obtain ⟨hf, hcut⟩ := hcut
       subst hf
       obtain ⟨Q12, A12, c12, B12, d12, hp, hbx, hQ12, e12, G2, lo2, hi2, hot, -, -, -, -⟩ := hcut
       subst hp
       obtain ⟨w25, hwc⟩ : ∃ q, q = wc := ⟨wc, rfl⟩
       subst hwc
       have E12 := hid e12
       have HG12 := hid hot
       replace E6 := hid (carry hbx E6.out)
       replace E8 := hid (carry hbx E8.out)
       replace HT6 := hid (HT6.out.below hbx)
       replace HRS := hid (HRS.out.below hbx)
       replace HB := hid (bs HB.out hbx)
       clear e12 hot hQ12 hbx
       obtain ⟨p0_, p1_, p2_, p3_, p4_⟩ := row5 E6.out
       obtain ⟨h0_, h1_, h2_, h3_, h4_⟩ := row5 E12.out
       go_wp2_with (fail)
       refine (ER.out _ _ _ _ _ _ _ _ _ _ _ _ HG12.out HT6.out).mono ?_
       rintro e w26 ⟨rfl, hb⟩
       replace E6 := hid (carry hb E6.out)
       replace E8 := hid (carry hb E8.out)
       replace HT6 := hid (HT6.out.below hb)
       replace HRS := hid (HRS.out.below hb)
       replace HB := hid (bs HB.out hb)
       clear hb
       clear p0_ p1_ p2_ p3_ p4_ h0_ h1_ h2_ h3_ h4_
       obtain ⟨s0_, s1_, s2_, s3_, s4_⟩ := row5 E8.out
       go_wp2_with (fail)
       refine (HD.out _ _ _ _ _ _ _ _ HFI.out HRS.out).mono ?_
       rintro e w27 ⟨rfl, hb⟩
       replace HB := hid (bs HB.out hb)
       clear hb
       clear s0_ s1_ s2_ s3_ s4_
       go_wp2_with (fail)
       go_ret
       exact ⟨rfl, HB.out⟩
end Go.Proofs.YtdgfpfkhcojgaaaGreatDoor.fnExactTableSet
/-
 What FnExactTableSet returns, in the words of its row.
 Conditions: the package variables that the row lists hold what the program's text lays.
-/
namespace Go.Proofs.YtdgfpfkhcojgaaaGreatDoor.fnExactTableSet
open Go.ChangeShapes Go.WideShapes Go.ChangeAt Go.RowKit tree
open Go.ChangeMaps (open_string)
set_option linter.unusedVariables false
set_option maxRecDepth 100000 in
theorem lifted (os : Os) (started : os.Started) (H : Type) (enc : TypeId × Value -> H) :
   ReturnsInHanded {} Tryz.checked os 5 .any (fun w args => (Rows.fnExactTableSetSpec.pre enc Tryz.prog Tryz.f5 [] false w args /\ laidMetH Tryz.prog prs.laidOf w) /\ sizedMet enc Tryz.prog Tryz.f5 (OpenSpec.ofChange Rows.fnExactTableSetSpec) false w args)
     (Rows.fnExactTableSetSpec.post enc Tryz.prog Tryz.f5 false true false false) := by
 refine returnsInHanded_of_change_and (C := Tryz.checked) (X := fun w _ => laidMetH Tryz.prog prs.laidOf w) (fun _ _ _ hh h => h.of_heap hh) own started (by kernel_rfl) Tryz.func5
   (ChangeSpec.witness_shaped (enc := enc) (C := Tryz.checked) (os := os) (X := fun w _ => laidMetH Tryz.prog prs.laidOf w) false (World.doorLaid Tryz.prog 400 os) #[.agg #[.bool false, .slice none 0 0, .slice none 0 0, .int .i64 0, .int .i64 0], .agg #[.bool false, .int .i64 0, .string ⟨#[]⟩], .agg #[.int .i64 0, .int .i64 0, .string ⟨#[]⟩, .int .i64 0, .slice none 0 0]] 8 rfl (World.shaped_of_RefB (by kernel_rfl) (by kernel_rfl)) (by kernel_rfl) (by kernel_rfl) (by kernel_rfl) (prs.door_met os _)) ?_
 intro W base args ds gs before hval0 hW _ hsz0 hL _
 have hval : ∀ (j : Nat) t v, Tryz.f5.params[j]? = some t -> args[j]? = some v -> Value.okWide Tryz.prog W .any base t v := hval0
 have hW' := hW
 obtain ⟨p, q, hA0, hV, rfl, hfz, hnd⟩ := hW
 have hA : DataW.TrodAll enc Tryz.prog W 0 (fun _ => true) true Tryz.f5.params.toList args.toList ds p := hA0
 have hA2 := hA
 rw [Tryz.params5] at hA hval
 obtain ⟨v0, vs0, d0, ds0, p0, q0, hargs, rfl, rfl, h0, r0⟩ := trodAll_cons hA
 obtain ⟨v1, vs1, d1, ds1, p1, q1, rfl, rfl, rfl, h1, r1⟩ := trodAll_cons r0
 obtain ⟨v2, vs2, d2, ds2, p2, q2, rfl, rfl, rfl, h2, r2⟩ := trodAll_cons r1
 obtain ⟨rfl, rfl, rfl⟩ := trodAll_nil r2
 obtain rfl : args = #[v0, v1, v2] := by cases args; simp_all
 obtain ⟨rfl, rfl⟩ := trodVars_none hV
 obtain ⟨b0, A0, n0, c0, B0, m0, d0, nx0, ct0, l0, sl0, rfl, hr0⟩ := open_table (hval 0 55 v0 rfl rfl) h0
 obtain ⟨y1, rfl, hy1⟩ := opt.open_key (hval 1 56 v1 rfl rfl) h1
 obtain ⟨t2, hr2⟩ := opt.open_value (hval 2 59 v2 rfl rfl) h2
 clear hA0 hval0
 simp only [List.append_nil] at hW' hA2
 refine (walk b0 A0 n0 c0 B0 m0 d0 nx0 ct0 l0 sl0 y1 t2 v2 W hr0 hy1 hr2 (prs.env_of hL)).mono fun e W' ⟨he, hb⟩ => ?_
 subst he
 exact ⟨_, rfl, opn.post_true hW' rfl hA2 rfl rfl Tryz.underlying4 (by kernel_rfl) (by kernel_rfl) hb⟩
end Go.Proofs.YtdgfpfkhcojgaaaGreatDoor.fnExactTableSet
