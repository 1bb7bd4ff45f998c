/-
  A table copied into new memory, of the project: the walk.
  Conditions: those that each theorem names.
-/
import Derived.Test.YtdgfpfkhcojgaaaGreatDoorTBB5
import Derived.Test.YtdgfpfkhcojgaaaGreatDoorTBB4
import Derived.Deep.RegionHeld3
namespace Go.Proofs.YtdgfpfkhcojgaaaGreatDoor.tree
open Go.ChangeShapes Go.WideShapes Go.ChangeAt Go.RowKit
set_option linter.unusedVariables false

theorem fill5t {w wF : World} {R : Nat} {t : TypeId} {a b c d e c0 c1 c2 c3 c4 : Value} (h : w.heap[R]? = some (.cells #[a, b, c, d, e] t (0, 0)))
    (hF : (((((w.setCell ⟨R, 0, none⟩ c0).setCell ⟨R, 1, none⟩ c1).setCell ⟨R, 2, none⟩ c2).setCell ⟨R, 3, none⟩ c3).setCell ⟨R, 4, none⟩ c4) = wF) :
    (∀ j, wF.cell? ⟨R, j, none⟩ = (#[c0, c1, c2, c3, c4] : Array Value)[j]?) ∧ (∀ q, q ≠ R → wF.heap[q]? = w.heap[q]?) ∧ ∀ (B : Nat) (w0 : World), B ≤ R → Below B w0 w → Below B w0 wF := by
  subst hF
  refine ⟨fun j => ?_, fun q hq => ?_, fun B w0 hB hb => ?_⟩
  · have := set_heap (set_heap (set_heap (set_heap (set_heap h 0 c0) 1 c1) 2 c2) 3 c3) 4 c4
    rw [cell_of_row _ _ j _ _ _ this]
    simp
  · rw [set_other hq, set_other hq, set_other hq, set_other hq, set_other hq]
  · exact ((((hb.setCell hB _).setCell hB _).setCell hB _).setCell hB _).setCell hB _

theorem run_f4n (A : Option Addr) (L c : Nat) (W : World) : (Instr.field IV (.agg #[.int .i64 0, .int .i64 0, .string ⟨#[]⟩, .int .i64 0, .slice A L c]) 4).run Tryz.prog W = .ok (.slice A L c) W := by kernel_rfl
theorem LaidP.step {w w1 w2 : World} {par : Nat → Nat × Nat} {R g L j : Nat} {sl : List Sl} (h : LaidP w par R g L j sl) (hgR : g ≤ R) (hb : ∀ q, q < w.heap.size → w1.heap[q]? = w.heap[q]?) {t : Sl} {k n x : Int} {s : ByteArray} {ks' : List Ky} {vs' : List Tr} {A : Option Addr} {c : Nat}
    (ht : sl[j]? = some t) (hv : t.val = .mk k n s x ks' vs') (hti : TPar w1 par (R, j) t.val (vV k n s x A vs'.length c)) (hj : j < L)
    (hg : ∀ arr, w1.heap[g]? = some (.cells arr IS (0, 0)) → w2.heap[g]? = some (.cells (set8 arr (j * 10) (.bool t.key.text) (.int .i64 t.key.num) (.string t.key.str) (.int .i64 k) (.int .i64 n) (.string s) (.int .i64 x) (.slice A vs'.length c)) IS (0, 0)))
    (ho : ∀ b, b ≠ g → w2.heap[b]? = w1.heap[b]?) : LaidP w2 par R g L (j + 1) sl := by
  obtain ⟨arr, hg0, hs, h⟩ := h
  have glt : g < w.heap.size := (Array.getElem?_eq_some_iff.1 hg0).1
  have hg1 := hg arr ((hb _ glt).trans hg0)
  refine ⟨_, hg1, by rw [set8_size]; exact hs, fun i t' ht' => ?_⟩
  obtain ⟨h1, h2, h3, h4, h5⟩ := h i t' ht'
  refine ⟨h1, h2, ?_, ?_, fun hi => ?_⟩
  · rw [set8_out _ _ _ _ _ _ _ _ _ _ _ (by omega)]; exact h3
  · rw [set8_out _ _ _ _ _ _ _ _ _ _ _ (by omega)]; exact h4
  rcases Nat.lt_or_ge i j with hlt | hge
  · obtain ⟨k', n', s', x', ks2, vs2, A', c', hv', hT', hc'⟩ := h5 hlt
    refine ⟨k', n', s', x', ks2, vs2, A', c', hv', hT'.above fun q hq hl => (ho q (by have : R < q := hq; omega)).trans (hb q hl), fun q hq => ?_⟩
    rw [set8_out _ _ _ _ _ _ _ _ _ _ _ (by omega)]
    exact hc' q hq
  · obtain rfl : i = j := by omega
    rw [ht] at ht'
    obtain rfl := Option.some.inj ht'
    refine ⟨k, n, s, x, ks', vs', A, c, hv, hti.above fun q hq _ => ho q (by have : R < q := hq; omega), fun q hq => ?_⟩
    by_cases h8 : q < 8
    · rw [set8_in _ _ _ _ _ _ _ _ _ _ (by rw [hs]; omega) q h8]
      match q, h8 with
      | 0, _ => rfl
      | 1, _ => rfl
      | 2, _ => rfl
      | 3, _ => rfl
      | 4, _ => rfl
      | 5, _ => rfl
      | 6, _ => rfl
      | 7, _ => rfl
    · rw [set8_out _ _ _ _ _ _ _ _ _ _ _ (by omega)]
      rcases (show q = 8 ∨ q = 9 by omega) with rfl | rfl
      · exact h3
      · exact h4

theorem owni_blk {w w' : World} {lo n c : Nat} {A : Option Addr} {l : List Int} (h : imem.OwnI w lo A n c l) (hs : ∀ q, (Value.slice A n c).ownBlock = some q → w'.heap[q]? = w.heap[q]?) : imem.OwnI w' lo A n c l := by
  refine ⟨h.1, h.2.1, ?_⟩
  rcases h.2.2 with h | ⟨g, cap, cur, e, hlo, hg, hr⟩
  · exact .inl h
  · exact .inr ⟨g, cap, cur, e, hlo, (hs g (by rw [e]; rfl)).trans hg, hr⟩
theorem LaidP.same {w w' : World} {par : Nat → Nat × Nat} {R g L j : Nat} {sl : List Sl} (h : LaidP w par R g L j sl) (hg : w'.heap[g]? = w.heap[g]?) (hR : ∀ q, R < q → q < w.heap.size → w'.heap[q]? = w.heap[q]?) : LaidP w' par R g L j sl := by
  obtain ⟨arr, hg0, hs, h⟩ := h
  refine ⟨arr, hg.trans hg0, hs, fun i t ht => ?_⟩
  obtain ⟨h1, h2, h3, h4, h5⟩ := h i t ht
  refine ⟨h1, h2, h3, h4, fun hi => ?_⟩
  obtain ⟨k, n, s, x, ks, vs, A, c, hv, hT, hc⟩ := h5 hi
  exact ⟨k, n, s, x, ks, vs, A, c, hv, hT.above fun q hq hl => hR q hq hl, hc⟩
theorem drew_heap (w : World) : w.drew.heap = w.heap := rfl
theorem rcasesP {w : World} {par : Nat → Nat × Nat} {R g G m d j : Nat} {sl : List Sl} {B : Addr} (h : ((some B : Option Addr) = none ∧ m = 0) ∨ ((some B : Option Addr) = some ⟨g, 0, none⟩ ∧ g < G ∧ (m ≤ d ∧ d ≤ maxLen) ∧ LaidP w par R g d j sl)) : LaidP w par R g d j sl := by
  rcases h with ⟨h, -⟩ | ⟨-, -, -, h⟩
  · cases h
  · exact h
def CtQ (w : World) (l : List Int) (sl : List Sl) (b : Bool) (n m : Nat) (x k : Int) (e : Ending) (w' : World) : Prop :=
  ∃ A1 c1 B1 d1 par R, e = .returned (tbV b A1 n c1 B1 m d1 x k) ∧ OwnT w' par R w.heap.size l sl A1 n c1 B1 m d1 ∧ Below w.heap.size w w'

set_option maxRecDepth 100000 in
set_option maxHeartbeats 4000000 in
theorem copyTable_i {l : List Int} {sl : List Sl} {b : Bool} {A : Option Addr} {n c : Nat} {B : Option Addr} {m d : Nat} {x k : Int} (w : World) (hr : TbIn w (Nw 0 w) l sl A n c B m d x k) (hn : n ≤ 1048576) (hm : m ≤ 1048576) (hcn : cnt (.mk 0 0 ⟨#[]⟩ 0 (skS sl) (svS sl)) ≤ 1048578) (htt : tot (.mk 0 0 ⟨#[]⟩ 0 (skS sl) (svS sl)) ≤ 1000000000) :
    Calls Tryz.prog 52 #[tbV b A n c B m d x k] w (CtQ w l sl b n m x k) := by
  obtain ⟨P, HP⟩ : ∃ P, Hid (w.heap.size = P) := ⟨_, Lib.hid rfl⟩
  obtain ⟨S, HS⟩ : ∃ S : Nat → Prop, Hid (S = fun b => b < P ∧ Plain w b) := ⟨_, Lib.hid rfl⟩
  have HSI : Hid (SIn w S sl B) := Lib.hid (by rw [HS.out, ← HP.out]; exact hr.slots.stays (fun b hb => ⟨hb.2.lt, hb.2⟩) (fun _ _ _ => rfl))
  have CI : Hid (∀ w', Below w.heap.size w w' → Calls Tryz.prog 109 #[.slice A n c] w' (fun e w2 => ∃ A' c', e = .returned (.slice A' n c') ∧ imem.OwnI w2 w'.heap.size A' n c' l ∧ Below w'.heap.size w' w2)) := Lib.hid fun w' hb => copyInts A n c l w' (hr.heads.below hb) hn
  have CS : Hid (∀ w', Below w.heap.size w w' → Calls Tryz.prog 110 #[.slice B m d] w' (CsQ w' S sl m)) := Lib.hid fun w' hb => copySlots B m d sl w' (HSI.out.below hb) hr.len hm
  have HLN := Lib.hid hr.len
  have hnx := hr.next
  have hct := hr.count
  have HN2 := Lib.hid hcn
  have HT2 := Lib.hid htt
  obtain ⟨i0, hi, hz⟩ := ie_info
  have MK := fun (W : World) => run_make (P := Tryz.prog) W 30 IE i0 _ Tryz.underlying30 hi hz.1 .i64 .i64 m m (by omega) (Int.le_refl _) (by rw [hz.2.2]; omega) (by omega)
  rw [hz.2.1] at MK
  simp only [Int.toNat_natCast] at MK
  obtain ⟨arr0, HA⟩ : ∃ a, Hid (a = madeCells (Value.agg #[.bool false, .int .i64 0, .string ⟨#[]⟩, .int .i64 0, .int .i64 0, .string ⟨#[]⟩, .int .i64 0, .slice none 0 0]).cells (m * 8)) := ⟨_, Lib.hid rfl⟩
  rw [← HA.out] at MK
  have HSZ : Hid (arr0.size = m * 8) := Lib.hid (by rw [HA.out, size_madeCells])
  clear hr hi hz hcn htt hn
  go_enter Tryz.func52, Tryz.ntmps52
  go_wp2_with (fail)
  rw [HP.out]
  refine (CI.out _ (b2 _ _ _)).mono ?_
  rintro e w1 ⟨A1, c1, rfl, ho, hb⟩
  have H0 := Lib.hid (carry hb (heap_alloc2_old w _ _))
  have H1 := Lib.hid (carry hb (heap_alloc2_new w _ _))
  rw [HP.out] at H0 H1
  have HB := Lib.hid (bs (b2 w _ _) hb)
  have hz1 : P + 2 ≤ w1.heap.size := by have := (Array.getElem?_eq_some_iff.1 H1.out).1; omega
  have HO := Lib.hid (ho.less (show P + 2 ≤ _ by rw [← HP.out]; simp))
  obtain ⟨r0, f0⟩ := rowc H0.out
  have q2 := r0 2
  simp at q2
  clear ho hb CI
  go_wp2_with (fail)
  generalize hw2 : w1.setCell ⟨P, 1, none⟩ (.slice A1 n c1) = w2
  have H02 : Hid (w2.heap[P]? = some (.cells #[.bool b, .slice A1 n c1, .slice B m d, .int .i64 x, .int .i64 k] IT (0, 0))) := Lib.hid (by rw [← hw2]; have := set_heap H0.out 1 (.slice A1 n c1); simpa using this)
  have ho1 : w2.heap[P + 1]? = w1.heap[P + 1]? := by rw [← hw2, set_other (by omega)]
  have H12 := Lib.hid (ho1.trans H1.out)
  clear ho1
  have HB2 : Hid (Below w.heap.size w w2) := Lib.hid (hw2 ▸ HB.out.setCell (show w.heap.size ≤ P by rw [HP.out]; omega) _)
  have hz2 : w2.heap.size = w1.heap.size := by rw [← hw2, set_size]
  have HO2 : Hid (imem.OwnI w2 (P + 2) A1 n c1 l) := Lib.hid (owni_up HO.out fun q hq _ => by rw [← hw2, set_other (by omega)])
  rw [← hz2] at hz1
  clear hw2 r0 f0 q2 H0 H1 HB HO hz2
  refine (CS.out _ HB2.out).mono ?_
  rintro e w3 ⟨B1, d1, rfl, hos, hb⟩
  have H03 := Lib.hid (carry hb H02.out)
  have H13 := Lib.hid (carry hb H12.out)
  have HB3 := Lib.hid (bs HB2.out hb)
  have HO3 := Lib.hid (HO2.out.below hb)
  have HOL : Hid (∀ h, (Value.slice A1 n c1).ownBlock = some h → h < w2.heap.size) := Lib.hid (fun h e => (HO2.out.block h e).2)
  have hz3 : w2.heap.size ≤ w3.heap.size := hb.size
  have HOS := Lib.hid hos
  obtain ⟨r0, f0⟩ := rowc H03.out
  clear hb hos CS HB2 HO2 H02 H12
  go_upto_region 4 with fail
  obtain ⟨G, HG⟩ : ∃ G, Hid (w3.heap.size = G) := ⟨_, Lib.hid rfl⟩
  rw [HG.out]
  generalize hw5 : (w3.setCell ⟨P, 2, none⟩ (.slice B1 m d1)).alloc (.cells arr0 IE) = w5
  have hw4 : ∀ q, q ≠ P → q < w3.heap.size → w5.heap[q]? = w3.heap[q]? := fun q h h2 => by rw [← hw5, (b1 _ _).block q (by rw [set_size]; exact h2), set_other h]
  have H0 : Hid (w5.heap[P]? = some (.cells #[.bool b, .slice A1 n c1, .slice B1 m d1, .int .i64 x, .int .i64 k] IT (0, 0))) := Lib.hid (by rw [← hw5]; exact keepAlloc (by have := set_heap H03.out 2 (.slice B1 m d1); simpa using this))
  have H1 := Lib.hid ((hw4 (P + 1) (by omega) (Array.getElem?_eq_some_iff.1 H13.out).1).trans H13.out)
  have HB : Hid (Below w.heap.size w w5) := Lib.hid (hw5 ▸ (HB3.out.setCell (show w.heap.size ≤ P by rw [HP.out]; omega) _).alloc (by rw [set_size]; exact HB3.out.size) _)
  have HO : Hid (imem.OwnI w5 (P + 2) A1 n c1 l) := Lib.hid (owni_up HO3.out fun q hq h2 => hw4 q (by omega) h2)
  have HIT : Hid (w5.heap[G]? = some (.cells arr0 IE (0, 0))) := Lib.hid (by
    rw [← hw5, ← HG.out]
    have := heap_alloc_new (w3.setCell ⟨P, 2, none⟩ (.slice B1 m d1)) (.cells arr0 IE)
    rwa [set_size] at this)
  have hG : w2.heap.size ≤ G := by rw [← HG.out]; exact hz3
  have hPG : P + 2 ≤ G := by omega
  obtain ⟨g3, HG3⟩ : ∃ g3, Hid (w2.heap.size = g3) := ⟨_, Lib.hid rfl⟩
  rw [HG3.out] at HOS HOL hG hz1
  have HND : Hid (B1 = none → d1 = 0) := Lib.hid HOS.out.2.2.2.2
  have HCP : Hid (m ≤ d1 ∧ d1 ≤ maxLen) := Lib.hid (by
    obtain ⟨-, -, h3, -⟩ := HOS.out
    exact h3)
  have HSL : Hid (SIn w5 (fun b => b < G ∧ Plain w5 b) sl B1 ∧ ((B1 = none ∧ m = 0) ∨ ∃ arr, B1 = some ⟨g3, 0, none⟩ ∧ g3 < G ∧ (m ≤ d1 ∧ d1 ≤ maxLen) ∧ w5.heap[g3]? = some (.cells arr IS (0, 0)) ∧ arr.size = d1 * 10)) := Lib.hid (by
    obtain ⟨h1, h2, h3, h4, -⟩ := HOS.out
    rcases h4 with ⟨rfl, rfl⟩ | ⟨g, arr, rfl, h5, h6, h7, h8⟩
    · exact ⟨fun i t ht => by have := (List.getElem?_eq_some_iff.1 ht).1; omega, .inl ⟨rfl, rfl⟩⟩
    · have e : g = g3 := by
        rcases h6 with h6 | h6
        · rw [HS.out] at h6
          have := h6.1
          omega
        · exact h6
      subst e
      have hlt : g < G := by rw [← HG.out]; exact (Array.getElem?_eq_some_iff.1 h7).1
      have h9 : w5.heap[g]? = some (.cells arr IS (0, 0)) := (hw4 g (by omega) (by rw [HG.out]; exact hlt)).trans h7
      refine ⟨h1.stays (fun q hq => ?_) (fun q hq hl => hw4 q ?_ hl), .inr ⟨arr, rfl, hlt, h3, h9, h8⟩⟩
      · rcases hq with hq | rfl
        · rw [HS.out] at hq
          exact ⟨by have := hq.1; omega, hq.2.same (HB.out.block q (by rw [HP.out]; exact hq.1))⟩
        · exact ⟨hlt, arr, IS, h9⟩
      · rcases hq with hq | rfl
        · rw [HS.out] at hq
          have := hq.1
          omega
        · omega)
  have hGz : G < w5.heap.size := (Array.getElem?_eq_some_iff.1 HIT.out).1
  obtain ⟨r5, f5⟩ := rowc H0.out
  have q2 := r5 2
  simp at q2
  clear hw5 hw4 HOS H03 H13 HB3 HO3 HSI MK r0 f0 r5 f5 hz3
  go_wp2_with (fail)
  go_loopg [23] (m + 1) (fun gk i wr => ∃ j : Nat, i = .int .i64 j ∧ gk + j = m + 1 ∧ j ≤ m ∧ Hid (LaidC wr G m j sl) ∧ Hid (Below G w5 wr))
  case atStart => exact ⟨0, rfl, by omega, by omega, Lib.hid ⟨arr0, HIT.out, HSZ.out, fun i t _ h => absurd h (by omega)⟩, Lib.hid (Below.refl _ _)⟩
  case round =>
    clear q2 HIT
    obtain ⟨j, rfl, hgj, hjm, HLC, HX⟩ := hrel
    by_cases hlt : j < m
    · obtain ⟨t, htj⟩ : ∃ t, sl[j]? = some t := ⟨_, List.getElem?_eq_getElem (by have := HLN.out; omega)⟩
      obtain ⟨a, k1, n1, s1, x1, ks1, vs1, A9, c9, rfl, hSa, hyb, hlb, hv, hT, hcell⟩ := HSL.out.1 j t htj
      have hc10 := hcell.stays (w' := wr) (fun hl => HX.out.block _ (by rw [mem.add_block]; exact hSa.1))
      have HTJ := Lib.hid htj
      have HTT : Hid (TIn wr (fun b => b < G ∧ Plain wr b) t.val (vV k1 n1 s1 x1 A9 vs1.length c9)) := Lib.hid (hT.stays (fun q hq => ⟨hq.1, hq.2.same (HX.out.block q hq.1)⟩) (fun q hq _ => HX.out.block q hq.1))
      have HYB := Lib.hid hyb
      have HVV := Lib.hid hv
      obtain ⟨⟨yb, yn, ys⟩, tv, tb, tl⟩ := t
      simp only at hc10
      obtain ⟨L1, HL1⟩ : ∃ L, Hid (vs1.length = L) := ⟨_, Lib.hid rfl⟩
      rw [HL1.out] at hc10 HTT
      obtain ⟨p0, p1, p2, p3, p4, p5, p6, p7, p8, p9⟩ := hc10
      simp only at p0 p1 p2
      clear hyb hlb hT hcell htj hv hSa
      go_upto_region 7 with fail
      obtain ⟨R, HRR⟩ : ∃ R, Hid (wr.heap.size = R) := ⟨_, Lib.hid rfl⟩
      rw [HRR.out]
      generalize hw6 : wr.alloc (.cells #[.bool yb, .int .i64 yn, .string ys, .int .i64 k1, .int .i64 n1, .string s1, .int .i64 x1, .slice A9 L1 c9, .bool tb, .int .i64 tl] IS) = w6
      have hb6 : Below wr.heap.size wr w6 := hw6 ▸ b1 wr _
      have H10 : Hid (w6.heap[R]? = some (.cells #[.bool yb, .int .i64 yn, .string ys, .int .i64 k1, .int .i64 n1, .string s1, .int .i64 x1, .slice A9 L1 c9, .bool tb, .int .i64 tl] IS (0, 0))) := Lib.hid (by rw [← hw6, ← HRR.out]; exact heap_alloc_new wr _)
      obtain ⟨arr, hg0, hs, -⟩ := HLC.out
      have glt : G < wr.heap.size := (Array.getElem?_eq_some_iff.1 hg0).1
      have hg1 := (hb6.block _ glt).trans hg0
      obtain ⟨r1, f1⟩ := rowc hg1
      have z : ∀ q, q < 8 → ∃ u, w6.cell? ⟨G, j * 8 + q, none⟩ = some u := fun q hq => ⟨_, (r1 _).trans (Array.getElem?_eq_getElem (by omega))⟩
      obtain ⟨u0, z0⟩ := z 0 (by omega)
      obtain ⟨u1, z1⟩ := z 1 (by omega)
      obtain ⟨u2, z2⟩ := z 2 (by omega)
      obtain ⟨u3, z3⟩ := z 3 (by omega)
      obtain ⟨u4, z4⟩ := z 4 (by omega)
      obtain ⟨u5, z5⟩ := z 5 (by omega)
      obtain ⟨u6, z6⟩ := z 6 (by omega)
      obtain ⟨u7, z7⟩ := z 7 (by omega)
      rw [Nat.add_zero] at z0
      have r10 := (rowc H10.out).1
      have v0 := r10 0; have v1 := r10 1; have v2 := r10 2; have v3 := r10 3; have v4 := r10 4; have v5 := r10 5; have v6 := r10 6; have v7 := r10 7
      simp at v0 v1 v2 v3 v4 v5 v6 v7
      have HB6 := Lib.hid hb6
      have hji : (j : Int) < (m : Int) := by omega
      clear hw6 hb6 r10 r1 z hg0 hg1 hs p0 p1 p2 p3 p4 p5 p6 p7 p8 p9
      go_wp2_with (fail)
      go_roundg (m - j)
      case rel =>
        refine ⟨j + 1, by go_num, by omega, by omega, Lib.hid (HLC.out.step HB6.out HTJ.out HVV.out (by rw [HL1.out]; exact HTT.out.stays (fun q hq => ⟨hq.1, hq.2.same (HB6.out.block q (by omega))⟩) (fun q hq _ => HB6.out.block q (by omega))) HYB.out hlt (fun arr hg => ?_) (fun q hq => ?_)), Lib.hid ?_⟩
        · rw [HL1.out]
          exact set_heap (set_heap (set_heap (set_heap (set_heap (set_heap (set_heap (set_heap hg _ _) _ _) _ _) _ _) _ _) _ _) _ _) _ _
        · simp only [set_other hq]
        · have hB := HX.out.trans (HB6.out.mono (Nat.le_of_lt glt))
          iterate 8 refine Below.setCell ?_ (show G ≤ G from Nat.le_refl _) _
          exact hB
      case measure => omega
    · obtain rfl : m = j := by omega
      have hvl : (svS sl).length = m := by simp [svS, HLN.out]
      have HV : Hid (TIn wr (Nw 0 wr) (.mk 0 0 ⟨#[]⟩ 0 (skS sl) (svS sl)) (vV 0 0 ⟨#[]⟩ 0 (some ⟨G, 0, none⟩) m m)) := Lib.hid (by
        have h := HLC.out.done HLN.out (by unfold maxLen; omega)
        have := TIn.of (k := 0) (n := 0) (s := ⟨#[]⟩) (x := 0) m ⟨by unfold I64; omega, by unfold I64; omega, by unfold I64; omega, Nat.zero_le _⟩ h ⟨by rw [hvl]; exact Nat.le_refl _, by unfold maxLen; omega⟩
        rw [hvl] at this
        exact this)
      have hGw : G < wr.heap.size := Nat.lt_of_lt_of_le hGz HX.out.size
      go_wp2_with (fail)
      refine (copyValue (.mk 0 0 ⟨#[]⟩ 0 (skS sl) (svS sl)) _ wr 0 HV.out HN2.out HT2.out).mono ?_
      rintro e w9 ⟨u, par, R0, rfl, hu, hR, hb9⟩
      obtain ⟨A8, c8, rfl, -, hkl, hc8, hg8⟩ := hu.out
      rw [hvl] at hc8 hg8 ⊢
      have HX9 := Lib.hid (HX.out.trans (hb9.mono (Nat.le_of_lt hGw)))
      have hG9 : G < w9.heap.size := Nat.lt_of_lt_of_le hGw hb9.size
      obtain ⟨R8, hR8, H8⟩ : ∃ R8, G ≤ R8 ∧ Hid (0 < m → A8 = some ⟨R8, 0, none⟩ ∧ R8 < w9.heap.size ∧ PBlk w9 par R8 (skS sl) (svS sl)) := by
        by_cases h0 : 0 < m
        · obtain ⟨g8, h1, -, h3, h4⟩ := hg8 h0
          refine ⟨g8, ?_, Lib.hid fun _ => ⟨h1, ?_, h4⟩⟩
          · have : R0 < g8 := h3
            omega
          · obtain ⟨arr, h5, -⟩ := h4
            exact (Array.getElem?_eq_some_iff.1 h5).1
        · exact ⟨G, Nat.le_refl _, Lib.hid fun h => absurd h h0⟩
      have HB9 := Lib.hid (HB.out.trans ((HX9.out).mono (show w.heap.size ≤ G by rw [HP.out]; omega)))
      have hf4 := run_f4n A8 m c8
      clear hu hR hb9 hg8 hkl hvl
      go_wp2_with (fail)
      have HP0 : Hid ((B1 = none ∧ m = 0) ∨ (B1 = some ⟨g3, 0, none⟩ ∧ g3 < G ∧ (m ≤ d1 ∧ d1 ≤ maxLen) ∧ LaidP w9 par R8 g3 d1 0 sl)) := Lib.hid (by
        obtain ⟨h1, h2⟩ := HSL.out
        rcases h2 with h2 | ⟨arr, rfl, hlt, hd, hg, hs⟩
        · exact .inl h2
        · refine .inr ⟨rfl, hlt, hd, arr, (HX9.out.block g3 hlt).trans hg, hs, fun i t ht => ?_⟩
          obtain ⟨a, k1, n1, s1, x1, ks1, vs1, A9, c9, e, -, hyb, hlb, -, -, hc⟩ := h1 i t ht
          obtain rfl := Option.some.inj e
          have h8 := hc.at_ 8 (by omega)
          have h9 := hc.at_ 9 (by omega)
          rw [add_add', Addr.add_lit, Nat.zero_add, cell_of_row _ _ _ _ _ _ hg] at h8 h9
          exact ⟨hyb, hlb, h8, h9, fun h => absurd h (by omega)⟩)
      go_loopg [42] (m + 1) (fun gk i wr => ∃ j : Nat, i = .int .i64 j ∧ gk + j = m + 1 ∧ j ≤ m ∧ Hid ((B1 = none ∧ m = 0) ∨ (B1 = some ⟨g3, 0, none⟩ ∧ g3 < G ∧ (m ≤ d1 ∧ d1 ≤ maxLen) ∧ LaidP wr par R8 g3 d1 j sl)) ∧ Hid (∀ q, q < w9.heap.size → q ≠ g3 → wr.heap[q]? = w9.heap[q]?) ∧ w9.heap.size ≤ wr.heap.size ∧ Hid (Below w.heap.size w wr))
      case atStart => exact ⟨0, rfl, by omega, by omega, HP0, Lib.hid (fun _ _ _ => rfl), Nat.le_refl _, HB9⟩
      case round =>
        clear HP0 hlt hgj HLC hf4
        obtain ⟨j, rfl, hgj, hjm, HLP, HF, hz9, HBr⟩ := hrel
        have HBOX : Hid (wr.heap[P]? = some (.cells #[.bool b, .slice A1 n c1, .slice B1 m d1, .int .i64 x, .int .i64 k] IT (0, 0))) := Lib.hid ((HF.out P (by omega) (by omega)).trans ((HX9.out.block P (by omega)).trans H0.out))
        by_cases hlt : j < m
        · obtain ⟨t, htj⟩ : ∃ t, sl[j]? = some t := ⟨_, List.getElem?_eq_getElem (by have := HLN.out; omega)⟩
          obtain ⟨rfl, hR9, arr8, hg8, hs8, hi8⟩ := H8.out (by omega)
          have hvl : (svS sl).length = m := by simp [svS, HLN.out]
          obtain ⟨y, k1, n1, s1, x1, ks1, vs1, A9, c9, hy, hv, hyb, hc8, hT⟩ := hi8 j (by rw [hvl]; exact hlt)
          have ey : t.key = y := by
            have : (skS sl)[j]? = some t.key := by simp [skS, htj]
            rw [hy] at this
            exact (Option.some.inj this).symm
          have ev : t.val = .mk k1 n1 s1 x1 ks1 vs1 := by
            have : (svS sl)[j]? = some t.val := by simp [svS, htj]
            rw [hv] at this
            exact (Option.some.inj this).symm
          subst ey
          have HTJ := Lib.hid htj
          have HVV := Lib.hid ev
          rw [← ev] at hT
          have hgl : g3 < G := by
            rcases HLP.out with ⟨-, h⟩ | ⟨-, h, -⟩
            · omega
            · exact h
          have HTT : Hid (TPar wr par (R8, j) t.val (vV k1 n1 s1 x1 A9 vs1.length c9)) := Lib.hid (hT.above fun q hq hl => HF.out q hl (by have : R8 < q := hq; omega))
          have hg8r := (HF.out R8 hR9 (by omega)).trans hg8
          obtain ⟨⟨yb, yn, ys⟩, tv, tb, tl⟩ := t
          simp only at hc8
          obtain ⟨L1, HL1⟩ : ∃ L, Hid (vs1.length = L) := ⟨_, Lib.hid rfl⟩
          rw [HL1.out] at hc8 HTT
          have pc : ∀ q, q < 8 → wr.cell? ⟨R8, j * 8 + q, none⟩ = (#[.bool yb, .int .i64 yn, .string ys, .int .i64 k1, .int .i64 n1, .string s1, .int .i64 x1, .slice A9 L1 c9] : Array Value)[q]? := fun q hq => by
            rw [cell_of_row _ _ _ _ _ _ hg8r, hc8 q hq]
            match q, hq with
            | 0, _ => rfl
            | 1, _ => rfl
            | 2, _ => rfl
            | 3, _ => rfl
            | 4, _ => rfl
            | 5, _ => rfl
            | 6, _ => rfl
            | 7, _ => rfl
          have p0 : wr.cell? ⟨R8, j * 8, none⟩ = some (.bool yb) := pc 0 (by omega)
          have p1 : wr.cell? ⟨R8, j * 8 + 1, none⟩ = some (.int .i64 yn) := pc 1 (by omega)
          have p2 : wr.cell? ⟨R8, j * 8 + 2, none⟩ = some (.string ys) := pc 2 (by omega)
          have p3 : wr.cell? ⟨R8, j * 8 + 3, none⟩ = some (.int .i64 k1) := pc 3 (by omega)
          have p4 : wr.cell? ⟨R8, j * 8 + 4, none⟩ = some (.int .i64 n1) := pc 4 (by omega)
          have p5 : wr.cell? ⟨R8, j * 8 + 5, none⟩ = some (.string s1) := pc 5 (by omega)
          have p6 : wr.cell? ⟨R8, j * 8 + 6, none⟩ = some (.int .i64 x1) := pc 6 (by omega)
          have p7 : wr.cell? ⟨R8, j * 8 + 7, none⟩ = some (.slice A9 L1 c9) := pc 7 (by omega)
          have hji : (j : Int) < (m : Int) := by omega
          clear hg8 hs8 hi8 hy hv hyb hc8 hT ev htj pc hg8r hvl
          go_upto_region 12 with fail
          obtain ⟨E, HE⟩ : ∃ E, Hid (wr.heap.size = E) := ⟨_, Lib.hid rfl⟩
          rw [HE.out]
          generalize hw6 : wr.alloc (.cells #[.bool yb, .int .i64 yn, .string ys, .int .i64 k1, .int .i64 n1, .string s1, .int .i64 x1, .slice A9 L1 c9] IE) = w6
          have hb6 : Below wr.heap.size wr w6 := hw6 ▸ b1 wr _
          have H10 : Hid (w6.heap[E]? = some (.cells #[.bool yb, .int .i64 yn, .string ys, .int .i64 k1, .int .i64 n1, .string s1, .int .i64 x1, .slice A9 L1 c9] IE (0, 0))) := Lib.hid (by rw [← hw6, ← HE.out]; exact heap_alloc_new wr _)
          have HLP2 := HLP.out
          rcases HLP2 with ⟨-, h0⟩ | ⟨rfl, hlt3, hd, hlp⟩
          · omega
          have HLPP := Lib.hid hlp
          obtain ⟨arr, hg0, hs, -⟩ := hlp
          have glt : g3 < wr.heap.size := (Array.getElem?_eq_some_iff.1 hg0).1
          have hg1 := (hb6.block _ glt).trans hg0
          obtain ⟨r1, f1⟩ := rowc hg1
          have z : ∀ q, q < 8 → ∃ u, w6.cell? ⟨g3, j * 10 + q, none⟩ = some u := fun q hq => ⟨_, (r1 _).trans (Array.getElem?_eq_getElem (by omega))⟩
          obtain ⟨u0, z0⟩ := z 0 (by omega)
          obtain ⟨u1, z1⟩ := z 1 (by omega)
          obtain ⟨u2, z2⟩ := z 2 (by omega)
          obtain ⟨u3, z3⟩ := z 3 (by omega)
          obtain ⟨u4, z4⟩ := z 4 (by omega)
          obtain ⟨u5, z5⟩ := z 5 (by omega)
          obtain ⟨u6, z6⟩ := z 6 (by omega)
          obtain ⟨u7, z7⟩ := z 7 (by omega)
          rw [Nat.add_zero] at z0
          have r10 := (rowc H10.out).1
          have v0 := r10 0; have v1 := r10 1; have v2 := r10 2; have v3 := r10 3; have v4 := r10 4; have v5 := r10 5; have v6 := r10 6; have v7 := r10 7
          simp at v0 v1 v2 v3 v4 v5 v6 v7
          have HB6 := Lib.hid hb6
          have hbx := (rowc (carry hb6 HBOX.out)).1 2
          simp at hbx
          have HDD := Lib.hid hd
          have hPE : P < E := by rw [← HE.out]; exact (Array.getElem?_eq_some_iff.1 HBOX.out).1
          have hgE : g3 < E := by rw [← HE.out]; exact glt
          clear hw6 hb6 r10 r1 z hg0 hg1 hs hd p0 p1 p2 p3 p4 p5 p6 p7
          go_wp2_with (fail)
          go_region
          go_wp2_with (fail)
          go_roundg (m - j)
          case rel =>
            refine ⟨j + 1, by go_num, by omega, by omega, Lib.hid (.inr ⟨by first | trivial | rfl, hlt3, HDD.out, LaidP.step (w1 := w6) HLPP.out (by omega) (fun q hq => HB6.out.block q hq) HTJ.out HVV.out (by rw [HL1.out]; exact HTT.out.above fun q _ hl => HB6.out.block q hl) (by have := HDD.out.1; omega) (fun arr hg => ?_) (fun q hq => ?_)⟩), Lib.hid (fun q h1 h2 => ?_), ?_, Lib.hid ?_⟩
            · rw [HL1.out, drew_heap]
              exact set_heap (set_heap (set_heap (set_heap (set_heap (set_heap (set_heap (set_heap hg _ _) _ _) _ _) _ _) _ _) _ _) _ _) _ _
            · rw [drew_heap]
              simp only [set_other hq]
            · rw [drew_heap]
              simp only [set_other h2]
              exact (HB6.out.block q (by omega)).trans (HF.out q h1 h2)
            · rw [drew_heap]
              simp only [set_size]
              exact Nat.le_trans hz9 HB6.out.size
            · have hB := bs HBr.out HB6.out
              refine Below.drew ?_
              iterate 8 refine Below.setCell ?_ (show w.heap.size ≤ g3 by rw [HP.out]; omega) _
              exact hB
          case measure => omega
        · obtain rfl : m = j := by omega
          obtain ⟨r5, f5⟩ := rowc HBOX.out
          have y0 := r5 0; have y1 := r5 1; have y2 := r5 2; have y3 := r5 3; have y4 := r5 4
          simp at y0 y1 y2 y3 y4
          have hres : wr.heap[P + 1]? = some (.cells #[.bool false, .slice none 0 0, .slice none 0 0, .int .i64 0, .int .i64 0] IT (0, 0)) := (HF.out (P + 1) (by omega) (by omega)).trans ((HX9.out.block (P + 1) (by omega)).trans H1.out)
          have HRES := Lib.hid hres
          obtain ⟨r6, f6⟩ := rowc hres
          have HLP9 := Lib.hid HLP.out
          have HOr : Hid (imem.OwnI wr (P + 2) A1 n c1 l) := Lib.hid (owni_blk HO.out fun q e => by
            have h1 := HOL.out q e
            exact (HF.out q (by omega) (by omega)).trans (HX9.out.block q (by omega)))
          clear hres r5
          go_wp2_with (fail)
          generalize hwF : World.setCell (World.setCell (World.setCell (World.setCell (World.setCell wr _ _) _ _) _ _) _ _) _ _ = wF
          obtain ⟨rF, oF, bF⟩ := fill5t HRES.out hwF
          clear hwF r6 f6 f5
          refine bodyPost_ret (v := tbV b A1 n c1 B1 m d1 x k) (by simp [results, Tryz.results52, go_sem, rF]) rfl ⟨A1, c1, B1, d1, par, R8, rfl, ⟨?_, ?_, HLN.out, HCP.out, HND.out, ?_⟩, bF _ _ (by rw [HP.out]; omega) HBr.out⟩
          · exact (owni_up HOr.out fun q hq _ => oF q (by omega)).less (by rw [HP.out]; omega)
          · intro h e
            have := HOL.out h e
            omega
          · rcases HLP9.out with h | ⟨h1, h2, h3, h4⟩
            · exact .inl h
            · exact .inr ⟨g3, h1, by rw [HP.out]; omega, by omega, h3, fun h e => by have := HOL.out h e; omega, h4.same (oF g3 (by omega)) (fun q hq _ => oF q (by omega))⟩

end Go.Proofs.YtdgfpfkhcojgaaaGreatDoor.tree

