/-
  IsHeap of the project.
  Conditions: at most 2^20 blocks, heads and slots; the values' texts and lists fit in memory; the package variables of the library's reading of numbers hold what the program's text lays.
-/
import Derived.Test.YtbgffmiffmmohaaGreatDoorHcB4
import Derived.Test.YtbgffmiffmmohaaGreatDoorHcB2
import Derived.Test.YtbgffmiffmmohaaGreatDoorHcB5
import Derived.Test.YtbgffmiffmmohaaGreatDoorHcB3
import Derived.BigQuiet
import Derived.Deep.RegionHeld3
namespace Go.Proofs.YtbgffmiffmmohaaGreatDoor.tree
open Go.ChangeShapes Go.WideShapes Go.ChangeAt Go.RowKit
set_option linter.unusedVariables false

abbrev IBk : TypeId := 139
def zeroB (b : Bool) (n m : Nat) (x k : Int) : Bool := !b && (decide (n = 0) && (decide (m = 0) && (decide (x = 0) && decide (k = 0))))
/-- A block that is sound by itself. -/
def blkP (bl : List Bk) (k : Bk) : Prop :=
  if k.refs = 0 then zeroB k.hashed k.heads.length k.slots.length k.next k.count = true
  else (1 ≤ k.refs ∧ k.refs ≤ 1000000000000) ∧ tabOk k.hashed k.heads k.slots k.next k.count ∧ ∀ t ∈ livV k.slots, heldB bl t = true
def heapP (bl : List Bk) : Prop := (∀ k ∈ bl, blkP bl k) ∧ Lt bl

theorem isFree_i (r : Int) (b : Bool) (A : Option Addr) (n c : Nat) (B : Option Addr) (m d : Nat) (x k : Int) (w : World) :
    Calls Tryz.prog 187 #[bkV r b A n c B m d x k] w (BoQ w (decide (r = 0))) := by
  go_enter Tryz.func187, Tryz.ntmps187
  go_wp2_with (fail)
  go_ret
  exact ⟨by by_cases h : r = 0 <;> simp [h], b1 _ _⟩
theorem isZero_i (b : Bool) (A : Option Addr) (n c : Nat) (B : Option Addr) (m d : Nat) (x k : Int) (hn : n ≤ maxLen) (hm : m ≤ maxLen) (w : World) :
    Calls Tryz.prog 188 #[tbV b A n c B m d x k] w (BoQ w (zeroB b n m x k)) := by
  unfold maxLen at hn hm
  unfold zeroB
  cases b with
  | true =>
    go_enter Tryz.func188, Tryz.ntmps188
    go_wp2_with (fail)
    go_ret
    exact ⟨rfl, b1 _ _⟩
  | false =>
    by_cases hn0 : n = 0
    · subst hn0
      by_cases hm0 : m = 0
      · subst hm0
        by_cases hx : x = 0
        · subst hx
          go_enter Tryz.func188, Tryz.ntmps188
          go_wp2_with (fail)
          go_ret
          exact ⟨by by_cases h : k = 0 <;> simp [h], b1 _ _⟩
        · rw [show decide (x = 0) = false from decide_eq_false hx]
          go_enter Tryz.func188, Tryz.ntmps188
          go_wp2_with (fail)
          go_ret
          exact ⟨by simp, b1 _ _⟩
      · rw [show decide (m = 0) = false from decide_eq_false hm0]
        have hm' : ((m : Int) == 0) = false := by simp; omega
        go_enter Tryz.func188, Tryz.ntmps188
        go_wp2_with (fail)
        go_ret
        exact ⟨by simp, b1 _ _⟩
    · rw [show decide (n = 0) = false from decide_eq_false hn0]
      have hn' : ((n : Int) == 0) = false := by simp; omega
      go_enter Tryz.func188, Tryz.ntmps188
      go_wp2_with (fail)
      go_ret
      exact ⟨by simp, b1 _ _⟩

def heldAll (bl : List Bk) (ts : List Tr) : Bool := ts.all (heldB bl)
theorem heldAll_take {bl : List Bk} {ts : List Tr} {j : Nat} {t : Tr} (h : ts[j]? = some t) : heldAll bl (ts.take (j + 1)) = (heldAll bl (ts.take j) && heldB bl t) := by
  rw [List.take_add_one, h]
  simp [heldAll, List.all_append]
theorem heldAll_no {bl : List Bk} {ts : List Tr} {t : Tr} (h : t ∈ ts) (hf : heldB bl t = false) : heldAll bl ts = false := by
  cases ha : heldAll bl ts with
  | false => rfl
  | true => rw [List.all_eq_true.1 ha t h] at hf; cases hf

set_option maxRecDepth 100000 in
set_option maxHeartbeats 1600000 in
theorem areHeld_i (bl : List Bk) (A : Option Addr) (c : Nat) (vs : List Tr) (B : Option Addr) (d : Nat) (w : World) (S S' : Nat → Prop) (hH : HIn w S bl A) (hm : bl.length ≤ 1048576) (h : VIn w S' vs B) (hv : vs.length ≤ 1048576) (hN : ∀ t ∈ vs, tot t ≤ 281474976710656) (hE : prs.Env w) :
    Calls Tryz.prog 138 #[hpV A bl.length c, .slice B vs.length d] w (BoQ w (heldAll bl vs)) := by
  have IH := Lib.hid (fun (t : Tr) (v : Value) w' (hb : Below w.heap.size w w') (S1 : Nat → Prop) (h : TIn w' S1 t v) hN => isHeld_i bl t A c v w' S S1 (hH.below hb) hm h hN (hE.stays hb))
  obtain ⟨L, HL⟩ : ∃ L, Hid (bl.length = L) := ⟨_, Lib.hid rfl⟩
  obtain ⟨M, HM⟩ : ∃ L, Hid (vs.length = L) := ⟨_, Lib.hid rfl⟩
  rw [HL.out] at IH ⊢
  rw [HM.out] at hv ⊢
  have HV := Lib.hid h
  have HN := Lib.hid hN
  clear h hN hE hH
  go_enter Tryz.func138, Tryz.ntmps138
  go_upto_region 2 with fail
  generalize hw0 : w.alloc (.cells #[.slice A L c] IH') = w0
  have hb0 : Below w.heap.size w w0 := hw0 ▸ b1 w _
  have h0 : w0.heap[w.heap.size]? = some (.cells #[.slice A L c] IH' (0, 0)) := by rw [← hw0]; exact heap_alloc_new w _
  have HB0 := Lib.hid hb0
  have HX0 := Lib.hid h0
  clear hw0 hb0 h0
  go_loopg [9] (M + 1) (fun gk i wr => ∃ (j : Nat), i = .int .i64 j ∧ gk + j = M + 1 ∧ j ≤ M ∧ Hid (heldAll bl (vs.take j) = true) ∧ Hid (wr.heap[w.heap.size]? = some (.cells #[.slice A L c] IH' (0, 0))) ∧ Hid (Below w.heap.size w wr))
  case atStart => exact ⟨0, rfl, by omega, by omega, Lib.hid (by simp [heldAll]), HX0, HB0⟩
  case round =>
    clear HB0 HX0
    obtain ⟨j, rfl, hgj, hjM, HT, HX, HB⟩ := hrel
    by_cases hlt : j < M
    · obtain ⟨t, ht⟩ : ∃ t, vs[j]? = some t := ⟨_, List.getElem?_eq_getElem (by rw [HM.out]; exact hlt)⟩
      have hst := heldAll_take (bl := bl) ht
      have hno := fun h => heldAll_no (bl := bl) (List.mem_of_getElem? ht) h
      have htn := HN.out t (List.mem_of_getElem? ht)
      obtain ⟨a, k, n, s, x, ks', vs', A1, c1, rfl, -, rfl, hT, hcell⟩ := HV.out.below HB.out j t ht
      obtain ⟨q, HQ⟩ : ∃ q, Hid (heldB bl (.mk k n s x ks' vs') = q) := ⟨_, Lib.hid rfl⟩
      rw [HQ.out] at hst hno
      have HST := Lib.hid hst
      have HNO := Lib.hid hno
      have HTT := Lib.hid hT
      have HTN := Lib.hid htn
      obtain ⟨L1, HL1⟩ : ∃ L1, Hid (vs'.length = L1) := ⟨_, Lib.hid rfl⟩
      rw [HL1.out] at hcell HTT
      obtain ⟨p0, p1, p2, p3, p4⟩ := hcell
      clear hT ht hst hno htn
      go_upto_region 4 with fail
      generalize hw1 : wr.alloc (.cells #[.int .i64 k, .int .i64 n, .string s, .int .i64 x, .slice A1 L1 c1] IV) = w1
      have hb1 : Below wr.heap.size wr w1 := hw1 ▸ b1 wr _
      have h5 : w1.heap[wr.heap.size]? = some (.cells #[.int .i64 k, .int .i64 n, .string s, .int .i64 x, .slice A1 L1 c1] IV (0, 0)) := by rw [← hw1]; exact heap_alloc_new wr _
      have HX1 := Lib.hid (carry hb1 HX.out)
      have HB1 := Lib.hid (bs HB.out hb1)
      have HT1 := Lib.hid (HTT.out.below' hb1)
      have r5 := (rowc h5).1
      have z0 := r5 0; have z1 := r5 1; have z2 := r5 2; have z3 := r5 3; have z4 := r5 4
      have y0 := (rowc HX1.out).1 0
      simp at z0 z1 z2 z3 z4 y0
      clear hw1 hb1 h5 r5 HX HB HTT p0 p1 p2 p3 p4
      go_wp2_with (fail)
      have IQ := IH.out _ _ w1 HB1.out _ HT1.out HTN.out
      rw [HQ.out] at IQ
      refine IQ.mono ?_
      rintro e w2 ⟨rfl, hb2⟩
      have HX2 := Lib.hid (carry hb2 HX1.out)
      have HB2 := Lib.hid (bs HB1.out hb2)
      clear hb2 IQ z0 z1 z2 z3 z4 y0
      cases q with
      | false =>
        go_wp2_with (fail)
        go_ret
        exact ⟨by rw [show heldAll bl vs = false by first | exact HNO.out | exact HNO.out rfl | exact HNO.out trivial]; rfl, HB2.out⟩
      | true =>
        go_wp2_with (fail)
        go_roundg (M - j)
        case rel => exact ⟨j + 1, by go_num, by omega, by omega, Lib.hid (by rw [HST.out, HT.out]; rfl), HX2, HB2⟩
        case measure => omega
    · obtain rfl : j = M := by omega
      have HE : Hid (heldAll bl vs = true) := Lib.hid (by have h := HT.out; rw [← HM.out, List.take_length] at h; exact h)
      go_wp2_with (fail)
      go_ret
      exact ⟨by rw [HE.out]; rfl, HB.out⟩

/-- What the blocks' values want to fit. -/
def BkB (bl : List Bk) : Prop := ∀ k ∈ bl, k.heads.length ≤ 1048576 ∧ k.slots.length ≤ 1048576 ∧ SlB k.slots ∧ ∀ t ∈ livV k.slots, tot t ≤ 281474976710656

set_option maxRecDepth 100000 in
set_option maxHeartbeats 1600000 in
theorem isBlock_i (bl : List Bk) (A : Option Addr) (c : Nat) (w : World) (S : Nat → Prop) (hH : HIn w S bl A) (hm : bl.length ≤ 1048576) (b : Bk) (hbk : b ∈ bl) (hK : BkB bl) (A1 : Option Addr) (n1 c1 : Nat) (B1 : Option Addr) (m1 d1 : Nat) (S1 : Nat → Prop) (hT : TbIn w S1 b.heads b.slots A1 n1 c1 B1 m1 d1 b.next b.count) (hE : prs.Env w) :
    Calls Tryz.prog 120 #[hpV A bl.length c, bkV b.refs b.hashed A1 n1 c1 B1 m1 d1 b.next b.count] w (BoP w (blkP bl b)) := by
  obtain ⟨hn1, hm1, hsb, hvt⟩ := hK b hbk
  have hlh := hT.heads.len
  have hls := hT.len
  obtain ⟨rf, hs, l, sl, x, ct⟩ := b
  simp only at hn1 hm1 hsb hvt hT hlh hls
  have IF := Lib.hid (fun w' => isFree_i rf hs A1 n1 c1 B1 m1 d1 x ct w')
  have IZ := Lib.hid (fun w' => isZero_i hs A1 n1 c1 B1 m1 d1 x ct (by unfold maxLen; omega) (by unfold maxLen; omega) w')
  have IT := Lib.hid (fun w' (hb : Below w.heap.size w w') => isTable_i (b := hs) w' (hT.below hb) (by omega) (by omega) hsb (hE.stays hb))
  have LV := Lib.hid (fun w' (hb : Below w.heap.size w w') => liveValues_i (b := hs) (A := A1) (n := n1) (c := c1) (d := d1) (x := x) (k := ct) w' (hT.slots.below hb) hls (by omega))
  have hlv := (by have h := hm1; unfold livV; rw [List.length_map]; have := liv_len sl; omega : (livV sl).length ≤ 1048576)
  have AH := Lib.hid (fun w' (hb : Below w.heap.size w w') (B : Option Addr) (d : Nat) (S' : Nat → Prop) (h : VIn w' S' (livV sl) B) => areHeld_i bl A c (livV sl) B d w' S S' (hH.below hb) hm h hlv hvt (hE.stays hb))
  obtain ⟨L, HL⟩ : ∃ L, Hid (bl.length = L) := ⟨_, Lib.hid rfl⟩
  obtain ⟨M, HM⟩ : ∃ L, Hid ((livV sl).length = L) := ⟨_, Lib.hid rfl⟩
  unfold LvQ at LV
  rw [HL.out, HM.out] at AH
  rw [HM.out] at LV
  rw [HL.out]
  have HP : Hid (blkP bl ⟨rf, hs, l, sl, x, ct⟩ ↔ if rf = 0 then zeroB hs n1 m1 x ct = true else (1 ≤ rf ∧ rf ≤ 1000000000000) ∧ tabOk hs l sl x ct ∧ heldAll bl (livV sl) = true) := Lib.hid (by
    unfold blkP
    simp only [hlh, hls, heldAll, List.all_eq_true])
  clear hH hT hE hK hbk hn1 hsb hvt hlh hls hlv
  by_cases h0 : rf = 0
  · subst h0
    have HPZ := HP.out
    rw [if_pos rfl] at HPZ
    have HQZ := Lib.hid HPZ
    obtain ⟨q, HQ⟩ : ∃ q, Hid (zeroB hs n1 m1 x ct = q) := ⟨_, Lib.hid rfl⟩
    rw [HQ.out] at IZ HQZ
    clear HPZ HP IT LV AH
    go_enter Tryz.func120, Tryz.ntmps120
    go_wp2_with (fail)
    refine (IF.out _).mono ?_
    rintro e w1 ⟨rfl, hb1⟩
    obtain ⟨y0, y1⟩ := two_old w _ _ hb1
    have HB := Lib.hid (bs (tree.b2 w _ _) hb1)
    have r1 := (rowc y1).1
    have z1 := r1 1; have z2 := r1 2; have z3 := r1 3; have z4 := r1 4; have z5 := r1 5
    simp at z1 z2 z3 z4 z5
    clear hb1 y0 y1 r1
    go_wp2_with (fail)
    refine (IZ.out _).mono ?_
    rintro e w2 ⟨rfl, hb2⟩
    have HB2 := Lib.hid (bs HB.out hb2)
    clear hb2 z1 z2 z3 z4 z5
    go_wp2_with (fail)
    go_ret
    exact ⟨q, rfl, HQZ.out.symm, HB2.out⟩
  · have HPN := HP.out
    rw [if_neg h0] at HPN
    have HQN := Lib.hid HPN
    have hf : decide (rf = 0) = false := decide_eq_false h0
    rw [hf] at IF
    obtain ⟨q, HQ⟩ : ∃ q, Hid (decide (1 ≤ rf ∧ rf ≤ 1000000000000) = q) := ⟨_, Lib.hid rfl⟩
    have IR := inRange_i rf 1 1000000000000 q (by rw [← HQ.out]; unfold nums.inr; by_cases h1 : 1 ≤ rf <;> by_cases h2 : rf ≤ 1000000000000 <;> simp [h1, h2])
    clear HPN HP IZ hf
    go_enter Tryz.func120, Tryz.ntmps120
    go_wp2_with (fail)
    refine (IF.out _).mono ?_
    rintro e w1 ⟨rfl, hb1⟩
    obtain ⟨y0, y1⟩ := two_old w _ _ hb1
    have Ea := Lib.hid y0
    have Eb := Lib.hid y1
    have HB := Lib.hid (bs (tree.b2 w _ _) hb1)
    have r1 := (rowc y1).1
    have z0 := r1 0; have z1 := r1 1; have z2 := r1 2; have z3 := r1 3; have z4 := r1 4; have z5 := r1 5
    have x0 := (rowc y0).1 0
    simp at z0 z1 z2 z3 z4 z5 x0
    clear hb1 y0 y1 r1
    go_wp2_with (fail)
    cases q with
    | false =>
      skip
      refine wp_region_held_drew (S := (fun w' => w'.cell? ⟨w.heap.size + 1, 0, none⟩ = some (.int .i64 rf) ∧ w'.cell? ⟨w.heap.size + 1, 1, none⟩ = some (.bool hs) ∧ w'.cell? ⟨w.heap.size + 1, 2, none⟩ = some (.slice A1 n1 c1) ∧ w'.cell? ⟨w.heap.size + 1, 3, none⟩ = some (.slice B1 m1 d1) ∧ w'.cell? ⟨w.heap.size + 1, 4, none⟩ = some (.int .i64 x) ∧ w'.cell? ⟨w.heap.size + 1, 5, none⟩ = some (.int .i64 ct) ∧ w'.cell? ⟨w.heap.size, 0, none⟩ = some (.slice A L c))) (by kernel_rfl) ?_ (fun hHeld => ?_)
      · (try dsimp only) <;> (first | with_reducible exact ⟨z0, z1, z2, z3, z4, z5, x0⟩ | go_keep)
      refine wpAnyH_ready (rs := [0]) (by kernel_rfl) (by simp) ?_
      refine AllReadyH.cons rfl (fun K hK => ?_) AllReadyH.nil
      go_simp
      refine hK.out _ _ ?_ (fun hHeld => ?_)
      · ((try dsimp only); first | with_reducible exact ⟨z0, z1, z2, z3, z4, z5, x0⟩ | with_reducible exact ⟨drc z0, drc z1, drc z2, drc z3, drc z4, drc z5, drc x0⟩ | go_keep)
      clear hK K
      try simp only [Act.put, List.setIfInBounds_toArray, List.set_cons_zero, List.set_cons_succ, List.getElem_toArray, List.getElem_cons_zero, List.getElem_cons_succ]
      refine wpAnyH_take (i := 1) (v := ?_) rfl (by kernel_rfl) (by kernel_rfl) (by kernel_rfl) (fun _ _ _ h => h) (Or.inl ⟨by kernel_rfl, ?_⟩) (by assumption) ?_
      rotate_left
      · (intro w hSw; (try dsimp only at hSw); go_split_ands; go_simp; try (with_reducible rfl))
      try simp only [Act.put, List.setIfInBounds_toArray, List.set_cons_zero, List.set_cons_succ, List.getElem_toArray, List.getElem_cons_zero, List.getElem_cons_succ]
      refine wpAnyH_ready (rs := [2]) (by kernel_rfl) (by simp) ?_
      refine AllReadyH.cons rfl (fun K hK => ?_) AllReadyH.nil
      go_simp
      go_at_call 151
      refine (IR _).mono ?_
      rintro e w2 ⟨rfl, rfl⟩
      try go_wp2_with (fail)
      refine hK.out _ _ ?_ (fun hHeld => ?_)
      · ((try dsimp only); first | with_reducible exact ⟨z0, z1, z2, z3, z4, z5, x0⟩ | with_reducible exact ⟨drc z0, drc z1, drc z2, drc z3, drc z4, drc z5, drc x0⟩ | go_keep)
      clear hK K
      try simp only [Act.put, List.setIfInBounds_toArray, List.set_cons_zero, List.set_cons_succ, List.getElem_toArray, List.getElem_cons_zero, List.getElem_cons_succ]
      refine wpAnyH_ready (rs := [3]) (by kernel_rfl) (by simp) ?_
      refine AllReadyH.cons rfl (fun K hK => ?_) AllReadyH.nil
      go_simp
      refine hK.out _ _ ?_ (fun hHeld => ?_)
      · ((try dsimp only); first | with_reducible exact ⟨z0, z1, z2, z3, z4, z5, x0⟩ | with_reducible exact ⟨drc z0, drc z1, drc z2, drc z3, drc z4, drc z5, drc x0⟩ | go_keep)
      clear hK K
      try simp only [Act.put, List.setIfInBounds_toArray, List.set_cons_zero, List.set_cons_succ, List.getElem_toArray, List.getElem_cons_zero, List.getElem_cons_succ]
      refine wpAnyH_take (i := 4) (v := undef) rfl (by kernel_rfl) (by kernel_rfl) (by kernel_rfl) (fun _ _ _ h => h) (Or.inr ⟨by kernel_rfl, rfl⟩) (by assumption) ?_
      try simp only [Act.put, List.setIfInBounds_toArray, List.set_cons_zero, List.set_cons_succ, List.getElem_toArray, List.getElem_cons_zero, List.getElem_cons_succ]
      refine wpAnyH_take (i := 5) (v := undef) rfl (by kernel_rfl) (by kernel_rfl) (by kernel_rfl) (fun _ _ _ h => h) (Or.inr ⟨by kernel_rfl, rfl⟩) (by assumption) ?_
      try simp only [Act.put, List.setIfInBounds_toArray, List.set_cons_zero, List.set_cons_succ, List.getElem_toArray, List.getElem_cons_zero, List.getElem_cons_succ]
      refine wpAnyH_take (i := 6) (v := undef) rfl (by kernel_rfl) (by kernel_rfl) (by kernel_rfl) (fun _ _ _ h => h) (Or.inr ⟨by kernel_rfl, rfl⟩) (by assumption) ?_
      try simp only [Act.put, List.setIfInBounds_toArray, List.set_cons_zero, List.set_cons_succ, List.getElem_toArray, List.getElem_cons_zero, List.getElem_cons_succ]
      refine wpAnyH_ready (rs := [7]) (by kernel_rfl) (by simp) ?_
      refine AllReadyH.cons rfl (fun K hK => ?_) AllReadyH.nil
      go_simp
      refine hK.out _ _ ?_ (fun hHeld => ?_)
      · ((try dsimp only); first | with_reducible exact ⟨z0, z1, z2, z3, z4, z5, x0⟩ | with_reducible exact ⟨drc z0, drc z1, drc z2, drc z3, drc z4, drc z5, drc x0⟩ | go_keep)
      clear hK K
      try simp only [Act.put, List.setIfInBounds_toArray, List.set_cons_zero, List.set_cons_succ, List.getElem_toArray, List.getElem_cons_zero, List.getElem_cons_succ]
      refine wpAnyH_ready (rs := [8]) (by kernel_rfl) (by simp) ?_
      refine AllReadyH.cons rfl (fun K hK => ?_) AllReadyH.nil
      go_simp
      refine hK.out _ _ ?_ (fun hHeld => ?_)
      · ((try dsimp only); first | with_reducible exact ⟨z0, z1, z2, z3, z4, z5, x0⟩ | with_reducible exact ⟨drc z0, drc z1, drc z2, drc z3, drc z4, drc z5, drc x0⟩ | go_keep)
      clear hK K
      try simp only [Act.put, List.setIfInBounds_toArray, List.set_cons_zero, List.set_cons_succ, List.getElem_toArray, List.getElem_cons_zero, List.getElem_cons_succ]
      refine wpAnyH_take (i := 9) (v := undef) rfl (by kernel_rfl) (by kernel_rfl) (by kernel_rfl) (fun _ _ _ h => h) (Or.inr ⟨by kernel_rfl, rfl⟩) (by assumption) ?_
      try simp only [Act.put, List.setIfInBounds_toArray, List.set_cons_zero, List.set_cons_succ, List.getElem_toArray, List.getElem_cons_zero, List.getElem_cons_succ]
      refine wpAnyH_take (i := 10) (v := undef) rfl (by kernel_rfl) (by kernel_rfl) (by kernel_rfl) (fun _ _ _ h => h) (Or.inr ⟨by kernel_rfl, rfl⟩) (by assumption) ?_
      try simp only [Act.put, List.setIfInBounds_toArray, List.set_cons_zero, List.set_cons_succ, List.getElem_toArray, List.getElem_cons_zero, List.getElem_cons_succ]
      refine wpAnyH_take (i := 11) (v := undef) rfl (by kernel_rfl) (by kernel_rfl) (by kernel_rfl) (fun _ _ _ h => h) (Or.inr ⟨by kernel_rfl, rfl⟩) (by assumption) ?_
      try simp only [Act.put, List.setIfInBounds_toArray, List.set_cons_zero, List.set_cons_succ, List.getElem_toArray, List.getElem_cons_zero, List.getElem_cons_succ]
      refine wpAnyH_take (i := 12) (v := undef) rfl (by kernel_rfl) (by kernel_rfl) (by kernel_rfl) (fun _ _ _ h => h) (Or.inr ⟨by kernel_rfl, rfl⟩) (by assumption) ?_
      try simp only [Act.put, List.setIfInBounds_toArray, List.set_cons_zero, List.set_cons_succ, List.getElem_toArray, List.getElem_cons_zero, List.getElem_cons_succ]
      refine wpAnyH_take (i := 13) (v := undef) rfl (by kernel_rfl) (by kernel_rfl) (by kernel_rfl) (fun _ _ _ h => h) (Or.inr ⟨by kernel_rfl, rfl⟩) (by assumption) ?_
      try simp only [Act.put, List.setIfInBounds_toArray, List.set_cons_zero, List.set_cons_succ, List.getElem_toArray, List.getElem_cons_zero, List.getElem_cons_succ]
      refine wpAnyH_ready (rs := [14]) (by kernel_rfl) (by simp) ?_
      refine AllReadyH.cons rfl (fun K hK => ?_) AllReadyH.nil
      go_simp
      refine hK.out _ _ ?_ (fun hHeld => ?_)
      · ((try dsimp only); first | with_reducible exact ⟨z0, z1, z2, z3, z4, z5, x0⟩ | with_reducible exact ⟨drc z0, drc z1, drc z2, drc z3, drc z4, drc z5, drc x0⟩ | go_keep)
      clear hK K
      try simp only [Act.put, List.setIfInBounds_toArray, List.set_cons_zero, List.set_cons_succ, List.getElem_toArray, List.getElem_cons_zero, List.getElem_cons_succ]
      refine wpAnyH_ready (rs := [15]) (by kernel_rfl) (by simp) ?_
      refine AllReadyH.cons rfl (fun K hK => ?_) AllReadyH.nil
      go_simp
      refine hK.out _ _ ?_ (fun hHeld => ?_)
      · ((try dsimp only); first | with_reducible exact ⟨z0, z1, z2, z3, z4, z5, x0⟩ | with_reducible exact ⟨drc z0, drc z1, drc z2, drc z3, drc z4, drc z5, drc x0⟩ | go_keep)
      clear hK K
      try simp only [Act.put, List.setIfInBounds_toArray, List.set_cons_zero, List.set_cons_succ, List.getElem_toArray, List.getElem_cons_zero, List.getElem_cons_succ]
      refine wpAnyH_done (by kernel_rfl) ?_ _
      go_wp2_with (fail)
      go_ret
      exact ⟨false, rfl, ⟨fun h => (by cases h), fun h => absurd (HQN.out.1 h).1 (of_decide_eq_false HQ.out)⟩, bs HB.out ((Below.refl w1.heap.size w1).drew)⟩
    | true =>
      by_cases hok : tabOk hs l sl x ct
      · skip
        go_region_held3 (fun w' => w'.cell? ⟨w.heap.size + 1, 0, none⟩ = some (.int .i64 rf) ∧ w'.cell? ⟨w.heap.size + 1, 1, none⟩ = some (.bool hs) ∧ w'.cell? ⟨w.heap.size + 1, 2, none⟩ = some (.slice A1 n1 c1) ∧ w'.cell? ⟨w.heap.size + 1, 3, none⟩ = some (.slice B1 m1 d1) ∧ w'.cell? ⟨w.heap.size + 1, 4, none⟩ = some (.int .i64 x) ∧ w'.cell? ⟨w.heap.size + 1, 5, none⟩ = some (.int .i64 ct) ∧ w'.cell? ⟨w.heap.size, 0, none⟩ = some (.slice A L c)) (first | with_reducible exact ⟨z0, z1, z2, z3, z4, z5, x0⟩ | with_reducible exact ⟨drc z0, drc z1, drc z2, drc z3, drc z4, drc z5, drc x0⟩ | go_keep) (first
          | (go_at_call 151; refine (IR _).mono ?_
             rintro e w2 ⟨rfl, rfl⟩)
          | (go_at_call 71; refine (IT.out _ (by first | exact bs HB.out ((Below.refl w1.heap.size w1).drew) | exact HB.out)).mono ?_
             rintro e w3 ⟨q3, rfl, hq3, hb3⟩
             obtain rfl : q3 = true := hq3.2 hok
             have hbx : Below w1.heap.size w1 w3 := by first | exact bs ((Below.refl w1.heap.size w1).drew) hb3 | exact hb3
             have HB3 := Lib.hid (bs HB.out hbx)
             have kx : ∀ (p : Addr) (u : Value), w1.cell? p = some u → w3.cell? p = some u := fun p u h => cell_stays (fun hlt => hbx.block _ hlt) h
             replace z0 := kx _ _ z0; replace z1 := kx _ _ z1; replace z2 := kx _ _ z2; replace z3 := kx _ _ z3; replace z4 := kx _ _ z4; replace z5 := kx _ _ z5; replace x0 := kx _ _ x0
             clear hb3 hbx hq3 kx)
          | (go_at_call 189; refine (LV.out _ (by first | exact HB3.out | exact bs HB3.out ((Below.refl w3.heap.size w3).drew))).mono ?_
             rintro e w4 ⟨A4, c4, rfl, hl4, hv4, hb4⟩
             have hbx : Below w3.heap.size w3 w4 := by first | exact hb4 | exact bs ((Below.refl w3.heap.size w3).drew) hb4
             have HB4 := Lib.hid (bs HB3.out hbx)
             have HV := Lib.hid hv4
             have kx : ∀ (p : Addr) (u : Value), w3.cell? p = some u → w4.cell? p = some u := fun p u h => cell_stays (fun hlt => hbx.block _ hlt) h
             replace z0 := kx _ _ z0; replace z1 := kx _ _ z1; replace z2 := kx _ _ z2; replace z3 := kx _ _ z3; replace z4 := kx _ _ z4; replace z5 := kx _ _ z5; replace x0 := kx _ _ x0
             clear hb4 hbx hl4 hv4 kx)
          | (go_at_call 138; refine (AH.out _ (by first | exact HB4.out | exact bs HB4.out ((Below.refl w4.heap.size w4).drew)) _ _ _ (by first | exact HV.out | exact HV.out.below ((Below.refl w4.heap.size w4).drew))).mono ?_
             rintro e w5 ⟨rfl, hb5⟩
             have hbx : Below w4.heap.size w4 w5 := by first | exact hb5 | exact bs ((Below.refl w4.heap.size w4).drew) hb5
             have HB5 := Lib.hid (bs HB4.out hbx)
             have kx : ∀ (p : Addr) (u : Value), w4.cell? p = some u → w5.cell? p = some u := fun p u h => cell_stays (fun hlt => hbx.block _ hlt) h
             replace z0 := kx _ _ z0; replace z1 := kx _ _ z1; replace z2 := kx _ _ z2; replace z3 := kx _ _ z3; replace z4 := kx _ _ z4; replace z5 := kx _ _ z5; replace x0 := kx _ _ x0
             clear hb5 hbx kx))
        go_wp2_with (fail)
        go_ret
        exact ⟨_, rfl, ⟨fun h => HQN.out.2 ⟨of_decide_eq_true HQ.out, hok, h⟩, fun h => (HQN.out.1 h).2.2⟩, HB5.out⟩
      · skip
        refine wp_region_held_drew (S := (fun w' => w'.cell? ⟨w.heap.size + 1, 0, none⟩ = some (.int .i64 rf) ∧ w'.cell? ⟨w.heap.size + 1, 1, none⟩ = some (.bool hs) ∧ w'.cell? ⟨w.heap.size + 1, 2, none⟩ = some (.slice A1 n1 c1) ∧ w'.cell? ⟨w.heap.size + 1, 3, none⟩ = some (.slice B1 m1 d1) ∧ w'.cell? ⟨w.heap.size + 1, 4, none⟩ = some (.int .i64 x) ∧ w'.cell? ⟨w.heap.size + 1, 5, none⟩ = some (.int .i64 ct) ∧ w'.cell? ⟨w.heap.size, 0, none⟩ = some (.slice A L c))) (by kernel_rfl) ?_ (fun hHeld => ?_)
        · (try dsimp only) <;> (first | with_reducible exact ⟨z0, z1, z2, z3, z4, z5, x0⟩ | go_keep)
        refine wpAnyH_ready (rs := [0]) (by kernel_rfl) (by simp) ?_
        refine AllReadyH.cons rfl (fun K hK => ?_) AllReadyH.nil
        go_simp
        refine hK.out _ _ ?_ (fun hHeld => ?_)
        · ((try dsimp only); first | with_reducible exact ⟨z0, z1, z2, z3, z4, z5, x0⟩ | with_reducible exact ⟨drc z0, drc z1, drc z2, drc z3, drc z4, drc z5, drc x0⟩ | go_keep)
        clear hK K
        try simp only [Act.put, List.setIfInBounds_toArray, List.set_cons_zero, List.set_cons_succ, List.getElem_toArray, List.getElem_cons_zero, List.getElem_cons_succ]
        refine wpAnyH_take (i := 1) (v := ?_) rfl (by kernel_rfl) (by kernel_rfl) (by kernel_rfl) (fun _ _ _ h => h) (Or.inl ⟨by kernel_rfl, ?_⟩) (by assumption) ?_
        rotate_left
        · (intro w hSw; (try dsimp only at hSw); go_split_ands; go_simp; try (with_reducible rfl))
        try simp only [Act.put, List.setIfInBounds_toArray, List.set_cons_zero, List.set_cons_succ, List.getElem_toArray, List.getElem_cons_zero, List.getElem_cons_succ]
        refine wpAnyH_ready (rs := [2]) (by kernel_rfl) (by simp) ?_
        refine AllReadyH.cons rfl (fun K hK => ?_) AllReadyH.nil
        go_simp
        go_at_call 151
        refine (IR _).mono ?_
        rintro e w2 ⟨rfl, rfl⟩
        try go_wp2_with (fail)
        refine hK.out _ _ ?_ (fun hHeld => ?_)
        · ((try dsimp only); first | with_reducible exact ⟨z0, z1, z2, z3, z4, z5, x0⟩ | with_reducible exact ⟨drc z0, drc z1, drc z2, drc z3, drc z4, drc z5, drc x0⟩ | go_keep)
        clear hK K
        try simp only [Act.put, List.setIfInBounds_toArray, List.set_cons_zero, List.set_cons_succ, List.getElem_toArray, List.getElem_cons_zero, List.getElem_cons_succ]
        refine wpAnyH_ready (rs := [3]) (by kernel_rfl) (by simp) ?_
        refine AllReadyH.cons rfl (fun K hK => ?_) AllReadyH.nil
        go_simp
        refine hK.out _ _ ?_ (fun hHeld => ?_)
        · ((try dsimp only); first | with_reducible exact ⟨z0, z1, z2, z3, z4, z5, x0⟩ | with_reducible exact ⟨drc z0, drc z1, drc z2, drc z3, drc z4, drc z5, drc x0⟩ | go_keep)
        clear hK K
        try simp only [Act.put, List.setIfInBounds_toArray, List.set_cons_zero, List.set_cons_succ, List.getElem_toArray, List.getElem_cons_zero, List.getElem_cons_succ]
        refine wpAnyH_ready (rs := [4]) (by kernel_rfl) (by simp) ?_
        refine AllReadyH.cons rfl (fun K hK => ?_) AllReadyH.nil
        go_simp
        refine hK.out _ _ ?_ (fun hHeld => ?_)
        · ((try dsimp only); first | with_reducible exact ⟨z0, z1, z2, z3, z4, z5, x0⟩ | with_reducible exact ⟨drc z0, drc z1, drc z2, drc z3, drc z4, drc z5, drc x0⟩ | go_keep)
        clear hK K
        try simp only [Act.put, List.setIfInBounds_toArray, List.set_cons_zero, List.set_cons_succ, List.getElem_toArray, List.getElem_cons_zero, List.getElem_cons_succ]
        refine wpAnyH_take (i := 5) (v := ?_) rfl (by kernel_rfl) (by kernel_rfl) (by kernel_rfl) (fun _ _ _ h => h) (Or.inl ⟨by kernel_rfl, ?_⟩) (by assumption) ?_
        rotate_left
        · (intro w hSw; (try dsimp only at hSw); go_split_ands; go_simp; try (with_reducible rfl))
        try simp only [Act.put, List.setIfInBounds_toArray, List.set_cons_zero, List.set_cons_succ, List.getElem_toArray, List.getElem_cons_zero, List.getElem_cons_succ]
        refine wpAnyH_ready (rs := [6]) (by kernel_rfl) (by simp) ?_
        refine AllReadyH.cons rfl (fun K hK => ?_) AllReadyH.nil
        go_simp
        go_at_call 71
        refine (IT.out _ (bs HB.out ((Below.refl w1.heap.size w1).drew))).mono ?_
        rintro e w3 ⟨q3, rfl, hq3, hb3⟩
        obtain rfl : q3 = false := by cases q3 with | false => rfl | true => exact absurd (hq3.1 rfl) hok
        have hbx : Below w1.heap.size w1 w3 := bs ((Below.refl w1.heap.size w1).drew) hb3
        have HB3 := Lib.hid (bs HB.out hbx)
        have kx : ∀ (p : Addr) (u : Value), w1.cell? p = some u → w3.cell? p = some u := fun p u h => cell_stays (fun hlt => hbx.block _ hlt) h
        replace z0 := kx _ _ z0; replace z1 := kx _ _ z1; replace z2 := kx _ _ z2; replace z3 := kx _ _ z3; replace z4 := kx _ _ z4; replace z5 := kx _ _ z5; replace x0 := kx _ _ x0
        clear hb3 hbx hq3 kx
        try go_wp2_with (fail)
        refine hK.out _ _ ?_ (fun hHeld => ?_)
        · ((try dsimp only); first | with_reducible exact ⟨z0, z1, z2, z3, z4, z5, x0⟩ | with_reducible exact ⟨drc z0, drc z1, drc z2, drc z3, drc z4, drc z5, drc x0⟩ | go_keep)
        clear hK K
        try simp only [Act.put, List.setIfInBounds_toArray, List.set_cons_zero, List.set_cons_succ, List.getElem_toArray, List.getElem_cons_zero, List.getElem_cons_succ]
        refine wpAnyH_ready (rs := [7]) (by kernel_rfl) (by simp) ?_
        refine AllReadyH.cons rfl (fun K hK => ?_) AllReadyH.nil
        go_simp
        refine hK.out _ _ ?_ (fun hHeld => ?_)
        · ((try dsimp only); first | with_reducible exact ⟨z0, z1, z2, z3, z4, z5, x0⟩ | with_reducible exact ⟨drc z0, drc z1, drc z2, drc z3, drc z4, drc z5, drc x0⟩ | go_keep)
        clear hK K
        try simp only [Act.put, List.setIfInBounds_toArray, List.set_cons_zero, List.set_cons_succ, List.getElem_toArray, List.getElem_cons_zero, List.getElem_cons_succ]
        refine wpAnyH_ready (rs := [8]) (by kernel_rfl) (by simp) ?_
        refine AllReadyH.cons rfl (fun K hK => ?_) AllReadyH.nil
        go_simp
        refine hK.out _ _ ?_ (fun hHeld => ?_)
        · ((try dsimp only); first | with_reducible exact ⟨z0, z1, z2, z3, z4, z5, x0⟩ | with_reducible exact ⟨drc z0, drc z1, drc z2, drc z3, drc z4, drc z5, drc x0⟩ | go_keep)
        clear hK K
        try simp only [Act.put, List.setIfInBounds_toArray, List.set_cons_zero, List.set_cons_succ, List.getElem_toArray, List.getElem_cons_zero, List.getElem_cons_succ]
        refine wpAnyH_take (i := 9) (v := undef) rfl (by kernel_rfl) (by kernel_rfl) (by kernel_rfl) (fun _ _ _ h => h) (Or.inr ⟨by kernel_rfl, rfl⟩) (by assumption) ?_
        try simp only [Act.put, List.setIfInBounds_toArray, List.set_cons_zero, List.set_cons_succ, List.getElem_toArray, List.getElem_cons_zero, List.getElem_cons_succ]
        refine wpAnyH_take (i := 10) (v := undef) rfl (by kernel_rfl) (by kernel_rfl) (by kernel_rfl) (fun _ _ _ h => h) (Or.inr ⟨by kernel_rfl, rfl⟩) (by assumption) ?_
        try simp only [Act.put, List.setIfInBounds_toArray, List.set_cons_zero, List.set_cons_succ, List.getElem_toArray, List.getElem_cons_zero, List.getElem_cons_succ]
        refine wpAnyH_take (i := 11) (v := undef) rfl (by kernel_rfl) (by kernel_rfl) (by kernel_rfl) (fun _ _ _ h => h) (Or.inr ⟨by kernel_rfl, rfl⟩) (by assumption) ?_
        try simp only [Act.put, List.setIfInBounds_toArray, List.set_cons_zero, List.set_cons_succ, List.getElem_toArray, List.getElem_cons_zero, List.getElem_cons_succ]
        refine wpAnyH_take (i := 12) (v := undef) rfl (by kernel_rfl) (by kernel_rfl) (by kernel_rfl) (fun _ _ _ h => h) (Or.inr ⟨by kernel_rfl, rfl⟩) (by assumption) ?_
        try simp only [Act.put, List.setIfInBounds_toArray, List.set_cons_zero, List.set_cons_succ, List.getElem_toArray, List.getElem_cons_zero, List.getElem_cons_succ]
        refine wpAnyH_take (i := 13) (v := undef) rfl (by kernel_rfl) (by kernel_rfl) (by kernel_rfl) (fun _ _ _ h => h) (Or.inr ⟨by kernel_rfl, rfl⟩) (by assumption) ?_
        try simp only [Act.put, List.setIfInBounds_toArray, List.set_cons_zero, List.set_cons_succ, List.getElem_toArray, List.getElem_cons_zero, List.getElem_cons_succ]
        refine wpAnyH_ready (rs := [14]) (by kernel_rfl) (by simp) ?_
        refine AllReadyH.cons rfl (fun K hK => ?_) AllReadyH.nil
        go_simp
        refine hK.out _ _ ?_ (fun hHeld => ?_)
        · ((try dsimp only); first | with_reducible exact ⟨z0, z1, z2, z3, z4, z5, x0⟩ | with_reducible exact ⟨drc z0, drc z1, drc z2, drc z3, drc z4, drc z5, drc x0⟩ | go_keep)
        clear hK K
        try simp only [Act.put, List.setIfInBounds_toArray, List.set_cons_zero, List.set_cons_succ, List.getElem_toArray, List.getElem_cons_zero, List.getElem_cons_succ]
        refine wpAnyH_ready (rs := [15]) (by kernel_rfl) (by simp) ?_
        refine AllReadyH.cons rfl (fun K hK => ?_) AllReadyH.nil
        go_simp
        refine hK.out _ _ ?_ (fun hHeld => ?_)
        · ((try dsimp only); first | with_reducible exact ⟨z0, z1, z2, z3, z4, z5, x0⟩ | with_reducible exact ⟨drc z0, drc z1, drc z2, drc z3, drc z4, drc z5, drc x0⟩ | go_keep)
        clear hK K
        try simp only [Act.put, List.setIfInBounds_toArray, List.set_cons_zero, List.set_cons_succ, List.getElem_toArray, List.getElem_cons_zero, List.getElem_cons_succ]
        refine wpAnyH_done (by kernel_rfl) ?_ _
        go_wp2_with (fail)
        go_ret
        exact ⟨false, rfl, ⟨fun h => (by cases h), fun h => absurd (HQN.out.1 h).2.1 hok⟩, HB3.out⟩

end Go.Proofs.YtbgffmiffmmohaaGreatDoor.tree

