/-
  Whether a value is light, of the project and of the model: what its weight leaves of a limit.
  Conditions: those that each theorem names.
-/
import Derived.Test.YteiijemjofaihaaDoorTreeSz
import Derived.Test.YteiijemjofaihaaDoorPos
namespace Go.Proofs.YteiijemjofaihaaDoor.tree
open Go.ChangeShapes Go.WideShapes Go.ChangeAt Go.RowKit
set_option linter.unusedVariables false

mutual
/-- The weight of a value. -/
def wgt : Tr → Nat
  | .mk k _ _ _ _ vs => if k = 4 then 1 + wgts vs else 1
def wgts : List Tr → Nat
  | [] => 0
  | t :: vs => wgt t + wgts vs
end
theorem wgt_four (n : Int) (s : ByteArray) (x : Int) (ks : List Ky) (vs : List Tr) : wgt (.mk 4 n s x ks vs) = 1 + wgts vs := by rw [wgt, if_pos rfl]
theorem wgt_not {k n : Int} {s : ByteArray} {x : Int} {ks : List Ky} {vs : List Tr} (h : k ≠ 4) : wgt (.mk k n s x ks vs) = 1 := by rw [wgt, if_neg h]
theorem wgts_nil : wgts [] = 0 := by rw [wgts]
theorem wgts_cons (t : Tr) (vs : List Tr) : wgts (t :: vs) = wgt t + wgts vs := by rw [wgts]
theorem wgts_drop {vs : List Tr} {j : Nat} {t : Tr} (h : vs[j]? = some t) : wgts (vs.drop j) = wgt t + wgts (vs.drop (j + 1)) := by
  obtain ⟨hj, rfl⟩ := List.getElem?_eq_some_iff.1 h
  rw [List.drop_eq_getElem_cons hj, wgts_cons]
theorem wgt_pos : ∀ t, 1 ≤ wgt t
  | .mk k _ _ _ _ vs => by rw [wgt]; split <;> omega

/-- What a weight leaves of a limit, -1 if it is more. -/
def lft (m : Int) (n : Nat) : Int := if m < n then -1 else m - n
/-- A weight up to one more than a limit. -/
def cut (m : Int) (n : Nat) : Int := if m < n then m + 1 else n

def SpI (t : Tr) : Prop := ∀ (w : World) (S : Nat → Prop) (v : Value), TIn w S t v → ∀ m : Int, 0 ≤ m → m ≤ 200 → Calls Tryd.prog 121 #[.int .i64 m, v] w (LtQ w (lft m (wgt t)))

set_option maxHeartbeats 800000 in
theorem spare_i : ∀ t, SpI t := Tr.ind fun k n s x ks vs ih w S v h m hm0 hm1 => by
  obtain ⟨A, c, rfl, hk, hin⟩ := h.out
  clear h
  obtain ⟨L, HL⟩ : ∃ L, Hid (L = vs.length) := ⟨_, Lib.hid rfl⟩
  have hm : L ≤ maxLen := by rw [HL.out]; exact hin.2.1
  unfold maxLen at hm
  rw [← HL.out]
  by_cases h4 : k = 4
  · subst h4
    obtain ⟨W, HW⟩ : ∃ W, Hid (W = lft m (wgt (.mk 4 n s x ks vs))) := ⟨_, Lib.hid rfl⟩
    have HW1 : Hid (W = lft (m - 1) (wgts vs)) := by
      show W = _
      rw [HW.out, wgt_four]
      unfold lft
      split <;> split <;> push_cast <;> omega
    rw [← HW.out]
    have HI := Lib.hid hin
    clear hin hk
    go_enter Tryd.func121, Tryd.ntmps121
    go_wp2_with (fail)
    go_loopg [0, 16] (L + 1) (fun gk l i wr => ∃ (j : Nat) (q : Int), l = .int .i64 q ∧ i = .int .i64 j ∧ gk + j = L + 1 ∧ j ≤ L ∧ -1 ≤ q ∧ q ≤ 199 ∧ Hid (lft q (wgts (vs.drop j)) = W) ∧ Below w.heap.size w wr)
    case atStart => exact ⟨0, m - 1, rfl, rfl, by omega, by omega, by omega, by omega, Lib.hid (by rw [HW1.out]; simp), b1 _ _⟩
    case round =>
      obtain ⟨j, q, rfl, rfl, hgj, hjL, hq0, hq1, HQ, hb⟩ := hrel
      have HB := Lib.hid hb
      clear hb
      by_cases hlt : j < L
      · obtain ⟨a, y, k', n', s', x', ks', vs', A1, c1, rfl, hS, hky, hvs, ht, hyb, hkb, hin', hcell⟩ := (HI.out.below HB.out).item (i := j) (by rw [← HL.out]; exact hlt)
        obtain ⟨Q, HQQ⟩ : ∃ Q, Hid (lft q (wgt (.mk k' n' s' x' ks' vs')) = Q) := ⟨_, Lib.hid rfl⟩
        have ihj : 0 ≤ q → ∀ w' : World, Below wr.heap.size wr w' → Calls Tryd.prog 121 #[.int .i64 q, vV k' n' s' x' A1 vs'.length c1] w' (LtQ w' Q) := fun h0 w' hb' => HQQ.out ▸ ih _ (List.mem_of_getElem? hvs) w' S _ (ht.below' hb') q h0 (by omega)
        have HD := Lib.hid (wgts_drop hvs)
        have HP := Lib.hid (wgt_pos (.mk k' n' s' x' ks' vs'))
        clear hky hvs ht hin' hyb hkb hS
        obtain ⟨p0, p1, p2, p3, p4, p5, p6, p7⟩ := hcell
        by_cases hneg : q < 0
        · obtain rfl : q = -1 := by omega
          go_wp2_with (fail)
          go_ret
          have e : W = -1 := by
            rw [← HQ.out]
            unfold lft
            split <;> omega
          exact ⟨by rw [e]; rfl, bs HB.out (b1 _ _)⟩
        · have hq : 0 ≤ q := by omega
          have hQ : -1 ≤ Q ∧ Q ≤ 199 := by
            rw [← HQQ.out]
            have := HP.out
            unfold lft
            split <;> omega
          obtain ⟨hQ0, hQ1⟩ := hQ
          go_wp2_with (fail)
          refine (ihj hq _ (b1 _ _)).mono ?_
          rintro e w1 ⟨rfl, hb1⟩
          have HB1 := Lib.hid (bs HB.out (bs (b1 _ _) hb1))
          clear hb1
          go_wp2_with (fail)
          go_roundg (L - j)
          case rel =>
            refine ⟨j + 1, Q, rfl, by go_num, by omega, by omega, hQ0, hQ1, Lib.hid ?_, HB1.out⟩
            rw [← HQ.out, HD.out, ← HQQ.out]
            unfold lft
            split <;> split <;> split <;> push_cast at * <;> omega
          case measure => omega
      · obtain rfl : j = L := by omega
        have e : W = q := by
          rw [← HQ.out, show vs.drop j = [] from List.drop_eq_nil_of_le (Nat.le_of_eq HL.out.symm), wgts_nil]
          unfold lft
          split <;> omega
        go_wp2_with (fail)
        go_ret
        exact ⟨by first | rfl | (rw [e]; rfl), HB.out⟩
  · have hw : lft m (wgt (.mk k n s x ks vs)) = m - 1 := by
      rw [wgt_not h4]
      unfold lft
      split <;> omega
    rw [hw]
    clear hw hin hk
    go_enter Tryd.func121, Tryd.ntmps121
    go_wp2_with (fail)
    go_ret
    exact ⟨rfl, b1 _ _⟩

def WgS (t : Tr) : Prop := ∀ (w : World) (S : Nat → Prop) (v : Value), TIn w S t v → ∀ m : Int, 0 ≤ m → m ≤ 200 → Calls Tryd.prog 60 #[v, .int .i64 m] w (LtQ w (cut m (wgt t)))

set_option maxHeartbeats 800000 in
theorem weigh_s : ∀ t, WgS t := Tr.ind fun k n s x ks vs ih w S v h m hm0 hm1 => by
  obtain ⟨A, c, rfl, hk, hin⟩ := h.out
  clear h
  obtain ⟨L, HL⟩ : ∃ L, Hid (L = vs.length) := ⟨_, Lib.hid rfl⟩
  have hm : L ≤ maxLen := by rw [HL.out]; exact hin.2.1
  unfold maxLen at hm
  rw [← HL.out]
  by_cases h4 : k = 4
  · subst h4
    obtain ⟨W, HW⟩ : ∃ W, Hid (W = cut m (wgt (.mk 4 n s x ks vs))) := ⟨_, Lib.hid rfl⟩
    have HW1 : Hid (W = cut m (1 + wgts vs)) := by
      show W = _
      rw [HW.out, wgt_four]
    rw [← HW.out]
    have HI := Lib.hid hin
    clear hin hk
    go_enter Tryd.func60, Tryd.ntmps60
    go_wp2_with (fail)
    go_loopg [5, 6] (L + 1) (fun gk a i wr => ∃ (j q : Nat), a = .int .i64 q ∧ i = .int .i64 j ∧ gk + j = L + 1 ∧ j ≤ L ∧ (q : Int) ≤ m + 1 ∧ Hid (cut m (q + wgts (vs.drop j)) = W) ∧ Hid (wr.heap[w.heap.size]? = some (.cells #[.int .i64 4, .int .i64 n, .string s, .int .i64 x, .slice A L c] IV (0, 0))) ∧ Below w.heap.size w wr)
    case atStart => exact ⟨0, 1, rfl, rfl, by omega, by omega, by omega, Lib.hid (by rw [HW1.out]; rfl), Lib.hid (heap_alloc_new w _), b1 _ _⟩
    case round =>
      obtain ⟨j, q, rfl, rfl, hgj, hjL, hq1, HQ, HE, hb⟩ := hrel
      have HB := Lib.hid hb
      clear hb
      obtain ⟨r0, -⟩ := rowc HE.out
      by_cases hlt : j < L
      · obtain ⟨a, y, k', n', s', x', ks', vs', A1, c1, rfl, hS, hky, hvs, ht, hyb, hkb, hin', hcell⟩ := (HI.out.below HB.out).item (i := j) (by rw [← HL.out]; exact hlt)
        by_cases hle : (q : Int) ≤ m
        · obtain ⟨Q, HQQ⟩ : ∃ Q : Nat, Hid (cut (m - q) (wgt (.mk k' n' s' x' ks' vs')) = Q) := by
            refine ⟨(cut (m - q) (wgt (.mk k' n' s' x' ks' vs'))).toNat, Lib.hid ?_⟩
            unfold cut
            split <;> omega
          have ihj : Calls Tryd.prog 60 #[vV k' n' s' x' A1 vs'.length c1, .int .i64 (m - q)] wr (LtQ wr Q) := HQQ.out ▸ ih _ (List.mem_of_getElem? hvs) wr S _ ht (m - q) (by omega) (by omega)
          have HD := Lib.hid (wgts_drop hvs)
          have hQ : (q : Int) + Q ≤ m + 1 := by
            rw [← HQQ.out]
            unfold cut
            split <;> omega
          clear hky hvs ht hin' hyb hkb hS
          obtain ⟨p0, p1, p2, p3, p4, p5, p6, p7⟩ := hcell
          go_wp2_with (fail)
          refine ihj.mono ?_
          rintro e w1 ⟨rfl, hb1⟩
          have HE1 := Lib.hid (carry hb1 HE.out)
          have HB1 := Lib.hid (bs HB.out hb1)
          clear hb1 r0
          obtain ⟨r1, -⟩ := rowc HE1.out
          go_wp2_with (fail)
          go_roundg (L - j)
          case rel =>
            refine ⟨j + 1, q + Q, by go_num, by go_num, by omega, by omega, by push_cast; omega, Lib.hid ?_, HE1, HB1.out⟩
            have e1 := HQQ.out
            rw [← HQ.out, HD.out]
            unfold cut at e1 ⊢
            split at e1 <;> split <;> split <;> push_cast at * <;> omega
          case measure => omega
        · have e : W = (q : Int) := by
            rw [← HQ.out]
            unfold cut
            split <;> push_cast at * <;> omega
          clear hky hvs ht hin' hyb hkb hS hcell
          go_wp2_with (fail)
          go_ret
          exact ⟨by first | rfl | (rw [e]; rfl), HB.out⟩
      · obtain rfl : j = L := by omega
        have e : W = (q : Int) := by
          rw [← HQ.out, show vs.drop j = [] from List.drop_eq_nil_of_le (Nat.le_of_eq HL.out.symm), wgts_nil]
          unfold cut
          split <;> push_cast at * <;> omega
        go_wp2_with (fail)
        go_ret
        exact ⟨by first | rfl | (rw [e]; rfl), HB.out⟩
  · have hw : cut m (wgt (.mk k n s x ks vs)) = 1 := by
      rw [wgt_not h4]
      unfold cut
      split <;> omega
    rw [hw]
    clear hw hin hk
    go_enter Tryd.func60, Tryd.ntmps60
    go_wp2_with (fail)
    go_loopg [5, 6] 1 (fun gk a i wr => a = .int .i64 1 ∧ i = .int .i64 0 ∧ gk = 1 ∧ Hid (wr.heap[w.heap.size]? = some (.cells #[.int .i64 k, .int .i64 n, .string s, .int .i64 x, .slice A L c] IV (0, 0))) ∧ Below w.heap.size w wr)
    case atStart => exact ⟨rfl, rfl, rfl, Lib.hid (heap_alloc_new w _), b1 _ _⟩
    case round =>
      obtain ⟨rfl, rfl, rfl, HE, hb⟩ := hrel
      have HB := Lib.hid hb
      clear hb
      obtain ⟨r0, -⟩ := rowc HE.out
      go_wp2_with (fail)
      go_ret
      exact ⟨rfl, HB.out⟩

def lightB (t : Tr) : Bool := decide (wgt t ≤ 200)
theorem light_i (t : Tr) (w : World) (S : Nat → Prop) (v : Value) (h : TIn w S t v) : Calls Tryd.prog 80 #[v] w (BoQ w (lightB t)) := by
  have SP : ∀ o : Obj, Calls Tryd.prog 121 #[.int .i64 200, v] (w.alloc o) (LtQ (w.alloc o) (lft 200 (wgt t))) := fun o => spare_i t _ S v (h.below' (b1 w o)) 200 (by omega) (by omega)
  obtain ⟨N, HN⟩ : ∃ N, Hid (wgt t = N) := ⟨_, Lib.hid rfl⟩
  unfold lightB
  rw [HN.out] at SP ⊢
  obtain ⟨k, n, s, x, ks, vs⟩ := t
  obtain ⟨A, c, rfl, hk, hin⟩ := h.out
  clear h hk hin
  by_cases hle : N ≤ 200
  · rw [decide_eq_true hle]
    obtain ⟨r, hr, e⟩ : ∃ r : Int, 0 ≤ r ∧ lft 200 N = r := ⟨_, by unfold lft; split <;> omega, rfl⟩
    rw [e] at SP
    clear e
    go_enter Tryd.func80, Tryd.ntmps80
    go_wp2_with (fail)
    refine (SP _).mono ?_
    rintro e w1 ⟨rfl, hb1⟩
    have HB1 := Lib.hid (bs (b1 _ _) hb1)
    clear hb1
    go_wp2_with (fail)
    go_ret
    exact ⟨rfl, HB1.out⟩
  · rw [decide_eq_false hle]
    have e : lft 200 N = -1 := by unfold lft; split <;> omega
    rw [e] at SP
    go_enter Tryd.func80, Tryd.ntmps80
    go_wp2_with (fail)
    refine (SP _).mono ?_
    rintro e w1 ⟨rfl, hb1⟩
    have HB1 := Lib.hid (bs (b1 _ _) hb1)
    clear hb1
    go_wp2_with (fail)
    go_ret
    exact ⟨rfl, HB1.out⟩

end Go.Proofs.YteiijemjofaihaaDoor.tree
