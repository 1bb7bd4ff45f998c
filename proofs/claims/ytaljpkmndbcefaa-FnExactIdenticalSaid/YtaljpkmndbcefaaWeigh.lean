/-
  Weight and Nest, of the project and of the model.
  Conditions: those that each theorem names.
-/
import Derived.Test.YtaljpkmndbcefaaMeasure
namespace Go.Proofs.Ytaljpkmndbcefaa.tree
open Go.ChangeShapes Go.WideShapes Go.ChangeAt Go.RowKit
set_option linter.unusedVariables false

def add (a b : Int) : Int := a + b
def mx (a b : Int) : Int := if a < b then b else a
theorem join_add : Join 1 add := ⟨by omega, by omega, fun a b h h' => by unfold add; omega, fun b h => by unfold add; omega⟩
theorem join_mx : Join 0 mx := ⟨by omega, by omega, fun a b h h' => by unfold mx; split <;> omega, fun b h => by unfold mx; split <;> omega⟩
def wt (t : Tr) : Int := sz 1 add t
def nt (t : Tr) : Int := sz 0 mx t

theorem joins_add : Joins 39 add where
  enters := enters_of Try.func39 (by kernel_rfl) rfl
  calls := fun a b w h0 h1 h2 h3 => by
    unfold add
    go_enter Try.func39, Try.ntmps39
    go_wp2
    go_ret
    exact ⟨rfl, rfl⟩
theorem joins_mx : Joins 41 mx where
  enters := enters_of Try.func41 (by kernel_rfl) rfl
  calls := fun a b w h0 h1 h2 h3 => by
    unfold mx
    by_cases h : a < b
    · rw [if_pos h]
      go_enter Try.func41, Try.ntmps41
      go_wp2
      go_ret
      exact ⟨rfl, rfl⟩
    · rw [if_neg h]
      go_enter Try.func41, Try.ntmps41
      go_wp2
      go_ret
      exact ⟨rfl, rfl⟩

theorem weight_i (t : Tr) (v : Value) (w : World) (lo : Nat) (h : TIn w (Nw lo w) t v) (hN : cnt t ≤ 1099511627000) : Calls Try.prog 25 #[v] w (GivesQ w (.int .i64 (wt t))) := by
  have M : ∀ o : Obj, Calls Try.prog 38 #[v, .int .i64 1, .func (.func 39) #[] #[]] (w.alloc o) (GivesQ (w.alloc o) (.int .i64 (wt t))) := fun o => measure join_add joins_add t v (w.alloc o) lo (h.nwb (b1 w o)) hN
  obtain ⟨k, n, s, x, ks, vs⟩ := t
  obtain ⟨A, c, rfl, hk, hin⟩ := h.out
  obtain ⟨W, HW⟩ : ∃ W, Hid (W = wt (.mk k n s x ks vs)) := ⟨_, Lib.hid rfl⟩
  rw [← HW.out] at M ⊢
  clear h hin hk hN
  go_enter Try.func25, Try.ntmps25
  go_wp2_with (fail)
  refine (M _).mono ?_
  rintro e w1 ⟨rfl, hb1⟩
  have HB1 := Lib.hid hb1
  clear hb1
  go_wp2_with (fail)
  go_ret
  exact ⟨rfl, bs (b1 _ _) HB1.out⟩
theorem nest_i (t : Tr) (v : Value) (w : World) (lo : Nat) (h : TIn w (Nw lo w) t v) (hN : cnt t ≤ 1099511627000) : Calls Try.prog 27 #[v] w (GivesQ w (.int .i64 (nt t))) := by
  have M : ∀ o : Obj, Calls Try.prog 38 #[v, .int .i64 0, .func (.func 41) #[] #[]] (w.alloc o) (GivesQ (w.alloc o) (.int .i64 (nt t))) := fun o => measure join_mx joins_mx t v (w.alloc o) lo (h.nwb (b1 w o)) hN
  obtain ⟨k, n, s, x, ks, vs⟩ := t
  obtain ⟨A, c, rfl, hk, hin⟩ := h.out
  obtain ⟨W, HW⟩ : ∃ W, Hid (W = nt (.mk k n s x ks vs)) := ⟨_, Lib.hid rfl⟩
  rw [← HW.out] at M ⊢
  clear h hin hk hN
  go_enter Try.func27, Try.ntmps27
  go_wp2_with (fail)
  refine (M _).mono ?_
  rintro e w1 ⟨rfl, hb1⟩
  have HB1 := Lib.hid hb1
  clear hb1
  go_wp2_with (fail)
  go_ret
  exact ⟨rfl, bs (b1 _ _) HB1.out⟩

theorem szl_add : ∀ (vs : List Tr) (a : Int), szl 1 add vs a = a + szl 1 add vs 0
  | [], a => by rw [szl, szl]; omega
  | t :: vs, a => by rw [szl, szl, szl_add vs (add a _), szl_add vs (add 0 _)]; unfold add; omega
theorem szl_drop {si : Int} {J : Int → Int → Int} {vs : List Tr} {j : Nat} {t : Tr} (h : vs[j]? = some t) (a : Int) : szl si J (vs.drop j) a = szl si J (vs.drop (j + 1)) (J a (sz si J t)) := by
  obtain ⟨hj, rfl⟩ := List.getElem?_eq_some_iff.1 h
  rw [List.drop_eq_getElem_cons hj, szl_cons]
theorem cnts_drop {vs : List Tr} {j : Nat} {t : Tr} (h : vs[j]? = some t) : cnts (vs.drop j) = cnt t + cnts (vs.drop (j + 1)) := by
  obtain ⟨hj, rfl⟩ := List.getElem?_eq_some_iff.1 h
  rw [List.drop_eq_getElem_cons hj, cnts_cons]
theorem cnts_mem : ∀ {vs : List Tr} {t : Tr}, t ∈ vs → cnt t ≤ cnts vs
  | [], _, h => by cases h
  | u :: vs, t, h => by
    rw [cnts_cons]
    rcases List.mem_cons.1 h with rfl | h
    · omega
    · have := cnts_mem h
      omega

def WtS (t : Tr) : Prop := cnt t ≤ 1099511627000 → ∀ (w : World) (S : Nat → Prop) (v : Value), TIn w S t v → Calls Try.prog 23 #[v] w (GivesQ w (.int .i64 (wt t)))

set_option maxHeartbeats 800000 in
theorem weight_s : ∀ t, WtS t := Tr.ind fun k n s x ks vs ih hN w S v h => by
  obtain ⟨A, c, rfl, hk, hin⟩ := h.out
  clear h
  rw [cnt_mk] at hN
  obtain ⟨L, HL⟩ : ∃ L, Hid (L = vs.length) := ⟨_, Lib.hid rfl⟩
  have hm : L ≤ maxLen := by rw [HL.out]; exact hin.2.1
  unfold maxLen at hm
  rw [← HL.out]
  by_cases h4 : k = 4
  · subst h4
    obtain ⟨W, HW⟩ : ∃ W, Hid (W = wt (.mk 4 n s x ks vs)) := ⟨_, Lib.hid rfl⟩
    have HW1 : Hid (W = szl 1 add vs 1) := by
      show W = _
      rw [HW.out, szl_add]
      exact sz_four n s x ks vs
    rw [← HW.out]
    have HI := Lib.hid hin
    clear hin hk
    go_enter Try.func23, Try.ntmps23
    go_wp2_with (fail)
    go_loopg [3, 4] (L + 1) (fun gk a i wr => ∃ (j : Nat) (q : Int), a = .int .i64 q ∧ i = .int .i64 j ∧ gk + j = L + 1 ∧ j ≤ L ∧ 0 ≤ q ∧ Hid (szl 1 add (vs.drop j) q = W ∧ q + cnts (vs.drop j) ≤ 1 + cnts vs) ∧ Hid (wr.heap[w.heap.size]? = some (.cells #[.int .i64 4, .int .i64 n, .string s, .int .i64 x, .slice A L c] IV (0, 0))) ∧ Below w.heap.size w wr)
    case atStart => exact ⟨0, 1, rfl, rfl, by omega, by omega, by omega, Lib.hid ⟨by rw [HW1.out]; rfl, by simp⟩, Lib.hid (heap_alloc_new w _), b1 _ _⟩
    case round =>
      obtain ⟨j, q, rfl, rfl, hgj, hjL, hq, HQ, HE, hb⟩ := hrel
      have HB := Lib.hid hb
      clear hb
      obtain ⟨r0, -⟩ := rowc HE.out
      by_cases hlt : j < L
      · obtain ⟨a, y, k', n', s', x', ks', vs', A1, c1, rfl, hS, hky, hvs, ht, hyb, hkb, hin', hcell⟩ := (HI.out.below HB.out).item (i := j) (by rw [← HL.out]; exact hlt)
        have hmem := List.mem_of_getElem? hvs
        have hcm := cnts_mem hmem
        have hcq : q + cnts (vs.drop j) ≤ 1 + cnts vs := HQ.out.2
        have hbd := sz_bd join_add (.mk k' n' s' x' ks' vs')
        have ihj : Calls Try.prog 23 #[vV k' n' s' x' A1 vs'.length c1] wr (GivesQ wr (.int .i64 (wt (.mk k' n' s' x' ks' vs')))) := ih _ hmem (by omega) wr S _ ht
        rw [cnts_drop hvs] at hcq
        push_cast at hcq
        obtain ⟨Q, HQQ⟩ : ∃ Q, Hid (wt (.mk k' n' s' x' ks' vs') = Q) := ⟨_, Lib.hid rfl⟩
        rw [HQQ.out] at ihj
        have hQ0 : 0 ≤ Q := by rw [← HQQ.out]; exact hbd.1
        have hQle : Q ≤ (cnt (.mk k' n' s' x' ks' vs') : Int) := by rw [← HQQ.out]; exact hbd.2
        have hQ1 : q + Q ≤ 1099511627000 := by omega
        have HVS := Lib.hid hvs
        have hQ2 : q + Q + cnts (vs.drop (j + 1)) ≤ 1 + cnts vs := by omega
        clear hky hvs ht hin' hyb hkb hS hmem hcm hcq hbd hQle
        obtain ⟨p0, p1, p2, p3, p4, p5, p6, p7⟩ := hcell
        go_wp2_with (fail)
        refine ihj.mono ?_
        rintro e w1 ⟨rfl, hb1⟩
        have HE1 := Lib.hid (carry hb1 HE.out)
        have HB1 := Lib.hid (bs HB.out hb1)
        clear hb1 r0
        obtain ⟨r1, -⟩ := rowc HE1.out
        go_wp2_with (fail)
        go_roundg (L - j)
        case rel =>
          refine ⟨j + 1, q + Q, rfl, by go_num, by omega, by omega, by omega, Lib.hid ⟨?_, hQ2⟩, HE1, HB1.out⟩
          rw [← HQ.out.1, szl_drop HVS.out q, show sz 1 add _ = Q from HQQ.out]
          rfl
        case measure => omega
      · obtain rfl : j = L := by omega
        go_wp2_with (fail)
        go_ret
        have := HQ.out.1
        rw [show vs.drop j = [] from List.drop_eq_nil_of_le (Nat.le_of_eq HL.out.symm), szl_nil] at this
        exact ⟨by rw [this]; rfl, HB.out⟩
  · have hw : wt (.mk k n s x ks vs) = 1 := sz_not h4
    rw [hw]
    clear hw hin hk
    go_enter Try.func23, Try.ntmps23
    go_wp2_with (fail)
    go_loopg [3, 4] 1 (fun gk a i wr => a = .int .i64 1 ∧ i = .int .i64 0 ∧ gk = 1 ∧ Hid (wr.heap[w.heap.size]? = some (.cells #[.int .i64 k, .int .i64 n, .string s, .int .i64 x, .slice A L c] IV (0, 0))) ∧ Below w.heap.size w wr)
    case atStart => exact ⟨rfl, rfl, rfl, Lib.hid (heap_alloc_new w _), b1 _ _⟩
    case round =>
      obtain ⟨rfl, rfl, rfl, HE, hb⟩ := hrel
      have HB := Lib.hid hb
      clear hb
      obtain ⟨r0, -⟩ := rowc HE.out
      go_wp2_with (fail)
      go_ret
      exact ⟨rfl, HB.out⟩

theorem specMax (a b : Int) (w : World) : Calls Try.prog 40 #[.int .i64 a, .int .i64 b] w fun e w' => e = .returned (.int .i64 (mx a b)) ∧ w = w' := by
  unfold mx
  by_cases h : a < b
  · rw [if_pos h]
    go_enter Try.func40, Try.ntmps40
    go_wp2
    go_ret
    exact ⟨rfl, rfl⟩
  · rw [if_neg h]
    go_enter Try.func40, Try.ntmps40
    go_wp2
    go_ret
    exact ⟨rfl, rfl⟩

def NtS (t : Tr) : Prop := cnt t ≤ 1099511627000 → ∀ (w : World) (S : Nat → Prop) (v : Value), TIn w S t v → Calls Try.prog 26 #[v] w (GivesQ w (.int .i64 (nt t)))

set_option maxHeartbeats 800000 in
theorem nest_s : ∀ t, NtS t := Tr.ind fun k n s x ks vs ih hN w S v h => by
  obtain ⟨A, c, rfl, hk, hin⟩ := h.out
  clear h
  rw [cnt_mk] at hN
  obtain ⟨L, HL⟩ : ∃ L, Hid (L = vs.length) := ⟨_, Lib.hid rfl⟩
  have hm : L ≤ maxLen := by rw [HL.out]; exact hin.2.1
  unfold maxLen at hm
  rw [← HL.out]
  by_cases h4 : k = 4
  · subst h4
    obtain ⟨W, HW⟩ : ∃ W, Hid (W = nt (.mk 4 n s x ks vs)) := ⟨_, Lib.hid rfl⟩
    have HW1 : Hid (W = 1 + szl 0 mx vs 0) := by
      show W = _
      rw [HW.out]
      exact sz_four n s x ks vs
    rw [← HW.out]
    have HI := Lib.hid hin
    clear hin hk
    go_enter Try.func26, Try.ntmps26
    go_wp2_with (fail)
    go_loopg [3, 4] (L + 1) (fun gk a i wr => ∃ (j : Nat) (q : Int), a = .int .i64 q ∧ i = .int .i64 j ∧ gk + j = L + 1 ∧ j ≤ L ∧ 0 ≤ q ∧ q ≤ 1099511627000 ∧ Hid (szl 0 mx (vs.drop j) q = szl 0 mx vs 0 ∧ q + cnts (vs.drop j) ≤ cnts vs) ∧ Hid (wr.heap[w.heap.size]? = some (.cells #[.int .i64 4, .int .i64 n, .string s, .int .i64 x, .slice A L c] IV (0, 0))) ∧ Below w.heap.size w wr)
    case atStart => exact ⟨0, 0, rfl, rfl, by omega, by omega, by omega, by omega, Lib.hid ⟨by simp, by simp⟩, Lib.hid (heap_alloc_new w _), b1 _ _⟩
    case round =>
      obtain ⟨j, q, rfl, rfl, hgj, hjL, hq, hqM, HQ, HE, hb⟩ := hrel
      have HB := Lib.hid hb
      clear hb
      obtain ⟨r0, -⟩ := rowc HE.out
      by_cases hlt : j < L
      · obtain ⟨a, y, k', n', s', x', ks', vs', A1, c1, rfl, hS, hky, hvs, ht, hyb, hkb, hin', hcell⟩ := (HI.out.below HB.out).item (i := j) (by rw [← HL.out]; exact hlt)
        have hmem := List.mem_of_getElem? hvs
        have hcm := cnts_mem hmem
        have hcq : q + cnts (vs.drop j) ≤ cnts vs := HQ.out.2
        have hbd := sz_bd join_mx (.mk k' n' s' x' ks' vs')
        have ihj : Calls Try.prog 26 #[vV k' n' s' x' A1 vs'.length c1] wr (GivesQ wr (.int .i64 (nt (.mk k' n' s' x' ks' vs')))) := ih _ hmem (by omega) wr S _ ht
        rw [cnts_drop hvs] at hcq
        push_cast at hcq
        obtain ⟨Q, HQQ⟩ : ∃ Q, Hid (nt (.mk k' n' s' x' ks' vs') = Q) := ⟨_, Lib.hid rfl⟩
        rw [HQQ.out] at ihj
        have hQ0 : 0 ≤ Q := by rw [← HQQ.out]; exact hbd.1
        have hQle : Q ≤ (cnt (.mk k' n' s' x' ks' vs') : Int) := by rw [← HQQ.out]; exact hbd.2
        have hmb := join_mx.bd q Q hq hQ0
        obtain ⟨M, HM⟩ : ∃ M, Hid (mx q Q = M) := ⟨_, Lib.hid rfl⟩
        rw [HM.out] at hmb
        have hM1 : M ≤ 1099511627000 := by omega
        have HVS := Lib.hid hvs
        have hQ2 : M + cnts (vs.drop (j + 1)) ≤ cnts vs := by omega
        have SM : ∀ w, Calls Try.prog 40 #[.int .i64 q, .int .i64 Q] w fun e w' => e = .returned (.int .i64 M) ∧ w = w' := fun w => HM.out ▸ specMax q Q w
        have hM0 := hmb.1
        clear hky hvs ht hin' hyb hkb hS hmem hcm hcq hbd hQle hmb
        obtain ⟨p0, p1, p2, p3, p4, p5, p6, p7⟩ := hcell
        go_wp2_with (fail)
        refine ihj.mono ?_
        rintro e w1 ⟨rfl, hb1⟩
        have HE1 := Lib.hid (carry hb1 HE.out)
        have HB1 := Lib.hid (bs HB.out hb1)
        clear hb1 r0
        obtain ⟨r1, -⟩ := rowc HE1.out
        go_wp2_with (fail)
        refine (SM _).mono ?_
        rintro e w2 ⟨rfl, rfl⟩
        go_wp2_with (fail)
        go_roundg (L - j)
        case rel =>
          refine ⟨j + 1, M, rfl, by go_num, by omega, by omega, hM0, hM1, Lib.hid ⟨?_, hQ2⟩, HE1, HB1.out⟩
          rw [← HQ.out.1, szl_drop HVS.out q, show sz 0 mx _ = Q from HQQ.out, HM.out]
        case measure => omega
      · obtain rfl : j = L := by omega
        go_wp2_with (fail)
        go_ret
        have := HQ.out.1
        rw [show vs.drop j = [] from List.drop_eq_nil_of_le (Nat.le_of_eq HL.out.symm), szl_nil] at this
        have e1 : W = q + 1 := by rw [HW1.out, this]; omega
        exact ⟨by rw [e1]; rfl, HB.out⟩
  · have hw : nt (.mk k n s x ks vs) = 0 := sz_not h4
    rw [hw]
    clear hw hin hk
    go_enter Try.func26, Try.ntmps26
    go_wp2_with (fail)
    go_ret
    exact ⟨rfl, b1 _ _⟩

end Go.Proofs.Ytaljpkmndbcefaa.tree
