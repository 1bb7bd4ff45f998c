/-
  DeleteKey of the project.
  Conditions: the value holds at most 2^20 and one items and 10^9 letters.
-/
import Derived.Test.YtlbkbcafkjgckaaDoorAsSGetK
import Derived.Test.YtlbkbcafkjgckaaDoorSoB2
namespace Go.Proofs.YtlbkbcafkjgckaaDoor.tree
open Go.ChangeShapes Go.WideShapes Go.ChangeAt Go.RowKit
set_option linter.unusedVariables false

/-- A value without the item at a key. -/
def delT : Tr → Ky → Tr
  | .mk k n s x ks vs, y => if posV (.mk k n s x ks vs) y = -1 then .mk k n s x ks vs else .mk k n s x (ks.eraseIdx (posV (.mk k n s x ks vs) y).toNat) (vs.eraseIdx (posV (.mk k n s x ks vs) y).toNat)
theorem delT_none {t : Tr} {y : Ky} (h : posV t y = -1) : delT t y = t := by cases t; rw [delT, if_pos h]
theorem delT_some {k n x : Int} {s : ByteArray} {ks : List Ky} {vs : List Tr} {y : Ky} {i : Nat} (h : posV (.mk k n s x ks vs) y = i) : delT (.mk k n s x ks vs) y = .mk k n s x (ks.eraseIdx i) (vs.eraseIdx i) := by
  rw [delT, if_neg (by omega), h, Int.toNat_natCast]

/-- Items without one, whose cells lie in a new block. -/
theorem dropped {w wF : World} {S S' : Nat → Prop} {ks : List Ky} {vs : List Tr} {cs : List Value} {g i L : Nat} {arr : Array Value} (hcl : cs.length = L * 8) (hL : vs.length = L) (hkl : ks.length = L) (hm : L ≤ maxLen) (hi : i < L)
    (hit : ∀ i, i < L → ∃ y k n s x ks' vs' A c, ks[i]? = some y ∧ vs[i]? = some (.mk k n s x ks' vs') ∧ (I64 y.num ∧ y.str.size ≤ maxLen) ∧ (I64 k ∧ I64 n ∧ I64 x ∧ s.size ≤ maxLen) ∧ xAt8 cs i y k n s x A vs'.length c ∧ TIn w S (.mk k n s x ks' vs') (vV k n s x A vs'.length c))
    (hg : wF.heap[g]? = some (.cells arr IE (0, 0))) (ha : arr.toList = cs.take (i * 8) ++ cs.drop ((i + 1) * 8)) (hS : S' g) (hSS : ∀ b, S b → S' b) (hb : ∀ b, S b → b < w.heap.size → wF.heap[b]? = w.heap[b]?) :
    IsIn wF S' (ks.eraseIdx i) (vs.eraseIdx i) (some ⟨g, 0, none⟩) := by
  have e1 : (ks.eraseIdx i).length = L - 1 := by rw [List.length_eraseIdx, if_pos (by omega), hkl]
  have e2 : (vs.eraseIdx i).length = L - 1 := by rw [List.length_eraseIdx, if_pos (by omega), hL]
  refine isin_row hg hS (by rw [e1, e2]) (by rw [e2]; omega) fun j hj => ?_
  rw [e2] at hj
  obtain ⟨y, k, n, s, x, ks', vs', A, c, h1, h2, h3, -, h5, h6⟩ := hit (if j < i then j else j + 1) (by split <;> omega)
  refine ⟨y, k, n, s, x, ks', vs', A, c, by rw [erase_get _ _ _ (by omega), h1], by rw [erase_get _ _ _ (by omega), h2], h3, fun q hq => ?_, h6.stays hSS hb⟩
  rw [← xAt8_drop hcl hi h5 q hq, ← ha, Array.getElem?_toList]

def OutD (w : World) (t : Tr) (e : Ending) (w' : World) : Prop := ∃ u par R, e = .returned u ∧ TPar w' par (R, 0) t u ∧ w.heap.size ≤ R ∧ Below w.heap.size w w'

set_option maxRecDepth 100000 in
set_option maxHeartbeats 1600000 in
theorem deleteKey_i (t : Tr) (v : Value) (y : Ky) (w : World) (lo : Nat) (h : TIn w (Nw lo w) t v) (hN : cnt t ≤ 1048578) (hT : tot t ≤ 1000000000) (hN2 : cnt (delT t y) ≤ 1048578) (hT2 : tot (delT t y) ≤ 1000000000) : Calls Tryd.prog 19 #[v, kyV y] w (OutD w (delT t y)) := by
  replace h : TIn w (Nw 0 w) t v := h.stays (fun b hb => ⟨Nat.zero_le _, hb.2⟩) (fun _ _ _ => rfl)
  obtain ⟨k, n, s, x, ks, vs⟩ := t
  obtain ⟨A, c, rfl, hk, hin⟩ := h.out
  have hcap := h.cap
  have FI := fun w h => findKey_i (.mk k n s x ks vs) (vV k n s x A vs.length c) y w (Nw 0 w) h
  have CV := fun w' (h : TIn w' (Nw 0 w') _ (vV k n s x A vs.length c)) => copyValue (.mk k n s x ks vs) (vV k n s x A vs.length c) w' 0 h hN hT
  obtain ⟨L, HL⟩ : ∃ L, Hid (vs.length = L) := ⟨_, Lib.hid rfl⟩
  have hm : L ≤ maxLen := by rw [← HL.out]; exact hin.2.1
  have HM := Lib.hid hm
  have hm3 : L ≤ 1048578 := by have := cnts_len vs; rw [cnt_mk'] at hN; rw [← HL.out]; omega
  unfold maxLen at hm
  have hkl : Hid (ks.length = L) := Lib.hid (by rw [← HL.out]; exact hin.1)
  have hcapH := Lib.hid hcap
  rw [HL.out] at h FI CV hcap
  have HT := Lib.hid h
  have HI := Lib.hid hin
  have HCV := Lib.hid CV
  have HK := Lib.hid hk
  have HN2 := Lib.hid hN2
  have HT2 := Lib.hid hT2
  clear h hin hN hT CV hcap hk hN2 hT2
  rw [HL.out]
  rcases posV_cases k n s x ks vs y with hp | ⟨i, hp, hi, rfl⟩
  · rw [delT_none hp]
    rw [hp] at FI
    have HF := Lib.hid FI
    clear FI hp
    obtain ⟨yb, yn, ys⟩ := y
    unfold kyV at HF ⊢
    go_enter Tryd.func19, Tryd.ntmps19
    go_wp2_with (fail)
    obtain ⟨a0, a1, a2, az, ab⟩ := al3 w #[.int .i64 k, .int .i64 n, .string s, .int .i64 x, .slice A L c] #[.bool yb, .int .i64 yn, .string ys] #[.int .i64 0, .int .i64 0, .string ⟨#[]⟩, .int .i64 0, .slice none 0 0] IV IK IV
    refine (HF.out _ (HT.out.nwb ab)).mono ?_
    rintro e w1 ⟨rfl, hb1⟩
    have A0 := Lib.hid (carry hb1 a0)
    have A2 := Lib.hid (carry hb1 a2)
    have HB1 := Lib.hid (bs ab hb1)
    obtain ⟨r0, f0⟩ := rowc A0.out
    clear a0 a1 a2 az ab hb1
    go_wp2_with (fail)
    refine (HCV.out _ (HT.out.nwb HB1.out)).mono ?_
    rintro e w2 ⟨u, par, R, rfl, hu, hR, hb2⟩
    obtain ⟨A3, c3, rfl, -⟩ := hu.out
    rw [HL.out] at hu
    have HU := Lib.hid hu
    have HR := Lib.hid hR
    have HB2w := Lib.hid hb2
    obtain ⟨r, f⟩ := rowc (carry hb2 A2.out)
    have HB2 := Lib.hid (bs HB1.out hb2)
    clear hb2 hu hR r0 f0
    rw [HL.out]
    go_wp2_with (fail)
    generalize hwF : (((((w2.setCell ⟨w.heap.size + 1 + 1, 0, none⟩ (.int .i64 k)).setCell ⟨w.heap.size + 1 + 1, 1, none⟩ (.int .i64 n)).setCell ⟨w.heap.size + 1 + 1, 2, none⟩ (.string s)).setCell ⟨w.heap.size + 1 + 1, 3, none⟩ (.int .i64 x)).setCell ⟨w.heap.size + 1 + 1, 4, none⟩ (.slice A3 L c3)) = wF
    obtain ⟨rF, oF, bF⟩ := fill5 (carry HB2w.out A2.out) hwF
    refine bodyPost_ret (v := vV k n s x A3 L c3) ?_ rfl ?_
    · simp [results, Tryd.results19, go_sem, rF]
    · have hz : w.heap.size + 1 + 1 < w1.heap.size := (Array.getElem?_eq_some_iff.1 A2.out).1
      refine ⟨_, par, R, rfl, ?_, Nat.le_trans HB1.out.size HR.out, bF _ _ (by omega) HB2.out⟩
      exact HU.out.above fun b hb _ => oF b (by have := HR.out; simp at hb; omega)
  · rw [delT_some hp] at HN2 HT2 ⊢
    rw [hp] at FI
    have hiL : i < L := by rw [← hkl.out]; exact hi
    obtain ⟨q, HQ⟩ : ∃ q, Hid (L = i + q + 1) := ⟨L - 1 - i, Lib.hid (by omega)⟩
    obtain ⟨M, HME⟩ : ∃ M, Hid (M = i + q) := ⟨_, Lib.hid rfl⟩
    have hML : (L : Int) - 1 = M := by have := HQ.out; have := HME.out; omega
    obtain ⟨a, y1, k1, n1, s1, x1, ks1, vs1, A1, c1, rfl, -⟩ := HI.out.item (i := i) (by rw [HL.out]; exact hiL)
    obtain ⟨cs, hcl, hsrc, hone, hit⟩ := HI.out.cells
    rw [HL.out] at hcl hit
    have HF := Lib.hid FI
    have HCL := Lib.hid hcl
    have HSRC := Lib.hid hsrc
    have HONE := Lib.hid hone
    have HIT := Lib.hid hit
    have e2 : (vs.eraseIdx i).length = M := by have := HQ.out; have := HME.out; rw [List.length_eraseIdx, if_pos (by rw [HL.out]; exact hiL), HL.out]; omega
    have HE2 := Lib.hid e2
    clear FI hp hi hcl hsrc hone hit e2
    obtain ⟨yb, yn, ys⟩ := y
    unfold kyV at HF ⊢
    go_enter Tryd.func19, Tryd.ntmps19
    go_wp2_with (fail)
    obtain ⟨a0, a1, a2, az, ab⟩ := al3 w #[.int .i64 4, .int .i64 n, .string s, .int .i64 x, .slice (some a) L c] #[.bool yb, .int .i64 yn, .string ys] #[.int .i64 0, .int .i64 0, .string ⟨#[]⟩, .int .i64 0, .slice none 0 0] IV IK IV
    refine (HF.out _ (HT.out.nwb ab)).mono ?_
    rintro e w1 ⟨rfl, hb1⟩
    have A0 := Lib.hid (carry hb1 a0)
    have A2 := Lib.hid (carry hb1 a2)
    have HB1 := Lib.hid (bs ab hb1)
    obtain ⟨r0, f0⟩ := rowc A0.out
    clear a0 a1 a2 az ab hb1
    obtain ⟨i0, hi, hz⟩ := ie_info
    have hmk := run_make (P := Tryd.prog) w1 24 IE i0 _ Tryd.underlying24 hi hz.1 .i64 .i64 M M (by omega) (Int.le_refl _) (by rw [hz.2.2]; omega) (by omega)
    rw [hz.2.1] at hmk
    simp only [Int.toNat_natCast] at hmk
    obtain ⟨arr0, HA⟩ : ∃ a, Hid (a = madeCells (Value.agg #[.bool false, .int .i64 0, .string ⟨#[]⟩, .int .i64 0, .int .i64 0, .string ⟨#[]⟩, .int .i64 0, .slice none 0 0]).cells (M * 8)) := ⟨_, Lib.hid rfl⟩
    rw [← HA.out] at hmk
    have A0W1 : (w1.alloc (.cells arr0 IE)).heap[w.heap.size]? = _ := keepAlloc A0.out
    have hg1 : w.heap.size ≤ w1.heap.size := HB1.out.size
    have hg2 : w.heap.size < w1.heap.size := (Array.getElem?_eq_some_iff.1 A0.out).1
    have hBW1 : Below w.heap.size w (w1.alloc (.cells arr0 IE)) := bs HB1.out (b1 w1 _)
    have hsz0 : arr0.size = M * 8 := by rw [HA.out, madeSize]
    have hqL := HQ.out
    have hqM := HME.out
    have l1 : (cs.take (i * 8)).length = i * 8 := by rw [List.length_take, HCL.out]; omega
    have l2 : (cs.drop ((i + 1) * 8)).length = q * 8 := by rw [List.length_drop, HCL.out]; omega
    have HSR : ∀ W', Below w.heap.size w W' → ∀ j v, cs[j]? = some v → W'.cell? (a.add j) = some v := fun W' hb j v hv => cell_stays (fun hlt => hb.block _ hlt) (HSRC.out j v hv)
    have hie : (Tryd.prog.info? IE).map (·.size) = some 8 := by rw [hi]; exact congrArg some hz.2.1
    have hc1 := run_copy_8 (P := Tryd.prog) (w1.alloc (.cells arr0 IE)) 24 24 3 IE w1.heap.size 0 M M a i c arr0 IE (cs.take (i * 8)) i Tryd.underlying24 hie (heap_alloc_new w1 _) (by show i = if _ then _ else _; split <;> omega) l1
      (fun j v hv => HSR _ hBW1 j v (by rw [List.getElem?_take] at hv; split at hv; exact hv; cases hv)) (by rw [l1, hsz0]; omega) (fun v hv => HONE.out v (List.mem_of_mem_take hv))
    obtain ⟨arr1, HA1⟩ : ∃ b, Hid (b = (arr0.toList.take 0 ++ cs.take (i * 8) ++ arr0.toList.drop (0 + (cs.take (i * 8)).length)).toArray) := ⟨_, Lib.hid rfl⟩
    rw [← HA1.out] at hc1
    have e1 : arr1.toList = cs.take (i * 8) ++ arr0.toList.drop (i * 8) := by rw [HA1.out, l1]; simp
    have hsz1 : arr1.size = M * 8 := by rw [← Array.length_toList, e1, List.length_append, l1, List.length_drop, Array.length_toList, hsz0]; omega
    obtain ⟨W2, HW2⟩ : ∃ W, Hid (W = (w1.alloc (.cells arr0 IE)).setRow w1.heap.size arr1) := ⟨_, Lib.hid rfl⟩
    rw [← HW2.out] at hc1
    have hBW2 : Below w.heap.size w W2 := by rw [HW2.out]; exact setRow_below hBW1 hg1 _
    have A0W2 : W2.heap[w.heap.size]? = some (.cells #[.int .i64 4, .int .i64 n, .string s, .int .i64 x, .slice (some a) L c] IV (0, 0)) := by rw [HW2.out, setRow_other (by omega)]; exact A0W1
    have AGW2 : W2.heap[w1.heap.size]? = some (.cells arr1 IE (0, 0)) := by rw [HW2.out]; exact setRow_heap _ _ _ _ _ _ (heap_alloc_new w1 _)
    obtain ⟨o, HO⟩ : ∃ o, Hid (o = if q = 0 then 0 else i * 8) := ⟨_, Lib.hid rfl⟩
    obtain ⟨a2, HA2⟩ : ∃ b, Hid (b = if c = i + 1 then a else a.add ((i + 1) * 8)) := ⟨_, Lib.hid rfl⟩
    have hcc : L ≤ c := by have := hcapH.out.1; rw [HL.out] at this; exact this
    have ho1 : q = 0 → o = 0 := fun h => by rw [HO.out, if_pos h]
    have ho2 : q ≠ 0 → o = i * 8 := fun h => by rw [HO.out, if_neg h]
    have hc2 := run_copy_8 (P := Tryd.prog) W2.drew 24 24 3 IE w1.heap.size o q q a2 q (c - (i + 1)) arr1 IE (cs.drop ((i + 1) * 8)) q Tryd.underlying24 hie AGW2 (by show q = if _ then _ else _; split <;> omega) l2
      (fun j v hv => by
        have hjl : j < q * 8 := by rw [← l2]; exact (List.getElem?_eq_some_iff.1 hv).1
        rw [List.getElem?_drop] at hv
        have := HSR _ hBW2.drew _ v hv
        rw [HA2.out, if_neg (by omega), add_add']
        exact this) (by rw [l2, hsz1]; rcases Nat.eq_zero_or_pos q with h | h; · rw [ho1 h]; omega
                        · rw [ho2 (by omega)]; omega) (fun v hv => HONE.out v (List.mem_of_mem_drop hv))
    obtain ⟨arr2, HA2'⟩ : ∃ b, Hid (b = (arr1.toList.take o ++ cs.drop ((i + 1) * 8) ++ arr1.toList.drop (o + (cs.drop ((i + 1) * 8)).length)).toArray) := ⟨_, Lib.hid rfl⟩
    rw [← HA2'.out] at hc2
    have e2 : arr2.toList = cs.take (i * 8) ++ cs.drop ((i + 1) * 8) := by
      rw [HA2'.out, l2]
      rcases Nat.eq_zero_or_pos q with h | h
      · have : cs.drop ((i + 1) * 8) = [] := List.eq_nil_of_length_eq_zero (by rw [l2]; omega)
        have h0 : arr0.toList.drop (i * 8) = [] := List.drop_eq_nil_of_le (by rw [Array.length_toList, hsz0]; omega)
        rw [ho1 h, this, h, e1, h0]
        simp
      · have h0 : arr1.toList.drop (o + q * 8) = [] := List.drop_eq_nil_of_le (by rw [Array.length_toList, hsz1, ho2 (by omega)]; omega)
        rw [h0, ho2 (by omega), e1, List.take_append_of_le_length (by rw [l1]; omega), List.take_of_length_le (by rw [l1]; omega)]
        simp
    obtain ⟨W3, HW3⟩ : ∃ W, Hid (W = W2.drew.setRow w1.heap.size arr2) := ⟨_, Lib.hid rfl⟩
    rw [← HW3.out] at hc2
    have hBW3 : Below w.heap.size w W3 := by rw [HW3.out]; exact setRow_below hBW2.drew hg1 _
    have A0W3 : W3.heap[w.heap.size]? = some (.cells #[.int .i64 4, .int .i64 n, .string s, .int .i64 x, .slice (some a) L c] IV (0, 0)) := by rw [HW3.out, setRow_other (by omega)]; exact A0W2
    have AGW3 : W3.heap[w1.heap.size]? = some (.cells arr2 IE (0, 0)) := by rw [HW3.out]; exact setRow_heap _ _ _ _ _ _ AGW2
    have hse : ∀ w', (sizeOf (Tryd.prog.elem 24)).run Tryd.prog w' = .ok 8 w' := fun w' => by
      have : Tryd.prog.elem 24 = IE := by kernel_rfl
      simp [sizeOf, typeInfo, this, hi, hz.2.1]
    have hs1 : ∀ w', (Instr.slice 24 (.slice (some a) L c) none (some (.int .i64 i)) none).run Tryd.prog w' = .ok (.slice (some a) i c) w' := fun w' => by
      rw [run_slice_h (P := Tryd.prog) w' 24 (some a) L c (by kernel_rfl) .i64 (i : Int) (by omega) (by omega), hse]
      have h0 : a.add 0 = a := by unfold Addr.add; rw [if_pos rfl]
      simp [Result.andThen, sliced, h0]
    have hs2 : ∀ w', (Instr.slice 24 (.slice (some ⟨w1.heap.size, 0, none⟩) M M) (some (.int .i64 i)) none none).run Tryd.prog w' = .ok (.slice (some ⟨w1.heap.size, o, none⟩) q q) w' := fun w' => by
      rw [run_slice_l (P := Tryd.prog) w' 24 _ M M (by kernel_rfl) .i64 (i : Int) (by omega) (by omega), hse]
      rcases Nat.eq_zero_or_pos q with h | h
      · simp [Result.andThen, sliced, show M = i by omega, ho1 h, h]
      · simp [Result.andThen, sliced, show M ≠ i by omega, ho2 (by omega), Addr.add_lit, show M - i = q by omega]
    have hs3 : ∀ w', (Instr.slice 24 (.slice (some a) L c) (some (.int .i64 ((i : Int) + 1))) none none).run Tryd.prog w' = .ok (.slice (some a2) q (c - (i + 1))) w' := fun w' => by
      rw [run_slice_l (P := Tryd.prog) w' 24 _ L c (by kernel_rfl) .i64 ((i : Int) + 1) (by omega) (by omega), hse, show ((i : Int) + 1).toNat = i + 1 by omega]
      rw [HA2.out]
      by_cases h : c = i + 1
      · simp [Result.andThen, sliced, h, show L - (i + 1) = q by omega]
      · simp [Result.andThen, sliced, h, show L - (i + 1) = q by omega]
    have hD2 : W2.drew.heap = W2.heap := rfl
    have HE := Lib.hid e2
    clear hqL hqM hsz0 hsz1 l1 l2 HSR hie e1 e2 ho1 ho2 hse hm3
    obtain ⟨r1, f1⟩ := rowc A0W1
    obtain ⟨r2, f2⟩ := rowc (show W2.drew.heap[w.heap.size]? = _ from A0W2)
    obtain ⟨r3, f3⟩ := rowc A0W3
    obtain ⟨W4, HW4⟩ : ∃ W, Hid (W = W3.setCell ⟨w.heap.size, 4, none⟩ (.slice (some ⟨w1.heap.size, 0, none⟩) M M)) := ⟨_, Lib.hid rfl⟩
    have A0W4 : W4.heap[w.heap.size]? = some (.cells #[.int .i64 4, .int .i64 n, .string s, .int .i64 x, .slice (some ⟨w1.heap.size, 0, none⟩) M M] IV (0, 0)) := by rw [HW4.out]; exact set_heap A0W3 4 _
    have AGW4 : W4.heap[w1.heap.size]? = some (.cells arr2 IE (0, 0)) := by rw [HW4.out, set_other (by omega)]; exact AGW3
    have r4 := (rowc A0W4).1
    rw [HW4.out] at r4
    have hBW4 : Below w.heap.size w W4 := by rw [HW4.out]; exact hBW3.setCell (Nat.le_refl _) _
    go_wp2_with (fail)
    go_region
    go_wp2_with (fail)
    rw [← HW4.out]
    have A2W4 : W4.heap[w.heap.size + 1 + 1]? = some (.cells #[.int .i64 0, .int .i64 0, .string ⟨#[]⟩, .int .i64 0, .slice none 0 0] IV (0, 0)) := by
      have hg3 : w.heap.size + 1 + 1 < w1.heap.size := (Array.getElem?_eq_some_iff.1 A2.out).1
      rw [HW4.out, set_other (by omega), HW3.out, setRow_other (by omega), hD2, HW2.out, setRow_other (by omega)]
      exact keepAlloc A2.out
    have hT4 : TIn W4 (Nw 0 W4) (.mk 4 n s x (ks.eraseIdx i) (vs.eraseIdx i)) (vV 4 n s x (some ⟨w1.heap.size, 0, none⟩) M M) := by
      have hin4 := dropped (wF := W4) (S' := Nw 0 W4) HCL.out HL.out hkl.out HM.out hiL HIT.out AGW4 HE.out ⟨Nat.zero_le _, _, _, AGW4⟩ (fun b hb => hb.keep (Nat.le_refl _) (hBW4.block b hb.2.lt)) (fun b _ hlt => hBW4.block b hlt)
      have := TIn.of M HK.out hin4 ⟨by rw [HE2.out]; exact Nat.le_refl _, by have := HM.out; omega⟩
      rw [HE2.out] at this
      exact this
    refine (copyValue _ _ W4 0 hT4 HN2.out HT2.out).mono ?_
    rintro e w2 ⟨u, par, R, rfl, hu, hR, hb2⟩
    obtain ⟨A3, c3, rfl, -⟩ := hu.out
    rw [HE2.out] at hu ⊢
    have HU := Lib.hid hu
    have HR := Lib.hid hR
    have HB2w := Lib.hid hb2
    obtain ⟨r, f⟩ := rowc (carry hb2 A2W4)
    have HB2 := Lib.hid (bs hBW4 hb2)
    have HA2W4 := Lib.hid A2W4
    have HSZ := Lib.hid hBW4.size
    clear hb2 hu hR r0 f0 r1 f1 r2 f2 r3 f3 r4 A0W1 A0W2 A0W3 A0W4 AGW2 AGW3 AGW4 hc1 hc2 hs1 hs2 hs3 hD2 hBW1 hBW2 hBW3 hBW4 hT4 A2W4 hmk hi hz hg1 hg2 hcc hML
    go_wp2_with (fail)
    generalize hwF : (((((w2.setCell ⟨w.heap.size + 1 + 1, 0, none⟩ (.int .i64 4)).setCell ⟨w.heap.size + 1 + 1, 1, none⟩ (.int .i64 n)).setCell ⟨w.heap.size + 1 + 1, 2, none⟩ (.string s)).setCell ⟨w.heap.size + 1 + 1, 3, none⟩ (.int .i64 x)).setCell ⟨w.heap.size + 1 + 1, 4, none⟩ (.slice A3 M c3)) = wF
    obtain ⟨rF, oF, bF⟩ := fill5 (carry HB2w.out HA2W4.out) hwF
    refine bodyPost_ret (v := vV 4 n s x A3 M c3) ?_ rfl ?_
    · simp [results, Tryd.results19, go_sem, rF]
    · have hz : w.heap.size + 1 + 1 < W4.heap.size := (Array.getElem?_eq_some_iff.1 HA2W4.out).1
      refine ⟨_, par, R, rfl, ?_, Nat.le_trans HSZ.out HR.out, bF _ _ (by omega) HB2.out⟩
      exact HU.out.above fun b hb _ => oF b (by have := HR.out; simp at hb; omega)

end Go.Proofs.YtlbkbcafkjgckaaDoor.tree

