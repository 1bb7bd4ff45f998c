/-
  DeleteKey of the model.
  Conditions: the value holds at most 10^9 values.
-/
import Derived.Test.YtdgfpfkhcojgaaaPBB4
import Derived.Test.YtdgfpfkhcojgaaaPBSCopyS
import Derived.Test.YtdgfpfkhcojgaaaPBB3
import Derived.Deep.RegionLaw
namespace Go.Proofs.Ytdgfpfkhcojgaaa.tree
open Go.ChangeShapes Go.WideShapes Go.ChangeAt Go.RowKit
set_option linter.unusedVariables false

/-- append, as one step of a region that draws: by what it runs to. -/
theorem step_append_eq {P : Program} {ops : Array Oper} {o : Oper} {a : Act} {w w' : World} {K : Act → World → Prop} {Q : Exit → Act → World → Prop} {E : Prop}
    (hg : o.guard = none) (s x : Operand) (t : TypeId) (hop : o.op = Op.call { callee := Callee.builtin Builtin.append, args := #[s, x], argTypes := #[t, t] })
    {u v r : Value} (hrun : (Builtin.append_ #[t, t] o.type #[u, v]).run P w = .ok r w') (hs : a.eval s = u) (hx : a.eval x = v) (hK : K (a.put o.dst r) w') :
    if Region.wanted o (yielded ops a.tmps) = true then Oper.wp P o a w K Q else E := by
  have hw : Region.wanted o (yielded ops a.tmps) = true := by simp [Region.wanted, hg]
  rw [if_pos hw]
  unfold Oper.wp
  simp [execOp, hop, resolve, invoke, builtin, hs, hx, hrun, Result.andThen]
  exact hK

/-- Items without one, whose cells lie in a new block. -/
theorem droppedT {w wF : World} {S S' : Nat → Prop} {ks : List Ky} {vs : List Tr} {cs : List Value} {g i L : Nat} {arr : Array Value} (hcl : cs.length = L * 8) (hL : vs.length = L) (hkl : ks.length = L) (hm : L ≤ maxLen) (hi : i < L)
    (hit : ∀ i, i < L → ∃ y k n s x ks' vs' A c, ks[i]? = some y ∧ vs[i]? = some (.mk k n s x ks' vs') ∧ (I64 y.num ∧ y.str.size ≤ maxLen) ∧ (I64 k ∧ I64 n ∧ I64 x ∧ s.size ≤ maxLen) ∧ xAt8 cs i y k n s x A vs'.length c ∧ TIn w S (.mk k n s x ks' vs') (vV k n s x A vs'.length c))
    (hg : wF.heap[g]? = some (.cells arr IE (0, 0))) (ha : arr.toList.take ((L - 1) * 8) = cs.take (i * 8) ++ cs.drop ((i + 1) * 8)) (hS : S' g) (hSS : ∀ b, S b → S' b) (hb : ∀ b, S b → b < w.heap.size → wF.heap[b]? = w.heap[b]?) :
    IsIn wF S' (ks.eraseIdx i) (vs.eraseIdx i) (some ⟨g, 0, none⟩) := by
  have e1 : (ks.eraseIdx i).length = L - 1 := by rw [List.length_eraseIdx, if_pos (by omega), hkl]
  have e2 : (vs.eraseIdx i).length = L - 1 := by rw [List.length_eraseIdx, if_pos (by omega), hL]
  refine isin_row hg hS (by rw [e1, e2]) (by rw [e2]; omega) fun j hj => ?_
  rw [e2] at hj
  obtain ⟨y, k, n, s, x, ks', vs', A, c, h1, h2, h3, -, h5, h6⟩ := hit (if j < i then j else j + 1) (by split <;> omega)
  refine ⟨y, k, n, s, x, ks', vs', A, c, by rw [erase_get _ _ _ (by omega), h1], by rw [erase_get _ _ _ (by omega), h2], h3, fun q hq => ?_, h6.stays hSS hb⟩
  rw [← xAt8_drop hcl hi h5 q hq, ← ha, List.getElem?_take_of_lt (by omega), Array.getElem?_toList]

set_option maxRecDepth 100000 in
set_option maxHeartbeats 800000 in
theorem l6Drop_s (t : Tr) (v : Value) (y : Ky) (w : World) (S : Nat → Prop) (h : TIn w S t v) (hN : cnt t ≤ 1000000000) : Calls Try.prog 45 #[v, kyV y] w (OutV w (delT t y) (fun b => S b ∨ w.heap.size ≤ b)) := by
  obtain ⟨k, n, s, x, ks, vs⟩ := t
  obtain ⟨A, c, rfl, hk, hin⟩ := h.out
  have hcap := h.cap
  have FI := fun w h => findV_s (.mk k n s x ks vs) (vV k n s x A vs.length c) y w S h
  obtain ⟨L, HL⟩ : ∃ L, Hid (vs.length = L) := ⟨_, Lib.hid rfl⟩
  have hm : L ≤ maxLen := by rw [← HL.out]; exact hin.2.1
  have HM := Lib.hid hm
  have hm3 : L ≤ 1000000000 := by have := cnts_len vs; rw [cnt_mk'] at hN; rw [← HL.out]; omega
  unfold maxLen at hm
  have hkl : Hid (ks.length = L) := Lib.hid (by rw [← HL.out]; exact hin.1)
  have hcapH := Lib.hid hcap
  rw [HL.out] at h FI hcap
  have HT := Lib.hid h
  have HI := Lib.hid hin
  have HK := Lib.hid hk
  clear h hin hN hcap hk
  rw [HL.out]
  rcases posV_cases k n s x ks vs y with hp | ⟨i, hp, hi, rfl⟩
  · rw [delT_none hp]
    rw [hp] at FI
    have HF := Lib.hid FI
    clear FI hp
    obtain ⟨yb, yn, ys⟩ := y
    unfold kyV at HF ⊢
    go_enter Try.func45, Try.ntmps45
    go_wp2_with (fail)
    obtain ⟨a0, a1, a2, az, ab⟩ := al3 w #[.int .i64 k, .int .i64 n, .string s, .int .i64 x, .slice A L c] #[.bool yb, .int .i64 yn, .string ys] #[.int .i64 0, .int .i64 0, .string ⟨#[]⟩, .int .i64 0, .slice none 0 0] IV IK IV
    refine (HF.out _ (HT.out.below' ab)).mono ?_
    rintro e w1 ⟨rfl, hb1⟩
    have A2 := Lib.hid (carry hb1 a2)
    have HB1 := Lib.hid (bs ab hb1)
    obtain ⟨r0, f0⟩ := rowc (carry hb1 a0)
    obtain ⟨r, f⟩ := rowc A2.out
    clear a0 a1 a2 az ab hb1
    go_wp2_with (fail)
    generalize hwF : (((((w1.setCell ⟨w.heap.size + 1 + 1, 0, none⟩ (.int .i64 k)).setCell ⟨w.heap.size + 1 + 1, 1, none⟩ (.int .i64 n)).setCell ⟨w.heap.size + 1 + 1, 2, none⟩ (.string s)).setCell ⟨w.heap.size + 1 + 1, 3, none⟩ (.int .i64 x)).setCell ⟨w.heap.size + 1 + 1, 4, none⟩ (.slice A L c)) = wF
    obtain ⟨rF, -, bF⟩ := fill5 A2.out hwF
    refine bodyPost_ret (v := vV k n s x A L c) ?_ rfl ?_
    · simp [results, Try.results45, go_sem, rF]
    · have hb := bF w.heap.size w (by omega) HB1.out
      exact ⟨_, rfl, (HT.out.below' hb).stays (fun _ h => .inl h) (fun _ _ _ => rfl), hb⟩
  · rw [delT_some hp]
    rw [hp] at FI
    have hiL : i < L := by rw [← hkl.out]; exact hi
    obtain ⟨q, HQ⟩ : ∃ q, Hid (L = i + q + 1) := ⟨L - 1 - i, Lib.hid (by omega)⟩
    obtain ⟨M, HME⟩ : ∃ M, Hid (M = i + q) := ⟨_, Lib.hid rfl⟩
    obtain ⟨a, y1, k1, n1, s1, x1, ks1, vs1, A1, c1, rfl, -⟩ := HI.out.item (i := i) (by rw [HL.out]; exact hiL)
    obtain ⟨cs, hcl, hsrc, hone, hit⟩ := HI.out.cells
    rw [HL.out] at hcl hit
    have HF := Lib.hid FI
    have HCL := Lib.hid hcl
    have HSRC := Lib.hid hsrc
    have HONE := Lib.hid hone
    have HIT := Lib.hid hit
    have e2 : (vs.eraseIdx i).length = M := by have := HQ.out; have := HME.out; rw [List.length_eraseIdx, if_pos (by rw [HL.out]; exact hiL), HL.out]; omega
    have HE2 := Lib.hid e2
    clear FI hp hi hcl hsrc hone hit e2
    obtain ⟨yb, yn, ys⟩ := y
    unfold kyV at HF ⊢
    go_enter Try.func45, Try.ntmps45
    go_wp2_with (fail)
    obtain ⟨a0, a1, a2, az, ab⟩ := al3 w #[.int .i64 4, .int .i64 n, .string s, .int .i64 x, .slice (some a) L c] #[.bool yb, .int .i64 yn, .string ys] #[.int .i64 0, .int .i64 0, .string ⟨#[]⟩, .int .i64 0, .slice none 0 0] IV IK IV
    refine (HF.out _ (HT.out.below' ab)).mono ?_
    rintro e w1 ⟨rfl, hb1⟩
    have A0 := Lib.hid (carry hb1 a0)
    have A2 := Lib.hid (carry hb1 a2)
    have HB1 := Lib.hid (bs ab hb1)
    obtain ⟨r0, f0⟩ := rowc A0.out
    clear a0 a1 a2 az ab hb1
    go_wp2_with (fail)
    have hg1 : w.heap.size ≤ w1.heap.size := HB1.out.size
    have hg2 : w.heap.size < w1.heap.size := (Array.getElem?_eq_some_iff.1 A0.out).1
    have hg3 : w.heap.size + 1 + 1 < w1.heap.size := (Array.getElem?_eq_some_iff.1 A2.out).1
    obtain ⟨U, HU⟩ : ∃ U, Hid (U = w1.alloc (.cells #[.int .i64 4, .int .i64 n, .string s, .int .i64 x, .slice (some a) L c] IV)) := ⟨_, Lib.hid rfl⟩
    have hUs : U.heap.size = w1.heap.size + 1 := by rw [HU.out]; simp
    have hBU : Below w.heap.size w U := by rw [HU.out]; exact bs HB1.out (b1 w1 _)
    have A0U : U.heap[w.heap.size]? = some (.cells #[.int .i64 4, .int .i64 n, .string s, .int .i64 x, .slice (some a) L c] IV (0, 0)) := by rw [HU.out]; exact keepAlloc A0.out
    have A2U : U.heap[w.heap.size + 1 + 1]? = some (.cells #[.int .i64 0, .int .i64 0, .string ⟨#[]⟩, .int .i64 0, .slice none 0 0] IV (0, 0)) := by rw [HU.out]; exact keepAlloc A2.out
    have APU : U.heap[w1.heap.size]? = some (.cells #[.int .i64 4, .int .i64 n, .string s, .int .i64 x, .slice (some a) L c] IV (0, 0)) := by rw [HU.out]; exact heap_alloc_new w1 _
    have hqL := HQ.out
    have hqM := HME.out
    have hcc : L ≤ c := by have := hcapH.out.1; rw [HL.out] at this; exact this
    have hcm : c ≤ maxLen := hcapH.out.2
    obtain ⟨i0, hi, hz⟩ := ie_info
    have l1 : (cs.take (i * 8)).length = i * 8 := by rw [List.length_take, HCL.out]; omega
    have l2 : (cs.drop ((i + 1) * 8)).length = q * 8 := by rw [List.length_drop, HCL.out]; omega
    have HSR : ∀ W', Below w.heap.size w W' → ∀ j v, cs[j]? = some v → W'.cell? (a.add j) = some v := fun W' hb j v hv => cell_stays (fun hlt => hb.block _ hlt) (HSRC.out j v hv)
    obtain ⟨AW, HAW⟩ : ∃ W, Hid (W = (U.alloc (.cells #[] IE)).drew) := ⟨_, Lib.hid rfl⟩
    have hBA : Below w.heap.size w AW := by rw [HAW.out]; exact (bs hBU (b1 _ _)).drew
    have own0 : AW.ownsRow U.heap.size IE 8 (.slice (some ⟨U.heap.size, 0, none⟩) 0 0) 0 [] := by rw [HAW.out]; exact (World.ownsRow_made U #[] 0 (Nat.le_refl _) (Nat.zero_le _) rfl).drew
    have hAs : AW.heap.size = U.heap.size + 1 := by rw [HAW.out]; exact (by simp : (U.alloc (.cells #[] IE)).heap.size = U.heap.size + 1)
    obtain ⟨v5, W5, hr1, own1, gb1, hn1⟩ := run_append_own (P := Try.prog) AW U.heap.size 28 28 IE i0 _ 8 96 Try.underlying28 hi hz.1 hz.2.1 hz.2.2 rfl (by decide) _ 0 [] own0 a i c (cs.take (i * 8)) l1
      (fun j v hv => HSR _ hBA j v (by rw [List.getElem?_take] at hv; split at hv; exact hv; cases hv)) (fun v hv => HONE.out v (List.mem_of_mem_take hv)) (by unfold maxLen; omega) (by omega) (by omega)
    rcases own1.2 with ⟨rfl, -⟩ | ⟨g5, c5, cur5, rfl, hb5, hg5, -, -, -, -⟩
    · exact absurd (hn1.1 rfl).1 (by simp)
    have hB5 : Below w.heap.size w W5 := grown_below hBA gb1 (by show w.heap.size ≤ U.heap.size; omega) (by omega)
    have hBU5 : Below U.heap.size U W5 := grown_below (by rw [HAW.out]; exact (b1 _ _).drew) gb1 (Nat.le_refl _) (by omega)
    obtain ⟨a2, HA2⟩ : ∃ b, Hid (b = if c = i + 1 then a else a.add ((i + 1) * 8)) := ⟨_, Lib.hid rfl⟩
    obtain ⟨v6, W6, hr2, own2, gb2, hn2⟩ := run_append_own (P := Try.prog) W5 U.heap.size 28 28 IE i0 _ 8 96 Try.underlying28 hi hz.1 hz.2.1 hz.2.2 rfl (by decide) _ (0 + i) _ own1 a2 q (c - (i + 1)) (cs.drop ((i + 1) * 8)) l2
      (fun j v hv => by
        have hjl : j < q * 8 := by rw [← l2]; exact (List.getElem?_eq_some_iff.1 hv).1
        rw [List.getElem?_drop] at hv
        have := HSR _ hB5 _ v hv
        rw [HA2.out, if_neg (by omega), add_add']
        exact this) (fun v hv => HONE.out v (List.mem_of_mem_drop hv)) (by unfold maxLen; omega) (by omega) (Nat.le_trans (by omega) gb1.size)
    rcases own2.2 with ⟨rfl, -⟩ | ⟨g6, c6, cur6, rfl, hb6, hg6, hc6, hcm6, hcs6, htk6⟩
    · exact absurd (hn2.1 rfl).1 (by simp)
    have h5s : U.heap.size ≤ W5.heap.size := Nat.le_trans (by omega) gb1.size
    have hB6 : Below w.heap.size w W6 := grown_below hB5 gb2 (by show w.heap.size ≤ g5; omega) (by omega)
    have hBU6 : Below U.heap.size U W6 := grown_below hBU5 gb2 hb5 h5s
    have e3 : 0 + i + q = M := by omega
    rw [e3] at hr2 hc6 htk6
    rw [show (0 : Nat) + i = i by omega] at hr1 hr2
    rw [List.nil_append] at htk6
    have HTK := Lib.hid htk6
    have HG6 := Lib.hid hg6
    have HC6 := Lib.hid (And.intro hc6 hcm6)
    have HB6 := Lib.hid hb6
    have HBU6 := Lib.hid hBU6
    have HBW6 := Lib.hid hB6
    have hse : ∀ w', (sizeOf (Try.prog.elem 28)).run Try.prog w' = .ok 8 w' := fun w' => by
      have : Try.prog.elem 28 = IE := by kernel_rfl
      simp [sizeOf, typeInfo, this, hi, hz.2.1]
    have hs1 : ∀ w', (Instr.slice 28 (.slice (some a) L c) none (some (.int .i64 i)) none).run Try.prog w' = .ok (.slice (some a) i c) w' := fun w' => by
      rw [run_slice_h (P := Try.prog) w' 28 (some a) L c (by kernel_rfl) .i64 (i : Int) (by omega) (by omega), hse]
      have h0 : a.add 0 = a := by unfold Addr.add; rw [if_pos rfl]
      simp [Result.andThen, sliced, h0]
    have hs3 : ∀ w', (Instr.slice 28 (.slice (some a) L c) (some (.int .i64 ((i : Int) + 1))) none none).run Try.prog w' = .ok (.slice (some a2) q (c - (i + 1))) w' := fun w' => by
      rw [run_slice_l (P := Try.prog) w' 28 _ L c (by kernel_rfl) .i64 ((i : Int) + 1) (by omega) (by omega), hse, show ((i : Int) + 1).toNat = i + 1 by omega]
      rw [HA2.out]
      by_cases h : c = i + 1
      · simp [Result.andThen, sliced, h, show L - (i + 1) = q by omega]
      · simp [Result.andThen, sliced, h, show L - (i + 1) = q by omega]
    have kp : ∀ {W : World}, Below U.heap.size U W → ∀ {g : Nat} {o : Obj}, U.heap[g]? = some o → W.heap[g]? = some o := fun hb _ _ h => carry hb h
    obtain ⟨r1, f1⟩ := rowc A0U
    obtain ⟨r2, f2⟩ := rowc (show AW.heap[w.heap.size]? = _ by rw [HAW.out]; exact (keepAlloc A0U : (U.alloc (.cells #[] IE)).heap[w.heap.size]? = _))
    obtain ⟨r3, f3⟩ := rowc (carry hBU5 A0U)
    obtain ⟨r4, f4⟩ := rowc (carry hBU6 APU)
    obtain ⟨W7, HW7⟩ : ∃ W, Hid (W = W6.setCell ⟨w1.heap.size, 4, none⟩ (.slice (some ⟨g6, 0, none⟩) M c6)) := ⟨_, Lib.hid rfl⟩
    have AP7 : W7.heap[w1.heap.size]? = some (.cells #[.int .i64 4, .int .i64 n, .string s, .int .i64 x, .slice (some ⟨g6, 0, none⟩) M c6] IV (0, 0)) := by rw [HW7.out]; exact set_heap (carry hBU6 APU) 4 _
    have A27 : W7.heap[w.heap.size + 1 + 1]? = some (.cells #[.int .i64 0, .int .i64 0, .string ⟨#[]⟩, .int .i64 0, .slice none 0 0] IV (0, 0)) := by rw [HW7.out, set_other (by omega)]; exact carry hBU6 A2U
    have AG7 : W7.heap[g6]? = some (.cells cur6 IE (0, 0)) := by rw [HW7.out, set_other (by omega)]; exact hg6
    obtain ⟨r7, f7⟩ := rowc AP7
    obtain ⟨r8, f8⟩ := rowc A27
    have hB7 : Below w.heap.size w W7 := by rw [HW7.out]; exact hB6.setCell hg1 _
    rw [HW7.out] at r7 f7 r8 f8
    rw [HAW.out] at hr1 r2 f2
    rw [hUs] at hr1
    unfold IE at hr1 r2 f2
    rw [← HU.out]
    have hwr : IntKind.i64.wrap ((i : Int) + 1) = (i : Int) + 1 := by rw [IntKind.wrap_i64]; omega
    have HAG7 := Lib.hid AG7
    have HA27 := Lib.hid A27
    have HB7 := Lib.hid hB7
    have HGG := Lib.hid (show w.heap.size + 1 + 1 < U.heap.size ∧ w.heap.size ≤ g6 by omega)
    clear hqL hqM l1 l2 HSR own0 own1 own2 gb1 gb2 hn1 hn2 hse hm3 hg5 hBA hB5 hBU5 hBU6 hB6 hBU A0U A2U APU AP7 A27 AG7 hB7 htk6 hcs6 hg6 hc6 hcm6 hb6 hb5 h5s e3 kp hi hz r0 f0
    go_region_law (first | (refine step_append_eq (by rfl) _ _ _ (by rfl) (by with_reducible exact hr1) (by rfl) (by rfl) ?_) | (refine step_append_eq (by rfl) _ _ _ (by rfl) (by with_reducible exact hr2) (by rfl) (by rfl) ?_))
    go_wp2_with (fail)
    all_goals (
      rw [← HW7.out]
      generalize hwF : (((((W7.setCell ⟨w.heap.size + 1 + 1, 0, none⟩ (.int .i64 4)).setCell ⟨w.heap.size + 1 + 1, 1, none⟩ (.int .i64 n)).setCell ⟨w.heap.size + 1 + 1, 2, none⟩ (.string s)).setCell ⟨w.heap.size + 1 + 1, 3, none⟩ (.int .i64 x)).setCell ⟨w.heap.size + 1 + 1, 4, none⟩ (.slice (some ⟨g6, 0, none⟩) M c6)) = wF
      obtain ⟨rF, oF, bF⟩ := fill5 HA27.out hwF
      refine bodyPost_ret (v := vV 4 n s x (some ⟨g6, 0, none⟩) M c6) ?_ rfl ?_
      · simp [results, Try.results45, go_sem, rF]
      · have hb : Below w.heap.size w wF := bF _ _ (by omega) HB7.out
        have hgg := HGG.out
        have hg6 := HB6.out
        have hG : wF.heap[g6]? = some (.cells cur6 IE (0, 0)) := (oF g6 (by omega)).trans HAG7.out
        have hin4 := droppedT (wF := wF) (S' := fun b => S b ∨ w.heap.size ≤ b) HCL.out HL.out hkl.out HM.out hiL HIT.out hG (by rw [show L - 1 = M by have := HQ.out; have := HME.out; omega]; exact HTK.out) (.inr hgg.2) (fun b h => .inl h) (fun b _ hlt => hb.block b hlt)
        have := TIn.of c6 HK.out hin4 ⟨by rw [HE2.out]; exact HC6.out.1, HC6.out.2⟩
        rw [HE2.out] at this
        exact ⟨_, rfl, this, hb⟩)

def OutC (w : World) (t : Tr) (e : Ending) (w' : World) : Prop := ∃ u, e = .returned u ∧ TIn w' (fun q => w.heap.size ≤ q) t u ∧ Below w.heap.size w w'


end Go.Proofs.Ytdgfpfkhcojgaaa.tree

