/-
  SetKey of the project.
  Conditions: the values hold at most 2^20 and two items and 10^9 letters; the package variables of the library's reading of numbers hold what the program's text lays.
-/
import Derived.Test.YtlbkbcafkjgckaaDoorAsB1
import Derived.Test.YtlbkbcafkjgckaaDoorAsSGetK
import Derived.Test.YtlbkbcafkjgckaaDoorCmB1
namespace Go.Proofs.YtlbkbcafkjgckaaDoor.tree
open Go.ChangeShapes Go.WideShapes Go.ChangeAt Go.RowKit
set_option linter.unusedVariables false

/-- Four new blocks in a row. -/
theorem al4 (w : World) (c0 c1 c2 c3 : Array Value) (t0 t1 t2 t3 : TypeId) (W : World) (hW : W = (((w.alloc (.cells c0 t0)).alloc (.cells c1 t1)).alloc (.cells c2 t2)).alloc (.cells c3 t3)) :
    W.heap[w.heap.size]? = some (.cells c0 t0 (0, 0)) ∧ W.heap[w.heap.size + 1]? = some (.cells c1 t1 (0, 0)) ∧ W.heap[w.heap.size + 1 + 1]? = some (.cells c2 t2 (0, 0)) ∧ W.heap[w.heap.size + 1 + 1 + 1]? = some (.cells c3 t3 (0, 0)) ∧ W.heap.size = w.heap.size + 1 + 1 + 1 + 1 ∧ Below w.heap.size w W := by
  obtain ⟨h0, h1, h2, hs, hb⟩ := al3 w c0 c1 c2 t0 t1 t2
  subst hW
  have h3 := heap_alloc_new (((w.alloc (.cells c0 t0)).alloc (.cells c1 t1)).alloc (.cells c2 t2)) (.cells c3 t3)
  rw [hs] at h3
  exact ⟨keepAlloc h0, keepAlloc h1, keepAlloc h2, h3, by simp, hb.alloc hb.size _⟩

/-- The cells of a list of items, of none too. -/
theorem IsIn.cellsA {w : World} {S : Nat → Prop} {ks : List Ky} {vs : List Tr} {A : Option Addr} (h : IsIn w S ks vs A) :
    ∃ cs : List Value, cs.length = vs.length * 8 ∧ (∀ j v, cs[j]? = some v → ∃ a, A = some a ∧ w.cell? (a.add j) = some v) ∧ (∀ v ∈ cs, v.oneCell' = true) ∧
      ∀ i, i < vs.length → ∃ y k n s x ks' vs' A c, ks[i]? = some y ∧ vs[i]? = some (.mk k n s x ks' vs') ∧ (I64 y.num ∧ y.str.size ≤ maxLen) ∧ (I64 k ∧ I64 n ∧ I64 x ∧ s.size ≤ maxLen) ∧ xAt8 cs i y k n s x A vs'.length c ∧ TIn w S (.mk k n s x ks' vs') (vV k n s x A vs'.length c) := by
  cases A with
  | some a =>
    obtain ⟨cs, h1, h2, h3, h4⟩ := h.cells
    exact ⟨cs, h1, fun j v hv => ⟨a, rfl, h2 j v hv⟩, h3, h4⟩
  | none =>
    have h0 : vs.length = 0 := by
      rcases Nat.eq_zero_or_pos vs.length with h0 | h0
      · exact h0
      · obtain ⟨_, _, C, hc, -⟩ := h
        obtain ⟨a, ha, -⟩ := hc 0 h0
        cases ha
    exact ⟨[], by simp [h0], fun j v hv => by simp at hv, fun v hv => by simp at hv, fun i hi => by omega⟩

/-- 'copy' of items, of none too. -/
theorem run_copy_A {P : Program} (w : World) (dT sT ty elem : TypeId) (g dLen dCap : Nat) (A : Option Addr) (sLen sCap : Nat) (cur : Array Value) (t : TypeId) (cs : List Value) (n : Nat)
    (hu : P.underlying dT = some (.slice elem)) (hs : (P.info? elem).map (·.size) = some 8) (hg : w.heap[g]? = some (.cells cur t (0, 0))) (hn : n = Nat.min sLen dLen) (hl : cs.length = n * 8)
    (hsrc : ∀ j v, cs[j]? = some v → ∃ a, A = some a ∧ w.cell? (a.add j) = some v) (ho : cs.length ≤ cur.size) (h1 : ∀ v ∈ cs, v.oneCell' = true) (hA : A = none → sLen = 0) :
    (Builtin.copy_ #[dT, sT] ty #[.slice (some ⟨g, 0, none⟩) dLen dCap, .slice A sLen sCap]).run P w = .ok (goInt n) (w.setRow g (cs ++ cur.toList.drop cs.length).toArray) := by
  cases A with
  | some a =>
    have := run_copy_8 (P := P) w dT sT ty elem g 0 dLen dCap a sLen sCap cur t cs n hu hs hg hn hl (fun j v hv => by
      obtain ⟨a', e, h⟩ := hsrc j v hv
      obtain rfl := Option.some.inj e
      exact h) (by omega) h1
    simpa using this
  | none =>
    have h0 := hA rfl
    subst h0
    have hn0 : n = 0 := by rw [hn]; exact Nat.zero_min _
    subst hn0
    have hc : cs = [] := List.eq_nil_of_length_eq_zero (by omega)
    subst hc
    have e : w.setRow g ([] ++ cur.toList.drop ([] : List Value).length).toArray = w := by
      have := setRow_self w g cur t (0, 0) hg
      simpa using this
    rw [e]
    cases hq : P.info? elem with
    | none => simp [hq] at hs
    | some i =>
      have hi : i.size = 8 := by simpa [hq] using hs
      simp [Builtin.copy_, run_underlying hu, Builtin.lenOf, Builtin.firstCells, sizeOf, typeInfo, hq, storeCells]

theorem max_nxt (x : Int) (y : Ky) (h : y.text = false) : nums.mx x (y.num + 1) = nxt x y := by
  unfold nums.mx nxt
  rw [h]
  simp
theorem keyB_num {y : Ky} (h : keyB y = true) (ht : y.text = false) : -1000000000 ≤ y.num ∧ y.num ≤ 1000000000 := by
  unfold keyB nums.inr at h
  rw [ht] at h
  simp at h
  exact h.1

set_option maxRecDepth 100000 in
set_option maxHeartbeats 3200000 in
theorem setKey_i (t : Tr) (v : Value) (y : Ky) (u : Tr) (vu : Value) (w : World) (h : TIn w (Nw 0 w) t v) (hu : TIn w (Nw 0 w) u vu) (hy : I64 y.num ∧ y.str.size ≤ maxLen) (hN : cnt t + cnt u ≤ 1048578) (hT : tot t + y.str.size + tot u + 1 ≤ 1000000000) (hE : prs.Env w) :
    Calls Tryd.prog 16 #[v, kyV y, vu] w (OutI w (setR t y u) (setB t y)) := by
  have hN2 := setT_cnt t y u
  have hT2 := setT_tot t y u h.fits
  obtain ⟨k, n, s, x, ks, vs⟩ := t
  obtain ⟨ku, nu, su, xu, ksu, vsu⟩ := u
  obtain ⟨A, c, rfl, hk, hin⟩ := h.out
  obtain ⟨Au, cu, rfl, hku, hinu⟩ := hu.out
  have hcap := h.cap
  have FI := fun w h => findKey_i (.mk k n s x ks vs) (vV k n s x A vs.length c) y w (Nw 0 w) h
  have CV := fun w' (h : TIn w' (Nw 0 w') _ (vV k n s x A vs.length c)) => copyValue (.mk k n s x ks vs) (vV k n s x A vs.length c) w' 0 h (by omega) (by omega)
  have KI := fun w' => isKey_i y (by omega) w'
  obtain ⟨L, HL⟩ : ∃ L, Hid (vs.length = L) := ⟨_, Lib.hid rfl⟩
  obtain ⟨Lu, HLu⟩ : ∃ L, Hid (vsu.length = L) := ⟨_, Lib.hid rfl⟩
  have hm : L ≤ maxLen := by rw [← HL.out]; exact hin.2.1
  have HM := Lib.hid hm
  have hm3 : L ≤ 1048578 := by have := cnts_len vs; rw [cnt_mk'] at hN; rw [← HL.out]; omega
  have hkl : Hid (ks.length = L) := Lib.hid (by rw [← HL.out]; exact hin.1)
  have hcapH := Lib.hid hcap
  rw [HL.out] at h FI CV hcap
  rw [HLu.out] at hu
  have HT := Lib.hid h
  have HTu := Lib.hid hu
  have HI := Lib.hid hin
  have HCV := Lib.hid CV
  have HF := Lib.hid FI
  have HKI := Lib.hid KI
  have HK := Lib.hid hk
  have HN2 := Lib.hid (Nat.le_trans hN2 hN)
  have HT2 := Lib.hid (Nat.le_trans hT2 hT)
  have HY := Lib.hid hy
  have HE := Lib.hid hE
  clear h hu hin hN hT CV hcap hk hN2 hT2 FI KI hy hE hku hinu hm
  rw [HL.out, HLu.out]
  by_cases hk4 : k = 4
  · subst hk4
    cases hkb : keyB y with
    | false =>
      have e1 : setB (.mk 4 n s x ks vs) y = false := by rw [setB_mk, hkb]; rfl
      have e2 : setR (.mk 4 n s x ks vs) y (.mk ku nu su xu ksu vsu) = .mk 4 n s x ks vs := by unfold setR; rw [e1]; rfl
      rw [e1, e2]
      rw [hkb] at HKI
      clear e1 e2 hkb HF HN2 HT2 HI HTu HY
      obtain ⟨yb, yn, ys⟩ := y
      unfold kyV at HKI ⊢
      go_enter Tryd.func16, Tryd.ntmps16
      go_wp2_with (fail)
      obtain ⟨a0, -, -, a3, az, ab⟩ := al4 w _ _ _ _ _ _ _ _ _ rfl
      refine (HKI.out _ (HE.out.stays ab)).mono ?_
      rintro e w1 ⟨rfl, hb1⟩
      have A0 := Lib.hid (carry hb1 a0)
      have A3H := Lib.hid (carry hb1 a3)
      have HBC := Lib.hid (bs ab hb1)
      obtain ⟨r0, f0⟩ := rowc A0.out
      clear a0 a3 az ab hb1
      go_wp2_with (fail)
      refine (HCV.out _ (HT.out.nwb HBC.out)).mono ?_
      rintro e wz ⟨uz, par, R, rfl, hu, hR, hb2⟩
      obtain ⟨Az, cz, rfl, -⟩ := hu.out
      rw [HL.out] at hu ⊢
      have HU := Lib.hid hu
      have HR := Lib.hid hR
      have HBz := Lib.hid hb2
      have HZ3 := Lib.hid (carry hb2 A3H.out)
      obtain ⟨rz, fz⟩ := rowc HZ3.out
      have HBZ := Lib.hid (bs HBC.out hb2)
      have HLT := Lib.hid (Array.getElem?_eq_some_iff.1 A3H.out).1
      clear hb2 hu hR
      go_wp2_with (fail)
      generalize hwF : (((((wz.setCell ⟨w.heap.size + 1 + 1 + 1, 0, none⟩ (.int .i64 4)).setCell ⟨w.heap.size + 1 + 1 + 1, 1, none⟩ (.int .i64 n)).setCell ⟨w.heap.size + 1 + 1 + 1, 2, none⟩ (.string s)).setCell ⟨w.heap.size + 1 + 1 + 1, 3, none⟩ (.int .i64 x)).setCell ⟨w.heap.size + 1 + 1 + 1, 4, none⟩ (.slice Az L cz)) = wF
      obtain ⟨rF, oF, bF⟩ := fill5 HZ3.out hwF
      refine bodyPost_ret (v := .tuple #[vV 4 n s x Az L cz, .bool false]) ?_ rfl ?_
      · simp [results, Tryd.results16, go_sem, rF]
      · have hlt := HLT.out
        have hR := HR.out
        refine ⟨_, par, R, by first | rfl | rw [HL.out], ?_, Nat.le_trans HBC.out.size hR, bF _ _ (by omega) HBZ.out⟩
        exact HU.out.above fun b hb _ => oF b (by simp at hb; omega)
    | true =>
      have e1 : setB (.mk 4 n s x ks vs) y = true := by rw [setB_mk, hkb]; rfl
      have e2 : setR (.mk 4 n s x ks vs) y (.mk ku nu su xu ksu vsu) = setT (.mk 4 n s x ks vs) y (.mk ku nu su xu ksu vsu) := by unfold setR; rw [e1]; rfl
      rw [e1, e2]
      rw [hkb] at HKI
      have HKB := Lib.hid hkb
      clear e1 e2 hkb HCV
      obtain ⟨cs, hcl, hsrc, hone, hit⟩ := HI.out.cellsA
      rw [HL.out] at hcl hit
      have HCL := Lib.hid hcl
      have HSRC := Lib.hid hsrc
      have HONE := Lib.hid hone
      have HIT := Lib.hid hit
      have HAN : Hid (A = none → L = 0) := Lib.hid (fun e => by
        subst e
        rcases Nat.eq_zero_or_pos L with h0 | h0
        · exact h0
        · obtain ⟨_, _, C, hc, -⟩ := HI.out
          obtain ⟨a, ha, -⟩ := hc 0 (by rw [HL.out]; exact h0)
          cases ha)
      clear hcl hsrc hone hit
      have HLLc : Hid (L ≤ c) := Lib.hid (by have := hcapH.out.1; rw [HL.out] at this; exact this)
      rcases posV_cases 4 n s x ks vs y with hp | ⟨i, hp, hi, -⟩
      · rw [setT_none hp] at HN2 HT2 ⊢
        rw [hp] at HF
        obtain ⟨X, HX⟩ : ∃ X, Hid (nxt x y = X) := ⟨_, Lib.hid rfl⟩
        rw [HX.out] at HN2 HT2 ⊢
        clear hp
        obtain ⟨yb, yn, ys⟩ := y
        unfold kyV at HKI HF ⊢
        go_enter Tryd.func16, Tryd.ntmps16
        go_wp2_with (fail)
        obtain ⟨a0, a1, a2, a3, az, ab⟩ := al4 w _ _ _ _ _ _ _ _ _ rfl
        refine (HKI.out _ (HE.out.stays ab)).mono ?_
        rintro e w1 ⟨rfl, hb1⟩
        have A0 := Lib.hid (carry hb1 a0)
        have A1 := Lib.hid (carry hb1 a1)
        have A2 := Lib.hid (carry hb1 a2)
        have A3 := Lib.hid (carry hb1 a3)
        have HB1 := Lib.hid (bs ab hb1)
        obtain ⟨r0, f0⟩ := rowc A0.out
        obtain ⟨r1, f1⟩ := rowc A1.out
        clear a0 a1 a2 a3 az ab hb1
        go_wp2_with (fail)
        refine (HF.out _ (HT.out.nwb HB1.out)).mono ?_
        rintro e w2 ⟨rfl, hb2⟩
        replace A0 := Lib.hid (carry hb2 A0.out)
        replace A1 := Lib.hid (carry hb2 A1.out)
        replace A2 := Lib.hid (carry hb2 A2.out)
        replace A3 := Lib.hid (carry hb2 A3.out)
        replace HB1 := Lib.hid (bs HB1.out hb2)
        clear r0 f0 r1 f1 hb2
        have hg1 : w.heap.size ≤ w2.heap.size := HB1.out.size
        have hg2 : w.heap.size + 1 + 1 + 1 < w2.heap.size := (Array.getElem?_eq_some_iff.1 A3.out).1
        obtain ⟨i0, hi, hz⟩ := ie_info
        have hmk := run_make (P := Tryd.prog) w2 24 IE i0 _ Tryd.underlying24 hi hz.1 .i64 .i64 L ((L : Int) + 1) (by omega) (by omega) (by rw [hz.2.2]; omega) (by omega)
        rw [hz.2.1] at hmk
        rw [show ((L : Int) + 1).toNat = L + 1 by omega] at hmk
        simp only [Int.toNat_natCast] at hmk
        have hwr : IntKind.i64.wrap ((L : Int) + 1) = (L : Int) + 1 := by rw [IntKind.wrap_i64]; omega
        obtain ⟨arr0, HA⟩ : ∃ a, Hid (a = madeCells (Value.agg #[.bool false, .int .i64 0, .string ⟨#[]⟩, .int .i64 0, .int .i64 0, .string ⟨#[]⟩, .int .i64 0, .slice none 0 0]).cells ((L + 1) * 8)) := ⟨_, Lib.hid rfl⟩
        rw [← HA.out] at hmk
        have hsz0 : arr0.size = (L + 1) * 8 := by rw [HA.out, madeSize]
        have hie : (Tryd.prog.info? IE).map (·.size) = some 8 := by rw [hi]; exact congrArg some hz.2.1
        have hcl := HCL.out
        have hBX : Below w.heap.size w (w2.alloc (.cells arr0 IE)) := bs HB1.out (b1 w2 _)
        have hc1 := run_copy_A (P := Tryd.prog) (w2.alloc (.cells arr0 IE)) 24 24 3 IE w2.heap.size L (L + 1) A L c arr0 IE cs L Tryd.underlying24 hie (heap_alloc_new w2 _) (by simp) hcl
          (fun j v hv => by
            obtain ⟨a, e, h⟩ := HSRC.out j v hv
            exact ⟨a, e, cell_stays (fun hlt => hBX.block _ hlt) h⟩) (by rw [hcl, hsz0]; omega) HONE.out HAN.out
        obtain ⟨arr1, HA1⟩ : ∃ b, Hid (b = (cs ++ arr0.toList.drop cs.length).toArray) := ⟨_, Lib.hid rfl⟩
        rw [← HA1.out] at hc1
        obtain ⟨W, HW⟩ : ∃ W, Hid (W = (w2.alloc (.cells arr0 IE)).setRow w2.heap.size arr1) := ⟨_, Lib.hid rfl⟩
        rw [← HW.out] at hc1
        have hsz1 : arr1.size = (L + 1) * 8 := by rw [HA1.out]; simp [hcl, hsz0]; omega
        have hBW : Below w.heap.size w W := by rw [HW.out]; exact setRow_below hBX hg1 _
        have kp : ∀ {q : Nat} {o : Obj}, w2.heap[q]? = some o → W.heap[q]? = some o := fun {q o} hq => by
          have := (Array.getElem?_eq_some_iff.1 hq).1
          rw [HW.out, setRow_other (by omega)]
          exact keepAlloc hq
        have AGW : W.heap[w2.heap.size]? = some (.cells arr1 IE (0, 0)) := by rw [HW.out]; exact setRow_heap _ _ _ _ _ _ (heap_alloc_new w2 _)
        have A0W := kp A0.out
        have A2W := kp A2.out
        have A3W := kp A3.out
        have A1W := kp A1.out
        have hhs := heap_alloc_new w2 (.cells arr0 IE)
        obtain ⟨rm, fm⟩ := rowc (keepAlloc (o' := .cells arr0 IE) A0.out)
        obtain ⟨r0, f0⟩ := rowc A0.out
        obtain ⟨r0W, f0W⟩ := rowc A0W
        obtain ⟨r1W, f1W⟩ := rowc A1W
        have hnum := fun h => keyB_num HKB.out h
        simp only at hnum
        -- the append
        obtain ⟨V, HV⟩ : ∃ V, Hid (V = W.alloc (.cells #[.bool yb, .int .i64 yn, .string ys, .int .i64 0, .int .i64 0, .string ⟨#[]⟩, .int .i64 0, .slice none 0 0] IE)) := ⟨_, Lib.hid rfl⟩
        have hVs : V.heap.size = W.heap.size + 1 := by rw [HV.out]; simp
        have hWs : w2.heap.size < W.heap.size := (Array.getElem?_eq_some_iff.1 AGW).1
        have hBV : Below w.heap.size w V := by rw [HV.out]; exact bs hBW (b1 W _)
        have kv : ∀ {q : Nat} {o : Obj}, W.heap[q]? = some o → V.heap[q]? = some o := fun {q o} hq => by rw [HV.out]; exact keepAlloc hq
        have own0 : V.ownsRow w2.heap.size IE 8 (.slice (some ⟨w2.heap.size, 0, none⟩) L (L + 1)) L cs := ⟨hcl, .inr ⟨w2.heap.size, L + 1, arr1, rfl, Nat.le_refl _, kv AGW, by omega, by have := HM.out; unfold maxLen; omega, hsz1, by rw [HA1.out]; simp [hcl]⟩⟩
        obtain ⟨v5, W5, hr1, own1, gb1, hn1⟩ := run_append_own (P := Tryd.prog) V w2.heap.size 24 24 IE i0 _ 8 96 Tryd.underlying24 hi hz.1 hz.2.1 hz.2.2 rfl (by decide) _ L cs own0 ⟨W.heap.size, 0, none⟩ 1 1 [.bool yb, .int .i64 yn, .string ys, .int .i64 0, .int .i64 0, .string ⟨#[]⟩, .int .i64 0, .slice none 0 0] rfl
          (by rw [HV.out]; exact eight_new _ _ _ _ _ _ _ _ _ _) (eight_one _ _ _ _ _ _ _ _ _ _) (by have := HM.out; unfold maxLen; omega) (by omega) (by omega)
        rcases own1.2 with ⟨rfl, h0⟩ | ⟨g5, c5, cur5, rfl, hb5, hg5, hnc5, hcm5, hcs5, htk5⟩
        · exact absurd h0 (by omega)
        have k5 : ∀ {q : Nat} {o : Obj}, q < w2.heap.size → W.heap[q]? = some o → W5.heap[q]? = some o := fun {q o} hlt hq => (gb1.block q (by omega) (fun e => by simp [Value.ownBlock] at e; omega)).trans (kv hq)
        have hB5 : Below w.heap.size w W5 := grown_below hBV gb1 (by show w.heap.size ≤ w2.heap.size; exact hg1) (by omega)
        have A05 := k5 (by omega) A0W
        have A15 := k5 (by omega) A1W
        have A25 := k5 (by omega) A2W
        have A35 := k5 (by omega) A3W
        have n50 : g5 ≠ w.heap.size := by omega
        have n52 : g5 ≠ w.heap.size + 1 + 1 := by omega
        have n53 : g5 ≠ w.heap.size + 1 + 1 + 1 := by omega
        obtain ⟨r05, f05⟩ := rowc A05
        obtain ⟨r15, f15⟩ := rowc A15
        obtain ⟨r25, f25⟩ := rowc A25
        obtain ⟨rg5, fg5⟩ := rowc hg5
        have hat : ∀ p, p < (L + 1) * 8 → cur5[p]? = (cs ++ [.bool yb, .int .i64 yn, .string ys, .int .i64 0, .int .i64 0, .string ⟨#[]⟩, .int .i64 0, .slice none 0 0])[p]? := fun p hp => by
          rw [← htk5, List.getElem?_take_of_lt (by omega), Array.getElem?_toList]
        have zg : ∀ q, q < 5 → ∃ u, W5.cell? ⟨g5, L * 8 + 3 + q, none⟩ = some u := fun q hq => ⟨_, (rg5 _).trans (Array.getElem?_eq_getElem (by omega))⟩
        obtain ⟨z3, hz3⟩ := zg 0 (by omega)
        obtain ⟨z4, hz4⟩ := zg 1 (by omega)
        obtain ⟨z5, hz5⟩ := zg 2 (by omega)
        obtain ⟨z6, hz6⟩ := zg 3 (by omega)
        obtain ⟨z7, hz7⟩ := zg 4 (by omega)
        rw [Nat.add_zero] at hz3
        rw [HV.out] at hr1
        unfold IE at hr1
        have HAT := Lib.hid hat
        have HG5 := Lib.hid hg5
        have HC5 := Lib.hid (And.intro hnc5 hcm5)
        have HCS5 := Lib.hid hcs5
        have HB5 := Lib.hid hB5
        have HLE := Lib.hid hb5
        have HA05 := Lib.hid A05
        have HA25 := Lib.hid A25
        have HA35 := Lib.hid A35
        have HHG1 := Lib.hid hg1
        have HHG2 := Lib.hid hg2
        clear rg5 zg hat hg5 hnc5 hcm5 hcs5 htk5 hb5 hB5 own0 own1 gb1 hn1 kv k5 kp A0W A1W A2W A3W A05 A15 A25 A35 AGW hVs hWs hBV hBW hBX hsz0 hsz1 hie hcl hhs hg1 hg2
        cases yb with
        | true =>
          have eN : x = X := HX.out
          subst eN
          clear hnum
          obtain ⟨W3, HW3⟩ : ∃ W3, Hid (W3 = ((((W5.setCell ⟨g5, L * 8 + 3, none⟩ (.int .i64 ku)).setCell ⟨g5, L * 8 + 3 + 1, none⟩ (.int .i64 nu)).setCell ⟨g5, L * 8 + 3 + 2, none⟩ (.string su)).setCell ⟨g5, L * 8 + 3 + 3, none⟩ (.int .i64 xu)).setCell ⟨g5, L * 8 + 3 + 4, none⟩ (.slice Au Lu cu)) := ⟨_, Lib.hid rfl⟩
          obtain ⟨AG3, o3, b3'⟩ := put5_heap HG5.out HW3.out.symm
          have hle := HLE.out
          have hg1 := HHG1.out
          have HB3 := Lib.hid (b3' _ _ (show w.heap.size ≤ g5 by omega) HB5.out)
          obtain ⟨W4, HW4⟩ : ∃ W4, Hid (W4 = W3.setCell ⟨w.heap.size, 4, none⟩ (.slice (some ⟨g5, 0, none⟩) (L + 1) c5)) := ⟨_, Lib.hid rfl⟩
          have A04 : W4.heap[w.heap.size]? = some (.cells #[.int .i64 4, .int .i64 n, .string s, .int .i64 x, .slice (some ⟨g5, 0, none⟩) (L + 1) c5] IV (0, 0)) := by rw [HW4.out]; exact set_heap ((o3 _ (by omega)).trans HA05.out) 4 _
          obtain ⟨r04, f04⟩ := rowc A04
          have HBC : Hid (Below w.heap.size w W4) := Lib.hid (by rw [HW4.out]; exact HB3.out.setCell (Nat.le_refl _) _)
          have A3H : Hid (W4.heap[w.heap.size + 1 + 1 + 1]? = some (.cells #[.int .i64 0, .int .i64 0, .string ⟨#[]⟩, .int .i64 0, .slice none 0 0] IV (0, 0))) := Lib.hid (by rw [HW4.out, set_other (by omega), o3 _ (by omega)]; exact HA35.out)
          have HAG4 := Lib.hid ((by rw [HW4.out, set_other (by omega)] : W4.heap[g5]? = W3.heap[g5]?).trans AG3)
          rw [HW4.out] at r04
          clear AG3 o3 b3' A04 f04 hle hg1
          go_wp2_with (first
            | (at_builtin; refine wpList_append_eq (by rfl) _ _ _ (by rfl) (by with_reducible exact hr1) (by rfl) (by rfl) ?_)
            | fail)
          rw [← HW3.out, ← HW4.out]
          have hT4 : TIn W4 (Nw 0 W4) (.mk 4 n s x (ks ++ [⟨true, yn, ys⟩]) (vs ++ [.mk ku nu su xu ksu vsu])) (vV 4 n s x (some ⟨g5, 0, none⟩) (L + 1) c5) := by
            have hBC := HBC.out
            have hat := HAT.out
            have hcl := HCL.out
            have hsS : ∀ b, Nw 0 w b → Nw 0 W4 b := fun b hb => hb.keep (Nat.le_refl _) (hBC.block b hb.2.lt)
            have hsB : ∀ b, Nw 0 w b → b < w.heap.size → W4.heap[b]? = w.heap[b]? := fun b _ hlt => hBC.block b hlt
            have uT := HTu.out
            have hvl : (vs ++ [Tr.mk ku nu su xu ksu vsu]).length = L + 1 := by rw [List.length_append, HL.out]; rfl
            have hc5 := HC5.out
            have hE : ∀ q, q < 8 → cur5[L * 8 + q]? = ([.bool true, .int .i64 yn, .string ys, .int .i64 0, .int .i64 0, .string ⟨#[]⟩, .int .i64 0, .slice none 0 0] : List Value)[q]? := fun q hq => by
              rw [hat _ (by omega), List.getElem?_append_right (by omega), hcl, Nat.add_sub_cancel_left]
            have hin4 := isin_put (w := W4) (S := Nw 0 W4) (g := g5) (i := L) (arr := cur5) (ks := ks ++ [⟨true, yn, ys⟩]) (vs := vs ++ [.mk ku nu su xu ksu vsu]) (y := ⟨true, yn, ys⟩) (k := ku) (n := nu) (x := xu) (s := su) (ks' := ksu) (vs' := vsu) (A := Au) (c := cu)
              (by rw [HLu.out]; exact HAG4.out) ⟨Nat.zero_le _, _, _, HAG4.out⟩ (by rw [hvl, List.length_append, hkl.out]; rfl) (by rw [hvl]; omega) (by rw [hvl, HCS5.out]; omega) (by rw [hvl]; omega)
              (by rw [List.getElem?_append_right (by rw [hkl.out]; omega), hkl.out]; simp) (by rw [List.getElem?_append_right (by rw [HL.out]; omega), HL.out]; simp) HY.out
              (hE 0 (by omega)) (hE 1 (by omega)) (hE 2 (by omega))
              (by rw [HLu.out]; exact uT.stays hsS hsB)
              (fun j hj hne => by
                rw [hvl] at hj
                obtain ⟨y1, k1, n1, s1, x1, ks1, vs1, A1', c1', q1, q2, q3, -, q5, q6⟩ := HIT.out j (by omega)
                refine ⟨y1, k1, n1, s1, x1, ks1, vs1, A1', c1', by rw [List.getElem?_append_left (by rw [hkl.out]; omega)]; exact q1, by rw [List.getElem?_append_left (by rw [HL.out]; omega)]; exact q2, q3, fun q hq => ?_, q6.stays hsS hsB⟩
                rw [hat _ (by omega), List.getElem?_append_left (by omega)]
                exact q5 q hq)
            have := TIn.of c5 HK.out hin4 (by rw [hvl]; exact hc5)
            rw [hvl] at this
            exact this
          refine (copyValue _ _ W4 0 hT4 HN2.out HT2.out).mono ?_
          rintro e wz ⟨uz, par, R, rfl, hu, hR, hb2⟩
          obtain ⟨Az, cz, rfl, -⟩ := hu.out
          rw [List.length_append, HL.out] at hu ⊢
          clear r0 f0 r0W f0W r1W f1W r05 f05 r15 f15 r25 f25 r04 fg5 rm fm hmk hc1 hr1 hwr hz3 hz4 hz5 hz6 hz7 hi hz hT4
          have HU := Lib.hid hu
          have HR := Lib.hid hR
          have HBz := Lib.hid hb2
          have HZ3 := Lib.hid (carry hb2 A3H.out)
          obtain ⟨rz, fz⟩ := rowc HZ3.out
          have HBZ := Lib.hid (bs HBC.out hb2)
          have HLT := Lib.hid (Array.getElem?_eq_some_iff.1 A3H.out).1
          clear hb2 hu hR
          go_wp2_with (fail)
          generalize hwF : (((((wz.setCell ⟨w.heap.size + 1 + 1 + 1, 0, none⟩ (.int .i64 4)).setCell ⟨w.heap.size + 1 + 1 + 1, 1, none⟩ (.int .i64 n)).setCell ⟨w.heap.size + 1 + 1 + 1, 2, none⟩ (.string s)).setCell ⟨w.heap.size + 1 + 1 + 1, 3, none⟩ (.int .i64 x)).setCell ⟨w.heap.size + 1 + 1 + 1, 4, none⟩ (.slice Az (L + 1) cz)) = wF
          obtain ⟨rF, oF, bF⟩ := fill5 HZ3.out hwF
          refine bodyPost_ret (v := .tuple #[vV 4 n s x Az (L + 1) cz, .bool true]) ?_ rfl ?_
          · simp [results, Tryd.results16, go_sem, rF]
          · have hlt := HLT.out
            have hR := HR.out
            refine ⟨_, par, R, by first | rfl | rw [HL.out], ?_, Nat.le_trans HBC.out.size hR, bF _ _ (by omega) HBZ.out⟩
            exact HU.out.above fun b hb _ => oF b (by simp at hb; omega)
        | false =>
          have hyn := hnum rfl
          have MX := nums.implMax x (yn + 1)
          rw [max_nxt x ⟨false, yn, ys⟩ rfl] at MX
          rw [HX.out] at MX
          clear hnum
          have HA0N : (W5.setCell ⟨w.heap.size, 3, none⟩ (.int .i64 X)).heap[w.heap.size]? = some (.cells #[.int .i64 4, .int .i64 n, .string s, .int .i64 X, .slice A L c] IV (0, 0)) := set_heap HA05.out 3 _
          have HA3N : (W5.setCell ⟨w.heap.size, 3, none⟩ (.int .i64 X)).heap[w.heap.size + 1 + 1 + 1]? = some (.cells #[.int .i64 0, .int .i64 0, .string ⟨#[]⟩, .int .i64 0, .slice none 0 0] IV (0, 0)) := by rw [set_other (by omega)]; exact HA35.out
          have HGN : (W5.setCell ⟨w.heap.size, 3, none⟩ (.int .i64 X)).heap[g5]? = some (.cells cur5 IE (0, 0)) := by rw [set_other n50]; exact HG5.out
          have HBN : Below w.heap.size w (W5.setCell ⟨w.heap.size, 3, none⟩ (.int .i64 X)) := HB5.out.setCell (Nat.le_refl _) _
          have HKN : Hid (I64 4 ∧ I64 n ∧ I64 X ∧ s.size ≤ maxLen) := Lib.hid (by
            have h := HK.out
            refine ⟨h.1, h.2.1, ?_, h.2.2.2⟩
            have hx := h.2.2.1
            rw [← HX.out]
            unfold nxt I64 at *
            simp only
            split
            · exact hx
            · split
              · omega
              · exact hx)
          have hwy : IntKind.i64.wrap (yn + 1) = yn + 1 := by rw [IntKind.wrap_i64]; omega
          obtain ⟨W3, HW3⟩ : ∃ W3, Hid (W3 = (((((W5.setCell ⟨w.heap.size, 3, none⟩ (.int .i64 X)).setCell ⟨g5, L * 8 + 3, none⟩ (.int .i64 ku)).setCell ⟨g5, L * 8 + 3 + 1, none⟩ (.int .i64 nu)).setCell ⟨g5, L * 8 + 3 + 2, none⟩ (.string su)).setCell ⟨g5, L * 8 + 3 + 3, none⟩ (.int .i64 xu)).setCell ⟨g5, L * 8 + 3 + 4, none⟩ (.slice Au Lu cu)) := ⟨_, Lib.hid rfl⟩
          obtain ⟨AG3, o3, b3'⟩ := put5_heap HGN HW3.out.symm
          have hle := HLE.out
          have hg1 := HHG1.out
          have HB3 := Lib.hid (b3' _ _ (show w.heap.size ≤ g5 by omega) HBN)
          obtain ⟨W4, HW4⟩ : ∃ W4, Hid (W4 = W3.setCell ⟨w.heap.size, 4, none⟩ (.slice (some ⟨g5, 0, none⟩) (L + 1) c5)) := ⟨_, Lib.hid rfl⟩
          have A04 : W4.heap[w.heap.size]? = some (.cells #[.int .i64 4, .int .i64 n, .string s, .int .i64 X, .slice (some ⟨g5, 0, none⟩) (L + 1) c5] IV (0, 0)) := by rw [HW4.out]; exact set_heap ((o3 _ (by omega)).trans HA0N) 4 _
          obtain ⟨r04, f04⟩ := rowc A04
          have HBC : Hid (Below w.heap.size w W4) := Lib.hid (by rw [HW4.out]; exact HB3.out.setCell (Nat.le_refl _) _)
          have A3H : Hid (W4.heap[w.heap.size + 1 + 1 + 1]? = some (.cells #[.int .i64 0, .int .i64 0, .string ⟨#[]⟩, .int .i64 0, .slice none 0 0] IV (0, 0))) := Lib.hid (by rw [HW4.out, set_other (by omega), o3 _ (by omega)]; exact HA3N)
          have HAG4 := Lib.hid ((by rw [HW4.out, set_other (by omega)] : W4.heap[g5]? = W3.heap[g5]?).trans AG3)
          rw [HW4.out] at r04
          clear AG3 o3 b3' A04 f04 hle hg1
          go_wp2_with (first
            | (at_builtin; refine wpList_append_eq (by rfl) _ _ _ (by rfl) (by with_reducible exact hr1) (by rfl) (by rfl) ?_)
            | fail)
          refine (MX _).mono ?_
          rintro e w6 ⟨rfl, rfl⟩
          go_wp2_with (fail)
          rw [← HW3.out, ← HW4.out]
          have hT4 : TIn W4 (Nw 0 W4) (.mk 4 n s X (ks ++ [⟨false, yn, ys⟩]) (vs ++ [.mk ku nu su xu ksu vsu])) (vV 4 n s X (some ⟨g5, 0, none⟩) (L + 1) c5) := by
            have hBC := HBC.out
            have hat := HAT.out
            have hcl := HCL.out
            have hsS : ∀ b, Nw 0 w b → Nw 0 W4 b := fun b hb => hb.keep (Nat.le_refl _) (hBC.block b hb.2.lt)
            have hsB : ∀ b, Nw 0 w b → b < w.heap.size → W4.heap[b]? = w.heap[b]? := fun b _ hlt => hBC.block b hlt
            have uT := HTu.out
            have hvl : (vs ++ [Tr.mk ku nu su xu ksu vsu]).length = L + 1 := by rw [List.length_append, HL.out]; rfl
            have hc5 := HC5.out
            have hE : ∀ q, q < 8 → cur5[L * 8 + q]? = ([.bool false, .int .i64 yn, .string ys, .int .i64 0, .int .i64 0, .string ⟨#[]⟩, .int .i64 0, .slice none 0 0] : List Value)[q]? := fun q hq => by
              rw [hat _ (by omega), List.getElem?_append_right (by omega), hcl, Nat.add_sub_cancel_left]
            have hin4 := isin_put (w := W4) (S := Nw 0 W4) (g := g5) (i := L) (arr := cur5) (ks := ks ++ [⟨false, yn, ys⟩]) (vs := vs ++ [.mk ku nu su xu ksu vsu]) (y := ⟨false, yn, ys⟩) (k := ku) (n := nu) (x := xu) (s := su) (ks' := ksu) (vs' := vsu) (A := Au) (c := cu)
              (by rw [HLu.out]; exact HAG4.out) ⟨Nat.zero_le _, _, _, HAG4.out⟩ (by rw [hvl, List.length_append, hkl.out]; rfl) (by rw [hvl]; omega) (by rw [hvl, HCS5.out]; omega) (by rw [hvl]; omega)
              (by rw [List.getElem?_append_right (by rw [hkl.out]; omega), hkl.out]; simp) (by rw [List.getElem?_append_right (by rw [HL.out]; omega), HL.out]; simp) HY.out
              (hE 0 (by omega)) (hE 1 (by omega)) (hE 2 (by omega))
              (by rw [HLu.out]; exact uT.stays hsS hsB)
              (fun j hj hne => by
                rw [hvl] at hj
                obtain ⟨y1, k1, n1, s1, x1, ks1, vs1, A1', c1', q1, q2, q3, -, q5, q6⟩ := HIT.out j (by omega)
                refine ⟨y1, k1, n1, s1, x1, ks1, vs1, A1', c1', by rw [List.getElem?_append_left (by rw [hkl.out]; omega)]; exact q1, by rw [List.getElem?_append_left (by rw [HL.out]; omega)]; exact q2, q3, fun q hq => ?_, q6.stays hsS hsB⟩
                rw [hat _ (by omega), List.getElem?_append_left (by omega)]
                exact q5 q hq)
            have := TIn.of c5 HKN.out hin4 (by rw [hvl]; exact hc5)
            rw [hvl] at this
            exact this
          refine (copyValue _ _ W4 0 hT4 HN2.out HT2.out).mono ?_
          rintro e wz ⟨uz, par, R, rfl, hu, hR, hb2⟩
          obtain ⟨Az, cz, rfl, -⟩ := hu.out
          rw [List.length_append, HL.out] at hu ⊢
          clear r0 f0 r0W f0W r1W f1W r05 f05 r15 f15 r25 f25 r04 fg5 rm fm hmk hc1 hr1 hwr hz3 hz4 hz5 hz6 hz7 hi hz hT4
          have HU := Lib.hid hu
          have HR := Lib.hid hR
          have HBz := Lib.hid hb2
          have HZ3 := Lib.hid (carry hb2 A3H.out)
          obtain ⟨rz, fz⟩ := rowc HZ3.out
          have HBZ := Lib.hid (bs HBC.out hb2)
          have HLT := Lib.hid (Array.getElem?_eq_some_iff.1 A3H.out).1
          clear hb2 hu hR
          go_wp2_with (fail)
          generalize hwF : (((((wz.setCell ⟨w.heap.size + 1 + 1 + 1, 0, none⟩ (.int .i64 4)).setCell ⟨w.heap.size + 1 + 1 + 1, 1, none⟩ (.int .i64 n)).setCell ⟨w.heap.size + 1 + 1 + 1, 2, none⟩ (.string s)).setCell ⟨w.heap.size + 1 + 1 + 1, 3, none⟩ (.int .i64 X)).setCell ⟨w.heap.size + 1 + 1 + 1, 4, none⟩ (.slice Az (L + 1) cz)) = wF
          obtain ⟨rF, oF, bF⟩ := fill5 HZ3.out hwF
          refine bodyPost_ret (v := .tuple #[vV 4 n s X Az (L + 1) cz, .bool true]) ?_ rfl ?_
          · simp [results, Tryd.results16, go_sem, rF]
          · have hlt := HLT.out
            have hR := HR.out
            refine ⟨_, par, R, by first | rfl | rw [HL.out], ?_, Nat.le_trans HBC.out.size hR, bF _ _ (by omega) HBZ.out⟩
            exact HU.out.above fun b hb _ => oF b (by simp at hb; omega)
      · rw [setT_some hp] at HN2 HT2 ⊢
        rw [hp] at HF
        have hiL : i < L := by rw [← hkl.out]; exact hi
        have HP := Lib.hid hp
        clear hp hi
        obtain ⟨yb, yn, ys⟩ := y
        unfold kyV at HKI HF ⊢
        go_enter Tryd.func16, Tryd.ntmps16
        go_wp2_with (fail)
        obtain ⟨a0, a1, a2, a3, az, ab⟩ := al4 w _ _ _ _ _ _ _ _ _ rfl
        refine (HKI.out _ (HE.out.stays ab)).mono ?_
        rintro e w1 ⟨rfl, hb1⟩
        have A0 := Lib.hid (carry hb1 a0)
        have A1 := Lib.hid (carry hb1 a1)
        have A2 := Lib.hid (carry hb1 a2)
        have A3 := Lib.hid (carry hb1 a3)
        have HB1 := Lib.hid (bs ab hb1)
        obtain ⟨r0, f0⟩ := rowc A0.out
        obtain ⟨r1, f1⟩ := rowc A1.out
        clear a0 a1 a2 a3 az ab hb1
        go_wp2_with (fail)
        refine (HF.out _ (HT.out.nwb HB1.out)).mono ?_
        rintro e w2 ⟨rfl, hb2⟩
        replace A0 := Lib.hid (carry hb2 A0.out)
        replace A1 := Lib.hid (carry hb2 A1.out)
        replace A2 := Lib.hid (carry hb2 A2.out)
        replace A3 := Lib.hid (carry hb2 A3.out)
        replace HB1 := Lib.hid (bs HB1.out hb2)
        clear r0 f0 r1 f1 hb2
        have hg1 : w.heap.size ≤ w2.heap.size := HB1.out.size
        have hg2 : w.heap.size + 1 + 1 + 1 < w2.heap.size := (Array.getElem?_eq_some_iff.1 A3.out).1
        obtain ⟨i0, hi, hz⟩ := ie_info
        have hmk := run_make (P := Tryd.prog) w2 24 IE i0 _ Tryd.underlying24 hi hz.1 .i64 .i64 L ((L : Int) + 1) (by omega) (by omega) (by rw [hz.2.2]; omega) (by omega)
        rw [hz.2.1] at hmk
        rw [show ((L : Int) + 1).toNat = L + 1 by omega] at hmk
        simp only [Int.toNat_natCast] at hmk
        have hwr : IntKind.i64.wrap ((L : Int) + 1) = (L : Int) + 1 := by rw [IntKind.wrap_i64]; omega
        obtain ⟨arr0, HA⟩ : ∃ a, Hid (a = madeCells (Value.agg #[.bool false, .int .i64 0, .string ⟨#[]⟩, .int .i64 0, .int .i64 0, .string ⟨#[]⟩, .int .i64 0, .slice none 0 0]).cells ((L + 1) * 8)) := ⟨_, Lib.hid rfl⟩
        rw [← HA.out] at hmk
        have hsz0 : arr0.size = (L + 1) * 8 := by rw [HA.out, madeSize]
        have hie : (Tryd.prog.info? IE).map (·.size) = some 8 := by rw [hi]; exact congrArg some hz.2.1
        have hcl := HCL.out
        have hBX : Below w.heap.size w (w2.alloc (.cells arr0 IE)) := bs HB1.out (b1 w2 _)
        have hc1 := run_copy_A (P := Tryd.prog) (w2.alloc (.cells arr0 IE)) 24 24 3 IE w2.heap.size L (L + 1) A L c arr0 IE cs L Tryd.underlying24 hie (heap_alloc_new w2 _) (by simp) hcl
          (fun j v hv => by
            obtain ⟨a, e, h⟩ := HSRC.out j v hv
            exact ⟨a, e, cell_stays (fun hlt => hBX.block _ hlt) h⟩) (by rw [hcl, hsz0]; omega) HONE.out HAN.out
        obtain ⟨arr1, HA1⟩ : ∃ b, Hid (b = (cs ++ arr0.toList.drop cs.length).toArray) := ⟨_, Lib.hid rfl⟩
        rw [← HA1.out] at hc1
        obtain ⟨W, HW⟩ : ∃ W, Hid (W = (w2.alloc (.cells arr0 IE)).setRow w2.heap.size arr1) := ⟨_, Lib.hid rfl⟩
        rw [← HW.out] at hc1
        have hsz1 : arr1.size = (L + 1) * 8 := by rw [HA1.out]; simp [hcl, hsz0]; omega
        have hBW : Below w.heap.size w W := by rw [HW.out]; exact setRow_below hBX hg1 _
        have kp : ∀ {q : Nat} {o : Obj}, w2.heap[q]? = some o → W.heap[q]? = some o := fun {q o} hq => by
          have := (Array.getElem?_eq_some_iff.1 hq).1
          rw [HW.out, setRow_other (by omega)]
          exact keepAlloc hq
        have AGW : W.heap[w2.heap.size]? = some (.cells arr1 IE (0, 0)) := by rw [HW.out]; exact setRow_heap _ _ _ _ _ _ (heap_alloc_new w2 _)
        have A0W := kp A0.out
        have A2W := kp A2.out
        have A3W := kp A3.out
        obtain ⟨G, HG⟩ : ∃ G, Hid (G = w2.heap.size) := ⟨_, Lib.hid rfl⟩
        have hhs := heap_alloc_new w2 (.cells arr0 IE)
        obtain ⟨rm, fm⟩ := rowc (keepAlloc (o' := .cells arr0 IE) A0.out)
        obtain ⟨r0, f0⟩ := rowc A0.out
        obtain ⟨r0W, f0W⟩ := rowc A0W
        obtain ⟨r2W, f2W⟩ := rowc A2W
        obtain ⟨rgW, fgW⟩ := rowc AGW
        have zg : ∀ q, q < 5 → ∃ u, W.cell? ⟨w2.heap.size, i * 8 + 3 + q, none⟩ = some u := fun q hq => ⟨_, (rgW _).trans (Array.getElem?_eq_getElem (by omega))⟩
        obtain ⟨z3, hz3⟩ := zg 0 (by omega)
        obtain ⟨z4, hz4⟩ := zg 1 (by omega)
        obtain ⟨z5, hz5⟩ := zg 2 (by omega)
        obtain ⟨z6, hz6⟩ := zg 3 (by omega)
        obtain ⟨z7, hz7⟩ := zg 4 (by omega)
        rw [Nat.add_zero] at hz3
        clear rgW zg
        have ne0 : w2.heap.size ≠ w.heap.size := by omega
        have ne2 : w2.heap.size ≠ w.heap.size + 1 + 1 := by omega
        obtain ⟨W3, HW3⟩ : ∃ W3, Hid (W3 = ((((W.setCell ⟨w2.heap.size, i * 8 + 3, none⟩ (.int .i64 ku)).setCell ⟨w2.heap.size, i * 8 + 3 + 1, none⟩ (.int .i64 nu)).setCell ⟨w2.heap.size, i * 8 + 3 + 2, none⟩ (.string su)).setCell ⟨w2.heap.size, i * 8 + 3 + 3, none⟩ (.int .i64 xu)).setCell ⟨w2.heap.size, i * 8 + 3 + 4, none⟩ (.slice Au Lu cu)) := ⟨_, Lib.hid rfl⟩
        obtain ⟨AG3, o3, b3'⟩ := put5_heap AGW HW3.out.symm
        have HAG3 := Lib.hid AG3
        have HO3 := Lib.hid o3
        have HB3 := Lib.hid (b3' _ _ hg1 hBW)
        obtain ⟨W4, HW4⟩ : ∃ W4, Hid (W4 = W3.setCell ⟨w.heap.size, 4, none⟩ (.slice (some ⟨w2.heap.size, 0, none⟩) L (L + 1))) := ⟨_, Lib.hid rfl⟩
        have A04 : W4.heap[w.heap.size]? = some (.cells #[.int .i64 4, .int .i64 n, .string s, .int .i64 x, .slice (some ⟨w2.heap.size, 0, none⟩) L (L + 1)] IV (0, 0)) := by rw [HW4.out]; exact set_heap ((o3 _ (by omega)).trans A0W) 4 _
        obtain ⟨r04, f04⟩ := rowc A04
        have HBC : Hid (Below w.heap.size w W4) := Lib.hid (by rw [HW4.out]; exact HB3.out.setCell (Nat.le_refl _) _)
        have A3H : Hid (W4.heap[w.heap.size + 1 + 1 + 1]? = some (.cells #[.int .i64 0, .int .i64 0, .string ⟨#[]⟩, .int .i64 0, .slice none 0 0] IV (0, 0))) := Lib.hid (by rw [HW4.out, set_other (by omega), o3 _ (by omega)]; exact A3W)
        have HAG4 := Lib.hid ((by rw [HW4.out, set_other (by omega)] : W4.heap[w2.heap.size]? = W3.heap[w2.heap.size]?).trans AG3)
        have HSZ1 := Lib.hid hsz1
        have HHG1 := Lib.hid hg1
        have HHG2 := Lib.hid hg2
        have r04' := r04
        have f04' := f04
        rw [HW4.out] at r04'
        clear hsz0 hsz1 hie hcl hBX hBW kp AGW A0W A2W A3W hhs AG3 o3 b3' A04 hg2
        go_wp2_with (fail)
        rw [← HW3.out, ← HW4.out]
        have hT4 : TIn W4 (Nw 0 W4) (.mk 4 n s x ks (vs.set i (.mk ku nu su xu ksu vsu))) (vV 4 n s x (some ⟨w2.heap.size, 0, none⟩) L (L + 1)) := by
          have hBC := HBC.out
          have hsS : ∀ b, Nw 0 w b → Nw 0 W4 b := fun b hb => hb.keep (Nat.le_refl _) (hBC.block b hb.2.lt)
          have hsB : ∀ b, Nw 0 w b → b < w.heap.size → W4.heap[b]? = w.heap[b]? := fun b _ hlt => hBC.block b hlt
          have hat : ∀ p, p < L * 8 → arr1[p]? = cs[p]? := fun p hp => by
            have := HCL.out
            rw [HA1.out]
            simp
            rw [List.getElem?_append_left (by omega)]
          obtain ⟨y0, k0, n0, s0, x0, ks0, vs0, A0', c0', g1, g2, g3, -, g5, -⟩ := HIT.out i hiL
          have uT := HTu.out
          have hin4 := isin_put (w := W4) (S := Nw 0 W4) (g := w2.heap.size) (i := i) (arr := arr1) (ks := ks) (vs := vs.set i (.mk ku nu su xu ksu vsu)) (y := y0) (k := ku) (n := nu) (x := xu) (s := su) (ks' := ksu) (vs' := vsu) (A := Au) (c := cu)
            (by rw [HLu.out]; exact HAG4.out) ⟨Nat.zero_le _, _, _, HAG4.out⟩ (by rw [List.length_set, hkl.out, HL.out]) (by rw [List.length_set, HL.out]; exact HM.out) (by rw [List.length_set, HL.out, HSZ1.out]; omega) (by rw [List.length_set, HL.out]; exact hiL)
            g1 (by rw [List.getElem?_set_self (by rw [HL.out]; exact hiL)]) g3
            ((hat _ (by omega)).trans (g5 0 (by omega))) ((hat _ (by omega)).trans (g5 1 (by omega))) ((hat _ (by omega)).trans (g5 2 (by omega)))
            (by rw [HLu.out]; exact uT.stays hsS hsB)
            (fun j hj hne => by
              rw [List.length_set, HL.out] at hj
              obtain ⟨y1, k1, n1, s1, x1, ks1, vs1, A1', c1', q1, q2, q3, -, q5, q6⟩ := HIT.out j hj
              exact ⟨y1, k1, n1, s1, x1, ks1, vs1, A1', c1', q1, by rw [List.getElem?_set_ne (fun e => hne e.symm)]; exact q2, q3, fun q hq => (hat _ (by omega)).trans (q5 q hq), q6.stays hsS hsB⟩)
          have := TIn.of (L + 1) HK.out hin4 ⟨by rw [List.length_set, HL.out]; omega, by have := HM.out; unfold maxLen; omega⟩
          rw [List.length_set, HL.out] at this
          exact this
        refine (copyValue _ _ W4 0 hT4 HN2.out HT2.out).mono ?_
        rintro e wz ⟨uz, par, R, rfl, hu, hR, hb2⟩
        obtain ⟨Az, cz, rfl, -⟩ := hu.out
        rw [List.length_set, HL.out] at hu ⊢
        clear r0 f0 r0W f0W r2W f2W fgW r04 f04 r04' f04' rm fm hmk hc1 hwr hz3 hz4 hz5 hz6 hz7 ne0 ne2 hi hz hT4
        have HU := Lib.hid hu
        have HR := Lib.hid hR
        have HBz := Lib.hid hb2
        have HZ3 := Lib.hid (carry hb2 A3H.out)
        obtain ⟨rz, fz⟩ := rowc HZ3.out
        have HBZ := Lib.hid (bs HBC.out hb2)
        have HLT := Lib.hid (Array.getElem?_eq_some_iff.1 A3H.out).1
        clear hb2 hu hR
        go_wp2_with (fail)
        generalize hwF : (((((wz.setCell ⟨w.heap.size + 1 + 1 + 1, 0, none⟩ (.int .i64 4)).setCell ⟨w.heap.size + 1 + 1 + 1, 1, none⟩ (.int .i64 n)).setCell ⟨w.heap.size + 1 + 1 + 1, 2, none⟩ (.string s)).setCell ⟨w.heap.size + 1 + 1 + 1, 3, none⟩ (.int .i64 x)).setCell ⟨w.heap.size + 1 + 1 + 1, 4, none⟩ (.slice Az L cz)) = wF
        obtain ⟨rF, oF, bF⟩ := fill5 HZ3.out hwF
        refine bodyPost_ret (v := .tuple #[vV 4 n s x Az L cz, .bool true]) ?_ rfl ?_
        · simp [results, Tryd.results16, go_sem, rF]
        · have hlt := HLT.out
          have hR := HR.out
          refine ⟨_, par, R, by first | rfl | rw [HL.out], ?_, Nat.le_trans HBC.out.size hR, bF _ _ (by omega) HBZ.out⟩
          exact HU.out.above fun b hb _ => oF b (by simp at hb; omega)
  · have e1 : setB (.mk k n s x ks vs) y = false := by rw [setB_mk, decide_eq_false hk4]; rfl
    have e2 : setR (.mk k n s x ks vs) y (.mk ku nu su xu ksu vsu) = .mk k n s x ks vs := by unfold setR; rw [e1]; rfl
    rw [e1, e2]
    clear e1 e2 HF HN2 HT2 HI HTu HY HKI
    obtain ⟨yb, yn, ys⟩ := y
    unfold kyV
    go_enter Tryd.func16, Tryd.ntmps16
    obtain ⟨W, HW⟩ : ∃ W, Hid (W = (((w.alloc (.cells #[.int .i64 k, .int .i64 n, .string s, .int .i64 x, .slice A L c] IV)).alloc (.cells #[.bool yb, .int .i64 yn, .string ys] IK)).alloc (.cells #[.int .i64 ku, .int .i64 nu, .string su, .int .i64 xu, .slice Au Lu cu] IV)).alloc (.cells #[.int .i64 0, .int .i64 0, .string ⟨#[]⟩, .int .i64 0, .slice none 0 0] IV)) := ⟨_, Lib.hid rfl⟩
    obtain ⟨a0, -, -, a3, az, ab⟩ := al4 w _ _ _ _ _ _ _ _ _ HW.out
    have A3H := Lib.hid a3
    have HBC := Lib.hid ab
    clear a0 a3 az ab
    go_wp2_with (fail)
    rw [← HW.out]
    refine (HCV.out _ (HT.out.nwb HBC.out)).mono ?_
    rintro e wz ⟨uz, par, R, rfl, hu, hR, hb2⟩
    obtain ⟨Az, cz, rfl, -⟩ := hu.out
    rw [HL.out] at hu ⊢
    have HU := Lib.hid hu
    have HR := Lib.hid hR
    have HBz := Lib.hid hb2
    have HZ3 := Lib.hid (carry hb2 A3H.out)
    obtain ⟨rz, fz⟩ := rowc HZ3.out
    have HBZ := Lib.hid (bs HBC.out hb2)
    have HLT := Lib.hid (Array.getElem?_eq_some_iff.1 A3H.out).1
    clear hb2 hu hR
    go_wp2_with (fail)
    generalize hwF : (((((wz.setCell ⟨w.heap.size + 1 + 1 + 1, 0, none⟩ (.int .i64 k)).setCell ⟨w.heap.size + 1 + 1 + 1, 1, none⟩ (.int .i64 n)).setCell ⟨w.heap.size + 1 + 1 + 1, 2, none⟩ (.string s)).setCell ⟨w.heap.size + 1 + 1 + 1, 3, none⟩ (.int .i64 x)).setCell ⟨w.heap.size + 1 + 1 + 1, 4, none⟩ (.slice Az L cz)) = wF
    obtain ⟨rF, oF, bF⟩ := fill5 HZ3.out hwF
    refine bodyPost_ret (v := .tuple #[vV k n s x Az L cz, .bool false]) ?_ rfl ?_
    · simp [results, Tryd.results16, go_sem, rF]
    · have hlt := HLT.out
      have hR := HR.out
      refine ⟨_, par, R, by first | rfl | rw [HL.out], ?_, Nat.le_trans HBC.out.size hR, bF _ _ (by omega) HBZ.out⟩
      exact HU.out.above fun b hb _ => oF b (by simp at hb; omega)

end Go.Proofs.YtlbkbcafkjgckaaDoor.tree

