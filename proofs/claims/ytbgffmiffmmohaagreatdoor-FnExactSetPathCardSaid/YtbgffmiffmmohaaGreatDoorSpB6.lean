/-
  What the texts behind this one use: 2 parts of one proof.
  Conditions: those that each theorem names.
-/
import Derived.Test.YtbgffmiffmmohaaGreatDoorSpB5
import Derived.Test.YtbgffmiffmmohaaGreatDoorSpSCopyS
import Derived.Test.YtbgffmiffmmohaaGreatDoorSpSLawBox
import Derived.Test.YtbgffmiffmmohaaGreatDoorSpB3
import Derived.Deep.CutBlock
import Derived.Deep.DeepCutAuto
/-
  A value at a key, of the model.
  Conditions: the values hold at most 10^9 values; the package variables of the library's reading of numbers hold what the program's text lays.
-/
namespace Go.Proofs.YtbgffmiffmmohaaGreatDoor.tree
open Go.ChangeShapes Go.WideShapes Go.ChangeAt Go.RowKit
set_option linter.unusedVariables false

theorem specMax' (a b : Int) (w : World) : Calls Tryz.prog 150 #[.int .i64 a, .int .i64 b] w fun e w' => e = .returned (.int .i64 (nums.mx a b)) ∧ w = w' := by
  by_cases h : a < b
  all_goals
    go_enter Tryz.func150, Tryz.ntmps150
    go_wp2
    go_ret
    exact ⟨nums.ret_int (by unfold nums.mx; split <;> omega), rfl⟩

/-- append of items, of none too. -/
theorem run_append_A {P : Program} (w : World) (base : Nat) (t ty e : TypeId) (i : TypeInfo) (z : Value) (size bytes : Nat) (ht : P.underlying t = some (.slice e)) (hi : P.info? e = some i) (hz : i.zero = some z)
    (hsize : i.size = size) (hby : i.bytes = bytes) (hzs : z.cells.size = size) (hsz : 0 < size) (v : Value) (n : Nat) (xs : List Value) (hown : w.ownsRow base e size v n xs)
    (A : Option Addr) (m c : Nat) (news : List Value) (hl : news.length = m * size) (hnews : ∀ j u, news[j]? = some u → ∃ a, A = some a ∧ w.cell? (a.add j) = some u) (h1 : ∀ u ∈ news, u.oneCell' = true)
    (h63 : n + m ≤ maxLen) (hbytes : (n + m) * bytes ≤ 140737488355328) (hbase : base ≤ w.heap.size) (hA : A = none → m = 0) :
    ∃ v' w', (Builtin.append_ #[t, t] ty #[v, .slice A m c]).run P w = .ok v' w' ∧ w'.ownsRow base e size v' (n + m) (xs ++ news) ∧ w.grownBy w' v.ownBlock ∧ (v' = .slice none 0 0 ↔ v = .slice none 0 0 ∧ m = 0) := by
  cases A with
  | some a =>
    exact run_append_own (P := P) w base t ty e i z size bytes ht hi hz hsize hby hzs hsz v n xs hown a m c news hl (fun j u hj => by
      obtain ⟨a', e, h⟩ := hnews j u hj
      obtain rfl := Option.some.inj e
      exact h) h1 h63 hbytes hbase
  | none =>
    have h0 := hA rfl
    subst h0
    have hn : news = [] := List.eq_nil_of_length_eq_zero (by rw [hl]; omega)
    subst hn
    refine ⟨v, w, ?_, by rw [List.append_nil]; exact hown, ⟨rfl, rfl, rfl, Nat.le_refl _, fun _ _ _ => rfl⟩, by simp⟩
    rcases hown.2 with ⟨rfl, rfl⟩ | ⟨g, cap, cur, rfl, -, -, hnc, -⟩
    · simp [Builtin.append_, run_underlying ht, sizeOf, typeInfo, hi, Builtin.lenOf, Builtin.firstCells]
    · simp [Builtin.append_, run_underlying ht, sizeOf, typeInfo, hi, Builtin.lenOf, Builtin.firstCells, storeCells, hnc]

set_option maxRecDepth 100000 in
set_option maxHeartbeats 3200000 in
theorem l6Set_g (t : Tr) (v : Value) (y : Ky) (u : Tr) (vu : Value) (w : World) (S : Nat → Prop) (h : TIn w S t v) (hu : TIn w S u vu) (hy : I64 y.num ∧ y.str.size ≤ maxLen) (hN : cnt t ≤ 1000000000) (hk4 : ∀ k n s x ks vs, t = .mk k n s x ks vs → k = 4) (hnumP : posV t y = -1 → y.text = false → y.num < 9223372036854775807) :
    Calls Tryz.prog 84 #[v, kyV y, vu] w (OutV w (setT t y u) (fun _ => True)) := by
  obtain ⟨k, n, s, x, ks, vs⟩ := t
  obtain rfl := hk4 _ _ _ _ _ _ rfl
  obtain ⟨ku, nu, su, xu, ksu, vsu⟩ := u
  obtain ⟨A, c, rfl, hk, hin⟩ := h.out
  obtain ⟨Au, cu, rfl, hku, hinu⟩ := hu.out
  have hcap := h.cap
  have FI := fun w h => findV_s (.mk 4 n s x ks vs) (vV 4 n s x A vs.length c) y w S h
  obtain ⟨L, HL⟩ : ∃ L, Hid (vs.length = L) := ⟨_, Lib.hid rfl⟩
  obtain ⟨Lu, HLu⟩ : ∃ L, Hid (vsu.length = L) := ⟨_, Lib.hid rfl⟩
  have hm3 : L ≤ 1000000000 := by have := cnts_len vs; rw [cnt_mk'] at hN; rw [← HL.out]; omega
  have hkl : Hid (ks.length = L) := Lib.hid (by rw [← HL.out]; exact hin.1)
  have hcc : Hid (L ≤ c) := Lib.hid (by rw [← HL.out]; exact hcap.1)
  rw [HL.out] at h FI
  rw [HLu.out] at hu
  have HT := Lib.hid h
  have HTu := Lib.hid hu
  obtain ⟨cs, hcl, hsrc, hone, hit⟩ := hin.cellsA
  rw [HL.out] at hcl hit
  have HAN : Hid (A = none → L = 0) := Lib.hid (fun e => by
    subst e
    rcases Nat.eq_zero_or_pos L with h0 | h0
    · exact h0
    · obtain ⟨_, _, C, hc, -⟩ := hin
      obtain ⟨a, ha, -⟩ := hc 0 (by rw [HL.out]; exact h0)
      cases ha)
  have HCL := Lib.hid hcl
  have HIT := Lib.hid hit
  have HF := Lib.hid FI
  have HK := Lib.hid hk
  have HY := Lib.hid hy
  obtain ⟨i0, hi, hz⟩ := ie_info
  -- the boxes, the copy of the items
  rw [HL.out, HLu.out]
  obtain ⟨yb, yn, ys⟩ := y
  simp only at hnumP
  obtain ⟨W, HW⟩ : ∃ W, Hid (W = (((w.alloc (.cells #[.int .i64 4, .int .i64 n, .string s, .int .i64 x, .slice A L c] IV)).alloc (.cells #[.bool yb, .int .i64 yn, .string ys] IK)).alloc (.cells #[.int .i64 ku, .int .i64 nu, .string su, .int .i64 xu, .slice Au Lu cu] IV)).alloc (.cells #[.int .i64 0, .int .i64 0, .string ⟨#[]⟩, .int .i64 0, .slice none 0 0] IV)) := ⟨_, Lib.hid rfl⟩
  obtain ⟨a0, a1, a2, a3, az, ab⟩ := al4 w _ _ _ _ _ _ _ _ _ HW.out
  obtain ⟨V, HV⟩ : ∃ V, Hid (V = (W.alloc (.cells #[.int .i64 4, .int .i64 n, .string s, .int .i64 x, .slice A L c] IV)).alloc (.cells #[] IE)) := ⟨_, Lib.hid rfl⟩
  have kv : ∀ {q : Nat} {o : Obj}, W.heap[q]? = some o → V.heap[q]? = some o := fun {q o} hq => by rw [HV.out]; exact keepAlloc (keepAlloc hq)
  have hVs : V.heap.size = w.heap.size + 1 + 1 + 1 + 1 + 1 + 1 := by rw [HV.out]; simp [az]
  have a4 : V.heap[w.heap.size + 1 + 1 + 1 + 1]? = some (.cells #[.int .i64 4, .int .i64 n, .string s, .int .i64 x, .slice A L c] IV (0, 0)) := by
    have := heap_alloc_new W (.cells #[.int .i64 4, .int .i64 n, .string s, .int .i64 x, .slice A L c] IV)
    rw [az] at this
    rw [HV.out]
    exact keepAlloc this
  have hBV : Below w.heap.size w V := by rw [HV.out]; exact bs ab (bs (b1 W _) (b1 _ _))
  have own0 : V.ownsRow (w.heap.size + 1 + 1 + 1 + 1 + 1) IE 8 (.slice (some ⟨w.heap.size + 1 + 1 + 1 + 1 + 1, 0, none⟩) 0 0) 0 [] := by
    have h1 : (W.alloc (.cells #[.int .i64 4, .int .i64 n, .string s, .int .i64 x, .slice A L c] IV)).heap.size = w.heap.size + 1 + 1 + 1 + 1 + 1 := by simp [az]
    have := World.ownsRow_made (base := w.heap.size + 1 + 1 + 1 + 1 + 1) (e := IE) (size := 8) (W.alloc (.cells #[.int .i64 4, .int .i64 n, .string s, .int .i64 x, .slice A L c] IV)) #[] 0 (by rw [h1]; exact Nat.le_refl _) (Nat.zero_le _) rfl
    rw [h1] at this
    rw [HV.out]
    exact this
  obtain ⟨v5, W5, hr1, own1, gb1, hn1⟩ := run_append_A (P := Tryz.prog) V (w.heap.size + 1 + 1 + 1 + 1 + 1) 30 30 IE i0 _ 8 96 Tryz.underlying30 hi hz.1 hz.2.1 hz.2.2 rfl (by decide) _ 0 [] own0 A L c cs hcl
    (fun j v hv => by
      obtain ⟨a, e, h⟩ := hsrc j v hv
      exact ⟨a, e, cell_stays (fun hlt => hBV.block _ hlt) h⟩) hone (by unfold maxLen; omega) (by omega) (by omega) HAN.out
  rcases own1.2 with ⟨rfl, -⟩ | ⟨g5, c5, cur5, rfl, hb5, hg5, hnc5, hcm5, hcs5, htk5⟩
  · exact absurd (hn1.1 rfl).1 (by simp)
  rw [Nat.zero_add] at hr1 hnc5 htk5
  rw [List.nil_append] at htk5
  have k5 : ∀ {q : Nat} {o : Obj}, q < w.heap.size + 1 + 1 + 1 + 1 + 1 → V.heap[q]? = some o → W5.heap[q]? = some o := fun {q o} hlt hq => (gb1.block q (by omega) (fun e => by simp [Value.ownBlock] at e; omega)).trans hq
  have hB5 : Below w.heap.size w W5 := grown_below' hBV gb1 (by omega) (fun b e => by simp [Value.ownBlock] at e; omega)
  have A05 := k5 (by omega) (kv a0)
  have A15 := k5 (by omega) (kv a1)
  have A25 := k5 (by omega) (kv a2)
  have A35 := k5 (by omega) (kv a3)
  have A45 := k5 (by omega) a4
  obtain ⟨W6, HW6⟩ : ∃ W6, Hid (W6 = W5.setCell ⟨w.heap.size + 1 + 1 + 1 + 1, 4, none⟩ (.slice (some ⟨g5, 0, none⟩) L c5)) := ⟨_, Lib.hid rfl⟩
  have k6 : ∀ {q : Nat} {o : Obj}, q ≠ w.heap.size + 1 + 1 + 1 + 1 → W5.heap[q]? = some o → W6.heap[q]? = some o := fun {q o} hne hq => by rw [HW6.out, set_other hne]; exact hq
  have A06 := k6 (by omega) A05
  have A16 := k6 (by omega) A15
  have A26 := k6 (by omega) A25
  have A36 := k6 (by omega) A35
  have A46 : W6.heap[w.heap.size + 1 + 1 + 1 + 1]? = some (.cells #[.int .i64 4, .int .i64 n, .string s, .int .i64 x, .slice (some ⟨g5, 0, none⟩) L c5] IV (0, 0)) := by rw [HW6.out]; exact set_heap A45 4 _
  have AG6 : W6.heap[g5]? = some (.cells cur5 IE (0, 0)) := by rw [HW6.out, set_other (by omega)]; exact hg5
  have hB6 : Below w.heap.size w W6 := by rw [HW6.out]; exact hB5.setCell (show w.heap.size ≤ w.heap.size + 1 + 1 + 1 + 1 by omega) _
  obtain ⟨rm0, fm0⟩ := rowc (show V.heap[w.heap.size]? = _ from kv a0)
  obtain ⟨rm4, fm4⟩ := rowc A45
  obtain ⟨r06, f06⟩ := rowc A06
  obtain ⟨r16, f16⟩ := rowc A16
  rw [HV.out] at hr1 rm0 fm0
  rw [HW6.out] at r06 f06 r16 f16
  have hat5 : ∀ p, p < L * 8 → cur5[p]? = cs[p]? := fun p hp => by rw [← htk5, List.getElem?_take_of_lt hp, Array.getElem?_toList]
  have HAT := Lib.hid hat5
  have HG6 := Lib.hid AG6
  have HC5 := Lib.hid (And.intro hnc5 hcm5)
  have HCS5 := Lib.hid hcs5
  have HTK5 := Lib.hid htk5
  have HB6 := Lib.hid hB6
  have HLE := Lib.hid hb5
  have H26 := Lib.hid A26
  have H06 := Lib.hid A06
  have H16 := Lib.hid A16
  have H36 := Lib.hid A36
  have H46 := Lib.hid A46
  have HII := Lib.hid hi
  have HZZ := Lib.hid hz
  have HWa := Lib.hid az
  clear h hu hin hN hcap hk hy FI hcl hsrc hone hit hku hinu hi hz a0 a1 a2 a3 ab kv hVs a4 hBV own0 own1 gb1 hn1 hb5 hg5 hnc5 hcm5 hcs5 htk5 k5 k6 hB5 A05 A15 A25 A35 A45 A06 A16 A26 A36 A46 AG6 hB6 hat5
  rcases posV_cases 4 n s x ks vs ⟨yb, yn, ys⟩ with hp | ⟨i, hp, hi, -⟩
  · have hnum := hnumP hp
    clear hnumP
    rw [setT_none hp]
    rw [hp] at HF
    clear hp
    obtain ⟨X, HX⟩ : ∃ X, Hid (nxt x ⟨yb, yn, ys⟩ = X) := ⟨_, Lib.hid rfl⟩
    rw [HX.out]
    unfold kyV at HF ⊢
    go_enter Tryz.func84, Tryz.ntmps84
    rw [HW.out] at hr1 rm0 fm0
    unfold IE IV IK at hr1 rm0 fm0
    go_wp2_with (first
      | (at_builtin; refine wpList_append_eq (by rfl) _ _ _ (by rfl) (by with_reducible exact hr1) (by rfl) (by rfl) ?_)
      | fail)
    rw [← HW6.out]
    refine (HF.out _ (HT.out.below' HB6.out)).mono ?_
    rintro e w2 ⟨rfl, hb2⟩
    have hle := HLE.out
    have K26 := Lib.hid (carry hb2 H26.out)
    have K16 := Lib.hid (carry hb2 H16.out)
    have K36 := Lib.hid (carry hb2 H36.out)
    have K46 := Lib.hid (carry hb2 H46.out)
    have KG6 := Lib.hid (carry hb2 HG6.out)
    have KB6 := Lib.hid (bs HB6.out hb2)
    clear hb2 rm0 fm0 rm4 fm4 r06 f06 r16 f16 hr1
    obtain ⟨r1, f1⟩ := rowc K16.out
    obtain ⟨r2, f2⟩ := rowc K26.out
    obtain ⟨r3, f3⟩ := rowc K36.out
    obtain ⟨r4, f4⟩ := rowc K46.out
    have n2 : g5 ≠ w.heap.size + 1 + 1 := by omega
    have n3 : g5 ≠ w.heap.size + 1 + 1 + 1 := by omega
    have n4 : g5 ≠ w.heap.size + 1 + 1 + 1 + 1 := by omega
    have hc5 := HC5.out
    have hcl := HCL.out
    have g2s : w.heap.size + 1 + 1 + 1 + 1 < w2.heap.size := (Array.getElem?_eq_some_iff.1 K46.out).1
    have g5s : g5 < w2.heap.size := (Array.getElem?_eq_some_iff.1 KG6.out).1
    obtain ⟨V2, HV2⟩ : ∃ V, Hid (V = w2.alloc (.cells #[.bool yb, .int .i64 yn, .string ys, .int .i64 ku, .int .i64 nu, .string su, .int .i64 xu, .slice Au Lu cu] IE)) := ⟨_, Lib.hid rfl⟩
    have kv2 : ∀ {q : Nat} {o : Obj}, w2.heap[q]? = some o → V2.heap[q]? = some o := fun {q o} hq => by rw [HV2.out]; exact keepAlloc hq
    have hV2s : V2.heap.size = w2.heap.size + 1 := by rw [HV2.out]; simp
    have hBV2 : Below w.heap.size w V2 := by rw [HV2.out]; exact bs KB6.out (b1 w2 _)
    have own2 : V2.ownsRow (w.heap.size + 1 + 1 + 1 + 1 + 1) IE 8 (.slice (some ⟨g5, 0, none⟩) L c5) L cs := ⟨hcl, .inr ⟨g5, c5, cur5, rfl, hle, kv2 KG6.out, hc5.1, hc5.2, HCS5.out, HTK5.out⟩⟩
    obtain ⟨v7, W7, hr2, own3, gb2, hn2⟩ := run_append_own (P := Tryz.prog) V2 (w.heap.size + 1 + 1 + 1 + 1 + 1) 30 30 IE i0 _ 8 96 Tryz.underlying30 HII.out HZZ.out.1 HZZ.out.2.1 HZZ.out.2.2 rfl (by decide) _ L cs own2 ⟨w2.heap.size, 0, none⟩ 1 1 [.bool yb, .int .i64 yn, .string ys, .int .i64 ku, .int .i64 nu, .string su, .int .i64 xu, .slice Au Lu cu] rfl
      (by rw [HV2.out]; exact eight_new _ _ _ _ _ _ _ _ _ _) (eight_one _ _ _ _ _ _ _ _ _ _) (by unfold maxLen; omega) (by omega) (by omega)
    rcases own3.2 with ⟨rfl, h0⟩ | ⟨g7, c7, cur7, rfl, hb7, hg7, hnc7, hcm7, hcs7, htk7⟩
    · exact absurd h0 (by omega)
    have k7 : ∀ {q : Nat} {o : Obj}, q < w.heap.size + 1 + 1 + 1 + 1 + 1 → w2.heap[q]? = some o → W7.heap[q]? = some o := fun {q o} hlt hq => (gb2.block q (by omega) (fun e => by simp [Value.ownBlock] at e; omega)).trans (kv2 hq)
    have hB7 : Below w.heap.size w W7 := grown_below' hBV2 gb2 (by omega) (fun b e => by simp [Value.ownBlock] at e; omega)
    have A17 := k7 (by omega) K16.out
    have A37 := k7 (by omega) K36.out
    have A47 := k7 (by omega) K46.out
    obtain ⟨W8, HW8⟩ : ∃ W, Hid (W = W7.setCell ⟨w.heap.size + 1 + 1 + 1 + 1, 4, none⟩ (.slice (some ⟨g7, 0, none⟩) (L + 1) c7)) := ⟨_, Lib.hid rfl⟩
    have A48 : W8.heap[w.heap.size + 1 + 1 + 1 + 1]? = some (.cells #[.int .i64 4, .int .i64 n, .string s, .int .i64 x, .slice (some ⟨g7, 0, none⟩) (L + 1) c7] IV (0, 0)) := by rw [HW8.out]; exact set_heap A47 4 _
    have k8 : ∀ {q : Nat} {o : Obj}, q ≠ w.heap.size + 1 + 1 + 1 + 1 → W7.heap[q]? = some o → W8.heap[q]? = some o := fun {q o} hne hq => by rw [HW8.out, set_other hne]; exact hq
    have A18 := k8 (by omega) A17
    have A38 := k8 (by omega) A37
    have AG8 := k8 (by omega) hg7
    have hB8 : Below w.heap.size w W8 := by rw [HW8.out]; exact hB7.setCell (show w.heap.size ≤ w.heap.size + 1 + 1 + 1 + 1 by omega) _
    have hat7 : ∀ p, p < (L + 1) * 8 → cur7[p]? = (cs ++ [.bool yb, .int .i64 yn, .string ys, .int .i64 ku, .int .i64 nu, .string su, .int .i64 xu, .slice Au Lu cu])[p]? := fun p hp => by
      rw [← htk7, List.getElem?_take_of_lt (by omega), Array.getElem?_toList]
    have hin8 : ∀ (WE : World), WE.heap[g7]? = some (.cells cur7 IE (0, 0)) → Below w.heap.size w WE → IsIn WE (fun b => b ≠ w.heap.size + 1 + 1 + 1) (ks ++ [⟨yb, yn, ys⟩]) (vs ++ [.mk ku nu su xu ksu vsu]) (some ⟨g7, 0, none⟩) := fun WE hg hBE => by
      have hsS : ∀ b, b < w.heap.size → b ≠ w.heap.size + 1 + 1 + 1 := fun b hb => by omega
      have hsB : ∀ b, b < w.heap.size → b < w.heap.size → WE.heap[b]? = w.heap[b]? := fun b _ hlt => hBE.block b hlt
      have hvl : (vs ++ [Tr.mk ku nu su xu ksu vsu]).length = L + 1 := by rw [List.length_append, HL.out]; rfl
      have uT := HTu.out.lt'
      refine isin_row hg (by omega) (by rw [hvl, List.length_append, hkl.out]; rfl) (by rw [hvl]; unfold maxLen; omega) fun j hj => ?_
      rw [hvl] at hj
      by_cases e : j = L
      · subst e
        refine ⟨⟨yb, yn, ys⟩, ku, nu, su, xu, ksu, vsu, Au, cu, by rw [List.getElem?_append_right (by rw [hkl.out]; omega), hkl.out]; simp, by rw [List.getElem?_append_right (by rw [HL.out]; omega), HL.out]; simp, HY.out, fun q hq => ?_, by rw [HLu.out]; exact uT.stays hsS hsB⟩
        rw [hat7 _ (by omega), List.getElem?_append_right (by omega), hcl, Nat.add_sub_cancel_left, HLu.out]
        match q, hq with
        | 0, _ => rfl
        | 1, _ => rfl
        | 2, _ => rfl
        | 3, _ => rfl
        | 4, _ => rfl
        | 5, _ => rfl
        | 6, _ => rfl
        | 7, _ => rfl
      · obtain ⟨y1, k1, n1, s1, x1, ks1, vs1, A1', c1', q1, q2, q3, -, q5, q6⟩ := HIT.out j (by omega)
        refine ⟨y1, k1, n1, s1, x1, ks1, vs1, A1', c1', by rw [List.getElem?_append_left (by rw [hkl.out]; omega)]; exact q1, by rw [List.getElem?_append_left (by rw [HL.out]; omega)]; exact q2, q3, fun q hq => ?_, q6.lt'.stays hsS hsB⟩
        rw [hat7 _ (by omega), List.getElem?_append_left (by omega)]
        exact q5 q hq
    have hTE : ∀ (WE : World) (X : Int), I64 X → WE.heap[g7]? = some (.cells cur7 IE (0, 0)) → Below w.heap.size w WE → TIn WE (fun b => b ≠ w.heap.size + 1 + 1 + 1) (.mk 4 n s X (ks ++ [⟨yb, yn, ys⟩]) (vs ++ [.mk ku nu su xu ksu vsu])) (vV 4 n s X (some ⟨g7, 0, none⟩) (L + 1) c7) := fun WE X hX hg hBE => by
      have hvl : (vs ++ [Tr.mk ku nu su xu ksu vsu]).length = L + 1 := by rw [List.length_append, HL.out]; rfl
      have := TIn.of (k := 4) (n := n) (x := X) (s := s) c7 ⟨HK.out.1, HK.out.2.1, hX, HK.out.2.2.2⟩ (hin8 WE hg hBE) (by rw [hvl]; exact ⟨hnc7, hcm7⟩)
      rw [hvl] at this
      exact this
    obtain ⟨r17, f17⟩ := rowc A17
    obtain ⟨r47, f47⟩ := rowc A47
    obtain ⟨r18, f18⟩ := rowc A18
    obtain ⟨r38, f38⟩ := rowc A38
    obtain ⟨r48, f48⟩ := rowc A48
    rw [HW8.out] at r18 f18 r38 f38 r48 f48
    rw [HV2.out] at hr2
    have HG8 := Lib.hid AG8
    have HA38 := Lib.hid A38
    have HB8 := Lib.hid hB8
    have HTE0 := Lib.hid hTE
    have HLE7 := Lib.hid hb7
    have KK := HK.out
    have h0 := (rowc (keepAlloc (o' := .cells #[.bool yb, .int .i64 yn, .string ys, .int .i64 ku, .int .i64 nu, .string su, .int .i64 xu, .slice Au Lu cu] IE) K46.out)).1
    clear hle hc5 hcl g2s g5s kv2 hV2s hBV2 own2 own3 gb2 hn2 hb7 hg7 hnc7 hcm7 hcs7 htk7 k7 hB7 A17 A37 A47 A48 k8 A18 A38 AG8 hB8 hat7 hin8 hTE h0
    unfold IE at hr2
    cases yb with
    | true =>
      have eN : x = X := HX.out
      subst eN
      clear hnum
      have HTE := Lib.hid (HTE0.out W8 x KK.2.2.1 HG8.out HB8.out)
      have ER3 := Lib.hid HA38.out
      have HBE := Lib.hid HB8.out
      go_wp2_with (first
        | (at_builtin; refine wpList_append_eq (by rfl) _ _ _ (by rfl) (by with_reducible exact hr2) (by rfl) (by rfl) ?_)
        | fail)
      rw [← HW8.out]
      generalize hwF : (((((W8.setCell ⟨w.heap.size + 1 + 1 + 1, 0, none⟩ (.int .i64 4)).setCell ⟨w.heap.size + 1 + 1 + 1, 1, none⟩ (.int .i64 n)).setCell ⟨w.heap.size + 1 + 1 + 1, 2, none⟩ (.string s)).setCell ⟨w.heap.size + 1 + 1 + 1, 3, none⟩ (.int .i64 x)).setCell ⟨w.heap.size + 1 + 1 + 1, 4, none⟩ (.slice (some ⟨g7, 0, none⟩) (L + 1) c7)) = wF
      obtain ⟨rF, oF, bF⟩ := fill5 ER3.out hwF
      refine bodyPost_ret (v := vV 4 n s x (some ⟨g7, 0, none⟩) (L + 1) c7) ?_ rfl ?_
      · simp [results, Tryz.results84, go_sem, rF]
      · exact ⟨_, rfl, HTE.out.stays (fun _ _ => trivial) (fun b hb _ => oF b hb), bF _ _ (by omega) HBE.out⟩
    | false =>
      have hyn := hnum rfl
      have hyl := HY.out.1
      unfold I64 at hyl
      try simp only at hyl
      have MX := specMax' x (yn + 1)
      rw [max_nxt x ⟨false, yn, ys⟩ rfl, HX.out] at MX
      have hwy : IntKind.i64.wrap (yn + 1) = yn + 1 := by rw [IntKind.wrap_i64]; omega
      have hX : I64 X := by
        have hx := KK.2.2.1
        rw [← HX.out]
        unfold nxt I64 at *
        simp only
        split
        · exact hx
        · split
          · omega
          · exact hx
      obtain ⟨WE, HWE⟩ : ∃ W, Hid (W = W8.setCell ⟨w.heap.size + 1 + 1 + 1 + 1, 3, none⟩ (.int .i64 X)) := ⟨_, Lib.hid rfl⟩
      have hle7 := HLE7.out
      have HBE : Hid (Below w.heap.size w WE) := Lib.hid (by rw [HWE.out]; exact HB8.out.setCell (show w.heap.size ≤ w.heap.size + 1 + 1 + 1 + 1 by omega) _)
      have HTE := Lib.hid (HTE0.out WE X hX (by rw [HWE.out, set_other (by omega)]; exact HG8.out) HBE.out)
      have ER3 : Hid (WE.heap[w.heap.size + 1 + 1 + 1]? = some (.cells #[.int .i64 0, .int .i64 0, .string ⟨#[]⟩, .int .i64 0, .slice none 0 0] IV (0, 0))) := Lib.hid (by rw [HWE.out, set_other (by omega)]; exact HA38.out)
      clear hnum hX hle7
      go_wp2_with (first
        | (at_builtin; refine wpList_append_eq (by rfl) _ _ _ (by rfl) (by with_reducible exact hr2) (by rfl) (by rfl) ?_)
        | fail)
      refine (MX _).mono ?_
      rintro e w9 ⟨rfl, rfl⟩
      go_wp2_with (fail)
      rw [← HW8.out, ← HWE.out]
      generalize hwF : (((((WE.setCell ⟨w.heap.size + 1 + 1 + 1, 0, none⟩ (.int .i64 4)).setCell ⟨w.heap.size + 1 + 1 + 1, 1, none⟩ (.int .i64 n)).setCell ⟨w.heap.size + 1 + 1 + 1, 2, none⟩ (.string s)).setCell ⟨w.heap.size + 1 + 1 + 1, 3, none⟩ (.int .i64 X)).setCell ⟨w.heap.size + 1 + 1 + 1, 4, none⟩ (.slice (some ⟨g7, 0, none⟩) (L + 1) c7)) = wF
      obtain ⟨rF, oF, bF⟩ := fill5 ER3.out hwF
      refine bodyPost_ret (v := vV 4 n s X (some ⟨g7, 0, none⟩) (L + 1) c7) ?_ rfl ?_
      · simp [results, Tryz.results84, go_sem, rF]
      · exact ⟨_, rfl, HTE.out.stays (fun _ _ => trivial) (fun b hb _ => oF b hb), bF _ _ (by omega) HBE.out⟩
  · clear hnumP
    rw [setT_some hp]
    rw [hp] at HF
    have hiL : i < L := by rw [← hkl.out]; exact hi
    clear hp hi
    unfold kyV at HF ⊢
    go_enter Tryz.func84, Tryz.ntmps84
    rw [HW.out] at hr1 rm0 fm0
    unfold IE IV IK at hr1 rm0 fm0
    go_wp2_with (first
      | (at_builtin; refine wpList_append_eq (by rfl) _ _ _ (by rfl) (by with_reducible exact hr1) (by rfl) (by rfl) ?_)
      | fail)
    rw [← HW6.out]
    refine (HF.out _ (HT.out.below' HB6.out)).mono ?_
    rintro e w2 ⟨rfl, hb2⟩
    have hle := HLE.out
    have K26 := Lib.hid (carry hb2 H26.out)
    have K16 := Lib.hid (carry hb2 H16.out)
    have K36 := Lib.hid (carry hb2 H36.out)
    have K46 := Lib.hid (carry hb2 H46.out)
    have KG6 := Lib.hid (carry hb2 HG6.out)
    have KB6 := Lib.hid (bs HB6.out hb2)
    clear hb2 rm0 fm0 rm4 fm4 r06 f06 r16 f16 hr1
    obtain ⟨r1, f1⟩ := rowc K16.out
    obtain ⟨r2, f2⟩ := rowc K26.out
    obtain ⟨r3, f3⟩ := rowc K36.out
    obtain ⟨r4, f4⟩ := rowc K46.out
    have n2 : g5 ≠ w.heap.size + 1 + 1 := by omega
    have n3 : g5 ≠ w.heap.size + 1 + 1 + 1 := by omega
    have n4 : g5 ≠ w.heap.size + 1 + 1 + 1 + 1 := by omega
    obtain ⟨rg, fg⟩ := rowc KG6.out
    have hc5 := HC5.out
    have zg : ∀ q, q < 5 → ∃ u, w2.cell? ⟨g5, i * 8 + 3 + q, none⟩ = some u := fun q hq => ⟨_, (rg _).trans (Array.getElem?_eq_getElem (by rw [HCS5.out]; omega))⟩
    obtain ⟨z3, hz3⟩ := zg 0 (by omega)
    obtain ⟨z4, hz4⟩ := zg 1 (by omega)
    obtain ⟨z5, hz5⟩ := zg 2 (by omega)
    obtain ⟨z6, hz6⟩ := zg 3 (by omega)
    obtain ⟨z7, hz7⟩ := zg 4 (by omega)
    rw [Nat.add_zero] at hz3
    clear rg zg
    obtain ⟨WE, HWE⟩ : ∃ W3, Hid (W3 = ((((w2.setCell ⟨g5, i * 8 + 3, none⟩ (.int .i64 ku)).setCell ⟨g5, i * 8 + 3 + 1, none⟩ (.int .i64 nu)).setCell ⟨g5, i * 8 + 3 + 2, none⟩ (.string su)).setCell ⟨g5, i * 8 + 3 + 3, none⟩ (.int .i64 xu)).setCell ⟨g5, i * 8 + 3 + 4, none⟩ (.slice Au Lu cu)) := ⟨_, Lib.hid rfl⟩
    obtain ⟨AGE, oE, bE⟩ := put5_heap KG6.out HWE.out.symm
    have ER3 := Lib.hid ((oE _ (by omega)).trans K36.out)
    have HBE := Lib.hid (bE _ _ (by omega) KB6.out)
    have HTE : Hid (TIn WE (fun b => b ≠ w.heap.size + 1 + 1 + 1) (.mk 4 n s x ks (vs.set i (.mk ku nu su xu ksu vsu))) (vV 4 n s x (some ⟨g5, 0, none⟩) L c5)) := Lib.hid (by
      have hBE := HBE.out
      have hat := HAT.out
      have hsS : ∀ b, b < w.heap.size → b ≠ w.heap.size + 1 + 1 + 1 := fun b hb => by omega
      have hsB : ∀ b, b < w.heap.size → b < w.heap.size → WE.heap[b]? = w.heap[b]? := fun b _ hlt => hBE.block b hlt
      obtain ⟨y0, k0, n0, s0, x0, ks0, vs0, A0', c0', g1, g2, g3, -, g5', -⟩ := HIT.out i hiL
      have uT := HTu.out.lt'
      have hin4 := isin_put (w := WE) (S := fun b => b ≠ w.heap.size + 1 + 1 + 1) (g := g5) (i := i) (arr := cur5) (ks := ks) (vs := vs.set i (.mk ku nu su xu ksu vsu)) (y := y0) (k := ku) (n := nu) (x := xu) (s := su) (ks' := ksu) (vs' := vsu) (A := Au) (c := cu)
        (by rw [HLu.out]; exact AGE) n3 (by rw [List.length_set, hkl.out, HL.out]) (by rw [List.length_set, HL.out]; omega) (by rw [List.length_set, HL.out, HCS5.out]; omega) (by rw [List.length_set, HL.out]; exact hiL)
        g1 (by rw [List.getElem?_set_self (by rw [HL.out]; exact hiL)]) g3
        ((hat _ (by omega)).trans (g5' 0 (by omega))) ((hat _ (by omega)).trans (g5' 1 (by omega))) ((hat _ (by omega)).trans (g5' 2 (by omega)))
        (by rw [HLu.out]; exact uT.stays hsS hsB)
        (fun j hj hne => by
          rw [List.length_set, HL.out] at hj
          obtain ⟨y1, k1, n1, s1, x1, ks1, vs1, A1', c1', q1, q2, q3, -, q5, q6⟩ := HIT.out j hj
          exact ⟨y1, k1, n1, s1, x1, ks1, vs1, A1', c1', q1, by rw [List.getElem?_set_ne (fun e => hne e.symm)]; exact q2, q3, fun q hq => (hat _ (by omega)).trans (q5 q hq), q6.lt'.stays hsS hsB⟩)
      have := TIn.of c5 HK.out hin4 (by rw [List.length_set, HL.out]; exact hc5)
      rw [List.length_set, HL.out] at this
      exact this)
    clear AGE oE bE hle
    go_wp2_with (fail)
    rw [← HWE.out]
    generalize hwF : (((((WE.setCell ⟨w.heap.size + 1 + 1 + 1, 0, none⟩ (.int .i64 4)).setCell ⟨w.heap.size + 1 + 1 + 1, 1, none⟩ (.int .i64 n)).setCell ⟨w.heap.size + 1 + 1 + 1, 2, none⟩ (.string s)).setCell ⟨w.heap.size + 1 + 1 + 1, 3, none⟩ (.int .i64 x)).setCell ⟨w.heap.size + 1 + 1 + 1, 4, none⟩ (.slice (some ⟨g5, 0, none⟩) L c5)) = wF
    obtain ⟨rF, oF, bF⟩ := fill5 ER3.out hwF
    refine bodyPost_ret (v := vV 4 n s x (some ⟨g5, 0, none⟩) L c5) ?_ rfl ?_
    · simp [results, Tryz.results84, go_sem, rF]
    · exact ⟨_, rfl, HTE.out.stays (fun _ _ => trivial) (fun b hb _ => oF b hb), bF _ _ (by omega) HBE.out⟩
theorem l6Set_s (t : Tr) (v : Value) (y : Ky) (u : Tr) (vu : Value) (w : World) (S : Nat → Prop) (h : TIn w S t v) (hu : TIn w S u vu) (hy : I64 y.num ∧ y.str.size ≤ maxLen) (hN : cnt t ≤ 1000000000) (hk4 : ∀ k n s x ks vs, t = .mk k n s x ks vs → k = 4) (hnum : y.text = false → y.num < 9223372036854775807) :
    Calls Tryz.prog 84 #[v, kyV y, vu] w (OutV w (setT t y u) (fun _ => True)) :=
  l6Set_g t v y u vu w S h hu hy hN hk4 (fun _ => hnum)

end Go.Proofs.YtbgffmiffmmohaaGreatDoor.tree

/-
  The answer of a call, a value and an error, in a variable of its own, whenever a region that draws its order makes that variable.
  Conditions: those that each theorem names.
-/
namespace Go.Proofs.YtbgffmiffmmohaaGreatDoor.tree
open Go.ChangeShapes Go.WideShapes Go.ChangeAt Go.RowKit
set_option linter.unusedVariables false

/-- The model's answer in a box. -/
def CutMC (w1 : World) (bb : Int) (K N : Int) (Z : ByteArray) (X : Int) (RL : Nat) (RT : Tr) (p f : Value) (wx : World) : Prop :=
  ∃ B A c, p = .pointer (some ⟨B, 0, none⟩) ∧ f = .int .i64 bb ∧ Below w1.heap.size w1 wx ∧ w1.heap.size ≤ B ∧ wx.heap[B]? = some (.cells #[.int .i64 K, .int .i64 N, .string Z, .int .i64 X, .slice A RL c] IV (0, 0)) ∧ TIn wx (fun b => b ≠ B) RT (vV K N Z X A RL c)
/-- The project's answer in a box. -/
def CutPC (w1 : World) (bb : Int) (K N : Int) (Z : ByteArray) (X : Int) (RL : Nat) (RT : Tr) (p f : Value) (wx : World) : Prop :=
  ∃ B A c par r, p = .pointer (some ⟨B, 0, none⟩) ∧ f = .int .i64 bb ∧ Below w1.heap.size w1 wx ∧ w1.heap.size ≤ B ∧ wx.heap[B]? = some (.cells #[.int .i64 K, .int .i64 N, .string Z, .int .i64 X, .slice A RL c] IV (0, 0)) ∧ TPar wx par (r, 0) RT (vV K N Z X A RL c) ∧ w1.heap.size ≤ r ∧ ∃ hi, (∀ b, Hang par (r, 0) b → Rg (r + 1) hi b) ∧ hi ≤ wx.heap.size ∧ (B ≤ r ∨ hi ≤ B)

section
variable {w1 n wF : World} {bb : Int} {K N X : Int} {Z : ByteArray} {RL c B : Nat} {RT : Tr} {A : Option Addr} {S : Nat → Prop}
theorem cutMC_early (hw : Below w1.heap.size w1 n) (hB : w1.heap.size ≤ B) (ez : n.heap[B]? = some (.cells #[.int .i64 0, .int .i64 0, .string ⟨#[]⟩, .int .i64 0, .slice none 0 0] IV (0, 0))) (hv : TIn n S RT (vV K N Z X A RL c)) (hS : ∀ q, S q → q ≠ B)
    (hF : (((((n.setCell ⟨B, 0, none⟩ (.int .i64 K)).setCell ⟨B, 1, none⟩ (.int .i64 N)).setCell ⟨B, 2, none⟩ (.string Z)).setCell ⟨B, 3, none⟩ (.int .i64 X)).setCell ⟨B, 4, none⟩ (.slice A RL c)) = wF) :
    CutMC w1 bb K N Z X RL RT (.pointer (some ⟨B, 0, none⟩)) (.int .i64 bb) wF := by
  obtain ⟨-, oF, bF⟩ := fill5 ez hF
  have eF : wF.heap[B]? = some (.cells #[.int .i64 K, .int .i64 N, .string Z, .int .i64 X, .slice A RL c] IV (0, 0)) := by
    rw [← hF]
    have := set_heap (set_heap (set_heap (set_heap (set_heap ez 0 (.int .i64 K)) 1 (.int .i64 N)) 2 (.string Z)) 3 (.int .i64 X)) 4 (.slice A RL c)
    simpa using this
  exact ⟨B, A, c, rfl, rfl, bF _ _ hB hw, hB, eF, hv.stays hS fun b hb _ => oF b (hS b hb)⟩
theorem cutMC_last (hw : Below w1.heap.size w1 n) (hv : TIn n S RT (vV K N Z X A RL c))
    (hF : ((((((n.alloc (.cells #[.int .i64 0, .int .i64 0, .string ⟨#[]⟩, .int .i64 0, .slice none 0 0] IV)).setCell ⟨n.heap.size, 0, none⟩ (.int .i64 K)).setCell ⟨n.heap.size, 1, none⟩ (.int .i64 N)).setCell ⟨n.heap.size, 2, none⟩ (.string Z)).setCell ⟨n.heap.size, 3, none⟩ (.int .i64 X)).setCell ⟨n.heap.size, 4, none⟩ (.slice A RL c)) = wF) :
    CutMC w1 bb K N Z X RL RT (.pointer (some ⟨n.heap.size, 0, none⟩)) (.int .i64 bb) wF := by
  refine cutMC_early (S := fun b => b < n.heap.size) (bs hw (b1 n _)) hw.size (heap_alloc_new n _) (hv.lt'.below' (b1 n _)) (fun q hq e => ?_) hF
  have hq' : q < n.heap.size := hq
  omega
theorem cutPC_early {par : Nat → Nat × Nat} {r : Nat} (hw : Below w1.heap.size w1 n) (hB : w1.heap.size ≤ B) (ez : n.heap[B]? = some (.cells #[.int .i64 0, .int .i64 0, .string ⟨#[]⟩, .int .i64 0, .slice none 0 0] IV (0, 0))) (hv : TPar n par (r, 0) RT (vV K N Z X A RL c)) (hr : B ≤ r)
    (hF : (((((n.setCell ⟨B, 0, none⟩ (.int .i64 K)).setCell ⟨B, 1, none⟩ (.int .i64 N)).setCell ⟨B, 2, none⟩ (.string Z)).setCell ⟨B, 3, none⟩ (.int .i64 X)).setCell ⟨B, 4, none⟩ (.slice A RL c)) = wF) :
    CutPC w1 bb K N Z X RL RT (.pointer (some ⟨B, 0, none⟩)) (.int .i64 bb) wF := by
  obtain ⟨-, oF, bF⟩ := fill5 ez hF
  have eF : wF.heap[B]? = some (.cells #[.int .i64 K, .int .i64 N, .string Z, .int .i64 X, .slice A RL c] IV (0, 0)) := by
    rw [← hF]
    have := set_heap (set_heap (set_heap (set_heap (set_heap ez 0 (.int .i64 K)) 1 (.int .i64 N)) 2 (.string Z)) 3 (.int .i64 X)) 4 (.slice A RL c)
    simpa using this
  obtain ⟨p2, h2, h3⟩ := hv.tight
  have hz : wF.heap.size = n.heap.size := by rw [← hF]; simp []
  exact ⟨B, A, c, p2, r, rfl, rfl, bF _ _ hB hw, hB, eF, h2.above fun b hb _ => oF b (by simp at hb; omega), Nat.le_trans hB hr, n.heap.size, h3, by rw [hz]; exact Nat.le_refl _, .inl hr⟩
theorem cutPC_last {par : Nat → Nat × Nat} {r : Nat} (hw : Below w1.heap.size w1 n) (hv : TPar n par (r, 0) RT (vV K N Z X A RL c)) (hr : w1.heap.size ≤ r)
    (hF : ((((((n.alloc (.cells #[.int .i64 0, .int .i64 0, .string ⟨#[]⟩, .int .i64 0, .slice none 0 0] IV)).setCell ⟨n.heap.size, 0, none⟩ (.int .i64 K)).setCell ⟨n.heap.size, 1, none⟩ (.int .i64 N)).setCell ⟨n.heap.size, 2, none⟩ (.string Z)).setCell ⟨n.heap.size, 3, none⟩ (.int .i64 X)).setCell ⟨n.heap.size, 4, none⟩ (.slice A RL c)) = wF) :
    CutPC w1 bb K N Z X RL RT (.pointer (some ⟨n.heap.size, 0, none⟩)) (.int .i64 bb) wF := by
  obtain ⟨en, hbx, hz⟩ := newbox hF
  obtain ⟨p2, h2, h3⟩ := hv.tight
  exact ⟨n.heap.size, A, c, p2, r, rfl, rfl, bs hw hbx, hw.size, en, h2.above fun b _ hl => hbx.block b hl, hr, n.heap.size, h3, by omega, .inr (Nat.le_refl _)⟩
theorem cutMC_box (hw : Below w1.heap.size w1 n) (hv : TIn n S RT (vV K N Z X A RL c)) :
    CutMC w1 bb K N Z X RL RT (.pointer (some ⟨n.heap.size, 0, none⟩)) (.int .i64 bb) (n.alloc (.cells #[.int .i64 K, .int .i64 N, .string Z, .int .i64 X, .slice A RL c] IV)) := by
  refine ⟨n.heap.size, A, c, rfl, rfl, bs hw (b1 n _), hw.size, heap_alloc_new n _, ((hv.lt'.below' (b1 n _)).stays (fun q hq e => ?_) (fun _ _ _ => rfl))⟩
  have hq' : q < n.heap.size := hq
  omega
theorem cutPC_box {par : Nat → Nat × Nat} {r : Nat} (hw : Below w1.heap.size w1 n) (hv : TPar n par (r, 0) RT (vV K N Z X A RL c)) (hr : w1.heap.size ≤ r) :
    CutPC w1 bb K N Z X RL RT (.pointer (some ⟨n.heap.size, 0, none⟩)) (.int .i64 bb) (n.alloc (.cells #[.int .i64 K, .int .i64 N, .string Z, .int .i64 X, .slice A RL c] IV)) := by
  obtain ⟨p2, h2, h3⟩ := hv.tight
  exact ⟨n.heap.size, A, c, p2, r, rfl, rfl, bs hw (b1 n _), hw.size, heap_alloc_new n _, h2.above fun b _ hl => (b1 n _).block b hl, hr, n.heap.size, h3, (b1 n _).size, .inr (Nat.le_refl _)⟩
end

end Go.Proofs.YtbgffmiffmmohaaGreatDoor.tree

