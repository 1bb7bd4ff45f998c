/-
  ValuesOf of the project and of the model.
  Conditions: the value holds at most 2^20 and one items and 10^9 letters.
-/
import Derived.Test.YtlbkbcafkjgckaaVRow
import Derived.Test.YtlbkbcafkjgckaaCopyV
import Derived.Test.YtlbkbcafkjgckaaLawBox
import Derived.Test.YtlbkbcafkjgckaaCopyS
import Derived.Test.YtlbkbcafkjgckaaItemVals
namespace Go.Proofs.Ytlbkbcafkjgckaa.tree
open Go.ChangeShapes Go.WideShapes Go.ChangeAt Go.RowKit
set_option linter.unusedVariables false

theorem iv_info : ∃ i, Try.prog.info? IV = some i ∧ (i.zero = some (.agg #[.int .i64 0, .int .i64 0, .string ⟨#[]⟩, .int .i64 0, .slice none 0 0]) ∧ i.size = 5 ∧ i.bytes = 64) := by
  have : (Try.prog.info? IV).map (fun i => (i.zero, i.size, i.bytes)) = some (some (.agg #[.int .i64 0, .int .i64 0, .string ⟨#[]⟩, .int .i64 0, .slice none 0 0]), 5, 64) := by kernel_rfl
  cases hq : Try.prog.info? IV with
  | none => rw [hq] at this; cases this
  | some i => rw [hq] at this; simp at this; exact ⟨i, rfl, this⟩
theorem five_one (k m : Int) (z : ByteArray) (x : Int) (A : Option Addr) (L c : Nat) : ∀ u ∈ [Value.int .i64 k, .int .i64 m, .string z, .int .i64 x, .slice A L c], u.oneCell' = true := by simp [Value.oneCell']
theorem five_new (w : World) (c0 c1 c2 c3 c4 : Value) (t : TypeId) : ∀ j u, [c0, c1, c2, c3, c4][j]? = some u → (w.alloc (.cells #[c0, c1, c2, c3, c4] t)).cell? ((⟨w.heap.size, 0, none⟩ : Addr).add j) = some u := by
  intro j u hj
  rw [Addr.add_lit, Nat.zero_add, cell_of_row _ _ j _ t _ (heap_alloc_new w _)]
  simpa using hj
theorem Fr.grown {S : Nat → Prop} {w w' : World} {row : Option Nat} (g : w.grownBy w' row) (hr : ∀ b, row = some b → S b) : Fr S w w' := ⟨g.os, g.tape, g.output, g.size, fun b hb hn => g.block b hb (fun e => hn (hr b e.symm))⟩

theorem run_f4 (k n : Int) (s : ByteArray) (x : Int) (A : Option Addr) (L c : Nat) (W : World) : (Instr.field IV (vV k n s x A L c) 4).run Try.prog W = .ok (.slice A L c) W := by kernel_rfl
/-- The values of a value. -/
def valuesT : Tr → List Tr
  | .mk k _ _ _ _ vs => if k = 4 then vs else []
def VoQ (w : World) (vs : List Tr) (e : Ending) (w' : World) : Prop := ∃ v par h hi, e = .returned v ∧ VRow w' par h w.heap.size hi v vs ∧ hi ≤ w'.heap.size ∧ Below w.heap.size w w'
def VoS (w : World) (vs : List Tr) (e : Ending) (w' : World) : Prop := ∃ A c, e = .returned (.slice A vs.length c) ∧ VIn w' (fun b => b < w'.heap.size) vs A ∧ Below w.heap.size w w'

theorem VIn.lt' {w : World} {S : Nat → Prop} {vs : List Tr} {A : Option Addr} (h : VIn w S vs A) : VIn w (fun b => b < w.heap.size) vs A := fun i t ht => by
  obtain ⟨a, k, n, s, x, ks', vs', A', c', e, hSa, rfl, hT, hc⟩ := h i t ht
  refine ⟨a, k, n, s, x, ks', vs', A', c', e, ?_, rfl, hT.lt', hc⟩
  have := World.block_lt_of_cell? _ _ hc.c0
  rwa [mem.add_block] at this

set_option maxRecDepth 100000 in
set_option maxHeartbeats 1600000 in
theorem valuesOf_i (t : Tr) (v : Value) (w : World) (h : TIn w (Nw 0 w) t v) (hN : cnt t ≤ 1048578) (hT : tot t ≤ 1000000000) : Calls Try.prog 8 #[v] w (VoQ w (valuesT t)) := by
  obtain ⟨k, n, s, x, ks, vs⟩ := t
  obtain ⟨A, c, rfl, -, hin⟩ := h.out
  have CV := fun w' (h : TIn w' (Nw 0 w') _ (vV k n s x A vs.length c)) => copyValue (.mk k n s x ks vs) (vV k n s x A vs.length c) w' 0 h hN hT
  have hlen : vs.length ≤ 1048578 := by have := cnts_len vs; rw [cnt_mk'] at hN; omega
  have IVS := itemValues_i ks vs
  obtain ⟨L, HL⟩ : ∃ L, Hid (vs.length = L) := ⟨_, Lib.hid rfl⟩
  rw [HL.out] at h CV hlen IVS
  have HT := Lib.hid h
  have HCV := Lib.hid CV
  have HIV := Lib.hid IVS
  rw [HL.out]
  clear h hN hT hin CV IVS
  show Calls _ _ _ _ (VoQ w (if k = 4 then vs else []))
  by_cases h4 : k = 4
  · subst h4
    rw [if_pos rfl]
    go_enter Try.func8, Try.ntmps8
    go_wp2_with (fail)
    refine (HCV.out _ (HT.out.nwb (b1 w _))).mono ?_
    rintro e w1 ⟨u, par0, R, rfl, hu, hR, hb1⟩
    obtain ⟨par, hu2, hhg⟩ := hu.tight
    obtain ⟨A3, c3, rfl, -, -, -, hblk⟩ := hu2.out
    rw [HL.out] at hblk ⊢
    have HB1 := Lib.hid (bs (b1 w _) hb1)
    have HIV1 := Lib.hid (HIV.out A3 c3 w1 par R w.heap.size hlen (by have := hR; simp at this; omega) HB1.out.size hblk hhg)
    have hf4 := run_f4 4 n s x A3 L c3
    unfold IV at hf4
    clear hu hu2 hR hb1 hblk hhg
    go_wp2_with (fail)
    clear hf4
    refine HIV1.out.mono ?_
    rintro e w2 ⟨r, rfl, hvr, hb2⟩
    have HVR := Lib.hid hvr
    have HB2 := Lib.hid (bs HB1.out hb2)
    have hz := hb2.size
    clear hvr hb2
    go_wp2_with (fail)
    go_ret
    exact ⟨_, par, _, w1.heap.size, rfl, HVR.out, hz, HB2.out⟩
  · rw [if_neg h4]
    go_enter Try.func8, Try.ntmps8
    go_wp2_with (fail)
    go_ret
    exact ⟨_, fun _ => (0, 0), 0, 0, rfl, .inl ⟨_, 0, rfl, rfl, fun b hb => by simp [Value.ownBlock] at hb; subst hb; simp⟩, Nat.zero_le _, b2 _ _ _⟩

/-- Values that a call appends one by one. -/
def VOwn (w : World) (lo : Nat) (v : Value) (xs : List Value) (vs : List Tr) : Prop :=
  w.ownsRow lo IV 5 v vs.length xs ∧ ∀ i, i < vs.length → ∃ k n s x ks' vs' A c, vs[i]? = some (.mk k n s x ks' vs') ∧ (∀ q, q < 5 → xs[i * 5 + q]? = (#[.int .i64 k, .int .i64 n, .string s, .int .i64 x, .slice A vs'.length c] : Array Value)[q]?) ∧ TIn w (SX lo v) (.mk k n s x ks' vs') (vV k n s x A vs'.length c)
theorem VOwn.row {w : World} {lo : Nat} {v : Value} {xs : List Value} {vs : List Tr} (h : VOwn w lo v xs vs) : w.ownsRow lo IV 5 v vs.length xs := h.1
theorem VOwn.lt {w : World} {lo : Nat} {v : Value} {xs : List Value} {vs : List Tr} (h : VOwn w lo v xs vs) : ∀ b, v.ownBlock = some b → lo ≤ b ∧ b < w.heap.size := World.ownsRow.lt h.1
theorem VOwn.below {w w' : World} {lo : Nat} {v : Value} {xs : List Value} {vs : List Tr} (h : VOwn w lo v xs vs) (hb : Below w.heap.size w w') : VOwn w' lo v xs vs := by
  obtain ⟨h1, h2⟩ := h
  refine ⟨World.ownsRow.kept h1 (mem.none_of_below hb) ownBlock_keep, fun i hi => ?_⟩
  obtain ⟨k, n, s, x, ks', vs', A, c, a2, a4, a5⟩ := h2 i hi
  exact ⟨k, n, s, x, ks', vs', A, c, a2, a4, a5.below' hb⟩
theorem VOwn.more {w w' : World} {lo : Nat} {v : Value} {xs : List Value} {vs : List Tr} (h : VOwn w lo v xs vs) {k n x : Int} {s : ByteArray} {ks' : List Ky} {vs' : List Tr} {A : Option Addr} {c : Nat} (ht : TIn w (SX lo v) (.mk k n s x ks' vs') (vV k n s x A vs'.length c)) {v' : Value}
    (ho : w'.ownsRow lo IV 5 v' (vs.length + 1) (xs ++ [.int .i64 k, .int .i64 n, .string s, .int .i64 x, .slice A vs'.length c])) (hg : w.grownBy w' v.ownBlock) (hat : v'.ownBlock = v.ownBlock ∨ v'.ownBlock = some w.heap.size) :
    VOwn w' lo v' (xs ++ [.int .i64 k, .int .i64 n, .string s, .int .i64 x, .slice A vs'.length c]) (vs ++ [.mk k n s x ks' vs']) := by
  obtain ⟨h1, h3⟩ := h
  have hxl : xs.length = vs.length * 5 := h1.1
  have st : ∀ {t : Tr} {u : Value}, TIn w (SX lo v) t u → TIn w' (SX lo v') t u := fun {t u} h => by
    have h' : TIn w (fun b => SX lo v b ∧ b < w.heap.size) t u := by
      induction h with
      | mk k n s x ks vs A cap C hk hl hm hcap hc ht ih =>
        refine .mk k n s x ks vs A cap C hk hl hm hcap (fun i hi => ?_) ih
        obtain ⟨a, ha, hS, hky, hs, hj⟩ := hc i hi
        refine ⟨a, ha, ⟨hS, ?_⟩, hky, hs, hj⟩
        have := World.block_lt_of_cell? _ _ hky.1
        rwa [mem.add_block] at this
    exact h'.stays (fun b ⟨⟨hb1, hb2⟩, hb3⟩ => ⟨hb1, fun e => by
      rcases hat with h | h
      · exact hb2 (h ▸ e)
      · rw [h] at e; injection e with e; omega⟩) (fun b ⟨⟨hb1, hb2⟩, hb3⟩ hlt => hg.block b hlt (fun e => hb2 e.symm))
  refine ⟨by rw [List.length_append]; exact ho, fun i hi => ?_⟩
  rw [List.length_append] at hi
  simp only [List.length_cons, List.length_nil] at hi
  by_cases e : i = vs.length
  · subst e
    refine ⟨k, n, s, x, ks', vs', A, c, by rw [List.getElem?_append_right (by omega)]; simp, fun q hq => ?_, st ht⟩
    rw [List.getElem?_append_right (by omega), hxl, Nat.add_sub_cancel_left]
    match q, hq with
    | 0, _ => rfl
    | 1, _ => rfl
    | 2, _ => rfl
    | 3, _ => rfl
    | 4, _ => rfl
  · obtain ⟨k1, n1, s1, x1, ks1, vs1, A1, c1, a2, a4, a5⟩ := h3 i (by omega)
    refine ⟨k1, n1, s1, x1, ks1, vs1, A1, c1, by rw [List.getElem?_append_left (by omega)]; exact a2, fun q hq => ?_, st a5⟩
    rw [List.getElem?_append_left (by omega)]
    exact a4 q hq
theorem VOwn.out {w : World} {lo : Nat} {v : Value} {xs : List Value} {vs : List Tr} (h : VOwn w lo v xs vs) : ∃ A c, v = .slice A vs.length c ∧ VIn w (fun _ => True) vs A := by
  obtain ⟨h1, h3⟩ := h
  rcases h1.2 with ⟨rfl, h0⟩ | ⟨g, cap, cur, rfl, hlo, hg, hnc, hcm, hsz, htk⟩
  · rw [h0]
    exact ⟨none, 0, rfl, fun i t ht => by have := (List.getElem?_eq_some_iff.1 ht).1; omega⟩
  · refine ⟨some ⟨g, 0, none⟩, cap, rfl, fun i t ht => ?_⟩
    have hi := (List.getElem?_eq_some_iff.1 ht).1
    obtain ⟨k, n, s, x, ks', vs', A, c, a2, a4, a5⟩ := h3 i hi
    rw [ht] at a2
    obtain rfl := Option.some.inj a2
    have at_ : ∀ q, q < 5 → w.cell? ⟨g, i * 5 + q, none⟩ = (#[.int .i64 k, .int .i64 n, .string s, .int .i64 x, .slice A vs'.length c] : Array Value)[q]? := fun q hq => by
      rw [cell_of_row w g _ cur IV _ hg, ← a4 q hq, ← htk, List.getElem?_take_of_lt (by omega), Array.getElem?_toList]
    refine ⟨⟨g, 0, none⟩, k, n, s, x, ks', vs', A, c, rfl, trivial, rfl, a5.stays (fun _ _ => trivial) (fun _ _ _ => rfl), ?_⟩
    rw [Addr.add_lit, Nat.zero_add]
    exact ⟨at_ 0 (by omega), at_ 1 (by omega), at_ 2 (by omega), at_ 3 (by omega), at_ 4 (by omega)⟩

set_option maxRecDepth 100000 in
set_option maxHeartbeats 1600000 in
theorem valuesOf_s (t : Tr) (v : Value) (w : World) (S : Nat → Prop) (h : TIn w S t v) (hN : cnt t ≤ 1000000000) : Calls Try.prog 6 #[v] w (VoS w (valuesT t)) := by
  obtain ⟨k, n, s, x, ks, vs⟩ := t
  obtain ⟨A, c, rfl, -, hin⟩ := h.out
  obtain ⟨L, HL⟩ : ∃ L, Hid (L = vs.length) := ⟨_, Lib.hid rfl⟩
  rw [cnt_mk'] at hN
  have hm : L ≤ 1000000000 := by have := cnts_len vs; rw [HL.out]; omega
  have HI := Lib.hid hin
  have HN := Lib.hid hN
  rw [← HL.out]
  clear h hN hin
  have A0 : ∀ k, Hid (VOwn ((w.alloc (.cells #[.int .i64 k, .int .i64 n, .string s, .int .i64 x, .slice A L c] IV)).alloc (.cells #[] IV)) (w.heap.size + 1) (.slice (some ⟨w.heap.size + 1, 0, none⟩) 0 0) [] []) := fun k => Lib.hid (by
    have := (World.ownsRow_made (base := w.heap.size + 1) (e := IV) (size := 5) (w.alloc (.cells #[.int .i64 k, .int .i64 n, .string s, .int .i64 x, .slice A L c] IV)) #[] 0 (by simp) (Nat.zero_le _) rfl)
    rw [show (w.alloc (.cells #[.int .i64 k, .int .i64 n, .string s, .int .i64 x, .slice A L c] IV)).heap.size = w.heap.size + 1 by simp] at this
    exact ⟨this, fun i hi => absurd hi (by simp)⟩)
  show Calls _ _ _ _ (VoS w (if k = 4 then vs else []))
  by_cases h4 : k = 4
  · subst h4
    rw [if_pos rfl]
    obtain ⟨i0, hi, hz⟩ := iv_info
    have HII := Lib.hid hi
    have HZZ := Lib.hid hz
    clear hi hz
    go_enter Try.func6, Try.ntmps6
    go_wp2_with (fail)
    go_loopg [3, 4] (L + 1) (fun gk r i wr => ∃ (j : Nat) (xs : List Value), i = .int .i64 j ∧ gk + j = L + 1 ∧ j ≤ L ∧ Hid (VOwn wr (w.heap.size + 1) r xs (vs.take j)) ∧ Below w.heap.size w wr ∧ Hid (wr.heap[w.heap.size]? = some (.cells #[.int .i64 4, .int .i64 n, .string s, .int .i64 x, .slice A L c] IV (0, 0))))
    case atStart => exact ⟨0, [], rfl, by omega, by omega, A0 4, b2 _ _ _, Lib.hid (heap_alloc2_old w _ _)⟩
    case round =>
      obtain ⟨j, xs, rfl, hgj, hjL, HO, hb, HE⟩ := hrel
      have HB := Lib.hid hb
      clear hb
      obtain ⟨e0, -⟩ := rowc HE.out
      by_cases hlt : j < L
      · obtain ⟨a, y, k1, n1, s1, x1, ks1, vs1, A1, c1, rfl, hS, hky, hvs, ht, hyb, hkb, hin1, hcell⟩ := (HI.out.below HB.out).item (i := j) (by rw [← HL.out]; exact hlt)
        have hcl := cnts_lt hvs
        have CP := fun w' (h : TIn w' S _ (vV k1 n1 s1 x1 A1 vs1.length c1)) => l5Copy (.mk k1 n1 s1 x1 ks1 vs1) (by have := HN.out; omega) w' S _ h
        obtain ⟨L1, HL1⟩ : ∃ L1, Hid (L1 = vs1.length) := ⟨_, Lib.hid rfl⟩
        rw [← HL1.out] at hcell ht CP
        obtain ⟨-, -, -, p3, p4, p5, p6, p7⟩ := hcell
        have HVS := Lib.hid hvs
        have HTT := Lib.hid ht
        have HCP := Lib.hid CP
        have HLJ : Hid ((vs.take j).length = j) := Lib.hid (by rw [List.length_take, ← HL.out]; omega)
        clear hky hvs ht hyb hkb hin1 hS hcl CP
        go_wp2_with (fail)
        refine (HCP.out _ HTT.out).mono ?_
        rintro e w1 ⟨u, rfl, hu, hb1⟩
        obtain ⟨A2, c2, rfl, -, -⟩ := hu.out
        have HO1 := Lib.hid (HO.out.below hb1)
        have HU : Hid (TIn w1 (SX (w.heap.size + 1) u3) (.mk k1 n1 s1 x1 ks1 vs1) (vV k1 n1 s1 x1 A2 vs1.length c2)) := Lib.hid (hu.stays (fun b hb => by
          have hwr := (Array.getElem?_eq_some_iff.1 HE.out).1
          have hb' : wr.heap.size ≤ b := hb
          exact ⟨by omega, fun e => by have := (VOwn.lt HO.out b e).2; omega⟩) (fun _ _ _ => rfl))
        have HE1 := Lib.hid (carry hb1 HE.out)
        have HB1 := Lib.hid (bs HB.out hb1)
        rw [← HL1.out]
        clear hu hb1 p3 p4 p5 p6 p7 e0
        go_wp2_with (first
          | (at_builtin; refine wpList_append_own_at _ rfl _ _ 26 rfl (w.heap.size + 1) IV i0 _ 5 64 Try.underlying26 HII.out HZZ.out.1 HZZ.out.2.1 HZZ.out.2.2 rfl (by decide) _ (vs.take j).length xs rfl (World.ownsRow.alloc HO1.out.row _) ⟨w1.heap.size, 0, none⟩ 1 1 [.int .i64 k1, .int .i64 n1, .string s1, .int .i64 x1, .slice A2 L1 c2] rfl rfl (five_new _ _ _ _ _ _ _) (five_one _ _ _ _ _ _ _) (by rw [HLJ.out]; unfold maxLen; omega) (by rw [HLJ.out]; omega) (by have := (Array.getElem?_eq_some_iff.1 HE1.out).1; simp; omega) ?_
             intro v' w5 hown' hgrow' hnil hat'
             have HO5 := Lib.hid hown'
             have HG5 := Lib.hid hgrow'
             have HA5 := Lib.hid hat'
             clear hown' hgrow' hnil hat')
          | fail)
        go_roundg (L - j)
        case rel =>
          refine ⟨j + 1, xs ++ [.int .i64 k1, .int .i64 n1, .string s1, .int .i64 x1, .slice A2 vs1.length c2], by go_num, by omega, by omega, Lib.hid ?_, ?_, Lib.hid ?_⟩
          · have e : vs.take (j + 1) = vs.take j ++ [.mk k1 n1 s1 x1 ks1 vs1] := by rw [List.take_add_one, HVS.out]; rfl
            rw [e]
            have h5 := HO5.out
            rw [HL1.out] at h5
            exact (HO1.out.below (b1 w1 _)).more (HU.out.below' (b1 w1 _)) h5 HG5.out HA5.out
          · exact grown_below' (HB1.out.alloc HB1.out.size _) HG5.out (by have := HB1.out.size; simp; omega) (fun b hb => Nat.le_of_succ_le (VOwn.lt HO1.out b hb).1)
          · exact (HG5.out.block _ (by have := (Array.getElem?_eq_some_iff.1 HE1.out).1; simp; omega) (fun e => by have := (VOwn.lt HO1.out _ e.symm).1; omega)).trans (keepAlloc HE1.out)
        case measure => omega
      · obtain rfl : j = L := by omega
        have e : vs.take j = vs := by rw [HL.out, List.take_length]
        have HO3 := Lib.hid (e ▸ HO.out)
        clear e HO
        go_wp2_with (fail)
        go_ret
        obtain ⟨A9, c9, e9, h9⟩ := HO3.out.out
        exact ⟨A9, c9, by rw [e9]; rfl, h9.lt', HB.out⟩
  · rw [if_neg h4]
    go_enter Try.func6, Try.ntmps6
    go_wp2_with (fail)
    go_loopg [3, 4] 1 (fun gk r i wr => i = .int .i64 0 ∧ r = .slice (some ⟨w.heap.size + 1, 0, none⟩) 0 0 ∧ wr = ((w.alloc (.cells #[.int .i64 k, .int .i64 n, .string s, .int .i64 x, .slice A L c] IV)).alloc (.cells #[] IV)))
    case atStart => exact ⟨rfl, rfl, rfl⟩
    case round =>
      obtain ⟨rfl, rfl, rfl⟩ := hrel
      go_wp2_with (fail)
      go_ret
      exact ⟨_, 0, rfl, fun i t ht => by simp at ht, b2 _ _ _⟩

end Go.Proofs.Ytlbkbcafkjgckaa.tree
