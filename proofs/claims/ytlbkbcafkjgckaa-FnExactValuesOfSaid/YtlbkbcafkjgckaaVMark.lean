/-
  The laws' marks put into values in a row whose lists hang each apart.
  Conditions: those that each theorem names.
-/
import Derived.Test.YtlbkbcafkjgckaaVRow
namespace Go.Proofs.Ytlbkbcafkjgckaa.tree
open Go.ChangeShapes Go.WideShapes Go.ChangeAt Go.RowKit
set_option linter.unusedVariables false

theorem VMk.step {wr w3 : World} {par : Nat → Nat × Nat} {h lo hi g c j : Nat} {vs vs1 : List Tr} {m q : Int} {k1 n1 x1 : Int} {s1 : ByteArray} {ks1 : List Ky} {A1 : Option Addr} {c1 : Nat} (hv : VMk wr par h lo hi g c vs m j) (hjc : j < c) (ht : vs[j]? = some (.mk k1 n1 s1 x1 ks1 vs1))
    (hh : ∀ i, i < vs.length → ∀ b, Hang par (h, i) b → b ≠ g) (hq : q = m + 7 * cnts (vs.take j) - 3 * j) (hq0 : 1 ≤ q) (hq1 : q ≤ 1000000000000)
    (hg : ∀ cur, wr.heap[g]? = some (.cells cur IV (0, 0)) → cur[j * 5 + 4]? = some (.slice A1 vs1.length c1) ∧ w3.heap[g]? = some (.cells (set4 cur (j * 5) (.int .i64 q) (.int .i64 (q + 1)) (.string (mtx (q + 2))) (.int .i64 (q + 3))) IV (0, 0)))
    (ho : ∀ b, b ≠ g → b < wr.heap.size → ¬ Hang par (h, j) b → w3.heap[b]? = wr.heap[b]?)
    (htp : TPar w3 par (h, j) (.mk q (q + 1) (mtx (q + 2)) (q + 3) (mkK (q + 4) vs1) (mkV (q + 4) vs1)) (vV q (q + 1) (mtx (q + 2)) (q + 3) A1 vs1.length c1)) : VMk w3 par h lo hi g c vs m (j + 1) := by
  obtain ⟨cur, hg0, hs, hi'⟩ := hv.blk
  obtain ⟨hsl, hg3⟩ := hg cur hg0
  refine ⟨_, hg3, by rw [set4_size, hs], fun i t hit => ?_⟩
  have hil := (List.getElem?_eq_some_iff.1 hit).1
  have := hi' i t hit
  by_cases e : i = j
  · subst e
    rw [ht] at hit
    obtain rfl := Option.some.inj hit
    rw [if_pos (by omega), ← hq, mkT4]
    refine ⟨q, q + 1, mtx (q + 2), q + 3, mkK (q + 4) vs1, mkV (q + 4) vs1, A1, c1, rfl, fun p hp => ?_, by rw [mkV_len]; exact htp⟩
    rw [mkV_len]
    by_cases hp4 : p < 4
    · rw [set4_in _ _ _ _ _ _ (by omega) p hp4]
      match p, hp4 with
      | 0, _ => rfl
      | 1, _ => rfl
      | 2, _ => rfl
      | 3, _ => rfl
    · obtain rfl : p = 4 := by omega
      rw [set4_out _ _ _ _ _ _ _ (by omega), hsl]
      rfl
  · have kp : ∀ t', VPt wr par h lo hi g cur i t' → VPt w3 par h lo hi g (set4 cur (j * 5) (.int .i64 q) (.int .i64 (q + 1)) (.string (mtx (q + 2))) (.int .i64 (q + 3))) i t' := fun t' hp =>
      hp.keep (fun p hp5 => set4_out _ _ _ _ _ _ _ (by omega)) (fun b hb hl => ho b (hh i hil b hb) hl fun hb' => e (hb.disj hb'))
    by_cases hlt : i < j
    · rw [if_pos hlt] at this
      rw [if_pos (by omega)]
      exact kp _ this
    · rw [if_neg hlt] at this
      rw [if_neg (by omega)]
      exact kp _ this

def MvQ (w : World) (par : Nat → Nat × Nat) (h lo hi : Nat) (v : Value) (m W : Int) (vs : List Tr) (e : Ending) (w' : World) : Prop := e = .returned (.int .i64 W) ∧ VRow w' par h lo hi v (mkW m vs) ∧ Fr (fun b => v.ownBlock = some b ∨ Rg lo hi b) w w'

set_option maxRecDepth 100000 in
set_option maxHeartbeats 2000000 in
theorem markValueS (vs : List Tr) (m : Int) (hm0 : 1 ≤ m) (hm1 : m + 7 * cnts vs ≤ 100000000000) (hm : vs.length ≤ 1000000000) (w : World) (par : Nat → Nat × Nat) (h lo hi : Nat) (v : Value) (hv : VRow w par h lo hi v vs) :
    Calls Try.prog 12 #[v, .int .i64 m] w (MvQ w par h lo hi v m (m + 7 * cnts vs - 3 * vs.length) vs) := by
  rcases hv with ⟨A, c, rfl, rfl, hb⟩ | ⟨g, c, rfl, hb⟩
  · have e0 : m + 7 * (cnts [] : Int) - 3 * (([] : List Tr).length : Int) = m := by rw [cnts_nil]; simp
    rw [e0]
    have HB := Lib.hid hb
    clear hb
    go_enter Try.func12, Try.ntmps12
    go_wp2_with (fail)
    go_loopg [1, 5] 1 (fun gk l i wr => l = .int .i64 m ∧ i = .int .i64 0 ∧ gk = 1 ∧ w = wr)
    case atStart => exact ⟨rfl, rfl, rfl, rfl⟩
    case round =>
      obtain ⟨rfl, rfl, rfl, rfl⟩ := hrel
      go_wp2_with (fail)
      go_ret
      exact ⟨rfl, .inl ⟨A, c, rfl, rfl, HB.out⟩, Fr.refl _ _⟩
  · obtain ⟨L, HL⟩ : ∃ L, Hid (L = vs.length) := ⟨_, Lib.hid rfl⟩
    have HV := Lib.hid hb
    have HM1 := Lib.hid hm1
    have HMK : Hid (VMk w par h lo hi g c vs m 0) := Lib.hid (by
      obtain ⟨cur, hg, hs, hi'⟩ := hb.blk
      exact ⟨cur, hg, hs, fun i t ht => by rw [if_neg (by omega)]; exact hi' i t ht⟩)
    have HHG : Hid (∀ i, i < vs.length → ∀ b, Hang par (h, i) b → Rg lo hi b ∧ b ≠ g) := Lib.hid hb.hang
    have hLc : L ≤ c := by rw [HL.out]; exact hb.len.1
    obtain ⟨W, HW⟩ : ∃ W : Int, Hid (m + 7 * cnts vs - 3 * (L : Int) = W) := ⟨_, Lib.hid rfl⟩
    rw [← HL.out] at hm ⊢
    rw [HW.out]
    clear hm1 hb
    go_enter Try.func12, Try.ntmps12
    go_wp2_with (fail)
    go_loopg [1, 5] (L + 1) (fun gk l i wr => ∃ (j : Nat) (q : Int), i = .int .i64 j ∧ l = .int .i64 q ∧ gk + j = L + 1 ∧ j ≤ L ∧ 1 ≤ q ∧ q ≤ 100000000000 ∧ Hid (q = m + 7 * cnts (vs.take j) - 3 * j) ∧ Hid (VMk wr par h lo hi g c vs m j) ∧ Hid (Fr (fun b => b = g ∨ Rg lo hi b) w wr))
    case atStart => exact ⟨0, m, rfl, rfl, by omega, by omega, hm0, by have := HM1.out; omega, Lib.hid (by simp [cnts_nil]), HMK, Lib.hid (Fr.refl _ _)⟩
    case round =>
      obtain ⟨j, q, rfl, rfl, hgj, hjL, hq0, hq1, HQ, HK, HF⟩ := hrel
      by_cases hlt : j < L
      · obtain ⟨t, ht⟩ : ∃ t, vs[j]? = some t := ⟨_, List.getElem?_eq_getElem (by rw [← HL.out]; exact hlt)⟩
        obtain ⟨cur, hg1, hs1, hi1⟩ := HK.out.blk
        have hp := hi1 j t ht
        rw [if_neg (by omega)] at hp
        obtain ⟨k1, n1, s1, x1, ks1, vs1, A1, c1, rfl, hat, hT⟩ := hp
        have hcl := cnts_lt ht
        rw [cnt_mk'] at hcl
        have hjj : j ≤ cnts (vs.take j) := by
          have := cnts_len (vs.take j)
          rw [List.length_take] at this
          have h2 := HL.out
          omega
        have hq4 : q + 4 + 7 * cnts vs1 ≤ 100000000000 := by have h1 := HQ.out; have h2 := HM1.out; omega
        have MI := markItems (.mk k1 n1 s1 x1 ks1 vs1) k1 n1 s1 x1 ks1 vs1 rfl k1 n1 s1 x1 ks1 (q + 4) (by omega) hq4
        obtain ⟨Q, HQ2⟩ : ∃ Q : Int, Hid (q + 4 + 7 * cnts vs1 = Q) := ⟨_, Lib.hid rfl⟩
        obtain ⟨L1, HL1⟩ : ∃ L1, Hid (L1 = vs1.length) := ⟨_, Lib.hid rfl⟩
        rw [HQ2.out] at MI hq4
        have hQ0 : 1 ≤ Q := by rw [← HQ2.out]; omega
        have HQ3 : Hid (Q = m + 7 * cnts (vs.take (j + 1)) - 3 * ((j + 1 : Nat) : Int)) := Lib.hid (by rw [cnts_take ht, cnt_mk', ← HQ2.out, HQ.out]; push_cast; omega)
        have MT2 := markText (q + 2) (by omega) (by omega)
        have z2' := mtx_size (q + 2)
        obtain ⟨u2, HU2⟩ : ∃ u, Hid (mtx (q + 2) = u) := ⟨_, Lib.hid rfl⟩
        unfold MtQ at MT2
        rw [HU2.out] at MT2 z2'
        rw [show q + 2 = q + 1 + 1 by omega] at MT2
        obtain ⟨r, f⟩ := rowc hg1
        have p0 := (r _).trans (hat 0 (by omega))
        have p1 := (r _).trans (hat 1 (by omega))
        rw [Nat.add_zero] at p0
        simp only [List.getElem?_toArray, List.getElem?_cons_zero, List.getElem?_cons_succ] at p0 p1
        have HTT := Lib.hid hT
        have HAT := Lib.hid hat
        have HG1 := Lib.hid hg1
        have HMI := Lib.hid MI
        have HTJ := Lib.hid ht
        have hjl : Hid (j < vs.length) := Lib.hid (by rw [← HL.out]; exact hlt)
        clear r hs1 hi1 hat hT hg1 MI hcl hjj ht
        go_wp2_with (fail)
        refine (MT2 _).mono ?_
        rintro e w1 ⟨rfl, hb1⟩
        have hg2 := carry hb1 (set_heap (set_heap HG1.out (j * 5) (.int .i64 q)) (j * 5 + 1) (.int .i64 (q + 1)))
        obtain ⟨r, f1⟩ := rowc hg2
        have y : ∀ p, 2 ≤ p → p < 5 → w1.cell? ⟨g, j * 5 + p, none⟩ = (#[.int .i64 k1, .int .i64 n1, .string s1, .int .i64 x1, .slice A1 vs1.length c1] : Array Value)[p]? := fun p h2 h5 => by
          rw [r, Array.getElem?_setIfInBounds_ne (by omega), Array.getElem?_setIfInBounds_ne (by omega)]
          exact HAT.out p h5
        have p2 := y 2 (by omega) (by omega)
        have p3 := y 3 (by omega) (by omega)
        have p4 := y 4 (by omega) (by omega)
        rw [← HL1.out] at p4
        simp only [List.getElem?_toArray, List.getElem?_cons_zero, List.getElem?_cons_succ] at p2 p3 p4
        obtain ⟨w2, HW2⟩ : ∃ w2, Hid (w2 = (w1.setCell ⟨g, j * 5 + 2, none⟩ (.string u2)).setCell ⟨g, j * 5 + 3, none⟩ (.int .i64 (q + 1 + 1 + 1))) := ⟨_, Lib.hid rfl⟩
        have hg3 : w2.heap[g]? = some (.cells (set4 cur (j * 5) (.int .i64 q) (.int .i64 (q + 1)) (.string u2) (.int .i64 (q + 1 + 1 + 1))) IV (0, 0)) := by rw [HW2.out]; exact set_heap (set_heap hg2 (j * 5 + 2) _) (j * 5 + 3) _
        have ho2 : ∀ b, b ≠ g → b < wr.heap.size → w2.heap[b]? = wr.heap[b]? := fun b hb hl => by
          rw [HW2.out, set_other hb, set_other hb, hb1.block b (by rw [set_size, set_size]; exact hl), set_other hb, set_other hb]
        have hz2 : wr.heap.size ≤ w2.heap.size := by rw [HW2.out, set_size, set_size]; have := hb1.size; rwa [set_size, set_size] at this
        have F2 : Fr (fun b => b = g ∨ Rg lo hi b) wr w2 := by
          rw [HW2.out]
          exact (((Fr.set (w := wr) (S := fun b => b = g ∨ Rg lo hi b) (.inl rfl) _ _).trans (Fr.set (S := fun b => b = g ∨ Rg lo hi b) (.inl rfl) _ _)).trans ((Fr.of hb1).trans ((Fr.set (S := fun b => b = g ∨ Rg lo hi b) (.inl rfl) _ _).trans (Fr.set (S := fun b => b = g ∨ Rg lo hi b) (.inl rfl) _ _))))
        have hT2 := HTT.out.keep (w' := w2) fun b hb hl => ho2 b (HHG.out j hjl.out b hb).2 hl
        have M2 := HMI.out w2 par (h, j) A1 c1 hT2
        unfold MkQ at M2
        rw [← HL1.out, show q + 4 = q + 1 + 1 + 1 + 1 by omega] at M2
        have HG3 := Lib.hid hg3
        have HO2 := Lib.hid ho2
        have HZ2 := Lib.hid hz2
        have HF2 := Lib.hid F2
        clear r y hg2 hb1 hg3 ho2 hz2 F2 hT2 p0 p1
        go_wp2_with (fail)
        rw [← HW2.out]
        refine M2.mono ?_
        rintro e w3 ⟨rfl, ht3, hf3⟩
        have HT3 := Lib.hid ht3
        have HF3 := Lib.hid hf3
        clear ht3 hf3 M2 p2 p3 p4
        go_wp2_with (fail)
        go_roundg (L - j)
        case rel =>
          refine ⟨j + 1, Q, by go_num, rfl, by omega, by omega, hQ0, hq4, HQ3, Lib.hid (HK.out.step (q := q) (A1 := A1) (c1 := c1) (by omega) HTJ.out (fun i hi b hb => (HHG.out i hi b hb).2) HQ.out hq0 (by omega) (fun cur2 hcur2 => ?_) (fun b hb hl hn => ?_) ?_), Lib.hid ?_⟩
          · rw [HG1.out] at hcur2
            obtain rfl : cur = cur2 := by simpa using hcur2
            refine ⟨?_, ?_⟩
            · have := HAT.out 4 (by omega)
              simpa using this
            · have hgl : g < w2.heap.size := (Array.getElem?_eq_some_iff.1 HG3.out).1
              rw [HF3.out.block g hgl (fun hh => (HHG.out j hjl.out g hh).2 rfl), HG3.out, HU2.out, show q + 3 = q + 1 + 1 + 1 by omega]
          · exact (HF3.out.block b (Nat.lt_of_lt_of_le hl HZ2.out) hn).trans (HO2.out b hb hl)
          · have h3 := HT3.out
            rw [HL1.out, show q + 1 + 1 + 1 + 1 = q + 4 by omega] at h3
            have h4 := TPar.head (k' := q) (n' := q + 1) (s' := mtx (q + 2)) (x' := q + 3) (L := vs1.length) h3 ⟨by unfold I64; omega, by unfold I64; omega, by unfold I64; omega, by rw [HU2.out]; unfold maxLen; omega⟩
            exact h4
          · exact HF.out.trans (HF2.out.trans (HF3.out.mono fun b hb => .inr (HHG.out j hjl.out b hb).1))
        case measure => omega
      · obtain rfl : j = L := by omega
        have e : q = W := by rw [HQ.out, ← HW.out, HL.out, List.take_length]
        subst e
        go_wp2_with (fail)
        go_ret
        refine ⟨rfl, .inr ⟨g, c, by rw [mkW_len, HL.out], ⟨HV.out.lo_le, by rw [mkW_len]; exact HV.out.len, ?_, fun i hi b hb => HV.out.hang i (by rw [mkW_len] at hi; exact hi) b hb⟩⟩, HF.out.mono fun b hb => hb.imp (fun e => by rw [e]; rfl) id⟩
        obtain ⟨cur, hg1, hs1, hi1⟩ := HK.out.blk
        refine ⟨cur, hg1, hs1, fun i t ht => ?_⟩
        have hil := (List.getElem?_eq_some_iff.1 ht).1
        rw [mkW_len] at hil
        obtain ⟨t0, ht0⟩ : ∃ t0, vs[i]? = some t0 := ⟨_, List.getElem?_eq_getElem hil⟩
        have := hi1 i t0 ht0
        rw [if_pos (by rw [HL.out]; exact hil)] at this
        rw [mkW_get m vs i t0 ht0] at ht
        obtain rfl := Option.some.inj ht
        exact this

end Go.Proofs.Ytlbkbcafkjgckaa.tree
