/-
  The slots of an own table marked, with what they hold then.
  Conditions: those that each theorem names.
-/
import Derived.Test.YtdgfpfkhcojgaaaGreatDoorTBB6
import Derived.Test.YtdgfpfkhcojgaaaGreatDoorTBSCpW
import Derived.Test.YtdgfpfkhcojgaaaGreatDoorTBSMarks
namespace Go.Proofs.YtdgfpfkhcojgaaaGreatDoor.tree
open Go.ChangeShapes Go.WideShapes Go.ChangeAt Go.RowKit
set_option linter.unusedVariables false

def set9 (arr : Array Value) (o : Nat) (c0 c1 c2 c3 c4 c5 c6 c8 c9 : Value) : Array Value := ((set7 arr o c0 c1 c2 c3 c4 c5 c6).setIfInBounds (o + 8) c8).setIfInBounds (o + 9) c9
theorem set9_size (arr : Array Value) (o : Nat) (c0 c1 c2 c3 c4 c5 c6 c8 c9 : Value) : (set9 arr o c0 c1 c2 c3 c4 c5 c6 c8 c9).size = arr.size := by simp [set9, set7_size]
theorem set9_out (arr : Array Value) (o : Nat) (c0 c1 c2 c3 c4 c5 c6 c8 c9 : Value) (p : Nat) (h : p < o ∨ p = o + 7 ∨ o + 10 ≤ p) : (set9 arr o c0 c1 c2 c3 c4 c5 c6 c8 c9)[p]? = arr[p]? := by
  unfold set9
  rw [Array.getElem?_setIfInBounds_ne (by omega), Array.getElem?_setIfInBounds_ne (by omega), set7_out _ _ _ _ _ _ _ _ _ _ (by omega)]
theorem set9_low (arr : Array Value) (o : Nat) (c0 c1 c2 c3 c4 c5 c6 c8 c9 : Value) (h : o + 10 ≤ arr.size) (q : Nat) (hq : q < 7) : (set9 arr o c0 c1 c2 c3 c4 c5 c6 c8 c9)[o + q]? = (#[c0, c1, c2, c3, c4, c5, c6] : Array Value)[q]? := by
  unfold set9
  rw [Array.getElem?_setIfInBounds_ne (by omega), Array.getElem?_setIfInBounds_ne (by omega), set7_in _ _ _ _ _ _ _ _ _ (by omega) q hq]
theorem set9_top (arr : Array Value) (o : Nat) (c0 c1 c2 c3 c4 c5 c6 c8 c9 : Value) (h : o + 10 ≤ arr.size) : (set9 arr o c0 c1 c2 c3 c4 c5 c6 c8 c9)[o + 8]? = some c8 ∧ (set9 arr o c0 c1 c2 c3 c4 c5 c6 c8 c9)[o + 9]? = some c9 := by
  unfold set9
  have hs : (set7 arr o c0 c1 c2 c3 c4 c5 c6).size = arr.size := set7_size _ _ _ _ _ _ _ _ _
  refine ⟨?_, ?_⟩
  · rw [Array.getElem?_setIfInBounds_ne (by omega), Array.getElem?_setIfInBounds_self_of_lt (by omega)]
  · rw [Array.getElem?_setIfInBounds_self_of_lt (by simp; omega)]

theorem LaidP.mark {wr w4 : World} {par : Nat → Nat × Nat} {R g d M j : Nat} {m q : Int} {sl : List Sl} (h : LaidP wr par R g d M (mix (mkSls m sl) sl j)) (hM : sl.length = M) (hMd : M ≤ d) {yt : Ky} {bt : Bool} {lt : Int} {k1 n1 x1 : Int} {s1 : ByteArray} {ks1 : List Ky} {vs1 : List Tr} (ht : sl[j]? = some ⟨yt, .mk k1 n1 s1 x1 ks1 vs1, bt, lt⟩)
    (hq : q = m + cS (sl.take j)) (hq0 : 1 ≤ q) {Q : Int} (hQ : Q = q + 7 + 7 * cnts vs1) (hq1 : Q ≤ 1000000000000) {A1 : Option Addr} {c1 : Nat}
    (hg : ∀ arr, wr.heap[g]? = some (.cells arr IS (0, 0)) → arr[j * 10 + 7]? = some (.slice A1 vs1.length c1) ∧ w4.heap[g]? = some (.cells (set9 arr (j * 10) (.bool (decide (q % 3 = 0))) (.int .i64 (q + 1)) (.string (mtx (q + 2))) (.int .i64 (q + 3)) (.int .i64 (q + 4)) (.string (mtx (q + 5))) (.int .i64 (q + 6)) (.bool (decide (Q % 3 = 0))) (.int .i64 (Q + 1))) IS (0, 0)))
    (ho : ∀ b, R < b → b < wr.heap.size → ¬ Hang par (R, j) b → w4.heap[b]? = wr.heap[b]?)
    (htp : TPar w4 par (R, j) (.mk (q + 3) (q + 4) (mtx (q + 5)) (q + 6) (mkK (q + 7) vs1) (mkV (q + 7) vs1)) (vV (q + 3) (q + 4) (mtx (q + 5)) (q + 6) A1 vs1.length c1)) :
    LaidP w4 par R g d M (mix (mkSls m sl) sl (j + 1)) := by
  obtain ⟨hj, -⟩ := List.getElem?_eq_some_iff.1 ht
  obtain ⟨arr, ha, hs, hi⟩ := h
  obtain ⟨hsl, hg4⟩ := hg arr ha
  have hl1 : (mkSls m sl).length = sl.length := mkSls_len m sl
  refine ⟨_, hg4, by rw [set9_size]; exact hs, fun i t hit => ?_⟩
  have hb : j * 10 + 10 ≤ arr.size := by omega
  by_cases e : i = j
  · subst e
    have hv : (mix (mkSls m sl) sl (i + 1))[i]? = some (mkSl q ⟨yt, .mk k1 n1 s1 x1 ks1 vs1, bt, lt⟩) := by rw [mix_lt hl1 (by omega) (by omega), mkSls_get m sl i _ ht, hq]
    rw [hv] at hit
    obtain rfl := Option.some.inj hit
    have hc : q + 7 * (cnt (.mk k1 n1 s1 x1 ks1 vs1) : Int) = Q := by rw [cnt_mk', hQ]; push_cast; omega
    unfold mkSl
    simp only
    rw [hc, mkT_mk]
    obtain ⟨t8, t9⟩ := set9_top arr (i * 10) (.bool (decide (q % 3 = 0))) (.int .i64 (q + 1)) (.string (mtx (q + 2))) (.int .i64 (q + 3)) (.int .i64 (q + 4)) (.string (mtx (q + 5))) (.int .i64 (q + 6)) (.bool (decide (Q % 3 = 0))) (.int .i64 (Q + 1)) hb
    refine ⟨⟨by show I64 (q + 1); unfold I64; omega, by show (mtx (q + 2)).size ≤ maxLen; have := mtx_size (q + 2); unfold maxLen; omega⟩, by unfold I64; omega, t8, t9, fun _ => ⟨_, _, _, _, _, _, A1, c1, rfl, by rw [mkV_len]; exact htp, fun p hp => ?_⟩⟩
    by_cases hp7 : p < 7
    · rw [set9_low _ _ _ _ _ _ _ _ _ _ _ hb p hp7]
      match p, hp7 with
      | 0, _ => rfl
      | 1, _ => rfl
      | 2, _ => rfl
      | 3, _ => rfl
      | 4, _ => rfl
      | 5, _ => rfl
      | 6, _ => rfl
    · obtain rfl | rfl | rfl : p = 7 ∨ p = 8 ∨ p = 9 := by omega
      · rw [set9_out _ _ _ _ _ _ _ _ _ _ _ _ (by omega), hsl, mkV_len]
        rfl
      · exact t8
      · exact t9
  · have same : (mix (mkSls m sl) sl (j + 1))[i]? = (mix (mkSls m sl) sl j)[i]? := by
      by_cases hlt : i < j
      · rw [mix_lt hl1 (by omega) (by omega), mix_lt hl1 hlt (by omega)]
      · rw [mix_ge hl1 (by omega) (by omega), mix_ge hl1 (by omega) (by omega)]
    rw [same] at hit
    obtain ⟨h1, h2, h3, h4, h5⟩ := hi i t hit
    have out : ∀ p, p < 10 → (set9 arr (j * 10) (.bool (decide (q % 3 = 0))) (.int .i64 (q + 1)) (.string (mtx (q + 2))) (.int .i64 (q + 3)) (.int .i64 (q + 4)) (.string (mtx (q + 5))) (.int .i64 (q + 6)) (.bool (decide (Q % 3 = 0))) (.int .i64 (Q + 1)))[i * 10 + p]? = arr[i * 10 + p]? := fun p hp => set9_out _ _ _ _ _ _ _ _ _ _ _ _ (by omega)
    refine ⟨h1, h2, (out 8 (by omega)).trans h3, (out 9 (by omega)).trans h4, fun hlt => ?_⟩
    obtain ⟨k, n, s, x, ks, vs, A, c, hv, hT, hc⟩ := h5 hlt
    exact ⟨k, n, s, x, ks, vs, A, c, hv, hT.keep fun b hb hlt => ho b hb.gt hlt fun hh => e (hb.disj hh), fun p hp => (out p hp).trans (hc p hp)⟩

/-- The blocks of a table's slots and values. -/
def SlF (par : Nat → Nat × Nat) (R g : Nat) (b : Nat) : Prop := b = g ∨ ∃ i, Hang par (R, i) b

set_option maxHeartbeats 4000000 in
set_option maxRecDepth 100000 in
theorem markSlotsX (sl : List Sl) (m : Int) (hm0 : 1 ≤ m) (hm1 : m + cS sl ≤ 100000000000) (w : World) (par : Nat → Nat × Nat) (R g d M : Nat) (hM : sl.length = M) (hMd : M ≤ d ∧ d ≤ maxLen) (hgR : g ≤ R) (h : LaidP w par R g d M sl) :
    Calls Tryz.prog 84 #[.slice (some ⟨g, 0, none⟩) M d, .int .i64 m] w (fun e w' => e = .returned (.int .i64 (m + cS sl)) ∧ LaidP w' par R g d M (mkSls m sl) ∧ Fr (SlF par R g) w w') := by
  have hb0 : LaidP w par R g d M (mix (mkSls m sl) sl 0) := by rw [mix_zero]; exact h
  have HB0 := Lib.hid hb0
  have HML := Lib.hid hM
  have hm : M ≤ maxLen := by omega
  unfold maxLen at hm
  have HM1 := Lib.hid hm1
  have HMD := Lib.hid hMd
  have HGR := Lib.hid hgR
  obtain ⟨W, HW⟩ : ∃ W : Int, Hid (m + cS sl = W) := ⟨_, Lib.hid rfl⟩
  rw [HW.out]
  clear hm1 h hb0 hM hMd
  go_enter Tryz.func84, Tryz.ntmps84
  go_wp2_with (fail)
  go_loopg [1, 5] (M + 1) (fun gk l i wr => ∃ (j : Nat) (q : Int), i = .int .i64 j ∧ l = .int .i64 q ∧ gk + j = M + 1 ∧ j ≤ M ∧ 1 ≤ q ∧ q ≤ 100000000000 ∧ Hid (q = m + cS (sl.take j)) ∧ Hid (LaidP wr par R g d M (mix (mkSls m sl) sl j)) ∧ Hid (Fr (SlF par R g) w wr))
  case atStart => exact ⟨0, m, rfl, rfl, by omega, by omega, hm0, by have := HM1.out; omega, Lib.hid (by simp [cS]), HB0, Lib.hid (Fr.refl _ _)⟩
  case round =>
    obtain ⟨j, q, rfl, rfl, hgj, hjL, hq0, hq1, HQ, HBL, HFR⟩ := hrel
    by_cases hlt : j < M
    · obtain ⟨t, ht⟩ : ∃ t, sl[j]? = some t := ⟨_, List.getElem?_eq_getElem (by rw [HML.out]; exact hlt)⟩
      obtain ⟨arr, ha, hs, hi⟩ := HBL.out
      have hmx : (mix (mkSls m sl) sl j)[j]? = some t := by rw [mix_ge (mkSls_len m sl) (Nat.le_refl _) (by rw [mkSls_len, HML.out]; exact hjL), ht]
      obtain ⟨hyb, hlb, -, -, h5⟩ := hi j t hmx
      obtain ⟨k1, n1, s1, x1, ks1, vs1, A1, c1, hv, htp, hat⟩ := h5 hlt
      obtain ⟨yt, vt, bt, lt⟩ := t
      simp only at hv
      subst hv
      have hct := cS_take ht
      have hcle := cS_le sl (j + 1)
      simp only at hct htp hat
      rw [cnt_mk'] at hct
      have hq7 : q + 9 + 7 * cnts vs1 ≤ 100000000000 := by have h1 := HQ.out; have h2 := HM1.out; omega
      obtain ⟨Q, HQ2⟩ : ∃ Q : Int, Hid (q + 7 + 7 * cnts vs1 = Q) := ⟨_, Lib.hid rfl⟩
      obtain ⟨L1, HL1⟩ : ∃ L1, Hid (L1 = vs1.length) := ⟨_, Lib.hid rfl⟩
      have hq9 : Q + 2 ≤ 100000000000 := by rw [← HQ2.out]; omega
      have hQ0 : 1 ≤ Q := by rw [← HQ2.out]; omega
      have ihj : ∀ z, z = q + 7 → ∀ w', TPar w' par (R, j) (.mk (q + 3) (q + 4) (mtx (q + 5)) (q + 6) ks1 vs1) (vV (q + 3) (q + 4) (mtx (q + 5)) (q + 6) A1 vs1.length c1) → Calls Tryz.prog 85 #[.slice A1 L1 c1, .int .i64 z] w' (MkQ w' par (R, j) (.mk (q + 3) (q + 4) (mtx (q + 5)) (q + 6) (mkK (q + 7) vs1) (mkV (q + 7) vs1)) (vV (q + 3) (q + 4) (mtx (q + 5)) (q + 6) A1 vs1.length c1) Q) := fun z hz w' hw' => by
        subst hz
        have := markItems (.mk k1 n1 s1 x1 ks1 vs1) k1 n1 s1 x1 ks1 vs1 rfl (q + 3) (q + 4) (mtx (q + 5)) (q + 6) ks1 (q + 7) (by omega) (by omega) w' par (R, j) A1 c1 hw'
        rw [HQ2.out] at this
        rw [HL1.out]
        exact this
      have HQ3 : Hid (Q + 1 + 1 = m + cS (sl.take (j + 1))) := Lib.hid (by rw [hct, ← HQ2.out, HQ.out]; push_cast; omega)
      have MT2 := markText (q + 2) (by omega) (by omega)
      have MT5 := markText (q + 5) (by omega) (by omega)
      have z2 := mtx_size (q + 2)
      have z5 := mtx_size (q + 5)
      obtain ⟨u2, HU2⟩ : ∃ u, Hid (mtx (q + 2) = u) := ⟨_, Lib.hid rfl⟩
      obtain ⟨u5, HU5⟩ : ∃ u, Hid (mtx (q + 5) = u) := ⟨_, Lib.hid rfl⟩
      unfold MtQ at MT2 MT5
      rw [HU2.out] at MT2 z2
      rw [HU5.out] at MT5 z5
      rw [show q + 2 = q + 1 + 1 by omega] at MT2
      rw [show q + 5 = q + 1 + 1 + 1 + 1 + 1 by omega] at MT5
      have IHJ := Lib.hid ihj
      have HTP := Lib.hid htp
      obtain ⟨B, HBX⟩ : ∃ B, Hid (arr = B) := ⟨_, Lib.hid rfl⟩
      rw [HBX.out] at ha
      have hs2 : (j + 1) * 10 ≤ B.size := by rw [← HBX.out]; have := HMD.out.1; omega
      obtain ⟨r, f⟩ := rowc ha
      have hgl : g < wr.heap.size := (Array.getElem?_eq_some_iff.1 ha).1
      have z : ∀ q, q < 10 → ∃ u, wr.cell? ⟨g, j * 10 + q, none⟩ = some u := fun q hq => ⟨_, (r _).trans (Array.getElem?_eq_getElem (by omega))⟩
      obtain ⟨w0, y0⟩ := z 0 (by omega)
      obtain ⟨w1', y1⟩ := z 1 (by omega)
      rw [Nat.add_zero] at y0
      have HA2 := Lib.hid ha
      have HTT := Lib.hid ht
      have hB7 : B[j * 10 + 7]? = some (.slice A1 L1 c1) := by rw [← HBX.out, HL1.out]; exact hat 7 (by omega)
      have HB7 := Lib.hid hB7
      have HR : Hid (SlF par R g g) := Lib.hid (.inl rfl)
      clear ihj htp hat ha hi hs hyb hlb h5 hmx z r hct hcle ht hB7
      go_wp2_with (fail)
      refine (MT2 _).mono ?_
      rintro e w1 ⟨rfl, hb1⟩
      have hg1 := (hb1.block g (by rw [set_size, set_size]; exact hgl)).trans (set_heap (set_heap HA2.out (j * 10) (.bool (q % 3 == 0))) (j * 10 + 1) (.int .i64 (q + 1)))
      have hgl1 : g < w1.heap.size := (Array.getElem?_eq_some_iff.1 hg1).1
      obtain ⟨r1, f1⟩ := rowc hg1
      have z1 : ∀ p, p < 10 → ∃ u, w1.cell? ⟨g, j * 10 + p, none⟩ = some u := fun p hp => ⟨_, (r1 _).trans (Array.getElem?_eq_getElem (by simp; omega))⟩
      obtain ⟨_, y2⟩ := z1 2 (by omega)
      obtain ⟨_, y3⟩ := z1 3 (by omega)
      obtain ⟨_, y4⟩ := z1 4 (by omega)
      have HG1 := Lib.hid hg1
      have HX1 : Hid (∀ b, R < b → b < wr.heap.size → w1.heap[b]? = wr.heap[b]?) := Lib.hid fun b hb hlt => (hb1.block b (by rw [set_size, set_size]; exact hlt)).trans ((set_other (by omega)).trans (set_other (by omega)))
      have HF1 : Hid (Fr (SlF par R g) wr w1) := Lib.hid (((Fr.set HR.out _ _).trans (Fr.set HR.out _ _)).trans (Fr.of hb1))
      have HZ1 : Hid (wr.heap.size ≤ w1.heap.size) := Lib.hid (by have := hb1.size; rwa [set_size, set_size] at this)
      clear f y0 y1 hb1 r1 z1 hg1
      go_wp2_with (fail)
      refine (MT5 _).mono ?_
      rintro e w2 ⟨rfl, hb2⟩
      have hg2 := (hb2.block g (by rw [set_size, set_size, set_size]; exact hgl1)).trans (set_heap (set_heap (set_heap HG1.out (j * 10 + 2) (.string u2)) (j * 10 + 3) (.int .i64 (q + 1 + 1 + 1))) (j * 10 + 4) (.int .i64 (q + 1 + 1 + 1 + 1)))
      have hgl2 : g < w2.heap.size := (Array.getElem?_eq_some_iff.1 hg2).1
      obtain ⟨r2, f2⟩ := rowc hg2
      have z2 : ∀ p, p < 10 → ∃ u, w2.cell? ⟨g, j * 10 + p, none⟩ = some u := fun p hp => ⟨_, (r2 _).trans (Array.getElem?_eq_getElem (by simp; omega))⟩
      obtain ⟨_, y5⟩ := z2 5 (by omega)
      obtain ⟨_, y6⟩ := z2 6 (by omega)
      have y7 : w2.cell? ⟨g, j * 10 + 7, none⟩ = some (.slice A1 L1 c1) := by
        rw [r2]
        iterate 5 rw [Array.getElem?_setIfInBounds_ne (by omega)]
        exact HB7.out
      have HG2 := Lib.hid hg2
      have HX2 : Hid (∀ b, R < b → b < wr.heap.size → w2.heap[b]? = wr.heap[b]?) := Lib.hid fun b hb hlt => (hb2.block b (by rw [set_size, set_size, set_size]; exact Nat.lt_of_lt_of_le hlt HZ1.out)).trans ((set_other (by omega)).trans ((set_other (by omega)).trans ((set_other (by omega)).trans (HX1.out b hb hlt))))
      have HF2 : Hid (Fr (SlF par R g) wr w2) := Lib.hid (HF1.out.trans ((((Fr.set HR.out _ _).trans (Fr.set HR.out _ _)).trans (Fr.set HR.out _ _)).trans (Fr.of hb2)))
      clear f1 y2 y3 y4 hb2 r2 z2 hg2
      go_wp2_with (fail)
      refine (IHJ.out _ (by omega) _ ?_).mono ?_
      · refine (HTP.out.above fun b hb hlt => (set_other (by simp at hb; omega)).trans ((set_other (by simp at hb; omega)).trans (HX2.out b hb hlt))).head ⟨by unfold I64; omega, by unfold I64; omega, by unfold I64; omega, by have := mtx_size (q + 5); unfold maxLen; omega⟩
      rintro e w4 ⟨rfl, ht4, hf4⟩
      have hg4 := (hf4.block g (by rw [set_size, set_size]; exact hgl2) (fun hh => by have := hh.gt; simp at this; omega)).trans (set_heap (set_heap HG2.out (j * 10 + 5) (.string u5)) (j * 10 + 6) (.int .i64 (q + 1 + 1 + 1 + 1 + 1 + 1)))
      obtain ⟨r4, f4⟩ := rowc hg4
      have z4 : ∀ p, p < 10 → ∃ u, w4.cell? ⟨g, j * 10 + p, none⟩ = some u := fun p hp => ⟨_, (r4 _).trans (Array.getElem?_eq_getElem (by simp; omega))⟩
      obtain ⟨_, y8⟩ := z4 8 (by omega)
      obtain ⟨_, y9⟩ := z4 9 (by omega)
      have HG4 := Lib.hid hg4
      have HT4 := Lib.hid ht4
      have HF4 := Lib.hid hf4
      clear f2 y5 y6 y7 ht4 hf4 hg4 z4 r4
      go_wp2_with (fail)
      go_roundg (M - j)
      case rel =>
        refine ⟨j + 1, Q + 1 + 1, by go_num, rfl, by omega, by omega, by omega, by omega, HQ3, Lib.hid (HBL.out.mark HML.out HMD.out.1 HTT.out HQ.out hq0 (Q := Q) HQ2.out.symm (by omega) (A1 := A1) (c1 := c1) (fun arr' ha' => ?_) (fun b hb hlt hn => ?_) ?_), Lib.hid (HFR.out.trans (HF2.out.trans ((((Fr.set HR.out _ _).trans (Fr.set HR.out _ _))).trans ((HF4.out.mono fun b hb => .inr ⟨j, hb⟩).trans ((Fr.set HR.out _ _).trans (Fr.set HR.out _ _))))))⟩
        · rw [HA2.out] at ha'
          obtain rfl : B = arr' := by injection ha' with ha'; injection ha'
          refine ⟨by rw [HB7.out, HL1.out], (set_heap (set_heap HG4.out (j * 10 + 8) (.bool (Q % 3 == 0))) (j * 10 + 9) (.int .i64 (Q + 1))).trans ?_⟩
          unfold set9 set7
          have e0 : (q % 3 == 0) = decide (q % 3 = 0) := by rw [Bool.eq_iff_iff]; simp
          have e1 : (Q % 3 == 0) = decide (Q % 3 = 0) := by rw [Bool.eq_iff_iff]; simp
          rw [HU2.out, HU5.out, e0, e1, show q + 1 + 1 + 1 + 1 + 1 + 1 = q + 6 by omega, show q + 1 + 1 + 1 + 1 = q + 4 by omega, show q + 1 + 1 + 1 = q + 3 by omega]
        · exact (set_other (by omega)).trans ((set_other (by omega)).trans ((HF4.out.block b (by rw [set_size, set_size]; exact Nat.lt_of_lt_of_le hlt HF2.out.size) hn).trans ((set_other (by omega)).trans ((set_other (by omega)).trans (HX2.out b hb hlt)))))
        · have hgR := HGR.out
          exact HT4.out.above fun b hb hlt => (set_other (by simp at hb; omega)).trans (set_other (by simp at hb; omega))
      case measure => omega
    · obtain rfl : j = M := by omega
      have e : q = W := by rw [HQ.out, ← HW.out, ← HML.out, List.take_length]
      subst e
      go_wp2_with (fail)
      go_ret
      refine ⟨rfl, ?_, HFR.out⟩
      have := HBL.out
      rwa [show mix (mkSls m sl) sl j = mkSls m sl by rw [← HML.out]; exact mix_all (mkSls_len m sl)] at this

end Go.Proofs.YtdgfpfkhcojgaaaGreatDoor.tree

