/-
  The laws' marks, put into a value whose lists lie each in a block of its own; and into any value that the law has made.
  Conditions: those that each theorem names.
-/
import Derived.Test.YtbgffmiffmmohaaGreatDoorHcB4
namespace Go.Proofs.YtbgffmiffmmohaaGreatDoor.tree
open Go.ChangeShapes Go.WideShapes Go.ChangeAt Go.RowKit
set_option linter.unusedVariables false

/-- Seven cells in a row. -/
def set7 (arr : Array Value) (o : Nat) (c0 c1 c2 c3 c4 c5 c6 : Value) : Array Value :=
  ((((((arr.setIfInBounds o c0).setIfInBounds (o + 1) c1).setIfInBounds (o + 2) c2).setIfInBounds (o + 3) c3).setIfInBounds (o + 4) c4).setIfInBounds (o + 5) c5).setIfInBounds (o + 6) c6
theorem set7_size (arr : Array Value) (o : Nat) (c0 c1 c2 c3 c4 c5 c6 : Value) : (set7 arr o c0 c1 c2 c3 c4 c5 c6).size = arr.size := by simp [set7]
theorem set7_out (arr : Array Value) (o : Nat) (c0 c1 c2 c3 c4 c5 c6 : Value) (p : Nat) (h : p < o ∨ o + 7 ≤ p) : (set7 arr o c0 c1 c2 c3 c4 c5 c6)[p]? = arr[p]? := by
  unfold set7
  iterate 7 rw [Array.getElem?_setIfInBounds_ne (by omega)]
theorem set7_in (arr : Array Value) (o : Nat) (c0 c1 c2 c3 c4 c5 c6 : Value) (h : o + 7 ≤ arr.size) (q : Nat) (hq : q < 7) : (set7 arr o c0 c1 c2 c3 c4 c5 c6)[o + q]? = (#[c0, c1, c2, c3, c4, c5, c6] : Array Value)[q]? := by
  unfold set7
  match q, hq with
  | 0, _ => iterate 6 rw [Array.getElem?_setIfInBounds_ne (by omega)]
            rw [Nat.add_zero, Array.getElem?_setIfInBounds_self_of_lt (by omega)]; rfl
  | 1, _ => iterate 5 rw [Array.getElem?_setIfInBounds_ne (by omega)]
            rw [Array.getElem?_setIfInBounds_self_of_lt (by simp; omega)]; rfl
  | 2, _ => iterate 4 rw [Array.getElem?_setIfInBounds_ne (by omega)]
            rw [Array.getElem?_setIfInBounds_self_of_lt (by simp; omega)]; rfl
  | 3, _ => iterate 3 rw [Array.getElem?_setIfInBounds_ne (by omega)]
            rw [Array.getElem?_setIfInBounds_self_of_lt (by simp; omega)]; rfl
  | 4, _ => iterate 2 rw [Array.getElem?_setIfInBounds_ne (by omega)]
            rw [Array.getElem?_setIfInBounds_self_of_lt (by simp; omega)]; rfl
  | 5, _ => rw [Array.getElem?_setIfInBounds_ne (by omega), Array.getElem?_setIfInBounds_self_of_lt (by simp; omega)]; rfl
  | 6, _ => rw [Array.getElem?_setIfInBounds_self_of_lt (by simp; omega)]; rfl

section
variable {w w' : World} {par : Nat → Nat × Nat} {here : Nat × Nat}
/-- What hangs there, and is there, stays. -/
theorem TPar.keep {t : Tr} {v : Value} (h : TPar w par here t v) (hs : ∀ b, Hang par here b → b < w.heap.size → w'.heap[b]? = w.heap[b]?) : TPar w' par here t v := by
  induction h with
  | mk here k n s x ks vs A cap g arr K N X Z D H hk hl hm hcap hg hc ht ih =>
    by_cases h0 : 0 < vs.length
    · obtain ⟨hA, hp, hlt, hb, hs2⟩ := hg h0
      refine .mk here k n s x ks vs A cap g arr K N X Z D H hk hl hm hcap (fun _ => ⟨hA, hp, hlt, (hs g (.root g hp hlt) (Array.getElem?_eq_some_iff.1 hb).1).trans hb, hs2⟩) hc (fun i hi L hL => ih i hi L hL fun b hb => hs b (hb.sub hp hlt))
    · exact .mk here k n s x ks vs A cap g arr K N X Z D H hk hl hm hcap (fun h => absurd h h0) hc (fun i hi => absurd hi (by omega))

theorem PBlk.step {wr w4 : World} {g j : Nat} {m q : Int} {ks : List Ky} {vs : List Tr} (h : PBlk wr par g (mix (mkK m vs) ks j) (mix (mkV m vs) vs j)) (hkl : ks.length = vs.length) {k1 n1 x1 : Int} {s1 : ByteArray} {ks1 : List Ky} {vs1 : List Tr} (ht : vs[j]? = some (.mk k1 n1 s1 x1 ks1 vs1))
    (hq : q = m + 7 * cnts (vs.take j)) (hq0 : 1 ≤ q) (hq1 : q ≤ 1000000000000) {A1 : Option Addr} {c1 : Nat}
    (hg : ∀ arr, wr.heap[g]? = some (.cells arr IE (0, 0)) → arr[j * 8 + 7]? = some (.slice A1 vs1.length c1) ∧ w4.heap[g]? = some (.cells (set7 arr (j * 8) (.bool (decide (q % 3 = 0))) (.int .i64 (q + 1)) (.string (mtx (q + 2))) (.int .i64 (q + 3)) (.int .i64 (q + 4)) (.string (mtx (q + 5))) (.int .i64 (q + 6))) IE (0, 0)))
    (ho : ∀ b, g < b → b < wr.heap.size → ¬ Hang par (g, j) b → w4.heap[b]? = wr.heap[b]?)
    (htp : TPar w4 par (g, j) (.mk (q + 3) (q + 4) (mtx (q + 5)) (q + 6) (mkK (q + 7) vs1) (mkV (q + 7) vs1)) (vV (q + 3) (q + 4) (mtx (q + 5)) (q + 6) A1 vs1.length c1)) :
    PBlk w4 par g (mix (mkK m vs) ks (j + 1)) (mix (mkV m vs) vs (j + 1)) := by
  obtain ⟨hj, -⟩ := List.getElem?_eq_some_iff.1 ht
  obtain ⟨arr, ha, hs, hi⟩ := h
  obtain ⟨hsl, hg4⟩ := hg arr ha
  have hl1 : (mkV m vs).length = vs.length := mkV_len m vs
  have hl2 : (mkK m vs).length = ks.length := by rw [mkK_len, hkl]
  rw [mix_len hl1] at hs hi
  refine ⟨_, hg4, by rw [mix_len hl1, set7_size]; exact hs, fun i hil => ?_⟩
  rw [mix_len hl1] at hil
  by_cases e : i = j
  · subst e
    have hy : (mix (mkK m vs) ks (i + 1))[i]? = some (mkY q) := by rw [mix_lt hl2 (by omega) (by omega), mkK_get m vs i _ ht, hq]
    have hv : (mix (mkV m vs) vs (i + 1))[i]? = some (.mk (q + 3) (q + 4) (mtx (q + 5)) (q + 6) (mkK (q + 7) vs1) (mkV (q + 7) vs1)) := by rw [mix_lt hl1 (by omega) (by omega), mkV_get m vs i _ ht, ← hq, mkT_mk]
    refine ⟨mkY q, _, _, _, _, _, _, A1, c1, hy, hv, ⟨by show I64 (q + 1); unfold I64; omega, by show (mtx (q + 2)).size ≤ maxLen; have := mtx_size (q + 2); unfold maxLen; omega⟩, fun p hp => ?_, by rw [mkV_len]; exact htp⟩
    by_cases hp7 : p < 7
    · rw [set7_in _ _ _ _ _ _ _ _ _ (by omega) p hp7]
      match p, hp7 with
      | 0, _ => rfl
      | 1, _ => rfl
      | 2, _ => rfl
      | 3, _ => rfl
      | 4, _ => rfl
      | 5, _ => rfl
      | 6, _ => rfl
    · obtain rfl : p = 7 := by omega
      rw [set7_out _ _ _ _ _ _ _ _ _ _ (by omega), hsl, mkV_len]
      rfl
  · obtain ⟨y, k, n, s, x, ks', vs', A, c, hy, hv, hyb, hat, hT⟩ := hi i hil
    have same : (mix (mkK m vs) ks (j + 1))[i]? = (mix (mkK m vs) ks j)[i]? ∧ (mix (mkV m vs) vs (j + 1))[i]? = (mix (mkV m vs) vs j)[i]? := by
      by_cases hlt : i < j
      · rw [mix_lt hl2 (by omega) (by omega), mix_lt hl2 hlt (by omega), mix_lt hl1 (by omega) (by omega), mix_lt hl1 hlt (by omega)]
        exact ⟨rfl, rfl⟩
      · rw [mix_ge hl2 (by omega) (by omega), mix_ge hl2 (by omega) (by omega), mix_ge hl1 (by omega) (by omega), mix_ge hl1 (by omega) (by omega)]
        exact ⟨rfl, rfl⟩
    refine ⟨y, k, n, s, x, ks', vs', A, c, by rw [same.1, hy], by rw [same.2, hv], hyb, fun p hp => ?_, hT.keep fun b hb hlt => ho b hb.gt hlt fun hh => e (hb.disj hh)⟩
    rw [set7_out _ _ _ _ _ _ _ _ _ _ (by omega)]
    exact hat p hp
end

def MkQ (w : World) (par : Nat → Nat × Nat) (here : Nat × Nat) (t : Tr) (v : Value) (m : Int) (e : Ending) (w' : World) : Prop := e = .returned (.int .i64 m) ∧ TPar w' par here t v ∧ Fr (Hang par here) w w'
def MaS (t : Tr) : Prop := ∀ (k0 n0 : Int) (s0 : ByteArray) (x0 : Int) (ks0 : List Ky) (vs : List Tr), t = .mk k0 n0 s0 x0 ks0 vs → ∀ (k n : Int) (s : ByteArray) (x : Int) (ks : List Ky) (m : Int), 1 ≤ m → m + 7 * cnts vs ≤ 100000000000 → ∀ (w : World) (par : Nat → Nat × Nat) (here : Nat × Nat) (A : Option Addr) (c : Nat), TPar w par here (.mk k n s x ks vs) (vV k n s x A vs.length c) →
  Calls Tryz.prog 100 #[.slice A vs.length c, .int .i64 m] w (MkQ w par here (.mk k n s x (mkK m vs) (mkV m vs)) (vV k n s x A vs.length c) (m + 7 * cnts vs))

set_option maxHeartbeats 2000000 in
set_option maxRecDepth 100000 in
theorem markItems : ∀ t, MaS t := Tr.ind fun k0 n0 s0 x0 ks0 vs ih => by
  intro k0' n0' s0' x0' ks0' vs' he
  obtain ⟨-, -, -, -, -, rfl⟩ : k0 = k0' ∧ n0 = n0' ∧ s0 = s0' ∧ x0 = x0' ∧ ks0 = ks0' ∧ vs = vs' := by simpa using he
  clear he
  intro k n s x ks m hm0 hm1 w par here A c h
  obtain ⟨A', c', e', hk, hkl, hcap, hblk⟩ := h.out
  simp only [vV, Value.agg.injEq, Array.mk.injEq, List.cons.injEq, Value.slice.injEq, and_true, true_and] at e'
  obtain ⟨rfl, rfl⟩ := e'
  have HK := Lib.hid hk
  have HKL := Lib.hid hkl
  have HCAP := Lib.hid hcap
  obtain ⟨L, HL⟩ : ∃ L, Hid (L = vs.length) := ⟨_, Lib.hid rfl⟩
  have hm : L ≤ maxLen := by rw [HL.out]; omega
  unfold maxLen at hm
  have HM1 := Lib.hid hm1
  obtain ⟨W, HW⟩ : ∃ W : Int, Hid (m + 7 * cnts vs = W) := ⟨_, Lib.hid rfl⟩
  clear hm1 hk hkl hcap h
  by_cases hz : L = 0
  · obtain rfl : vs = [] := List.length_eq_zero_iff.1 (by rw [← HL.out]; exact hz)
    clear hblk
    have e0 : m + 7 * (cnts [] : Int) = m := by rw [cnts_nil]; simp
    rw [e0]
    go_enter Tryz.func100, Tryz.ntmps100
    go_wp2
    go_loopg [1, 5] 1 (fun gk l i wr => l = .int .i64 m ∧ i = .int .i64 0 ∧ gk = 1 ∧ w = wr)
    case atStart => exact ⟨rfl, rfl, rfl, rfl⟩
    case round =>
      obtain ⟨rfl, rfl, rfl, rfl⟩ := hrel
      go_wp2
      go_ret
      exact ⟨rfl, TPar.of HK.out (by simp [mkK, mkV]) (by rw [mkV]; exact HCAP.out) (fun h => by simp [mkV] at h), Fr.refl _ _⟩
  · obtain ⟨g, rfl, hpar, hlt0, hb⟩ := hblk (by rw [← HL.out]; omega)
    rw [HW.out, ← HL.out]
    have hb0 : PBlk w par g (mix (mkK m vs) ks 0) (mix (mkV m vs) vs 0) := by rw [mix_zero, mix_zero]; exact hb
    have HB0 := Lib.hid hb0
    have HP := Lib.hid hpar
    have HLT := Lib.hid hlt0
    clear hblk hb hb0 hpar hlt0
    go_enter Tryz.func100, Tryz.ntmps100
    go_wp2_with (fail)
    go_loopg [1, 5] (L + 1) (fun gk l i wr => ∃ (j : Nat) (q : Int), i = .int .i64 j ∧ l = .int .i64 q ∧ gk + j = L + 1 ∧ j ≤ L ∧ 1 ≤ q ∧ q ≤ 100000000000 ∧ Hid (q = m + 7 * cnts (vs.take j)) ∧ Hid (PBlk wr par g (mix (mkK m vs) ks j) (mix (mkV m vs) vs j)) ∧ Fr (Hang par here) w wr)
    case atStart => exact ⟨0, m, rfl, rfl, by omega, by omega, hm0, by have := HM1.out; omega, Lib.hid (by simp [cnts_nil]), HB0, Fr.refl _ _⟩
    case round =>
      obtain ⟨j, q, rfl, rfl, hgj, hjL, hq0, hq1, HQ, HBL, hfr⟩ := hrel
      have HFR := Lib.hid hfr
      clear hfr
      by_cases hlt : j < L
      · obtain ⟨t, ht⟩ : ∃ t, vs[j]? = some t := ⟨_, List.getElem?_eq_getElem (by rw [← HL.out]; exact hlt)⟩
        obtain ⟨arr, ha, hs, hi⟩ := HBL.out
        rw [mix_len (mkV_len m vs)] at hs hi
        obtain ⟨y, k1, n1, s1, x1, ks1, vs1, A1, c1, hy, hv, hyb, hat, htp⟩ := hi j (by rw [← HL.out]; exact hlt)
        rw [mix_ge (mkV_len m vs) (Nat.le_refl _) (by rw [mkV_len, ← HL.out]; exact hjL), ht] at hv
        obtain rfl := Option.some.inj hv
        have hcl := cnts_lt ht
        rw [cnt_mk'] at hcl
        have hq7 : q + 7 + 7 * cnts vs1 ≤ 100000000000 := by have h1 := HQ.out; have h2 := HM1.out; omega
        obtain ⟨Q, HQ2⟩ : ∃ Q : Int, Hid (q + 7 + 7 * cnts vs1 = Q) := ⟨_, Lib.hid rfl⟩
        obtain ⟨L1, HL1⟩ : ∃ L1, Hid (L1 = vs1.length) := ⟨_, Lib.hid rfl⟩
        rw [HQ2.out] at hq7
        have hQ0 : 1 ≤ Q := by rw [← HQ2.out]; omega
        have ihj : ∀ z, z = q + 7 → ∀ w', TPar w' par (g, j) (.mk (q + 3) (q + 4) (mtx (q + 5)) (q + 6) ks1 vs1) (vV (q + 3) (q + 4) (mtx (q + 5)) (q + 6) A1 vs1.length c1) → Calls Tryz.prog 100 #[.slice A1 L1 c1, .int .i64 z] w' (MkQ w' par (g, j) (.mk (q + 3) (q + 4) (mtx (q + 5)) (q + 6) (mkK (q + 7) vs1) (mkV (q + 7) vs1)) (vV (q + 3) (q + 4) (mtx (q + 5)) (q + 6) A1 vs1.length c1) Q) := fun z hz w' hw' => by
          subst hz
          have := ih _ (List.mem_of_getElem? ht) k1 n1 s1 x1 ks1 vs1 rfl (q + 3) (q + 4) (mtx (q + 5)) (q + 6) ks1 (q + 7) (by omega) (by rw [HQ2.out]; exact hq7) w' par (g, j) A1 c1 hw'
          rw [HQ2.out] at this
          rw [HL1.out]
          exact this
        have HQ3 : Hid (Q = m + 7 * cnts (vs.take (j + 1))) := Lib.hid (by rw [cnts_take ht, cnt_mk', ← HQ2.out, HQ.out]; push_cast; omega)
        have MT2 := markText (q + 2) (by omega) (by omega)
        have MT5 := markText (q + 5) (by omega) (by omega)
        have z2 := mtx_size (q + 2)
        have z5 := mtx_size (q + 5)
        obtain ⟨u2, HU2⟩ : ∃ u, Hid (mtx (q + 2) = u) := ⟨_, Lib.hid rfl⟩
        obtain ⟨u5, HU5⟩ : ∃ u, Hid (mtx (q + 5) = u) := ⟨_, Lib.hid rfl⟩
        unfold MtQ at MT2 MT5
        rw [HU2.out] at MT2 z2
        rw [HU5.out] at MT5 z5
        rw [show q + 2 = q + 1 + 1 by omega] at MT2
        rw [show q + 5 = q + 1 + 1 + 1 + 1 + 1 by omega] at MT5
        have IHJ := Lib.hid ihj
        have HTP := Lib.hid htp
        have HAT := Lib.hid hat
        have HA := Lib.hid ha
        obtain ⟨B, HBX⟩ : ∃ B, Hid (arr = B) := ⟨_, Lib.hid rfl⟩
        rw [HBX.out] at ha
        have hs2 : (j + 1) * 8 ≤ B.size := by rw [← HBX.out]; have := HL.out; omega
        obtain ⟨r, f⟩ := rowc ha
        have hgl : g < wr.heap.size := (Array.getElem?_eq_some_iff.1 ha).1
        have z : ∀ q, q < 8 → ∃ u, wr.cell? ⟨g, j * 8 + q, none⟩ = some u := fun q hq => ⟨_, (r _).trans (Array.getElem?_eq_getElem (by omega))⟩
        obtain ⟨w0, y0⟩ := z 0 (by omega)
        obtain ⟨w1', y1⟩ := z 1 (by omega)
        rw [Nat.add_zero] at y0
        have HA2 := Lib.hid ha
        have HTT := Lib.hid ht
        clear ihj htp hat ha hi hs hy hyb z r hcl ht hv
        have hB7 : B[j * 8 + 7]? = some (.slice A1 L1 c1) := by rw [← HBX.out, HL1.out]; exact HAT.out 7 (by omega)
        have HB7 := Lib.hid hB7
        have hroot : Hang par here g := .root g HP.out HLT.out
        have HR := Lib.hid hroot
        have HB0 := Lib.hid hB7
        clear hB7 hroot
        go_wp2_with (fail)
        refine (MT2 _).mono ?_
        rintro e w1 ⟨rfl, hb1⟩
        have hg1 := (hb1.block g (by rw [set_size, set_size]; exact hgl)).trans (set_heap (set_heap HA2.out (j * 8) (.bool (q % 3 == 0))) (j * 8 + 1) (.int .i64 (q + 1)))
        have hgl1 : g < w1.heap.size := (Array.getElem?_eq_some_iff.1 hg1).1
        obtain ⟨r1, f1⟩ := rowc hg1
        have z1 : ∀ p, p < 8 → ∃ u, w1.cell? ⟨g, j * 8 + p, none⟩ = some u := fun p hp => ⟨_, (r1 _).trans (Array.getElem?_eq_getElem (by simp; omega))⟩
        obtain ⟨_, y2⟩ := z1 2 (by omega)
        obtain ⟨_, y3⟩ := z1 3 (by omega)
        obtain ⟨_, y4⟩ := z1 4 (by omega)
        have HG1 := Lib.hid hg1
        have HX1 : Hid (∀ b, g < b → b < wr.heap.size → w1.heap[b]? = wr.heap[b]?) := Lib.hid fun b hb hlt => (hb1.block b (by rw [set_size, set_size]; exact hlt)).trans ((set_other (by omega)).trans (set_other (by omega)))
        have HF1 : Hid (Fr (Hang par here) wr w1) := Lib.hid (((Fr.set HR.out _ _).trans (Fr.set HR.out _ _)).trans (Fr.of hb1))
        have HZ1 : Hid (wr.heap.size ≤ w1.heap.size) := Lib.hid (by have := hb1.size; rwa [set_size, set_size] at this)
        clear f y0 y1 hb1 r1 z1 hg1
        go_wp2_with (fail)
        refine (MT5 _).mono ?_
        rintro e w2 ⟨rfl, hb2⟩
        have hg2 := (hb2.block g (by rw [set_size, set_size, set_size]; exact hgl1)).trans (set_heap (set_heap (set_heap HG1.out (j * 8 + 2) (.string u2)) (j * 8 + 3) (.int .i64 (q + 1 + 1 + 1))) (j * 8 + 4) (.int .i64 (q + 1 + 1 + 1 + 1)))
        have hgl2 : g < w2.heap.size := (Array.getElem?_eq_some_iff.1 hg2).1
        obtain ⟨r2, f2⟩ := rowc hg2
        have z2 : ∀ p, p < 8 → ∃ u, w2.cell? ⟨g, j * 8 + p, none⟩ = some u := fun p hp => ⟨_, (r2 _).trans (Array.getElem?_eq_getElem (by simp; omega))⟩
        obtain ⟨_, y5⟩ := z2 5 (by omega)
        obtain ⟨_, y6⟩ := z2 6 (by omega)
        have y7 : w2.cell? ⟨g, j * 8 + 7, none⟩ = some (.slice A1 L1 c1) := by
          rw [r2]
          iterate 5 rw [Array.getElem?_setIfInBounds_ne (by omega)]
          exact HB7.out
        have HG2 := Lib.hid hg2
        have HX2 : Hid (∀ b, g < b → b < wr.heap.size → w2.heap[b]? = wr.heap[b]?) := Lib.hid fun b hb hlt => (hb2.block b (by rw [set_size, set_size, set_size]; exact Nat.lt_of_lt_of_le hlt HZ1.out)).trans ((set_other (by omega)).trans ((set_other (by omega)).trans ((set_other (by omega)).trans (HX1.out b hb hlt))))
        have HF2 : Hid (Fr (Hang par here) wr w2) := Lib.hid (HF1.out.trans ((((Fr.set HR.out _ _).trans (Fr.set HR.out _ _)).trans (Fr.set HR.out _ _)).trans (Fr.of hb2)))
        clear f1 y2 y3 y4 hb2 r2 z2 hg2
        go_wp2_with (fail)
        refine (IHJ.out _ (by omega) _ ?_).mono ?_
        · refine (HTP.out.above fun b hb hlt => (set_other (by simp at hb; omega)).trans ((set_other (by simp at hb; omega)).trans (HX2.out b hb hlt))).head ⟨by unfold I64; omega, by unfold I64; omega, by unfold I64; omega, by have := mtx_size (q + 5); unfold maxLen; omega⟩
        rintro e w4 ⟨rfl, ht4, hf4⟩
        have hg4 := (hf4.block g (by rw [set_size, set_size]; exact hgl2) (fun hh => by have := hh.gt; simp at this)).trans (set_heap (set_heap HG2.out (j * 8 + 5) (.string u5)) (j * 8 + 6) (.int .i64 (q + 1 + 1 + 1 + 1 + 1 + 1)))
        have HG4 := Lib.hid hg4
        have HT4 := Lib.hid ht4
        have HF4 := Lib.hid hf4
        clear f2 y5 y6 y7 ht4 hf4 hg4
        go_wp2_with (fail)
        go_roundg (L - j)
        case rel =>
          refine ⟨j + 1, Q, by go_num, rfl, by omega, by omega, hQ0, hq7, HQ3, Lib.hid (HBL.out.step HKL.out HTT.out HQ.out hq0 (by omega) (A1 := A1) (c1 := c1) (fun arr' ha' => ?_) (fun b hb hlt hn => ?_) HT4.out), HFR.out.trans (HF2.out.trans ((((Fr.set HR.out _ _).trans (Fr.set HR.out _ _))).trans (HF4.out.mono fun b hb => hb.sub HP.out HLT.out)))⟩
          · rw [HA2.out] at ha'
            obtain rfl : B = arr' := by injection ha' with ha'; injection ha'
            refine ⟨by rw [HB7.out, HL1.out], HG4.out.trans ?_⟩
            unfold set7
            have e0 : (q % 3 == 0) = decide (q % 3 = 0) := by rw [Bool.eq_iff_iff]; simp
            rw [HU2.out, HU5.out, e0, show q + 1 + 1 + 1 + 1 + 1 + 1 = q + 6 by omega, show q + 1 + 1 + 1 + 1 = q + 4 by omega, show q + 1 + 1 + 1 = q + 3 by omega]
          · exact (HF4.out.block b (by rw [set_size, set_size]; exact Nat.lt_of_lt_of_le hlt HF2.out.size) hn).trans ((set_other (by omega)).trans ((set_other (by omega)).trans (HX2.out b hb hlt)))
        case measure => omega
      · obtain rfl : j = L := by omega
        have e : q = W := by rw [HQ.out, ← HW.out, HL.out, List.take_length]
        subst e
        go_wp2_with (fail)
        go_ret
        refine ⟨rfl, ?_, HFR.out⟩
        have := HBL.out
        rw [show mix (mkV m vs) vs j = mkV m vs by rw [HL.out]; exact mix_all (mkV_len m vs), show mix (mkK m vs) ks j = mkK m vs by rw [HL.out, ← HKL.out]; exact mix_all (by rw [mkK_len, HKL.out])] at this
        have e2 : j = (mkV m vs).length := by rw [mkV_len, HL.out]
        rw [e2]
        exact TPar.of HK.out (by rw [mkK_len, mkV_len]) (by rw [mkV_len]; exact HCAP.out) (fun _ => ⟨g, rfl, HP.out, HLT.out, this⟩)

end Go.Proofs.YtbgffmiffmmohaaGreatDoor.tree

