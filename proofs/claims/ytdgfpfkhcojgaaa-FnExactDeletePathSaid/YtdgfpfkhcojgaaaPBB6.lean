/-
  What the texts behind this one use: 2 parts of one proof.
  Conditions: those that each theorem names.
-/
import Derived.Test.YtdgfpfkhcojgaaaPBB5
import Derived.Test.YtdgfpfkhcojgaaaPBB4
import Derived.Test.YtdgfpfkhcojgaaaPBSDelS
import Derived.Deep.RegionHeld3
import Derived.Test.YtdgfpfkhcojgaaaPBSGetK
/-
  Deleting at the end of a path, of the model.
  Conditions: the value holds at most 10^9 values.
-/
namespace Go.Proofs.Ytdgfpfkhcojgaaa.tree
open Go.ChangeShapes Go.WideShapes Go.ChangeAt Go.RowKit
set_option linter.unusedVariables false

theorem getR_le (t : Tr) (y : Ky) : cnt (getR t y) ≤ cnt t := by
  obtain ⟨k, n, s, x, ks, vs⟩ := t
  have e0 : cnt nullT = 1 := by unfold nullT; rw [cnt_mk', cnts_nil]
  rcases posV_cases k n s x ks vs y with hp | ⟨i, hp, hi, rfl⟩
  · unfold getR; rw [getT_none hp]; show cnt nullT ≤ _; rw [e0, cnt_mk']; omega
  · unfold getR; rw [getT_some hp]
    cases hv : vs[i]? with
    | none => show cnt nullT ≤ _; rw [e0, cnt_mk']; omega
    | some u => have := cnts_lt hv; show cnt u ≤ _; rw [cnt_mk']; omega
theorem delP_not {k n x : Int} {s : ByteArray} {ks : List Ky} {vs : List Tr} (h : k ≠ 4) : ∀ ys : List Ky, delP (.mk k n s x ks vs) ys = .mk k n s x ks vs
  | [] => rfl
  | [y] => delT_none (posV_not h y)
  | y :: z :: ys => by rw [delP_two, if_neg (fun hb => h (getB_four (t := .mk k n s x ks vs) hb))]

theorem st5a {w : World} {a : Addr} {B : Nat} {u c0 c1 c2 c3 c4 : Value} (h : w.cell? a = some u) (hne : a.block ≠ B) : (((((w.setCell ⟨B, 0, none⟩ c0).setCell ⟨B, 1, none⟩ c1).setCell ⟨B, 2, none⟩ c2).setCell ⟨B, 3, none⟩ c3).setCell ⟨B, 4, none⟩ c4).cell? a = some u :=
  cell_stays (fun _ => by rw [set_other hne, set_other hne, set_other hne, set_other hne, set_other hne]) h
/-- A value that was put into the result's variable. -/
theorem ret5 {w w1 wF : World} {R : Nat} {K N X : Int} {Z : ByteArray} {A : Option Addr} {RL c : Nat} {RT : Tr} {T : Nat → Prop} (hb : Below w.heap.size w w1) (hR : w.heap.size ≤ R) (hz : w1.heap[R]? = some (.cells #[.int .i64 0, .int .i64 0, .string ⟨#[]⟩, .int .i64 0, .slice none 0 0] IV (0, 0))) (hT : ∀ b, T b → b ≠ R) (hv : TIn w1 T RT (vV K N Z X A RL c))
    (hF : (((((w1.setCell ⟨R, 0, none⟩ (.int .i64 K)).setCell ⟨R, 1, none⟩ (.int .i64 N)).setCell ⟨R, 2, none⟩ (.string Z)).setCell ⟨R, 3, none⟩ (.int .i64 X)).setCell ⟨R, 4, none⟩ (.slice A RL c)) = wF) :
    (∀ j, wF.cell? ⟨R, j, none⟩ = (#[Value.int .i64 K, .int .i64 N, .string Z, .int .i64 X, .slice A RL c] : Array Value)[j]?) ∧ OutV w RT (fun _ => True) (.returned (vV K N Z X A RL c)) wF := by
  obtain ⟨rF, oF, bF⟩ := fill5 hz hF
  exact ⟨rF, _, rfl, hv.stays (fun _ _ => trivial) (fun b hb _ => oF b (hT b hb)), bF _ _ hR hb⟩

/-- What is in the result's variable behind a region that draws its order. -/
def CutR (w : World) (R : Nat) (K N : Int) (Z : ByteArray) (X : Int) (RL : Nat) (RT : Tr) (wx : World) : Prop :=
  ∃ A c, wx.heap[R]? = some (.cells #[.int .i64 K, .int .i64 N, .string Z, .int .i64 X, .slice A RL c] IV (0, 0)) ∧ TIn wx (fun _ => True) RT (vV K N Z X A RL c) ∧ Below w.heap.size w wx
theorem cutR {w w1 wF : World} {R : Nat} {K N X : Int} {Z : ByteArray} {A : Option Addr} {RL c : Nat} {RT : Tr} {T : Nat → Prop} (hb : Below w.heap.size w w1) (hR : w.heap.size ≤ R) (hz : w1.heap[R]? = some (.cells #[.int .i64 0, .int .i64 0, .string ⟨#[]⟩, .int .i64 0, .slice none 0 0] IV (0, 0))) (hT : ∀ b, T b → b ≠ R) (hv : TIn w1 T RT (vV K N Z X A RL c))
    (hF : (((((w1.setCell ⟨R, 0, none⟩ (.int .i64 K)).setCell ⟨R, 1, none⟩ (.int .i64 N)).setCell ⟨R, 2, none⟩ (.string Z)).setCell ⟨R, 3, none⟩ (.int .i64 X)).setCell ⟨R, 4, none⟩ (.slice A RL c)) = wF) : CutR w R K N Z X RL RT wF := by
  obtain ⟨-, oF, bF⟩ := fill5 hz hF
  have eF : wF.heap[R]? = some (.cells #[.int .i64 K, .int .i64 N, .string Z, .int .i64 X, .slice A RL c] IV (0, 0)) := by
    rw [← hF]
    have := set_heap (set_heap (set_heap (set_heap (set_heap hz 0 (.int .i64 K)) 1 (.int .i64 N)) 2 (.string Z)) 3 (.int .i64 X)) 4 (.slice A RL c)
    simpa using this
  exact ⟨A, c, eF, hv.stays (fun _ _ => trivial) (fun b hb _ => oF b (hT b hb)), bF _ _ hR hb⟩

set_option maxRecDepth 100000 in
set_option maxHeartbeats 8000000 in
theorem l12Drop_s : ∀ (ys : List Ky) (t : Tr) (v : Value) (A : Option Addr) (c : Nat) (w : World) (S : Nat → Prop), TIn w S t v → KIn w ys A → (ys.length ≤ c ∧ c ≤ maxLen) → cnt t ≤ 1000000000 → Calls Try.prog 31 #[v, .slice A ys.length c] w (OutV w (delP t ys) (fun _ => True))
  | [], t, v, A, c, w, S, h, hk, hc, hN => by
    show Calls _ _ _ _ (OutV w t (fun _ => True))
    obtain ⟨k, n, s, x, ks, vs⟩ := t
    obtain ⟨A0, c0, rfl, -, -⟩ := h.out
    obtain ⟨L0, HL0⟩ : ∃ L, Hid (vs.length = L) := ⟨_, Lib.hid rfl⟩
    rw [HL0.out] at h ⊢
    have HT := Lib.hid h
    clear h hk hc hN
    go_enter Try.func31, Try.ntmps31
    go_wp2_with (fail)
    have rF := (rowc (heap_alloc2_new w (.cells #[.int .i64 k, .int .i64 n, .string s, .int .i64 x, .slice A0 L0 c0] IV) (.cells #[.int .i64 k, .int .i64 n, .string s, .int .i64 x, .slice A0 L0 c0] IV))).1
    refine bodyPost_ret (v := vV k n s x A0 L0 c0) ?_ rfl ?_
    · simp [results, Try.results31, go_sem, rF]
    · exact ⟨_, rfl, (HT.out.below' (b2 w _ _)).stays (fun _ _ => trivial) (fun _ _ _ => rfl), b2 w _ _⟩
  | [y], t, v, A, c, w, S, h, hk, hc, hN => by
    obtain ⟨k, n, s, x, ks, vs⟩ := t
    obtain ⟨A0, c0, rfl, -, -⟩ := h.out
    obtain ⟨L0, HL0⟩ : ∃ L, Hid (vs.length = L) := ⟨_, Lib.hid rfl⟩
    by_cases h4 : k = 4
    · subst h4
      show Calls _ _ _ _ (OutV w (delT (.mk 4 n s x ks vs) y) (fun _ => True))
      have L6 : Hid (∀ w', Below w.heap.size w w' → Calls Try.prog 45 #[vV 4 n s x A0 L0 c0, kyV y] w' (OutV w' (delT (.mk 4 n s x ks vs) y) (fun b => b < w.heap.size ∨ w'.heap.size ≤ b))) := Lib.hid fun w' hb => by rw [← HL0.out]; exact l6Drop_s _ _ y w' _ (h.lt'.stays (fun _ h => h) (fun b hb' _ => hb.block b hb')) hN
      rw [HL0.out] at h ⊢
      unfold kyV at L6
      obtain ⟨a, rfl, hyb, hat⟩ := hk 0 y rfl
      rw [show a.add (0 * 3) = a by unfold Addr.add; rw [if_pos (by omega)]] at hat
      have HAT := Lib.hid hat
      obtain ⟨RT, HRT⟩ : ∃ T, Hid (delT (.mk 4 n s x ks vs) y = T) := ⟨_, Lib.hid rfl⟩
      rw [HRT.out] at L6 ⊢
      obtain ⟨K, N, Z, X, RK, RV⟩ := RT
      obtain ⟨RL, HRL⟩ : ∃ L, Hid (RV.length = L) := ⟨_, Lib.hid rfl⟩
      have HT := Lib.hid h
      clear h hk hc hN hat
      have e1 : ([y] : List Ky).length = 1 := rfl
      rw [e1]
      obtain ⟨W0, HW0⟩ : ∃ W, Hid (W = (w.alloc (.cells #[.int .i64 4, .int .i64 n, .string s, .int .i64 x, .slice A0 L0 c0] IV)).alloc (.cells #[.int .i64 0, .int .i64 0, .string ⟨#[]⟩, .int .i64 0, .slice none 0 0] IV)) := ⟨_, Lib.hid rfl⟩
      have HE0 : Hid (W0.heap[w.heap.size]? = some (.cells #[.int .i64 4, .int .i64 n, .string s, .int .i64 x, .slice A0 L0 c0] IV (0, 0))) := Lib.hid (by rw [HW0.out]; exact heap_alloc2_old w _ _)
      have HZ0 : Hid (W0.heap[w.heap.size + 1]? = some (.cells #[.int .i64 0, .int .i64 0, .string ⟨#[]⟩, .int .i64 0, .slice none 0 0] IV (0, 0))) := Lib.hid (by rw [HW0.out]; exact heap_alloc2_new w _ _)
      have HB0 : Hid (Below w.heap.size w W0) := Lib.hid (by rw [HW0.out]; exact b2 w _ _)
      have c0_ : W0.cell? ⟨w.heap.size, 0, none⟩ = some (.int .i64 4) := (rowc HE0.out).1 0
      have c1_ : W0.cell? ⟨w.heap.size, 1, none⟩ = some (.int .i64 n) := (rowc HE0.out).1 1
      have c2_ : W0.cell? ⟨w.heap.size, 2, none⟩ = some (.string s) := (rowc HE0.out).1 2
      have c3_ : W0.cell? ⟨w.heap.size, 3, none⟩ = some (.int .i64 x) := (rowc HE0.out).1 3
      have c4_ : W0.cell? ⟨w.heap.size, 4, none⟩ = some (.slice A0 L0 c0) := (rowc HE0.out).1 4
      have nz0 : W0.heap.size ≠ w.heap.size := by have := (Array.getElem?_eq_some_iff.1 HE0.out).1; omega
      obtain ⟨a0_, a1_, a2_⟩ := HAT.out.below HB0.out
      go_enter Try.func31, Try.ntmps31
      go_wp2_with (fail)
      rw [← HW0.out]
      go_cut [] (fun wx => CutR w (w.heap.size + 1) K N Z X RL (.mk K N Z X RK RV) wx)
      case first =>
        go_region_with (first
          | (go_at_call 45
             refine (L6.out _ (by first | exact HB0.out | exact HB0.out.trans ((Below.refl _ _).drew))).mono ?_
             rintro e w1 ⟨u, rfl, hu, hb⟩
             have hbx : Below W0.heap.size W0 w1 := by first | exact hb | exact bs ((Below.refl _ _).drew) hb
             obtain ⟨Am, cm, rfl, -, -⟩ := hu.out
             rw [HRL.out] at hu ⊢
             have HV1 := Lib.hid hu
             have HB1 := Lib.hid (bs HB0.out hbx)
             have HZ1 := Lib.hid (carry hbx HZ0.out)
             obtain ⟨r1, f1⟩ := rowc HZ1.out
             clear hu hb hbx))
        all_goals
          go_wp2_with (fail)
          go_meet
          have hz0 := (Array.getElem?_eq_some_iff.1 HZ0.out).1
          exact cutR HB1.out (by omega) HZ1.out (fun b hb => by simp at hb; omega) HV1.out rfl
      case rest =>
        obtain ⟨Af, cf, eF, hTI, hBF⟩ := hcut
        have rF := (rowc eF).1
        go_wp2_with (fail)
        refine bodyPost_ret (v := vV K N Z X Af RL cf) ?_ rfl ?_
        · simp [results, Try.results31, go_sem, rF]
        · exact ⟨_, rfl, hTI, hBF⟩
    · rw [HL0.out] at h ⊢
      show Calls _ _ _ _ (OutV w (delP (.mk k n s x ks vs) [y]) (fun _ => True))
      rw [delP_not h4]
      have HT := Lib.hid h
      have e1 : ([y] : List Ky).length = 1 := rfl
      rw [e1]
      clear h hk hc hN
      go_enter Try.func31, Try.ntmps31
      go_wp2_with (fail)
      have rF := (rowc (heap_alloc2_new w (.cells #[.int .i64 k, .int .i64 n, .string s, .int .i64 x, .slice A0 L0 c0] IV) (.cells #[.int .i64 k, .int .i64 n, .string s, .int .i64 x, .slice A0 L0 c0] IV))).1
      refine bodyPost_ret (v := vV k n s x A0 L0 c0) ?_ rfl ?_
      · simp [results, Try.results31, go_sem, rF]
      · exact ⟨_, rfl, (HT.out.below' (b2 w _ _)).stays (fun _ _ => trivial) (fun _ _ _ => rfl), b2 w _ _⟩
  | y :: z :: zs, t, v, A, c, w, S, h, hk, hc, hN => by
    obtain ⟨k, n, s, x, ks, vs⟩ := t
    obtain ⟨A0, c0, rfl, -, -⟩ := h.out
    obtain ⟨L0, HL0⟩ : ∃ L, Hid (vs.length = L) := ⟨_, Lib.hid rfl⟩
    obtain ⟨L, HL⟩ : ∃ L, Hid (zs.length = L) := ⟨_, Lib.hid rfl⟩
    have hlen : (y :: z :: zs).length = L + 1 + 1 := by rw [List.length_cons, List.length_cons, HL.out]
    rw [hlen] at hc ⊢
    have hc2 := hc.2
    unfold maxLen at hc2
    obtain ⟨M, HM⟩ : ∃ M, Hid (L + 1 + 1 = M) := ⟨_, Lib.hid rfl⟩
    rw [HM.out] at hc ⊢
    have hM0 : 0 < M := by rw [← HM.out]; omega
    have hne1 : ¬ (M = 0) := by omega
    have hne3 : ¬ (M = 1) := by rw [← HM.out]; omega
    by_cases h4 : k = 4
    · subst h4
      rw [delP_two]
      obtain ⟨a, rfl, hyb, hat⟩ := hk 0 y rfl
      rw [show a.add (0 * 3) = a by unfold Addr.add; rw [if_pos (by omega)]] at hat
      have HAT := Lib.hid hat
      have HYB := Lib.hid hyb
      have HKT := Lib.hid hk.tail
      obtain ⟨GT, HGT⟩ : ∃ T, Hid (getR (.mk 4 n s x ks vs) y = T) := ⟨_, Lib.hid rfl⟩
      obtain ⟨bb, HBB⟩ : ∃ T, Hid (getB (.mk 4 n s x ks vs) y = T) := ⟨_, Lib.hid rfl⟩
      have hgl := getR_le (.mk 4 n s x ks vs) y
      have HL6 : Hid (∀ w', Below w.heap.size w w' → Calls Try.prog 36 #[vV 4 n s x A0 L0 c0, kyV y] w' (OutT w' GT bb (fun b => b < w.heap.size))) := Lib.hid fun w' hb => by rw [← HL0.out, ← HGT.out, ← HBB.out]; exact l6Get_s _ _ y w' _ (h.lt'.stays (fun _ h => h) (fun b hb' _ => hb.block b hb'))
      obtain ⟨DT, HDT⟩ : ∃ T, Hid (delP GT (z :: zs) = T) := ⟨_, Lib.hid rfl⟩
      have ih := fun u w' => l12Drop_s (z :: zs) GT u (some (a.add 3)) (c - 1) w' (fun _ => True)
      have HIH : Hid (∀ w' u, Below w.heap.size w w' → TIn w' (fun _ => True) GT u → Calls Try.prog 31 #[u, .slice (some (a.add 3)) (L + 1) (c - 1)] w' (OutV w' DT (fun _ => True))) := Lib.hid fun w' u hb hu => by
        rw [← HDT.out]
        have := ih u w' hu (HKT.out.below hb) ⟨by have := HM.out; rw [List.length_cons, HL.out]; omega, by unfold maxLen; omega⟩ (by rw [HGT.out] at hgl; omega)
        rw [List.length_cons, HL.out] at this
        exact this
      rw [HBB.out, HGT.out, HDT.out]
      obtain ⟨RT, HRTE⟩ : ∃ T, Hid ((if bb = true then setT (.mk 4 n s x ks vs) y DT else .mk 4 n s x ks vs) = T) := ⟨_, Lib.hid rfl⟩
      rw [HRTE.out]
      have hpos : bb = true → posV (.mk 4 n s x ks vs) y ≠ -1 := fun e h1 => by
        rw [← HBB.out] at e
        unfold getB at e
        rw [getT_none h1] at e
        cases e
      have HS6 : Hid (bb = true → ∀ w' u, Below w.heap.size w w' → TIn w' (fun _ => True) DT u → Calls Try.prog 46 #[vV 4 n s x A0 L0 c0, kyV y, u] w' (OutV w' (setT (.mk 4 n s x ks vs) y DT) (fun _ => True))) := Lib.hid fun e w' u hb hu => by
        rw [← HL0.out]
        exact l6Set_g _ _ y DT u w' (fun _ => True) ((h.lt'.stays (fun _ h => h) (fun b hb' _ => hb.block b hb')).stays (fun _ _ => trivial) (fun _ _ _ => rfl)) hu HYB.out hN (fun _ _ _ _ _ _ e => by cases e; rfl) (fun h1 => absurd h1 (hpos e))
      have HTL := Lib.hid h
      rw [HL0.out] at h HTL ⊢
      unfold kyV at HL6 HS6
      obtain ⟨Kg, Ng, Zg, Xg, RKg, RVg⟩ := GT
      obtain ⟨RLg, HRLg⟩ : ∃ L, Hid (RVg.length = L) := ⟨_, Lib.hid rfl⟩
      obtain ⟨Kd, Nd, Zd, Xd, RKd, RVd⟩ := DT
      obtain ⟨RLd, HRLd⟩ : ∃ L, Hid (RVd.length = L) := ⟨_, Lib.hid rfl⟩
      have hse : ∀ w', (sizeOf (Try.prog.elem 34)).run Try.prog w' = .ok 3 w' := fun w' => by
        obtain ⟨i0, hi, hz⟩ := ik_info
        have : Try.prog.elem 34 = IK := by kernel_rfl
        simp [sizeOf, typeInfo, this, hi, hz.2.1]
      have hs1 : ∀ w', (Instr.slice 34 (.slice (some a) M c) (some (.int .i64 1)) none none).run Try.prog w' = .ok (.slice (some (a.add 3)) (L + 1) (c - 1)) w' := fun w' => by
        rw [← HM.out]
        rw [← HM.out] at hc
        rw [run_slice_l (P := Try.prog) w' 34 _ (L + 1 + 1) c (by kernel_rfl) .i64 1 (by omega) (by omega), hse]
        have h2 : ¬ c = 1 := by omega
        simp [Result.andThen, sliced, h2]
      obtain ⟨W0, HW0⟩ : ∃ W, Hid (W = (w.alloc (.cells #[.int .i64 4, .int .i64 n, .string s, .int .i64 x, .slice A0 L0 c0] IV)).alloc (.cells #[.int .i64 0, .int .i64 0, .string ⟨#[]⟩, .int .i64 0, .slice none 0 0] IV)) := ⟨_, Lib.hid rfl⟩
      have HE0 : Hid (W0.heap[w.heap.size]? = some (.cells #[.int .i64 4, .int .i64 n, .string s, .int .i64 x, .slice A0 L0 c0] IV (0, 0))) := Lib.hid (by rw [HW0.out]; exact heap_alloc2_old w _ _)
      have HZ0 : Hid (W0.heap[w.heap.size + 1]? = some (.cells #[.int .i64 0, .int .i64 0, .string ⟨#[]⟩, .int .i64 0, .slice none 0 0] IV (0, 0))) := Lib.hid (by rw [HW0.out]; exact heap_alloc2_new w _ _)
      have HB0 : Hid (Below w.heap.size w W0) := Lib.hid (by rw [HW0.out]; exact b2 w _ _)
      have c0_ : W0.cell? ⟨w.heap.size, 0, none⟩ = some (.int .i64 4) := (rowc HE0.out).1 0
      have c1_ : W0.cell? ⟨w.heap.size, 1, none⟩ = some (.int .i64 n) := (rowc HE0.out).1 1
      have c2_ : W0.cell? ⟨w.heap.size, 2, none⟩ = some (.string s) := (rowc HE0.out).1 2
      have c3_ : W0.cell? ⟨w.heap.size, 3, none⟩ = some (.int .i64 x) := (rowc HE0.out).1 3
      have c4_ : W0.cell? ⟨w.heap.size, 4, none⟩ = some (.slice A0 L0 c0) := (rowc HE0.out).1 4
      have nz0 : W0.heap.size ≠ w.heap.size := by have := (Array.getElem?_eq_some_iff.1 HE0.out).1; omega
      obtain ⟨a0_, a1_, a2_⟩ := HAT.out.below HB0.out
      obtain ⟨a0_, a1_, a2_⟩ := HAT.out.below HB0.out
      have nz1 : W0.heap.size ≠ a.block := by have := World.block_lt_of_cell? _ _ a0_; omega
      clear h hk hc hN hat hyb ih hgl hlen hpos
      go_enter Try.func31, Try.ntmps31
      go_wp2_with (fail)
      rw [← HW0.out]
      go_cut [5, 6] (fun px fx wx => CutS W0 (fun b => b < w.heap.size) bb Kg Ng Zg Xg RLg (.mk Kg Ng Zg Xg RKg RVg) px fx wx)
      case first =>
        have HW : Hid (Below W0.heap.size W0 W0) := Lib.hid (Below.refl _ _)
        go_region_held3 (fun w' => w'.cell? ⟨w.heap.size, 0, none⟩ = some (.int .i64 4) ∧ w'.cell? ⟨w.heap.size, 1, none⟩ = some (.int .i64 n) ∧ w'.cell? ⟨w.heap.size, 2, none⟩ = some (.string s) ∧ w'.cell? ⟨w.heap.size, 3, none⟩ = some (.int .i64 x) ∧ w'.cell? ⟨w.heap.size, 4, none⟩ = some (.slice A0 L0 c0) ∧ w'.cell? a = some (.bool y.text) ∧ w'.cell? ⟨a.block, a.off + 1, none⟩ = some (.int .i64 y.num) ∧ w'.cell? ⟨a.block, a.off + 2, none⟩ = some (.string y.str)) (go_keep) (first
          | (go_at_call 36
             refine (HL6.out _ (by first | exact HB0.out | exact HB0.out.trans ((Below.refl _ _).drew) | exact HB0.out.alloc HB0.out.size _ | exact (HB0.out.trans ((Below.refl _ _).drew)).alloc HB0.out.size _)).mono ?_
             rintro e w1 ⟨u, rfl, hu, hb⟩
             have hbx : Below W0.heap.size W0 w1 := by first | exact hb | exact bs ((Below.refl _ _).drew) hb | exact bs (b1 _ _) hb | exact bs (bs ((Below.refl _ _).drew) (b1 _ _)) hb
             obtain ⟨Am, cm, rfl, -, -⟩ := hu.out
             rw [HRLg.out] at hu ⊢
             have HMM := Lib.hid hu
             replace HW := Lib.hid (bs HW.out hbx)
             first | (have ez := Lib.hid (carry hb (heap_alloc_new W0 (.cells #[.int .i64 0, .int .i64 0, .string ⟨#[]⟩, .int .i64 0, .slice none 0 0] IV)))) | (have ez := Lib.hid (carry hb (heap_alloc_new W0.drew (.cells #[.int .i64 0, .int .i64 0, .string ⟨#[]⟩, .int .i64 0, .slice none 0 0] IV)))) | skip
             first | (have zr := (rowc ez.out).1; have zf := (rowc ez.out).2) | skip
             obtain ⟨q0, q1, q2⟩ := HAT.out.below (bs HB0.out hbx)
             have d0 : w1.cell? ⟨w.heap.size, 0, none⟩ = some (.int .i64 4) := (rowc (carry hbx HE0.out)).1 0
             have d1 : w1.cell? ⟨w.heap.size, 1, none⟩ = some (.int .i64 n) := (rowc (carry hbx HE0.out)).1 1
             have d2 : w1.cell? ⟨w.heap.size, 2, none⟩ = some (.string s) := (rowc (carry hbx HE0.out)).1 2
             have d3 : w1.cell? ⟨w.heap.size, 3, none⟩ = some (.int .i64 x) := (rowc (carry hbx HE0.out)).1 3
             have d4 : w1.cell? ⟨w.heap.size, 4, none⟩ = some (.slice A0 L0 c0) := (rowc (carry hbx HE0.out)).1 4
             have nz2 : w1.heap.size ≠ w.heap.size := by have := hbx.size; have := (Array.getElem?_eq_some_iff.1 HE0.out).1; omega
             have nz3 : w1.heap.size ≠ a.block := by have := hbx.size; have := World.block_lt_of_cell? _ _ a0_; omega
             clear hu hb hbx))
        all_goals
          go_wp2_with (fail)
          go_meet
          first
          | with_reducible exact cutS_box HW.out HMM.out
          | exact cutS_early HW.out (Nat.le_refl _) ez.out HMM.out (fun q hq e => by have h1 : q < w.heap.size := hq; have h2 := HB0.out.size; omega) rfl
      case rest =>
        obtain ⟨B, Am, cm, hp, hf, hbx, hNB, en, hv⟩ := hcut
        subst hp hf
        have HN := Lib.hid en
        have HV := Lib.hid (hv.stays (S' := fun _ => True) (fun _ _ => trivial) (fun _ _ _ => rfl))
        have HB1 := Lib.hid (bs HB0.out hbx)
        have HE1 := Lib.hid (carry hbx HE0.out)
        have HZ1 := Lib.hid (carry hbx HZ0.out)
        have HNB := Lib.hid hNB
        clear en hv hbx hNB HL6 a0_ a1_ a2_ nz1 c0_ c1_ c2_ c3_ c4_
        have c0_ : wc.cell? ⟨w.heap.size, 0, none⟩ = some (.int .i64 4) := (rowc HE1.out).1 0
        have c1_ : wc.cell? ⟨w.heap.size, 1, none⟩ = some (.int .i64 n) := (rowc HE1.out).1 1
        have c2_ : wc.cell? ⟨w.heap.size, 2, none⟩ = some (.string s) := (rowc HE1.out).1 2
        have c3_ : wc.cell? ⟨w.heap.size, 3, none⟩ = some (.int .i64 x) := (rowc HE1.out).1 3
        have c4_ : wc.cell? ⟨w.heap.size, 4, none⟩ = some (.slice A0 L0 c0) := (rowc HE1.out).1 4
        obtain ⟨a0_, a1_, a2_⟩ := HAT.out.below HB1.out
        obtain ⟨rn, fn⟩ := rowc HN.out
        cases bb with
        | false =>
          obtain rfl : Tr.mk 4 n s x ks vs = RT := by have := HRTE.out; rwa [if_neg (by decide)] at this
          obtain ⟨rz, fz⟩ := rowc HZ1.out
          have hz1 := (Array.getElem?_eq_some_iff.1 HZ0.out).1
          go_wp2_with (fail)
          generalize hwF : (((((wc.setCell ⟨w.heap.size + 1, 0, none⟩ (.int .i64 4)).setCell ⟨w.heap.size + 1, 1, none⟩ (.int .i64 n)).setCell ⟨w.heap.size + 1, 2, none⟩ (.string s)).setCell ⟨w.heap.size + 1, 3, none⟩ (.int .i64 x)).setCell ⟨w.heap.size + 1, 4, none⟩ (.slice A0 L0 c0)) = wF
          obtain ⟨rF, hov⟩ := ret5 (RT := .mk 4 n s x ks vs) (T := fun b => b < w.heap.size) HB1.out (by omega) HZ1.out (fun b hb => by have : b < w.heap.size := hb; omega) (HTL.out.lt'.stays (fun _ h => h) (fun b hb' _ => HB1.out.block b hb')) hwF
          refine bodyPost_ret (v := vV 4 n s x A0 L0 c0) ?_ rfl hov
          simp [results, Try.results31, go_sem, rF]
        | true =>
          have HS6t := Lib.hid (HS6.out rfl)
          have hrt : setT (.mk 4 n s x ks vs) y (.mk Kd Nd Zd Xd RKd RVd) = RT := by have := HRTE.out; rwa [if_pos rfl] at this
          rw [hrt] at HS6t
          clear hrt HRTE
          obtain ⟨K, N, Z, X, RK, RV⟩ := RT
          obtain ⟨RL, HRL⟩ : ∃ L, Hid (RV.length = L) := ⟨_, Lib.hid rfl⟩
          clear HS6
          go_wp2_with (fail)
          go_cut [] (fun wx => CutR w (w.heap.size + 1) K N Z X RL (.mk K N Z X RK RV) wx)
          case first =>
            have nb1 : B ≠ w.heap.size + 1 := by have := HNB.out; have := (Array.getElem?_eq_some_iff.1 HZ0.out).1; omega
            have nb2 : a.block ≠ w.heap.size + 1 := by have := World.block_lt_of_cell? _ _ HAT.out.c0; omega
            have g0_ : wc.cell? ⟨B, 0, none⟩ = some (.int .i64 Kg) := (rowc HN.out).1 0
            have g1_ : wc.cell? ⟨B, 1, none⟩ = some (.int .i64 Ng) := (rowc HN.out).1 1
            have g2_ : wc.cell? ⟨B, 2, none⟩ = some (.string Zg) := (rowc HN.out).1 2
            have g3_ : wc.cell? ⟨B, 3, none⟩ = some (.int .i64 Xg) := (rowc HN.out).1 3
            have g4_ : wc.cell? ⟨B, 4, none⟩ = some (.slice Am RLg cm) := (rowc HN.out).1 4
            have nb0 : w.heap.size ≠ w.heap.size + 1 := by omega
            clear rn fn
            go_region_held3 (fun w' => w'.cell? ⟨w.heap.size, 0, none⟩ = some (.int .i64 4) ∧ w'.cell? ⟨w.heap.size, 1, none⟩ = some (.int .i64 n) ∧ w'.cell? ⟨w.heap.size, 2, none⟩ = some (.string s) ∧ w'.cell? ⟨w.heap.size, 3, none⟩ = some (.int .i64 x) ∧ w'.cell? ⟨w.heap.size, 4, none⟩ = some (.slice A0 L0 c0) ∧ w'.cell? a = some (.bool y.text) ∧ w'.cell? ⟨a.block, a.off + 1, none⟩ = some (.int .i64 y.num) ∧ w'.cell? ⟨a.block, a.off + 2, none⟩ = some (.string y.str) ∧ w'.cell? ⟨B, 0, none⟩ = some (.int .i64 Kg) ∧ w'.cell? ⟨B, 1, none⟩ = some (.int .i64 Ng) ∧ w'.cell? ⟨B, 2, none⟩ = some (.string Zg) ∧ w'.cell? ⟨B, 3, none⟩ = some (.int .i64 Xg) ∧ w'.cell? ⟨B, 4, none⟩ = some (.slice Am RLg cm)) (first | (go_keep; done) | exact ⟨st5a j0_ nb0, st5a j1_ nb0, st5a j2_ nb0, st5a j3_ nb0, st5a j4_ nb0, st5a i0_ nb2, st5a i1_ nb2, st5a i2_ nb2, st5a k0_ nb1, st5a k1_ nb1, st5a k2_ nb1, st5a k3_ nb1, st5a k4_ nb1⟩) (first
              | (go_at_call 31
                 refine (HIH.out _ _ (by first | exact HB1.out | exact HB1.out.trans ((Below.refl _ _).drew)) (by first | exact HV.out | exact HV.out.below' ((Below.refl _ _).drew))).mono ?_
                 rintro e w2 ⟨u, rfl, hu, hb⟩
                 have hbx : Below wc.heap.size wc w2 := by first | exact hb | exact bs ((Below.refl _ _).drew) hb
                 obtain ⟨Ad, cd, rfl, -, -⟩ := hu.out
                 rw [HRLd.out] at hu ⊢
                 have HV2 := Lib.hid hu
                 have HB2 := Lib.hid (bs HB1.out hbx)
                 have HZ2 := Lib.hid (carry hbx HZ1.out)
                 have HE2 := Lib.hid (carry hbx HE1.out)
                 obtain ⟨b0_, b1_, b2_⟩ := HAT.out.below HB2.out
                 have d0_ : w2.cell? ⟨w.heap.size, 0, none⟩ = some (.int .i64 4) := (rowc HE2.out).1 0
                 have d1_ : w2.cell? ⟨w.heap.size, 1, none⟩ = some (.int .i64 n) := (rowc HE2.out).1 1
                 have d2_ : w2.cell? ⟨w.heap.size, 2, none⟩ = some (.string s) := (rowc HE2.out).1 2
                 have d3_ : w2.cell? ⟨w.heap.size, 3, none⟩ = some (.int .i64 x) := (rowc HE2.out).1 3
                 have d4_ : w2.cell? ⟨w.heap.size, 4, none⟩ = some (.slice A0 L0 c0) := (rowc HE2.out).1 4
                 have HN2 := Lib.hid (carry hbx HN.out)
                 have h0_ : w2.cell? ⟨B, 0, none⟩ = some (.int .i64 Kg) := (rowc HN2.out).1 0
                 have h1_ : w2.cell? ⟨B, 1, none⟩ = some (.int .i64 Ng) := (rowc HN2.out).1 1
                 have h2_ : w2.cell? ⟨B, 2, none⟩ = some (.string Zg) := (rowc HN2.out).1 2
                 have h3_ : w2.cell? ⟨B, 3, none⟩ = some (.int .i64 Xg) := (rowc HN2.out).1 3
                 have h4_ : w2.cell? ⟨B, 4, none⟩ = some (.slice Am RLg cm) := (rowc HN2.out).1 4
                 clear hu hb hbx)
              | (go_at_call 46
                 refine (HS6t.out _ _ (by first | exact HB2.out | exact HB2.out.trans ((Below.refl _ _).drew)) (by first | exact HV2.out | exact HV2.out.below' ((Below.refl _ _).drew))).mono ?_
                 rintro e w3 ⟨u, rfl, hu, hb⟩
                 have hbx : Below w2.heap.size w2 w3 := by first | exact hb | exact bs ((Below.refl _ _).drew) hb
                 obtain ⟨Ar, cr, rfl, -, -⟩ := hu.out
                 rw [HRL.out] at hu ⊢
                 have HV3 := Lib.hid hu
                 have HB3 := Lib.hid (bs HB2.out hbx)
                 have HZ3 := Lib.hid (carry hbx HZ2.out)
                 have HE3 := Lib.hid (carry hbx HE2.out)
                 have HN3 := Lib.hid (carry hbx HN2.out)
                 obtain ⟨i0_, i1_, i2_⟩ := HAT.out.below HB3.out
                 have j0_ : w3.cell? ⟨w.heap.size, 0, none⟩ = some (.int .i64 4) := (rowc HE3.out).1 0
                 have j1_ : w3.cell? ⟨w.heap.size, 1, none⟩ = some (.int .i64 n) := (rowc HE3.out).1 1
                 have j2_ : w3.cell? ⟨w.heap.size, 2, none⟩ = some (.string s) := (rowc HE3.out).1 2
                 have j3_ : w3.cell? ⟨w.heap.size, 3, none⟩ = some (.int .i64 x) := (rowc HE3.out).1 3
                 have j4_ : w3.cell? ⟨w.heap.size, 4, none⟩ = some (.slice A0 L0 c0) := (rowc HE3.out).1 4
                 have k0_ : w3.cell? ⟨B, 0, none⟩ = some (.int .i64 Kg) := (rowc HN3.out).1 0
                 have k1_ : w3.cell? ⟨B, 1, none⟩ = some (.int .i64 Ng) := (rowc HN3.out).1 1
                 have k2_ : w3.cell? ⟨B, 2, none⟩ = some (.string Zg) := (rowc HN3.out).1 2
                 have k3_ : w3.cell? ⟨B, 3, none⟩ = some (.int .i64 Xg) := (rowc HN3.out).1 3
                 have k4_ : w3.cell? ⟨B, 4, none⟩ = some (.slice Am RLg cm) := (rowc HN3.out).1 4
                 obtain ⟨r3, f3⟩ := rowc HZ3.out
                 clear hu hb hbx))
            all_goals
              go_wp2_with (fail)
              go_meet
              have hz0 := (Array.getElem?_eq_some_iff.1 HZ0.out).1
              have hz1 := HB2.out.size
              exact cutR HB3.out (by omega) HZ3.out (fun b hb => hb.2) (HV3.out.nobox HZ3.out (fun b h => by cases h)) rfl
          case rest =>
            obtain ⟨Af, cf, eF, hTI, hBF⟩ := hcut
            have rF := (rowc eF).1
            go_wp2_with (fail)
            refine bodyPost_ret (v := vV K N Z X Af RL cf) ?_ rfl ?_
            · simp [results, Try.results31, go_sem, rF]
            · exact ⟨_, rfl, hTI, hBF⟩
    · rw [HL0.out] at h ⊢
      rw [delP_not h4]
      have HT := Lib.hid h
      have hk4 : (k != 4) = true := by simpa using h4
      have hm0 : ((M : Int) == 0) = false := by simpa using (show ¬ M = 0 from hne1)
      clear h hk hc hN hlen
      go_enter Try.func31, Try.ntmps31
      go_wp2_with (fail)
      have rF := (rowc (heap_alloc2_new w (.cells #[.int .i64 k, .int .i64 n, .string s, .int .i64 x, .slice A0 L0 c0] IV) (.cells #[.int .i64 k, .int .i64 n, .string s, .int .i64 x, .slice A0 L0 c0] IV))).1
      refine bodyPost_ret (v := vV k n s x A0 L0 c0) ?_ rfl ?_
      · simp [results, Try.results31, go_sem, rF]
      · exact ⟨_, rfl, (HT.out.below' (b2 w _ _)).stays (fun _ _ => trivial) (fun _ _ _ => rfl), b2 w _ _⟩

end Go.Proofs.Ytdgfpfkhcojgaaa.tree

/-
  DeletePath of the model.
  Conditions: the value holds at most 10^9 values.
-/
namespace Go.Proofs.Ytdgfpfkhcojgaaa.tree
open Go.ChangeShapes Go.WideShapes Go.ChangeAt Go.RowKit
set_option linter.unusedVariables false

set_option maxRecDepth 100000 in
set_option maxHeartbeats 1600000 in
theorem deletePath_s (t : Tr) (ys : List Ky) (v : Value) (A : Option Addr) (c : Nat) (w : World) (S : Nat → Prop) (h : TIn w S t v) (hk : KIn w ys A) (hc : ys.length ≤ c ∧ c ≤ maxLen) (hN : cnt t ≤ 1000000000) : Calls Try.prog 16 #[v, .slice A ys.length c] w (OutV w (delP t ys) (fun q => w.heap.size ≤ q)) := by
  have VA : Hid (∀ w', Below w.heap.size w w' → Calls Try.prog 31 #[v, .slice A ys.length c] w' (OutV w' (delP t ys) (fun _ => True))) := Lib.hid fun w' hb => l12Drop_s ys t v A c w' _ (h.below' hb) (hk.below hb) hc hN
  have hN2 := (delP_size ys t h.fits).1
  obtain ⟨Q, hQ⟩ : ∃ Q, Q = delP t ys := ⟨_, rfl⟩
  rw [← hQ] at VA hN2 ⊢
  obtain ⟨K, N, Z, X, RK, RV⟩ := Q
  have HN : Hid (cnt (.mk K N Z X RK RV) ≤ 1000000000) := Lib.hid (by omega)
  obtain ⟨RL, HRL⟩ : ∃ L, Hid (L = RV.length) := ⟨_, Lib.hid rfl⟩
  obtain ⟨k, n, s, x, ks, vs⟩ := t
  obtain ⟨A0, c0, rfl, -, -⟩ := h.out
  obtain ⟨L0, HL0⟩ : ∃ L, Hid (vs.length = L) := ⟨_, Lib.hid rfl⟩
  rw [HL0.out] at VA ⊢
  obtain ⟨L, HL⟩ : ∃ L, Hid (ys.length = L) := ⟨_, Lib.hid rfl⟩
  rw [HL.out] at VA ⊢
  clear h hk hc hN hN2 hQ
  go_enter Try.func16, Try.ntmps16
  go_wp2_with (fail)
  refine (VA.out _ (b2 _ _ _)).mono ?_
  rintro e w1 ⟨u, rfl, hu, hb1⟩
  obtain ⟨A1, c1, rfl, -, -⟩ := hu.out
  rw [← HRL.out]
  have HU := Lib.hid (show TIn w1 (fun _ => True) (.mk K N Z X RK RV) (vV K N Z X A1 RL c1) by rw [HRL.out]; exact hu)
  have HZ1 := Lib.hid (carry hb1 (heap_alloc2_new w _ _))
  have HB1 := Lib.hid (bs (b2 w _ _) hb1)
  clear hu hb1 VA
  go_wp2_with (fail)
  have CV := l5Copy (.mk K N Z X RK RV) HN.out _ (fun _ => True) _ HU.out
  refine CV.mono ?_
  rintro e w2 ⟨u, rfl, hu, hb2⟩
  obtain ⟨A3, c3, rfl, -, -⟩ := hu.out
  have HU2 := Lib.hid hu
  have HZ2 := Lib.hid (carry hb2 HZ1.out)
  have HB2 := Lib.hid (bs HB1.out hb2)
  rw [← HRL.out] at HU2 ⊢
  obtain ⟨r, f⟩ := rowc HZ2.out
  clear hu hb2 CV
  go_wp2_with (fail)
  generalize hwF : (((((w2.setCell ⟨w.heap.size + 1, 0, none⟩ (.int .i64 K)).setCell ⟨w.heap.size + 1, 1, none⟩ (.int .i64 N)).setCell ⟨w.heap.size + 1, 2, none⟩ (.string Z)).setCell ⟨w.heap.size + 1, 3, none⟩ (.int .i64 X)).setCell ⟨w.heap.size + 1, 4, none⟩ (.slice A3 RL c3)) = wF
  obtain ⟨rF, oF, bF⟩ := fill5 HZ2.out hwF
  refine bodyPost_ret (v := vV K N Z X A3 RL c3) ?_ rfl ?_
  · simp [results, Try.results16, go_sem, rF]
  · have hz : w.heap.size + 1 < w1.heap.size := (Array.getElem?_eq_some_iff.1 HZ1.out).1
    have hy := HB1.out.size
    refine ⟨_, rfl, HU2.out.stays (fun q hq => ?_) (fun q hq _ => oF q ?_), bF _ _ (by omega) HB2.out⟩
    · have h1 : w1.heap.size ≤ q := hq
      omega
    · have h1 : w1.heap.size ≤ q := hq
      omega

end Go.Proofs.Ytdgfpfkhcojgaaa.tree

