/-
  Union of the project.
  Conditions: the values hold at most 2^20 and two values and 10^9 letters and items; the package variables of the library's reading of numbers hold what the program's text lays.
-/
import Derived.Test.YtdglmnmalfpipaaGreatDoorVSUniS
import Derived.Test.YtdglmnmalfpipaaGreatDoorVSOwU
import Derived.Test.YtdglmnmalfpipaaGreatDoorVB7
import Derived.Test.YtdglmnmalfpipaaGreatDoorVSCopyV
import Derived.Deep.DeepCutAuto
namespace Go.Proofs.YtdglmnmalfpipaaGreatDoor.tree
open Go.ChangeShapes Go.WideShapes Go.ChangeAt Go.RowKit
set_option linter.unusedVariables false

/-- A value and an error of the project. -/
def OutPC (w : World) (t : Tr) (cd : Int) (e : Ending) (w' : World) : Prop := ∃ u par R, e = .returned (.tuple #[u, .int .i64 cd]) ∧ TPar w' par (R, 0) t u ∧ w.heap.size ≤ R ∧ Below w.heap.size w w'

/-- The union as it begins, in a box. -/
def CutU (w1 : World) (M : Nat) (X : Int) (L : Nat) (ks : List Ky) (vs : List Tr) (v : Value) (wx : World) : Prop :=
  ∃ B A' c' xs, v = .pointer (some ⟨B, 0, none⟩) ∧ Below w1.heap.size w1 wx ∧ w1.heap.size ≤ B ∧ wx.heap[B]? = some (.cells #[.int .i64 4, .int .i64 0, .string ⟨#[]⟩, .int .i64 X, .slice A' L c'] IV (0, 0)) ∧ OwU wx M (.slice A' L c') xs ks vs ∧ (Value.slice A' L c').ownBlock ≠ some B ∧ ∀ b, (Value.slice A' L c').ownBlock = some b → w1.heap.size ≤ b
section
variable {w1 n wF : World} {M B L c' : Nat} {X : Int} {ks : List Ky} {vs : List Tr} {A' : Option Addr} {xs : List Value}
theorem cutU_box (hw : Below w1.heap.size w1 n) (hM : M ≤ w1.heap.size) (hv : OwU n M (.slice A' L c') xs ks vs) (hlo : ∀ b, (Value.slice A' L c').ownBlock = some b → w1.heap.size ≤ b) :
    CutU w1 M X L ks vs (.pointer (some ⟨n.heap.size, 0, none⟩)) (n.alloc (.cells #[.int .i64 4, .int .i64 0, .string ⟨#[]⟩, .int .i64 X, .slice A' L c'] IV)) :=
  ⟨n.heap.size, A', c', xs, rfl, bs hw (b1 n _), hw.size, heap_alloc_new n _, hv.below (b1 n _), fun e => by have := (hv.block _ e).2; omega, hlo⟩
theorem cutU_early (hw : Below w1.heap.size w1 n) (hB : w1.heap.size ≤ B) (hM : M ≤ w1.heap.size) (ez : n.heap[B]? = some (.cells #[.int .i64 0, .int .i64 0, .string ⟨#[]⟩, .int .i64 0, .slice none 0 0] IV (0, 0))) (hv : OwU n M (.slice A' L c') xs ks vs) (hne : (Value.slice A' L c').ownBlock ≠ some B) (hlo : ∀ b, (Value.slice A' L c').ownBlock = some b → w1.heap.size ≤ b)
    (hF : (((((n.setCell ⟨B, 0, none⟩ (.int .i64 4)).setCell ⟨B, 1, none⟩ (.int .i64 0)).setCell ⟨B, 2, none⟩ (.string ⟨#[]⟩)).setCell ⟨B, 3, none⟩ (.int .i64 X)).setCell ⟨B, 4, none⟩ (.slice A' L c')) = wF) :
    CutU w1 M X L ks vs (.pointer (some ⟨B, 0, none⟩)) wF := by
  obtain ⟨-, oF, bF⟩ := fill5 ez hF
  have eF : wF.heap[B]? = some (.cells #[.int .i64 4, .int .i64 0, .string ⟨#[]⟩, .int .i64 X, .slice A' L c'] IV (0, 0)) := by
    rw [← hF]
    have := set_heap (set_heap (set_heap (set_heap (set_heap ez 0 (.int .i64 4)) 1 (.int .i64 0)) 2 (.string ⟨#[]⟩)) 3 (.int .i64 X)) 4 (.slice A' L c')
    simpa using this
  exact ⟨B, A', c', xs, rfl, bF _ _ hB hw, hB, eF, hv.keep (fun b hb _ => oF b (by omega)) (fun b e => oF b (fun e2 => hne (e2 ▸ e))), hne, hlo⟩
end

set_option maxRecDepth 100000 in
set_option maxHeartbeats 8000000 in
theorem union_i (t u : Tr) (v vu : Value) (w : World) (h : TIn w (Nw 0 w) t v) (h' : TIn w (Nw 0 w) u vu) (hN : cnt t + cnt u ≤ 1048578) (hT : tot t + tot u ≤ 1000000000) (hE : prs.Env w) :
    Calls Tryz.prog 101 #[v, vu] w (OutPC w (uniR t u) (uniC t u)) := by
  have IT : Hid (∀ w', Below w.heap.size w w' → Calls Tryz.prog 32 #[v] w' (BoQ w' (valB t))) := Lib.hid (fun w' hb => isValue_i t (by omega) w' _ v (hE.stays hb) (h.below' hb))
  have IU : Hid (∀ w', Below w.heap.size w w' → Calls Tryz.prog 32 #[vu] w' (BoQ w' (valB u))) := Lib.hid (fun w' hb => isValue_i u (by omega) w' _ vu (hE.stays hb) (h'.below' hb))
  have hft := h.fits
  obtain ⟨k, n, s, x, ks, vs⟩ := t
  obtain ⟨k', n', s', x', ks', vs'⟩ := u
  obtain ⟨A, c, rfl, hk, -⟩ := h.out
  obtain ⟨A', c', rfl, hk', -⟩ := h'.out
  have AR := fun w' => areArrays k n s x A vs.length c k' n' s' x' A' vs'.length c' w'
  have NU := nullValue_i
  have HH := Lib.hid h
  have HH' := Lib.hid h'
  have HN := Lib.hid hN
  have HTT := Lib.hid hT
  have HFT := Lib.hid hft
  obtain ⟨L, HL⟩ : ∃ L, Hid (vs.length = L) := ⟨_, Lib.hid rfl⟩
  obtain ⟨L', HL'⟩ : ∃ L, Hid (vs'.length = L) := ⟨_, Lib.hid rfl⟩
  rw [HL.out] at IT AR
  rw [HL'.out] at IU AR
  rw [HL.out, HL'.out]
  clear h h' hN hT hE hk hk' hft
  by_cases hk4 : k = 4 ∧ k' = 4
  · obtain ⟨rfl, rfl⟩ := hk4
    simp only [decide_true, Bool.and_true] at AR
    cases hv : valB (.mk 4 n s x ks vs) with
    | false =>
      obtain ⟨e1, e2⟩ := uni_not (t := .mk 4 n s x ks vs) (u := .mk 4 n' s' x' ks' vs') (by unfold uniB; rw [hv]; simp)
      rw [e1, e2]
      rw [hv] at IT
      have HAR := Lib.hid AR
      have HNU := Lib.hid NU
      clear e1 e2 hv IU HH HH' HN HTT HFT AR NU
      obtain ⟨a0, a1, a2, az, ab⟩ := al3 w #[.int .i64 4, .int .i64 n, .string s, .int .i64 x, .slice A L c] #[.int .i64 4, .int .i64 n', .string s', .int .i64 x', .slice A' L' c'] #[.int .i64 0, .int .i64 0, .string ⟨#[]⟩, .int .i64 0, .slice none 0 0] IV IV IV
      obtain ⟨W0, HW0⟩ : ∃ W, Hid (W = ((w.alloc (.cells #[.int .i64 4, .int .i64 n, .string s, .int .i64 x, .slice A L c] IV)).alloc (.cells #[.int .i64 4, .int .i64 n', .string s', .int .i64 x', .slice A' L' c'] IV)).alloc (.cells #[.int .i64 0, .int .i64 0, .string ⟨#[]⟩, .int .i64 0, .slice none 0 0] IV)) := ⟨_, Lib.hid rfl⟩
      rw [← HW0.out] at a0 a1 a2 az ab
      have A0 := Lib.hid a0
      have A1 := Lib.hid a1
      have A2 := Lib.hid a2
      have AB := Lib.hid ab
      obtain ⟨r0, f0⟩ := rowc a0
      obtain ⟨r1, f1⟩ := rowc a1
      obtain ⟨r2, f2⟩ := rowc a2
      clear a0 a1 a2 az ab
      go_enter Tryz.func101, Tryz.ntmps101
      go_wp2_with (fail)
      rw [← HW0.out]
      refine (HAR.out _).mono ?_
      rintro e w1 ⟨rfl, hb⟩
      replace A0 := Lib.hid (carry hb A0.out)
      replace A1 := Lib.hid (carry hb A1.out)
      replace A2 := Lib.hid (carry hb A2.out)
      replace AB := Lib.hid (bs AB.out hb)
      clear hb r0 f0 r1 f1 r2 f2
      obtain ⟨r0, f0⟩ := rowc A0.out
      obtain ⟨r1, f1⟩ := rowc A1.out
      obtain ⟨r2, f2⟩ := rowc A2.out
      go_wp2_with (fail)
      refine (IT.out _ AB.out).mono ?_
      rintro e w2 ⟨rfl, hb⟩
      replace A0 := Lib.hid (carry hb A0.out)
      replace A1 := Lib.hid (carry hb A1.out)
      replace A2 := Lib.hid (carry hb A2.out)
      replace AB := Lib.hid (bs AB.out hb)
      clear hb r0 f0 r1 f1 r2 f2
      obtain ⟨r0, f0⟩ := rowc A0.out
      obtain ⟨r1, f1⟩ := rowc A1.out
      obtain ⟨r2, f2⟩ := rowc A2.out
      go_wp2_with (fail)
      refine (HNU.out _).mono ?_
      rintro e w3 ⟨rfl, hb⟩
      replace A0 := Lib.hid (carry hb A0.out)
      replace A1 := Lib.hid (carry hb A1.out)
      replace A2 := Lib.hid (carry hb A2.out)
      replace AB := Lib.hid (bs AB.out hb)
      clear hb r0 f0 r1 f1 r2 f2
      obtain ⟨r0, f0⟩ := rowc A0.out
      obtain ⟨r1, f1⟩ := rowc A1.out
      obtain ⟨r2, f2⟩ := rowc A2.out
      go_wp2_with (fail)
      generalize hwF : (((((w3.setCell ⟨w.heap.size + 1 + 1, 0, none⟩ (.int .i64 0)).setCell ⟨w.heap.size + 1 + 1, 1, none⟩ (.int .i64 0)).setCell ⟨w.heap.size + 1 + 1, 2, none⟩ (.string ⟨#[]⟩)).setCell ⟨w.heap.size + 1 + 1, 3, none⟩ (.int .i64 0)).setCell ⟨w.heap.size + 1 + 1, 4, none⟩ (.slice none 0 0)) = wF
      obtain ⟨rF, oF, bF⟩ := fill5 A2.out hwF
      refine bodyPost_ret (v := .tuple #[vV 0 0 ⟨#[]⟩ 0 none 0 0, .int .i64 2]) ?_ rfl ?_
      · simp [results, Tryz.results101, go_sem, rF]
      · have hz := AB.out.size
        exact ⟨_, fun _ => (0, 0), w.heap.size, rfl, null_par _ _ _, Nat.le_refl _, bF _ _ (by omega) AB.out⟩
    | true =>
      rw [hv] at IT
      cases hv' : valB (.mk 4 n' s' x' ks' vs') with
      | false =>
        obtain ⟨e1, e2⟩ := uni_not (t := .mk 4 n s x ks vs) (u := .mk 4 n' s' x' ks' vs') (by unfold uniB; rw [hv']; simp)
        rw [e1, e2]
        rw [hv'] at IU
        have HAR := Lib.hid AR
        have HNU := Lib.hid NU
        clear e1 e2 hv hv' HH HH' HN HTT HFT AR NU
        obtain ⟨a0, a1, a2, az, ab⟩ := al3 w #[.int .i64 4, .int .i64 n, .string s, .int .i64 x, .slice A L c] #[.int .i64 4, .int .i64 n', .string s', .int .i64 x', .slice A' L' c'] #[.int .i64 0, .int .i64 0, .string ⟨#[]⟩, .int .i64 0, .slice none 0 0] IV IV IV
        obtain ⟨W0, HW0⟩ : ∃ W, Hid (W = ((w.alloc (.cells #[.int .i64 4, .int .i64 n, .string s, .int .i64 x, .slice A L c] IV)).alloc (.cells #[.int .i64 4, .int .i64 n', .string s', .int .i64 x', .slice A' L' c'] IV)).alloc (.cells #[.int .i64 0, .int .i64 0, .string ⟨#[]⟩, .int .i64 0, .slice none 0 0] IV)) := ⟨_, Lib.hid rfl⟩
        rw [← HW0.out] at a0 a1 a2 az ab
        have A0 := Lib.hid a0
        have A1 := Lib.hid a1
        have A2 := Lib.hid a2
        have AB := Lib.hid ab
        obtain ⟨r0, f0⟩ := rowc a0
        obtain ⟨r1, f1⟩ := rowc a1
        obtain ⟨r2, f2⟩ := rowc a2
        clear a0 a1 a2 az ab
        go_enter Tryz.func101, Tryz.ntmps101
        go_wp2_with (fail)
        rw [← HW0.out]
        refine (HAR.out _).mono ?_
        rintro e w1 ⟨rfl, hb⟩
        replace A0 := Lib.hid (carry hb A0.out)
        replace A1 := Lib.hid (carry hb A1.out)
        replace A2 := Lib.hid (carry hb A2.out)
        replace AB := Lib.hid (bs AB.out hb)
        clear hb r0 f0 r1 f1 r2 f2
        obtain ⟨r0, f0⟩ := rowc A0.out
        obtain ⟨r1, f1⟩ := rowc A1.out
        obtain ⟨r2, f2⟩ := rowc A2.out
        go_wp2_with (fail)
        refine (IT.out _ AB.out).mono ?_
        rintro e w2 ⟨rfl, hb⟩
        replace A0 := Lib.hid (carry hb A0.out)
        replace A1 := Lib.hid (carry hb A1.out)
        replace A2 := Lib.hid (carry hb A2.out)
        replace AB := Lib.hid (bs AB.out hb)
        clear hb r0 f0 r1 f1 r2 f2
        obtain ⟨r0, f0⟩ := rowc A0.out
        obtain ⟨r1, f1⟩ := rowc A1.out
        obtain ⟨r2, f2⟩ := rowc A2.out
        go_wp2_with (fail)
        refine (IU.out _ AB.out).mono ?_
        rintro e w3 ⟨rfl, hb⟩
        replace A0 := Lib.hid (carry hb A0.out)
        replace A1 := Lib.hid (carry hb A1.out)
        replace A2 := Lib.hid (carry hb A2.out)
        replace AB := Lib.hid (bs AB.out hb)
        clear hb r0 f0 r1 f1 r2 f2
        obtain ⟨r0, f0⟩ := rowc A0.out
        obtain ⟨r1, f1⟩ := rowc A1.out
        obtain ⟨r2, f2⟩ := rowc A2.out
        go_wp2_with (fail)
        refine (HNU.out _).mono ?_
        rintro e w4 ⟨rfl, hb⟩
        replace A0 := Lib.hid (carry hb A0.out)
        replace A1 := Lib.hid (carry hb A1.out)
        replace A2 := Lib.hid (carry hb A2.out)
        replace AB := Lib.hid (bs AB.out hb)
        clear hb r0 f0 r1 f1 r2 f2
        obtain ⟨r0, f0⟩ := rowc A0.out
        obtain ⟨r1, f1⟩ := rowc A1.out
        obtain ⟨r2, f2⟩ := rowc A2.out
        go_wp2_with (fail)
        generalize hwF : (((((w4.setCell ⟨w.heap.size + 1 + 1, 0, none⟩ (.int .i64 0)).setCell ⟨w.heap.size + 1 + 1, 1, none⟩ (.int .i64 0)).setCell ⟨w.heap.size + 1 + 1, 2, none⟩ (.string ⟨#[]⟩)).setCell ⟨w.heap.size + 1 + 1, 3, none⟩ (.int .i64 0)).setCell ⟨w.heap.size + 1 + 1, 4, none⟩ (.slice none 0 0)) = wF
        obtain ⟨rF, oF, bF⟩ := fill5 A2.out hwF
        refine bodyPost_ret (v := .tuple #[vV 0 0 ⟨#[]⟩ 0 none 0 0, .int .i64 2]) ?_ rfl ?_
        · simp [results, Tryz.results101, go_sem, rF]
        · have hz := AB.out.size
          exact ⟨_, fun _ => (0, 0), w.heap.size, rfl, null_par _ _ _, Nat.le_refl _, bF _ _ (by omega) AB.out⟩
      | true =>
        rw [hv'] at IU
        have hB : uniB (.mk 4 n s x ks vs) (.mk 4 n' s' x' ks' vs') = true := by unfold uniB; rw [hv, hv']; rfl
        obtain ⟨hs0, rfl, hx, hit⟩ := val_four hv
        obtain rfl : s = ⟨#[]⟩ := by
          apply ByteArray.ext
          apply Array.toList_inj.1
          exact List.eq_nil_of_length_eq_zero hs0
        obtain ⟨-, -, hx', hit'⟩ := val_four hv'
        have HCD := Lib.hid (And.intro (fun hw => uni_fits hB hw) (fun hw => uni_big hB hw))
        obtain ⟨cd, HCDD⟩ : ∃ cd, Hid (uniC (.mk 4 0 ⟨#[]⟩ x ks vs) (.mk 4 n' s' x' ks' vs') = cd) := ⟨_, Lib.hid rfl⟩
        obtain ⟨RR, HRR⟩ : ∃ RR, Hid (uniR (.mk 4 0 ⟨#[]⟩ x ks vs) (.mk 4 n' s' x' ks' vs') = RR) := ⟨_, Lib.hid rfl⟩
        rw [HCDD.out, HRR.out] at HCD ⊢
        have HUC : Hid (cnt (uniT (.mk 4 0 ⟨#[]⟩ x ks vs) (.mk 4 n' s' x' ks' vs')) ≤ 1048578) := Lib.hid (by have := HN.out; have := uni_cnt (.mk 4 0 ⟨#[]⟩ x ks vs) (.mk 4 n' s' x' ks' vs'); omega)
        have HUT : Hid (tot (uniT (.mk 4 0 ⟨#[]⟩ x ks vs) (.mk 4 n' s' x' ks' vs')) ≤ 1000000000) := Lib.hid (by have := HTT.out; have := uni_tot (.mk 4 0 ⟨#[]⟩ x ks vs) (.mk 4 n' s' x' ks' vs') HFT.out; omega)
        rw [uni_mk] at HUC HUT HCD
        have MX := nums.implMax x x'
        obtain ⟨X, HX⟩ : ∃ X, Hid (nums.mx x x' = X) := ⟨_, Lib.hid rfl⟩
        rw [HX.out] at MX HUC HUT HCD
        have HXB : Hid (0 ≤ X ∧ X ≤ 1000000001) := Lib.hid (by rw [← HX.out]; unfold nums.mx; split <;> omega)
        have hcl : ks.length = vs.length := by obtain ⟨_, _, _, _, h⟩ := HH.out.out; exact h.1
        have hcl' : ks'.length = vs'.length := by obtain ⟨_, _, _, _, h⟩ := HH'.out.out; exact h.1
        have HCL := Lib.hid (And.intro hcl hcl')
        have HIT := Lib.hid hit'
        have hLL : L ≤ 1048578 ∧ L' ≤ 1048578 := by
          have h1 := HN.out
          have h2 := cnts_len vs
          have h3 := cnts_len vs'
          rw [cnt_mk', cnt_mk'] at h1
          rw [← HL.out, ← HL'.out]
          omega
        obtain ⟨A9, c9, e9, -, hin⟩ := HH.out.out
        obtain ⟨rfl, rfl⟩ : A = A9 ∧ c = c9 := by simpa [vV, HL.out] using e9
        obtain ⟨A9, c9, e9', -, hin'⟩ := HH'.out.out
        obtain ⟨rfl, rfl⟩ : A' = A9 ∧ c' = c9 := by simpa [vV, HL'.out] using e9'
        have HI : Hid (IsIn w (fun b => b < w.heap.size ∧ Plain w b) ks vs A) := Lib.hid (hin.stays (fun b hb => ⟨hb.2.lt, hb.2⟩) (fun _ _ _ => rfl))
        have HI' : Hid (IsIn w (fun b => b < w.heap.size ∧ Plain w b) ks' vs' A') := Lib.hid (hin'.stays (fun b hb => ⟨hb.2.lt, hb.2⟩) (fun _ _ _ => rfl))
        have CL : Hid (∀ w', Below w.heap.size w w' → Calls Tryz.prog 144 #[.slice A L c] w' (CoQ w' w.heap.size ks vs L)) := Lib.hid (fun w' hb => by
          have := copyItemsO ks vs A c w' w.heap.size ((HI.out.below hb).stays (fun b hb2 => ⟨hb2.1, hb2.2.same (hb.block b hb2.1)⟩) (fun _ _ _ => rfl)) (by rw [HL.out]; omega) hb.size
          rw [HL.out] at this
          exact this)
        have FK : Hid (∀ (y : Ky) w', Below w.heap.size w w' → Calls Tryz.prog 170 #[vV 4 0 ⟨#[]⟩ x A L c, kyV y] w' (LtQ w' (pos ks y 0))) := Lib.hid (fun y w' hb => by
          have := findKey_i (.mk 4 0 ⟨#[]⟩ x ks vs) (vV 4 0 ⟨#[]⟩ x A vs.length c) y w' _ (HH.out.below' hb)
          rw [posV_four, HL.out] at this
          exact this)
        have HAR := Lib.hid AR
        have HNU := Lib.hid NU
        have HMX := Lib.hid MX
        clear e9 e9' hin hin' hv hv' hB hs0 hx hx' hit hit' hcl hcl' HX HN HTT HFT HH HH' AR NU MX
        obtain ⟨a0, a1, a2, az, ab⟩ := al3 w #[.int .i64 4, .int .i64 0, .string ⟨#[]⟩, .int .i64 x, .slice A L c] #[.int .i64 4, .int .i64 n', .string s', .int .i64 x', .slice A' L' c'] #[.int .i64 0, .int .i64 0, .string ⟨#[]⟩, .int .i64 0, .slice none 0 0] IV IV IV
        obtain ⟨W0, HW0⟩ : ∃ W, Hid (W = ((w.alloc (.cells #[.int .i64 4, .int .i64 0, .string ⟨#[]⟩, .int .i64 x, .slice A L c] IV)).alloc (.cells #[.int .i64 4, .int .i64 n', .string s', .int .i64 x', .slice A' L' c'] IV)).alloc (.cells #[.int .i64 0, .int .i64 0, .string ⟨#[]⟩, .int .i64 0, .slice none 0 0] IV)) := ⟨_, Lib.hid rfl⟩
        rw [← HW0.out] at a0 a1 a2 az ab
        have A0 := Lib.hid a0
        have A1 := Lib.hid a1
        have A2 := Lib.hid a2
        have AB := Lib.hid ab
        obtain ⟨r0, f0⟩ := rowc a0
        obtain ⟨r1, f1⟩ := rowc a1
        obtain ⟨r2, f2⟩ := rowc a2
        clear a0 a1 a2 az ab
        go_enter Tryz.func101, Tryz.ntmps101
        go_wp2_with (fail)
        rw [← HW0.out]
        refine (HAR.out _).mono ?_
        rintro e w1 ⟨rfl, hb⟩
        replace A0 := Lib.hid (carry hb A0.out)
        replace A1 := Lib.hid (carry hb A1.out)
        replace A2 := Lib.hid (carry hb A2.out)
        replace AB := Lib.hid (bs AB.out hb)
        clear hb r0 f0 r1 f1 r2 f2
        obtain ⟨r0, f0⟩ := rowc A0.out
        obtain ⟨r1, f1⟩ := rowc A1.out
        obtain ⟨r2, f2⟩ := rowc A2.out
        go_wp2_with (fail)
        refine (IT.out _ AB.out).mono ?_
        rintro e w2 ⟨rfl, hb⟩
        replace A0 := Lib.hid (carry hb A0.out)
        replace A1 := Lib.hid (carry hb A1.out)
        replace A2 := Lib.hid (carry hb A2.out)
        replace AB := Lib.hid (bs AB.out hb)
        clear hb r0 f0 r1 f1 r2 f2
        obtain ⟨r0, f0⟩ := rowc A0.out
        obtain ⟨r1, f1⟩ := rowc A1.out
        obtain ⟨r2, f2⟩ := rowc A2.out
        go_wp2_with (fail)
        refine (IU.out _ AB.out).mono ?_
        rintro e w3 ⟨rfl, hb⟩
        replace A0 := Lib.hid (carry hb A0.out)
        replace A1 := Lib.hid (carry hb A1.out)
        replace A2 := Lib.hid (carry hb A2.out)
        replace AB := Lib.hid (bs AB.out hb)
        clear hb r0 f0 r1 f1 r2 f2
        obtain ⟨r0, f0⟩ := rowc A0.out
        obtain ⟨r1, f1⟩ := rowc A1.out
        obtain ⟨r2, f2⟩ := rowc A2.out
        go_upto_region 3 with fail
        go_cut [6] (fun v wx => CutU w3 w.heap.size X L ks vs v wx)
        case first =>
          have kr0 := r0 3
          have kr1 := r1 3
          have kr2 := r0 4
          simp at kr0 kr1 kr2
          have nz0 : w3.heap.size ≠ w.heap.size := by have := (Array.getElem?_eq_some_iff.1 A0.out).1; omega
          have nz1 : w3.heap.size ≠ w.heap.size + 1 := by have := (Array.getElem?_eq_some_iff.1 A1.out).1; omega
          have HW : Hid (Below w3.heap.size w3 w3) := Lib.hid (Below.refl _ _)
          clear r0 r1 r2
          go_region_held3 (fun w' => w'.cell? ⟨w.heap.size, 3, none⟩ = some (.int .i64 x) ∧ w'.cell? ⟨w.heap.size + 1, 3, none⟩ = some (.int .i64 x') ∧ w'.cell? ⟨w.heap.size, 4, none⟩ = some (.slice A L c)) (first | with_reducible exact ⟨kr0, kr1, kr2⟩ | with_reducible exact ⟨drc (alc kr0), drc (alc kr1), drc (alc kr2)⟩ | with_reducible exact ⟨drc kr0, drc kr1, drc kr2⟩ | with_reducible exact ⟨alc kr0, alc kr1, alc kr2⟩ | with_reducible exact ⟨alc (drc kr0), alc (drc kr1), alc (drc kr2)⟩ | with_reducible exact ⟨st5 kr0 (by assumption), st5 kr1 (by assumption), st5 kr2 (by assumption)⟩ | with_reducible exact ⟨st5 (alc kr0) (by assumption), st5 (alc kr1) (by assumption), st5 (alc kr2) (by assumption)⟩ | go_keep)
            (first
            | (go_at_call 169
               refine (HMX.out _).mono ?_
               rintro e wm ⟨rfl, rfl⟩)
            | (go_at_call 144
               refine (CL.out _ (by first | with_reducible exact AB.out | with_reducible exact AB.out.trans ((Below.refl _ _).drew) | with_reducible exact AB.out.alloc AB.out.size _ | with_reducible exact (AB.out.trans ((Below.refl _ _).drew)).alloc AB.out.size _ | with_reducible exact (AB.out.alloc AB.out.size _).trans ((Below.refl _ _).drew))).mono ?_
               rintro e w4 ⟨Ac, cc, xs, rfl, hO, hlo, hb⟩
               have hbx : Below w3.heap.size w3 w4 := by first | exact hb | exact bs ((Below.refl _ _).drew) hb | exact bs (b1 _ _) hb | exact bs (bs ((Below.refl _ _).drew) (b1 _ _)) hb | exact bs (bs (b1 _ _) ((Below.refl _ _).drew)) hb
               have HOO := Lib.hid hO
               have HLO := Lib.hid hlo
               have HL3 : Hid (∀ b, (Value.slice Ac L cc).ownBlock = some b → w3.heap.size ≤ b) := Lib.hid (fun b e => by first | exact hlo b e | (have h9 := hlo b e; simp at h9; omega))
               first | (have nzw := Lib.hid (Array.getElem?_eq_some_iff.1 (heap_alloc_new w3 (.cells #[.int .i64 0, .int .i64 0, .string ⟨#[]⟩, .int .i64 0, .slice none 0 0] IV))).1; have ez := Lib.hid (carry hb (heap_alloc_new w3 (.cells #[.int .i64 0, .int .i64 0, .string ⟨#[]⟩, .int .i64 0, .slice none 0 0] IV)))) | (have nzw := Lib.hid (Array.getElem?_eq_some_iff.1 (heap_alloc_new w3.drew (.cells #[.int .i64 0, .int .i64 0, .string ⟨#[]⟩, .int .i64 0, .slice none 0 0] IV))).1; have ez := Lib.hid (carry hb (heap_alloc_new w3.drew (.cells #[.int .i64 0, .int .i64 0, .string ⟨#[]⟩, .int .i64 0, .slice none 0 0] IV)))) | skip
               replace HW := Lib.hid (bs HW.out hbx)
               have hz4 : w3.heap.size ≤ w4.heap.size := HW.out.size
               have kr0 : w4.cell? ⟨w.heap.size, 3, none⟩ = some (.int .i64 x) := (rowc (carry hbx A0.out)).1 3
               have kr1 : w4.cell? ⟨w.heap.size + 1, 3, none⟩ = some (.int .i64 x') := (rowc (carry hbx A1.out)).1 3
               have kr2 : w4.cell? ⟨w.heap.size, 4, none⟩ = some (.slice A L c) := (rowc (carry hbx A0.out)).1 4
               have nz0 : w4.heap.size ≠ w.heap.size := by have := (Array.getElem?_eq_some_iff.1 (carry hbx A0.out)).1; omega
               have nz1 : w4.heap.size ≠ w.heap.size + 1 := by have := (Array.getElem?_eq_some_iff.1 (carry hbx A1.out)).1; omega
               clear hO hlo hb hbx
               first | (have zr := (rowc ez.out).1; have zf := (rowc ez.out).2) | skip))
          all_goals
            go_wp2_with (fail)
            go_meet
            first
            | with_reducible exact cutU_box HW.out AB.out.size HOO.out HL3.out
            | exact cutU_early HW.out (by first | exact Nat.le_refl _ | assumption) AB.out.size ez.out HOO.out (fun e => absurd nzw.out (Nat.not_lt.2 (HLO.out _ e))) HL3.out rfl
        case rest =>
          obtain ⟨B, Ao, co, xs, rfl, hb, hB, eB, hO, hne, hlo⟩ := hcut
          replace A0 := Lib.hid (carry hb A0.out)
          replace A1 := Lib.hid (carry hb A1.out)
          have hBA : w.heap.size + 1 + 1 < B := Nat.lt_of_lt_of_le (Array.getElem?_eq_some_iff.1 A2.out).1 hB
          replace A2 := Lib.hid (carry hb A2.out)
          replace AB := Lib.hid (bs AB.out hb)
          have EB := Lib.hid eB
          have HO := Lib.hid hO
          have HNE := Lib.hid hne
          have HBA := Lib.hid hBA
          clear hb hB eB hO hne hlo r0 f0 r1 f1 r2 f2 hBA
          obtain ⟨r1, f1⟩ := rowc A1.out
          go_wp2_with (fail)
          clear r1 f1
          go_loopg [36] (L' + 1) (fun gk i wr => ∃ (j : Nat) (K : List Ky) (V : List Tr) (Ao : Option Addr) (M co : Nat) (xs : List Value), i = .int .i64 j ∧ gk + j = L' + 1 ∧ j ≤ L' ∧ M ≤ 3000000 ∧ Hid (UnR ks ks' vs vs' j K V) ∧ Hid ((vs ++ V).length = M) ∧ Hid (M ≤ L + j) ∧
            Hid (OwU wr w.heap.size (.slice Ao M co) xs (ks ++ K) (vs ++ V)) ∧ Hid ((Value.slice Ao M co).ownBlock ≠ some B) ∧
            Hid (wr.heap[w.heap.size]? = some (.cells #[.int .i64 4, .int .i64 0, .string ⟨#[]⟩, .int .i64 x, .slice A L c] IV (0, 0))) ∧ Hid (wr.heap[w.heap.size + 1 + 1]? = some (.cells #[.int .i64 0, .int .i64 0, .string ⟨#[]⟩, .int .i64 0, .slice none 0 0] IV (0, 0))) ∧
            Hid (wr.heap[B]? = some (.cells #[.int .i64 4, .int .i64 0, .string ⟨#[]⟩, .int .i64 X, .slice Ao M co] IV (0, 0))) ∧ Below w.heap.size w wr)
          case atStart => exact ⟨0, [], [], Ao, L, co, xs, rfl, by omega, by omega, by omega, Lib.hid (UnR.start _ _ _ _), Lib.hid (by simpa using HL.out), Lib.hid (by omega), Lib.hid (by rw [List.append_nil, List.append_nil]; exact HO.out), HNE, A0, A2, EB, AB.out⟩
          case round =>
            clear HO HNE EB A0 A1 A2 AB HW0
            obtain ⟨j, K, V, Ao, M, co, xs, rfl, hgj, hjL, hM3, HU, HM, HMJ, HO, HNE, E0, E2, EB, hb⟩ := hrel
            have HB := Lib.hid hb
            clear hb
            by_cases hlt : j < L'
            · obtain ⟨a, y, k1, n1, s1, x1, ks1, vs1, A1', c1, rfl, hSa, hky, hvs, ht, hyb, hkb, -, hcell⟩ := (HI'.out.below HB.out).item (i := j) (by rw [HL'.out]; exact hlt)
              obtain ⟨hnew, hbel⟩ := items_key HCL.out.2 HIT.out hky
              obtain ⟨L1, HL1⟩ : ∃ L1, Hid (vs1.length = L1) := ⟨_, Lib.hid rfl⟩
              have HTI : Hid (TIn wr (fun b => b < w.heap.size ∧ Plain wr b) (.mk k1 n1 s1 x1 ks1 vs1) (vV k1 n1 s1 x1 A1' vs1.length c1)) := Lib.hid (ht.stays (fun b hb => ⟨hb.1, hb.2.same (HB.out.block b hb.1)⟩) (fun _ _ _ => rfl))
              rw [HL1.out] at hcell
              obtain ⟨p0, p1, p2, p3, p4, p5, p6, p7⟩ := hcell
              have FKy := FK.out y
              have HYB := Lib.hid hyb
              have hwr : IntKind.i64.wrap ((j : Int) + 1) = (j : Int) + 1 := by rw [IntKind.wrap_i64]; omega
              have ka : ∀ o q, (wr.alloc o).cell? ⟨w.heap.size, q, none⟩ = _ := fun o q => (rowc (keepAlloc E0.out)).1 q
              by_cases hm : y ∈ ks
              · have HU2 := Lib.hid (HU.out.skip hky hvs hm)
                obtain ⟨P, HP⟩ : ∃ P, Hid (pos ks y 0 = P) := ⟨_, Lib.hid rfl⟩
                have hP : 0 ≤ P := by
                  have h1 := pos_ge ks y 0
                  have h2 : ¬ pos ks y 0 = -1 := fun e => (pos_neg ks y 0).1 e hm
                  rw [HP.out] at h1 h2
                  simp at h1
                  omega
                rw [HP.out] at FKy
                obtain ⟨yb, yn, ys⟩ := y
                unfold kyV at FKy
                have FKH := Lib.hid FKy
                simp only at p0 p1 p2
                have hneg : ¬ P < 0 := by omega
                clear FKy hky hvs ht hyb hkb hnew hbel hm HP
                go_wp2_with (fail)
                refine (FKH.out _ (bs HB.out (b1 _ _))).mono ?_
                rintro e w5 ⟨rfl, hb5⟩
                have HBC : Hid (Below wr.heap.size wr w5) := Lib.hid (bs (b1 _ _) hb5)
                clear hb5 p0 p1 p2 p3 p4 p5 p6 p7 FKH ka
                go_wp2_with (fail)
                go_roundg (L' - j)
                case rel => exact ⟨j + 1, K, V, Ao, M, co, xs, by go_num, by omega, by omega, hM3, HU2, HM, Lib.hid (by have := HMJ.out; omega), Lib.hid (HO.out.below HBC.out), HNE, Lib.hid (carry HBC.out E0.out), Lib.hid (carry HBC.out E2.out), Lib.hid (carry HBC.out EB.out), bs HB.out HBC.out⟩
                case measure => omega
              · have HU2 := Lib.hid (HU.out.more hky hvs hm)
                have hP : pos ks y 0 = -1 := (pos_neg ks y 0).2 hm
                rw [hP] at FKy
                obtain ⟨T1, HT1⟩ : ∃ T, Hid (Tr.mk k1 n1 s1 x1 ks1 vs1 = T) := ⟨_, Lib.hid rfl⟩
                rw [HT1.out] at HU2
                have HM2 : Hid ((vs ++ (V ++ [T1])).length = M + 1) := Lib.hid (by rw [← List.append_assoc, List.length_append, HM.out]; rfl)
                obtain ⟨KK, HKK⟩ : ∃ KK, Hid (K ++ [y] = KK) := ⟨_, Lib.hid rfl⟩
                rw [HKK.out] at HU2
                obtain ⟨yb, yn, ys⟩ := y
                unfold kyV at FKy
                have FKH := Lib.hid FKy
                simp only at p0 p1 p2
                clear FKy hky hvs ht hyb hkb hnew hbel hm hP
                go_wp2_with (fail)
                refine (FKH.out _ (bs HB.out (b1 _ _))).mono ?_
                rintro e w5 ⟨rfl, hb5⟩
                have E8 := Lib.hid (carry hb5 (heap_alloc_new wr (.cells #[.bool yb, .int .i64 yn, .string ys, .int .i64 k1, .int .i64 n1, .string s1, .int .i64 x1, .slice A1' L1 c1] IE)))
                have HBC : Hid (Below wr.heap.size wr w5) := Lib.hid (bs (b1 _ _) hb5)
                have EB5 := Lib.hid (carry HBC.out EB.out)
                have E05 := Lib.hid (carry HBC.out E0.out)
                have E25 := Lib.hid (carry HBC.out E2.out)
                clear hb5 p0 p1 p2 p3 p4 p5 p6 p7 FKH ka
                obtain ⟨r8, f8⟩ := rowc E8.out
                obtain ⟨rB, fB⟩ := rowc EB5.out
                have HO5 := Lib.hid (HO.out.below HBC.out)
                have HB5 := Lib.hid (bs HB.out HBC.out)
                obtain ⟨i0, hi, hz⟩ := ie_info
                obtain ⟨V8, HV8⟩ : ∃ V, Hid (V = w5.alloc (.cells #[.bool yb, .int .i64 yn, .string ys, .int .i64 k1, .int .i64 n1, .string s1, .int .i64 x1, .slice A1' L1 c1] IE)) := ⟨_, Lib.hid rfl⟩
                have hV8s : V8.heap.size = w5.heap.size + 1 := by rw [HV8.out]; simp
                have hBV8 : Below w.heap.size w V8 := by rw [HV8.out]; exact bs HB5.out (b1 w5 _)
                have hB58 : Below w5.heap.size w5 V8 := by rw [HV8.out]; exact b1 w5 _
                have HO8 := Lib.hid (HO5.out.below hB58)
                have own0 : V8.ownsRow w.heap.size IE 8 (.slice Ao M co) M xs := by have := HO8.out.1; rw [HM.out] at this; exact this
                obtain ⟨v5, W5, hr1, own1, gb1, hn1⟩ := run_append_own (P := Tryz.prog) V8 w.heap.size 30 30 IE i0 _ 8 96 Tryz.underlying30 hi hz.1 hz.2.1 hz.2.2 rfl (by decide) _ M xs own0 ⟨w5.heap.size, 0, none⟩ 1 1 [.bool yb, .int .i64 yn, .string ys, .int .i64 k1, .int .i64 n1, .string s1, .int .i64 x1, .slice A1' L1 c1] rfl
                  (by rw [HV8.out]; exact eight_new _ _ _ _ _ _ _ _ _ _) (eight_one _ _ _ _ _ _ _ _ _ _) (by unfold maxLen; omega) (by omega) (by have := hBV8.size; omega)
                have HO9 : Hid (OwU W5 w.heap.size v5 _ (ks ++ K ++ [⟨yb, yn, ys⟩]) (vs ++ V ++ [.mk k1 n1 s1 x1 ks1 vs1])) := Lib.hid (by
                  have hbx : Below wr.heap.size wr V8 := bs HBC.out hB58
                  have h9 := OwU.more HO8.out hBV8.size (y := ⟨yb, yn, ys⟩) HYB.out ((HTI.out.below' hbx).stays (fun b hb => ⟨hb.1, hb.2.same (hbx.block b hb.2.lt)⟩) (fun _ _ _ => rfl)) (v' := v5) (w' := W5) (by rw [HM.out, HL1.out]; exact own1) gb1
                  exact h9)
                have kIV : ∀ {q : Nat} {cs : Array Value}, w5.heap[q]? = some (.cells cs IV (0, 0)) → W5.heap[q]? = some (.cells cs IV (0, 0)) := fun {q cs} hq => by
                  have h8 := carry hB58 hq
                  exact (gb1.block q (Array.getElem?_eq_some_iff.1 h8).1 (HO8.out.far h8)).trans h8
                have kB := kIV EB5.out
                have k0 := kIV E05.out
                have k2 := kIV E25.out
                rcases own1.2 with ⟨rfl, h0⟩ | ⟨g5, c5, cur5, rfl, hb5, hg5, hnc5, hcm5, hcs5, htk5⟩
                · exact absurd h0 (by omega)
                have hgB : some B ≠ (Value.slice (some ⟨g5, 0, none⟩) (M + 1) c5).ownBlock := HO9.out.far kB
                have hBW : Below w.heap.size w W5 := grown_below' hBV8 gb1 (by have := hBV8.size; omega) (fun b e => (HO8.out.block b e).1)
                have hba := HBA.out
                obtain ⟨W6, HW6⟩ : ∃ W6, Hid (W5.setCell ⟨B, 4, none⟩ (.slice (some ⟨g5, 0, none⟩) (M + 1) c5) = W6) := ⟨_, Lib.hid rfl⟩
                have HFIN : Hid (OwU W6 w.heap.size (.slice (some ⟨g5, 0, none⟩) (M + 1) c5) (xs ++ [.bool yb, .int .i64 yn, .string ys, .int .i64 k1, .int .i64 n1, .string s1, .int .i64 x1, .slice A1' vs1.length c1]) (ks ++ KK) (vs ++ (V ++ [T1])) ∧ (Value.slice (some ⟨g5, 0, none⟩) (M + 1) c5).ownBlock ≠ some B ∧
                    W6.heap[w.heap.size]? = some (.cells #[.int .i64 4, .int .i64 0, .string ⟨#[]⟩, .int .i64 x, .slice A L c] IV (0, 0)) ∧ W6.heap[w.heap.size + 1 + 1]? = some (.cells #[.int .i64 0, .int .i64 0, .string ⟨#[]⟩, .int .i64 0, .slice none 0 0] IV (0, 0)) ∧
                    W6.heap[B]? = some (.cells #[.int .i64 4, .int .i64 0, .string ⟨#[]⟩, .int .i64 X, .slice (some ⟨g5, 0, none⟩) (M + 1) c5] IV (0, 0)) ∧ Below w.heap.size w W6) := Lib.hid (by
                  rw [← HW6.out]
                  refine ⟨?_, fun e => hgB e.symm, by rw [set_other (by omega)]; exact k0, by rw [set_other (by omega)]; exact k2, by have := set_heap kB 4 (.slice (some ⟨g5, 0, none⟩) (M + 1) c5); simpa using this, hBW.setCell (show w.heap.size ≤ B by omega) _⟩
                  have h9 := HO9.out
                  rw [List.append_assoc, List.append_assoc, HT1.out, HKK.out] at h9
                  exact h9.keep (fun b hb _ => set_other (by omega)) (fun b e => set_other (fun e2 => hgB (by rw [e, e2]))))
                obtain ⟨rB5, fB5⟩ := rowc kB
                rw [HV8.out] at hr1
                have hM1 : M + 1 ≤ 3000000 := by have := HMJ.out; omega
                unfold IE at hr1
                clear hV8s hBV8 hB58 HO8 own0 own1 gb1 hn1 HO9 kIV kB k0 k2 hb5 hg5 hnc5 hcm5 hcs5 htk5 hgB hBW hba hi hz HO HNE HU E0 E2 EB HO5 HTI HYB
                go_wp2_with (first
                  | (at_builtin; refine wpList_append_eq (by rfl) _ _ _ (by rfl) (by with_reducible exact hr1) (by rfl) (by rfl) ?_)
                  | fail)
                rw [HW6.out]
                go_roundg (L' - j)
                case rel =>
                  obtain ⟨q1, q2, q3, q4, q5, q6⟩ := HFIN.out
                  exact ⟨j + 1, KK, V ++ [T1], some ⟨g5, 0, none⟩, M + 1, c5, _, by go_num, by omega, by omega, hM1, HU2, HM2, Lib.hid (by have := HMJ.out; omega), Lib.hid q1, Lib.hid q2, Lib.hid q3, Lib.hid q4, Lib.hid q5, q6⟩
                case measure => omega
            · obtain rfl : j = L' := by omega
              obtain ⟨eK, eV⟩ := (HL'.out ▸ HU.out : UnR ks ks' vs vs' vs'.length K V).stop
              subst eK eV
              obtain ⟨A8, c8, e8, hcp, hin8⟩ := HO.out.isin (by rw [HM.out]; unfold maxLen; omega)
              rw [HM.out] at e8 hcp
              obtain ⟨rfl, rfl⟩ : Ao = A8 ∧ co = c8 := by simpa using e8
              have hT8 := TIn.of (k := 4) (n := 0) (x := X) (s := ⟨#[]⟩) co (by have := HXB.out; unfold I64; exact ⟨by omega, by omega, by omega, by simp [ByteArray.size]⟩) hin8 (by rw [HM.out]; exact hcp)
              rw [HM.out] at hT8
              have HT8 := Lib.hid hT8
              obtain ⟨T, HT⟩ : ∃ T, Hid (Tr.mk 4 0 ⟨#[]⟩ X (ks ++ uk ks ks' vs') (vs ++ uv ks ks' vs') = T) := ⟨_, Lib.hid rfl⟩
              rw [HT.out] at HT8 HUC HUT HCD
              have LT := Lib.hid (light_i T wr _ _ HT8.out)
              unfold lightB at LT
              obtain ⟨rB, fB⟩ := rowc EB.out
              clear hT8 e8 hcp hin8 HO HNE HU
              by_cases hw : wgt T ≤ 200
              · obtain ⟨e1, e2⟩ := HCD.out.1 hw
                have e3 := e2.symm
                clear e2
                subst e1 e3
                rw [decide_eq_true hw] at LT
                clear hw
                go_wp2_with (fail)
                refine LT.out.mono ?_
                rintro e w5 ⟨rfl, hb⟩
                have EB5 := Lib.hid (carry hb EB.out)
                have E25 := Lib.hid (carry hb E2.out)
                have HB5 := Lib.hid (bs HB.out hb)
                have CV := Lib.hid (copyValue T _ w5 0 (HT8.out.nwb hb) HUC.out HUT.out)
                clear hb rB fB
                obtain ⟨rB, fB⟩ := rowc EB5.out
                go_wp2_with (fail)
                refine CV.out.mono ?_
                rintro e w6 ⟨u, par, R, rfl, hu, hR, hb⟩
                have E26 := Lib.hid (carry hb E25.out)
                have HB6 := Lib.hid (bs HB5.out hb)
                have HU6 := Lib.hid hu
                have hR2 := HB5.out.size
                have hN2 := (Array.getElem?_eq_some_iff.1 E25.out).1
                have HRR := Lib.hid (show w.heap.size ≤ R ∧ w.heap.size + 1 + 1 < R + 1 from ⟨by omega, by omega⟩)
                rw [← HT.out] at hu HU6
                obtain ⟨Az, cz, rfl, -⟩ := hu.out
                rw [HM.out] at HU6 ⊢
                clear hb hu hR hR2 hN2 rB fB
                obtain ⟨r2, f2⟩ := rowc E26.out
                go_wp2_with (fail)
                generalize hwF : (((((w6.setCell ⟨w.heap.size + 1 + 1, 0, none⟩ (.int .i64 4)).setCell ⟨w.heap.size + 1 + 1, 1, none⟩ (.int .i64 0)).setCell ⟨w.heap.size + 1 + 1, 2, none⟩ (.string ⟨#[]⟩)).setCell ⟨w.heap.size + 1 + 1, 3, none⟩ (.int .i64 X)).setCell ⟨w.heap.size + 1 + 1, 4, none⟩ (.slice Az M cz)) = wF
                obtain ⟨rF, oF, bF⟩ := fill5 E26.out hwF
                refine bodyPost_ret (v := .tuple #[vV 4 0 ⟨#[]⟩ X Az M cz, .int .i64 0]) ?_ rfl ?_
                · simp [results, Tryz.results101, go_sem, rF]
                · obtain ⟨h1, h2⟩ := HRR.out
                  exact ⟨_, par, R, rfl, by rw [← HT.out]; exact HU6.out.above fun b hb _ => oF b (by simp at hb; omega), h1, bF _ _ (by omega) HB6.out⟩
              · obtain ⟨e1, e2⟩ := HCD.out.2 hw
                subst e1 e2
                rw [decide_eq_false hw] at LT
                clear hw
                go_wp2_with (fail)
                refine LT.out.mono ?_
                rintro e w5 ⟨rfl, hb⟩
                have E25 := Lib.hid (carry hb E2.out)
                have HB5 := Lib.hid (bs HB.out hb)
                clear hb rB fB
                go_wp2_with (fail)
                refine (HNU.out _).mono ?_
                rintro e w6 ⟨rfl, hb⟩
                have E26 := Lib.hid (carry hb E25.out)
                have HB6 := Lib.hid (bs HB5.out hb)
                clear hb
                obtain ⟨r2, f2⟩ := rowc E26.out
                go_wp2_with (fail)
                generalize hwF : (((((w6.setCell ⟨w.heap.size + 1 + 1, 0, none⟩ (.int .i64 0)).setCell ⟨w.heap.size + 1 + 1, 1, none⟩ (.int .i64 0)).setCell ⟨w.heap.size + 1 + 1, 2, none⟩ (.string ⟨#[]⟩)).setCell ⟨w.heap.size + 1 + 1, 3, none⟩ (.int .i64 0)).setCell ⟨w.heap.size + 1 + 1, 4, none⟩ (.slice none 0 0)) = wF
                obtain ⟨rF, oF, bF⟩ := fill5 E26.out hwF
                refine bodyPost_ret (v := .tuple #[vV 0 0 ⟨#[]⟩ 0 none 0 0, .int .i64 9]) ?_ rfl ?_
                · simp [results, Tryz.results101, go_sem, rF]
                · have hz := HB6.out.size
                  exact ⟨_, fun _ => (0, 0), w.heap.size, rfl, null_par _ _ _, Nat.le_refl _, bF _ _ (by omega) HB6.out⟩
  · obtain ⟨e1, e2⟩ := uni_not (t := .mk k n s x ks vs) (u := .mk k' n' s' x' ks' vs') (by unfold uniB isA; rcases Decidable.em (k = 4) with h | h <;> simp_all)
    rw [e1, e2]
    have eb : (decide (k = 4) && decide (k' = 4)) = false := by simpa using fun h => by simp_all
    rw [eb] at AR
    have HAR := Lib.hid AR
    have HNU := Lib.hid NU
    clear e1 e2 IT IU HH HH' HN HTT HFT eb AR NU hk4
    obtain ⟨a0, a1, a2, az, ab⟩ := al3 w #[.int .i64 k, .int .i64 n, .string s, .int .i64 x, .slice A L c] #[.int .i64 k', .int .i64 n', .string s', .int .i64 x', .slice A' L' c'] #[.int .i64 0, .int .i64 0, .string ⟨#[]⟩, .int .i64 0, .slice none 0 0] IV IV IV
    obtain ⟨W0, HW0⟩ : ∃ W, Hid (W = ((w.alloc (.cells #[.int .i64 k, .int .i64 n, .string s, .int .i64 x, .slice A L c] IV)).alloc (.cells #[.int .i64 k', .int .i64 n', .string s', .int .i64 x', .slice A' L' c'] IV)).alloc (.cells #[.int .i64 0, .int .i64 0, .string ⟨#[]⟩, .int .i64 0, .slice none 0 0] IV)) := ⟨_, Lib.hid rfl⟩
    rw [← HW0.out] at a0 a1 a2 az ab
    have A0 := Lib.hid a0
    have A1 := Lib.hid a1
    have A2 := Lib.hid a2
    have AB := Lib.hid ab
    obtain ⟨r0, f0⟩ := rowc a0
    obtain ⟨r1, f1⟩ := rowc a1
    obtain ⟨r2, f2⟩ := rowc a2
    clear a0 a1 a2 az ab
    go_enter Tryz.func101, Tryz.ntmps101
    go_wp2_with (fail)
    rw [← HW0.out]
    refine (HAR.out _).mono ?_
    rintro e w1 ⟨rfl, hb⟩
    replace A0 := Lib.hid (carry hb A0.out)
    replace A1 := Lib.hid (carry hb A1.out)
    replace A2 := Lib.hid (carry hb A2.out)
    replace AB := Lib.hid (bs AB.out hb)
    clear hb r0 f0 r1 f1 r2 f2
    obtain ⟨r0, f0⟩ := rowc A0.out
    obtain ⟨r1, f1⟩ := rowc A1.out
    obtain ⟨r2, f2⟩ := rowc A2.out
    go_wp2_with (fail)
    refine (HNU.out _).mono ?_
    rintro e w2 ⟨rfl, hb⟩
    replace A0 := Lib.hid (carry hb A0.out)
    replace A1 := Lib.hid (carry hb A1.out)
    replace A2 := Lib.hid (carry hb A2.out)
    replace AB := Lib.hid (bs AB.out hb)
    clear hb r0 f0 r1 f1 r2 f2
    obtain ⟨r0, f0⟩ := rowc A0.out
    obtain ⟨r1, f1⟩ := rowc A1.out
    obtain ⟨r2, f2⟩ := rowc A2.out
    go_wp2_with (fail)
    generalize hwF : (((((w2.setCell ⟨w.heap.size + 1 + 1, 0, none⟩ (.int .i64 0)).setCell ⟨w.heap.size + 1 + 1, 1, none⟩ (.int .i64 0)).setCell ⟨w.heap.size + 1 + 1, 2, none⟩ (.string ⟨#[]⟩)).setCell ⟨w.heap.size + 1 + 1, 3, none⟩ (.int .i64 0)).setCell ⟨w.heap.size + 1 + 1, 4, none⟩ (.slice none 0 0)) = wF
    obtain ⟨rF, oF, bF⟩ := fill5 A2.out hwF
    refine bodyPost_ret (v := .tuple #[vV 0 0 ⟨#[]⟩ 0 none 0 0, .int .i64 2]) ?_ rfl ?_
    · simp [results, Tryz.results101, go_sem, rF]
    · have hz := AB.out.size
      exact ⟨_, fun _ => (0, 0), w.heap.size, rfl, null_par _ _ _, Nat.le_refl _, bF _ _ (by omega) AB.out⟩

end Go.Proofs.YtdglmnmalfpipaaGreatDoor.tree

