/-
  What the texts behind this one use: 3 parts of one proof.
  Conditions: those that each theorem names.
-/
import Derived.Test.YtbgffmiffmmohaaGreatDoorSpB8
import Derived.Test.YtbgffmiffmmohaaGreatDoorSpB2
import Derived.Test.YtbgffmiffmmohaaGreatDoorSpB7
import Derived.Test.YtbgffmiffmmohaaGreatDoorSpSValidS
import Derived.Test.YtbgffmiffmmohaaGreatDoorSpSCopyS
/-
  Writing at the end of a path, of the model: a path with a key.
  Conditions: the value holds at most 10^9 values; the keys' numbers are in range.
-/
namespace Go.Proofs.YtbgffmiffmmohaaGreatDoor.tree
open Go.ChangeShapes Go.WideShapes Go.ChangeAt Go.RowKit
set_option linter.unusedVariables false

/-- The answer of a call with a code, in a box. -/
def CutWs (w1 : World) (C : Int) (K N : Int) (Z : ByteArray) (X : Int) (RL : Nat) (RT : Tr) (p f : Value) (wx : World) : Prop :=
  ∃ B A c, p = .pointer (some ⟨B, 0, none⟩) ∧ f = .int .i64 C ∧ Below w1.heap.size w1 wx ∧ w1.heap.size ≤ B ∧ wx.heap[B]? = some (.cells #[.int .i64 K, .int .i64 N, .string Z, .int .i64 X, .slice A RL c] IV (0, 0)) ∧ TIn wx (fun _ => True) RT (vV K N Z X A RL c)
section
variable {w1 n wF : World} {C K N X : Int} {Z : ByteArray} {RL c B : Nat} {RT : Tr} {A : Option Addr}
theorem cutWs_early (hw : Below w1.heap.size w1 n) (hB : w1.heap.size ≤ B) (ez : n.heap[B]? = some (.cells #[.int .i64 0, .int .i64 0, .string ⟨#[]⟩, .int .i64 0, .slice none 0 0] IV (0, 0))) (hv : TIn n (fun _ => True) RT (vV K N Z X A RL c))
    (hF : (((((n.setCell ⟨B, 0, none⟩ (.int .i64 K)).setCell ⟨B, 1, none⟩ (.int .i64 N)).setCell ⟨B, 2, none⟩ (.string Z)).setCell ⟨B, 3, none⟩ (.int .i64 X)).setCell ⟨B, 4, none⟩ (.slice A RL c)) = wF) :
    CutWs w1 C K N Z X RL RT (.pointer (some ⟨B, 0, none⟩)) (.int .i64 C) wF := by
  obtain ⟨-, oF, bF⟩ := fill5 ez hF
  have eF : wF.heap[B]? = some (.cells #[.int .i64 K, .int .i64 N, .string Z, .int .i64 X, .slice A RL c] IV (0, 0)) := by
    rw [← hF]
    have := set_heap (set_heap (set_heap (set_heap (set_heap ez 0 (.int .i64 K)) 1 (.int .i64 N)) 2 (.string Z)) 3 (.int .i64 X)) 4 (.slice A RL c)
    simpa using this
  exact ⟨B, A, c, rfl, rfl, bF _ _ hB hw, hB, eF, (hv.nobox ez (fun b h => by cases h)).stays (fun _ _ => trivial) (fun q hq _ => oF q hq.2)⟩
theorem cutWs_box (hw : Below w1.heap.size w1 n) (hv : TIn n (fun _ => True) RT (vV K N Z X A RL c)) :
    CutWs w1 C K N Z X RL RT (.pointer (some ⟨n.heap.size, 0, none⟩)) (.int .i64 C) (n.alloc (.cells #[.int .i64 K, .int .i64 N, .string Z, .int .i64 X, .slice A RL c] IV)) :=
  ⟨n.heap.size, A, c, rfl, rfl, bs hw (b1 n _), hw.size, heap_alloc_new n _, hv.below' (b1 n _)⟩
end

set_option maxRecDepth 100000 in
set_option maxHeartbeats 8000000 in
theorem l12Set_cons (y : Ky) (zs : List Ky) (t u : Tr) (v vu : Value) (push : Bool) (A : Option Addr) (c : Nat) (w : World) (h : TIn w (fun _ => True) t v) (hu : TIn w (fun _ => True) u vu) (hk : KIn w (y :: zs) A) (hc : zs.length + 1 ≤ c ∧ c ≤ maxLen) (hnum : y.text = false → y.num < 9223372036854775807) (hN : cnt t ≤ 1000000000)
    (IH : ∀ (t' : Tr) (v' : Value) (A' : Option Addr) (c' : Nat) (w' : World), TIn w' (fun _ => True) t' v' → TIn w' (fun _ => True) u vu → KIn w' zs A' → (zs.length ≤ c' ∧ c' ≤ maxLen) → cnt t' ≤ 1000000000 → Calls Tryz.prog 180 #[v', .slice A' zs.length c', .bool push, vu] w' (OutW w' (setP t' zs push u))) : Calls Tryz.prog 180 #[v, .slice A (zs.length + 1) c, .bool push, vu] w (OutW w (setP t (y :: zs) push u)) := by
  have hco := (cnt_opn t).1
  have AV := Lib.hid arrVs
  rw [setP_cons]
  obtain ⟨a, rfl, hyb, hat⟩ := hk 0 y rfl
  rw [show a.add (0 * 3) = a by unfold Addr.add; rw [if_pos (by omega)]] at hat
  have HAT := Lib.hid hat
  have HYB := Lib.hid hyb
  obtain ⟨T4, hT4⟩ : ∃ T, T = opn t := ⟨_, rfl⟩
  rw [← hT4] at hco ⊢
  have hkt := hk.tail
  obtain ⟨L, HL⟩ : ∃ L, Hid (zs.length = L) := ⟨_, Lib.hid rfl⟩
  obtain ⟨a2, HA2⟩ : ∃ q, Hid ((if c = 1 then a else a.add 3) = q) := ⟨_, Lib.hid rfl⟩
  have hk2 : KIn w zs (some a2) := by
    rw [← HA2.out]
    split
    · next h1 =>
      have : zs = [] := List.eq_nil_of_length_eq_zero (by omega)
      rw [this]
      exact KIn.nil _ _
    · exact hkt
  have hgl := getR_le T4 y
  obtain ⟨G, HG⟩ : ∃ G, Hid (getR T4 y = G) := ⟨_, Lib.hid rfl⟩
  obtain ⟨bb, HBB⟩ : ∃ G, Hid (getB T4 y = G) := ⟨_, Lib.hid rfl⟩
  have HIH : Hid (∀ w' v', Below w.heap.size w w' → TIn w' (fun _ => True) G v' → Calls Tryz.prog 180 #[v', .slice (some a2) L (c - 1), .bool push, vu] w' (OutW w' (setP G zs push u))) := Lib.hid fun w' v' hb hv => by
    have := IH G v' (some a2) (c - 1) w' hv (hu.below' hb) (hk2.below hb) ⟨by omega, by have := hc.2; omega⟩ (by rw [HG.out] at hgl; omega)
    rw [HL.out] at this
    exact this
  rw [HG.out]
  obtain ⟨PT, PC, HP⟩ : ∃ P C, Hid (setP G zs push u = (P, C)) := ⟨_, _, Lib.hid rfl⟩
  rw [HP.out] at HIH ⊢
  simp only at HIH ⊢
  have hL6 : ∀ V4, TIn w (fun _ => True) T4 V4 → ∀ w', Below w.heap.size w w' → Calls Tryz.prog 82 #[V4, kyV y] w' (OutT w' G bb (fun b => b < w.heap.size)) := fun V4 hv w' hb => by
    rw [← HG.out, ← HBB.out]
    exact l6Get_s _ _ y w' _ (hv.lt'.stays (fun _ h => h) (fun b hb' _ => hb.block b hb'))
  have hS6 : knd T4 = 4 → ∀ V4, TIn w (fun _ => True) T4 V4 → ∀ w' u', Below w.heap.size w w' → TIn w' (fun _ => True) PT u' → Calls Tryz.prog 84 #[V4, kyV y, u'] w' (OutV w' (setT T4 y PT) (fun _ => True)) := fun h4 V4 hv w' u' hb hu' =>
    l6Set_g T4 V4 y PT u' w' (fun _ => True) (hv.below' hb) hu' hyb (by omega) (fun _ _ _ _ _ _ e => by rw [e] at h4; exact h4) (fun _ h2 => hnum h2)
  have hse : ∀ w', (sizeOf (Tryz.prog.elem 66)).run Tryz.prog w' = .ok 3 w' := fun w' => by
    obtain ⟨i0, hi, hz⟩ := ik_info
    have : Tryz.prog.elem 66 = IK := by kernel_rfl
    simp [sizeOf, typeInfo, this, hi, hz.2.1]
  rw [HL.out] at hc ⊢
  obtain ⟨M, HM⟩ : ∃ M, Hid (L + 1 = M) := ⟨_, Lib.hid rfl⟩
  have hs1 : ∀ w', (Instr.slice 66 (.slice (some a) M c) (some (.int .i64 1)) none none).run Tryz.prog w' = .ok (.slice (some a2) L (c - 1)) w' := fun w' => by
    rw [← HM.out, run_slice_l (P := Tryz.prog) w' 66 _ (L + 1) c (by kernel_rfl) .i64 1 (by omega) (by omega), hse, ← HA2.out]
    by_cases h2 : c = 1
    · simp [Result.andThen, sliced, h2]
    · simp [Result.andThen, sliced, h2]
  rw [HM.out] at hc ⊢
  have hM0 : 0 < M := by rw [← HM.out]; omega
  have hne1 : ¬ (M = 0) := by omega
  have hm0 : ((M : Int) == 0) = false := by simpa using hne1
  obtain ⟨k, n, s, x, ks, vs⟩ := t
  obtain ⟨A0, c0, rfl, -, -⟩ := h.out
  obtain ⟨L0, HL0⟩ : ∃ L, Hid (vs.length = L) := ⟨_, Lib.hid rfl⟩
  obtain ⟨ku, nu, su, xu, ksu, vsu⟩ := u
  obtain ⟨Au, cu, rfl, -, -⟩ := hu.out
  obtain ⟨Lu, HLu⟩ : ∃ L, Hid (vsu.length = L) := ⟨_, Lib.hid rfl⟩
  rw [HL0.out] at h ⊢
  rw [HLu.out] at hu HIH ⊢
  have HT := Lib.hid h
  clear hk hat hyb hkt hk2 IH hN hnum hu HP hgl HBB HG hse
  obtain ⟨Kg, Ng, Zg, Xg, RKg, RVg⟩ := G
  obtain ⟨RLg, HRLg⟩ : ∃ L, Hid (RVg.length = L) := ⟨_, Lib.hid rfl⟩
  obtain ⟨Kp, Np, Zp, Xp, RKp, RVp⟩ := PT
  obtain ⟨RLp, HRLp⟩ : ∃ L, Hid (RVp.length = L) := ⟨_, Lib.hid rfl⟩
  unfold kyV at hL6 hS6
  by_cases h0 : k = 0
  · subst h0
    rw [opn_zero] at hT4
    have hk4 : knd T4 = 4 := by rw [hT4]; rfl
    rw [if_pos hk4]
    have HTV : Hid (TIn w (fun _ => True) T4 (vV 4 0 ⟨#[]⟩ 0 none 0 0)) := Lib.hid (by rw [hT4]; exact flat ⟨by unfold I64; omega, by unfold I64; omega, by unfold I64; omega, Nat.zero_le _⟩ _ _ none 0 (Nat.zero_le _))
    have HL6 := Lib.hid (hL6 _ HTV.out)
    have HS6 := Lib.hid (hS6 hk4 _ HTV.out)
    obtain ⟨RR, HRR⟩ : ∃ R, Hid ((if PC = 0 then (setT T4 y (.mk Kp Np Zp Xp RKp RVp), (0 : Int)) else (T4, PC)) = R) := ⟨_, Lib.hid rfl⟩
    rw [HRR.out]
    obtain ⟨RT, HRT⟩ : ∃ T, Hid (setT T4 y (.mk Kp Np Zp Xp RKp RVp) = T) := ⟨_, Lib.hid rfl⟩
    rw [HRT.out] at HS6 HRR
    obtain ⟨K, N, Z, X, RK, RV⟩ := RT
    obtain ⟨RL, HRL⟩ : ∃ L, Hid (RV.length = L) := ⟨_, Lib.hid rfl⟩
    clear h hL6 hS6 hT4 hk4 hco HRT HT
    go_enter Tryz.func180, Tryz.ntmps180
    go_wp2_with (fail)
    obtain ⟨a0, a1, a2', az, ab⟩ := al3 w #[.int .i64 0, .int .i64 n, .string s, .int .i64 x, .slice A0 L0 c0] #[.int .i64 ku, .int .i64 nu, .string su, .int .i64 xu, .slice Au Lu cu] #[.int .i64 0, .int .i64 0, .string ⟨#[]⟩, .int .i64 0, .slice none 0 0] IV IV IV
    refine (AV.out _).mono ?_
    rintro e w1 ⟨rfl, hb1⟩
    have E01 := Lib.hid (carry hb1 a0)
    have E11 := Lib.hid (carry hb1 a1)
    have EZ1 := Lib.hid (carry hb1 a2')
    have HB1 := Lib.hid (bs ab hb1)
    obtain ⟨r0, f0⟩ := rowc E01.out
    clear hb1 a0 a1 a2' az ab
    go_upto_region 5 with (fail)
    generalize hwG : (((((w1.setCell ⟨w.heap.size, 0, none⟩ (.int .i64 4)).setCell ⟨w.heap.size, 1, none⟩ (.int .i64 0)).setCell ⟨w.heap.size, 2, none⟩ (.string ⟨#[]⟩)).setCell ⟨w.heap.size, 3, none⟩ (.int .i64 0)).setCell ⟨w.heap.size, 4, none⟩ (.slice none 0 0)) = W0
    obtain ⟨-, oG, bG⟩ := fill5 E01.out hwG
    have E0 : Hid (W0.heap[w.heap.size]? = some (.cells #[.int .i64 4, .int .i64 0, .string ⟨#[]⟩, .int .i64 0, .slice none 0 0] IV (0, 0))) := Lib.hid (by
      rw [← hwG]
      have := set_heap (set_heap (set_heap (set_heap (set_heap E01.out 0 (.int .i64 4)) 1 (.int .i64 0)) 2 (.string ⟨#[]⟩)) 3 (.int .i64 0)) 4 (.slice none 0 0)
      simpa using this)
    have E1 := Lib.hid ((oG _ (by omega)).trans E11.out)
    have EZ := Lib.hid ((oG _ (by omega)).trans EZ1.out)
    have HB0 := Lib.hid (bG _ _ (Nat.le_refl _) HB1.out)
    clear r0 f0 hwG oG bG E01 E11 EZ1 HB1
    have c0_ : W0.cell? ⟨w.heap.size, 0, none⟩ = some (.int .i64 4) := (rowc E0.out).1 0
    have c1_ : W0.cell? ⟨w.heap.size, 1, none⟩ = some (.int .i64 0) := (rowc E0.out).1 1
    have c2_ : W0.cell? ⟨w.heap.size, 2, none⟩ = some (.string ⟨#[]⟩) := (rowc E0.out).1 2
    have c3_ : W0.cell? ⟨w.heap.size, 3, none⟩ = some (.int .i64 0) := (rowc E0.out).1 3
    have c4_ : W0.cell? ⟨w.heap.size, 4, none⟩ = some (.slice none 0 0) := (rowc E0.out).1 4
    have nz0 : W0.heap.size ≠ w.heap.size := by have := (Array.getElem?_eq_some_iff.1 E0.out).1; omega
    obtain ⟨a0_, a1_, a2_⟩ := HAT.out.below HB0.out
    have nz1 : W0.heap.size ≠ a.block := by have := World.block_lt_of_cell? _ _ a0_; omega
    go_wp2_with (fail)
    go_cut [10, 11] (fun px fx wx => CutS W0 (fun b => b < w.heap.size) bb Kg Ng Zg Xg RLg (.mk Kg Ng Zg Xg RKg RVg) px fx wx)
    case first =>
      have HW : Hid (Below W0.heap.size W0 W0) := Lib.hid (Below.refl _ _)
      go_region_held3 (fun w' => w'.cell? ⟨w.heap.size, 0, none⟩ = some (.int .i64 4) ∧ w'.cell? ⟨w.heap.size, 1, none⟩ = some (.int .i64 0) ∧ w'.cell? ⟨w.heap.size, 2, none⟩ = some (.string ⟨#[]⟩) ∧ w'.cell? ⟨w.heap.size, 3, none⟩ = some (.int .i64 0) ∧ w'.cell? ⟨w.heap.size, 4, none⟩ = some (.slice none 0 0) ∧ w'.cell? a = some (.bool y.text) ∧ w'.cell? ⟨a.block, a.off + 1, none⟩ = some (.int .i64 y.num) ∧ w'.cell? ⟨a.block, a.off + 2, none⟩ = some (.string y.str)) (go_keep) (first
        | (go_at_call 82
           refine (HL6.out _ (by first | exact HB0.out | exact HB0.out.trans ((Below.refl _ _).drew) | exact HB0.out.alloc HB0.out.size _ | exact (HB0.out.trans ((Below.refl _ _).drew)).alloc HB0.out.size _)).mono ?_
           rintro e w1 ⟨u, rfl, hu, hb⟩
           have hbx : Below W0.heap.size W0 w1 := by first | exact hb | exact bs ((Below.refl _ _).drew) hb | exact bs (b1 _ _) hb | exact bs (bs ((Below.refl _ _).drew) (b1 _ _)) hb
           obtain ⟨Am, cm, rfl, -, -⟩ := hu.out
           rw [HRLg.out] at hu ⊢
           have HMM := Lib.hid hu
           replace HW := Lib.hid (bs HW.out hbx)
           first | (have ez := Lib.hid (carry hb (heap_alloc_new W0 (.cells #[.int .i64 0, .int .i64 0, .string ⟨#[]⟩, .int .i64 0, .slice none 0 0] IV)))) | (have ez := Lib.hid (carry hb (heap_alloc_new W0.drew (.cells #[.int .i64 0, .int .i64 0, .string ⟨#[]⟩, .int .i64 0, .slice none 0 0] IV)))) | skip
           first | (have zr := (rowc ez.out).1; have zf := (rowc ez.out).2) | skip
           obtain ⟨q0, q1, q2⟩ := HAT.out.below (bs HB0.out hbx)
           have E0h := Lib.hid (carry hbx E0.out)
           have d0_ : w1.cell? ⟨w.heap.size, 0, none⟩ = some (.int .i64 4) := (rowc E0h.out).1 0
           have d1_ : w1.cell? ⟨w.heap.size, 1, none⟩ = some (.int .i64 0) := (rowc E0h.out).1 1
           have d2_ : w1.cell? ⟨w.heap.size, 2, none⟩ = some (.string ⟨#[]⟩) := (rowc E0h.out).1 2
           have d3_ : w1.cell? ⟨w.heap.size, 3, none⟩ = some (.int .i64 0) := (rowc E0h.out).1 3
           have d4_ : w1.cell? ⟨w.heap.size, 4, none⟩ = some (.slice none 0 0) := (rowc E0h.out).1 4
           have nz2 : w1.heap.size ≠ w.heap.size := by have := hbx.size; have := (Array.getElem?_eq_some_iff.1 E0.out).1; omega
           have nz3 : w1.heap.size ≠ a.block := by have := hbx.size; have := World.block_lt_of_cell? _ _ a0_; omega
           clear hu hb hbx))
      all_goals
        go_wp2_with (fail)
        go_meet
        first
        | with_reducible exact cutS_box HW.out HMM.out
        | exact cutS_early HW.out (Nat.le_refl _) ez.out HMM.out (fun q hq e => by have h1 : q < w.heap.size := hq; have h2 := HB0.out.size; omega) rfl
    case rest =>
      obtain ⟨B, Am, cm, hp, hf, hbx, hNB, en, hv⟩ := hcut
      subst hp hf
      rename World => W1
      have HN := Lib.hid en
      have HV := Lib.hid (hv.stays (S' := fun _ => True) (fun _ _ => trivial) (fun _ _ _ => rfl))
      have HB1 := Lib.hid (bs HB0.out hbx)
      have E01 := Lib.hid (carry hbx E0.out)
      have E11 := Lib.hid (carry hbx E1.out)
      have EZ1 := Lib.hid (carry hbx EZ.out)
      have HNB := Lib.hid hNB
      clear en hv hbx hNB HL6 a0_ a1_ a2_ nz1 nz0 c0_ c1_ c2_ c3_ c4_
      have g0_ : W1.cell? ⟨B, 0, none⟩ = some (.int .i64 Kg) := (rowc HN.out).1 0
      have g1_ : W1.cell? ⟨B, 1, none⟩ = some (.int .i64 Ng) := (rowc HN.out).1 1
      have g2_ : W1.cell? ⟨B, 2, none⟩ = some (.string Zg) := (rowc HN.out).1 2
      have g3_ : W1.cell? ⟨B, 3, none⟩ = some (.int .i64 Xg) := (rowc HN.out).1 3
      have g4_ : W1.cell? ⟨B, 4, none⟩ = some (.slice Am RLg cm) := (rowc HN.out).1 4
      have x0_ : W1.cell? ⟨w.heap.size + 1, 0, none⟩ = some (.int .i64 ku) := (rowc E11.out).1 0
      have x1_ : W1.cell? ⟨w.heap.size + 1, 1, none⟩ = some (.int .i64 nu) := (rowc E11.out).1 1
      have x2_ : W1.cell? ⟨w.heap.size + 1, 2, none⟩ = some (.string su) := (rowc E11.out).1 2
      have x3_ : W1.cell? ⟨w.heap.size + 1, 3, none⟩ = some (.int .i64 xu) := (rowc E11.out).1 3
      have x4_ : W1.cell? ⟨w.heap.size + 1, 4, none⟩ = some (.slice Au Lu cu) := (rowc E11.out).1 4
      have nz4 : W1.heap.size ≠ B := by have := (Array.getElem?_eq_some_iff.1 HN.out).1; omega
      have nz5 : W1.heap.size ≠ w.heap.size + 1 := by have := (Array.getElem?_eq_some_iff.1 E11.out).1; omega
      go_wp2_with (fail)
      go_cut [12, 13] (fun px fx wx => CutWs W1 PC Kp Np Zp Xp RLp (.mk Kp Np Zp Xp RKp RVp) px fx wx)
      case first =>
        have HW : Hid (Below W1.heap.size W1 W1) := Lib.hid (Below.refl _ _)
        go_region_held3 (fun w' => w'.cell? ⟨B, 0, none⟩ = some (.int .i64 Kg) ∧ w'.cell? ⟨B, 1, none⟩ = some (.int .i64 Ng) ∧ w'.cell? ⟨B, 2, none⟩ = some (.string Zg) ∧ w'.cell? ⟨B, 3, none⟩ = some (.int .i64 Xg) ∧ w'.cell? ⟨B, 4, none⟩ = some (.slice Am RLg cm) ∧ w'.cell? ⟨w.heap.size + 1, 0, none⟩ = some (.int .i64 ku) ∧ w'.cell? ⟨w.heap.size + 1, 1, none⟩ = some (.int .i64 nu) ∧ w'.cell? ⟨w.heap.size + 1, 2, none⟩ = some (.string su) ∧ w'.cell? ⟨w.heap.size + 1, 3, none⟩ = some (.int .i64 xu) ∧ w'.cell? ⟨w.heap.size + 1, 4, none⟩ = some (.slice Au Lu cu)) (go_keep) (first
          | (go_at_call 180
             refine (HIH.out _ _ (by first | exact HB1.out | exact HB1.out.trans ((Below.refl _ _).drew) | exact HB1.out.alloc HB1.out.size _ | exact (HB1.out.trans ((Below.refl _ _).drew)).alloc HB1.out.size _) (by first | exact HV.out | exact HV.out.below' ((Below.refl _ _).drew) | exact HV.out.below' (b1 _ _) | exact HV.out.below' (bs ((Below.refl _ _).drew) (b1 _ _)))).mono ?_
             rintro e w2 ⟨u, rfl, hu, hb⟩
             have hbx : Below W1.heap.size W1 w2 := by first | exact hb | exact bs ((Below.refl _ _).drew) hb | exact bs (b1 _ _) hb | exact bs (bs ((Below.refl _ _).drew) (b1 _ _)) hb
             obtain ⟨Ap, cp, rfl, -, -⟩ := hu.out
             rw [HRLp.out] at hu ⊢
             have HMM := Lib.hid hu
             replace HW := Lib.hid (bs HW.out hbx)
             first | (have ez := Lib.hid (carry hb (heap_alloc_new W1 (.cells #[.int .i64 0, .int .i64 0, .string ⟨#[]⟩, .int .i64 0, .slice none 0 0] IV)))) | (have ez := Lib.hid (carry hb (heap_alloc_new W1.drew (.cells #[.int .i64 0, .int .i64 0, .string ⟨#[]⟩, .int .i64 0, .slice none 0 0] IV)))) | skip
             first | (have zr := (rowc ez.out).1; have zf := (rowc ez.out).2) | skip
             have HNh := Lib.hid (carry hbx HN.out)
             have E1h := Lib.hid (carry hbx E11.out)
             have d0_ : w2.cell? ⟨B, 0, none⟩ = some (.int .i64 Kg) := (rowc HNh.out).1 0
             have d1_ : w2.cell? ⟨B, 1, none⟩ = some (.int .i64 Ng) := (rowc HNh.out).1 1
             have d2_ : w2.cell? ⟨B, 2, none⟩ = some (.string Zg) := (rowc HNh.out).1 2
             have d3_ : w2.cell? ⟨B, 3, none⟩ = some (.int .i64 Xg) := (rowc HNh.out).1 3
             have d4_ : w2.cell? ⟨B, 4, none⟩ = some (.slice Am RLg cm) := (rowc HNh.out).1 4
             have e0_ : w2.cell? ⟨w.heap.size + 1, 0, none⟩ = some (.int .i64 ku) := (rowc E1h.out).1 0
             have e1_ : w2.cell? ⟨w.heap.size + 1, 1, none⟩ = some (.int .i64 nu) := (rowc E1h.out).1 1
             have e2_ : w2.cell? ⟨w.heap.size + 1, 2, none⟩ = some (.string su) := (rowc E1h.out).1 2
             have e3_ : w2.cell? ⟨w.heap.size + 1, 3, none⟩ = some (.int .i64 xu) := (rowc E1h.out).1 3
             have e4_ : w2.cell? ⟨w.heap.size + 1, 4, none⟩ = some (.slice Au Lu cu) := (rowc E1h.out).1 4
             have nz6 : w2.heap.size ≠ B := by have := hbx.size; have := (Array.getElem?_eq_some_iff.1 HN.out).1; omega
             have nz7 : w2.heap.size ≠ w.heap.size + 1 := by have := hbx.size; have := (Array.getElem?_eq_some_iff.1 E11.out).1; omega
             clear hu hb hbx))
        all_goals
          go_wp2_with (fail)
          go_meet
          first
          | with_reducible exact cutWs_box HW.out HMM.out
          | exact cutWs_early HW.out (Nat.le_refl _) ez.out HMM.out rfl
      case rest =>
        obtain ⟨B2, Ap, cp, hp, hf, hbx, hNB2, en, hv⟩ := hcut
        subst hp hf
        rename World => W2
        have HN2 := Lib.hid en
        have HV2 := Lib.hid hv
        have HB2 := Lib.hid (bs HB1.out hbx)
        have E02 := Lib.hid (carry hbx E01.out)
        have EZ2 := Lib.hid (carry hbx EZ1.out)
        have HNB2 : Hid (w.heap.size + 1 + 1 < B2) := Lib.hid (by have := (Array.getElem?_eq_some_iff.1 EZ1.out).1; omega)
        clear en hv hbx hNB2 HIH nz4 nz5 g0_ x0_ g1_ x1_ g2_ x2_ g3_ x3_ g4_ x4_
        have c0_ : W2.cell? ⟨w.heap.size, 0, none⟩ = some (.int .i64 4) := (rowc E02.out).1 0
        have c1_ : W2.cell? ⟨w.heap.size, 1, none⟩ = some (.int .i64 0) := (rowc E02.out).1 1
        have c2_ : W2.cell? ⟨w.heap.size, 2, none⟩ = some (.string ⟨#[]⟩) := (rowc E02.out).1 2
        have c3_ : W2.cell? ⟨w.heap.size, 3, none⟩ = some (.int .i64 0) := (rowc E02.out).1 3
        have c4_ : W2.cell? ⟨w.heap.size, 4, none⟩ = some (.slice none 0 0) := (rowc E02.out).1 4
        by_cases hP : PC = 0
        · subst hP
          rw [if_pos rfl] at HRR
          go_wp2_with (fail)
          go_cut [9] (fun fx wx => fx = .int .i64 0 ∧ CutR w (w.heap.size + 1 + 1) K N Z X RL (.mk K N Z X RK RV) wx)
          case first =>
            have nb1 : B2 ≠ w.heap.size + 1 + 1 := by have := HNB2.out; omega
            have nb2 : a.block ≠ w.heap.size + 1 + 1 := by have := World.block_lt_of_cell? _ _ HAT.out.c0; omega
            have nb0 : w.heap.size ≠ w.heap.size + 1 + 1 := by omega
            obtain ⟨a0_, a1_, a2_⟩ := HAT.out.below HB2.out
            have p0_ : W2.cell? ⟨B2, 0, none⟩ = some (.int .i64 Kp) := (rowc HN2.out).1 0
            have p1_ : W2.cell? ⟨B2, 1, none⟩ = some (.int .i64 Np) := (rowc HN2.out).1 1
            have p2_ : W2.cell? ⟨B2, 2, none⟩ = some (.string Zp) := (rowc HN2.out).1 2
            have p3_ : W2.cell? ⟨B2, 3, none⟩ = some (.int .i64 Xp) := (rowc HN2.out).1 3
            have p4_ : W2.cell? ⟨B2, 4, none⟩ = some (.slice Ap RLp cp) := (rowc HN2.out).1 4
            go_region_held3 (fun w' => w'.cell? ⟨w.heap.size, 0, none⟩ = some (.int .i64 4) ∧ w'.cell? ⟨w.heap.size, 1, none⟩ = some (.int .i64 0) ∧ w'.cell? ⟨w.heap.size, 2, none⟩ = some (.string ⟨#[]⟩) ∧ w'.cell? ⟨w.heap.size, 3, none⟩ = some (.int .i64 0) ∧ w'.cell? ⟨w.heap.size, 4, none⟩ = some (.slice none 0 0) ∧ w'.cell? ⟨B2, 0, none⟩ = some (.int .i64 Kp) ∧ w'.cell? ⟨B2, 1, none⟩ = some (.int .i64 Np) ∧ w'.cell? ⟨B2, 2, none⟩ = some (.string Zp) ∧ w'.cell? ⟨B2, 3, none⟩ = some (.int .i64 Xp) ∧ w'.cell? ⟨B2, 4, none⟩ = some (.slice Ap RLp cp) ∧ w'.cell? a = some (.bool y.text) ∧ w'.cell? ⟨a.block, a.off + 1, none⟩ = some (.int .i64 y.num) ∧ w'.cell? ⟨a.block, a.off + 2, none⟩ = some (.string y.str)) (first | (go_keep; done) | exact ⟨st5a j0_ nb0, st5a j1_ nb0, st5a j2_ nb0, st5a j3_ nb0, st5a j4_ nb0, st5a k0_ nb1, st5a k1_ nb1, st5a k2_ nb1, st5a k3_ nb1, st5a k4_ nb1, st5a i0_ nb2, st5a i1_ nb2, st5a i2_ nb2⟩) (first
              | (go_at_call 84
                 refine (HS6.out _ _ (by first | exact HB2.out | exact HB2.out.trans ((Below.refl _ _).drew)) (by first | exact HV2.out | exact HV2.out.below' ((Below.refl _ _).drew))).mono ?_
                 rintro e w3 ⟨u, rfl, hu, hb⟩
                 have hbx : Below W2.heap.size W2 w3 := by first | exact hb | exact bs ((Below.refl _ _).drew) hb
                 obtain ⟨Ar, cr, rfl, -, -⟩ := hu.out
                 rw [HRL.out] at hu ⊢
                 have HV3 := Lib.hid hu
                 have HB3 := Lib.hid (bs HB2.out hbx)
                 have HZ3 := Lib.hid (carry hbx EZ2.out)
                 have HE3 := Lib.hid (carry hbx E02.out)
                 have HN3 := Lib.hid (carry hbx HN2.out)
                 obtain ⟨i0_, i1_, i2_⟩ := HAT.out.below HB3.out
                 have j0_ : w3.cell? ⟨w.heap.size, 0, none⟩ = some (.int .i64 4) := (rowc HE3.out).1 0
                 have j1_ : w3.cell? ⟨w.heap.size, 1, none⟩ = some (.int .i64 0) := (rowc HE3.out).1 1
                 have j2_ : w3.cell? ⟨w.heap.size, 2, none⟩ = some (.string ⟨#[]⟩) := (rowc HE3.out).1 2
                 have j3_ : w3.cell? ⟨w.heap.size, 3, none⟩ = some (.int .i64 0) := (rowc HE3.out).1 3
                 have j4_ : w3.cell? ⟨w.heap.size, 4, none⟩ = some (.slice none 0 0) := (rowc HE3.out).1 4
                 have k0_ : w3.cell? ⟨B2, 0, none⟩ = some (.int .i64 Kp) := (rowc HN3.out).1 0
                 have k1_ : w3.cell? ⟨B2, 1, none⟩ = some (.int .i64 Np) := (rowc HN3.out).1 1
                 have k2_ : w3.cell? ⟨B2, 2, none⟩ = some (.string Zp) := (rowc HN3.out).1 2
                 have k3_ : w3.cell? ⟨B2, 3, none⟩ = some (.int .i64 Xp) := (rowc HN3.out).1 3
                 have k4_ : w3.cell? ⟨B2, 4, none⟩ = some (.slice Ap RLp cp) := (rowc HN3.out).1 4
                 obtain ⟨r3, f3⟩ := rowc HZ3.out
                 clear hu hb hbx))
            all_goals
              go_wp2_with (fail)
              go_meet
              exact ⟨rfl, cutR HB3.out (by omega) HZ3.out (fun b hb => hb.2) (HV3.out.nobox HZ3.out (fun b h => by cases h)) rfl⟩
          case rest =>
            obtain ⟨hf, Af, cf, eF, hTI, hBF⟩ := hcut
            subst hf
            have rF := (rowc eF).1
            go_wp2_with (fail)
            refine bodyPost_ret (v := .tuple #[vV K N Z X Af RL cf, .int .i64 0]) ?_ rfl ?_
            · simp [results, Tryz.results180, go_sem, rF]
            · rw [← HRR.out]
              exact ⟨_, rfl, hTI, hBF⟩
        · rw [if_neg hP] at HRR
          have hc0 : (PC != 0) = true := by simpa using hP
          have hc1 : (PC == 0) = false := by simpa using hP
          obtain ⟨rz, fz⟩ := rowc EZ2.out
          go_wp2_with (fail)
          generalize hwF : (((((W2.setCell ⟨w.heap.size + 1 + 1, 0, none⟩ (.int .i64 4)).setCell ⟨w.heap.size + 1 + 1, 1, none⟩ (.int .i64 0)).setCell ⟨w.heap.size + 1 + 1, 2, none⟩ (.string ⟨#[]⟩)).setCell ⟨w.heap.size + 1 + 1, 3, none⟩ (.int .i64 0)).setCell ⟨w.heap.size + 1 + 1, 4, none⟩ (.slice none 0 0)) = wF
          obtain ⟨rF, hov⟩ := retW (code := PC) HB2.out (by omega) EZ2.out (HTV.out.below' HB2.out) hwF
          refine bodyPost_ret (v := .tuple #[vV 4 0 ⟨#[]⟩ 0 none 0 0, .int .i64 PC]) ?_ rfl (by rw [← HRR.out]; exact hov)
          simp [results, Tryz.results180, go_sem, rF]
  · rw [opn_ne h0] at hT4
    by_cases h4 : k = 4
    · subst h4
      have hk4 : knd T4 = 4 := by rw [hT4]; rfl
      rw [if_pos hk4]
      have HTV : Hid (TIn w (fun _ => True) T4 (vV 4 n s x A0 L0 c0)) := Lib.hid (by rw [hT4]; exact h)
      have HL6 := Lib.hid (hL6 _ HTV.out)
      have HS6 := Lib.hid (hS6 hk4 _ HTV.out)
      obtain ⟨RR, HRR⟩ : ∃ R, Hid ((if PC = 0 then (setT T4 y (.mk Kp Np Zp Xp RKp RVp), (0 : Int)) else (T4, PC)) = R) := ⟨_, Lib.hid rfl⟩
      rw [HRR.out]
      obtain ⟨RT, HRT⟩ : ∃ T, Hid (setT T4 y (.mk Kp Np Zp Xp RKp RVp) = T) := ⟨_, Lib.hid rfl⟩
      rw [HRT.out] at HS6 HRR
      obtain ⟨K, N, Z, X, RK, RV⟩ := RT
      obtain ⟨RL, HRL⟩ : ∃ L, Hid (RV.length = L) := ⟨_, Lib.hid rfl⟩
      clear h hL6 hS6 hT4 hk4 hco HRT HT
      obtain ⟨W0, HW0⟩ : ∃ W, Hid (W = ((w.alloc (.cells #[.int .i64 4, .int .i64 n, .string s, .int .i64 x, .slice A0 L0 c0] IV)).alloc (.cells #[.int .i64 ku, .int .i64 nu, .string su, .int .i64 xu, .slice Au Lu cu] IV)).alloc (.cells #[.int .i64 0, .int .i64 0, .string ⟨#[]⟩, .int .i64 0, .slice none 0 0] IV)) := ⟨_, Lib.hid rfl⟩
      obtain ⟨a0, a1, a2', az, ab⟩ := al3 w #[.int .i64 4, .int .i64 n, .string s, .int .i64 x, .slice A0 L0 c0] #[.int .i64 ku, .int .i64 nu, .string su, .int .i64 xu, .slice Au Lu cu] #[.int .i64 0, .int .i64 0, .string ⟨#[]⟩, .int .i64 0, .slice none 0 0] IV IV IV
      rw [← HW0.out] at a0 a1 a2' ab
      have E0 := Lib.hid a0
      have E1 := Lib.hid a1
      have EZ := Lib.hid a2'
      have HB0 := Lib.hid ab
      clear a0 a1 a2' az ab
      go_enter Tryz.func180, Tryz.ntmps180
      have c0_ : W0.cell? ⟨w.heap.size, 0, none⟩ = some (.int .i64 4) := (rowc E0.out).1 0
      have c1_ : W0.cell? ⟨w.heap.size, 1, none⟩ = some (.int .i64 n) := (rowc E0.out).1 1
      have c2_ : W0.cell? ⟨w.heap.size, 2, none⟩ = some (.string s) := (rowc E0.out).1 2
      have c3_ : W0.cell? ⟨w.heap.size, 3, none⟩ = some (.int .i64 x) := (rowc E0.out).1 3
      have c4_ : W0.cell? ⟨w.heap.size, 4, none⟩ = some (.slice A0 L0 c0) := (rowc E0.out).1 4
      have nz0 : W0.heap.size ≠ w.heap.size := by have := (Array.getElem?_eq_some_iff.1 E0.out).1; omega
      obtain ⟨a0_, a1_, a2_⟩ := HAT.out.below HB0.out
      have nz1 : W0.heap.size ≠ a.block := by have := World.block_lt_of_cell? _ _ a0_; omega
      go_wp2_with (fail)
      rw [← HW0.out]
      go_cut [10, 11] (fun px fx wx => CutS W0 (fun b => b < w.heap.size) bb Kg Ng Zg Xg RLg (.mk Kg Ng Zg Xg RKg RVg) px fx wx)
      case first =>
        have HW : Hid (Below W0.heap.size W0 W0) := Lib.hid (Below.refl _ _)
        go_region_held3 (fun w' => w'.cell? ⟨w.heap.size, 0, none⟩ = some (.int .i64 4) ∧ w'.cell? ⟨w.heap.size, 1, none⟩ = some (.int .i64 n) ∧ w'.cell? ⟨w.heap.size, 2, none⟩ = some (.string s) ∧ w'.cell? ⟨w.heap.size, 3, none⟩ = some (.int .i64 x) ∧ w'.cell? ⟨w.heap.size, 4, none⟩ = some (.slice A0 L0 c0) ∧ w'.cell? a = some (.bool y.text) ∧ w'.cell? ⟨a.block, a.off + 1, none⟩ = some (.int .i64 y.num) ∧ w'.cell? ⟨a.block, a.off + 2, none⟩ = some (.string y.str)) (go_keep) (first
          | (go_at_call 82
             refine (HL6.out _ (by first | exact HB0.out | exact HB0.out.trans ((Below.refl _ _).drew) | exact HB0.out.alloc HB0.out.size _ | exact (HB0.out.trans ((Below.refl _ _).drew)).alloc HB0.out.size _)).mono ?_
             rintro e w1 ⟨u, rfl, hu, hb⟩
             have hbx : Below W0.heap.size W0 w1 := by first | exact hb | exact bs ((Below.refl _ _).drew) hb | exact bs (b1 _ _) hb | exact bs (bs ((Below.refl _ _).drew) (b1 _ _)) hb
             obtain ⟨Am, cm, rfl, -, -⟩ := hu.out
             rw [HRLg.out] at hu ⊢
             have HMM := Lib.hid hu
             replace HW := Lib.hid (bs HW.out hbx)
             first | (have ez := Lib.hid (carry hb (heap_alloc_new W0 (.cells #[.int .i64 0, .int .i64 0, .string ⟨#[]⟩, .int .i64 0, .slice none 0 0] IV)))) | (have ez := Lib.hid (carry hb (heap_alloc_new W0.drew (.cells #[.int .i64 0, .int .i64 0, .string ⟨#[]⟩, .int .i64 0, .slice none 0 0] IV)))) | skip
             first | (have zr := (rowc ez.out).1; have zf := (rowc ez.out).2) | skip
             obtain ⟨q0, q1, q2⟩ := HAT.out.below (bs HB0.out hbx)
             have E0h := Lib.hid (carry hbx E0.out)
             have d0_ : w1.cell? ⟨w.heap.size, 0, none⟩ = some (.int .i64 4) := (rowc E0h.out).1 0
             have d1_ : w1.cell? ⟨w.heap.size, 1, none⟩ = some (.int .i64 n) := (rowc E0h.out).1 1
             have d2_ : w1.cell? ⟨w.heap.size, 2, none⟩ = some (.string s) := (rowc E0h.out).1 2
             have d3_ : w1.cell? ⟨w.heap.size, 3, none⟩ = some (.int .i64 x) := (rowc E0h.out).1 3
             have d4_ : w1.cell? ⟨w.heap.size, 4, none⟩ = some (.slice A0 L0 c0) := (rowc E0h.out).1 4
             have nz2 : w1.heap.size ≠ w.heap.size := by have := hbx.size; have := (Array.getElem?_eq_some_iff.1 E0.out).1; omega
             have nz3 : w1.heap.size ≠ a.block := by have := hbx.size; have := World.block_lt_of_cell? _ _ a0_; omega
             clear hu hb hbx))
        all_goals
          go_wp2_with (fail)
          go_meet
          first
          | with_reducible exact cutS_box HW.out HMM.out
          | exact cutS_early HW.out (Nat.le_refl _) ez.out HMM.out (fun q hq e => by have h1 : q < w.heap.size := hq; have h2 := HB0.out.size; omega) rfl
      case rest =>
        obtain ⟨B, Am, cm, hp, hf, hbx, hNB, en, hv⟩ := hcut
        subst hp hf
        rename World => W1
        have HN := Lib.hid en
        have HV := Lib.hid (hv.stays (S' := fun _ => True) (fun _ _ => trivial) (fun _ _ _ => rfl))
        have HB1 := Lib.hid (bs HB0.out hbx)
        have E01 := Lib.hid (carry hbx E0.out)
        have E11 := Lib.hid (carry hbx E1.out)
        have EZ1 := Lib.hid (carry hbx EZ.out)
        have HNB := Lib.hid hNB
        clear en hv hbx hNB HL6 a0_ a1_ a2_ nz1 nz0 c0_ c1_ c2_ c3_ c4_
        have g0_ : W1.cell? ⟨B, 0, none⟩ = some (.int .i64 Kg) := (rowc HN.out).1 0
        have g1_ : W1.cell? ⟨B, 1, none⟩ = some (.int .i64 Ng) := (rowc HN.out).1 1
        have g2_ : W1.cell? ⟨B, 2, none⟩ = some (.string Zg) := (rowc HN.out).1 2
        have g3_ : W1.cell? ⟨B, 3, none⟩ = some (.int .i64 Xg) := (rowc HN.out).1 3
        have g4_ : W1.cell? ⟨B, 4, none⟩ = some (.slice Am RLg cm) := (rowc HN.out).1 4
        have x0_ : W1.cell? ⟨w.heap.size + 1, 0, none⟩ = some (.int .i64 ku) := (rowc E11.out).1 0
        have x1_ : W1.cell? ⟨w.heap.size + 1, 1, none⟩ = some (.int .i64 nu) := (rowc E11.out).1 1
        have x2_ : W1.cell? ⟨w.heap.size + 1, 2, none⟩ = some (.string su) := (rowc E11.out).1 2
        have x3_ : W1.cell? ⟨w.heap.size + 1, 3, none⟩ = some (.int .i64 xu) := (rowc E11.out).1 3
        have x4_ : W1.cell? ⟨w.heap.size + 1, 4, none⟩ = some (.slice Au Lu cu) := (rowc E11.out).1 4
        have nz4 : W1.heap.size ≠ B := by have := (Array.getElem?_eq_some_iff.1 HN.out).1; omega
        have nz5 : W1.heap.size ≠ w.heap.size + 1 := by have := (Array.getElem?_eq_some_iff.1 E11.out).1; omega
        go_wp2_with (fail)
        go_cut [12, 13] (fun px fx wx => CutWs W1 PC Kp Np Zp Xp RLp (.mk Kp Np Zp Xp RKp RVp) px fx wx)
        case first =>
          have HW : Hid (Below W1.heap.size W1 W1) := Lib.hid (Below.refl _ _)
          go_region_held3 (fun w' => w'.cell? ⟨B, 0, none⟩ = some (.int .i64 Kg) ∧ w'.cell? ⟨B, 1, none⟩ = some (.int .i64 Ng) ∧ w'.cell? ⟨B, 2, none⟩ = some (.string Zg) ∧ w'.cell? ⟨B, 3, none⟩ = some (.int .i64 Xg) ∧ w'.cell? ⟨B, 4, none⟩ = some (.slice Am RLg cm) ∧ w'.cell? ⟨w.heap.size + 1, 0, none⟩ = some (.int .i64 ku) ∧ w'.cell? ⟨w.heap.size + 1, 1, none⟩ = some (.int .i64 nu) ∧ w'.cell? ⟨w.heap.size + 1, 2, none⟩ = some (.string su) ∧ w'.cell? ⟨w.heap.size + 1, 3, none⟩ = some (.int .i64 xu) ∧ w'.cell? ⟨w.heap.size + 1, 4, none⟩ = some (.slice Au Lu cu)) (go_keep) (first
            | (go_at_call 180
               refine (HIH.out _ _ (by first | exact HB1.out | exact HB1.out.trans ((Below.refl _ _).drew) | exact HB1.out.alloc HB1.out.size _ | exact (HB1.out.trans ((Below.refl _ _).drew)).alloc HB1.out.size _) (by first | exact HV.out | exact HV.out.below' ((Below.refl _ _).drew) | exact HV.out.below' (b1 _ _) | exact HV.out.below' (bs ((Below.refl _ _).drew) (b1 _ _)))).mono ?_
               rintro e w2 ⟨u, rfl, hu, hb⟩
               have hbx : Below W1.heap.size W1 w2 := by first | exact hb | exact bs ((Below.refl _ _).drew) hb | exact bs (b1 _ _) hb | exact bs (bs ((Below.refl _ _).drew) (b1 _ _)) hb
               obtain ⟨Ap, cp, rfl, -, -⟩ := hu.out
               rw [HRLp.out] at hu ⊢
               have HMM := Lib.hid hu
               replace HW := Lib.hid (bs HW.out hbx)
               first | (have ez := Lib.hid (carry hb (heap_alloc_new W1 (.cells #[.int .i64 0, .int .i64 0, .string ⟨#[]⟩, .int .i64 0, .slice none 0 0] IV)))) | (have ez := Lib.hid (carry hb (heap_alloc_new W1.drew (.cells #[.int .i64 0, .int .i64 0, .string ⟨#[]⟩, .int .i64 0, .slice none 0 0] IV)))) | skip
               first | (have zr := (rowc ez.out).1; have zf := (rowc ez.out).2) | skip
               have HNh := Lib.hid (carry hbx HN.out)
               have E1h := Lib.hid (carry hbx E11.out)
               have d0_ : w2.cell? ⟨B, 0, none⟩ = some (.int .i64 Kg) := (rowc HNh.out).1 0
               have d1_ : w2.cell? ⟨B, 1, none⟩ = some (.int .i64 Ng) := (rowc HNh.out).1 1
               have d2_ : w2.cell? ⟨B, 2, none⟩ = some (.string Zg) := (rowc HNh.out).1 2
               have d3_ : w2.cell? ⟨B, 3, none⟩ = some (.int .i64 Xg) := (rowc HNh.out).1 3
               have d4_ : w2.cell? ⟨B, 4, none⟩ = some (.slice Am RLg cm) := (rowc HNh.out).1 4
               have e0_ : w2.cell? ⟨w.heap.size + 1, 0, none⟩ = some (.int .i64 ku) := (rowc E1h.out).1 0
               have e1_ : w2.cell? ⟨w.heap.size + 1, 1, none⟩ = some (.int .i64 nu) := (rowc E1h.out).1 1
               have e2_ : w2.cell? ⟨w.heap.size + 1, 2, none⟩ = some (.string su) := (rowc E1h.out).1 2
               have e3_ : w2.cell? ⟨w.heap.size + 1, 3, none⟩ = some (.int .i64 xu) := (rowc E1h.out).1 3
               have e4_ : w2.cell? ⟨w.heap.size + 1, 4, none⟩ = some (.slice Au Lu cu) := (rowc E1h.out).1 4
               have nz6 : w2.heap.size ≠ B := by have := hbx.size; have := (Array.getElem?_eq_some_iff.1 HN.out).1; omega
               have nz7 : w2.heap.size ≠ w.heap.size + 1 := by have := hbx.size; have := (Array.getElem?_eq_some_iff.1 E11.out).1; omega
               clear hu hb hbx))
          all_goals
            go_wp2_with (fail)
            go_meet
            first
            | with_reducible exact cutWs_box HW.out HMM.out
            | exact cutWs_early HW.out (Nat.le_refl _) ez.out HMM.out rfl
        case rest =>
          obtain ⟨B2, Ap, cp, hp, hf, hbx, hNB2, en, hv⟩ := hcut
          subst hp hf
          rename World => W2
          have HN2 := Lib.hid en
          have HV2 := Lib.hid hv
          have HB2 := Lib.hid (bs HB1.out hbx)
          have E02 := Lib.hid (carry hbx E01.out)
          have EZ2 := Lib.hid (carry hbx EZ1.out)
          have HNB2 : Hid (w.heap.size + 1 + 1 < B2) := Lib.hid (by have := (Array.getElem?_eq_some_iff.1 EZ1.out).1; omega)
          clear en hv hbx hNB2 HIH nz4 nz5 g0_ x0_ g1_ x1_ g2_ x2_ g3_ x3_ g4_ x4_
          have c0_ : W2.cell? ⟨w.heap.size, 0, none⟩ = some (.int .i64 4) := (rowc E02.out).1 0
          have c1_ : W2.cell? ⟨w.heap.size, 1, none⟩ = some (.int .i64 n) := (rowc E02.out).1 1
          have c2_ : W2.cell? ⟨w.heap.size, 2, none⟩ = some (.string s) := (rowc E02.out).1 2
          have c3_ : W2.cell? ⟨w.heap.size, 3, none⟩ = some (.int .i64 x) := (rowc E02.out).1 3
          have c4_ : W2.cell? ⟨w.heap.size, 4, none⟩ = some (.slice A0 L0 c0) := (rowc E02.out).1 4
          by_cases hP : PC = 0
          · subst hP
            rw [if_pos rfl] at HRR
            go_wp2_with (fail)
            go_cut [9] (fun fx wx => fx = .int .i64 0 ∧ CutR w (w.heap.size + 1 + 1) K N Z X RL (.mk K N Z X RK RV) wx)
            case first =>
              have nb1 : B2 ≠ w.heap.size + 1 + 1 := by have := HNB2.out; omega
              have nb2 : a.block ≠ w.heap.size + 1 + 1 := by have := World.block_lt_of_cell? _ _ HAT.out.c0; omega
              have nb0 : w.heap.size ≠ w.heap.size + 1 + 1 := by omega
              obtain ⟨a0_, a1_, a2_⟩ := HAT.out.below HB2.out
              have p0_ : W2.cell? ⟨B2, 0, none⟩ = some (.int .i64 Kp) := (rowc HN2.out).1 0
              have p1_ : W2.cell? ⟨B2, 1, none⟩ = some (.int .i64 Np) := (rowc HN2.out).1 1
              have p2_ : W2.cell? ⟨B2, 2, none⟩ = some (.string Zp) := (rowc HN2.out).1 2
              have p3_ : W2.cell? ⟨B2, 3, none⟩ = some (.int .i64 Xp) := (rowc HN2.out).1 3
              have p4_ : W2.cell? ⟨B2, 4, none⟩ = some (.slice Ap RLp cp) := (rowc HN2.out).1 4
              go_region_held3 (fun w' => w'.cell? ⟨w.heap.size, 0, none⟩ = some (.int .i64 4) ∧ w'.cell? ⟨w.heap.size, 1, none⟩ = some (.int .i64 n) ∧ w'.cell? ⟨w.heap.size, 2, none⟩ = some (.string s) ∧ w'.cell? ⟨w.heap.size, 3, none⟩ = some (.int .i64 x) ∧ w'.cell? ⟨w.heap.size, 4, none⟩ = some (.slice A0 L0 c0) ∧ w'.cell? ⟨B2, 0, none⟩ = some (.int .i64 Kp) ∧ w'.cell? ⟨B2, 1, none⟩ = some (.int .i64 Np) ∧ w'.cell? ⟨B2, 2, none⟩ = some (.string Zp) ∧ w'.cell? ⟨B2, 3, none⟩ = some (.int .i64 Xp) ∧ w'.cell? ⟨B2, 4, none⟩ = some (.slice Ap RLp cp) ∧ w'.cell? a = some (.bool y.text) ∧ w'.cell? ⟨a.block, a.off + 1, none⟩ = some (.int .i64 y.num) ∧ w'.cell? ⟨a.block, a.off + 2, none⟩ = some (.string y.str)) (first | (go_keep; done) | exact ⟨st5a j0_ nb0, st5a j1_ nb0, st5a j2_ nb0, st5a j3_ nb0, st5a j4_ nb0, st5a k0_ nb1, st5a k1_ nb1, st5a k2_ nb1, st5a k3_ nb1, st5a k4_ nb1, st5a i0_ nb2, st5a i1_ nb2, st5a i2_ nb2⟩) (first
                | (go_at_call 84
                   refine (HS6.out _ _ (by first | exact HB2.out | exact HB2.out.trans ((Below.refl _ _).drew)) (by first | exact HV2.out | exact HV2.out.below' ((Below.refl _ _).drew))).mono ?_
                   rintro e w3 ⟨u, rfl, hu, hb⟩
                   have hbx : Below W2.heap.size W2 w3 := by first | exact hb | exact bs ((Below.refl _ _).drew) hb
                   obtain ⟨Ar, cr, rfl, -, -⟩ := hu.out
                   rw [HRL.out] at hu ⊢
                   have HV3 := Lib.hid hu
                   have HB3 := Lib.hid (bs HB2.out hbx)
                   have HZ3 := Lib.hid (carry hbx EZ2.out)
                   have HE3 := Lib.hid (carry hbx E02.out)
                   have HN3 := Lib.hid (carry hbx HN2.out)
                   obtain ⟨i0_, i1_, i2_⟩ := HAT.out.below HB3.out
                   have j0_ : w3.cell? ⟨w.heap.size, 0, none⟩ = some (.int .i64 4) := (rowc HE3.out).1 0
                   have j1_ : w3.cell? ⟨w.heap.size, 1, none⟩ = some (.int .i64 n) := (rowc HE3.out).1 1
                   have j2_ : w3.cell? ⟨w.heap.size, 2, none⟩ = some (.string s) := (rowc HE3.out).1 2
                   have j3_ : w3.cell? ⟨w.heap.size, 3, none⟩ = some (.int .i64 x) := (rowc HE3.out).1 3
                   have j4_ : w3.cell? ⟨w.heap.size, 4, none⟩ = some (.slice A0 L0 c0) := (rowc HE3.out).1 4
                   have k0_ : w3.cell? ⟨B2, 0, none⟩ = some (.int .i64 Kp) := (rowc HN3.out).1 0
                   have k1_ : w3.cell? ⟨B2, 1, none⟩ = some (.int .i64 Np) := (rowc HN3.out).1 1
                   have k2_ : w3.cell? ⟨B2, 2, none⟩ = some (.string Zp) := (rowc HN3.out).1 2
                   have k3_ : w3.cell? ⟨B2, 3, none⟩ = some (.int .i64 Xp) := (rowc HN3.out).1 3
                   have k4_ : w3.cell? ⟨B2, 4, none⟩ = some (.slice Ap RLp cp) := (rowc HN3.out).1 4
                   obtain ⟨r3, f3⟩ := rowc HZ3.out
                   clear hu hb hbx))
              all_goals
                go_wp2_with (fail)
                go_meet
                exact ⟨rfl, cutR HB3.out (by omega) HZ3.out (fun b hb => hb.2) (HV3.out.nobox HZ3.out (fun b h => by cases h)) rfl⟩
            case rest =>
              obtain ⟨hf, Af, cf, eF, hTI, hBF⟩ := hcut
              subst hf
              have rF := (rowc eF).1
              go_wp2_with (fail)
              refine bodyPost_ret (v := .tuple #[vV K N Z X Af RL cf, .int .i64 0]) ?_ rfl ?_
              · simp [results, Tryz.results180, go_sem, rF]
              · rw [← HRR.out]
                exact ⟨_, rfl, hTI, hBF⟩
          · rw [if_neg hP] at HRR
            have hc0 : (PC != 0) = true := by simpa using hP
            have hc1 : (PC == 0) = false := by simpa using hP
            obtain ⟨rz, fz⟩ := rowc EZ2.out
            go_wp2_with (fail)
            generalize hwF : (((((W2.setCell ⟨w.heap.size + 1 + 1, 0, none⟩ (.int .i64 4)).setCell ⟨w.heap.size + 1 + 1, 1, none⟩ (.int .i64 n)).setCell ⟨w.heap.size + 1 + 1, 2, none⟩ (.string s)).setCell ⟨w.heap.size + 1 + 1, 3, none⟩ (.int .i64 x)).setCell ⟨w.heap.size + 1 + 1, 4, none⟩ (.slice A0 L0 c0)) = wF
            obtain ⟨rF, hov⟩ := retW (code := PC) HB2.out (by omega) EZ2.out (HTV.out.below' HB2.out) hwF
            refine bodyPost_ret (v := .tuple #[vV 4 n s x A0 L0 c0, .int .i64 PC]) ?_ rfl (by rw [← HRR.out]; exact hov)
            simp [results, Tryz.results180, go_sem, rF]
    · rw [hT4, if_neg (show ¬ knd (.mk k n s x ks vs) = 4 from h4)]
      clear hL6 hS6 HIH h hT4
      go_enter Tryz.func180, Tryz.ntmps180
      go_wp2_with (fail)
      obtain ⟨a0, a1, a2, az, ab⟩ := al3 w #[.int .i64 k, .int .i64 n, .string s, .int .i64 x, .slice A0 L0 c0] #[.int .i64 ku, .int .i64 nu, .string su, .int .i64 xu, .slice Au Lu cu] #[.int .i64 k, .int .i64 n, .string s, .int .i64 x, .slice A0 L0 c0] IV IV IV
      have rF := (rowc a2).1
      refine bodyPost_ret (v := .tuple #[vV k n s x A0 L0 c0, .int .i64 6]) ?_ rfl ?_
      · simp [results, Tryz.results180, go_sem, rF]
      · exact ⟨_, rfl, (HT.out.below' ab).stays (fun _ _ => trivial) (fun _ _ _ => rfl), ab⟩

end Go.Proofs.YtbgffmiffmmohaaGreatDoor.tree

/-
  Writing at the end of a path, of the model, with the limit of weight.
  Conditions: the value holds at most 10^9 values; the keys' numbers are in range.
-/
namespace Go.Proofs.YtbgffmiffmmohaaGreatDoor.tree
open Go.ChangeShapes Go.WideShapes Go.ChangeAt Go.RowKit
set_option linter.unusedVariables false

theorem l12Set_s : ∀ (ys : List Ky) (t u : Tr) (v vu : Value) (push : Bool) (A : Option Addr) (c : Nat) (w : World), TIn w (fun _ => True) t v → TIn w (fun _ => True) u vu → KIn w ys A → (ys.length ≤ c ∧ c ≤ maxLen) → (∀ y ∈ ys, y.text = false → y.num < 9223372036854775807) → cnt t ≤ 1000000000 → Calls Tryz.prog 180 #[v, .slice A ys.length c, .bool push, vu] w (OutW w (setP t ys push u))
  | [], t, u, v, vu, push, A, c, w, h, hu, hk, hc, hn, hN => l12Set_nil t u v vu push A c w h hu hN
  | y :: zs, t, u, v, vu, push, A, c, w, h, hu, hk, hc, hn, hN => l12Set_cons y zs t u v vu push A c w h hu hk hc (hn y (List.mem_cons_self ..)) hN (fun t' v' A' c' w' h1 h2 h3 h4 h5 => l12Set_s zs t' u v' vu push A' c' w' h1 h2 h3 h4 (fun z hz => hn z (List.mem_cons_of_mem _ hz)) h5)

set_option maxRecDepth 100000 in
set_option maxHeartbeats 4000000 in
theorem l12Put_s (ys : List Ky) (t u : Tr) (v vu : Value) (push : Bool) (A : Option Addr) (c : Nat) (w : World) (h : TIn w (fun _ => True) t v) (hu : TIn w (fun _ => True) u vu) (hk : KIn w ys A) (hc : ys.length ≤ c ∧ c ≤ maxLen) (hn : ∀ y ∈ ys, y.text = false → y.num < 9223372036854775807) (hN : cnt t ≤ 1000000000) : Calls Tryz.prog 107 #[v, .slice A ys.length c, .bool push, vu] w (OutW w (putP t ys push u)) := by
  have ST : Hid (∀ w', Below w.heap.size w w' → Calls Tryz.prog 180 #[v, .slice A ys.length c, .bool push, vu] w' (OutW w' (setP t ys push u))) := Lib.hid fun w' hb => l12Set_s ys t u v vu push A c w' (h.below' hb) (hu.below' hb) (hk.below hb) hc hn hN
  obtain ⟨E, C, HE⟩ : ∃ E C, Hid (setP t ys push u = (E, C)) := ⟨_, _, Lib.hid rfl⟩
  have hput : putP t ys push u = if C = 0 then (if wgt E ≤ 200 then (E, 0) else (t, 9)) else (t, C) := by unfold putP; rw [HE.out]
  rw [hput]
  rw [HE.out] at ST
  have WE : Hid (∀ w' S' v', TIn w' S' E v' → Calls Tryz.prog 92 #[v', .int .i64 200] w' (LtQ w' (cut 200 (wgt E)))) := Lib.hid (fun w' S' v' h => weigh_s E w' S' v' h 200 (by omega) (by omega))
  obtain ⟨k, n, s, x, ks, vs⟩ := t
  obtain ⟨A0, c0, rfl, -, -⟩ := h.out
  obtain ⟨L0, HL0⟩ : ∃ L, Hid (vs.length = L) := ⟨_, Lib.hid rfl⟩
  obtain ⟨ku, nu, su, xu, ksu, vsu⟩ := u
  obtain ⟨Au, cu, rfl, -, -⟩ := hu.out
  obtain ⟨Lu, HLu⟩ : ∃ L, Hid (vsu.length = L) := ⟨_, Lib.hid rfl⟩
  rw [HL0.out] at h ST ⊢
  rw [HLu.out] at hu ST ⊢
  have HT := Lib.hid h
  obtain ⟨L, HL⟩ : ∃ L, Hid (ys.length = L) := ⟨_, Lib.hid rfl⟩
  rw [HL.out] at ST ⊢
  clear h hu hk hc hn hN hput HE
  obtain ⟨W, HW⟩ : ∃ W, Hid (wgt E = W) := ⟨_, Lib.hid rfl⟩
  rw [HW.out] at WE ⊢
  obtain ⟨K, N, Z, X, RK, RV⟩ := E
  obtain ⟨RL, HRL⟩ : ∃ L, Hid (RV.length = L) := ⟨_, Lib.hid rfl⟩
  by_cases hC : C = 0
  · subst hC
    rw [if_pos rfl]
    by_cases hW : W ≤ 200
    · rw [if_pos hW]
      have hcut : cut 200 W = W := by unfold cut; rw [if_neg (by omega)]
      rw [hcut] at WE
      have hW2 : (W : Int) ≤ 200 := by omega
      go_enter Tryz.func107, Tryz.ntmps107
      go_wp2_with (fail)
      obtain ⟨a0, a1, a2, az, ab⟩ := al3 w #[.int .i64 k, .int .i64 n, .string s, .int .i64 x, .slice A0 L0 c0] #[.int .i64 ku, .int .i64 nu, .string su, .int .i64 xu, .slice Au Lu cu] #[.int .i64 0, .int .i64 0, .string ⟨#[]⟩, .int .i64 0, .slice none 0 0] IV IV IV
      refine (ST.out _ ab).mono ?_
      rintro e w1 ⟨u1, rfl, hu1, hb1⟩
      obtain ⟨A1, c1, rfl, -, -⟩ := TIn.out hu1
      rw [HRL.out] at hu1 ⊢
      have HE1 := Lib.hid hu1
      have EZ1 := Lib.hid (carry hb1 a2)
      have E01 := Lib.hid (carry hb1 a0)
      have HB1 := Lib.hid (bs ab hb1)
      clear hu1 hb1 a0 a1 a2 az ab ST
      go_wp2_with (fail)
      have hbc := b1 w1 (.cells #[.int .i64 K, .int .i64 N, .string Z, .int .i64 X, .slice A1 RL c1] IV)
      have hec := heap_alloc_new w1 (.cells #[.int .i64 K, .int .i64 N, .string Z, .int .i64 X, .slice A1 RL c1] IV)
      refine (WE.out _ _ _ (HE1.out.below' hbc)).mono ?_
      rintro e w2 ⟨rfl, hb2⟩
      have HE2 := Lib.hid ((HE1.out.below' hbc).below' hb2)
      have EZ2 := Lib.hid (carry hb2 (keepAlloc EZ1.out))
      have E02 := Lib.hid (carry hb2 (keepAlloc E01.out))
      have HB2 := Lib.hid (bs HB1.out (bs hbc hb2))
      have HC2 := Lib.hid (carry hb2 hec)
      obtain ⟨r5, f5⟩ := rowc HC2.out
      obtain ⟨r6, f6⟩ := rowc EZ2.out
      obtain ⟨r7, f7⟩ := rowc E02.out
      clear hb2 hbc hec
      go_wp2_with (fail)
      generalize hwF : (((((w2.setCell ⟨w.heap.size + 1 + 1, 0, none⟩ (.int .i64 K)).setCell ⟨w.heap.size + 1 + 1, 1, none⟩ (.int .i64 N)).setCell ⟨w.heap.size + 1 + 1, 2, none⟩ (.string Z)).setCell ⟨w.heap.size + 1 + 1, 3, none⟩ (.int .i64 X)).setCell ⟨w.heap.size + 1 + 1, 4, none⟩ (.slice A1 RL c1)) = wF
      obtain ⟨rF, hov⟩ := retW (code := 0) HB2.out (by omega) EZ2.out HE2.out hwF
      refine bodyPost_ret (v := .tuple #[vV K N Z X A1 RL c1, .int .i64 0]) ?_ rfl hov
      simp [results, Tryz.results107, go_sem, rF]
    · rw [if_neg hW]
      have hcut : cut 200 W = 201 := by unfold cut; rw [if_pos (by omega)]; rfl
      rw [hcut] at WE
      go_enter Tryz.func107, Tryz.ntmps107
      go_wp2_with (fail)
      obtain ⟨a0, a1, a2, az, ab⟩ := al3 w #[.int .i64 k, .int .i64 n, .string s, .int .i64 x, .slice A0 L0 c0] #[.int .i64 ku, .int .i64 nu, .string su, .int .i64 xu, .slice Au Lu cu] #[.int .i64 0, .int .i64 0, .string ⟨#[]⟩, .int .i64 0, .slice none 0 0] IV IV IV
      refine (ST.out _ ab).mono ?_
      rintro e w1 ⟨u1, rfl, hu1, hb1⟩
      obtain ⟨A1, c1, rfl, -, -⟩ := TIn.out hu1
      rw [HRL.out] at hu1 ⊢
      have HE1 := Lib.hid hu1
      have EZ1 := Lib.hid (carry hb1 a2)
      have E01 := Lib.hid (carry hb1 a0)
      have HB1 := Lib.hid (bs ab hb1)
      clear hu1 hb1 a0 a1 a2 az ab ST
      go_wp2_with (fail)
      have hbc := b1 w1 (.cells #[.int .i64 K, .int .i64 N, .string Z, .int .i64 X, .slice A1 RL c1] IV)
      have hec := heap_alloc_new w1 (.cells #[.int .i64 K, .int .i64 N, .string Z, .int .i64 X, .slice A1 RL c1] IV)
      refine (WE.out _ _ _ (HE1.out.below' hbc)).mono ?_
      rintro e w2 ⟨rfl, hb2⟩
      have HE2 := Lib.hid ((HE1.out.below' hbc).below' hb2)
      have EZ2 := Lib.hid (carry hb2 (keepAlloc EZ1.out))
      have E02 := Lib.hid (carry hb2 (keepAlloc E01.out))
      have HB2 := Lib.hid (bs HB1.out (bs hbc hb2))
      have HC2 := Lib.hid (carry hb2 hec)
      obtain ⟨r5, f5⟩ := rowc HC2.out
      obtain ⟨r6, f6⟩ := rowc EZ2.out
      obtain ⟨r7, f7⟩ := rowc E02.out
      clear hb2 hbc hec
      go_wp2_with (fail)
      generalize hwF : (((((w2.setCell ⟨w.heap.size + 1 + 1, 0, none⟩ (.int .i64 k)).setCell ⟨w.heap.size + 1 + 1, 1, none⟩ (.int .i64 n)).setCell ⟨w.heap.size + 1 + 1, 2, none⟩ (.string s)).setCell ⟨w.heap.size + 1 + 1, 3, none⟩ (.int .i64 x)).setCell ⟨w.heap.size + 1 + 1, 4, none⟩ (.slice A0 L0 c0)) = wF
      obtain ⟨rF, hov⟩ := retW (code := 9) HB2.out (by omega) EZ2.out (Lib.hid (HT.out.below' HB2.out)).out hwF
      refine bodyPost_ret (v := .tuple #[vV k n s x A0 L0 c0, .int .i64 9]) ?_ rfl hov
      simp [results, Tryz.results107, go_sem, rF]
  · rw [if_neg hC]
    have hc0 : (C != 0) = true := by simpa using hC
    have hc1 : (C == 0) = false := by simpa using hC
    go_enter Tryz.func107, Tryz.ntmps107
    go_wp2_with (fail)
    obtain ⟨a0, a1, a2, az, ab⟩ := al3 w #[.int .i64 k, .int .i64 n, .string s, .int .i64 x, .slice A0 L0 c0] #[.int .i64 ku, .int .i64 nu, .string su, .int .i64 xu, .slice Au Lu cu] #[.int .i64 0, .int .i64 0, .string ⟨#[]⟩, .int .i64 0, .slice none 0 0] IV IV IV
    refine (ST.out _ ab).mono ?_
    rintro e w1 ⟨u1, rfl, hu1, hb1⟩
    obtain ⟨A1, c1, rfl, -, -⟩ := TIn.out hu1
    rw [HRL.out] at hu1 ⊢
    have HE1 := Lib.hid hu1
    have EZ1 := Lib.hid (carry hb1 a2)
    have E01 := Lib.hid (carry hb1 a0)
    have HB1 := Lib.hid (bs ab hb1)
    clear hu1 hb1 a0 a1 a2 az ab ST
    have r5 : ∀ o q, (w1.alloc o).cell? ⟨w.heap.size, q, none⟩ = _ := fun o q => (rowc (keepAlloc E01.out)).1 q
    have f6 : ∀ o q, (w1.alloc o).frozen? ⟨w.heap.size + 1 + 1, q, none⟩ = _ := fun o q => (rowc (keepAlloc EZ1.out)).2 q
    have r6 : ∀ o q, (w1.alloc o).cell? ⟨w.heap.size + 1 + 1, q, none⟩ = _ := fun o q => (rowc (keepAlloc EZ1.out)).1 q
    go_upto_region 4 with (fail)
    generalize hw2 : w1.alloc (.cells #[.int .i64 K, .int .i64 N, .string Z, .int .i64 X, .slice A1 RL c1] IV) = w2
    have hb2 : Below w1.heap.size w1 w2 := hw2 ▸ b1 _ _
    have EZ2 := Lib.hid (carry hb2 EZ1.out)
    have E02 := Lib.hid (carry hb2 E01.out)
    have HB2 := Lib.hid (bs HB1.out hb2)
    clear r5 f6 r6 hw2 hb2
    obtain ⟨r6, f6⟩ := rowc EZ2.out
    obtain ⟨r7, f7⟩ := rowc E02.out
    go_wp2_with (fail)
    generalize hwF : (((((w2.setCell ⟨w.heap.size + 1 + 1, 0, none⟩ (.int .i64 k)).setCell ⟨w.heap.size + 1 + 1, 1, none⟩ (.int .i64 n)).setCell ⟨w.heap.size + 1 + 1, 2, none⟩ (.string s)).setCell ⟨w.heap.size + 1 + 1, 3, none⟩ (.int .i64 x)).setCell ⟨w.heap.size + 1 + 1, 4, none⟩ (.slice A0 L0 c0)) = wF
    obtain ⟨rF, hov⟩ := retW (code := C) HB2.out (by omega) EZ2.out (Lib.hid (HT.out.below' HB2.out)).out hwF
    refine bodyPost_ret (v := .tuple #[vV k n s x A0 L0 c0, .int .i64 C]) ?_ rfl hov
    simp [results, Tryz.results107, go_sem, rF]

end Go.Proofs.YtbgffmiffmmohaaGreatDoor.tree

/-
  SetPath of the model.
  Conditions: the values hold at most 10^9 values with the keys, and short texts; the package variables of the library's reading of numbers hold what the program's text lays.
-/
namespace Go.Proofs.YtbgffmiffmmohaaGreatDoor.tree
open Go.ChangeShapes Go.WideShapes Go.ChangeAt Go.RowKit
set_option linter.unusedVariables false

def OutSm (w : World) (t : Tr) (code : Int) (e : Ending) (w' : World) : Prop := ∃ u, e = .returned (.tuple #[u, .int .i64 code]) ∧ TIn w' (fun q => w.heap.size ≤ q) t u ∧ Below w.heap.size w w'

set_option maxRecDepth 100000 in
set_option maxHeartbeats 4000000 in
theorem setPath_s (t : Tr) (ys : List Ky) (push : Bool) (u : Tr) (v vu : Value) (A : Option Addr) (c : Nat) (w : World) (S : Nat → Prop) (h : TIn w S t v) (hu : TIn w S u vu) (hk : KIn w ys A) (hc : ys.length ≤ c ∧ c ≤ maxLen) (hN : cnt t + cnt u + ys.length ≤ 1000000000) (hT : tot t + tot u + ktot ys + 1 ≤ 1000000000) (hE : prs.Env w) :
    Calls Tryz.prog 38 #[v, .slice A ys.length c, .bool push, vu] w (OutSm w (setPR t ys push u).1 (setPR t ys push u).2) := by
  have hfits := h.fits
  have h1 : TIn w (fun _ => True) t v := h.stays (fun _ _ => trivial) (fun _ _ _ => rfl)
  have h2 : TIn w (fun _ => True) u vu := hu.stays (fun _ _ => trivial) (fun _ _ _ => rfl)
  have IT : Hid (∀ w', Below w.heap.size w w' → Calls Tryz.prog 28 #[v] w' (BoQ w' (valB t))) := Lib.hid fun w' hb => isValue_s t (by omega) w' _ v (hE.stays hb) (h.below' hb)
  have IU : Hid (∀ w', Below w.heap.size w w' → Calls Tryz.prog 28 #[vu] w' (BoQ w' (valB u))) := Lib.hid fun w' hb => isValue_s u (by omega) w' _ vu (hE.stays hb) (hu.below' hb)
  have hst : ∀ y ∈ ys, y.str.size ≤ 281474976710656 := fun y hy => by have := ktot_mem hy; omega
  have AK : Hid (∀ w', Below w.heap.size w w' → Calls Tryz.prog 106 #[.slice A ys.length c] w' (BoQ w' (keysB ys))) := Lib.hid fun w' hb => l12Keys_s ys A c w' (hk.below hb) (Nat.le_trans hc.1 hc.2) hst (hE.stays hb)
  have CV : Hid (∀ w', Below w.heap.size w w' → Calls Tryz.prog 83 #[v] w' (OutV w' t (fun q => w'.heap.size ≤ q))) := Lib.hid fun w' hb => l5Copy t (by omega) w' S v (h.below' hb)
  obtain ⟨b1v, HV1⟩ : ∃ b, Hid (valB t = b) := ⟨_, Lib.hid rfl⟩
  obtain ⟨b2v, HV2⟩ : ∃ b, Hid (valB u = b) := ⟨_, Lib.hid rfl⟩
  obtain ⟨b3v, HV3⟩ : ∃ b, Hid (keysB ys = b) := ⟨_, Lib.hid rfl⟩
  rw [HV1.out] at IT
  rw [HV2.out] at IU
  rw [HV3.out] at AK
  by_cases hok : (b1v && (b2v && b3v)) = true
  · have hR : setPR t ys push u = putP t ys push u := by unfold setPR; rw [HV1.out, HV2.out, HV3.out, if_pos hok]
    rw [hR]
    obtain ⟨rfl, rfl, rfl⟩ : b1v = true ∧ b2v = true ∧ b3v = true := by simpa using hok
    have WR : Hid (∀ w', Below w.heap.size w w' → Calls Tryz.prog 107 #[v, .slice A ys.length c, .bool push, vu] w' (OutW w' (putP t ys push u))) := Lib.hid fun w' hb =>
      l12Put_s ys t u v vu push A c w' (h1.below' hb) (h2.below' hb) (hk.below hb) hc (fun y hy h3 => by
        have h4 := HV3.out
        unfold keysB at h4
        have := key_num (List.all_eq_true.1 h4 y hy) h3
        omega) (by omega)
    obtain ⟨E, C, HP⟩ : ∃ E C, Hid (putP t ys push u = (E, C)) := ⟨_, _, Lib.hid rfl⟩
    have hps := put_size (push := push) (u := u) (ys := ys) hfits
    have hpb := put_bad (t := t) (push := push) (u := u) (ys := ys)
    rw [HP.out] at WR hps hpb ⊢
    simp only at WR hps hpb ⊢
    have hEc : cnt E ≤ 1000000000 := by
      by_cases h0 : C = 0
      · have := (hps h0).1; omega
      · rw [hpb h0]; omega
    have CE : Hid (∀ w' S' v', TIn w' S' E v' → Calls Tryz.prog 83 #[v'] w' (OutV w' E (fun q => w'.heap.size ≤ q))) := Lib.hid fun w' S' v' hv => l5Copy E hEc w' S' v' hv
    obtain ⟨k, n, s, x, ks, vs⟩ := t
    obtain ⟨A0, c0, rfl, -, -⟩ := h.out
    obtain ⟨L0, HL0⟩ : ∃ L, Hid (vs.length = L) := ⟨_, Lib.hid rfl⟩
    obtain ⟨ku, nu, su, xu, ksu, vsu⟩ := u
    obtain ⟨Au, cu, rfl, -, -⟩ := hu.out
    obtain ⟨Lu, HLu⟩ : ∃ L, Hid (vsu.length = L) := ⟨_, Lib.hid rfl⟩
    rw [HL0.out] at IT CV WR ⊢
    rw [HLu.out] at IU WR ⊢
    obtain ⟨L, HL⟩ : ∃ L, Hid (ys.length = L) := ⟨_, Lib.hid rfl⟩
    rw [HL.out] at AK WR ⊢
    clear h hu h1 h2 hk hc hN hT hfits hE HV1 HV2 HV3
    clear hR hok hps hpb hEc HP CV hst
    obtain ⟨K, N, Z, X, RK, RV⟩ := E
    obtain ⟨RL, HRL⟩ : ∃ L, Hid (RV.length = L) := ⟨_, Lib.hid rfl⟩
    go_enter Tryz.func38, Tryz.ntmps38
    go_wp2_with (fail)
    obtain ⟨a0, a1, a2, az, ab⟩ := al3 w #[.int .i64 k, .int .i64 n, .string s, .int .i64 x, .slice A0 L0 c0] #[.int .i64 ku, .int .i64 nu, .string su, .int .i64 xu, .slice Au Lu cu] #[.int .i64 0, .int .i64 0, .string ⟨#[]⟩, .int .i64 0, .slice none 0 0] IV IV IV
    refine (IT.out _ ab).mono ?_
    rintro e w1 ⟨rfl, hb1⟩
    have E01 := Lib.hid (carry hb1 a0)
    have E11 := Lib.hid (carry hb1 a1)
    have EZ1 := Lib.hid (carry hb1 a2)
    have HB1 := Lib.hid (bs ab hb1)
    clear a0 a1 a2 az ab hb1
    have d1_0 : w1.cell? ⟨w.heap.size, 0, none⟩ = some (.int .i64 k) := (rowc E01.out).1 0
    have d1_1 : w1.cell? ⟨w.heap.size, 1, none⟩ = some (.int .i64 n) := (rowc E01.out).1 1
    have d1_2 : w1.cell? ⟨w.heap.size, 2, none⟩ = some (.string s) := (rowc E01.out).1 2
    have d1_3 : w1.cell? ⟨w.heap.size, 3, none⟩ = some (.int .i64 x) := (rowc E01.out).1 3
    have d1_4 : w1.cell? ⟨w.heap.size, 4, none⟩ = some (.slice A0 L0 c0) := (rowc E01.out).1 4
    have x1_0 : w1.cell? ⟨w.heap.size + 1, 0, none⟩ = some (.int .i64 ku) := (rowc E11.out).1 0
    have x1_1 : w1.cell? ⟨w.heap.size + 1, 1, none⟩ = some (.int .i64 nu) := (rowc E11.out).1 1
    have x1_2 : w1.cell? ⟨w.heap.size + 1, 2, none⟩ = some (.string su) := (rowc E11.out).1 2
    have x1_3 : w1.cell? ⟨w.heap.size + 1, 3, none⟩ = some (.int .i64 xu) := (rowc E11.out).1 3
    have x1_4 : w1.cell? ⟨w.heap.size + 1, 4, none⟩ = some (.slice Au Lu cu) := (rowc E11.out).1 4
    go_wp2_with (fail)
    refine (IU.out _ HB1.out).mono ?_
    rintro e w2 ⟨rfl, hb2⟩
    have E02 := Lib.hid (carry hb2 E01.out)
    have E12 := Lib.hid (carry hb2 E11.out)
    have EZ2 := Lib.hid (carry hb2 EZ1.out)
    have HB2 := Lib.hid (bs HB1.out hb2)
    clear hb2
    clear d1_0 x1_0 d1_1 x1_1 d1_2 x1_2 d1_3 x1_3 d1_4 x1_4
    have d2_0 : w2.cell? ⟨w.heap.size, 0, none⟩ = some (.int .i64 k) := (rowc E02.out).1 0
    have d2_1 : w2.cell? ⟨w.heap.size, 1, none⟩ = some (.int .i64 n) := (rowc E02.out).1 1
    have d2_2 : w2.cell? ⟨w.heap.size, 2, none⟩ = some (.string s) := (rowc E02.out).1 2
    have d2_3 : w2.cell? ⟨w.heap.size, 3, none⟩ = some (.int .i64 x) := (rowc E02.out).1 3
    have d2_4 : w2.cell? ⟨w.heap.size, 4, none⟩ = some (.slice A0 L0 c0) := (rowc E02.out).1 4
    have x2_0 : w2.cell? ⟨w.heap.size + 1, 0, none⟩ = some (.int .i64 ku) := (rowc E12.out).1 0
    have x2_1 : w2.cell? ⟨w.heap.size + 1, 1, none⟩ = some (.int .i64 nu) := (rowc E12.out).1 1
    have x2_2 : w2.cell? ⟨w.heap.size + 1, 2, none⟩ = some (.string su) := (rowc E12.out).1 2
    have x2_3 : w2.cell? ⟨w.heap.size + 1, 3, none⟩ = some (.int .i64 xu) := (rowc E12.out).1 3
    have x2_4 : w2.cell? ⟨w.heap.size + 1, 4, none⟩ = some (.slice Au Lu cu) := (rowc E12.out).1 4
    go_wp2_with (fail)
    refine (AK.out _ HB2.out).mono ?_
    rintro e w3 ⟨rfl, hb3⟩
    have E03 := Lib.hid (carry hb3 E02.out)
    have E13 := Lib.hid (carry hb3 E12.out)
    have EZ3 := Lib.hid (carry hb3 EZ2.out)
    have HB3 := Lib.hid (bs HB2.out hb3)
    clear hb3
    clear d2_0 x2_0 d2_1 x2_1 d2_2 x2_2 d2_3 x2_3 d2_4 x2_4
    have d3_0 : w3.cell? ⟨w.heap.size, 0, none⟩ = some (.int .i64 k) := (rowc E03.out).1 0
    have d3_1 : w3.cell? ⟨w.heap.size, 1, none⟩ = some (.int .i64 n) := (rowc E03.out).1 1
    have d3_2 : w3.cell? ⟨w.heap.size, 2, none⟩ = some (.string s) := (rowc E03.out).1 2
    have d3_3 : w3.cell? ⟨w.heap.size, 3, none⟩ = some (.int .i64 x) := (rowc E03.out).1 3
    have d3_4 : w3.cell? ⟨w.heap.size, 4, none⟩ = some (.slice A0 L0 c0) := (rowc E03.out).1 4
    have x3_0 : w3.cell? ⟨w.heap.size + 1, 0, none⟩ = some (.int .i64 ku) := (rowc E13.out).1 0
    have x3_1 : w3.cell? ⟨w.heap.size + 1, 1, none⟩ = some (.int .i64 nu) := (rowc E13.out).1 1
    have x3_2 : w3.cell? ⟨w.heap.size + 1, 2, none⟩ = some (.string su) := (rowc E13.out).1 2
    have x3_3 : w3.cell? ⟨w.heap.size + 1, 3, none⟩ = some (.int .i64 xu) := (rowc E13.out).1 3
    have x3_4 : w3.cell? ⟨w.heap.size + 1, 4, none⟩ = some (.slice Au Lu cu) := (rowc E13.out).1 4
    go_wp2_with (fail)
    refine (WR.out _ HB3.out).mono ?_
    rintro e w4 ⟨u1, rfl, hu1, hb4⟩
    obtain ⟨A4, c4, rfl, -, -⟩ := TIn.out hu1
    rw [HRL.out] at hu1 ⊢
    have HE4 := Lib.hid hu1
    have EZ4 := Lib.hid (carry hb4 EZ3.out)
    have HB4 := Lib.hid (bs HB3.out hb4)
    clear hu1 hb4 d3_0 x3_0 d3_1 x3_1 d3_2 x3_2 d3_3 x3_3 d3_4 x3_4
    go_wp2_with (fail)
    refine (CE.out _ _ _ (HE4.out.below' (b1 w4 (.cells #[.int .i64 K, .int .i64 N, .string Z, .int .i64 X, .slice A4 RL c4] IV)))).mono ?_
    rintro e w5 ⟨u, rfl, hu, hb5⟩
    obtain ⟨Az, cz, rfl, -, -⟩ := hu.out
    rw [HRL.out] at hu ⊢
    have HU := Lib.hid hu
    have EZ5 := Lib.hid (carry hb5 (keepAlloc EZ4.out))
    have HB5 := Lib.hid (bs HB4.out (bs (b1 w4 _) hb5))
    obtain ⟨rz, fz⟩ := rowc EZ5.out
    clear hu hb5
    go_wp2_with (fail)
    generalize hwF : (((((w5.setCell ⟨w.heap.size + 1 + 1, 0, none⟩ (.int .i64 K)).setCell ⟨w.heap.size + 1 + 1, 1, none⟩ (.int .i64 N)).setCell ⟨w.heap.size + 1 + 1, 2, none⟩ (.string Z)).setCell ⟨w.heap.size + 1 + 1, 3, none⟩ (.int .i64 X)).setCell ⟨w.heap.size + 1 + 1, 4, none⟩ (.slice Az RL cz)) = wF
    obtain ⟨rF, oF, bF⟩ := fill5 EZ5.out hwF
    refine bodyPost_ret (v := .tuple #[vV K N Z X Az RL cz, .int .i64 C]) ?_ rfl ?_
    · simp [results, Tryz.results38, go_sem, rF]
    · have hz : w.heap.size + 1 + 1 < w4.heap.size := (Array.getElem?_eq_some_iff.1 EZ4.out).1
      have hy := HB4.out.size
      refine ⟨_, rfl, HU.out.stays (fun q hq => ?_) (fun q hq _ => oF q ?_), bF _ _ (by omega) HB5.out⟩
      · have h1 : (w4.alloc _).heap.size ≤ q := hq
        simp at h1
        omega
      · have h1 : (w4.alloc _).heap.size ≤ q := hq
        simp at h1
        omega
  · have hR : setPR t ys push u = (t, 5) := by unfold setPR; rw [HV1.out, HV2.out, HV3.out, if_neg hok]
    rw [hR]
    obtain ⟨T0, hT0⟩ : ∃ T, T = t := ⟨_, rfl⟩
    rw [← hT0] at CV ⊢
    clear hT0
    obtain ⟨k, n, s, x, ks, vs⟩ := t
    obtain ⟨A0, c0, rfl, -, -⟩ := h.out
    obtain ⟨L0, HL0⟩ : ∃ L, Hid (vs.length = L) := ⟨_, Lib.hid rfl⟩
    obtain ⟨ku, nu, su, xu, ksu, vsu⟩ := u
    obtain ⟨Au, cu, rfl, -, -⟩ := hu.out
    obtain ⟨Lu, HLu⟩ : ∃ L, Hid (vsu.length = L) := ⟨_, Lib.hid rfl⟩
    rw [HL0.out] at IT CV ⊢
    rw [HLu.out] at IU ⊢
    obtain ⟨L, HL⟩ : ∃ L, Hid (ys.length = L) := ⟨_, Lib.hid rfl⟩
    rw [HL.out] at AK ⊢
    clear h hu h1 h2 hk hc hN hT hfits hE HV1 HV2 HV3
    clear hst hR
    obtain ⟨K, N, Z, X, RK, RV⟩ := T0
    obtain ⟨RL, HRL⟩ : ∃ L, Hid (RV.length = L) := ⟨_, Lib.hid rfl⟩
    cases b1v with
    | false =>
      clear hok
      go_enter Tryz.func38, Tryz.ntmps38
      go_wp2_with (fail)
      obtain ⟨a0, a1, a2, az, ab⟩ := al3 w #[.int .i64 k, .int .i64 n, .string s, .int .i64 x, .slice A0 L0 c0] #[.int .i64 ku, .int .i64 nu, .string su, .int .i64 xu, .slice Au Lu cu] #[.int .i64 0, .int .i64 0, .string ⟨#[]⟩, .int .i64 0, .slice none 0 0] IV IV IV
      refine (IT.out _ ab).mono ?_
      rintro e w1 ⟨rfl, hb1⟩
      have E01 := Lib.hid (carry hb1 a0)
      have E11 := Lib.hid (carry hb1 a1)
      have EZ1 := Lib.hid (carry hb1 a2)
      have HB1 := Lib.hid (bs ab hb1)
      clear a0 a1 a2 az ab hb1
      have d1_0 : w1.cell? ⟨w.heap.size, 0, none⟩ = some (.int .i64 k) := (rowc E01.out).1 0
      have d1_1 : w1.cell? ⟨w.heap.size, 1, none⟩ = some (.int .i64 n) := (rowc E01.out).1 1
      have d1_2 : w1.cell? ⟨w.heap.size, 2, none⟩ = some (.string s) := (rowc E01.out).1 2
      have d1_3 : w1.cell? ⟨w.heap.size, 3, none⟩ = some (.int .i64 x) := (rowc E01.out).1 3
      have d1_4 : w1.cell? ⟨w.heap.size, 4, none⟩ = some (.slice A0 L0 c0) := (rowc E01.out).1 4
      have x1_0 : w1.cell? ⟨w.heap.size + 1, 0, none⟩ = some (.int .i64 ku) := (rowc E11.out).1 0
      have x1_1 : w1.cell? ⟨w.heap.size + 1, 1, none⟩ = some (.int .i64 nu) := (rowc E11.out).1 1
      have x1_2 : w1.cell? ⟨w.heap.size + 1, 2, none⟩ = some (.string su) := (rowc E11.out).1 2
      have x1_3 : w1.cell? ⟨w.heap.size + 1, 3, none⟩ = some (.int .i64 xu) := (rowc E11.out).1 3
      have x1_4 : w1.cell? ⟨w.heap.size + 1, 4, none⟩ = some (.slice Au Lu cu) := (rowc E11.out).1 4
      go_wp2_with (fail)
      refine (CV.out _ HB1.out).mono ?_
      rintro e w2 ⟨u, rfl, hu, hb2⟩
      obtain ⟨Az, cz, rfl, -, -⟩ := hu.out
      rw [HRL.out] at hu ⊢
      have HU := Lib.hid hu
      have EZ2 := Lib.hid (carry hb2 EZ1.out)
      have HB2 := Lib.hid (bs HB1.out hb2)
      obtain ⟨rz, fz⟩ := rowc EZ2.out
      clear hu hb2
      clear d1_0 x1_0 d1_1 x1_1 d1_2 x1_2 d1_3 x1_3 d1_4 x1_4
      go_wp2_with (fail)
      generalize hwF : (((((w2.setCell ⟨w.heap.size + 1 + 1, 0, none⟩ (.int .i64 K)).setCell ⟨w.heap.size + 1 + 1, 1, none⟩ (.int .i64 N)).setCell ⟨w.heap.size + 1 + 1, 2, none⟩ (.string Z)).setCell ⟨w.heap.size + 1 + 1, 3, none⟩ (.int .i64 X)).setCell ⟨w.heap.size + 1 + 1, 4, none⟩ (.slice Az RL cz)) = wF
      obtain ⟨rF, oF, bF⟩ := fill5 EZ2.out hwF
      refine bodyPost_ret (v := .tuple #[vV K N Z X Az RL cz, .int .i64 5]) ?_ rfl ?_
      · simp [results, Tryz.results38, go_sem, rF]
      · have hz : w.heap.size + 1 + 1 < w1.heap.size := (Array.getElem?_eq_some_iff.1 EZ1.out).1
        have hy := HB1.out.size
        refine ⟨_, rfl, HU.out.stays (fun q hq => ?_) (fun q hq _ => oF q ?_), bF _ _ (by omega) HB2.out⟩
        · have h1 : w1.heap.size ≤ q := hq
          omega
        · have h1 : w1.heap.size ≤ q := hq
          omega
    | true =>
      cases b2v with
      | false =>
        clear hok
        go_enter Tryz.func38, Tryz.ntmps38
        go_wp2_with (fail)
        obtain ⟨a0, a1, a2, az, ab⟩ := al3 w #[.int .i64 k, .int .i64 n, .string s, .int .i64 x, .slice A0 L0 c0] #[.int .i64 ku, .int .i64 nu, .string su, .int .i64 xu, .slice Au Lu cu] #[.int .i64 0, .int .i64 0, .string ⟨#[]⟩, .int .i64 0, .slice none 0 0] IV IV IV
        refine (IT.out _ ab).mono ?_
        rintro e w1 ⟨rfl, hb1⟩
        have E01 := Lib.hid (carry hb1 a0)
        have E11 := Lib.hid (carry hb1 a1)
        have EZ1 := Lib.hid (carry hb1 a2)
        have HB1 := Lib.hid (bs ab hb1)
        clear a0 a1 a2 az ab hb1
        have d1_0 : w1.cell? ⟨w.heap.size, 0, none⟩ = some (.int .i64 k) := (rowc E01.out).1 0
        have d1_1 : w1.cell? ⟨w.heap.size, 1, none⟩ = some (.int .i64 n) := (rowc E01.out).1 1
        have d1_2 : w1.cell? ⟨w.heap.size, 2, none⟩ = some (.string s) := (rowc E01.out).1 2
        have d1_3 : w1.cell? ⟨w.heap.size, 3, none⟩ = some (.int .i64 x) := (rowc E01.out).1 3
        have d1_4 : w1.cell? ⟨w.heap.size, 4, none⟩ = some (.slice A0 L0 c0) := (rowc E01.out).1 4
        have x1_0 : w1.cell? ⟨w.heap.size + 1, 0, none⟩ = some (.int .i64 ku) := (rowc E11.out).1 0
        have x1_1 : w1.cell? ⟨w.heap.size + 1, 1, none⟩ = some (.int .i64 nu) := (rowc E11.out).1 1
        have x1_2 : w1.cell? ⟨w.heap.size + 1, 2, none⟩ = some (.string su) := (rowc E11.out).1 2
        have x1_3 : w1.cell? ⟨w.heap.size + 1, 3, none⟩ = some (.int .i64 xu) := (rowc E11.out).1 3
        have x1_4 : w1.cell? ⟨w.heap.size + 1, 4, none⟩ = some (.slice Au Lu cu) := (rowc E11.out).1 4
        go_wp2_with (fail)
        refine (IU.out _ HB1.out).mono ?_
        rintro e w2 ⟨rfl, hb2⟩
        have E02 := Lib.hid (carry hb2 E01.out)
        have E12 := Lib.hid (carry hb2 E11.out)
        have EZ2 := Lib.hid (carry hb2 EZ1.out)
        have HB2 := Lib.hid (bs HB1.out hb2)
        clear hb2
        clear d1_0 x1_0 d1_1 x1_1 d1_2 x1_2 d1_3 x1_3 d1_4 x1_4
        have d2_0 : w2.cell? ⟨w.heap.size, 0, none⟩ = some (.int .i64 k) := (rowc E02.out).1 0
        have d2_1 : w2.cell? ⟨w.heap.size, 1, none⟩ = some (.int .i64 n) := (rowc E02.out).1 1
        have d2_2 : w2.cell? ⟨w.heap.size, 2, none⟩ = some (.string s) := (rowc E02.out).1 2
        have d2_3 : w2.cell? ⟨w.heap.size, 3, none⟩ = some (.int .i64 x) := (rowc E02.out).1 3
        have d2_4 : w2.cell? ⟨w.heap.size, 4, none⟩ = some (.slice A0 L0 c0) := (rowc E02.out).1 4
        have x2_0 : w2.cell? ⟨w.heap.size + 1, 0, none⟩ = some (.int .i64 ku) := (rowc E12.out).1 0
        have x2_1 : w2.cell? ⟨w.heap.size + 1, 1, none⟩ = some (.int .i64 nu) := (rowc E12.out).1 1
        have x2_2 : w2.cell? ⟨w.heap.size + 1, 2, none⟩ = some (.string su) := (rowc E12.out).1 2
        have x2_3 : w2.cell? ⟨w.heap.size + 1, 3, none⟩ = some (.int .i64 xu) := (rowc E12.out).1 3
        have x2_4 : w2.cell? ⟨w.heap.size + 1, 4, none⟩ = some (.slice Au Lu cu) := (rowc E12.out).1 4
        go_wp2_with (fail)
        refine (CV.out _ HB2.out).mono ?_
        rintro e w3 ⟨u, rfl, hu, hb3⟩
        obtain ⟨Az, cz, rfl, -, -⟩ := hu.out
        rw [HRL.out] at hu ⊢
        have HU := Lib.hid hu
        have EZ3 := Lib.hid (carry hb3 EZ2.out)
        have HB3 := Lib.hid (bs HB2.out hb3)
        obtain ⟨rz, fz⟩ := rowc EZ3.out
        clear hu hb3
        clear d2_0 x2_0 d2_1 x2_1 d2_2 x2_2 d2_3 x2_3 d2_4 x2_4
        go_wp2_with (fail)
        generalize hwF : (((((w3.setCell ⟨w.heap.size + 1 + 1, 0, none⟩ (.int .i64 K)).setCell ⟨w.heap.size + 1 + 1, 1, none⟩ (.int .i64 N)).setCell ⟨w.heap.size + 1 + 1, 2, none⟩ (.string Z)).setCell ⟨w.heap.size + 1 + 1, 3, none⟩ (.int .i64 X)).setCell ⟨w.heap.size + 1 + 1, 4, none⟩ (.slice Az RL cz)) = wF
        obtain ⟨rF, oF, bF⟩ := fill5 EZ3.out hwF
        refine bodyPost_ret (v := .tuple #[vV K N Z X Az RL cz, .int .i64 5]) ?_ rfl ?_
        · simp [results, Tryz.results38, go_sem, rF]
        · have hz : w.heap.size + 1 + 1 < w2.heap.size := (Array.getElem?_eq_some_iff.1 EZ2.out).1
          have hy := HB2.out.size
          refine ⟨_, rfl, HU.out.stays (fun q hq => ?_) (fun q hq _ => oF q ?_), bF _ _ (by omega) HB3.out⟩
          · have h1 : w2.heap.size ≤ q := hq
            omega
          · have h1 : w2.heap.size ≤ q := hq
            omega
      | true =>
        cases b3v with
        | true => exact absurd rfl hok
        | false =>
          clear hok
          go_enter Tryz.func38, Tryz.ntmps38
          go_wp2_with (fail)
          obtain ⟨a0, a1, a2, az, ab⟩ := al3 w #[.int .i64 k, .int .i64 n, .string s, .int .i64 x, .slice A0 L0 c0] #[.int .i64 ku, .int .i64 nu, .string su, .int .i64 xu, .slice Au Lu cu] #[.int .i64 0, .int .i64 0, .string ⟨#[]⟩, .int .i64 0, .slice none 0 0] IV IV IV
          refine (IT.out _ ab).mono ?_
          rintro e w1 ⟨rfl, hb1⟩
          have E01 := Lib.hid (carry hb1 a0)
          have E11 := Lib.hid (carry hb1 a1)
          have EZ1 := Lib.hid (carry hb1 a2)
          have HB1 := Lib.hid (bs ab hb1)
          clear a0 a1 a2 az ab hb1
          have d1_0 : w1.cell? ⟨w.heap.size, 0, none⟩ = some (.int .i64 k) := (rowc E01.out).1 0
          have d1_1 : w1.cell? ⟨w.heap.size, 1, none⟩ = some (.int .i64 n) := (rowc E01.out).1 1
          have d1_2 : w1.cell? ⟨w.heap.size, 2, none⟩ = some (.string s) := (rowc E01.out).1 2
          have d1_3 : w1.cell? ⟨w.heap.size, 3, none⟩ = some (.int .i64 x) := (rowc E01.out).1 3
          have d1_4 : w1.cell? ⟨w.heap.size, 4, none⟩ = some (.slice A0 L0 c0) := (rowc E01.out).1 4
          have x1_0 : w1.cell? ⟨w.heap.size + 1, 0, none⟩ = some (.int .i64 ku) := (rowc E11.out).1 0
          have x1_1 : w1.cell? ⟨w.heap.size + 1, 1, none⟩ = some (.int .i64 nu) := (rowc E11.out).1 1
          have x1_2 : w1.cell? ⟨w.heap.size + 1, 2, none⟩ = some (.string su) := (rowc E11.out).1 2
          have x1_3 : w1.cell? ⟨w.heap.size + 1, 3, none⟩ = some (.int .i64 xu) := (rowc E11.out).1 3
          have x1_4 : w1.cell? ⟨w.heap.size + 1, 4, none⟩ = some (.slice Au Lu cu) := (rowc E11.out).1 4
          go_wp2_with (fail)
          refine (IU.out _ HB1.out).mono ?_
          rintro e w2 ⟨rfl, hb2⟩
          have E02 := Lib.hid (carry hb2 E01.out)
          have E12 := Lib.hid (carry hb2 E11.out)
          have EZ2 := Lib.hid (carry hb2 EZ1.out)
          have HB2 := Lib.hid (bs HB1.out hb2)
          clear hb2
          clear d1_0 x1_0 d1_1 x1_1 d1_2 x1_2 d1_3 x1_3 d1_4 x1_4
          have d2_0 : w2.cell? ⟨w.heap.size, 0, none⟩ = some (.int .i64 k) := (rowc E02.out).1 0
          have d2_1 : w2.cell? ⟨w.heap.size, 1, none⟩ = some (.int .i64 n) := (rowc E02.out).1 1
          have d2_2 : w2.cell? ⟨w.heap.size, 2, none⟩ = some (.string s) := (rowc E02.out).1 2
          have d2_3 : w2.cell? ⟨w.heap.size, 3, none⟩ = some (.int .i64 x) := (rowc E02.out).1 3
          have d2_4 : w2.cell? ⟨w.heap.size, 4, none⟩ = some (.slice A0 L0 c0) := (rowc E02.out).1 4
          have x2_0 : w2.cell? ⟨w.heap.size + 1, 0, none⟩ = some (.int .i64 ku) := (rowc E12.out).1 0
          have x2_1 : w2.cell? ⟨w.heap.size + 1, 1, none⟩ = some (.int .i64 nu) := (rowc E12.out).1 1
          have x2_2 : w2.cell? ⟨w.heap.size + 1, 2, none⟩ = some (.string su) := (rowc E12.out).1 2
          have x2_3 : w2.cell? ⟨w.heap.size + 1, 3, none⟩ = some (.int .i64 xu) := (rowc E12.out).1 3
          have x2_4 : w2.cell? ⟨w.heap.size + 1, 4, none⟩ = some (.slice Au Lu cu) := (rowc E12.out).1 4
          go_wp2_with (fail)
          refine (AK.out _ HB2.out).mono ?_
          rintro e w3 ⟨rfl, hb3⟩
          have E03 := Lib.hid (carry hb3 E02.out)
          have E13 := Lib.hid (carry hb3 E12.out)
          have EZ3 := Lib.hid (carry hb3 EZ2.out)
          have HB3 := Lib.hid (bs HB2.out hb3)
          clear hb3
          clear d2_0 x2_0 d2_1 x2_1 d2_2 x2_2 d2_3 x2_3 d2_4 x2_4
          have d3_0 : w3.cell? ⟨w.heap.size, 0, none⟩ = some (.int .i64 k) := (rowc E03.out).1 0
          have d3_1 : w3.cell? ⟨w.heap.size, 1, none⟩ = some (.int .i64 n) := (rowc E03.out).1 1
          have d3_2 : w3.cell? ⟨w.heap.size, 2, none⟩ = some (.string s) := (rowc E03.out).1 2
          have d3_3 : w3.cell? ⟨w.heap.size, 3, none⟩ = some (.int .i64 x) := (rowc E03.out).1 3
          have d3_4 : w3.cell? ⟨w.heap.size, 4, none⟩ = some (.slice A0 L0 c0) := (rowc E03.out).1 4
          have x3_0 : w3.cell? ⟨w.heap.size + 1, 0, none⟩ = some (.int .i64 ku) := (rowc E13.out).1 0
          have x3_1 : w3.cell? ⟨w.heap.size + 1, 1, none⟩ = some (.int .i64 nu) := (rowc E13.out).1 1
          have x3_2 : w3.cell? ⟨w.heap.size + 1, 2, none⟩ = some (.string su) := (rowc E13.out).1 2
          have x3_3 : w3.cell? ⟨w.heap.size + 1, 3, none⟩ = some (.int .i64 xu) := (rowc E13.out).1 3
          have x3_4 : w3.cell? ⟨w.heap.size + 1, 4, none⟩ = some (.slice Au Lu cu) := (rowc E13.out).1 4
          go_wp2_with (fail)
          refine (CV.out _ HB3.out).mono ?_
          rintro e w4 ⟨u, rfl, hu, hb4⟩
          obtain ⟨Az, cz, rfl, -, -⟩ := hu.out
          rw [HRL.out] at hu ⊢
          have HU := Lib.hid hu
          have EZ4 := Lib.hid (carry hb4 EZ3.out)
          have HB4 := Lib.hid (bs HB3.out hb4)
          obtain ⟨rz, fz⟩ := rowc EZ4.out
          clear hu hb4
          clear d3_0 x3_0 d3_1 x3_1 d3_2 x3_2 d3_3 x3_3 d3_4 x3_4
          go_wp2_with (fail)
          generalize hwF : (((((w4.setCell ⟨w.heap.size + 1 + 1, 0, none⟩ (.int .i64 K)).setCell ⟨w.heap.size + 1 + 1, 1, none⟩ (.int .i64 N)).setCell ⟨w.heap.size + 1 + 1, 2, none⟩ (.string Z)).setCell ⟨w.heap.size + 1 + 1, 3, none⟩ (.int .i64 X)).setCell ⟨w.heap.size + 1 + 1, 4, none⟩ (.slice Az RL cz)) = wF
          obtain ⟨rF, oF, bF⟩ := fill5 EZ4.out hwF
          refine bodyPost_ret (v := .tuple #[vV K N Z X Az RL cz, .int .i64 5]) ?_ rfl ?_
          · simp [results, Tryz.results38, go_sem, rF]
          · have hz : w.heap.size + 1 + 1 < w3.heap.size := (Array.getElem?_eq_some_iff.1 EZ3.out).1
            have hy := HB3.out.size
            refine ⟨_, rfl, HU.out.stays (fun q hq => ?_) (fun q hq _ => oF q ?_), bF _ _ (by omega) HB4.out⟩
            · have h1 : w3.heap.size ≤ q := hq
              omega
            · have h1 : w3.heap.size ≤ q := hq
              omega

end Go.Proofs.YtbgffmiffmmohaaGreatDoor.tree

