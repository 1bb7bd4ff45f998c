/-
  Whether a hashed table is sound, of the model.
  Conditions: those that each theorem names; the package variables of the library's reading of numbers hold what the program's text lays.
-/
import Derived.Test.YtbgffmiffmmohaaGreatDoorHcSTabJ
namespace Go.Proofs.YtbgffmiffmmohaaGreatDoor.tree
open Go.ChangeShapes Go.WideShapes Go.ChangeAt Go.RowKit
set_option linter.unusedVariables false

set_option maxRecDepth 100000 in
set_option maxHeartbeats 8000000 in
theorem isTable_t {l : List Int} {sl : List Sl} {A : Option Addr} {n c : Nat} {B : Option Addr} {m d : Nat} {x k : Int} (w : World) {S : Nat → Prop} (hr : TbIn w S l sl A n c B m d x k) (hp : p2 n) (hm : m ≤ n) (hx : 0 ≤ x) (hx2 : x ≤ 1000000001) (hst : SlB sl) (hE : prs.Env w) :
    Calls Tryz.prog 17 #[tbV true A n c B m d x k] w (BoP w (tabOk true l sl x k)) := by
  have HR := Lib.hid hr
  have HST := Lib.hid hst
  have HEN := Lib.hid hE
  have hlen : Hid (sl.length = m) := Lib.hid hr.len
  have hin : nums.inr x 0 1000000001 = true := by unfold nums.inr; simp; omega
  have IR := fun w => hin ▸ nums.l1In x 0 1000000001 w
  clear hin
  have hn8 : 8 ≤ n ∧ n ≤ 1024 := by unfold p2 at hp; omega
  have hin : nums.inr n 8 1024 = true := by unfold nums.inr; simp; omega
  have IR2 := fun w => hin ▸ nums.l1In n 8 1024 w
  clear hin
  have hbits := (and_p2 hn8.1 hn8.2).2 hp
  have hn1 := hn8.1
  have hn2 := hn8.2
  have hm24 : m ≤ 1024 := by omega
  have hd1 : decide (n < m) = false := decide_eq_false (by omega)
  have hd2 : decide ((1024 : Int) < (m : Int)) = false := decide_eq_false (by omega)
  clear hn8
  obtain ⟨i0, hi, hz, hss, hby⟩ := int_info
  have MK := fun (w : World) => run_make (P := Tryz.prog) w 24 3 i0 _ Tryz.underlying24 hi hz .i64 .i64 n n (by omega) (Int.le_refl _) (by rw [hby]; omega) (by omega)
  rw [hss, Nat.mul_one] at MK
  first | simp only [Int.toNat_natCast] at MK | simp only [Int.toNat_zero] at MK
  have MK2 : ∀ w : World, (Instr.makeSlice 24 (.int .i64 n) (.int .i64 n)).run Tryz.prog w = .ok (.slice (some ⟨w.heap.size, 0, none⟩) n n) (w.alloc (.cells (rwK 0 n) 3)) := fun w => by
    have := MK w
    rw [show madeCells (Value.int .i64 0).cells n = rwK 0 n by
      have := toList_madeCells_one (.int .i64 0) n
      rw [show (Value.int .i64 0).cells = #[.int .i64 0] from rfl]
      apply Array.toList_inj.1
      rw [this]
      simp [rwK]] at this
    exact this
  clear hr hst hE MK hi hz hss hby
  go_enter Tryz.func17, Tryz.ntmps17
  go_wp2_with (fail)
  refine (IR _).mono ?_
  rintro e w1 ⟨rfl, rfl⟩
  go_wp2_with (fail)
  refine (IR2 _).mono ?_
  rintro e w1 ⟨rfl, rfl⟩
  go_wp2_with (fail)
  have HLN : Hid (l.length = n) := Lib.hid HR.out.heads.len
  have HA0 : Hid (((w.alloc (.cells #[.bool true, .slice A n c, .slice B m d, .int .i64 x, .int .i64 k] IT)).alloc (.cells (rwK 0 n) 3)).heap[w.heap.size]? = some (.cells #[.bool true, .slice A n c, .slice B m d, .int .i64 x, .int .i64 k] IT (0, 0))) := Lib.hid (heap_alloc2_old w _ _)
  have HG0 : Hid (((w.alloc (.cells #[.bool true, .slice A n c, .slice B m d, .int .i64 x, .int .i64 k] IT)).alloc (.cells (rwK 0 n) 3)).heap[w.heap.size + 1]? = some (.cells (rwK 0 n) 3 (0, 0))) := Lib.hid (heap_alloc2_new w _ _)
  obtain ⟨g, HG⟩ : ∃ g, Hid (w.heap.size + 1 = g) := ⟨_, Lib.hid rfl⟩
  rw [HG.out] at HG0 ⊢
  clear MK2 IR IR2
  go_loopg [6] (n + 1) (fun gk s wr => ∃ K : Nat, s = .int .i64 K ∧ gk + K = n + 1 ∧ K ≤ n ∧ Hid (wr.heap[w.heap.size]? = some (.cells #[.bool true, .slice A n c, .slice B m d, .int .i64 x, .int .i64 k] IT (0, 0))) ∧ Hid (wr.heap[g]? = some (.cells (rwK K n) 3 (0, 0))) ∧ Hid (Below w.heap.size w wr))
  case atStart => exact ⟨0, rfl, by omega, by omega, HA0, HG0, Lib.hid (b2 _ _ _)⟩
  case round =>
    clear HA0 HG0
    obtain ⟨K, rfl, hgK, hKn, HA, HK, HB⟩ := hrel
    by_cases hK : K < n
    · have hkc : wr.cell? ⟨g, K, none⟩ = some (.int .i64 0) := by
        rw [(rowc HK.out).1 K]
        unfold rwK
        rw [List.getElem?_toArray, List.getElem?_append_right (by simp), List.getElem?_replicate, if_pos (by rw [List.length_replicate]; omega)]
      have hkf := (rowc HK.out).2 K
      have HK2 : Hid ((wr.setCell ⟨g, K, none⟩ (.int .i64 (-1))).heap[g]? = some (.cells (rwK (K + 1) n) 3 (0, 0))) := Lib.hid (by
        have := set_heap HK.out K (.int .i64 (-1))
        rw [rwK_set hK] at this
        exact this)
      have HA2 : Hid ((wr.setCell ⟨g, K, none⟩ (.int .i64 (-1))).heap[w.heap.size]? = some (.cells #[.bool true, .slice A n c, .slice B m d, .int .i64 x, .int .i64 k] IT (0, 0))) := Lib.hid ((set_other (by have := HG.out; omega)).trans HA.out)
      go_wp2_with (fail)
      go_roundg (n - K)
      case rel => exact ⟨K + 1, by go_num, by omega, by omega, HA2, HK2, Lib.hid (HB.out.setCell (show w.heap.size ≤ g by have := HG.out; omega) _)⟩
      case measure => omega
    · obtain rfl : n = K := by omega
      have HO0 : Hid (imem.OwnI wr (w.heap.size + 1) (some ⟨g, 0, none⟩) n n (hs n sl 0)) := Lib.hid (rwK_own HK.out (Nat.le_of_eq HG.out) (by omega))
      go_wp2_with (fail)
      go_loopg [4, 7] (m + 1) (fun gk s4 s7 wr => ∃ j N : Nat, s4 = .int .i64 N ∧ s7 = .int .i64 j ∧ gk + j = m + 1 ∧ j ≤ m ∧ N ≤ j ∧ Hid (∀ (i : Nat) t, i < j → sl[i]? = some t → soundS x sl i t ∧ linkS true n sl i t) ∧ Hid (N = (livK (sl.take j)).length) ∧
        Hid (wr.heap[w.heap.size]? = some (.cells #[.bool true, .slice A n c, .slice B m d, .int .i64 x, .int .i64 k] IT (0, 0))) ∧ Hid (imem.OwnI wr (w.heap.size + 1) (some ⟨g, 0, none⟩) n n (hs n sl j)) ∧ Hid (Below w.heap.size w wr))
      case atStart => exact ⟨0, 0, rfl, rfl, by omega, by omega, by omega, Lib.hid (fun i t h => absurd h (by omega)), Lib.hid (by simp [livK, liv]), HA, HO0, HB⟩
      case round =>
        clear HO0 HK HA HB hgK
        obtain ⟨j, N, rfl, rfl, hgj, hjm, hNj, HL, HN, HA, HO, HB⟩ := hrel
        by_cases hlt : j < m
        · obtain ⟨t, htj⟩ : ∃ t, sl[j]? = some t := ⟨_, List.getElem?_eq_getElem (by have := hlen.out; omega)⟩
          obtain ⟨a, k1, n1, s1, x1, ks1, vs1, A1, c1, rfl, -, hyb, hlb, hv, hT, hcell⟩ := HR.out.slots j t htj
          have hc10 := hcell.stays (w' := wr) (fun hl => HB.out.block _ hl)
          have hys := HST.out.str j t htj
          have HSU := Lib.hid (hs_succ (n := n) htj)
          have HLT := Lib.hid (livK_take htj)
          have HTJ := Lib.hid htj
          obtain ⟨⟨yb, yn, ys⟩, tv, tb, tl⟩ := t
          simp only at hyb hlb hv hT hc10 hys
          subst hv
          obtain ⟨q1, HQ1⟩ : ∃ q, Hid (keyB ⟨yb, yn, ys⟩ = q) := ⟨_, Lib.hid rfl⟩
          have KB : Hid (∀ w' : World, Below w.heap.size w w' → Calls Tryz.prog 18 #[.agg #[.bool yb, .int .i64 yn, .string ys]] w' (KeyQ w' q1)) := Lib.hid fun w' hb' => HQ1.out ▸ isKey_s ⟨yb, yn, ys⟩ (by show ys.size ≤ _; have : ys.size ≤ 140737488355328 := hys; omega) w' (HEN.out.stays hb')
          have ZE : Hid (∀ w' : World, Calls Tryz.prog 80 #[vV k1 n1 s1 x1 A1 vs1.length c1] w' (BoP w' (zeroT (.mk k1 n1 s1 x1 ks1 vs1)))) := Lib.hid fun w' => zero_s k1 n1 s1 x1 A1 vs1.length c1 w'
          obtain ⟨z, HZ⟩ : ∃ z, Hid (kh ⟨yb, yn, ys⟩ = z) := ⟨_, Lib.hid rfl⟩
          have KH : Hid (∀ w' : World, Calls Tryz.prog 79 #[.agg #[.bool yb, .int .i64 yn, .string ys]] w' (KhQ w' z)) := Lib.hid fun w' => HZ.out ▸ keyHash_s ⟨yb, yn, ys⟩ hys w'
          obtain ⟨q, HQ⟩ : ∃ q : Nat, Hid (bk n ⟨yb, yn, ys⟩ = q) := ⟨_, Lib.hid rfl⟩
          have hq : q < n := HQ.out ▸ bk_lt (by omega) _
          have hqi : (q : Int) < (n : Int) := by omega
          have hrem : z.tmod (n : Int) = (q : Int) := by
            rw [← HQ.out, ← bk_int (by omega), ← HZ.out, Int.tmod_eq_emod_of_nonneg (kh_in _).1]
          obtain ⟨v, hv⟩ : ∃ v, (hs n sl j)[q]? = some v := ⟨_, List.getElem?_eq_getElem (by rw [hs_len]; exact hq)⟩
          have HLK : Hid (lk n sl j ⟨yb, yn, ys⟩ = v) := Lib.hid (by unfold lk; rw [HQ.out, hv]; rfl)
          have HV := Lib.hid hv
          rw [show bk n (⟨yb, yn, ys⟩ : Ky) = q from HQ.out] at HSU
          clear hv
          have HLKL : Hid (lk l.length sl j ⟨yb, yn, ys⟩ = v) := Lib.hid (by rw [HLN.out]; exact HLK.out)
          obtain ⟨L1, HL1⟩ : ∃ L, Hid (vs1.length = L) := ⟨_, Lib.hid rfl⟩
          rw [HL1.out] at hc10 ZE
          unfold vV at ZE
          obtain ⟨p0, p1, p2, p3, p4, p5, p6, p7, p8, p9⟩ := hc10
          simp only at p0 p1 p2
          have y2 := (rowc HA.out).1 2
          simp at y2
          clear hyb hlb hT hcell htj hys
          go_upto_region 14 with fail
          obtain ⟨R, HRR⟩ : ∃ R, Hid (wr.heap.size = R) := ⟨_, Lib.hid rfl⟩
          rw [HRR.out]
          generalize hw1 : wr.alloc (.cells #[.bool yb, .int .i64 yn, .string ys, .int .i64 k1, .int .i64 n1, .string s1, .int .i64 x1, .slice A1 L1 c1, .bool tb, .int .i64 tl] 112) = w2
          have hb1 : Below wr.heap.size wr w2 := hw1 ▸ b1 wr _
          have H10 : Hid (w2.heap[R]? = some (.cells #[.bool yb, .int .i64 yn, .string ys, .int .i64 k1, .int .i64 n1, .string s1, .int .i64 x1, .slice A1 L1 c1, .bool tb, .int .i64 tl] 112 (0, 0))) := Lib.hid (by rw [← hw1, ← HRR.out]; exact heap_alloc_new wr _)
          have HGR : Hid (g < R) := Lib.hid (by have := (HO.out.block g rfl).2; have := HRR.out; omega)
          replace HA := Lib.hid (carry hb1 HA.out)
          replace HO := Lib.hid (HO.out.below hb1)
          replace HB := Lib.hid (bs HB.out hb1)
          have r10 := (rowc H10.out).1
          have z0 := r10 0; have z1 := r10 1; have z2 := r10 2
          simp at z0 z1 z2
          have y0 := (rowc HA.out).1 0
          simp at y0
          clear hw1 hb1 r10 p0 p1 p2 p3 p4 p5 p6 p7 p8 p9 y2
          go_wp2_with (fail)
          refine (KH.out _).mono ?_
          rintro e w3 ⟨rfl, hb1⟩
          replace HA := Lib.hid (carry hb1 HA.out)
          replace H10 := Lib.hid (carry hb1 H10.out)
          replace HO := Lib.hid (HO.out.below hb1)
          replace HB := Lib.hid (bs HB.out hb1)
          have hc : w3.cell? ⟨g, q, none⟩ = some (.int .i64 v) := by
            rw [HO.out.row.cellAt q (by omega)]
            exact imem.ics_get HV.out
          have hfz : w3.frozen? ⟨g, q, none⟩ = false := HO.out.row.frozenAt q
          obtain ⟨w4, HW4⟩ : ∃ W, Hid (w3.setCell ⟨g, q, none⟩ (.int .i64 j) = W) := ⟨_, Lib.hid rfl⟩
          obtain ⟨ho4, hg4⟩ := HO.out.set q (j : Int)
          rw [HW4.out] at ho4 hg4
          rw [← HSU.out] at ho4
          clear z0 z1 z2 y0 hb1
          go_upto_region 21 with fail
          rw [HW4.out]
          clear hc hfz
          replace HA := Lib.hid ((hg4.block _ (Array.getElem?_eq_some_iff.1 HA.out).1 (fun e => by injection e with e; have := HG.out; omega)).trans HA.out)
          replace H10 := Lib.hid ((hg4.block _ (Array.getElem?_eq_some_iff.1 H10.out).1 (fun e => by injection e with e; have := HGR.out; omega)).trans H10.out)
          replace HB := Lib.hid (HB.out.grown hg4 HB.out.size (fun b e => by injection e with e; have := HG.out; omega))
          replace HO := Lib.hid ho4
          clear ho4 hg4 HW4 HSU
          have r10 := (rowc H10.out).1
          have z0 := r10 0; have z1 := r10 1; have z2 := r10 2
          simp at z0 z1 z2
          clear r10
          have HKB : Hid (∀ p : Bool, q1 = p → keyB (⟨yb, yn, ys⟩ : Ky) = p) := Lib.hid (fun p h => HQ1.out.trans h)
          go_cut [142] (fun u wx => ∃ r : Bool, u = .bool r ∧ (r = false ↔ ((q1 && (yb || decide (yn < x))) = true ∧ tl = v ∧ (tb = false → zeroT (.mk k1 n1 s1 x1 ks1 vs1)))) ∧ Below w4.heap.size w4 wx)
          case first =>
            have W4 := Lib.hid (Below.refl w4.heap.size w4)
            go_wp2_with (fail)
            refine (KB.out _ HB.out).mono ?_
            rintro e w5 ⟨rfl, hb1⟩
            have HA5 := Lib.hid (carry hb1 HA.out)
            have H5 := Lib.hid (carry hb1 H10.out)
            have W5 := Lib.hid (bs W4.out hb1)
            clear z0 z1 z2 hb1 W4
            have r10 := (rowc H5.out).1
            have z0 := r10 0; have z1 := r10 1; have z2 := r10 2; have z3 := r10 3; have z4 := r10 4; have z5 := r10 5; have z6 := r10 6; have z7 := r10 7; have z8 := r10 8; have z9 := r10 9
            simp at z0 z1 z2 z3 z4 z5 z6 z7 z8 z9
            have y3 := (rowc HA5.out).1 3
            simp at y3
            clear r10 HA HB H10 HO HL
            cases q1 with
            | false =>
              go_wp2_with (fail)
              go_meet
              exact ⟨true, rfl, by simp, W5.out⟩
            | true =>
            by_cases htl : ¬ tl = v
            · have htl2 : (tl != v) = true := by simp [htl]
              have HF : Hid (true = false ↔ ((true && (yb || decide (yn < x))) = true ∧ tl = v ∧ (tb = false → zeroT (.mk k1 n1 s1 x1 ks1 vs1)))) := Lib.hid ⟨fun h => (by cases h), fun h => absurd h.2.1 htl⟩
              clear htl
              go_wp2_with (fail)
              go_meet
              exact ⟨true, rfl, by have := HF.out; simpa using this, W5.out⟩
            replace htl := Decidable.not_not.1 htl
            subst tl
            by_cases hyx : ¬ (yb = true ∨ yn < x)
            · obtain ⟨h1, h2⟩ : yb = false ∧ ¬ yn < x := by
                cases yb
                · exact ⟨rfl, fun h => hyx (.inr h)⟩
                · exact absurd (.inl rfl) hyx
              clear hyx
              subst h1
              have HF : Hid (true = false ↔ ((true && (false || decide (yn < x))) = true ∧ v = v ∧ (tb = false → zeroT (.mk k1 n1 s1 x1 ks1 vs1)))) := Lib.hid ⟨fun h => (by cases h), fun h => by
                rw [decide_eq_false h2] at h
                cases h.1⟩
              have h3 : decide (x ≤ yn) = true := decide_eq_true (Int.not_lt.1 h2)
              clear h2
              go_wp2_with (fail)
              go_meet
              exact ⟨true, rfl, by have := HF.out; simpa using this, W5.out⟩
            replace hyx := Decidable.not_not.1 hyx
            have HYX : Hid ((true && (yb || decide (yn < x))) = true) := Lib.hid (by
              rcases hyx with h | h
              · rw [h]; rfl
              · rw [decide_eq_true h]; simp)
            have fin : ∀ r : Bool, (r = false ↔ (tb = false → zeroT (.mk k1 n1 s1 x1 ks1 vs1))) → (r = false ↔ ((true && (yb || decide (yn < x))) = true ∧ v = v ∧ (tb = false → zeroT (.mk k1 n1 s1 x1 ks1 vs1)))) := fun r h => h.trans ⟨fun h => ⟨HYX.out, rfl, h⟩, fun h => h.2.2⟩
            have FIN := Lib.hid fin
            clear fin
            cases yb
            all_goals
              first
                | (have hyx2 : decide (x ≤ yn) = false := decide_eq_false (Int.not_le.2 (hyx.resolve_left (by decide))); clear hyx)
                | (clear hyx)
              cases tb with
              | true =>
                go_wp2_with (fail)
                go_meet
                exact ⟨false, rfl, FIN.out false (by simp), W5.out⟩
              | false =>
                go_wp2_with (fail)
                refine (ZE.out _).mono ?_
                rintro e w6 ⟨q3, rfl, h3, hb1⟩
                have HZ3 := Lib.hid h3
                have W6 := Lib.hid (bs W5.out hb1)
                clear h3 hb1 z0 z1 z2 z3 z4 z5 z6 z7 z8 z9 y3
                cases q3
                all_goals
                  go_wp2_with (fail)
                  go_meet
                  refine ⟨_, rfl, FIN.out _ ?_, W6.out⟩
                  have := HZ3.out
                  simp at this ⊢
                  exact this
          case rest =>
          obtain ⟨r, rfl, hrr, hb1⟩ := hcut
          have HRQ := Lib.hid hrr
          replace HA := Lib.hid (carry hb1 HA.out)
          replace H10 := Lib.hid (carry hb1 H10.out)
          replace HO := Lib.hid (HO.out.below hb1)
          replace HB := Lib.hid (bs HB.out hb1)
          clear z0 z1 z2 hb1 hrr KB ZE
          have z8 := (rowc H10.out).1 8
          simp at z8
          have y0 := (rowc HA.out).1 0
          simp at y0
          cases r with
          | true =>
            have HF : Hid (false = true ↔ tabOk true l sl x k) := Lib.hid ⟨fun h => (by cases h), fun h => by
              have h1 := h.2.2.1.1 j _ HTJ.out
              have h2 := (h.2.2.2.1 j _ HTJ.out).2.trans HLKL.out
              have h3 : (q1 && (yb || decide (yn < x))) = true := by
                have := h1.1
                rw [HQ1.out] at this
                exact this
              have := HRQ.out.2 ⟨h3, h2, h1.2.2⟩
              cases this⟩
            go_wp2_with (fail)
            go_ret
            exact BoP.of HF.out HB.out
          | false =>
          obtain ⟨hk1, hk2, hk3⟩ := HRQ.out.1 rfl
          subst hk2
          have HYX : Hid ((keyB (⟨yb, yn, ys⟩ : Ky) && ((⟨yb, yn, ys⟩ : Ky).text || decide ((⟨yb, yn, ys⟩ : Ky).num < x))) = true) := Lib.hid (by rw [HQ1.out]; exact hk1)
          have HZT := Lib.hid hk3
          clear hk1 hk3 HRQ
          cases tb with
          | false =>
            have HL2 : Hid (livK (sl.take (j + 1)) = livK (sl.take j)) := Lib.hid (by have := HLT.out; simpa using this)
            go_wp2_with (fail)
            go_loopg [11] 0 (fun gk s wx => s = .int .i64 0 ∧ wx = wc)
            case atStart => exact ⟨rfl, rfl⟩
            case round =>
              obtain ⟨rfl, rfl⟩ := hrel
              go_wp2_with (fail)
              go_roundg (m - j)
              case rel =>
                refine ⟨j + 1, N, rfl, by go_num, by omega, by omega, by omega, Lib.hid (fun i t hi ht => ?_), Lib.hid (by rw [HL2.out]; exact HN.out), HA, HO, HB⟩
                rcases Nat.lt_or_ge i j with h | h
                · exact HL.out i t h ht
                · obtain rfl : i = j := by omega
                  rw [HTJ.out] at ht
                  obtain rfl := Option.some.inj ht
                  exact ⟨⟨HYX.out, fun h => (by cases h), fun _ => by have := HZT.out; simpa using this⟩, ⟨.inl rfl, HLK.out.symm⟩⟩
              case measure => omega
          | true =>
            have HL2 : Hid (livK (sl.take (j + 1)) = livK (sl.take j) ++ [⟨yb, yn, ys⟩]) := Lib.hid (by have := HLT.out; simpa using this)
            go_wp2_with (fail)
            clear z8 y0
            go_loopg [11] (j + 1) (fun gk s wx => ∃ jj : Nat, s = .int .i64 jj ∧ gk + jj = j + 1 ∧ jj ≤ j ∧ Hid (∀ (i : Nat) t, i < jj → sl[i]? = some t → ¬ (t.live = true ∧ t.key = ⟨yb, yn, ys⟩)) ∧ Hid (Below wc.heap.size wc wx))
            case atStart => exact ⟨0, rfl, by omega, by omega, Lib.hid (fun i t h => absurd h (by omega)), Lib.hid (Below.refl _ _)⟩
            case round =>
              obtain ⟨jj, rfl, hgk, hjj, HC, HX⟩ := hrel
              have HAx := Lib.hid (carry HX.out HA.out)
              have H10x := Lib.hid (carry HX.out H10.out)
              have HBx := Lib.hid (bs HB.out HX.out)
              have r10 := (rowc H10x.out).1
              have z0 := r10 0; have z1 := r10 1; have z2 := r10 2; have z8 := r10 8
              simp at z0 z1 z2 z8
              have y0 := (rowc HAx.out).1 0
              have y2 := (rowc HAx.out).1 2
              simp at y0 y2
              clear r10
              by_cases hl3 : jj < j
              · obtain ⟨t2, ht2⟩ : ∃ t, sl[jj]? = some t := ⟨_, List.getElem?_eq_getElem (by have := hlen.out; omega)⟩
                obtain ⟨a9, k2, n2, s2, x2, ks2, vs2, A2, c2, ea, -, -, -, -, -, hcell2⟩ := HR.out.slots jj t2 ht2
                obtain rfl := Option.some.inj ea
                have hc2 := hcell2.stays (w' := wr) (fun hl => HBx.out.block _ hl)
                obtain ⟨p0, p1, p2, -, -, -, -, -, p8, -⟩ := hc2
                have HT2 := Lib.hid ht2
                obtain ⟨⟨y2b, y2n, y2s⟩, tv2, tb2, tl2⟩ := t2
                simp only at p0 p1 p2 p8
                have NE := fun w => ky_eql w ⟨y2b, y2n, y2s⟩ ⟨yb, yn, ys⟩
                obtain ⟨q9, HQ9⟩ : ∃ q, Hid (decide ((⟨y2b, y2n, y2s⟩ : Ky) = ⟨yb, yn, ys⟩) = q) := ⟨_, Lib.hid rfl⟩
                rw [HQ9.out] at NE
                unfold kyV at NE
                simp only at NE
                clear hcell2 ht2 ea
                have HNX : Hid ((tb2 && q9) = false → ∀ (i : Nat) t, i < jj + 1 → sl[i]? = some t → ¬ (t.live = true ∧ t.key = ⟨yb, yn, ys⟩)) := Lib.hid (fun h i t hi ht => by
                  rcases Nat.lt_or_ge i jj with h' | h'
                  · exact HC.out i t h' ht
                  · obtain rfl : i = jj := by omega
                    rw [HT2.out] at ht
                    obtain rfl := Option.some.inj ht
                    rintro ⟨h1, h2⟩
                    rw [show tb2 = true from h1, ← HQ9.out, decide_eq_true (show (⟨y2b, y2n, y2s⟩ : Ky) = _ from h2)] at h
                    cases h)
                cases tb2 with
                | false =>
                  go_wp2_with (fail)
                  go_quiet ((fail))
                  go_wp2_with (fail)
                  go_roundg (j - jj)
                  case rel => exact ⟨jj + 1, by go_num, by omega, by omega, Lib.hid (HNX.out rfl), Lib.hid (bs HX.out (kbelow_drew _ _))⟩
                  case measure => omega
                | true =>
                  cases q9 with
                  | false =>
                    go_wp2_with (fail)
                    go_quiet ((fail))
                    go_wp2_with (fail)
                    go_roundg (j - jj)
                    case rel => exact ⟨jj + 1, by go_num, by omega, by omega, Lib.hid (HNX.out rfl), Lib.hid (bs HX.out (kbelow_drew _ _))⟩
                    case measure => omega
                  | true =>
                    have HF : Hid (false = true ↔ tabOk true l sl x k) := Lib.hid ⟨fun h => (by cases h), fun h => by
                      refine absurd ?_ ((h.2.2.1.1 j _ HTJ.out).2.1 rfl)
                      exact mem_livK.2 ⟨jj, _, by rw [List.getElem?_take, if_pos hl3]; exact HT2.out, rfl, of_decide_eq_true HQ9.out⟩⟩
                    go_wp2_with (fail)
                    go_quiet ((fail))
                    go_wp2_with (fail)
                    go_ret
                    exact BoP.of HF.out (bs HBx.out (kbelow_drew _ _))
              · obtain rfl : jj = j := by omega
                have HNEW : Hid ((⟨yb, yn, ys⟩ : Ky) ∉ livK (sl.take jj)) := Lib.hid (fun hm => by
                  obtain ⟨i, t, h1, h2, h3⟩ := mem_livK.1 hm
                  have hi : i < jj := by
                    have := (List.getElem?_eq_some_iff.1 h1).1
                    rw [List.length_take] at this
                    omega
                  rw [List.getElem?_take, if_pos hi] at h1
                  exact HC.out i t hi h1 ⟨h2, h3⟩)
                have HOx := Lib.hid (HO.out.below HX.out)
                go_wp2_with (fail)
                go_roundg (m - jj)
                case rel =>
                  refine ⟨jj + 1, N + 1, by go_num, by go_num, by omega, by omega, by omega, Lib.hid (fun i t hi ht => ?_), Lib.hid (by rw [HL2.out, List.length_append, HN.out]; rfl), HAx, HOx, HBx⟩
                  rcases Nat.lt_or_ge i jj with h | h
                  · exact HL.out i t h ht
                  · obtain rfl : i = jj := by omega
                    rw [HTJ.out] at ht
                    obtain rfl := Option.some.inj ht
                    exact ⟨⟨HYX.out, fun _ => HNEW.out, fun h => (by cases h)⟩, ⟨.inl rfl, HLK.out.symm⟩⟩
                case measure => omega
        · obtain rfl : j = m := by omega
          have y2 := (rowc HA.out).1 2
          simp at y2
          have HSL : Hid (livK (sl.take j) = livK sl) := Lib.hid (by rw [← hlen.out, List.take_length])
          go_wp2_with (fail)
          clear y2
          go_loopg [12] (n + 1) (fun gk s wx => ∃ K2 : Nat, s = .int .i64 K2 ∧ gk + K2 = n + 1 ∧ K2 ≤ n ∧ Hid (∀ i, i < K2 → l[i]? = (hs n sl j)[i]?) ∧ Hid (Below wr.heap.size wr wx))
          case atStart => exact ⟨0, rfl, by omega, by omega, Lib.hid (fun i h => absurd h (by omega)), Lib.hid (Below.refl _ _)⟩
          case round =>
            obtain ⟨K2, rfl, hgk, hK2, HC, HX⟩ := hrel
            have HAx := Lib.hid (carry HX.out HA.out)
            have HOx := Lib.hid (HO.out.below HX.out)
            have HBx := Lib.hid (bs HB.out HX.out)
            by_cases hlt2 : K2 < n
            · obtain ⟨a, v, rfl, hv, hcv⟩ := (HR.out.heads.below HBx.out).at_ hlt2
              obtain ⟨u, hu⟩ : ∃ u, (hs n sl j)[K2]? = some u := ⟨_, List.getElem?_eq_getElem (by rw [hs_len]; exact hlt2)⟩
              have hcu : wr.cell? ⟨g, K2, none⟩ = some (.int .i64 u) := by
                rw [HOx.out.row.cellAt K2 (by omega)]
                exact imem.ics_get hu
              have y1 := (rowc HAx.out).1 1
              simp at y1
              have HVV := Lib.hid hv
              have HUU := Lib.hid hu
              clear hv hu
              have hki : (K2 : Int) < (n : Int) := by omega
              by_cases hvu : v = u
              · subst hvu
                go_wp2_with (fail)
                go_quiet ((fail))
                go_wp2_with (fail)
                go_roundg (n - K2)
                case rel =>
                  refine ⟨K2 + 1, by go_num, by omega, by omega, Lib.hid (fun i hi => ?_), Lib.hid (bs HX.out (kbelow_drew _ _))⟩
                  rcases Nat.lt_or_ge i K2 with h | h
                  · exact HC.out i h
                  · obtain rfl : i = K2 := by omega
                    rw [HVV.out, HUU.out]
                case measure => omega
              · have hvu2 : (v != u) = true := by simp [hvu]
                have HF : Hid (false = true ↔ tabOk true l sl x k) := Lib.hid ⟨fun h => (by cases h), fun h => by
                  have h1 := h.2.2.2.2
                  rw [HLN.out, hlen.out] at h1
                  rw [h1, HVV.out] at HUU
                  exact absurd (Option.some.inj HUU.out) hvu⟩
                clear hvu
                go_wp2_with (fail)
                go_quiet ((fail))
                go_wp2_with (fail)
                go_ret
                exact BoP.of HF.out (bs HBx.out (kbelow_drew _ _))
            · obtain rfl : n = K2 := by omega
              have HEQ : Hid (hs n sl j = l) := Lib.hid (by
                apply List.ext_getElem?
                intro i
                by_cases hi : i < n
                · exact (HC.out i hi).symm
                · rw [List.getElem?_eq_none (by rw [hs_len]; omega), List.getElem?_eq_none (by rw [HLN.out]; omega)])
              have HF : Hid ((((N : Nat) : Int) == k) = true ↔ tabOk true l sl x k) := Lib.hid (by
                rw [beq_iff_eq]
                have e1 : N = (livK sl).length := by rw [HN.out, HSL.out]
                have hall : ∀ (i : Nat) t, sl[i]? = some t → soundS x sl i t ∧ linkS true n sl i t := fun i t h => HL.out i t (by have := (List.getElem?_eq_some_iff.1 h).1; have := hlen.out; omega) h
                unfold tabOk
                rw [HLN.out, hlen.out]
                refine ⟨fun h => ⟨⟨hx, hx2⟩, ⟨fun _ => ⟨hp, hm⟩, fun h => (by cases h)⟩, ⟨fun i t h => (hall i t h).1, by rw [← h, e1]⟩, ⟨fun i t h => (hall i t h).2, HEQ.out⟩⟩, fun h => by rw [e1]; exact h.2.2.1.2⟩)
              have y4 := (rowc HAx.out).1 4
              simp at y4
              go_wp2_with (fail)
              go_ret
              exact BoP.of HF.out HBx.out

end Go.Proofs.YtbgffmiffmmohaaGreatDoor.tree

