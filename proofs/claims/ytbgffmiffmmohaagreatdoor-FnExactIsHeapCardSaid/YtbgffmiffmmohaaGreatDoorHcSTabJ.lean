/-
  Whether a table is sound, of the model.
  Conditions: those that each theorem names; the package variables of the library's reading of numbers hold what the program's text lays.
-/
import Derived.Test.YtbgffmiffmmohaaGreatDoorHcB3
namespace Go.Proofs.YtbgffmiffmmohaaGreatDoor.tree
open Go.ChangeShapes Go.WideShapes Go.ChangeAt Go.RowKit
set_option linter.unusedVariables false

theorem zero_s (k n : Int) (s : ByteArray) (x : Int) (A : Option Addr) (L c : Nat) (w : World) :
    Calls Tryz.prog 80 #[vV k n s x A L c] w (BoP w (k = 0 ∧ n = 0 ∧ s.size = 0 ∧ x = 0 ∧ L = 0)) := by
  by_cases hk : k = 0
  · subst hk
    by_cases hn : n = 0
    · subst hn
      by_cases hs : s.size = 0
      · obtain rfl := empty_of hs
        by_cases hx : x = 0
        · subst hx
          by_cases hL : L = 0
          · subst hL
            go_enter Tryz.func80, Tryz.ntmps80
            go_wp2_with (fail)
            go_ret
            exact BoP.of (by constructor <;> (intro _; first | trivial | (refine ⟨?_, ?_, ?_, ?_, ?_⟩ <;> first | trivial | rfl))) (b1 _ _)
          · have h1 : ((L : Int) == 0) = false := by simp; omega
            have HF : Hid (false = true ↔ ((0 : Int) = 0 ∧ (0 : Int) = 0 ∧ (⟨#[]⟩ : ByteArray).size = 0 ∧ (0 : Int) = 0 ∧ L = 0)) := Lib.hid ⟨fun h => (by cases h), fun h => absurd h.2.2.2.2 hL⟩
            clear hs
            go_enter Tryz.func80, Tryz.ntmps80
            go_wp2_with (fail)
            go_ret
            exact BoP.of (by simp []) (b1 _ _)
        · have h1 : (x == 0) = false := by simp [hx]
          go_enter Tryz.func80, Tryz.ntmps80
          go_wp2_with (fail)
          go_ret
          exact BoP.of (by simp [hx]) (b1 _ _)
      · obtain ⟨l1, l2⟩ := list_of hs
        go_enter Tryz.func80, Tryz.ntmps80
        go_wp2_with (fail)
        go_ret
        exact BoP.of (by simp [hs]) (b1 _ _)
    · have h1 : (n == 0) = false := by simp [hn]
      go_enter Tryz.func80, Tryz.ntmps80
      go_wp2_with (fail)
      go_ret
      exact BoP.of (by simp [hn]) (b1 _ _)
  · have h1 : (k == 0) = false := by simp [hk]
    go_enter Tryz.func80, Tryz.ntmps80
    go_wp2_with (fail)
    go_ret
    exact BoP.of (by simp [hk]) (b1 _ _)

theorem rwK_set {K n : Nat} (h : K < n) : (rwK K n).setIfInBounds K (.int .i64 (-1)) = rwK (K + 1) n := by
  apply Array.toList_inj.1
  unfold rwK
  rw [Array.toList_setIfInBounds, List.set_append_right _ _ (by simp)]
  simp only [List.length_replicate, Nat.sub_self]
  rw [show n - K = (n - (K + 1)) + 1 by omega, List.replicate_succ, List.set_cons_zero, List.replicate_succ']
  simp

set_option maxRecDepth 100000 in
set_option maxHeartbeats 8000000 in
theorem isTable_f {l : List Int} {sl : List Sl} {A : Option Addr} {c : Nat} {B : Option Addr} {m d : Nat} {x k : Int} (w : World) {S : Nat → Prop} (hr : TbIn w S l sl A 0 c B m d x k) (hm : m ≤ 1024) (hmx : (m : Int) ≤ x) (hx : 0 ≤ x) (hx2 : x ≤ 1000000001) (hst : SlB sl) (hE : prs.Env w) :
    Calls Tryz.prog 17 #[tbV false A 0 c B m d x k] w (BoP w (tabOk false l sl x k)) := by
  have HR := Lib.hid hr
  have HST := Lib.hid hst
  have HEN := Lib.hid hE
  have hlen : Hid (sl.length = m) := Lib.hid hr.len
  have hin : nums.inr x 0 1000000001 = true := by unfold nums.inr; simp; omega
  have IR := fun w => hin ▸ nums.l1In x 0 1000000001 w
  clear hin
  obtain ⟨i0, hi, hz, hss, hby⟩ := int_info
  have MK := fun (w : World) => run_make (P := Tryz.prog) w 24 3 i0 _ Tryz.underlying24 hi hz .i64 .i64 0 0 (by omega) (Int.le_refl _) (by rw [hby]; omega) (by omega)
  rw [hss, Nat.mul_one] at MK
  first | simp only [Int.toNat_natCast] at MK | simp only [Int.toNat_zero] at MK
  have MK2 : ∀ w : World, (Instr.makeSlice 24 (.int .i64 0) (.int .i64 0)).run Tryz.prog w = .ok (.slice (some ⟨w.heap.size, 0, none⟩) 0 0) (w.alloc (.cells (rwK 0 0) 3)) := fun w => by
    have := MK w
    rw [show madeCells (Value.int .i64 0).cells 0 = rwK 0 0 by
      have := toList_madeCells_one (.int .i64 0) 0
      rw [show (Value.int .i64 0).cells = #[.int .i64 0] from rfl]
      apply Array.toList_inj.1
      rw [this]
      simp [rwK]] at this
    exact this
  clear hr hst hE MK hi hz hss hby
  go_enter Tryz.func17, Tryz.ntmps17
  go_wp2_with (fail)
  refine (IR _).mono ?_
  rintro e w1 ⟨rfl, rfl⟩
  go_wp2_with (fail)
  have HLN : Hid (l.length = 0) := Lib.hid HR.out.heads.len
  have HA0 : Hid (((w.alloc (.cells #[.bool false, .slice A 0 c, .slice B m d, .int .i64 x, .int .i64 k] IT)).alloc (.cells (rwK 0 0) 3)).heap[w.heap.size]? = some (.cells #[.bool false, .slice A 0 c, .slice B m d, .int .i64 x, .int .i64 k] IT (0, 0))) := Lib.hid (heap_alloc2_old w _ _)
  have HG0 : Hid (((w.alloc (.cells #[.bool false, .slice A 0 c, .slice B m d, .int .i64 x, .int .i64 k] IT)).alloc (.cells (rwK 0 0) 3)).heap[w.heap.size + 1]? = some (.cells (rwK 0 0) 3 (0, 0))) := Lib.hid (heap_alloc2_new w _ _)
  obtain ⟨g, HG⟩ : ∃ g, Hid (w.heap.size + 1 = g) := ⟨_, Lib.hid rfl⟩
  rw [HG.out] at HG0 ⊢
  clear MK2 IR 
  go_loopg [6] (0 + 1) (fun gk s wr => ∃ K : Nat, s = .int .i64 K ∧ gk + K = 0 + 1 ∧ K ≤ 0 ∧ Hid (wr.heap[w.heap.size]? = some (.cells #[.bool false, .slice A 0 c, .slice B m d, .int .i64 x, .int .i64 k] IT (0, 0))) ∧ Hid (wr.heap[g]? = some (.cells (rwK K 0) 3 (0, 0))) ∧ Hid (Below w.heap.size w wr))
  case atStart => exact ⟨0, rfl, by omega, by omega, HA0, HG0, Lib.hid (b2 _ _ _)⟩
  case round =>
    clear HA0 HG0
    obtain ⟨K, rfl, hgK, hKn, HA, HK, HB⟩ := hrel
    by_cases hK : K < 0
    · exact absurd hK (by omega)
    · obtain rfl : 0 = K := by omega
      have HO0 : Hid (imem.OwnI wr (w.heap.size + 1) (some ⟨g, 0, none⟩) 0 0 (hs 0 sl 0)) := Lib.hid (rwK_own HK.out (Nat.le_of_eq HG.out) (by omega))
      go_wp2_with (fail)
      go_loopg [4, 7] (m + 1) (fun gk s4 s7 wr => ∃ j N : Nat, s4 = .int .i64 N ∧ s7 = .int .i64 j ∧ gk + j = m + 1 ∧ j ≤ m ∧ N ≤ j ∧ Hid (∀ (i : Nat) t, i < j → sl[i]? = some t → soundS x sl i t ∧ linkS false 0 sl i t) ∧ Hid (N = (livK (sl.take j)).length) ∧
        Hid (wr.heap[w.heap.size]? = some (.cells #[.bool false, .slice A 0 c, .slice B m d, .int .i64 x, .int .i64 k] IT (0, 0))) ∧ Hid (imem.OwnI wr (w.heap.size + 1) (some ⟨g, 0, none⟩) 0 0 (hs 0 sl j)) ∧ Hid (Below w.heap.size w wr))
      case atStart => exact ⟨0, 0, rfl, rfl, by omega, by omega, by omega, Lib.hid (fun i t h => absurd h (by omega)), Lib.hid (by simp [livK, liv]), HA, HO0, HB⟩
      case round =>
        clear HO0 HK HA HB hgK
        obtain ⟨j, N, rfl, rfl, hgj, hjm, hNj, HL, HN, HA, HO, HB⟩ := hrel
        by_cases hlt : j < m
        · obtain ⟨t, htj⟩ : ∃ t, sl[j]? = some t := ⟨_, List.getElem?_eq_getElem (by have := hlen.out; omega)⟩
          obtain ⟨a, k1, n1, s1, x1, ks1, vs1, A1, c1, rfl, -, hyb, hlb, hv, hT, hcell⟩ := HR.out.slots j t htj
          have hc10 := hcell.stays (w' := wr) (fun hl => HB.out.block _ hl)
          have hys := HST.out.str j t htj
          have HSU := Lib.hid (hs_succ (n := 0) htj)
          have HLT := Lib.hid (livK_take htj)
          have HTJ := Lib.hid htj
          obtain ⟨⟨yb, yn, ys⟩, tv, tb, tl⟩ := t
          simp only at hyb hlb hv hT hc10 hys
          subst hv
          obtain ⟨q1, HQ1⟩ : ∃ q, Hid (keyB ⟨yb, yn, ys⟩ = q) := ⟨_, Lib.hid rfl⟩
          have KB : Hid (∀ w' : World, Below w.heap.size w w' → Calls Tryz.prog 18 #[.agg #[.bool yb, .int .i64 yn, .string ys]] w' (KeyQ w' q1)) := Lib.hid fun w' hb' => HQ1.out ▸ isKey_s ⟨yb, yn, ys⟩ (by show ys.size ≤ _; have : ys.size ≤ 140737488355328 := hys; omega) w' (HEN.out.stays hb')
          have ZE : Hid (∀ w' : World, Calls Tryz.prog 80 #[vV k1 n1 s1 x1 A1 vs1.length c1] w' (BoP w' (zeroT (.mk k1 n1 s1 x1 ks1 vs1)))) := Lib.hid fun w' => zero_s k1 n1 s1 x1 A1 vs1.length c1 w'
          have HLK : Hid (lk 0 sl j ⟨yb, yn, ys⟩ = -1) := Lib.hid (lk_zero sl j _)
          have HLKL : Hid (lk l.length sl j ⟨yb, yn, ys⟩ = -1) := Lib.hid (by rw [HLN.out]; exact HLK.out)
          obtain ⟨L1, HL1⟩ : ∃ L, Hid (vs1.length = L) := ⟨_, Lib.hid rfl⟩
          rw [HL1.out] at hc10 ZE
          unfold vV at ZE
          obtain ⟨p0, p1, p2, p3, p4, p5, p6, p7, p8, p9⟩ := hc10
          simp only at p0 p1 p2
          have y2 := (rowc HA.out).1 2
          simp at y2
          clear hyb hlb hT hcell htj hys
          go_upto_region 14 with fail
          obtain ⟨R, HRR⟩ : ∃ R, Hid (wr.heap.size = R) := ⟨_, Lib.hid rfl⟩
          rw [HRR.out]
          generalize hw1 : wr.alloc (.cells #[.bool yb, .int .i64 yn, .string ys, .int .i64 k1, .int .i64 n1, .string s1, .int .i64 x1, .slice A1 L1 c1, .bool tb, .int .i64 tl] 112) = w2
          have hb1 : Below wr.heap.size wr w2 := hw1 ▸ b1 wr _
          have H10 : Hid (w2.heap[R]? = some (.cells #[.bool yb, .int .i64 yn, .string ys, .int .i64 k1, .int .i64 n1, .string s1, .int .i64 x1, .slice A1 L1 c1, .bool tb, .int .i64 tl] 112 (0, 0))) := Lib.hid (by rw [← hw1, ← HRR.out]; exact heap_alloc_new wr _)
          have HGR : Hid (g < R) := Lib.hid (by have := (HO.out.block g rfl).2; have := HRR.out; omega)
          replace HA := Lib.hid (carry hb1 HA.out)
          replace HO := Lib.hid (HO.out.below hb1)
          replace HB := Lib.hid (bs HB.out hb1)
          have r10 := (rowc H10.out).1
          have z0 := r10 0; have z1 := r10 1; have z2 := r10 2
          simp at z0 z1 z2
          have y0 := (rowc HA.out).1 0
          simp at y0
          clear hw1 hb1 r10 p0 p1 p2 p3 p4 p5 p6 p7 p8 p9 y2
          have NE := fun w => ky_neq w ⟨yb, yn, ys⟩ (ixK j)
          obtain ⟨q, HQ⟩ : ∃ q, Hid (decide ((⟨yb, yn, ys⟩ : Ky) = ixK j) = q) := ⟨_, Lib.hid rfl⟩
          rw [HQ.out] at NE
          unfold kyV ixK at NE
          simp only at NE
          cases q with
          | false =>
            have HF : Hid (false = true ↔ tabOk false l sl x k) := Lib.hid ⟨fun h => (by cases h), fun h => by
              rcases (h.2.2.2.1 j _ HTJ.out).1 with h | h
              · cases h
              · exact absurd h (of_decide_eq_false HQ.out)⟩
            go_wp2_with (fail)
            go_ret
            exact BoP.of HF.out HB.out
          | true =>
          have HIX : Hid ((⟨yb, yn, ys⟩ : Ky) = ixK j) := Lib.hid (of_decide_eq_true HQ.out)
          replace HO : Hid (imem.OwnI w2 (w.heap.size + 1) (some ⟨g, 0, none⟩) 0 0 (hs 0 sl (j + 1))) := Lib.hid (by
            have h0 : hs 0 sl (j + 1) = hs 0 sl j := by
              have h1 := hs_len 0 sl (j + 1)
              have h2 := hs_len 0 sl j
              rw [List.eq_nil_of_length_eq_zero h1, List.eq_nil_of_length_eq_zero h2]
            rw [h0]; exact HO.out)
          clear HSU HQ
          go_upto_region 21 with fail
          clear NE
          go_wp2_with (fail)
          refine (KB.out _ HB.out).mono ?_
          rintro e w5 ⟨rfl, hb1⟩
          replace HA := Lib.hid (carry hb1 HA.out)
          replace H10 := Lib.hid (carry hb1 H10.out)
          replace HO := Lib.hid (HO.out.below hb1)
          replace HB := Lib.hid (bs HB.out hb1)
          clear z0 z1 z2 hb1 y0
          have r10 := (rowc H10.out).1
          have z0 := r10 0; have z1 := r10 1; have z2 := r10 2; have z3 := r10 3; have z4 := r10 4; have z5 := r10 5; have z6 := r10 6; have z7 := r10 7; have z8 := r10 8; have z9 := r10 9
          simp at z0 z1 z2 z3 z4 z5 z6 z7 z8 z9
          have y3 := (rowc HA.out).1 3
          simp at y3
          have y0 := (rowc HA.out).1 0
          simp at y0
          clear r10
          cases q1 with
          | false =>
            have HF : Hid (false = true ↔ tabOk false l sl x k) := Lib.hid ⟨fun h => (by cases h), fun h => by
              have h1 := (h.2.2.1.1 j _ HTJ.out).1
              rw [show keyB (⟨yb, yn, ys⟩ : Ky) = false from HQ1.out] at h1
              cases h1⟩
            go_wp2_with (fail)
            go_ret
            exact BoP.of HF.out HB.out
          | true =>
          by_cases htl : ¬ tl = -1
          · have htl2 : (tl != -1) = true := by simp [htl]
            have HF : Hid (false = true ↔ tabOk false l sl x k) := Lib.hid ⟨fun h => (by cases h), fun h => absurd ((h.2.2.2.1 j _ HTJ.out).2.trans HLKL.out) htl⟩
            clear htl
            go_wp2_with (fail)
            go_ret
            exact BoP.of HF.out HB.out
          replace htl := Decidable.not_not.1 htl
          subst tl
          by_cases hyx : ¬ (yb = true ∨ yn < x)
          · obtain ⟨h1, h2⟩ : yb = false ∧ ¬ yn < x := by
              cases yb
              · exact ⟨rfl, fun h => hyx (.inr h)⟩
              · exact absurd (.inl rfl) hyx
            have HF : Hid (false = true ↔ tabOk false l sl x k) := Lib.hid ⟨fun h => (by cases h), fun h => by
              have h1 := (h.2.2.1.1 j _ HTJ.out).1
              simp at h1
              exact (hyx h1.2).elim⟩
            clear hyx
            subst h1
            have h3 : x ≤ yn := by omega
            go_wp2_with (fail)
            go_ret
            exact BoP.of HF.out HB.out
          replace hyx := Decidable.not_not.1 hyx
          have HYX : Hid ((keyB (⟨yb, yn, ys⟩ : Ky) && ((⟨yb, yn, ys⟩ : Ky).text || decide ((⟨yb, yn, ys⟩ : Ky).num < x))) = true) := Lib.hid (by
            rw [show keyB (⟨yb, yn, ys⟩ : Ky) = true from HQ1.out]
            rcases hyx with h | h
            · rw [show (⟨yb, yn, ys⟩ : Ky).text = true from h]; rfl
            · rw [decide_eq_true (show (⟨yb, yn, ys⟩ : Ky).num < x from h)]; simp)
          clear KB HQ1
          cases tb with
          | false =>
            have HL2 : Hid (livK (sl.take (j + 1)) = livK (sl.take j)) := Lib.hid (by have := HLT.out; simpa using this)
            cases yb
            all_goals
              first
                | (have hyx2 : ¬ x ≤ yn := Int.not_le.2 (hyx.resolve_left (by decide)); clear hyx)
                | (clear hyx)
              skip
              all_goals
                go_wp2_with (fail)
                refine (ZE.out _).mono ?_
                rintro e w6 ⟨q3, rfl, h3, hb1⟩
                have HZ3 := Lib.hid h3
                clear h3
                have HA6 := Lib.hid (carry hb1 HA.out)
                have H106 := Lib.hid (carry hb1 H10.out)
                have HO6 := Lib.hid (HO.out.below hb1)
                have HB6 := Lib.hid (bs HB.out hb1)
                clear hb1
                have u8 := (rowc H106.out).1 8
                simp at u8
                have u0 := (rowc HA6.out).1 0
                simp at u0
                clear z0 z1 z2 z3 z4 z5 z6 z7 z8 z9 y0 y3
                cases q3 with
                | false =>
                  have HF : Hid (false = true ↔ tabOk false l sl x k) := Lib.hid ⟨fun h => (by cases h), fun h => by
                    have := HZ3.out.2 ((h.2.2.1.1 j _ HTJ.out).2.2 rfl)
                    cases this⟩
                  go_wp2_with (fail)
                  go_ret
                  exact BoP.of HF.out HB6.out
                | true =>
                  have HZT : Hid (zeroT (.mk k1 n1 s1 x1 ks1 vs1)) := Lib.hid (HZ3.out.1 rfl)
                  go_wp2_with (fail)
                  go_loopg [11] 0 (fun gk s wx => s = .int .i64 0 ∧ wx = w6)
                  case atStart => exact ⟨rfl, rfl⟩
                  case round =>
                    obtain ⟨rfl, rfl⟩ := hrel
                    go_wp2_with (fail)
                    go_roundg (m - j)
                    case rel =>
                      refine ⟨j + 1, N, rfl, by go_num, by omega, by omega, by omega, Lib.hid (fun i t hi ht => ?_), Lib.hid (by rw [HL2.out]; exact HN.out), HA6, HO6, HB6⟩
                      rcases Nat.lt_or_ge i j with h | h
                      · exact HL.out i t h ht
                      · obtain rfl : i = j := by omega
                        rw [HTJ.out] at ht
                        obtain rfl := Option.some.inj ht
                        exact ⟨⟨HYX.out, fun h => (by cases h), fun _ => HZT.out⟩, ⟨.inr HIX.out, HLK.out.symm⟩⟩
                    case measure => omega
          | true =>
            have HL2 : Hid (livK (sl.take (j + 1)) = livK (sl.take j) ++ [⟨yb, yn, ys⟩]) := Lib.hid (by have := HLT.out; simpa using this)
            have HNEW : Hid ((⟨yb, yn, ys⟩ : Ky) ∉ livK (sl.take j)) := Lib.hid (by
              rw [HIX.out]
              exact packed_new fun i t hi ht => by
                rcases (HL.out i t hi ht).2.1 with h | h
                · cases h
                · exact h)
            cases yb
            all_goals
              first
                | (have hyx2 : ¬ x ≤ yn := Int.not_le.2 (hyx.resolve_left (by decide)); clear hyx)
                | (clear hyx)
              skip
              all_goals
                go_wp2_with (fail)
                go_loopg [11] 0 (fun gk s wx => s = .int .i64 0 ∧ wx = w5)
                case atStart => exact ⟨rfl, rfl⟩
                case round =>
                  obtain ⟨rfl, rfl⟩ := hrel
                  go_wp2_with (fail)
                  go_roundg (m - j)
                  case rel =>
                    refine ⟨j + 1, N + 1, by go_num, by go_num, by omega, by omega, by omega, Lib.hid (fun i t hi ht => ?_), Lib.hid (by rw [HL2.out, List.length_append, HN.out]; rfl), HA, HO, HB⟩
                    rcases Nat.lt_or_ge i j with h | h
                    · exact HL.out i t h ht
                    · obtain rfl : i = j := by omega
                      rw [HTJ.out] at ht
                      obtain rfl := Option.some.inj ht
                      exact ⟨⟨HYX.out, fun _ => HNEW.out, fun h => (by cases h)⟩, ⟨.inr HIX.out, HLK.out.symm⟩⟩
                  case measure => omega
        · obtain rfl : j = m := by omega
          have y2 := (rowc HA.out).1 2
          simp at y2
          have HSL : Hid (livK (sl.take j) = livK sl) := Lib.hid (by rw [← hlen.out, List.take_length])
          go_wp2_with (fail)
          clear y2
          go_loopg [12] (0 + 1) (fun gk s wx => ∃ K2 : Nat, s = .int .i64 K2 ∧ gk + K2 = 0 + 1 ∧ K2 ≤ 0 ∧ Hid (∀ i, i < K2 → l[i]? = (hs 0 sl j)[i]?) ∧ Hid (Below wr.heap.size wr wx))
          case atStart => exact ⟨0, rfl, by omega, by omega, Lib.hid (fun i h => absurd h (by omega)), Lib.hid (Below.refl _ _)⟩
          case round =>
            obtain ⟨K2, rfl, hgk, hK2, HC, HX⟩ := hrel
            have HAx := Lib.hid (carry HX.out HA.out)
            have HOx := Lib.hid (HO.out.below HX.out)
            have HBx := Lib.hid (bs HB.out HX.out)
            by_cases hlt2 : K2 < 0
            · exact absurd hlt2 (by omega)
            · obtain rfl : 0 = K2 := by omega
              have HEQ : Hid (hs 0 sl j = l) := Lib.hid (by
                apply List.ext_getElem?
                intro i
                by_cases hi : i < 0
                · exact (HC.out i hi).symm
                · rw [List.getElem?_eq_none (by rw [hs_len]; omega), List.getElem?_eq_none (by rw [HLN.out]; omega)])
              have HF : Hid ((((N : Nat) : Int) == k) = true ↔ tabOk false l sl x k) := Lib.hid (by
                rw [beq_iff_eq]
                have e1 : N = (livK sl).length := by rw [HN.out, HSL.out]
                have hall : ∀ (i : Nat) t, sl[i]? = some t → soundS x sl i t ∧ linkS false 0 sl i t := fun i t h => HL.out i t (by have := (List.getElem?_eq_some_iff.1 h).1; have := hlen.out; omega) h
                unfold tabOk
                rw [HLN.out, hlen.out]
                refine ⟨fun h => ⟨⟨hx, hx2⟩, ⟨fun h => (by cases h), fun _ => ⟨rfl, hmx, hm⟩⟩, ⟨fun i t h => (hall i t h).1, by rw [← h, e1]⟩, ⟨fun i t h => (hall i t h).2, HEQ.out⟩⟩, fun h => by rw [e1]; exact h.2.2.1.2⟩)
              have y4 := (rowc HAx.out).1 4
              simp at y4
              go_wp2_with (fail)
              go_ret
              exact BoP.of HF.out HBx.out

end Go.Proofs.YtbgffmiffmmohaaGreatDoor.tree

