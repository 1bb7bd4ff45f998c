/-
  The rounds of the model (l13Light).
  Conditions: handles lead to live blocks; at most 2^20 blocks and slots of each.
-/
import Derived.Test.YtbgffmiffmmohaaGreatDoorHcB4
import Derived.Test.YtbgffmiffmmohaaGreatDoorHcB2
import Derived.Test.YtbgffmiffmmohaaGreatDoorHcSSpare
import Derived.Test.YtbgffmiffmmohaaGreatDoorHcB1
import Derived.Deep.RegionHeld3
namespace Go.Proofs.YtbgffmiffmmohaaGreatDoor.tree
open Go.ChangeShapes Go.WideShapes Go.ChangeAt Go.RowKit
set_option linter.unusedVariables false

set_option maxRecDepth 100000 in
set_option maxHeartbeats 8000000 in
theorem light13_s (bl : List Bk) (A : Option Addr) (c : Nat) (w : World) (S : Nat → Prop) (hH : HIn w S bl A) (hm : bl.length ≤ 1048576) (hs : ∀ k ∈ bl, k.slots.length ≤ 1048576) (hok : okL bl) (hfr : ∀ k ∈ bl, k.refs ≤ 0 → k.refs = 0 ∧ k.slots = []) :
    Calls Tryz.prog 118 #[hpV A bl.length c] w (BoP w (Lt bl)) := by
  have HH := Lib.hid hH
  have HS := Lib.hid hs
  have HOK := Lib.hid hok
  have HFR := Lib.hid hfr
  have HST := Lib.hid (WI.start bl)
  have HUS := Lib.hid (unset_start bl)
  have HUL := Lib.hid (unset_le bl)
  have HLL := Lib.hid (liveN_le bl)
  obtain ⟨L, HL⟩ : ∃ L, Hid (bl.length = L) := ⟨_, Lib.hid rfl⟩
  rw [HL.out] at hm HST HUS HUL HLL ⊢
  obtain ⟨i0, hi, hz0, hz1, hz2⟩ := info_parts imem.i64row
  have HZ := Lib.hid hz2
  obtain ⟨P, HP⟩ : ∃ P, Hid (w.heap.size = P) := ⟨_, Lib.hid rfl⟩
  clear hH hs hok hfr hz2
  go_enter Tryz.func118, Tryz.ntmps118
  go_wp2_with (first | (at_make; refine wpList_make_full _ rfl _ _ 24 rfl P 3 i0 (.int .i64 0) 1 Tryz.underlying24 hi hz0 hz1 _ _ _ _ L rfl rfl rfl rfl (by have := HZ.out; rw [this]; omega) (by unfold maxLen; omega) (by rw [← HP.out]; simp) ?_; intro w1 hown hg; have HOW := Lib.hid hown; have HG := Lib.hid hg; clear hown hg) | fail)
  have HO1 : Hid (imem.OwnI w1 P (some ⟨w.heap.size + 1, 0, none⟩) L L (List.replicate L 0)) := Lib.hid ⟨List.length_replicate, by have h := HOW.out; rw [show (Value.int IntKind.i64 0).cells = #[Value.int .i64 0] from rfl] at h; rw [imem.ics_zero, ← toList_madeCells_one, ← Nat.mul_one L]; simpa using h⟩
  have HB1 : Hid (Below w.heap.size w w1) := Lib.hid (bs (b1 w _) (mem.below_of_none HG.out))
  have HBX : Hid (w1.heap[w.heap.size]? = some (.cells #[.slice A L c] IH' (0, 0))) := Lib.hid ((HG.out.block w.heap.size (by simp) (by simp)).trans (heap_alloc_new w _))
  clear HOW HG hi hz0 hz1
  go_loopg [4, 5] (L + 1) (fun gk l i wr => ∃ (j : Nat) (q : Nat), i = .int .i64 j ∧ l = .int .i64 q ∧ gk + j = L + 1 ∧ j ≤ L ∧ q ≤ j ∧ Hid (q = liveN (bl.take j)) ∧ wr = w1)
  case atStart => exact ⟨0, 0, rfl, rfl, by omega, by omega, by omega, Lib.hid (by simp [liveN]), rfl⟩
  case round =>
    obtain ⟨j, q, rfl, rfl, hgj, hjL, hqj, HQ, rfl⟩ := hrel
    have r0 := (rowc HBX.out).1 0
    simp at r0
    by_cases hlt : j < L
    · obtain ⟨k, hk⟩ : ∃ k, bl[j]? = some k := ⟨_, List.getElem?_eq_getElem (by rw [HL.out]; exact hlt)⟩
      have hst := liveN_take hk
      obtain ⟨a, A1, n1, c1, B1, m1, d1, rfl, -, -, -, hcell⟩ := HH.out.below HB1.out j k hk
      obtain ⟨rf, hs, l, sl, x, ct⟩ := k
      simp only at hst hcell
      have p0 := hcell.c0
      have HST2 := Lib.hid hst
      clear hk hst hcell
      by_cases hp : 0 < rf
      · have HQ2 : Hid (q + 1 = liveN (bl.take (j + 1))) := Lib.hid (by rw [HST2.out, if_pos hp, HQ.out])
        go_wp2_with (fail)
        go_roundg (L - j)
        case rel => exact ⟨j + 1, q + 1, by go_num, by go_num, by omega, by omega, by omega, HQ2, rfl⟩
        case measure => omega
      · have HQ2 : Hid (q = liveN (bl.take (j + 1))) := Lib.hid (by rw [HST2.out, if_neg hp, HQ.out]; rfl)
        go_wp2_with (fail)
        go_roundg (L - j)
        case rel => exact ⟨j + 1, q, by go_num, rfl, by omega, by omega, by omega, HQ2, rfl⟩
        case measure => omega
    · obtain rfl : j = L := by omega
      have HQ3 : Hid (q = unset bl (List.replicate j 0)) := Lib.hid (by rw [HUS.out, HQ.out, ← HL.out, List.take_length])
      clear HQ
      go_upto_region 9 with fail
      clear r0
      go_loopg [4, 6] (202) (fun gk l i wr => ∃ (r : Nat) (q : Nat) (ws : List Int), i = .int .i64 r ∧ l = .int .i64 q ∧ gk + r = 202 ∧ r ≤ 201 ∧ q ≤ j ∧ Hid (q = unset bl ws) ∧ Hid (WI bl ws r 0) ∧ Hid (imem.OwnI wr P (some ⟨w.heap.size + 1, 0, none⟩) j j ws) ∧ Hid (wr.heap[w.heap.size]? = some (.cells #[.slice A j c] IH' (0, 0))) ∧ Hid (Below w.heap.size w wr))
      case atStart => exact ⟨0, q, List.replicate j 0, rfl, rfl, by omega, by omega, by omega, HQ3, HST, HO1, HBX, HB1⟩
      case round =>
        clear HQ3 HO1 HBX HB1
        obtain ⟨r, q, ws, rfl, rfl, hgr, hr, hqj, HQ, HW, HO, HBX, HB⟩ := hrel
        by_cases hcond : r ≤ 200 ∧ 0 < q
        · obtain ⟨hr2, hq0⟩ := hcond
          go_wp2_with (fail)
          go_loopg [4, 7] (j + 1) (fun gk l i2 wr => ∃ (i : Nat) (q : Nat) (ws : List Int), i2 = .int .i64 i ∧ l = .int .i64 q ∧ gk + i = j + 1 ∧ i ≤ j ∧ q ≤ j ∧ Hid (q = unset bl ws) ∧ Hid (WI bl ws r i) ∧ Hid (imem.OwnI wr P (some ⟨w.heap.size + 1, 0, none⟩) j j ws) ∧ Hid (wr.heap[w.heap.size]? = some (.cells #[.slice A j c] IH' (0, 0))) ∧ Hid (Below w.heap.size w wr))
          case atStart => exact ⟨0, q, ws, rfl, rfl, by omega, by omega, by omega, HQ, HW, HO, HBX, HB⟩
          case round =>
            clear HQ HW HO HBX HB
            obtain ⟨i, q, ws, rfl, rfl, hgi, hij, hqj, HQ, HW, HO, HBX, HB⟩ := hrel
            have r0 := (rowc HBX.out).1 0
            simp at r0
            by_cases hlt2 : i < j
            · obtain ⟨k, hk⟩ : ∃ k, bl[i]? = some k := ⟨_, List.getElem?_eq_getElem (by rw [HL.out]; exact hlt2)⟩
              have hmem := List.mem_of_getElem? hk
              have hms := HS.out k hmem
              have hol := HOK.out k hmem
              obtain ⟨a, A1, n1, c1, B1, m1, d1, rfl, -, -, hT, hcell⟩ := HH.out.below HB.out i k hk
              have hlm := hT.len
              have HSL := Lib.hid hT.slots
              have HKJ := Lib.hid hk
              obtain ⟨rf, hs, l, sl, x, ct⟩ := k
              simp only at hms hlm HSL hcell hol
              have HOL := Lib.hid hol
              have HLM := Lib.hid hlm
              have p0 := hcell.c0
              have p3 := hcell.c3
              obtain ⟨v, hv⟩ : ∃ v, ws[i]? = some v := ⟨_, List.getElem?_eq_getElem (by rw [HW.out.len, HL.out]; exact hlt2)⟩
              have hvb := HW.out.ex i v hv
              have hcv : wr.cell? ⟨w.heap.size + 1, i, none⟩ = some (.int .i64 v) := by rw [HO.out.row.cellAt i (by omega)]; exact imem.ics_get hv
              have HV := Lib.hid hv
              have hm1 : m1 ≤ 1048576 := by omega
              clear hk hmem hms hT hcell hol hlm hv
              by_cases hrf : rf = 0
              · subst hrf
                have HWN : Hid (WI bl ws r (i + 1)) := Lib.hid (HW.out.pass fun k hk hp _ => by
                  rw [HKJ.out] at hk
                  obtain rfl := Option.some.inj hk
                  exact absurd hp (by simp))
                clear hvb
                go_wp2_with (fail)
                go_roundg (j - i)
                case rel => exact ⟨i + 1, q, ws, by go_num, rfl, by omega, by omega, by omega, HQ, HWN, HO, HBX, HB⟩
                case measure => omega
              · have hrf' : (rf == 0) = false := by simp [hrf]
                by_cases hv0 : v = 0
                · subst hv0
                  have HP0 : Hid (0 < rf) := Lib.hid (by
                    by_cases h : 0 < rf
                    · exact h
                    · exact absurd (HFR.out _ (List.mem_of_getElem? HKJ.out) (show rf ≤ 0 by omega)).1 hrf)
                  clear hvb
                  go_upto_region 18 with fail
                  clear p0 p3 r0 hcv
                  go_loopg [8, 10] (m1 + 1) (fun gk n2 i2 wz => ∃ (kk : Nat) (n : Int), i2 = .int .i64 kk ∧ n2 = .int .i64 n ∧ gk + kk = m1 + 1 ∧ kk ≤ m1 ∧ 0 ≤ n ∧ n ≤ 1 + 200 * kk ∧ Hid ((0 < n ∧ n = 1 + wvs ws (livV (sl.take kk)) ∧ ∀ t ∈ livV (sl.take kk), Kn bl ws t) ∨ (n = 0 ∧ ∃ (c : Nat) (kc : Bk) (s : ByteArray) (x : Int) (ks : List Ky) (vs : List Tr), Tr.mk 5 (c : Int) s x ks vs ∈ livV sl ∧ bl[c]? = some kc ∧ 0 < kc.refs ∧ ws[c]? = some 0)) ∧ wz = wr)
                  case atStart => exact ⟨0, 1, rfl, rfl, by omega, by omega, by omega, by omega, Lib.hid (.inl ⟨by omega, by simp [livV, liv, wvs], fun t ht => by simp [livV, liv] at ht⟩), rfl⟩
                  case round =>
                    obtain ⟨kk, n, rfl, rfl, hgk, hkm, hn0, hn1, HN, rfl⟩ := hrel
                    by_cases hcond2 : kk < m1 ∧ 0 < n
                    · obtain ⟨hlt3, hnp⟩ := hcond2
                      obtain ⟨t, ht⟩ : ∃ t, sl[kk]? = some t := ⟨_, List.getElem?_eq_getElem (by rw [HLM.out]; exact hlt3)⟩
                      have HN2 : Hid (n = 1 + wvs ws (livV (sl.take kk)) ∧ ∀ t ∈ livV (sl.take kk), Kn bl ws t) := Lib.hid (by
                        rcases HN.out with ⟨_, h2, h3⟩ | ⟨h, _⟩
                        · exact ⟨h2, h3⟩
                        · omega)
                      have hwt := wvs_take (ws := ws) ht
                      have hml := fun u (hu : u ∈ livV (sl.take (kk + 1))) => livV_mem_take ht hu
                      have hlo := fun h => livV_of ht h
                      obtain ⟨a2, k2, n2, s2, x2, ks2, vs2, A2, c2, rfl, -, -, -, hv2, -, hcell⟩ := HSL.out kk t ht
                      obtain ⟨y2, tv, tb, tl⟩ := t
                      simp only at hwt hml hlo hv2 hcell
                      subst hv2
                      obtain ⟨L2, HL2⟩ : ∃ L1, Hid (vs2.length = L1) := ⟨_, Lib.hid rfl⟩
                      rw [HL2.out] at hcell
                      obtain ⟨y0, y1, y2, y3, y4, y5, y6, y7, y8, y9⟩ := hcell
                      have HWT := Lib.hid hwt
                      have HML := Lib.hid hml
                      have HLO := Lib.hid hlo
                      clear ht hwt hml hlo y0 y1 y2 y5 y6 y7 y9 HN
                      cases tb with
                      | false =>
                        have HN3 : Hid ((0 < n ∧ n = 1 + wvs ws (livV (sl.take (kk + 1))) ∧ ∀ t ∈ livV (sl.take (kk + 1)), Kn bl ws t) ∨ (n = 0 ∧ ∃ (c : Nat) (kc : Bk) (s : ByteArray) (x : Int) (ks : List Ky) (vs : List Tr), Tr.mk 5 (c : Int) s x ks vs ∈ livV sl ∧ bl[c]? = some kc ∧ 0 < kc.refs ∧ ws[c]? = some 0)) := Lib.hid (.inl ⟨hnp, by rw [HWT.out]; have := HN2.out.1; simp; exact this, fun u hu => by
                          rcases HML.out u hu with h | ⟨h, _⟩
                          · exact HN2.out.2 u h
                          · simp at h⟩)
                        go_wp2_with (fail)
                        go_roundg (m1 - kk)
                        case rel => exact ⟨kk + 1, n, by go_num, rfl, by omega, by omega, by omega, by omega, HN3, rfl⟩
                        case measure => omega
                      | true =>
                        by_cases h5 : k2 = 5
                        · subst h5
                          obtain ⟨cc, kc, hcc, hkc, hlv⟩ := HOL.out _ (HLO.out rfl) n2 s2 x2 ks2 vs2 rfl
                          subst hcc
                          have hcl : cc < j := by have := (List.getElem?_eq_some_iff.1 hkc).1; rw [HL.out] at this; exact this
                          obtain ⟨v2, hv2⟩ : ∃ v, ws[cc]? = some v := ⟨_, List.getElem?_eq_getElem (by rw [HW.out.len, HL.out]; exact hcl)⟩
                          have hvb := HW.out.ex cc v2 hv2
                          have hcv2 : wr.cell? ⟨w.heap.size + 1, cc, none⟩ = some (.int .i64 v2) := by rw [HO.out.row.cellAt cc (by omega)]; exact imem.ics_get hv2
                          have HV2 := Lib.hid hv2
                          have HKC := Lib.hid (And.intro hkc hlv)
                          clear hv2 hkc hlv
                          by_cases hz : v2 = 0
                          · subst hz
                            have HN3 : Hid ((0 < (0 : Int) ∧ (0 : Int) = 1 + wvs ws (livV (sl.take (kk + 1))) ∧ ∀ t ∈ livV (sl.take (kk + 1)), Kn bl ws t) ∨ ((0 : Int) = 0 ∧ ∃ (c : Nat) (kc : Bk) (s : ByteArray) (x : Int) (ks : List Ky) (vs : List Tr), Tr.mk 5 (c : Int) s x ks vs ∈ livV sl ∧ bl[c]? = some kc ∧ 0 < kc.refs ∧ ws[c]? = some 0)) := Lib.hid (.inr ⟨rfl, cc, kc, s2, x2, ks2, vs2, HLO.out rfl, HKC.out.1, HKC.out.2, HV2.out⟩)
                            clear hvb
                            go_wp2_with (fail)
                            go_roundg (m1 - kk)
                            case rel => exact ⟨kk + 1, 0, by go_num, rfl, by omega, by omega, by omega, by omega, Lib.hid (by rcases HN3.out with h | ⟨_, h⟩; exact .inl h; exact .inr ⟨rfl, h⟩), rfl⟩
                            case measure => omega
                          · have hvb2 : 1 ≤ v2 ∧ v2 ≤ 200 := by rcases hvb with h | h; exact absurd h hz; exact ⟨h.1, h.2.1⟩
                            have HEX : Hid (Ex bl cc v2) := Lib.hid (by rcases hvb with h | h; exact absurd h hz; exact h.2.2)
                            have hz' : (v2 == 0) = false := by simp [hz]
                            have HN3 : Hid ((0 < n + v2 ∧ n + v2 = 1 + wvs ws (livV (sl.take (kk + 1))) ∧ ∀ t ∈ livV (sl.take (kk + 1)), Kn bl ws t) ∨ (n + v2 = 0 ∧ ∃ (c : Nat) (kc : Bk) (s : ByteArray) (x : Int) (ks : List Ky) (vs : List Tr), Tr.mk 5 (c : Int) s x ks vs ∈ livV sl ∧ bl[c]? = some kc ∧ 0 < kc.refs ∧ ws[c]? = some 0)) := Lib.hid (.inl ⟨by omega, by
                              rw [HWT.out, if_pos rfl, wv, if_pos rfl, Int.toNat_natCast, HV2.out]
                              have := HN2.out.1
                              show n + v2 = 1 + (wvs ws (livV (sl.take kk)) + v2)
                              omega, fun u hu => by
                              rcases HML.out u hu with h | ⟨_, h⟩
                              · exact HN2.out.2 u h
                              · subst h
                                exact fun _ => ⟨cc, rfl, v2, HV2.out, HEX.out⟩⟩)
                            clear hvb
                            go_wp2_with (fail)
                            go_roundg (m1 - kk)
                            case rel => exact ⟨kk + 1, n + v2, by go_num, rfl, by omega, by omega, by omega, by omega, HN3, rfl⟩
                            case measure => omega
                        · have h5' : (k2 != 5) = true := by simp [h5]
                          have HN3 : Hid ((0 < n + 1 ∧ n + 1 = 1 + wvs ws (livV (sl.take (kk + 1))) ∧ ∀ t ∈ livV (sl.take (kk + 1)), Kn bl ws t) ∨ (n + 1 = 0 ∧ ∃ (c : Nat) (kc : Bk) (s : ByteArray) (x : Int) (ks : List Ky) (vs : List Tr), Tr.mk 5 (c : Int) s x ks vs ∈ livV sl ∧ bl[c]? = some kc ∧ 0 < kc.refs ∧ ws[c]? = some 0)) := Lib.hid (.inl ⟨by omega, by
                            rw [HWT.out, if_pos rfl, wv, if_neg h5]
                            have := HN2.out.1
                            omega, fun u hu => by
                            rcases HML.out u hu with h | ⟨_, h⟩
                            · exact HN2.out.2 u h
                            · subst h
                              exact fun e => absurd e h5⟩)
                          go_wp2_with (fail)
                          go_roundg (m1 - kk)
                          case rel => exact ⟨kk + 1, n + 1, by go_num, rfl, by omega, by omega, by omega, by omega, HN3, rfl⟩
                          case measure => omega
                    · by_cases hnz : n = 0
                      · subst hnz
                        have HWN : Hid (WI bl ws r (i + 1)) := Lib.hid (HW.out.pass fun k hk hp hw => by
                          rcases HN.out with ⟨h, _⟩ | ⟨_, c2, kc, s2, x2, ks2, vs2, h1, h2, h3, h4⟩
                          · omega
                          · exact dp_block HKJ.out h1 (HW.out.low h2 h3 h4))
                        by_cases hkm2 : kk < m1
                        all_goals
                          go_wp2_with (fail)
                          go_roundg (j - i)
                          case rel => exact ⟨i + 1, q, ws, by go_num, rfl, by omega, by omega, by omega, HQ, HWN, HO, HBX, HB⟩
                          case measure => omega
                      · obtain rfl : kk = m1 := by omega
                        have HEX : Hid (Ex bl i n) := Lib.hid (by
                          rcases HN.out with ⟨_, h2, h3⟩ | ⟨h, _⟩
                          · rw [← HLM.out, List.take_length] at h2 h3
                            rw [h2]
                            exact ex_block HKJ.out h3
                          · exact absurd h hnz)
                        by_cases hbig : 200 < n
                        · have HNO : Hid (¬ Lt bl) := Lib.hid (fun h => by have h1 := h i (by rw [HL.out]; exact hlt2); have h2 := ex_gt HEX.out hbig; omega)
                          go_wp2_with (fail)
                          go_ret
                          exact ⟨false, rfl, ⟨fun h => (by cases h), fun h => absurd h HNO.out⟩, HB.out⟩
                        · have hun := unset_set HKJ.out HV.out HP0.out (n := n) hnz
                          rw [← HQ.out] at hun
                          obtain ⟨q', rfl⟩ : ∃ q', q = q' + 1 := ⟨q - 1, by omega⟩
                          have HQN : Hid (q' = unset bl (ws.set i n)) := Lib.hid (by omega)
                          have HWN : Hid (WI bl (ws.set i n) r (i + 1)) := Lib.hid (HW.out.put ⟨by omega, by omega⟩ HEX.out)
                          have hfz : wr.frozen? ⟨w.heap.size + 1, i, none⟩ = false := HO.out.row.frozenAt i
                          have hcz : wr.cell? ⟨w.heap.size + 1, i, none⟩ = some (.int .i64 0) := by rw [HO.out.row.cellAt i (by omega)]; exact imem.ics_get HV.out
                          have HON := Lib.hid (HO.out.set i n).1
                          have HBN : Hid (Below w.heap.size w (wr.setCell ⟨w.heap.size + 1, i, none⟩ (.int .i64 n))) := Lib.hid (HB.out.setCell (by simp) _)
                          have HBXN : Hid ((wr.setCell ⟨w.heap.size + 1, i, none⟩ (.int .i64 n)).heap[w.heap.size]? = some (.cells #[.slice (some a) j c] IH' (0, 0))) := Lib.hid (by rw [set_other (by omega)]; exact HBX.out)
                          clear hun HN
                          go_wp2_with (fail)
                          go_roundg (j - i)
                          case rel => exact ⟨i + 1, q', ws.set i n, by go_num, by go_num, by omega, by omega, by omega, HQN, HWN, HON, HBXN, HBN⟩
                          case measure => omega
                · have HWN : Hid (WI bl ws r (i + 1)) := Lib.hid (HW.out.pass fun k hk hp hw => by
                    rw [HV.out] at hw
                    exact absurd (Option.some.inj hw) hv0)
                  have hvp : 0 < v := by rcases hvb with h | h <;> omega
                  clear hvb
                  go_wp2_with (fail)
                  go_roundg (j - i)
                  case rel => exact ⟨i + 1, q, ws, by go_num, rfl, by omega, by omega, by omega, HQ, HWN, HO, HBX, HB⟩
                  case measure => omega
            · obtain rfl : i = j := by omega
              have HWN : Hid (WI bl ws (r + 1) 0) := Lib.hid (by have h := HW.out; rw [← HL.out] at h; exact h.next)
              go_wp2_with (fail)
              go_roundg (201 - r)
              case rel => exact ⟨r + 1, q, ws, by go_num, rfl, by omega, by omega, by omega, HQ, HWN, HO, HBX, HB⟩
              case measure => omega
        · have hd : 200 < r ∨ q = 0 := by omega
          have HDN := Lib.hid (HW.out.done (fun k hk hp => (HFR.out k hk (by omega)).2) (by rcases hd with h | h; exact .inl h; exact .inr (by rw [← HQ.out]; exact h)))
          rw [← HQ.out] at HDN
          rcases hd with hd | hd
          · go_wp2_with (fail)
            go_ret
            exact ⟨_, rfl, by have h := HDN.out; simpa using h, HB.out⟩
          · subst hd
            by_cases hr2 : r ≤ 200
            · go_wp2_with (fail)
              go_ret
              exact ⟨_, rfl, by have h := HDN.out; simpa using h, HB.out⟩
            · go_wp2_with (fail)
              go_ret
              exact ⟨_, rfl, by have h := HDN.out; simpa using h, HB.out⟩

end Go.Proofs.YtbgffmiffmmohaaGreatDoor.tree

