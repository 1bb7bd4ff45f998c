/-
  Lex of the model.
  Conditions: the text has at most 2^40 bytes.
-/
import Derived.Test.YtakdbfifbkngnaaGreatDoorLaSLmT
import Derived.Test.YtakdbfifbkngnaaGreatDoorLaSLxF
namespace Go.Proofs.YtakdbfifbkngnaaGreatDoor.lex
open Go.ChangeShapes Go.WideShapes Go.ChangeAt Go.RowKit mem
set_option linter.unusedVariables false

theorem TRow.snoc {w : World} {lo : Nat} {v : Value} {out : List Tk} {k n a : Int} {t : ByteArray} (h : w.ownsRow lo IT 4 v (out.length + 1) (tcs out ++ [.int .i64 k, .int .i64 n, .string t, .int .i64 a])) : TRow w lo v (out ++ [⟨k, n, t, a⟩]) := by
  rw [tcs_snoc] at h
  unfold TRow
  rw [List.length_append]
  exact h
theorem upto_s {s : ByteArray} {q : Nat} (p : List UInt8) (h : q < s.size) (hp : p.isPrefixOf (s.data.toList.drop q) = false) : upto p (s.data.toList.drop q) = upto p (s.data.toList.drop (q + 1)) + 1 := by
  rw [drop_at h] at hp ⊢
  exact upto_no hp
theorem upto_z {s : ByteArray} {q : Nat} (p : List UInt8) (h : q < s.size) (hp : p.isPrefixOf (s.data.toList.drop q) = true) : upto p (s.data.toList.drop q) = 0 := by
  rw [drop_at h] at hp ⊢
  exact upto_yes hp
theorem cmt_s {s : ByteArray} {q : Nat} (h : q < s.size) (h10 : s[q] ≠ 10) (hp : [63, 62].isPrefixOf (s.data.toList.drop q) = false) : cmt (s.data.toList.drop q) = cmt (s.data.toList.drop (q + 1)) + 1 := by
  rw [drop_at h] at hp ⊢
  rw [cmt, hp, show (s[q] == 10) = false by simpa using h10]
  rfl
theorem cmt_z {s : ByteArray} {q : Nat} (h : q < s.size) (h10 : s[q] = 10 ∨ [63, 62].isPrefixOf (s.data.toList.drop q) = true) : cmt (s.data.toList.drop q) = 0 := by
  rw [drop_at h] at h10 ⊢
  rw [cmt]
  rcases h10 with h | h
  · rw [if_pos (by simp [h])]
  · rw [if_pos (by simp [h])]

set_option maxHeartbeats 8000000 in
set_option maxRecDepth 100000 in
theorem lex_s (s : ByteArray) (hs : s.size ≤ 1099511627776) (w : World) : Calls Tryz.prog 23 #[.string s] w (LexQ w s) := by
  have hlen : s.data.toList.length = s.size := lead.size_eq s
  by_cases hbig : 4000 < s.size
  · have hb' : (4000 : Int) < (s.size : Int) := by omega
    go_enter Tryz.func23, Tryz.ntmps23
    go_wp2
    go_ret3
    exact ⟨_, [], 1, 0, rfl, TRow.made w, b1 _ _, by simp, .inl ⟨by omega, rfl, rfl, rfl⟩⟩
  have hb' : ¬ (4000 : Int) < (s.size : Int) := by omega
  have hs4 : s.size ≤ 4000 := by omega
  obtain ⟨L, HL⟩ : ∃ L, Hid (s.data.toList = L) := ⟨_, Lib.hid rfl⟩
  rw [HL.out] at hlen
  have HLE := Lib.hid hlen
  have IS : Hid (∀ (q : Nat) (t : ByteArray) (b : Bool), q ≤ s.size → t.size ≤ 10 → t.data.toList.isPrefixOf (L.drop q) = b → ∀ w, Calls Tryz.prog 57 #[.string s, .int .i64 (q : Int), .string t] w (BoS w b)) := Lib.hid fun q t b hq ht hb w => by
    have := is_s s hs q hq t ht w
    rw [HL.out] at this
    rw [← hb]
    exact this
  obtain ⟨i0, hi, hzz⟩ := it_info
  have HI := Lib.hid hi
  have HZ := Lib.hid hzz
  have HM0 := Lib.hid (TRow.made w)
  have hs9 : (s.size : Int) ≤ 4000 := by omega
  clear hlen hi hzz hs hbig hb'
  go_enter Tryz.func23, Tryz.ntmps23
  go_wp2_with (fail)
  try go_wp2_with (fail)
  go_loopg [5, 6, 7] s.size (fun gk v c x wr => ∃ (out : List Tk) (cb : Bool) (p : Nat), c = .bool cb ∧ x = .int .i64 (p : Int) ∧ gk = s.size - p ∧ p ≤ s.size + 3 ∧ Hid (TRow wr w.heap.size v out) ∧ Hid (Sofar L cb p out) ∧ Hid (Below w.heap.size w wr))
  case atStart => exact ⟨[], false, 0, rfl, rfl, by omega, by omega, HM0, Lib.hid (Sofar.start L), Lib.hid (b1 _ _)⟩
  case round =>
    obtain ⟨out, cb, p, rfl, rfl, hgk, hps, HR, HSO, HB⟩ := hrel
    have hol := HSO.out.1
    by_cases hlt : p < s.size
    · have hp9 : (p : Int) ≤ 4000 := by omega
      cases cb with
      | false =>
        obtain ⟨kk, hkk⟩ : ∃ kk, upto [60, 63] (L.drop p) = kk := ⟨_, rfl⟩
        have hkl := upto_le [60, 63] (L.drop p)
        rw [hkk, List.length_drop, HLE.out] at hkl
        have HKK := Lib.hid hkk
        have HIN : Hid (kk ≠ 0 → inlT kk p (L.drop p) = [⟨1, 0, s.extract p (p + kk), p⟩]) := Lib.hid (fun h => by unfold inlT; rw [if_neg h, ext_list, HL.out])
        have HI0 : Hid (kk = 0 → inlT kk p (L.drop p) = []) := Lib.hid (fun h => by unfold inlT; rw [if_pos h])
        clear hkk
        go_wp2_with (fail)
        try go_wp2_with (fail)
        go_loopg [8] (s.size - p) (fun gk x wz => ∃ q : Nat, x = .int .i64 (q : Int) ∧ gk + q = s.size ∧ p ≤ q ∧ q ≤ s.size ∧ Hid (p + kk = q + upto [60, 63] (L.drop q)) ∧ wr = wz)
        case atStart => exact ⟨p, rfl, by omega, by omega, by omega, Lib.hid (by rw [HKK.out]), rfl⟩
        case round =>
          obtain ⟨q, rfl, hgq, hpq, hqs, HQ, rfl⟩ := hrel
          by_cases hql : q < s.size
          · obtain ⟨b5, HQ5⟩ : ∃ b, Hid ([60, 63].isPrefixOf (L.drop q) = b) := ⟨_, Lib.hid rfl⟩
            cases b5 with
            | false =>
              have HQn : Hid (p + kk = q + 1 + upto [60, 63] (L.drop (q + 1))) := Lib.hid (by
                have h1 := HQ.out
                rw [← HL.out] at h1 ⊢
                rw [upto_s [60, 63] hql (by rw [HL.out]; exact HQ5.out)] at h1
                omega)
              go_wp2_with (first | (go_at_call 57; refine (IS.out _ _ _ (by omega) (by decide) (by first | exact HQ5.out) _).mono ?_; rintro e wz ⟨rfl, rfl⟩))
              go_roundg (s.size - (q + 1))
              case rel => exact ⟨q + 1, by go_num, by omega, by omega, by omega, HQn, rfl⟩
              case measure => omega
            | true =>
              have HPE : Hid (p + kk = q) := Lib.hid (by have h1 := HQ.out; rw [← HL.out, upto_z [60, 63] hql (by rw [HL.out]; exact HQ5.out)] at h1; omega)
              have hq2 := pre_len HQ5.out
              rw [List.length_drop, HLE.out] at hq2
              simp only [List.length_cons, List.length_nil] at hq2
              rw [HPE.out] at HIN
              obtain ⟨b6, HQ6⟩ : ∃ b, Hid ([60, 63, 61].isPrefixOf (L.drop q) = b) := ⟨_, Lib.hid rfl⟩
              cases b6 with
              | false =>
                by_cases hmore : p < q
                · skip
                  have hqp : p < q := by omega
                  have hqi : (p : Int) < (q : Int) := by omega
                  have hst := HSO.out.step (by rw [HLE.out]; exact hlt) (stp_tag HKK.out (by rw [HLE.out]; have := HPE.out; omega) (by rw [HPE.out]; exact HQ6.out)) (by have := (inlT_len kk p (L.drop p)).2; omega)
                  have HST := Lib.hid hst
                  clear hst
                  go_wp2_with (first
                    | (go_at_call 57; refine (IS.out _ _ _ (by omega) (by decide) (by first | exact HQ5.out | exact HQ6.out) _).mono ?_; rintro e wz ⟨rfl, rfl⟩)
                    | (at_builtin; refine wpList_append_own _ rfl _ _ 25 rfl w.heap.size IT i0 _ 4 40 Tryz.underlying25 HI.out HZ.out.1 HZ.out.2.1 HZ.out.2.2 rfl (by decide) _ _ _ rfl (TRow.below HR.out (b1 wr _)) ⟨wr.heap.size, 0, none⟩ 1 1 [.int .i64 1, .int .i64 0, .string (s.extract p q), .int .i64 (p : Int)] rfl rfl (four_new wr _ _ _ _ _) (four_one _ _ _ _) (by unfold maxLen; omega) (by omega) (by have := HB.out.size; simp; omega) ?_; intro v5 w5 hown hgrow hnil; have HR5 := Lib.hid (TRow.snoc hown); have HB5 := Lib.hid (grown_below' (HB.out.alloc HB.out.size _) hgrow (by have := HB.out.size; simp; omega) (fun b hb => (HR.out.own b hb).1)); clear hown hgrow hnil))
                  try go_wp2_with (first
                    | (go_at_call 57; refine (IS.out _ _ _ (by omega) (by decide) (by first | exact HQ5.out | exact HQ6.out) _).mono ?_; rintro e wz ⟨rfl, rfl⟩)
                    | (at_builtin; refine wpList_append_own _ rfl _ _ 25 rfl w.heap.size IT i0 _ 4 40 Tryz.underlying25 HI.out HZ.out.1 HZ.out.2.1 HZ.out.2.2 rfl (by decide) _ _ _ rfl (TRow.below HR.out (b1 wr _)) ⟨wr.heap.size, 0, none⟩ 1 1 [.int .i64 1, .int .i64 0, .string (s.extract p q), .int .i64 (p : Int)] rfl rfl (four_new wr _ _ _ _ _) (four_one _ _ _ _) (by unfold maxLen; omega) (by omega) (by have := HB.out.size; simp; omega) ?_; intro v5 w5 hown hgrow hnil; have HR5 := Lib.hid (TRow.snoc hown); have HB5 := Lib.hid (grown_below' (HB.out.alloc HB.out.size _) hgrow (by have := HB.out.size; simp; omega) (fun b hb => (HR.out.own b hb).1)); clear hown hgrow hnil))
                  go_roundg (s.size - (q + 2))
                  case rel => exact ⟨(out ++ [⟨1, 0, s.extract p q, p⟩]), true, q + 2, rfl, by go_num, by omega, by omega, HR5, Lib.hid (by have h := HST.out; rw [HIN.out (by have := HPE.out; omega)] at h; rw [HPE.out] at h; exact h), HB5⟩
                  case measure => omega
                · skip
                  have hqi : ¬ (p : Int) < (q : Int) := by omega
                  have hst := HSO.out.step (by rw [HLE.out]; exact hlt) (stp_tag HKK.out (by rw [HLE.out]; have := HPE.out; omega) (by rw [HPE.out]; exact HQ6.out)) (by have := (inlT_len kk p (L.drop p)).2; omega)
                  have HST := Lib.hid hst
                  clear hst
                  go_wp2_with (first
                    | (go_at_call 57; refine (IS.out _ _ _ (by omega) (by decide) (by first | exact HQ5.out | exact HQ6.out) _).mono ?_; rintro e wz ⟨rfl, rfl⟩))
                  try go_wp2_with (first
                    | (go_at_call 57; refine (IS.out _ _ _ (by omega) (by decide) (by first | exact HQ5.out | exact HQ6.out) _).mono ?_; rintro e wz ⟨rfl, rfl⟩))
                  go_roundg (s.size - (q + 2))
                  case rel => exact ⟨out, true, q + 2, rfl, by go_num, by omega, by omega, HR, Lib.hid (by have h := HST.out; rw [HI0.out (by have := HPE.out; omega)] at h; rw [List.append_nil] at h; rw [HPE.out] at h; exact h), HB⟩
                  case measure => omega
              | true =>
                have hq3 := pre_len HQ6.out
                rw [List.length_drop, HLE.out] at hq3
                simp only [List.length_cons, List.length_nil] at hq3
                by_cases hmore : p < q
                · skip
                  have hqp : p < q := by omega
                  have hqi : (p : Int) < (q : Int) := by omega
                  have hst := HSO.out.step (by rw [HLE.out]; exact hlt) (stp_echo HKK.out (by rw [HLE.out]; have := HPE.out; omega) (by rw [HPE.out]; exact HQ6.out)) (by rw [List.length_append]; have := (inlT_len kk p (L.drop p)).2; simp; omega)
                  have HST := Lib.hid hst
                  clear hst
                  go_wp2_with (first
                    | (go_at_call 57; refine (IS.out _ _ _ (by omega) (by decide) (by first | exact HQ5.out | exact HQ6.out) _).mono ?_; rintro e wz ⟨rfl, rfl⟩)
                    | (at_builtin; refine wpList_append_own _ rfl _ _ 25 rfl w.heap.size IT i0 _ 4 40 Tryz.underlying25 HI.out HZ.out.1 HZ.out.2.1 HZ.out.2.2 rfl (by decide) _ _ _ rfl (TRow.below HR.out (b1 wr _)) ⟨wr.heap.size, 0, none⟩ 1 1 [.int .i64 1, .int .i64 0, .string (s.extract p q), .int .i64 (p : Int)] rfl rfl (four_new wr _ _ _ _ _) (four_one _ _ _ _) (by unfold maxLen; omega) (by omega) (by have := HB.out.size; simp; omega) ?_; intro v5 w5 hown hgrow hnil; have HR5 := Lib.hid (TRow.snoc hown); have HB5 := Lib.hid (grown_below' (HB.out.alloc HB.out.size _) hgrow (by have := HB.out.size; simp; omega) (fun b hb => (HR.out.own b hb).1)); clear hown hgrow hnil)
                    | (at_builtin; refine wpList_append_own _ rfl _ _ 25 rfl w.heap.size IT i0 _ 4 40 Tryz.underlying25 HI.out HZ.out.1 HZ.out.2.1 HZ.out.2.2 rfl (by decide) _ _ _ rfl (TRow.below HR5.out (b1 w5 _)) ⟨w5.heap.size, 0, none⟩ 1 1 [.int .i64 3, .int .i64 0, .string ⟨#[101, 99, 104, 111]⟩, .int .i64 (q : Int)] rfl rfl (four_new w5 _ _ _ _ _) (four_one _ _ _ _) (by unfold maxLen; (simp; omega)) (by (simp; omega)) (by have := HB5.out.size; simp; omega) ?_; intro v6 w6 hown hgrow hnil; have HR6 := Lib.hid (TRow.snoc hown); have HB6 := Lib.hid (grown_below' (HB5.out.alloc HB5.out.size _) hgrow (by have := HB5.out.size; simp; omega) (fun b hb => (HR5.out.own b hb).1)); clear hown hgrow hnil))
                  try go_wp2_with (first
                    | (go_at_call 57; refine (IS.out _ _ _ (by omega) (by decide) (by first | exact HQ5.out | exact HQ6.out) _).mono ?_; rintro e wz ⟨rfl, rfl⟩)
                    | (at_builtin; refine wpList_append_own _ rfl _ _ 25 rfl w.heap.size IT i0 _ 4 40 Tryz.underlying25 HI.out HZ.out.1 HZ.out.2.1 HZ.out.2.2 rfl (by decide) _ _ _ rfl (TRow.below HR.out (b1 wr _)) ⟨wr.heap.size, 0, none⟩ 1 1 [.int .i64 1, .int .i64 0, .string (s.extract p q), .int .i64 (p : Int)] rfl rfl (four_new wr _ _ _ _ _) (four_one _ _ _ _) (by unfold maxLen; omega) (by omega) (by have := HB.out.size; simp; omega) ?_; intro v5 w5 hown hgrow hnil; have HR5 := Lib.hid (TRow.snoc hown); have HB5 := Lib.hid (grown_below' (HB.out.alloc HB.out.size _) hgrow (by have := HB.out.size; simp; omega) (fun b hb => (HR.out.own b hb).1)); clear hown hgrow hnil)
                    | (at_builtin; refine wpList_append_own _ rfl _ _ 25 rfl w.heap.size IT i0 _ 4 40 Tryz.underlying25 HI.out HZ.out.1 HZ.out.2.1 HZ.out.2.2 rfl (by decide) _ _ _ rfl (TRow.below HR5.out (b1 w5 _)) ⟨w5.heap.size, 0, none⟩ 1 1 [.int .i64 3, .int .i64 0, .string ⟨#[101, 99, 104, 111]⟩, .int .i64 (q : Int)] rfl rfl (four_new w5 _ _ _ _ _) (four_one _ _ _ _) (by unfold maxLen; (simp; omega)) (by (simp; omega)) (by have := HB5.out.size; simp; omega) ?_; intro v6 w6 hown hgrow hnil; have HR6 := Lib.hid (TRow.snoc hown); have HB6 := Lib.hid (grown_below' (HB5.out.alloc HB5.out.size _) hgrow (by have := HB5.out.size; simp; omega) (fun b hb => (HR5.out.own b hb).1)); clear hown hgrow hnil))
                  go_roundg (s.size - (q + 3))
                  case rel => exact ⟨((out ++ [⟨1, 0, s.extract p q, p⟩]) ++ [⟨3, 0, tx [101, 99, 104, 111], q⟩]), true, q + 3, rfl, by go_num, by omega, by omega, HR6, Lib.hid (by have h := HST.out; rw [HIN.out (by have := HPE.out; omega)] at h; rw [← List.append_assoc] at h; rw [HPE.out] at h; exact h), HB6⟩
                  case measure => omega
                · skip
                  have hqi : ¬ (p : Int) < (q : Int) := by omega
                  have hst := HSO.out.step (by rw [HLE.out]; exact hlt) (stp_echo HKK.out (by rw [HLE.out]; have := HPE.out; omega) (by rw [HPE.out]; exact HQ6.out)) (by rw [List.length_append]; have := (inlT_len kk p (L.drop p)).2; simp; omega)
                  have HST := Lib.hid hst
                  clear hst
                  go_wp2_with (first
                    | (go_at_call 57; refine (IS.out _ _ _ (by omega) (by decide) (by first | exact HQ5.out | exact HQ6.out) _).mono ?_; rintro e wz ⟨rfl, rfl⟩)
                    | (at_builtin; refine wpList_append_own _ rfl _ _ 25 rfl w.heap.size IT i0 _ 4 40 Tryz.underlying25 HI.out HZ.out.1 HZ.out.2.1 HZ.out.2.2 rfl (by decide) _ _ _ rfl (TRow.below HR.out (b1 wr _)) ⟨wr.heap.size, 0, none⟩ 1 1 [.int .i64 3, .int .i64 0, .string ⟨#[101, 99, 104, 111]⟩, .int .i64 (q : Int)] rfl rfl (four_new wr _ _ _ _ _) (four_one _ _ _ _) (by unfold maxLen; omega) (by omega) (by have := HB.out.size; simp; omega) ?_; intro v6 w6 hown hgrow hnil; have HR6 := Lib.hid (TRow.snoc hown); have HB6 := Lib.hid (grown_below' (HB.out.alloc HB.out.size _) hgrow (by have := HB.out.size; simp; omega) (fun b hb => (HR.out.own b hb).1)); clear hown hgrow hnil))
                  try go_wp2_with (first
                    | (go_at_call 57; refine (IS.out _ _ _ (by omega) (by decide) (by first | exact HQ5.out | exact HQ6.out) _).mono ?_; rintro e wz ⟨rfl, rfl⟩)
                    | (at_builtin; refine wpList_append_own _ rfl _ _ 25 rfl w.heap.size IT i0 _ 4 40 Tryz.underlying25 HI.out HZ.out.1 HZ.out.2.1 HZ.out.2.2 rfl (by decide) _ _ _ rfl (TRow.below HR.out (b1 wr _)) ⟨wr.heap.size, 0, none⟩ 1 1 [.int .i64 3, .int .i64 0, .string ⟨#[101, 99, 104, 111]⟩, .int .i64 (q : Int)] rfl rfl (four_new wr _ _ _ _ _) (four_one _ _ _ _) (by unfold maxLen; omega) (by omega) (by have := HB.out.size; simp; omega) ?_; intro v6 w6 hown hgrow hnil; have HR6 := Lib.hid (TRow.snoc hown); have HB6 := Lib.hid (grown_below' (HB.out.alloc HB.out.size _) hgrow (by have := HB.out.size; simp; omega) (fun b hb => (HR.out.own b hb).1)); clear hown hgrow hnil))
                  go_roundg (s.size - (q + 3))
                  case rel => exact ⟨(out ++ [⟨3, 0, tx [101, 99, 104, 111], q⟩]), true, q + 3, rfl, by go_num, by omega, by omega, HR6, Lib.hid (by have h := HST.out; rw [HI0.out (by have := HPE.out; omega)] at h; rw [List.nil_append] at h; rw [HPE.out] at h; exact h), HB6⟩
                  case measure => omega
          · have HPE : Hid (p + kk = q) := Lib.hid (by have h1 := HQ.out; rw [← HL.out, lead.drop_end (by omega)] at h1; simpa [upto] using h1)
            rw [HPE.out] at HIN
            have hqp : p < q := by omega
            have hqi : (p : Int) < (q : Int) := by omega
            have hst := HSO.out.step (by rw [HLE.out]; exact hlt) (stp_end HKK.out (by rw [HLE.out]; have := HPE.out; omega)) (by have := (inlT_len kk p (L.drop p)).2; omega)
            have HST := Lib.hid hst
            clear hst
            go_wp2_with (first
              | (go_at_call 57; refine (IS.out _ _ _ (by omega) (by decide) (by first | exact HQ5.out | exact HQ6.out) _).mono ?_; rintro e wz ⟨rfl, rfl⟩)
              | (at_builtin; refine wpList_append_own _ rfl _ _ 25 rfl w.heap.size IT i0 _ 4 40 Tryz.underlying25 HI.out HZ.out.1 HZ.out.2.1 HZ.out.2.2 rfl (by decide) _ _ _ rfl (TRow.below HR.out (b1 wr _)) ⟨wr.heap.size, 0, none⟩ 1 1 [.int .i64 1, .int .i64 0, .string (s.extract p q), .int .i64 (p : Int)] rfl rfl (four_new wr _ _ _ _ _) (four_one _ _ _ _) (by unfold maxLen; omega) (by omega) (by have := HB.out.size; simp; omega) ?_; intro v5 w5 hown hgrow hnil; have HR5 := Lib.hid (TRow.snoc hown); have HB5 := Lib.hid (grown_below' (HB.out.alloc HB.out.size _) hgrow (by have := HB.out.size; simp; omega) (fun b hb => (HR.out.own b hb).1)); clear hown hgrow hnil))
            try go_wp2_with (first
              | (go_at_call 57; refine (IS.out _ _ _ (by omega) (by decide) (by first | exact HQ5.out | exact HQ6.out) _).mono ?_; rintro e wz ⟨rfl, rfl⟩)
              | (at_builtin; refine wpList_append_own _ rfl _ _ 25 rfl w.heap.size IT i0 _ 4 40 Tryz.underlying25 HI.out HZ.out.1 HZ.out.2.1 HZ.out.2.2 rfl (by decide) _ _ _ rfl (TRow.below HR.out (b1 wr _)) ⟨wr.heap.size, 0, none⟩ 1 1 [.int .i64 1, .int .i64 0, .string (s.extract p q), .int .i64 (p : Int)] rfl rfl (four_new wr _ _ _ _ _) (four_one _ _ _ _) (by unfold maxLen; omega) (by omega) (by have := HB.out.size; simp; omega) ?_; intro v5 w5 hown hgrow hnil; have HR5 := Lib.hid (TRow.snoc hown); have HB5 := Lib.hid (grown_below' (HB.out.alloc HB.out.size _) hgrow (by have := HB.out.size; simp; omega) (fun b hb => (HR.out.own b hb).1)); clear hown hgrow hnil))
            go_roundg (s.size - (q + 2))
            case rel => exact ⟨(out ++ [⟨1, 0, s.extract p q, p⟩]), false, q + 2, rfl, by go_num, by omega, by omega, HR5, Lib.hid (by have h := HST.out; rw [HIN.out (by have := HPE.out; omega)] at h; rw [HPE.out] at h; exact h), HB5⟩
            case measure => omega
      | true =>
        obtain ⟨b1', HQ1⟩ : ∃ b, Hid ([63, 62].isPrefixOf (L.drop p) = b) := ⟨_, Lib.hid rfl⟩
        cases b1' with
        | true =>
          have hq2 := pre_len HQ1.out
          rw [List.length_drop, HLE.out] at hq2
          simp only [List.length_cons, List.length_nil] at hq2
          obtain ⟨b3, HQ3⟩ : ∃ b, Hid ([10].isPrefixOf (L.drop (p + 2)) = b) := ⟨_, Lib.hid rfl⟩
          obtain ⟨q2, hqe⟩ : ∃ q, q = p + 2 := ⟨_, rfl⟩
          have hqi : (p : Int) + 2 = (q2 : Int) := by omega
          have hq2s : q2 ≤ s.size := by omega
          rw [← hqe] at HQ3
          have HST := Lib.hid (HSO.out.step (by rw [HLE.out]; exact hlt) (stp_close HQ1.out) (by simp; omega))
          have HQE := Lib.hid hqe
          have hps2 : p ≤ q2 ∧ p + 2 ≤ q2 := by omega
          obtain ⟨hps2, hps3⟩ := hps2
          clear hqe hq2
          cases b3 with
          | false =>
            go_wp2_with (first
              | (go_at_call 57; refine (IS.out _ _ _ (by omega) (by decide) (by first | exact HQ1.out | exact HQ2.out | exact HQ3.out | exact HQ4.out) _).mono ?_; rintro e wz ⟨rfl, rfl⟩)
              | (at_builtin; refine wpList_append_own _ rfl _ _ 25 rfl w.heap.size IT i0 _ 4 40 Tryz.underlying25 HI.out HZ.out.1 HZ.out.2.1 HZ.out.2.2 rfl (by decide) _ _ _ rfl (TRow.below HR.out (b1 wr _)) ⟨wr.heap.size, 0, none⟩ 1 1 [.int .i64 6, .int .i64 0, .string ⟨#[59]⟩, .int .i64 (p : Int)] rfl rfl (four_new wr _ _ _ _ _) (four_one _ _ _ _) (by unfold maxLen; omega) (by omega) (by have := HB.out.size; simp; omega) ?_; intro v5 w5 hown hgrow hnil; have HR5 := Lib.hid (TRow.snoc hown); have HB5 := Lib.hid (grown_below' (HB.out.alloc HB.out.size _) hgrow (by have := HB.out.size; simp; omega) (fun b hb => (HR.out.own b hb).1)); clear hown hgrow hnil))
            try go_wp2_with (first | (go_at_call 57; refine (IS.out _ _ _ (by omega) (by decide) (by first | exact HQ1.out | exact HQ2.out | exact HQ3.out | exact HQ4.out) _).mono ?_; rintro e wz ⟨rfl, rfl⟩))
            go_roundg (s.size - q2)
            case rel => exact ⟨out ++ [⟨6, 0, tx [59], p⟩], false, q2, rfl, by go_num, by omega, by omega, HR5, Lib.hid (by have := HST.out; rw [← HQE.out, HQ3.out] at this; simpa using this), HB5⟩
            case measure => omega
          | true =>
            have hq3 : q2 + 1 ≤ s.size := by have h3 := pre_len HQ3.out; rw [List.length_drop, HLE.out] at h3; simp only [List.length_cons, List.length_nil] at h3; omega
            go_wp2_with (first
              | (go_at_call 57; refine (IS.out _ _ _ (by omega) (by decide) (by first | exact HQ1.out | exact HQ2.out | exact HQ3.out | exact HQ4.out) _).mono ?_; rintro e wz ⟨rfl, rfl⟩)
              | (at_builtin; refine wpList_append_own _ rfl _ _ 25 rfl w.heap.size IT i0 _ 4 40 Tryz.underlying25 HI.out HZ.out.1 HZ.out.2.1 HZ.out.2.2 rfl (by decide) _ _ _ rfl (TRow.below HR.out (b1 wr _)) ⟨wr.heap.size, 0, none⟩ 1 1 [.int .i64 6, .int .i64 0, .string ⟨#[59]⟩, .int .i64 (p : Int)] rfl rfl (four_new wr _ _ _ _ _) (four_one _ _ _ _) (by unfold maxLen; omega) (by omega) (by have := HB.out.size; simp; omega) ?_; intro v5 w5 hown hgrow hnil; have HR5 := Lib.hid (TRow.snoc hown); have HB5 := Lib.hid (grown_below' (HB.out.alloc HB.out.size _) hgrow (by have := HB.out.size; simp; omega) (fun b hb => (HR.out.own b hb).1)); clear hown hgrow hnil))
            try go_wp2_with (first | (go_at_call 57; refine (IS.out _ _ _ (by omega) (by decide) (by first | exact HQ1.out | exact HQ2.out | exact HQ3.out | exact HQ4.out) _).mono ?_; rintro e wz ⟨rfl, rfl⟩))
            go_roundg (s.size - (q2 + 1))
            case rel => exact ⟨out ++ [⟨6, 0, tx [59], p⟩], false, q2 + 1, rfl, by go_num, by omega, by omega, HR5, Lib.hid (by have := HST.out; rw [← HQE.out, HQ3.out] at this; simpa using this), HB5⟩
            case measure => omega
        | false =>
          obtain ⟨b2', HQ2⟩ : ∃ b, Hid ([47, 47].isPrefixOf (L.drop p) = b) := ⟨_, Lib.hid rfl⟩
          cases b2' with
          | true =>
            have hcp := cmt_pos HQ2.out
            have hcl := cmt_le (L.drop p)
            rw [List.length_drop, HLE.out] at hcl
            have hst := HSO.out.step (by rw [HLE.out]; exact hlt) (stp_cmt HQ1.out HQ2.out) (by simp)
            rw [List.append_nil] at hst
            obtain ⟨m, hm⟩ : ∃ m, cmt (L.drop p) = m := ⟨_, rfl⟩
            rw [hm] at hst hcp hcl
            have HST := Lib.hid hst
            have HMm := Lib.hid hm
            clear hst hm
            go_wp2_with (first
              | (go_at_call 57; refine (IS.out _ _ _ (by omega) (by decide) (by first | exact HQ1.out | exact HQ2.out | exact HQ3.out | exact HQ4.out) _).mono ?_; rintro e wz ⟨rfl, rfl⟩))
            try go_wp2_with (fail)
            go_loopg [7] (s.size - p) (fun gk x wz => ∃ q : Nat, x = .int .i64 (q : Int) ∧ gk + q = s.size ∧ p ≤ q ∧ q ≤ s.size ∧ Hid (p + m = q + cmt (L.drop q)) ∧ wr = wz)
            case atStart => exact ⟨p, rfl, by omega, by omega, by omega, Lib.hid (by rw [HMm.out]), rfl⟩
            case round =>
              obtain ⟨q, rfl, hgq, hpq, hqs, HQ, rfl⟩ := hrel
              by_cases hql : q < s.size
              · have hb0 : (0 : Int) ≤ (s[q].toNat : Int) := by omega
                have hb9 : (s[q].toNat : Int) ≤ 255 := by have := s[q].toNat_lt; omega
                obtain ⟨b4, HQ4⟩ : ∃ b, Hid ([63, 62].isPrefixOf (L.drop q) = b) := ⟨_, Lib.hid rfl⟩
                by_cases h10 : s[q] = 10
                · have hn : (s[q].toNat : Int) = 10 := by rw [h10]; rfl
                  have hpe : p + m = q := by have h1 := HQ.out; rw [← HL.out, cmt_z hql (.inl h10)] at h1; omega
                  have HPE := Lib.hid hpe
                  clear h10 hpe
                  go_wp2_with (first | (go_at_call 57; refine (IS.out _ _ _ (by omega) (by decide) (by first | exact HQ1.out | exact HQ2.out | exact HQ3.out | exact HQ4.out) _).mono ?_; rintro e wz ⟨rfl, rfl⟩))
                  go_roundg (s.size - (p + m))
                  case rel => exact ⟨out, true, p + m, rfl, by rw [HPE.out], by have := HPE.out; omega, by have := HPE.out; omega, HR, HST, HB⟩
                  case measure => omega
                · have hn : ((s[q].toNat : Int) == 10) = false := beq_eq_false_iff_ne.2 fun e => h10 ((seq.byte_eq (n := 10) (by omega)).2 (by omega))
                  have hn' : ¬ (s[q].toNat : Int) = 10 := fun e => h10 ((seq.byte_eq (n := 10) (by omega)).2 (by omega))
                  cases b4 with
                  | true =>
                    have hpe : p + m = q := by have h1 := HQ.out; rw [← HL.out, cmt_z hql (.inr (by rw [HL.out]; exact HQ4.out))] at h1; omega
                    have HPE := Lib.hid hpe
                    clear h10 hpe
                    go_wp2_with (first | (go_at_call 57; refine (IS.out _ _ _ (by omega) (by decide) (by first | exact HQ1.out | exact HQ2.out | exact HQ3.out | exact HQ4.out) _).mono ?_; rintro e wz ⟨rfl, rfl⟩))
                    go_roundg (s.size - (p + m))
                    case rel => exact ⟨out, true, p + m, rfl, by rw [HPE.out], by have := HPE.out; omega, by have := HPE.out; omega, HR, HST, HB⟩
                    case measure => omega
                  | false =>
                    have HQn : Hid (p + m = q + 1 + cmt (L.drop (q + 1))) := Lib.hid (by
                      have h1 := HQ.out
                      rw [← HL.out] at h1 ⊢
                      rw [cmt_s hql h10 (by rw [HL.out]; exact HQ4.out)] at h1
                      omega)
                    clear h10
                    go_wp2_with (first | (go_at_call 57; refine (IS.out _ _ _ (by omega) (by decide) (by first | exact HQ1.out | exact HQ2.out | exact HQ3.out | exact HQ4.out) _).mono ?_; rintro e wz ⟨rfl, rfl⟩))
                    go_roundg (s.size - (q + 1))
                    case rel => exact ⟨q + 1, by go_num, by omega, by omega, by omega, HQn, rfl⟩
                    case measure => omega
              · have hpe : p + m = q := by have h1 := HQ.out; rw [← HL.out, lead.drop_end (by omega)] at h1; simpa [cmt] using h1
                have HPE := Lib.hid hpe
                clear hpe
                go_wp2_with (fail)
                go_roundg (s.size - (p + m))
                case rel => exact ⟨out, true, p + m, rfl, by rw [HPE.out], by have := HPE.out; omega, by have := HPE.out; omega, HR, HST, HB⟩
                case measure => omega
          | false =>
            have hb0 : (0 : Int) ≤ (s[p].toNat : Int) := by omega
            have hb9 : (s[p].toNat : Int) ≤ 255 := by have := s[p].toNat_lt; omega
            have hd : L.drop p = s[p] :: L.drop (p + 1) := by rw [← HL.out]; exact drop_at hlt
            by_cases hv : s[p] = 32
            · have hn : (s[p].toNat : Int) = 32 := by rw [hv]; rfl
              have HST := Lib.hid (HSO.out.step (by rw [HLE.out]; exact hlt) (stp_space HQ1.out HQ2.out (by rw [hd, spc, if_pos (spB_iff.2 (by simp [hv]))]; omega)) (by simp))
              clear hv hd
              go_wp2_with (first
                | (go_at_call 57; refine (IS.out _ _ _ (by omega) (by decide) (by first | exact HQ1.out | exact HQ2.out | exact HQ3.out | exact HQ4.out) _).mono ?_; rintro e wz ⟨rfl, rfl⟩))
              try go_wp2_with (fail)
              go_roundg (s.size - (p + 1))
              case rel => exact ⟨out, true, p + 1, rfl, by go_num, by omega, by omega, HR, Lib.hid (by have := HST.out; rwa [List.append_nil] at this), HB⟩
              case measure => omega
            have m32 : ((s[p].toNat : Int) == 32) = false := beq_eq_false_iff_ne.2 fun e => hv ((seq.byte_eq (n := 32) (by omega)).2 (by omega))
            have n32 := hv
            clear hv
            by_cases hv : s[p] = 9
            · have hn : (s[p].toNat : Int) = 9 := by rw [hv]; rfl
              have HST := Lib.hid (HSO.out.step (by rw [HLE.out]; exact hlt) (stp_space HQ1.out HQ2.out (by rw [hd, spc, if_pos (spB_iff.2 (by simp [hv]))]; omega)) (by simp))
              clear hv hd
              go_wp2_with (first
                | (go_at_call 57; refine (IS.out _ _ _ (by omega) (by decide) (by first | exact HQ1.out | exact HQ2.out | exact HQ3.out | exact HQ4.out) _).mono ?_; rintro e wz ⟨rfl, rfl⟩))
              try go_wp2_with (fail)
              go_roundg (s.size - (p + 1))
              case rel => exact ⟨out, true, p + 1, rfl, by go_num, by omega, by omega, HR, Lib.hid (by have := HST.out; rwa [List.append_nil] at this), HB⟩
              case measure => omega
            have m9 : ((s[p].toNat : Int) == 9) = false := beq_eq_false_iff_ne.2 fun e => hv ((seq.byte_eq (n := 9) (by omega)).2 (by omega))
            have n9 := hv
            clear hv
            by_cases hv : s[p] = 10
            · have hn : (s[p].toNat : Int) = 10 := by rw [hv]; rfl
              have HST := Lib.hid (HSO.out.step (by rw [HLE.out]; exact hlt) (stp_space HQ1.out HQ2.out (by rw [hd, spc, if_pos (spB_iff.2 (by simp [hv]))]; omega)) (by simp))
              clear hv hd
              go_wp2_with (first
                | (go_at_call 57; refine (IS.out _ _ _ (by omega) (by decide) (by first | exact HQ1.out | exact HQ2.out | exact HQ3.out | exact HQ4.out) _).mono ?_; rintro e wz ⟨rfl, rfl⟩))
              try go_wp2_with (fail)
              go_roundg (s.size - (p + 1))
              case rel => exact ⟨out, true, p + 1, rfl, by go_num, by omega, by omega, HR, Lib.hid (by have := HST.out; rwa [List.append_nil] at this), HB⟩
              case measure => omega
            have m10 : ((s[p].toNat : Int) == 10) = false := beq_eq_false_iff_ne.2 fun e => hv ((seq.byte_eq (n := 10) (by omega)).2 (by omega))
            have n10 := hv
            clear hv
            by_cases hv : s[p] = 13
            · have hn : (s[p].toNat : Int) = 13 := by rw [hv]; rfl
              have HST := Lib.hid (HSO.out.step (by rw [HLE.out]; exact hlt) (stp_space HQ1.out HQ2.out (by rw [hd, spc, if_pos (spB_iff.2 (by simp [hv]))]; omega)) (by simp))
              clear hv hd
              go_wp2_with (first
                | (go_at_call 57; refine (IS.out _ _ _ (by omega) (by decide) (by first | exact HQ1.out | exact HQ2.out | exact HQ3.out | exact HQ4.out) _).mono ?_; rintro e wz ⟨rfl, rfl⟩))
              try go_wp2_with (fail)
              go_roundg (s.size - (p + 1))
              case rel => exact ⟨out, true, p + 1, rfl, by go_num, by omega, by omega, HR, Lib.hid (by have := HST.out; rwa [List.append_nil] at this), HB⟩
              case measure => omega
            have m13 : ((s[p].toNat : Int) == 13) = false := beq_eq_false_iff_ne.2 fun e => hv ((seq.byte_eq (n := 13) (by omega)).2 (by omega))
            have hsp : spc (L.drop p) = 0 := by
              rw [hd, spc, if_neg]
              rw [spB_iff]
              rintro (h | h | h | h)
              · exact n32 h
              · exact n9 h
              · exact n10 h
              · exact hv h
            have TK := token_s s (by omega) p hlt
            rw [HL.out] at TK
            clear n32 n9 n10 hv hd
            cases htr : tokR (L.drop p) with
            | bad c =>
              rw [htr] at TK
              have hc := tokR_bad htr
              have HBAD := Lib.hid (HSO.out.fail (by rw [HLE.out]; exact hlt) (stp_bad HQ1.out HQ2.out hsp htr))
              have hc0 : ((c : Int) == 0) = false := beq_eq_false_iff_ne.2 (by omega)
              have HTK := Lib.hid TK
              clear TK htr hsp
              go_wp2_with (first
                | (go_at_call 57; refine (IS.out _ _ _ (by omega) (by decide) (by first | exact HQ1.out | exact HQ2.out | exact HQ3.out | exact HQ4.out) _).mono ?_; rintro e wz ⟨rfl, rfl⟩)
                | (go_at_call 58; refine (HTK.out _).mono ?_; rintro e w6 ⟨⟨kk, nn, tt, rfl⟩, hb⟩; have HB6 := Lib.hid (HB.out.trans (hb.mono HB.out.size)); clear hb))
              try go_wp2_with (fail)
              go_ret3
              refine ⟨_, [], c, p, rfl, ?_, ?_, by simp, .inr ⟨by rw [HL.out, HLE.out]; omega, .inr ⟨by omega, rfl, by rw [HL.out]; exact HBAD.out⟩⟩⟩
              · have h := (TRow.made (w6.alloc (.cells #[.int .i64 kk, .int .i64 nn, .string tt, .int .i64 (p : Int)] IT))).lo (HB6.out.alloc HB6.out.size _).size
                simpa using h
              · first | exact HB6.out.alloc HB6.out.size _ | exact (HB6.out.alloc HB6.out.size _).alloc (HB6.out.alloc HB6.out.size _).size _
            | good kk nn t z =>
              rw [htr] at TK
              have hz := tokR_pos htr
              rw [List.length_drop, HLE.out] at hz
              have hst := HSO.out.step (by rw [HLE.out]; exact hlt) (stp_good HQ1.out HQ2.out hsp htr) (by simp; omega)
              obtain ⟨tt, htt⟩ : ∃ tt, tx t = tt := ⟨_, rfl⟩
              obtain ⟨pz, hpz⟩ : ∃ q, p + z = q := ⟨_, rfl⟩
              rw [htt, hpz] at hst
              have TK2 : ∀ w, Calls Tryz.prog 58 #[.string s, .int .i64 (p : Int)] w fun e w' => e = .returned (.tuple #[.agg #[.int .i64 (kk : Int), .int .i64 nn, .string tt, .int .i64 (p : Int)], .int .i64 (pz : Int), .int .i64 0]) ∧ Below w.heap.size w w' := fun w => by
                have h2 : Calls Tryz.prog 58 #[.string s, .int .i64 (p : Int)] w fun e w' => e = .returned (.tuple #[.agg #[.int .i64 (kk : Int), .int .i64 nn, .string (tx t), .int .i64 (p : Int)], .int .i64 ((p + z : Nat) : Int), .int .i64 0]) ∧ Below w.heap.size w w' := TK w
                rw [htt, hpz] at h2
                exact h2
              have HTK := Lib.hid TK2
              have HST := Lib.hid hst
              have hpz1 : p < pz := by omega
              have hpz2 : pz ≤ s.size := by omega
              clear TK TK2 htr hsp hst htt hpz
              go_wp2_with (first
                | (go_at_call 57; refine (IS.out _ _ _ (by omega) (by decide) (by first | exact HQ1.out | exact HQ2.out | exact HQ3.out | exact HQ4.out) _).mono ?_; rintro e wz ⟨rfl, rfl⟩)
                | (go_at_call 58; refine (HTK.out _).mono ?_; rintro e w6 ⟨rfl, hb⟩; have HB6 := Lib.hid ((HB.out.trans (hb.mono HB.out.size)).alloc (HB.out.trans (hb.mono HB.out.size)).size (.cells #[.int .i64 (kk : Int), .int .i64 nn, .string tt, .int .i64 (p : Int)] IT)); have HR6 := Lib.hid (TRow.below HR.out (bs hb (b1 w6 (.cells #[.int .i64 (kk : Int), .int .i64 nn, .string tt, .int .i64 (p : Int)] IT)))); have HN6 : Hid (∀ j u, [Value.int .i64 (kk : Int), .int .i64 nn, .string tt, .int .i64 (p : Int)][j]? = some u → ((w6.alloc (.cells #[.int .i64 (kk : Int), .int .i64 nn, .string tt, .int .i64 (p : Int)] IT)).alloc (.cells #[.int .i64 (kk : Int), .int .i64 nn, .string tt, .int .i64 (p : Int)] IT)).cell? ((⟨w6.heap.size + 1, 0, none⟩ : Addr).add j) = some u) := Lib.hid (by have h4 := four_new (w6.alloc (.cells #[.int .i64 (kk : Int), .int .i64 nn, .string tt, .int .i64 (p : Int)] IT)) (.int .i64 (kk : Int)) (.int .i64 nn) (.string tt) (.int .i64 (p : Int)) IT; rwa [show (w6.alloc (.cells #[.int .i64 (kk : Int), .int .i64 nn, .string tt, .int .i64 (p : Int)] IT)).heap.size = w6.heap.size + 1 by simp] at h4); clear hb)
                | (at_builtin; refine wpList_append_own _ rfl _ _ 25 rfl w.heap.size IT i0 _ 4 40 Tryz.underlying25 HI.out HZ.out.1 HZ.out.2.1 HZ.out.2.2 rfl (by decide) _ _ _ rfl (TRow.below HR6.out (b1 (w6.alloc (.cells #[.int .i64 (kk : Int), .int .i64 nn, .string tt, .int .i64 (p : Int)] IT)) _)) ⟨w6.heap.size + 1, 0, none⟩ 1 1 [.int .i64 (kk : Int), .int .i64 nn, .string tt, .int .i64 (p : Int)] rfl rfl HN6.out (four_one _ _ _ _) (by unfold maxLen; omega) (by omega) (by have h := HB6.out.size; simp at h ⊢; omega) ?_; intro v5 w5 hown hgrow hnil; have HR5 := Lib.hid (TRow.snoc hown); have HB5 := Lib.hid (grown_below' (HB6.out.alloc HB6.out.size _) hgrow (by have h := HB6.out.size; simp at h ⊢; omega) (fun b hb => (HR6.out.own b hb).1)); clear hown hgrow hnil))
              try go_wp2_with (first | (at_builtin; refine wpList_append_own _ rfl _ _ 25 rfl w.heap.size IT i0 _ 4 40 Tryz.underlying25 HI.out HZ.out.1 HZ.out.2.1 HZ.out.2.2 rfl (by decide) _ _ _ rfl (TRow.below HR6.out (b1 (w6.alloc (.cells #[.int .i64 (kk : Int), .int .i64 nn, .string tt, .int .i64 (p : Int)] IT)) _)) ⟨w6.heap.size + 1, 0, none⟩ 1 1 [.int .i64 (kk : Int), .int .i64 nn, .string tt, .int .i64 (p : Int)] rfl rfl HN6.out (four_one _ _ _ _) (by unfold maxLen; omega) (by omega) (by have h := HB6.out.size; simp at h ⊢; omega) ?_; intro v5 w5 hown hgrow hnil; have HR5 := Lib.hid (TRow.snoc hown); have HB5 := Lib.hid (grown_below' (HB6.out.alloc HB6.out.size _) hgrow (by have h := HB6.out.size; simp at h ⊢; omega) (fun b hb => (HR6.out.own b hb).1)); clear hown hgrow hnil))
              go_roundg (s.size - pz)
              case rel => exact ⟨out ++ [⟨kk, nn, tt, p⟩], true, pz, rfl, by go_num, by omega, by omega, HR5, HST, HB5⟩
              case measure => omega
    · have HFin := Lib.hid (HSO.out.end_ (by rw [HLE.out]; omega))
      go_wp2_with (fail)
      go_ret3
      exact ⟨_, out, 0, 0, rfl, HR.out, HB.out, by omega, .inr ⟨by rw [HL.out, HLE.out]; omega, .inl ⟨rfl, rfl, by rw [HL.out]; exact HFin.out⟩⟩⟩

end Go.Proofs.YtakdbfifbkngnaaGreatDoor.lex

