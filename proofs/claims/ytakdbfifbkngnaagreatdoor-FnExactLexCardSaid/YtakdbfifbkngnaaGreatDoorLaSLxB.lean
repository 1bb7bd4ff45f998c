/-
  The project's reading of a string: readQuoted and readString.
  Conditions: the text has at most 2^40 bytes.
-/
import Derived.Test.YtakdbfifbkngnaaGreatDoorLaB1
import Derived.Test.YtakdbfifbkngnaaGreatDoorLaB2
namespace Go.Proofs.YtakdbfifbkngnaaGreatDoor.lex
open Go.ChangeShapes Go.WideShapes Go.ChangeAt Go.RowKit
set_option linter.unusedVariables false

/-- Does an escaped byte stand at the front? -/
def escd (l : List UInt8) : Bool := Lib.hasPrefix l [92, 39] || Lib.hasPrefix l [92, 92]
theorem escd_iff {l : List UInt8} : escd l = true ↔ ∃ c r, l = 92 :: c :: r ∧ (c = 39 ∨ c = 92) := by
  unfold escd Lib.hasPrefix
  rw [Bool.or_eq_true, List.isPrefixOf_iff_prefix, List.isPrefixOf_iff_prefix]
  constructor
  · rintro (⟨r, h⟩ | ⟨r, h⟩)
    · exact ⟨39, r, h.symm, .inl rfl⟩
    · exact ⟨92, r, h.symm, .inr rfl⟩
  · rintro ⟨c, r, rfl, rfl | rfl⟩
    · exact .inl ⟨r, rfl⟩
    · exact .inr ⟨r, rfl⟩
theorem get_list {s : ByteArray} {k : Nat} (h : k < s.size) : s.data.toList[k]? = some s[k] := by
  have h' : k < s.data.toList.length := by rw [lead.size_eq]; exact h
  rw [List.getElem?_eq_getElem h']
  rfl

set_option maxRecDepth 100000 in
/-- readQuoted. -/
theorem readQuoted_n (s : ByteArray) (h1 : 0 < s.size) (h : escd s.data.toList = false) (w : World) : Calls Tryz.prog 149 #[.string s] w fun e w' => e = .returned (.tuple #[.int .u8 s[0].toNat, .int .i64 1]) ∧ w = w' := by
  have hb0 : (0 : Int) ≤ (s[0].toNat : Int) := by omega
  have hb9 : (s[0].toNat : Int) ≤ 255 := by have := s[0].toNat_lt; omega
  unfold escd at h
  obtain ⟨h2, h3⟩ := Bool.or_eq_false_iff.1 h
  have HP := Lib.hid h2; have HQ := Lib.hid h3
  clear h h2 h3
  go_enter Tryz.func149, Tryz.ntmps149
  go_wp2_with (first
    | (go_at_call 65; refine (Tryz.strings_HasPrefix s ⟨#[92, 39]⟩ _).mono ?_; rintro e w1 ⟨he, rfl⟩; obtain rfl : e = .returned (.bool _) := he.trans (congrArg (fun b => Ending.returned (.bool b)) HP.out); clear he)
    | (go_at_call 65; refine (Tryz.strings_HasPrefix s ⟨#[92, 92]⟩ _).mono ?_; rintro e w1 ⟨he, rfl⟩; obtain rfl : e = .returned (.bool _) := he.trans (congrArg (fun b => Ending.returned (.bool b)) HQ.out); clear he))
  go_ret2
  exact ⟨rfl, rfl⟩
set_option maxRecDepth 100000 in
theorem readQuoted_y (s : ByteArray) (h1 : 1 < s.size) (h : escd s.data.toList = true) (w : World) : Calls Tryz.prog 149 #[.string s] w fun e w' => e = .returned (.tuple #[.int .u8 s[1].toNat, .int .i64 2]) ∧ w = w' := by
  have hb0 : (0 : Int) ≤ (s[1].toNat : Int) := by omega
  have hb9 : (s[1].toNat : Int) ≤ 255 := by have := s[1].toNat_lt; omega
  unfold escd at h
  obtain ⟨p, HP⟩ : ∃ p, Hid (Lib.hasPrefix s.data.toList [92, 39] = p) := ⟨_, Lib.hid rfl⟩
  cases p
  · rw [HP.out, Bool.false_or] at h
    have HQ := Lib.hid h
    clear h
    go_enter Tryz.func149, Tryz.ntmps149
    go_wp2_with (first
      | (go_at_call 65; refine (Tryz.strings_HasPrefix s ⟨#[92, 39]⟩ _).mono ?_; rintro e w1 ⟨he, rfl⟩; obtain rfl : e = .returned (.bool _) := he.trans (congrArg (fun b => Ending.returned (.bool b)) HP.out); clear he)
      | (go_at_call 65; refine (Tryz.strings_HasPrefix s ⟨#[92, 92]⟩ _).mono ?_; rintro e w1 ⟨he, rfl⟩; obtain rfl : e = .returned (.bool _) := he.trans (congrArg (fun b => Ending.returned (.bool b)) HQ.out); clear he))
    go_ret2
    exact ⟨rfl, rfl⟩
  · clear h
    go_enter Tryz.func149, Tryz.ntmps149
    go_wp2_with (first
      | (go_at_call 65; refine (Tryz.strings_HasPrefix s ⟨#[92, 39]⟩ _).mono ?_; rintro e w1 ⟨he, rfl⟩; obtain rfl : e = .returned (.bool _) := he.trans (congrArg (fun b => Ending.returned (.bool b)) HP.out); clear he)
      | fail)
    go_ret2
    exact ⟨rfl, rfl⟩

/-- The number of bytes in a builder. -/
theorem lenB (B b : Nat) (l : List UInt8) (w : World) (h : bld.Bl B b l w) : Calls Tryz.prog 148 #[.pointer (some ⟨b, 0, none⟩)] w fun e w' => e = .returned (.int .i64 (l.length : Int)) ∧ w = w' := by
  have hl1 : (Lib.byteCells l).length = l.length := Lib.byteCells_length l
  have key : ∃ A c, w.cell? ⟨b, 1, none⟩ = some (.slice A l.length c) := by
    have : ∀ p, Lib.BuilderAt 102 5 B b p (Lib.byteCells l) w → ∃ A c, w.cell? ⟨b, 1, none⟩ = some (.slice A l.length c) := fun p hp => by
      obtain ⟨hB, v, hbk, hown, hne⟩ := hp
      rw [hl1] at hown
      rcases hown.2 with ⟨hv, h0⟩ | ⟨g, cap, cur, hv, _⟩
      · exact ⟨none, 0, by rw [Lib.cell_of_heap hbk, h0, ← hv]; rfl⟩
      · exact ⟨_, cap, by rw [Lib.cell_of_heap hbk, ← hv]; rfl⟩
    rcases h with h | h
    · exact this _ h
    · exact this _ h
  obtain ⟨A, c, hc⟩ := key
  obtain ⟨L, HL⟩ : ∃ L, Hid (l.length = L) := ⟨_, Lib.hid rfl⟩
  rw [HL.out] at hc ⊢
  clear h hl1
  go_enter Tryz.func148, Tryz.ntmps148
  go_wp2
  go_ret
  exact ⟨rfl, rfl⟩

/-- readString, behind the first mark. -/
def strR (l : List UInt8) : TR := match str l with | some (t, k) => if t.length ≤ 400 then .good 5 0 t (k + 1) else .bad 3 | none => .bad 3
theorem strR_quote {L : List UInt8} {p : Nat} {a r : List UInt8} (h : str L = pre a p (str (39 :: r))) (ha : a.length ≤ 400) : strR L = .good 5 0 a (p + 2) := by
  unfold strR
  rw [h, str_quote]
  simp [pre, ha]
theorem strR_none {L : List UInt8} {p : Nat} {a : List UInt8} (h : str L = pre a p (str [])) : strR L = .bad 3 := by
  unfold strR
  rw [h, str_nil]
  rfl
theorem strR_long {L : List UInt8} {p : Nat} {a : List UInt8} {o} (h : str L = pre a p o) (ha : 400 < a.length) : strR L = .bad 3 := by
  unfold strR
  rw [h]
  cases o with
  | none => rfl
  | some x =>
    simp only [pre, Option.map_some]
    rw [if_neg]
    simp
    omega

set_option maxHeartbeats 2000000 in
set_option maxRecDepth 100000 in
theorem readString (s : ByteArray) (hs : s.size ≤ 1099511627776) (w : World) : Calls Tryz.prog 115 #[.string s] w (RdQ w (strR (s.data.toList.drop 1))) := by
  obtain ⟨L, HL⟩ : ∃ L, Hid (s.data.toList = L) := ⟨_, Lib.hid rfl⟩
  rw [HL.out]
  obtain ⟨V, HV⟩ : ∃ V, Hid (strR (L.drop 1) = V) := ⟨_, Lib.hid rfl⟩
  rw [HV.out]
  have A0 := new4 w
  have hbA := Lib.hid (b1 w (.cells #[.int .i64 0, .int .i64 0, .string ⟨#[]⟩, .int .i64 0] IT))
  have hz0 : (w.alloc (.cells #[.int .i64 0, .int .i64 0, .string ⟨#[]⟩, .int .i64 0] IT)).heap.size = w.heap.size + 1 := by simp
  have HN : Hid (bld.Bl (w.heap.size + 1) (w.heap.size + 1) [] ((w.alloc (.cells #[.int .i64 0, .int .i64 0, .string ⟨#[]⟩, .int .i64 0] IT)).alloc (.cells #[.pointer none, .slice none 0 0] 102))) := Lib.hid (by
    have := bld.new_ (w.alloc (.cells #[.int .i64 0, .int .i64 0, .string ⟨#[]⟩, .int .i64 0] IT))
    rwa [hz0] at this)
  have HB1 : Hid (Below (w.heap.size + 1) (w.alloc (.cells #[.int .i64 0, .int .i64 0, .string ⟨#[]⟩, .int .i64 0] IT)) ((w.alloc (.cells #[.int .i64 0, .int .i64 0, .string ⟨#[]⟩, .int .i64 0] IT)).alloc (.cells #[.pointer none, .slice none 0 0] 102))) := Lib.hid (by have := b1 (w.alloc (.cells #[.int .i64 0, .int .i64 0, .string ⟨#[]⟩, .int .i64 0] IT)) (.cells #[.pointer none, .slice none 0 0] 102); rwa [hz0] at this)
  clear hz0
  go_enter Tryz.func115, Tryz.ntmps115
  go_wp2_with (fail)
  go_loopg [6] s.size (fun gk v wr => ∃ (p : Nat) (a : List UInt8), v = .int .i64 p ∧ gk + p = s.size + 1 ∧ 1 ≤ p ∧ p ≤ s.size + 1 ∧ Hid (a.length + 1 ≤ p) ∧ Hid (str (L.drop 1) = pre a (p - 1) (str (L.drop p))) ∧ Hid (bld.Bl (w.heap.size + 1) (w.heap.size + 1) a wr) ∧ Hid (Below (w.heap.size + 1) (w.alloc (.cells #[.int .i64 0, .int .i64 0, .string ⟨#[]⟩, .int .i64 0] IT)) wr))
  case atStart => exact ⟨1, [], rfl, by omega, by omega, by omega, Lib.hid (by simp), Lib.hid (by rw [show 1 - 1 = 0 from rfl, pre_nil]), HN, HB1⟩
  case round =>
    obtain ⟨p, a, rfl, hgk, hp1, hps, HAL, HU, HBl, HB⟩ := hrel
    have A1 : Hid (wr.heap[w.heap.size]? = some (.cells #[.int .i64 0, .int .i64 0, .string ⟨#[]⟩, .int .i64 0] IT (0, 0))) := Lib.hid ((HB.out.block _ (by omega)).trans A0.out)
    have hsz : w.heap.size + 1 ≤ wr.heap.size := by have := HB.out.size; simpa using this
    have HLN := lenB _ _ _ wr HBl.out
    obtain ⟨m, HM⟩ : ∃ m, Hid (a.length = m) := ⟨_, Lib.hid rfl⟩
    rw [HM.out] at HLN
    have HLn := Lib.hid HLN
    clear HLN
    by_cases hlt : p < s.size
    · by_cases hm : m ≤ 400
      · have hb0 : (0 : Int) ≤ (s[p].toNat : Int) := by omega
        have hb9 : (s[p].toNat : Int) ≤ 255 := by have := s[p].toNat_lt; omega
        have hdr : L.drop p = s[p] :: L.drop (p + 1) := by rw [← HL.out]; exact drop_at hlt
        by_cases hq : s[p] = 39
        · have hqn : (s[p].toNat : Int) = 39 := by rw [hq]; rfl
          have HX : Hid (V = .good 5 0 a (p - 1 + 2)) := Lib.hid (by
            rw [← HV.out]
            refine strR_quote (r := L.drop (p + 1)) (HU.out.trans ?_) (by rw [HM.out]; omega)
            rw [hdr, hq])
          clear hdr hq
          obtain ⟨r, f⟩ := rowc A1.out
          go_wp2_with (first
            | (go_at_call 148; refine HLn.out.mono ?_; rintro e w1 ⟨rfl, rfl⟩)
            | (go_at_call 74; refine (bld.text _ _ _ _ HBl.out hsz).mono ?_; rintro e w1 ⟨rfl, hb⟩; have HB2 := Lib.hid (HB.out.trans hb); have A2 : Hid (w1.heap[w.heap.size]? = some (.cells #[.int .i64 0, .int .i64 0, .string ⟨#[]⟩, .int .i64 0] IT (0, 0))) := Lib.hid ((HB2.out.block _ (by omega)).trans A0.out); obtain ⟨r2, f2⟩ := rowc A2.out; clear hb r f))
          generalize hwF : (((w1.setCell ⟨w.heap.size, 0, none⟩ _).setCell ⟨w.heap.size, 1, none⟩ _).setCell ⟨w.heap.size, 2, none⟩ _).setCell ⟨w.heap.size, 3, none⟩ _ = wF
          obtain ⟨rF, oF, bF⟩ := fill4 A2.out hwF
          refine bodyPost_ret (v := .tuple #[.agg #[.int .i64 5, .int .i64 0, .string ⟨a.toArray⟩, .int .i64 0], .int .i64 ((p : Int) + 1), .int .i64 0]) ?_ rfl ?_
          · simp [results, Tryz.results115, go_sem, rF]
          · refine ⟨?_, bF _ _ (Nat.le_refl _) (hbA.out.trans (HB2.out.mono (by simp)))⟩
            rw [HX.out, show p - 1 + 2 = p + 1 by omega]
            rfl
        · have hqn : ¬ (s[p].toNat : Int) = 39 := fun e => hq (by have : s[p].toNat = 39 := by omega
                                                                  exact UInt8.toNat_inj.1 this)
          have hxs : (s.extract p s.size).size = s.size - p := by rw [ByteArray.size_extract]; omega
          have hx0 : 0 < (s.extract p s.size).size := by omega
          have hg0 : (s.extract p s.size)[0] = s[p] := by
            have h1 := get_list hx0
            rw [tail_list, HL.out, hdr] at h1
            simpa using h1.symm
          by_cases he : escd (L.drop p) = true
          · obtain ⟨c, r, hcr, hc⟩ := escd_iff.1 he
            have hp2 : p + 1 < s.size := by
              have := congrArg List.length hcr
              rw [List.length_drop, ← HL.out, lead.size_eq] at this
              simp at this
              omega
            have hx1 : 1 < (s.extract p s.size).size := by omega
            have hd2 : L.drop (p + 1) = s[p + 1] :: L.drop (p + 2) := by rw [← HL.out]; exact drop_at hp2
            have hg1 : (s.extract p s.size)[1] = s[p + 1] := by
              have h1 := get_list hx1
              rw [tail_list, HL.out, hdr, List.getElem?_cons_succ, hd2] at h1
              simpa using h1.symm
            have HQ2 : Hid (∀ w, Calls Tryz.prog 149 #[.string (s.extract p s.size)] w fun e w' => e = .returned (.tuple #[.int .u8 s[p + 1].toNat, .int .i64 2]) ∧ w = w') := Lib.hid fun w => by
              have := readQuoted_y (s.extract p s.size) hx1 (by rw [tail_list, HL.out]; exact he) w
              rwa [hg1] at this
            have HU2 : Hid (str (L.drop 1) = pre (a ++ [s[p + 1]]) (p + 2 - 1) (str (L.drop (p + 2)))) := Lib.hid (by
              rw [HU.out]
              have h3 : 92 :: c :: r = s[p] :: s[p + 1] :: L.drop (p + 2) := by rw [← hcr, hdr, hd2]
              injection h3 with h4 h5
              injection h5 with h6 h7
              rw [hcr, str_esc hc, pre_pre, h6, h7, show p - 1 + 2 = p + 2 - 1 by omega])
            clear he hcr hc hd2 hx1 hdr hg0 hg1 hq hxs hx0
            have hpb : p ≤ s.size := by omega
            go_wp2_with (first
              | (go_at_call 148; refine HLn.out.mono ?_; rintro e w1 ⟨rfl, rfl⟩)
              | (go_at_call 149; refine (HQ2.out _).mono ?_; rintro e w1 ⟨rfl, rfl⟩)
              | (go_at_call 73; refine (bld.wByte _ _ _ s[p + 1] _ HBl.out (by have := HAL.out; omega) hsz).mono ?_; rintro e w1 ⟨rfl, hbl, hb⟩; have HB2 := Lib.hid (HB.out.trans hb); have HBl2 := Lib.hid hbl; clear hb hbl))
            go_roundg (s.size + 1 - (p + 2))
            case rel => exact ⟨p + 2, a ++ [s[p + 1]], by go_num, by omega, by omega, by omega, Lib.hid (by rw [List.length_append]; have := HAL.out; simp; omega), HU2, HBl2, HB2⟩
            case measure => omega
          · have he' : escd (L.drop p) = false := by simpa using he
            have HQ1 : Hid (∀ w, Calls Tryz.prog 149 #[.string (s.extract p s.size)] w fun e w' => e = .returned (.tuple #[.int .u8 s[p].toNat, .int .i64 1]) ∧ w = w') := Lib.hid fun w => by
              have := readQuoted_n (s.extract p s.size) hx0 (by rw [tail_list, HL.out]; exact he') w
              rwa [hg0] at this
            have HU1 : Hid (str (L.drop 1) = pre (a ++ [s[p]]) (p + 1 - 1) (str (L.drop (p + 1)))) := Lib.hid (by
              rw [HU.out, hdr, str_byte hq, pre_pre, show p - 1 + 1 = p + 1 - 1 by omega]
              rintro ⟨h92, c, r, hc, hcc⟩
              exact he (escd_iff.2 ⟨c, r, by rw [hdr, h92, hc], hcc⟩))
            clear he he' hdr hg0 hq hxs hx0
            have hpb : p ≤ s.size := by omega
            go_wp2_with (first
              | (go_at_call 148; refine HLn.out.mono ?_; rintro e w1 ⟨rfl, rfl⟩)
              | (go_at_call 149; refine (HQ1.out _).mono ?_; rintro e w1 ⟨rfl, rfl⟩)
              | (go_at_call 73; refine (bld.wByte _ _ _ s[p] _ HBl.out (by have := HAL.out; omega) hsz).mono ?_; rintro e w1 ⟨rfl, hbl, hb⟩; have HB2 := Lib.hid (HB.out.trans hb); have HBl2 := Lib.hid hbl; clear hb hbl))
            go_roundg (s.size + 1 - (p + 1))
            case rel => exact ⟨p + 1, a ++ [s[p]], by go_num, by omega, by omega, by omega, Lib.hid (by rw [List.length_append]; have := HAL.out; simp; omega), HU1, HBl2, HB2⟩
            case measure => omega
      · have hm' : ¬ (m : Int) ≤ 400 := by omega
        have HX : Hid (V = .bad 3) := Lib.hid (by rw [← HV.out]; exact strR_long HU.out (by rw [HM.out]; omega))
        obtain ⟨r, f⟩ := rowc A1.out
        go_wp2_with (first
          | (go_at_call 148; refine HLn.out.mono ?_; rintro e w1 ⟨rfl, rfl⟩))
        generalize hwF : (((wr.setCell ⟨w.heap.size, 0, none⟩ _).setCell ⟨w.heap.size, 1, none⟩ _).setCell ⟨w.heap.size, 2, none⟩ _).setCell ⟨w.heap.size, 3, none⟩ _ = wF
        obtain ⟨rF, oF, bF⟩ := fill4 A1.out hwF
        refine bodyPost_ret (v := .tuple #[.agg #[.int .i64 0, .int .i64 0, .string ⟨#[]⟩, .int .i64 0], .int .i64 0, .int .i64 3]) ?_ rfl ?_
        · simp [results, Tryz.results115, go_sem, rF]
        · exact ⟨by rw [HX.out]; rfl, bF _ _ (Nat.le_refl _) (hbA.out.trans (HB.out.mono (by simp)))⟩
    · have HX : Hid (V = .bad 3) := Lib.hid (by
        have hd : L.drop p = [] := by rw [← HL.out]; exact lead.drop_end (by omega)
        have h := HU.out
        rw [hd] at h
        rw [← HV.out]
        exact strR_none h)
      obtain ⟨r, f⟩ := rowc A1.out
      go_wp2_with (first
        | (go_at_call 148; refine HLn.out.mono ?_; rintro e w1 ⟨rfl, rfl⟩))
      generalize hwF : (((wr.setCell ⟨w.heap.size, 0, none⟩ _).setCell ⟨w.heap.size, 1, none⟩ _).setCell ⟨w.heap.size, 2, none⟩ _).setCell ⟨w.heap.size, 3, none⟩ _ = wF
      obtain ⟨rF, oF, bF⟩ := fill4 A1.out hwF
      refine bodyPost_ret (v := .tuple #[.agg #[.int .i64 0, .int .i64 0, .string ⟨#[]⟩, .int .i64 0], .int .i64 0, .int .i64 3]) ?_ rfl ?_
      · simp [results, Tryz.results115, go_sem, rF]
      · exact ⟨by rw [HX.out]; rfl, bF _ _ (Nat.le_refl _) (hbA.out.trans (HB.out.mono (by simp)))⟩

end Go.Proofs.YtakdbfifbkngnaaGreatDoor.lex

