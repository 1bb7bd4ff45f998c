/-
  The model's lexer: whether a text stands at a place, the mark there, and a string there.
  Conditions: the text has at most 2^40 bytes.
-/
import Derived.Test.YtakdbfifbkngnaaGreatDoorLaSLxB
import Derived.Test.YtakdbfifbkngnaaGreatDoorLaSLxM
import Derived.Test.YtakdbfifbkngnaaGreatDoorLaB2
namespace Go.Proofs.YtakdbfifbkngnaaGreatDoor.lex
open Go.ChangeShapes Go.WideShapes Go.ChangeAt Go.RowKit mem
set_option linter.unusedVariables false

theorem is_s (s : ByteArray) (hs : s.size ≤ 1099511627776) (k : Nat) (hk : k ≤ s.size) (t : ByteArray) (ht : t.size ≤ 10) (w : World) : Calls Tryz.prog 57 #[.string s, .int .i64 (k : Int), .string t] w (BoS w (t.data.toList.isPrefixOf (s.data.toList.drop k))) := by
  have hh := Lib.hasPrefix_of_take (s.data.toList.drop k) t.data.toList
  unfold Lib.hasPrefix at hh
  rw [← hh, List.length_drop, lead.size_eq, lead.size_eq]
  by_cases h : t.size ≤ s.size - k
  · obtain ⟨j, hj⟩ : ∃ j, j = k + t.size := ⟨_, rfl⟩
    have hji : (k : Int) + (t.size : Int) = (j : Int) := by omega
    have hle : k ≤ j := by omega
    have hle2 : j ≤ s.size := by omega
    have hi : (t.size : Int) ≤ (s.size : Int) - (k : Int) := by omega
    have he : ((s.extract k j).toList == t.toList) = ((s.data.toList.drop k).take t.size == t.data.toList) := by
      rw [Lib.extract_toList, ByteArray.toList_eq, hj, Nat.add_sub_cancel_left]
    obtain ⟨b, HBb⟩ : ∃ b, Hid (((s.data.toList.drop k).take t.size == t.data.toList) = b) := ⟨_, Lib.hid rfl⟩
    rw [HBb.out] at he
    have HD : Hid ((decide (t.size ≤ s.size - k) && ((s.data.toList.drop k).take t.size == t.data.toList)) = b) := Lib.hid (by rw [HBb.out]; simp [h])
    rw [HD.out]
    clear hh hj h HBb
    go_enter Tryz.func57, Tryz.ntmps57
    go_wp2
    go_ret
    exact ⟨by first | rfl | (rw [he]) | simp [he], rfl⟩
  · have hi : ¬ (t.size : Int) ≤ (s.size : Int) - (k : Int) := by omega
    have HD : Hid ((decide (t.size ≤ s.size - k) && ((s.data.toList.drop k).take t.size == t.data.toList)) = false) := Lib.hid (by simp [h])
    rw [HD.out]
    clear hh h
    go_enter Tryz.func57, Tryz.ntmps57
    go_wp2
    go_ret
    exact ⟨rfl, rfl⟩

/-- The marks of one byte, in their order. -/
def ones : List UInt8 := [43, 45, 42, 47, 37, 46, 61, 33, 60, 62, 40, 41, 91, 93, 123, 125, 44, 59, 63, 58, 38]
theorem ones_at : ∀ i, i < 21 → (mkAt (13 + i)).data.toList = [ones[i]?.getD 0] := by decide
theorem one_pre (b c : UInt8) (l : List UInt8) : Lib.hasPrefix (b :: l) [c] = (b == c) := by
  show ((c == b) && ([] : List UInt8).isPrefixOf l) = (b == c)
  rw [show ([] : List UInt8).isPrefixOf l = true by cases l <;> rfl, Bool.and_true, Bool.eq_iff_iff, beq_iff_eq, beq_iff_eq]
  exact eq_comm
theorem sized (s : ByteArray) (i : Nat) (h : i < s.size) (c : UInt8) (hc : s.data.toList[i]? = some c) : s[i] = c := by
  have := get_list h
  rw [hc] at this
  exact (Option.some.inj this).symm

def mark13 (B : Nat) (w : World) : Prop := w.heap[B]? = some (.cells #[.string ⟨#[61, 61, 61]⟩, .string ⟨#[33, 61, 61]⟩, .string ⟨#[60, 61, 62]⟩, .string ⟨#[61, 61]⟩, .string ⟨#[33, 61]⟩, .string ⟨#[60, 61]⟩, .string ⟨#[62, 61]⟩, .string ⟨#[61, 62]⟩, .string ⟨#[45, 62]⟩, .string ⟨#[58, 58]⟩, .string ⟨#[38, 38]⟩, .string ⟨#[124, 124]⟩, .string ⟨#[63, 63]⟩] 9 (0, 0))
theorem mark13_at {B : Nat} {w : World} (h : mark13 B w) : ∀ i : Nat, i < 13 → w.cell? ⟨B, i, none⟩ = some (.string (mkAt i)) := fun i hi => by
  have hc := cell_of_row w B i _ _ _ h
  rw [hc]
  have : ∀ i : Fin 13, (#[.string ⟨#[61, 61, 61]⟩, .string ⟨#[33, 61, 61]⟩, .string ⟨#[60, 61, 62]⟩, .string ⟨#[61, 61]⟩, .string ⟨#[33, 61]⟩, .string ⟨#[60, 61]⟩, .string ⟨#[62, 61]⟩, .string ⟨#[61, 62]⟩, .string ⟨#[45, 62]⟩, .string ⟨#[58, 58]⟩, .string ⟨#[38, 38]⟩, .string ⟨#[124, 124]⟩, .string ⟨#[63, 63]⟩] : Array Value)[i.val]? = some (.string (mkAt i.val)) := by
    intro i
    match i with
    | ⟨0, _⟩ => rfl
    | ⟨1, _⟩ => rfl
    | ⟨2, _⟩ => rfl
    | ⟨3, _⟩ => rfl
    | ⟨4, _⟩ => rfl
    | ⟨5, _⟩ => rfl
    | ⟨6, _⟩ => rfl
    | ⟨7, _⟩ => rfl
    | ⟨8, _⟩ => rfl
    | ⟨9, _⟩ => rfl
    | ⟨10, _⟩ => rfl
    | ⟨11, _⟩ => rfl
    | ⟨12, _⟩ => rfl
  exact this ⟨i, hi⟩

set_option maxHeartbeats 2000000 in
set_option maxRecDepth 100000 in
theorem mark_s (s : ByteArray) (hs : s.size ≤ 1099511627776) (k : Nat) (hk : k < s.size) (w : World) : Calls Tryz.prog 105 #[.string s, .int .i64 (k : Int)] w (TxQ w (tx (mark (s.data.toList.drop k)))) := by
  obtain ⟨L, HL⟩ : ∃ L, Hid (s.data.toList.drop k = L) := ⟨_, Lib.hid rfl⟩
  have hd : L = s[k] :: s.data.toList.drop (k + 1) := by rw [← HL.out]; exact drop_at hk
  have HDL := Lib.hid hd
  rw [HL.out]
  obtain ⟨V, HV⟩ : ∃ V, Hid (tx (mark L) = V) := ⟨_, Lib.hid rfl⟩
  rw [HV.out]
  have IS : Hid (∀ (t : ByteArray) (b : Bool), t.size ≤ 10 → Lib.hasPrefix L t.data.toList = b → ∀ w, Calls Tryz.prog 57 #[.string s, .int .i64 (k : Int), .string t] w (BoS w b)) := Lib.hid fun t b ht hb w => by
    have := is_s s hs k (by omega) t ht w
    rw [HL.out] at this
    rw [← hb]
    exact this
  have H13 : Hid (∀ i : Nat, i < 13 → (w.alloc (.cells #[.string ⟨#[61, 61, 61]⟩, .string ⟨#[33, 61, 61]⟩, .string ⟨#[60, 61, 62]⟩, .string ⟨#[61, 61]⟩, .string ⟨#[33, 61]⟩, .string ⟨#[60, 61]⟩, .string ⟨#[62, 61]⟩, .string ⟨#[61, 62]⟩, .string ⟨#[45, 62]⟩, .string ⟨#[58, 58]⟩, .string ⟨#[38, 38]⟩, .string ⟨#[124, 124]⟩, .string ⟨#[63, 63]⟩] 9)).cell? ⟨w.heap.size, i, none⟩ = some (.string (mkAt i))) := Lib.hid (mark13_at (heap_alloc_new w _))
  obtain ⟨Z, HZ⟩ : ∃ Z, Hid (w.alloc (.cells #[.string ⟨#[61, 61, 61]⟩, .string ⟨#[33, 61, 61]⟩, .string ⟨#[60, 61, 62]⟩, .string ⟨#[61, 61]⟩, .string ⟨#[33, 61]⟩, .string ⟨#[60, 61]⟩, .string ⟨#[62, 61]⟩, .string ⟨#[61, 62]⟩, .string ⟨#[45, 62]⟩, .string ⟨#[58, 58]⟩, .string ⟨#[38, 38]⟩, .string ⟨#[124, 124]⟩, .string ⟨#[63, 63]⟩] 9) = Z) := ⟨_, Lib.hid rfl⟩
  have hZb : Hid (Below w.heap.size w Z) := Lib.hid (by rw [← HZ.out]; exact b1 _ _)
  rw [HZ.out] at H13
  clear hd
  go_enter Tryz.func105, Tryz.ntmps105
  go_wp2_with (fail)
  rw [HZ.out]
  go_loopg [6] 13 (fun gk v wr => ∃ i : Nat, v = .int .i64 i ∧ gk + i = 13 ∧ i ≤ 13 ∧ Hid (MkI L i) ∧ Z = wr)
  case atStart => exact ⟨0, rfl, by omega, by omega, Lib.hid (MkI.start _), rfl⟩
  case round =>
    obtain ⟨i, rfl, hgk, hi, HI, rfl⟩ := hrel
    by_cases hlt : i < 13
    · have hc := H13.out i hlt
      obtain ⟨m, HMm⟩ : ∃ m, Hid (mkAt i = m) := ⟨_, Lib.hid rfl⟩
      rw [HMm.out] at hc
      have hm3 : m.size ≤ 3 := by rw [← HMm.out]; exact mkAt_size3 i
      obtain ⟨p, HP⟩ : ∃ p, Hid (Lib.hasPrefix L m.data.toList = p) := ⟨_, Lib.hid rfl⟩
      have HIS := Lib.hid (IS.out m p (by omega) HP.out)
      cases p
      · have HI2 := Lib.hid (HI.out.no (by omega) (by rw [HMm.out]; exact HP.out))
        go_wp2_with (go_at_call 57; refine (HIS.out _).mono ?_; rintro e w1 ⟨rfl, rfl⟩)
        go_roundg (13 - (i + 1))
        case rel => exact ⟨i + 1, by go_num, by omega, by omega, HI2, rfl⟩
        case measure => omega
      · have hmk := HI.out.yes (by omega) (by rw [HMm.out]; exact HP.out)
        have HX : Hid (V = m) := Lib.hid (by rw [← HV.out, hmk]; exact HMm.out)
        clear hmk
        go_wp2_with (go_at_call 57; refine (HIS.out _).mono ?_; rintro e w1 ⟨rfl, rfl⟩)
        go_ret
        exact ⟨by rw [HX.out]; rfl, hZb.out⟩
    · obtain rfl : i = 13 := by omega
      have hb0 : (0 : Int) ≤ (s[k].toNat : Int) := by omega
      have hb9 : (s[k].toNat : Int) ≤ 255 := by have := s[k].toNat_lt; omega
      obtain ⟨O, HO⟩ : ∃ O : ByteArray, Hid (O = ⟨#[43, 45, 42, 47, 37, 46, 61, 33, 60, 62, 40, 41, 91, 93, 123, 125, 44, 59, 63, 58, 38]⟩) := ⟨_, Lib.hid rfl⟩
      have hO : O.size = 21 := by rw [HO.out]; rfl
      have HOl : Hid (O.data.toList = ones) := Lib.hid (by rw [HO.out]; rfl)
      go_wp2_with (fail)
      rw [← HO.out]
      go_loopg [8] 21 (fun gk v wr => ∃ j : Nat, v = .int .i64 j ∧ gk + j = 21 ∧ j ≤ 21 ∧ Hid (MkI L (13 + j)) ∧ Hid (Below Z.heap.size Z wr))
      case atStart => exact ⟨0, rfl, by omega, by omega, HI, Lib.hid (Below.refl _ _)⟩
      case round =>
        obtain ⟨j, rfl, hgk, hj, HJ, HBj⟩ := hrel
        by_cases hlt2 : j < 21
        · have hjo : j < O.size := by omega
          have ho0 : (0 : Int) ≤ (O[j].toNat : Int) := by omega
          have ho9 : (O[j].toNat : Int) ≤ 255 := by have := O[j].toNat_lt; omega
          have hoj : O[j] = ones[j]?.getD 0 := by
            have := get_list hjo
            rw [HOl.out] at this
            rw [this]
            rfl
          have hmj : (mkAt (13 + j)).data.toList = [O[j]] := by rw [hoj]; exact ones_at j hlt2
          have hpp : Lib.hasPrefix L (mkAt (13 + j)).data.toList = (s[k] == O[j]) := by rw [hmj, HDL.out, one_pre]
          by_cases hbe : s[k] = O[j]
          · have hmk := HJ.out.yes (by omega) (by rw [hpp, hbe]; simp)
            have HX : Hid (V = O.extract j (j + 1)) := Lib.hid (by
              rw [← HV.out, hmk]
              have e1 : O.extract j (j + 1) = tx [O[j]] := by
                have h1 : (O.extract j (j + 1)).data.toList = [O[j]] := by
                  rw [Lib.extract_data, Nat.add_sub_cancel_left, drop_at hjo]
                  rfl
                rw [← tx_of (O.extract j (j + 1)), h1]
              rw [e1, ← hmj]
              unfold mkAt
              rw [tx_list])
            have hbi : (s[k].toNat : Int) = (O[j].toNat : Int) := by rw [hbe]
            have hbq : ((s[k].toNat : Int) == (O[j].toNat : Int)) = true := by rw [hbi]; exact beq_self_eq_true _
            obtain ⟨j1, hj1⟩ : ∃ q, q = j + 1 := ⟨_, rfl⟩
            have hji : (j : Int) + 1 = (j1 : Int) := by omega
            have hjle : j ≤ j1 := by omega
            have hj1O : j1 ≤ O.size := by omega
            have hsl : ∀ W, (Instr.slice 9 (.string O) (some (.int .i64 (j : Int))) (some (.int .i64 (j1 : Int))) none).run Tryz.prog W = .ok (.string (O.extract j j1)) W := fun W => by
              rw [run_slice_string W 9 O .i64 .i64 (j : Int) (j1 : Int) Tryz.underlying9 (by omega) (by omega) (by omega)]
              rfl
            rw [← hj1] at HX
            clear hmk hbe hpp hmj hoj hj1 hbi
            go_wp2_with (fail)
            go_quiet (fail)
            go_wp2
            go_ret
            exact ⟨by rw [HX.out]; rfl, hZb.out.trans ((bs HBj.out (below_drewNg _ _)).mono hZb.out.size)⟩
          · have HJ2 := Lib.hid (HJ.out.no (by omega) (by rw [hpp]; simpa using hbe))
            have hbq : ((s[k].toNat : Int) == (O[j].toNat : Int)) = false := beq_eq_false_iff_ne.2 (fun e => hbe (UInt8.toNat_inj.1 (by omega)))
            have hbi : ¬ (s[k].toNat : Int) = (O[j].toNat : Int) := fun e => hbe (UInt8.toNat_inj.1 (by omega))
            clear hbe hpp hmj hoj
            go_wp2_with (fail)
            go_quiet (fail)
            go_wp2
            go_roundg (21 - (j + 1))
            case rel => exact ⟨j + 1, by go_num, by omega, by omega, HJ2, Lib.hid (bs HBj.out (below_drewNg _ _))⟩
            case measure => omega
        · obtain rfl : j = 21 := by omega
          have HX : Hid (V = ⟨#[]⟩) := Lib.hid (by rw [← HV.out, HJ.out.fin])
          go_wp2_with (fail)
          go_ret
          exact ⟨by rw [HX.out]; rfl, hZb.out.trans (HBj.out.mono hZb.out.size)⟩

end Go.Proofs.YtakdbfifbkngnaaGreatDoor.lex

