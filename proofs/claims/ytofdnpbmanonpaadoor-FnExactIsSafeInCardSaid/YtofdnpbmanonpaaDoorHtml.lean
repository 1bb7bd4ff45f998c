/-
  What the project writes and reads for the HTML context.
  Conditions: the text has at most 2^40 bytes; the table of entities holds what the program's text lays.
-/
import Derived.Test.YtofdnpbmanonpaaDoorEnts
namespace Go.Proofs.YtofdnpbmanonpaaDoor.seq
open Go.ChangeShapes Go.WideShapes Go.ChangeAt Go.RowKit
set_option linter.unusedVariables false

def Past (n j : Nat) : Prop := (0 < j → n ≠ 38) ∧ (1 < j → n ≠ 60) ∧ (2 < j → n ≠ 62) ∧ (3 < j → n ≠ 34) ∧ (4 < j → n ≠ 39)
theorem Past.start (n : Nat) : Past n 0 := by unfold Past; omega
theorem ent_past {c : UInt8} (h : Past c.toNat 5) : esc.ent c = [] := by
  unfold Past at h
  unfold esc.ent
  rw [if_neg (h.1 (by omega)), if_neg (h.2.1 (by omega)), if_neg (h.2.2.1 (by omega)), if_neg (h.2.2.2.1 (by omega)), if_neg (h.2.2.2.2 (by omega))]
theorem ret_str {l m : List UInt8} (h : l = m) : Ending.returned (.string (tx l)) = .returned (.string (tx m)) := by rw [h]

theorem ix0 (W : World) : (Instr.index 61 (.agg #[.int .u8 38, .string ⟨#[38, 97, 109, 112, 59]⟩, .int .u8 60, .string ⟨#[38, 108, 116, 59]⟩, .int .u8 62, .string ⟨#[38, 103, 116, 59]⟩, .int .u8 34, .string ⟨#[38, 113, 117, 111, 116, 59]⟩, .int .u8 39, .string ⟨#[38, 35, 51, 57, 59]⟩]) (.int .i64 0)).run Tryd.prog W = .ok (.agg #[.int .u8 38, .string ⟨#[38, 97, 109, 112, 59]⟩]) W := by kernel_rfl
theorem ix1 (W : World) : (Instr.index 61 (.agg #[.int .u8 38, .string ⟨#[38, 97, 109, 112, 59]⟩, .int .u8 60, .string ⟨#[38, 108, 116, 59]⟩, .int .u8 62, .string ⟨#[38, 103, 116, 59]⟩, .int .u8 34, .string ⟨#[38, 113, 117, 111, 116, 59]⟩, .int .u8 39, .string ⟨#[38, 35, 51, 57, 59]⟩]) (.int .i64 1)).run Tryd.prog W = .ok (.agg #[.int .u8 60, .string ⟨#[38, 108, 116, 59]⟩]) W := by kernel_rfl
theorem ix2 (W : World) : (Instr.index 61 (.agg #[.int .u8 38, .string ⟨#[38, 97, 109, 112, 59]⟩, .int .u8 60, .string ⟨#[38, 108, 116, 59]⟩, .int .u8 62, .string ⟨#[38, 103, 116, 59]⟩, .int .u8 34, .string ⟨#[38, 113, 117, 111, 116, 59]⟩, .int .u8 39, .string ⟨#[38, 35, 51, 57, 59]⟩]) (.int .i64 2)).run Tryd.prog W = .ok (.agg #[.int .u8 62, .string ⟨#[38, 103, 116, 59]⟩]) W := by kernel_rfl
theorem ix3 (W : World) : (Instr.index 61 (.agg #[.int .u8 38, .string ⟨#[38, 97, 109, 112, 59]⟩, .int .u8 60, .string ⟨#[38, 108, 116, 59]⟩, .int .u8 62, .string ⟨#[38, 103, 116, 59]⟩, .int .u8 34, .string ⟨#[38, 113, 117, 111, 116, 59]⟩, .int .u8 39, .string ⟨#[38, 35, 51, 57, 59]⟩]) (.int .i64 3)).run Tryd.prog W = .ok (.agg #[.int .u8 34, .string ⟨#[38, 113, 117, 111, 116, 59]⟩]) W := by kernel_rfl
theorem ix4 (W : World) : (Instr.index 61 (.agg #[.int .u8 38, .string ⟨#[38, 97, 109, 112, 59]⟩, .int .u8 60, .string ⟨#[38, 108, 116, 59]⟩, .int .u8 62, .string ⟨#[38, 103, 116, 59]⟩, .int .u8 34, .string ⟨#[38, 113, 117, 111, 116, 59]⟩, .int .u8 39, .string ⟨#[38, 35, 51, 57, 59]⟩]) (.int .i64 4)).run Tryd.prog W = .ok (.agg #[.int .u8 39, .string ⟨#[38, 35, 51, 57, 59]⟩]) W := by kernel_rfl

set_option maxHeartbeats 1000000 in
set_option maxRecDepth 100000 in
theorem htmlSeq : Seqs ents.Ent 34 esc.ent where
  six := esc.six_ent
  enters := enters_of Tryd.func34 (by kernel_rfl) rfl
  calls := fun c w hE => by
    obtain ⟨n, hn⟩ : ∃ n : Nat, n = c.toNat := ⟨_, rfl⟩
    have k0 : w.cell? ⟨0, 0, none⟩ = some (.int .u8 38) := World.var?_cell ents.gEnt hE 0
    have k1 : w.cell? ⟨0, 1, none⟩ = some (.string ⟨#[38, 97, 109, 112, 59]⟩) := World.var?_cell ents.gEnt hE 1
    have k2 : w.cell? ⟨0, 2, none⟩ = some (.int .u8 60) := World.var?_cell ents.gEnt hE 2
    have k3 : w.cell? ⟨0, 3, none⟩ = some (.string ⟨#[38, 108, 116, 59]⟩) := World.var?_cell ents.gEnt hE 3
    have k4 : w.cell? ⟨0, 4, none⟩ = some (.int .u8 62) := World.var?_cell ents.gEnt hE 4
    have k5 : w.cell? ⟨0, 5, none⟩ = some (.string ⟨#[38, 103, 116, 59]⟩) := World.var?_cell ents.gEnt hE 5
    have k6 : w.cell? ⟨0, 6, none⟩ = some (.int .u8 34) := World.var?_cell ents.gEnt hE 6
    have k7 : w.cell? ⟨0, 7, none⟩ = some (.string ⟨#[38, 113, 117, 111, 116, 59]⟩) := World.var?_cell ents.gEnt hE 7
    have k8 : w.cell? ⟨0, 8, none⟩ = some (.int .u8 39) := World.var?_cell ents.gEnt hE 8
    have k9 : w.cell? ⟨0, 9, none⟩ = some (.string ⟨#[38, 35, 51, 57, 59]⟩) := World.var?_cell ents.gEnt hE 9
    have hend : Past n 5 → esc.ent c = [] := fun h => ent_past (by rw [← hn]; exact h)
    have e : ∀ m l, n = m → esc.ent (UInt8.ofNat m) = l → esc.ent c = l := fun m l h1 h2 => by rw [← h2, ← h1, hn, UInt8.ofNat_toNat]
    rw [← hn]
    have HN := Lib.hid hend; have HE := Lib.hid e; clear hn hE hend e
    go_enter Tryd.func34, Tryd.ntmps34
    go_wp2
    go_loopw [6] (fun i wr => ∃ j : Nat, i = .int .i64 j ∧ j ≤ 5 ∧ Hid (Past n j) ∧ Hid (Below w.heap.size w wr)) (fun i _ => 5 - (intOf i).toNat)
    case atStart => exact ⟨0, rfl, by omega, Past.start n, Below.refl _ _⟩
    case round =>
      obtain ⟨j, rfl, hj, HP, HB⟩ := hrel
      have hc : j = 0 ∨ j = 1 ∨ j = 2 ∨ j = 3 ∨ j = 4 ∨ j = 5 := by omega
      clear hj
      rcases hc with rfl | rfl | rfl | rfl | rfl | rfl
      · have hix := ix0
        by_cases hm : n = 38
        · have HA := Lib.hid (HE.out 38 [38, 97, 109, 112, 59] hm (by decide))
          subst hm
          go_wp2
          go_ret
          exact ⟨ret_str HA.out.symm, HB.out.alloc HB.out.size _⟩
        · have hi : ¬ (38 : Int) = (n : Int) := by omega
          go_wp2
          go_roundw
          case measure => simp [RowKit.intOf]
          case rel => exact ⟨1, rfl, by omega, by show Past n 1; have := HP.out; unfold Past at *; omega, HB.out.alloc HB.out.size _⟩
      · have hix := ix1
        by_cases hm : n = 60
        · have HA := Lib.hid (HE.out 60 [38, 108, 116, 59] hm (by decide))
          subst hm
          go_wp2
          go_ret
          exact ⟨ret_str HA.out.symm, HB.out.alloc HB.out.size _⟩
        · have hi : ¬ (60 : Int) = (n : Int) := by omega
          go_wp2
          go_roundw
          case measure => simp [RowKit.intOf]
          case rel => exact ⟨2, rfl, by omega, by show Past n 2; have := HP.out; unfold Past at *; omega, HB.out.alloc HB.out.size _⟩
      · have hix := ix2
        by_cases hm : n = 62
        · have HA := Lib.hid (HE.out 62 [38, 103, 116, 59] hm (by decide))
          subst hm
          go_wp2
          go_ret
          exact ⟨ret_str HA.out.symm, HB.out.alloc HB.out.size _⟩
        · have hi : ¬ (62 : Int) = (n : Int) := by omega
          go_wp2
          go_roundw
          case measure => simp [RowKit.intOf]
          case rel => exact ⟨3, rfl, by omega, by show Past n 3; have := HP.out; unfold Past at *; omega, HB.out.alloc HB.out.size _⟩
      · have hix := ix3
        by_cases hm : n = 34
        · have HA := Lib.hid (HE.out 34 [38, 113, 117, 111, 116, 59] hm (by decide))
          subst hm
          go_wp2
          go_ret
          exact ⟨ret_str HA.out.symm, HB.out.alloc HB.out.size _⟩
        · have hi : ¬ (34 : Int) = (n : Int) := by omega
          go_wp2
          go_roundw
          case measure => simp [RowKit.intOf]
          case rel => exact ⟨4, rfl, by omega, by show Past n 4; have := HP.out; unfold Past at *; omega, HB.out.alloc HB.out.size _⟩
      · have hix := ix4
        by_cases hm : n = 39
        · have HA := Lib.hid (HE.out 39 [38, 35, 51, 57, 59] hm (by decide))
          subst hm
          go_wp2
          go_ret
          exact ⟨ret_str HA.out.symm, HB.out.alloc HB.out.size _⟩
        · have hi : ¬ (39 : Int) = (n : Int) := by omega
          go_wp2
          go_roundw
          case measure => simp [RowKit.intOf]
          case rel => exact ⟨5, rfl, by omega, by show Past n 5; have := HP.out; unfold Past at *; omega, HB.out.alloc HB.out.size _⟩
      · have HA := Lib.hid (HN.out HP.out)
        go_wp2
        go_ret
        exact ⟨ret_str HA.out.symm, HB.out⟩

theorem headD_at : ∀ {l : List UInt8} (h : 0 < l.length), l.headD 0 = l[0]
  | a :: l, _ => rfl
theorem head_eq {s : ByteArray} (h : 0 < s.size) : s.data.toList.headD 0 = s[0] := by
  rw [headD_at (l := s.data.toList) (by rw [len_eq]; exact h)]; rfl

theorem rdH_at {L : List UInt8} (h : (L.headD 0).toNat = 38) : esc.rdH L = if Lib.hasPrefix L [38, 97, 109, 112, 59] = true then some (38, 5) else if Lib.hasPrefix L [38, 108, 116, 59] = true then some (60, 4) else if Lib.hasPrefix L [38, 103, 116, 59] = true then some (62, 4) else if Lib.hasPrefix L [38, 113, 117, 111, 116, 59] = true then some (34, 6) else if Lib.hasPrefix L [38, 35, 51, 57, 59] = true then some (39, 5) else none := by
  unfold esc.rdH
  rw [if_neg (by rw [h]; decide)]
  unfold esc.ents
  simp only [List.find?]
  cases Lib.hasPrefix L [38, 97, 109, 112, 59] <;> cases Lib.hasPrefix L [38, 108, 116, 59] <;> cases Lib.hasPrefix L [38, 103, 116, 59] <;> cases Lib.hasPrefix L [38, 113, 117, 111, 116, 59] <;> cases Lib.hasPrefix L [38, 35, 51, 57, 59] <;> rfl

def PastP (L : List UInt8) (j : Nat) : Prop := (0 < j → Lib.hasPrefix L [38, 97, 109, 112, 59] = false) ∧ (1 < j → Lib.hasPrefix L [38, 108, 116, 59] = false) ∧ (2 < j → Lib.hasPrefix L [38, 103, 116, 59] = false) ∧ (3 < j → Lib.hasPrefix L [38, 113, 117, 111, 116, 59] = false) ∧ (4 < j → Lib.hasPrefix L [38, 35, 51, 57, 59] = false)
theorem PastP.start (L) : PastP L 0 := ⟨fun h => absurd h (by omega), fun h => absurd h (by omega), fun h => absurd h (by omega), fun h => absurd h (by omega), fun h => absurd h (by omega)⟩

set_option maxHeartbeats 1000000 in
set_option maxRecDepth 100000 in
theorem htmlRead : Reads ents.Ent 32 esc.rdH where
  eats := esc.eats_H
  enters := enters_of Tryd.func32 (by kernel_rfl) rfl
  calls := fun s w hE hs h0 => by
    have h1 : 0 < s.size := by omega
    have hd := head_eq h1
    have hb0 : (0 : Int) ≤ (s[0].toNat : Int) := by omega
    have hb9 : (s[0].toNat : Int) ≤ 255 := by have := s[0].toNat_lt; omega
    by_cases hm : s[0].toNat = 38
    · have hR := rdH_at (L := s.data.toList) (by rw [hd]; exact hm)
      have him : (s[0].toNat : Int) = 38 := by omega
      have HR := Lib.hid hR
      clear hR hd hm
      have k0 : w.cell? ⟨0, 0, none⟩ = some (.int .u8 38) := World.var?_cell ents.gEnt hE 0
      have k1 : w.cell? ⟨0, 1, none⟩ = some (.string ⟨#[38, 97, 109, 112, 59]⟩) := World.var?_cell ents.gEnt hE 1
      have k2 : w.cell? ⟨0, 2, none⟩ = some (.int .u8 60) := World.var?_cell ents.gEnt hE 2
      have k3 : w.cell? ⟨0, 3, none⟩ = some (.string ⟨#[38, 108, 116, 59]⟩) := World.var?_cell ents.gEnt hE 3
      have k4 : w.cell? ⟨0, 4, none⟩ = some (.int .u8 62) := World.var?_cell ents.gEnt hE 4
      have k5 : w.cell? ⟨0, 5, none⟩ = some (.string ⟨#[38, 103, 116, 59]⟩) := World.var?_cell ents.gEnt hE 5
      have k6 : w.cell? ⟨0, 6, none⟩ = some (.int .u8 34) := World.var?_cell ents.gEnt hE 6
      have k7 : w.cell? ⟨0, 7, none⟩ = some (.string ⟨#[38, 113, 117, 111, 116, 59]⟩) := World.var?_cell ents.gEnt hE 7
      have k8 : w.cell? ⟨0, 8, none⟩ = some (.int .u8 39) := World.var?_cell ents.gEnt hE 8
      have k9 : w.cell? ⟨0, 9, none⟩ = some (.string ⟨#[38, 35, 51, 57, 59]⟩) := World.var?_cell ents.gEnt hE 9
      clear hE
      go_enter Tryd.func32, Tryd.ntmps32
      go_wp2
      go_loopw [13] (fun i wr => ∃ j : Nat, i = .int .i64 j ∧ j ≤ 5 ∧ Hid (PastP s.data.toList j) ∧ Hid (Below w.heap.size w wr)) (fun i _ => 5 - (intOf i).toNat)
      case atStart => exact ⟨0, rfl, by omega, PastP.start _, Below.refl _ _⟩
      case round =>
        obtain ⟨j, rfl, hj, HP, HB⟩ := hrel
        have hc : j = 0 ∨ j = 1 ∨ j = 2 ∨ j = 3 ∨ j = 4 ∨ j = 5 := by omega
        clear hj
        rcases hc with rfl | rfl | rfl | rfl | rfl | rfl
        · have hix := ix0
          by_cases hm : Lib.hasPrefix s.data.toList [38, 97, 109, 112, 59] = true
          · have HA : Hid (esc.rdH s.data.toList = some (38, 5)) := by show _ = _; rw [HR.out, if_pos hm]
            go_wp2_with (go_at_call 49; refine (Tryd.strings_HasPrefix s ⟨#[38, 97, 109, 112, 59]⟩ _).mono ?_; rintro e w1 ⟨he, rfl⟩; obtain rfl : e = .returned (.bool true) := he.trans (by rw [← hm]); clear he)
            go_region
            go_wp2
            go_ret3
            exact ⟨.inr ⟨38, 5, HA.out, rfl⟩, (HB.out.alloc HB.out.size _).drew⟩
          · have hm2 : Lib.hasPrefix s.data.toList [38, 97, 109, 112, 59] = false := by simpa using hm
            clear hm
            go_wp2_with (go_at_call 49; refine (Tryd.strings_HasPrefix s ⟨#[38, 97, 109, 112, 59]⟩ _).mono ?_; rintro e w1 ⟨he, rfl⟩; obtain rfl : e = .returned (.bool false) := he.trans (by rw [← hm2]); clear he)
            go_roundw
            case measure => simp [RowKit.intOf]
            case rel => exact ⟨1, rfl, by omega, by show PastP _ _; have := HP.out; unfold PastP at *; simp_all, HB.out.alloc HB.out.size _⟩
        · have hix := ix1
          by_cases hm : Lib.hasPrefix s.data.toList [38, 108, 116, 59] = true
          · have HA : Hid (esc.rdH s.data.toList = some (60, 4)) := by show _ = _; rw [HR.out, if_neg (by rw [HP.out.1 (by omega)]; decide), if_pos hm]
            go_wp2_with (go_at_call 49; refine (Tryd.strings_HasPrefix s ⟨#[38, 108, 116, 59]⟩ _).mono ?_; rintro e w1 ⟨he, rfl⟩; obtain rfl : e = .returned (.bool true) := he.trans (by rw [← hm]); clear he)
            go_region
            go_wp2
            go_ret3
            exact ⟨.inr ⟨60, 4, HA.out, rfl⟩, (HB.out.alloc HB.out.size _).drew⟩
          · have hm2 : Lib.hasPrefix s.data.toList [38, 108, 116, 59] = false := by simpa using hm
            clear hm
            go_wp2_with (go_at_call 49; refine (Tryd.strings_HasPrefix s ⟨#[38, 108, 116, 59]⟩ _).mono ?_; rintro e w1 ⟨he, rfl⟩; obtain rfl : e = .returned (.bool false) := he.trans (by rw [← hm2]); clear he)
            go_roundw
            case measure => simp [RowKit.intOf]
            case rel => exact ⟨2, rfl, by omega, by show PastP _ _; have := HP.out; unfold PastP at *; simp_all, HB.out.alloc HB.out.size _⟩
        · have hix := ix2
          by_cases hm : Lib.hasPrefix s.data.toList [38, 103, 116, 59] = true
          · have HA : Hid (esc.rdH s.data.toList = some (62, 4)) := by show _ = _; rw [HR.out, if_neg (by rw [HP.out.1 (by omega)]; decide), if_neg (by rw [HP.out.2.1 (by omega)]; decide), if_pos hm]
            go_wp2_with (go_at_call 49; refine (Tryd.strings_HasPrefix s ⟨#[38, 103, 116, 59]⟩ _).mono ?_; rintro e w1 ⟨he, rfl⟩; obtain rfl : e = .returned (.bool true) := he.trans (by rw [← hm]); clear he)
            go_region
            go_wp2
            go_ret3
            exact ⟨.inr ⟨62, 4, HA.out, rfl⟩, (HB.out.alloc HB.out.size _).drew⟩
          · have hm2 : Lib.hasPrefix s.data.toList [38, 103, 116, 59] = false := by simpa using hm
            clear hm
            go_wp2_with (go_at_call 49; refine (Tryd.strings_HasPrefix s ⟨#[38, 103, 116, 59]⟩ _).mono ?_; rintro e w1 ⟨he, rfl⟩; obtain rfl : e = .returned (.bool false) := he.trans (by rw [← hm2]); clear he)
            go_roundw
            case measure => simp [RowKit.intOf]
            case rel => exact ⟨3, rfl, by omega, by show PastP _ _; have := HP.out; unfold PastP at *; simp_all, HB.out.alloc HB.out.size _⟩
        · have hix := ix3
          by_cases hm : Lib.hasPrefix s.data.toList [38, 113, 117, 111, 116, 59] = true
          · have HA : Hid (esc.rdH s.data.toList = some (34, 6)) := by show _ = _; rw [HR.out, if_neg (by rw [HP.out.1 (by omega)]; decide), if_neg (by rw [HP.out.2.1 (by omega)]; decide), if_neg (by rw [HP.out.2.2.1 (by omega)]; decide), if_pos hm]
            go_wp2_with (go_at_call 49; refine (Tryd.strings_HasPrefix s ⟨#[38, 113, 117, 111, 116, 59]⟩ _).mono ?_; rintro e w1 ⟨he, rfl⟩; obtain rfl : e = .returned (.bool true) := he.trans (by rw [← hm]); clear he)
            go_region
            go_wp2
            go_ret3
            exact ⟨.inr ⟨34, 6, HA.out, rfl⟩, (HB.out.alloc HB.out.size _).drew⟩
          · have hm2 : Lib.hasPrefix s.data.toList [38, 113, 117, 111, 116, 59] = false := by simpa using hm
            clear hm
            go_wp2_with (go_at_call 49; refine (Tryd.strings_HasPrefix s ⟨#[38, 113, 117, 111, 116, 59]⟩ _).mono ?_; rintro e w1 ⟨he, rfl⟩; obtain rfl : e = .returned (.bool false) := he.trans (by rw [← hm2]); clear he)
            go_roundw
            case measure => simp [RowKit.intOf]
            case rel => exact ⟨4, rfl, by omega, by show PastP _ _; have := HP.out; unfold PastP at *; simp_all, HB.out.alloc HB.out.size _⟩
        · have hix := ix4
          by_cases hm : Lib.hasPrefix s.data.toList [38, 35, 51, 57, 59] = true
          · have HA : Hid (esc.rdH s.data.toList = some (39, 5)) := by show _ = _; rw [HR.out, if_neg (by rw [HP.out.1 (by omega)]; decide), if_neg (by rw [HP.out.2.1 (by omega)]; decide), if_neg (by rw [HP.out.2.2.1 (by omega)]; decide), if_neg (by rw [HP.out.2.2.2.1 (by omega)]; decide), if_pos hm]
            go_wp2_with (go_at_call 49; refine (Tryd.strings_HasPrefix s ⟨#[38, 35, 51, 57, 59]⟩ _).mono ?_; rintro e w1 ⟨he, rfl⟩; obtain rfl : e = .returned (.bool true) := he.trans (by rw [← hm]); clear he)
            go_region
            go_wp2
            go_ret3
            exact ⟨.inr ⟨39, 5, HA.out, rfl⟩, (HB.out.alloc HB.out.size _).drew⟩
          · have hm2 : Lib.hasPrefix s.data.toList [38, 35, 51, 57, 59] = false := by simpa using hm
            clear hm
            go_wp2_with (go_at_call 49; refine (Tryd.strings_HasPrefix s ⟨#[38, 35, 51, 57, 59]⟩ _).mono ?_; rintro e w1 ⟨he, rfl⟩; obtain rfl : e = .returned (.bool false) := he.trans (by rw [← hm2]); clear he)
            go_roundw
            case measure => simp [RowKit.intOf]
            case rel => exact ⟨5, rfl, by omega, by show PastP _ _; have := HP.out; unfold PastP at *; simp_all, HB.out.alloc HB.out.size _⟩
        · have HA : Hid (esc.rdH s.data.toList = none) := by show _ = _; rw [HR.out, if_neg (by rw [HP.out.1 (by omega)]; decide), if_neg (by rw [HP.out.2.1 (by omega)]; decide), if_neg (by rw [HP.out.2.2.1 (by omega)]; decide), if_neg (by rw [HP.out.2.2.2.1 (by omega)]; decide), if_neg (by rw [HP.out.2.2.2.2 (by omega)]; decide)]
          go_wp2
          go_ret3
          exact ⟨.inl ⟨HA.out, _, _, rfl⟩, HB.out⟩
    · have HA : Hid (esc.rdH s.data.toList = some (s[0], 1)) := by show (if _ then _ else _) = _; rw [hd, if_pos hm]
      have him : ¬ (s[0].toNat : Int) = 38 := by omega
      clear hd hm hE
      go_enter Tryd.func32, Tryd.ntmps32
      go_wp2
      go_ret3
      exact ⟨.inr ⟨s[0], 1, HA.out, rfl⟩, Below.refl _ _⟩

end Go.Proofs.YtofdnpbmanonpaaDoor.seq
