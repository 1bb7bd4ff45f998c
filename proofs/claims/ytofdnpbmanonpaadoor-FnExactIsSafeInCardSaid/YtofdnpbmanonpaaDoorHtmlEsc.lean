/-
  What EscapeHTML and UnescapeHTML of the project, and EscapeHTML of the model return.
  Conditions: the text has at most 2^40 bytes; the table of entities holds what the program's text lays.
-/
import Derived.Test.YtofdnpbmanonpaaDoorHtml
import Derived.Test.YtofdnpbmanonpaaDoorPlain
namespace Go.Proofs.YtofdnpbmanonpaaDoor.seq
open Go.ChangeShapes Go.WideShapes Go.ChangeAt Go.RowKit
set_option linter.unusedVariables false

theorem implEscHTML (s : ByteArray) (hs : s.size ≤ 1099511627776) (w : World) (hE : ents.Ent w) :
    Calls Tryd.prog 15 #[.string s] w (StrQ w (esc.esc esc.ent s.data.toList)) := by
  have HE := Lib.hid hE; clear hE
  go_enter Tryd.func15, Tryd.ntmps15
  go_wp2_with (fail)
  refine (escB ents.stays htmlSeq s hs _ HE.out).mono ?_
  rintro e w1 ⟨rfl, hb⟩
  go_wp2
  go_ret
  exact ⟨rfl, hb⟩
theorem implUnHTML (s : ByteArray) (hs : s.size ≤ 1099511627776) (w : World) (hE : ents.Ent w) :
    Calls Tryd.prog 14 #[.string s] w (UnQ w (esc.un esc.rdH s.data.toList)) := by
  have HE := Lib.hid hE; clear hE
  go_enter Tryd.func14, Tryd.ntmps14
  go_wp2_with (fail)
  refine (unB ents.stays htmlRead s hs _ HE.out).mono ?_
  rintro e w1 ⟨rfl, hb⟩
  go_wp2
  go_ret2
  exact ⟨rfl, hb⟩

theorem run_one {P : Program} (src dst e : TypeId) (v : Int) (b : UInt8) (hb : v = (b.toNat : Int)) (hs : P.underlying src = some (.slice e)) (he : P.underlying e = some (.int .u8)) (hd : P.underlying dst = some .string) (w : World) :
    (convert src dst (.slice (some ⟨w.heap.size, 0, none⟩) 1 1)).run P (w.alloc (.cells #[.int .u8 v] e)) = .ok (.string ⟨#[b]⟩) (w.alloc (.cells #[.int .u8 v] e)) :=
  run_convert_bytes_back (P := P) _ src dst e ⟨w.heap.size, 0, none⟩ 1 [b] hs he hd (fun j hj => by
    obtain rfl : j = 0 := by simp at hj; omega
    simp only [List.getElem_cons_zero, ← hb]
    exact World.cell?_alloc_new _ _ _ 0)

theorem specEntity (c : UInt8) (w : World) : Calls Tryd.prog 39 #[.int .u8 c.toNat] w (StrQ w (esc.fill esc.ent c)) := by
  obtain ⟨n, hn⟩ : ∃ n : Nat, n = c.toNat := ⟨_, rfl⟩
  have hc := c.toNat_lt
  have e : ∀ m l, n = m → esc.fill esc.ent (UInt8.ofNat m) = l → esc.fill esc.ent c = l := fun m l h1 h2 => by rw [← h2, ← h1, hn, UInt8.ofNat_toNat]
  by_cases h : n = 38 ∨ n = 60 ∨ n = 62 ∨ n = 34 ∨ n = 39
  · rw [← hn]
    clear hc hn
    rcases h with h | h | h | h | h
    · have HA := Lib.hid (e 38 [38, 97, 109, 112, 59] h (by decide)); clear e; subst h
      go_enter Tryd.func39, Tryd.ntmps39
      go_wp2
      go_ret
      exact ⟨ret_str HA.out.symm, Below.refl _ _⟩
    · have HA := Lib.hid (e 60 [38, 108, 116, 59] h (by decide)); clear e; subst h
      go_enter Tryd.func39, Tryd.ntmps39
      go_wp2
      go_ret
      exact ⟨ret_str HA.out.symm, Below.refl _ _⟩
    · have HA := Lib.hid (e 62 [38, 103, 116, 59] h (by decide)); clear e; subst h
      go_enter Tryd.func39, Tryd.ntmps39
      go_wp2
      go_ret
      exact ⟨ret_str HA.out.symm, Below.refl _ _⟩
    · have HA := Lib.hid (e 34 [38, 113, 117, 111, 116, 59] h (by decide)); clear e; subst h
      go_enter Tryd.func39, Tryd.ntmps39
      go_wp2
      go_ret
      exact ⟨ret_str HA.out.symm, Below.refl _ _⟩
    · have HA := Lib.hid (e 39 [38, 35, 51, 57, 59] h (by decide)); clear e; subst h
      go_enter Tryd.func39, Tryd.ntmps39
      go_wp2
      go_ret
      exact ⟨ret_str HA.out.symm, Below.refl _ _⟩
  · have HA : Hid (esc.fill esc.ent c = [c]) := esc.fill_nil (ent_past (by rw [← hn]; unfold Past; omega))
    have hcv := run_one (P := Tryd.prog) 22 9 5 (c.toNat : Int) c rfl Tryd.underlying22 Tryd.underlying5 Tryd.underlying9
    rw [← hn] at hcv ⊢
    have i1 : ¬ (n : Int) = 38 := by omega
    have i2 : ¬ (n : Int) = 60 := by omega
    have i3 : ¬ (n : Int) = 62 := by omega
    have i4 : ¬ (n : Int) = 34 := by omega
    have i5 : ¬ (n : Int) = 39 := by omega
    clear e h hn
    go_enter Tryd.func39, Tryd.ntmps39
    go_wp2
    go_ret
    exact ⟨ret_str HA.out.symm, (Below.refl _ _).alloc (Nat.le_refl _) _⟩

set_option maxHeartbeats 600000 in
set_option maxRecDepth 100000 in
theorem specEscHTML (s : ByteArray) (hs : s.size ≤ 1099511627776) (w : World) :
    Calls Tryd.prog 21 #[.string s] w (StrQ w (esc.esc esc.ent s.data.toList)) := by
  go_enter Tryd.func21, Tryd.ntmps21
  go_wp2
  go_loopw [3, 4] (fun v i wr => ∃ (k : Nat) (o : ByteArray), v = .string o ∧ i = .int .i64 k ∧ k ≤ s.size ∧ o.size ≤ 6597069766656 ∧ Hid (o = tx (esc.esc esc.ent (s.data.toList.take k))) ∧ Hid (Below w.heap.size w wr)) (fun _ i _ => s.size - (intOf i).toNat)
  case atStart => exact ⟨0, ⟨#[]⟩, rfl, rfl, by omega, by show 0 ≤ _; omega, rfl, Below.refl _ _⟩
  case round =>
    obtain ⟨k, o, rfl, rfl, hk, ho, HO, HB⟩ := hrel
    by_cases hlt : k < s.size
    · have hstep : esc.esc esc.ent (s.data.toList.take (k + 1)) = esc.esc esc.ent (s.data.toList.take k) ++ esc.fill esc.ent s[k] := esc.esc_step esc.ent s.data.toList k (by rw [len_eq]; exact hlt)
      have hlen := esc.six_ent.take s.data.toList (k + 1)
      have HS := Lib.hid hstep; have HL := Lib.hid hlen; clear hstep hlen
      have fin : ∀ x : ByteArray, x = tx (esc.esc esc.ent (s.data.toList.take (k + 1))) → x.size ≤ 6597069766656 := fun x hx => by rw [hx, tx_size]; have := HL.out; omega
      obtain ⟨t, ht⟩ : ∃ t, t = tx (esc.fill esc.ent s[k]) := ⟨_, rfl⟩
      have h3 : t.size ≤ 6 := by rw [ht, tx_size]; exact esc.six_ent.fill _
      have HX : Hid (o ++ t = tx (esc.esc esc.ent (s.data.toList.take (k + 1)))) := by show _ = _; rw [HO.out, ht, app_tx, HS.out]
      have HFin := Lib.hid fin; have HT := Lib.hid ht; clear fin ht
      go_wp2_with (fail)
      refine (specEntity s[k] _).mono ?_
      rintro e w1 ⟨he, hb⟩
      obtain rfl : e = .returned (.string t) := he.trans (by rw [HT.out])
      have HB1 := Lib.hid (HB.out.trans (hb.mono HB.out.size)); clear he hb
      go_wp2
      go_roundw
      case measure => simp only [RowKit.intOf]; omega
      case rel => exact ⟨k + 1, _, rfl, rfl, by omega, HFin.out _ HX.out, HX, HB1.out⟩
    · obtain rfl : k = s.size := by omega
      have HA : Hid (o = tx (esc.esc esc.ent s.data.toList)) := by show _ = _; rw [HO.out, List.take_of_length_le (by rw [len_eq]; omega)]
      go_wp2
      go_ret
      exact ⟨by rw [HA.out]; rfl, HB.out⟩

end Go.Proofs.YtofdnpbmanonpaaDoor.seq
