/-
  The project's escaper and unescaper, whatever function they are given: they escape a text byte by byte, and read it back piece by piece.
  Conditions: the text has at most 2^40 bytes; the given function returns what stands for a byte, or what stands at the front of a text, and only makes memory.
-/
import Derived.Test.YtofdnpbmanonpaaDoorBld
import Derived.Test.YtofdnpbmanonpaaDoorEsc
import Derived.Lib.IndexBytes
import Derived.Shelf.Abstract
namespace Go.Proofs.YtofdnpbmanonpaaDoor.seq
open Go.ChangeShapes Go.WideShapes Go.ChangeAt Go.RowKit
set_option linter.unusedVariables false

abbrev tx (l : List UInt8) : ByteArray := ⟨l.toArray⟩
theorem tx_size (l : List UInt8) : (tx l).size = l.length := rfl
theorem tx_eta (s : ByteArray) : tx s.data.toList = s := Joins.bytes_eta s
theorem tx_empty {l : List UInt8} (h : l ≠ []) : (tx l).toList.isEmpty = false := by
  rw [ByteArray.toList_eq]
  cases l with
  | nil => exact absurd rfl h
  | cons a l => rfl
theorem len_eq (s : ByteArray) : s.data.toList.length = s.size := Array.length_toList

/-- A call that returns a text and only makes memory. -/
def StrQ (w : World) (l : List UInt8) (e : Ending) (w' : World) : Prop := e = .returned (.string (tx l)) ∧ Below w.heap.size w w'

/-- What a function must do to be given to the escaper; E is what it wants of the world. -/
structure Seqs (E : World → Prop) (F : FuncId) (q : UInt8 → List UInt8) : Prop where
  six : esc.Six q
  enters : ∀ args w, (callFunc F args).run Tryd.prog w = .ok (.enter F args) w
  calls : ∀ (c : UInt8) (w : World), E w → Calls Tryd.prog F #[.int .u8 c.toNat] w (StrQ w (q c))
def Stays (E : World → Prop) : Prop := ∀ w w', E w → Below w.heap.size w w' → E w'

set_option maxHeartbeats 1000000 in
theorem escB {E : World → Prop} (hE : Stays E) {F : FuncId} {q : UInt8 → List UInt8} (hF : Seqs E F q) (s : ByteArray) (hs : s.size ≤ 1099511627776) (w : World) (hw : E w) :
    Calls Tryd.prog 33 #[.string s, .func (.func F) #[] #[]] w (StrQ w (esc.esc q s.data.toList)) := by
  have hen := hF.enters
  have HF := Lib.hid hF; have HW := Lib.hid hw; have HE := Lib.hid hE; clear hF hw hE
  go_enter Tryd.func33, Tryd.ntmps33
  go_wp2_with (fail)
  go_loopw [10] (fun i wr => ∃ k : Nat, i = .int .i64 k ∧ k ≤ s.size ∧ Hid (bld.Bl w.heap.size w.heap.size (esc.esc q (s.data.toList.take k)) wr) ∧ Hid (Below w.heap.size w wr)) (fun i _ => s.size - (intOf i).toNat)
  case atStart => exact ⟨0, rfl, by omega, bld.new_ w, (Below.refl _ _).alloc (Nat.le_refl _) _⟩
  case round =>
    obtain ⟨k, rfl, hk, HBl, HB⟩ := hrel
    by_cases hlt : k < s.size
    · obtain ⟨t, ht⟩ : ∃ t, t = tx (q s[k]) := ⟨_, rfl⟩
      have hstep : esc.esc q (s.data.toList.take (k + 1)) = esc.esc q (s.data.toList.take k) ++ esc.fill q s[k] := esc.esc_step q s.data.toList k (by rw [len_eq]; exact hlt)
      have hlen := HF.out.six.take s.data.toList k
      have ht6 : t.size ≤ 6 := by rw [ht, tx_size]; exact HF.out.six _
      have HS := Lib.hid hstep; have HL := Lib.hid hlen; have HT := Lib.hid ht; clear hstep hlen ht
      go_wp2_with (fail)
      refine (HF.out.calls s[k] wr (HE.out _ _ HW.out HB.out)).mono ?_
      rintro e w1 ⟨he, hb1⟩
      rw [← HT.out] at he
      subst he
      have HB1 := Lib.hid (HB.out.trans (hb1.mono HB.out.size)); have HBl1 := Lib.hid (HBl.out.below hb1); clear hb1
      by_cases hq : q s[k] = []
      · have hte : t = ⟨#[]⟩ := by rw [HT.out, hq]
        subst hte
        have HQ := Lib.hid (esc.fill_nil hq); clear hq
        go_wp2_with (fail)
        refine (bld.wByte w.heap.size w.heap.size _ s[k] _ HBl1.out (by have := HL.out; omega) HB1.out.size).mono ?_
        rintro e w2 ⟨rfl, hbl, hb2⟩
        have HB2 := Lib.hid (HB1.out.trans hb2); have HBl2 := Lib.hid hbl; clear hbl hb2
        go_wp2
        go_roundw
        case measure => simp only [RowKit.intOf]; omega
        case rel => exact ⟨k + 1, rfl, by omega, by show bld.Bl _ _ _ _; rw [HS.out, HQ.out]; exact HBl2.out, HB2.out⟩
      · have hte : t.toList.isEmpty = false := by rw [HT.out]; exact tx_empty hq
        have HQ := Lib.hid (esc.fill_not hq); clear hq
        go_wp2_with (fail)
        refine (bld.wText w.heap.size w.heap.size _ t _ HBl1.out (by have := HL.out; omega) HB1.out.size).mono ?_
        rintro e w2 ⟨rfl, hbl, hb2⟩
        have HB2 := Lib.hid (HB1.out.trans hb2); have HBl2 := Lib.hid hbl; clear hbl hb2
        go_wp2
        go_roundw
        case measure => simp only [RowKit.intOf]; omega
        case rel => exact ⟨k + 1, rfl, by omega, by show bld.Bl _ _ _ _; rw [HS.out, HQ.out]; have := HBl2.out; rw [HT.out] at this; exact this, HB2.out⟩
    · obtain rfl : k = s.size := by omega
      have HA : Hid (esc.esc q (s.data.toList.take s.size) = esc.esc q s.data.toList) := by show _ = _; rw [List.take_of_length_le (by rw [len_eq]; omega)]
      go_wp2_with (fail)
      refine (bld.text w.heap.size w.heap.size _ _ HBl.out HB.out.size).mono ?_
      rintro e w2 ⟨rfl, hb2⟩
      rw [HA.out]
      have HB2 := Lib.hid (HB.out.trans hb2); clear hb2
      go_wp2
      go_ret
      exact ⟨rfl, HB2.out⟩

/-- What a function gives back that reads the front of a text. -/
def RdE (o : Option (UInt8 × Nat)) (e : Ending) : Prop :=
  (o = none ∧ ∃ (c : Int) (k : Int), e = .returned (.tuple #[.int .u8 c, .int .i64 k, .bool false])) ∨
  (∃ (b : UInt8) (k : Nat), o = some (b, k) ∧ e = .returned (.tuple #[.int .u8 b.toNat, .int .i64 k, .bool true]))
structure Reads (E : World → Prop) (F : FuncId) (rd : List UInt8 → Option (UInt8 × Nat)) : Prop where
  eats : esc.Eats rd
  enters : ∀ args w, (callFunc F args).run Tryd.prog w = .ok (.enter F args) w
  calls : ∀ (s : ByteArray) (w : World), E w → s.size ≤ 1099511627776 → s.size ≠ 0 → Calls Tryd.prog F #[.string s] w fun e w' => RdE (rd s.data.toList) e ∧ Below w.heap.size w w'
/-- What an unescaper gives back. -/
def UnQ (w : World) (o : Option (List UInt8)) (e : Ending) (w' : World) : Prop := e = .returned (.tuple #[.string (tx (o.getD [])), .bool o.isSome]) ∧ Below w.heap.size w w'

def strSize : Value → Nat
  | .string t => t.size
  | _ => 0
theorem empty_of {t : ByteArray} (h : t.size = 0) : t = ⟨#[]⟩ := by
  apply ByteArray.ext
  exact Array.eq_empty_of_size_eq_zero h
theorem isEmpty_of {t : ByteArray} (h : t.size ≠ 0) : t.toList.isEmpty = false := by
  have := tx_empty (l := t.data.toList) (fun hh => h (by rw [← len_eq, hh]; rfl))
  rwa [tx_eta] at this

set_option maxHeartbeats 1000000 in
theorem unB {E : World → Prop} (hE : Stays E) {F : FuncId} {rd : List UInt8 → Option (UInt8 × Nat)} (hF : Reads E F rd) (s : ByteArray) (hs : s.size ≤ 1099511627776) (w : World) (hw : E w) :
    Calls Tryd.prog 31 #[.string s, .func (.func F) #[] #[]] w (UnQ w (esc.un rd s.data.toList)) := by
  have hen := hF.enters
  obtain ⟨L, hL⟩ : ∃ L, L = s.data.toList := ⟨_, rfl⟩
  have hLn : L.length = s.size := by rw [hL, len_eq]
  rw [← hL]
  have HF := Lib.hid hF; have HW := Lib.hid hw; have HE := Lib.hid hE; have HN := Lib.hid hLn; have HL := Lib.hid hL; clear hF hw hE hLn hL
  go_enter Tryd.func31, Tryd.ntmps31
  go_wp2_with (fail)
  go_loopw [0] (fun v wr => ∃ (i : Nat) (t : ByteArray) (a : List UInt8), v = .string t ∧ t.size ≤ 1099511627776 ∧ Hid (i + t.size = s.size) ∧ Hid (t.data.toList = L.drop i) ∧ Hid (a.length ≤ i) ∧ Hid (esc.un rd L = esc.pre a (esc.un rd (L.drop i))) ∧ Hid (bld.Bl w.heap.size w.heap.size a wr) ∧ Hid (Below w.heap.size w wr)) (fun v _ => strSize v)
  case atStart => exact ⟨0, s, [], rfl, hs, by show _ = _; omega, by show _ = _; rw [HL.out]; rfl, by show _ ≤ _; simp, by show _ = _; rw [esc.pre_nil]; rfl, bld.new_ w, (Below.refl _ _).alloc (Nat.le_refl _) _⟩
  case round =>
    obtain ⟨i, t, a, rfl, ht40, HI, HT, HA, HU, HBl, HB⟩ := hrel
    by_cases ht0 : t.size = 0
    · have HR : Hid (esc.un rd L = some a) := esc.mid_end (by have := HI.out; have := HN.out; omega) HU.out
      obtain rfl := empty_of ht0
      go_wp2_with (fail)
      refine (bld.text w.heap.size w.heap.size _ _ HBl.out HB.out.size).mono ?_
      rintro e w2 ⟨rfl, hb2⟩
      have HB2 := Lib.hid (HB.out.trans hb2); clear hb2
      go_wp2
      go_ret2
      exact ⟨by rw [HR.out]; rfl, HB2.out⟩
    · have hte := isEmpty_of ht0
      have hi : Hid (i < L.length) := by show _ < _; have := HI.out; have := HN.out; omega
      go_wp2_with (fail)
      refine (HF.out.calls t wr (HE.out _ _ HW.out HB.out) ht40 ht0).mono ?_
      rintro e w1 ⟨he, hb1⟩
      have HB1 := Lib.hid (HB.out.trans (hb1.mono HB.out.size)); have HBl1 := Lib.hid (HBl.out.below hb1); clear hb1
      rw [HT.out] at he
      rcases he with ⟨hn, c, k, rfl⟩ | ⟨b, k, hk, rfl⟩
      · have HR : Hid (esc.un rd L = none) := esc.mid_none HF.out.eats hi.out hn HU.out
        clear hn
        go_wp2
        go_ret2
        exact ⟨by rw [HR.out]; rfl, HB1.out⟩
      · have hm := esc.mid_some HF.out.eats hi.out hk HU.out
        have hne : L.drop i ≠ [] := fun hh => by have h1 := congrArg List.length hh; have h2 := hi.out; rw [List.length_drop] at h1; simp at h1; omega
        obtain ⟨k1, k2⟩ := HF.out.eats _ _ _ hne hk
        have hkt : k ≤ t.size := by rw [List.length_drop] at k2; have := HI.out; have := HN.out; omega
        have hxs : (t.extract k t.size).size = t.size - k := by rw [ByteArray.size_extract]; omega
        have hxl : (t.extract k t.size).data.toList = L.drop (i + k) := by rw [Lib.extract_to_end, HT.out, List.drop_drop]
        have HM := Lib.hid hm; have HXL := Lib.hid hxl; have HXS := Lib.hid hxs; have HK := Lib.hid k1; clear hm hne k1 k2 hk hxs hxl
        go_wp2_with (fail)
        refine (bld.wByte w.heap.size w.heap.size _ b _ HBl1.out (by have := HA.out; have := HI.out; omega) HB1.out.size).mono ?_
        rintro e w2 ⟨rfl, hbl, hb2⟩
        have HB2 := Lib.hid (HB1.out.trans hb2); have HBl2 := Lib.hid hbl; clear hbl hb2
        go_wp2
        go_roundw
        case measure => show (t.extract k t.size).size < t.size; have := HXS.out; have := HK.out; omega
        case rel => exact ⟨i + k, t.extract k t.size, a ++ [b], rfl, by have := HXS.out; omega, by show _ = _; have := HXS.out; have := HI.out; omega, HXL.out, by show _ ≤ _; rw [List.length_append]; have := HA.out; have := HK.out; simp; omega, HM.out, HBl2.out, HB2.out⟩

end Go.Proofs.YtofdnpbmanonpaaDoor.seq
