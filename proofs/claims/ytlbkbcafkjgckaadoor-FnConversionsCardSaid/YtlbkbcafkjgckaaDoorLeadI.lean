/-
  The project's reading of the digits at the beginning of a text: leadingDigits, magnitude, LeadingInt and IsNumeric.
  Conditions: the text has at most 2^40 bytes.
-/
import Derived.Test.YtlbkbcafkjgckaaDoorRows
import Derived.Test.YtlbkbcafkjgckaaDoorLead
import Derived.Test.YtlbkbcafkjgckaaDoorShelf
import Derived.Test.YtlbkbcafkjgckaaDoorSmall
namespace Go.Proofs.YtlbkbcafkjgckaaDoor.lead
open Go.ChangeShapes Go.WideShapes Go.ChangeAt Go.RowKit
set_option linter.unusedVariables false

def tx (l : List UInt8) : ByteArray := ⟨l.toArray⟩
theorem tx_list (l : List UInt8) : (tx l).data.toList = l := by simp [tx]
theorem tx_size (l : List UInt8) : (tx l).size = l.length := by simp [tx, ByteArray.size]
theorem tx_of (s : ByteArray) : tx s.data.toList = s := by cases s; simp [tx]
theorem ext_tx (s : ByteArray) (k : Nat) : s.extract 0 k = tx (s.data.toList.take k) := by
  have : ∀ a b : ByteArray, a.data.toList = b.data.toList → a = b := fun a b h => by cases a; cases b; simp at h; congr
  apply this
  rw [tx_list]
  simp [ByteArray.data_extract]
theorem at_mem {s : ByteArray} {k : Nat} (hk : k < s.size) : s[k] ∈ s.data.toList := by
  have h : s.data.toList[k]'(by rw [size_eq]; exact hk) ∈ s.data.toList := List.getElem_mem _
  exact h

theorem bss {w w1 w2 : World} (h : Below w.heap.size w w1) (h2 : Below w1.heap.size w1 w2) : Below w.heap.size w w2 := h.trans (h2.mono h.size)

theorem isDigit (b : UInt8) (w : World) : Calls Tryd.prog 122 #[.int .u8 b.toNat] w fun e w' => e = .returned (.bool (dg b)) ∧ w = w' := by
  have hb0 : (0 : Int) ≤ (b.toNat : Int) := by omega
  have hb9 : (b.toNat : Int) ≤ 255 := by have := b.toNat_lt; omega
  by_cases h1 : 48 ≤ b.toNat
  · have i1 : (48 : Int) ≤ (b.toNat : Int) := by omega
    by_cases h2 : b.toNat ≤ 57
    · have i2 : (b.toNat : Int) ≤ 57 := by omega
      have HD : Hid (dg b = true) := Lib.hid (dg_iff.2 ⟨h1, h2⟩)
      clear h1 h2
      go_enter Tryd.func122, Tryd.ntmps122
      go_wp2
      go_ret
      exact ⟨by rw [HD.out]; rfl, rfl⟩
    · have i2 : ¬ (b.toNat : Int) ≤ 57 := by omega
      have HD : Hid (dg b = false) := Lib.hid (dg_no.2 fun h => h2 h.2)
      clear h1 h2
      go_enter Tryd.func122, Tryd.ntmps122
      go_wp2
      go_ret
      exact ⟨by rw [HD.out]; rfl, rfl⟩
  · have i1 : ¬ (48 : Int) ≤ (b.toNat : Int) := by omega
    have HD : Hid (dg b = false) := Lib.hid (dg_no.2 fun h => h1 h.1)
    clear h1
    go_enter Tryd.func122, Tryd.ntmps122
    go_wp2
    go_ret
    exact ⟨by rw [HD.out]; rfl, rfl⟩

/-- leadingDigits. -/
theorem leadingDigits (s : ByteArray) (hs : s.size ≤ 1099511627776) (w : World) : Calls Tryd.prog 80 #[.string s] w fun e w' => e = .returned (.string (tx (ld s.data.toList))) ∧ Below w.heap.size w w' := by
  have ST := At.start s 0
  obtain ⟨R, HR⟩ : ∃ R, Hid (mg 0 (ld (s.data.toList.drop 0)) = R) := ⟨_, Lib.hid rfl⟩
  obtain ⟨K, HK⟩ : ∃ K, Hid ((ld s.data.toList).length = K) := ⟨_, Lib.hid rfl⟩
  have HT : Hid (tx (ld s.data.toList) = s.extract 0 K) := Lib.hid (by rw [ext_tx, ← HK.out, ld_take])
  have hKs : K ≤ s.size := by rw [← HK.out, ← size_eq]; exact ld_len _
  have HF : Hid (K = s.size → s.extract 0 K = s) := Lib.hid fun h => by rw [h, ext_tx, ← size_eq, List.take_length, tx_of]
  rw [HR.out] at ST
  have hk0 : 0 + (ld (s.data.toList.drop 0)).length = K := by rw [← HK.out]; simp
  rw [hk0] at ST
  rw [HT.out]
  clear hk0 HT HR HK
  go_enter Tryd.func80, Tryd.ntmps80
  go_wp2
  go_loop [6] (fun i => ∃ (k n : Nat), k ≤ s.size ∧ i = .int .i64 k ∧ At s k n R K) (fun i => s.size - (RowKit.intOf i).toNat)
  case atStart => exact ⟨0, 0, by omega, rfl, ST⟩
  case round =>
    clear ST
    obtain ⟨k, n, hk, rfl, hA⟩ := hrel
    by_cases hlt : k < s.size
    · have hb0 : (0 : Int) ≤ (s[k].toNat : Int) := by omega
      have hb9 : (s[k].toNat : Int) ≤ 255 := by have := s[k].toNat_lt; omega
      by_cases hd : dg s[k] = true
      · have HA := Lib.hid (hA.step hlt hd)
        have HD := Lib.hid hd
        clear hA hd
        go_wp2_with (go_at_call 122; refine (isDigit _ _).mono ?_; rintro e w1 ⟨rfl, rfl⟩; rw [HD.out])
        exact ⟨⟨k + 1, _, by omega, by go_num, HA.out⟩, by simp only [RowKit.intOf]; omega⟩
      · have hd' : dg s[k] = false := by simpa using hd
        obtain ⟨-, rfl⟩ := hA.stop hlt hd'
        have HD := Lib.hid hd'
        clear hA hd hd'
        go_wp2_with (go_at_call 122; refine (isDigit _ _).mono ?_; rintro e w1 ⟨rfl, rfl⟩; rw [HD.out])
        go_ret
        exact ⟨rfl, Below.refl _ _⟩
    · obtain rfl : k = s.size := by omega
      obtain ⟨-, rfl⟩ := hA.fin (Nat.le_refl _)
      have HE := Lib.hid (HF.out rfl)
      clear hA
      go_wp2
      go_ret
      exact ⟨by first | rfl | (rw [HE.out]; rfl), Below.refl _ _⟩

/-- magnitude, of digits. -/
theorem magnitude (s : ByteArray) (hs : s.size ≤ 1099511627776) (hdig : ∀ b ∈ s.data.toList, dg b = true) (w : World) : Calls Tryd.prog 79 #[.string s] w fun e w' => e = .returned (.int .i64 (mg 0 s.data.toList)) ∧ Below w.heap.size w w' := by
  have ST := At.start s 0
  obtain ⟨K, HK⟩ : ∃ K, Hid (0 + (ld (s.data.toList.drop 0)).length = K) := ⟨_, Lib.hid rfl⟩
  obtain ⟨R, HR⟩ : ∃ R, Hid (mg 0 s.data.toList = R) := ⟨_, Lib.hid rfl⟩
  have hr : mg 0 (ld (s.data.toList.drop 0)) = R := by rw [List.drop_zero, ld_all _ hdig, HR.out]
  rw [hr, HK.out] at ST
  have hR : R ≤ 1000000001 := by rw [← HR.out]; exact mg_le _ _ (by omega)
  rw [HR.out]
  have HG := Lib.hid hdig
  clear hr HK HR hdig
  go_enter Tryd.func79, Tryd.ntmps79
  go_wp2
  go_loop [3, 7] (fun m i => ∃ (k n : Nat) (x : Int), k ≤ s.size ∧ i = .int .i64 k ∧ At s k n R K ∧ 0 ≤ x ∧ x ≤ 1000000001 ∧ Hid (x = (n : Int)) ∧ m = .int .i64 x) (fun _ i => s.size - (RowKit.intOf i).toNat)
  case atStart => exact ⟨0, 0, 0, by omega, rfl, ST, by omega, by omega, rfl, rfl⟩
  case round =>
    clear ST
    obtain ⟨k, n, x, hk, rfl, hA, x0, x1, HX, rfl⟩ := hrel
    by_cases hlt : k < s.size
    · have hb0 : (0 : Int) ≤ (s[k].toNat : Int) := by omega
      have hb9 : (s[k].toNat : Int) ≤ 255 := by have := s[k].toNat_lt; omega
      have hd := HG.out _ (at_mem hlt)
      have HA := Lib.hid (hA.step hlt hd)
      have hd' := dg_iff.1 hd
      obtain ⟨d1, d2⟩ := hd'
      have D1 : (48 : Int) ≤ (s[k].toNat : Int) := by omega
      have D2 : (s[k].toNat : Int) ≤ 57 := by omega
      clear hA hd
      go_wp2_with (go_at_call 78; refine (nums.implMin _ _ _).mono ?_; rintro e w1 ⟨rfl, rfl⟩)
      refine ⟨⟨k + 1, _, _, by omega, by go_num, HA.out, ?_, ?_, ?_, rfl⟩, by simp only [RowKit.intOf]; omega⟩
      · unfold nums.mn; split <;> omega
      · unfold nums.mn; split <;> omega
      · have := HX.out
        show _ = _
        unfold nums.mn
        split <;> omega
    · obtain ⟨rfl, -⟩ := hA.fin (by omega)
      have hx := HX.out
      subst hx
      clear hA HX
      go_wp2
      go_ret
      exact ⟨rfl, Below.refl _ _⟩

theorem cut_eq (s : ByteArray) : (Lib.hasPrefix s.data.toList [45] = neg s) ∧ (Lib.trimPrefix s.data.toList [45] = s.data.toList.drop (off s)) := by
  unfold off neg
  cases s.data.toList with
  | nil => exact ⟨rfl, rfl⟩
  | cons b r =>
    by_cases h : b = 45
    · subst h; exact ⟨rfl, rfl⟩
    · have h' : (b == 45) = false := by simpa using h
      have h2 : ((45 : UInt8) == b) = false := by simpa using fun e => h e.symm
      constructor
      · simp [Lib.hasPrefix, List.isPrefixOf, h2]
        exact fun e => h e
      · simp [Lib.trimPrefix, Lib.hasPrefix, List.isPrefixOf, h2, h']

/-- What stands behind the sign. -/
def beh (s : ByteArray) : ByteArray := tx (s.data.toList.drop (off s))
theorem beh_list (s : ByteArray) : (beh s).data.toList = s.data.toList.drop (off s) := tx_list _
theorem beh_size (s : ByteArray) : (beh s).size = s.size - off s := by unfold beh; rw [tx_size, List.length_drop, size_eq]

theorem leadingInt_i (s : ByteArray) (hs : s.size ≤ 1099511627776) (w : World) : Calls Tryd.prog 31 #[.string s] w fun e w' => e = .returned (.int .i64 (li s)) ∧ Below w.heap.size w w' := by
  have HC : Hid ((⟨(Lib.trimPrefix s.data.toList [45]).toArray⟩ : ByteArray) = beh s ∧ Lib.hasPrefix s.data.toList [45] = neg s) := Lib.hid ⟨by rw [(cut_eq s).2]; rfl, (cut_eq s).1⟩
  have hbs : (beh s).size ≤ 1099511627776 := by rw [beh_size]; omega
  have LD := leadingDigits (beh s) hbs
  rw [beh_list] at LD
  have hds : (tx (digs s)).size ≤ 1099511627776 := by
    rw [tx_size]
    unfold digs
    have := ld_len (s.data.toList.drop (off s))
    rw [List.length_drop, size_eq] at this
    omega
  have MG := magnitude (tx (digs s)) hds (by rw [tx_list]; exact ld_dig _)
  rw [tx_list] at MG
  have hm := mag_le s
  obtain ⟨m, HM⟩ : ∃ m, Hid (mag s = m) := ⟨_, Lib.hid rfl⟩
  have MG' : ∀ w, Calls Tryd.prog 79 #[.string (tx (digs s))] w fun e w' => e = .returned (.int .i64 (m : Int)) ∧ Below w.heap.size w w' := fun w => by rw [← HM.out]; exact MG w
  have LD' : ∀ w, Calls Tryd.prog 80 #[.string (beh s)] w fun e w' => e = .returned (.string (tx (digs s))) ∧ Below w.heap.size w w' := LD
  have HR : Hid (li s = if neg s then -((min m 1000000000 : Nat) : Int) else ((min m 1000000000 : Nat) : Int)) := Lib.hid (by unfold li; rw [HM.out])
  rw [HM.out] at hm
  obtain ⟨B, HB⟩ : ∃ B, Hid (beh s = B) := ⟨_, Lib.hid rfl⟩
  obtain ⟨D, HD⟩ : ∃ D, Hid (tx (digs s) = D) := ⟨_, Lib.hid rfl⟩
  obtain ⟨g, HG⟩ : ∃ g, Hid (neg s = g) := ⟨_, Lib.hid rfl⟩
  rw [HB.out] at HC hbs LD'
  rw [HD.out] at MG' LD'
  rw [HG.out] at HC HR
  have HMG := Lib.hid MG'
  have HLD := Lib.hid LD'
  clear LD MG LD' MG' hds HM
  have x0 : (0 : Int) ≤ (m : Int) := by omega
  have x1 : (m : Int) ≤ 1000000001 := by omega
  rw [HR.out]
  cases g
  all_goals
    go_enter Tryd.func31, Tryd.ntmps31
    go_wp2_with (fail)
    refine (Tryd.strings_CutPrefix s ⟨#[45]⟩ _).mono ?_
    rintro e w1 ⟨he, rfl⟩
    have he2 : ∀ x, Lib.hasPrefix s.data.toList [45] = x → e = .returned (.tuple #[.string B, .bool x]) := fun x hx => he.trans (by rw [← HC.out.1, ← hx])
    replace he := he2 _ HC.out.2
    clear he2
    subst he
    go_wp2_with (fail)
    refine (HLD.out _).mono ?_
    rintro e w2 ⟨rfl, hb2⟩
    have HB2 := Lib.hid hb2
    clear hb2
    go_wp2_with (fail)
    refine (HMG.out _).mono ?_
    rintro e w3 ⟨rfl, hb3⟩
    have HB3 := Lib.hid (bss HB2.out hb3)
    clear hb3
    go_wp2_with (fail)
    refine (nums.implMin _ _ _).mono ?_
    rintro e w4 ⟨rfl, rfl⟩
    have hmn : nums.mn (m : Int) 1000000000 = ((min m 1000000000 : Nat) : Int) := by unfold nums.mn; split <;> omega
    rw [hmn]
    obtain ⟨q, hq⟩ : ∃ q : Int, q = ((min m 1000000000 : Nat) : Int) := ⟨_, rfl⟩
    have q0 : 0 ≤ q := by omega
    have q1 : q ≤ 1000000000 := by omega
    rw [← hq]
    have HQ := Lib.hid hq
    clear hmn hq
    go_wp2_with (fail)
    go_ret
    exact ⟨by rw [← HQ.out]; rfl, HB3.out⟩

end Go.Proofs.YtlbkbcafkjgckaaDoor.lead
