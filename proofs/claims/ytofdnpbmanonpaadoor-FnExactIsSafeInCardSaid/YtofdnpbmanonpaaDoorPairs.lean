/-
  Two upper-case hexadecimal digits of a byte, and the bytes that are written as they are: the project's functions and the model's.
  Conditions: none.
-/
import Derived.Test.YtofdnpbmanonpaaDoorSeq
import Derived.Test.YtofdnpbmanonpaaDoorMod
namespace Go.Proofs.YtofdnpbmanonpaaDoor.seq
open Go.ChangeShapes Go.WideShapes Go.ChangeAt Go.RowKit
set_option linter.unusedVariables false

def digits : ByteArray := ⟨#[48, 49, 50, 51, 52, 53, 54, 55, 56, 57, 65, 66, 67, 68, 69, 70]⟩
theorem digit_at_fin : ∀ d : Fin 16, digits[d.val]'d.isLt = esc.dig d.val := by decide
theorem digit_at (d : Nat) (h : d < 16) (hd : d < digits.size) : (digits[d]'hd) = esc.dig d := digit_at_fin ⟨d, h⟩

theorem run_pair (src dst e : TypeId) (v1 v2 : Int) (b1 b2 : UInt8) (h1 : v1 = (b1.toNat : Int)) (h2 : v2 = (b2.toNat : Int)) {P : Program} (hs : P.underlying src = some (.slice e)) (he : P.underlying e = some (.int .u8)) (hd : P.underlying dst = some .string) (w W : World) (hW : W.heap = (w.alloc (.cells #[.int .u8 v1, .int .u8 v2] e)).heap) :
    (convert src dst (.slice (some ⟨w.heap.size, 0, none⟩) 2 2)).run P W = .ok (.string ⟨#[b1, b2]⟩) W :=
  run_convert_bytes_back (P := P) _ src dst e ⟨w.heap.size, 0, none⟩ 2 [b1, b2] hs he hd (fun j hj => by
    simp at hj
    have hc : W.heap[w.heap.size]? = some (.cells #[.int .u8 v1, .int .u8 v2] e (0, 0)) := by rw [hW]; exact heap_alloc_new w _
    rw [Addr.add_lit]
    rw [Lib.cell_of_heap hc]
    match j, hj with
    | 0, _ => simp [h1]
    | 1, _ => simp [h2])

set_option maxHeartbeats 1000000 in
theorem implPair (c : UInt8) (w : World) :
    Calls Tryd.prog 54 #[.int .u8 c.toNat] w (StrQ w (esc.pair c)) := by
  have hc := c.toNat_lt
  obtain ⟨n, hn⟩ : ∃ n : Nat, n = c.toNat := ⟨_, rfl⟩
  have hp : esc.pair c = [esc.dig (n / 16), esc.dig (n % 16)] := by rw [hn]; rfl
  rw [hp, ← hn]
  have hn8 : n < 256 := by omega
  obtain ⟨a, ha⟩ : ∃ a : Nat, n / 16 = a := ⟨_, rfl⟩
  obtain ⟨b, hb⟩ : ∃ b : Nat, n % 16 = b := ⟨_, rfl⟩
  have hai : (n : Int) / 16 = (a : Int) := by omega
  have hbi : (n : Int) % 16 = (b : Int) := by omega
  have ha16 : a < 16 := by omega
  have hb16 : b < 16 := by omega
  rw [ha, hb]
  have hda := fun h => digit_at a ha16 h
  have hdb := fun h => digit_at b hb16 h
  dsimp only [digits] at hda hdb
  have hcv := run_pair 22 9 5 (esc.dig a).toNat (esc.dig b).toNat (esc.dig a) (esc.dig b) rfl rfl (P := Tryd.prog) Tryd.underlying22 Tryd.underlying5 Tryd.underlying9 w (w.alloc (.cells #[.int .u8 (esc.dig a).toNat, .int .u8 (esc.dig b).toNat] 5)).drew rfl
  clear hc hp hn ha hb
  go_enter Tryd.func54, Tryd.ntmps54
  go_wp2
  go_region
  go_wp2
  go_ret
  exact ⟨rfl, ((Below.refl w.heap.size w).alloc (Nat.le_refl _) _).drew⟩

/-- The shift and the mask of the model's digits. -/
theorem and15 (n : Int) : bits .and .i64 n 15 = n % 16 := by
  have h15 : (BitVec.ofInt 64 15).toNat = 2 ^ 4 - 1 := by decide
  have key : (BitVec.ofInt 64 n &&& BitVec.ofInt 64 15).toNat = (n % ((2 ^ 64 : Nat) : Int)).toNat % 2 ^ 4 := by
    rw [BitVec.toNat_and, BitVec.toNat_ofInt, h15, Nat.and_two_pow_sub_one_eq_mod]
  show IntKind.i64.wrap ((BitVec.ofInt 64 n &&& BitVec.ofInt 64 15).toNat : Nat) = n % 16
  rw [key, IntKind.wrap_i64]
  omega

set_option maxHeartbeats 1000000 in
theorem specPair (c : UInt8) (w : World) :
    Calls Tryd.prog 58 #[.int .i64 c.toNat] w (StrQ w (esc.pair c)) := by
  have hc := c.toNat_lt
  obtain ⟨n, hn⟩ : ∃ n : Nat, n = c.toNat := ⟨_, rfl⟩
  have hp : esc.pair c = [esc.dig (n / 16), esc.dig (n % 16)] := by rw [hn]; rfl
  rw [hp, ← hn]
  have hn8 : n < 256 := by omega
  obtain ⟨a, ha⟩ : ∃ a : Nat, n / 16 = a := ⟨_, rfl⟩
  obtain ⟨b, hb⟩ : ∃ b : Nat, n % 16 = b := ⟨_, rfl⟩
  have ha16 : a < 16 := by omega
  have hb16 : b < 16 := by omega
  have hai : (n : Int) / 16 = (a : Int) := by omega
  have hbi : bits .and .i64 (n : Int) 15 = (b : Int) := by rw [and15]; omega
  have haa : bits .and .i64 (a : Int) 15 = (a : Int) := by rw [and15]; omega
  rw [ha, hb]
  have hda := fun h => digit_at a ha16 h
  have hdb := fun h => digit_at b hb16 h
  dsimp only [digits] at hda hdb
  have hcv := run_pair 22 9 5 (esc.dig a).toNat (esc.dig b).toNat (esc.dig a) (esc.dig b) rfl rfl (P := Tryd.prog) Tryd.underlying22 Tryd.underlying5 Tryd.underlying9 w (w.alloc (.cells #[.int .u8 (esc.dig a).toNat, .int .u8 (esc.dig b).toNat] 5)).drew rfl
  clear hc hp hn ha hb
  go_enter Tryd.func58, Tryd.ntmps58
  go_wp2
  go_region
  go_wp2
  go_ret
  exact ⟨rfl, ((Below.refl w.heap.size w).alloc (Nat.le_refl _) _).drew⟩

/-- A call that answers and changes nothing. -/
def IsQ (w : World) (b : Bool) (e : Ending) (w' : World) : Prop := e = .returned (.bool b) ∧ w' = w

theorem ix_plain (c : UInt8) : ∃ r : Int, Lib.indexByte [45, 95, 46, 126] c = r ∧ (0 ≤ r ↔ (c.toNat = 45 ∨ c.toNat = 95 ∨ c.toNat = 46 ∨ c.toNat = 126)) := by
  have key : ∀ n, n < 256 → decide (0 ≤ Lib.indexByte [45, 95, 46, 126] (UInt8.ofNat n)) = decide (n = 45 ∨ n = 95 ∨ n = 46 ∨ n = 126) := by decide +kernel
  refine ⟨_, rfl, ?_⟩
  have := key c.toNat c.toNat_lt
  rw [UInt8.ofNat_toNat] at this
  exact decide_eq_decide.1 this
theorem ix_bare (c : UInt8) : ∃ r : Int, Lib.indexByte [92, 39, 34, 60, 62, 38] c = r ∧ (r < 0 ↔ (c.toNat ≠ 92 ∧ c.toNat ≠ 39 ∧ c.toNat ≠ 34 ∧ c.toNat ≠ 60 ∧ c.toNat ≠ 62 ∧ c.toNat ≠ 38)) := by
  have key : ∀ n, n < 256 → decide (Lib.indexByte [92, 39, 34, 60, 62, 38] (UInt8.ofNat n) < 0) = decide (n ≠ 92 ∧ n ≠ 39 ∧ n ≠ 34 ∧ n ≠ 60 ∧ n ≠ 62 ∧ n ≠ 38) := by decide +kernel
  refine ⟨_, rfl, ?_⟩
  have := key c.toNat c.toNat_lt
  rw [UInt8.ofNat_toNat] at this
  exact decide_eq_decide.1 this
theorem byte_back (c : UInt8) : ((c.toNat : Int)).toNat.toUInt8 = c := by
  rw [Int.toNat_natCast]
  exact UInt8.ofNat_toNat

theorem implPlain (c : UInt8) (w : World) : Calls Tryd.prog 53 #[.int .u8 c.toNat] w (IsQ w (decide (esc.Plain c.toNat))) := by
  obtain ⟨r, hr, hri⟩ := ix_plain c
  obtain ⟨n, hn⟩ : ∃ n : Nat, n = c.toNat := ⟨_, rfl⟩
  have hbk := byte_back c
  rw [← hn] at hri hbk ⊢
  have HR : Hid (Lib.indexByte [45, 95, 46, 126] ((n : Int)).toNat.toUInt8 = r) := by show _ = _; rw [hbk, hr]
  clear hr hbk hn
  obtain ⟨d, hd⟩ : ∃ d, decide (esc.Plain n) = d := ⟨_, rfl⟩
  rw [hd]
  by_cases hm : (65 ≤ n ∧ n ≤ 90) ∨ (97 ≤ n ∧ n ≤ 122) ∨ (48 ≤ n ∧ n ≤ 57)
  · obtain rfl : d = true := hd.symm.trans (decide_eq_true (by unfold esc.Plain; omega))
    rcases hm with ⟨h1, h2⟩ | ⟨h1, h2⟩ | ⟨h1, h2⟩
    all_goals
      clear hri hd
      go_enter Tryd.func53, Tryd.ntmps53
      go_wp2
      go_ret
      exact ⟨rfl, rfl⟩
  · have m1 : ¬ (65 ≤ n ∧ n ≤ 90) := by omega
    have m2 : ¬ (97 ≤ n ∧ n ≤ 122) := by omega
    have m3 : ¬ (48 ≤ n ∧ n ≤ 57) := by omega
    have HD : Hid (decide (0 ≤ r) = d) := by show _ = _; rw [← hd]; exact decide_eq_decide.2 (by rw [hri]; unfold esc.Plain; omega)
    clear hm hri hd
    have fin : ∀ q : Bool, q = decide (0 ≤ r) → Ending.returned (.bool q) = .returned (.bool d) := fun q h => by rw [h, HD.out]
    go_enter Tryd.func53, Tryd.ntmps53
    go_wp2_with (go_at_call 65; refine (Tryd.strings_IndexByte ⟨#[45, 95, 46, 126]⟩ n _).mono ?_; rintro e w1 ⟨he, rfl⟩; obtain rfl : e = .returned (.int .i64 r) := he.trans (by rw [← HR.out]); clear he)
    all_goals go_ret
    all_goals exact ⟨fin _ (by first | rfl | simp), rfl⟩

end Go.Proofs.YtofdnpbmanonpaaDoor.seq
