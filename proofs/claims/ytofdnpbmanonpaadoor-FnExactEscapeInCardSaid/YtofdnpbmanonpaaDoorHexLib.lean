/-
  What the library's inner ParseUint returns at two bytes, base 16 and 8 bits.
  Conditions: none.
-/
import Derived.Test.YtofdnpbmanonpaaDoorEnvEsc
import Derived.Lib.ConvBytes
import Derived.Lib.AtoiErrMem
namespace Go.Proofs.YtofdnpbmanonpaaDoor.seq
open Go.ChangeShapes Go.WideShapes Go.ChangeAt Go.RowKit
set_option linter.unusedVariables false

/-- The number after k of the two digits. -/
def sofar (a b : UInt8) : Nat → Option Nat
  | 0 => some 0
  | 1 => esc.hexv true a
  | _ => (esc.hexv true a).bind fun x => (esc.hexv true b).map fun y => 16 * x + y
theorem sofar_step {a b : UInt8} {k acc d : Nat} (hk : k < 2) (h : sofar a b k = some acc) (hd : esc.hexv true ([a, b].getD k 0) = some d) : sofar a b (k + 1) = some (16 * acc + d) := by
  match k, hk with
  | 0, _ => simp only [sofar, Option.some.injEq] at h; subst h; simpa [sofar] using hd
  | 1, _ =>
    have ha : esc.hexv true a = some acc := h
    have hb : esc.hexv true b = some d := hd
    simp [sofar, ha, hb]
theorem sofar_none {a b : UInt8} {k : Nat} (hk : k < 2) (hd : esc.hexv true ([a, b].getD k 0) = none) : sofar a b 2 = none := by
  match k, hk with
  | 0, _ => have ha : esc.hexv true a = none := hd; simp [sofar, ha]
  | 1, _ => have hb : esc.hexv true b = none := hd; simp [sofar, hb]
theorem two_sofar (a b : UInt8) (r : List UInt8) : esc.two true (a :: b :: r) = (sofar a b 2).map UInt8.ofNat := by
  show ((esc.hexv true a).bind fun x => (esc.hexv true b).map fun y => UInt8.ofNat (16 * x + y)) = Option.map UInt8.ofNat ((esc.hexv true a).bind fun x => (esc.hexv true b).map fun y => 16 * x + y)
  cases esc.hexv true a <;> cases esc.hexv true b <;> rfl

/-- A byte with the sixth bit set. -/
theorem low_case (c : UInt8) : ∃ v : Nat, bits .or .u8 (c.toNat : Int) 32 = (v : Int) ∧ v ≤ 255 ∧ (65 ≤ c.toNat ∧ c.toNat ≤ 70 → v = c.toNat + 32) ∧ (97 ≤ c.toNat ∧ c.toNat ≤ 102 → v = c.toNat) ∧ (97 ≤ v ∧ v ≤ 102 → (65 ≤ c.toNat ∧ c.toNat ≤ 70) ∨ (97 ≤ c.toNat ∧ c.toNat ≤ 102)) := by
  have key : ∀ n : Nat, n < 256 → ((bits .or .u8 (n : Int) 32).toNat ≤ 255 ∧ 0 ≤ bits .or .u8 (n : Int) 32 ∧ (65 ≤ n ∧ n ≤ 70 → (bits .or .u8 (n : Int) 32).toNat = n + 32) ∧ (97 ≤ n ∧ n ≤ 102 → (bits .or .u8 (n : Int) 32).toNat = n) ∧ (97 ≤ (bits .or .u8 (n : Int) 32).toNat ∧ (bits .or .u8 (n : Int) 32).toNat ≤ 102 → (65 ≤ n ∧ n ≤ 70) ∨ (97 ≤ n ∧ n ≤ 102))) := by decide +kernel
  obtain ⟨h1, h2, h3⟩ := key c.toNat c.toNat_lt
  exact ⟨(bits .or .u8 (c.toNat : Int) 32).toNat, by omega, h1, h3⟩

def HexE (o : Option Nat) (e : Ending) : Prop :=
  (o = none ∧ e = .returned (.tuple #[.int .u64 0, .iface 80 (.int .i64 2)])) ∨ (∃ n : Nat, o = some n ∧ n ≤ 255 ∧ e = .returned (.tuple #[.int .u64 n, .nilIface]))

def Rel (a b : UInt8) (k acc : Nat) (x : Int) : Prop := x = (acc : Int) ∧ (k = 0 → acc = 0) ∧ (k < 2 → acc ≤ 15) ∧ sofar a b k = some acc
theorem Rel.step {a b : UInt8} {k acc d : Nat} {x y : Int} (h : Rel a b k acc x) (hk : k < 2) (hd : esc.hexv true ([a, b].getD k 0) = some d) (hy : y = x * 16 + d) : Rel a b (k + 1) (16 * acc + d) y := by
  obtain ⟨h1, h2, h3, h4⟩ := h
  have hd16 := esc.hexv_lt hd
  have h5 := h3 hk
  refine ⟨by omega, fun h => absurd h (by omega), fun h => ?_, sofar_step hk h4 hd⟩
  have := h2 (by omega)
  omega

set_option maxHeartbeats 4000000 in
set_option maxRecDepth 100000 in
theorem libHex (a b : UInt8) (w : World) :
    Calls Tryd.prog 67 #[.string ⟨#[a, b]⟩, .int .i64 16, .int .i64 8] w fun e w' => HexE (sofar a b 2) e ∧ Below w.heap.size w w' := by
  have hcv := Lib.run_convert_string_bytes (P := Tryd.prog) w 9 22 5 ⟨#[a, b]⟩ (u := .string) Tryd.underlying9 Tryd.underlying22 Tryd.underlying5
  have hB : ∀ j, j < 2 → (Lib.bytesWorld w 5 ⟨#[a, b]⟩).cell? ⟨w.heap.size, j, none⟩ = some (.int .u8 ([a, b].getD j 0).toNat) := fun j hj => Lib.bytesWorld_cell w 5 ⟨#[a, b]⟩ j hj
  have hbel := Lib.bytesWorld_below w 5 ⟨#[a, b]⟩
  obtain ⟨W1, hW1⟩ : ∃ W1, W1 = Lib.bytesWorld w 5 ⟨#[a, b]⟩ := ⟨_, rfl⟩
  rw [← hW1] at hcv hB hbel
  have hemp : (⟨#[a, b]⟩ : ByteArray).toList.isEmpty = false := tx_empty (l := [a, b]) (by simp)
  obtain ⟨cp, hcp⟩ : ∃ cp, cp = grownCap w 2 0 5 := ⟨_, rfl⟩
  have hcv2 : (convert 9 22 (.string ⟨#[a, b]⟩)).run Tryd.prog w = .ok (.slice (some ⟨w.heap.size, 0, none⟩) 2 cp) W1 := by rw [hcp]; exact hcv
  clear hW1 hcp hcv
  have hmv : IntKind.u64.wrap (IntKind.u64.wrap 256 - 1) = 255 := by
    rw [IntKind.wrap_u64, IntKind.wrap_u64]
    decide
  have HB := Lib.hid hB; have HBe := Lib.hid hbel; clear hB hbel
  go_enter Tryd.func67, Tryd.ntmps67
  go_wp2
  go_loop [12, 13, 101] (fun vu vn vi => ∃ (k acc : Nat) (x : Int), vu = .bool false ∧ vn = .int .u64 x ∧ vi = .int .i64 k ∧ k ≤ 2 ∧ 0 ≤ x ∧ x ≤ 255 ∧ Hid (Rel a b k acc x))
    (fun _ _ vi => 2 - (intOf vi).toNat)
  case atStart => exact ⟨0, 0, 0, rfl, rfl, rfl, by omega, by omega, by omega, rfl, fun _ => rfl, by omega, rfl⟩
  case round =>
    obtain ⟨k, acc, x, rfl, rfl, rfl, hk, x0, x1, HH⟩ := hrel
    by_cases hk2 : k < 2
    · have hc := HB.out k hk2
      obtain ⟨c, hcc⟩ : ∃ c, [a, b].getD k 0 = c := ⟨_, rfl⟩
      rw [hcc] at hc
      have x15 : x ≤ 15 := by have := HH.out.1; have := HH.out.2.2.1 hk2; omega
      have hc256 := c.toNat_lt
      obtain ⟨v, hv, hv255, hvU, hvW, hvX⟩ := low_case c
      obtain ⟨n, hn⟩ : ∃ n, n = c.toNat := ⟨_, rfl⟩
      have HN := Lib.hid hn
      rw [← hn] at hc hc256 hv hvU hvW hvX
      have hexD : ∀ (d : Nat) (y : Int), esc.hexv true c = some d → y = x * 16 + d → Rel a b (k + 1) (16 * acc + d) y := fun d y hd hy => HH.out.step hk2 (by rw [hcc]; exact hd) hy
      have hexN : esc.hexv true c = none → sofar a b 2 = none := fun hd => sofar_none hk2 (by rw [hcc]; exact hd)
      have HxD := Lib.hid hexD; have HxN := Lib.hid hexN; clear hexD hexN hcc hn
      by_cases hD : 48 ≤ n ∧ n ≤ 57
      · have HS := Lib.hid (HxD.out (n - 48) (x * 16 + ((n : Int) - 48)) (by unfold esc.hexv; rw [← HN.out, if_pos hD]) (by omega))
        obtain ⟨d0, d1⟩ := hD
        clear hvU hvW hvX hv
        go_wp2
        exact ⟨⟨k + 1, 16 * acc + (n - 48), x * 16 + ((n : Int) - 48), rfl, (by first | rfl | (congr 1; omega)), (by first | rfl | (congr 1; omega)), by omega, by omega, by omega, HS⟩, by simp [RowKit.intOf]; omega⟩
      · have hD1 : ¬ (48 ≤ n ∧ n ≤ 57) := hD
        by_cases hU : 65 ≤ n ∧ n ≤ 70
        · have HS := Lib.hid (HxD.out (n - 55) (x * 16 + ((n : Int) - 55)) (by unfold esc.hexv; rw [← HN.out, if_neg hD, if_pos hU]) (by omega))
          have hvn := hvU hU
          obtain ⟨u0, u1⟩ := hU
          clear hvU hvW hvX hD hD1
          go_wp2_with (go_at_call 70; refine (Tryd.internal_strconv_lower _ _).mono ?_; rintro e w' ⟨rfl, rfl⟩)
          exact ⟨⟨k + 1, 16 * acc + (n - 55), x * 16 + ((n : Int) - 55), rfl, (by first | rfl | (congr 1; omega)), (by first | rfl | (congr 1; omega)), by omega, by omega, by omega, HS⟩, by simp [RowKit.intOf]; omega⟩
        · by_cases hW : 97 ≤ n ∧ n ≤ 102
          · have HS := Lib.hid (HxD.out (n - 87) (x * 16 + ((n : Int) - 87)) (by unfold esc.hexv; rw [← HN.out, if_neg hD, if_neg hU, if_pos ⟨rfl, hW⟩]) (by omega))
            have hvn := hvW hW
            obtain ⟨u0, u1⟩ := hW
            clear hvU hvW hvX hD hD1 hU
            go_wp2_with (go_at_call 70; refine (Tryd.internal_strconv_lower _ _).mono ?_; rintro e w' ⟨rfl, rfl⟩)
            exact ⟨⟨k + 1, 16 * acc + (n - 87), x * 16 + ((n : Int) - 87), rfl, (by first | rfl | (congr 1; omega)), (by first | rfl | (congr 1; omega)), by omega, by omega, by omega, HS⟩, by simp [RowKit.intOf]; omega⟩
          · have hno := HxN.out (by unfold esc.hexv; rw [← HN.out, if_neg hD, if_neg hU, if_neg (fun h => hW h.2)])
            have hvno : ¬ (97 ≤ v ∧ v ≤ 102) := fun h => (hvX h).elim hU hW
            have HNo := Lib.hid hno
            clear hvU hvW hvX hD hU hW hno
            by_cases h95 : n = 95
            · subst h95
              have e95 : bits .or .u8 95 32 = 127 := by decide
              go_wp2_with (go_at_call 70; refine (Tryd.internal_strconv_lower _ _).mono ?_; rintro e w' ⟨rfl, rfl⟩)
              all_goals go_ret2
              all_goals exact ⟨.inl ⟨HNo.out, rfl⟩, HBe.out⟩
            · have h95i : ¬ (n : Int) = 95 := by omega
              go_wp2_with (go_at_call 70; refine (Tryd.internal_strconv_lower _ _).mono ?_; rintro e w' ⟨rfl, rfl⟩)
              all_goals go_ret2
              all_goals exact ⟨.inl ⟨HNo.out, rfl⟩, HBe.out⟩
    · obtain rfl : k = 2 := by omega
      obtain ⟨h1, _, _, h4⟩ := HH.out
      have hacc : acc ≤ 255 := by omega
      have H4 := Lib.hid h4
      subst h1
      clear h4 hk2
      go_wp2
      go_ret2
      exact ⟨.inr ⟨acc, H4.out, hacc, rfl⟩, HBe.out⟩

end Go.Proofs.YtofdnpbmanonpaaDoor.seq
