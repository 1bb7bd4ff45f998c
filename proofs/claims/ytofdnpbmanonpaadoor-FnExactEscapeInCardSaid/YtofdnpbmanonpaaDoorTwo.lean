/-
  What the model reads as two hexadecimal digits, and what UnescapeURL and UnescapeScript of the model return.
  Conditions: the text has at most 2^40 bytes.
-/
import Derived.Test.YtofdnpbmanonpaaDoorPairs
import Derived.Test.YtofdnpbmanonpaaDoorMem
namespace Go.Proofs.YtofdnpbmanonpaaDoor.seq
open Go.ChangeShapes Go.WideShapes Go.ChangeAt Go.RowKit mem
set_option linter.unusedVariables false

/-- Bytes as numbers. -/
def num (a : List UInt8) : List Int := txt (tx a)
theorem num_snoc (a : List UInt8) (b : UInt8) : num (a ++ [b]) = num a ++ [(b.toNat : Int)] := by
  unfold num txt
  simp
theorem num_str (a : List UInt8) : strOfNums (num a) = tx a := strOf_txt (tx a)
theorem num_len (a : List UInt8) : (num a).length = a.length := by unfold num; rw [txt_len]; rfl

theorem hexv_D {sm : Bool} {c : UInt8} {n : Nat} (hn : n = c.toNat) (h : 48 ≤ n ∧ n ≤ 57) : esc.hexv sm c = some (n - 48) := by unfold esc.hexv; rw [← hn, if_pos h]
theorem hexv_U {sm : Bool} {c : UInt8} {n : Nat} (hn : n = c.toNat) (h0 : ¬ (48 ≤ n ∧ n ≤ 57)) (h : 65 ≤ n ∧ n ≤ 70) : esc.hexv sm c = some (n - 55) := by unfold esc.hexv; rw [← hn, if_neg h0, if_pos h]
theorem hexv_W {c : UInt8} {n : Nat} (hn : n = c.toNat) (h0 : ¬ (48 ≤ n ∧ n ≤ 57)) (h1 : ¬ (65 ≤ n ∧ n ≤ 70)) (h : 97 ≤ n ∧ n ≤ 102) : esc.hexv true c = some (n - 87) := by unfold esc.hexv; rw [← hn, if_neg h0, if_neg h1, if_pos ⟨rfl, h⟩]
theorem hexv_X {sm : Bool} {c : UInt8} {n : Nat} (hn : n = c.toNat) (h0 : ¬ (48 ≤ n ∧ n ≤ 57)) (h1 : ¬ (65 ≤ n ∧ n ≤ 70)) (h : ¬ (sm = true ∧ 97 ≤ n ∧ n ≤ 102)) : esc.hexv sm c = none := by unfold esc.hexv; rw [← hn, if_neg h0, if_neg h1, if_neg h]

/-- The number after k of the two digits. -/
def sofS (sm : Bool) (a b : UInt8) : Nat → Option Nat
  | 0 => some 0
  | 1 => esc.hexv sm a
  | _ => (esc.hexv sm a).bind fun x => (esc.hexv sm b).map fun y => 16 * x + y
def RelS (sm : Bool) (a b : UInt8) (k acc : Nat) (x : Int) : Prop := x = (acc : Int) ∧ (k = 0 → acc = 0) ∧ (k < 2 → acc ≤ 15) ∧ sofS sm a b k = some acc
theorem RelS.step {sm : Bool} {a b : UInt8} {k acc d : Nat} {x y : Int} (h : RelS sm a b k acc x) (hk : k < 2) (hd : esc.hexv sm ([a, b].getD k 0) = some d) (hy : y = 16 * x + d) : RelS sm a b (k + 1) (16 * acc + d) y := by
  obtain ⟨h1, h2, h3, h4⟩ := h
  have hd16 := esc.hexv_lt hd
  have h5 := h3 hk
  refine ⟨by omega, fun h => absurd h (by omega), fun h => ?_, ?_⟩
  · have := h2 (by omega)
    omega
  · match k, hk with
    | 0, _ => simp only [sofS, Option.some.injEq] at h4; subst h4; simpa [sofS] using hd
    | 1, _ =>
      have ha : esc.hexv sm a = some acc := h4
      have hb : esc.hexv sm b = some d := hd
      simp [sofS, ha, hb]
theorem sofS_none {sm : Bool} {a b : UInt8} {k : Nat} (hk : k < 2) (hd : esc.hexv sm ([a, b].getD k 0) = none) : sofS sm a b 2 = none := by
  match k, hk with
  | 0, _ => have ha : esc.hexv sm a = none := hd; simp [sofS, ha]
  | 1, _ => have hb : esc.hexv sm b = none := hd; simp [sofS, hb]
theorem two_sofS (sm : Bool) (a b : UInt8) (r : List UInt8) : esc.two sm (a :: b :: r) = (sofS sm a b 2).map UInt8.ofNat := by
  show ((esc.hexv sm a).bind fun x => (esc.hexv sm b).map fun y => UInt8.ofNat (16 * x + y)) = Option.map UInt8.ofNat ((esc.hexv sm a).bind fun x => (esc.hexv sm b).map fun y => 16 * x + y)
  cases esc.hexv sm a <;> cases esc.hexv sm b <;> rfl

/-- What the model's reading of two digits gives. -/
def TwoE (o : Option UInt8) (e : Ending) : Prop := (o = none ∧ e = .returned (.int .i64 (-1))) ∨ (∃ c : UInt8, o = some c ∧ e = .returned (.int .i64 c.toNat))
theorem drop_two {s : ByteArray} {i : Nat} (h : i + 2 ≤ s.size) : s.data.toList.drop i = s[i] :: s[i + 1] :: s.data.toList.drop (i + 2) := by
  have h0 : i < s.data.toList.length := by rw [len_eq]; omega
  have h1 : i + 1 < s.data.toList.length := by rw [len_eq]; omega
  rw [List.drop_eq_getElem_cons h0, List.drop_eq_getElem_cons h1]
  rfl
theorem two_short (sm : Bool) {l : List UInt8} (h : l.length < 2) : esc.two sm l = none := by
  match l, h with
  | [], _ => rfl
  | [_], _ => rfl

set_option maxHeartbeats 4000000 in
set_option maxRecDepth 100000 in
theorem specTwo_true (s : ByteArray) (hs : s.size ≤ 1099511627776) (i : Nat) (hi : i ≤ 1099511627779) (w : World) :
    Calls Tryd.prog 40 #[.string s, .int .i64 i, .bool true] w fun e w' => TwoE (esc.two true (s.data.toList.drop i)) e ∧ w' = w := by
  by_cases hfit : i + 2 ≤ s.size
  · obtain ⟨a, ha⟩ : ∃ a, a = s[i] := ⟨_, rfl⟩
    obtain ⟨b, hb⟩ : ∃ b, b = s[i + 1] := ⟨_, rfl⟩
    have htwo : esc.two true (s.data.toList.drop i) = (sofS true a b 2).map UInt8.ofNat := by rw [drop_two hfit, two_sofS, ha, hb]
    have his : i < s.size := by omega
    have hjs : i + 1 < s.size := by omega
    have hsi : s[i] = a := ha.symm
    have hsj : s[i + 1] = b := hb.symm
    have HT := Lib.hid htwo
    clear htwo ha hb
    go_enter Tryd.func40, Tryd.ntmps40
    go_wp2
    go_loop [7, 8] (fun vn vk => ∃ (k acc : Nat) (x z : Int), vn = .int .i64 x ∧ vk = .int .i64 z ∧ z = (k : Int) ∧ k ≤ 2 ∧ 0 ≤ x ∧ x ≤ 255 ∧ Hid (RelS true a b k acc x)) (fun _ vk => 2 - (intOf vk).toNat)
    case atStart => exact ⟨0, 0, 0, 0, rfl, rfl, rfl, by omega, by omega, by omega, rfl, fun _ => rfl, by omega, rfl⟩
    case round =>
      obtain ⟨k, acc, x, z, rfl, rfl, hz, hk, x0, x1, HH⟩ := hrel
      have hc : (k = 0 ∧ z = 0) ∨ (k = 1 ∧ z = 1) ∨ (k = 2 ∧ z = 2) := by omega
      rcases hc with ⟨rfl, rfl⟩ | ⟨rfl, rfl⟩ | ⟨rfl, rfl⟩
      · have x15 : x ≤ 15 := by have := HH.out.1; have := HH.out.2.2.1 (by omega); omega
        have hc256 := a.toNat_lt
        obtain ⟨n, hn⟩ : ∃ n, n = a.toNat := ⟨_, rfl⟩
        have hn0 : (0 : Int) ≤ (n : Int) := by omega
        have hn256 : (n : Int) ≤ 255 := by omega
        clear hz hk
        have hby : (a.toNat : Int) = (n : Int) := by rw [hn]
        have hexD : ∀ (d : Nat) (y : Int), esc.hexv true a = some d → y = 16 * x + d → RelS true a b 1 (16 * acc + d) y := fun d y hd hy => HH.out.step (by omega) hd hy
        have hexN : esc.hexv true a = none → sofS true a b 2 = none := fun hd => sofS_none (k := 0) (by omega) hd
        have HxD := Lib.hid hexD; have HxN := Lib.hid hexN; have HN := Lib.hid hn; clear hexD hexN hn hc256
        by_cases hD : 48 ≤ n ∧ n ≤ 57
        · have HS := Lib.hid (HxD.out (n - 48) (16 * x + (n : Int) - 48) (hexv_D HN.out hD) (by omega))
          have e1 : Hid (mdl.inr (n : Int) 48 57 = true) := mdl.inr_of (by omega) (by omega)
          have hsm : 16 * x + (n : Int) - 48 ≤ 255 := by omega
          go_wp2_with (go_at_call 56; refine (mdl.l1In _ _ _ _).mono ?_; rintro e w1 ⟨rfl, rfl⟩; first | rw [e1.out] | rw [hby, e1.out])
          exact ⟨⟨1, 16 * acc + (n - 48), 16 * x + (n : Int) - 48, 1, (by first | rfl | (congr 1; omega)), rfl, rfl, by omega, by omega, by omega, HS⟩, by simp [RowKit.intOf]⟩
        · have e1 : Hid (mdl.inr (n : Int) 48 57 = false) := mdl.inr_not (by omega)
          by_cases hU : 65 ≤ n ∧ n ≤ 70
          · have HS := Lib.hid (HxD.out (n - 55) (16 * x + (n : Int) - 55) (hexv_U HN.out hD hU) (by omega))
            have e2 : Hid (mdl.inr (n : Int) 65 70 = true) := mdl.inr_of (by omega) (by omega)
            go_wp2_with (go_at_call 56; refine (mdl.l1In _ _ _ _).mono ?_; rintro e w1 ⟨rfl, rfl⟩; first | rw [e1.out] | rw [e2.out] | rw [hby, e1.out] | rw [hby, e2.out])
            exact ⟨⟨1, 16 * acc + (n - 55), 16 * x + (n : Int) - 55, 1, (by first | rfl | (congr 1; omega)), rfl, rfl, by omega, by omega, by omega, HS⟩, by simp [RowKit.intOf]⟩
          · have e2 : Hid (mdl.inr (n : Int) 65 70 = false) := mdl.inr_not (by omega)
            by_cases hW : 97 ≤ n ∧ n ≤ 102
            · have HS := Lib.hid (HxD.out (n - 87) (16 * x + (n : Int) - 87) (hexv_W HN.out hD hU hW) (by omega))
              have e3 : Hid (mdl.inr (n : Int) 97 102 = true) := mdl.inr_of (by omega) (by omega)
              go_wp2_with (go_at_call 56; refine (mdl.l1In _ _ _ _).mono ?_; rintro e w1 ⟨rfl, rfl⟩; first | rw [e1.out] | rw [e2.out] | rw [e3.out] | rw [hby, e1.out] | rw [hby, e2.out] | rw [hby, e3.out])
              exact ⟨⟨1, 16 * acc + (n - 87), 16 * x + (n : Int) - 87, 1, (by first | rfl | (congr 1; omega)), rfl, rfl, by omega, by omega, by omega, HS⟩, by simp [RowKit.intOf]⟩
            · have e3 : Hid (mdl.inr (n : Int) 97 102 = false) := mdl.inr_not (by omega)
              have HNo := Lib.hid (HxN.out (hexv_X HN.out hD hU (fun h => hW h.2)))
              go_wp2_with (go_at_call 56; refine (mdl.l1In _ _ _ _).mono ?_; rintro e w1 ⟨rfl, rfl⟩; first | rw [e1.out] | rw [e2.out] | rw [e3.out] | rw [hby, e1.out] | rw [hby, e2.out] | rw [hby, e3.out])
              go_ret
              exact ⟨.inl ⟨by rw [HT.out, HNo.out]; rfl, rfl⟩, rfl⟩
      · have x15 : x ≤ 15 := by have := HH.out.1; have := HH.out.2.2.1 (by omega); omega
        have hc256 := b.toNat_lt
        obtain ⟨n, hn⟩ : ∃ n, n = b.toNat := ⟨_, rfl⟩
        have hn0 : (0 : Int) ≤ (n : Int) := by omega
        have hn256 : (n : Int) ≤ 255 := by omega
        clear hz hk
        have hby : (b.toNat : Int) = (n : Int) := by rw [hn]
        have hexD : ∀ (d : Nat) (y : Int), esc.hexv true b = some d → y = 16 * x + d → RelS true a b 2 (16 * acc + d) y := fun d y hd hy => HH.out.step (by omega) hd hy
        have hexN : esc.hexv true b = none → sofS true a b 2 = none := fun hd => sofS_none (k := 1) (by omega) hd
        have HxD := Lib.hid hexD; have HxN := Lib.hid hexN; have HN := Lib.hid hn; clear hexD hexN hn hc256
        by_cases hD : 48 ≤ n ∧ n ≤ 57
        · have HS := Lib.hid (HxD.out (n - 48) (16 * x + (n : Int) - 48) (hexv_D HN.out hD) (by omega))
          have e1 : Hid (mdl.inr (n : Int) 48 57 = true) := mdl.inr_of (by omega) (by omega)
          have hsm : 16 * x + (n : Int) - 48 ≤ 255 := by omega
          go_wp2_with (go_at_call 56; refine (mdl.l1In _ _ _ _).mono ?_; rintro e w1 ⟨rfl, rfl⟩; first | rw [e1.out] | rw [hby, e1.out])
          exact ⟨⟨2, 16 * acc + (n - 48), 16 * x + (n : Int) - 48, 2, (by first | rfl | (congr 1; omega)), rfl, rfl, by omega, by omega, by omega, HS⟩, by simp [RowKit.intOf]⟩
        · have e1 : Hid (mdl.inr (n : Int) 48 57 = false) := mdl.inr_not (by omega)
          by_cases hU : 65 ≤ n ∧ n ≤ 70
          · have HS := Lib.hid (HxD.out (n - 55) (16 * x + (n : Int) - 55) (hexv_U HN.out hD hU) (by omega))
            have e2 : Hid (mdl.inr (n : Int) 65 70 = true) := mdl.inr_of (by omega) (by omega)
            go_wp2_with (go_at_call 56; refine (mdl.l1In _ _ _ _).mono ?_; rintro e w1 ⟨rfl, rfl⟩; first | rw [e1.out] | rw [e2.out] | rw [hby, e1.out] | rw [hby, e2.out])
            exact ⟨⟨2, 16 * acc + (n - 55), 16 * x + (n : Int) - 55, 2, (by first | rfl | (congr 1; omega)), rfl, rfl, by omega, by omega, by omega, HS⟩, by simp [RowKit.intOf]⟩
          · have e2 : Hid (mdl.inr (n : Int) 65 70 = false) := mdl.inr_not (by omega)
            by_cases hW : 97 ≤ n ∧ n ≤ 102
            · have HS := Lib.hid (HxD.out (n - 87) (16 * x + (n : Int) - 87) (hexv_W HN.out hD hU hW) (by omega))
              have e3 : Hid (mdl.inr (n : Int) 97 102 = true) := mdl.inr_of (by omega) (by omega)
              go_wp2_with (go_at_call 56; refine (mdl.l1In _ _ _ _).mono ?_; rintro e w1 ⟨rfl, rfl⟩; first | rw [e1.out] | rw [e2.out] | rw [e3.out] | rw [hby, e1.out] | rw [hby, e2.out] | rw [hby, e3.out])
              exact ⟨⟨2, 16 * acc + (n - 87), 16 * x + (n : Int) - 87, 2, (by first | rfl | (congr 1; omega)), rfl, rfl, by omega, by omega, by omega, HS⟩, by simp [RowKit.intOf]⟩
            · have e3 : Hid (mdl.inr (n : Int) 97 102 = false) := mdl.inr_not (by omega)
              have HNo := Lib.hid (HxN.out (hexv_X HN.out hD hU (fun h => hW h.2)))
              go_wp2_with (go_at_call 56; refine (mdl.l1In _ _ _ _).mono ?_; rintro e w1 ⟨rfl, rfl⟩; first | rw [e1.out] | rw [e2.out] | rw [e3.out] | rw [hby, e1.out] | rw [hby, e2.out] | rw [hby, e3.out])
              go_ret
              exact ⟨.inl ⟨by rw [HT.out, HNo.out]; rfl, rfl⟩, rfl⟩
      · obtain ⟨h1, _, _, h4⟩ := HH.out
        have H4 := Lib.hid h4
        subst h1
        have hacc : acc ≤ 255 := by omega
        clear h4 hz hk
        go_wp2
        go_ret
        refine ⟨.inr ⟨UInt8.ofNat acc, by rw [HT.out, H4.out]; rfl, ?_⟩, rfl⟩
        rw [UInt8.toNat_ofNat', Nat.mod_eq_of_lt (by omega)]
        rfl
  · have HT : Hid (esc.two true (s.data.toList.drop i) = none) := two_short _ (by rw [List.length_drop, len_eq]; omega)
    have hle : (s.size : Int) - 2 < (i : Int) := by omega
    go_enter Tryd.func40, Tryd.ntmps40
    go_wp2
    go_ret
    exact ⟨.inl ⟨HT.out, rfl⟩, rfl⟩

set_option maxHeartbeats 4000000 in
set_option maxRecDepth 100000 in
theorem specTwo_false (s : ByteArray) (hs : s.size ≤ 1099511627776) (i : Nat) (hi : i ≤ 1099511627779) (w : World) :
    Calls Tryd.prog 40 #[.string s, .int .i64 i, .bool false] w fun e w' => TwoE (esc.two false (s.data.toList.drop i)) e ∧ w' = w := by
  by_cases hfit : i + 2 ≤ s.size
  · obtain ⟨a, ha⟩ : ∃ a, a = s[i] := ⟨_, rfl⟩
    obtain ⟨b, hb⟩ : ∃ b, b = s[i + 1] := ⟨_, rfl⟩
    have htwo : esc.two false (s.data.toList.drop i) = (sofS false a b 2).map UInt8.ofNat := by rw [drop_two hfit, two_sofS, ha, hb]
    have his : i < s.size := by omega
    have hjs : i + 1 < s.size := by omega
    have hsi : s[i] = a := ha.symm
    have hsj : s[i + 1] = b := hb.symm
    have HT := Lib.hid htwo
    clear htwo ha hb
    go_enter Tryd.func40, Tryd.ntmps40
    go_wp2
    go_loop [7, 8] (fun vn vk => ∃ (k acc : Nat) (x z : Int), vn = .int .i64 x ∧ vk = .int .i64 z ∧ z = (k : Int) ∧ k ≤ 2 ∧ 0 ≤ x ∧ x ≤ 255 ∧ Hid (RelS false a b k acc x)) (fun _ vk => 2 - (intOf vk).toNat)
    case atStart => exact ⟨0, 0, 0, 0, rfl, rfl, rfl, by omega, by omega, by omega, rfl, fun _ => rfl, by omega, rfl⟩
    case round =>
      obtain ⟨k, acc, x, z, rfl, rfl, hz, hk, x0, x1, HH⟩ := hrel
      have hc : (k = 0 ∧ z = 0) ∨ (k = 1 ∧ z = 1) ∨ (k = 2 ∧ z = 2) := by omega
      rcases hc with ⟨rfl, rfl⟩ | ⟨rfl, rfl⟩ | ⟨rfl, rfl⟩
      · have x15 : x ≤ 15 := by have := HH.out.1; have := HH.out.2.2.1 (by omega); omega
        have hc256 := a.toNat_lt
        obtain ⟨n, hn⟩ : ∃ n, n = a.toNat := ⟨_, rfl⟩
        have hn0 : (0 : Int) ≤ (n : Int) := by omega
        have hn256 : (n : Int) ≤ 255 := by omega
        clear hz hk
        have hby : (a.toNat : Int) = (n : Int) := by rw [hn]
        have hexD : ∀ (d : Nat) (y : Int), esc.hexv false a = some d → y = 16 * x + d → RelS false a b 1 (16 * acc + d) y := fun d y hd hy => HH.out.step (by omega) hd hy
        have hexN : esc.hexv false a = none → sofS false a b 2 = none := fun hd => sofS_none (k := 0) (by omega) hd
        have HxD := Lib.hid hexD; have HxN := Lib.hid hexN; have HN := Lib.hid hn; clear hexD hexN hn hc256
        by_cases hD : 48 ≤ n ∧ n ≤ 57
        · have HS := Lib.hid (HxD.out (n - 48) (16 * x + (n : Int) - 48) (hexv_D HN.out hD) (by omega))
          have e1 : Hid (mdl.inr (n : Int) 48 57 = true) := mdl.inr_of (by omega) (by omega)
          have hsm : 16 * x + (n : Int) - 48 ≤ 255 := by omega
          go_wp2_with (go_at_call 56; refine (mdl.l1In _ _ _ _).mono ?_; rintro e w1 ⟨rfl, rfl⟩; first | rw [e1.out] | rw [hby, e1.out])
          exact ⟨⟨1, 16 * acc + (n - 48), 16 * x + (n : Int) - 48, 1, (by first | rfl | (congr 1; omega)), rfl, rfl, by omega, by omega, by omega, HS⟩, by simp [RowKit.intOf]⟩
        · have e1 : Hid (mdl.inr (n : Int) 48 57 = false) := mdl.inr_not (by omega)
          by_cases hU : 65 ≤ n ∧ n ≤ 70
          · have HS := Lib.hid (HxD.out (n - 55) (16 * x + (n : Int) - 55) (hexv_U HN.out hD hU) (by omega))
            have e2 : Hid (mdl.inr (n : Int) 65 70 = true) := mdl.inr_of (by omega) (by omega)
            go_wp2_with (go_at_call 56; refine (mdl.l1In _ _ _ _).mono ?_; rintro e w1 ⟨rfl, rfl⟩; first | rw [e1.out] | rw [e2.out] | rw [hby, e1.out] | rw [hby, e2.out])
            exact ⟨⟨1, 16 * acc + (n - 55), 16 * x + (n : Int) - 55, 1, (by first | rfl | (congr 1; omega)), rfl, rfl, by omega, by omega, by omega, HS⟩, by simp [RowKit.intOf]⟩
          · have e2 : Hid (mdl.inr (n : Int) 65 70 = false) := mdl.inr_not (by omega)
            have HNo := Lib.hid (HxN.out (hexv_X HN.out hD hU (fun h => by cases h.1)))
            go_wp2_with (go_at_call 56; refine (mdl.l1In _ _ _ _).mono ?_; rintro e w1 ⟨rfl, rfl⟩; first | rw [e1.out] | rw [e2.out] | rw [hby, e1.out] | rw [hby, e2.out])
            go_ret
            exact ⟨.inl ⟨by rw [HT.out, HNo.out]; rfl, rfl⟩, rfl⟩
      · have x15 : x ≤ 15 := by have := HH.out.1; have := HH.out.2.2.1 (by omega); omega
        have hc256 := b.toNat_lt
        obtain ⟨n, hn⟩ : ∃ n, n = b.toNat := ⟨_, rfl⟩
        have hn0 : (0 : Int) ≤ (n : Int) := by omega
        have hn256 : (n : Int) ≤ 255 := by omega
        clear hz hk
        have hby : (b.toNat : Int) = (n : Int) := by rw [hn]
        have hexD : ∀ (d : Nat) (y : Int), esc.hexv false b = some d → y = 16 * x + d → RelS false a b 2 (16 * acc + d) y := fun d y hd hy => HH.out.step (by omega) hd hy
        have hexN : esc.hexv false b = none → sofS false a b 2 = none := fun hd => sofS_none (k := 1) (by omega) hd
        have HxD := Lib.hid hexD; have HxN := Lib.hid hexN; have HN := Lib.hid hn; clear hexD hexN hn hc256
        by_cases hD : 48 ≤ n ∧ n ≤ 57
        · have HS := Lib.hid (HxD.out (n - 48) (16 * x + (n : Int) - 48) (hexv_D HN.out hD) (by omega))
          have e1 : Hid (mdl.inr (n : Int) 48 57 = true) := mdl.inr_of (by omega) (by omega)
          have hsm : 16 * x + (n : Int) - 48 ≤ 255 := by omega
          go_wp2_with (go_at_call 56; refine (mdl.l1In _ _ _ _).mono ?_; rintro e w1 ⟨rfl, rfl⟩; first | rw [e1.out] | rw [hby, e1.out])
          exact ⟨⟨2, 16 * acc + (n - 48), 16 * x + (n : Int) - 48, 2, (by first | rfl | (congr 1; omega)), rfl, rfl, by omega, by omega, by omega, HS⟩, by simp [RowKit.intOf]⟩
        · have e1 : Hid (mdl.inr (n : Int) 48 57 = false) := mdl.inr_not (by omega)
          by_cases hU : 65 ≤ n ∧ n ≤ 70
          · have HS := Lib.hid (HxD.out (n - 55) (16 * x + (n : Int) - 55) (hexv_U HN.out hD hU) (by omega))
            have e2 : Hid (mdl.inr (n : Int) 65 70 = true) := mdl.inr_of (by omega) (by omega)
            go_wp2_with (go_at_call 56; refine (mdl.l1In _ _ _ _).mono ?_; rintro e w1 ⟨rfl, rfl⟩; first | rw [e1.out] | rw [e2.out] | rw [hby, e1.out] | rw [hby, e2.out])
            exact ⟨⟨2, 16 * acc + (n - 55), 16 * x + (n : Int) - 55, 2, (by first | rfl | (congr 1; omega)), rfl, rfl, by omega, by omega, by omega, HS⟩, by simp [RowKit.intOf]⟩
          · have e2 : Hid (mdl.inr (n : Int) 65 70 = false) := mdl.inr_not (by omega)
            have HNo := Lib.hid (HxN.out (hexv_X HN.out hD hU (fun h => by cases h.1)))
            go_wp2_with (go_at_call 56; refine (mdl.l1In _ _ _ _).mono ?_; rintro e w1 ⟨rfl, rfl⟩; first | rw [e1.out] | rw [e2.out] | rw [hby, e1.out] | rw [hby, e2.out])
            go_ret
            exact ⟨.inl ⟨by rw [HT.out, HNo.out]; rfl, rfl⟩, rfl⟩
      · obtain ⟨h1, _, _, h4⟩ := HH.out
        have H4 := Lib.hid h4
        subst h1
        have hacc : acc ≤ 255 := by omega
        clear h4 hz hk
        go_wp2
        go_ret
        refine ⟨.inr ⟨UInt8.ofNat acc, by rw [HT.out, H4.out]; rfl, ?_⟩, rfl⟩
        rw [UInt8.toNat_ofNat', Nat.mod_eq_of_lt (by omega)]
        rfl
  · have HT : Hid (esc.two false (s.data.toList.drop i) = none) := two_short _ (by rw [List.length_drop, len_eq]; omega)
    have hle : (s.size : Int) - 2 < (i : Int) := by omega
    go_enter Tryd.func40, Tryd.ntmps40
    go_wp2
    go_ret
    exact ⟨.inl ⟨HT.out, rfl⟩, rfl⟩

end Go.Proofs.YtofdnpbmanonpaaDoor.seq
