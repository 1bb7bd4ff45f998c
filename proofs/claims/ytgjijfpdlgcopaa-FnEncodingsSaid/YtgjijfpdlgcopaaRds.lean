/-
  What ReadSigned and ReadText of the project and of the model return, at every slice of bytes; they change nothing.
  Conditions: the slice has at most 2^46 bytes.
-/
import Derived.Test.YtgjijfpdlgcopaaRdu
namespace Go.Proofs.Ytgjijfpdlgcopaa.rds
open Go.ChangeShapes Go.WideShapes Go.ChangeAt Go.RowKit mem byt rdu
set_option linter.unusedVariables false

theorem half_neg (c : Int) (h : 0 ≤ c) (h1 : c ≤ 2000000000) : wrap64 (-(c + 1).tdiv 2) = -((c + 1) / 2) := by
  rw [Int.tdiv_eq_ediv_of_nonneg (by omega)]
  exact IntWalk.wrap64_in _ ⟨by omega, by omega⟩
theorem rds_no {l : List Int} {i x y : Int} {b : Bool} (h : enc.rdu l i = (x, y, b)) (hn : ¬ (b = true ∧ x ≤ 2000000000)) : enc.rds l i = (0, 0, false) := by
  unfold enc.rds
  rw [h, if_neg hn]
theorem rds_odd {l : List Int} {i x y : Int} (h : enc.rdu l i = (x, y, true)) (h1 : x ≤ 2000000000) (h2 : x % 2 = 1) : enc.rds l i = (-((x + 1) / 2), y, true) := by
  unfold enc.rds enc.zag
  rw [h, if_pos ⟨rfl, h1⟩, if_pos h2]
theorem rds_even {l : List Int} {i x y : Int} (h : enc.rdu l i = (x, y, true)) (h1 : x ≤ 2000000000) (h2 : ¬ x % 2 = 1) : enc.rds l i = (x / 2, y, true) := by
  unfold enc.rds enc.zag
  rw [h, if_pos ⟨rfl, h1⟩, if_neg h2]

theorem implRds (A : Option Addr) (n c : Nat) (l : List Int) (i : Int) (hn : n ≤ 70368744177664) (w : World) (hA : Sl w A n c l) :
    Calls Try.prog 16 #[.slice A n c, .int .i64 i] w (ThreeQ w (enc.rds l i)) := by
  have hb := enc.rdu_bd hA.1.bd i
  have hl := hA.1.len
  generalize hr : enc.rdu l i = r at hb
  obtain ⟨x, y, ok⟩ := r
  have HR := Lib.hid hr; have HA := Lib.hid hA; clear hr hA
  rw [hl] at hb
  obtain ⟨x0, x1, y0, y1, _⟩ := hb
  simp only at x0 x1 y0 y1
  clear hl
  cases ok
  · have HO := Lib.hid (rds_no HR.out (fun h => by cases h.1))
    go_enter Try.func16, Try.ntmps16
    go_wp2_with (go_at_call 13; refine (implRdu A n c l i hn _ HA.out).mono ?_; rintro e w1 ⟨rfl, rfl⟩; rw [HR.out]; unfold three)
    go_ret3
    exact three_ret2 HO.out rfl rfl
  · by_cases hm : x ≤ 2000000000
    · by_cases h2 : x % 2 = 1
      · have HO := Lib.hid (rds_odd HR.out hm h2)
        have HN := Lib.hid (half_neg x x0 hm)
        go_enter Try.func16, Try.ntmps16
        go_wp2_with (go_at_call 13; refine (implRdu A n c l i hn _ HA.out).mono ?_; rintro e w1 ⟨rfl, rfl⟩; rw [HR.out]; unfold three)
        go_ret3
        exact three_ret2 HO.out HN.out.symm rfl
      · have h3 : (x % 2 == 1) = false := by rw [beq_eq_false_iff_ne]; exact h2
        have HO := Lib.hid (rds_even HR.out hm h2)
        go_enter Try.func16, Try.ntmps16
        go_wp2_with (go_at_call 13; refine (implRdu A n c l i hn _ HA.out).mono ?_; rintro e w1 ⟨rfl, rfl⟩; rw [HR.out]; unfold three)
        go_ret3
        exact three_ret2 HO.out rfl rfl
    · have HO := Lib.hid (rds_no HR.out (fun h => hm h.2))
      go_enter Try.func16, Try.ntmps16
      go_wp2_with (go_at_call 13; refine (implRdu A n c l i hn _ HA.out).mono ?_; rintro e w1 ⟨rfl, rfl⟩; rw [HR.out]; unfold three)
      go_ret3
      exact three_ret2 HO.out rfl rfl

theorem specRds (A : Option Addr) (n c : Nat) (l : List Int) (i : Int) (hn : n ≤ 70368744177664) (w : World) (hA : Rd w A n l) :
    Calls Try.prog 27 #[.slice A n c, .int .i64 i] w (ThreeQ w (enc.rds l i)) := by
  have hb := enc.rdu_bd hA.bd i
  have hl := hA.len
  generalize hr : enc.rdu l i = r at hb
  obtain ⟨x, y, ok⟩ := r
  have HR := Lib.hid hr; have HA := Lib.hid hA; clear hr hA
  rw [hl] at hb
  obtain ⟨x0, x1, y0, y1, _⟩ := hb
  simp only at x0 x1 y0 y1
  clear hl
  cases ok
  · have HO := Lib.hid (rds_no HR.out (fun h => by cases h.1))
    go_enter Try.func27, Try.ntmps27
    go_wp2_with (go_at_call 25; refine (specRdu A n c l i hn _ HA.out).mono ?_; rintro e w1 ⟨rfl, rfl⟩; rw [HR.out]; unfold three)
    go_ret3
    exact three_ret2 HO.out rfl rfl
  · by_cases hm : x ≤ 2000000000
    · by_cases h2 : x % 2 = 1
      · have HO := Lib.hid (rds_odd HR.out hm h2)
        have HN := Lib.hid (half_neg x x0 hm)
        go_enter Try.func27, Try.ntmps27
        go_wp2_with (go_at_call 25; refine (specRdu A n c l i hn _ HA.out).mono ?_; rintro e w1 ⟨rfl, rfl⟩; rw [HR.out]; unfold three)
        go_ret3
        exact three_ret2 HO.out HN.out.symm rfl
      · have h3 : (x % 2 == 1) = false := by rw [beq_eq_false_iff_ne]; exact h2
        have HO := Lib.hid (rds_even HR.out hm h2)
        go_enter Try.func27, Try.ntmps27
        go_wp2_with (go_at_call 25; refine (specRdu A n c l i hn _ HA.out).mono ?_; rintro e w1 ⟨rfl, rfl⟩; rw [HR.out]; unfold three)
        go_ret3
        exact three_ret2 HO.out rfl rfl
    · have HO := Lib.hid (rds_no HR.out (fun h => hm h.2))
      go_enter Try.func27, Try.ntmps27
      go_wp2_with (go_at_call 25; refine (specRdu A n c l i hn _ HA.out).mono ?_; rintro e w1 ⟨rfl, rfl⟩; rw [HR.out]; unfold three)
      go_ret3
      exact three_ret2 HO.out rfl rfl

theorem Rd.sub {w : World} {a : Addr} {n p q : Nat} {l : List Int} (h : Rd w (some a) n l) (hq : p + q ≤ n) : Rd w (some (a.add p)) q ((l.drop p).take q) := by
  refine ⟨by rw [List.length_take, List.length_drop, h.1]; omega, (h.bd.drop p).take q, fun hn => ⟨_, rfl, fun j v hv => ?_⟩⟩
  obtain ⟨_, e, hcell⟩ := h.2.2 (by omega)
  obtain rfl := Option.some.inj e
  rw [add_add]
  refine hcell _ v ?_
  rw [List.getElem?_take] at hv
  split at hv
  · rw [← hv, List.getElem?_drop]
  · cases hv
theorem rd_none (w : World) (A : Option Addr) : Rd w A 0 [] := ⟨rfl, enc.Bd.nil, fun h => absurd h (by omega)⟩

/-- A call that returns a text, an index and a bool, and changes nothing. -/
def TextQ (w : World) (x : List Int × Int × Bool) (e : Ending) (w' : World) : Prop := e = .returned (.tuple #[.string (strOfNums x.1), .int .i64 x.2.1, .bool x.2.2]) ∧ w = w'
theorem text_no {w : World} {x : List Int × Int × Bool} (h : x = ([], 0, false)) : TextQ w x (.returned (.tuple #[.string ⟨#[]⟩, .int .i64 0, .bool false])) w := by
  subst h
  exact ⟨rfl, rfl⟩
theorem text_yes {w : World} {x : List Int × Int × Bool} {r : List Int} {y y' : Int} (h : x = (r, y', true)) (hy : y' = y) : TextQ w x (.returned (.tuple #[.string (strOfNums r), .int .i64 y, .bool true])) w := by
  subst h hy
  exact ⟨rfl, rfl⟩
theorem rdt_no {l : List Int} {i most x y : Int} {b : Bool} (h : enc.rdu l i = (x, y, b)) (hn : ¬ (b = true ∧ x ≤ most ∧ x ≤ l.length - y)) : enc.rdt l i most = ([], 0, false) := by
  unfold enc.rdt
  rw [h, if_neg hn]
theorem rdt_yes {l : List Int} {i most : Int} {p q : Nat} (h : enc.rdu l i = ((q : Int), (p : Int), true)) (h1 : (q : Int) ≤ most) (h2 : (q : Int) ≤ l.length - (p : Int)) : enc.rdt l i most = ((l.drop p).take q, (p : Int) + q, true) := by
  unfold enc.rdt
  rw [h, if_pos ⟨rfl, h1, h2⟩]
  rfl

theorem specRdt (A : Option Addr) (n c : Nat) (l : List Int) (i most : Int) (hn : n ≤ 70368744177664) (w : World) (hA : Sl w A n c l) :
    Calls Try.prog 29 #[.slice A n c, .int .i64 i, .int .i64 most] w (TextQ w (enc.rdt l i most)) := by
  have hb := enc.rdu_bd hA.1.bd i
  have hl := hA.1.len
  generalize hr : enc.rdu l i = r at hb
  obtain ⟨x, y, ok⟩ := r
  have HR := Lib.hid hr; have HA := Lib.hid hA; have HL := Lib.hid hl
  rw [hl] at hb
  obtain ⟨x0, x1, y0, y1, _⟩ := hb
  simp only at x0 x1 y0 y1
  clear hr hA hl
  cases ok
  · have HO := Lib.hid (rdt_no (most := most) HR.out (fun h => by cases h.1))
    go_enter Try.func29, Try.ntmps29
    go_wp2_with (go_at_call 25; refine (specRdu A n c l i hn _ HA.out.1).mono ?_; rintro e w1 ⟨rfl, rfl⟩; rw [HR.out]; unfold three)
    go_ret3
    exact text_no HO.out
  · by_cases hm : x ≤ most
    · by_cases h2 : x ≤ (n : Int) - y
      · obtain ⟨q, rfl⟩ := Int.eq_ofNat_of_zero_le x0
        obtain ⟨p, rfl⟩ := Int.eq_ofNat_of_zero_le y0
        have hpq : p + q ≤ n := by omega
        have hcc := HA.out.2.1
        have HO := Lib.hid (rdt_yes HR.out hm (by rw [HL.out]; exact h2))
        by_cases hq0 : c = p
        · have h0 : q = 0 := by omega
          subst h0 hq0
          have hcv := fun k => conv_rd (P := Try.prog) w 22 9 5 Try.underlying22 Try.underlying5 Try.underlying9 (rd_none w A) k
          go_enter Try.func29, Try.ntmps29
          go_wp2_with (go_at_call 25; refine (specRdu A n c l i hn _ HA.out.1).mono ?_; rintro e w1 ⟨rfl, rfl⟩; rw [HR.out]; unfold three)
          go_ret3
          exact text_yes HO.out (by omega)
        · obtain ⟨a, rfl⟩ : ∃ a, A = some a := by
            cases A with
            | none => have := HA.out.2.2.2 rfl; omega
            | some a => exact ⟨a, rfl⟩
          have hcv := fun k => conv_rd (P := Try.prog) w 22 9 5 Try.underlying22 Try.underlying5 Try.underlying9 (Rd.sub HA.out.1 hpq) k
          go_enter Try.func29, Try.ntmps29
          go_wp2_with (go_at_call 25; refine (specRdu (some a) n c l i hn _ HA.out.1).mono ?_; rintro e w1 ⟨rfl, rfl⟩; rw [HR.out]; unfold three)
          go_ret3
          exact text_yes HO.out (by omega)
      · have HO := Lib.hid (rdt_no (most := most) HR.out (fun h => h2 (by rw [← HL.out]; exact h.2.2)))
        go_enter Try.func29, Try.ntmps29
        go_wp2_with (go_at_call 25; refine (specRdu A n c l i hn _ HA.out.1).mono ?_; rintro e w1 ⟨rfl, rfl⟩; rw [HR.out]; unfold three)
        go_ret3
        exact text_no HO.out
    · have HO := Lib.hid (rdt_no (most := most) HR.out (fun h => hm h.2.1))
      go_enter Try.func29, Try.ntmps29
      go_wp2_with (go_at_call 25; refine (specRdu A n c l i hn _ HA.out.1).mono ?_; rintro e w1 ⟨rfl, rfl⟩; rw [HR.out]; unfold three)
      go_ret3
      exact text_no HO.out

theorem implRdt (A : Option Addr) (n c : Nat) (l : List Int) (i most : Int) (hn : n ≤ 70368744177664) (w : World) (hA : Sl w A n c l) :
    Calls Try.prog 19 #[.slice A n c, .int .i64 i, .int .i64 most] w (TextQ w (enc.rdt l i most)) := by
  have hb := enc.rdu_bd hA.1.bd i
  have hl := hA.1.len
  generalize hr : enc.rdu l i = r at hb
  obtain ⟨x, y, ok⟩ := r
  have HR := Lib.hid hr; have HA := Lib.hid hA; have HL := Lib.hid hl
  rw [hl] at hb
  obtain ⟨x0, x1, y0, y1, _⟩ := hb
  simp only at x0 x1 y0 y1
  clear hr hA hl
  cases ok
  · have HO := Lib.hid (rdt_no (most := most) HR.out (fun h => by cases h.1))
    go_enter Try.func19, Try.ntmps19
    go_wp2_with (go_at_call 13; refine (implRdu A n c l i hn _ HA.out).mono ?_; rintro e w1 ⟨rfl, rfl⟩; rw [HR.out]; unfold three)
    go_ret3
    exact text_no HO.out
  · by_cases hm : x ≤ most
    · by_cases h2 : x ≤ (n : Int) - y
      · obtain ⟨q, rfl⟩ := Int.eq_ofNat_of_zero_le x0
        obtain ⟨p, rfl⟩ := Int.eq_ofNat_of_zero_le y0
        have hpq : p + q ≤ n := by omega
        have hcc := HA.out.2.1
        have HO := Lib.hid (rdt_yes HR.out hm (by rw [HL.out]; exact h2))
        by_cases hq0 : q = 0
        · subst hq0
          have hcv := fun k => conv_rd (P := Try.prog) w 22 9 5 Try.underlying22 Try.underlying5 Try.underlying9 (rd_none w A) k
          go_enter Try.func19, Try.ntmps19
          go_wp2_with (go_at_call 13; refine (implRdu A n c l i hn _ HA.out).mono ?_; rintro e w1 ⟨rfl, rfl⟩; rw [HR.out]; unfold three)
          go_ret3
          exact text_yes HO.out (by omega)
        · obtain ⟨a, rfl⟩ : ∃ a, A = some a := by
            cases A with
            | none => have := HA.out.2.2.2 rfl; omega
            | some a => exact ⟨a, rfl⟩
          have hcv := fun k => conv_rd (P := Try.prog) w 22 9 5 Try.underlying22 Try.underlying5 Try.underlying9 (Rd.sub HA.out.1 hpq) k
          go_enter Try.func19, Try.ntmps19
          go_wp2_with (go_at_call 13; refine (implRdu (some a) n c l i hn _ HA.out).mono ?_; rintro e w1 ⟨rfl, rfl⟩; rw [HR.out]; unfold three)
          go_ret3
          exact text_yes HO.out (by omega)
      · have HO := Lib.hid (rdt_no (most := most) HR.out (fun h => h2 (by rw [← HL.out]; exact h.2.2)))
        go_enter Try.func19, Try.ntmps19
        go_wp2_with (go_at_call 13; refine (implRdu A n c l i hn _ HA.out).mono ?_; rintro e w1 ⟨rfl, rfl⟩; rw [HR.out]; unfold three)
        go_ret3
        exact text_no HO.out
    · have HO := Lib.hid (rdt_no (most := most) HR.out (fun h => hm h.2.1))
      go_enter Try.func19, Try.ntmps19
      go_wp2_with (go_at_call 13; refine (implRdu A n c l i hn _ HA.out).mono ?_; rintro e w1 ⟨rfl, rfl⟩; rw [HR.out]; unfold three)
      go_ret3
      exact text_no HO.out

end Go.Proofs.Ytgjijfpdlgcopaa.rds
