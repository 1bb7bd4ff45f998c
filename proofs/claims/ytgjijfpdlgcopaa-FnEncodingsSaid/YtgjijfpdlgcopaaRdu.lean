/-
  What ReadUvarint and ReadSigned of the project and of the model return, at every slice of bytes and every index; they change nothing.
  Conditions: the slice has at most 2^46 bytes.
-/
import Derived.Test.YtgjijfpdlgcopaaUva
namespace Go.Proofs.Ytgjijfpdlgcopaa.rdu
open Go.ChangeShapes Go.WideShapes Go.ChangeAt Go.RowKit mem byt
set_option linter.unusedVariables false

/-- A slice that reads as l, as Go has it: nil has no capacity. -/
def Sl (w : World) (A : Option Addr) (n c : Nat) (l : List Int) : Prop := Rd w A n l ∧ n ≤ c ∧ c ≤ maxLen ∧ (A = none → c = 0)
theorem sl_own {w : World} {lo : Nat} {A : Option Addr} {n c : Nat} {l : List Int} (h : Own w lo A n c l) : Sl w A n c l := by
  refine ⟨h.rd, ?_⟩
  rcases h.row.2 with ⟨e, h0⟩ | ⟨g, cap, cur, e, _, _, h1, h2, _⟩
  · injection e with e1 e2 e3
    subst e3
    exact ⟨by omega, Nat.zero_le _, fun _ => rfl⟩
  · injection e with e1 e2 e3
    subst e3
    exact ⟨h1, h2, fun hh => by rw [e1] at hh; cases hh⟩
theorem Sl.below {w w' : World} {A : Option Addr} {n c : Nat} {l : List Int} (h : Sl w A n c l) (hb : Below w.heap.size w w') : Sl w' A n c l := ⟨h.1.below hb, h.2⟩

/-- k bytes from index i on have been read: they are n, the next one counts u times. -/
def Prog (l : List Int) (i : Int) (k : Nat) (n u : Int) : Prop :=
  (0 ≤ i → enc.decF 6 0 0 1 (l.drop i.toNat) = enc.decF (6 - k) k n u (l.drop (i.toNat + k))) ∧ k ≤ 6 ∧ 0 ≤ n ∧ n < u ∧ u = 128 ^ k
theorem Prog.start (l : List Int) (i : Int) : Prog l i 0 0 1 := ⟨fun _ => rfl, by omega, by omega, by omega, rfl⟩

theorem pow128 {k : Nat} (h : k ≤ 6) : (1 : Int) ≤ 128 ^ k ∧ (128 : Int) ^ k ≤ 4398046511104 ∧ (k ≤ 5 → (128 : Int) ^ k ≤ 34359738368) := by
  obtain rfl | rfl | rfl | rfl | rfl | rfl | rfl : k = 0 ∨ k = 1 ∨ k = 2 ∨ k = 3 ∨ k = 4 ∨ k = 5 ∨ k = 6 := by omega
  all_goals decide

section
variable {l : List Int} {i : Int} {k : Nat} {n u v : Int}
theorem Prog.bd (h : Prog l i k n u) : 0 ≤ n ∧ n < u ∧ 1 ≤ u ∧ u ≤ 4398046511104 ∧ (k ≤ 5 → u ≤ 34359738368) := by
  obtain ⟨_, h1, h2, h3, h4⟩ := h
  have := pow128 h1
  rw [← h4] at this
  omega
theorem mul_bd (h0 : 1 ≤ u) (h1 : u ≤ 34359738368) (v : Int) : 0 ≤ v % 128 * u ∧ v % 128 * u ≤ 127 * u ∧ 127 * u ≤ 4363686772736 := by
  refine ⟨Int.mul_nonneg (by omega) (by omega), Int.mul_le_mul_of_nonneg_right (by omega) (by omega), by omega⟩
theorem Prog.head (h : Prog l i k n u) (hi : 0 ≤ i) (hk : k < 6) (hv : l[i.toNat + k]? = some v) : enc.decF 6 0 0 1 (l.drop i.toNat) = enc.decF (6 - (k + 1) + 1) k n u (v :: l.drop (i.toNat + (k + 1))) := by
  obtain ⟨hl, e⟩ := List.getElem?_eq_some_iff.1 hv
  rw [h.1 hi, List.drop_eq_getElem_cons hl, e, show 6 - k = 6 - (k + 1) + 1 by omega, Nat.add_assoc]
theorem Prog.step (h : Prog l i k n u) (hk : k < 6) (hv : l[i.toNat + k]? = some v) (h0 : 128 ≤ v) (h1 : v ≤ 255) : Prog l i (k + 1) (n + v % 128 * u) (u * 128) := by
  have hb := h.bd
  have hm := mul_bd hb.2.2.1 (hb.2.2.2.2 (by omega)) v
  have e : v % 128 = v - 128 := by omega
  refine ⟨fun hi => ?_, by omega, by omega, by omega, by rw [h.2.2.2.2, Int.pow_succ]⟩
  rw [h.head hi hk hv, enc.decF_more _ _ _ _ _ _ h0, e]
theorem dec_in (h : 0 ≤ i) (hl : i ≤ (l.length : Int)) : enc.dec l i = enc.decF 6 0 0 1 (l.drop i.toNat) := by unfold enc.dec; rw [if_pos ⟨h, hl⟩]
theorem Prog.good (h : Prog l i k n u) (hi : 0 ≤ i) (hk : k < 6) (hv : l[i.toNat + k]? = some v) (h0 : 0 ≤ v) (h1 : v < 128) (hg : ¬ ((0 < k ∧ v = 0) ∨ 1000000000000 < n + v % 128 * u)) : enc.rdu l i = (n + v % 128 * u, i + (k + 1 : Nat), true) := by
  obtain ⟨hl, _⟩ := List.getElem?_eq_some_iff.1 hv
  have e : v % 128 = v := by omega
  rw [e] at hg ⊢
  exact enc.rdu_some (by rw [dec_in hi (by omega), h.head hi hk hv, enc.decF_good _ _ _ _ _ _ h1 hg])
theorem Prog.bad (h : Prog l i k n u) (hi : 0 ≤ i) (hk : k < 6) (hv : l[i.toNat + k]? = some v) (h0 : 0 ≤ v) (h1 : v < 128) (hg : (0 < k ∧ v = 0) ∨ 1000000000000 < n + v % 128 * u) : enc.rdu l i = (0, 0, false) := by
  obtain ⟨hl, _⟩ := List.getElem?_eq_some_iff.1 hv
  have e : v % 128 = v := by omega
  rw [e] at hg
  exact enc.rdu_none (by rw [dec_in hi (by omega), h.head hi hk hv, enc.decF_bad _ _ _ _ _ _ h1 hg])
theorem rdu_out (h : ¬ (0 ≤ i ∧ i ≤ (l.length : Int))) : enc.rdu l i = (0, 0, false) := enc.rdu_none (by unfold enc.dec; rw [if_neg h])
theorem Prog.out (h : Prog l i k n u) (hk : k = 6 ∨ ¬ (0 ≤ i ∧ i + k < (l.length : Int))) : enc.rdu l i = (0, 0, false) := by
  by_cases hin : 0 ≤ i ∧ i ≤ (l.length : Int)
  · refine enc.rdu_none ?_
    rw [dec_in hin.1 hin.2, h.1 hin.1]
    rcases hk with rfl | hk
    · rfl
    · rw [List.drop_eq_nil_of_le (by omega), enc.decF_nil]
  · exact rdu_out hin
end

def three (x : Int × Int × Bool) : Value := .tuple #[.int .i64 x.1, .int .i64 x.2.1, .bool x.2.2]
/-- A call that returns the three and changes nothing. -/
def ThreeQ (w : World) (x : Int × Int × Bool) (e : Ending) (w' : World) : Prop := e = .returned (three x) ∧ w = w'
theorem three_ret {w : World} {x : Int × Int × Bool} {a b : Int} {c : Bool} (h : x = (a, b, c)) : ThreeQ w x (.returned (.tuple #[.int .i64 a, .int .i64 b, .bool c])) w := by
  subst h
  exact ⟨rfl, rfl⟩

theorem three_ret2 {w : World} {x : Int × Int × Bool} {a b a' b' : Int} {c : Bool} (h : x = (a', b', c)) (ha : a' = a) (hb : b' = b) : ThreeQ w x (.returned (.tuple #[.int .i64 a, .int .i64 b, .bool c])) w := by
  subst ha hb
  exact three_ret h

/-- The cut of a slice reads as the cut of the list. -/
theorem Rd.cut {w : World} {A : Option Addr} {n c p q : Nat} {l : List Int} (h : Rd w A n l) (hq : p + q ≤ n) (hc : n ≤ c) :
    Rd w (if c = p then A else A.map (·.add p)) q ((l.drop p).take q) := by
  refine ⟨by rw [List.length_take, List.length_drop, h.1]; omega, (h.bd.drop p).take q, fun hn => ?_⟩
  obtain ⟨a, rfl, hcell⟩ := h.2.2 (by omega)
  rw [if_neg (by omega)]
  refine ⟨a.add p, rfl, fun j v hv => ?_⟩
  rw [add_add]
  refine hcell _ v ?_
  rw [List.getElem?_take] at hv
  split at hv
  · rw [← hv, List.getElem?_drop]
  · cases hv

theorem cutAt {w : World} {a : Addr} {n p q k : Nat} {l : List Int} (h : Rd w (some a) n l) (hq : p + q ≤ n) (hk : k < q) :
    ∃ v, l[((p : Int)).toNat + k]? = some v ∧ 0 ≤ v ∧ v ≤ 255 ∧ w.cell? ((a.add p).add k) = some (.int .u8 v) := by
  obtain ⟨a', v, e, hv, v0, v1, hc⟩ := h.at_ (k := p + k) (by omega)
  obtain rfl := Option.some.inj e
  exact ⟨v, by rw [Int.toNat_natCast]; exact hv, v0, v1, by rw [add_add]; exact hc⟩

theorem implRdu (A : Option Addr) (n c : Nat) (l : List Int) (i : Int) (hn : n ≤ 70368744177664) (w : World) (hA : Sl w A n c l) :
    Calls Try.prog 13 #[.slice A n c, .int .i64 i] w (ThreeQ w (enc.rdu l i)) := by
  obtain ⟨hrd, hc, hcm, hnil⟩ := hA
  have hl := hrd.len
  by_cases hin : 0 ≤ i ∧ i ≤ (n : Int)
  · have hi := uva.inr_of hin.1 hin.2
    obtain ⟨p, rfl⟩ := Int.eq_ofNat_of_zero_le hin.1
    obtain ⟨q, hq, hq6, hpq⟩ : ∃ q : Nat, nums.mn (n : Int) ((p : Int) + 6) = ((p + q : Nat) : Int) ∧ p + q ≤ n ∧ (q = 6 ∨ (q < 6 ∧ p + q = n)) := by
      unfold nums.mn
      by_cases h6 : p + 6 < n
      · exact ⟨6, by rw [if_pos (by omega)]; omega, by omega, by omega⟩
      · exact ⟨n - p, by rw [if_neg (by omega)]; omega, by omega, by omega⟩
    have HI := Lib.hid hi; have HL := Lib.hid hl; have HQ := Lib.hid hq
    have hp : (p : Int) ≤ 70368744177664 := by omega
    clear hi hl hq hin
    by_cases hcp : c = p
    · have h0 : q = 0 := by omega
      have ho := (Prog.start l (p : Int)).out (Or.inr (by rw [HL.out]; omega))
      have HO := Lib.hid ho
      clear hrd hnil ho
      subst h0
      subst hcp
      go_enter Try.func13, Try.ntmps13
      go_wp2_with (first | (go_at_call 35; refine (nums.implInRange _ _ _ _).mono ?_; rintro e w2 ⟨rfl, rfl⟩; rw [HI.out]) | (go_at_call 37; refine (nums.implMin _ _ _).mono ?_; rintro e w3 ⟨rfl, rfl⟩; rw [HQ.out]))
      go_loopg [7, 8, 25] 1 (fun gk a1 a2 a3 wr => ∃ x y : Int, a1 = .int .i64 x ∧ a2 = .int .i64 y ∧ a3 = .int .i64 0 ∧ wr = w)
      case atStart => exact ⟨0, 1, rfl, rfl, rfl, rfl⟩
      case round =>
        obtain ⟨x, y, rfl, rfl, rfl, rfl⟩ := hrel
        go_wp2
        go_ret3
        exact three_ret HO.out
    · obtain ⟨a, rfl⟩ : ∃ a, A = some a := by
        cases A with
        | none => have := hnil rfl; omega
        | some a => exact ⟨a, rfl⟩
      have HR := Lib.hid hrd
      clear hrd hnil
      go_enter Try.func13, Try.ntmps13
      go_wp2_with (first | (go_at_call 35; refine (nums.implInRange _ _ _ _).mono ?_; rintro e w2 ⟨rfl, rfl⟩; rw [HI.out]) | (go_at_call 37; refine (nums.implMin _ _ _).mono ?_; rintro e w3 ⟨rfl, rfl⟩; rw [HQ.out]))
      go_loopg [7, 8, 25] q (fun gk a1 a2 a3 wr => ∃ (k : Nat) (m u : Int), a1 = .int .i64 m ∧ a2 = .int .i64 u ∧ a3 = .int .i64 k ∧ gk + k = q ∧ Prog l (p : Int) k m u ∧ wr = w)
      case atStart => exact ⟨0, 0, 1, rfl, rfl, rfl, by omega, Prog.start _ _, rfl⟩
      case round =>
        obtain ⟨k, m, u, rfl, rfl, rfl, hk, hpr, rfl⟩ := hrel
        have hb := hpr.bd
        by_cases hlt : k < q
        · obtain ⟨v, hv, v0, v1, hc1⟩ := cutAt HR.out hq6 hlt
          have hmb := mul_bd hb.2.2.1 (hb.2.2.2.2 (by omega)) v
          obtain ⟨m0, m1, u1, u2, u3⟩ := hb
          have u4 := u3 (by omega)
          obtain ⟨b1, b2, b3⟩ := hmb
          have hk6 : k < 6 := by omega
          clear u3
          by_cases h128 : 128 ≤ v
          · have HS := Lib.hid (hpr.step hk6 hv h128 v1); have HK := Lib.hid hk
            clear hpr hv hk
            go_wp2
            go_roundg (q - (k + 1))
            case measure => have := HK.out; omega
            case rel => exact ⟨k + 1, _, _, rfl, rfl, by go_num, by have := HK.out; omega, HS.out, rfl⟩
          · by_cases hbig : 1000000000000 < m + v % 128 * u
            · have HO := Lib.hid (hpr.bad (by omega) hk6 hv v0 (by omega) (Or.inr hbig)); clear hpr hv hk
              go_wp2
              all_goals
                go_ret3
                exact three_ret HO.out
            · by_cases hk0 : 0 < k
              · by_cases hv0 : v = 0
                · subst hv0
                  have HO := Lib.hid (hpr.bad (by omega) hk6 hv v0 (by omega) (Or.inl ⟨hk0, rfl⟩)); clear hpr hv hk
                  go_wp2
                  go_ret3
                  exact three_ret HO.out
                · have hne : (v == 0) = false := by rw [beq_eq_false_iff_ne]; exact hv0
                  have HO := Lib.hid (hpr.good (by omega) hk6 hv v0 (by omega) (fun hh => hh.elim (fun h => hv0 h.2) hbig)); clear hpr hv hk hv0
                  go_wp2
                  go_ret3
                  exact three_ret (by rw [HO.out]; simp; omega)
              · have HO := Lib.hid (hpr.good (by omega) hk6 hv v0 (by omega) (fun hh => hh.elim (fun h => hk0 h.1) hbig)); clear hpr hv hk
                go_wp2
                go_ret3
                exact three_ret (by rw [HO.out]; simp; omega)
        · have ho := hpr.out (by rw [HL.out]; omega)
          have HO := Lib.hid ho
          clear hpr ho hb hk
          go_wp2
          go_ret3
          exact three_ret HO.out
  · have hi := uva.inr_not hin
    have HI := Lib.hid hi; have HO := Lib.hid (rdu_out (l := l) (i := i) (by rw [hl]; exact hin)); clear hi hin hl
    go_enter Try.func13, Try.ntmps13
    go_wp2_with (go_at_call 35; refine (nums.implInRange _ _ _ _).mono ?_; rintro e w2 ⟨rfl, rfl⟩; rw [HI.out])
    go_ret3
    exact three_ret HO.out

theorem dec_range {l : List Int} {i : Int} (h : ¬ (0 ≤ i ∧ i < (l.length : Int))) : enc.rdu l i = (0, 0, false) := (Prog.start l i).out (Or.inr (by omega))

set_option maxHeartbeats 4000000 in
theorem specRdu (A : Option Addr) (n c : Nat) (l : List Int) (i : Int) (hn : n ≤ 70368744177664) (w : World) (hA : Rd w A n l) :
    Calls Try.prog 25 #[.slice A n c, .int .i64 i] w (ThreeQ w (enc.rdu l i)) := by
  have hl := hA.len
  have HL := Lib.hid hl; have HR := Lib.hid hA; clear hl hA
  go_enter Try.func25, Try.ntmps25
  go_wp2
  go_loopg [7, 8] 6 (fun gk a1 a2 wr => ∃ (k : Nat) (m u x : Int), a1 = .int .i64 m ∧ a2 = .int .i64 x ∧ Hid (x = (k : Int)) ∧ gk + k = 6 ∧ Prog l i k m u ∧ wr = w)
  case atStart => exact ⟨0, 0, 1, 0, rfl, rfl, rfl, by omega, Prog.start _ _, rfl⟩
  case round =>
    obtain ⟨k, m, u, x, rfl, rfl, HX, hk, hpr, rfl⟩ := hrel
    by_cases h6 : k = 6
    · have ho := hpr.out (Or.inl h6)
      have HO := Lib.hid ho
      have hx : x = 6 := by have := HX.out; omega
      clear hpr ho hk h6 HX
      subst hx
      go_wp2
      go_ret3
      exact three_ret HO.out
    · have hx5 : x ≤ 5 := by have := HX.out; omega
      have hx0 : 0 ≤ x := by have := HX.out; omega
      by_cases hin : 0 ≤ i ∧ i < (n : Int) - x
      · obtain ⟨i0, i1⟩ := hin
        obtain ⟨p, rfl⟩ := Int.eq_ofNat_of_zero_le i0
        obtain ⟨a, v, rfl, hv, v0, v1, hc⟩ := HR.out.at_ (k := p + k) (by have := HX.out; omega)
        have hb := hpr.bd
        have hk6 : k < 6 := by omega
        have hmb := mul_bd hb.2.2.1 (hb.2.2.2.2 (by omega)) v
        have hu := hpr.2.2.2.2
        have e1 := uva.and127 v v0 (by omega)
        have HK := Lib.hid hk
        clear hk
        obtain ⟨m0, m1, u1, u2, u3⟩ := hb
        have u4 := u3 (by omega)
        obtain ⟨b1, b2, b3⟩ := hmb
        clear u3 h6 i0
        obtain rfl | rfl | rfl | rfl | rfl | rfl : k = 0 ∨ k = 1 ∨ k = 2 ∨ k = 3 ∨ k = 4 ∨ k = 5 := by omega
        · obtain rfl : x = 0 := HX.out
          obtain rfl : u = 1 := hu.trans (by decide)
          rw [Nat.add_zero] at hc
          have e2 : bits .or .i64 m (v % 128) = m + v % 128 := by
            have := uva.join 0 m (v % 128) m0 (by omega) (by omega) (by omega)
            simpa using this
          have e3 : bits .or .i64 m 0 = m := by
            have := uva.join 0 m 0 m0 (by omega) (by omega) (by omega)
            simpa using this
          clear hu HX
          by_cases h128 : 128 ≤ v
          · have HS := Lib.hid (hpr.step hk6 hv h128 v1)
            clear hpr hv
            go_wp2
            go_roundg 5
            case measure => have := HK.out; omega
            case rel => exact ⟨1, _, _, 1, rfl, rfl, rfl, by omega, by simpa using HS.out, rfl⟩
          · have h127 : v < 128 := by omega
            by_cases hz : v = 0
            · subst hz
              have HO := Lib.hid (hpr.good (by omega) hk6 hv v0 h127 (by omega))
              clear hpr hv
              go_wp2
              go_ret3
              exact three_ret2 HO.out (by omega) (by omega)
            · have hne : (v == 0) = false := by rw [beq_eq_false_iff_ne]; exact hz
              by_cases hbig : 1000000000000 < m + v % 128 * 1
              · omega
              · have HO := Lib.hid (hpr.good (by omega) hk6 hv v0 h127 (fun hh => hh.elim (fun h => hz h.2) hbig))
                clear hpr hv
                go_wp2
                go_ret3
                exact three_ret2 HO.out (by omega) (by omega)
        · obtain rfl : x = 1 := HX.out
          obtain rfl : u = 128 := hu.trans (by decide)
          rw [show a.add (p + 1) = ⟨a.block, a.off + (p + 1), none⟩ from by unfold Addr.add; rw [if_neg (by omega)]] at hc
          have e2 : bits .or .i64 m (v % 128 * 128) = m + v % 128 * 128 := by
            have := uva.join 7 m (v % 128) m0 (by omega) (by omega) (by omega)
            simpa using this
          have e3 : bits .or .i64 m 0 = m := by
            have := uva.join 7 m 0 m0 (by omega) (by omega) (by omega)
            simpa using this
          clear hu HX
          by_cases h128 : 128 ≤ v
          · have HS := Lib.hid (hpr.step hk6 hv h128 v1)
            clear hpr hv
            go_wp2
            go_roundg 4
            case measure => have := HK.out; omega
            case rel => exact ⟨2, _, _, 2, rfl, rfl, rfl, by omega, by simpa using HS.out, rfl⟩
          · have h127 : v < 128 := by omega
            by_cases hz : v = 0
            · subst hz
              have HO := Lib.hid (hpr.bad (by omega) hk6 hv v0 h127 (Or.inl ⟨by omega, rfl⟩))
              have e0 : bits .and .i64 0 127 = 0 := by decide
              clear hpr hv e1 e2 b1 b2 b3
              go_wp2
              go_ret3
              exact three_ret2 HO.out rfl rfl
            · have hne : (v == 0) = false := by rw [beq_eq_false_iff_ne]; exact hz
              by_cases hbig : 1000000000000 < m + v % 128 * 128
              · omega
              · have HO := Lib.hid (hpr.good (by omega) hk6 hv v0 h127 (fun hh => hh.elim (fun h => hz h.2) hbig))
                clear hpr hv
                go_wp2
                go_ret3
                exact three_ret2 HO.out (by omega) (by omega)
        · obtain rfl : x = 2 := HX.out
          obtain rfl : u = 16384 := hu.trans (by decide)
          rw [show a.add (p + 2) = ⟨a.block, a.off + (p + 2), none⟩ from by unfold Addr.add; rw [if_neg (by omega)]] at hc
          have e2 : bits .or .i64 m (v % 128 * 16384) = m + v % 128 * 16384 := by
            have := uva.join 14 m (v % 128) m0 (by omega) (by omega) (by omega)
            simpa using this
          have e3 : bits .or .i64 m 0 = m := by
            have := uva.join 14 m 0 m0 (by omega) (by omega) (by omega)
            simpa using this
          clear hu HX
          by_cases h128 : 128 ≤ v
          · have HS := Lib.hid (hpr.step hk6 hv h128 v1)
            clear hpr hv
            go_wp2
            go_roundg 3
            case measure => have := HK.out; omega
            case rel => exact ⟨3, _, _, 3, rfl, rfl, rfl, by omega, by simpa using HS.out, rfl⟩
          · have h127 : v < 128 := by omega
            by_cases hz : v = 0
            · subst hz
              have HO := Lib.hid (hpr.bad (by omega) hk6 hv v0 h127 (Or.inl ⟨by omega, rfl⟩))
              have e0 : bits .and .i64 0 127 = 0 := by decide
              clear hpr hv e1 e2 b1 b2 b3
              go_wp2
              go_ret3
              exact three_ret2 HO.out rfl rfl
            · have hne : (v == 0) = false := by rw [beq_eq_false_iff_ne]; exact hz
              by_cases hbig : 1000000000000 < m + v % 128 * 16384
              · omega
              · have HO := Lib.hid (hpr.good (by omega) hk6 hv v0 h127 (fun hh => hh.elim (fun h => hz h.2) hbig))
                clear hpr hv
                go_wp2
                go_ret3
                exact three_ret2 HO.out (by omega) (by omega)
        · obtain rfl : x = 3 := HX.out
          obtain rfl : u = 2097152 := hu.trans (by decide)
          rw [show a.add (p + 3) = ⟨a.block, a.off + (p + 3), none⟩ from by unfold Addr.add; rw [if_neg (by omega)]] at hc
          have e2 : bits .or .i64 m (v % 128 * 2097152) = m + v % 128 * 2097152 := by
            have := uva.join 21 m (v % 128) m0 (by omega) (by omega) (by omega)
            simpa using this
          have e3 : bits .or .i64 m 0 = m := by
            have := uva.join 21 m 0 m0 (by omega) (by omega) (by omega)
            simpa using this
          clear hu HX
          by_cases h128 : 128 ≤ v
          · have HS := Lib.hid (hpr.step hk6 hv h128 v1)
            clear hpr hv
            go_wp2
            go_roundg 2
            case measure => have := HK.out; omega
            case rel => exact ⟨4, _, _, 4, rfl, rfl, rfl, by omega, by simpa using HS.out, rfl⟩
          · have h127 : v < 128 := by omega
            by_cases hz : v = 0
            · subst hz
              have HO := Lib.hid (hpr.bad (by omega) hk6 hv v0 h127 (Or.inl ⟨by omega, rfl⟩))
              have e0 : bits .and .i64 0 127 = 0 := by decide
              clear hpr hv e1 e2 b1 b2 b3
              go_wp2
              go_ret3
              exact three_ret2 HO.out rfl rfl
            · have hne : (v == 0) = false := by rw [beq_eq_false_iff_ne]; exact hz
              by_cases hbig : 1000000000000 < m + v % 128 * 2097152
              · omega
              · have HO := Lib.hid (hpr.good (by omega) hk6 hv v0 h127 (fun hh => hh.elim (fun h => hz h.2) hbig))
                clear hpr hv
                go_wp2
                go_ret3
                exact three_ret2 HO.out (by omega) (by omega)
        · obtain rfl : x = 4 := HX.out
          obtain rfl : u = 268435456 := hu.trans (by decide)
          rw [show a.add (p + 4) = ⟨a.block, a.off + (p + 4), none⟩ from by unfold Addr.add; rw [if_neg (by omega)]] at hc
          have e2 : bits .or .i64 m (v % 128 * 268435456) = m + v % 128 * 268435456 := by
            have := uva.join 28 m (v % 128) m0 (by omega) (by omega) (by omega)
            simpa using this
          have e3 : bits .or .i64 m 0 = m := by
            have := uva.join 28 m 0 m0 (by omega) (by omega) (by omega)
            simpa using this
          clear hu HX
          by_cases h128 : 128 ≤ v
          · have HS := Lib.hid (hpr.step hk6 hv h128 v1)
            clear hpr hv
            go_wp2
            go_roundg 1
            case measure => have := HK.out; omega
            case rel => exact ⟨5, _, _, 5, rfl, rfl, rfl, by omega, by simpa using HS.out, rfl⟩
          · have h127 : v < 128 := by omega
            by_cases hz : v = 0
            · subst hz
              have HO := Lib.hid (hpr.bad (by omega) hk6 hv v0 h127 (Or.inl ⟨by omega, rfl⟩))
              have e0 : bits .and .i64 0 127 = 0 := by decide
              clear hpr hv e1 e2 b1 b2 b3
              go_wp2
              go_ret3
              exact three_ret2 HO.out rfl rfl
            · have hne : (v == 0) = false := by rw [beq_eq_false_iff_ne]; exact hz
              by_cases hbig : 1000000000000 < m + v % 128 * 268435456
              · omega
              · have HO := Lib.hid (hpr.good (by omega) hk6 hv v0 h127 (fun hh => hh.elim (fun h => hz h.2) hbig))
                clear hpr hv
                go_wp2
                go_ret3
                exact three_ret2 HO.out (by omega) (by omega)
        · obtain rfl : x = 5 := HX.out
          obtain rfl : u = 34359738368 := hu.trans (by decide)
          rw [show a.add (p + 5) = ⟨a.block, a.off + (p + 5), none⟩ from by unfold Addr.add; rw [if_neg (by omega)]] at hc
          have e2 : bits .or .i64 m (v % 128 * 34359738368) = m + v % 128 * 34359738368 := by
            have := uva.join 35 m (v % 128) m0 (by omega) (by omega) (by omega)
            simpa using this
          have e3 : bits .or .i64 m 0 = m := by
            have := uva.join 35 m 0 m0 (by omega) (by omega) (by omega)
            simpa using this
          clear hu HX
          by_cases h128 : 128 ≤ v
          · have HS := Lib.hid (hpr.step hk6 hv h128 v1)
            clear hpr hv
            go_wp2
            go_roundg 0
            case measure => have := HK.out; omega
            case rel => exact ⟨6, _, _, 6, rfl, rfl, rfl, by omega, by simpa using HS.out, rfl⟩
          · have h127 : v < 128 := by omega
            by_cases hz : v = 0
            · subst hz
              have HO := Lib.hid (hpr.bad (by omega) hk6 hv v0 h127 (Or.inl ⟨by omega, rfl⟩))
              have e0 : bits .and .i64 0 127 = 0 := by decide
              clear hpr hv e1 e2 b1 b2 b3
              go_wp2
              go_ret3
              exact three_ret2 HO.out rfl rfl
            · have hne : (v == 0) = false := by rw [beq_eq_false_iff_ne]; exact hz
              by_cases hbig : 1000000000000 < m + v % 128 * 34359738368
              · have HO := Lib.hid (hpr.bad (by omega) hk6 hv v0 h127 (Or.inr hbig))
                clear hpr hv
                go_wp2
                go_ret3
                exact three_ret2 HO.out rfl rfl
              · have HO := Lib.hid (hpr.good (by omega) hk6 hv v0 h127 (fun hh => hh.elim (fun h => hz h.2) hbig))
                clear hpr hv
                go_wp2
                go_ret3
                exact three_ret2 HO.out (by omega) (by omega)
      · have ho := hpr.out (Or.inr (by rw [HL.out]; have := HX.out; omega))
        have HO := Lib.hid ho
        have HK := Lib.hid hk
        clear hpr ho hk h6 HX
        by_cases hneg : i < 0
        · go_wp2
          go_ret3
          exact three_ret HO.out
        · have hge : (n : Int) - x ≤ i := by omega
          clear hin
          go_wp2
          go_ret3
          exact three_ret HO.out

end Go.Proofs.Ytgjijfpdlgcopaa.rdu
