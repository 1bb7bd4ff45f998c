/-
  The laws' comparison and marks of tokens in a row.
  Conditions: those that each theorem names.
-/
import Derived.Test.YtakdbfifbkngnaaGreatDoorLaB1
namespace Go.Proofs.YtakdbfifbkngnaaGreatDoor.lex
open Go.ChangeShapes Go.WideShapes Go.ChangeAt Go.RowKit mem
set_option linter.unusedVariables false

/-- The digits of a number, before a text. -/
def digOf (k : Nat) : ByteArray := ⟨#[UInt8.ofNat (48 + k % 10)]⟩
def mgo : Nat → Nat → ByteArray → ByteArray
  | 0, _, out => out
  | f + 1, k, out => if k = 0 then out else mgo f (k / 10) (digOf k ++ out)
def mtx (k : Int) : ByteArray := "m".toUTF8 ++ mgo 30 k.toNat ⟨#[]⟩

def MtQ (w : World) (k : Int) (e : Ending) (w' : World) : Prop := e = .returned (.string (mtx k)) ∧ Below w.heap.size w w'
theorem mgo_size : ∀ (f k : Nat) (out : ByteArray), (mgo f k out).size ≤ f + out.size
  | 0, _, out => by simp [mgo]
  | f + 1, k, out => by
    rw [mgo]
    split
    · omega
    · have := mgo_size f (k / 10) (digOf k ++ out)
      rw [ByteArray.size_append] at this
      have e : (digOf k).size = 1 := rfl
      omega
theorem mtx_size (k : Int) : (mtx k).size ≤ 31 := by
  unfold mtx
  rw [ByteArray.size_append]
  have := mgo_size 30 k.toNat ⟨#[]⟩
  have e : ("m".toUTF8 : ByteArray).size = 1 := by decide
  have e0 : (⟨#[]⟩ : ByteArray).size = 0 := rfl
  omega

theorem mgo_step {f q : Nat} (hq : q ≠ 0) (o : ByteArray) : mgo (f + 1) q o = mgo f (q / 10) (digOf q ++ o) := by rw [mgo, if_neg hq]
theorem mgo_zero (f : Nat) (o : ByteArray) : mgo f 0 o = o := by cases f <;> simp [mgo]

set_option maxHeartbeats 800000 in
theorem markText (k : Int) (h0 : 1 ≤ k) (h1 : k ≤ 1000000000000000) (w : World) : Calls Tryz.prog 60 #[.int .i64 k] w (MtQ w k) := by
  obtain ⟨K, rfl⟩ : ∃ K : Nat, k = (K : Int) := ⟨k.toNat, by omega⟩
  unfold MtQ mtx
  rw [Int.toNat_natCast]
  obtain ⟨T, HT⟩ : ∃ T, Hid (mgo 30 K ⟨#[]⟩ = T) := ⟨_, Lib.hid rfl⟩
  rw [HT.out]
  go_enter Tryz.func60, Tryz.ntmps60
  go_wp2_with (fail)
  go_loopg [0, 3] 30 (fun gk kv ov wr => ∃ (q : Nat) (o : ByteArray), kv = .int .i64 q ∧ ov = .string o ∧ q ≤ 1000000000000000 ∧ q < 10 ^ gk ∧ o.size + gk = 30 ∧ Hid (mgo gk q o = T) ∧ Below w.heap.size w wr)
  case atStart => exact ⟨K, ⟨#[]⟩, rfl, rfl, by omega, by omega, rfl, HT, Below.refl _ _⟩
  case round =>
    obtain ⟨q, o, rfl, rfl, hq, hp, ho, HQ, hb⟩ := hrel
    have HB := Lib.hid hb
    have HP := Lib.hid hp
    clear hb hp
    by_cases hq0 : q = 0
    · subst hq0
      have e : T = o := by rw [← HQ.out, mgo_zero]
      subst e
      have ho' : T.size ≤ 30 := by omega
      go_wp2_with (fail)
      go_ret
      exact ⟨rfl, HB.out⟩
    · have hpos : 0 < q := by omega
      have hgk : gk ≠ 0 := fun e => by have := HP.out; rw [e] at this; simp at this; omega
      obtain ⟨f, HF⟩ : ∃ f, Hid (gk = f + 1) := ⟨gk - 1, Lib.hid (by omega)⟩
      have hd0 : (0 : Int) ≤ (q : Int) % 10 := by omega
      have hd1 : (q : Int) % 10 ≤ 9 := by omega
      have hcv := conv_rd (P := Tryz.prog) _ 22 9 5 Tryz.underlying22 Tryz.underlying5 Tryz.underlying9 (rd_one wr (48 + (q : Int) % 10) (by omega) (by omega) 5) 1
      rw [show strOfNums [48 + (q : Int) % 10] = digOf q by
        have e : (48 + (q : Int) % 10).toNat = 48 + q % 10 := by omega
        simp [strOfNums, digOf, e]] at hcv
      have hd2 : (digOf q).size ≤ 1 := Nat.le_refl 1
      have ho2 : o.size ≤ 30 := by omega
      obtain ⟨D, HD⟩ : ∃ D, Hid (digOf q = D) := ⟨_, Lib.hid rfl⟩
      rw [HD.out] at hcv hd2
      go_wp2_with (fail)
      clear hcv
      go_roundg f
      case rel =>
        refine ⟨q / 10, D ++ o, rfl, rfl, by omega, ?_, ?_, Lib.hid ?_, bs HB.out (b1 _ _)⟩
        · exact Nat.div_lt_of_lt_mul (by have := HP.out; rw [HF.out, Nat.pow_succ] at this; omega)
        · have e1 : (digOf q).size = 1 := rfl
          rw [HD.out] at e1
          have := HF.out
          rw [ByteArray.size_append]
          omega
        · rw [← HD.out, ← mgo_step hq0, ← HF.out]
          exact HQ.out
      case measure => have := HF.out; omega


theorem tcs_of {xs : List Value} {ks : List Tk} (hl : xs.length = ks.length * 4) (h : ∀ i y, ks[i]? = some y → ∀ q, q < 4 → xs[i * 4 + q]? = (#[.int .i64 y.kind, .int .i64 y.num, .string y.text, .int .i64 y.at_] : Array Value)[q]?) : xs = tcs ks := by
  refine List.ext_getElem? fun p => ?_
  by_cases hp : p < ks.length * 4
  · have hi : p / 4 < ks.length := by omega
    have e : p / 4 * 4 + p % 4 = p := by omega
    have h1 := h (p / 4) ks[p / 4] (List.getElem?_eq_getElem hi) (p % 4) (by omega)
    have h2 := tcs_get ks (p / 4) ks[p / 4] (List.getElem?_eq_getElem hi) (p % 4) (by omega)
    rw [e] at h1 h2
    rw [h1, h2]
  · rw [List.getElem?_eq_none (by omega), List.getElem?_eq_none (by rw [tcs_len]; omega)]

/-- A row of keys: nothing, or a block. -/
theorem TRow.cases {w : World} {lo : Nat} {v : Value} {ks : List Tk} (h : TRow w lo v ks) : (v = .slice none 0 0 ∧ ks = []) ∨ ∃ g c cur, v = .slice (some ⟨g, 0, none⟩) ks.length c ∧ lo ≤ g ∧ w.heap[g]? = some (.cells cur IT (0, 0)) ∧ ks.length ≤ c ∧ c ≤ maxLen ∧ cur.size = c * 4 ∧
    ∀ i y, ks[i]? = some y → ∀ q, q < 4 → cur[i * 4 + q]? = (#[.int .i64 y.kind, .int .i64 y.num, .string y.text, .int .i64 y.at_] : Array Value)[q]? := by
  obtain ⟨h1, h2⟩ := h
  rcases h2 with ⟨rfl, h0⟩ | ⟨g, cap, cur, rfl, hlo, hg, hnc, hcm, hsz, htk⟩
  · exact .inl ⟨rfl, List.eq_nil_of_length_eq_zero h0⟩
  · refine .inr ⟨g, cap, cur, rfl, hlo, hg, hnc, hcm, hsz, fun i y hy q hq => ?_⟩
    have hi := (List.getElem?_eq_some_iff.1 hy).1
    rw [← tcs_get ks i y hy q hq, ← htk, List.getElem?_take_of_lt (by omega), Array.getElem?_toList]
theorem TRow.of {w : World} {lo g c : Nat} {ks : List Tk} {cur : Array Value} (hlo : lo ≤ g) (hg : w.heap[g]? = some (.cells cur IT (0, 0))) (hn : ks.length ≤ c) (hc : c ≤ maxLen) (hs : cur.size = c * 4)
    (h : ∀ i y, ks[i]? = some y → ∀ q, q < 4 → cur[i * 4 + q]? = (#[.int .i64 y.kind, .int .i64 y.num, .string y.text, .int .i64 y.at_] : Array Value)[q]?) : TRow w lo (.slice (some ⟨g, 0, none⟩) ks.length c) ks := by
  refine ⟨tcs_len ks, .inr ⟨g, c, cur, rfl, hlo, hg, hn, hc, hs, ?_⟩⟩
  rw [← Array.length_toList] at hs
  refine tcs_of (by rw [List.length_take]; omega) fun i y hy q hq => ?_
  have hi := (List.getElem?_eq_some_iff.1 hy).1
  rw [List.getElem?_take_of_lt (by omega), Array.getElem?_toList]
  exact h i y hy q hq

theorem eqToken (y : Tk) (w : World) : Calls Tryz.prog 59 #[tkV y, tkV y] w (TrueQ w) := by
  obtain ⟨k, n, s, a⟩ := y
  unfold tkV
  go_enter Tryz.func59, Tryz.ntmps59
  go_wp2
  go_ret
  exact ⟨rfl, b2 _ _ _⟩

set_option maxRecDepth 100000 in
set_option maxHeartbeats 1600000 in
theorem eqTokenS (ks : List Tk) (hm : ks.length ≤ 1000000000) (w : World) (lo lo' : Nat) (v v' : Value) (h : TRow w lo v ks) (h' : TRow w lo' v' ks) : Calls Tryz.prog 24 #[v, v'] w (TrueQ w) := by
  obtain ⟨L, HL⟩ : ∃ L, Hid (L = ks.length) := ⟨_, Lib.hid rfl⟩
  obtain ⟨A, c, rfl, -, ha⟩ := h.out
  obtain ⟨A', c', rfl, -, ha'⟩ := h'.out
  have HA := Lib.hid ha
  have HA' := Lib.hid ha'
  rw [← HL.out] at hm ⊢
  clear h h' ha ha'
  go_enter Tryz.func24, Tryz.ntmps24
  go_wp2_with (fail)
  go_loopg [5] (L + 1) (fun gk i wr => ∃ j : Nat, i = .int .i64 j ∧ gk + j = L + 1 ∧ j ≤ L ∧ Below w.heap.size w wr)
  case atStart => exact ⟨0, rfl, by omega, by omega, Below.refl _ _⟩
  case round =>
    obtain ⟨j, rfl, hgj, hjL, hb⟩ := hrel
    have HB := Lib.hid hb
    clear hb
    by_cases hlt : j < L
    · obtain ⟨y, hy⟩ : ∃ y, ks[j]? = some y := ⟨_, List.getElem?_eq_getElem (by rw [← HL.out]; exact hlt)⟩
      obtain ⟨g, cur, rfl, -, hg, -, hc⟩ := HA.out j y hy
      obtain ⟨g', cur', rfl, -, hg', -, hc'⟩ := HA'.out j y hy
      obtain ⟨r, f⟩ := rowc (carry HB.out hg)
      obtain ⟨r', f'⟩ := rowc (carry HB.out hg')
      have EQ := eqToken y
      obtain ⟨yk, yn, ys, ya⟩ := y
      have p0 := (r _).trans (hc 0 (by omega))
      have p1 := (r _).trans (hc 1 (by omega))
      have p2 := (r _).trans (hc 2 (by omega))
      have p3 := (r _).trans (hc 3 (by omega))
      have q0 := (r' _).trans (hc' 0 (by omega))
      have q1 := (r' _).trans (hc' 1 (by omega))
      have q2 := (r' _).trans (hc' 2 (by omega))
      have q3 := (r' _).trans (hc' 3 (by omega))
      rw [Nat.add_zero] at p0 q0
      simp only [List.getElem?_toArray, List.getElem?_cons_zero, List.getElem?_cons_succ] at p0 p1 p2 p3 q0 q1 q2 q3
      unfold tkV at EQ
      clear r r' f f' hc hc' hg hg' hy
      go_wp2_with (fail)
      go_region_with ((go_at_call 59; refine (EQ _).mono ?_; rintro e w1 ⟨rfl, hb1⟩; have HB1 := Lib.hid hb1; clear hb1))
      all_goals
        go_wp2_with (fail)
        go_roundg (L - j)
        case rel => exact ⟨j + 1, by go_num, by omega, by omega, bs (bs HB.out ((Below.refl _ _).drew)) HB1.out⟩
        case measure => omega
    · go_wp2_with (fail)
      go_ret
      exact ⟨rfl, HB.out⟩

/-- The token that the marks from m on leave; tokens with marks. -/
def mkTk (m : Int) : Tk := ⟨m, m + 1, mtx (m + 2), m + 3⟩
def tmk (m : Int) (n : Nat) : List Tk := (List.range n).map fun i : Nat => mkTk (m + 4 * (i : Int))
theorem tmk_len (m : Int) (n : Nat) : (tmk m n).length = n := by simp [tmk]
theorem tmk_get (m : Int) (n i : Nat) (h : i < n) : (tmk m n)[i]? = some (mkTk (m + 4 * i)) := by
  unfold tmk
  rw [List.getElem?_map, List.getElem?_range h]
  rfl

set_option maxRecDepth 100000 in
set_option maxHeartbeats 1600000 in
theorem heldTokenS (m : Int) (n : Nat) (hm0 : 1 ≤ m) (hm1 : m + 4 * n ≤ 100000000000) (w : World) (lo : Nat) (v : Value) (h : TRow w lo v (tmk m n)) : Calls Tryz.prog 26 #[v, .int .i64 m] w (GivesQ w (.int .i64 (m + 4 * n))) := by
  obtain ⟨A, c, rfl, -, ha⟩ := h.out
  have HA := Lib.hid ha
  have hn : n ≤ 100000000000 := by omega
  obtain ⟨W, HW⟩ : ∃ W : Int, Hid (m + 4 * n = W) := ⟨_, Lib.hid rfl⟩
  rw [HW.out, tmk_len]
  have HM1 := Lib.hid hm1
  clear h ha hm1
  go_enter Tryz.func26, Tryz.ntmps26
  go_wp2_with (fail)
  go_loopg [1, 5] (n + 1) (fun gk l i wr => ∃ (j : Nat) (q : Int), i = .int .i64 j ∧ l = .int .i64 q ∧ gk + j = n + 1 ∧ j ≤ n ∧ 1 ≤ q ∧ q ≤ 100000000000 ∧ Hid (q = m + 4 * j) ∧ Below w.heap.size w wr)
  case atStart => exact ⟨0, m, rfl, rfl, by omega, by omega, hm0, by have := HM1.out; omega, Lib.hid (by simp), Below.refl _ _⟩
  case round =>
    obtain ⟨j, q, rfl, rfl, hgj, hjL, hq0, hq1, HQ, hb⟩ := hrel
    have HB := Lib.hid hb
    clear hb
    by_cases hlt : j < n
    · have hy := tmk_get m n j hlt
      rw [← HQ.out] at hy
      obtain ⟨g, cur, rfl, -, hg, -, hc⟩ := HA.out j _ hy
      have HG := Lib.hid (carry HB.out hg)
      obtain ⟨r, f⟩ := rowc HG.out
      have p0 := (r _).trans (hc 0 (by omega))
      have p1 := (r _).trans (hc 1 (by omega))
      have p2 := (r _).trans (hc 2 (by omega))
      have p3 := (r _).trans (hc 3 (by omega))
      rw [Nat.add_zero] at p0
      have q3 : q + 4 ≤ 100000000000 := by have := HQ.out; have := HM1.out; omega
      have MT2 := markText (q + 2) (by omega) (by omega)
      have z2 := mtx_size (q + 2)
      unfold mkTk at p0 p1 p2 p3
      simp only [List.getElem?_toArray, List.getElem?_cons_zero, List.getElem?_cons_succ] at p0 p1 p2 p3
      obtain ⟨u2, HU2⟩ : ∃ u, Hid (mtx (q + 2) = u) := ⟨_, Lib.hid rfl⟩
      unfold MtQ at MT2
      rw [HU2.out] at MT2 z2 p2
      rw [show q + 2 = q + 1 + 1 by omega] at MT2
      rw [show q + 3 = q + 1 + 1 + 1 by omega] at p3
      clear r f hc hg hy
      go_wp2_with (fail)
      go_region_with ((go_at_call 60; refine (MT2 _).mono ?_; rintro e w1 ⟨rfl, hb1⟩; have HB1 := Lib.hid (bs ((Below.refl wr.heap.size wr).drew) hb1); have p2' : w1.cell? ⟨g, j * 4 + 2, none⟩ = some (.string u2) := cell_stays (fun hlt => HB1.out.block _ hlt) p2; have p3' : w1.cell? ⟨g, j * 4 + 3, none⟩ = some (.int .i64 (q + 1 + 1 + 1)) := cell_stays (fun hlt => HB1.out.block _ hlt) p3; clear hb1))
      all_goals
        go_wp2_with (fail)
        go_roundg (n - j)
        case rel => exact ⟨j + 1, q + 1 + 1 + 1 + 1, by go_num, rfl, by omega, by omega, by omega, by omega, Lib.hid (by rw [HQ.out]; push_cast; omega), bs HB.out HB1.out⟩
        case measure => omega
    · obtain rfl : j = n := by omega
      have e : q = W := by rw [HQ.out, ← HW.out]
      subst e
      go_wp2_with (fail)
      go_ret
      exact ⟨rfl, HB.out⟩

end Go.Proofs.YtakdbfifbkngnaaGreatDoor.lex

