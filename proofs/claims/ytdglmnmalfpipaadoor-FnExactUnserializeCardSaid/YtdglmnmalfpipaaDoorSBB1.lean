/-
  What the texts behind this one use: 8 parts of one proof.
  Conditions: those that each theorem names.
-/
import Derived.Test.YtdglmnmalfpipaaDoorSAB4
import Derived.Test.YtdglmnmalfpipaaDoorSAB1
import Derived.Test.YtdglmnmalfpipaaDoorSASTreeCp
import Derived.Deep.LoopGhost
import Derived.Test.YtdglmnmalfpipaaDoorSAB3
import Derived.Test.YtdglmnmalfpipaaDoorSAB2
import Derived.Test.YtdglmnmalfpipaaDoorShelf
/-
  How much a value that is read off a text holds.
  Conditions: those that each theorem names.
-/
namespace Go.Proofs.YtdglmnmalfpipaaDoor.tree
open Go.ChangeShapes Go.WideShapes Go.ChangeAt Go.RowKit
set_option linter.unusedVariables false

theorem tot_leaf (k n : Int) (s : ByteArray) : tot (leaf k n s) = s.size := by unfold leaf; rw [tot]; simp [tots]
theorem pf_tot {p l r : List UInt8} (h : pf p l = some r) : p.length + r.length = l.length := by rw [pf_out h, List.length_append]
theorem nm_tot {c : UInt8} {lo hi n : Int} {l r : List UInt8} (h : nm c lo hi l = some (n, r)) : r.length + 1 ≤ l.length := by
  rw [(nm_out h).1]
  simp only [List.length_append, List.length_cons]
  omega
theorem tx_tot {l d q : List UInt8} (h : tx l = some (d, q)) : d.length + q.length + 1 ≤ l.length := by
  rw [tx_out h]
  simp only [List.length_append, List.length_cons, List.length_nil]
  omega
theorem rdK_tot {l r : List UInt8} {y : Ky} (h : rdK l = some (y, r)) : y.str.size + 1 + r.length ≤ l.length := by
  unfold rdK at h
  split at h
  · rename_i r1 h1
    obtain ⟨⟨n, r2⟩, h2, h3⟩ := Option.map_eq_some_iff.1 h
    cases h3
    have a := pf_tot h1
    have b := nm_tot h2
    show (⟨#[]⟩ : ByteArray).size + 1 + r2.length ≤ _
    simp only [List.length_cons, List.length_nil] at a
    have : (⟨#[]⟩ : ByteArray).size = 0 := rfl
    omega
  · split at h
    · rename_i r1 h1
      obtain ⟨⟨d, r2⟩, h2, h3⟩ := Option.map_eq_some_iff.1 h
      cases h3
      have a := pf_tot h1
      have b := tx_tot h2
      show (bz d).size + 1 + r2.length ≤ _
      simp only [List.length_cons, List.length_nil] at a
      rw [bz_size]
      omega
    · cases h
theorem rdS_tot {l r : List UInt8} {t : Tr} (h : rdS l = some (some (t, r))) : tot t + r.length + 1 ≤ l.length := by
  have e0 : (⟨#[]⟩ : ByteArray).size = 0 := rfl
  unfold rdS at h
  split at h
  · rename_i r1 h1
    cases h
    have a := pf_tot h1
    simp only [List.length_cons, List.length_nil] at a
    rw [tot_leaf]
    omega
  · split at h
    · rename_i r1 h1
      cases h
      have a := pf_tot h1
      simp only [List.length_cons, List.length_nil] at a
      rw [tot_leaf]
      omega
    · split at h
      · rename_i r1 h1
        cases h
        have a := pf_tot h1
        simp only [List.length_cons, List.length_nil] at a
        rw [tot_leaf]
        omega
      · split at h
        · rename_i r1 h1
          obtain ⟨⟨n, r2⟩, h2, h3⟩ := Option.map_eq_some_iff.1 (Option.some.inj h)
          cases h3
          have a := pf_tot h1
          have b := nm_tot h2
          simp only [List.length_cons, List.length_nil] at a
          show tot (leaf 2 n ⟨#[]⟩) + r2.length + 1 ≤ _
          rw [tot_leaf]
          omega
        · split at h
          · rename_i r1 h1
            obtain ⟨⟨d, r2⟩, h2, h3⟩ := Option.map_eq_some_iff.1 (Option.some.inj h)
            cases h3
            have a := pf_tot h1
            have b := tx_tot h2
            simp only [List.length_cons, List.length_nil] at a
            show tot (leaf 3 0 (bz d)) + r2.length + 1 ≤ _
            rw [tot_leaf, bz_size]
            omega
          · cases h
theorem its_tot {rd : Nat → List UInt8 → Option (Tr × List UInt8 × Nat)} (hrd : ∀ W l t r W', rd W l = some (t, r, W') → tot t + r.length + 1 ≤ l.length) : ∀ (n W : Nat) (l : List UInt8) (ks : List Ky) (vs : List Tr) (r : List UInt8) (W' : Nat), its rd n W l = some (ks, vs, r, W') → vs.length + tots ks vs + r.length ≤ l.length
  | 0, W, l, ks, vs, r, W', h => by rw [its] at h; cases h; simp [tots]
  | n + 1, W, l, ks, vs, r, W', h => by
    rw [its] at h
    obtain ⟨⟨y, l1⟩, h1, h⟩ := Option.bind_eq_some_iff.1 h
    obtain ⟨⟨t, l2, W2⟩, h2, h⟩ := Option.bind_eq_some_iff.1 h
    obtain ⟨⟨ks', vs', r', W3⟩, h3, h⟩ := Option.map_eq_some_iff.1 h
    cases h
    have a := rdK_tot h1
    have b : tot t + l2.length + 1 ≤ l1.length := hrd _ _ _ _ _ h2
    have c : vs'.length + tots ks' vs' + r'.length ≤ l2.length := its_tot hrd n _ _ _ _ _ _ h3
    show (t :: vs').length + tots (y :: ks') (t :: vs') + r'.length ≤ l.length
    rw [tots_cons, List.length_cons]
    omega
theorem rdP_tot : ∀ (f W : Nat) (l : List UInt8) (t : Tr) (r : List UInt8) (W' : Nat), rdP f W l = some (t, r, W') → tot t + r.length + 1 ≤ l.length
  | 0, W, l, t, r, W', h => by rw [rdP] at h; cases h
  | f + 1, 0, l, t, r, W', h => by rw [rdP] at h; cases h
  | f + 1, W + 1, l, t, r, W', h => by
    rw [rdP] at h
    split at h
    · rename_i o ho
      obtain ⟨⟨t', r'⟩, h1, h2⟩ := Option.map_eq_some_iff.1 h
      cases h2
      subst h1
      exact rdS_tot ho
    · split at h
      · rename_i r1 h1
        unfold rdA at h
        obtain ⟨⟨n, l1⟩, h2, h⟩ := Option.bind_eq_some_iff.1 h
        obtain ⟨⟨x, l2⟩, h3, h⟩ := Option.bind_eq_some_iff.1 h
        obtain ⟨⟨ks, vs, l3, W3⟩, h4, h⟩ := Option.bind_eq_some_iff.1 h
        obtain ⟨e, h5, h⟩ := Option.map_eq_some_iff.1 h
        cases h
        have a := pf_tot h1
        have b := nm_tot h2
        have c := nm_tot h3
        have d : vs.length + tots ks vs + l3.length ≤ l2.length := its_tot (rdP_tot f) _ _ _ _ _ _ _ h4
        have e := pf_tot h5
        have e0 : (⟨#[]⟩ : ByteArray).size = 0 := rfl
        simp only [List.length_cons, List.length_nil] at a b c d e
        show tot (.mk 4 0 ⟨#[]⟩ x ks vs) + _ + 1 ≤ _
        rw [tot, e0]
        show 0 + (vs.length + tots ks vs) + _ + 1 ≤ _
        omega
      · cases h
/-- The text's value, or null; and whether there is one. -/
def nulT : Tr := .mk 0 0 ⟨#[]⟩ 0 [] []
def unT (l : List UInt8) : Tr := (unP l).getD nulT
def unB (l : List UInt8) : Bool := (unP l).isSome
theorem unP_no {l : List UInt8} (h : rdP 200 200 l = none) : unP l = none := by unfold unP; rw [h]; rfl
theorem unP_is {l r : List UInt8} {t : Tr} {W : Nat} (h : rdP 200 200 l = some (t, r, W)) : unP l = if r = [] ∧ valB t = true then some t else none := by unfold unP; rw [h]; rfl

end Go.Proofs.YtdglmnmalfpipaaDoor.tree

/-
  The model's number ahead of a byte.
  Conditions: those that each theorem names.
-/
namespace Go.Proofs.YtdglmnmalfpipaaDoor.tree
open Go.ChangeShapes Go.WideShapes Go.ChangeAt Go.RowKit
set_option linter.unusedVariables false

theorem bz_ext' (l : List UInt8) (i j : Nat) : (bz l).extract i j = bz ((l.drop i).take (j - i)) := by
  apply ByteArray.ext
  apply Array.toList_inj.1
  rw [ByteArray.data_extract, Array.toList_extract, List.extract_eq_take_drop]
  rfl
theorem bz_at (l : List UInt8) (m : Nat) (h : m < (bz l).size) : (bz l)[m] = l[m]'h := rfl
theorem cutC_none {c : UInt8} : ∀ {l : List UInt8}, c ∉ l → cutC c l = none
  | [], _ => rfl
  | b :: l, h => by
    rw [cutC, if_neg (fun e => h (by simp [e])), cutC_none (fun e => h (by simp [e]))]
    rfl
theorem cut_take {c : UInt8} {l : List UInt8} {k : Nat} (hk : k ≤ 12) (hn : c ∉ l.take k) (hc : l[k]? = some c) : ∃ r, cutC c (l.take 13) = some (l.take k, r) := by
  obtain ⟨hkl, e⟩ := List.getElem?_eq_some_iff.1 hc
  refine ⟨(l.drop (k + 1)).take (12 - k), ?_⟩
  have : l.take 13 = l.take k ++ c :: (l.drop (k + 1)).take (12 - k) := by
    rw [show 13 = k + (13 - k) by omega, List.take_add, List.drop_eq_getElem_cons hkl, e, show 13 - k = (12 - k) + 1 by omega, List.take_succ_cons]
  rw [this, cutC_in _ _ hn]
/-- What l11Num gives at an index: the number, and the index behind it. -/
def numR (L : List UInt8) (a : Nat) (c : UInt8) : Int × Int := match numM c (L.drop a) with
  | some p => (p.1, (L.length : Int) - p.2.length)
  | none => (0, -1)
theorem numR_none {L : List UInt8} {a : Nat} {c : UInt8} (h : cutC c ((L.drop a).take 13) = none) : numR L a c = (0, -1) := by unfold numR numM; rw [h]; rfl
theorem numR_some {L : List UInt8} {a m : Nat} {c : UInt8} {r : List UInt8} (ham : a ≤ m) (hm : m < L.length) (h : cutC c ((L.drop a).take 13) = some ((L.drop a).take (m - a), r)) :
    numR L a c = if (dec.pr (-1000000000) 1000000000 ((L.drop a).take (m - a))).2 = true then ((dec.pr (-1000000000) 1000000000 ((L.drop a).take (m - a))).1, (m : Int) + 1) else if (L.drop a).take (m - a) = [49, 48, 48, 48, 48, 48, 48, 48, 48, 49] then (1000000001, (m : Int) + 1) else (0, -1) := by
  have hd : ((L.drop a).take (m - a)).length = m - a := by rw [List.length_take, List.length_drop]; omega
  have hr : (L.length : Int) - (((L.drop a).drop (((L.drop a).take (m - a)).length + 1)).length : Nat) = (m : Int) + 1 := by rw [hd, List.length_drop, List.length_drop]; omega
  unfold numR numM
  rw [h]
  simp only [Option.bind_some]
  by_cases h1 : (dec.pr (-1000000000) 1000000000 ((L.drop a).take (m - a))).2 = true
  · rw [if_pos h1, if_pos h1]
    exact congrArg (Prod.mk _) hr
  · rw [if_neg h1, if_neg h1]
    by_cases h2 : (L.drop a).take (m - a) = [49, 48, 48, 48, 48, 48, 48, 48, 48, 49]
    · rw [if_pos h2, if_pos h2]
      exact congrArg (Prod.mk _) hr
    · rw [if_neg h2, if_neg h2]

set_option maxHeartbeats 2000000 in
set_option maxRecDepth 100000 in
theorem num_s (L : List UInt8) (hL : L.length ≤ 1048576) (a : Nat) (ha : a ≤ L.length) (c : UInt8) (w : World) :
    Calls Tryd.prog 44 #[.string (bz L), .int .i64 a, .int .u8 c.toNat] w (fun e w' => e = .returned (.tuple #[.int .i64 (numR L a c).1, .int .i64 (numR L a c).2]) ∧ Below w.heap.size w w') := by
  obtain ⟨⟨N1, N2⟩, HN⟩ : ∃ p, Hid (numR L a c = p) := ⟨_, Lib.hid rfl⟩
  rw [HN.out]
  obtain ⟨z, HZ⟩ : ∃ z, Hid (bz L = z) := ⟨_, Lib.hid rfl⟩
  have hzs : z.size = L.length := by rw [← HZ.out]; rfl
  obtain ⟨Ln, HLn⟩ : ∃ n, Hid (L.length = n) := ⟨_, Lib.hid rfl⟩
  rw [HLn.out] at hzs hL ha
  rw [HZ.out]
  obtain ⟨cv, HC⟩ : ∃ v : Int, Hid ((c.toNat : Int) = v) := ⟨_, Lib.hid rfl⟩
  rw [HC.out]
  go_enter Tryd.func44, Tryd.ntmps44
  go_wp2_with (fail)
  go_loopg [8] 14 (fun gk i wr => ∃ m : Nat, i = .int .i64 m ∧ a ≤ m ∧ m ≤ a + 12 ∧ m ≤ Ln ∧ gk + (m - a) = 14 ∧ Hid (c ∉ (L.drop a).take (m - a)) ∧ w = wr)
  case atStart => exact ⟨a, rfl, by omega, by omega, by omega, by omega, Lib.hid (by simp), rfl⟩
  case round =>
    obtain ⟨m, rfl, ham, hm12, hmL, hgk, HNO, rfl⟩ := hrel
    by_cases hlt : m < Ln
    · obtain ⟨b, hb, HLb⟩ : ∃ b, z[m]'(by omega) = b ∧ Hid (L[m]? = some b) := by
        refine ⟨z[m]'(by omega), rfl, Lib.hid ?_⟩
        have hml : m < L.length := by rw [HLn.out]; exact hlt
        rw [List.getElem?_eq_getElem hml]
        have : ∀ z', bz L = z' → ∀ h : m < z'.size, L[m] = z'[m]'h := fun z' e h => by subst e; rfl
        exact congrArg some (this z HZ.out _)
      have c0 : (0 : Int) ≤ (m : Int) := by omega
      have c1 : (m : Int) < (z.size : Int) := by omega
      have c2 : m < z.size := by omega
      have c3 : m < Ln := hlt
      have c4 : (m : Int) < (Ln : Int) := by omega
      have c5 : ¬ ((Ln : Int) ≤ (m : Int)) := by omega
      have c6 : ¬ Ln ≤ m := by omega
      have hdr : (L.drop a)[m - a]? = some b := by rw [List.getElem?_drop, show a + (m - a) = m by omega]; exact HLb.out
      have HDR := Lib.hid hdr
      clear hdr
      by_cases hbc : b = c
      · have hq : (b.toNat : Int) = cv := by rw [hbc]; exact HC.out
        have hq1 : ((b.toNat : Int) == cv) = true := by simpa using hq
        have hq2 : ((b.toNat : Int) != cv) = false := by simp [hq]
        obtain ⟨r, hcut⟩ := cut_take (c := c) (l := L.drop a) (k := m - a) (by omega) HNO.out (by rw [HDR.out, hbc])
        have HR := Lib.hid ((HN.out.symm.trans (numR_some ham (by rw [HLn.out]; exact hlt) hcut)))
        obtain ⟨d, HD⟩ : ∃ d, Hid ((L.drop a).take (m - a) = d) := ⟨_, Lib.hid rfl⟩
        rw [HD.out] at HR
        have hex : z.extract a m = bz d := by rw [← HZ.out, bz_ext', HD.out]
        have hdl : d.length ≤ 1048576 := by rw [← HD.out, List.length_take, List.length_drop]; have := HLn.out; omega
        have PS := Lib.hid (fun w' => prs.specParseSigned (bz d) (by rw [bz_size]; omega) w')
        rw [bz_list] at PS
        have e1 : (0 : Int) ≤ (a : Int) := by omega
        have e2 : (a : Int) ≤ (m : Int) := by omega
        have e3 : (m : Int) ≤ (z.size : Int) := by omega
        have e4 : a ≤ m := ham
        have e5 : m ≤ z.size := by omega
        have e6 : m ≤ Ln := by omega
        have hm1 : (m : Int) + 1 ≤ 9223372036854775807 := by omega
        clear hbc hcut HDR HLb
        cases hp : (dec.pr (-1000000000) 1000000000 d).2 with
        | true =>
          have hr := HR.out
          rw [if_pos hp] at hr
          injection hr with hr1 hr2
          have PS2 : Hid (∀ w', Calls Tryd.prog 67 #[.string (bz d)] w' fun e w1 => e = .returned (.tuple #[.int .i64 N1, .bool true]) ∧ RowKit.Below w'.heap.size w' w1) := Lib.hid fun w' => by
            have := PS.out w'
            unfold prs.two at this
            rw [hp, ← hr1] at this
            exact this
          have HR2 := Lib.hid hr2
          obtain ⟨y, HY⟩ : ∃ y, Hid (bz d = y) := ⟨_, Lib.hid rfl⟩
          rw [HY.out] at PS2 hex
          clear hr1 hr2 hp PS HR
          go_wp2_with (fail)
          refine (PS2.out _).mono ?_
          rintro e w1 ⟨rfl, hb1⟩
          have HB1 := Lib.hid hb1
          clear hb1
          go_wp2_with (fail)
          go_ret2
          exact ⟨by rw [HR2.out]; rfl, HB1.out⟩
        | false =>
          have PS2 : Hid (∀ w', Calls Tryd.prog 67 #[.string (bz d)] w' fun e w1 => e = .returned (.tuple #[.int .i64 0, .bool false]) ∧ RowKit.Below w'.heap.size w' w1) := Lib.hid fun w' => by
            have := PS.out w'
            unfold prs.two at this
            rw [hp, dec.pr_false hp] at this
            exact this
          have hr := HR.out
          rw [if_neg (by rw [hp]; decide)] at hr
          obtain ⟨y, HY⟩ : ∃ y, Hid (bz d = y) := ⟨_, Lib.hid rfl⟩
          by_cases hbig : d = [49, 48, 48, 48, 48, 48, 48, 48, 48, 49]
          · rw [if_pos hbig] at hr
            injection hr with hr1 hr2
            have hy : y = ⟨#[49, 48, 48, 48, 48, 48, 48, 48, 48, 49]⟩ := by rw [← HY.out, hbig]; rfl
            have HR1 := Lib.hid hr1
            have HR2 := Lib.hid hr2
            rw [HY.out] at PS2 hex
            subst hy
            clear hr1 hr2 hp PS HR hbig
            go_wp2_with (fail)
            refine (PS2.out _).mono ?_
            rintro e w1 ⟨rfl, hb1⟩
            have HB1 := Lib.hid hb1
            clear hb1
            go_wp2_with (fail)
            go_ret2
            exact ⟨by rw [HR1.out, HR2.out]; rfl, HB1.out⟩
          · rw [if_neg hbig] at hr
            injection hr with hr1 hr2
            have yl : y.toList = d := by rw [← HY.out, ByteArray.toList_eq]; rfl
            have y1 : ¬ y.toList = [49, 48, 48, 48, 48, 48, 48, 48, 48, 49] := by rw [yl]; exact hbig
            have y2 : (y.toList == [49, 48, 48, 48, 48, 48, 48, 48, 48, 49]) = false := by rw [beq_eq_false_iff_ne]; exact y1
            have HR1 := Lib.hid hr1
            have HR2 := Lib.hid hr2
            rw [HY.out] at PS2 hex
            clear hr1 hr2 hp PS HR hbig yl
            go_wp2_with (fail)
            refine (PS2.out _).mono ?_
            rintro e w1 ⟨rfl, hb1⟩
            have HB1 := Lib.hid hb1
            clear hb1
            go_wp2_with (fail)
            go_ret2
            exact ⟨by rw [HR1.out, HR2.out]; rfl, HB1.out⟩
      · have hq : ¬ (b.toNat : Int) = cv := fun e => hbc (UInt8.toNat_inj.1 (by have h1 := HC.out; omega))
        have hq1 : ((b.toNat : Int) == cv) = false := by rw [beq_eq_false_iff_ne]; exact hq
        have hq2 : ((b.toNat : Int) != cv) = true := by simp [hq]
        have HNX : Hid (c ∉ (L.drop a).take (m + 1 - a)) := Lib.hid (by
          rw [show m + 1 - a = (m - a) + 1 by omega, List.take_add_one, HDR.out]
          intro h
          rcases List.mem_append.1 h with h | h
          · exact HNO.out h
          · simp at h; exact hbc h.symm)
        clear hbc
        by_cases h12 : m < a + 12
        · have d1 : (m : Int) < (a : Int) + 12 := by omega
          go_wp2_with (fail)
          go_roundg (13 - (m - a))
          case rel => exact ⟨m + 1, by go_num, by omega, by omega, by omega, by omega, HNX, rfl⟩
          case measure => omega
        · have d1 : ¬ ((m : Int) < (a : Int) + 12) := by omega
          have HF : Hid ((N1, N2) = ((0 : Int), (-1 : Int))) := Lib.hid (by
            rw [← HN.out]
            refine numR_none (cutC_none ?_)
            have := HNX.out
            rwa [show m + 1 - a = 13 by omega] at this)
          have hf := HF.out
          injection hf with hf1 hf2
          subst hf1 hf2
          go_wp2_with (fail)
          go_ret2
          exact ⟨rfl, Below.refl _ _⟩
    · have HF : Hid ((N1, N2) = ((0 : Int), (-1 : Int))) := Lib.hid (by
        rw [← HN.out]
        refine numR_none (cutC_none ?_)
        have h1 := HNO.out
        have h2 := HLn.out
        rw [List.take_of_length_le (by rw [List.length_drop]; omega)] at h1 ⊢
        exact h1)
      have hf := HF.out
      injection hf with hf1 hf2
      subst hf1 hf2
      have c5 : (Ln : Int) ≤ (m : Int) := by omega
      have c6 : Ln ≤ m := by omega
      have c7 : ¬ ((m : Int) < (Ln : Int)) := by omega
      go_wp2_with (fail)
      go_ret2
      exact ⟨rfl, Below.refl _ _⟩

end Go.Proofs.YtdglmnmalfpipaaDoor.tree

/-
  The model's reading at an index of a text, as a function on lists.
  Conditions: those that each theorem names.
-/
namespace Go.Proofs.YtdglmnmalfpipaaDoor.tree
open Go.ChangeShapes Go.WideShapes Go.ChangeAt Go.RowKit
set_option linter.unusedVariables false

theorem numM_bd {c : UInt8} {n : Int} {l r : List UInt8} (h : numM c l = some (n, r)) : -1000000000 ≤ n ∧ n ≤ 1000000001 := by
  obtain ⟨⟨d, r0⟩, h1, h2⟩ := Option.bind_eq_some_iff.1 h
  by_cases hp : (dec.pr (-1000000000) 1000000000 d).2 = true
  · simp only [hp, if_true] at h2
    cases h2
    have := dec.pr_true hp
    omega
  · simp only [hp] at h2
    by_cases hd : d = [49, 48, 48, 48, 48, 48, 48, 48, 48, 49]
    · simp only [hd, if_true] at h2
      cases h2
      omega
    · simp only [hd] at h2
      cases h2
theorem numR_is {L : List UInt8} {a : Nat} (c : UInt8) (ha : a ≤ L.length) : (numM c (L.drop a) = none ∧ numR L a c = (0, -1)) ∨
    ∃ (n : Int) (b : Nat), numM c (L.drop a) = some (n, L.drop b) ∧ a < b ∧ b ≤ L.length ∧ numR L a c = (n, (b : Int)) ∧ -1000000000 ≤ n ∧ n ≤ 1000000001 := by
  unfold numR
  cases h : numM c (L.drop a) with
  | none => exact .inl ⟨rfl, rfl⟩
  | some p =>
    obtain ⟨n, r⟩ := p
    have e := numM_out h
    have hb := numM_bd h
    have hl := congrArg List.length e
    simp only [List.length_append, List.length_cons, List.length_drop] at hl
    have hr : r = L.drop (a + ((Lib.itoa n).length + 1)) := by
      rw [← List.drop_drop, e, show (Lib.itoa n).length + 1 = ((Lib.itoa n) ++ [c]).length by simp, show Lib.itoa n ++ c :: r = (Lib.itoa n ++ [c]) ++ r by simp, List.drop_left]
    refine .inr ⟨n, a + ((Lib.itoa n).length + 1), by rw [hr], by omega, by omega, ?_, hb⟩
    show (n, (L.length : Int) - (r.length : Int)) = _
    rw [show (L.length : Int) - (r.length : Int) = ((a + ((Lib.itoa n).length + 1) : Nat) : Int) by omega]
theorem pf_pair {a b x y : UInt8} {r : List UInt8} : pf [a, b] (x :: y :: r) = if a = x ∧ b = y then some r else none := by
  rw [pf]
  by_cases h : a = x
  · rw [if_pos h, pf]
    by_cases h2 : b = y
    · rw [if_pos h2, pf, if_pos ⟨h, h2⟩]
    · rw [if_neg h2, if_neg (fun e => h2 e.2)]
  · rw [if_neg h, if_neg (fun e => h e.1)]
theorem drop_two {L : List UInt8} {a : Nat} (h : a + 1 < L.length) : ∃ x y, L.drop a = x :: y :: L.drop (a + 2) := by
  refine ⟨L[a], L[a + 1], ?_⟩
  rw [List.drop_eq_getElem_cons (by omega), List.drop_eq_getElem_cons (by omega)]
theorem txN_at {L : List UInt8} {b m : Nat} (hb : b ≤ L.length) : (∃ h : b + m < L.length, L[b + m] = 59 ∧ txN m (L.drop b) = some ((L.drop b).take m, L.drop (b + m + 1))) ∨ ((∀ h : b + m < L.length, L[b + m] ≠ 59) ∧ txN m (L.drop b) = none) := by
  unfold txN
  by_cases h : b + m < L.length
  · have hd : (L.drop b).drop m = L[b + m] :: L.drop (b + m + 1) := by rw [List.drop_drop, List.drop_eq_getElem_cons (by omega)]
    rw [if_pos (by rw [List.length_drop]; omega), hd, pf]
    by_cases e : (59 : UInt8) = L[b + m]
    · refine .inl ⟨h, e.symm, ?_⟩
      rw [if_pos e, pf]
      rfl
    · refine .inr ⟨fun _ e' => e e'.symm, ?_⟩
      rw [if_neg e]
      rfl
  · refine .inr ⟨fun h' => absurd h' h, ?_⟩
    by_cases h2 : m ≤ (L.drop b).length
    · rw [if_pos h2]
      have hd : (L.drop b).drop m = [] := by rw [List.drop_drop]; exact List.drop_eq_nil_of_le (by omega)
      rw [hd]
      rfl
    · rw [if_neg h2]
theorem rdM_short {f : Nat} {l : List UInt8} (h : l.length ≤ 1) : rdM f l = none := by
  cases f with
  | zero => rw [rdM]
  | succ f =>
    match l, h with
    | [], _ => simp [rdM, rdN, pf]
    | [x], _ => simp [rdM, rdN, pf]
/-- The model's reading of an array behind its two letters, in two steps. -/
theorem rdB_two {rd : List UInt8 → Option (Tr × List UInt8)} {r r1 : List UInt8} {m : Nat} (h : numM 58 r = some ((m : Int), r1)) (hm : m ≤ 200) :
    rdB rd r = (((numM 123 r1).bind fun q => itM rd m q.2).bind fun z => (pf [125] z.2.2).map fun e => (.mk 4 0 ⟨#[]⟩ ((numM 123 r1).getD (0, [])).1 z.1 z.2.1, e)) := by
  unfold rdB
  rw [h]
  simp only [Option.bind_some]
  rw [if_pos (by omega)]
  cases h2 : numM 123 r1 with
  | none => rfl
  | some q => rfl
theorem rdB_bad {rd : List UInt8 → Option (Tr × List UInt8)} {r : List UInt8} (h : ∀ n r1, numM 58 r = some (n, r1) → n < 0 ∨ 200 < n) : rdB rd r = none := by
  unfold rdB
  cases h2 : numM 58 r with
  | none => rfl
  | some q =>
    obtain ⟨n, r1⟩ := q
    simp only [Option.bind_some]
    rw [if_neg (by have := h n r1 h2; omega)]
/-- The rest of the items behind those that are there. -/
def Itm (rd : List UInt8 → Option (Tr × List UInt8)) (n : Nat) (l : List UInt8) (ks : List Ky) (vs : List Tr) : Option (List Ky × List Tr × List UInt8) := (itM rd n l).map fun z => (ks ++ z.1, vs ++ z.2.1, z.2.2)
theorem itm_zero (rd : List UInt8 → Option (Tr × List UInt8)) (l : List UInt8) (ks : List Ky) (vs : List Tr) : Itm rd 0 l ks vs = some (ks, vs, l) := by unfold Itm; rw [itM]; simp
theorem itm_start (rd : List UInt8 → Option (Tr × List UInt8)) (n : Nat) (l : List UInt8) : Itm rd n l [] [] = itM rd n l := by
  unfold Itm
  cases itM rd n l with
  | none => rfl
  | some z => simp
theorem itm_k {rd : List UInt8 → Option (Tr × List UInt8)} {n : Nat} {l : List UInt8} {ks : List Ky} {vs : List Tr} (h : rd l = none) : Itm rd (n + 1) l ks vs = none := by unfold Itm; rw [itM, h]; rfl
theorem itm_y {rd : List UInt8 → Option (Tr × List UInt8)} {n : Nat} {l l1 : List UInt8} {ks : List Ky} {vs : List Tr} {k : Tr} (h : rd l = some (k, l1)) (h2 : kyM k = none) : Itm rd (n + 1) l ks vs = none := by unfold Itm; rw [itM, h]; simp only [Option.bind_some]; rw [h2]; rfl
theorem itm_x {rd : List UInt8 → Option (Tr × List UInt8)} {n : Nat} {l l1 : List UInt8} {ks : List Ky} {vs : List Tr} {k : Tr} {y : Ky} (h : rd l = some (k, l1)) (h2 : kyM k = some y) (h3 : rd l1 = none) : Itm rd (n + 1) l ks vs = none := by
  unfold Itm; rw [itM, h]; simp only [Option.bind_some]; rw [h2]; simp only [Option.bind_some]; rw [h3]; rfl
theorem itm_step {rd : List UInt8 → Option (Tr × List UInt8)} {n : Nat} {l l1 l2 : List UInt8} {ks : List Ky} {vs : List Tr} {k t : Tr} {y : Ky} (h : rd l = some (k, l1)) (h2 : kyM k = some y) (h3 : rd l1 = some (t, l2)) :
    Itm rd (n + 1) l ks vs = Itm rd n l2 (ks ++ [y]) (vs ++ [t]) := by
  unfold Itm
  rw [itM, h]
  simp only [Option.bind_some]
  rw [h2]
  simp only [Option.bind_some]
  rw [h3]
  simp only [Option.bind_some]
  cases itM rd n l2 with
  | none => rfl
  | some z => simp
theorem kyM_some {k n : Int} {s : ByteArray} {x : Int} {ks : List Ky} {vs : List Tr} (h : k = 2 ∨ k = 3) : kyM (.mk k n s x ks vs) = some ⟨decide (k = 3), n, s⟩ := by show (if k = 2 ∨ k = 3 then _ else _) = _; rw [if_pos h]
theorem kyM_none {k n : Int} {s : ByteArray} {x : Int} {ks : List Ky} {vs : List Tr} (h : ¬ (k = 2 ∨ k = 3)) : kyM (.mk k n s x ks vs) = none := by show (if k = 2 ∨ k = 3 then _ else _) = _; rw [if_neg h]
/-- A closing brace at an index. -/
theorem pf_brace {L : List UInt8} {b : Nat} (hb : b ≤ L.length) : (∃ h : b < L.length, L[b] = 125 ∧ pf [125] (L.drop b) = some (L.drop (b + 1))) ∨ ((∀ h : b < L.length, L[b] ≠ 125) ∧ pf [125] (L.drop b) = none) := by
  by_cases h : b < L.length
  · rw [List.drop_eq_getElem_cons h, pf]
    by_cases e : (125 : UInt8) = L[b]
    · rw [if_pos e, pf]
      exact .inl ⟨h, e.symm, rfl⟩
    · rw [if_neg e]
      exact .inr ⟨fun _ e' => e e'.symm, rfl⟩
  · rw [List.drop_eq_nil_of_le (by omega)]
    exact .inr ⟨fun h' => absurd h' h, rfl⟩

end Go.Proofs.YtdglmnmalfpipaaDoor.tree

/-
  The model's reading of a value that is no array.
  Conditions: those that each theorem names.
-/
namespace Go.Proofs.YtdglmnmalfpipaaDoor.tree
open Go.ChangeShapes Go.WideShapes Go.ChangeAt Go.RowKit
set_option linter.unusedVariables false

/-- What the model reads at an index: a value in new blocks and the index behind it, or -1. -/
def RmQ (L : List UInt8) (o : Option (Tr × List UInt8)) (w : World) (e : Ending) (w' : World) : Prop :=
  ∃ k n s x ks vs A c nx, e = .returned (.tuple #[vV k n s x A vs.length c, .int .i64 nx]) ∧ TIn w' (Nw w.heap.size w') (.mk k n s x ks vs) (vV k n s x A vs.length c) ∧ Below w.heap.size w w' ∧ ((∃ b : Nat, o = some (.mk k n s x ks vs, L.drop b) ∧ nx = (b : Int) ∧ b ≤ L.length) ∨ (o = none ∧ nx = -1))
theorem leaf_tin {w : World} {S : Nat → Prop} {k n : Int} {s : ByteArray} (hk : 0 ≤ k ∧ k ≤ 3) (hn : I64 n) (hs : s.size ≤ maxLen) : TIn w S (.mk k n s 0 [] []) (vV k n s 0 none 0 0) :=
  TIn.of 0 ⟨by unfold I64; omega, hn, by unfold I64; omega, hs⟩ (IsIn.nil _ _ _) ⟨Nat.zero_le _, Nat.zero_le _⟩
theorem i64_zero : I64 0 := by unfold I64; simp
theorem head_ext {L : List UInt8} {a j : Nat} (hj : (a : Int) + 2 = (j : Int)) {p : List UInt8} (hp : (L.drop a).take 2 = p) : (bz L).extract a j = bz p := by rw [bz_ext', show j - a = 2 by omega, hp]
theorem bz_toList (p : List UInt8) : (bz p).toList = p := by rw [ByteArray.toList_eq]; rfl

set_option maxRecDepth 100000 in
theorem read_end (L : List UInt8) (hL : L.length ≤ 1048576) (a : Nat) (ha : a ≤ L.length) (deep : Nat) (hd : deep ≤ 300) (hc : L.length ≤ a + 1 ∨ 200 < deep) (w : World) :
    Calls Tryd.prog 24 #[.string (bz L), .int .i64 a, .int .i64 deep] w (RmQ L none w) := by
  suffices hq : Calls Tryd.prog 24 #[.string (bz L), .int .i64 a, .int .i64 deep] w (fun e w' => e = .returned (.tuple #[vV 0 0 ⟨#[]⟩ 0 none 0 0, .int .i64 (-1)]) ∧ Below w.heap.size w w') by
    exact hq.mono fun e w' h => ⟨0, 0, ⟨#[]⟩, 0, [], [], none, 0, -1, h.1, leaf_tin (by decide) i64_zero (Nat.zero_le _), h.2, .inr ⟨rfl, rfl⟩⟩
  obtain ⟨z, HZ⟩ : ∃ z, Hid (bz L = z) := ⟨_, Lib.hid rfl⟩
  obtain ⟨Ln, HLn⟩ : ∃ n, Hid (L.length = n) := ⟨_, Lib.hid rfl⟩
  have hzs : z.size = Ln := by rw [← HZ.out, ← HLn.out]; rfl
  rw [HLn.out] at hL ha hc
  rw [HZ.out]
  by_cases h1 : Ln ≤ a + 1
  · have c1 : (Ln : Int) - 1 ≤ (a : Int) := by omega
    have c2 : ¬ ((a : Int) < (Ln : Int) - 1) := by omega
    have c3 : (Ln : Int) ≤ (a : Int) + 1 := by omega
    clear hc
    go_enter Tryd.func24, Tryd.ntmps24
    go_wp2_with (fail)
    exact bodyPost_ret (v := .tuple #[vV 0 0 ⟨#[]⟩ 0 none 0 0, .int .i64 (-1)]) (by simp [results, Tryd.results24, go_sem]) rfl ⟨rfl, b1 _ _⟩
  · have h2 : 200 < deep := by omega
    have c1 : ¬ ((Ln : Int) - 1 ≤ (a : Int)) := by omega
    have c2 : (a : Int) < (Ln : Int) - 1 := by omega
    have c3 : (200 : Int) < (deep : Int) := by omega
    have c4 : ¬ ((Ln : Int) ≤ (a : Int) + 1) := by omega
    clear hc
    go_enter Tryd.func24, Tryd.ntmps24
    go_wp2_with (fail)
    exact bodyPost_ret (v := .tuple #[vV 0 0 ⟨#[]⟩ 0 none 0 0, .int .i64 (-1)]) (by simp [results, Tryd.results24, go_sem]) rfl ⟨rfl, b1 _ _⟩

set_option maxHeartbeats 2000000 in
set_option maxRecDepth 100000 in
theorem read_N (L : List UInt8) (hL : L.length ≤ 1048576) (a : Nat) (h2 : a + 1 < L.length) (deep : Nat) (hd : deep ≤ 200) (hp : (L.drop a).take 2 = [78, 59]) (w : World) :
    Calls Tryd.prog 24 #[.string (bz L), .int .i64 a, .int .i64 deep] w (RmQ L (some (leaf 0 0 ⟨#[]⟩, L.drop (a + 2))) w) := by
  obtain ⟨O, HO⟩ : ∃ O, Hid ((some (leaf 0 0 ⟨#[]⟩, L.drop (a + 2))) = O) := ⟨_, Lib.hid rfl⟩
  rw [HO.out]
  obtain ⟨j, hj⟩ : ∃ j : Nat, (a : Int) + 2 = (j : Int) := ⟨a + 2, rfl⟩
  have hja : a + 2 = j := by omega
  have hex := head_ext hj hp
  obtain ⟨y, HY⟩ : ∃ y, Hid (bz [78, 59] = y) := ⟨_, Lib.hid rfl⟩
  have HYL : Hid (y.toList = [78, 59]) := Lib.hid (by rw [← HY.out]; exact bz_toList _)
  rw [HY.out] at hex
  have t0 : (y.toList == [78, 59]) = true := by rw [HYL.out]; decide
  have u0 : y.toList = [78, 59] := HYL.out
  have t1 : (y.toList == [98, 58]) = false := by rw [HYL.out]; decide
  have u1 : ¬ y.toList = [98, 58] := by rw [HYL.out]; decide
  have t2 : (y.toList == [105, 58]) = false := by rw [HYL.out]; decide
  have u2 : ¬ y.toList = [105, 58] := by rw [HYL.out]; decide
  have t3 : (y.toList == [115, 58]) = false := by rw [HYL.out]; decide
  have u3 : ¬ y.toList = [115, 58] := by rw [HYL.out]; decide
  have t4 : (y.toList == [97, 58]) = false := by rw [HYL.out]; decide
  have u4 : ¬ y.toList = [97, 58] := by rw [HYL.out]; decide
  obtain ⟨z, HZ⟩ : ∃ z, Hid (bz L = z) := ⟨_, Lib.hid rfl⟩
  obtain ⟨Ln, HLn⟩ : ∃ n, Hid (L.length = n) := ⟨_, Lib.hid rfl⟩
  have hzs : z.size = Ln := by rw [← HZ.out, ← HLn.out]; rfl
  rw [HLn.out] at hL h2
  rw [HZ.out] at hex ⊢
  have c1 : ¬ ((Ln : Int) - 1 ≤ (a : Int)) := by omega
  have c2 : (a : Int) < (Ln : Int) - 1 := by omega
  have c3 : ¬ ((200 : Int) < (deep : Int)) := by omega
  have c4 : ¬ ((Ln : Int) ≤ (a : Int) + 1) := by omega
  have e1 : (0 : Int) ≤ (a : Int) := by omega
  have e2 : (a : Int) ≤ (j : Int) := by omega
  have e3 : (j : Int) ≤ (z.size : Int) := by omega
  have e4 : a ≤ j := by omega
  have e5 : j ≤ z.size := by omega
  have e6 : j ≤ Ln := by omega
  clear hp
  suffices hq : Calls Tryd.prog 24 #[.string z, .int .i64 a, .int .i64 deep] w (fun e w' => e = .returned (.tuple #[vV 0 0 ⟨#[]⟩ 0 none 0 0, .int .i64 j]) ∧ Below w.heap.size w w') by
    exact hq.mono fun e w' h => ⟨0, 0, ⟨#[]⟩, 0, [], [], none, 0, j, h.1, leaf_tin (by decide) i64_zero (Nat.zero_le _), h.2, .inl ⟨j, by rw [← HO.out, hja]; rfl, rfl, by rw [HLn.out]; omega⟩⟩
  go_enter Tryd.func24, Tryd.ntmps24
  go_wp2_with (fail)
  exact bodyPost_ret (v := .tuple #[vV 0 0 ⟨#[]⟩ 0 none 0 0, .int .i64 j]) (by simp [results, Tryd.results24, go_sem]) rfl ⟨rfl, b1 _ _⟩

set_option maxHeartbeats 2000000 in
set_option maxRecDepth 100000 in
theorem read_x (L : List UInt8) (hL : L.length ≤ 1048576) (a : Nat) (h2 : a + 1 < L.length) (deep : Nat) (hd : deep ≤ 200) (p : List UInt8) (hp : (L.drop a).take 2 = p) (hp0 : ¬ p = [78, 59]) (hp1 : ¬ p = [98, 58]) (hp2 : ¬ p = [105, 58]) (hp3 : ¬ p = [115, 58]) (hp4 : ¬ p = [97, 58]) (w : World) :
    Calls Tryd.prog 24 #[.string (bz L), .int .i64 a, .int .i64 deep] w (RmQ L (none) w) := by
  obtain ⟨O, HO⟩ : ∃ O, Hid ((none) = O) := ⟨_, Lib.hid rfl⟩
  rw [HO.out]
  obtain ⟨j, hj⟩ : ∃ j : Nat, (a : Int) + 2 = (j : Int) := ⟨a + 2, rfl⟩
  have hja : a + 2 = j := by omega
  have hex := head_ext hj hp
  obtain ⟨y, HY⟩ : ∃ y, Hid (bz p = y) := ⟨_, Lib.hid rfl⟩
  have HYL : Hid (y.toList = p) := Lib.hid (by rw [← HY.out]; exact bz_toList _)
  rw [HY.out] at hex
  have t0 : (y.toList == [78, 59]) = false := by rw [HYL.out, beq_eq_false_iff_ne]; exact hp0
  have u0 : ¬ y.toList = [78, 59] := by rw [HYL.out]; exact hp0
  have t1 : (y.toList == [98, 58]) = false := by rw [HYL.out, beq_eq_false_iff_ne]; exact hp1
  have u1 : ¬ y.toList = [98, 58] := by rw [HYL.out]; exact hp1
  have t2 : (y.toList == [105, 58]) = false := by rw [HYL.out, beq_eq_false_iff_ne]; exact hp2
  have u2 : ¬ y.toList = [105, 58] := by rw [HYL.out]; exact hp2
  have t3 : (y.toList == [115, 58]) = false := by rw [HYL.out, beq_eq_false_iff_ne]; exact hp3
  have u3 : ¬ y.toList = [115, 58] := by rw [HYL.out]; exact hp3
  have t4 : (y.toList == [97, 58]) = false := by rw [HYL.out, beq_eq_false_iff_ne]; exact hp4
  have u4 : ¬ y.toList = [97, 58] := by rw [HYL.out]; exact hp4
  obtain ⟨z, HZ⟩ : ∃ z, Hid (bz L = z) := ⟨_, Lib.hid rfl⟩
  obtain ⟨Ln, HLn⟩ : ∃ n, Hid (L.length = n) := ⟨_, Lib.hid rfl⟩
  have hzs : z.size = Ln := by rw [← HZ.out, ← HLn.out]; rfl
  rw [HLn.out] at hL h2
  rw [HZ.out] at hex ⊢
  have c1 : ¬ ((Ln : Int) - 1 ≤ (a : Int)) := by omega
  have c2 : (a : Int) < (Ln : Int) - 1 := by omega
  have c3 : ¬ ((200 : Int) < (deep : Int)) := by omega
  have c4 : ¬ ((Ln : Int) ≤ (a : Int) + 1) := by omega
  have e1 : (0 : Int) ≤ (a : Int) := by omega
  have e2 : (a : Int) ≤ (j : Int) := by omega
  have e3 : (j : Int) ≤ (z.size : Int) := by omega
  have e4 : a ≤ j := by omega
  have e5 : j ≤ z.size := by omega
  have e6 : j ≤ Ln := by omega
  clear hp hp0 hp1 hp2 hp3 hp4
  suffices hq : Calls Tryd.prog 24 #[.string z, .int .i64 a, .int .i64 deep] w (fun e w' => e = .returned (.tuple #[vV 0 0 ⟨#[]⟩ 0 none 0 0, .int .i64 (-1)]) ∧ Below w.heap.size w w') by
    exact hq.mono fun e w' h => ⟨0, 0, ⟨#[]⟩, 0, [], [], none, 0, -1, h.1, leaf_tin (by decide) i64_zero (Nat.zero_le _), h.2, .inr ⟨HO.out.symm, rfl⟩⟩
  go_enter Tryd.func24, Tryd.ntmps24
  go_wp2_with (fail)
  exact bodyPost_ret (v := .tuple #[vV 0 0 ⟨#[]⟩ 0 none 0 0, .int .i64 (-1)]) (by simp [results, Tryd.results24, go_sem]) rfl ⟨rfl, b1 _ _⟩

set_option maxHeartbeats 2000000 in
set_option maxRecDepth 100000 in
theorem read_b (L : List UInt8) (hL : L.length ≤ 1048576) (a : Nat) (h2 : a + 1 < L.length) (deep : Nat) (hd : deep ≤ 200) (hp : (L.drop a).take 2 = [98, 58]) (w : World) :
    Calls Tryd.prog 24 #[.string (bz L), .int .i64 a, .int .i64 deep] w (RmQ L ((numM 59 (L.drop (a + 2))).map fun p => (leaf 1 p.1 ⟨#[]⟩, p.2)) w) := by
  obtain ⟨O, HO⟩ : ∃ O, Hid (((numM 59 (L.drop (a + 2))).map fun p => (leaf 1 p.1 ⟨#[]⟩, p.2)) = O) := ⟨_, Lib.hid rfl⟩
  rw [HO.out]
  obtain ⟨j, hj⟩ : ∃ j : Nat, (a : Int) + 2 = (j : Int) := ⟨a + 2, rfl⟩
  have hja : a + 2 = j := by omega
  have hex := head_ext hj hp
  obtain ⟨y, HY⟩ : ∃ y, Hid (bz [98, 58] = y) := ⟨_, Lib.hid rfl⟩
  have HYL : Hid (y.toList = [98, 58]) := Lib.hid (by rw [← HY.out]; exact bz_toList _)
  rw [HY.out] at hex
  have t0 : (y.toList == [78, 59]) = false := by rw [HYL.out]; decide
  have u0 : ¬ y.toList = [78, 59] := by rw [HYL.out]; decide
  have t1 : (y.toList == [98, 58]) = true := by rw [HYL.out]; decide
  have u1 : y.toList = [98, 58] := HYL.out
  have t2 : (y.toList == [105, 58]) = false := by rw [HYL.out]; decide
  have u2 : ¬ y.toList = [105, 58] := by rw [HYL.out]; decide
  have t3 : (y.toList == [115, 58]) = false := by rw [HYL.out]; decide
  have u3 : ¬ y.toList = [115, 58] := by rw [HYL.out]; decide
  have t4 : (y.toList == [97, 58]) = false := by rw [HYL.out]; decide
  have u4 : ¬ y.toList = [97, 58] := by rw [HYL.out]; decide
  have NS := num_s L hL (a + 2) (by omega) 59
  rw [show ((a + 2 : Nat) : Int) = (j : Int) by omega] at NS
  have NB := numR_is 59 (show a + 2 ≤ L.length by omega)
  obtain ⟨⟨n, nx⟩, HNR⟩ : ∃ p, Hid (numR L (a + 2) 59 = p) := ⟨_, Lib.hid rfl⟩
  rw [HNR.out] at NS NB
  obtain ⟨z, HZ⟩ : ∃ z, Hid (bz L = z) := ⟨_, Lib.hid rfl⟩
  obtain ⟨Ln, HLn⟩ : ∃ n, Hid (L.length = n) := ⟨_, Lib.hid rfl⟩
  have hzs : z.size = Ln := by rw [← HZ.out, ← HLn.out]; rfl
  rw [HLn.out] at hL h2
  rw [HZ.out] at hex NS ⊢
  have c1 : ¬ ((Ln : Int) - 1 ≤ (a : Int)) := by omega
  have c2 : (a : Int) < (Ln : Int) - 1 := by omega
  have c3 : ¬ ((200 : Int) < (deep : Int)) := by omega
  have c4 : ¬ ((Ln : Int) ≤ (a : Int) + 1) := by omega
  have e1 : (0 : Int) ≤ (a : Int) := by omega
  have e2 : (a : Int) ≤ (j : Int) := by omega
  have e3 : (j : Int) ≤ (z.size : Int) := by omega
  have e4 : a ≤ j := by omega
  have e5 : j ≤ z.size := by omega
  have e6 : j ≤ Ln := by omega
  clear hp
  obtain ⟨HI, HRES⟩ : Hid (I64 n ∧ I64 nx) ∧ Hid ((∃ b : Nat, numM 59 (L.drop (a + 2)) = some (n, L.drop b) ∧ nx = (b : Int) ∧ b ≤ L.length) ∨ (numM 59 (L.drop (a + 2)) = none ∧ n = 0 ∧ nx = -1)) := by
    rcases NB with ⟨h1, h3⟩ | ⟨n', b, h1, -, h4, h5, h6⟩
    · cases h3
      exact ⟨Lib.hid ⟨by unfold I64; simp, by unfold I64; simp⟩, Lib.hid (.inr ⟨h1, rfl, rfl⟩)⟩
    · cases h5
      have hll := HLn.out
      exact ⟨Lib.hid ⟨by unfold I64; omega, by unfold I64; omega⟩, Lib.hid (.inl ⟨b, h1, rfl, h4⟩)⟩
  clear NB
  have NS2 : Hid (∀ w, Calls Tryd.prog 44 #[.string z, .int .i64 j, .int .u8 59] w (fun e w' => e = .returned (.tuple #[.int .i64 n, .int .i64 nx]) ∧ Below w.heap.size w w')) := Lib.hid NS
  clear NS
  go_enter Tryd.func24, Tryd.ntmps24
  go_wp2_with (fail)
  refine (NS2.out _).mono ?_
  rintro e w1 ⟨rfl, hb⟩
  have EL := Lib.hid (carry hb (heap_alloc_new w _))
  have HBL := Lib.hid (bs (b1 w _) hb)
  obtain ⟨r1, f1⟩ := rowc EL.out
  clear hb
  go_wp2_with (fail)
  generalize hwF : (((((w1.setCell ⟨w.heap.size, 0, none⟩ (.int .i64 1)).setCell ⟨w.heap.size, 1, none⟩ (.int .i64 n)).setCell ⟨w.heap.size, 2, none⟩ (.string ⟨#[]⟩)).setCell ⟨w.heap.size, 3, none⟩ (.int .i64 0)).setCell ⟨w.heap.size, 4, none⟩ (.slice none 0 0)) = wF
  obtain ⟨rF, oF, bF⟩ := fill5 EL.out hwF
  refine bodyPost_ret (v := .tuple #[vV 1 n ⟨#[]⟩ 0 none 0 0, .int .i64 nx]) ?_ rfl ?_
  · simp [results, Tryd.results24, go_sem, rF]
  · exact ⟨1, n, ⟨#[]⟩, 0, [], [], none, 0, nx, rfl, leaf_tin (by decide) HI.out.1 (Nat.zero_le _), bF _ _ (Nat.le_refl _) HBL.out, (by rcases HRES.out with ⟨b, h1, h2, h3⟩ | ⟨h1, rfl, rfl⟩; exact .inl ⟨b, by rw [← HO.out, h1]; rfl, h2, h3⟩; exact .inr ⟨by rw [← HO.out, h1]; rfl, rfl⟩)⟩

set_option maxHeartbeats 2000000 in
set_option maxRecDepth 100000 in
theorem read_i (L : List UInt8) (hL : L.length ≤ 1048576) (a : Nat) (h2 : a + 1 < L.length) (deep : Nat) (hd : deep ≤ 200) (hp : (L.drop a).take 2 = [105, 58]) (w : World) :
    Calls Tryd.prog 24 #[.string (bz L), .int .i64 a, .int .i64 deep] w (RmQ L ((numM 59 (L.drop (a + 2))).map fun p => (leaf 2 p.1 ⟨#[]⟩, p.2)) w) := by
  obtain ⟨O, HO⟩ : ∃ O, Hid (((numM 59 (L.drop (a + 2))).map fun p => (leaf 2 p.1 ⟨#[]⟩, p.2)) = O) := ⟨_, Lib.hid rfl⟩
  rw [HO.out]
  obtain ⟨j, hj⟩ : ∃ j : Nat, (a : Int) + 2 = (j : Int) := ⟨a + 2, rfl⟩
  have hja : a + 2 = j := by omega
  have hex := head_ext hj hp
  obtain ⟨y, HY⟩ : ∃ y, Hid (bz [105, 58] = y) := ⟨_, Lib.hid rfl⟩
  have HYL : Hid (y.toList = [105, 58]) := Lib.hid (by rw [← HY.out]; exact bz_toList _)
  rw [HY.out] at hex
  have t0 : (y.toList == [78, 59]) = false := by rw [HYL.out]; decide
  have u0 : ¬ y.toList = [78, 59] := by rw [HYL.out]; decide
  have t1 : (y.toList == [98, 58]) = false := by rw [HYL.out]; decide
  have u1 : ¬ y.toList = [98, 58] := by rw [HYL.out]; decide
  have t2 : (y.toList == [105, 58]) = true := by rw [HYL.out]; decide
  have u2 : y.toList = [105, 58] := HYL.out
  have t3 : (y.toList == [115, 58]) = false := by rw [HYL.out]; decide
  have u3 : ¬ y.toList = [115, 58] := by rw [HYL.out]; decide
  have t4 : (y.toList == [97, 58]) = false := by rw [HYL.out]; decide
  have u4 : ¬ y.toList = [97, 58] := by rw [HYL.out]; decide
  have NS := num_s L hL (a + 2) (by omega) 59
  rw [show ((a + 2 : Nat) : Int) = (j : Int) by omega] at NS
  have NB := numR_is 59 (show a + 2 ≤ L.length by omega)
  obtain ⟨⟨n, nx⟩, HNR⟩ : ∃ p, Hid (numR L (a + 2) 59 = p) := ⟨_, Lib.hid rfl⟩
  rw [HNR.out] at NS NB
  obtain ⟨z, HZ⟩ : ∃ z, Hid (bz L = z) := ⟨_, Lib.hid rfl⟩
  obtain ⟨Ln, HLn⟩ : ∃ n, Hid (L.length = n) := ⟨_, Lib.hid rfl⟩
  have hzs : z.size = Ln := by rw [← HZ.out, ← HLn.out]; rfl
  rw [HLn.out] at hL h2
  rw [HZ.out] at hex NS ⊢
  have c1 : ¬ ((Ln : Int) - 1 ≤ (a : Int)) := by omega
  have c2 : (a : Int) < (Ln : Int) - 1 := by omega
  have c3 : ¬ ((200 : Int) < (deep : Int)) := by omega
  have c4 : ¬ ((Ln : Int) ≤ (a : Int) + 1) := by omega
  have e1 : (0 : Int) ≤ (a : Int) := by omega
  have e2 : (a : Int) ≤ (j : Int) := by omega
  have e3 : (j : Int) ≤ (z.size : Int) := by omega
  have e4 : a ≤ j := by omega
  have e5 : j ≤ z.size := by omega
  have e6 : j ≤ Ln := by omega
  clear hp
  obtain ⟨HI, HRES⟩ : Hid (I64 n ∧ I64 nx) ∧ Hid ((∃ b : Nat, numM 59 (L.drop (a + 2)) = some (n, L.drop b) ∧ nx = (b : Int) ∧ b ≤ L.length) ∨ (numM 59 (L.drop (a + 2)) = none ∧ n = 0 ∧ nx = -1)) := by
    rcases NB with ⟨h1, h3⟩ | ⟨n', b, h1, -, h4, h5, h6⟩
    · cases h3
      exact ⟨Lib.hid ⟨by unfold I64; simp, by unfold I64; simp⟩, Lib.hid (.inr ⟨h1, rfl, rfl⟩)⟩
    · cases h5
      have hll := HLn.out
      exact ⟨Lib.hid ⟨by unfold I64; omega, by unfold I64; omega⟩, Lib.hid (.inl ⟨b, h1, rfl, h4⟩)⟩
  clear NB
  have NS2 : Hid (∀ w, Calls Tryd.prog 44 #[.string z, .int .i64 j, .int .u8 59] w (fun e w' => e = .returned (.tuple #[.int .i64 n, .int .i64 nx]) ∧ Below w.heap.size w w')) := Lib.hid NS
  clear NS
  go_enter Tryd.func24, Tryd.ntmps24
  go_wp2_with (fail)
  refine (NS2.out _).mono ?_
  rintro e w1 ⟨rfl, hb⟩
  have EL := Lib.hid (carry hb (heap_alloc_new w _))
  have HBL := Lib.hid (bs (b1 w _) hb)
  obtain ⟨r1, f1⟩ := rowc EL.out
  clear hb
  go_wp2_with (fail)
  refine (intValue_s n _).mono ?_
  rintro e w2 ⟨rfl, hb⟩
  replace EL := Lib.hid (carry hb EL.out)
  replace HBL := Lib.hid (bs HBL.out hb)
  clear r1 f1 hb
  obtain ⟨r1, f1⟩ := rowc EL.out
  go_wp2_with (fail)
  generalize hwF : (((((w2.setCell ⟨w.heap.size, 0, none⟩ (.int .i64 2)).setCell ⟨w.heap.size, 1, none⟩ (.int .i64 n)).setCell ⟨w.heap.size, 2, none⟩ (.string ⟨#[]⟩)).setCell ⟨w.heap.size, 3, none⟩ (.int .i64 0)).setCell ⟨w.heap.size, 4, none⟩ (.slice none 0 0)) = wF
  obtain ⟨rF, oF, bF⟩ := fill5 EL.out hwF
  refine bodyPost_ret (v := .tuple #[vV 2 n ⟨#[]⟩ 0 none 0 0, .int .i64 nx]) ?_ rfl ?_
  · simp [results, Tryd.results24, go_sem, rF]
  · exact ⟨2, n, ⟨#[]⟩, 0, [], [], none, 0, nx, rfl, leaf_tin (by decide) HI.out.1 (Nat.zero_le _), bF _ _ (Nat.le_refl _) HBL.out, (by rcases HRES.out with ⟨b, h1, h2, h3⟩ | ⟨h1, rfl, rfl⟩; exact .inl ⟨b, by rw [← HO.out, h1]; rfl, h2, h3⟩; exact .inr ⟨by rw [← HO.out, h1]; rfl, rfl⟩)⟩

set_option maxHeartbeats 2000000 in
set_option maxRecDepth 100000 in
theorem read_t (L : List UInt8) (hL : L.length ≤ 1048576) (a : Nat) (h2 : a + 1 < L.length) (deep : Nat) (hd : deep ≤ 200) (hp : (L.drop a).take 2 = [115, 58]) (w : World) :
    Calls Tryd.prog 24 #[.string (bz L), .int .i64 a, .int .i64 deep] w (RmQ L ((txM (L.drop (a + 2))).map fun p => (leaf 3 0 (bz p.1), p.2)) w) := by
  obtain ⟨O, HO⟩ : ∃ O, Hid (((txM (L.drop (a + 2))).map fun p => (leaf 3 0 (bz p.1), p.2)) = O) := ⟨_, Lib.hid rfl⟩
  rw [HO.out]
  obtain ⟨j, hj⟩ : ∃ j : Nat, (a : Int) + 2 = (j : Int) := ⟨a + 2, rfl⟩
  have hja : a + 2 = j := by omega
  have hex := head_ext hj hp
  obtain ⟨y, HY⟩ : ∃ y, Hid (bz [115, 58] = y) := ⟨_, Lib.hid rfl⟩
  have HYL : Hid (y.toList = [115, 58]) := Lib.hid (by rw [← HY.out]; exact bz_toList _)
  rw [HY.out] at hex
  have t0 : (y.toList == [78, 59]) = false := by rw [HYL.out]; decide
  have u0 : ¬ y.toList = [78, 59] := by rw [HYL.out]; decide
  have t1 : (y.toList == [98, 58]) = false := by rw [HYL.out]; decide
  have u1 : ¬ y.toList = [98, 58] := by rw [HYL.out]; decide
  have t2 : (y.toList == [105, 58]) = false := by rw [HYL.out]; decide
  have u2 : ¬ y.toList = [105, 58] := by rw [HYL.out]; decide
  have t3 : (y.toList == [115, 58]) = true := by rw [HYL.out]; decide
  have u3 : y.toList = [115, 58] := HYL.out
  have t4 : (y.toList == [97, 58]) = false := by rw [HYL.out]; decide
  have u4 : ¬ y.toList = [97, 58] := by rw [HYL.out]; decide
  have NS := num_s L hL (a + 2) (by omega) 58
  rw [show ((a + 2 : Nat) : Int) = (j : Int) by omega] at NS
  have NB := numR_is 58 (show a + 2 ≤ L.length by omega)
  obtain ⟨⟨n, nx⟩, HNR⟩ : ∃ p, Hid (numR L (a + 2) 58 = p) := ⟨_, Lib.hid rfl⟩
  rw [HNR.out] at NS NB
  obtain ⟨z, HZ⟩ : ∃ z, Hid (bz L = z) := ⟨_, Lib.hid rfl⟩
  obtain ⟨Ln, HLn⟩ : ∃ n, Hid (L.length = n) := ⟨_, Lib.hid rfl⟩
  have hzs : z.size = Ln := by rw [← HZ.out, ← HLn.out]; rfl
  rw [HLn.out] at hL h2
  rw [HZ.out] at hex NS ⊢
  have c1 : ¬ ((Ln : Int) - 1 ≤ (a : Int)) := by omega
  have c2 : (a : Int) < (Ln : Int) - 1 := by omega
  have c3 : ¬ ((200 : Int) < (deep : Int)) := by omega
  have c4 : ¬ ((Ln : Int) ≤ (a : Int) + 1) := by omega
  have e1 : (0 : Int) ≤ (a : Int) := by omega
  have e2 : (a : Int) ≤ (j : Int) := by omega
  have e3 : (j : Int) ≤ (z.size : Int) := by omega
  have e4 : a ≤ j := by omega
  have e5 : j ≤ z.size := by omega
  have e6 : j ≤ Ln := by omega
  clear hp
  have NS2 : Hid (∀ w, Calls Tryd.prog 44 #[.string z, .int .i64 j, .int .u8 58] w (fun e w' => e = .returned (.tuple #[.int .i64 n, .int .i64 nx]) ∧ Below w.heap.size w w')) := Lib.hid NS
  clear NS
  have bad : O = none → ∀ wz, Below w.heap.size w wz → RmQ L O w (.returned (.tuple #[vV 0 0 ⟨#[]⟩ 0 none 0 0, .int .i64 (-1)])) wz := fun h wz hb => ⟨0, 0, ⟨#[]⟩, 0, [], [], none, 0, -1, rfl, leaf_tin (by decide) i64_zero (Nat.zero_le _), hb, .inr ⟨h, rfl⟩⟩
  have BAD := Lib.hid bad
  clear bad
  rcases NB with ⟨h1, h3⟩ | ⟨n', b, h1, hab, hbL, h5, hn0, hn1⟩
  · cases h3
    have HON : Hid (O = none) := Lib.hid (by rw [← HO.out]; unfold txM; rw [h1]; rfl)
    clear h1
    go_enter Tryd.func24, Tryd.ntmps24
    go_wp2_with (fail)
    refine (NS2.out _).mono ?_
    rintro e w1 ⟨rfl, hb⟩
    have EL := Lib.hid (carry hb (heap_alloc_new w _))
    have HBL := Lib.hid (bs (b1 w _) hb)
    obtain ⟨r1, f1⟩ := rowc EL.out
    clear hb
    go_wp2_with (fail)
    generalize hwF : (((((w1.setCell ⟨w.heap.size, 0, none⟩ (.int .i64 0)).setCell ⟨w.heap.size, 1, none⟩ (.int .i64 0)).setCell ⟨w.heap.size, 2, none⟩ (.string ⟨#[]⟩)).setCell ⟨w.heap.size, 3, none⟩ (.int .i64 0)).setCell ⟨w.heap.size, 4, none⟩ (.slice none 0 0)) = wF
    obtain ⟨rF, oF, bF⟩ := fill5 EL.out hwF
    refine bodyPost_ret (v := .tuple #[vV 0 0 ⟨#[]⟩ 0 none 0 0, .int .i64 (-1)]) ?_ rfl (BAD.out HON.out _ (bF _ _ (Nat.le_refl _) HBL.out))
    simp [results, Tryd.results24, go_sem, rF]
  · cases h5
    rw [HLn.out] at hbL
    by_cases hn : n < 0
    · have HON : Hid (O = none) := Lib.hid (by rw [← HO.out]; unfold txM; rw [h1]; simp only [Option.bind_some]; rw [if_neg (by omega)]; rfl)
      have d1 : ¬ ((b : Int) < 0) := by omega
      clear h1
      go_enter Tryd.func24, Tryd.ntmps24
      go_wp2_with (fail)
      refine (NS2.out _).mono ?_
      rintro e w1 ⟨rfl, hb⟩
      have EL := Lib.hid (carry hb (heap_alloc_new w _))
      have HBL := Lib.hid (bs (b1 w _) hb)
      obtain ⟨r1, f1⟩ := rowc EL.out
      clear hb
      go_wp2_with (fail)
      generalize hwF : (((((w1.setCell ⟨w.heap.size, 0, none⟩ (.int .i64 0)).setCell ⟨w.heap.size, 1, none⟩ (.int .i64 0)).setCell ⟨w.heap.size, 2, none⟩ (.string ⟨#[]⟩)).setCell ⟨w.heap.size, 3, none⟩ (.int .i64 0)).setCell ⟨w.heap.size, 4, none⟩ (.slice none 0 0)) = wF
      obtain ⟨rF, oF, bF⟩ := fill5 EL.out hwF
      refine bodyPost_ret (v := .tuple #[vV 0 0 ⟨#[]⟩ 0 none 0 0, .int .i64 (-1)]) ?_ rfl (BAD.out HON.out _ (bF _ _ (Nat.le_refl _) HBL.out))
      simp [results, Tryd.results24, go_sem, rF]
    · obtain ⟨m, rfl⟩ : ∃ m : Nat, n = (m : Int) := ⟨n.toNat, by omega⟩
      have htx : txM (L.drop (a + 2)) = txN m (L.drop b) := by unfold txM; rw [h1]; simp only [Option.bind_some]; rw [if_pos (by omega)]; rfl
      have d1 : ¬ ((b : Int) < 0) := by omega
      have d2 : ¬ ((m : Int) < 0) := by omega
      clear h1 hn
      rcases txN_at (L := L) (b := b) (m := m) (by rw [HLn.out]; exact hbL) with ⟨hlt, h59, htn⟩ | ⟨hno, htn⟩
      · have hltn : b + m < Ln := by rw [← HLn.out]; exact hlt
        obtain ⟨q, hq⟩ : ∃ q : Nat, (b : Int) + (m : Int) = (q : Int) := ⟨b + m, rfl⟩
        have hqb : b + m = q := by omega
        have hzq : z[q]'(by omega) = 59 := by
          have : ∀ z', bz L = z' → ∀ h : b + m < z'.size, z'[b + m]'h = L[b + m] := fun z' e h => by subst e; rfl
          have := this z HZ.out (by omega)
          rw [h59] at this
          subst hqb
          exact this
        have d3 : ¬ ((Ln : Int) - (b : Int) ≤ (m : Int)) := by omega
        have d4 : (m : Int) < (Ln : Int) - (b : Int) := by omega
        have d5 : (0 : Int) ≤ (q : Int) := by omega
        have d6 : (q : Int) < (z.size : Int) := by omega
        have d7 : q < z.size := by omega
        have d8 : (0 : Int) ≤ (b : Int) := by omega
        have d9 : (b : Int) ≤ (q : Int) := by omega
        have d10 : (q : Int) ≤ (z.size : Int) := by omega
        have d11 : b ≤ q := by omega
        have d12 : q ≤ z.size := by omega
        have d13 : q < Ln := by omega
        have d14 : q ≤ Ln := by omega
        have hex2 : z.extract b q = bz ((L.drop b).take m) := by rw [← HZ.out, bz_ext', show q - b = m by omega]
        obtain ⟨s, HS⟩ : ∃ s, Hid (bz ((L.drop b).take m) = s) := ⟨_, Lib.hid rfl⟩
        rw [HS.out] at hex2
        have hsl : s.size ≤ maxLen := by rw [← HS.out, bz_size, List.length_take]; unfold maxLen; have := List.length_drop (i := b) (l := L); have := HLn.out; omega
        have HSL := Lib.hid hsl
        have HON : Hid (O = some (leaf 3 0 s, L.drop (q + 1))) := Lib.hid (by rw [← HO.out, htx, htn, ← HS.out, ← hqb]; rfl)
        clear htx htn h59 hlt hsl
        go_enter Tryd.func24, Tryd.ntmps24
        go_wp2_with (fail)
        refine (NS2.out _).mono ?_
        rintro e w1 ⟨rfl, hb⟩
        have EL := Lib.hid (carry hb (heap_alloc_new w _))
        have HBL := Lib.hid (bs (b1 w _) hb)
        obtain ⟨r1, f1⟩ := rowc EL.out
        clear hb
        go_wp2_with (fail)
        refine (textValue_s s _).mono ?_
        rintro e w2 ⟨rfl, hb⟩
        replace EL := Lib.hid (carry hb EL.out)
        replace HBL := Lib.hid (bs HBL.out hb)
        clear r1 f1 hb
        obtain ⟨r1, f1⟩ := rowc EL.out
        go_wp2_with (fail)
        generalize hwF : (((((w2.setCell ⟨w.heap.size, 0, none⟩ (.int .i64 3)).setCell ⟨w.heap.size, 1, none⟩ (.int .i64 0)).setCell ⟨w.heap.size, 2, none⟩ (.string s)).setCell ⟨w.heap.size, 3, none⟩ (.int .i64 0)).setCell ⟨w.heap.size, 4, none⟩ (.slice none 0 0)) = wF
        obtain ⟨rF, oF, bF⟩ := fill5 EL.out hwF
        refine bodyPost_ret (v := .tuple #[vV 3 0 s 0 none 0 0, .int .i64 (q + 1 : Int)]) ?_ rfl ?_
        · simp [results, Tryd.results24, go_sem, rF]
        · exact ⟨3, 0, s, 0, [], [], none, 0, (q + 1 : Int), rfl, leaf_tin (by decide) i64_zero HSL.out, bF _ _ (Nat.le_refl _) HBL.out, .inl ⟨q + 1, HON.out, rfl, by rw [HLn.out]; omega⟩⟩
      · have HON : Hid (O = none) := Lib.hid (by rw [← HO.out, htx, htn]; rfl)
        by_cases hlt : b + m < Ln
        · obtain ⟨q, hq⟩ : ∃ q : Nat, (b : Int) + (m : Int) = (q : Int) := ⟨b + m, rfl⟩
          have hqb : b + m = q := by omega
          obtain ⟨v, hzq, hv⟩ : ∃ v : UInt8, z[q]'(by omega) = v ∧ v ≠ 59 := by
            refine ⟨_, rfl, ?_⟩
            have : ∀ z', bz L = z' → ∀ h : b + m < z'.size, z'[b + m]'h = L[b + m]'(by have := HLn.out; omega) := fun z' e h => by subst e; rfl
            have := this z HZ.out (by omega)
            subst hqb
            rw [this]
            exact hno _
          have hv1 : ¬ ((v.toNat : Int) = 59) := fun e => hv (UInt8.toNat_inj.1 (by show v.toNat = 59; omega))
          have hv2 : ((v.toNat : Int) == 59) = false := by rw [beq_eq_false_iff_ne]; exact hv1
          have hv3 : ((v.toNat : Int) != 59) = true := by simp [hv1]
          have d3 : ¬ ((Ln : Int) - (b : Int) ≤ (m : Int)) := by omega
          have d4 : (m : Int) < (Ln : Int) - (b : Int) := by omega
          have d5 : (0 : Int) ≤ (q : Int) := by omega
          have d6 : (q : Int) < (z.size : Int) := by omega
          have d7 : q < z.size := by omega
          have d13 : q < Ln := by omega
          clear htx htn hno hv
          go_enter Tryd.func24, Tryd.ntmps24
          go_wp2_with (fail)
          refine (NS2.out _).mono ?_
          rintro e w1 ⟨rfl, hb⟩
          have EL := Lib.hid (carry hb (heap_alloc_new w _))
          have HBL := Lib.hid (bs (b1 w _) hb)
          obtain ⟨r1, f1⟩ := rowc EL.out
          clear hb
          go_wp2_with (fail)
          generalize hwF : (((((w1.setCell ⟨w.heap.size, 0, none⟩ (.int .i64 0)).setCell ⟨w.heap.size, 1, none⟩ (.int .i64 0)).setCell ⟨w.heap.size, 2, none⟩ (.string ⟨#[]⟩)).setCell ⟨w.heap.size, 3, none⟩ (.int .i64 0)).setCell ⟨w.heap.size, 4, none⟩ (.slice none 0 0)) = wF
          obtain ⟨rF, oF, bF⟩ := fill5 EL.out hwF
          refine bodyPost_ret (v := .tuple #[vV 0 0 ⟨#[]⟩ 0 none 0 0, .int .i64 (-1)]) ?_ rfl (BAD.out HON.out _ (bF _ _ (Nat.le_refl _) HBL.out))
          simp [results, Tryd.results24, go_sem, rF]
        · have d3 : (Ln : Int) - (b : Int) ≤ (m : Int) := by omega
          have d4 : ¬ ((m : Int) < (Ln : Int) - (b : Int)) := by omega
          clear htx htn hno
          go_enter Tryd.func24, Tryd.ntmps24
          go_wp2_with (fail)
          refine (NS2.out _).mono ?_
          rintro e w1 ⟨rfl, hb⟩
          have EL := Lib.hid (carry hb (heap_alloc_new w _))
          have HBL := Lib.hid (bs (b1 w _) hb)
          obtain ⟨r1, f1⟩ := rowc EL.out
          clear hb
          go_wp2_with (fail)
          generalize hwF : (((((w1.setCell ⟨w.heap.size, 0, none⟩ (.int .i64 0)).setCell ⟨w.heap.size, 1, none⟩ (.int .i64 0)).setCell ⟨w.heap.size, 2, none⟩ (.string ⟨#[]⟩)).setCell ⟨w.heap.size, 3, none⟩ (.int .i64 0)).setCell ⟨w.heap.size, 4, none⟩ (.slice none 0 0)) = wF
          obtain ⟨rF, oF, bF⟩ := fill5 EL.out hwF
          refine bodyPost_ret (v := .tuple #[vV 0 0 ⟨#[]⟩ 0 none 0 0, .int .i64 (-1)]) ?_ rfl (BAD.out HON.out _ (bF _ _ (Nat.le_refl _) HBL.out))
          simp [results, Tryd.results24, go_sem, rF]

end Go.Proofs.YtdglmnmalfpipaaDoor.tree

/-
  A text's copy; a part of what a list of items holds.
  Conditions: those that each theorem names.
-/
namespace Go.Proofs.YtdglmnmalfpipaaDoor.tree
open Go.ChangeShapes Go.WideShapes Go.ChangeAt Go.RowKit
set_option linter.unusedVariables false

theorem implClone' (s : ByteArray) (hs : s.size ≤ 1099511627776) (w : World) : Calls Tryd.prog 72 #[.string s] w fun e w' => e = .returned (.string s) ∧ Below w.heap.size w w' := by
  go_enter Tryd.func72, Tryd.ntmps72
  go_wp2_with (fail)
  refine (Tryd.stringslite_Clone s _ (by omega)).mono ?_
  rintro e w1 ⟨rfl, hb⟩
  go_wp2
  go_ret
  exact ⟨rfl, hb⟩

theorem tots_key : ∀ {ks : List Ky} {vs : List Tr} {j : Nat} {y : Ky} {t : Tr}, ks[j]? = some y → vs[j]? = some t → y.str.size + tot t ≤ tots ks vs
  | [], _, j, _, _, h, _ => by simp at h
  | _, [], j, _, _, _, h => by simp at h
  | y :: ks, t :: vs, 0, _, _, h, h' => by
    simp at h h'
    subst h h'
    rw [tots]
    omega
  | y :: ks, t :: vs, j + 1, _, _, h, h' => by
    have := tots_key (ks := ks) (vs := vs) (j := j) (by simpa using h) (by simpa using h')
    rw [tots]
    omega

end Go.Proofs.YtdglmnmalfpipaaDoor.tree

/-
  The project's reader of a text: its small steps.
  Conditions: those that each theorem names.
-/
namespace Go.Proofs.YtdglmnmalfpipaaDoor.tree
open Go.ChangeShapes Go.WideShapes Go.ChangeAt Go.RowKit
set_option linter.unusedVariables false

theorem bz_ext (l : List UInt8) (i j : Nat) : (bz l).extract i j = bz ((l.drop i).take (j - i)) := by
  apply ByteArray.ext
  apply Array.toList_inj.1
  rw [ByteArray.data_extract, Array.toList_extract, List.extract_eq_take_drop]
  rfl
theorem bz_from (l : List UInt8) (i : Nat) : (bz l).extract i (bz l).size = bz (l.drop i) := by
  rw [bz_ext, bz_size, List.take_of_length_le (by rw [List.length_drop]; omega)]
theorem bz_upto (l : List UInt8) (j : Nat) : (bz l).extract 0 j = bz (l.take j) := by rw [bz_ext]; rfl
theorem pf_has : ∀ p l, Lib.hasPrefix l p = (pf p l).isSome
  | [], l => by rw [pf]; cases l <;> rfl
  | a :: p, [] => rfl
  | a :: p, b :: l => by
    rw [pf]
    have ih := pf_has p l
    unfold Lib.hasPrefix at ih ⊢
    rw [List.isPrefixOf]
    by_cases e : a = b
    · rw [if_pos e, ← ih, e]; simp
    · rw [if_neg e]; simp [e]
theorem pf_trim (p l : List UInt8) : Lib.trimPrefix l p = (pf p l).getD l := by
  unfold Lib.trimPrefix
  rw [pf_has]
  cases h : pf p l with
  | none => rfl
  | some r =>
    rw [pf_out h]
    simp
theorem pf_len {p l r : List UInt8} (h : pf p l = some r) : l.length = p.length + r.length := by rw [pf_out h, List.length_append]
theorem ix_cut (c : UInt8) : ∀ l, (cutC c l = none ∧ Lib.indexByte l c = -1) ∨ ∃ d r, cutC c l = some (d, r) ∧ Lib.indexByte l c = d.length ∧ l = d ++ c :: r
  | [] => .inl ⟨rfl, rfl⟩
  | b :: l => by
    rw [cutC, Lib.indexByte]
    by_cases e : b = c
    · subst e
      exact .inr ⟨[], l, by rw [if_pos rfl], by simp, rfl⟩
    · have e' : (b == c) = false := by simpa using e
      rw [if_neg e, e']
      rcases ix_cut c l with ⟨h1, h2⟩ | ⟨d, r, h1, h2, h3⟩
      · exact .inl ⟨by rw [h1]; rfl, by rw [h2]; rfl⟩
      · refine .inr ⟨b :: d, r, by rw [h1]; rfl, ?_, by rw [h3]; rfl⟩
        rw [h2]
        have : ((d.length : Int) == -1) = false := by rw [beq_eq_false_iff_ne]; omega
        simp [this]
theorem nm_len {c : UInt8} {lo hi n : Int} {l r : List UInt8} (h : nm c lo hi l = some (n, r)) : r.length + 1 ≤ l.length := by
  rw [(nm_out h).1]
  simp only [List.length_append, List.length_cons]
  omega

/-- The reader in block R: what is left of the text and of the weight. -/
structure Rs (B R : Nat) (l : List UInt8) (W : Int) (w : World) : Prop where
  blk : w.heap[R]? = some (.cells #[.string (bz l), .int .i64 W] 54 (0, 0))
  le : B ≤ R
  env : ∃ w0, prs.Env w0 ∧ w0.heap.size ≤ B ∧ Below w0.heap.size w0 w
  len : l.length ≤ 1099511627776
  wt : -2 ≤ W ∧ W ≤ 200
def OnR (R : Nat) (q : Nat) : Prop := q = R
theorem fr_on {R j : Nat} {u : Value} {w : World} : Fr (OnR R) w (w.setCell ⟨R, j, none⟩ u) := Fr.set (S := OnR R) rfl _ _
section
variable {B R : Nat} {l l' : List UInt8} {W W' : Int} {w w' : World}
theorem Rs.lt (h : Rs B R l W w) : R < w.heap.size := (Array.getElem?_eq_some_iff.1 h.blk).1
theorem Rs.ev (h : Rs B R l W w) : prs.Env w := by
  obtain ⟨w0, h1, h2, h3⟩ := h.env
  exact h1.stays h3
theorem Rs.next (h : Rs B R l W w) (hf : Fr (OnR R) w w') (hb : w'.heap[R]? = some (.cells #[.string (bz l'), .int .i64 W'] 54 (0, 0))) (hl : l'.length ≤ l.length) (hw : -2 ≤ W' ∧ W' ≤ 200) : Rs B R l' W' w' := by
  refine ⟨hb, h.le, ?_, Nat.le_trans hl h.len, hw⟩
  obtain ⟨w0, h1, h2, h3⟩ := h.env
  have hle := h.le
  exact ⟨w0, h1, h2, h3.trans (hf.below h3.size (fun q hq => by unfold OnR at hq; omega))⟩
theorem Rs.stays (h : Rs B R l W w) (hb : Below w.heap.size w w') : Rs B R l W w' := h.next (Fr.of hb) (carry hb h.blk) (Nat.le_refl _) h.wt
theorem Rs.text (h : Rs B R l W w) (hl : l'.length ≤ l.length) : Rs B R l' W (w.setCell ⟨R, 0, none⟩ (.string (bz l'))) :=
  h.next (fr_on) (by have := set_heap h.blk 0 (.string (bz l')); simpa using this) hl h.wt
theorem Rs.weight (h : Rs B R l W w) (hw : -2 ≤ W' ∧ W' ≤ 200) : Rs B R l W' (w.setCell ⟨R, 1, none⟩ (.int .i64 W')) :=
  h.next (fr_on) (by have := set_heap h.blk 1 (.int .i64 W'); simpa using this) (Nat.le_refl _) hw
end

set_option maxRecDepth 100000 in
theorem skip_i (p : List UInt8) (B R : Nat) (l : List UInt8) (W : Int) (w : World) (h : Rs B R l W w) :
    Calls Tryd.prog 48 #[.pointer (some ⟨R, 0, none⟩), .string (bz p)] w
      (fun e w' => e = .returned (.bool (pf p l).isSome) ∧ Rs B R ((pf p l).getD l) W w' ∧ Fr (OnR R) w w') := by
  have CP : ∀ w, Calls Tryd.prog 68 #[.string (bz l), .string (bz p)] w (fun e w' => e = .returned (.tuple #[.string (bz ((pf p l).getD l)), .bool (pf p l).isSome]) ∧ w' = w) := fun w => by
    have := Tryd.strings_CutPrefix (bz l) (bz p) w
    rw [bz_list, bz_list, pf_trim, pf_has] at this
    exact this
  have hle : ((pf p l).getD l).length ≤ l.length := by
    cases h : pf p l with
    | none => exact Nat.le_refl _
    | some r => have := pf_len h; simp only [Option.getD_some]; omega
  obtain ⟨r, f⟩ := rowc h.blk
  have HT := Lib.hid (h.text hle)
  generalize (pf p l).isSome = q at *
  generalize (pf p l).getD l = l1 at *
  generalize bz p = P at *
  generalize hz : bz l = z at *
  generalize bz l1 = z1 at *
  have CP := Lib.hid CP
  clear h hle hz
  go_enter Tryd.func48, Tryd.ntmps48
  go_wp2_with (fail)
  refine (CP.out _).mono ?_
  rintro e w1 ⟨rfl, rfl⟩
  go_wp2_with (fail)
  go_ret
  exact ⟨rfl, HT.out, fr_on⟩

/-- What strings.Cut gives at a separator of one byte. -/
def cutV (l : List UInt8) (c : UInt8) : Value := match cutC c l with
  | some p => .tuple #[.string (bz p.1), .string (bz p.2), .bool true]
  | none => .tuple #[.string (bz l), .string ⟨#[]⟩, .bool false]
set_option maxRecDepth 100000 in
theorem cutLite (l : List UInt8) (hl : l.length ≤ 1099511627776) (c : UInt8) (w : World) :
    Calls Tryd.prog 89 #[.string (bz l), .string ⟨#[c]⟩] w (fun e w' => e = .returned (cutV l c) ∧ (w'.heap = w.heap ∧ Below w.heap.size w w')) := by
  have IX := Lib.hid (fun w => Tryd.stringslite_Index_one (bz l) c w)
  rcases ix_cut c l with ⟨h1, h2⟩ | ⟨d, r, h1, h2, h3⟩
  · unfold cutV
    rw [h1]
    have IX : Hid (∀ w, Calls Tryd.prog 95 #[.string (bz l), .string ⟨#[c]⟩] w fun e w' => e = .returned (.int .i64 (-1)) ∧ w' = w) := Lib.hid fun w => h2 ▸ IX.out w
    show Calls _ _ _ _ (fun e w' => e = .returned (.tuple #[.string (bz l), .string ⟨#[]⟩, .bool false]) ∧ _)
    generalize bz l = z at *
    clear h1 h2
    go_enter Tryd.func89, Tryd.ntmps89
    go_wp2_with (fail)
    refine (IX.out _).mono ?_
    rintro e w1 ⟨rfl, rfl⟩
    go_wp2_with (fail)
    go_ret3
    exact ⟨rfl, rfl, Below.refl _ _⟩
  · unfold cutV
    rw [h1]
    have IX : Hid (∀ w, Calls Tryd.prog 95 #[.string (bz l), .string ⟨#[c]⟩] w fun e w' => e = .returned (.int .i64 d.length) ∧ w' = w) := Lib.hid fun w => h2 ▸ IX.out w
    have e1 : (bz l).extract 0 d.length = bz d := by rw [bz_upto, h3, List.take_left]
    have e2 : (bz l).extract (d.length + 1) (bz l).size = bz r := by rw [bz_from, h3, show d ++ c :: r = (d ++ [c]) ++ r by simp, show d.length + 1 = (d ++ [c]).length by simp, List.drop_left]
    have hs : (bz l).size = d.length + 1 + r.length := by rw [bz_size, h3]; simp only [List.length_append, List.length_cons]; omega
    have hll : d.length + 1 + r.length ≤ 1099511627776 := by rw [← hs]; exact hl
    show Calls _ _ _ _ (fun e w' => e = .returned (.tuple #[.string (bz d), .string (bz r), .bool true]) ∧ _)
    generalize bz l = z at *
    generalize bz d = y1 at *
    generalize bz r = y2 at *
    generalize d.length = i at *
    have c1 : (0 : Int) ≤ ↑i := by omega
    have c2 : (↑i : Int) ≤ ↑z.size := by omega
    have c3 : (0 : Int) ≤ ↑i + 1 := by omega
    have c4 : (↑i + 1 : Int) ≤ ↑z.size := by omega
    have c5 : i ≤ z.size := by omega
    have c6 : i + 1 ≤ z.size := by omega
    clear h1 h2 h3
    rw [hs] at e2
    go_enter Tryd.func89, Tryd.ntmps89
    go_wp2_with (fail)
    refine (IX.out _).mono ?_
    rintro e w1 ⟨rfl, rfl⟩
    go_wp2_with (fail)
    go_quiet (fail)
    all_goals
      go_wp2_with (fail)
      go_ret3
      first | exact ⟨rfl, rfl, ⟨rfl, rfl, rfl, Nat.le_refl _, fun _ _ => rfl⟩⟩ | exact ⟨by simp [e1, e2], rfl, ⟨rfl, rfl, rfl, Nat.le_refl _, fun _ _ => rfl⟩⟩
set_option maxRecDepth 100000 in
theorem cut_i (l : List UInt8) (hl : l.length ≤ 1099511627776) (c : UInt8) (w : World) :
    Calls Tryd.prog 81 #[.string (bz l), .string ⟨#[c]⟩] w (fun e w' => e = .returned (cutV l c) ∧ (w'.heap = w.heap ∧ Below w.heap.size w w')) := by
  have CL := cutLite l hl c
  unfold cutV at CL ⊢
  cases h : cutC c l with
  | none =>
    rw [h] at CL
    have CL : Hid (∀ w, Calls Tryd.prog 89 #[.string (bz l), .string ⟨#[c]⟩] w (fun e w' => e = .returned (.tuple #[.string (bz l), .string ⟨#[]⟩, .bool false]) ∧ (w'.heap = w.heap ∧ Below w.heap.size w w'))) := CL
    show Calls _ _ _ _ (fun e w' => e = .returned (.tuple #[.string (bz l), .string ⟨#[]⟩, .bool false]) ∧ _)
    generalize bz l = z at *
    go_enter Tryd.func81, Tryd.ntmps81
    go_wp2_with (fail)
    refine (CL.out _).mono ?_
    rintro e w1 ⟨rfl, hh, hb⟩
    have HH := Lib.hid (And.intro hh hb)
    clear hh hb
    go_wp2_with (fail)
    go_ret3
    exact ⟨rfl, HH.out⟩
  | some p =>
    obtain ⟨d, r⟩ := p
    rw [h] at CL
    have CL : Hid (∀ w, Calls Tryd.prog 89 #[.string (bz l), .string ⟨#[c]⟩] w (fun e w' => e = .returned (.tuple #[.string (bz d), .string (bz r), .bool true]) ∧ (w'.heap = w.heap ∧ Below w.heap.size w w'))) := CL
    show Calls _ _ _ _ (fun e w' => e = .returned (.tuple #[.string (bz d), .string (bz r), .bool true]) ∧ _)
    generalize bz l = z at *
    generalize bz d = y1 at *
    generalize bz r = y2 at *
    go_enter Tryd.func81, Tryd.ntmps81
    go_wp2_with (fail)
    refine (CL.out _).mono ?_
    rintro e w1 ⟨rfl, hh, hb⟩
    have HH := Lib.hid (And.intro hh hb)
    clear hh hb
    go_wp2_with (fail)
    go_ret3
    exact ⟨rfl, HH.out⟩

/-- What cutAt leaves. -/
def CaQ (B R : Nat) (l : List UInt8) (W : Int) (c : UInt8) (w : World) (e : Ending) (w' : World) : Prop :=
  (∃ d r, cutC c l = some (d, r) ∧ e = .returned (.tuple #[.string (bz d), .bool true]) ∧ Rs B R r W w' ∧ Fr (OnR R) w w' ∧ d.length ≤ l.length) ∨
  (cutC c l = none ∧ e = .returned (.tuple #[.string (bz l), .bool false]) ∧ Rs B R l W w' ∧ Fr (OnR R) w w')
set_option maxRecDepth 100000 in
theorem cutAt_i (c : UInt8) (B R : Nat) (l : List UInt8) (W : Int) (w : World) (h : Rs B R l W w) :
    Calls Tryd.prog 69 #[.pointer (some ⟨R, 0, none⟩), .string ⟨#[c]⟩] w (CaQ B R l W c w) := by
  have CU := cut_i l h.len c
  unfold cutV at CU
  have HS := Lib.hid h
  obtain ⟨r0, f0⟩ := rowc h.blk
  cases hc : cutC c l with
  | none =>
    rw [hc] at CU
    have CU : Hid (∀ w, Calls Tryd.prog 81 #[.string (bz l), .string ⟨#[c]⟩] w (fun e w' => e = .returned (.tuple #[.string (bz l), .string ⟨#[]⟩, .bool false]) ∧ (w'.heap = w.heap ∧ Below w.heap.size w w'))) := CU
    suffices hq : Calls Tryd.prog 69 #[.pointer (some ⟨R, 0, none⟩), .string ⟨#[c]⟩] w (fun e w' => e = .returned (.tuple #[.string (bz l), .bool false]) ∧ Rs B R l W w' ∧ Fr (OnR R) w w') by
      exact hq.mono fun e w' h => .inr ⟨hc, h⟩
    clear hc h
    generalize hz : bz l = z at *
    go_enter Tryd.func69, Tryd.ntmps69
    go_wp2_with (fail)
    refine (CU.out _).mono ?_
    rintro e w1 ⟨rfl, -, hb⟩
    have HB := Lib.hid hb
    clear hb r0 f0
    go_wp2_with (fail)
    go_ret2
    exact ⟨rfl, HS.out.stays HB.out, Fr.of HB.out⟩
  | some p =>
    obtain ⟨d, r⟩ := p
    rw [hc] at CU
    have CU : Hid (∀ w, Calls Tryd.prog 81 #[.string (bz l), .string ⟨#[c]⟩] w (fun e w' => e = .returned (.tuple #[.string (bz d), .string (bz r), .bool true]) ∧ (w'.heap = w.heap ∧ Below w.heap.size w w'))) := CU
    have hl := congrArg List.length (cutC_out hc).1
    simp only [List.length_append, List.length_cons] at hl
    suffices hq : Calls Tryd.prog 69 #[.pointer (some ⟨R, 0, none⟩), .string ⟨#[c]⟩] w (fun e w' => e = .returned (.tuple #[.string (bz d), .bool true]) ∧ Rs B R r W w' ∧ Fr (OnR R) w w') by
      exact hq.mono fun e w' h => .inl ⟨d, r, hc, h.1, h.2.1, h.2.2, by omega⟩
    have hrl : r.length ≤ l.length := by omega
    have HX := Lib.hid (fun w' (hb : Below w.heap.size w w') => (HS.out.stays hb).text hrl)
    clear hc h hl hrl
    generalize hz : bz l = z at *
    generalize bz d = y1 at *
    generalize bz r = y2 at *
    go_enter Tryd.func69, Tryd.ntmps69
    go_wp2_with (fail)
    refine (CU.out _).mono ?_
    rintro e w1 ⟨rfl, -, hb⟩
    have HB := Lib.hid hb
    obtain ⟨r1, f1⟩ := rowc (carry hb HS.out.blk)
    clear hb r0 f0
    go_wp2_with (fail)
    go_ret2
    exact ⟨rfl, HX.out _ HB.out, (Fr.of HB.out).trans fr_on⟩

/-- What a number read off leaves. -/
def NrQ (B R : Nat) (l : List UInt8) (W : Int) (o : Option (Int × List UInt8)) (w : World) (e : Ending) (w' : World) : Prop :=
  ∃ l', Rs B R l' W w' ∧ Fr (OnR R) w w' ∧ l'.length ≤ l.length ∧ ((∃ n, o = some (n, l') ∧ e = .returned (.tuple #[.int .i64 n, .bool true])) ∨ (o = none ∧ e = .returned (.tuple #[.int .i64 0, .bool false])))
theorem nm_none {c : UInt8} {lo hi : Int} {l : List UInt8} (h : cutC c l = none) : nm c lo hi l = none := by unfold nm; rw [h]; rfl
theorem nm_bad {c : UInt8} {lo hi : Int} {l d r : List UInt8} (h : cutC c l = some (d, r)) (hp : (dec.pr lo hi d).2 = false) : nm c lo hi l = none := by unfold nm; rw [h]; simp [hp]
theorem nm_good {c : UInt8} {lo hi : Int} {l d r : List UInt8} (h : cutC c l = some (d, r)) (hp : (dec.pr lo hi d).2 = true) : nm c lo hi l = some ((dec.pr lo hi d).1, r) := by unfold nm; rw [h]; simp [hp]

set_option maxRecDepth 100000 in
theorem readSigned_i (B R : Nat) (l : List UInt8) (W : Int) (w : World) (h : Rs B R l W w) :
    Calls Tryd.prog 50 #[.pointer (some ⟨R, 0, none⟩)] w (NrQ B R l W (nm 59 (-1000000000) 1000000000 l) w) := by
  have CA := Lib.hid (cutAt_i 59 B R l W w h)
  have HLN := Lib.hid h.len
  clear h
  go_enter Tryd.func50, Tryd.ntmps50
  go_wp2_with (fail)
  refine CA.out.mono ?_
  rintro e w1 (⟨d, r, hc, rfl, hs, hf, hd⟩ | ⟨hc, rfl, hs, hf⟩)
  · have HS := Lib.hid hs
    have HF := Lib.hid hf
    have hrl : Hid (r.length ≤ l.length) := Lib.hid (by have := congrArg List.length (cutC_out hc).1; simp only [List.length_append, List.length_cons] at this; omega)
    have PS := Lib.hid (fun w' (hE : prs.Env w') => prs.implParseSigned (bz d) (by rw [bz_size]; have := HLN.out; omega) w' hE)
    rw [bz_list] at PS
    cases hp : (dec.pr (-1000000000) 1000000000 d).2 with
    | true =>
      have HN := Lib.hid (nm_good hc hp)
      obtain ⟨n, HNN⟩ : ∃ n, Hid ((dec.pr (-1000000000) 1000000000 d).1 = n) := ⟨_, Lib.hid rfl⟩
      have PS : Hid (∀ w', prs.Env w' → Calls Tryd.prog 70 #[.string (bz d)] w' fun e w1 => e = .returned (.tuple #[.int .i64 n, .bool true]) ∧ RowKit.Below w'.heap.size w' w1) := Lib.hid fun w' hE => by
        have := PS.out w' hE
        unfold prs.two at this
        rw [hp, HNN.out] at this
        exact this
      rw [HNN.out] at HN
      clear hs hf hc hp hd
      go_wp2_with (fail)
      refine (PS.out _ HS.out.ev).mono ?_
      rintro e w2 ⟨rfl, hb⟩
      have HB := Lib.hid hb
      clear hb
      go_wp2_with (fail)
      go_ret2
      exact ⟨r, HS.out.stays HB.out, HF.out.trans (Fr.of HB.out), hrl.out, .inl ⟨n, HN.out, rfl⟩⟩
    | false =>
      have HN := Lib.hid (nm_bad hc hp)
      have PS : Hid (∀ w', prs.Env w' → Calls Tryd.prog 70 #[.string (bz d)] w' fun e w1 => e = .returned (.tuple #[.int .i64 0, .bool false]) ∧ RowKit.Below w'.heap.size w' w1) := Lib.hid fun w' hE => by
        have := PS.out w' hE
        unfold prs.two at this
        rw [hp, dec.pr_false hp] at this
        exact this
      clear hs hf hc hp hd
      go_wp2_with (fail)
      refine (PS.out _ HS.out.ev).mono ?_
      rintro e w2 ⟨rfl, hb⟩
      have HB := Lib.hid hb
      clear hb
      go_wp2_with (fail)
      go_ret2
      exact ⟨r, HS.out.stays HB.out, HF.out.trans (Fr.of HB.out), hrl.out, .inr ⟨HN.out, rfl⟩⟩
  · have HS := Lib.hid hs
    have HF := Lib.hid hf
    have HN := Lib.hid (nm_none (lo := (-1000000000)) (hi := 1000000000) hc)
    clear hs hf hc
    go_wp2_with (fail)
    go_ret2
    exact ⟨l, HS.out, HF.out, Nat.le_refl _, .inr ⟨HN.out, rfl⟩⟩

set_option maxRecDepth 100000 in
theorem readUnsigned_i (c : UInt8) (B R : Nat) (l : List UInt8) (W : Int) (w : World) (h : Rs B R l W w) :
    Calls Tryd.prog 71 #[.pointer (some ⟨R, 0, none⟩), .string ⟨#[c]⟩] w (NrQ B R l W (nm c 0 1000000000000 l) w) := by
  have CA := Lib.hid (cutAt_i c B R l W w h)
  have HLN := Lib.hid h.len
  clear h
  go_enter Tryd.func71, Tryd.ntmps71
  go_wp2_with (fail)
  refine CA.out.mono ?_
  rintro e w1 (⟨d, r, hc, rfl, hs, hf, hd⟩ | ⟨hc, rfl, hs, hf⟩)
  · have HS := Lib.hid hs
    have HF := Lib.hid hf
    have hrl : Hid (r.length ≤ l.length) := Lib.hid (by have := congrArg List.length (cutC_out hc).1; simp only [List.length_append, List.length_cons] at this; omega)
    have PS := Lib.hid (fun w' (hE : prs.Env w') => prs.implParse (bz d) (by rw [bz_size]; have := HLN.out; omega) w' hE)
    rw [bz_list] at PS
    cases hp : (dec.pr 0 1000000000000 d).2 with
    | true =>
      have HN := Lib.hid (nm_good hc hp)
      obtain ⟨n, HNN⟩ : ∃ n, Hid ((dec.pr 0 1000000000000 d).1 = n) := ⟨_, Lib.hid rfl⟩
      have PS : Hid (∀ w', prs.Env w' → Calls Tryd.prog 83 #[.string (bz d)] w' fun e w1 => e = .returned (.tuple #[.int .i64 n, .bool true]) ∧ RowKit.Below w'.heap.size w' w1) := Lib.hid fun w' hE => by
        have := PS.out w' hE
        unfold prs.two at this
        rw [hp, HNN.out] at this
        exact this
      rw [HNN.out] at HN
      clear hs hf hc hp hd
      go_wp2_with (fail)
      refine (PS.out _ HS.out.ev).mono ?_
      rintro e w2 ⟨rfl, hb⟩
      have HB := Lib.hid hb
      clear hb
      go_wp2_with (fail)
      go_ret2
      exact ⟨r, HS.out.stays HB.out, HF.out.trans (Fr.of HB.out), hrl.out, .inl ⟨n, HN.out, rfl⟩⟩
    | false =>
      have HN := Lib.hid (nm_bad hc hp)
      have PS : Hid (∀ w', prs.Env w' → Calls Tryd.prog 83 #[.string (bz d)] w' fun e w1 => e = .returned (.tuple #[.int .i64 0, .bool false]) ∧ RowKit.Below w'.heap.size w' w1) := Lib.hid fun w' hE => by
        have := PS.out w' hE
        unfold prs.two at this
        rw [hp, dec.pr_false hp] at this
        exact this
      clear hs hf hc hp hd
      go_wp2_with (fail)
      refine (PS.out _ HS.out.ev).mono ?_
      rintro e w2 ⟨rfl, hb⟩
      have HB := Lib.hid hb
      clear hb
      go_wp2_with (fail)
      go_ret2
      exact ⟨r, HS.out.stays HB.out, HF.out.trans (Fr.of HB.out), hrl.out, .inr ⟨HN.out, rfl⟩⟩
  · have HS := Lib.hid hs
    have HF := Lib.hid hf
    have HN := Lib.hid (nm_none (lo := 0) (hi := 1000000000000) hc)
    clear hs hf hc
    go_wp2_with (fail)
    go_ret2
    exact ⟨l, HS.out, HF.out, Nat.le_refl _, .inr ⟨HN.out, rfl⟩⟩

end Go.Proofs.YtdglmnmalfpipaaDoor.tree

/-
  The project's reader of a text: texts and keys.
  Conditions: those that each theorem names.
-/
namespace Go.Proofs.YtdglmnmalfpipaaDoor.tree
open Go.ChangeShapes Go.WideShapes Go.ChangeAt Go.RowKit
set_option linter.unusedVariables false

/-- What a text read off leaves. -/
def TrQ (B R : Nat) (l : List UInt8) (W : Int) (o : Option (List UInt8 × List UInt8)) (w : World) (e : Ending) (w' : World) : Prop :=
  ∃ l', Rs B R l' W w' ∧ Fr (OnR R) w w' ∧ l'.length ≤ l.length ∧ ((∃ d, o = some (d, l') ∧ d.length ≤ l.length ∧ e = .returned (.tuple #[.string (bz d), .bool true])) ∨ (o = none ∧ ∃ s : ByteArray, s.size ≤ l.length ∧ e = .returned (.tuple #[.string s, .bool false])))
theorem tx_bad {l : List UInt8} (h : nm 58 0 1000000000000 l = none) : tx l = none := by unfold tx; rw [h]; rfl
theorem tx_nm {l r : List UInt8} {m : Nat} (h : nm 58 0 1000000000000 l = some ((m : Int), r)) : tx l = txN m r := by unfold tx; rw [h]; rfl
theorem txN_far {m : Nat} {r : List UInt8} (h : ¬ m ≤ r.length) : txN m r = none := by unfold txN; rw [if_neg h]
theorem txN_near {m : Nat} {r : List UInt8} (h : m ≤ r.length) : txN m r = (pf [59] (r.drop m)).map fun q => (r.take m, q) := by unfold txN; rw [if_pos h]

set_option maxHeartbeats 1000000 in
set_option maxRecDepth 100000 in
theorem readText_i (B R : Nat) (l : List UInt8) (W : Int) (w : World) (h : Rs B R l W w) :
    Calls Tryd.prog 52 #[.pointer (some ⟨R, 0, none⟩)] w (TrQ B R l W (tx l) w) := by
  have RU := Lib.hid (readUnsigned_i 58 B R l W w h)
  have HLN := Lib.hid h.len
  clear h
  go_enter Tryd.func52, Tryd.ntmps52
  go_wp2_with (fail)
  refine RU.out.mono ?_
  rintro e w1 ⟨l1, hs, hf, hl1, (⟨n, hn, rfl⟩ | ⟨hn, rfl⟩)⟩
  · obtain ⟨m, rfl⟩ : ∃ m : Nat, n = (m : Int) := ⟨n.toNat, by have := (nm_out hn).2.1; omega⟩
    have HM := Lib.hid (tx_nm hn)
    have hmb := (nm_out hn).2.2
    have HS := Lib.hid hs
    have HF := Lib.hid hf
    obtain ⟨r1, f1⟩ := rowc hs.blk
    have hz := bz_size l1
    have hlb : l1.length ≤ 1099511627776 := Nat.le_trans hl1 HLN.out
    by_cases hm : m ≤ l1.length
    · have HN := Lib.hid (HM.out.trans (txN_near hm))
      have e1 : (bz l1).extract 0 m = bz (l1.take m) := bz_upto _ _
      have e2 : (bz l1).extract m (bz l1).size = bz (l1.drop m) := bz_from _ _
      have SK := Lib.hid (fun w' hs => skip_i [59] B R (l1.drop m) W w' hs)
      have HX := Lib.hid (hs.text (l' := l1.drop m) (by rw [List.length_drop]; omega))
      have HT := Lib.hid (show (l1.take m).length ≤ l.length by rw [List.length_take]; omega)
      have HD := Lib.hid (show (l1.drop m).length ≤ l.length by rw [List.length_drop]; omega)
      have hsz : (bz l1).size = l1.length := rfl
      obtain ⟨d, HD2⟩ : ∃ d, Hid (l1.drop m = d) := ⟨_, Lib.hid rfl⟩
      obtain ⟨t, HT2⟩ : ∃ d, Hid (l1.take m = d) := ⟨_, Lib.hid rfl⟩
      rw [HD2.out] at e2 SK HX HN HD
      rw [HT2.out] at e1 HN HT
      rw [hsz] at e2
      have c1 : (0 : Int) ≤ (m : Int) := by omega
      have c2 : (m : Int) ≤ ((bz l1).size : Int) := by rw [hsz]; omega
      have c3 : m ≤ (bz l1).size := by rw [hsz]; exact hm
      have c4 : ¬ ((l1.length : Int) < (m : Int)) := by omega
      have c5 : ¬ (((bz l1).size : Int) < (m : Int)) := by rw [hsz]; omega
      have c6 : ¬ (l1.length < m) := by omega
      have SK : Hid (∀ w', Rs B R d W w' → Calls Tryd.prog 48 #[.pointer (some ⟨R, 0, none⟩), .string ⟨#[59]⟩] w' (fun e w2 => e = .returned (.bool (pf [59] d).isSome) ∧ Rs B R ((pf [59] d).getD d) W w2 ∧ Fr (OnR R) w' w2)) := SK
      clear hs hf hn
      cases hp : pf [59] d with
      | none =>
        have SK : Hid (∀ w', Rs B R d W w' → Calls Tryd.prog 48 #[.pointer (some ⟨R, 0, none⟩), .string ⟨#[59]⟩] w' (fun e w2 => e = .returned (.bool false) ∧ Rs B R d W w2 ∧ Fr (OnR R) w' w2)) := Lib.hid fun w' hs => by have := SK.out w' hs; rw [hp] at this; exact this
        have HN : Hid (tx l = none) := Lib.hid (by rw [HN.out, hp]; rfl)
        clear hp
        go_wp2_with (fail)
        refine (SK.out _ HX.out).mono ?_
        rintro e w2 ⟨rfl, hs2, hf2⟩
        have HS2 := Lib.hid hs2
        have HF2 := Lib.hid (HF.out.trans (fr_on.trans hf2))
        clear hs2 hf2
        go_wp2_with (fail)
        go_ret2
        exact ⟨d, HS2.out, HF2.out, HD.out, .inr ⟨HN.out, _, (by rw [bz_size]; exact HT.out), rfl⟩⟩
      | some q =>
        have SK : Hid (∀ w', Rs B R d W w' → Calls Tryd.prog 48 #[.pointer (some ⟨R, 0, none⟩), .string ⟨#[59]⟩] w' (fun e w2 => e = .returned (.bool true) ∧ Rs B R q W w2 ∧ Fr (OnR R) w' w2)) := Lib.hid fun w' hs => by have := SK.out w' hs; rw [hp] at this; exact this
        have HN : Hid (tx l = some (t, q)) := Lib.hid (by rw [HN.out, hp]; rfl)
        have HQ := Lib.hid (show q.length ≤ l.length by have := pf_len hp; have := HD.out; omega)
        clear hp
        go_wp2_with (fail)
        refine (SK.out _ HX.out).mono ?_
        rintro e w2 ⟨rfl, hs2, hf2⟩
        have HS2 := Lib.hid hs2
        have HF2 := Lib.hid (HF.out.trans (fr_on.trans hf2))
        clear hs2 hf2
        go_wp2_with (fail)
        go_ret2
        exact ⟨q, HS2.out, HF2.out, HQ.out, .inl ⟨t, HN.out, HT.out, rfl⟩⟩
    · have HN := Lib.hid (HM.out.trans (txN_far hm))
      have c4 : (l1.length : Int) < (m : Int) := by omega
      have c5 : ((bz l1).size : Int) < (m : Int) := by rw [hz]; omega
      have c6 : (bz l1).size < m := by rw [hz]; omega
      clear hs hf hn
      go_wp2_with (fail)
      go_ret2
      exact ⟨l1, HS.out, HF.out, hl1, .inr ⟨HN.out, _, Nat.zero_le _, rfl⟩⟩
  · have HS := Lib.hid hs
    have HF := Lib.hid hf
    have HN := Lib.hid (tx_bad hn)
    clear hs hf hn
    go_wp2_with (fail)
    go_ret2
    exact ⟨l1, HS.out, HF.out, hl1, .inr ⟨HN.out, _, Nat.zero_le _, rfl⟩⟩

section
variable {B R N : Nat} {l : List UInt8} {W : Int} {S : Nat → Prop} {w w1 wF : World}
/-- A box above B, other than the reader's, is written. -/
theorem Rs.swap (h : Rs B R l W w) (ho : ∀ q, q ≠ N → wF.heap[q]? = w.heap[q]?) (hb : ∀ (Bx : Nat) (w0 : World), Bx ≤ N → Below Bx w0 w → Below Bx w0 wF) (hN : B ≤ N) (hne : R ≠ N) : Rs B R l W wF := by
  obtain ⟨w0, h1, h2, h3⟩ := h.env
  exact ⟨(ho R hne).trans h.blk, h.le, ⟨w0, h1, h2, hb _ _ (Nat.le_trans h2 hN) h3⟩, h.len, h.wt⟩
theorem Fr.swap (h : Fr S w w1) (ho : ∀ q, q ≠ N → wF.heap[q]? = w1.heap[q]?) (hb : ∀ (Bx : Nat) (w0 : World), Bx ≤ N → Below Bx w0 w1 → Below Bx w0 wF) (hN : w.heap.size ≤ N) : Fr S w wF := by
  have h0 := hb 0 w1 (Nat.zero_le _) (Below.refl 0 w1)
  exact ⟨h0.os.trans h.os, h0.tape.trans h.tape, h0.output.trans h.output, Nat.le_trans h.size h0.size, fun b hlt hs => (ho b (by omega)).trans (h.block b hlt hs)⟩
theorem fillK {t : TypeId} {a b c c0 c1 c2 : Value} (h : w.heap[N]? = some (.cells #[a, b, c] t (0, 0)))
    (hF : (((w.setCell ⟨N, 0, none⟩ c0).setCell ⟨N, 1, none⟩ c1).setCell ⟨N, 2, none⟩ c2) = wF) :
    (∀ j, wF.cell? ⟨N, j, none⟩ = (#[c0, c1, c2] : Array Value)[j]?) ∧ (∀ q, q ≠ N → wF.heap[q]? = w.heap[q]?) ∧ ∀ (B : Nat) (w0 : World), B ≤ N → Below B w0 w → Below B w0 wF := by
  subst hF
  refine ⟨fun j => ?_, fun q hq => ?_, fun B w0 hB hb => ?_⟩
  · have := set_heap (set_heap (set_heap h 0 c0) 1 c1) 2 c2
    rw [cell_of_row _ _ j _ _ _ this]
    simp
  · rw [set_other hq, set_other hq, set_other hq]
  · exact ((hb.setCell hB _).setCell hB _).setCell hB _
end
/-- What a key read off leaves. -/
def KrQ (B R : Nat) (l : List UInt8) (W : Int) (o : Option (Ky × List UInt8)) (w : World) (e : Ending) (w' : World) : Prop :=
  ∃ l' y, Rs B R l' W w' ∧ Fr (OnR R) w w' ∧ l'.length ≤ l.length ∧ (I64 y.num ∧ y.str.size ≤ l.length) ∧ ((o = some (y, l') ∧ e = .returned (.tuple #[kyV y, .bool true])) ∨ (o = none ∧ e = .returned (.tuple #[kyV y, .bool false])))
theorem rdK_num {l r : List UInt8} (h : pf [105, 58] l = some r) : rdK l = (nm 59 (-1000000000) 1000000000 r).map fun p => (⟨false, p.1, ⟨#[]⟩⟩, p.2) := by unfold rdK; rw [h]
theorem rdK_text {l r : List UInt8} (h0 : pf [105, 58] l = none) (h : pf [115, 58] l = some r) : rdK l = (tx r).map fun p => (⟨true, 0, bz p.1⟩, p.2) := by unfold rdK; rw [h0, h]
theorem rdK_none {l : List UInt8} (h0 : pf [105, 58] l = none) (h : pf [115, 58] l = none) : rdK l = none := by unfold rdK; rw [h0, h]
/-- skip, told apart by what the text begins with. -/
theorem skip_yes {p l r : List UInt8} (hp : pf p l = some r) {B R : Nat} {W : Int} {w : World} (h : Rs B R l W w) :
    Calls Tryd.prog 48 #[.pointer (some ⟨R, 0, none⟩), .string (bz p)] w (fun e w' => e = .returned (.bool true) ∧ Rs B R r W w' ∧ Fr (OnR R) w w') := by
  have := skip_i p B R l W w h
  rw [hp] at this
  exact this
theorem skip_no {p l : List UInt8} (hp : pf p l = none) {B R : Nat} {W : Int} {w : World} (h : Rs B R l W w) :
    Calls Tryd.prog 48 #[.pointer (some ⟨R, 0, none⟩), .string (bz p)] w (fun e w' => e = .returned (.bool false) ∧ Rs B R l W w' ∧ Fr (OnR R) w w') := by
  have := skip_i p B R l W w h
  rw [hp] at this
  exact this

set_option maxHeartbeats 1000000 in
set_option maxRecDepth 100000 in
theorem readKey_i (B R : Nat) (l : List UInt8) (W : Int) (w : World) (h : Rs B R l W w) :
    Calls Tryd.prog 73 #[.pointer (some ⟨R, 0, none⟩)] w (KrQ B R l W (rdK l) w) := by
  have HLN := Lib.hid h.len
  have hRlt := h.lt
  have hBR := h.le
  obtain ⟨N, HN0⟩ : ∃ N, Hid (N = w.heap.size) := ⟨_, Lib.hid rfl⟩
  obtain ⟨W0, HW0⟩ : ∃ W, Hid (W = w.alloc (.cells #[.bool false, .int .i64 0, .string ⟨#[]⟩] IK)) := ⟨_, Lib.hid rfl⟩
  have E0 : Hid (W0.heap[w.heap.size]? = some (.cells #[.bool false, .int .i64 0, .string ⟨#[]⟩] IK (0, 0))) := Lib.hid (by rw [HW0.out]; exact heap_alloc_new w _)
  have HF0 : Hid (Fr (OnR R) w W0) := Lib.hid (by rw [HW0.out]; exact Fr.of (b1 w _))
  have HS0 : Hid (Rs B R l W W0) := Lib.hid (by rw [HW0.out]; exact h.stays (b1 w _))
  have hne : R ≠ w.heap.size := by omega
  have hBN : B ≤ w.heap.size := by omega
  have keep : ∀ (wa wb : World), Fr (OnR R) wa wb → wa.heap[w.heap.size]? = some (.cells #[.bool false, .int .i64 0, .string ⟨#[]⟩] IK (0, 0)) → wb.heap[w.heap.size]? = some (.cells #[.bool false, .int .i64 0, .string ⟨#[]⟩] IK (0, 0)) := fun wa wb hf hE => (hf.block _ (Array.getElem?_eq_some_iff.1 hE).1 (fun e => hne e.symm)).trans hE
  have KEEP := Lib.hid keep
  clear h keep
  cases hp1 : pf [105, 58] l with
  | some r =>
    have S1 := Lib.hid (fun w' (hs : Rs B R l W w') => skip_yes hp1 hs)
    have S1 : Hid (∀ w', Rs B R l W w' → Calls Tryd.prog 48 #[.pointer (some ⟨R, 0, none⟩), .string ⟨#[105, 58]⟩] w' (fun e w2 => e = .returned (.bool true) ∧ Rs B R r W w2 ∧ Fr (OnR R) w' w2)) := S1
    have RS := Lib.hid (fun w' hs => readSigned_i B R r W w' hs)
    have HK := Lib.hid (rdK_num hp1)
    have HL := Lib.hid (show r.length ≤ l.length by have := pf_len hp1; omega)
    clear hp1
    go_enter Tryd.func73, Tryd.ntmps73
    go_wp2_with (fail)
    rw [← HW0.out]
    refine (S1.out _ HS0.out).mono ?_
    rintro e w1 ⟨rfl, hs1, hf1⟩
    have HS1 := Lib.hid hs1
    have HF1 := Lib.hid (HF0.out.trans hf1)
    have E1 := Lib.hid (KEEP.out _ _ hf1 E0.out)
    clear hs1 hf1
    go_wp2_with (fail)
    refine (RS.out _ HS1.out).mono ?_
    rintro e w2 ⟨l2, hs2, hf2, hl2, (⟨n, hn, rfl⟩ | ⟨hn, rfl⟩)⟩
    · have hnb := nm_out hn
      have HNB := Lib.hid (show I64 n by unfold I64; omega)
      have HK2 : Hid (rdK l = some (⟨false, n, ⟨#[]⟩⟩, l2)) := Lib.hid (by rw [HK.out, hn]; rfl)
      have HS2 := Lib.hid hs2
      have HF2 := Lib.hid (HF1.out.trans hf2)
      have E2 := Lib.hid (KEEP.out _ _ hf2 E1.out)
      obtain ⟨r2, f2⟩ := rowc E2.out
      clear hs2 hf2 hn hnb
      go_wp2_with (fail)
      generalize hwF : ((w2.setCell ⟨w.heap.size, 0, none⟩ (.bool false)).setCell ⟨w.heap.size, 1, none⟩ (.int .i64 n)).setCell ⟨w.heap.size, 2, none⟩ (.string ⟨#[]⟩) = wF
      obtain ⟨rF, oF, bF⟩ := fillK E2.out hwF
      refine bodyPost_ret (v := .tuple #[kyV ⟨false, n, ⟨#[]⟩⟩, .bool true]) ?_ rfl ?_
      · simp [results, Tryd.results73, go_sem, rF, kyV]
      · exact ⟨l2, ⟨false, n, ⟨#[]⟩⟩, HS2.out.swap oF bF hBN hne, HF2.out.swap oF bF (Nat.le_refl _), Nat.le_trans hl2 HL.out, ⟨HNB.out, Nat.zero_le _⟩, .inl ⟨HK2.out, rfl⟩⟩
    · have HK2 : Hid (rdK l = none) := Lib.hid (by rw [HK.out, hn]; rfl)
      have HS2 := Lib.hid hs2
      have HF2 := Lib.hid (HF1.out.trans hf2)
      have E2 := Lib.hid (KEEP.out _ _ hf2 E1.out)
      obtain ⟨r2, f2⟩ := rowc E2.out
      clear hs2 hf2 hn
      go_wp2_with (fail)
      generalize hwF : ((w2.setCell ⟨w.heap.size, 0, none⟩ (.bool false)).setCell ⟨w.heap.size, 1, none⟩ (.int .i64 0)).setCell ⟨w.heap.size, 2, none⟩ (.string ⟨#[]⟩) = wF
      obtain ⟨rF, oF, bF⟩ := fillK E2.out hwF
      refine bodyPost_ret (v := .tuple #[kyV ⟨false, 0, ⟨#[]⟩⟩, .bool false]) ?_ rfl ?_
      · simp [results, Tryd.results73, go_sem, rF, kyV]
      · exact ⟨l2, ⟨false, 0, ⟨#[]⟩⟩, HS2.out.swap oF bF hBN hne, HF2.out.swap oF bF (Nat.le_refl _), Nat.le_trans hl2 HL.out, ⟨by unfold I64; simp, Nat.zero_le _⟩, .inr ⟨HK2.out, rfl⟩⟩
  | none =>
    have S1 := Lib.hid (fun w' (hs : Rs B R l W w') => skip_no hp1 hs)
    have S1 : Hid (∀ w', Rs B R l W w' → Calls Tryd.prog 48 #[.pointer (some ⟨R, 0, none⟩), .string ⟨#[105, 58]⟩] w' (fun e w2 => e = .returned (.bool false) ∧ Rs B R l W w2 ∧ Fr (OnR R) w' w2)) := S1
    cases hp2 : pf [115, 58] l with
    | some r =>
      have S2 := Lib.hid (fun w' (hs : Rs B R l W w') => skip_yes hp2 hs)
      have S2 : Hid (∀ w', Rs B R l W w' → Calls Tryd.prog 48 #[.pointer (some ⟨R, 0, none⟩), .string ⟨#[115, 58]⟩] w' (fun e w2 => e = .returned (.bool true) ∧ Rs B R r W w2 ∧ Fr (OnR R) w' w2)) := S2
      have RT := Lib.hid (fun w' hs => readText_i B R r W w' hs)
      have HK := Lib.hid (rdK_text hp1 hp2)
      have HL := Lib.hid (show r.length ≤ l.length by have := pf_len hp2; omega)
      clear hp1 hp2
      go_enter Tryd.func73, Tryd.ntmps73
      go_wp2_with (fail)
      rw [← HW0.out]
      refine (S1.out _ HS0.out).mono ?_
      rintro e w1 ⟨rfl, hs1, hf1⟩
      have HS1 := Lib.hid hs1
      have HF1 := Lib.hid (HF0.out.trans hf1)
      have E1 := Lib.hid (KEEP.out _ _ hf1 E0.out)
      clear hs1 hf1
      go_wp2_with (fail)
      refine (S2.out _ HS1.out).mono ?_
      rintro e w2 ⟨rfl, hs2, hf2⟩
      have HS2 := Lib.hid hs2
      have HF2 := Lib.hid (HF1.out.trans hf2)
      have E2 := Lib.hid (KEEP.out _ _ hf2 E1.out)
      clear hs2 hf2
      go_wp2_with (fail)
      refine (RT.out _ HS2.out).mono ?_
      rintro e w3 ⟨l3, hs3, hf3, hl3, hres⟩
      have HS3 := Lib.hid hs3
      have HF3 := Lib.hid (HF2.out.trans hf3)
      have E3 := Lib.hid (KEEP.out _ _ hf3 E2.out)
      clear hs3 hf3
      obtain ⟨s, q, rfl, hsz, hk3⟩ : ∃ (s : ByteArray) (q : Bool), e = .returned (.tuple #[.string s, .bool q]) ∧ s.size ≤ l.length ∧ ((q = true ∧ rdK l = some (⟨true, 0, s⟩, l3)) ∨ (q = false ∧ rdK l = none)) := by
        rcases hres with ⟨d, hd, hdl, rfl⟩ | ⟨hd, s, hsl, rfl⟩
        · exact ⟨bz d, true, rfl, by rw [bz_size]; have := HL.out; omega, .inl ⟨rfl, by rw [HK.out, hd]; rfl⟩⟩
        · exact ⟨s, false, rfl, by have := HL.out; omega, .inr ⟨rfl, by rw [HK.out, hd]; rfl⟩⟩
      have HK3 := Lib.hid hk3
      have CL := Lib.hid (implClone' s (by have := HLN.out; omega))
      clear hres hk3
      go_wp2_with (fail)
      refine (CL.out _).mono ?_
      rintro e w4 ⟨rfl, hb4⟩
      have HS4 := Lib.hid (HS3.out.stays hb4)
      have HF4 := Lib.hid (HF3.out.trans (Fr.of hb4))
      have E4 := Lib.hid (carry hb4 E3.out)
      obtain ⟨r4, f4⟩ := rowc E4.out
      clear hb4
      go_wp2_with (fail)
      generalize hwF : ((w4.setCell ⟨w.heap.size, 0, none⟩ (.bool true)).setCell ⟨w.heap.size, 1, none⟩ (.int .i64 0)).setCell ⟨w.heap.size, 2, none⟩ (.string s) = wF
      obtain ⟨rF, oF, bF⟩ := fillK E4.out hwF
      refine bodyPost_ret (v := .tuple #[kyV ⟨true, 0, s⟩, .bool q]) ?_ rfl ?_
      · simp [results, Tryd.results73, go_sem, rF, kyV]
      · refine ⟨l3, ⟨true, 0, s⟩, HS4.out.swap oF bF hBN hne, HF4.out.swap oF bF (Nat.le_refl _), Nat.le_trans hl3 HL.out, ⟨by unfold I64; simp, hsz⟩, ?_⟩
        rcases HK3.out with ⟨rfl, h⟩ | ⟨rfl, h⟩
        · exact .inl ⟨h, rfl⟩
        · exact .inr ⟨h, rfl⟩
    | none =>
      have S2 := Lib.hid (fun w' (hs : Rs B R l W w') => skip_no hp2 hs)
      have S2 : Hid (∀ w', Rs B R l W w' → Calls Tryd.prog 48 #[.pointer (some ⟨R, 0, none⟩), .string ⟨#[115, 58]⟩] w' (fun e w2 => e = .returned (.bool false) ∧ Rs B R l W w2 ∧ Fr (OnR R) w' w2)) := S2
      have HK := Lib.hid (rdK_none hp1 hp2)
      clear hp1 hp2
      go_enter Tryd.func73, Tryd.ntmps73
      go_wp2_with (fail)
      rw [← HW0.out]
      refine (S1.out _ HS0.out).mono ?_
      rintro e w1 ⟨rfl, hs1, hf1⟩
      have HS1 := Lib.hid hs1
      have HF1 := Lib.hid (HF0.out.trans hf1)
      have E1 := Lib.hid (KEEP.out _ _ hf1 E0.out)
      clear hs1 hf1
      go_wp2_with (fail)
      refine (S2.out _ HS1.out).mono ?_
      rintro e w2 ⟨rfl, hs2, hf2⟩
      have HS2 := Lib.hid hs2
      have HF2 := Lib.hid (HF1.out.trans hf2)
      have E2 := Lib.hid (KEEP.out _ _ hf2 E1.out)
      obtain ⟨r2, f2⟩ := rowc E2.out
      clear hs2 hf2
      go_wp2_with (fail)
      generalize hwF : ((w2.setCell ⟨w.heap.size, 0, none⟩ (.bool false)).setCell ⟨w.heap.size, 1, none⟩ (.int .i64 0)).setCell ⟨w.heap.size, 2, none⟩ (.string ⟨#[]⟩) = wF
      obtain ⟨rF, oF, bF⟩ := fillK E2.out hwF
      refine bodyPost_ret (v := .tuple #[kyV ⟨false, 0, ⟨#[]⟩⟩, .bool false]) ?_ rfl ?_
      · simp [results, Tryd.results73, go_sem, rF, kyV]
      · exact ⟨l, ⟨false, 0, ⟨#[]⟩⟩, HS2.out.swap oF bF hBN hne, HF2.out.swap oF bF (Nat.le_refl _), Nat.le_refl _, ⟨by unfold I64; simp, Nat.zero_le _⟩, .inr ⟨HK.out, rfl⟩⟩

end Go.Proofs.YtdglmnmalfpipaaDoor.tree

/-
  The other values that are made out of nothing.
  Conditions: those that each theorem names.
-/
namespace Go.Proofs.YtdglmnmalfpipaaDoor.tree
open Go.ChangeShapes Go.WideShapes Go.ChangeAt Go.RowKit
set_option linter.unusedVariables false

def boolV (b : Bool) : Value := if b then vV 1 1 ⟨#[]⟩ 0 none 0 0 else vV 1 0 ⟨#[]⟩ 0 none 0 0
theorem boolValue_i (b : Bool) (w : World) : Calls Tryd.prog 49 #[.bool b] w (GivesQ w (boolV b)) := by
  cases b
  · go_enter Tryd.func49, Tryd.ntmps49
    go_wp2
    exact bodyPost_ret (v := vV 1 0 ⟨#[]⟩ 0 none 0 0) (by simp [results, Tryd.results49, go_sem]) rfl ⟨rfl, b1 _ _⟩
  · go_enter Tryd.func49, Tryd.ntmps49
    go_wp2
    exact bodyPost_ret (v := vV 1 1 ⟨#[]⟩ 0 none 0 0) (by simp [results, Tryd.results49, go_sem]) rfl ⟨rfl, b1 _ _⟩

theorem arrayValue_s (w : World) : Calls Tryd.prog 47 #[] w (GivesQ w (vV 4 0 ⟨#[]⟩ 0 none 0 0)) := by
  go_enter Tryd.func47, Tryd.ntmps47
  go_wp2
  exact bodyPost_ret (v := vV 4 0 ⟨#[]⟩ 0 none 0 0) (by simp [results, Tryd.results47, go_sem]) rfl ⟨rfl, b1 _ _⟩

end Go.Proofs.YtdglmnmalfpipaaDoor.tree

