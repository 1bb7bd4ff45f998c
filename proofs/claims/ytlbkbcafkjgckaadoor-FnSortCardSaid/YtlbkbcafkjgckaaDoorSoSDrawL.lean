/-
  The model's draw of a list of values.
  Conditions: the cursor's block; the bytes of the draw are at most 1048576.
-/
import Derived.Test.YtlbkbcafkjgckaaDoorSoSDrawT
import Derived.Test.YtlbkbcafkjgckaaDoorSoB2
import Derived.Test.YtlbkbcafkjgckaaDoorSoB1
import Derived.Maps.AppendAt
namespace Go.Proofs.YtlbkbcafkjgckaaDoor.draw
open Go.ChangeShapes Go.WideShapes Go.ChangeAt Go.RowKit tree
set_option linter.unusedVariables false

def DLs (N : Nat) (w : World) (e : Ending) (w' : World) : Prop := ∃ (A : Option Addr) (c : Nat) (vs : List Tr), e = .returned (.slice A vs.length c) ∧ vs.length ≤ 6 ∧ (∀ t ∈ vs, tot t ≤ 300) ∧ VIn w' (Nw w.heap.size w') vs A ∧ Cur w' N ∧ w.grownBy w' (some N)
theorem dB_2 : dB 2 ≤ 300 := by decide

set_option maxRecDepth 100000 in
set_option maxHeartbeats 4000000 in
theorem drawList (N : Nat) (w : World) (hC : Cur w N) : Calls Tryd.prog 73 #[.pointer (some ⟨N, 0, none⟩)] w (DLs N w) := by
  have hN0 := hC.lt
  have HC := Lib.hid hC
  clear hC
  obtain ⟨i0, hi, hz⟩ := iv_info
  have HII := Lib.hid hi
  have HZZ := Lib.hid hz
  clear hi hz
  obtain ⟨P, HP⟩ : ∃ P, Hid (w.heap.size = P) := ⟨_, Lib.hid rfl⟩
  have hNP : N < P := by rw [← HP.out]; exact hN0
  go_enter Tryd.func73, Tryd.ntmps73
  go_wp2_with (fail)
  have HO0 : Hid (OwV (w.alloc (.cells #[] IV)) P (.slice (some ⟨P, 0, none⟩) 0 0) [] []) := Lib.hid (by
    have := (World.ownsRow_made (base := w.heap.size) (e := IV) (size := 5) w #[] 0 (by simp) (Nat.zero_le _) rfl)
    rw [HP.out] at this
    exact ⟨this, XV.nil _ _⟩)
  refine (below N 7 (by omega) _ (HC.out.new _)).mono ?_
  rintro e w1 ⟨q, rfl, q0, q1, hC1, hg1⟩
  obtain ⟨k0, rfl⟩ := Int.eq_ofNat_of_zero_le q0
  have k05 : k0 ≤ 6 := by omega
  have HC1 := Lib.hid hC1
  have HG1 := Lib.hid (only_trans (World.grownBy_alloc w (.cells #[] IV) (some N)) hg1)
  have HO1 := Lib.hid (HO0.out.keep (fun b hb hl => hg1.block b hl (ne_of (by omega))))
  rw [HP.out]
  clear hC1 hg1 q0 q1 HO0
  go_wp2_with (fail)
  go_loopg [3, 4] (k0 + 1) (fun gk l k wr => ∃ (j g C L : Nat) (xs : List Value) (vs : List Tr), l = .slice (some ⟨g, 0, none⟩) L C ∧ k = .int .i64 j ∧ gk = j + 1 ∧ L + j ≤ 6 ∧ Hid (L = vs.length) ∧ Hid (OwV wr P (.slice (some ⟨g, 0, none⟩) L C) xs vs) ∧ Hid (∀ t ∈ vs, tot t ≤ 300) ∧ Hid (Cur wr N) ∧ Hid (w.grownBy wr (some N)))
  case atStart => exact ⟨k0, P, 0, 0, [], [], rfl, rfl, rfl, by omega, Lib.hid rfl, HO1, Lib.hid (fun t h => by cases h), HC1, HG1⟩
  case round =>
    clear HC1 HG1 HO1 k05
    obtain ⟨j, g, C, L, xs, vs, rfl, rfl, hgj, hLj, HL, HO, HT, HCR, HG⟩ := hrel
    by_cases hj : 0 < j
    · have hj' : (0 : Int) < (j : Int) := by omega
      go_wp2_with (fail)
      refine (once N 5 (by omega) _ HCR.out).mono ?_
      rintro e w2 ⟨b, rfl, hC2, hg2⟩
      have HC2 := Lib.hid hC2
      have HG2 := Lib.hid (only_trans HG.out hg2)
      have HO2 := Lib.hid (HO.out.keep (fun b hb hl => hg2.block b hl (ne_of (by omega))))
      clear hC2 hg2 HCR HG HO
      cases b with
      | true =>
        go_wp2_with (fail)
        refine (drawT N 2 2 rfl (by omega) _ HC2.out).mono ?_
        rintro e w3 ⟨k1, n1, s1, x1, ks1, vs1, A1, L1, c1, rfl, hb, hL, h4, hO, hB, hC3, hg3⟩
        have hz3 := HG2.out.size
        rw [HP.out] at hz3
        have HC3 := Lib.hid hC3
        have HG3 := Lib.hid (only_trans HG2.out hg3)
        have HO3 := Lib.hid (HO2.out.keep (fun b hb hl => hg3.block b hl (ne_of (by omega))))
        have hown : ∀ b, (Value.slice (some ⟨g, 0, none⟩) L C).ownBlock = some b → b < w2.heap.size := fun b e => by
          rcases HO2.out.1.2 with ⟨h, -⟩ | ⟨g2, cap, cur, h, hlo, hgc, -⟩
          · cases h
          · rw [h] at e; simp [Value.ownBlock] at e; subst e; exact (Array.getElem?_eq_some_iff.1 hgc).1
        obtain ⟨A2, c2, e2, hc2, hin2⟩ := hO.isin (by unfold maxLen; omega)
        obtain ⟨rfl, -, rfl⟩ : A1 = A2 ∧ L1 = vs1.length ∧ c1 = c2 := by simpa using e2
        have HTN : Hid (TIn w3 (fun b => P ≤ b ∧ Plain w3 b ∧ (Value.slice (some ⟨g, 0, none⟩) L C).ownBlock ≠ some b) (.mk k1 n1 s1 x1 ks1 vs1) (vV k1 n1 s1 x1 A1 vs1.length c1)) := Lib.hid (by
          have := TIn.of (k := k1) (n := n1) (s := s1) (x := x1) c1 (by unfold I64 maxLen; omega) hin2 hc2
          exact this.stays (fun b hb => ⟨Nat.le_trans hz3 hb.1, hb.2, fun e => by have h1 := hown b e; have h2 := hb.1; omega⟩) (fun _ _ _ => rfl))
        have HTB : Hid (tot (.mk k1 n1 s1 x1 ks1 vs1) ≤ 300) := Lib.hid (by rw [tot_mk]; have := dB_2; omega)
        have HL1 := Lib.hid hL
        have HOW : Hid (∀ o, (w3.alloc o).ownsRow P IV 5 (.slice (some ⟨g, 0, none⟩) L C) L xs) := Lib.hid (fun o => by have := HO3.out.1; rw [← HL.out] at this; exact World.ownsRow.alloc this o)
        have HZ3 : Hid (P ≤ w3.heap.size) := Lib.hid (Nat.le_trans hz3 hg3.size)
        clear hb hL h4 hO hB hC3 hg3 hz3 hown e2 hc2 hin2 HO2 HC2 HG2
        go_wp2_with (first
          | (at_builtin; refine wpList_append_own_at _ rfl _ _ 43 rfl P IV i0 _ 5 64 Tryd.underlying43 HII.out HZZ.out.1 HZZ.out.2.1 HZZ.out.2.2 rfl (by decide) _ L xs rfl (HOW.out _) ⟨w3.heap.size, 0, none⟩ 1 1 [.int .i64 k1, .int .i64 n1, .string s1, .int .i64 x1, .slice A1 L1 c1] rfl rfl (five_new _ _ _ _ _ _ _) (five_one _ _ _ _ _ _ _) (by unfold maxLen; omega) (by omega) (by have := HZ3.out; simp; omega) ?_
             intro v' w5 hown' hgrow' hnil hat'
             have HO5 := Lib.hid hown'
             have HG5 := Lib.hid hgrow'
             have HA5 := Lib.hid hat'
             clear hown' hgrow' hnil hat')
          | fail)
        have hm : OwV w5 P v' (xs ++ [.int .i64 k1, .int .i64 n1, .string s1, .int .i64 x1, .slice A1 vs1.length c1]) (vs ++ [.mk k1 n1 s1 x1 ks1 vs1]) := by
          have ho := HO5.out
          rw [HL.out, HL1.out] at ho
          refine (HO3.out.keep (w' := w3.alloc _) (fun b hb hl => (b1 w3 _).block b hl)).more (HTN.out.stays (fun b hb => ⟨hb.1, hb.2.1.same ((b1 w3 _).block b hb.2.1.lt), hb.2.2⟩) (fun b hb hl => (b1 w3 _).block b hl)) ho HG5.out HA5.out
        have HM := Lib.hid hm
        have HWO : Hid (∀ b, (Value.slice (some ⟨g, 0, none⟩) L C).ownBlock = some b → P ≤ b) := Lib.hid (fun b e => by
          rcases HO3.out.1.2 with ⟨h, -⟩ | ⟨g2, cap, cur, h, hlo, hgc, -⟩
          · cases h
          · rw [h] at e; simp [Value.ownBlock] at e; omega)
        have HG6 : Hid (w.grownBy w5 (some N)) := Lib.hid (grown_app HG3.out HG5.out (fun b e => by have := HWO.out b e; have := HP.out; omega))
        have HC6 : Hid (Cur w5 N) := Lib.hid (Cur.upto HC3.out (fun b hb => (HG5.out.block b (by have := HZ3.out; simp; omega) (fun e => by have := HWO.out b e.symm; omega)).trans ((b1 w3 _).block b (by have := HZ3.out; omega))))
        obtain ⟨g3, c3, rfl⟩ : ∃ g3 c3, v' = .slice (some ⟨g3, 0, none⟩) (L + 1) c3 := by
          rcases HO5.out.2 with ⟨-, h⟩ | ⟨g, cap, cur, h, -⟩
          · omega
          · exact ⟨g, cap, h⟩
        clear hm HO5 HG5 HA5 HWO
        go_roundg j
        case rel => exact ⟨j - 1, g3, c3, L + 1, _, _, rfl, by go_num, by omega, by omega, Lib.hid (by rw [HL.out]; simp), HM, Lib.hid (fun t h => by
          rcases List.mem_append.1 h with h | h
          · exact HT.out t h
          · obtain rfl := List.mem_singleton.1 h
            exact HTB.out), HC6, HG6⟩
        case measure => omega
      | false =>
        go_wp2_with (fail)
        refine (below N 9 (by omega) _ HC2.out).mono ?_
        rintro e w3 ⟨n1, rfl, n0, n9, hC3, hg3⟩
        have hz3 := HG2.out.size
        rw [HP.out] at hz3
        have HC3a := Lib.hid hC3
        have HG3a := Lib.hid (only_trans HG2.out hg3)
        have HO3a := Lib.hid (HO2.out.keep (fun b hb hl => hg3.block b hl (ne_of (by omega))))
        have hz4 := hg3.size
        clear hC3 hg3 HO2 HC2 HG2
        go_wp2_with (fail)
        refine (intV n1 _).mono ?_
        rintro e w4 ⟨rfl, hb4⟩
        have HC3 := Lib.hid (HC3a.out.below hb4)
        have HG3 := Lib.hid (only_trans HG3a.out (grown_of_below hb4 N))
        have HO3 := Lib.hid (HO3a.out.keep (fun b hb hl => hb4.block b hl))
        have HTB : Hid (tot (.mk 2 n1 ⟨#[]⟩ 0 [] []) ≤ 300) := Lib.hid (by rw [tot_mk]; simp [tots]; show 0 ≤ 300; omega)
        have HOW : Hid (∀ o, (w4.alloc o).ownsRow P IV 5 (.slice (some ⟨g, 0, none⟩) L C) L xs) := Lib.hid (fun o => by have := HO3.out.1; rw [← HL.out] at this; exact World.ownsRow.alloc this o)
        have HZ3 : Hid (P ≤ w4.heap.size) := Lib.hid (Nat.le_trans hz3 (Nat.le_trans hz4 hb4.size))
        have HN1 : Hid (I64 n1) := Lib.hid (by unfold I64; omega)
        clear hb4 hz3 hz4 HC3a HG3a HO3a
        go_wp2_with (first
          | (at_builtin; refine wpList_append_own_at _ rfl _ _ 43 rfl P IV i0 _ 5 64 Tryd.underlying43 HII.out HZZ.out.1 HZZ.out.2.1 HZZ.out.2.2 rfl (by decide) _ L xs rfl (HOW.out _) ⟨w4.heap.size, 0, none⟩ 1 1 [.int .i64 2, .int .i64 n1, .string ⟨#[]⟩, .int .i64 0, .slice none 0 0] rfl rfl (five_new _ _ _ _ _ _ _) (five_one _ _ _ _ _ _ _) (by unfold maxLen; omega) (by omega) (by have := HZ3.out; simp; omega) ?_
             intro v' w5 hown' hgrow' hnil hat'
             have HO5 := Lib.hid hown'
             have HG5 := Lib.hid hgrow'
             have HA5 := Lib.hid hat'
             clear hown' hgrow' hnil hat')
          | fail)
        have hm : OwV w5 P v' (xs ++ [.int .i64 2, .int .i64 n1, .string ⟨#[]⟩, .int .i64 0, .slice none 0 0]) (vs ++ [.mk 2 n1 ⟨#[]⟩ 0 [] []]) := by
          have ho := HO5.out
          rw [HL.out] at ho
          exact (HO3.out.keep (w' := w4.alloc _) (fun b hb hl => (b1 w4 _).block b hl)).more (vs' := []) (flat ⟨by unfold I64; omega, HN1.out, by unfold I64; omega, Nat.zero_le _⟩ _ _ none 0 (Nat.zero_le _)) ho HG5.out HA5.out
        have HM := Lib.hid hm
        have HWO : Hid (∀ b, (Value.slice (some ⟨g, 0, none⟩) L C).ownBlock = some b → P ≤ b) := Lib.hid (fun b e => by
          rcases HO3.out.1.2 with ⟨h, -⟩ | ⟨g2, cap, cur, h, hlo, hgc, -⟩
          · cases h
          · rw [h] at e; simp [Value.ownBlock] at e; omega)
        have HG6 : Hid (w.grownBy w5 (some N)) := Lib.hid (grown_app HG3.out HG5.out (fun b e => by have := HWO.out b e; have := HP.out; omega))
        have HC6 : Hid (Cur w5 N) := Lib.hid (Cur.upto HC3.out (fun b hb => (HG5.out.block b (by have := HZ3.out; simp; omega) (fun e => by have := HWO.out b e.symm; omega)).trans ((b1 w4 _).block b (by have := HZ3.out; omega))))
        obtain ⟨g3, c3, rfl⟩ : ∃ g3 c3, v' = .slice (some ⟨g3, 0, none⟩) (L + 1) c3 := by
          rcases HO5.out.2 with ⟨-, h⟩ | ⟨g, cap, cur, h, -⟩
          · omega
          · exact ⟨g, cap, h⟩
        clear hm HO5 HG5 HA5 HWO
        go_roundg j
        case rel => exact ⟨j - 1, g3, c3, L + 1, _, _, rfl, by go_num, by omega, by omega, Lib.hid (by rw [HL.out]; simp), HM, Lib.hid (fun t h => by
          rcases List.mem_append.1 h with h | h
          · exact HT.out t h
          · obtain rfl := List.mem_singleton.1 h
            exact HTB.out), HC6, HG6⟩
        case measure => omega
    · obtain rfl : j = 0 := by omega
      go_wp2_with (fail)
      go_ret
      obtain ⟨A9, c9, e9, hm9, h9⟩ := HO.out.vin
      refine ⟨A9, c9, vs, by rw [← e9]; rfl, by have := HL.out; omega, HT.out, by rw [HP.out]; exact h9, HCR.out, HG.out⟩

def DSo (w : World) (e : Ending) (w' : World) : Prop := ∃ (A : Option Addr) (c : Nat) (vs : List Tr), e = .returned (.slice A vs.length c) ∧ vs.length ≤ 6 ∧ (∀ t ∈ vs, tot t ≤ 300) ∧ VIn w' (Nw w.heap.size w') vs A ∧ Below w.heap.size w w'
theorem drawSort (A0 : Option Addr) (n0 c0 : Nat) (hn : n0 ≤ 1048576) (w : World) (hA : Code w w.heap.size A0 n0) : Calls Tryd.prog 27 #[.slice A0 n0 c0] w (DSo w) := by
  have HA := Lib.hid hA
  clear hA
  go_enter Tryd.func27, Tryd.ntmps27
  go_wp2_with (fail)
  refine (new A0 n0 c0 hn _ HA.out).mono ?_
  rintro e w1 ⟨N, rfl, hN, hC1, hb1⟩
  have HC1 := Lib.hid hC1
  have HB1 := Lib.hid hb1
  have HN := Lib.hid hN
  clear hC1 hb1 hN
  go_wp2_with (fail)
  refine (drawList N _ HC1.out).mono ?_
  rintro e w2 ⟨A, c, vs, rfl, hl, ht, hv, hC2, hg2⟩
  obtain ⟨L, HL⟩ : ∃ L, Hid (vs.length = L) := ⟨_, Lib.hid rfl⟩
  rw [HL.out] at hl ⊢
  have HH := Lib.hid (And.intro ht (And.intro hv hg2))
  clear ht hv hC2 hg2
  go_wp2_with (fail)
  go_ret
  obtain ⟨ht, hv, hg2⟩ := HH.out
  exact ⟨A, c, vs, by rw [HL.out]; rfl, by have := HL.out; omega, ht, hv.stays (fun b hb => ⟨Nat.le_trans HB1.out.size hb.1, hb.2⟩) (fun _ _ _ => rfl), below_of HB1.out hg2 HN.out HB1.out.size⟩

end Go.Proofs.YtlbkbcafkjgckaaDoor.draw

