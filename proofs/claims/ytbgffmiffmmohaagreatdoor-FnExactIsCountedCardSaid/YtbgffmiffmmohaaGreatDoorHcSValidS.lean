/-
  IsValue of the model.
  Conditions: the value has at most 2^48 letters and items; the package variables of the library's reading of numbers hold what the program's text lays.
-/
import Derived.Test.YtbgffmiffmmohaaGreatDoorHcB2
namespace Go.Proofs.YtbgffmiffmmohaaGreatDoor.tree
open Go.ChangeShapes Go.WideShapes Go.ChangeAt Go.RowKit
set_option linter.unusedVariables false

theorem in_s (n l h : Int) (q : Bool) (hq : nums.inr n l h = q) (w : World) : Calls Tryz.prog 78 #[.int .i64 n, .int .i64 l, .int .i64 h] w fun e w' => e = .returned (.bool q) ∧ w = w' := hq ▸ nums.l1In n l h w

theorem scal_s (k n : Int) (s : ByteArray) (A : Option Addr) (c : Nat) (h4 : ¬ k = 4) (hs : k = 3 ∨ s.size = 0) (hm : s.size ≤ maxLen) (w : World) :
    Calls Tryz.prog 93 #[vV k n s 0 A 0 c] w (BoQ w (scalB k n s)) := by
  unfold maxLen at hm
  by_cases h3 : k = 3
  · subst h3
    clear h4 hs
    by_cases hn : n = 0
    · subst hn
      have e : scalB 3 0 s = decide (s.size ≤ 400) := by simp [scalB]
      rw [e]
      clear e
      go_enter Tryz.func93, Tryz.ntmps93
      go_wp2_with (fail)
      go_ret
      exact ⟨ret_dec (p := (s.size : Int) ≤ 400) (by omega), b1 _ _⟩
    · have e : scalB 3 n s = false := by simp [scalB, hn]
      rw [e]
      clear e
      go_enter Tryz.func93, Tryz.ntmps93
      go_wp2_with (fail)
      go_ret
      exact ⟨rfl, b1 _ _⟩
  · obtain rfl := empty_of (hs.resolve_left h3)
    clear hs hm
    by_cases h0 : k = 0
    · subst h0
      have e : scalB 0 n ⟨#[]⟩ = decide (n = 0) := rfl
      rw [e]
      clear e h3 h4
      go_enter Tryz.func93, Tryz.ntmps93
      go_wp2_with (fail)
      go_ret
      exact ⟨rfl, b1 _ _⟩
    by_cases h1 : k = 1
    · subst h1
      obtain ⟨q, hq⟩ : ∃ q, scalB 1 n ⟨#[]⟩ = q := ⟨_, rfl⟩
      have IR := in_s n 0 1 q hq
      rw [hq]
      clear hq h3 h4 h0
      go_enter Tryz.func93, Tryz.ntmps93
      go_wp2_with (fail)
      refine (IR _).mono ?_
      rintro e w1 ⟨rfl, rfl⟩
      go_wp2_with (fail)
      go_ret
      exact ⟨rfl, b1 _ _⟩
    by_cases h2 : k = 2
    · subst h2
      obtain ⟨q, hq⟩ : ∃ q, scalB 2 n ⟨#[]⟩ = q := ⟨_, rfl⟩
      have IR := in_s n (-1000000000) 1000000000 q hq
      rw [hq]
      clear hq h3 h4 h0 h1
      go_enter Tryz.func93, Tryz.ntmps93
      go_wp2_with (fail)
      refine (IR _).mono ?_
      rintro e w1 ⟨rfl, rfl⟩
      go_wp2_with (fail)
      go_ret
      exact ⟨rfl, b1 _ _⟩
    by_cases h678 : k = 6 ∨ k = 7 ∨ k = 8
    · obtain ⟨q, hq⟩ : ∃ q, nums.inr n 0 255 = q := ⟨_, rfl⟩
      have IR := in_s n 0 255 q hq
      have e : scalB k n ⟨#[]⟩ = q := by
        unfold scalB
        rw [if_neg h0, if_neg h1, if_neg h2, if_neg h3, if_pos h678, hq]
      rw [e]
      clear hq e h3 h4 h0 h1 h2
      rcases h678 with rfl | rfl | rfl
      all_goals
        go_enter Tryz.func93, Tryz.ntmps93
        go_wp2_with (fail)
        refine (IR _).mono ?_
        rintro e w1 ⟨rfl, rfl⟩
        go_wp2_with (fail)
        go_ret
        exact ⟨rfl, b1 _ _⟩
    · have e : scalB k n ⟨#[]⟩ = false := by
        unfold scalB
        rw [if_neg h0, if_neg h1, if_neg h2, if_neg h3, if_neg h678]
      rw [e]
      clear e
      have h6 : ¬ k = 6 := fun h => h678 (.inl h)
      have h7 : ¬ k = 7 := fun h => h678 (.inr (.inl h))
      have h8 : ¬ k = 8 := fun h => h678 (.inr (.inr h))
      clear h678
      go_enter Tryz.func93, Tryz.ntmps93
      go_wp2_with (fail)
      go_ret
      exact ⟨rfl, b1 _ _⟩

theorem rest_s (k n : Int) (s : ByteArray) (x : Int) (A : Option Addr) (L c : Nat) (h4 : ¬ k = 4) (hm : s.size ≤ maxLen) (hL : L ≤ maxLen) (w : World) :
    Calls Tryz.prog 93 #[vV k n s x A L c] w (BoQ w (restB k n s x L)) := by
  by_cases hs : k = 3 ∨ s.size = 0
  · by_cases hx : x = 0
    · subst hx
      by_cases h0 : L = 0
      · subst h0
        rw [rest_ok hs]
        exact scal_s k n s A c h4 hs hm w
      · rw [rest_items h0]
        unfold maxLen at hL
        have h0' : (0 : Int) < (L : Int) := by omega
        have h4' : (k != 4) = true := by simp [h4]
        by_cases h3 : k = 3
        · subst h3
          clear hs h4'
          go_enter Tryz.func93, Tryz.ntmps93
          go_wp2_with (fail)
          go_ret
          exact ⟨rfl, b1 _ _⟩
        · obtain rfl := empty_of (hs.resolve_left h3)
          clear hs hm
          go_enter Tryz.func93, Tryz.ntmps93
          go_wp2_with (fail)
          go_ret
          exact ⟨rfl, b1 _ _⟩
    · rw [rest_next hx]
      by_cases h3 : k = 3
      · subst h3
        clear hs
        go_enter Tryz.func93, Tryz.ntmps93
        go_wp2_with (fail)
        go_ret
        exact ⟨rfl, b1 _ _⟩
      · obtain rfl := empty_of (hs.resolve_left h3)
        clear hs hm
        go_enter Tryz.func93, Tryz.ntmps93
        go_wp2_with (fail)
        go_ret
        exact ⟨rfl, b1 _ _⟩
  · have h3 : ¬ k = 3 := fun h => hs (.inl h)
    have h0 : ¬ s.size = 0 := fun h => hs (.inr h)
    rw [rest_str h3 h0]
    obtain ⟨l1, l2⟩ := list_of h0
    clear hs
    go_enter Tryz.func93, Tryz.ntmps93
    go_wp2_with (fail)
    go_ret
    exact ⟨rfl, b1 _ _⟩

def VaS (t : Tr) : Prop := tot t ≤ 281474976710656 → ∀ (w : World) (S : Nat → Prop) (v : Value), prs.Env w → TIn w S t v → Calls Tryz.prog 93 #[v] w (BoQ w (sndB t))

set_option maxHeartbeats 1000000 in
theorem validItems (x : Int) (ks : List Ky) (vs : List Tr) (ih : ∀ t ∈ vs, VaS t) (A : Option Addr) (c : Nat) (w : World) (S : Nat → Prop) (hE : prs.Env w) (h : IsIn w S ks vs A) (hN : tots ks vs ≤ 281474976710656) (hx : nums.inr x 0 1000000001 = true) :
    Calls Tryz.prog 93 #[vV 4 0 ⟨#[]⟩ x A vs.length c] w (BoQ w (itemsB x [] ks vs)) := by
  obtain ⟨L, HL⟩ : ∃ L, Hid (L = vs.length) := ⟨_, Lib.hid rfl⟩
  have hm : L ≤ maxLen := by rw [HL.out]; exact h.2.1
  unfold maxLen at hm
  have HKL : Hid (ks.length = L) := Lib.hid (by rw [HL.out]; exact h.1)
  rw [← HL.out]
  have HI := Lib.hid h
  have HEN := Lib.hid hE
  clear h hE
  obtain ⟨W, HW⟩ : ∃ W, Hid (itemsB x [] ks vs = W) := ⟨_, Lib.hid rfl⟩
  rw [HW.out]
  have IR := in_s x 0 1000000001 true hx
  clear hx
  go_enter Tryz.func93, Tryz.ntmps93
  go_wp2_with (fail)
  refine (IR _).mono ?_
  rintro e w0 ⟨rfl, rfl⟩
  go_wp2_with (fail)
  go_loopg [3] (L + 1) (fun gk i wr => ∃ (j : Nat), i = .int .i64 j ∧ gk + j = L + 1 ∧ j ≤ L ∧ Hid (itemsB x (ks.take j) (ks.drop j) (vs.drop j) = W) ∧
    Hid (wr.heap[w.heap.size]? = some (.cells #[.int .i64 4, .int .i64 0, .string ⟨#[]⟩, .int .i64 x, .slice A L c] IV (0, 0))) ∧ Below w.heap.size w wr)
  case atStart => exact ⟨0, rfl, by omega, by omega, Lib.hid HW.out, Lib.hid (heap_alloc_new w _), b1 _ _⟩
  case round =>
    obtain ⟨j, rfl, hgj, hjL, HQ, HE, hb⟩ := hrel
    have HB := Lib.hid hb
    clear hb
    obtain ⟨r0, -⟩ := rowc HE.out
    by_cases hlt : j < L
    · obtain ⟨a, ⟨yb, yn, ys⟩, k', n', s', x', ks', vs', A1, c1, rfl, hS, hky, hvs, ht, hyb, hkb, hin', hcell⟩ := (HI.out.below HB.out).item (i := j) (by rw [← HL.out]; exact hlt)
      have htm := tots_item hky hvs
      have hys : (Ky.mk yb yn ys).str.size ≤ 281474976710656 := by omega
      have htt : tot (.mk k' n' s' x' ks' vs') ≤ 281474976710656 := by omega
      have HD := Lib.hid ((items_drop (x := x) hky hvs).symm.trans HQ.out)
      obtain ⟨q1, HQ1⟩ : ∃ q, Hid (keyB ⟨yb, yn, ys⟩ = q) := ⟨_, Lib.hid rfl⟩
      obtain ⟨q2, HQ2⟩ : ∃ q, Hid (sndB (.mk k' n' s' x' ks' vs') = q) := ⟨_, Lib.hid rfl⟩
      obtain ⟨p, HP⟩ : ∃ p, Hid (pos ks ⟨yb, yn, ys⟩ 0 = p) := ⟨_, Lib.hid rfl⟩
      have HPF : Hid (p = (j : Int) ↔ (⟨yb, yn, ys⟩ : Ky) ∉ ks.take j) := Lib.hid (by have := pos_first ks ⟨yb, yn, ys⟩ 0 j hky; rw [HP.out] at this; simpa using this)
      have KB : ∀ w' : World, Below wr.heap.size wr w' → Calls Tryz.prog 18 #[.agg #[.bool yb, .int .i64 yn, .string ys]] w' (KeyQ w' q1) := fun w' hb' => HQ1.out ▸ isKey_s ⟨yb, yn, ys⟩ hys w' (HEN.out.stays (bs HB.out hb'))
      have FI : ∀ w' : World, Below wr.heap.size wr w' → Calls Tryz.prog 149 #[vV 4 0 ⟨#[]⟩ x (some a) L c, .agg #[.bool yb, .int .i64 yn, .string ys]] w' (LtQ w' p) := fun w' hb' => by
        rw [← HP.out, HL.out]
        exact find_s 0 ⟨#[]⟩ x ks vs (some a) c ⟨yb, yn, ys⟩ w' S ((HI.out.below HB.out).below hb')
      have ihj : ∀ w' : World, Below wr.heap.size wr w' → Calls Tryz.prog 93 #[vV k' n' s' x' A1 vs'.length c1] w' (BoQ w' q2) := fun w' hb' => HQ2.out ▸ ih _ (List.mem_of_getElem? hvs) htt w' S _ (HEN.out.stays (bs HB.out hb')) (ht.below' hb')
      rw [show belowB ⟨yb, yn, ys⟩ x = (q1 && (yb || decide (yn < x))) by unfold belowB; rw [HQ1.out], HQ2.out] at HD
      obtain ⟨L1, HL1⟩ : ∃ L1, Hid (L1 = vs'.length) := ⟨_, Lib.hid rfl⟩
      rw [← HL1.out] at hcell ihj
      clear hky hvs ht hin' hyb hkb hS htm hys htt
      have p0 : wr.cell? (a.add (j * 8)) = some (.bool yb) := hcell.c0
      have p1 : wr.cell? ⟨(a.add (j * 8)).block, (a.add (j * 8)).off + 1, none⟩ = some (.int .i64 yn) := hcell.c1
      have p2 : wr.cell? ⟨(a.add (j * 8)).block, (a.add (j * 8)).off + 2, none⟩ = some (.string ys) := hcell.c2
      have HC := Lib.hid hcell
      clear hcell
      obtain ⟨NI, hNI⟩ : ∃ N, N = wr.heap.size := ⟨_, rfl⟩
      go_wp2_with (fail)
      refine (KB _ (b1 _ _)).mono ?_
      rintro e1 w1 ⟨rfl, hb1⟩
      have eI := carry hb1 (heap_alloc_new wr _)
      rw [← hNI] at eI ⊢
      have EI := Lib.hid eI
      obtain ⟨rI, -⟩ := rowc eI
      have HB1 := Lib.hid (bs (b1 wr _) hb1)
      have HE1 := Lib.hid (carry HB1.out HE.out)
      clear hb1 eI r0 hNI p0 p1 p2
      obtain ⟨r1, -⟩ := rowc HE1.out
      cases q1 with
      | false =>
        have HF : Hid (false = W) := Lib.hid (by have := HD.out; simpa using this)
        go_wp2_with (fail)
        go_ret
        exact ⟨by rw [← HF.out]; rfl, bs HB.out HB1.out⟩
      | true =>
        by_cases hbad : yb = false ∧ x ≤ yn
        · obtain ⟨rfl, hxy⟩ := hbad
          have HF : Hid (false = W) := Lib.hid (by have := HD.out; rw [decide_eq_false (show ¬ yn < x by omega)] at this; simpa using this)
          go_wp2_with (fail)
          go_ret
          exact ⟨by rw [← HF.out]; rfl, bs HB.out HB1.out⟩
        · have HD2 : Hid ((!decide ((⟨yb, yn, ys⟩ : Ky) ∈ ks.take j) && q2 && itemsB x (ks.take (j + 1)) (ks.drop (j + 1)) (vs.drop (j + 1))) = W) := Lib.hid (by
            have := HD.out
            rw [show (yb || decide (yn < x)) = true by
              cases yb
              · have : yn < x := by
                  by_cases h : yn < x
                  · exact h
                  · exact absurd ⟨rfl, by omega⟩ hbad
                simp [this]
              · rfl] at this
            simpa using this)
          clear HD
          have hcases : yb = true ∨ (yb = false ∧ ¬ x ≤ yn) := by
            cases yb
            · exact .inr ⟨rfl, fun h => hbad ⟨rfl, h⟩⟩
            · exact .inl rfl
          clear hbad
          by_cases hpj : p = (j : Int)
          · have hns := HPF.out.1 hpj
            have HD3 : Hid ((q2 && itemsB x (ks.take (j + 1)) (ks.drop (j + 1)) (vs.drop (j + 1))) = W) := Lib.hid (by have := HD2.out; rw [decide_eq_false hns] at this; simpa using this)
            clear hns HD2 HPF HP
            subst hpj
            rcases hcases with rfl | ⟨rfl, hxy⟩
            all_goals
              go_wp2_with (fail)
              refine (FI _ HB1.out).mono ?_
              rintro e2 w2 ⟨rfl, hb2⟩
              have HB2 := Lib.hid (bs HB1.out hb2)
              have HE2 := Lib.hid (carry hb2 HE1.out)
              obtain ⟨r2, -⟩ := rowc HE2.out
              have st : ∀ (a : Addr) (u : Value), wr.cell? a = some u → w2.cell? a = some u := fun a u hu => cell_stays (fun hlt => HB2.out.block _ hlt) hu
              have z3 := st _ _ HC.out.c3
              have z4 := st _ _ HC.out.c4
              have z5 := st _ _ HC.out.c5
              have z6 := st _ _ HC.out.c6
              have z7 := st _ _ HC.out.c7
              clear st hb2 r1 rI
              cases q2 with
              | false =>
                have HF : Hid (false = W) := HD3
                go_wp2_with (fail)
                refine (ihj _ HB2.out).mono ?_
                rintro e3 w3 ⟨rfl, hb3⟩
                have HB3 := Lib.hid (bs HB2.out hb3)
                clear hb3 r2 z3 z4 z5 z6 z7
                go_wp2_with (fail)
                go_ret
                exact ⟨by rw [← HF.out]; rfl, bs HB.out HB3.out⟩
              | true =>
                have HF : Hid (itemsB x (ks.take (j + 1)) (ks.drop (j + 1)) (vs.drop (j + 1)) = W) := HD3
                go_wp2_with (fail)
                refine (ihj _ HB2.out).mono ?_
                rintro e3 w3 ⟨rfl, hb3⟩
                have HB3 := Lib.hid (bs HB2.out hb3)
                clear hb3 r2 z3 z4 z5 z6 z7
                go_wp2_with (fail)
                go_roundg (L - j)
                case rel => exact ⟨j + 1, by go_num, by omega, by omega, HF, Lib.hid (carry HB3.out HE.out), bs HB.out HB3.out⟩
                case measure => omega
          · have HF : Hid (false = W) := Lib.hid (by
              have := HD2.out
              rw [decide_eq_true (show (⟨yb, yn, ys⟩ : Ky) ∈ ks.take j from Decidable.byContradiction fun h => hpj (HPF.out.2 h))] at this
              simpa using this)
            clear HD2 HPF HP
            rcases hcases with rfl | ⟨rfl, hxy⟩
            all_goals
              go_wp2_with (fail)
              refine (FI _ HB1.out).mono ?_
              rintro e2 w2 ⟨rfl, hb2⟩
              have HB2 := Lib.hid (bs HB1.out hb2)
              clear hb2 r1 rI
              go_wp2_with (fail)
              go_ret
              exact ⟨by rw [← HF.out]; rfl, bs HB.out HB2.out⟩
    · obtain rfl : j = L := by omega
      have HF : Hid (true = W) := Lib.hid (by rw [← HQ.out, show vs.drop j = [] from List.drop_eq_nil_of_le (Nat.le_of_eq HL.out.symm), items_nil])
      go_wp2_with (fail)
      go_ret
      exact ⟨by rw [← HF.out]; rfl, HB.out⟩

theorem valid_s : ∀ t, VaS t := Tr.ind fun k n s x ks vs ih hN w S v hE h => by
  obtain ⟨A, c, rfl, ⟨-, -, -, hs⟩, hin⟩ := h.out
  clear h
  rw [tot] at hN
  by_cases h4 : k = 4
  · subst h4
    rw [snd_four]
    by_cases h0 : s.size = 0
    · obtain rfl := empty_of h0
      by_cases hn : n = 0
      · subst hn
        cases hq : nums.inr x 0 1000000001 with
        | true => exact validItems x ks vs ih A c w S hE hin (by omega) hq
        | false =>
          have IR := in_s x 0 1000000001 false hq
          have hm : vs.length ≤ maxLen := hin.2.1
          generalize vs.length = L at *
          unfold maxLen at hm
          clear hin hE hN ih hs hq
          go_enter Tryz.func93, Tryz.ntmps93
          go_wp2_with (fail)
          refine (IR _).mono ?_
          rintro e w1 ⟨rfl, rfl⟩
          go_wp2_with (fail)
          go_ret
          exact ⟨rfl, b1 _ _⟩
      · have e : ∀ q : Bool, (decide ((⟨#[]⟩ : ByteArray).size = 0) && (decide (n = 0) && q)) = false := fun q => by rw [decide_eq_false hn]; simp
        rw [e]
        have hm : vs.length ≤ maxLen := hin.2.1
        generalize vs.length = L at *
        unfold maxLen at hm
        clear e hin hE hN ih hs
        go_enter Tryz.func93, Tryz.ntmps93
        go_wp2_with (fail)
        go_ret
        exact ⟨rfl, b1 _ _⟩
    · have e : ∀ q : Bool, (decide (s.size = 0) && q) = false := fun q => by rw [decide_eq_false h0]; rfl
      rw [e]
      obtain ⟨l1, l2⟩ := list_of h0
      have hm : vs.length ≤ maxLen := hin.2.1
      generalize vs.length = L at *
      unfold maxLen at hm hs
      clear e hin hE hN ih
      go_enter Tryz.func93, Tryz.ntmps93
      go_wp2_with (fail)
      go_ret
      exact ⟨rfl, b1 _ _⟩
  · rw [snd_not h4]
    exact rest_s k n s x A vs.length c h4 hs hin.2.1 w

theorem isValue_s (t : Tr) (hN : tot t ≤ 281474976710656) (w : World) (S : Nat → Prop) (v : Value) (hE : prs.Env w) (h : TIn w S t v) : Calls Tryz.prog 28 #[v] w (BoQ w (lightB t && sndB t)) := by
  have WE : ∀ o, Calls Tryz.prog 92 #[v, .int .i64 200] (w.alloc o) (LtQ (w.alloc o) (cut 200 (wgt t))) := fun o => weigh_s t _ S v (h.below' (b1 w o)) 200 (by omega) (by omega)
  have SI : ∀ w', Below w.heap.size w w' → Calls Tryz.prog 93 #[v] w' (BoQ w' (sndB t)) := fun w' hb => valid_s t hN w' S v (hE.stays hb) (h.below' hb)
  unfold lightB
  obtain ⟨N, HN⟩ : ∃ N, Hid (wgt t = N) := ⟨_, Lib.hid rfl⟩
  obtain ⟨q2, HQ2⟩ : ∃ q, Hid (sndB t = q) := ⟨_, Lib.hid rfl⟩
  rw [HN.out] at WE ⊢
  rw [HQ2.out] at SI ⊢
  obtain ⟨k, n, s, x, ks, vs⟩ := t
  obtain ⟨A, c, rfl, hk, hin⟩ := h.out
  clear h hk hin hE hN
  by_cases hle : N ≤ 200
  · rw [decide_eq_true hle]
    obtain ⟨r, hr, e⟩ : ∃ r : Int, r ≤ 200 ∧ cut 200 N = r := ⟨_, by unfold cut; split <;> omega, rfl⟩
    rw [e] at WE
    clear e hle
    go_enter Tryz.func28, Tryz.ntmps28
    go_wp2_with (fail)
    refine (WE _).mono ?_
    rintro e w1 ⟨rfl, hb1⟩
    obtain ⟨r1, -⟩ := rowc (carry hb1 (heap_alloc_new w _))
    have HB := Lib.hid (bs (b1 _ _) hb1)
    clear hb1
    go_wp2_with (fail)
    refine (SI _ HB.out).mono ?_
    rintro e w2 ⟨rfl, hb2⟩
    have HB2 := Lib.hid (bs HB.out hb2)
    clear hb2
    go_wp2_with (fail)
    go_ret
    exact ⟨rfl, HB2.out⟩
  · rw [decide_eq_false hle]
    have e : cut 200 N = 201 := by unfold cut; split <;> omega
    rw [e] at WE
    clear e hle
    go_enter Tryz.func28, Tryz.ntmps28
    go_wp2_with (fail)
    refine (WE _).mono ?_
    rintro e w1 ⟨rfl, hb1⟩
    have HB := Lib.hid (bs (b1 _ _) hb1)
    clear hb1
    go_wp2_with (fail)
    go_ret
    exact ⟨rfl, HB.out⟩

end Go.Proofs.YtbgffmiffmmohaaGreatDoor.tree

