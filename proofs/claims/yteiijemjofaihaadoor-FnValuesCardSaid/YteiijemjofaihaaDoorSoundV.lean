/-
  IsValue of the project.
  Conditions: the value has at most 2^48 letters and items; the package variables of the library's reading of numbers hold what the program's text lays.
-/
import Derived.Test.YteiijemjofaihaaDoorSoundI
namespace Go.Proofs.YteiijemjofaihaaDoor.tree
open Go.ChangeShapes Go.WideShapes Go.ChangeAt Go.RowKit
set_option linter.unusedVariables false

theorem sound_i : ∀ t, SoI t := Tr.ind fun k n s x ks vs ih hN w S v hE h => by
  obtain ⟨A, c, rfl, ⟨-, -, -, hs⟩, hin⟩ := h.out
  clear h
  rw [tot] at hN
  by_cases h4 : k = 4
  · subst h4
    have SI : ∀ o, Calls Tryd.prog 122 #[vV 4 n s x A vs.length c] (w.alloc o) (BoQ (w.alloc o) (itemsB x [] ks vs)) := fun o => soundItems n s x ks vs ih A c _ S (hE.stays (b1 w o)) (hin.below (b1 w o)) (by omega)
    rw [snd_four]
    obtain ⟨q, HQ⟩ : ∃ q, Hid (itemsB x [] ks vs = q) := ⟨_, Lib.hid rfl⟩
    obtain ⟨q1, HQ1⟩ : ∃ q, Hid (nums.inr x 0 1000000001 = q) := ⟨_, Lib.hid rfl⟩
    have IR := inRange_i x 0 1000000001 q1 HQ1.out
    rw [HQ.out] at SI ⊢
    rw [HQ1.out]
    have hm : vs.length ≤ maxLen := hin.2.1
    obtain ⟨L, HL⟩ : ∃ L, Hid (L = vs.length) := ⟨_, Lib.hid rfl⟩
    rw [← HL.out] at SI hm ⊢
    unfold maxLen at hm hs
    clear hin hE hN ih
    by_cases h0 : s.size = 0
    · obtain rfl := empty_of h0
      by_cases hn : n = 0
      · subst hn
        cases q1 with
        | false =>
          go_enter Tryd.func81, Tryd.ntmps81
          go_wp2_with (fail)
          refine (IR _).mono ?_
          rintro e w1 ⟨rfl, rfl⟩
          go_wp2_with (fail)
          go_ret
          exact ⟨rfl, b1 _ _⟩
        | true =>
          go_enter Tryd.func81, Tryd.ntmps81
          go_wp2_with (fail)
          refine (IR _).mono ?_
          rintro e w1 ⟨rfl, rfl⟩
          go_wp2_with (fail)
          refine (SI _).mono ?_
          rintro e w2 ⟨rfl, hb2⟩
          have HB := Lib.hid (bs (b1 _ _) hb2)
          clear hb2
          go_wp2_with (fail)
          go_ret
          exact ⟨rfl, HB.out⟩
      · have e : (decide ((⟨#[]⟩ : ByteArray).size = 0) && (decide (n = 0) && (q1 && q))) = false := by rw [decide_eq_false hn]; simp
        rw [e]
        clear e
        go_enter Tryd.func81, Tryd.ntmps81
        go_wp2_with (fail)
        go_ret
        exact ⟨rfl, b1 _ _⟩
    · have e : (decide (s.size = 0) && (decide (n = 0) && (q1 && q))) = false := by rw [decide_eq_false h0]; rfl
      rw [e]
      obtain ⟨l1, l2⟩ := list_of h0
      clear e
      go_enter Tryd.func81, Tryd.ntmps81
      go_wp2_with (fail)
      go_ret
      exact ⟨rfl, b1 _ _⟩
  · rw [snd_not h4]
    exact rest_i k n s x A vs.length c h4 hs hin.2.1 w

def valB (t : Tr) : Bool := lightB t && sndB t
theorem isValue_i (t : Tr) (hN : tot t ≤ 281474976710656) (w : World) (S : Nat → Prop) (v : Value) (hE : prs.Env w) (h : TIn w S t v) : Calls Tryd.prog 34 #[v] w (BoQ w (valB t)) := by
  have LI : ∀ o, Calls Tryd.prog 80 #[v] (w.alloc o) (BoQ (w.alloc o) (lightB t)) := fun o => light_i t _ S v (h.below' (b1 w o))
  have SI : ∀ w', Below w.heap.size w w' → Calls Tryd.prog 81 #[v] w' (BoQ w' (sndB t)) := fun w' hb => sound_i t hN w' S v (hE.stays hb) (h.below' hb)
  unfold valB
  obtain ⟨q1, HQ1⟩ : ∃ q, Hid (lightB t = q) := ⟨_, Lib.hid rfl⟩
  obtain ⟨q2, HQ2⟩ : ∃ q, Hid (sndB t = q) := ⟨_, Lib.hid rfl⟩
  rw [HQ1.out] at LI ⊢
  rw [HQ2.out] at SI ⊢
  obtain ⟨k, n, s, x, ks, vs⟩ := t
  obtain ⟨A, c, rfl, hk, hin⟩ := h.out
  clear h hk hin hE hN
  cases q1 with
  | false =>
    go_enter Tryd.func34, Tryd.ntmps34
    go_wp2_with (fail)
    refine (LI _).mono ?_
    rintro e w1 ⟨rfl, hb1⟩
    have HB := Lib.hid (bs (b1 _ _) hb1)
    clear hb1
    go_wp2_with (fail)
    go_ret
    exact ⟨rfl, HB.out⟩
  | true =>
    go_enter Tryd.func34, Tryd.ntmps34
    go_wp2_with (fail)
    refine (LI _).mono ?_
    rintro e w1 ⟨rfl, hb1⟩
    obtain ⟨r1, -⟩ := rowc (carry hb1 (heap_alloc_new w _))
    have HB := Lib.hid (bs (b1 _ _) hb1)
    clear hb1
    go_wp2_with (fail)
    refine (SI _ HB.out).mono ?_
    rintro e w2 ⟨rfl, hb2⟩
    have HB2 := Lib.hid (bs HB.out hb2)
    clear hb2
    go_wp2_with (fail)
    go_ret
    exact ⟨rfl, HB2.out⟩

end Go.Proofs.YteiijemjofaihaaDoor.tree
