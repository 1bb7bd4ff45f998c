/-
  What the walks of the exact laws on values ask for again and again: the words of blocks behind calls, marks that are put in and found again.
  Conditions: those that each theorem names.
-/
import Derived.Test.YtbgffmiffmmohaaGreatDoorHcSMarkA
import Derived.Test.YtbgffmiffmmohaaGreatDoorHcSHeld
import Derived.Test.YtbgffmiffmmohaaGreatDoorHcB2
namespace Go.Proofs.YtbgffmiffmmohaaGreatDoor.tree
open Go.ChangeShapes Go.WideShapes Go.ChangeAt Go.RowKit
set_option linter.unusedVariables false

/-- How many items hang in a value. -/
def itm : Tr → Nat
  | .mk _ _ _ _ _ vs => cnts vs
theorem itm_cnt (t : Tr) : cnt t = 1 + itm t := by cases t; rw [cnt_mk', itm]
/-- A value with marks. -/
def mkI (m : Int) : Tr → Tr
  | .mk k n s x _ vs => .mk k n s x (mkK m vs) (mkV m vs)

/-- Blocks from lo on and below hi. -/
def Rg (lo hi : Nat) (b : Nat) : Prop := lo ≤ b ∧ b < hi
/-- A value in plain blocks from lo on: in those that are there. -/
theorem TIn.rg {w : World} {lo : Nat} {t : Tr} {v : Value} (h : TIn w (Nw lo w) t v) : TIn w (fun b => Rg lo w.heap.size b ∧ Plain w b) t v := h.stays (fun b hb => ⟨⟨hb.1, hb.2.lt⟩, hb.2⟩) (fun _ _ _ => rfl)

/-- Marks on an argument: all else stays. -/
theorem markArg (t : Tr) (v : Value) (m : Int) (hm0 : 1 ≤ m) (hm1 : m + 7 * cnt t ≤ 100000000000) (w w0 : World) (lo : Nat) (h : TIn w0 (Nw lo w0) t v) (hb : Below w0.heap.size w0 w) :
    Calls Tryz.prog 34 #[v, .int .i64 m] w (fun e w' => ∃ q, e = .returned (.int .i64 q) ∧ m ≤ q ∧ q ≤ m + 7 * cnt t ∧ Fr (Rg lo w0.heap.size) w w') := by
  have h1 := h.rg
  have h2 : TIn w (fun b => Rg lo w0.heap.size b ∧ Plain w0 b) t v := h1.below' hb
  refine (markVal t v m hm0 hm1 w _ h2 fun b hb' => ?_).mono fun e w' ⟨q, a, b, c, d⟩ => ⟨q, a, b, c, d.mono fun _ hb' => hb'.1⟩
  obtain ⟨_, cs, t, hc⟩ := hb'
  exact ⟨cs, t, carry hb hc⟩

/-- Nothing hangs but what is there. -/
theorem TPar.tight {w : World} {par : Nat → Nat × Nat} {R i : Nat} {t : Tr} {v : Value} (h : TPar w par (R, i) t v) : ∃ par', TPar w par' (R, i) t v ∧ ∀ b, Hang par' (R, i) b → Rg (R + 1) w.heap.size b := by
  refine ⟨fun b => if b < w.heap.size then par b else (b, 0), h.par_ fun b hb => if_pos hb, fun b hb => ⟨by have := hb.gt; simp at this; omega, ?_⟩⟩
  cases hb with
  | root _ e hlt =>
    by_cases hb : b < w.heap.size
    · exact hb
    · rw [if_neg hb] at e
      injection e with e1 e2
      simp at hlt
      omega
  | step _ g j e hlt hh =>
    by_cases hb : b < w.heap.size
    · exact hb
    · rw [if_neg hb] at e
      injection e with e1 e2
      omega

/-- Marks on a value whose lists lie apart. -/
theorem markSep (t : Tr) (v : Value) (m : Int) (hm0 : 1 ≤ m) (hm1 : m + 7 * itm t ≤ 100000000000) (w : World) (par : Nat → Nat × Nat) (R i lo hi : Nat) (h : TPar w par (R, i) t v) (hr : ∀ b, Hang par (R, i) b → Rg lo hi b) :
    Calls Tryz.prog 34 #[v, .int .i64 m] w (fun e w' => e = .returned (.int .i64 (m + 7 * itm t)) ∧ TPar w' par (R, i) (mkI m t) v ∧ Fr (Rg lo hi) w w') := by
  obtain ⟨k, n, s, x, ks, vs⟩ := t
  obtain ⟨A, c, rfl, hk, hl, hcap, hblk⟩ := h.out
  rw [itm] at hm1 ⊢
  rw [mkI]
  have M := markItems (.mk k n s x ks vs) k n s x ks vs rfl k n s x ks m hm0 hm1
  obtain ⟨L, HL⟩ : ∃ L, Hid (L = vs.length) := ⟨_, Lib.hid rfl⟩
  obtain ⟨Q, HQ⟩ : ∃ Q : Int, Hid (m + 7 * cnts vs = Q) := ⟨_, Lib.hid rfl⟩
  rw [HQ.out] at M ⊢
  have HH := Lib.hid h
  have HR := Lib.hid hr
  have HM := Lib.hid M
  have hsz : R < w.heap.size ∨ vs.length = 0 := by
    rcases Nat.eq_zero_or_pos vs.length with h0 | h0
    · exact .inr h0
    · obtain ⟨g, -, -, h2, arr, h3, -⟩ := hblk h0
      exact .inl (Nat.lt_trans (by simpa using h2) (Array.getElem?_eq_some_iff.1 h3).1)
  rw [← HL.out]
  clear h hr M hblk hl hcap hk hsz
  go_enter Tryz.func34, Tryz.ntmps34
  go_wp2_with (fail)
  have M2 := HM.out _ par (R, i) A c (HH.out.keep (w' := w.alloc (.cells #[.int .i64 k, .int .i64 n, .string s, .int .i64 x, .slice A vs.length c] IV)) fun b _ hb => (b1 w _).block b hb)
  rw [← HL.out] at M2
  refine M2.mono ?_
  rintro e w1 ⟨rfl, ht1, hf1⟩
  have HT1 := Lib.hid ht1
  have HF1 := Lib.hid hf1
  clear ht1 hf1 M2
  go_wp2_with (fail)
  go_ret
  exact ⟨rfl, HT1.out, (Fr.of (b1 w _)).trans (HF1.out.mono HR.out)⟩

theorem heldSep (t : Tr) (v : Value) (m : Int) (hm0 : 1 ≤ m) (hm1 : m + 7 * itm t ≤ 100000000000) (w : World) (S : Nat → Prop) (h : TIn w S (mkI m t) v) :
    Calls Tryz.prog 43 #[v, .int .i64 m] w (GivesQ w (.int .i64 (m + 7 * itm t))) := by
  obtain ⟨k, n, s, x, ks, vs⟩ := t
  rw [mkI] at h
  obtain ⟨A, c, rfl, hk, hin⟩ := h.out
  rw [itm] at hm1 ⊢
  have M := fun w h => heldItems (.mk k n s x ks vs) k n s x ks vs rfl m hm0 hm1 w S A c h
  obtain ⟨L, HL⟩ : ∃ L, Hid (L = vs.length) := ⟨_, Lib.hid rfl⟩
  obtain ⟨Q, HQ⟩ : ∃ Q : Int, Hid (m + 7 * cnts vs = Q) := ⟨_, Lib.hid rfl⟩
  have hQ : 0 ≤ Q := by rw [← HQ.out]; omega
  rw [HQ.out, ← HL.out] at M
  rw [HQ.out, mkV_len, ← HL.out]
  have HI := Lib.hid hin
  clear h hin hk
  go_enter Tryz.func43, Tryz.ntmps43
  go_wp2_with (fail)
  refine (M _ (HI.out.below (b1 _ _))).mono ?_
  rintro e w1 ⟨rfl, hb1⟩
  have HB := Lib.hid hb1
  clear hb1
  go_wp2_with (fail)
  go_ret
  exact ⟨rfl, bs (b1 _ _) HB.out⟩

end Go.Proofs.YtbgffmiffmmohaaGreatDoor.tree

