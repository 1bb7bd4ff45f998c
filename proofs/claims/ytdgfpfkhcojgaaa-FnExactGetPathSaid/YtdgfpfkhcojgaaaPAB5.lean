/-
  What the texts behind this one use: 6 parts of one proof.
  Conditions: those that each theorem names.
-/
import Derived.Test.YtdgfpfkhcojgaaaPASLawBox
import Derived.Test.YtdgfpfkhcojgaaaPASGetK
import Derived.Deep.CutBlock
import Derived.Deep.DeepCutAuto
import Derived.Test.YtdgfpfkhcojgaaaPAB4
import Derived.Test.YtdgfpfkhcojgaaaPASCopyS
import Derived.Deep.RegionHeld3
/-
  The answer of a call in a variable of its own, whenever a region that draws its order makes that variable.
  Conditions: those that each theorem names.
-/
namespace Go.Proofs.Ytdgfpfkhcojgaaa.tree
open Go.ChangeShapes Go.WideShapes Go.ChangeAt Go.RowKit
set_option linter.unusedVariables false

/-- The model's answer in a box. -/
def CutM (w1 : World) (bb : Bool) (K N : Int) (Z : ByteArray) (X : Int) (RL : Nat) (RT : Tr) (p f : Value) (wx : World) : Prop :=
  ∃ B A c, p = .pointer (some ⟨B, 0, none⟩) ∧ f = .bool bb ∧ Below w1.heap.size w1 wx ∧ w1.heap.size ≤ B ∧ wx.heap[B]? = some (.cells #[.int .i64 K, .int .i64 N, .string Z, .int .i64 X, .slice A RL c] IV (0, 0)) ∧ TIn wx (fun b => b ≠ B) RT (vV K N Z X A RL c)
/-- The project's answer in a box. -/
def CutP (w1 : World) (bb : Bool) (K N : Int) (Z : ByteArray) (X : Int) (RL : Nat) (RT : Tr) (p f : Value) (wx : World) : Prop :=
  ∃ B A c par r, p = .pointer (some ⟨B, 0, none⟩) ∧ f = .bool bb ∧ Below w1.heap.size w1 wx ∧ w1.heap.size ≤ B ∧ wx.heap[B]? = some (.cells #[.int .i64 K, .int .i64 N, .string Z, .int .i64 X, .slice A RL c] IV (0, 0)) ∧ TPar wx par (r, 0) RT (vV K N Z X A RL c) ∧ w1.heap.size ≤ r ∧ ∃ hi, (∀ b, Hang par (r, 0) b → Rg (r + 1) hi b) ∧ hi ≤ wx.heap.size ∧ (B ≤ r ∨ hi ≤ B)

section
variable {w1 n wF : World} {bb : Bool} {K N X : Int} {Z : ByteArray} {RL c B : Nat} {RT : Tr} {A : Option Addr} {S : Nat → Prop}
theorem cutM_early (hw : Below w1.heap.size w1 n) (hB : w1.heap.size ≤ B) (ez : n.heap[B]? = some (.cells #[.int .i64 0, .int .i64 0, .string ⟨#[]⟩, .int .i64 0, .slice none 0 0] IV (0, 0))) (hv : TIn n S RT (vV K N Z X A RL c)) (hS : ∀ q, S q → q ≠ B)
    (hF : (((((n.setCell ⟨B, 0, none⟩ (.int .i64 K)).setCell ⟨B, 1, none⟩ (.int .i64 N)).setCell ⟨B, 2, none⟩ (.string Z)).setCell ⟨B, 3, none⟩ (.int .i64 X)).setCell ⟨B, 4, none⟩ (.slice A RL c)) = wF) :
    CutM w1 bb K N Z X RL RT (.pointer (some ⟨B, 0, none⟩)) (.bool bb) wF := by
  obtain ⟨-, oF, bF⟩ := fill5 ez hF
  have eF : wF.heap[B]? = some (.cells #[.int .i64 K, .int .i64 N, .string Z, .int .i64 X, .slice A RL c] IV (0, 0)) := by
    rw [← hF]
    have := set_heap (set_heap (set_heap (set_heap (set_heap ez 0 (.int .i64 K)) 1 (.int .i64 N)) 2 (.string Z)) 3 (.int .i64 X)) 4 (.slice A RL c)
    simpa using this
  exact ⟨B, A, c, rfl, rfl, bF _ _ hB hw, hB, eF, hv.stays hS fun b hb _ => oF b (hS b hb)⟩
theorem cutM_last (hw : Below w1.heap.size w1 n) (hv : TIn n S RT (vV K N Z X A RL c))
    (hF : ((((((n.alloc (.cells #[.int .i64 0, .int .i64 0, .string ⟨#[]⟩, .int .i64 0, .slice none 0 0] IV)).setCell ⟨n.heap.size, 0, none⟩ (.int .i64 K)).setCell ⟨n.heap.size, 1, none⟩ (.int .i64 N)).setCell ⟨n.heap.size, 2, none⟩ (.string Z)).setCell ⟨n.heap.size, 3, none⟩ (.int .i64 X)).setCell ⟨n.heap.size, 4, none⟩ (.slice A RL c)) = wF) :
    CutM w1 bb K N Z X RL RT (.pointer (some ⟨n.heap.size, 0, none⟩)) (.bool bb) wF := by
  refine cutM_early (S := fun b => b < n.heap.size) (bs hw (b1 n _)) hw.size (heap_alloc_new n _) (hv.lt'.below' (b1 n _)) (fun q hq e => ?_) hF
  have hq' : q < n.heap.size := hq
  omega
theorem cutP_early {par : Nat → Nat × Nat} {r : Nat} (hw : Below w1.heap.size w1 n) (hB : w1.heap.size ≤ B) (ez : n.heap[B]? = some (.cells #[.int .i64 0, .int .i64 0, .string ⟨#[]⟩, .int .i64 0, .slice none 0 0] IV (0, 0))) (hv : TPar n par (r, 0) RT (vV K N Z X A RL c)) (hr : B ≤ r)
    (hF : (((((n.setCell ⟨B, 0, none⟩ (.int .i64 K)).setCell ⟨B, 1, none⟩ (.int .i64 N)).setCell ⟨B, 2, none⟩ (.string Z)).setCell ⟨B, 3, none⟩ (.int .i64 X)).setCell ⟨B, 4, none⟩ (.slice A RL c)) = wF) :
    CutP w1 bb K N Z X RL RT (.pointer (some ⟨B, 0, none⟩)) (.bool bb) wF := by
  obtain ⟨-, oF, bF⟩ := fill5 ez hF
  have eF : wF.heap[B]? = some (.cells #[.int .i64 K, .int .i64 N, .string Z, .int .i64 X, .slice A RL c] IV (0, 0)) := by
    rw [← hF]
    have := set_heap (set_heap (set_heap (set_heap (set_heap ez 0 (.int .i64 K)) 1 (.int .i64 N)) 2 (.string Z)) 3 (.int .i64 X)) 4 (.slice A RL c)
    simpa using this
  obtain ⟨p2, h2, h3⟩ := hv.tight
  have hz : wF.heap.size = n.heap.size := by rw [← hF]; simp []
  exact ⟨B, A, c, p2, r, rfl, rfl, bF _ _ hB hw, hB, eF, h2.above fun b hb _ => oF b (by simp at hb; omega), Nat.le_trans hB hr, n.heap.size, h3, by rw [hz]; exact Nat.le_refl _, .inl hr⟩
theorem cutP_last {par : Nat → Nat × Nat} {r : Nat} (hw : Below w1.heap.size w1 n) (hv : TPar n par (r, 0) RT (vV K N Z X A RL c)) (hr : w1.heap.size ≤ r)
    (hF : ((((((n.alloc (.cells #[.int .i64 0, .int .i64 0, .string ⟨#[]⟩, .int .i64 0, .slice none 0 0] IV)).setCell ⟨n.heap.size, 0, none⟩ (.int .i64 K)).setCell ⟨n.heap.size, 1, none⟩ (.int .i64 N)).setCell ⟨n.heap.size, 2, none⟩ (.string Z)).setCell ⟨n.heap.size, 3, none⟩ (.int .i64 X)).setCell ⟨n.heap.size, 4, none⟩ (.slice A RL c)) = wF) :
    CutP w1 bb K N Z X RL RT (.pointer (some ⟨n.heap.size, 0, none⟩)) (.bool bb) wF := by
  obtain ⟨en, hbx, hz⟩ := newbox hF
  obtain ⟨p2, h2, h3⟩ := hv.tight
  exact ⟨n.heap.size, A, c, p2, r, rfl, rfl, bs hw hbx, hw.size, en, h2.above fun b _ hl => hbx.block b hl, hr, n.heap.size, h3, by omega, .inr (Nat.le_refl _)⟩
theorem cutM_box (hw : Below w1.heap.size w1 n) (hv : TIn n S RT (vV K N Z X A RL c)) :
    CutM w1 bb K N Z X RL RT (.pointer (some ⟨n.heap.size, 0, none⟩)) (.bool bb) (n.alloc (.cells #[.int .i64 K, .int .i64 N, .string Z, .int .i64 X, .slice A RL c] IV)) := by
  refine ⟨n.heap.size, A, c, rfl, rfl, bs hw (b1 n _), hw.size, heap_alloc_new n _, ((hv.lt'.below' (b1 n _)).stays (fun q hq e => ?_) (fun _ _ _ => rfl))⟩
  have hq' : q < n.heap.size := hq
  omega
theorem cutP_box {par : Nat → Nat × Nat} {r : Nat} (hw : Below w1.heap.size w1 n) (hv : TPar n par (r, 0) RT (vV K N Z X A RL c)) (hr : w1.heap.size ≤ r) :
    CutP w1 bb K N Z X RL RT (.pointer (some ⟨n.heap.size, 0, none⟩)) (.bool bb) (n.alloc (.cells #[.int .i64 K, .int .i64 N, .string Z, .int .i64 X, .slice A RL c] IV)) := by
  obtain ⟨p2, h2, h3⟩ := hv.tight
  exact ⟨n.heap.size, A, c, p2, r, rfl, rfl, bs hw (b1 n _), hw.size, heap_alloc_new n _, h2.above fun b _ hl => (b1 n _).block b hl, hr, n.heap.size, h3, (b1 n _).size, .inr (Nat.le_refl _)⟩
end

end Go.Proofs.Ytdgfpfkhcojgaaa.tree

/-
  The answer of a look at a key in a variable of its own, whenever a region that draws its order makes that variable; what lies below a place.
  Conditions: those that each theorem names.
-/
namespace Go.Proofs.Ytdgfpfkhcojgaaa.tree
open Go.ChangeShapes Go.WideShapes Go.ChangeAt Go.RowKit
set_option linter.unusedVariables false

/-- What a value's blocks are, and that they were there. -/
theorem TIn.sub {w : World} {S : Nat → Prop} {t : Tr} {v : Value} (h : TIn w S t v) : TIn w (fun b => S b ∧ b < w.heap.size) t v := by
  induction h with
  | mk k n s x ks vs A cap C hk hl hm hcap hc ht ih =>
    refine TIn.mk k n s x ks vs A _ C hk hl hm hcap (fun i hi => ?_) ih
    obtain ⟨a, ha, hS, hky, hs, hj⟩ := hc i hi
    refine ⟨a, ha, ⟨hS, ?_⟩, hky, hs, hj⟩
    have := World.block_lt_of_cell? _ _ hky.1
    rwa [mem.add_block] at this
/-- Below lo nothing has changed. -/
theorem TIn.own {w w' : World} {lo : Nat} {S : Nat → Prop} {t : Tr} {v : Value} (h : TIn w (fun b => S b ∧ b < lo) t v) (hb : ∀ b, b < lo → w'.heap[b]? = w.heap[b]?) : TIn w' (fun b => S b ∧ b < lo) t v := h.stays (fun _ h => h) (fun b hs _ => hb b hs.2)

/-- The answer in a box. -/
def CutS (w1 : World) (S : Nat → Prop) (bb : Bool) (K N : Int) (Z : ByteArray) (X : Int) (RL : Nat) (RT : Tr) (p f : Value) (wx : World) : Prop :=
  ∃ B A c, p = .pointer (some ⟨B, 0, none⟩) ∧ f = .bool bb ∧ Below w1.heap.size w1 wx ∧ w1.heap.size ≤ B ∧ wx.heap[B]? = some (.cells #[.int .i64 K, .int .i64 N, .string Z, .int .i64 X, .slice A RL c] IV (0, 0)) ∧ TIn wx S RT (vV K N Z X A RL c)
section
variable {w1 n wF : World} {bb : Bool} {K N X : Int} {Z : ByteArray} {RL c B : Nat} {RT : Tr} {A : Option Addr} {S : Nat → Prop}
theorem cutS_early (hw : Below w1.heap.size w1 n) (hB : w1.heap.size ≤ B) (ez : n.heap[B]? = some (.cells #[.int .i64 0, .int .i64 0, .string ⟨#[]⟩, .int .i64 0, .slice none 0 0] IV (0, 0))) (hv : TIn n S RT (vV K N Z X A RL c)) (hS : ∀ q, S q → q ≠ B)
    (hF : (((((n.setCell ⟨B, 0, none⟩ (.int .i64 K)).setCell ⟨B, 1, none⟩ (.int .i64 N)).setCell ⟨B, 2, none⟩ (.string Z)).setCell ⟨B, 3, none⟩ (.int .i64 X)).setCell ⟨B, 4, none⟩ (.slice A RL c)) = wF) :
    CutS w1 S bb K N Z X RL RT (.pointer (some ⟨B, 0, none⟩)) (.bool bb) wF := by
  obtain ⟨-, oF, bF⟩ := fill5 ez hF
  have eF : wF.heap[B]? = some (.cells #[.int .i64 K, .int .i64 N, .string Z, .int .i64 X, .slice A RL c] IV (0, 0)) := by
    rw [← hF]
    have := set_heap (set_heap (set_heap (set_heap (set_heap ez 0 (.int .i64 K)) 1 (.int .i64 N)) 2 (.string Z)) 3 (.int .i64 X)) 4 (.slice A RL c)
    simpa using this
  exact ⟨B, A, c, rfl, rfl, bF _ _ hB hw, hB, eF, hv.stays (fun _ h => h) fun b hb _ => oF b (hS b hb)⟩
theorem cutS_box (hw : Below w1.heap.size w1 n) (hv : TIn n S RT (vV K N Z X A RL c)) :
    CutS w1 S bb K N Z X RL RT (.pointer (some ⟨n.heap.size, 0, none⟩)) (.bool bb) (n.alloc (.cells #[.int .i64 K, .int .i64 N, .string Z, .int .i64 X, .slice A RL c] IV)) :=
  ⟨n.heap.size, A, c, rfl, rfl, bs hw (b1 n _), hw.size, heap_alloc_new n _, hv.below' (b1 n _)⟩
end

end Go.Proofs.Ytdgfpfkhcojgaaa.tree

/-
  What stands at the end of a path, of the project.
  Conditions: those that each theorem names.
-/
namespace Go.Proofs.Ytdgfpfkhcojgaaa.tree
open Go.ChangeShapes Go.WideShapes Go.ChangeAt Go.RowKit
set_option linter.unusedVariables false

theorem drop_cons' {α : Type} {ys : List α} {j : Nat} {y : α} (h : ys[j]? = some y) : ys.drop j = y :: ys.drop (j + 1) := by
  obtain ⟨hj, rfl⟩ := List.getElem?_eq_some_iff.1 h
  exact List.drop_eq_getElem_cons hj

set_option maxRecDepth 100000 in
set_option maxHeartbeats 1600000 in
theorem valueAt_i (t : Tr) (ys : List Ky) (v : Value) (A : Option Addr) (c : Nat) (w : World) (S : Nat → Prop) (h : TIn w S t v) (hk : KIn w ys A) (hm : ys.length ≤ maxLen) : Calls Try.prog 24 #[v, .slice A ys.length c] w (OutT w (gp t ys).1 (gp t ys).2 S) := by
  obtain ⟨k, n, s, x, ks, vs⟩ := t
  obtain ⟨A0, c0, rfl, -, -⟩ := h.out
  obtain ⟨Q, b, HG⟩ : ∃ Q b, Hid (gp (.mk k n s x ks vs) ys = (Q, b)) := ⟨_, _, Lib.hid rfl⟩
  rw [HG.out]
  show Calls _ _ _ _ (OutT w Q b S)
  obtain ⟨L, HL⟩ : ∃ L, Hid (ys.length = L) := ⟨_, Lib.hid rfl⟩
  obtain ⟨L0, HL0⟩ : ∃ L, Hid (vs.length = L) := ⟨_, Lib.hid rfl⟩
  rw [HL.out] at hm ⊢
  rw [HL0.out] at h ⊢
  unfold maxLen at hm
  have HT := Lib.hid h
  have HK := Lib.hid hk
  have HNU := Lib.hid nullValue_i
  clear h hk
  go_enter Try.func24, Try.ntmps24
  go_wp2_with (fail)
  go_loopg [11] (L + 1) (fun gk i wr => ∃ (j : Nat) (k n : Int) (s : ByteArray) (x : Int) (ks : List Ky) (vs : List Tr) (A1 : Option Addr) (L1 c1 : Nat), i = .int .i64 j ∧ gk + j = L + 1 ∧ j ≤ L ∧ Hid (gp (.mk k n s x ks vs) (ys.drop j) = (Q, b)) ∧ Hid (vs.length = L1) ∧ Hid (TIn w S (.mk k n s x ks vs) (vV k n s x A1 L1 c1)) ∧
    Hid (wr.heap[w.heap.size]? = some (.cells #[.int .i64 k, .int .i64 n, .string s, .int .i64 x, .slice A1 L1 c1] IV (0, 0))) ∧ Hid (wr.heap[w.heap.size + 1]? = some (.cells #[.int .i64 0, .int .i64 0, .string ⟨#[]⟩, .int .i64 0, .slice none 0 0] IV (0, 0))) ∧ Below w.heap.size w wr)
  case atStart => exact ⟨0, k, n, s, x, ks, vs, A0, L0, c0, rfl, by omega, by omega, by rw [List.drop_zero]; exact HG, HL0, HT, Lib.hid (heap_alloc2_old w _ _), Lib.hid (heap_alloc2_new w _ _), b2 _ _ _⟩
  case round =>
    clear HT HL0 HG
    obtain ⟨j, k, n, s, x, ks, vs, A1, L1, c1, rfl, hgj, hjL, HG, HL1, HT, HE, HZ, hb⟩ := hrel
    have HB := Lib.hid hb
    clear hb
    obtain ⟨e0, f0⟩ := rowc HE.out
    obtain ⟨ez, fz⟩ := rowc HZ.out
    by_cases hlt : j < L
    · obtain ⟨y, hy⟩ : ∃ y, ys[j]? = some y := ⟨_, List.getElem?_eq_getElem (by rw [HL.out]; exact hlt)⟩
      have hg := HG.out
      rw [drop_cons' hy, gp_cons] at hg
      obtain ⟨a, rfl, hyb, p0, p1, p2⟩ := HK.out.below HB.out j y hy
      have FI := fun w' (h : TIn w' S (.mk k n s x ks vs) (vV k n s x A1 L1 c1)) => findKey_i (.mk k n s x ks vs) (vV k n s x A1 L1 c1) y w' S h
      unfold kyV at FI
      have HYS := Lib.hid hy
      have ea : ∀ o j, (wr.alloc o).cell? ⟨w.heap.size, j, none⟩ = _ := fun o j => (rowc (keepAlloc HE.out)).1 j
      rcases posV_cases k n s x ks vs y with hp | ⟨i, hp, hi, rfl⟩
      · have eb : getB (.mk k n s x ks vs) y = false := by unfold getB; rw [getT_none hp]; rfl
        rw [if_neg (by rw [eb]; decide)] at hg
        obtain ⟨rfl, rfl⟩ : nullT = Q ∧ false = b := by simpa using hg
        rw [hp] at FI
        have HF := Lib.hid FI
        clear FI hp eb hg hy hyb
        go_wp2_with (fail)
        refine (HF.out _ (HT.out.below' (bs HB.out (b1 _ _)))).mono ?_
        rintro e w1 ⟨rfl, hb1⟩
        have HB1 := Lib.hid (bs (bs HB.out (b1 _ _)) hb1)
        have HZ1 := Lib.hid (carry (bs (b1 _ _) hb1) HZ.out)
        clear hb1
        go_wp2_with (fail)
        refine (HNU.out _).mono ?_
        rintro e w2 ⟨rfl, hb2⟩
        have HB2 := Lib.hid (bs HB1.out hb2)
        have HZ2 := Lib.hid (carry hb2 HZ1.out)
        obtain ⟨r2, g2⟩ := rowc HZ2.out
        clear hb2
        go_wp2_with (fail)
        generalize hwF : (((((w2.setCell ⟨w.heap.size + 1, 0, none⟩ (.int .i64 0)).setCell ⟨w.heap.size + 1, 1, none⟩ (.int .i64 0)).setCell ⟨w.heap.size + 1, 2, none⟩ (.string ⟨#[]⟩)).setCell ⟨w.heap.size + 1, 3, none⟩ (.int .i64 0)).setCell ⟨w.heap.size + 1, 4, none⟩ (.slice none 0 0)) = wF
        obtain ⟨rF, -, bF⟩ := fill5 HZ2.out hwF
        refine bodyPost_ret (v := .tuple #[vV 0 0 ⟨#[]⟩ 0 none 0 0, .bool false]) ?_ rfl ?_
        · simp [results, Try.results24, go_sem, rF]
        · exact ⟨_, rfl, flat ⟨by unfold I64; omega, by unfold I64; omega, by unfold I64; omega, Nat.zero_le _⟩ _ _ none 0 (Nat.zero_le _), bF _ _ (by omega) HB2.out⟩
      · obtain ⟨A1', c1', e', -, hin⟩ := HT.out.out
        rw [HL1.out] at e'
        unfold vV at e'
        obtain ⟨rfl, rfl⟩ : A1 = A1' ∧ c1 = c1' := by simpa using e'
        have hkl : ks.length = vs.length := hin.1
        obtain ⟨a2, y1, k1, n1, s1, x1, ks1, vs1, A2, c2, rfl, hS, hky, hvs, htin, hyb1, hkb, hin1, hcell⟩ := hin.item (i := i) (by omega)
        have hin2 := (hin.below HB.out)
        have eb : getB (.mk 4 n s x ks vs) y = true := by unfold getB; rw [getT_some hp, hvs]; rfl
        have er : getR (.mk 4 n s x ks vs) y = .mk k1 n1 s1 x1 ks1 vs1 := by unfold getR; rw [getT_some hp, hvs]; rfl
        rw [if_pos eb, er] at hg
        rw [hp] at FI
        have HF := Lib.hid FI
        have hiL : i < L1 := by rw [← HL1.out]; omega
        have hLm : L1 ≤ maxLen := by rw [← HL1.out]; exact hin.2.1
        unfold maxLen at hLm
        obtain ⟨L2, HL2⟩ : ∃ L, Hid (vs1.length = L) := ⟨_, Lib.hid rfl⟩
        rw [HL2.out] at htin hcell
        have HT2 := Lib.hid htin
        have HC2 := Lib.hid hcell
        have HG2 := Lib.hid hg
        clear FI hp eb er hg hy hyb hin hin2 hkl hky hvs htin hyb1 hkb hin1 hcell hS hi e'
        go_wp2_with (fail)
        refine (HF.out _ (HT.out.below' (bs HB.out (b1 _ _)))).mono ?_
        rintro e w1 ⟨rfl, hb1⟩
        have HB1 := Lib.hid (bs (bs HB.out (b1 _ _)) hb1)
        have HZ1 := Lib.hid (carry (bs (b1 _ _) hb1) HZ.out)
        have HE1 := Lib.hid (carry (bs (b1 _ _) hb1) HE.out)
        obtain ⟨q0, q1, q2, q3, q4, q5, q6, q7⟩ := HC2.out.below HB1.out
        obtain ⟨r1, g1⟩ := rowc HE1.out
        clear hb1
        go_wp2_with (fail)
        generalize hwF : (((((w1.setCell ⟨w.heap.size, 0, none⟩ (.int .i64 k1)).setCell ⟨w.heap.size, 1, none⟩ (.int .i64 n1)).setCell ⟨w.heap.size, 2, none⟩ (.string s1)).setCell ⟨w.heap.size, 3, none⟩ (.int .i64 x1)).setCell ⟨w.heap.size, 4, none⟩ (.slice A2 L2 c2)) = wF
        obtain ⟨-, oF, bF⟩ := fill5 HE1.out hwF
        have eF : wF.heap[w.heap.size]? = some (.cells #[.int .i64 k1, .int .i64 n1, .string s1, .int .i64 x1, .slice A2 L2 c2] IV (0, 0)) := by
          rw [← hwF]
          have := set_heap (set_heap (set_heap (set_heap (set_heap HE1.out 0 (.int .i64 k1)) 1 (.int .i64 n1)) 2 (.string s1)) 3 (.int .i64 x1)) 4 (.slice A2 L2 c2)
          simpa using this
        go_roundg (L - j)
        case rel => exact ⟨j + 1, k1, n1, s1, x1, ks1, vs1, A2, L2, c2, by go_num, by omega, by omega, HG2, HL2, HT2, Lib.hid eF, Lib.hid ((oF _ (by omega)).trans HZ1.out), bF _ _ (Nat.le_refl _) HB1.out⟩
        case measure => omega
    · obtain rfl : j = L := by omega
      have hg := HG.out
      rw [show ys.drop j = [] from List.drop_eq_nil_of_le (Nat.le_of_eq HL.out)] at hg
      obtain ⟨rfl, rfl⟩ : .mk k n s x ks vs = Q ∧ true = b := by simpa [gp] using hg
      clear hg
      go_wp2_with (fail)
      generalize hwF : (((((wr.setCell ⟨w.heap.size + 1, 0, none⟩ (.int .i64 k)).setCell ⟨w.heap.size + 1, 1, none⟩ (.int .i64 n)).setCell ⟨w.heap.size + 1, 2, none⟩ (.string s)).setCell ⟨w.heap.size + 1, 3, none⟩ (.int .i64 x)).setCell ⟨w.heap.size + 1, 4, none⟩ (.slice A1 L1 c1)) = wF
      obtain ⟨rF, oF, bF⟩ := fill5 HZ.out hwF
      refine bodyPost_ret (v := .tuple #[vV k n s x A1 L1 c1, .bool true]) ?_ rfl ?_
      · simp [results, Try.results24, go_sem, rF]
      · have hbF := bF _ _ (by omega) HB.out
        exact ⟨_, rfl, HT.out.below' hbF, hbF⟩

end Go.Proofs.Ytdgfpfkhcojgaaa.tree

/-
  GetPath of the project.
  Conditions: the value at the path's end holds at most 2^20 and one items and 10^9 letters.
-/
namespace Go.Proofs.Ytdgfpfkhcojgaaa.tree
open Go.ChangeShapes Go.WideShapes Go.ChangeAt Go.RowKit
set_option linter.unusedVariables false

set_option maxRecDepth 100000 in
set_option maxHeartbeats 1600000 in
theorem getPath_i (t : Tr) (ys : List Ky) (v : Value) (A : Option Addr) (c : Nat) (w : World) (h : TIn w (Nw 0 w) t v) (hk : KIn w ys A) (hm : ys.length ≤ maxLen) (hN : cnt (gp t ys).1 ≤ 1048578) (hT : tot (gp t ys).1 ≤ 1000000000) : Calls Try.prog 10 #[v, .slice A ys.length c] w (OutI w (gp t ys).1 (gp t ys).2) := by
  have VA : Hid (∀ w', Below w.heap.size w w' → Calls Try.prog 24 #[v, .slice A ys.length c] w' (OutT w' (gp t ys).1 (gp t ys).2 (Nw 0 w'))) := Lib.hid fun w' hb => valueAt_i t ys v A c w' _ (h.nwb hb) (hk.below hb) hm
  obtain ⟨Q, hQ⟩ : ∃ Q, Q = gp t ys := ⟨_, rfl⟩
  rw [← hQ] at VA hN hT ⊢
  obtain ⟨⟨K, N, Z, X, RK, RV⟩, b⟩ := Q
  simp only at VA hN hT ⊢
  have HN := Lib.hid hN
  have HT := Lib.hid hT
  obtain ⟨RL, HRL⟩ : ∃ L, Hid (L = RV.length) := ⟨_, Lib.hid rfl⟩
  obtain ⟨k, n, s, x, ks, vs⟩ := t
  obtain ⟨A0, c0, rfl, -, -⟩ := h.out
  obtain ⟨L0, HL0⟩ : ∃ L, Hid (vs.length = L) := ⟨_, Lib.hid rfl⟩
  rw [HL0.out] at VA ⊢
  obtain ⟨L, HL⟩ : ∃ L, Hid (ys.length = L) := ⟨_, Lib.hid rfl⟩
  rw [HL.out] at VA ⊢
  clear h hk hm hN hT hQ
  go_enter Try.func10, Try.ntmps10
  go_wp2_with (fail)
  refine (VA.out _ (b2 _ _ _)).mono ?_
  rintro e w1 ⟨u, rfl, hu, hb1⟩
  obtain ⟨A1, c1, rfl, -, -⟩ := hu.out
  rw [← HRL.out]
  have HU := Lib.hid (show TIn w1 (Nw 0 w1) (.mk K N Z X RK RV) (vV K N Z X A1 RL c1) by rw [HRL.out]; exact hu.stays (fun b hb => hb.keep (Nat.le_refl _) (hb1.block b hb.2.lt)) (fun _ _ _ => rfl))
  have HZ1 := Lib.hid (carry hb1 (heap_alloc2_new w _ _))
  have HB1 := Lib.hid (bs (b2 w _ _) hb1)
  clear hu hb1 VA
  go_wp2_with (fail)
  have CV := copyValue (.mk K N Z X RK RV) (vV K N Z X A1 RL c1) _ 0 (HU.out.nwb (b1 w1 (.cells #[.int .i64 K, .int .i64 N, .string Z, .int .i64 X, .slice A1 RL c1] IV))) HN.out HT.out
  refine CV.mono ?_
  rintro e w2 ⟨u, par, R, rfl, hu, hR, hb2⟩
  obtain ⟨A3, c3, rfl, -⟩ := hu.out
  have HU2 := Lib.hid hu
  have HR := Lib.hid (Nat.le_trans (b1 w1 (.cells #[.int .i64 K, .int .i64 N, .string Z, .int .i64 X, .slice A1 RL c1] IV)).size hR)
  have HZ2 := Lib.hid (carry hb2 (keepAlloc HZ1.out))
  have HB2 := Lib.hid (bs HB1.out (bs (b1 w1 _) hb2))
  rw [← HRL.out] at HU2 ⊢
  obtain ⟨r, f⟩ := rowc HZ2.out
  clear hu hR hb2 CV
  go_wp2_with (fail)
  generalize hwF : (((((w2.setCell ⟨w.heap.size + 1, 0, none⟩ (.int .i64 K)).setCell ⟨w.heap.size + 1, 1, none⟩ (.int .i64 N)).setCell ⟨w.heap.size + 1, 2, none⟩ (.string Z)).setCell ⟨w.heap.size + 1, 3, none⟩ (.int .i64 X)).setCell ⟨w.heap.size + 1, 4, none⟩ (.slice A3 RL c3)) = wF
  obtain ⟨rF, oF, bF⟩ := fill5 HZ2.out hwF
  refine bodyPost_ret (v := .tuple #[vV K N Z X A3 RL c3, .bool b]) ?_ rfl ?_
  · simp [results, Try.results10, go_sem, rF]
  · have hz : w.heap.size + 1 < w1.heap.size := (Array.getElem?_eq_some_iff.1 HZ1.out).1
    refine ⟨_, par, R, rfl, ?_, Nat.le_trans HB1.out.size HR.out, bF _ _ (by omega) HB2.out⟩
    exact HU2.out.above fun q hq _ => oF q (by have := HR.out; simp at hq; omega)

end Go.Proofs.Ytdgfpfkhcojgaaa.tree

/-
  What stands at the end of a path, and GetPath, of the model.
  Conditions: those that each theorem names.
-/
namespace Go.Proofs.Ytdgfpfkhcojgaaa.tree
open Go.ChangeShapes Go.WideShapes Go.ChangeAt Go.RowKit
set_option linter.unusedVariables false

theorem drop_cons2 {α : Type} {ys : List α} {j : Nat} {y : α} (h : ys[j]? = some y) : ys.drop j = y :: ys.drop (j + 1) := by
  obtain ⟨hj, rfl⟩ := List.getElem?_eq_some_iff.1 h
  exact List.drop_eq_getElem_cons hj

set_option maxRecDepth 100000 in
set_option maxHeartbeats 4000000 in
theorem l12Get_s (t : Tr) (ys : List Ky) (v : Value) (A : Option Addr) (c : Nat) (w : World) (S : Nat → Prop) (h : TIn w S t v) (hk : KIn w ys A) (hm : ys.length ≤ maxLen) : Calls Try.prog 20 #[v, .slice A ys.length c] w (OutT w (gp t ys).1 (gp t ys).2 S) := by
  obtain ⟨k, n, s, x, ks, vs⟩ := t
  obtain ⟨A0, c0, rfl, -, -⟩ := h.out
  obtain ⟨Q, b, HG⟩ : ∃ Q b, Hid (gp (.mk k n s x ks vs) ys = (Q, b)) := ⟨_, _, Lib.hid rfl⟩
  rw [HG.out]
  show Calls _ _ _ _ (OutT w Q b S)
  obtain ⟨L, HL⟩ : ∃ L, Hid (ys.length = L) := ⟨_, Lib.hid rfl⟩
  obtain ⟨L0, HL0⟩ : ∃ L, Hid (vs.length = L) := ⟨_, Lib.hid rfl⟩
  rw [HL.out] at hm ⊢
  rw [HL0.out] at h ⊢
  unfold maxLen at hm
  have HK := Lib.hid hk
  obtain ⟨P, HP⟩ : ∃ P, Hid (P = w.heap.size) := ⟨_, Lib.hid rfl⟩
  obtain ⟨T, HTE⟩ : ∃ T : Nat → Prop, Hid (T = fun b => S b ∧ b < P) := ⟨_, Lib.hid rfl⟩
  have HT : Hid (TIn w T (.mk k n s x ks vs) (vV k n s x A0 L0 c0)) := Lib.hid (by rw [HTE.out, HP.out]; exact h.sub)
  clear h hk
  go_enter Try.func20, Try.ntmps20
  go_wp2_with (fail)
  go_loopg [6] (L + 1) (fun gk i wr => ∃ (j : Nat) (k n : Int) (s : ByteArray) (x : Int) (ks : List Ky) (vs : List Tr) (A1 : Option Addr) (L1 c1 : Nat), i = .int .i64 j ∧ gk + j = L + 1 ∧ j ≤ L ∧ Hid (gp (.mk k n s x ks vs) (ys.drop j) = (Q, b)) ∧ Hid (vs.length = L1) ∧ Hid (TIn wr T (.mk k n s x ks vs) (vV k n s x A1 L1 c1)) ∧
    Hid (wr.heap[w.heap.size]? = some (.cells #[.int .i64 k, .int .i64 n, .string s, .int .i64 x, .slice A1 L1 c1] IV (0, 0))) ∧ Hid (wr.heap[w.heap.size + 1]? = some (.cells #[.int .i64 0, .int .i64 0, .string ⟨#[]⟩, .int .i64 0, .slice none 0 0] IV (0, 0))) ∧ Below w.heap.size w wr)
  case atStart => exact ⟨0, k, n, s, x, ks, vs, A0, L0, c0, rfl, by omega, by omega, by rw [List.drop_zero]; exact HG, HL0, Lib.hid (HT.out.below' (b2 _ _ _)), Lib.hid (heap_alloc2_old w _ _), Lib.hid (heap_alloc2_new w _ _), b2 _ _ _⟩
  case round =>
    clear HT HL0 HG
    obtain ⟨j, k, n, s, x, ks, vs, A1, L1, c1, rfl, hgj, hjL, HG, HL1, HT, HE, HZ, hb⟩ := hrel
    have HB := Lib.hid hb
    clear hb
    by_cases hlt : j < L
    · obtain ⟨y, hy⟩ : ∃ y, ys[j]? = some y := ⟨_, List.getElem?_eq_getElem (by rw [HL.out]; exact hlt)⟩
      have hg := HG.out
      rw [drop_cons2 hy, gp_cons] at hg
      obtain ⟨a, rfl, hyb, hat3⟩ := HK.out.below HB.out j y hy
      have HA3 := Lib.hid hat3
      obtain ⟨p0, p1, p2⟩ := hat3
      obtain ⟨RT, HRT⟩ : ∃ RT, Hid (RT = getR (.mk k n s x ks vs) y) := ⟨_, Lib.hid rfl⟩
      obtain ⟨bb, HBB⟩ : ∃ bb, Hid (bb = getB (.mk k n s x ks vs) y) := ⟨_, Lib.hid rfl⟩
      have L6 : Hid (∀ w', Below wr.heap.size wr w' → Calls Try.prog 36 #[vV k n s x A1 L1 c1, kyV y] w' (OutT w' RT bb T)) := Lib.hid fun w' hb => by rw [HRT.out, HBB.out]; exact l6Get_s _ _ y w' T (HT.out.below' hb)
      unfold kyV at L6
      obtain ⟨K, N, Z, X, RK, RV⟩ := RT
      obtain ⟨RL, HRL⟩ : ∃ L, Hid (L = RV.length) := ⟨_, Lib.hid rfl⟩
      obtain ⟨e0, f0⟩ := rowc HE.out
      have c0' := e0 0
      have c1' := e0 1
      have c2' := e0 2
      have c3' := e0 3
      have c4' := e0 4
      simp only [List.getElem?_toArray, List.getElem?_cons_zero, List.getElem?_cons_succ] at c0' c1' c2' c3' c4'
      have HGQ := Lib.hid hg
      clear hy hyb hg e0 f0
      go_wp2_with (fail)
      have nz0 : wr.heap.size ≠ w.heap.size := by have := (Array.getElem?_eq_some_iff.1 HE.out).1; omega
      have nz1 : wr.heap.size ≠ (a.add (j * 3)).block := by have := World.block_lt_of_cell? _ _ p0; omega
      go_cut [7, 8] (fun p f wx => CutS wr T bb K N Z X RL (.mk K N Z X RK RV) p f wx)
      case first =>
        have HW : Hid (Below wr.heap.size wr wr) := Lib.hid (Below.refl _ _)
        go_region_held3 (fun w' => w'.cell? ⟨w.heap.size, 0, none⟩ = some (.int .i64 k) ∧ w'.cell? ⟨w.heap.size, 1, none⟩ = some (.int .i64 n) ∧ w'.cell? ⟨w.heap.size, 2, none⟩ = some (.string s) ∧ w'.cell? ⟨w.heap.size, 3, none⟩ = some (.int .i64 x) ∧ w'.cell? ⟨w.heap.size, 4, none⟩ = some (.slice A1 L1 c1) ∧ w'.cell? (a.add (j * 3)) = some (.bool y.text) ∧ w'.cell? ⟨(a.add (j * 3)).block, (a.add (j * 3)).off + 1, none⟩ = some (.int .i64 y.num) ∧ w'.cell? ⟨(a.add (j * 3)).block, (a.add (j * 3)).off + 2, none⟩ = some (.string y.str)) (go_keep) (first
          | (go_at_call 36
             refine (L6.out _ (by first | exact Below.refl _ _ | exact (Below.refl _ _).drew | exact b1 _ _ | exact bs ((Below.refl _ _).drew) (b1 _ _))).mono ?_
             rintro e w1 ⟨u, rfl, hu, hb⟩
             have hbx : Below wr.heap.size wr w1 := by first | exact hb | exact bs ((Below.refl _ _).drew) hb | exact bs (b1 _ _) hb | exact bs (bs ((Below.refl _ _).drew) (b1 _ _)) hb
             obtain ⟨Am, cm, rfl, -, -⟩ := hu.out
             have HMM := Lib.hid (show TIn w1 T (.mk K N Z X RK RV) (vV K N Z X Am RL cm) by rw [HRL.out]; exact hu)
             rw [← HRL.out]
             replace HW := Lib.hid (bs HW.out hbx)
             first | (have ez := Lib.hid (carry hb (heap_alloc_new wr (.cells #[.int .i64 0, .int .i64 0, .string ⟨#[]⟩, .int .i64 0, .slice none 0 0] IV)))) | (have ez := Lib.hid (carry hb (heap_alloc_new wr.drew (.cells #[.int .i64 0, .int .i64 0, .string ⟨#[]⟩, .int .i64 0, .slice none 0 0] IV)))) | skip
             first | (have zr := (rowc ez.out).1; have zf := (rowc ez.out).2) | skip
             obtain ⟨q0, q1, q2⟩ := HA3.out.below hbx
             have d0 : w1.cell? ⟨w.heap.size, 0, none⟩ = some (.int .i64 k) := (rowc (carry hbx HE.out)).1 0
             have d1 : w1.cell? ⟨w.heap.size, 1, none⟩ = some (.int .i64 n) := (rowc (carry hbx HE.out)).1 1
             have d2 : w1.cell? ⟨w.heap.size, 2, none⟩ = some (.string s) := (rowc (carry hbx HE.out)).1 2
             have d3 : w1.cell? ⟨w.heap.size, 3, none⟩ = some (.int .i64 x) := (rowc (carry hbx HE.out)).1 3
             have d4 : w1.cell? ⟨w.heap.size, 4, none⟩ = some (.slice A1 L1 c1) := (rowc (carry hbx HE.out)).1 4
             have nz2 : w1.heap.size ≠ w.heap.size := by have := hbx.size; have := (Array.getElem?_eq_some_iff.1 HE.out).1; omega
             have nz3 : w1.heap.size ≠ (a.add (j * 3)).block := by have := hbx.size; have := World.block_lt_of_cell? _ _ p0; omega
             clear hu hb hbx))
        all_goals
          go_wp2_with (fail)
          go_meet
          first
          | with_reducible exact cutS_box HW.out HMM.out
          | exact cutS_early HW.out (Nat.le_refl _) ez.out HMM.out (fun q hq e => by rw [HTE.out] at hq; have h1 := hq.2; have h2 := HB.out.size; rw [HP.out] at h1; omega) rfl
      case rest =>
        obtain ⟨B, Am, cm, hp, hf, hbx, hNB, en, hv⟩ := hcut
        subst hp hf
        have HN := Lib.hid en
        have HV := Lib.hid hv
        have HB1 := Lib.hid (bs HB.out hbx)
        have HE1 := Lib.hid (carry hbx HE.out)
        have HZ1 := Lib.hid (carry hbx HZ.out)
        obtain ⟨e1, f1⟩ := rowc HE1.out
        obtain ⟨ez, fz⟩ := rowc HZ1.out
        obtain ⟨en1, fn1⟩ := rowc HN.out
        have HNB : Hid (w.heap.size + 1 < B) := Lib.hid (by have := (Array.getElem?_eq_some_iff.1 HZ.out).1; omega)
        clear en hv hbx hNB L6 p0 p1 p2 c0' c1' c2' c3' c4'
        cases bb with
        | false =>
          have hg := HGQ.out
          rw [← HBB.out, if_neg (by decide)] at hg
          obtain ⟨rfl, rfl⟩ : nullT = Q ∧ false = b := by simpa using hg
          clear hg
          go_wp2_with (fail)
          generalize hwF : (((((wc.setCell ⟨w.heap.size + 1, 0, none⟩ (.int .i64 0)).setCell ⟨w.heap.size + 1, 1, none⟩ (.int .i64 0)).setCell ⟨w.heap.size + 1, 2, none⟩ (.string ⟨#[]⟩)).setCell ⟨w.heap.size + 1, 3, none⟩ (.int .i64 0)).setCell ⟨w.heap.size + 1, 4, none⟩ (.slice none 0 0)) = wF
          obtain ⟨rF, -, bF⟩ := fill5 HZ1.out hwF
          refine bodyPost_ret (v := .tuple #[vV 0 0 ⟨#[]⟩ 0 none 0 0, .bool false]) ?_ rfl ?_
          · simp [results, Try.results20, go_sem, rF]
          · exact ⟨_, rfl, flat ⟨by unfold I64; omega, by unfold I64; omega, by unfold I64; omega, Nat.zero_le _⟩ _ _ none 0 (Nat.zero_le _), bF _ _ (by omega) HB1.out⟩
        | true =>
          have hg := HGQ.out
          rw [← HBB.out, if_pos rfl, ← HRT.out] at hg
          have HG2 := Lib.hid hg
          clear hg
          go_wp2_with (fail)
          generalize hwF : (((((wc.setCell ⟨w.heap.size, 0, none⟩ (.int .i64 K)).setCell ⟨w.heap.size, 1, none⟩ (.int .i64 N)).setCell ⟨w.heap.size, 2, none⟩ (.string Z)).setCell ⟨w.heap.size, 3, none⟩ (.int .i64 X)).setCell ⟨w.heap.size, 4, none⟩ (.slice Am RL cm)) = wF
          obtain ⟨-, oF, bF⟩ := fill5 HE1.out hwF
          have eF : wF.heap[w.heap.size]? = some (.cells #[.int .i64 K, .int .i64 N, .string Z, .int .i64 X, .slice Am RL cm] IV (0, 0)) := by
            rw [← hwF]
            have := set_heap (set_heap (set_heap (set_heap (set_heap HE1.out 0 (.int .i64 K)) 1 (.int .i64 N)) 2 (.string Z)) 3 (.int .i64 X)) 4 (.slice Am RL cm)
            simpa using this
          go_roundg (L - j)
          case rel => exact ⟨j + 1, K, N, Z, X, RK, RV, Am, RL, cm, by go_num, by omega, by omega, HG2, Lib.hid HRL.out.symm, Lib.hid (HV.out.stays (fun _ h => h) (fun q hq _ => oF q (by rw [HTE.out] at hq; have h1 := hq.2; rw [HP.out] at h1; omega))), Lib.hid eF, Lib.hid ((oF _ (by omega)).trans HZ1.out), bF _ _ (Nat.le_refl _) HB1.out⟩
          case measure => omega
    · obtain rfl : j = L := by omega
      have hg := HG.out
      rw [show ys.drop j = [] from List.drop_eq_nil_of_le (Nat.le_of_eq HL.out)] at hg
      obtain ⟨rfl, rfl⟩ : .mk k n s x ks vs = Q ∧ true = b := by simpa [gp] using hg
      clear hg
      obtain ⟨e0, f0⟩ := rowc HE.out
      obtain ⟨ez, fz⟩ := rowc HZ.out
      go_wp2_with (fail)
      generalize hwF : (((((wr.setCell ⟨w.heap.size + 1, 0, none⟩ (.int .i64 k)).setCell ⟨w.heap.size + 1, 1, none⟩ (.int .i64 n)).setCell ⟨w.heap.size + 1, 2, none⟩ (.string s)).setCell ⟨w.heap.size + 1, 3, none⟩ (.int .i64 x)).setCell ⟨w.heap.size + 1, 4, none⟩ (.slice A1 L1 c1)) = wF
      obtain ⟨rF, oF, bF⟩ := fill5 HZ.out hwF
      refine bodyPost_ret (v := .tuple #[vV k n s x A1 L1 c1, .bool true]) ?_ rfl ?_
      · simp [results, Try.results20, go_sem, rF]
      · refine ⟨_, rfl, HT.out.stays (fun q hq => by rw [HTE.out] at hq; exact hq.1) (fun q hq _ => oF q (by rw [HTE.out] at hq; have h1 := hq.2; rw [HP.out] at h1; omega)), bF _ _ (by omega) HB.out⟩

end Go.Proofs.Ytdgfpfkhcojgaaa.tree

/-
  GetPath of the model.
  Conditions: the value at the path's end holds at most 10^9 values.
-/
namespace Go.Proofs.Ytdgfpfkhcojgaaa.tree
open Go.ChangeShapes Go.WideShapes Go.ChangeAt Go.RowKit
set_option linter.unusedVariables false

set_option maxRecDepth 100000 in
set_option maxHeartbeats 1600000 in
theorem getPath_s (t : Tr) (ys : List Ky) (v : Value) (A : Option Addr) (c : Nat) (w : World) (S : Nat → Prop) (h : TIn w S t v) (hk : KIn w ys A) (hm : ys.length ≤ maxLen) (hN : cnt (gp t ys).1 ≤ 1000000000) : Calls Try.prog 7 #[v, .slice A ys.length c] w (OutS w (gp t ys).1 (gp t ys).2) := by
  have VA : Hid (∀ w', Below w.heap.size w w' → Calls Try.prog 20 #[v, .slice A ys.length c] w' (OutT w' (gp t ys).1 (gp t ys).2 S)) := Lib.hid fun w' hb => l12Get_s t ys v A c w' _ (h.below' hb) (hk.below hb) hm
  obtain ⟨Q, hQ⟩ : ∃ Q, Q = gp t ys := ⟨_, rfl⟩
  rw [← hQ] at VA hN ⊢
  obtain ⟨⟨K, N, Z, X, RK, RV⟩, b⟩ := Q
  simp only at VA hN ⊢
  have HN := Lib.hid hN
  obtain ⟨RL, HRL⟩ : ∃ L, Hid (L = RV.length) := ⟨_, Lib.hid rfl⟩
  obtain ⟨k, n, s, x, ks, vs⟩ := t
  obtain ⟨A0, c0, rfl, -, -⟩ := h.out
  obtain ⟨L0, HL0⟩ : ∃ L, Hid (vs.length = L) := ⟨_, Lib.hid rfl⟩
  rw [HL0.out] at VA ⊢
  obtain ⟨L, HL⟩ : ∃ L, Hid (ys.length = L) := ⟨_, Lib.hid rfl⟩
  rw [HL.out] at VA ⊢
  clear h hk hm hN hQ
  go_enter Try.func7, Try.ntmps7
  go_wp2_with (fail)
  refine (VA.out _ (b2 _ _ _)).mono ?_
  rintro e w1 ⟨u, rfl, hu, hb1⟩
  obtain ⟨A1, c1, rfl, -, -⟩ := hu.out
  rw [← HRL.out]
  have HU := Lib.hid (show TIn w1 S (.mk K N Z X RK RV) (vV K N Z X A1 RL c1) by rw [HRL.out]; exact hu)
  have HZ1 := Lib.hid (carry hb1 (heap_alloc2_new w _ _))
  have HB1 := Lib.hid (bs (b2 w _ _) hb1)
  clear hu hb1 VA
  go_wp2_with (fail)
  have CV := l5Copy (.mk K N Z X RK RV) HN.out _ S _ (HU.out.below' (b1 w1 (.cells #[.int .i64 K, .int .i64 N, .string Z, .int .i64 X, .slice A1 RL c1] IV)))
  refine CV.mono ?_
  rintro e w2 ⟨u, rfl, hu, hb2⟩
  obtain ⟨A3, c3, rfl, -, -⟩ := hu.out
  have HU2 := Lib.hid hu
  have HZ2 := Lib.hid (carry hb2 (keepAlloc HZ1.out))
  have HB2 := Lib.hid (bs HB1.out (bs (b1 w1 _) hb2))
  rw [← HRL.out] at HU2 ⊢
  obtain ⟨r, f⟩ := rowc HZ2.out
  clear hu hb2 CV
  go_wp2_with (fail)
  generalize hwF : (((((w2.setCell ⟨w.heap.size + 1, 0, none⟩ (.int .i64 K)).setCell ⟨w.heap.size + 1, 1, none⟩ (.int .i64 N)).setCell ⟨w.heap.size + 1, 2, none⟩ (.string Z)).setCell ⟨w.heap.size + 1, 3, none⟩ (.int .i64 X)).setCell ⟨w.heap.size + 1, 4, none⟩ (.slice A3 RL c3)) = wF
  obtain ⟨rF, oF, bF⟩ := fill5 HZ2.out hwF
  refine bodyPost_ret (v := .tuple #[vV K N Z X A3 RL c3, .bool b]) ?_ rfl ?_
  · simp [results, Try.results7, go_sem, rF]
  · have hz : w.heap.size + 1 < w1.heap.size := (Array.getElem?_eq_some_iff.1 HZ1.out).1
    have hy := HB1.out.size
    refine ⟨_, rfl, HU2.out.stays (fun q hq => ?_) (fun q hq _ => oF q ?_), bF _ _ (by omega) HB2.out⟩
    · have h1 : (w1.alloc _).heap.size ≤ q := hq
      simp at h1
      omega
    · have h1 : (w1.alloc _).heap.size ≤ q := hq
      simp at h1
      omega

end Go.Proofs.Ytdgfpfkhcojgaaa.tree

