/-
  What the texts behind this one use: 12 parts of one proof.
  Conditions: those that each theorem names.
-/
import Derived.Test.YteoilhbidnnneaaDoorUB3
import Derived.Test.YteoilhbidnnneaaDoorUB1
import Derived.Test.YteoilhbidnnneaaDoorUSHeld
import Derived.Test.YteoilhbidnnneaaDoorOB2
import Derived.Test.YteoilhbidnnneaaDoorOSTreeEq
import Derived.Test.YteoilhbidnnneaaDoorRows
import Derived.WalkKit
import Derived.ProofKit
import Derived.IntWalk
import Derived.Lib.Hide
import Derived.Lib.SmallJoins
import Derived.BigQuiet
import Derived.Deep.QuietTactic
import Derived.WalkLawsBesides
import Derived.Laws.BitsLemmas
import Derived.Laws.Closers25b
import Derived.OwnWalk
import Derived.Laws.AppendOwn
import Derived.Test.YteoilhbidnnneaaDoorUSTreeCp
import Derived.Test.YteoilhbidnnneaaDoorOB1
import Derived.Deep.LoopGhost
import Derived.Deep.RegionWith
import Derived.Test.YteoilhbidnnneaaDoorUSLawBox
import Derived.Test.YteoilhbidnnneaaDoorUSGetK
import Derived.Deep.CutBlock
import Derived.Deep.DeepCutAuto
/-
  What a union holds: its keys, their values, its validity, without the program.
  Conditions: those that each theorem names.
-/
namespace Go.Proofs.YteoilhbidnnneaaDoor.tree
open Go.ChangeShapes Go.WideShapes Go.ChangeAt Go.RowKit
set_option linter.unusedVariables false

theorem u_get {K : List Ky} {y : Ky} {t : Tr} (hK : y ∉ K) : ∀ (ks : List Ky) (vs : List Tr) (i m : Nat), ks[i]? = some y → vs[i]? = some t → y ∉ ks.take i → ∃ p : Nat, pos (uk K ks vs) y m = ((m + p : Nat) : Int) ∧ (uv K ks vs)[p]? = some t
  | [], _, i, m, h, _, _ => by simp at h
  | _ :: _, [], i, m, _, h, _ => by simp at h
  | z :: ks, u :: vs, 0, m, h, h', _ => by
    simp at h h'
    subst h h'
    rw [uk, uv, if_neg hK, if_neg hK]
    exact ⟨0, by rw [pos, if_pos rfl]; simp, rfl⟩
  | z :: ks, u :: vs, i + 1, m, h, h', hn => by
    have hz : z ≠ y := fun e => hn (by rw [e]; simp)
    have hn' : y ∉ ks.take i := fun hm => hn (by rw [List.take_succ_cons]; exact List.mem_cons_of_mem _ hm)
    rw [uk, uv]
    by_cases hm : z ∈ K
    · rw [if_pos hm, if_pos hm]
      exact u_get hK ks vs i m (by simpa using h) (by simpa using h') hn'
    · rw [if_neg hm, if_neg hm]
      obtain ⟨p, h1, h2⟩ := u_get hK ks vs i (m + 1) (by simpa using h) (by simpa using h') hn'
      exact ⟨p + 1, by rw [pos, if_neg hz, h1]; omega, by simpa using h2⟩
theorem pos_join : ∀ (a b : List Ky) (y : Ky) (m : Nat), y ∉ a → pos (a ++ b) y m = pos b y (m + a.length)
  | [], b, y, m, _ => by simp
  | z :: a, b, y, m, h => by
    have hz : z ≠ y := fun e => h (by rw [e]; simp)
    rw [List.cons_append, pos, if_neg hz, pos_join a b y (m + 1) (fun hm => h (List.mem_cons_of_mem _ hm)), List.length_cons]
    congr 1
    omega
theorem getB_mem {n x : Int} {s : ByteArray} {ks : List Ky} {vs : List Tr} {y : Ky} (hl : ks.length = vs.length) : getB (.mk 4 n s x ks vs) y = decide (y ∈ ks) := by
  rcases posV_cases 4 n s x ks vs y with hp | ⟨i, hp, hi, -⟩
  · have hn : y ∉ ks := by rw [posV_four] at hp; exact (pos_neg ks y 0).1 hp
    unfold getB
    rw [getT_none hp, decide_eq_false hn]
    rfl
  · have hm : y ∈ ks := by
      rw [posV_four] at hp
      rcases Decidable.em (y ∈ ks) with h | h
      · exact h
      · rw [(pos_neg ks y 0).2 h] at hp; omega
    unfold getB
    rw [getT_some hp, List.getElem?_eq_getElem (by omega), decide_eq_true hm]
    rfl
/-- The right array's keys are found in the union; those that the left one lacks have the right one's values. -/
theorem uni_get {n x n' x' : Int} {s s' : ByteArray} {ks ks' : List Ky} {vs vs' : List Tr} (hl : ks.length = vs.length) (hl' : ks'.length = vs'.length) (hv : itemsB x' [] ks' vs' = true) {i : Nat} {y : Ky} {t1 : Tr} (hy : ks'[i]? = some y) (ht : vs'[i]? = some t1) :
    getB (uniT (.mk 4 n s x ks vs) (.mk 4 n' s' x' ks' vs')) y = true ∧ (getB (.mk 4 n s x ks vs) y = false → getR (uniT (.mk 4 n s x ks vs) (.mk 4 n' s' x' ks' vs')) y = t1) := by
  have hul := uk_len ks ks' vs'
  rw [uni_mk, getB_mem (by simp [hl, hul]), getB_mem hl]
  obtain ⟨hnew, -⟩ := items_key hl' hv hy
  by_cases hm : y ∈ ks
  · exact ⟨decide_eq_true (List.mem_append_left _ hm), fun h => absurd h (by simp [hm])⟩
  · obtain ⟨p, h1, h2⟩ := u_get hm ks' vs' i ks.length hy ht hnew
    have hp : posV (.mk 4 n s (nums.mx x x') (ks ++ uk ks ks' vs') (vs ++ uv ks ks' vs')) y = ((ks.length + p : Nat) : Int) := by
      rw [posV_four, pos_join _ _ _ _ hm, Nat.zero_add, h1]
    have hmem : y ∈ ks ++ uk ks ks' vs' := by
      rcases Decidable.em (y ∈ ks ++ uk ks ks' vs') with h | h
      · exact h
      · rw [posV_four, (pos_neg _ y 0).2 h] at hp; omega
    refine ⟨decide_eq_true hmem, fun _ => ?_⟩
    unfold getR
    rw [getT_some hp, List.getElem?_append_right (by omega), show ks.length + p - vs.length = p by omega, h2]
    rfl
theorem below_mono {y : Ky} {x X : Int} (h : belowB y x = true) (hx : x ≤ X) : belowB y X = true := by
  unfold belowB at h ⊢
  simp at h ⊢
  exact ⟨h.1, h.2.imp id (fun h => by omega)⟩
theorem items_mono {x X : Int} (hx : x ≤ X) : ∀ (seen ks : List Ky) (vs : List Tr), itemsB x seen ks vs = true → itemsB X seen ks vs = true
  | seen, [], vs, _ => by cases vs <;> rw [itemsB] <;> simp
  | seen, _ :: _, [], _ => items_nil _ _ _
  | seen, y :: ks, t :: vs, h => by
    rw [items_cons] at h ⊢
    simp only [Bool.and_eq_true] at h ⊢
    exact ⟨⟨h.1.1, below_mono h.1.2.1 hx, h.1.2.2⟩, items_mono hx _ ks vs h.2⟩
theorem items_join {X : Int} : ∀ (seen ks : List Ky) (vs : List Tr) (ks2 : List Ky) (vs2 : List Tr), ks.length = vs.length → itemsB X seen ks vs = true → itemsB X (seen ++ ks) ks2 vs2 = true → itemsB X seen (ks ++ ks2) (vs ++ vs2) = true
  | seen, [], [], ks2, vs2, _, _, h => by simpa using h
  | seen, y :: ks, t :: vs, ks2, vs2, hl, h, h2 => by
    rw [List.cons_append, List.cons_append, items_cons]
    rw [items_cons] at h
    simp only [Bool.and_eq_true] at h ⊢
    exact ⟨h.1, items_join _ ks vs ks2 vs2 (by simpa using hl) h.2 (by rw [List.append_assoc, List.singleton_append]; exact h2)⟩
theorem items_u {x X : Int} (hx : x ≤ X) (K : List Ky) : ∀ (seen acc ks : List Ky) (vs : List Tr), (∀ z ∈ acc, z ∈ seen) → itemsB x seen ks vs = true → itemsB X (K ++ acc) (uk K ks vs) (uv K ks vs) = true
  | seen, acc, [], vs, _, _ => by cases vs <;> exact items_nil _ _ _
  | seen, acc, _ :: _, [], _, _ => items_nil _ _ _
  | seen, acc, y :: ks, t :: vs, ha, h => by
    rw [items_cons] at h
    simp only [Bool.and_eq_true] at h
    obtain ⟨⟨h1, h2, h3⟩, h4⟩ := h
    have hs : y ∉ seen := by simpa using h1
    rw [uk, uv]
    by_cases hm : y ∈ K
    · rw [if_pos hm, if_pos hm]
      exact items_u hx K (seen ++ [y]) acc ks vs (fun z hz => List.mem_append_left _ (ha z hz)) h4
    · rw [if_neg hm, if_neg hm, items_cons]
      simp only [Bool.and_eq_true]
      refine ⟨⟨?_, below_mono h2 hx, h3⟩, ?_⟩
      · have : y ∉ K ++ acc := fun hh => by
          rcases List.mem_append.1 hh with h9 | h9
          · exact hm h9
          · exact hs (ha y h9)
        simp [this] at *
      · rw [List.append_assoc]
        exact items_u hx K (seen ++ [y]) (acc ++ [y]) ks vs (fun z hz => by
          rcases List.mem_append.1 hz with h9 | h9
          · exact List.mem_append_left _ (ha z h9)
          · exact List.mem_append_right _ h9) h4
/-- A union that is light is valid. -/
theorem uni_val {n x n' x' : Int} {s s' : ByteArray} {ks ks' : List Ky} {vs vs' : List Tr} (hl : ks.length = vs.length) (h : valB (.mk 4 n s x ks vs) = true) (h' : valB (.mk 4 n' s' x' ks' vs') = true) (hw : wgt (uniT (.mk 4 n s x ks vs) (.mk 4 n' s' x' ks' vs')) ≤ 200) :
    (lightB (uniT (.mk 4 n s x ks vs) (.mk 4 n' s' x' ks' vs')) && sndB (uniT (.mk 4 n s x ks vs) (.mk 4 n' s' x' ks' vs'))) = true := by
  obtain ⟨h1, h2, h3, h4⟩ := val_four h
  obtain ⟨-, -, k3, k4⟩ := val_four h'
  have hX : x ≤ nums.mx x x' ∧ x' ≤ nums.mx x x' ∧ 0 ≤ nums.mx x x' ∧ nums.mx x x' ≤ 1000000001 := by unfold nums.mx; split <;> omega
  have e1 : lightB (uniT (.mk 4 n s x ks vs) (.mk 4 n' s' x' ks' vs')) = true := decide_eq_true hw
  rw [e1, Bool.true_and, uni_mk, snd_four]
  have e2 : nums.inr (nums.mx x x') 0 1000000001 = true := by unfold nums.inr; simp; omega
  rw [decide_eq_true h1, decide_eq_true h2, e2, Bool.true_and, Bool.true_and, Bool.true_and]
  refine items_join [] ks vs _ _ hl (items_mono hX.1 _ _ _ h4) ?_
  have := items_u hX.2.1 ks [] [] ks' vs' (fun z hz => by simp at hz) k4
  simpa using this

end Go.Proofs.YteoilhbidnnneaaDoor.tree

/-
  The model's look at a key.
  Conditions: none.
-/
namespace Go.Proofs.YteoilhbidnnneaaDoor.tree
open Go.ChangeShapes Go.WideShapes Go.ChangeAt Go.RowKit
set_option linter.unusedVariables false

set_option maxHeartbeats 800000 in
theorem l6Get_s (t : Tr) (v : Value) (y : Ky) (w : World) (S : Nat → Prop) (h : TIn w S t v) : Calls Tryd.prog 34 #[v, kyV y] w (OutT w (getR t y) (getB t y) S) := by
  obtain ⟨k, n, s, x, ks, vs⟩ := t
  obtain ⟨A, c, rfl, -, hin⟩ := h.out
  have FI := fun w h => findV_s (.mk k n s x ks vs) (vV k n s x A vs.length c) y w S h
  obtain ⟨L, HL⟩ : ∃ L, Hid (L = vs.length) := ⟨_, Lib.hid rfl⟩
  have hm : L ≤ maxLen := by rw [HL.out]; exact hin.2.1
  unfold maxLen at hm
  have hkl : Hid (ks.length = L) := Lib.hid (by rw [HL.out]; exact hin.1)
  rw [← HL.out] at h FI ⊢
  have HT := Lib.hid h
  have HI := Lib.hid hin
  clear h hin
  rcases posV_cases k n s x ks vs y with hp | ⟨i, hp, hi, rfl⟩
  · have e1 : getR (.mk k n s x ks vs) y = nullT := by unfold getR; rw [getT_none hp]; rfl
    have e2 : getB (.mk k n s x ks vs) y = false := by unfold getB; rw [getT_none hp]; rfl
    rw [e1, e2]
    rw [hp] at FI
    have HF := Lib.hid FI
    clear FI hp e1 e2
    obtain ⟨yb, yn, ys⟩ := y
    unfold kyV at HF ⊢
    go_enter Tryd.func34, Tryd.ntmps34
    go_wp2_with (fail)
    obtain ⟨a0, a1, a2, az, ab⟩ := al3 w #[.int .i64 k, .int .i64 n, .string s, .int .i64 x, .slice A L c] #[.bool yb, .int .i64 yn, .string ys] #[.int .i64 0, .int .i64 0, .string ⟨#[]⟩, .int .i64 0, .slice none 0 0] IV IK IV
    refine (HF.out _ (HT.out.below' ab)).mono ?_
    rintro e w1 ⟨rfl, hb1⟩
    have A2 := Lib.hid (carry hb1 a2)
    have HB1 := Lib.hid (bs ab hb1)
    obtain ⟨r, f⟩ := rowc A2.out
    clear a0 a1 a2 az ab hb1
    go_wp2_with (fail)
    generalize hwF : (((((w1.setCell ⟨w.heap.size + 1 + 1, 0, none⟩ (.int .i64 0)).setCell ⟨w.heap.size + 1 + 1, 1, none⟩ (.int .i64 0)).setCell ⟨w.heap.size + 1 + 1, 2, none⟩ (.string ⟨#[]⟩)).setCell ⟨w.heap.size + 1 + 1, 3, none⟩ (.int .i64 0)).setCell ⟨w.heap.size + 1 + 1, 4, none⟩ (.slice none 0 0)) = wF
    obtain ⟨rF, -, bF⟩ := fill5 A2.out hwF
    refine bodyPost_ret (v := .tuple #[vV 0 0 ⟨#[]⟩ 0 none 0 0, .bool false]) ?_ rfl ?_
    · simp [results, Tryd.results34, go_sem, rF]
    · exact ⟨_, rfl, flat ⟨by unfold I64; omega, by unfold I64; omega, by unfold I64; omega, Nat.zero_le _⟩ _ _ none 0 (Nat.zero_le _), bF _ _ (by omega) HB1.out⟩
  · obtain ⟨t', ht'⟩ : ∃ t', vs[i]? = some t' := ⟨_, List.getElem?_eq_getElem (by rw [← HL.out, ← hkl.out]; exact hi)⟩
    have e1 : getR (.mk 4 n s x ks vs) y = t' := by unfold getR; rw [getT_some hp, ht']; rfl
    have e2 : getB (.mk 4 n s x ks vs) y = true := by unfold getB; rw [getT_some hp, ht']; rfl
    rw [e1, e2]
    rw [hp] at FI
    have hiL : i < L := by rw [← hkl.out]; exact hi
    obtain ⟨a, y1, k1, n1, s1, x1, ks1, vs1, A1, c1, rfl, hS, hky, hvs, htin, hyb, hkb, hin1, hcell⟩ := HI.out.item (i := i) (by rw [← HL.out]; exact hiL)
    rw [ht'] at hvs
    obtain rfl := Option.some.inj hvs
    obtain ⟨L1, HL1⟩ : ∃ L1, Hid (L1 = vs1.length) := ⟨_, Lib.hid rfl⟩
    rw [← HL1.out] at hcell
    have HF := Lib.hid FI
    have HC := Lib.hid hcell
    have HV := Lib.hid htin
    clear FI hp e1 e2 hcell htin hky hyb hkb hin1 hS ht'
    obtain ⟨yb, yn, ys⟩ := y
    unfold kyV at HF ⊢
    go_enter Tryd.func34, Tryd.ntmps34
    go_wp2_with (fail)
    obtain ⟨a0, a1, a2, az, ab⟩ := al3 w #[.int .i64 4, .int .i64 n, .string s, .int .i64 x, .slice (some a) L c] #[.bool yb, .int .i64 yn, .string ys] #[.int .i64 0, .int .i64 0, .string ⟨#[]⟩, .int .i64 0, .slice none 0 0] IV IK IV
    refine (HF.out _ (HT.out.below' ab)).mono ?_
    rintro e w1 ⟨rfl, hb1⟩
    have A0 := Lib.hid (carry hb1 a0)
    have A2 := Lib.hid (carry hb1 a2)
    have HB1 := Lib.hid (bs ab hb1)
    obtain ⟨p0, p1, p2, p3, p4, p5, p6, p7⟩ := HC.out.below HB1.out
    have q4 := (rowc A0.out).1 4
    obtain ⟨r, f⟩ := rowc A2.out
    clear a0 a1 a2 az ab hb1
    go_wp2_with (fail)
    generalize hwF : (((((w1.setCell ⟨w.heap.size + 1 + 1, 0, none⟩ (.int .i64 k1)).setCell ⟨w.heap.size + 1 + 1, 1, none⟩ (.int .i64 n1)).setCell ⟨w.heap.size + 1 + 1, 2, none⟩ (.string s1)).setCell ⟨w.heap.size + 1 + 1, 3, none⟩ (.int .i64 x1)).setCell ⟨w.heap.size + 1 + 1, 4, none⟩ (.slice A1 L1 c1)) = wF
    obtain ⟨rF, oF, bF⟩ := fill5 A2.out hwF
    refine bodyPost_ret (v := .tuple #[vV k1 n1 s1 x1 A1 L1 c1, .bool true]) ?_ rfl ?_
    · simp [results, Tryd.results34, go_sem, rF]
    · have hb := bF w.heap.size w (by omega) HB1.out
      exact ⟨_, by rw [HL1.out], HV.out.below' hb, hb⟩

end Go.Proofs.YteoilhbidnnneaaDoor.tree

/-
  The model's IsKey, whatever the package variables hold.
  Conditions: those that each theorem names.
-/
namespace Go.Proofs.YteoilhbidnnneaaDoor.tree
open Go.ChangeShapes Go.WideShapes Go.ChangeAt Go.RowKit
set_option linter.unusedVariables false

set_option maxHeartbeats 800000 in
theorem isKey_n (y : Ky) (hs : y.str.size ≤ 281474976710656) (w : World) : Calls Tryd.prog 59 #[kyV y] w (KeyQ w (keyB y)) := by
  obtain ⟨b, m, s⟩ := y
  replace hs : s.size ≤ 281474976710656 := hs
  cases b
  · have e : keyB ⟨false, m, s⟩ = (nums.inr m (-1000000000) 1000000000 && decide (s.size = 0)) := rfl
    rw [e]
    clear e
    unfold kyV
    obtain ⟨q, HQ⟩ : ∃ q, Hid (nums.inr m (-1000000000) 1000000000 = q) := ⟨_, Lib.hid rfl⟩
    have IR : ∀ w, Calls Tryd.prog 38 #[.int .i64 m, .int .i64 (-1000000000), .int .i64 1000000000] w fun e w' => e = .returned (.bool q) ∧ w = w' := fun w => HQ.out ▸ nums.l1In m (-1000000000) 1000000000 w
    rw [HQ.out]
    by_cases h0 : s.size = 0
    · obtain rfl := empty_of h0
      cases q
      all_goals
        go_enter Tryd.func59, Tryd.ntmps59
        go_wp2_with (fail)
        refine (IR _).mono ?_
        rintro e w1 ⟨rfl, rfl⟩
        go_wp2_with (fail)
        go_ret
        exact ⟨rfl, b1 _ _⟩
    · obtain ⟨l1, l2⟩ := list_of h0
      rw [show decide (s.size = 0) = false from decide_eq_false h0]
      clear h0
      cases q
      all_goals
        go_enter Tryd.func59, Tryd.ntmps59
        go_wp2_with (fail)
        refine (IR _).mono ?_
        rintro e w1 ⟨rfl, rfl⟩
        go_wp2_with (fail)
        go_ret
        exact ⟨rfl, b1 _ _⟩
  · have e : keyB ⟨true, m, s⟩ = (decide (m = 0) && decide (s.size ≤ 400) && !num s) := rfl
    rw [e]
    clear e
    unfold kyV
    obtain ⟨⟨x1, x2⟩, HX⟩ : ∃ x, Hid (dec.pr (-1000000000) 1000000000 s.data.toList = x) := ⟨_, Lib.hid rfl⟩
    have hn : num s = x2 := by unfold num; rw [HX.out]
    rw [hn]
    have PS : Hid (∀ w, Calls Tryd.prog 72 #[.string s] w fun e w' => e = .returned (.tuple #[.int .i64 x1, .bool x2]) ∧ Below w.heap.size w w') := Lib.hid fun w => by
      have := prs.specParseSigned s hs w
      rw [HX.out] at this
      exact this
    clear hn
    by_cases h0 : m = 0
    · subst h0
      by_cases h4 : s.size ≤ 400
      · rw [show decide (s.size ≤ 400) = true from decide_eq_true h4]
        cases x2
        all_goals
          go_enter Tryd.func59, Tryd.ntmps59
          go_wp2_with (fail)
          refine (PS.out _).mono ?_
          rintro e w1 ⟨rfl, hb1⟩
          have HB := Lib.hid (bs (b1 w _) hb1)
          obtain ⟨r1, -⟩ := rowc (carry hb1 (heap_alloc_new w _))
          clear hb1
          go_wp2_with (fail)
          go_ret
          exact ⟨rfl, HB.out⟩
      · rw [show decide (s.size ≤ 400) = false from decide_eq_false h4]
        have h4' : 400 < s.size := by omega
        clear h4
        go_enter Tryd.func59, Tryd.ntmps59
        go_wp2_with (fail)
        refine (PS.out _).mono ?_
        rintro e w1 ⟨rfl, hb1⟩
        have HB := Lib.hid (bs (b1 w _) hb1)
        obtain ⟨r1, -⟩ := rowc (carry hb1 (heap_alloc_new w _))
        clear hb1
        go_wp2_with (fail)
        go_ret
        exact ⟨rfl, HB.out⟩
    · rw [show decide (m = 0) = false from decide_eq_false h0]
      go_enter Tryd.func59, Tryd.ntmps59
      go_wp2_with (fail)
      refine (PS.out _).mono ?_
      rintro e w1 ⟨rfl, hb1⟩
      have HB := Lib.hid (bs (b1 w _) hb1)
      obtain ⟨r1, -⟩ := rowc (carry hb1 (heap_alloc_new w _))
      clear hb1
      go_wp2_with (fail)
      go_ret
      exact ⟨rfl, HB.out⟩

end Go.Proofs.YteoilhbidnnneaaDoor.tree

/-
  Whether two values are the same, every field, without the program.
  Conditions: those that each theorem names.
-/
namespace Go.Proofs.YteoilhbidnnneaaDoor.tree
open Go.ChangeShapes Go.WideShapes Go.ChangeAt Go.RowKit
set_option linter.unusedVariables false

/-- Kind, Num, Str, Next and the number of items. -/
def alikeX (t t' : Tr) : Bool :=
  match t, t' with
  | .mk k n s x _ vs, .mk k' n' s' x' _ vs' => decide (k = k') && (decide (n = n') && (decide (s.data.toList = s'.data.toList) && (decide (x = x') && decide (vs.length = vs'.length))))
mutual
def sameB : Tr → Tr → Bool
  | .mk k n s x ks vs, .mk k' n' s' x' ks' vs' => (decide (k = k') && (decide (n = n') && (decide (s.data.toList = s'.data.toList) && (decide (x = x') && decide (vs.length = vs'.length))))) && sameL ks vs ks' vs'
def sameL : List Ky → List Tr → List Ky → List Tr → Bool
  | y :: ks, t :: vs, y' :: ks', t' :: vs' => (decide (y = y') && sameB t t') && sameL ks vs ks' vs'
  | _, _, _, _ => true
end

theorem sameB_mk (k n : Int) (s : ByteArray) (x : Int) (ks : List Ky) (vs : List Tr) (k' n' : Int) (s' : ByteArray) (x' : Int) (ks' : List Ky) (vs' : List Tr) :
    sameB (.mk k n s x ks vs) (.mk k' n' s' x' ks' vs') = (alikeX (.mk k n s x ks vs) (.mk k' n' s' x' ks' vs') && sameL ks vs ks' vs') := by rw [sameB]; rfl
theorem sameL_drop {ks : List Ky} {vs : List Tr} {ks' : List Ky} {vs' : List Tr} {j : Nat} {y y' : Ky} {t t' : Tr} (h1 : ks[j]? = some y) (h2 : vs[j]? = some t) (h3 : ks'[j]? = some y') (h4 : vs'[j]? = some t') :
    sameL (ks.drop j) (vs.drop j) (ks'.drop j) (vs'.drop j) = ((decide (y = y') && sameB t t') && sameL (ks.drop (j + 1)) (vs.drop (j + 1)) (ks'.drop (j + 1)) (vs'.drop (j + 1))) := by
  obtain ⟨a1, rfl⟩ := List.getElem?_eq_some_iff.1 h1
  obtain ⟨a2, rfl⟩ := List.getElem?_eq_some_iff.1 h2
  obtain ⟨a3, rfl⟩ := List.getElem?_eq_some_iff.1 h3
  obtain ⟨a4, rfl⟩ := List.getElem?_eq_some_iff.1 h4
  rw [List.drop_eq_getElem_cons a1, List.drop_eq_getElem_cons a2, List.drop_eq_getElem_cons a3, List.drop_eq_getElem_cons a4, sameL]

theorem sameB_same : ∀ t, fits t → sameB t t = true := Tr.ind fun k n s x ks vs ih hf => by
  rw [sameB_mk, Bool.and_eq_true]
  refine ⟨by unfold alikeX; simp, ?_⟩
  rw [fits] at hf
  obtain ⟨h1, h2⟩ := hf
  clear n s x k
  induction ks generalizing vs with
  | nil => cases vs <;> rw [sameL] <;> simp
  | cons y ks ihk =>
    cases vs with
    | nil => rw [sameL]; simp
    | cons t vs =>
      rw [fitss] at h2
      rw [sameL, ih t List.mem_cons_self h2.1, ihk vs (fun u hu => ih u (List.mem_cons_of_mem _ hu)) (by simpa using h1) h2.2]
      simp

end Go.Proofs.YteoilhbidnnneaaDoor.tree

/-
  Worlds behind draws that change nothing.
  Conditions: none.
-/
namespace Go.Proofs.YteoilhbidnnneaaDoor.tree
open Go.ChangeShapes Go.WideShapes Go.ChangeAt Go.RowKit
set_option linter.unusedVariables false

theorem drewN_heap (w : World) : ∀ n, (w.drewN n).heap = w.heap
  | 0 => rfl
  | n + 1 => (drewN_heap w n)
theorem below_drewN (w : World) : ∀ n, Below w.heap.size w (w.drewN n)
  | 0 => Below.refl _ _
  | n + 1 => (below_drewN w n).drew

end Go.Proofs.YteoilhbidnnneaaDoor.tree

/-
  The model's cursor over the bytes of a draw: what its functions return, and that they write nothing but the cursor.
  Conditions: the cursor is one that the draw has made; the texts and numbers of a list are of bounded size.
-/
namespace Go.Proofs.YteoilhbidnnneaaDoor.draw
open Go.ChangeShapes Go.WideShapes Go.ChangeAt Go.RowKit
set_option linter.unusedVariables false

theorem and255 (n : Int) : bits .and .i64 n 255 = n % 256 := by
  have h255 : (BitVec.ofInt 64 255).toNat = 2 ^ 8 - 1 := by decide
  have key : (BitVec.ofInt 64 n &&& BitVec.ofInt 64 255).toNat = (n % ((2 ^ 64 : Nat) : Int)).toNat % 2 ^ 8 := by
    rw [BitVec.toNat_and, BitVec.toNat_ofInt, h255, Nat.and_two_pow_sub_one_eq_mod]
  show IntKind.i64.wrap ((BitVec.ofInt 64 n &&& BitVec.ofInt 64 255).toNat : Nat) = n % 256
  rw [key, IntKind.wrap_i64]
  omega

/-- A slice of bytes that lies below block N. -/
def Code (w : World) (N : Nat) (A : Option Addr) (n : Nat) : Prop :=
  0 < n → ∃ a, A = some a ∧ a.block < N ∧ ∀ j, j < n → ∃ v : Int, 0 ≤ v ∧ v ≤ 255 ∧ w.cell? (a.add j) = some (.int .u8 v)

theorem Code.at_ {w : World} {N n k : Nat} {A : Option Addr} (h : Code w N A n) (hk : k < n) : ∃ (a : Addr) (v : Int), A = some a ∧ 0 ≤ v ∧ v ≤ 255 ∧ w.cell? (a.add k) = some (.int .u8 v) := by
  obtain ⟨a, e, _, hc⟩ := h (by omega)
  obtain ⟨v, h0, h1, h2⟩ := hc k hk
  exact ⟨a, v, e, h0, h1, h2⟩

theorem add_block (a : Addr) (n : Nat) : (a.add n).block = a.block := by unfold Addr.add; split <;> rfl

theorem Code.grown {w w' : World} {N n : Nat} {A : Option Addr} (h : Code w N A n) (hN : N ≤ w.heap.size) (hg : w.grownBy w' (some N)) : Code w' N A n := fun hn => by
  obtain ⟨a, e, hb, hc⟩ := h hn
  refine ⟨a, e, hb, fun j hj => ?_⟩
  obtain ⟨v, h0, h1, h2⟩ := hc j hj
  exact ⟨v, h0, h1, (World.cell?_of_block (hg.block _ (by rw [add_block]; omega) (by rw [add_block]; intro e; injection e; omega))).trans h2⟩

/-- Block N is a cursor. -/
def Cur (w : World) (N : Nat) : Prop :=
  ∃ (A : Option Addr) (n c : Nat) (i h : Int), w.heap[N]? = some (.cells #[.slice A n c, .int .i64 i, .int .i64 h] 67 (0, 0)) ∧ Code w N A n ∧ n ≤ 9223372036854775807 ∧ 0 ≤ i ∧ i ≤ (n : Int)

def ByteQ (N : Nat) (w : World) (e : Ending) (w' : World) : Prop :=
  ∃ x : Int, e = .returned (.int .i64 x) ∧ 0 ≤ x ∧ x ≤ 255 ∧ Cur w' N ∧ w.grownBy w' (some N)

theorem only_set {a w : World} {N : Nat} (h : a.grownBy w (some N)) (o : Nat) (u : Value) : a.grownBy (w.setCell ⟨N, o, none⟩ u) (some N) :=
  ⟨h.os, h.tape, h.output, by simpa [World.setCell] using h.size, fun k hk hne => (Below.heap_setCell w ⟨N, o, none⟩ u k (fun e => hne (by rw [e]))).trans (h.block k hk hne)⟩
theorem only_draws {a w : World} {r : Option Nat} (h : a.grownBy w r) (n : Nat) : a.grownBy (w.drewN n) r := ⟨h.os, h.tape, h.output, h.size, h.block⟩
theorem only_new {a w : World} {r : Option Nat} (h : a.grownBy w r) (o : Obj) : a.grownBy (w.alloc o) r :=
  ⟨h.os, h.tape, h.output, Nat.le_trans h.size (by simp), fun k hk hne => (Below.heap_alloc w o k (Nat.lt_of_lt_of_le hk h.size)).trans (h.block k hk hne)⟩
theorem only_trans {a b c : World} {r : Option Nat} (h : a.grownBy b r) (k : b.grownBy c r) : a.grownBy c r :=
  ⟨k.os.trans h.os, k.tape.trans h.tape, k.output.trans h.output, Nat.le_trans h.size k.size, fun j hj hne => (k.block j (Nat.lt_of_lt_of_le hj h.size) hne).trans (h.block j hj hne)⟩
theorem block_lt {w : World} {N : Nat} {o : Obj} (h : w.heap[N]? = some o) : N < w.heap.size := by
  rcases Nat.lt_or_ge N w.heap.size with hlt | hge
  · exact hlt
  · rw [Array.getElem?_eq_none hge] at h; cases h

theorem byte (N : Nat) (w : World) (hC : Cur w N) :
    Calls Tryd.prog 65 #[.pointer (some ⟨N, 0, none⟩)] w (ByteQ N w) := by
  obtain ⟨A, n, c, i, h, hb, hcode, hn, hi0, hi1⟩ := hC
  have c0 : w.cell? ⟨N, 0, none⟩ = some (.slice A n c) := Joins.cell_of_block hb 0
  have c1 : w.cell? ⟨N, 1, none⟩ = some (.int .i64 i) := Joins.cell_of_block hb 1
  have c2 : w.cell? ⟨N, 2, none⟩ = some (.int .i64 h) := Joins.cell_of_block hb 2
  have f1 : w.frozen? ⟨N, 1, none⟩ = false := Joins.unfrozen_of_block hb 1
  have f2 : w.frozen? ⟨N, 2, none⟩ = false := Joins.unfrozen_of_block hb 2
  have hs : ∀ v m, ((w.setCell ⟨N, 2, none⟩ v).drewN m).heap[N]? = some (.cells #[.slice A n c, .int .i64 i, v] 67 (0, 0)) := fun v m => Joins.block_setCell hb v
  have hg : ∀ v m, w.grownBy ((w.setCell ⟨N, 2, none⟩ v).drewN m) (some N) := fun v m => only_draws (only_set (World.grownBy.refl _ _) 2 v) m
  have hN := block_lt hb
  have HS := Lib.hid hs; have HC := Lib.hid hcode; clear hs hb hcode
  go_enter Tryd.func65, Tryd.ntmps65
  go_wp2
  go_quiet (fail)
  rw [and255]
  have hs1 := HS.out (Value.int IntKind.i64 (wrap64 (wrap64 (h * 6364136223846793005) + 1442695040888963407))) nq
  have hg1 := hg (Value.int IntKind.i64 (wrap64 (wrap64 (h * 6364136223846793005) + 1442695040888963407))) nq
  generalize wrap64 (wrap64 (h * 6364136223846793005) + 1442695040888963407) = h1 at *
  generalize wrap64 (h * 6364136223846793005) = h2 at *
  generalize hx : (bits BinOp.xor IntKind.i64 (h1 / 8589934592) (h1 / 140737488355328)) % 256 = x at *
  have x0 : 0 ≤ x := by omega
  have x1 : x ≤ 255 := by omega
  clear hx
  have hcode1 := HC.out.grown (by omega) hg1
  generalize ((w.setCell ⟨N, 2, none⟩ (.int .i64 h1)).drewN nq) = w1 at *
  clear c0 c1 c2 f1 f2 hg HS HC
  have c0 : w1.cell? ⟨N, 0, none⟩ = some (.slice A n c) := Joins.cell_of_block hs1 0
  have c1 : w1.cell? ⟨N, 1, none⟩ = some (.int .i64 i) := Joins.cell_of_block hs1 1
  have f1 : w1.frozen? ⟨N, 1, none⟩ = false := Joins.unfrozen_of_block hs1 1
  by_cases hlt : i < (n : Int)
  · obtain ⟨k, rfl⟩ := Int.eq_ofNat_of_zero_le hi0
    obtain ⟨a, v, rfl, v0, v1, hv⟩ := hcode1.at_ (k := k) (by omega)
    have HS1 := Lib.hid hs1; have HC1 := Lib.hid hcode1; have HG1 := Lib.hid hg1; clear hs1 hcode1 hg1
    go_wp2
    go_quiet (fail)
    go_wp2
    go_quiet (fail)
    rw [and255]
    generalize hy : (x + v) % 256 = y at *
    have y0 : 0 ≤ y := by omega
    have y1 : y ≤ 255 := by omega
    clear hy
    go_wp2
    go_ret
    refine ⟨y, rfl, y0, y1, ⟨some a, n, c, (k : Int) + 1, h1, Joins.block_setCell HS1.out _, HC1.out.grown (block_lt HS1.out |> Nat.le_of_lt) (only_draws (only_set (World.grownBy.refl _ _) 1 _) _), hn, by omega, by omega⟩, only_draws (only_set HG1.out 1 _) _⟩
  · have HS1 := Lib.hid hs1; have HC1 := Lib.hid hcode1; have HG1 := Lib.hid hg1; clear hs1 hcode1 hg1
    go_wp2
    go_quiet (fail)
    go_wp2
    go_ret
    exact ⟨x, rfl, x0, x1, ⟨A, n, c, i, h1, HS1.out, HC1.out, hn, hi0, hi1⟩, only_draws HG1.out _⟩

def IntQ (lo hi : Int) (N : Nat) (w : World) (e : Ending) (w' : World) : Prop :=
  ∃ r : Int, e = .returned (.int .i64 r) ∧ lo ≤ r ∧ r ≤ hi ∧ Cur w' N ∧ w.grownBy w' (some N)

theorem IntQ.mono {lo hi lo' hi' : Int} {N : Nat} {w w' : World} {e : Ending} (h : IntQ lo hi N w e w') (h0 : lo' ≤ lo) (h1 : hi ≤ hi') : IntQ lo' hi' N w e w' := by
  obtain ⟨r, he, a, b, c, d⟩ := h
  exact ⟨r, he, by omega, by omega, c, d⟩

/-- A number from 0 to n - 1; 0 where n is not above 0. -/
theorem below (N : Nat) (n : Int) (hn : n ≤ 1000000000) (w : World) (hC : Cur w N) :
    Calls Tryd.prog 47 #[.pointer (some ⟨N, 0, none⟩), .int .i64 n] w (IntQ 0 (max (n - 1) 0) N w) := by
  have HC := Lib.hid hC; clear hC
  by_cases h0 : n ≤ 0
  · go_enter Tryd.func47, Tryd.ntmps47
    go_wp2
    go_ret
    exact ⟨0, rfl, by omega, by omega, HC.out, World.grownBy.refl _ _⟩
  · by_cases h1 : n ≤ 256
    · go_enter Tryd.func47, Tryd.ntmps47
      go_wp2_with (fail)
      refine (byte N _ HC.out).mono ?_
      rintro e w1 ⟨x, rfl, x0, x1, hC1, hg1⟩
      have m0 := Int.emod_nonneg x (b := n) (by omega)
      have m1 := Int.emod_lt_of_pos x (b := n) (by omega)
      have HC1 := Lib.hid hC1; have HG1 := Lib.hid hg1; clear hC1 hg1
      go_wp2
      go_ret
      exact ⟨x % n, rfl, m0, by omega, HC1.out, HG1.out⟩
    · go_enter Tryd.func47, Tryd.ntmps47
      go_wp2_with (fail)
      refine (byte N _ HC.out).mono ?_
      rintro e w1 ⟨x, rfl, x0, x1, hC1, hg1⟩
      have HC1 := Lib.hid hC1; have HG1 := Lib.hid hg1; clear hC1 hg1
      go_wp2_with (fail)
      refine (byte N _ HC1.out).mono ?_
      rintro e w2 ⟨y, rfl, y0, y1, hC2, hg2⟩
      have HC2 := Lib.hid hC2; have HG2 := Lib.hid hg2; clear hC2 hg2
      go_wp2_with (fail)
      refine (byte N _ HC2.out).mono ?_
      rintro e w3 ⟨z, rfl, z0, z1, hC3, hg3⟩
      have m0 := Int.emod_nonneg (x * 65536 + y * 256 + z) (b := n) (by omega)
      have m1 := Int.emod_lt_of_pos (x * 65536 + y * 256 + z) (b := n) (by omega)
      have HC3 := Lib.hid hC3; have HG3 := Lib.hid hg3; clear hC3 hg3
      go_wp2
      go_ret
      exact ⟨(x * 65536 + y * 256 + z) % n, rfl, m0, by omega, HC3.out, only_trans (only_trans HG1.out HG2.out) HG3.out⟩

def BoolQ (N : Nat) (w : World) (e : Ending) (w' : World) : Prop :=
  ∃ b : Bool, e = .returned (.bool b) ∧ Cur w' N ∧ w.grownBy w' (some N)

theorem once (N : Nat) (n : Int) (hn : n ≤ 1000000000) (w : World) (hC : Cur w N) :
    Calls Tryd.prog 51 #[.pointer (some ⟨N, 0, none⟩), .int .i64 n] w (BoolQ N w) := by
  have HC := Lib.hid hC; clear hC
  go_enter Tryd.func51, Tryd.ntmps51
  go_wp2_with (fail)
  refine (below N n hn _ HC.out).mono ?_
  rintro e w1 ⟨x, rfl, x0, x1, hC1, hg1⟩
  have HC1 := Lib.hid hC1; have HG1 := Lib.hid hg1; clear hC1 hg1
  go_wp2
  go_ret
  exact ⟨_, rfl, HC1.out, HG1.out⟩

/-- A slice of numbers between lo and hi in a block other than the cursor's. -/
def Ints (lo hi : Int) (w : World) (N L n : Nat) : Prop := L ≠ N ∧ L < w.heap.size ∧ ∀ j, j < n → ∃ v : Int, lo ≤ v ∧ v ≤ hi ∧ w.cell? ⟨L, j, none⟩ = some (.int .i64 v)

theorem pickInt (lo hi : Int) (N L n c : Nat) (hn : 1 ≤ n) (hn2 : n ≤ 1000000) (w : World) (hC : Cur w N) (hL : Ints lo hi w N L n) :
    Calls Tryd.prog 67 #[.pointer (some ⟨N, 0, none⟩), .slice (some ⟨L, 0, none⟩) n c] w (IntQ lo hi N w) := by
  have HC := Lib.hid hC; have HL := Lib.hid hL; clear hC hL
  go_enter Tryd.func67, Tryd.ntmps67
  go_wp2_with (fail)
  refine (below N (n : Int) (by omega) _ HC.out).mono ?_
  rintro e w1 ⟨x, rfl, x0, x1, hC1, hg1⟩
  obtain ⟨k, rfl⟩ := Int.eq_ofNat_of_zero_le x0
  have hk : k < n := by omega
  have hcell : ∃ v : Int, lo ≤ v ∧ v ≤ hi ∧ w1.cell? ⟨L, k, none⟩ = some (.int .i64 v) := by
    obtain ⟨l1, l2, l3⟩ := HL.out
    obtain ⟨v, v0, v1, hv⟩ := l3 k hk
    exact ⟨v, v0, v1, hg1.cell hv (by intro e; injection e with e; exact l1 e)⟩
  obtain ⟨v, v0, v1, hv⟩ := hcell
  have HC1 := Lib.hid hC1; have HG1 := Lib.hid hg1; clear hC1 hg1
  go_wp2
  go_ret
  exact ⟨v, rfl, v0, v1, HC1.out, HG1.out⟩

/-- A slice of texts of at most m bytes in a block other than the cursor's. -/
def Strs (m : Nat) (w : World) (N L n : Nat) : Prop := L ≠ N ∧ L < w.heap.size ∧ ∀ j, j < n → ∃ s : ByteArray, s.size ≤ m ∧ w.cell? ⟨L, j, none⟩ = some (.string s)

def StrQ (m : Nat) (N : Nat) (w : World) (e : Ending) (w' : World) : Prop :=
  ∃ s : ByteArray, e = .returned (.string s) ∧ s.size ≤ m ∧ Cur w' N ∧ w.grownBy w' (some N)

theorem pickStr (m N L n c : Nat) (hn : 1 ≤ n) (hn2 : n ≤ 1000000) (w : World) (hC : Cur w N) (hL : Strs m w N L n) :
    Calls Tryd.prog 66 #[.pointer (some ⟨N, 0, none⟩), .slice (some ⟨L, 0, none⟩) n c] w (StrQ m N w) := by
  have HC := Lib.hid hC; have HL := Lib.hid hL; clear hC hL
  go_enter Tryd.func66, Tryd.ntmps66
  go_wp2_with (fail)
  refine (below N (n : Int) (by omega) _ HC.out).mono ?_
  rintro e w1 ⟨x, rfl, x0, x1, hC1, hg1⟩
  obtain ⟨k, rfl⟩ := Int.eq_ofNat_of_zero_le x0
  have hk : k < n := by omega
  have hcell : ∃ s : ByteArray, s.size ≤ m ∧ w1.cell? ⟨L, k, none⟩ = some (.string s) := by
    obtain ⟨l1, l2, l3⟩ := HL.out
    obtain ⟨v, v0, hv⟩ := l3 k hk
    exact ⟨v, v0, hg1.cell hv (by intro e; injection e with e; exact l1 e)⟩
  obtain ⟨v, v0, hv⟩ := hcell
  have HC1 := Lib.hid hC1; have HG1 := Lib.hid hg1; clear hC1 hg1
  go_wp2
  go_ret
  exact ⟨v, rfl, v0, HC1.out, HG1.out⟩

end Go.Proofs.YteoilhbidnnneaaDoor.draw

/-
  The model's draws of one number, and of a cursor: each changes nothing that was there but the cursor.
  Conditions: the bytes of the draw are at most 1048576.
-/
namespace Go.Proofs.YteoilhbidnnneaaDoor.draw
open Go.ChangeShapes Go.WideShapes Go.ChangeAt Go.RowKit
set_option linter.unusedVariables false

theorem and30 (n : Int) : bits .and .i64 n 1073741823 = n % 1073741824 := by
  have h30 : (BitVec.ofInt 64 1073741823).toNat = 2 ^ 30 - 1 := by decide
  have key : (BitVec.ofInt 64 n &&& BitVec.ofInt 64 1073741823).toNat = (n % ((2 ^ 64 : Nat) : Int)).toNat % 2 ^ 30 := by
    rw [BitVec.toNat_and, BitVec.toNat_ofInt, h30, Nat.and_two_pow_sub_one_eq_mod]
  show IntKind.i64.wrap ((BitVec.ofInt 64 n &&& BitVec.ofInt 64 1073741823).toNat : Nat) = n % 1073741824
  rw [key, IntKind.wrap_i64]
  omega

theorem Code.keep {w w' : World} {N n : Nat} {A : Option Addr} (h : Code w N A n) (hk : ∀ k, k < N → w'.heap[k]? = w.heap[k]?) : Code w' N A n := fun hn => by
  obtain ⟨a, e, hb, hc⟩ := h hn
  refine ⟨a, e, hb, fun j hj => ?_⟩
  obtain ⟨v, h0, h1, h2⟩ := hc j hj
  exact ⟨v, h0, h1, (World.cell?_of_block (hk _ (by rw [add_block]; omega))).trans h2⟩

theorem Code.later {w w' : World} {n : Nat} {A : Option Addr} (h : Code w w.heap.size A n) (hb : Below w.heap.size w w') : Code w' w'.heap.size A n := fun hn => by
  obtain ⟨a, e, hlt, hc⟩ := (h.keep fun k hk => hb.block k hk) hn
  exact ⟨a, e, Nat.lt_of_lt_of_le hlt hb.size, hc⟩

theorem Cur.keep {w w' : World} {N : Nat} (h : Cur w N) (hk : ∀ k, k < w.heap.size → w'.heap[k]? = w.heap[k]?) : Cur w' N := by
  obtain ⟨A, n, c, i, x, hb, hc, hn, i0, i1⟩ := h
  have hN := block_lt hb
  exact ⟨A, n, c, i, x, (hk N hN).trans hb, hc.keep fun k hlt => hk k (by omega), hn, i0, i1⟩
theorem Cur.new {w : World} {N : Nat} (h : Cur w N) (o : Obj) : Cur (w.alloc o) N := h.keep fun k hk => Below.heap_alloc w o k hk
theorem Cur.below {w w' : World} {N : Nat} (h : Cur w N) (hb : Below w.heap.size w w') : Cur w' N := h.keep hb.block
theorem Cur.lt {w : World} {N : Nat} (h : Cur w N) : N < w.heap.size := by
  obtain ⟨A, n, c, i, x, hb, _⟩ := h
  exact block_lt hb

theorem ints_new (lo hi : Int) (w : World) (t : TypeId) (zs : List Int) (h : ∀ z ∈ zs, lo ≤ z ∧ z ≤ hi) (N : Nat) (hN : N < w.heap.size) :
    Ints lo hi (w.alloc (.cells (zs.map (Value.int .i64)).toArray t)) N w.heap.size zs.length := by
  refine ⟨by omega, by simp, fun j hj => ?_⟩
  obtain ⟨a, b⟩ := h zs[j] (List.getElem_mem _)
  refine ⟨zs[j], a, b, ?_⟩
  rw [World.cell?_alloc_new]
  simp [hj]

theorem odd (N : Nat) (w : World) (hC : Cur w N) :
    Calls Tryd.prog 69 #[.pointer (some ⟨N, 0, none⟩)] w (IntQ (-9223372036854775808) 9223372036854775807 N w) := by
  have hN := hC.lt
  have HI := Lib.hid (ints_new (-9223372036854775808) 9223372036854775807 w 3 [-1, 0, 1, 2, 255, 256, 65535, 2147483647, 2147483648, 4294967295, 4294967296, -2147483648, 9223372036854775807, -9223372036854775808] (by decide) N hN)
  have HC := Lib.hid hC; clear hC
  go_enter Tryd.func69, Tryd.ntmps69
  go_wp2_with (fail)
  refine (pickInt (-9223372036854775808) 9223372036854775807 N w.heap.size 14 14 (by omega) (by omega) _ (HC.out.new _) HI.out).mono ?_
  rintro e w1 ⟨x, rfl, x0, x1, hC1, hg1⟩
  have HC1 := Lib.hid hC1; have HG1 := Lib.hid hg1; clear hC1 hg1
  go_wp2
  go_ret
  exact ⟨x, rfl, x0, x1, HC1.out, only_trans (World.grownBy_alloc _ _ _) HG1.out⟩



theorem cur_new (w : World) (A : Option Addr) (n c : Nat) (x : Int) (hn : n ≤ 1048576) (hA : Code w w.heap.size A n) :
    Cur (w.alloc (.cells #[.slice A n c, .int .i64 0, .int .i64 x] 67)) w.heap.size :=
  ⟨A, n, c, 0, x, by show (w.heap.push _)[w.heap.size]? = _; simp, hA.keep fun k hk => Below.heap_alloc w _ k hk, by omega, by omega, by omega⟩

def NewQ (w : World) (e : Ending) (w' : World) : Prop :=
  ∃ N : Nat, e = .returned (.pointer (some ⟨N, 0, none⟩)) ∧ w.heap.size ≤ N ∧ Cur w' N ∧ Below w.heap.size w w'

theorem new (A : Option Addr) (n c : Nat) (hn : n ≤ 1048576) (w : World) (hA : Code w w.heap.size A n) :
    Calls Tryd.prog 24 #[.slice A n c] w (NewQ w) := by
  have HA := Lib.hid hA; clear hA
  go_enter Tryd.func24, Tryd.ntmps24
  go_wp2
  go_loop [3, 4] (fun h i => ∃ (k : Nat) (x : Int), k ≤ n ∧ i = .int .i64 k ∧ 0 ≤ x ∧ x ≤ 1073741824 ∧ h = .int .i64 x) (fun _ i => n - (RowKit.intOf i).toNat)
  case atStart => exact ⟨0, 193017 + (n : Int), by omega, rfl, by omega, by omega, rfl⟩
  case round =>
    obtain ⟨k, x, hk, rfl, x0, x1, rfl⟩ := hrel
    by_cases hlt : k < n
    · obtain ⟨a, v, rfl, v0, v1, hv⟩ := HA.out.at_ hlt
      by_cases h4 : (k : Int) < 4000
      · go_wp2
        rw [and30]
        exact ⟨⟨k + 1, (x * 137 + v + 11) % 1073741824, by omega, by go_num, by omega, by omega, rfl⟩, by simp only [RowKit.intOf]; omega⟩
      · go_wp2
        go_ret
        exact ⟨w.heap.size, rfl, Nat.le_refl _, cur_new w _ n c x hn HA.out, Joins.below_alloc1 w _⟩
    · go_wp2
      go_ret
      exact ⟨w.heap.size, rfl, Nat.le_refl _, cur_new w _ n c x hn HA.out, Joins.below_alloc1 w _⟩

theorem below_of {B N : Nat} {a b c : World} (h : Below B a b) (hg : b.grownBy c (some N)) (hN : B ≤ N) (hs : B ≤ b.heap.size) : Below B a c :=
  h.grown hg hs (by intro k e; injection e with e; omega)


end Go.Proofs.YteoilhbidnnneaaDoor.draw

/-
  Drawn words, keys and scalars.
  Conditions: the cursor's block.
-/
namespace Go.Proofs.YteoilhbidnnneaaDoor.draw
open Go.ChangeShapes Go.WideShapes Go.ChangeAt Go.RowKit tree
set_option linter.unusedVariables false

theorem strs_new' (m : Nat) (w : World) (t : TypeId) (zs : List ByteArray) (h : ∀ z ∈ zs, z.size ≤ m) (N : Nat) (hN : N < w.heap.size) :
    Strs m (w.alloc (.cells (zs.map Value.string).toArray t)) N w.heap.size zs.length := by
  refine ⟨by omega, by simp, fun j hj => ?_⟩
  refine ⟨zs[j], h zs[j] (List.getElem_mem _), ?_⟩
  rw [World.cell?_alloc_new]
  simp [hj]

theorem word (N : Nat) (w : World) (hC : Cur w N) : Calls Tryd.prog 78 #[.pointer (some ⟨N, 0, none⟩)] w (StrQ 10 N w) := by
  have hN := hC.lt
  have HI := Lib.hid (strs_new' 10 w 9 [⟨#[]⟩, ⟨#[97]⟩, ⟨#[98]⟩, ⟨#[120, 49]⟩, ⟨#[48]⟩, ⟨#[53]⟩, ⟨#[45, 53]⟩, ⟨#[48, 53]⟩, ⟨#[45, 48]⟩, ⟨#[49, 50, 97]⟩, ⟨#[48, 48, 55]⟩, ⟨#[49, 48, 48, 48, 48, 48, 48, 48, 48, 48]⟩, ⟨#[49, 48, 48, 48, 48, 48, 48, 48, 48, 49]⟩, ⟨#[32, 49]⟩, ⟨#[105, 116, 39, 115]⟩, ⟨#[10]⟩, ⟨#[60, 105, 62]⟩, ⟨#[255, 59]⟩, ⟨#[110, 97, 109, 101]⟩, ⟨#[115, 58, 49, 58]⟩] (by decide) N hN)
  have HC := Lib.hid hC
  clear hC
  go_enter Tryd.func78, Tryd.ntmps78
  go_wp2_with (fail)
  refine (pickStr 10 N w.heap.size 20 20 (by omega) (by omega) _ (HC.out.new _) HI.out).mono ?_
  rintro e w1 ⟨s, rfl, hs, hC1, hg1⟩
  have HC1 := Lib.hid hC1; have HG1 := Lib.hid hg1; clear hC1 hg1
  go_wp2
  go_ret
  exact ⟨s, rfl, hs, HC1.out, only_trans (World.grownBy_alloc _ _ _) HG1.out⟩

theorem Cur.upto {w w' : World} {N : Nat} (h : Cur w N) (hk : ∀ k, k ≤ N → w'.heap[k]? = w.heap[k]?) : Cur w' N := by
  obtain ⟨A, n, c, i, h1, h2, h3, h4, h5, h6⟩ := h
  exact ⟨A, n, c, i, h1, (hk N (Nat.le_refl _)).trans h2, h3.keep fun k hlt => hk k (by omega), h4, h5, h6⟩
/-- Three cells of one block written. -/
theorem put3 {w : World} {R : Nat} {t : TypeId} {a b c : Value} (x y z : Value) (h : w.heap[R]? = some (.cells #[a, b, c] t (0, 0))) :
    (((w.setCell ⟨R, 0, none⟩ x).setCell ⟨R, 1, none⟩ y).setCell ⟨R, 2, none⟩ z).heap[R]? = some (.cells #[x, y, z] t (0, 0)) ∧
    (∀ k, k ≠ R → (((w.setCell ⟨R, 0, none⟩ x).setCell ⟨R, 1, none⟩ y).setCell ⟨R, 2, none⟩ z).heap[k]? = w.heap[k]?) ∧
    ∀ (W : World) (N : Nat), W.heap.size ≤ R → W.grownBy w (some N) → W.grownBy (((w.setCell ⟨R, 0, none⟩ x).setCell ⟨R, 1, none⟩ y).setCell ⟨R, 2, none⟩ z) (some N) := by
  refine ⟨?_, fun k hk => ?_, fun W N hR hg => ⟨hg.os, hg.tape, hg.output, by simpa [set_size] using hg.size, fun j hj hne => ?_⟩⟩
  · have := set_heap (set_heap (set_heap h 0 x) 1 y) 2 z
    simpa using this
  · rw [set_other hk, set_other hk, set_other hk]
  · have hk : j ≠ R := by omega
    rw [set_other hk, set_other hk, set_other hk]
    exact hg.block j hj hne

/-- A drawn key. -/
def DrawKey (N : Nat) (w : World) (e : Ending) (w' : World) : Prop := ∃ y : Ky, e = .returned (kyV y) ∧ (-1000000000 ≤ y.num ∧ y.num ≤ 1000000000 ∧ y.str.size ≤ 2) ∧ Cur w' N ∧ w.grownBy w' (some N)
theorem key (N : Nat) (w : World) (hC : Cur w N) : Calls Tryd.prog 49 #[.pointer (some ⟨N, 0, none⟩)] w (DrawKey N w) := by
  have hN0 := hC.lt
  have HC := Lib.hid hC
  clear hC
  go_enter Tryd.func49, Tryd.ntmps49
  go_wp2_with (fail)
  refine (once N 3 (by omega) _ (HC.out.new _)).mono ?_
  rintro e w1 ⟨b, rfl, hC1, hg1⟩
  have hN := hC1.lt
  have eR : w1.heap[w.heap.size]? = some (.cells #[.bool false, .int .i64 0, .string ⟨#[]⟩] IK (0, 0)) := (hg1.block _ (by simp) (by intro h; injection h; omega)).trans (heap_alloc_new w _)
  have HC1 := Lib.hid hC1; have HG1 := Lib.hid (only_trans (World.grownBy_alloc w (.cells #[.bool false, .int .i64 0, .string ⟨#[]⟩] IK) (some N)) hg1)
  have ER := Lib.hid eR
  clear hC1 hg1 eR
  cases b with
  | true =>
    have HI := Lib.hid (strs_new' 2 w1 9 [⟨#[97]⟩, ⟨#[98]⟩, ⟨#[99]⟩, ⟨#[]⟩, ⟨#[48, 53]⟩, ⟨#[120]⟩] (by decide) N hN)
    go_wp2_with (fail)
    refine (pickStr 2 N w1.heap.size 6 6 (by omega) (by omega) _ (HC1.out.new _) HI.out).mono ?_
    rintro e w2 ⟨s, rfl, hs, hC2, hg2⟩
    have HC2 := Lib.hid hC2
    have hG2 := only_trans (World.grownBy_alloc w1 _ (some N)) hg2
    have eR2 := (hG2.block w.heap.size (Array.getElem?_eq_some_iff.1 ER.out).1 (by intro h; injection h; omega)).trans ER.out
    have HG2 := Lib.hid (only_trans HG1.out hG2)
    have ER2 := Lib.hid eR2
    obtain ⟨r2, f2⟩ := rowc eR2
    clear hC2 hg2 hG2 eR2
    go_wp2_with (fail)
    obtain ⟨eF, oF, gF⟩ := put3 (.bool true) (.int .i64 0) (.string s) ER2.out
    obtain ⟨rF, -⟩ := rowc eF
    have hCF : Cur _ N := Cur.upto HC2.out fun k hk => oF k (by omega)
    have hGF := gF w N (Nat.le_refl _) HG2.out
    clear r2 f2 eF oF gF
    generalize (((w2.setCell ⟨w.heap.size, 0, none⟩ (.bool true)).setCell ⟨w.heap.size, 1, none⟩ (.int .i64 0)).setCell ⟨w.heap.size, 2, none⟩ (.string s)) = wF at *
    refine bodyPost_ret (v := .agg #[.bool true, .int .i64 0, .string s]) (by simp [results, Tryd.results49, go_sem, rF]) rfl ⟨⟨true, 0, s⟩, rfl, ⟨by show (-1000000000 : Int) ≤ 0; omega, by show (0 : Int) ≤ 1000000000; omega, hs⟩, hCF, hGF⟩
  | false =>
    have HI := Lib.hid (ints_new (-1000000000) 1000000000 w1 3 [0, 1, 2, 3, 4, -1, 7, 1000000000, -1000000000] (by decide) N hN)
    go_wp2_with (fail)
    refine (pickInt (-1000000000) 1000000000 N w1.heap.size 9 9 (by omega) (by omega) _ (HC1.out.new _) HI.out).mono ?_
    rintro e w2 ⟨x, rfl, x0, x1, hC2, hg2⟩
    have HC2 := Lib.hid hC2
    have hG2 := only_trans (World.grownBy_alloc w1 _ (some N)) hg2
    have eR2 := (hG2.block w.heap.size (Array.getElem?_eq_some_iff.1 ER.out).1 (by intro h; injection h; omega)).trans ER.out
    have HG2 := Lib.hid (only_trans HG1.out hG2)
    have ER2 := Lib.hid eR2
    obtain ⟨r2, f2⟩ := rowc eR2
    clear hC2 hg2 hG2 eR2
    go_wp2_with (fail)
    obtain ⟨eF, oF, gF⟩ := put3 (.bool false) (.int .i64 x) (.string ⟨#[]⟩) ER2.out
    obtain ⟨rF, -⟩ := rowc eF
    have hCF : Cur _ N := Cur.upto HC2.out fun k hk => oF k (by omega)
    have hGF := gF w N (Nat.le_refl _) HG2.out
    clear r2 f2 eF oF gF
    generalize (((w2.setCell ⟨w.heap.size, 0, none⟩ (.bool false)).setCell ⟨w.heap.size, 1, none⟩ (.int .i64 x)).setCell ⟨w.heap.size, 2, none⟩ (.string ⟨#[]⟩)) = wF at *
    refine bodyPost_ret (v := .agg #[.bool false, .int .i64 x, .string ⟨#[]⟩]) (by simp [results, Tryd.results49, go_sem, rF]) rfl ⟨⟨false, x, ⟨#[]⟩⟩, rfl, ⟨x0, x1, by show (0 : Nat) ≤ 2; omega⟩, hCF, hGF⟩

end Go.Proofs.YteoilhbidnnneaaDoor.draw

/-
  Drawn scalars.
  Conditions: the cursor's block.
-/
namespace Go.Proofs.YteoilhbidnnneaaDoor.draw
open Go.ChangeShapes Go.WideShapes Go.ChangeAt Go.RowKit tree
set_option linter.unusedVariables false

theorem intV (n : Int) (w : World) : Calls Tryd.prog 79 #[.int .i64 n] w (GivesQ w (vV 2 n ⟨#[]⟩ 0 none 0 0)) := by
  go_enter Tryd.func79, Tryd.ntmps79
  go_wp2
  refine bodyPost_ret (v := vV 2 n ⟨#[]⟩ 0 none 0 0) (by simp [results, Tryd.results79, go_sem]) rfl ⟨rfl, b1 _ _⟩
theorem textV (s : ByteArray) (w : World) : Calls Tryd.prog 77 #[.string s] w (GivesQ w (vV 3 0 s 0 none 0 0)) := by
  go_enter Tryd.func77, Tryd.ntmps77
  go_wp2
  refine bodyPost_ret (v := vV 3 0 s 0 none 0 0) (by simp [results, Tryd.results77, go_sem]) rfl ⟨rfl, b1 _ _⟩
theorem boolV (b : Bool) (w : World) : Calls Tryd.prog 76 #[.bool b] w (GivesQ w (vV 1 (if b then 1 else 0) ⟨#[]⟩ 0 none 0 0)) := by
  cases b
  · go_enter Tryd.func76, Tryd.ntmps76
    go_wp2
    refine bodyPost_ret (v := vV 1 0 ⟨#[]⟩ 0 none 0 0) (by simp [results, Tryd.results76, go_sem]) rfl ⟨rfl, b1 _ _⟩
  · go_enter Tryd.func76, Tryd.ntmps76
    go_wp2
    refine bodyPost_ret (v := vV 1 1 ⟨#[]⟩ 0 none 0 0) (by simp [results, Tryd.results76, go_sem]) rfl ⟨rfl, b1 _ _⟩
theorem arrV (w : World) : Calls Tryd.prog 46 #[] w (GivesQ w (vV 4 0 ⟨#[]⟩ 0 none 0 0)) := by
  go_enter Tryd.func46, Tryd.ntmps46
  go_wp2
  refine bodyPost_ret (v := vV 4 0 ⟨#[]⟩ 0 none 0 0) (by simp [results, Tryd.results46, go_sem]) rfl ⟨rfl, b1 _ _⟩

theorem grown_set {W w : World} {N R j : Nat} {u : Value} (hR : W.heap.size ≤ R) (hg : W.grownBy w (some N)) : W.grownBy (w.setCell ⟨R, j, none⟩ u) (some N) :=
  ⟨hg.os, hg.tape, hg.output, by rw [set_size]; exact hg.size, fun k hk hne => (set_other (by omega)).trans (hg.block k hk hne)⟩
/-- Five cells of one block written. -/
theorem put5 {w : World} {R : Nat} {t : TypeId} {a b c d e : Value} (x y z u v : Value) (h : w.heap[R]? = some (.cells #[a, b, c, d, e] t (0, 0))) :
    (((((w.setCell ⟨R, 0, none⟩ x).setCell ⟨R, 1, none⟩ y).setCell ⟨R, 2, none⟩ z).setCell ⟨R, 3, none⟩ u).setCell ⟨R, 4, none⟩ v).heap[R]? = some (.cells #[x, y, z, u, v] t (0, 0)) ∧
    (∀ k, k ≠ R → (((((w.setCell ⟨R, 0, none⟩ x).setCell ⟨R, 1, none⟩ y).setCell ⟨R, 2, none⟩ z).setCell ⟨R, 3, none⟩ u).setCell ⟨R, 4, none⟩ v).heap[k]? = w.heap[k]?) ∧
    ∀ (W : World) (N : Nat), W.heap.size ≤ R → W.grownBy w (some N) → W.grownBy (((((w.setCell ⟨R, 0, none⟩ x).setCell ⟨R, 1, none⟩ y).setCell ⟨R, 2, none⟩ z).setCell ⟨R, 3, none⟩ u).setCell ⟨R, 4, none⟩ v) (some N) := by
  refine ⟨?_, fun k hk => ?_, fun W N hR hg => grown_set hR (grown_set hR (grown_set hR (grown_set hR (grown_set hR hg))))⟩
  · have := set_heap (set_heap (set_heap (set_heap (set_heap h 0 x) 1 y) 2 z) 3 u) 4 v
    simpa using this
  · rw [set_other hk, set_other hk, set_other hk, set_other hk, set_other hk]
theorem grown_of_below {w w' : World} (h : Below w.heap.size w w') (N : Nat) : w.grownBy w' (some N) := ⟨h.os, h.tape, h.output, h.size, fun j hj _ => h.block j hj⟩

/-- A drawn scalar. -/
def DrawScal (N : Nat) (w : World) (e : Ending) (w' : World) : Prop := ∃ (k n : Int) (s : ByteArray), e = .returned (vV k n s 0 none 0 0) ∧ (0 ≤ k ∧ k ≤ 3 ∧ -1000000000 ≤ n ∧ n ≤ 1000000000 ∧ s.size ≤ 10) ∧ Cur w' N ∧ w.grownBy w' (some N)
theorem DrawScal.of {N : Nat} {w w2 : World} {k n : Int} {s : ByteArray} (hb : 0 ≤ k ∧ k ≤ 3 ∧ -1000000000 ≤ n ∧ n ≤ 1000000000 ∧ s.size ≤ 10) (hN : N < w.heap.size) (hC : Cur w2 N) (hg : w.grownBy w2 (some N))
    (hR : w2.heap[w.heap.size]? = some (.cells #[.int .i64 0, .int .i64 0, .string ⟨#[]⟩, .int .i64 0, .slice none 0 0] IV (0, 0))) (wF : World)
    (hF : wF = ((((w2.setCell ⟨w.heap.size, 0, none⟩ (.int .i64 k)).setCell ⟨w.heap.size, 1, none⟩ (.int .i64 n)).setCell ⟨w.heap.size, 2, none⟩ (.string s)).setCell ⟨w.heap.size, 3, none⟩ (.int .i64 0)).setCell ⟨w.heap.size, 4, none⟩ (.slice none 0 0)) :
    (∀ j, wF.cell? ⟨w.heap.size, j, none⟩ = #[Value.int .i64 k, .int .i64 n, .string s, .int .i64 0, .slice none 0 0][j]?) ∧ DrawScal N w (.returned (vV k n s 0 none 0 0)) wF := by
  obtain ⟨eF, oF, gF⟩ := put5 (.int .i64 k) (.int .i64 n) (.string s) (.int .i64 0) (.slice none 0 0) hR
  rw [← hF] at eF oF gF
  exact ⟨(rowc eF).1, k, n, s, rfl, hb, Cur.upto hC fun k hk => oF k (by omega), gF w N (Nat.le_refl _) hg⟩

theorem scalar (N : Nat) (w : World) (hC : Cur w N) : Calls Tryd.prog 68 #[.pointer (some ⟨N, 0, none⟩)] w (DrawScal N w) := by
  have hN0 := hC.lt
  have HC := Lib.hid hC
  clear hC
  go_enter Tryd.func68, Tryd.ntmps68
  go_wp2_with (fail)
  refine (below N 8 (by omega) _ (HC.out.new _)).mono ?_
  rintro e w1 ⟨x, rfl, x0, x1, hC1, hg1⟩
  have hN := hC1.lt
  have eR : w1.heap[w.heap.size]? = some (.cells #[.int .i64 0, .int .i64 0, .string ⟨#[]⟩, .int .i64 0, .slice none 0 0] IV (0, 0)) := (hg1.block _ (by simp) (by intro h; injection h; omega)).trans (heap_alloc_new w _)
  have HC1 := Lib.hid hC1; have HG1 := Lib.hid (only_trans (World.grownBy_alloc w (.cells #[.int .i64 0, .int .i64 0, .string ⟨#[]⟩, .int .i64 0, .slice none 0 0] IV) (some N)) hg1)
  have ER := Lib.hid eR
  clear hC1 hg1
  have step : ∀ (w2 w3 : World) (k n : Int) (s : ByteArray), Cur w2 N → w1.grownBy w2 (some N) → Below w2.heap.size w2 w3 →
      Hid (Cur w3 N) ∧ Hid (w.grownBy w3 (some N)) ∧ Hid (w3.heap[w.heap.size]? = some (.cells #[.int .i64 0, .int .i64 0, .string ⟨#[]⟩, .int .i64 0, .slice none 0 0] IV (0, 0))) := fun w2 w3 k n s hc hg hb => by
    have hg3 := only_trans hg (grown_of_below hb N)
    exact ⟨hc.below hb, only_trans HG1.out hg3, (hg3.block _ (Array.getElem?_eq_some_iff.1 ER.out).1 (by intro h; injection h; omega)).trans ER.out⟩
  by_cases h0 : x = 0
  · subst h0
    obtain ⟨r1, f1⟩ := rowc eR
    clear eR step
    go_wp2_with (fail)
    generalize hwF : ((((((w1).setCell ⟨w.heap.size, 0, none⟩ (.int .i64 0)).setCell ⟨w.heap.size, 1, none⟩ (.int .i64 0)).setCell ⟨w.heap.size, 2, none⟩ (.string ⟨#[]⟩)).setCell ⟨w.heap.size, 3, none⟩ (.int .i64 0)).setCell ⟨w.heap.size, 4, none⟩ (.slice none 0 0)) = wF
    obtain ⟨rF, hD⟩ := DrawScal.of (k := 0) (n := 0) (s := ⟨#[]⟩) ⟨by omega, by omega, by omega, by omega, by show (0 : Nat) ≤ 10; omega⟩ hN0 HC1.out HG1.out ER.out wF hwF.symm
    clear r1 f1 hwF
    refine bodyPost_ret (v := .agg #[.int .i64 0, .int .i64 0, .string ⟨#[]⟩, .int .i64 0, .slice none 0 0]) ?_ rfl ?_
    · simp [results, Tryd.results68, go_sem, rF]
    · exact hD
  clear eR
  by_cases h1 : x = 1
  · subst h1
    go_wp2_with (fail)
    refine (once N 2 (by omega) _ HC1.out).mono ?_
    rintro e w2 ⟨b, rfl, hC2, hg2⟩
    have HC2 := Lib.hid hC2; have HG2 := Lib.hid hg2; clear hC2 hg2
    go_wp2_with (fail)
    refine (boolV b _).mono ?_
    rintro e w3 ⟨rfl, hb3⟩
    obtain ⟨HC3, HG3, ER3⟩ := step w2 w3 0 0 ⟨#[]⟩ HC2.out HG2.out hb3
    obtain ⟨r3, f3⟩ := rowc ER3.out
    clear hb3 step
    cases b with
    | false =>
      go_wp2_with (fail)
      generalize hwF : ((((((w3).setCell ⟨w.heap.size, 0, none⟩ (.int .i64 1)).setCell ⟨w.heap.size, 1, none⟩ (.int .i64 0)).setCell ⟨w.heap.size, 2, none⟩ (.string ⟨#[]⟩)).setCell ⟨w.heap.size, 3, none⟩ (.int .i64 0)).setCell ⟨w.heap.size, 4, none⟩ (.slice none 0 0)) = wF
      obtain ⟨rF, hD⟩ := DrawScal.of (k := 1) (n := 0) (s := ⟨#[]⟩) ⟨by omega, by omega, by omega, by omega, by show (0 : Nat) ≤ 10; omega⟩ hN0 HC3.out HG3.out ER3.out wF hwF.symm
      clear r3 f3 hwF
      refine bodyPost_ret (v := .agg #[.int .i64 1, .int .i64 0, .string ⟨#[]⟩, .int .i64 0, .slice none 0 0]) ?_ rfl ?_
      · simp [results, Tryd.results68, go_sem, rF]
      · exact hD
    | true =>
      go_wp2_with (fail)
      generalize hwF : ((((((w3).setCell ⟨w.heap.size, 0, none⟩ (.int .i64 1)).setCell ⟨w.heap.size, 1, none⟩ (.int .i64 1)).setCell ⟨w.heap.size, 2, none⟩ (.string ⟨#[]⟩)).setCell ⟨w.heap.size, 3, none⟩ (.int .i64 0)).setCell ⟨w.heap.size, 4, none⟩ (.slice none 0 0)) = wF
      obtain ⟨rF, hD⟩ := DrawScal.of (k := 1) (n := 1) (s := ⟨#[]⟩) ⟨by omega, by omega, by omega, by omega, by show (0 : Nat) ≤ 10; omega⟩ hN0 HC3.out HG3.out ER3.out wF hwF.symm
      clear r3 f3 hwF
      refine bodyPost_ret (v := .agg #[.int .i64 1, .int .i64 1, .string ⟨#[]⟩, .int .i64 0, .slice none 0 0]) ?_ rfl ?_
      · simp [results, Tryd.results68, go_sem, rF]
      · exact hD
  by_cases h2 : x = 2
  · subst h2
    go_wp2_with (fail)
    refine (word N _ HC1.out).mono ?_
    rintro e w2 ⟨s, rfl, hs, hC2, hg2⟩
    have HC2 := Lib.hid hC2; have HG2 := Lib.hid hg2; clear hC2 hg2
    go_wp2_with (fail)
    refine (textV s _).mono ?_
    rintro e w3 ⟨rfl, hb3⟩
    obtain ⟨HC3, HG3, ER3⟩ := step w2 w3 0 0 ⟨#[]⟩ HC2.out HG2.out hb3
    obtain ⟨r3, f3⟩ := rowc ER3.out
    clear hb3 step
    go_wp2_with (fail)
    generalize hwF : ((((((w3).setCell ⟨w.heap.size, 0, none⟩ (.int .i64 3)).setCell ⟨w.heap.size, 1, none⟩ (.int .i64 0)).setCell ⟨w.heap.size, 2, none⟩ (.string s)).setCell ⟨w.heap.size, 3, none⟩ (.int .i64 0)).setCell ⟨w.heap.size, 4, none⟩ (.slice none 0 0)) = wF
    obtain ⟨rF, hD⟩ := DrawScal.of (k := 3) (n := 0) (s := s) ⟨by omega, by omega, by omega, by omega, hs⟩ hN0 HC3.out HG3.out ER3.out wF hwF.symm
    clear r3 f3 hwF
    refine bodyPost_ret (v := .agg #[.int .i64 3, .int .i64 0, .string s, .int .i64 0, .slice none 0 0]) ?_ rfl ?_
    · simp [results, Tryd.results68, go_sem, rF]
    · exact hD
  by_cases h3 : x = 3
  · subst h3
    go_wp2_with (fail)
    refine (word N _ HC1.out).mono ?_
    rintro e w2 ⟨s, rfl, hs, hC2, hg2⟩
    have HC2 := Lib.hid hC2; have HG2 := Lib.hid hg2; clear hC2 hg2
    go_wp2_with (fail)
    refine (textV s _).mono ?_
    rintro e w3 ⟨rfl, hb3⟩
    obtain ⟨HC3, HG3, ER3⟩ := step w2 w3 0 0 ⟨#[]⟩ HC2.out HG2.out hb3
    obtain ⟨r3, f3⟩ := rowc ER3.out
    clear hb3 step
    go_wp2_with (fail)
    generalize hwF : ((((((w3).setCell ⟨w.heap.size, 0, none⟩ (.int .i64 3)).setCell ⟨w.heap.size, 1, none⟩ (.int .i64 0)).setCell ⟨w.heap.size, 2, none⟩ (.string s)).setCell ⟨w.heap.size, 3, none⟩ (.int .i64 0)).setCell ⟨w.heap.size, 4, none⟩ (.slice none 0 0)) = wF
    obtain ⟨rF, hD⟩ := DrawScal.of (k := 3) (n := 0) (s := s) ⟨by omega, by omega, by omega, by omega, hs⟩ hN0 HC3.out HG3.out ER3.out wF hwF.symm
    clear r3 f3 hwF
    refine bodyPost_ret (v := .agg #[.int .i64 3, .int .i64 0, .string s, .int .i64 0, .slice none 0 0]) ?_ rfl ?_
    · simp [results, Tryd.results68, go_sem, rF]
    · exact hD
  by_cases h4 : x = 4
  · subst h4
    have HI := Lib.hid (ints_new (-1000000000) 1000000000 w1 3 [0, 1, -1, 5, 10, 999999999, 1000000000, -1000000000] (by decide) N hN)
    go_wp2_with (fail)
    refine (pickInt (-1000000000) 1000000000 N w1.heap.size 8 8 (by omega) (by omega) _ (HC1.out.new _) HI.out).mono ?_
    rintro e w2 ⟨n, rfl, n0, n1, hC2, hg2⟩
    have HC2 := Lib.hid hC2; have HG2 := Lib.hid (only_trans (World.grownBy_alloc w1 _ (some N)) hg2); clear hC2 hg2
    go_wp2_with (fail)
    refine (intV n _).mono ?_
    rintro e w3 ⟨rfl, hb3⟩
    obtain ⟨HC3, HG3, ER3⟩ := step w2 w3 0 0 ⟨#[]⟩ HC2.out HG2.out hb3
    obtain ⟨r3, f3⟩ := rowc ER3.out
    clear hb3 step
    go_wp2_with (fail)
    generalize hwF : ((((((w3).setCell ⟨w.heap.size, 0, none⟩ (.int .i64 2)).setCell ⟨w.heap.size, 1, none⟩ (.int .i64 n)).setCell ⟨w.heap.size, 2, none⟩ (.string ⟨#[]⟩)).setCell ⟨w.heap.size, 3, none⟩ (.int .i64 0)).setCell ⟨w.heap.size, 4, none⟩ (.slice none 0 0)) = wF
    obtain ⟨rF, hD⟩ := DrawScal.of (k := 2) (n := n) (s := ⟨#[]⟩) ⟨by omega, by omega, n0, n1, by show (0 : Nat) ≤ 10; omega⟩ hN0 HC3.out HG3.out ER3.out wF hwF.symm
    clear r3 f3 hwF
    refine bodyPost_ret (v := .agg #[.int .i64 2, .int .i64 n, .string ⟨#[]⟩, .int .i64 0, .slice none 0 0]) ?_ rfl ?_
    · simp [results, Tryd.results68, go_sem, rF]
    · exact hD
  go_wp2_with (fail)
  refine (below N 20 (by omega) _ HC1.out).mono ?_
  rintro e w2 ⟨n, rfl, n0, n1, hC2, hg2⟩
  have HC2 := Lib.hid hC2; have HG2 := Lib.hid hg2; clear hC2 hg2
  have n2 : n ≤ 19 := by omega
  clear n1
  go_wp2_with (fail)
  refine (intV (n - 5) _).mono ?_
  rintro e w3 ⟨rfl, hb3⟩
  obtain ⟨HC3, HG3, ER3⟩ := step w2 w3 0 0 ⟨#[]⟩ HC2.out HG2.out hb3
  obtain ⟨r3, f3⟩ := rowc ER3.out
  clear hb3 step
  go_wp2_with (fail)
  generalize hwF : ((((((w3).setCell ⟨w.heap.size, 0, none⟩ (.int .i64 2)).setCell ⟨w.heap.size, 1, none⟩ (.int .i64 (n - 5))).setCell ⟨w.heap.size, 2, none⟩ (.string ⟨#[]⟩)).setCell ⟨w.heap.size, 3, none⟩ (.int .i64 0)).setCell ⟨w.heap.size, 4, none⟩ (.slice none 0 0)) = wF
  obtain ⟨rF, hD⟩ := DrawScal.of (k := 2) (n := (n - 5)) (s := ⟨#[]⟩) ⟨by omega, by omega, by omega, by omega, by show (0 : Nat) ≤ 10; omega⟩ hN0 HC3.out HG3.out ER3.out wF hwF.symm
  clear r3 f3 hwF
  refine bodyPost_ret (v := .agg #[.int .i64 2, .int .i64 (n - 5), .string ⟨#[]⟩, .int .i64 0, .slice none 0 0]) ?_ rfl ?_
  · simp [results, Tryd.results68, go_sem, rF]
  · exact hD

end Go.Proofs.YteoilhbidnnneaaDoor.draw

/-
  Slices of integers in memory: one that reads as a list of numbers, one that the call itself has made, and how both are kept while memory grows.
  Conditions: those that each theorem names.
-/
namespace Go.Proofs.YteoilhbidnnneaaDoor.imem
open Go.RowKit mem
set_option linter.unusedVariables false

theorem i64row : (Tryd.prog.info? 3).map (fun i => (i.zero, i.size, i.bytes)) = some (some (.int .i64 0), 1, 8) := by kernel_rfl

/-- The numbers as cells. -/
def ics (l : List Int) : List Value := l.map (Value.int .i64)
theorem ics_len (l : List Int) : (ics l).length = l.length := List.length_map _
theorem ics_app (a b : List Int) : ics (a ++ b) = ics a ++ ics b := List.map_append
theorem ics_get {l : List Int} {j : Nat} {v : Int} (h : l[j]? = some v) : (ics l)[j]? = some (.int .i64 v) := by unfold ics; rw [List.getElem?_map, h]; rfl
theorem ics_set (l : List Int) (j : Nat) (v : Int) : ics (l.set j v) = (ics l).set j (.int .i64 v) := List.map_set
theorem ics_one (l : List Int) : ∀ u ∈ ics l, u.oneCell' = true := ints_oneCell .i64 l
theorem ics_zero (n : Nat) : ics (List.replicate n 0) = List.replicate n (.int .i64 0) := List.map_replicate

/-- The slice at A of n integers reads as l. -/
def RdI (w : World) (A : Option Addr) (n : Nat) (l : List Int) : Prop :=
  l.length = n ∧ (0 < n → ∃ a, A = some a ∧ ∀ j v, l[j]? = some v → w.cell? (a.add j) = some (.int .i64 v))

theorem RdI.len {w : World} {A : Option Addr} {n : Nat} {l : List Int} (h : RdI w A n l) : l.length = n := h.1
theorem RdI.at_ {w : World} {A : Option Addr} {n k : Nat} {l : List Int} (h : RdI w A n l) (hk : k < n) : ∃ a v, A = some a ∧ l[k]? = some v ∧ w.cell? (a.add k) = some (.int .i64 v) := by
  obtain ⟨h1, h3⟩ := h
  obtain ⟨a, e, hc⟩ := h3 (by omega)
  have hl : k < l.length := by omega
  exact ⟨a, l[k], e, List.getElem?_eq_getElem hl, hc k _ (List.getElem?_eq_getElem hl)⟩
/-- In the block of the slice, where it has a cell. -/
theorem RdI.lt {w : World} {A : Option Addr} {n : Nat} {l : List Int} (h : RdI w A n l) (hn : 0 < n) : ∃ a, A = some a ∧ a.block < w.heap.size := by
  obtain ⟨a, v, e, _, hc⟩ := h.at_ hn
  refine ⟨a, e, ?_⟩
  have := World.block_lt_of_cell? _ _ hc
  rwa [add_block] at this
theorem RdI.grown {w w' : World} {A : Option Addr} {n : Nat} {l : List Int} {row : Option Nat} (h : RdI w A n l) (hg : w.grownBy w' row) (ho : Off A n row) : RdI w' A n l := by
  refine ⟨h.1, fun hn => ?_⟩
  obtain ⟨a, e, hc⟩ := h.2 hn
  exact ⟨a, e, fun j v hv => hg.cell (hc j v hv) (by rw [add_block]; exact ho hn a e)⟩
theorem RdI.below {w w' : World} {A : Option Addr} {n : Nat} {l : List Int} (h : RdI w A n l) (hb : Below w.heap.size w w') : RdI w' A n l := h.grown (none_of_below hb) (Off.none_ _ _)
theorem RdI.alloc {w : World} {A : Option Addr} {n : Nat} {l : List Int} (h : RdI w A n l) (o : Obj) : RdI (w.alloc o) A n l := h.grown (World.grownBy_alloc w o none) (Off.none_ _ _)
theorem RdI.draws {w : World} {A : Option Addr} {n : Nat} {l : List Int} (h : RdI w A n l) (k : Nat) : RdI (w.drewN k) A n l := h
theorem RdI.nil_ (w : World) (A : Option Addr) : RdI w A 0 [] := ⟨rfl, fun h => absurd h (by omega)⟩

/-- A slice of integers that the call has made: its block is lo or above. -/
def OwnI (w : World) (lo : Nat) (A : Option Addr) (n c : Nat) (l : List Int) : Prop :=
  l.length = n ∧ w.ownsRow lo 3 1 (.slice A n c) n (ics l)

section
variable {w w' : World} {lo : Nat} {A : Option Addr} {n c : Nat} {l : List Int}
theorem OwnI.len (h : OwnI w lo A n c l) : l.length = n := h.1
theorem OwnI.row (h : OwnI w lo A n c l) : w.ownsRow lo 3 1 (.slice A n c) n (ics l) := h.2
theorem OwnI.form (h : OwnI w lo A n c l) : (A = none ∧ n = 0) ∨ ∃ g, A = some ⟨g, 0, none⟩ ∧ lo ≤ g ∧ g < w.heap.size := by
  rcases h.2.2 with ⟨e, h0⟩ | ⟨g, cap, cur, e, hb, hg, _⟩
  · injection e with e1
    exact .inl ⟨e1, h0⟩
  · injection e with e1
    exact .inr ⟨g, e1, hb, (Array.getElem?_eq_some_iff.1 hg).1⟩
theorem OwnI.rd (h : OwnI w lo A n c l) : RdI w A n l := by
  refine ⟨h.1, fun hn => ?_⟩
  rcases h.form with ⟨_, h0⟩ | ⟨g, e, _⟩
  · omega
  · subst e
    exact ⟨_, rfl, fun j v hv => h.row.cells (g := g) rfl j _ (ics_get hv)⟩
theorem OwnI.block (h : OwnI w lo A n c l) : ∀ k, (Value.slice A n c).ownBlock = some k → lo ≤ k ∧ k < w.heap.size := h.row.lt
theorem OwnI.grown {row : Option Nat} (h : OwnI w lo A n c l) (hg : w.grownBy w' row) (ho : (Value.slice A n c).ownBlock = none ∨ (Value.slice A n c).ownBlock ≠ row) : OwnI w' lo A n c l :=
  ⟨h.1, h.row.kept hg ho⟩
theorem OwnI.none_ (h : OwnI w lo A n c l) (hg : w.grownBy w' none) : OwnI w' lo A n c l := h.grown hg (by
  cases e : (Value.slice A n c).ownBlock with
  | none => exact .inl rfl
  | some k => exact .inr (by simp))
theorem OwnI.keep {row : Option Nat} (h : OwnI w lo A n c l) (hg : w.grownBy w' row) (hd : ∀ k, (Value.slice A n c).ownBlock = some k → row ≠ some k) : OwnI w' lo A n c l :=
  h.grown hg (by
    cases e : (Value.slice A n c).ownBlock with
    | none => exact .inl rfl
    | some k => exact .inr fun e' => hd k e e'.symm)
theorem OwnI.below (h : OwnI w lo A n c l) (hb : Below w.heap.size w w') : OwnI w' lo A n c l := h.none_ (none_of_below hb)
theorem OwnI.alloc (h : OwnI w lo A n c l) (o : Obj) : OwnI (w.alloc o) lo A n c l := ⟨h.1, h.row.alloc o⟩
theorem OwnI.draws (h : OwnI w lo A n c l) (k : Nat) : OwnI (w.drewN k) lo A n c l := h
theorem OwnI.less {lo' : Nat} (h : OwnI w lo A n c l) (hl : lo' ≤ lo) : OwnI w lo' A n c l := ⟨h.1, Joins.ownsRow_le h.row hl⟩
theorem OwnI.head (h : OwnI w lo A n c l) (hn : 0 < n) : ∃ g, A = some ⟨g, 0, none⟩ ∧ lo ≤ g ∧ g < w.heap.size ∧ (Value.slice A n c).ownBlock = some g := by
  rcases h.form with ⟨_, h0⟩ | ⟨g, e, h1, h2⟩
  · omega
  · subst e
    exact ⟨g, rfl, h1, h2, rfl⟩
end

theorem owni_empty (w : World) (lo : Nat) {A : Option Addr} {n c : Nat} (h : w.ownsRow lo 3 1 (.slice A n c) n []) (hn : n = 0) : OwnI w lo A n c [] := ⟨by simp [hn], h⟩
theorem owni_mk {w : World} {lo : Nat} {v : Value} {n : Nat} {l : List Int} (h : w.ownsRow lo 3 1 v n (ics l)) : ∃ A c, v = .slice A n c ∧ OwnI w lo A n c l := by
  have hl : l.length = n := by have := h.1; rw [ics_len] at this; omega
  rcases Joins.ownsRow_forms h with ⟨rfl, rfl⟩ | ⟨g, cap, rfl⟩
  · exact ⟨none, 0, rfl, hl, h⟩
  · exact ⟨_, cap, rfl, hl, h⟩

/-- One cell of an own slice is written. -/
theorem OwnI.set {w : World} {lo g n c : Nat} {l : List Int} (h : OwnI w lo (some ⟨g, 0, none⟩) n c l) (k : Nat) (v : Int) :
    OwnI (w.setCell ⟨g, k, none⟩ (.int .i64 v)) lo (some ⟨g, 0, none⟩) n c (l.set k v) ∧ w.grownBy (w.setCell ⟨g, k, none⟩ (.int .i64 v)) (some g) := by
  have hs := h.row.stored k (.int .i64 v)
  exact ⟨⟨by rw [List.length_set]; exact h.1, by rw [ics_set]; exact hs.1⟩, hs.2⟩
theorem OwnI.cellk {w : World} {lo g n c k : Nat} {l : List Int} (h : OwnI w lo (some ⟨g, 0, none⟩) n c l) (hk : k < n) : (∃ v, w.cell? ⟨g, k, none⟩ = some (.int .i64 v)) ∧ w.frozen? ⟨g, k, none⟩ = false := by
  refine ⟨?_, h.row.frozenAt k⟩
  have hl : k < l.length := by rw [h.1]; exact hk
  exact ⟨l[k], by rw [h.row.cellAt k (by omega)]; exact ics_get (List.getElem?_eq_getElem hl)⟩

theorem belowI_own {w w' : World} {lo : Nat} {A : Option Addr} {n c : Nat} {l : List Int} (h : OwnI w lo A n c l) (hg : w.grownBy w' (Value.slice A n c).ownBlock) (hlo : lo ≤ w.heap.size) : Below lo w w' :=
  (Below.refl lo w).grown hg hlo (fun k hk => (h.block k hk).1)

theorem heap_new_at (w : World) (o : Obj) : (w.alloc o).heap[w.heap.size]? = some o := by
  show (w.heap.push o)[w.heap.size]? = _
  simp

/-- A new block of one integer. -/
theorem rdi_one (w : World) (v : Int) (t : TypeId) : RdI (w.alloc (.cells #[.int .i64 v] t)) (some ⟨w.heap.size, 0, none⟩) 1 [v] := by
  refine ⟨rfl, fun _ => ⟨_, rfl, fun j x hx => ?_⟩⟩
  cases j with
  | zero =>
    have : v = x := by simpa using hx
    subst this
    rw [add_zero_lit, World.cell?_alloc_new]
    rfl
  | succ j => simp at hx
theorem owni_one (w : World) (v : Int) (lo : Nat) (hlo : lo ≤ w.heap.size) : OwnI (w.alloc (.cells #[.int .i64 v] 3)) lo (some ⟨w.heap.size, 0, none⟩) 1 1 [v] :=
  ⟨rfl, rfl, .inr ⟨w.heap.size, 1, #[.int .i64 v], rfl, hlo, heap_new_at w _, Nat.le_refl _, by unfold maxLen; omega, rfl, rfl⟩⟩
theorem owni_none (w : World) (lo : Nat) (hlo : lo ≤ w.heap.size) : OwnI (w.alloc (.cells #[] 3)) lo (some ⟨w.heap.size, 0, none⟩) 0 0 [] :=
  owni_empty _ _ (World.ownsRow_made w #[] 0 hlo (Nat.zero_le _) rfl) rfl
theorem owni_nil (w : World) (lo : Nat) : OwnI w lo none 0 0 [] := owni_empty _ _ (World.ownsRow_nil w lo _ 1) rfl

theorem run_noneI (P : Program) (w : World) (t ty : TypeId) (i : TypeInfo) (ht : P.underlying t = some (.slice 3)) (hi : P.info? 3 = some i) (lo : Nat) (v : Value) (n d : Nat) (xs : List Value) (hown : w.ownsRow lo 3 1 v n xs) :
    (Builtin.append_ #[t, t] ty #[v, .slice none 0 d]).run P w = .ok v w := by
  rcases hown.2 with ⟨rfl, rfl⟩ | ⟨g, cap, cur, rfl, _, _, hnc, _⟩
  · simp [Builtin.append_, run_underlying ht, sizeOf, typeInfo, hi, Builtin.lenOf, Builtin.firstCells]
  · simp [Builtin.append_, run_underlying ht, sizeOf, typeInfo, hi, Builtin.lenOf, Builtin.firstCells, hnc, storeCells]

/-- An operation whose guard, if it has one, says yes. -/
theorem wpList_wanted {P : Program} {w : World} {ops : Array Oper} {rest : List Oper} {o : Oper} {a : Act} {Q : Exit → Act → World → Prop} (hw : Region.wanted o (yielded ops a.tmps))
    (h : ∀ K : Act → World → Prop, (∀ a w, wpList P ops Q rest a w → K a w) → o.wp P a w K Q) : wpList P ops Q (o :: rest) a w :=
  wpList_step fun K hK => by rw [if_pos hw]; exact h K hK

/-- append of a slice that reads as r onto an own one. -/
theorem append_rdi_w {P : Program} {w : World} {ops : Array Oper} {rest : List Oper} {o : Oper} {a : Act} {Q : Exit → Act → World → Prop} (hgd : Region.wanted o (yielded ops a.tmps)) (s x : Operand) (t : TypeId)
    (ho : o.op = .call { callee := .builtin .append, args := #[s, x], argTypes := #[t, t] })
    (i : TypeInfo) (ht : P.underlying t = some (.slice 3)) (hi : P.info? 3 = some i) (hz : i.zero = some (.int .i64 0)) (hsize : i.size = 1) (hby : i.bytes = 8)
    (lo : Nat) (A : Option Addr) (n c : Nat) (l : List Int) (hs : a.eval s = .slice A n c) (hown : OwnI w lo A n c l)
    (B : Option Addr) (m d : Nat) (r : List Int) (hx : a.eval x = .slice B m d) (hr : RdI w B m r) (hb : n + m ≤ 17592186044416) (hlo : lo ≤ w.heap.size)
    (h : ∀ A' c' w', OwnI w' lo A' (n + m) c' (l ++ r) → Below lo w w' → w.grownBy w' (Value.slice A n c).ownBlock → wpList P ops Q rest (a.put o.dst (.slice A' (n + m) c')) w') : wpList P ops Q (o :: rest) a w := by
  have close : ∀ v' w', w'.ownsRow lo 3 1 v' (n + m) (ics l ++ ics r) → w.grownBy w' (Value.slice A n c).ownBlock → wpList P ops Q rest (a.put o.dst v') w' := fun v' w' h1 h2 => by
    rw [← ics_app] at h1
    obtain ⟨A', c', rfl, h3⟩ := owni_mk h1
    exact h A' c' w' h3 (belowI_own hown h2 hlo) h2
  have hl : (ics r).length = m * 1 := by rw [ics_len, hr.len, Nat.mul_one]
  have hmax : n + m ≤ maxLen := by unfold maxLen; omega
  cases B with
  | none =>
    have hm : m = 0 := by
      rcases Nat.eq_zero_or_pos m with h0 | h0
      · exact h0
      · obtain ⟨_, e, _⟩ := hr.2 h0
        cases e
    subst hm
    have hr0 : r = [] := List.eq_nil_of_length_eq_zero hr.len
    subst hr0
    have hrun := run_noneI P w t o.type i ht hi lo _ n d (ics l) hown.row
    refine wpList_wanted hgd fun K hK => ?_
    unfold Oper.wp
    simp [execOp, ho, resolve, invoke, builtin, hs, hx, hrun, Result.andThen]
    exact hK _ _ (close _ _ (by simpa [ics] using hown.row) (World.grownBy.refl _ _))
  | some ad =>
    refine wpList_wanted hgd fun K hK => wp_append_own w s x t ho lo 3 i (.int .i64 0) 1 8 ht hi hz hsize hby rfl (by omega) (.slice A n c) n (ics l) hs hown.row ad m d (ics r) hx hl ?_ (ics_one r) hmax (by omega) hlo ?_
    · intro j u hu
      have hj : j < r.length := by
        have := (List.getElem?_eq_some_iff.1 hu).1
        rwa [ics_len] at this
      obtain ⟨_, e, hc⟩ := hr.2 (by have := hr.len; omega)
      obtain rfl := Option.some.inj e
      have hrj : r[j]? = some r[j] := List.getElem?_eq_getElem hj
      rw [ics_get hrj] at hu
      rw [← hu]
      exact hc j _ hrj
    · intro v' w' h1 h2 _
      exact hK _ _ (close v' w' h1 h2)

theorem append_rdi {P : Program} {w : World} {ops : Array Oper} {rest : List Oper} {o : Oper} {a : Act} {Q : Exit → Act → World → Prop} (hgd : o.guard = none) (s x : Operand) (t : TypeId)
    (ho : o.op = .call { callee := .builtin .append, args := #[s, x], argTypes := #[t, t] })
    (i : TypeInfo) (ht : P.underlying t = some (.slice 3)) (hi : P.info? 3 = some i) (hz : i.zero = some (.int .i64 0)) (hsize : i.size = 1) (hby : i.bytes = 8)
    (lo : Nat) (A : Option Addr) (n c : Nat) (l : List Int) (hs : a.eval s = .slice A n c) (hown : OwnI w lo A n c l)
    (B : Option Addr) (m d : Nat) (r : List Int) (hx : a.eval x = .slice B m d) (hr : RdI w B m r) (hb : n + m ≤ 17592186044416) (hlo : lo ≤ w.heap.size)
    (h : ∀ A' c' w', OwnI w' lo A' (n + m) c' (l ++ r) → Below lo w w' → w.grownBy w' (Value.slice A n c).ownBlock → wpList P ops Q rest (a.put o.dst (.slice A' (n + m) c')) w') : wpList P ops Q (o :: rest) a w :=
  append_rdi_w (by simp [Region.wanted, hgd]) s x t ho i ht hi hz hsize hby lo A n c l hs hown B m d r hx hr hb hlo h

end Go.Proofs.YteoilhbidnnneaaDoor.imem

/-
  The model's draws of lists: a new slice of a bounded number of bytes or of integers; nothing that was there is changed but the cursor.
  Conditions: those that each theorem names.
-/
namespace Go.Proofs.YteoilhbidnnneaaDoor.draw
open Go.ChangeShapes Go.WideShapes Go.ChangeAt Go.RowKit mem imem
set_option linter.unusedVariables false

theorem code_of_rd {w : World} {A : Option Addr} {n : Nat} {l : List Int} (h : Rd w A n l) : Code w w.heap.size A n := fun hn => by
  obtain ⟨a, e, hlt⟩ := h.lt hn
  refine ⟨a, e, hlt, fun j hj => ?_⟩
  obtain ⟨a', v, e', hv, v0, v1, hc⟩ := h.at_ hj
  rw [e] at e'
  obtain rfl := Option.some.inj e'
  exact ⟨v, v0, v1, hc⟩
theorem Cur.far {w w' : World} {N B : Nat} (h : Cur w N) (hb : Below B w w') (hN : N < B) : Cur w' N := by
  obtain ⟨A, n, c, i, x, hbk, hc, hn, i0, i1⟩ := h
  exact ⟨A, n, c, i, x, (hb.block N hN).trans hbk, hc.keep fun k hlt => hb.block k (by omega), hn, i0, i1⟩
theorem only_far {a w w' : World} {N : Nat} (h : a.grownBy w (some N)) (hb : Below a.heap.size w w') : a.grownBy w' (some N) :=
  ⟨hb.os.trans h.os, hb.tape.trans h.tape, hb.output.trans h.output, Nat.le_trans h.size hb.size, fun k hk hne => (hb.block k hk).trans (h.block k hk hne)⟩





end Go.Proofs.YteoilhbidnnneaaDoor.draw

/-
  The answer of a call in a variable of its own, whenever a region that draws its order makes that variable.
  Conditions: those that each theorem names.
-/
namespace Go.Proofs.YteoilhbidnnneaaDoor.tree
open Go.ChangeShapes Go.WideShapes Go.ChangeAt Go.RowKit
set_option linter.unusedVariables false

/-- The model's answer in a box. -/
def CutM (w1 : World) (bb : Bool) (K N : Int) (Z : ByteArray) (X : Int) (RL : Nat) (RT : Tr) (p f : Value) (wx : World) : Prop :=
  ∃ B A c, p = .pointer (some ⟨B, 0, none⟩) ∧ f = .bool bb ∧ Below w1.heap.size w1 wx ∧ w1.heap.size ≤ B ∧ wx.heap[B]? = some (.cells #[.int .i64 K, .int .i64 N, .string Z, .int .i64 X, .slice A RL c] IV (0, 0)) ∧ TIn wx (fun b => b ≠ B) RT (vV K N Z X A RL c)
/-- The project's answer in a box. -/
def CutP (w1 : World) (bb : Bool) (K N : Int) (Z : ByteArray) (X : Int) (RL : Nat) (RT : Tr) (p f : Value) (wx : World) : Prop :=
  ∃ B A c par r, p = .pointer (some ⟨B, 0, none⟩) ∧ f = .bool bb ∧ Below w1.heap.size w1 wx ∧ w1.heap.size ≤ B ∧ wx.heap[B]? = some (.cells #[.int .i64 K, .int .i64 N, .string Z, .int .i64 X, .slice A RL c] IV (0, 0)) ∧ TPar wx par (r, 0) RT (vV K N Z X A RL c) ∧ w1.heap.size ≤ r ∧ ∃ hi, (∀ b, Hang par (r, 0) b → Rg (r + 1) hi b) ∧ hi ≤ wx.heap.size ∧ (B ≤ r ∨ hi ≤ B)

section
variable {w1 n wF : World} {bb : Bool} {K N X : Int} {Z : ByteArray} {RL c B : Nat} {RT : Tr} {A : Option Addr} {S : Nat → Prop}
theorem cutM_early (hw : Below w1.heap.size w1 n) (hB : w1.heap.size ≤ B) (ez : n.heap[B]? = some (.cells #[.int .i64 0, .int .i64 0, .string ⟨#[]⟩, .int .i64 0, .slice none 0 0] IV (0, 0))) (hv : TIn n S RT (vV K N Z X A RL c)) (hS : ∀ q, S q → q ≠ B)
    (hF : (((((n.setCell ⟨B, 0, none⟩ (.int .i64 K)).setCell ⟨B, 1, none⟩ (.int .i64 N)).setCell ⟨B, 2, none⟩ (.string Z)).setCell ⟨B, 3, none⟩ (.int .i64 X)).setCell ⟨B, 4, none⟩ (.slice A RL c)) = wF) :
    CutM w1 bb K N Z X RL RT (.pointer (some ⟨B, 0, none⟩)) (.bool bb) wF := by
  obtain ⟨-, oF, bF⟩ := fill5 ez hF
  have eF : wF.heap[B]? = some (.cells #[.int .i64 K, .int .i64 N, .string Z, .int .i64 X, .slice A RL c] IV (0, 0)) := by
    rw [← hF]
    have := set_heap (set_heap (set_heap (set_heap (set_heap ez 0 (.int .i64 K)) 1 (.int .i64 N)) 2 (.string Z)) 3 (.int .i64 X)) 4 (.slice A RL c)
    simpa using this
  exact ⟨B, A, c, rfl, rfl, bF _ _ hB hw, hB, eF, hv.stays hS fun b hb _ => oF b (hS b hb)⟩
theorem cutM_last (hw : Below w1.heap.size w1 n) (hv : TIn n S RT (vV K N Z X A RL c))
    (hF : ((((((n.alloc (.cells #[.int .i64 0, .int .i64 0, .string ⟨#[]⟩, .int .i64 0, .slice none 0 0] IV)).setCell ⟨n.heap.size, 0, none⟩ (.int .i64 K)).setCell ⟨n.heap.size, 1, none⟩ (.int .i64 N)).setCell ⟨n.heap.size, 2, none⟩ (.string Z)).setCell ⟨n.heap.size, 3, none⟩ (.int .i64 X)).setCell ⟨n.heap.size, 4, none⟩ (.slice A RL c)) = wF) :
    CutM w1 bb K N Z X RL RT (.pointer (some ⟨n.heap.size, 0, none⟩)) (.bool bb) wF := by
  refine cutM_early (S := fun b => b < n.heap.size) (bs hw (b1 n _)) hw.size (heap_alloc_new n _) (hv.lt'.below' (b1 n _)) (fun q hq e => ?_) hF
  have hq' : q < n.heap.size := hq
  omega
theorem cutP_early {par : Nat → Nat × Nat} {r : Nat} (hw : Below w1.heap.size w1 n) (hB : w1.heap.size ≤ B) (ez : n.heap[B]? = some (.cells #[.int .i64 0, .int .i64 0, .string ⟨#[]⟩, .int .i64 0, .slice none 0 0] IV (0, 0))) (hv : TPar n par (r, 0) RT (vV K N Z X A RL c)) (hr : B ≤ r)
    (hF : (((((n.setCell ⟨B, 0, none⟩ (.int .i64 K)).setCell ⟨B, 1, none⟩ (.int .i64 N)).setCell ⟨B, 2, none⟩ (.string Z)).setCell ⟨B, 3, none⟩ (.int .i64 X)).setCell ⟨B, 4, none⟩ (.slice A RL c)) = wF) :
    CutP w1 bb K N Z X RL RT (.pointer (some ⟨B, 0, none⟩)) (.bool bb) wF := by
  obtain ⟨-, oF, bF⟩ := fill5 ez hF
  have eF : wF.heap[B]? = some (.cells #[.int .i64 K, .int .i64 N, .string Z, .int .i64 X, .slice A RL c] IV (0, 0)) := by
    rw [← hF]
    have := set_heap (set_heap (set_heap (set_heap (set_heap ez 0 (.int .i64 K)) 1 (.int .i64 N)) 2 (.string Z)) 3 (.int .i64 X)) 4 (.slice A RL c)
    simpa using this
  obtain ⟨p2, h2, h3⟩ := hv.tight
  have hz : wF.heap.size = n.heap.size := by rw [← hF]; simp []
  exact ⟨B, A, c, p2, r, rfl, rfl, bF _ _ hB hw, hB, eF, h2.above fun b hb _ => oF b (by simp at hb; omega), Nat.le_trans hB hr, n.heap.size, h3, by rw [hz]; exact Nat.le_refl _, .inl hr⟩
theorem cutP_last {par : Nat → Nat × Nat} {r : Nat} (hw : Below w1.heap.size w1 n) (hv : TPar n par (r, 0) RT (vV K N Z X A RL c)) (hr : w1.heap.size ≤ r)
    (hF : ((((((n.alloc (.cells #[.int .i64 0, .int .i64 0, .string ⟨#[]⟩, .int .i64 0, .slice none 0 0] IV)).setCell ⟨n.heap.size, 0, none⟩ (.int .i64 K)).setCell ⟨n.heap.size, 1, none⟩ (.int .i64 N)).setCell ⟨n.heap.size, 2, none⟩ (.string Z)).setCell ⟨n.heap.size, 3, none⟩ (.int .i64 X)).setCell ⟨n.heap.size, 4, none⟩ (.slice A RL c)) = wF) :
    CutP w1 bb K N Z X RL RT (.pointer (some ⟨n.heap.size, 0, none⟩)) (.bool bb) wF := by
  obtain ⟨en, hbx, hz⟩ := newbox hF
  obtain ⟨p2, h2, h3⟩ := hv.tight
  exact ⟨n.heap.size, A, c, p2, r, rfl, rfl, bs hw hbx, hw.size, en, h2.above fun b _ hl => hbx.block b hl, hr, n.heap.size, h3, by omega, .inr (Nat.le_refl _)⟩
theorem cutM_box (hw : Below w1.heap.size w1 n) (hv : TIn n S RT (vV K N Z X A RL c)) :
    CutM w1 bb K N Z X RL RT (.pointer (some ⟨n.heap.size, 0, none⟩)) (.bool bb) (n.alloc (.cells #[.int .i64 K, .int .i64 N, .string Z, .int .i64 X, .slice A RL c] IV)) := by
  refine ⟨n.heap.size, A, c, rfl, rfl, bs hw (b1 n _), hw.size, heap_alloc_new n _, ((hv.lt'.below' (b1 n _)).stays (fun q hq e => ?_) (fun _ _ _ => rfl))⟩
  have hq' : q < n.heap.size := hq
  omega
theorem cutP_box {par : Nat → Nat × Nat} {r : Nat} (hw : Below w1.heap.size w1 n) (hv : TPar n par (r, 0) RT (vV K N Z X A RL c)) (hr : w1.heap.size ≤ r) :
    CutP w1 bb K N Z X RL RT (.pointer (some ⟨n.heap.size, 0, none⟩)) (.bool bb) (n.alloc (.cells #[.int .i64 K, .int .i64 N, .string Z, .int .i64 X, .slice A RL c] IV)) := by
  obtain ⟨p2, h2, h3⟩ := hv.tight
  exact ⟨n.heap.size, A, c, p2, r, rfl, rfl, bs hw (b1 n _), hw.size, heap_alloc_new n _, h2.above fun b _ hl => (b1 n _).block b hl, hr, n.heap.size, h3, (b1 n _).size, .inr (Nat.le_refl _)⟩
end

end Go.Proofs.YteoilhbidnnneaaDoor.tree

