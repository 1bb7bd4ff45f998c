/-
  What the texts behind this one use: 2 parts of one proof.
  Conditions: those that each theorem names.
-/
import Derived.Test.YtdglmnmalfpipaaGreatDoorVSMarkX
import Derived.Test.YtdglmnmalfpipaaGreatDoorVSHeldT
import Derived.Test.YtdglmnmalfpipaaGreatDoorVSTDs
import Derived.Test.YtdglmnmalfpipaaGreatDoorVB15
import Derived.Test.YtdglmnmalfpipaaGreatDoorVB5
import Derived.Test.YtdglmnmalfpipaaGreatDoorVSLawBox
import Derived.Deep.CutBlock
import Derived.Deep.DeepCutAuto
/-
  An own table marked, with what it holds then, and its marks found again.
  Conditions: those that each theorem names.
-/
namespace Go.Proofs.YtdglmnmalfpipaaGreatDoor.tree
open Go.ChangeShapes Go.WideShapes Go.ChangeAt Go.RowKit
set_option linter.unusedVariables false

section
variable {w w' : World} {par : Nat → Nat × Nat} {R g L j : Nat} {sl : List Sl}
theorem LaidP.tight (h : LaidP w par R g L j sl) : ∃ par', LaidP w par' R g L j sl ∧ ∀ i b, Hang par' (R, i) b → Rg (R + 1) w.heap.size b := by
  refine ⟨fun b => if b < w.heap.size then par b else (b, 0), ?_, fun i b hb => ⟨by have := hb.gt; simp at this; omega, ?_⟩⟩
  · obtain ⟨arr, ha, hs, h⟩ := h
    refine ⟨arr, ha, hs, fun i t ht => ?_⟩
    obtain ⟨h1, h2, h3, h4, h5⟩ := h i t ht
    refine ⟨h1, h2, h3, h4, fun hj => ?_⟩
    obtain ⟨k, n, s, x, ks, vs, A, c, hv, hT, hc⟩ := h5 hj
    exact ⟨k, n, s, x, ks, vs, A, c, hv, hT.par_ fun b hb => if_pos hb, hc⟩
  · cases hb with
    | root _ e hlt =>
      by_cases hb : b < w.heap.size
      · exact hb
      · rw [if_neg hb] at e
        injection e with e1 e2
        simp at hlt
        omega
    | step _ g j e hlt hh =>
      by_cases hb : b < w.heap.size
      · exact hb
      · rw [if_neg hb] at e
        injection e with e1 e2
        omega
/-- What hangs there, and the slots' block, stay. -/
theorem LaidP.keep (h : LaidP w par R g L j sl) (hs : ∀ b, SlF par R g b → b < w.heap.size → w'.heap[b]? = w.heap[b]?) : LaidP w' par R g L j sl := by
  obtain ⟨arr, ha, hz, h⟩ := h
  refine ⟨arr, (hs g (.inl rfl) (Array.getElem?_eq_some_iff.1 ha).1).trans ha, hz, fun i t ht => ?_⟩
  obtain ⟨h1, h2, h3, h4, h5⟩ := h i t ht
  refine ⟨h1, h2, h3, h4, fun hj => ?_⟩
  obtain ⟨k, n, s, x, ks, vs, A, c, hv, hT, hc⟩ := h5 hj
  exact ⟨k, n, s, x, ks, vs, A, c, hv, hT.keep fun b hb hlt => hs b (.inr ⟨i, hb⟩) hlt, hc⟩
/-- As the slots of a table. -/
theorem LaidP.sin (h : LaidP w par R g L j sl) (hl : sl.length ≤ j) : SIn w (fun b => (b = g ∨ R < b) ∧ Plain w b) sl (some ⟨g, 0, none⟩) := fun i t ht => by
  obtain ⟨arr, ha, hz, h⟩ := h
  obtain ⟨h1, h2, h3, h4, h5⟩ := h i t ht
  obtain ⟨k, n, s, x, ks, vs, A, c, hv, hT, hc⟩ := h5 (by have := (List.getElem?_eq_some_iff.1 ht).1; omega)
  obtain ⟨r, -⟩ := rowc ha
  have e : (⟨g, 0, none⟩ : Addr).add (i * 10) = ⟨g, i * 10, none⟩ := mem.add_zero_lit g (i * 10)
  refine ⟨_, k, n, s, x, ks, vs, A, c, rfl, ⟨.inl rfl, _, _, ha⟩, h1, h2, hv, hT.tin.stays (fun b hb => ⟨.inr (by have := hb.1; omega), hb.2⟩) (fun _ _ _ => rfl), ?_⟩
  rw [e]
  have z : ∀ q, q < 10 → w.cell? ⟨g, i * 10 + q, none⟩ = _ := fun q hq => (r _).trans (hc q hq)
  exact ⟨z 0 (by omega), z 1 (by omega), z 2 (by omega), z 3 (by omega), z 4 (by omega), z 5 (by omega), z 6 (by omega), z 7 (by omega), z 8 (by omega), z 9 (by omega)⟩
end

/-- The blocks of an own table. -/
def TbF (par : Nat → Nat × Nat) (R : Nat) (A B : Option Addr) (b : Nat) : Prop := (∃ a, A = some a ∧ b = a.block) ∨ (∃ a, B = some a ∧ b = a.block) ∨ ∃ i, Hang par (R, i) b
section
variable {w w' : World} {par : Nat → Nat × Nat} {R lo n c m d : Nat} {l : List Int} {sl : List Sl} {A B : Option Addr}
theorem own_tbf {q : Nat} (e : (Value.slice A n c).ownBlock = some q) : TbF par R A B q := by
  cases A with
  | none => simp [Value.ownBlock] at e
  | some a =>
    simp only [Value.ownBlock, Option.some.injEq] at e
    exact .inl ⟨a, rfl, e.symm⟩
theorem OwnT.keep (h : OwnT w par R lo l sl A n c B m d) (hs : ∀ b, TbF par R A B b → b < w.heap.size → w'.heap[b]? = w.heap[b]?) : OwnT w' par R lo l sl A n c B m d := by
  refine ⟨owni_blk h.heads fun q e => hs q (own_tbf e) (h.heads.block q e).2, h.low, h.len, h.cap, h.nod, ?_⟩
  rcases h.slots with h0 | ⟨g, e, h1, h2, h3, h4, h5⟩
  · exact .inl h0
  · refine .inr ⟨g, e, h1, h2, h3, h4, h5.keep fun b hb hlt => hs b ?_ hlt⟩
    rcases hb with rfl | hb
    · exact .inr (.inl ⟨_, e, rfl⟩)
    · exact .inr (.inr hb)
theorem OwnT.below (h : OwnT w par R lo l sl A n c B m d) (hb : Below w.heap.size w w') : OwnT w' par R lo l sl A n c B m d := h.keep fun b _ hlt => hb.block b hlt
/-- No block of it lies behind the world's end. -/
theorem OwnT.tight (h : OwnT w par R lo l sl A n c B m d) : ∃ par', OwnT w par' R lo l sl A n c B m d ∧ ∀ b, TbF par' R A B b → Rg lo w.heap.size b := by
  have hd : ∀ b, (∃ a, A = some a ∧ b = a.block) → Rg lo w.heap.size b := fun b ⟨a, e, hb⟩ => by
    subst e
    have := h.heads.block a.block rfl
    exact ⟨by omega, by omega⟩
  rcases h.slots with ⟨rfl, h0⟩ | ⟨g, rfl, h1, h2, h3, h4, h5⟩
  · refine ⟨fun b => (b, 0), ⟨h.heads, h.low, h.len, h.cap, h.nod, .inl ⟨rfl, h0⟩⟩, fun b hb => ?_⟩
    rcases hb with hb | ⟨a, e, -⟩ | ⟨i, hb⟩
    · exact hd b hb
    · cases e
    · exfalso
      have key : ∀ b, Hang (fun b => (b, 0)) (R, i) b → False := fun b hb => by
        induction hb with
        | root b e hlt => injection e with e1 e2; simp at hlt; omega
        | step b g j e hlt hh ih => exact ih
      exact key b hb
  · obtain ⟨par', hp, hr⟩ := h5.tight
    refine ⟨par', ⟨h.heads, h.low, h.len, h.cap, h.nod, .inr ⟨g, rfl, h1, h2, h3, h4, hp⟩⟩, fun b hb => ?_⟩
    rcases hb with hb | ⟨a, e, rfl⟩ | ⟨i, hb⟩
    · exact hd b hb
    · injection e with e
      subst e
      obtain ⟨arr, ha, -⟩ := hp
      exact ⟨h1, (Array.getElem?_eq_some_iff.1 ha).1⟩
    · have := hr i b hb
      exact ⟨by have := this.1; omega, this.2⟩
/-- As a table that is read. -/
theorem OwnT.tbin {x k : Int} (h : OwnT w par R lo l sl A n c B m d) (hn : n ≤ maxLen) (hx : I64 x) (hk : I64 k) : TbIn w (fun _ => True) l sl A n c B m d x k := by
  refine ⟨h.heads.rd, hn, h.len, h.cap, ?_, hx, hk⟩
  · rcases h.slots with ⟨-, h0⟩ | ⟨g, rfl, -, -, h3, -, h5⟩
    · have : sl = [] := List.length_eq_zero_iff.1 (by rw [h.len]; exact h0)
      subst this
      intro i t ht
      simp at ht
    · exact (h5.sin (by rw [h.len]; exact Nat.le_refl _)).stays (fun _ _ => trivial) (fun _ _ _ => rfl)
end

set_option maxHeartbeats 1600000 in
theorem markTableX {par : Nat → Nat × Nat} {R lo n c m d : Nat} {l : List Int} {sl : List Sl} {A B : Option Addr} {b : Bool} {x k : Int} (w : World) (h : OwnT w par R lo l sl A n c B m d) (hn : n ≤ 1048576) (hc : cS sl ≤ 99000000000) :
    Calls Tryz.prog 48 #[tbV b A n c B m d x k, .int .i64 1] w (fun e w' => e = .returned (.int .i64 (1 + (n : Int) + cS sl)) ∧ (∃ l2, FromI 1 n l2 ∧ OwnT w' par R lo l2 (mkSls (1 + (n : Int)) sl) A n c B m d) ∧ Fr (TbF par R A B) w w') := by
  have M1 := Lib.hid (fun w' (hw : Below w.heap.size w w') => markIntsX A n c lo l w' (h.heads.below hw) hn 1 (by omega) (by omega))
  obtain ⟨W, HW⟩ : ∃ W : Int, Hid (1 + (n : Int) + cS sl = W) := ⟨_, Lib.hid rfl⟩
  have M2 : Hid (∀ w', (((B = none ∧ m = 0) ∨ ∃ g, B = some ⟨g, 0, none⟩ ∧ lo ≤ g ∧ g ≤ R ∧ (m ≤ d ∧ d ≤ maxLen) ∧ (∀ h, (Value.slice A n c).ownBlock = some h → h ≠ g) ∧ LaidP w' par R g d m sl)) → Calls Tryz.prog 121 #[.slice B m d, .int .i64 (1 + (n : Int))] w' (fun e w2 => e = .returned (.int .i64 W) ∧ ((B = none ∧ m = 0) ∨ ∃ g, B = some ⟨g, 0, none⟩ ∧ lo ≤ g ∧ g ≤ R ∧ (m ≤ d ∧ d ≤ maxLen) ∧ (∀ h, (Value.slice A n c).ownBlock = some h → h ≠ g) ∧ LaidP w2 par R g d m (mkSls (1 + (n : Int)) sl)) ∧ Fr (fun b => (∃ a, B = some a ∧ b = a.block) ∨ ∃ i, Hang par (R, i) b) w' w2)) := Lib.hid (fun w' hs => by
    rw [← HW.out]
    rcases hs with ⟨rfl, rfl⟩ | ⟨g, rfl, h1, h2, h3, h4, h5⟩
    · have hnil : sl = [] := List.length_eq_zero_iff.1 h.len
      subst hnil
      refine (markSlots [] (1 + (n : Int)) (by omega) (by omega) w' (fun _ => False) none d (fun i t ht => by simp at ht) (Nat.zero_le _) (fun b hb => hb.elim)).mono ?_
      rintro e w2 ⟨rfl, hs⟩
      exact ⟨rfl, .inl ⟨rfl, rfl⟩, hs.fr.mono fun b hb => hb.elim⟩
    · refine (markSlotsX sl (1 + (n : Int)) (by omega) (by omega) w' par R g d m h.len h3 h2 h5).mono ?_
      rintro e w2 ⟨rfl, hl, hf⟩
      refine ⟨rfl, .inr ⟨g, rfl, h1, h2, h3, h4, hl⟩, hf.mono fun b hb => ?_⟩
      rcases hb with rfl | hb
      · exact .inl ⟨_, rfl, rfl⟩
      · exact .inr hb)
  have HT := Lib.hid h
  rw [HW.out]
  clear h hc
  go_enter Tryz.func48, Tryz.ntmps48
  go_wp2_with (fail)
  refine (M1.out _ (b1 w _)).mono ?_
  rintro e w1 ⟨rfl, hf, l2, ho2, hfr⟩
  have hB := b1 w (.cells #[.bool b, .slice A n c, .slice B m d, .int .i64 x, .int .i64 k] IT)
  have hne : ∀ q, ((∃ a, B = some a ∧ q = a.block) ∨ ∃ i, Hang par (R, i) q) → (Value.slice A n c).ownBlock ≠ some q := fun q hq e => by
    have hl := HT.out.low q e
    rcases hq with ⟨a, ha, rfl⟩ | ⟨i, hh⟩
    · rcases HT.out.slots with ⟨h0, -⟩ | ⟨g, h0, -, -, -, h4, -⟩
      · rw [h0] at ha; cases ha
      · rw [h0] at ha; injection ha with ha; subst ha; exact h4 _ e rfl
    · have := hh.gt; simp at this; omega
  have hk : ∀ q, ((∃ a, B = some a ∧ q = a.block) ∨ ∃ i, Hang par (R, i) q) → q < w.heap.size → w1.heap[q]? = w.heap[q]? := fun q hq hl => (hf.block q (Nat.lt_of_lt_of_le hl hB.size) (hne q hq)).trans (hB.block q hl)
  have HS1 : Hid ((B = none ∧ m = 0) ∨ ∃ g, B = some ⟨g, 0, none⟩ ∧ lo ≤ g ∧ g ≤ R ∧ (m ≤ d ∧ d ≤ maxLen) ∧ (∀ h, (Value.slice A n c).ownBlock = some h → h ≠ g) ∧ LaidP w1 par R g d m sl) := Lib.hid (by
    rcases HT.out.slots with h0 | ⟨g, e, h1, h2, h3, h4, h5⟩
    · exact .inl h0
    · refine .inr ⟨g, e, h1, h2, h3, h4, h5.keep fun q hq hl => hk q ?_ hl⟩
      rcases hq with rfl | hq
      · exact .inl ⟨_, e, rfl⟩
      · exact .inr hq)
  have hbx : w1.heap[w.heap.size]? = some (.cells #[.bool b, .slice A n c, .slice B m d, .int .i64 x, .int .i64 k] IT (0, 0)) := (hf.block w.heap.size (by simp) (fun e => by have := (HT.out.heads.block _ e).2; omega)).trans (heap_alloc_new w _)
  have HF1 : Hid (Fr (TbF par R A B) w w1) := Lib.hid ((Fr.of hB).trans (hf.mono fun q e => own_tbf e))
  have HO2 := Lib.hid ho2
  have HFI := Lib.hid hfr
  have HNE := Lib.hid hne
  have q2 := (rowc hbx).1 2
  simp at q2
  clear hf hB hk hbx ho2 hfr hne
  go_wp2_with (fail)
  refine (M2.out _ HS1.out).mono ?_
  rintro e w2 ⟨rfl, hs2, hf2⟩
  have HF2 : Hid (Fr (TbF par R A B) w w2) := Lib.hid (HF1.out.trans (hf2.mono fun q hq => .inr hq))
  have HT2 : Hid (OwnT w2 par R lo l2 (mkSls (1 + (n : Int)) sl) A n c B m d) := Lib.hid ⟨owni_blk HO2.out fun q e => hf2.block q (HO2.out.block q e).2 (fun hh => HNE.out q hh e), HT.out.low, by rw [mkSls_len]; exact HT.out.len, HT.out.cap, HT.out.nod, hs2⟩
  clear hs2 hf2 q2
  go_wp2_with (fail)
  go_ret
  exact ⟨rfl, ⟨l2, HFI.out, HT2.out⟩, HF2.out⟩

set_option maxHeartbeats 1600000 in
theorem heldTable {n c m d : Nat} {l : List Int} {sl : List Sl} {A B : Option Addr} {b : Bool} {x k : Int} {S : Nat → Prop} (w : World) (h : imem.RdI w A n l) (hs : SIn w S (mkSls (1 + (n : Int)) sl) B) (hm : sl.length = m) (hmx : m ≤ maxLen) (hn : n ≤ 1048576) (hf : FromI 1 n l) (hc : cS sl ≤ 99000000000) :
    Calls Tryz.prog 50 #[tbV b A n c B m d x k, .int .i64 1] w (GivesQ w (.int .i64 (1 + (n : Int) + cS sl))) := by
  have M1 := Lib.hid (fun w' (hw : Below w.heap.size w w') => heldInts A n c l w' (h.below hw) hn 1 hf (by omega) (by omega))
  obtain ⟨W, HW⟩ : ∃ W : Int, Hid (1 + (n : Int) + cS sl = W) := ⟨_, Lib.hid rfl⟩
  have hW : 1 ≤ W := by rw [← HW.out]; omega
  have hW2 : W ≤ 100000000000 := by rw [← HW.out]; omega
  have M2 : Hid (∀ w', Below w.heap.size w w' → Calls Tryz.prog 124 #[.slice B m d, .int .i64 (1 + (n : Int))] w' (GivesQ w' (.int .i64 W))) := Lib.hid (fun w' hw => by
    have := heldSlots sl (1 + (n : Int)) (by omega) (by omega) w' S B d (hs.below hw) (by omega)
    rw [hm, HW.out] at this
    exact this)
  rw [HW.out]
  clear h hs hf hc hm
  go_enter Tryz.func50, Tryz.ntmps50
  go_wp2_with (fail)
  refine (M1.out _ (b1 w _)).mono ?_
  rintro e w1 ⟨rfl, hb1⟩
  have hbx := carry hb1 (heap_alloc_new w (.cells #[.bool b, .slice A n c, .slice B m d, .int .i64 x, .int .i64 k] IT))
  have HB1 := Lib.hid (bs (b1 w _) hb1)
  have q2 := (rowc hbx).1 2
  simp at q2
  clear hb1 hbx
  go_wp2_with (fail)
  refine (M2.out _ HB1.out).mono ?_
  rintro e w2 ⟨rfl, hb2⟩
  have HB2 := Lib.hid (bs HB1.out hb2)
  clear hb2 q2
  go_wp2_with (fail)
  go_ret
  exact ⟨rfl, HB2.out⟩

end Go.Proofs.YtdglmnmalfpipaaGreatDoor.tree

/-
  The answer of a call that gives a table, in a variable of its own, whenever a region that draws its order makes that variable.
  Conditions: those that each theorem names.
-/
namespace Go.Proofs.YtdglmnmalfpipaaGreatDoor.tree
open Go.ChangeShapes Go.WideShapes Go.ChangeAt Go.RowKit
set_option linter.unusedVariables false

theorem TIn.both {w : World} {S : Nat → Prop} {t : Tr} {v : Value} (h : TIn w S t v) : TIn w (fun b => S b ∧ b < w.heap.size) t v := by
  induction h with
  | mk k n s x ks vs A cap C hk hl hm hcap hc ht ih =>
    refine TIn.mk k n s x ks vs A _ C hk hl hm hcap (fun i hi => ?_) ih
    obtain ⟨a, ha, hS, hky, hs, hj⟩ := hc i hi
    refine ⟨a, ha, ⟨hS, ?_⟩, hky, hs, hj⟩
    have := World.block_lt_of_cell? _ _ hky.1
    rwa [mem.add_block] at this
theorem SIn.both {w : World} {S : Nat → Prop} {sl : List Sl} {A : Option Addr} (h : SIn w S sl A) : SIn w (fun b => S b ∧ b < w.heap.size) sl A := fun i t ht => by
  obtain ⟨a, k, n, s, x, ks, vs, A', c', e, hSa, hk, hl, hv, hT, hc⟩ := h i t ht
  refine ⟨a, k, n, s, x, ks, vs, A', c', e, ⟨hSa, ?_⟩, hk, hl, hv, hT.both, hc⟩
  have := World.block_lt_of_cell? _ _ hc.c0
  rwa [mem.add_block] at this

/-- A table that lies in blocks of S, to be read. -/
structure KT (w : World) (S : Nat → Prop) (l : List Int) (sl : List Sl) (A : Option Addr) (n c : Nat) (B : Option Addr) (m d : Nat) : Prop where
  heads : ∃ lo, imem.OwnI w lo A n c l
  low : ∀ q, (Value.slice A n c).ownBlock = some q → S q
  slots : SIn w S sl B
  len : sl.length = m
  cap : m ≤ d ∧ d ≤ maxLen
section
variable {w w' : World} {S S' : Nat → Prop} {l : List Int} {sl : List Sl} {A B : Option Addr} {n c m d : Nat}
theorem KT.keep (h : KT w S l sl A n c B m d) (hs : ∀ q, S q → q < w.heap.size → w'.heap[q]? = w.heap[q]?) : KT w' S l sl A n c B m d := by
  obtain ⟨⟨lo, ho⟩, h2, h3, h4, h5⟩ := h
  exact ⟨⟨lo, owni_blk ho fun q e => hs q (h2 q e) (ho.block q e).2⟩, h2, h3.stays (fun _ h => h) hs, h4, h5⟩
theorem KT.below (h : KT w S l sl A n c B m d) (hb : Below w.heap.size w w') : KT w' S l sl A n c B m d := h.keep fun q _ hl => hb.block q hl
theorem KT.mono (h : KT w S l sl A n c B m d) (hs : ∀ q, S q → S' q) : KT w S' l sl A n c B m d := ⟨h.heads, fun q e => hs q (h.low q e), h.slots.stays hs (fun _ _ _ => rfl), h.len, h.cap⟩
theorem KT.both (h : KT w S l sl A n c B m d) : KT w (fun q => S q ∧ q < w.heap.size) l sl A n c B m d := by
  obtain ⟨⟨lo, ho⟩, h2, h3, h4, h5⟩ := h
  exact ⟨⟨lo, ho⟩, fun q e => ⟨h2 q e, (ho.block q e).2⟩, h3.both, h4, h5⟩
theorem KT.tbin {x k : Int} (h : KT w S l sl A n c B m d) (hn : n ≤ maxLen) (hx : I64 x) (hk : I64 k) : TbIn w S l sl A n c B m d x k := by
  obtain ⟨⟨lo, ho⟩, h2, h3, h4, h5⟩ := h
  exact ⟨ho.rd, hn, h4, h5, h3, hx, hk⟩
end

/-- What a call made lies in blocks of its own. -/
def OwnG (w : World) (W : Nat) (Q : Nat) (l : List Int) (sl : List Sl) (A : Option Addr) (n c : Nat) (B : Option Addr) (m d : Nat) : Prop :=
  ∃ par R lo hi, OwnT w par R lo l sl A n c B m d ∧ (∀ q, TbF par R A B q → Rg lo hi q) ∧ W ≤ lo ∧ hi ≤ w.heap.size ∧ ¬ Rg lo hi Q
def CutT (W : World) (b : Bool) (n m : Nat) (x k : Int) (Pr : World → Nat → Option Addr → Nat → Option Addr → Nat → Prop) (p : Value) (wx : World) : Prop :=
  ∃ Q A c B d, p = .pointer (some ⟨Q, 0, none⟩) ∧ Below W.heap.size W wx ∧ W.heap.size ≤ Q ∧ wx.heap[Q]? = some (.cells #[.bool b, .slice A n c, .slice B m d, .int .i64 x, .int .i64 k] IT (0, 0)) ∧ Pr wx Q A c B d
def PrM (l : List Int) (sl : List Sl) (n m : Nat) (w : World) (Q : Nat) (A : Option Addr) (c : Nat) (B : Option Addr) (d : Nat) : Prop := KT w (fun q => q ≠ Q) l sl A n c B m d
def PrP (W : Nat) (l : List Int) (sl : List Sl) (n m : Nat) (w : World) (Q : Nat) (A : Option Addr) (c : Nat) (B : Option Addr) (d : Nat) : Prop := OwnG w W Q l sl A n c B m d
section
variable {W nw wF : World} {b : Bool} {x k : Int} {l : List Int} {sl : List Sl} {A B : Option Addr} {n c m d Q lo : Nat}
theorem fillT (ez : nw.heap[Q]? = some (.cells #[.bool false, .slice none 0 0, .slice none 0 0, .int .i64 0, .int .i64 0] IT (0, 0)))
    (hF : (((((nw.setCell ⟨Q, 0, none⟩ (.bool b)).setCell ⟨Q, 1, none⟩ (.slice A n c)).setCell ⟨Q, 2, none⟩ (.slice B m d)).setCell ⟨Q, 3, none⟩ (.int .i64 x)).setCell ⟨Q, 4, none⟩ (.int .i64 k)) = wF) :
    wF.heap[Q]? = some (.cells #[.bool b, .slice A n c, .slice B m d, .int .i64 x, .int .i64 k] IT (0, 0)) ∧ (∀ q, q ≠ Q → wF.heap[q]? = nw.heap[q]?) ∧ (∀ W : World, Below W.heap.size W nw → W.heap.size ≤ Q → Below W.heap.size W wF) ∧ wF.heap.size = nw.heap.size := by
  subst hF
  refine ⟨?_, fun q hq => by rw [set_other hq, set_other hq, set_other hq, set_other hq, set_other hq], fun W hw hQ => (((((hw.setCell hQ _).setCell hQ _).setCell hQ _).setCell hQ _).setCell hQ _), by simp []⟩
  have := set_heap (set_heap (set_heap (set_heap (set_heap ez 0 (.bool b)) 1 (.slice A n c)) 2 (.slice B m d)) 3 (.int .i64 x)) 4 (.int .i64 k)
  simpa using this
theorem cutT_boxM {lo : Nat} (hw : Below W.heap.size W nw) (h : KT nw (Rg lo nw.heap.size) l sl A n c B m d) :
    CutT W b n m x k (PrM l sl n m) (.pointer (some ⟨nw.heap.size, 0, none⟩)) (nw.alloc (.cells #[.bool b, .slice A n c, .slice B m d, .int .i64 x, .int .i64 k] IT)) :=
  ⟨nw.heap.size, A, c, B, d, rfl, bs hw (b1 nw _), hw.size, heap_alloc_new nw _, (h.below (b1 nw _)).mono fun q hq e => by have := hq.2; omega⟩
theorem cutT_earlyM {lo hi : Nat} (hw : Below W.heap.size W nw) (hQ : W.heap.size ≤ Q) (ez : nw.heap[Q]? = some (.cells #[.bool false, .slice none 0 0, .slice none 0 0, .int .i64 0, .int .i64 0] IT (0, 0))) (h : KT nw (Rg lo hi) l sl A n c B m d) (hlo : Q < lo)
    (hF : (((((nw.setCell ⟨Q, 0, none⟩ (.bool b)).setCell ⟨Q, 1, none⟩ (.slice A n c)).setCell ⟨Q, 2, none⟩ (.slice B m d)).setCell ⟨Q, 3, none⟩ (.int .i64 x)).setCell ⟨Q, 4, none⟩ (.int .i64 k)) = wF) :
    CutT W b n m x k (PrM l sl n m) (.pointer (some ⟨Q, 0, none⟩)) wF := by
  obtain ⟨e1, e2, e3, -⟩ := fillT ez hF
  exact ⟨Q, A, c, B, d, rfl, e3 W hw hQ, hQ, e1, (h.keep fun q hq _ => e2 q (by have := hq.1; omega)).mono fun q hq e => by have := hq.1; omega⟩
theorem cutT_boxP {par : Nat → Nat × Nat} {R lo : Nat} (hw : Below W.heap.size W nw) (h : OwnT nw par R lo l sl A n c B m d) (hlo : W.heap.size ≤ lo) :
    CutT W b n m x k (PrP W.heap.size l sl n m) (.pointer (some ⟨nw.heap.size, 0, none⟩)) (nw.alloc (.cells #[.bool b, .slice A n c, .slice B m d, .int .i64 x, .int .i64 k] IT)) := by
  obtain ⟨par', hp, hr⟩ := h.tight
  exact ⟨nw.heap.size, A, c, B, d, rfl, bs hw (b1 nw _), hw.size, heap_alloc_new nw _, par', R, lo, nw.heap.size, hp.below (b1 nw _), hr, hlo, (b1 nw _).size, fun h => by have := h.2; omega⟩
theorem cutT_earlyP {par : Nat → Nat × Nat} {R lo : Nat} (hw : Below W.heap.size W nw) (hQ : W.heap.size ≤ Q) (ez : nw.heap[Q]? = some (.cells #[.bool false, .slice none 0 0, .slice none 0 0, .int .i64 0, .int .i64 0] IT (0, 0))) (h : OwnT nw par R lo l sl A n c B m d) (hlo : Q < lo)
    (hF : (((((nw.setCell ⟨Q, 0, none⟩ (.bool b)).setCell ⟨Q, 1, none⟩ (.slice A n c)).setCell ⟨Q, 2, none⟩ (.slice B m d)).setCell ⟨Q, 3, none⟩ (.int .i64 x)).setCell ⟨Q, 4, none⟩ (.int .i64 k)) = wF) :
    CutT W b n m x k (PrP W.heap.size l sl n m) (.pointer (some ⟨Q, 0, none⟩)) wF := by
  obtain ⟨e1, e2, e3, e4⟩ := fillT ez hF
  obtain ⟨par', hp, hr⟩ := h.tight
  exact ⟨Q, A, c, B, d, rfl, e3 W hw hQ, hQ, e1, par', R, lo, nw.heap.size, hp.keep fun q hq _ => e2 q (by have := (hr q hq).1; omega), hr, by omega, by rw [e4]; exact Nat.le_refl _, fun h => by have := h.1; omega⟩
end

theorem cS_drop : ∀ (sl : List Sl) (v : Int), cS (tdSl sl v) ≤ cS sl := by
  intro sl v
  unfold tdSl
  split
  · exact Nat.le_refl _
  · generalize v.toNat = i
    unfold dropS
    split
    · next t ht =>
      have key : ∀ (sl : List Sl) (i : Nat) (u : Sl), sl[i]? = some t → cnt u.val ≤ cnt t.val → cS (sl.set i u) ≤ cS sl := by
        intro sl
        induction sl with
        | nil => intro i u h hu; simp at h
        | cons a sl ih =>
          intro i u h hu
          cases i with
          | zero =>
            simp at h
            subst h
            simp only [List.set_cons_zero, cS]
            omega
          | succ i =>
            simp at h
            have := ih i u h hu
            simp only [List.set_cons_succ, cS]
            omega
      refine key sl i _ ht ?_
      show cnt zTr ≤ _
      have h1 : cnt zTr = 1 := by unfold zTr; rw [cnt_mk', cnts_nil]
      have h2 : 1 ≤ cnt t.val := by cases t.val; rw [cnt_mk']; omega
      omega
    · exact Nat.le_refl _
theorem cS_tot : ∀ (sl : List Sl), (∀ t ∈ sl, fits t.val) → cS sl ≤ 9 * sl.length + 7 * totS sl
  | [], _ => Nat.zero_le _
  | t :: sl, h => by
    have h1 := cnt_tot t.val (h t List.mem_cons_self)
    have h2 := cS_tot sl fun u hu => h u (List.mem_cons_of_mem _ hu)
    simp only [cS, totS, List.length_cons]
    omega
theorem cnts_sv : ∀ (sl : List Sl), (∀ t ∈ sl, fits t.val) → cnts (svS sl) ≤ sl.length + totS sl
  | [], _ => by simp [svS, cnts_nil]
  | t :: sl, h => by
    have h1 := cnt_tot t.val (h t List.mem_cons_self)
    have h2 := cnts_sv sl fun u hu => h u (List.mem_cons_of_mem _ hu)
    unfold svS at h2 ⊢
    simp only [List.map_cons, cnts_cons', totS, List.length_cons]
    omega
theorem tots_sv : ∀ (sl : List Sl), tots (skS sl) (svS sl) = totS sl
  | [] => by simp [svS, skS, tots, totS]
  | t :: sl => by
    have h2 := tots_sv sl
    unfold svS skS at h2 ⊢
    simp only [List.map_cons, totS]
    rw [tots, h2]
theorem SIn.fits {w : World} {S : Nat → Prop} {sl : List Sl} {A : Option Addr} (h : SIn w S sl A) : ∀ t ∈ sl, fits t.val := fun t ht => by
  obtain ⟨i, hi, e⟩ := List.mem_iff_getElem.1 ht
  obtain ⟨a, k, n, s, x, ks, vs, A', c', -, -, -, -, -, hT, -⟩ := h i t (by rw [List.getElem?_eq_getElem hi, e])
  exact hT.fits
/-- The number of live slots is a machine's number, and one less. -/
theorem td_i64 {b : Bool} {l : List Int} {sl : List Sl} {x k v z : Int} (h : (tabOk b l sl x k ∧ v = z) ∨ (¬ tabOk b l sl x k ∧ v = -1)) (hk : I64 k) : I64 (tdCt k v) := by
  unfold tdCt
  split
  · exact hk
  · rcases h with ⟨h, -⟩ | ⟨-, e⟩
    · have := h.2.2.1.2
      obtain ⟨k0, k1⟩ := hk
      exact ⟨by omega, by omega⟩
    · contradiction
end Go.Proofs.YtdglmnmalfpipaaGreatDoor.tree

