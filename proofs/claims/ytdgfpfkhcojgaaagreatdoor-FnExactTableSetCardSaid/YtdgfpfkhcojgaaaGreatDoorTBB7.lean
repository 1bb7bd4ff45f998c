/-
  What the texts behind this one use: 9 parts of one proof.
  Conditions: those that each theorem names.
-/
import Derived.Test.YtdgfpfkhcojgaaaGreatDoorTBSMarkX
import Derived.Test.YtdgfpfkhcojgaaaGreatDoorTBSHeldT
import Derived.Test.YtdgfpfkhcojgaaaGreatDoorTBSCpW
import Derived.Test.YtdgfpfkhcojgaaaGreatDoorTBB2
import Derived.Test.YtdgfpfkhcojgaaaGreatDoorTBSLawBox
import Derived.Deep.CutBlock
import Derived.Deep.DeepCutAuto
import Derived.Test.YtdgfpfkhcojgaaaGreatDoorTBB4
import Derived.Test.YtdgfpfkhcojgaaaGreatDoorTBB5
import Derived.Test.YtdgfpfkhcojgaaaGreatDoorTBSSetS
import Derived.Deep.RegionHeld3
/-
  An own table marked, with what it holds then, and its marks found again.
  Conditions: those that each theorem names.
-/
namespace Go.Proofs.YtdgfpfkhcojgaaaGreatDoor.tree
open Go.ChangeShapes Go.WideShapes Go.ChangeAt Go.RowKit
set_option linter.unusedVariables false

section
variable {w w' : World} {par : Nat → Nat × Nat} {R g L j : Nat} {sl : List Sl}
theorem LaidP.tight (h : LaidP w par R g L j sl) : ∃ par', LaidP w par' R g L j sl ∧ ∀ i b, Hang par' (R, i) b → Rg (R + 1) w.heap.size b := by
  refine ⟨fun b => if b < w.heap.size then par b else (b, 0), ?_, fun i b hb => ⟨by have := hb.gt; simp at this; omega, ?_⟩⟩
  · obtain ⟨arr, ha, hs, h⟩ := h
    refine ⟨arr, ha, hs, fun i t ht => ?_⟩
    obtain ⟨h1, h2, h3, h4, h5⟩ := h i t ht
    refine ⟨h1, h2, h3, h4, fun hj => ?_⟩
    obtain ⟨k, n, s, x, ks, vs, A, c, hv, hT, hc⟩ := h5 hj
    exact ⟨k, n, s, x, ks, vs, A, c, hv, hT.par_ fun b hb => if_pos hb, hc⟩
  · cases hb with
    | root _ e hlt =>
      by_cases hb : b < w.heap.size
      · exact hb
      · rw [if_neg hb] at e
        injection e with e1 e2
        simp at hlt
        omega
    | step _ g j e hlt hh =>
      by_cases hb : b < w.heap.size
      · exact hb
      · rw [if_neg hb] at e
        injection e with e1 e2
        omega
/-- What hangs there, and the slots' block, stay. -/
theorem LaidP.keep (h : LaidP w par R g L j sl) (hs : ∀ b, SlF par R g b → b < w.heap.size → w'.heap[b]? = w.heap[b]?) : LaidP w' par R g L j sl := by
  obtain ⟨arr, ha, hz, h⟩ := h
  refine ⟨arr, (hs g (.inl rfl) (Array.getElem?_eq_some_iff.1 ha).1).trans ha, hz, fun i t ht => ?_⟩
  obtain ⟨h1, h2, h3, h4, h5⟩ := h i t ht
  refine ⟨h1, h2, h3, h4, fun hj => ?_⟩
  obtain ⟨k, n, s, x, ks, vs, A, c, hv, hT, hc⟩ := h5 hj
  exact ⟨k, n, s, x, ks, vs, A, c, hv, hT.keep fun b hb hlt => hs b (.inr ⟨i, hb⟩) hlt, hc⟩
/-- As the slots of a table. -/
theorem LaidP.sin (h : LaidP w par R g L j sl) (hl : sl.length ≤ j) : SIn w (fun b => (b = g ∨ R < b) ∧ Plain w b) sl (some ⟨g, 0, none⟩) := fun i t ht => by
  obtain ⟨arr, ha, hz, h⟩ := h
  obtain ⟨h1, h2, h3, h4, h5⟩ := h i t ht
  obtain ⟨k, n, s, x, ks, vs, A, c, hv, hT, hc⟩ := h5 (by have := (List.getElem?_eq_some_iff.1 ht).1; omega)
  obtain ⟨r, -⟩ := rowc ha
  have e : (⟨g, 0, none⟩ : Addr).add (i * 10) = ⟨g, i * 10, none⟩ := mem.add_zero_lit g (i * 10)
  refine ⟨_, k, n, s, x, ks, vs, A, c, rfl, ⟨.inl rfl, _, _, ha⟩, h1, h2, hv, hT.tin.stays (fun b hb => ⟨.inr (by have := hb.1; omega), hb.2⟩) (fun _ _ _ => rfl), ?_⟩
  rw [e]
  have z : ∀ q, q < 10 → w.cell? ⟨g, i * 10 + q, none⟩ = _ := fun q hq => (r _).trans (hc q hq)
  exact ⟨z 0 (by omega), z 1 (by omega), z 2 (by omega), z 3 (by omega), z 4 (by omega), z 5 (by omega), z 6 (by omega), z 7 (by omega), z 8 (by omega), z 9 (by omega)⟩
end

/-- The blocks of an own table. -/
def TbF (par : Nat → Nat × Nat) (R : Nat) (A B : Option Addr) (b : Nat) : Prop := (∃ a, A = some a ∧ b = a.block) ∨ (∃ a, B = some a ∧ b = a.block) ∨ ∃ i, Hang par (R, i) b
section
variable {w w' : World} {par : Nat → Nat × Nat} {R lo n c m d : Nat} {l : List Int} {sl : List Sl} {A B : Option Addr}
theorem own_tbf {q : Nat} (e : (Value.slice A n c).ownBlock = some q) : TbF par R A B q := by
  cases A with
  | none => simp [Value.ownBlock] at e
  | some a =>
    simp only [Value.ownBlock, Option.some.injEq] at e
    exact .inl ⟨a, rfl, e.symm⟩
theorem OwnT.keep (h : OwnT w par R lo l sl A n c B m d) (hs : ∀ b, TbF par R A B b → b < w.heap.size → w'.heap[b]? = w.heap[b]?) : OwnT w' par R lo l sl A n c B m d := by
  refine ⟨owni_blk h.heads fun q e => hs q (own_tbf e) (h.heads.block q e).2, h.low, h.len, h.cap, h.nod, ?_⟩
  rcases h.slots with h0 | ⟨g, e, h1, h2, h3, h4, h5⟩
  · exact .inl h0
  · refine .inr ⟨g, e, h1, h2, h3, h4, h5.keep fun b hb hlt => hs b ?_ hlt⟩
    rcases hb with rfl | hb
    · exact .inr (.inl ⟨_, e, rfl⟩)
    · exact .inr (.inr hb)
theorem OwnT.below (h : OwnT w par R lo l sl A n c B m d) (hb : Below w.heap.size w w') : OwnT w' par R lo l sl A n c B m d := h.keep fun b _ hlt => hb.block b hlt
/-- No block of it lies behind the world's end. -/
theorem OwnT.tight (h : OwnT w par R lo l sl A n c B m d) : ∃ par', OwnT w par' R lo l sl A n c B m d ∧ ∀ b, TbF par' R A B b → Rg lo w.heap.size b := by
  have hd : ∀ b, (∃ a, A = some a ∧ b = a.block) → Rg lo w.heap.size b := fun b ⟨a, e, hb⟩ => by
    subst e
    have := h.heads.block a.block rfl
    exact ⟨by omega, by omega⟩
  rcases h.slots with ⟨rfl, h0⟩ | ⟨g, rfl, h1, h2, h3, h4, h5⟩
  · refine ⟨fun b => (b, 0), ⟨h.heads, h.low, h.len, h.cap, h.nod, .inl ⟨rfl, h0⟩⟩, fun b hb => ?_⟩
    rcases hb with hb | ⟨a, e, -⟩ | ⟨i, hb⟩
    · exact hd b hb
    · cases e
    · exfalso
      have key : ∀ b, Hang (fun b => (b, 0)) (R, i) b → False := fun b hb => by
        induction hb with
        | root b e hlt => injection e with e1 e2; simp at hlt; omega
        | step b g j e hlt hh ih => exact ih
      exact key b hb
  · obtain ⟨par', hp, hr⟩ := h5.tight
    refine ⟨par', ⟨h.heads, h.low, h.len, h.cap, h.nod, .inr ⟨g, rfl, h1, h2, h3, h4, hp⟩⟩, fun b hb => ?_⟩
    rcases hb with hb | ⟨a, e, rfl⟩ | ⟨i, hb⟩
    · exact hd b hb
    · injection e with e
      subst e
      obtain ⟨arr, ha, -⟩ := hp
      exact ⟨h1, (Array.getElem?_eq_some_iff.1 ha).1⟩
    · have := hr i b hb
      exact ⟨by have := this.1; omega, this.2⟩
/-- As a table that is read. -/
theorem OwnT.tbin {x k : Int} (h : OwnT w par R lo l sl A n c B m d) (hn : n ≤ maxLen) (hx : I64 x) (hk : I64 k) : TbIn w (fun _ => True) l sl A n c B m d x k := by
  refine ⟨h.heads.rd, hn, h.len, h.cap, ?_, hx, hk⟩
  · rcases h.slots with ⟨-, h0⟩ | ⟨g, rfl, -, -, h3, -, h5⟩
    · have : sl = [] := List.length_eq_zero_iff.1 (by rw [h.len]; exact h0)
      subst this
      intro i t ht
      simp at ht
    · exact (h5.sin (by rw [h.len]; exact Nat.le_refl _)).stays (fun _ _ => trivial) (fun _ _ _ => rfl)
end

set_option maxHeartbeats 1600000 in
theorem markTableX {par : Nat → Nat × Nat} {R lo n c m d : Nat} {l : List Int} {sl : List Sl} {A B : Option Addr} {b : Bool} {x k : Int} (w : World) (h : OwnT w par R lo l sl A n c B m d) (hn : n ≤ 1048576) (hc : cS sl ≤ 99000000000) :
    Calls Tryz.prog 33 #[tbV b A n c B m d x k, .int .i64 1] w (fun e w' => e = .returned (.int .i64 (1 + (n : Int) + cS sl)) ∧ (∃ l2, FromI 1 n l2 ∧ OwnT w' par R lo l2 (mkSls (1 + (n : Int)) sl) A n c B m d) ∧ Fr (TbF par R A B) w w') := by
  have M1 := Lib.hid (fun w' (hw : Below w.heap.size w w') => markIntsX A n c lo l w' (h.heads.below hw) hn 1 (by omega) (by omega))
  obtain ⟨W, HW⟩ : ∃ W : Int, Hid (1 + (n : Int) + cS sl = W) := ⟨_, Lib.hid rfl⟩
  have M2 : Hid (∀ w', (((B = none ∧ m = 0) ∨ ∃ g, B = some ⟨g, 0, none⟩ ∧ lo ≤ g ∧ g ≤ R ∧ (m ≤ d ∧ d ≤ maxLen) ∧ (∀ h, (Value.slice A n c).ownBlock = some h → h ≠ g) ∧ LaidP w' par R g d m sl)) → Calls Tryz.prog 84 #[.slice B m d, .int .i64 (1 + (n : Int))] w' (fun e w2 => e = .returned (.int .i64 W) ∧ ((B = none ∧ m = 0) ∨ ∃ g, B = some ⟨g, 0, none⟩ ∧ lo ≤ g ∧ g ≤ R ∧ (m ≤ d ∧ d ≤ maxLen) ∧ (∀ h, (Value.slice A n c).ownBlock = some h → h ≠ g) ∧ LaidP w2 par R g d m (mkSls (1 + (n : Int)) sl)) ∧ Fr (fun b => (∃ a, B = some a ∧ b = a.block) ∨ ∃ i, Hang par (R, i) b) w' w2)) := Lib.hid (fun w' hs => by
    rw [← HW.out]
    rcases hs with ⟨rfl, rfl⟩ | ⟨g, rfl, h1, h2, h3, h4, h5⟩
    · have hnil : sl = [] := List.length_eq_zero_iff.1 h.len
      subst hnil
      refine (markSlots [] (1 + (n : Int)) (by omega) (by omega) w' (fun _ => False) none d (fun i t ht => by simp at ht) (Nat.zero_le _) (fun b hb => hb.elim)).mono ?_
      rintro e w2 ⟨rfl, hs⟩
      exact ⟨rfl, .inl ⟨rfl, rfl⟩, hs.fr.mono fun b hb => hb.elim⟩
    · refine (markSlotsX sl (1 + (n : Int)) (by omega) (by omega) w' par R g d m h.len h3 h2 h5).mono ?_
      rintro e w2 ⟨rfl, hl, hf⟩
      refine ⟨rfl, .inr ⟨g, rfl, h1, h2, h3, h4, hl⟩, hf.mono fun b hb => ?_⟩
      rcases hb with rfl | hb
      · exact .inl ⟨_, rfl, rfl⟩
      · exact .inr hb)
  have HT := Lib.hid h
  rw [HW.out]
  clear h hc
  go_enter Tryz.func33, Tryz.ntmps33
  go_wp2_with (fail)
  refine (M1.out _ (b1 w _)).mono ?_
  rintro e w1 ⟨rfl, hf, l2, ho2, hfr⟩
  have hB := b1 w (.cells #[.bool b, .slice A n c, .slice B m d, .int .i64 x, .int .i64 k] IT)
  have hne : ∀ q, ((∃ a, B = some a ∧ q = a.block) ∨ ∃ i, Hang par (R, i) q) → (Value.slice A n c).ownBlock ≠ some q := fun q hq e => by
    have hl := HT.out.low q e
    rcases hq with ⟨a, ha, rfl⟩ | ⟨i, hh⟩
    · rcases HT.out.slots with ⟨h0, -⟩ | ⟨g, h0, -, -, -, h4, -⟩
      · rw [h0] at ha; cases ha
      · rw [h0] at ha; injection ha with ha; subst ha; exact h4 _ e rfl
    · have := hh.gt; simp at this; omega
  have hk : ∀ q, ((∃ a, B = some a ∧ q = a.block) ∨ ∃ i, Hang par (R, i) q) → q < w.heap.size → w1.heap[q]? = w.heap[q]? := fun q hq hl => (hf.block q (Nat.lt_of_lt_of_le hl hB.size) (hne q hq)).trans (hB.block q hl)
  have HS1 : Hid ((B = none ∧ m = 0) ∨ ∃ g, B = some ⟨g, 0, none⟩ ∧ lo ≤ g ∧ g ≤ R ∧ (m ≤ d ∧ d ≤ maxLen) ∧ (∀ h, (Value.slice A n c).ownBlock = some h → h ≠ g) ∧ LaidP w1 par R g d m sl) := Lib.hid (by
    rcases HT.out.slots with h0 | ⟨g, e, h1, h2, h3, h4, h5⟩
    · exact .inl h0
    · refine .inr ⟨g, e, h1, h2, h3, h4, h5.keep fun q hq hl => hk q ?_ hl⟩
      rcases hq with rfl | hq
      · exact .inl ⟨_, e, rfl⟩
      · exact .inr hq)
  have hbx : w1.heap[w.heap.size]? = some (.cells #[.bool b, .slice A n c, .slice B m d, .int .i64 x, .int .i64 k] IT (0, 0)) := (hf.block w.heap.size (by simp) (fun e => by have := (HT.out.heads.block _ e).2; omega)).trans (heap_alloc_new w _)
  have HF1 : Hid (Fr (TbF par R A B) w w1) := Lib.hid ((Fr.of hB).trans (hf.mono fun q e => own_tbf e))
  have HO2 := Lib.hid ho2
  have HFI := Lib.hid hfr
  have HNE := Lib.hid hne
  have q2 := (rowc hbx).1 2
  simp at q2
  clear hf hB hk hbx ho2 hfr hne
  go_wp2_with (fail)
  refine (M2.out _ HS1.out).mono ?_
  rintro e w2 ⟨rfl, hs2, hf2⟩
  have HF2 : Hid (Fr (TbF par R A B) w w2) := Lib.hid (HF1.out.trans (hf2.mono fun q hq => .inr hq))
  have HT2 : Hid (OwnT w2 par R lo l2 (mkSls (1 + (n : Int)) sl) A n c B m d) := Lib.hid ⟨owni_blk HO2.out fun q e => hf2.block q (HO2.out.block q e).2 (fun hh => HNE.out q hh e), HT.out.low, by rw [mkSls_len]; exact HT.out.len, HT.out.cap, HT.out.nod, hs2⟩
  clear hs2 hf2 q2
  go_wp2_with (fail)
  go_ret
  exact ⟨rfl, ⟨l2, HFI.out, HT2.out⟩, HF2.out⟩

set_option maxHeartbeats 1600000 in
theorem heldTable {n c m d : Nat} {l : List Int} {sl : List Sl} {A B : Option Addr} {b : Bool} {x k : Int} {S : Nat → Prop} (w : World) (h : imem.RdI w A n l) (hs : SIn w S (mkSls (1 + (n : Int)) sl) B) (hm : sl.length = m) (hmx : m ≤ maxLen) (hn : n ≤ 1048576) (hf : FromI 1 n l) (hc : cS sl ≤ 99000000000) :
    Calls Tryz.prog 35 #[tbV b A n c B m d x k, .int .i64 1] w (GivesQ w (.int .i64 (1 + (n : Int) + cS sl))) := by
  have M1 := Lib.hid (fun w' (hw : Below w.heap.size w w') => heldInts A n c l w' (h.below hw) hn 1 hf (by omega) (by omega))
  obtain ⟨W, HW⟩ : ∃ W : Int, Hid (1 + (n : Int) + cS sl = W) := ⟨_, Lib.hid rfl⟩
  have hW : 1 ≤ W := by rw [← HW.out]; omega
  have hW2 : W ≤ 100000000000 := by rw [← HW.out]; omega
  have M2 : Hid (∀ w', Below w.heap.size w w' → Calls Tryz.prog 87 #[.slice B m d, .int .i64 (1 + (n : Int))] w' (GivesQ w' (.int .i64 W))) := Lib.hid (fun w' hw => by
    have := heldSlots sl (1 + (n : Int)) (by omega) (by omega) w' S B d (hs.below hw) (by omega)
    rw [hm, HW.out] at this
    exact this)
  rw [HW.out]
  clear h hs hf hc hm
  go_enter Tryz.func35, Tryz.ntmps35
  go_wp2_with (fail)
  refine (M1.out _ (b1 w _)).mono ?_
  rintro e w1 ⟨rfl, hb1⟩
  have hbx := carry hb1 (heap_alloc_new w (.cells #[.bool b, .slice A n c, .slice B m d, .int .i64 x, .int .i64 k] IT))
  have HB1 := Lib.hid (bs (b1 w _) hb1)
  have q2 := (rowc hbx).1 2
  simp at q2
  clear hb1 hbx
  go_wp2_with (fail)
  refine (M2.out _ HB1.out).mono ?_
  rintro e w2 ⟨rfl, hb2⟩
  have HB2 := Lib.hid (bs HB1.out hb2)
  clear hb2 q2
  go_wp2_with (fail)
  go_ret
  exact ⟨rfl, HB2.out⟩

end Go.Proofs.YtdgfpfkhcojgaaaGreatDoor.tree

/-
  The answer of a call that gives a table, in a variable of its own, whenever a region that draws its order makes that variable.
  Conditions: those that each theorem names.
-/
namespace Go.Proofs.YtdgfpfkhcojgaaaGreatDoor.tree
open Go.ChangeShapes Go.WideShapes Go.ChangeAt Go.RowKit
set_option linter.unusedVariables false

theorem TIn.both {w : World} {S : Nat → Prop} {t : Tr} {v : Value} (h : TIn w S t v) : TIn w (fun b => S b ∧ b < w.heap.size) t v := by
  induction h with
  | mk k n s x ks vs A cap C hk hl hm hcap hc ht ih =>
    refine TIn.mk k n s x ks vs A _ C hk hl hm hcap (fun i hi => ?_) ih
    obtain ⟨a, ha, hS, hky, hs, hj⟩ := hc i hi
    refine ⟨a, ha, ⟨hS, ?_⟩, hky, hs, hj⟩
    have := World.block_lt_of_cell? _ _ hky.1
    rwa [mem.add_block] at this
theorem SIn.both {w : World} {S : Nat → Prop} {sl : List Sl} {A : Option Addr} (h : SIn w S sl A) : SIn w (fun b => S b ∧ b < w.heap.size) sl A := fun i t ht => by
  obtain ⟨a, k, n, s, x, ks, vs, A', c', e, hSa, hk, hl, hv, hT, hc⟩ := h i t ht
  refine ⟨a, k, n, s, x, ks, vs, A', c', e, ⟨hSa, ?_⟩, hk, hl, hv, hT.both, hc⟩
  have := World.block_lt_of_cell? _ _ hc.c0
  rwa [mem.add_block] at this

/-- A table that lies in blocks of S, to be read. -/
structure KT (w : World) (S : Nat → Prop) (l : List Int) (sl : List Sl) (A : Option Addr) (n c : Nat) (B : Option Addr) (m d : Nat) : Prop where
  heads : ∃ lo, imem.OwnI w lo A n c l
  low : ∀ q, (Value.slice A n c).ownBlock = some q → S q
  slots : SIn w S sl B
  len : sl.length = m
  cap : m ≤ d ∧ d ≤ maxLen
section
variable {w w' : World} {S S' : Nat → Prop} {l : List Int} {sl : List Sl} {A B : Option Addr} {n c m d : Nat}
theorem KT.keep (h : KT w S l sl A n c B m d) (hs : ∀ q, S q → q < w.heap.size → w'.heap[q]? = w.heap[q]?) : KT w' S l sl A n c B m d := by
  obtain ⟨⟨lo, ho⟩, h2, h3, h4, h5⟩ := h
  exact ⟨⟨lo, owni_blk ho fun q e => hs q (h2 q e) (ho.block q e).2⟩, h2, h3.stays (fun _ h => h) hs, h4, h5⟩
theorem KT.below (h : KT w S l sl A n c B m d) (hb : Below w.heap.size w w') : KT w' S l sl A n c B m d := h.keep fun q _ hl => hb.block q hl
theorem KT.mono (h : KT w S l sl A n c B m d) (hs : ∀ q, S q → S' q) : KT w S' l sl A n c B m d := ⟨h.heads, fun q e => hs q (h.low q e), h.slots.stays hs (fun _ _ _ => rfl), h.len, h.cap⟩
theorem KT.both (h : KT w S l sl A n c B m d) : KT w (fun q => S q ∧ q < w.heap.size) l sl A n c B m d := by
  obtain ⟨⟨lo, ho⟩, h2, h3, h4, h5⟩ := h
  exact ⟨⟨lo, ho⟩, fun q e => ⟨h2 q e, (ho.block q e).2⟩, h3.both, h4, h5⟩
theorem KT.tbin {x k : Int} (h : KT w S l sl A n c B m d) (hn : n ≤ maxLen) (hx : I64 x) (hk : I64 k) : TbIn w S l sl A n c B m d x k := by
  obtain ⟨⟨lo, ho⟩, h2, h3, h4, h5⟩ := h
  exact ⟨ho.rd, hn, h4, h5, h3, hx, hk⟩
end

/-- What a call made lies in blocks of its own. -/
def OwnG (w : World) (W : Nat) (Q : Nat) (l : List Int) (sl : List Sl) (A : Option Addr) (n c : Nat) (B : Option Addr) (m d : Nat) : Prop :=
  ∃ par R lo hi, OwnT w par R lo l sl A n c B m d ∧ (∀ q, TbF par R A B q → Rg lo hi q) ∧ W ≤ lo ∧ hi ≤ w.heap.size ∧ ¬ Rg lo hi Q
def CutT (W : World) (b : Bool) (n m : Nat) (x k : Int) (Pr : World → Nat → Option Addr → Nat → Option Addr → Nat → Prop) (p : Value) (wx : World) : Prop :=
  ∃ Q A c B d, p = .pointer (some ⟨Q, 0, none⟩) ∧ Below W.heap.size W wx ∧ W.heap.size ≤ Q ∧ wx.heap[Q]? = some (.cells #[.bool b, .slice A n c, .slice B m d, .int .i64 x, .int .i64 k] IT (0, 0)) ∧ Pr wx Q A c B d
def PrM (l : List Int) (sl : List Sl) (n m : Nat) (w : World) (Q : Nat) (A : Option Addr) (c : Nat) (B : Option Addr) (d : Nat) : Prop := KT w (fun q => q ≠ Q) l sl A n c B m d
def PrP (W : Nat) (l : List Int) (sl : List Sl) (n m : Nat) (w : World) (Q : Nat) (A : Option Addr) (c : Nat) (B : Option Addr) (d : Nat) : Prop := OwnG w W Q l sl A n c B m d
section
variable {W nw wF : World} {b : Bool} {x k : Int} {l : List Int} {sl : List Sl} {A B : Option Addr} {n c m d Q lo : Nat}
theorem fillT (ez : nw.heap[Q]? = some (.cells #[.bool false, .slice none 0 0, .slice none 0 0, .int .i64 0, .int .i64 0] IT (0, 0)))
    (hF : (((((nw.setCell ⟨Q, 0, none⟩ (.bool b)).setCell ⟨Q, 1, none⟩ (.slice A n c)).setCell ⟨Q, 2, none⟩ (.slice B m d)).setCell ⟨Q, 3, none⟩ (.int .i64 x)).setCell ⟨Q, 4, none⟩ (.int .i64 k)) = wF) :
    wF.heap[Q]? = some (.cells #[.bool b, .slice A n c, .slice B m d, .int .i64 x, .int .i64 k] IT (0, 0)) ∧ (∀ q, q ≠ Q → wF.heap[q]? = nw.heap[q]?) ∧ (∀ W : World, Below W.heap.size W nw → W.heap.size ≤ Q → Below W.heap.size W wF) ∧ wF.heap.size = nw.heap.size := by
  subst hF
  refine ⟨?_, fun q hq => by rw [set_other hq, set_other hq, set_other hq, set_other hq, set_other hq], fun W hw hQ => (((((hw.setCell hQ _).setCell hQ _).setCell hQ _).setCell hQ _).setCell hQ _), by simp []⟩
  have := set_heap (set_heap (set_heap (set_heap (set_heap ez 0 (.bool b)) 1 (.slice A n c)) 2 (.slice B m d)) 3 (.int .i64 x)) 4 (.int .i64 k)
  simpa using this
theorem cutT_boxM {lo : Nat} (hw : Below W.heap.size W nw) (h : KT nw (Rg lo nw.heap.size) l sl A n c B m d) :
    CutT W b n m x k (PrM l sl n m) (.pointer (some ⟨nw.heap.size, 0, none⟩)) (nw.alloc (.cells #[.bool b, .slice A n c, .slice B m d, .int .i64 x, .int .i64 k] IT)) :=
  ⟨nw.heap.size, A, c, B, d, rfl, bs hw (b1 nw _), hw.size, heap_alloc_new nw _, (h.below (b1 nw _)).mono fun q hq e => by have := hq.2; omega⟩
theorem cutT_earlyM {lo hi : Nat} (hw : Below W.heap.size W nw) (hQ : W.heap.size ≤ Q) (ez : nw.heap[Q]? = some (.cells #[.bool false, .slice none 0 0, .slice none 0 0, .int .i64 0, .int .i64 0] IT (0, 0))) (h : KT nw (Rg lo hi) l sl A n c B m d) (hlo : Q < lo)
    (hF : (((((nw.setCell ⟨Q, 0, none⟩ (.bool b)).setCell ⟨Q, 1, none⟩ (.slice A n c)).setCell ⟨Q, 2, none⟩ (.slice B m d)).setCell ⟨Q, 3, none⟩ (.int .i64 x)).setCell ⟨Q, 4, none⟩ (.int .i64 k)) = wF) :
    CutT W b n m x k (PrM l sl n m) (.pointer (some ⟨Q, 0, none⟩)) wF := by
  obtain ⟨e1, e2, e3, -⟩ := fillT ez hF
  exact ⟨Q, A, c, B, d, rfl, e3 W hw hQ, hQ, e1, (h.keep fun q hq _ => e2 q (by have := hq.1; omega)).mono fun q hq e => by have := hq.1; omega⟩
theorem cutT_boxP {par : Nat → Nat × Nat} {R lo : Nat} (hw : Below W.heap.size W nw) (h : OwnT nw par R lo l sl A n c B m d) (hlo : W.heap.size ≤ lo) :
    CutT W b n m x k (PrP W.heap.size l sl n m) (.pointer (some ⟨nw.heap.size, 0, none⟩)) (nw.alloc (.cells #[.bool b, .slice A n c, .slice B m d, .int .i64 x, .int .i64 k] IT)) := by
  obtain ⟨par', hp, hr⟩ := h.tight
  exact ⟨nw.heap.size, A, c, B, d, rfl, bs hw (b1 nw _), hw.size, heap_alloc_new nw _, par', R, lo, nw.heap.size, hp.below (b1 nw _), hr, hlo, (b1 nw _).size, fun h => by have := h.2; omega⟩
theorem cutT_earlyP {par : Nat → Nat × Nat} {R lo : Nat} (hw : Below W.heap.size W nw) (hQ : W.heap.size ≤ Q) (ez : nw.heap[Q]? = some (.cells #[.bool false, .slice none 0 0, .slice none 0 0, .int .i64 0, .int .i64 0] IT (0, 0))) (h : OwnT nw par R lo l sl A n c B m d) (hlo : Q < lo)
    (hF : (((((nw.setCell ⟨Q, 0, none⟩ (.bool b)).setCell ⟨Q, 1, none⟩ (.slice A n c)).setCell ⟨Q, 2, none⟩ (.slice B m d)).setCell ⟨Q, 3, none⟩ (.int .i64 x)).setCell ⟨Q, 4, none⟩ (.int .i64 k)) = wF) :
    CutT W b n m x k (PrP W.heap.size l sl n m) (.pointer (some ⟨Q, 0, none⟩)) wF := by
  obtain ⟨e1, e2, e3, e4⟩ := fillT ez hF
  obtain ⟨par', hp, hr⟩ := h.tight
  exact ⟨Q, A, c, B, d, rfl, e3 W hw hQ, hQ, e1, par', R, lo, nw.heap.size, hp.keep fun q hq _ => e2 q (by have := (hr q hq).1; omega), hr, by omega, by rw [e4]; exact Nat.le_refl _, fun h => by have := h.1; omega⟩
end

theorem cS_tot : ∀ (sl : List Sl), (∀ t ∈ sl, fits t.val) → cS sl ≤ 9 * sl.length + 7 * totS sl
  | [], _ => Nat.zero_le _
  | t :: sl, h => by
    have h1 := cnt_tot t.val (h t List.mem_cons_self)
    have h2 := cS_tot sl fun u hu => h u (List.mem_cons_of_mem _ hu)
    simp only [cS, totS, List.length_cons]
    omega
theorem cnts_sv : ∀ (sl : List Sl), (∀ t ∈ sl, fits t.val) → cnts (svS sl) ≤ sl.length + totS sl
  | [], _ => by simp [svS, cnts_nil]
  | t :: sl, h => by
    have h1 := cnt_tot t.val (h t List.mem_cons_self)
    have h2 := cnts_sv sl fun u hu => h u (List.mem_cons_of_mem _ hu)
    unfold svS at h2 ⊢
    simp only [List.map_cons, cnts_cons', totS, List.length_cons]
    omega
theorem tots_sv : ∀ (sl : List Sl), tots (skS sl) (svS sl) = totS sl
  | [] => by simp [svS, skS, tots, totS]
  | t :: sl => by
    have h2 := tots_sv sl
    unfold svS skS at h2 ⊢
    simp only [List.map_cons, totS]
    rw [tots, h2]
theorem SIn.fits {w : World} {S : Nat → Prop} {sl : List Sl} {A : Option Addr} (h : SIn w S sl A) : ∀ t ∈ sl, fits t.val := fun t ht => by
  obtain ⟨i, hi, e⟩ := List.mem_iff_getElem.1 ht
  obtain ⟨a, k, n, s, x, ks, vs, A', c', -, -, -, -, -, hT, -⟩ := h i t (by rw [List.getElem?_eq_getElem hi, e])
  exact hT.fits

end Go.Proofs.YtdgfpfkhcojgaaaGreatDoor.tree

/-
  Slots in a row of the call's own, whose values lie apart: those of slot i in G i.
  Conditions: those that each theorem names.
-/
namespace Go.Proofs.YtdgfpfkhcojgaaaGreatDoor.tree
open Go.ChangeShapes Go.WideShapes Go.ChangeAt Go.RowKit
set_option linter.unusedVariables false

open Classical in
/-- What hangs at a place lies in blocks of its own. -/
theorem TPar.fin {w : World} {par : Nat → Nat × Nat} {R i : Nat} {t : Tr} {v : Value} (h : TPar w par (R, i) t v) : FIn w (Hang par (R, i)) t v := by
  refine ⟨fun b => if Hang par (R, i) b then b - R else 0, par, (R, i), ?_, if_neg (fun h => by have := h.gt; simp at this), fun b hb => ?_⟩
  · have key : ∀ {here : Nat × Nat} {t : Tr} {v : Value}, TPar w par here t v → (here = (R, i) ∨ Hang par (R, i) here.1) → TRk w (fun b => if Hang par (R, i) b then b - R else 0) par here t v := by
      intro here t v h
      induction h with
      | mk here k n s x ks vs A cap g arr K N X Z D H hk hl hm hcap hg hc ht ih =>
        intro hh
        have hG : 0 < vs.length → Hang par (R, i) g := fun h0 => by
          obtain ⟨hA, hp, hlt, hb, hs⟩ := hg h0
          rcases hh with rfl | hh
          · exact .root g hp hlt
          · exact .step g here.1 here.2 hp hlt hh
        refine .mk here k n s x ks vs A cap g arr K N X Z D H hk hl hm hcap (fun h0 => ?_) hc (fun j hj L hL => ih j hj L hL (.inr (hG (by omega))))
        obtain ⟨hA, hp, hlt, hb, hs⟩ := hg h0
        refine ⟨hA, hp, ?_, hb, hs⟩
        have hgt := (hG h0).gt
        simp at hgt
        rw [if_pos (hG h0)]
        rcases hh with rfl | hh
        · rw [if_neg (fun h => by have := h.gt; simp at this)]
          omega
        · rw [if_pos hh]
          have := hh.gt
          simp at this
          omega
    exact key h (.inl rfl)
  · by_cases hh : Hang par (R, i) b
    · exact hh
    · exact absurd (if_neg hh) hb

/-- A row of slots of the call's own, made by append, whose values lie apart. -/
def SFw (w : World) (lo : Nat) (v : Value) (xs : List Value) (sl : List Sl) (G : Nat → Nat → Prop) : Prop :=
  w.ownsRow lo IS 10 v sl.length xs ∧ ∀ (i : Nat) t, sl[i]? = some t → ∃ k n s x ks vs A c, t.val = .mk k n s x ks vs ∧ (I64 t.key.num ∧ t.key.str.size ≤ maxLen) ∧ I64 t.link ∧
    (∀ q, q < 10 → xs[i * 10 + q]? = ([.bool t.key.text, .int .i64 t.key.num, .string t.key.str, .int .i64 k, .int .i64 n, .string s, .int .i64 x, .slice A vs.length c, .bool t.live, .int .i64 t.link] : List Value)[q]?) ∧
    FIn w (G i) t.val (vV k n s x A vs.length c) ∧ ∀ b, G i b → (b < w.heap.size ∧ v.ownBlock ≠ some b) ∧ ∀ j, j < i → ¬ G j b
section
variable {w w' : World} {lo : Nat} {v : Value} {xs : List Value} {sl : List Sl} {G : Nat → Nat → Prop}
theorem SFw.nil (w : World) (lo : Nat) (G : Nat → Nat → Prop) : SFw w lo (.slice none 0 0) [] [] G := ⟨World.ownsRow_nil w lo _ 10, fun i t h => by simp at h⟩
theorem SFw.block (h : SFw w lo v xs sl G) : ∀ b, v.ownBlock = some b → lo ≤ b ∧ b < w.heap.size := fun b e => World.ownsRow.lt h.1 b e
theorem SFw.keep (h : SFw w lo v xs sl G) (hz : w.heap.size ≤ w'.heap.size) (hs : ∀ b, (v.ownBlock = some b ∨ ∃ i, i < sl.length ∧ G i b) → b < w.heap.size → w'.heap[b]? = w.heap[b]?) : SFw w' lo v xs sl G := by
  obtain ⟨h1, h3⟩ := h
  refine ⟨⟨h1.1, ?_⟩, fun i t hi => ?_⟩
  · rcases h1.2 with h | ⟨g, cap, cur, e, hl, hg, hr⟩
    · exact .inl h
    · exact .inr ⟨g, cap, cur, e, hl, (hs g (.inl (by rw [e]; rfl)) (Array.getElem?_eq_some_iff.1 hg).1).trans hg, hr⟩
  · obtain ⟨k, n, s, x, ks', vs', A, c, a1, a2, a3, a4, a5, a6⟩ := h3 i t hi
    have hil := (List.getElem?_eq_some_iff.1 hi).1
    exact ⟨k, n, s, x, ks', vs', A, c, a1, a2, a3, a4, a5.keep fun b hb hlt => hs b (.inr ⟨i, hil, hb⟩) hlt, fun b hb => ⟨⟨Nat.lt_of_lt_of_le (a6 b hb).1.1 hz, (a6 b hb).1.2⟩, (a6 b hb).2⟩⟩
theorem SFw.below (h : SFw w lo v xs sl G) (hb : Below w.heap.size w w') : SFw w' lo v xs sl G := h.keep hb.size fun b _ hl => hb.block b hl
theorem SFw.out (h : SFw w lo v xs sl G) : ∃ A c, v = .slice A sl.length c ∧ (sl.length ≤ c ∧ c ≤ maxLen) := by
  rcases h.1.2 with ⟨rfl, h0'⟩ | ⟨g, cap, cur, rfl, hlo, hg, hnc, hcm, hsz, htk⟩
  · exact ⟨none, 0, by rw [h0'], by rw [h0']; exact ⟨Nat.zero_le _, Nat.zero_le _⟩⟩
  · exact ⟨_, _, rfl, hnc, hcm⟩
theorem SFw.foot (h : SFw w lo v xs sl G) {i : Nat} (hi : i < sl.length) {b : Nat} (hb : G i b) : b < w.heap.size ∧ v.ownBlock ≠ some b := by
  obtain ⟨k, n, s, x, ks', vs', A, c, a1, a2, a3, a4, a5, a6⟩ := h.2 i sl[i] (List.getElem?_eq_getElem hi)
  exact (a6 b hb).1
theorem SFw.apart (h : SFw w lo v xs sl G) {i j : Nat} (hi : i < sl.length) (hj : j < sl.length) (hij : i ≠ j) {b : Nat} (hb : G i b) : ¬ G j b := fun hb' => by
  rcases Nat.lt_or_ge j i with h0 | h0
  · obtain ⟨k, n, s, x, ks', vs', A, c, a1, a2, a3, a4, a5, a6⟩ := h.2 i sl[i] (List.getElem?_eq_getElem hi)
    exact (a6 b hb).2 j h0 hb'
  · obtain ⟨k, n, s, x, ks', vs', A, c, a1, a2, a3, a4, a5, a6⟩ := h.2 j sl[j] (List.getElem?_eq_getElem hj)
    exact (a6 b hb').2 i (by omega) hb
/-- One more. -/
theorem SFw.more (h : SFw w lo v xs sl G) {F : Nat → Prop} {t : Sl}
    {k n x : Int} {s : ByteArray} {ks' : List Ky} {vs' : List Tr} {A : Option Addr} {c : Nat} (hv : t.val = .mk k n s x ks' vs') (hy : I64 t.key.num ∧ t.key.str.size ≤ maxLen) (hl : I64 t.link) (ht : FIn w F t.val (vV k n s x A vs'.length c))
    (hF : ∀ b, F b → (b < w.heap.size ∧ v.ownBlock ≠ some b) ∧ ∀ j, j < sl.length → ¬ G j b)
    {v' : Value} (ho : w'.ownsRow lo IS 10 v' (sl.length + 1) (xs ++ [.bool t.key.text, .int .i64 t.key.num, .string t.key.str, .int .i64 k, .int .i64 n, .string s, .int .i64 x, .slice A vs'.length c, .bool t.live, .int .i64 t.link])) (hg : w.grownBy w' v.ownBlock) (hat : v'.ownBlock = v.ownBlock ∨ v'.ownBlock = some w.heap.size) :
    SFw w' lo v' (xs ++ [.bool t.key.text, .int .i64 t.key.num, .string t.key.str, .int .i64 k, .int .i64 n, .string s, .int .i64 x, .slice A vs'.length c, .bool t.live, .int .i64 t.link]) (sl ++ [t]) (fun i => if i = sl.length then F else G i) := by
  obtain ⟨h1, h3⟩ := h
  have hxl : xs.length = sl.length * 10 := h1.1
  have st : ∀ {t : Tr} {u : Value} {R : Nat → Prop}, (∀ b, R b → v.ownBlock ≠ some b) → FIn w R t u → FIn w' R t u := fun {t u R} hR h => h.keep fun b hb hlt => hg.block b hlt fun e => hR b hb e.symm
  have nb : ∀ b, (b < w.heap.size ∧ v.ownBlock ≠ some b) → b < w'.heap.size ∧ v'.ownBlock ≠ some b := fun b hb => ⟨Nat.lt_of_lt_of_le hb.1 hg.size, fun e => by
    rcases hat with h | h
    · exact hb.2 (h ▸ e)
    · rw [h] at e; injection e with e; have := hb.1; omega⟩
  refine ⟨by rw [List.length_append]; exact ho, fun i t2 hi => ?_⟩
  have hil := (List.getElem?_eq_some_iff.1 hi).1
  rw [List.length_append] at hil
  simp only [List.length_cons, List.length_nil] at hil
  by_cases e : i = sl.length
  · subst e
    rw [List.getElem?_append_right (Nat.le_refl _), Nat.sub_self] at hi
    obtain rfl : t = t2 := by simpa using hi
    refine ⟨k, n, s, x, ks', vs', A, c, hv, hy, hl, fun q hq => ?_, ?_, fun b hb => ?_⟩
    · rw [List.getElem?_append_right (by omega), hxl, Nat.add_sub_cancel_left]
    · dsimp only
      rw [if_pos rfl]
      exact st (fun b hb => (hF b hb).1.2) ht
    · dsimp only at hb
      rw [if_pos rfl] at hb
      exact ⟨nb b (hF b hb).1, fun j hj hgj => by dsimp only at hgj; rw [if_neg (by omega)] at hgj; exact (hF b hb).2 j hj hgj⟩
  · rw [List.getElem?_append_left (by omega)] at hi
    obtain ⟨k1, n1, s1, x1, ks1, vs1, A1, c1, a1, a2, a3, a4, a5, a6⟩ := h3 i t2 hi
    refine ⟨k1, n1, s1, x1, ks1, vs1, A1, c1, a1, a2, a3, fun q hq => ?_, ?_, fun b hb => ?_⟩
    · rw [List.getElem?_append_left (by omega)]
      exact a4 q hq
    · dsimp only
      rw [if_neg e]
      exact st (fun b hb => (a6 b hb).1.2) a5
    · dsimp only at hb
      rw [if_neg e] at hb
      exact ⟨nb b (a6 b hb).1, fun j hj hgj => by dsimp only at hgj; rw [if_neg (by omega)] at hgj; exact (a6 b hb).2 j hj hgj⟩
end

/-- A table of the call's own in a box. -/
structure BxT (w : World) (Q lo : Nat) (b : Bool) (l : List Int) (sl : List Sl) (A : Option Addr) (n c : Nat) (B : Option Addr) (m d : Nat) (x k : Int) (G : Nat → Nat → Prop) : Prop where
  box : w.heap[Q]? = some (.cells #[.bool b, .slice A n c, .slice B m d, .int .i64 x, .int .i64 k] IT (0, 0))
  heads : imem.OwnI w lo A n c l
  slots : ∃ xs, SFw w lo (.slice B m d) xs sl G
  hq : ∀ q, (Value.slice A n c).ownBlock = some q → q ≠ Q ∧ (Value.slice B m d).ownBlock ≠ some q ∧ ∀ i, i < sl.length → ¬ G i q
  bq : (Value.slice B m d).ownBlock ≠ some Q
  gq : ∀ i, i < sl.length → ¬ G i Q
  len : sl.length = m
/-- The blocks that a change of the table writes. -/
def BxF (Q : Nat) (A : Option Addr) (n c : Nat) (B : Option Addr) (m d : Nat) (q : Nat) : Prop := q = Q ∨ (Value.slice A n c).ownBlock = some q ∨ (Value.slice B m d).ownBlock = some q
section
variable {w w' : World} {Q lo : Nat} {b : Bool} {l : List Int} {sl : List Sl} {A : Option Addr} {n c : Nat} {B : Option Addr} {m d : Nat} {x k : Int} {G : Nat → Nat → Prop}
theorem BxT.below (h : BxT w Q lo b l sl A n c B m d x k G) (hb : Below w.heap.size w w') : BxT w' Q lo b l sl A n c B m d x k G :=
  ⟨carry hb h.box, h.heads.below hb, h.slots.imp fun xs h => h.below hb, h.hq, h.bq, h.gq, h.len⟩
end
end Go.Proofs.YtdgfpfkhcojgaaaGreatDoor.tree

/-
  A table of the call's own whose slots' values lie apart: those of slot i in G i.
  Conditions: those that each theorem names.
-/
namespace Go.Proofs.YtdgfpfkhcojgaaaGreatDoor.tree
open Go.ChangeShapes Go.WideShapes Go.ChangeAt Go.RowKit
set_option linter.unusedVariables false

/-- The blocks where a value lies are those of F. -/
theorem TRk.tin_F {w : World} {rk : Nat → Nat} {par : Nat → Nat × Nat} {here : Nat × Nat} {t : Tr} {v : Value} (h : TRk w rk par here t v) : TIn w (fun b => rk b ≠ 0) t v := by
  induction h with
  | mk here k n s x ks vs A cap g arr K N X Z D H hk hl hm hcap hg hc ht ih =>
    by_cases h0 : 0 < vs.length
    · obtain ⟨hA, hp, hlt, hb, hs2⟩ := hg h0
      have each : ∀ i (hi : i < vs.length), ∃ L, At8r arr i (ks[i]'(hl ▸ hi)) (K i) (N i) (Z i) (X i) (D i) L (H i) := fun i hi => (hc i hi).2
      refine .mk k n s x ks vs A cap (fun i => if hi : i < vs.length then #[.int .i64 (K i), .int .i64 (N i), .string (Z i), .int .i64 (X i), .slice (D i) (each i hi).choose (H i)] else #[]) hk hl hm hcap (fun i hi => ?_) (fun i hi => ?_)
      · have hL := (each i hi).choose_spec
        have at_ : ∀ q, q < 8 → w.cell? ((⟨g, 0, none⟩ : Addr).add (8 * i + q)) = (eV (ks[i]'(hl ▸ hi)) (K i) (N i) (Z i) (X i) (D i) (each i hi).choose (H i)).cells[q]? := fun q hq => by
          rw [Addr.add_lit, Nat.zero_add, cell_of_row w g _ arr IE _ hb, ← hL q hq, Nat.mul_comm]
        refine ⟨⟨g, 0, none⟩, hA, (show rk g ≠ 0 by omega), ⟨at_ 0 (by omega), at_ 1 (by omega), at_ 2 (by omega), (hc i hi).1⟩, by simp only [dif_pos hi]; rfl, fun j hj => ?_⟩
        rw [at_ (3 + j) (by omega)]
        simp only [dif_pos hi]
        match j, hj with
        | 0, _ => rfl
        | 1, _ => rfl
        | 2, _ => rfl
        | 3, _ => rfl
        | 4, _ => rfl
      · simp only [dif_pos hi]
        exact ih i hi _ (each i hi).choose_spec
    · exact .mk k n s x ks vs A cap (fun _ => #[]) hk hl hm hcap (fun i hi => absurd hi (by omega)) (fun i hi => absurd hi (by omega))
theorem FIn.tin_F {w : World} {F : Nat → Prop} {t : Tr} {v : Value} (h : FIn w F t v) : TIn w F t v := by
  obtain ⟨rk, par, here, h1, h2, h3⟩ := h
  exact h1.tin_F.stays h3 (fun _ _ _ => rfl)
structure OwnF (w : World) (lo : Nat) (l : List Int) (sl : List Sl) (A : Option Addr) (n c : Nat) (B : Option Addr) (m d : Nat) (G : Nat → Nat → Prop) : Prop where
  heads : imem.OwnI w lo A n c l
  slots : ∃ xs, SFw w lo (.slice B m d) xs sl G
  hq : ∀ q, (Value.slice A n c).ownBlock = some q → (Value.slice B m d).ownBlock ≠ some q ∧ ∀ i, i < m → ¬ G i q
  len : sl.length = m
  low : ∀ i, i < m → ∀ q, G i q → lo ≤ q
/-- Its blocks. -/
def FOwn (A : Option Addr) (n c : Nat) (B : Option Addr) (m d : Nat) (G : Nat → Nat → Prop) (q : Nat) : Prop := (Value.slice A n c).ownBlock = some q ∨ (Value.slice B m d).ownBlock = some q ∨ ∃ i, i < m ∧ G i q
/-- The slots of block g, whose values lie apart. -/
def LaidF (w : World) (g d : Nat) (sl : List Sl) (G : Nat → Nat → Prop) : Prop :=
  ∃ arr, w.heap[g]? = some (.cells arr IS (0, 0)) ∧ arr.size = d * 10 ∧ ∀ (i : Nat) t, sl[i]? = some t → (I64 t.key.num ∧ t.key.str.size ≤ maxLen) ∧ I64 t.link ∧
    ∃ k n s x ks vs A c, t.val = .mk k n s x ks vs ∧ FIn w (G i) t.val (vV k n s x A vs.length c) ∧ At10r arr i t.key k n s x A vs.length c t.live t.link
section
variable {w w' : World} {lo lo' : Nat} {l : List Int} {sl : List Sl} {A B : Option Addr} {n c m d g : Nat} {G : Nat → Nat → Prop}
theorem LaidF.keep (h : LaidF w g d sl G) (hs : ∀ b, (b = g ∨ ∃ i, i < sl.length ∧ G i b) → b < w.heap.size → w'.heap[b]? = w.heap[b]?) : LaidF w' g d sl G := by
  obtain ⟨arr, ha, hz, h⟩ := h
  refine ⟨arr, (hs g (.inl rfl) (Array.getElem?_eq_some_iff.1 ha).1).trans ha, hz, fun i t ht => ?_⟩
  obtain ⟨h1, h2, k, n, s, x, ks, vs, A, c, hv, hT, hc⟩ := h i t ht
  exact ⟨h1, h2, k, n, s, x, ks, vs, A, c, hv, hT.keep fun b hb hlt => hs b (.inr ⟨i, (List.getElem?_eq_some_iff.1 ht).1, hb⟩) hlt, hc⟩
/-- A row made by append, as a block. -/
theorem SFw.laid {xs : List Value} (h : SFw w lo (.slice B m d) xs sl G) (hl : sl.length = m) : (B = none ∧ m = 0 ∧ d = 0) ∨ ∃ g, B = some ⟨g, 0, none⟩ ∧ lo ≤ g ∧ (m ≤ d ∧ d ≤ maxLen) ∧ LaidF w g d sl G := by
  obtain ⟨h1, h3⟩ := h
  rcases h1.2 with ⟨e, h0⟩ | ⟨g, cap, cur, e, hlo, hg, hnc, hcm, hsz, htk⟩
  · obtain ⟨rfl, rfl, rfl⟩ : B = none ∧ m = 0 ∧ d = 0 := by simpa using e
    exact .inl ⟨rfl, rfl, rfl⟩
  · obtain ⟨rfl, rfl, rfl⟩ : B = some ⟨g, 0, none⟩ ∧ m = sl.length ∧ d = cap := by simpa using e
    refine .inr ⟨g, rfl, hlo, ⟨hnc, hcm⟩, cur, hg, hsz, fun i t ht => ?_⟩
    obtain ⟨k, n, s, x, ks', vs', A, c, a1, a2, a3, a4, a5, a6⟩ := h3 i t ht
    refine ⟨a2, a3, k, n, s, x, ks', vs', A, c, a1, a5, fun q hq => ?_⟩
    have hil := (List.getElem?_eq_some_iff.1 ht).1
    have := a4 q hq
    rw [← htk, List.getElem?_take, if_pos (by omega)] at this
    simpa using this
/-- And back. -/
theorem LaidF.row (h : LaidF w g d sl G) (hl : sl.length = m) (hd : m ≤ d ∧ d ≤ maxLen) (hlo : lo ≤ g) (hG : ∀ i, i < m → ∀ b, G i b → (b < w.heap.size ∧ b ≠ g) ∧ ∀ j, j < i → ¬ G j b) : ∃ xs, SFw w lo (.slice (some ⟨g, 0, none⟩) m d) xs sl G := by
  obtain ⟨arr, ha, hz, h⟩ := h
  subst hl
  refine ⟨arr.toList.take (sl.length * 10), ⟨?_, .inr ⟨g, d, arr, rfl, hlo, ha, hd.1, hd.2, hz, rfl⟩⟩, fun i t ht => ?_⟩
  · have := Nat.mul_le_mul_right 10 hd.1
    rw [List.length_take]
    show min (sl.length * 10) arr.size = sl.length * 10
    omega
  · obtain ⟨h1, h2, k, n, s, x, ks, vs, A, c, hv, hT, hc⟩ := h i t ht
    have hil := (List.getElem?_eq_some_iff.1 ht).1
    refine ⟨k, n, s, x, ks, vs, A, c, hv, h1, h2, fun q hq => ?_, hT, fun b hb => ?_⟩
    · rw [List.getElem?_take, if_pos (by omega)]
      simpa using hc q hq
    · have := hG i hil b hb
      exact ⟨⟨this.1.1, fun e => this.1.2 (by simpa [Value.ownBlock] using e.symm)⟩, this.2⟩
theorem OwnF.foot (h : OwnF w lo l sl A n c B m d G) {i : Nat} (hi : i < m) {q : Nat} (hg : G i q) : (lo ≤ q ∧ q < w.heap.size) ∧ (Value.slice B m d).ownBlock ≠ some q ∧ (Value.slice A n c).ownBlock ≠ some q := by
  obtain ⟨xs, hs⟩ := h.slots
  have := hs.foot (by rw [h.len]; exact hi) hg
  exact ⟨⟨h.low i hi q hg, this.1⟩, this.2, fun e => (h.hq q e).2 i hi hg⟩
theorem OwnF.apart (h : OwnF w lo l sl A n c B m d G) {i j : Nat} (hi : i < m) (hj : j < m) (hij : i ≠ j) {q : Nat} (hg : G i q) : ¬ G j q := by
  obtain ⟨xs, hs⟩ := h.slots
  exact hs.apart (by rw [h.len]; exact hi) (by rw [h.len]; exact hj) hij hg
theorem OwnF.rg (h : OwnF w lo l sl A n c B m d G) : ∀ q, FOwn A n c B m d G q → Rg lo w.heap.size q := fun q hq => by
  obtain ⟨xs, hs⟩ := h.slots
  rcases hq with hq | hq | ⟨i, hi, hq⟩
  · exact h.heads.block q hq
  · exact hs.block q hq
  · exact (h.foot hi hq).1
theorem OwnF.keep (h : OwnF w lo l sl A n c B m d G) (hz : w.heap.size ≤ w'.heap.size) (hs : ∀ q, FOwn A n c B m d G q → q < w.heap.size → w'.heap[q]? = w.heap[q]?) : OwnF w' lo l sl A n c B m d G := by
  obtain ⟨h1, ⟨xs, h2⟩, h3, h4, h5⟩ := h
  refine ⟨owni_blk h1 fun q e => hs q (.inl e) (h1.block q e).2, ⟨xs, h2.keep hz fun b hb hl => hs b ?_ hl⟩, h3, h4, h5⟩
  rcases hb with hb | ⟨i, hi, hb⟩
  · exact .inr (.inl hb)
  · exact .inr (.inr ⟨i, by rw [← h4]; exact hi, hb⟩)
theorem OwnF.below (h : OwnF w lo l sl A n c B m d G) (hb : Below w.heap.size w w') : OwnF w' lo l sl A n c B m d G := h.keep hb.size fun q _ hl => hb.block q hl
theorem OwnF.lower (h : OwnF w lo l sl A n c B m d G) (hl : lo' ≤ lo) : OwnF w lo' l sl A n c B m d G := by
  obtain ⟨h1, ⟨xs, h2⟩, h3, h4, h5⟩ := h
  refine ⟨⟨h1.1, h1.2.1, ?_⟩, ⟨xs, ⟨h2.1.1, ?_⟩, h2.2⟩, h3, h4, fun i hi q hg => Nat.le_trans hl (h5 i hi q hg)⟩
  · rcases h1.2.2 with h | ⟨g, cap, cur, e, hlo, hr⟩
    · exact .inl h
    · exact .inr ⟨g, cap, cur, e, Nat.le_trans hl hlo, hr⟩
  · rcases h2.1.2 with h | ⟨g, cap, cur, e, hlo, hr⟩
    · exact .inl h
    · exact .inr ⟨g, cap, cur, e, Nat.le_trans hl hlo, hr⟩
theorem OwnF.cap (h : OwnF w lo l sl A n c B m d G) : m ≤ d ∧ d ≤ maxLen := by
  obtain ⟨xs, hs⟩ := h.slots
  obtain ⟨A', c', e, hc⟩ := hs.out
  obtain ⟨-, -, rfl⟩ : B = A' ∧ m = sl.length ∧ d = c' := by simpa using e
  rw [← h.len]
  exact hc
/-- The slots, to be read. -/
theorem OwnF.sin (h : OwnF w lo l sl A n c B m d G) : SIn w (fun q => lo ≤ q) sl B := fun i t ht => by
  obtain ⟨xs, hs⟩ := h.slots
  have hil := (List.getElem?_eq_some_iff.1 ht).1
  rcases hs.laid h.len with ⟨-, h0, -⟩ | ⟨g, rfl, hlo, hd, arr, ha, hz, hr⟩
  · have := h.len; omega
  · obtain ⟨h1, h2, k, n, s, x, ks, vs, A', c', hv, hT, hc⟩ := hr i t ht
    obtain ⟨r, -⟩ := rowc ha
    have e : (⟨g, 0, none⟩ : Addr).add (i * 10) = ⟨g, i * 10, none⟩ := mem.add_zero_lit g (i * 10)
    refine ⟨_, k, n, s, x, ks, vs, A', c', rfl, hlo, h1, h2, hv, hT.tin_F.stays (fun b hb => h.low i (by rw [← h.len]; exact hil) b hb) (fun _ _ _ => rfl), ?_⟩
    rw [e]
    have z : ∀ q, q < 10 → w.cell? ⟨g, i * 10 + q, none⟩ = _ := fun q hq => (r _).trans (hc q hq)
    exact ⟨z 0 (by omega), z 1 (by omega), z 2 (by omega), z 3 (by omega), z 4 (by omega), z 5 (by omega), z 6 (by omega), z 7 (by omega), z 8 (by omega), z 9 (by omega)⟩
theorem OwnF.tbin {x k : Int} (h : OwnF w lo l sl A n c B m d G) (hn : n ≤ maxLen) (hx : I64 x) (hk : I64 k) : TbIn w (fun q => lo ≤ q) l sl A n c B m d x k :=
  ⟨h.heads.rd, hn, h.len, h.cap, h.sin, hx, hk⟩
/-- A table whose lists hang at one block. -/
theorem OwnT.ownF {par : Nat → Nat × Nat} {R : Nat} (h : OwnT w par R lo l sl A n c B m d) : ∃ G, OwnF w lo l sl A n c B m d G := by
  obtain ⟨par', hp, hr⟩ := h.tight
  rcases hp.slots with ⟨rfl, rfl⟩ | ⟨g, rfl, h1, h2, h3, h4, h5⟩
  · obtain rfl := hp.nod rfl
    obtain rfl : sl = [] := List.length_eq_zero_iff.1 hp.len
    exact ⟨fun _ _ => False, hp.heads, ⟨[], SFw.nil w lo _⟩, fun q e => ⟨by simp [Value.ownBlock], fun i hi => absurd hi (by omega)⟩, rfl, fun i hi => absurd hi (by omega)⟩
  · have hG : ∀ i, i < m → ∀ b, Hang par' (R, i) b → (b < w.heap.size ∧ b ≠ g) ∧ ∀ j, j < i → ¬ Hang par' (R, j) b := fun i hi b hb => by
      have hgt := hb.gt
      simp at hgt
      exact ⟨⟨(hr b (.inr (.inr ⟨i, hb⟩))).2, by omega⟩, fun j hj hh => by have := hb.disj hh; omega⟩
    have hL : LaidF w g d sl (fun i => Hang par' (R, i)) := by
      obtain ⟨arr, ha, hz, hi⟩ := h5
      refine ⟨arr, ha, hz, fun i t ht => ?_⟩
      obtain ⟨a1, a2, -, -, a5⟩ := hi i t ht
      obtain ⟨k, n, s, x, ks, vs, A, c, hv, hT, hc⟩ := a5 (by have := (List.getElem?_eq_some_iff.1 ht).1; have := hp.len; omega)
      exact ⟨a1, a2, k, n, s, x, ks, vs, A, c, hv, hT.fin, hc⟩
    refine ⟨fun i => Hang par' (R, i), hp.heads, hL.row hp.len hp.cap h1 hG, fun q e => ⟨fun h => h4 q e (by simpa [Value.ownBlock] using h.symm), fun i hi hg => ?_⟩, hp.len, fun i hi q hg => (hr q (.inr (.inr ⟨i, hg⟩))).1⟩
    have := hp.low q e
    have := hg.gt
    simp at this
    omega
end

end Go.Proofs.YtdgfpfkhcojgaaaGreatDoor.tree

/-
  The slots of an own table marked, whose values lie apart, with what they hold then.
  Conditions: those that each theorem names.
-/
namespace Go.Proofs.YtdgfpfkhcojgaaaGreatDoor.tree
open Go.ChangeShapes Go.WideShapes Go.ChangeAt Go.RowKit
set_option linter.unusedVariables false

theorem LaidF.mark {wr w4 : World} {G : Nat → Nat → Prop} {g d M j : Nat} {m q : Int} {sl : List Sl} (h : LaidF wr g d (mix (mkSls m sl) sl j) G) (hM : sl.length = M) (hMd : M ≤ d) (hG : ∀ i, i < M → ∀ b, G i b → b ≠ g ∧ ∀ j, j < i → ¬ G j b) {yt : Ky} {bt : Bool} {lt : Int} {k1 n1 x1 : Int} {s1 : ByteArray} {ks1 : List Ky} {vs1 : List Tr} (ht : sl[j]? = some ⟨yt, .mk k1 n1 s1 x1 ks1 vs1, bt, lt⟩)
    (hq : q = m + cS (sl.take j)) (hq0 : 1 ≤ q) {Q : Int} (hQ : Q = q + 7 + 7 * cnts vs1) (hq1 : Q ≤ 1000000000000) {A1 : Option Addr} {c1 : Nat}
    (hg : ∀ arr, wr.heap[g]? = some (.cells arr IS (0, 0)) → arr[j * 10 + 7]? = some (.slice A1 vs1.length c1) ∧ w4.heap[g]? = some (.cells (set9 arr (j * 10) (.bool (decide (q % 3 = 0))) (.int .i64 (q + 1)) (.string (mtx (q + 2))) (.int .i64 (q + 3)) (.int .i64 (q + 4)) (.string (mtx (q + 5))) (.int .i64 (q + 6)) (.bool (decide (Q % 3 = 0))) (.int .i64 (Q + 1))) IS (0, 0)))
    (ho : ∀ b, b ≠ g → b < wr.heap.size → ¬ G j b → w4.heap[b]? = wr.heap[b]?)
    (htp : FIn w4 (G j) (.mk (q + 3) (q + 4) (mtx (q + 5)) (q + 6) (mkK (q + 7) vs1) (mkV (q + 7) vs1)) (vV (q + 3) (q + 4) (mtx (q + 5)) (q + 6) A1 vs1.length c1)) :
    LaidF w4 g d (mix (mkSls m sl) sl (j + 1)) G := by
  obtain ⟨hj, -⟩ := List.getElem?_eq_some_iff.1 ht
  obtain ⟨arr, ha, hs, hi⟩ := h
  obtain ⟨hsl, hg4⟩ := hg arr ha
  have hl1 : (mkSls m sl).length = sl.length := mkSls_len m sl
  refine ⟨_, hg4, by rw [set9_size]; exact hs, fun i t hit => ?_⟩
  have hb : j * 10 + 10 ≤ arr.size := by omega
  by_cases e : i = j
  · subst e
    have hv : (mix (mkSls m sl) sl (i + 1))[i]? = some (mkSl q ⟨yt, .mk k1 n1 s1 x1 ks1 vs1, bt, lt⟩) := by rw [mix_lt hl1 (by omega) (by omega), mkSls_get m sl i _ ht, hq]
    rw [hv] at hit
    obtain rfl := Option.some.inj hit
    have hc : q + 7 * (cnt (.mk k1 n1 s1 x1 ks1 vs1) : Int) = Q := by rw [cnt_mk', hQ]; push_cast; omega
    unfold mkSl
    simp only
    rw [hc, mkT_mk]
    obtain ⟨t8, t9⟩ := set9_top arr (i * 10) (.bool (decide (q % 3 = 0))) (.int .i64 (q + 1)) (.string (mtx (q + 2))) (.int .i64 (q + 3)) (.int .i64 (q + 4)) (.string (mtx (q + 5))) (.int .i64 (q + 6)) (.bool (decide (Q % 3 = 0))) (.int .i64 (Q + 1)) hb
    refine ⟨⟨by show I64 (q + 1); unfold I64; omega, by show (mtx (q + 2)).size ≤ maxLen; have := mtx_size (q + 2); unfold maxLen; omega⟩, by unfold I64; omega, _, _, _, _, _, _, A1, c1, rfl, by rw [mkV_len]; exact htp, fun p hp => ?_⟩
    by_cases hp7 : p < 7
    · rw [set9_low _ _ _ _ _ _ _ _ _ _ _ hb p hp7]
      match p, hp7 with
      | 0, _ => rfl
      | 1, _ => rfl
      | 2, _ => rfl
      | 3, _ => rfl
      | 4, _ => rfl
      | 5, _ => rfl
      | 6, _ => rfl
    · obtain rfl | rfl | rfl : p = 7 ∨ p = 8 ∨ p = 9 := by omega
      · rw [set9_out _ _ _ _ _ _ _ _ _ _ _ _ (by omega), hsl, mkV_len]
        rfl
      · exact t8
      · exact t9
  · have same : (mix (mkSls m sl) sl (j + 1))[i]? = (mix (mkSls m sl) sl j)[i]? := by
      by_cases hlt : i < j
      · rw [mix_lt hl1 (by omega) (by omega), mix_lt hl1 hlt (by omega)]
      · rw [mix_ge hl1 (by omega) (by omega), mix_ge hl1 (by omega) (by omega)]
    rw [same] at hit
    have hil : i < sl.length := by
      have := (List.getElem?_eq_some_iff.1 hit).1
      rwa [mix_len hl1] at this
    obtain ⟨h1, h2, k, n, s, x, ks, vs, A, c, hv, hT, hc⟩ := hi i t hit
    have out : ∀ p, p < 10 → (set9 arr (j * 10) (.bool (decide (q % 3 = 0))) (.int .i64 (q + 1)) (.string (mtx (q + 2))) (.int .i64 (q + 3)) (.int .i64 (q + 4)) (.string (mtx (q + 5))) (.int .i64 (q + 6)) (.bool (decide (Q % 3 = 0))) (.int .i64 (Q + 1)))[i * 10 + p]? = arr[i * 10 + p]? := fun p hp => set9_out _ _ _ _ _ _ _ _ _ _ _ _ (by omega)
    exact ⟨h1, h2, k, n, s, x, ks, vs, A, c, hv, hT.keep fun b hb hlt => ho b (hG i (by omega) b hb).1 hlt fun hh => by
      rcases Nat.lt_or_ge i j with h0 | h0
      · exact (hG j (by omega) b hh).2 i h0 hb
      · exact (hG i (by omega) b hb).2 j (by omega) hh, fun p hp => (out p hp).trans (hc p hp)⟩

/-- The blocks of a table's slots and values. -/
def SlG (g M : Nat) (G : Nat → Nat → Prop) (b : Nat) : Prop := b = g ∨ ∃ i, i < M ∧ G i b

set_option maxHeartbeats 4000000 in
set_option maxRecDepth 100000 in
theorem markSlotsF (sl : List Sl) (m : Int) (hm0 : 1 ≤ m) (hm1 : m + cS sl ≤ 100000000000) (w : World) (G : Nat → Nat → Prop) (g d M : Nat) (hM : sl.length = M) (hMd : M ≤ d ∧ d ≤ maxLen) (hG : ∀ i, i < M → ∀ b, G i b → b ≠ g ∧ ∀ j, j < i → ¬ G j b) (h : LaidF w g d sl G) :
    Calls Tryz.prog 84 #[.slice (some ⟨g, 0, none⟩) M d, .int .i64 m] w (fun e w' => e = .returned (.int .i64 (m + cS sl)) ∧ LaidF w' g d (mkSls m sl) G ∧ Fr (SlG g M G) w w') := by
  have hb0 : LaidF w g d (mix (mkSls m sl) sl 0) G := by rw [mix_zero]; exact h
  have HB0 := Lib.hid hb0
  have HML := Lib.hid hM
  have hm : M ≤ maxLen := by omega
  unfold maxLen at hm
  have HM1 := Lib.hid hm1
  have HMD := Lib.hid hMd
  have HGG := Lib.hid hG
  obtain ⟨W, HW⟩ : ∃ W : Int, Hid (m + cS sl = W) := ⟨_, Lib.hid rfl⟩
  rw [HW.out]
  clear hm1 h hb0 hM hMd hG
  go_enter Tryz.func84, Tryz.ntmps84
  go_wp2_with (fail)
  go_loopg [1, 5] (M + 1) (fun gk l i wr => ∃ (j : Nat) (q : Int), i = .int .i64 j ∧ l = .int .i64 q ∧ gk + j = M + 1 ∧ j ≤ M ∧ 1 ≤ q ∧ q ≤ 100000000000 ∧ Hid (q = m + cS (sl.take j)) ∧ Hid (LaidF wr g d (mix (mkSls m sl) sl j) G) ∧ Hid (Fr (SlG g M G) w wr))
  case atStart => exact ⟨0, m, rfl, rfl, by omega, by omega, hm0, by have := HM1.out; omega, Lib.hid (by simp [cS]), HB0, Lib.hid (Fr.refl _ _)⟩
  case round =>
    obtain ⟨j, q, rfl, rfl, hgj, hjL, hq0, hq1, HQ, HBL, HFR⟩ := hrel
    by_cases hlt : j < M
    · obtain ⟨t, ht⟩ : ∃ t, sl[j]? = some t := ⟨_, List.getElem?_eq_getElem (by rw [HML.out]; exact hlt)⟩
      obtain ⟨arr, ha, hs, hi⟩ := HBL.out
      have hmx : (mix (mkSls m sl) sl j)[j]? = some t := by rw [mix_ge (mkSls_len m sl) (Nat.le_refl _) (by rw [mkSls_len, HML.out]; exact hjL), ht]
      obtain ⟨hyb, hlb, k1, n1, s1, x1, ks1, vs1, A1, c1, hv, hfin, hat⟩ := hi j t hmx
      obtain ⟨yt, vt, bt, lt⟩ := t
      simp only at hv
      subst hv
      have hct := cS_take ht
      have hcle := cS_le sl (j + 1)
      simp only at hct hfin hat
      obtain ⟨rk, par, hr, htp, hr0, hrF⟩ := hfin
      have HRF : Hid (∀ b, HangR rk par hr b → G j b) := Lib.hid fun b hb => hrF b hb.nz
      have HRG : Hid (∀ b, HangR rk par hr b → b ≠ g) := Lib.hid fun b hb => (HGG.out j hlt b (hrF b hb.nz)).1
      have HRZ := Lib.hid hr0
      have HRN := Lib.hid hrF
      rw [cnt_mk'] at hct
      have hq7 : q + 9 + 7 * cnts vs1 ≤ 100000000000 := by have h1 := HQ.out; have h2 := HM1.out; omega
      obtain ⟨Q, HQ2⟩ : ∃ Q : Int, Hid (q + 7 + 7 * cnts vs1 = Q) := ⟨_, Lib.hid rfl⟩
      obtain ⟨L1, HL1⟩ : ∃ L1, Hid (L1 = vs1.length) := ⟨_, Lib.hid rfl⟩
      have hq9 : Q + 2 ≤ 100000000000 := by rw [← HQ2.out]; omega
      have hQ0 : 1 ≤ Q := by rw [← HQ2.out]; omega
      have ihj : ∀ z, z = q + 7 → ∀ w', TRk w' rk par hr (.mk (q + 3) (q + 4) (mtx (q + 5)) (q + 6) ks1 vs1) (vV (q + 3) (q + 4) (mtx (q + 5)) (q + 6) A1 vs1.length c1) → Calls Tryz.prog 85 #[.slice A1 L1 c1, .int .i64 z] w' (MkQR w' rk par hr (.mk (q + 3) (q + 4) (mtx (q + 5)) (q + 6) (mkK (q + 7) vs1) (mkV (q + 7) vs1)) (vV (q + 3) (q + 4) (mtx (q + 5)) (q + 6) A1 vs1.length c1) Q) := fun z hz w' hw' => by
        subst hz
        have := markItemsR (.mk k1 n1 s1 x1 ks1 vs1) k1 n1 s1 x1 ks1 vs1 rfl (q + 3) (q + 4) (mtx (q + 5)) (q + 6) ks1 (q + 7) (by omega) (by omega) w' rk par hr A1 c1 hw'
        rw [HQ2.out] at this
        rw [HL1.out]
        exact this
      have HQ3 : Hid (Q + 1 + 1 = m + cS (sl.take (j + 1))) := Lib.hid (by rw [hct, ← HQ2.out, HQ.out]; push_cast; omega)
      have MT2 := markText (q + 2) (by omega) (by omega)
      have MT5 := markText (q + 5) (by omega) (by omega)
      have z2 := mtx_size (q + 2)
      have z5 := mtx_size (q + 5)
      obtain ⟨u2, HU2⟩ : ∃ u, Hid (mtx (q + 2) = u) := ⟨_, Lib.hid rfl⟩
      obtain ⟨u5, HU5⟩ : ∃ u, Hid (mtx (q + 5) = u) := ⟨_, Lib.hid rfl⟩
      unfold MtQ at MT2 MT5
      rw [HU2.out] at MT2 z2
      rw [HU5.out] at MT5 z5
      rw [show q + 2 = q + 1 + 1 by omega] at MT2
      rw [show q + 5 = q + 1 + 1 + 1 + 1 + 1 by omega] at MT5
      have IHJ := Lib.hid ihj
      have HTP := Lib.hid htp
      obtain ⟨B, HBX⟩ : ∃ B, Hid (arr = B) := ⟨_, Lib.hid rfl⟩
      rw [HBX.out] at ha
      have hs2 : (j + 1) * 10 ≤ B.size := by rw [← HBX.out]; have := HMD.out.1; omega
      obtain ⟨r, f⟩ := rowc ha
      have hgl : g < wr.heap.size := (Array.getElem?_eq_some_iff.1 ha).1
      have z : ∀ q, q < 10 → ∃ u, wr.cell? ⟨g, j * 10 + q, none⟩ = some u := fun q hq => ⟨_, (r _).trans (Array.getElem?_eq_getElem (by omega))⟩
      obtain ⟨w0, y0⟩ := z 0 (by omega)
      obtain ⟨w1', y1⟩ := z 1 (by omega)
      rw [Nat.add_zero] at y0
      have HA2 := Lib.hid ha
      have HTT := Lib.hid ht
      have hB7 : B[j * 10 + 7]? = some (.slice A1 L1 c1) := by rw [← HBX.out, HL1.out]; exact hat 7 (by omega)
      have HB7 := Lib.hid hB7
      have HR : Hid (SlG g M G g) := Lib.hid (.inl rfl)
      clear ihj htp hat ha hi hs hyb hlb hmx z r hct hcle ht hB7 hr0 hrF
      go_wp2_with (fail)
      refine (MT2 _).mono ?_
      rintro e w1 ⟨rfl, hb1⟩
      have hg1 := (hb1.block g (by rw [set_size, set_size]; exact hgl)).trans (set_heap (set_heap HA2.out (j * 10) (.bool (q % 3 == 0))) (j * 10 + 1) (.int .i64 (q + 1)))
      have hgl1 : g < w1.heap.size := (Array.getElem?_eq_some_iff.1 hg1).1
      obtain ⟨r1, f1⟩ := rowc hg1
      have z1 : ∀ p, p < 10 → ∃ u, w1.cell? ⟨g, j * 10 + p, none⟩ = some u := fun p hp => ⟨_, (r1 _).trans (Array.getElem?_eq_getElem (by simp; omega))⟩
      obtain ⟨_, y2⟩ := z1 2 (by omega)
      obtain ⟨_, y3⟩ := z1 3 (by omega)
      obtain ⟨_, y4⟩ := z1 4 (by omega)
      have HG1 := Lib.hid hg1
      have HX1 : Hid (∀ b, b ≠ g → b < wr.heap.size → w1.heap[b]? = wr.heap[b]?) := Lib.hid fun b hb hlt => (hb1.block b (by rw [set_size, set_size]; exact hlt)).trans ((set_other hb).trans (set_other hb))
      have HF1 : Hid (Fr (SlG g M G) wr w1) := Lib.hid (((Fr.set HR.out _ _).trans (Fr.set HR.out _ _)).trans (Fr.of hb1))
      have HZ1 : Hid (wr.heap.size ≤ w1.heap.size) := Lib.hid (by have := hb1.size; rwa [set_size, set_size] at this)
      clear f y0 y1 hb1 r1 z1 hg1
      go_wp2_with (fail)
      refine (MT5 _).mono ?_
      rintro e w2 ⟨rfl, hb2⟩
      have hg2 := (hb2.block g (by rw [set_size, set_size, set_size]; exact hgl1)).trans (set_heap (set_heap (set_heap HG1.out (j * 10 + 2) (.string u2)) (j * 10 + 3) (.int .i64 (q + 1 + 1 + 1))) (j * 10 + 4) (.int .i64 (q + 1 + 1 + 1 + 1)))
      have hgl2 : g < w2.heap.size := (Array.getElem?_eq_some_iff.1 hg2).1
      obtain ⟨r2, f2⟩ := rowc hg2
      have z2 : ∀ p, p < 10 → ∃ u, w2.cell? ⟨g, j * 10 + p, none⟩ = some u := fun p hp => ⟨_, (r2 _).trans (Array.getElem?_eq_getElem (by simp; omega))⟩
      obtain ⟨_, y5⟩ := z2 5 (by omega)
      obtain ⟨_, y6⟩ := z2 6 (by omega)
      have y7 : w2.cell? ⟨g, j * 10 + 7, none⟩ = some (.slice A1 L1 c1) := by
        rw [r2]
        iterate 5 rw [Array.getElem?_setIfInBounds_ne (by omega)]
        exact HB7.out
      have HG2 := Lib.hid hg2
      have HX2 : Hid (∀ b, b ≠ g → b < wr.heap.size → w2.heap[b]? = wr.heap[b]?) := Lib.hid fun b hb hlt => (hb2.block b (by rw [set_size, set_size, set_size]; exact Nat.lt_of_lt_of_le hlt HZ1.out)).trans ((set_other hb).trans ((set_other hb).trans ((set_other hb).trans (HX1.out b hb hlt))))
      have HF2 : Hid (Fr (SlG g M G) wr w2) := Lib.hid (HF1.out.trans ((((Fr.set HR.out _ _).trans (Fr.set HR.out _ _)).trans (Fr.set HR.out _ _)).trans (Fr.of hb2)))
      clear f1 y2 y3 y4 hb2 r2 z2 hg2
      go_wp2_with (fail)
      refine (IHJ.out _ (by omega) _ ?_).mono ?_
      · refine (HTP.out.keep fun b hb hlt => (set_other (HRG.out b hb)).trans ((set_other (HRG.out b hb)).trans (HX2.out b (HRG.out b hb) hlt))).head ⟨by unfold I64; omega, by unfold I64; omega, by unfold I64; omega, by have := mtx_size (q + 5); unfold maxLen; omega⟩
      rintro e w4 ⟨rfl, ht4, hf4⟩
      have hg4 := (hf4.block g (by rw [set_size, set_size]; exact hgl2) (fun hh => HRG.out g hh rfl)).trans (set_heap (set_heap HG2.out (j * 10 + 5) (.string u5)) (j * 10 + 6) (.int .i64 (q + 1 + 1 + 1 + 1 + 1 + 1)))
      obtain ⟨r4, f4⟩ := rowc hg4
      have z4 : ∀ p, p < 10 → ∃ u, w4.cell? ⟨g, j * 10 + p, none⟩ = some u := fun p hp => ⟨_, (r4 _).trans (Array.getElem?_eq_getElem (by simp; omega))⟩
      obtain ⟨_, y8⟩ := z4 8 (by omega)
      obtain ⟨_, y9⟩ := z4 9 (by omega)
      have HG4 := Lib.hid hg4
      have HT4 := Lib.hid ht4
      have HF4 := Lib.hid hf4
      clear f2 y5 y6 y7 ht4 hf4 hg4 z4 r4
      go_wp2_with (fail)
      go_roundg (M - j)
      case rel =>
        refine ⟨j + 1, Q + 1 + 1, by go_num, rfl, by omega, by omega, by omega, by omega, HQ3, Lib.hid (HBL.out.mark HML.out HMD.out.1 HGG.out HTT.out HQ.out hq0 (Q := Q) HQ2.out.symm (by omega) (A1 := A1) (c1 := c1) (fun arr' ha' => ?_) (fun b hb hlt hn => ?_) ?_), Lib.hid (HFR.out.trans (HF2.out.trans ((((Fr.set HR.out _ _).trans (Fr.set HR.out _ _))).trans ((HF4.out.mono fun b hb => .inr ⟨j, hlt, HRF.out b hb⟩).trans ((Fr.set HR.out _ _).trans (Fr.set HR.out _ _))))))⟩
        · rw [HA2.out] at ha'
          obtain rfl : B = arr' := by injection ha' with ha'; injection ha'
          refine ⟨by rw [HB7.out, HL1.out], (set_heap (set_heap HG4.out (j * 10 + 8) (.bool (Q % 3 == 0))) (j * 10 + 9) (.int .i64 (Q + 1))).trans ?_⟩
          unfold set9 set7
          have e0 : (q % 3 == 0) = decide (q % 3 = 0) := by rw [Bool.eq_iff_iff]; simp
          have e1 : (Q % 3 == 0) = decide (Q % 3 = 0) := by rw [Bool.eq_iff_iff]; simp
          rw [HU2.out, HU5.out, e0, e1, show q + 1 + 1 + 1 + 1 + 1 + 1 = q + 6 by omega, show q + 1 + 1 + 1 + 1 = q + 4 by omega, show q + 1 + 1 + 1 = q + 3 by omega]
        · exact (set_other hb).trans ((set_other hb).trans ((HF4.out.block b (by rw [set_size, set_size]; exact Nat.lt_of_lt_of_le hlt HF2.out.size) (fun hh => hn (HRF.out b hh))).trans ((set_other hb).trans ((set_other hb).trans (HX2.out b hb hlt)))))
        · exact ⟨rk, par, hr, HT4.out.keep fun b hb hlt => (set_other (HRG.out b hb)).trans (set_other (HRG.out b hb)), HRZ.out, HRN.out⟩
      case measure => omega
    · obtain rfl : j = M := by omega
      have e : q = W := by rw [HQ.out, ← HW.out, ← HML.out, List.take_length]
      subst e
      go_wp2_with (fail)
      go_ret
      refine ⟨rfl, ?_, HFR.out⟩
      have := HBL.out
      rwa [show mix (mkSls m sl) sl j = mkSls m sl by rw [← HML.out]; exact mix_all (mkSls_len m sl)] at this

end Go.Proofs.YtdgfpfkhcojgaaaGreatDoor.tree

/-
  An own table marked whose values lie apart, with what it holds then.
  Conditions: those that each theorem names.
-/
namespace Go.Proofs.YtdgfpfkhcojgaaaGreatDoor.tree
open Go.ChangeShapes Go.WideShapes Go.ChangeAt Go.RowKit
set_option linter.unusedVariables false

/-- The row of slots, or none. -/
def SlRow (w : World) (lo : Nat) (sl : List Sl) (B : Option Addr) (m d : Nat) (G : Nat → Nat → Prop) : Prop :=
  (B = none ∧ m = 0 ∧ d = 0) ∨ ∃ g, B = some ⟨g, 0, none⟩ ∧ lo ≤ g ∧ (m ≤ d ∧ d ≤ maxLen) ∧ LaidF w g d sl G
theorem SlRow.row {w : World} {lo m d : Nat} {sl : List Sl} {B : Option Addr} {G : Nat → Nat → Prop} (h : SlRow w lo sl B m d G) (hl : sl.length = m) (hG : ∀ i, i < m → ∀ b, G i b → (b < w.heap.size ∧ (Value.slice B m d).ownBlock ≠ some b) ∧ ∀ j, j < i → ¬ G j b) : ∃ xs, SFw w lo (.slice B m d) xs sl G := by
  rcases h with ⟨rfl, rfl, rfl⟩ | ⟨g, rfl, h1, h2, h3⟩
  · obtain rfl : sl = [] := List.length_eq_zero_iff.1 hl
    exact ⟨[], SFw.nil w lo G⟩
  · exact h3.row hl h2 h1 fun i hi b hb => ⟨⟨(hG i hi b hb).1.1, fun e => (hG i hi b hb).1.2 (by rw [e]; rfl)⟩, (hG i hi b hb).2⟩

set_option maxHeartbeats 1600000 in
theorem markTableF {G : Nat → Nat → Prop} {lo n c m d : Nat} {l : List Int} {sl : List Sl} {A B : Option Addr} {b : Bool} {x k : Int} (w : World) (h : OwnF w lo l sl A n c B m d G) (hn : n ≤ 1048576) (hc : cS sl ≤ 99000000000) :
    Calls Tryz.prog 33 #[tbV b A n c B m d x k, .int .i64 1] w (fun e w' => e = .returned (.int .i64 (1 + (n : Int) + cS sl)) ∧ (∃ l2, FromI 1 n l2 ∧ OwnF w' lo l2 (mkSls (1 + (n : Int)) sl) A n c B m d G) ∧ Fr (FOwn A n c B m d G) w w') := by
  have M1 := Lib.hid (fun w' (hw : Below w.heap.size w w') => markIntsX A n c lo l w' (h.heads.below hw) hn 1 (by omega) (by omega))
  obtain ⟨W, HW⟩ : ∃ W : Int, Hid (1 + (n : Int) + cS sl = W) := ⟨_, Lib.hid rfl⟩
  have M2 : Hid (∀ w', SlRow w' lo sl B m d G → Calls Tryz.prog 84 #[.slice B m d, .int .i64 (1 + (n : Int))] w' (fun e w2 => e = .returned (.int .i64 W) ∧ SlRow w2 lo (mkSls (1 + (n : Int)) sl) B m d G ∧ Fr (fun q => (Value.slice B m d).ownBlock = some q ∨ ∃ i, i < m ∧ G i q) w' w2)) := Lib.hid (fun w' hs => by
    rw [← HW.out]
    rcases hs with ⟨rfl, rfl, rfl⟩ | ⟨g, rfl, h1, h2, h3⟩
    · have hnil : sl = [] := List.length_eq_zero_iff.1 h.len
      subst hnil
      refine (markSlots [] (1 + (n : Int)) (by omega) (by omega) w' (fun _ => False) none 0 (fun i t ht => by simp at ht) (Nat.zero_le _) (fun b hb => hb.elim)).mono ?_
      rintro e w2 ⟨rfl, hs⟩
      exact ⟨rfl, .inl ⟨rfl, rfl, rfl⟩, hs.fr.mono fun b hb => hb.elim⟩
    · refine (markSlotsF sl (1 + (n : Int)) (by omega) (by omega) w' G g d m h.len h2 (fun i hi b hb => ⟨fun e => (h.foot hi hb).2.1 (by rw [e]; rfl), fun j hj => h.apart hi (by omega) (by omega) hb⟩) h3).mono ?_
      rintro e w2 ⟨rfl, hl, hf⟩
      refine ⟨rfl, .inr ⟨g, rfl, h1, h2, hl⟩, hf.mono fun b hb => ?_⟩
      rcases hb with rfl | hb
      · exact .inl rfl
      · exact .inr hb)
  have HT := Lib.hid h
  have HS0 : Hid (SlRow w lo sl B m d G) := Lib.hid (by
    obtain ⟨xs, hs⟩ := h.slots
    exact hs.laid h.len)
  rw [HW.out]
  clear h hc
  go_enter Tryz.func33, Tryz.ntmps33
  go_wp2_with (fail)
  refine (M1.out _ (b1 w _)).mono ?_
  rintro e w1 ⟨rfl, hf, l2, ho2, hfr⟩
  have hB := b1 w (.cells #[.bool b, .slice A n c, .slice B m d, .int .i64 x, .int .i64 k] IT)
  have hne : ∀ q, ((Value.slice B m d).ownBlock = some q ∨ ∃ i, i < m ∧ G i q) → (Value.slice A n c).ownBlock ≠ some q := fun q hq e => by
    rcases hq with hq | ⟨i, hi, hq⟩
    · exact (HT.out.hq q e).1 hq
    · exact (HT.out.hq q e).2 i hi hq
  have hk : ∀ q, ((Value.slice B m d).ownBlock = some q ∨ ∃ i, i < m ∧ G i q) → q < w.heap.size → w1.heap[q]? = w.heap[q]? := fun q hq hl => (hf.block q (Nat.lt_of_lt_of_le hl hB.size) (hne q hq)).trans (hB.block q hl)
  have hsz : w.heap.size ≤ w1.heap.size := Nat.le_trans hB.size hf.size
  have HS1 : Hid (SlRow w1 lo sl B m d G) := Lib.hid (by
    rcases HS0.out with h0 | ⟨g, rfl, h1, h2, h3⟩
    · exact .inl h0
    · refine .inr ⟨g, rfl, h1, h2, h3.keep fun q hq hl => hk q ?_ hl⟩
      rcases hq with rfl | ⟨i, hi, hq⟩
      · exact .inl rfl
      · exact .inr ⟨i, by rw [← HT.out.len]; exact hi, hq⟩)
  have hbx : w1.heap[w.heap.size]? = some (.cells #[.bool b, .slice A n c, .slice B m d, .int .i64 x, .int .i64 k] IT (0, 0)) := (hf.block w.heap.size (by simp) (fun e => by have := (HT.out.heads.block _ e).2; omega)).trans (heap_alloc_new w _)
  have HF1 : Hid (Fr (FOwn A n c B m d G) w w1) := Lib.hid ((Fr.of hB).trans (hf.mono fun q e => .inl e))
  have HO2 := Lib.hid ho2
  have HFI := Lib.hid hfr
  have HNE := Lib.hid hne
  have q2 := (rowc hbx).1 2
  simp at q2
  clear hf hB hk hbx ho2 hfr hne
  go_wp2_with (fail)
  refine (M2.out _ HS1.out).mono ?_
  rintro e w2 ⟨rfl, hs2, hf2⟩
  have HF2 : Hid (Fr (FOwn A n c B m d G) w w2) := Lib.hid (HF1.out.trans (hf2.mono fun q hq => .inr hq))
  have HT2 : Hid (OwnF w2 lo l2 (mkSls (1 + (n : Int)) sl) A n c B m d G) := Lib.hid ⟨owni_blk HO2.out fun q e => hf2.block q (HO2.out.block q e).2 (fun hh => HNE.out q hh e), hs2.row (by rw [mkSls_len]; exact HT.out.len) (fun i hi b hb => ⟨⟨by have := (HT.out.foot hi hb).1.2; have := hf2.size; omega, (HT.out.foot hi hb).2.1⟩, fun j hj => HT.out.apart hi (by omega) (by omega) hb⟩), HT.out.hq, by rw [mkSls_len]; exact HT.out.len, HT.out.low⟩
  clear hs2 hf2 q2
  go_wp2_with (fail)
  go_ret
  exact ⟨rfl, ⟨l2, HFI.out, HT2.out⟩, HF2.out⟩

end Go.Proofs.YtdgfpfkhcojgaaaGreatDoor.tree

/-
  The answer of a call that gives a table whose values lie apart, in a variable of its own, whenever a region that draws its order makes that variable.
  Conditions: those that each theorem names.
-/
namespace Go.Proofs.YtdgfpfkhcojgaaaGreatDoor.tree
open Go.ChangeShapes Go.WideShapes Go.ChangeAt Go.RowKit
set_option linter.unusedVariables false

/-- What a call made lies in blocks of its own. -/
def OwnGF (w : World) (W : Nat) (Q : Nat) (l : List Int) (sl : List Sl) (A : Option Addr) (n c : Nat) (B : Option Addr) (m d : Nat) : Prop :=
  ∃ G lo hi, OwnF w lo l sl A n c B m d G ∧ (∀ q, FOwn A n c B m d G q → Rg lo hi q) ∧ W ≤ lo ∧ hi ≤ w.heap.size ∧ ¬ Rg lo hi Q
def PrPF (W : Nat) (l : List Int) (sl : List Sl) (n m : Nat) (w : World) (Q : Nat) (A : Option Addr) (c : Nat) (B : Option Addr) (d : Nat) : Prop := OwnGF w W Q l sl A n c B m d
section
variable {W nw wF : World} {b : Bool} {x k : Int} {l : List Int} {sl : List Sl} {A B : Option Addr} {n c m d Q lo : Nat} {G : Nat → Nat → Prop}
theorem cutT_boxPF (hw : Below W.heap.size W nw) (h : OwnF nw lo l sl A n c B m d G) (hlo : W.heap.size ≤ lo) :
    CutT W b n m x k (PrPF W.heap.size l sl n m) (.pointer (some ⟨nw.heap.size, 0, none⟩)) (nw.alloc (.cells #[.bool b, .slice A n c, .slice B m d, .int .i64 x, .int .i64 k] IT)) :=
  ⟨nw.heap.size, A, c, B, d, rfl, bs hw (b1 nw _), hw.size, heap_alloc_new nw _, G, lo, nw.heap.size, h.below (b1 nw _), h.rg, hlo, (b1 nw _).size, fun h => by have := h.2; omega⟩
theorem cutT_earlyPF (hw : Below W.heap.size W nw) (hQ : W.heap.size ≤ Q) (ez : nw.heap[Q]? = some (.cells #[.bool false, .slice none 0 0, .slice none 0 0, .int .i64 0, .int .i64 0] IT (0, 0))) (h : OwnF nw lo l sl A n c B m d G) (hlo : Q < lo)
    (hF : (((((nw.setCell ⟨Q, 0, none⟩ (.bool b)).setCell ⟨Q, 1, none⟩ (.slice A n c)).setCell ⟨Q, 2, none⟩ (.slice B m d)).setCell ⟨Q, 3, none⟩ (.int .i64 x)).setCell ⟨Q, 4, none⟩ (.int .i64 k)) = wF) :
    CutT W b n m x k (PrPF W.heap.size l sl n m) (.pointer (some ⟨Q, 0, none⟩)) wF := by
  obtain ⟨e1, e2, e3, e4⟩ := fillT ez hF
  exact ⟨Q, A, c, B, d, rfl, e3 W hw hQ, hQ, e1, G, lo, nw.heap.size, h.keep (by rw [e4]; exact Nat.le_refl _) fun q hq _ => e2 q (by have := (h.rg q hq).1; omega), h.rg, by omega, by rw [e4]; exact Nat.le_refl _, fun h => by have := h.1; omega⟩
end

end Go.Proofs.YtdgfpfkhcojgaaaGreatDoor.tree

/-
  A row of slots of the call's own, to which slots are appended whose values lie in blocks of S.
  Conditions: those that each theorem names.
-/
namespace Go.Proofs.YtdgfpfkhcojgaaaGreatDoor.tree
open Go.ChangeShapes Go.WideShapes Go.ChangeAt Go.RowKit
set_option linter.unusedVariables false

def SRsX (w : World) (lo : Nat) (S : Nat → Prop) (v : Value) (xs : List Value) (sl : List Sl) : Prop :=
  w.ownsRow lo IS 10 v sl.length xs ∧ ∀ (i : Nat) t, sl[i]? = some t → ∃ k n s x ks vs A c, t.val = .mk k n s x ks vs ∧ (I64 t.key.num ∧ t.key.str.size ≤ maxLen) ∧ I64 t.link ∧
    (∀ q, q < 10 → xs[i * 10 + q]? = ([.bool t.key.text, .int .i64 t.key.num, .string t.key.str, .int .i64 k, .int .i64 n, .string s, .int .i64 x, .slice A vs.length c, .bool t.live, .int .i64 t.link] : List Value)[q]?) ∧ TIn w (fun b => S b ∧ v.ownBlock ≠ some b) t.val (vV k n s x A vs.length c)
def SRs (w : World) (lo : Nat) (S : Nat → Prop) (v : Value) (sl : List Sl) : Prop := ∃ xs, SRsX w lo S v xs sl

section
variable {w w' : World} {lo : Nat} {S S' : Nat → Prop} {v : Value} {sl : List Sl}
theorem SRs.nil (w : World) (lo : Nat) (S : Nat → Prop) : SRs w lo S (.slice none 0 0) [] := ⟨[], World.ownsRow_nil w lo _ 10, fun i t h => by simp at h⟩
theorem SRsX.keep {xs : List Value} (h : SRsX w lo S v xs sl) (hs : ∀ b, (S b ∨ v.ownBlock = some b) → b < w.heap.size → w'.heap[b]? = w.heap[b]?) : SRsX w' lo S v xs sl := by
  obtain ⟨h1, h3⟩ := h
  refine ⟨⟨h1.1, ?_⟩, fun i t ht => ?_⟩
  · rcases h1.2 with h | ⟨g, cap, cur, e, hlo, hg, hr⟩
    · exact .inl h
    · exact .inr ⟨g, cap, cur, e, hlo, (hs g (.inr (by rw [e]; rfl)) (Array.getElem?_eq_some_iff.1 hg).1).trans hg, hr⟩
  · obtain ⟨k, n, s, x, ks, vs, A, c, a1, a2, a3, a4, a5⟩ := h3 i t ht
    exact ⟨k, n, s, x, ks, vs, A, c, a1, a2, a3, a4, a5.stays (fun _ h => h) fun b hb hlt => hs b (.inl hb.1) hlt⟩
theorem SRs.keep (h : SRs w lo S v sl) (hs : ∀ b, (S b ∨ v.ownBlock = some b) → b < w.heap.size → w'.heap[b]? = w.heap[b]?) : SRs w' lo S v sl := by
  obtain ⟨xs, h⟩ := h
  exact ⟨xs, h.keep hs⟩
theorem SRsX.below {xs : List Value} (h : SRsX w lo S v xs sl) (hb : Below w.heap.size w w') : SRsX w' lo S v xs sl := h.keep fun b _ hl => hb.block b hl
theorem SRs.below (h : SRs w lo S v sl) (hb : Below w.heap.size w w') : SRs w' lo S v sl := h.keep fun b _ hl => hb.block b hl
theorem SRs.block (h : SRs w lo S v sl) : ∀ k, v.ownBlock = some k → lo ≤ k ∧ k < w.heap.size := by
  obtain ⟨xs, h1, -⟩ := h
  exact h1.lt
/-- As one that lies in blocks from lo on. -/
theorem SRow.srs (h : SRow w lo v sl) : SRs w lo (fun b => lo ≤ b) v sl := h
/-- One more. -/
theorem SRsX.more {xs : List Value} (h : SRsX w lo S v xs sl) {t : Sl}
    {k n x : Int} {s : ByteArray} {ks' : List Ky} {vs' : List Tr} {A : Option Addr} {c : Nat} (hv : t.val = .mk k n s x ks' vs') (hy : I64 t.key.num ∧ t.key.str.size ≤ maxLen) (hl : I64 t.link) (ht : TIn w (fun b => S b ∧ v.ownBlock ≠ some b) t.val (vV k n s x A vs'.length c))
    {v' : Value} (ho : w'.ownsRow lo IS 10 v' (sl.length + 1) (xs ++ [.bool t.key.text, .int .i64 t.key.num, .string t.key.str, .int .i64 k, .int .i64 n, .string s, .int .i64 x, .slice A vs'.length c, .bool t.live, .int .i64 t.link])) (hg : w.grownBy w' v.ownBlock) (hat : v'.ownBlock = v.ownBlock ∨ ∃ q, v'.ownBlock = some q ∧ w.heap.size ≤ q) :
    SRs w' lo S v' (sl ++ [t]) := by
  obtain ⟨h1, h3⟩ := h
  have hxl : xs.length = sl.length * 10 := h1.1
  have st : ∀ {t : Tr} {u : Value}, TIn w (fun b => S b ∧ v.ownBlock ≠ some b) t u → TIn w' (fun b => S b ∧ v'.ownBlock ≠ some b) t u := fun {t u} h => h.both.stays (fun b ⟨⟨hb1, hb2⟩, hb3⟩ => ⟨hb1, fun e => by
      rcases hat with h | ⟨q, h, hq⟩
      · exact hb2 (h ▸ e)
      · rw [h] at e; injection e with e; omega⟩) (fun b ⟨⟨hb1, hb2⟩, hb3⟩ hlt => hg.block b hlt (fun e => hb2 e.symm))
  refine ⟨_, by rw [List.length_append]; exact ho, fun i t2 hi => ?_⟩
  have hil := (List.getElem?_eq_some_iff.1 hi).1
  rw [List.length_append] at hil
  simp only [List.length_cons, List.length_nil] at hil
  by_cases e : i = sl.length
  · subst e
    rw [List.getElem?_append_right (Nat.le_refl _), Nat.sub_self] at hi
    obtain rfl : t = t2 := by simpa using hi
    refine ⟨k, n, s, x, ks', vs', A, c, hv, hy, hl, fun q hq => ?_, st ht⟩
    rw [List.getElem?_append_right (by omega), hxl, Nat.add_sub_cancel_left]
  · rw [List.getElem?_append_left (by omega)] at hi
    obtain ⟨k1, n1, s1, x1, ks1, vs1, A1, c1, a1, a2, a3, a4, a5⟩ := h3 i t2 hi
    refine ⟨k1, n1, s1, x1, ks1, vs1, A1, c1, a1, a2, a3, fun q hq => ?_, st a5⟩
    rw [List.getElem?_append_left (by omega)]
    exact a4 q hq
theorem SRs.sin (h : SRs w lo S v sl) (hm : sl.length ≤ maxLen) : ∃ A c, v = .slice A sl.length c ∧ (sl.length ≤ c ∧ c ≤ maxLen) ∧ SIn w (fun b => S b ∨ v.ownBlock = some b) sl A := by
  obtain ⟨xs, h1, h3⟩ := h
  rcases h1.2 with ⟨rfl, h0⟩ | ⟨g, cap, cur, rfl, hlo, hg, hnc, hcm, hsz, htk⟩
  · obtain rfl : sl = [] := List.length_eq_zero_iff.1 h0
    exact ⟨none, 0, rfl, ⟨Nat.le_refl _, Nat.zero_le _⟩, fun i t h => by simp at h⟩
  · refine ⟨some ⟨g, 0, none⟩, cap, rfl, ⟨hnc, hcm⟩, fun i t ht => ?_⟩
    obtain ⟨k, n, s, x, ks, vs, A, c, a1, a2, a3, a4, a5⟩ := h3 i t ht
    have hil := (List.getElem?_eq_some_iff.1 ht).1
    refine ⟨⟨g, 0, none⟩, k, n, s, x, ks, vs, A, c, rfl, .inr rfl, a2, a3, a1, a5.stays (fun b hb => .inl hb.1) (fun _ _ _ => rfl), ?_⟩
    have at_ : ∀ q, q < 10 → w.cell? ⟨g, i * 10 + q, none⟩ = ([.bool t.key.text, .int .i64 t.key.num, .string t.key.str, .int .i64 k, .int .i64 n, .string s, .int .i64 x, .slice A vs.length c, .bool t.live, .int .i64 t.link] : List Value)[q]? := fun q hq => by
      have := a4 q hq
      rw [← htk, List.getElem?_take, if_pos (by omega)] at this
      exact (cell_of_row w g _ cur IS _ hg).trans (by simpa using this)
    rw [Addr.add_lit, Nat.zero_add]
    exact ⟨at_ 0 (by omega), at_ 1 (by omega), at_ 2 (by omega), at_ 3 (by omega), at_ 4 (by omega), at_ 5 (by omega), at_ 6 (by omega), at_ 7 (by omega), at_ 8 (by omega), at_ 9 (by omega)⟩
end

end Go.Proofs.YtdgfpfkhcojgaaaGreatDoor.tree

/-
  How many heads a table gets, and a slot added at its end, of the model.
  Conditions: those that each theorem names.
-/
namespace Go.Proofs.YtdgfpfkhcojgaaaGreatDoor.tree
open Go.ChangeShapes Go.WideShapes Go.ChangeAt Go.RowKit
set_option linter.unusedVariables false

set_option maxRecDepth 100000 in
theorem l7Room_s (b : Bool) (A : Option Addr) (n c : Nat) (B : Option Addr) (m d : Nat) (x k : Int) (hk : -1000000000000 ≤ k ∧ k < 1024) (w : World) :
    Calls Tryz.prog 130 #[tbV b A n c B m d x k] w (LtQ w (room k)) := by
  obtain ⟨N, HN⟩ : ∃ N, Hid (room k = N) := ⟨_, Lib.hid rfl⟩
  have HRA : Hid (∀ s : Nat, p2 s → (s = 8 ∨ (s : Int) ≤ 2 * k) → k < s → s = N) := Lib.hid fun s h1 h2 h3 => (room_at hk.2 h1 h2 h3).symm.trans HN.out
  have HPT : Hid (∀ s : Nat, p2 s → (s : Int) ≤ k → p2 (2 * s)) := Lib.hid fun s h1 h2 => p2_twice hk.2 h1 h2
  rw [HN.out]
  go_enter Tryz.func130, Tryz.ntmps130
  go_upto_region 1 with fail
  generalize hw0 : w.alloc (.cells #[.bool b, .slice A n c, .slice B m d, .int .i64 x, .int .i64 k] IT) = w0
  have HB : Hid (Below w.heap.size w w0) := Lib.hid (hw0 ▸ b1 w _)
  have E0 : Hid (w0.heap[w.heap.size]? = some (.cells #[.bool b, .slice A n c, .slice B m d, .int .i64 x, .int .i64 k] IT (0, 0))) := Lib.hid (by rw [← hw0]; exact heap_alloc_new w _)
  have y4 : w0.cell? ⟨w.heap.size, 4, none⟩ = some (.int .i64 k) := (rowc E0.out).1 4
  clear hw0
  go_wp2_with (fail)
  go_loopg [3] 2048 (fun gk v wr => ∃ s : Nat, v = .int .i64 s ∧ gk + s = 2056 ∧ s ≤ 1024 ∧ Hid (p2 s) ∧ Hid (s = 8 ∨ (s : Int) ≤ 2 * k) ∧ wr = w0)
  case atStart => exact ⟨8, rfl, by omega, by omega, Lib.hid (.inl rfl), Lib.hid (.inl rfl), rfl⟩
  case round =>
    obtain ⟨s, rfl, hgs, hs1, HP2, HS8, rfl⟩ := hrel
    by_cases hle : (s : Int) ≤ k
    · have hp2 := HPT.out s HP2.out hle
      have hs0 : 8 ≤ s ∧ 2 * s ≤ 1024 := by
        have h1 := HP2.out
        unfold p2 at h1 hp2
        omega
      have HP3 := Lib.hid hp2
      clear hp2
      go_wp2_with (fail)
      go_roundg (2056 - 2 * s)
      case rel => exact ⟨2 * s, by go_num, by omega, by omega, HP3, Lib.hid (.inr (by push_cast; omega)), rfl⟩
      case measure => omega
    · obtain rfl : s = N := HRA.out s HP2.out HS8.out (by omega)
      go_wp2_with (fail)
      go_ret
      exact ⟨rfl, HB.out⟩

/-- The table behind one more slot. -/
def Pu7Q (w : World) (M lo : Nat) (S : Nat → Prop) (b : Bool) (l : List Int) (sl : List Sl) (A : Option Addr) (n c : Nat) (B : Option Addr) (m d : Nat) (x k : Int) (y : Ky) (v : Tr) (e : Ending) (w' : World) : Prop :=
  ∃ B' d', e = .returned (tbV b A n c B' (m + 1) d' (psX x y) (k + 1)) ∧ imem.OwnI w' M A n c (psH n l m y) ∧ SRs w' lo S (.slice B' (m + 1) d') (sl ++ [psS n l y v]) ∧ Fr (fun q => (Value.slice A n c).ownBlock = some q ∨ (Value.slice B m d).ownBlock = some q) w w' ∧
    ((Value.slice B' (m + 1) d').ownBlock = (Value.slice B m d).ownBlock ∨ ∃ g, (Value.slice B' (m + 1) d').ownBlock = some g ∧ w.heap.size ≤ g)

end Go.Proofs.YtdgfpfkhcojgaaaGreatDoor.tree

