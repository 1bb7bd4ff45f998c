/-
  What the texts behind this one use: 3 parts of one proof.
  Conditions: those that each theorem names.
-/
import Derived.Test.YtdglmnmalfpipaaGreatDoorSAB5
import Derived.Test.YtdglmnmalfpipaaGreatDoorSAB2
import Derived.Deep.LoopGhost
import Derived.Deep.RegionWith
/-
  The project's reader of a text: values.
  Conditions: those that each theorem names.
-/
namespace Go.Proofs.YtdglmnmalfpipaaGreatDoor.tree
open Go.ChangeShapes Go.WideShapes Go.ChangeAt Go.RowKit
set_option linter.unusedVariables false

/-- What a value read off leaves: new blocks hold it. -/
def VrQ (B R : Nat) (l : List UInt8) (o : Option (Tr × List UInt8 × Nat)) (w : World) (e : Ending) (w' : World) : Prop :=
  ∃ l' W' k n s x ks vs A c ok, Rs B R l' W' w' ∧ Fr (OnR R) w w' ∧ l'.length ≤ l.length ∧ -1 ≤ W' ∧ e = .returned (.tuple #[vV k n s x A vs.length c, .bool ok]) ∧
    FIn w' (fun b => w.heap.size ≤ b ∧ b < w'.heap.size) (.mk k n s x ks vs) (vV k n s x A vs.length c) ∧ ((∃ W2 : Nat, o = some (.mk k n s x ks vs, l', W2) ∧ W' = W2 ∧ ok = true) ∨ (o = none ∧ ok = false))
theorem rdP_leaf {f W : Nat} {l : List UInt8} {o : Option (Tr × List UInt8)} (h : rdS l = some o) : rdP (f + 1) (W + 1) l = o.map fun p => (p.1, p.2, W) := by rw [rdP, h]
theorem rdP_arr {f W : Nat} {l r : List UInt8} (h : rdS l = none) (h2 : pf [97, 58] l = some r) : rdP (f + 1) (W + 1) l = rdA (rdP f) W r := by rw [rdP, h, h2]
theorem rdP_no {f W : Nat} {l : List UInt8} (h : rdS l = none) (h2 : pf [97, 58] l = none) : rdP (f + 1) (W + 1) l = none := by rw [rdP, h, h2]
theorem leaf_i64 {k n : Int} {s : ByteArray} (hk : 0 ≤ k ∧ k ≤ 3) (hn : I64 n) (hs : s.size ≤ maxLen) : I64 k ∧ I64 n ∧ I64 0 ∧ s.size ≤ maxLen := ⟨by unfold I64; omega, hn, by unfold I64; omega, hs⟩

set_option maxHeartbeats 2000000 in
set_option maxRecDepth 100000 in
theorem readValue_i (f : Nat) (B R : Nat) (l : List UInt8) (W : Nat) (w : World) (hWf : W ≤ f) (h : Rs B R l (W : Int) w)
    (hA : ∀ (f' : Nat) (l : List UInt8) (W : Nat) (w : World), f = f' + 1 → W ≤ f' → Rs B R l (W : Int) w → Calls Tryz.prog 157 #[.pointer (some ⟨R, 0, none⟩)] w (VrQ B R l (rdA (rdP f') W l) w)) :
    Calls Tryz.prog 84 #[.pointer (some ⟨R, 0, none⟩)] w (VrQ B R l (rdP f W l) w) := by
  have HLN := Lib.hid h.len
  have hRlt := h.lt
  have hBR := h.le
  have hwt := h.wt
  have hne : R ≠ w.heap.size := by omega
  have hBN : B ≤ w.heap.size := by omega
  have keep : ∀ (wa wb : World), Fr (OnR R) wa wb → wa.heap[w.heap.size]? = some (.cells #[.int .i64 0, .int .i64 0, .string ⟨#[]⟩, .int .i64 0, .slice none 0 0] IV (0, 0)) → wb.heap[w.heap.size]? = some (.cells #[.int .i64 0, .int .i64 0, .string ⟨#[]⟩, .int .i64 0, .slice none 0 0] IV (0, 0)) := fun wa wb hf hE => (hf.block _ (Array.getElem?_eq_some_iff.1 hE).1 (fun e => hne e.symm)).trans hE
  have KEEP := Lib.hid keep
  obtain ⟨rr, ff⟩ := rowc h.blk
  have HH := Lib.hid h
  have r0 : ∀ o j, (w.alloc o).cell? ⟨R, j, none⟩ = _ := fun o j => (rowc (keepAlloc (o' := o) h.blk)).1 j
  have f0 : ∀ o j, (w.alloc o).frozen? ⟨R, j, none⟩ = _ := fun o j => (rowc (keepAlloc (o' := o) h.blk)).2 j
  have rw1 : ∀ o u, ((w.setCell ⟨R, 1, none⟩ u).alloc o).cell? ⟨R, 1, none⟩ = some u := fun o u => by have := (rowc (keepAlloc (o' := o) (set_heap h.blk 1 u))).1 1; simpa using this
  clear h keep rr ff
  cases W with
  | zero =>
    have HO : Hid (rdP f 0 l = none) := Lib.hid (by cases f <;> rw [rdP])
    obtain ⟨O, HOO⟩ : ∃ O, Hid (rdP f 0 l = O) := ⟨_, Lib.hid rfl⟩
    rw [HOO.out] at HO ⊢
    clear hA
    have hs1 := HH.out.weight (W' := (-1)) (by omega)
    obtain ⟨w1, HW1⟩ : ∃ X, Hid ((w.setCell ⟨R, 1, none⟩ (.int .i64 (-1))).alloc (.cells #[.int .i64 0, .int .i64 0, .string ⟨#[]⟩, .int .i64 0, .slice none 0 0] IV) = X) := ⟨_, Lib.hid rfl⟩
    have HS1 : Hid (Rs B R l (-1) w1) := Lib.hid (by rw [← HW1.out]; exact hs1.stays (b1 _ _))
    have HF1 : Hid (Fr (OnR R) w w1) := Lib.hid (by rw [← HW1.out]; exact fr_on.trans (Fr.of (b1 _ _)))
    have E1 : Hid (w1.heap[w.heap.size]? = some (.cells #[.int .i64 0, .int .i64 0, .string ⟨#[]⟩, .int .i64 0, .slice none 0 0] IV (0, 0))) := Lib.hid (by
      rw [← HW1.out]
      have := heap_alloc_new (w.setCell ⟨R, 1, none⟩ (.int .i64 (-1))) (.cells #[.int .i64 0, .int .i64 0, .string ⟨#[]⟩, .int .i64 0, .slice none 0 0] IV)
      rwa [set_size] at this)
    clear hs1
    go_enter Tryz.func84, Tryz.ntmps84
    go_wp2_with (fail)
    rw [HW1.out]
    refine (nullValue_i _).mono ?_
    rintro e w2 ⟨rfl, hb⟩
    have HS2 := Lib.hid (HS1.out.stays hb)
    have HF2 := Lib.hid (HF1.out.trans (Fr.of hb))
    have E2 := Lib.hid (carry hb E1.out)
    clear hb
    obtain ⟨rZ, fZ⟩ := rowc E2.out
    go_wp2_with (fail)
    generalize hwF : (((((w2.setCell ⟨w.heap.size, 0, none⟩ (.int .i64 0)).setCell ⟨w.heap.size, 1, none⟩ (.int .i64 0)).setCell ⟨w.heap.size, 2, none⟩ (.string ⟨#[]⟩)).setCell ⟨w.heap.size, 3, none⟩ (.int .i64 0)).setCell ⟨w.heap.size, 4, none⟩ (.slice none 0 0)) = wF
    obtain ⟨rF, oF, bF⟩ := fill5 E2.out hwF
    refine bodyPost_ret (v := .tuple #[vV 0 0 ⟨#[]⟩ 0 none 0 0, .bool false]) ?_ rfl ?_
    · simp [results, Tryz.results84, go_sem, rF]
    · exact ⟨l, _, 0, 0, ⟨#[]⟩, 0, [], [], none, 0, false, HS2.out.swap oF bF hBN hne, HF2.out.swap oF bF (Nat.le_refl _), Nat.le_refl _, by omega, rfl, FIn.leaf (leaf_i64 (by decide) (by unfold I64; simp) (Nat.zero_le _)) none 0 (Nat.zero_le _), .inr ⟨HO.out, rfl⟩⟩
  | succ W =>
    obtain ⟨f, rfl⟩ : ∃ f', f = f' + 1 := ⟨f - 1, by omega⟩
    have hW1 : ((W + 1 : Nat) : Int) - 1 = (W : Int) := by omega
    have hW0 : (0 : Int) ≤ (W : Int) := by omega
    have hs1 := HH.out.weight (W' := (W : Int)) (by omega)
    obtain ⟨w1, HW1⟩ : ∃ X, Hid ((w.setCell ⟨R, 1, none⟩ (.int .i64 (W : Int))).alloc (.cells #[.int .i64 0, .int .i64 0, .string ⟨#[]⟩, .int .i64 0, .slice none 0 0] IV) = X) := ⟨_, Lib.hid rfl⟩
    have HS1 : Hid (Rs B R l (W : Int) w1) := Lib.hid (by rw [← HW1.out]; exact hs1.stays (b1 _ _))
    have HF1 : Hid (Fr (OnR R) w w1) := Lib.hid (by rw [← HW1.out]; exact fr_on.trans (Fr.of (b1 _ _)))
    have E1 : Hid (w1.heap[w.heap.size]? = some (.cells #[.int .i64 0, .int .i64 0, .string ⟨#[]⟩, .int .i64 0, .slice none 0 0] IV (0, 0))) := Lib.hid (by
      rw [← HW1.out]
      have := heap_alloc_new (w.setCell ⟨R, 1, none⟩ (.int .i64 (W : Int))) (.cells #[.int .i64 0, .int .i64 0, .string ⟨#[]⟩, .int .i64 0, .slice none 0 0] IV)
      rwa [set_size] at this)
    clear hs1
    cases hp0 : pf [78, 59] l with
    | some r =>
      have S0 := Lib.hid (fun w' (hs : Rs B R l (W : Int) w') => skip_yes hp0 hs)
      have S0 : Hid (∀ w', Rs B R l (W : Int) w' → Calls Tryz.prog 153 #[.pointer (some ⟨R, 0, none⟩), .string ⟨#[78, 59]⟩] w' (fun e w2 => e = .returned (.bool true) ∧ Rs B R r (W : Int) w2 ∧ Fr (OnR R) w' w2)) := S0
      have HL := Lib.hid (show r.length ≤ l.length by have := pf_len hp0; omega)
      have HO : Hid (rdP (f + 1) (W + 1) l = some (leaf 0 0 ⟨#[]⟩, r, W)) := Lib.hid (by rw [rdP_leaf (by unfold rdS; rw [hp0])]; rfl)
      clear hp0 hA
      obtain ⟨O, HOO⟩ : ∃ O, Hid (rdP (f + 1) (W + 1) l = O) := ⟨_, Lib.hid rfl⟩
      rw [HOO.out] at HO ⊢
      go_enter Tryz.func84, Tryz.ntmps84
      go_wp2_with (fail)
      rw [HW1.out]
      refine (S0.out _ HS1.out).mono ?_
      rintro e w2 ⟨rfl, hs, hf⟩
      have HS2 := Lib.hid hs
      have HF2 := Lib.hid (HF1.out.trans hf)
      have E2 := Lib.hid (KEEP.out _ _ hf E1.out)
      clear hs hf
      go_wp2_with (fail)
      refine (nullValue_i _).mono ?_
      rintro e w3 ⟨rfl, hb⟩
      have HS3 := Lib.hid (HS2.out.stays hb)
      have HF3 := Lib.hid (HF2.out.trans (Fr.of hb))
      have E3 := Lib.hid (carry hb E2.out)
      clear hb
      obtain ⟨rZ, fZ⟩ := rowc E3.out
      go_wp2_with (fail)
      generalize hwF : (((((w3.setCell ⟨w.heap.size, 0, none⟩ (.int .i64 0)).setCell ⟨w.heap.size, 1, none⟩ (.int .i64 0)).setCell ⟨w.heap.size, 2, none⟩ (.string ⟨#[]⟩)).setCell ⟨w.heap.size, 3, none⟩ (.int .i64 0)).setCell ⟨w.heap.size, 4, none⟩ (.slice none 0 0)) = wF
      obtain ⟨rF, oF, bF⟩ := fill5 E3.out hwF
      refine bodyPost_ret (v := .tuple #[vV 0 0 ⟨#[]⟩ 0 none 0 0, .bool true]) ?_ rfl ?_
      · simp [results, Tryz.results84, go_sem, rF]
      · exact ⟨r, _, 0, 0, ⟨#[]⟩, 0, [], [], none, 0, true, HS3.out.swap oF bF hBN hne, HF3.out.swap oF bF (Nat.le_refl _), HL.out, by omega, rfl, FIn.leaf (leaf_i64 (by decide) (by unfold I64; simp) (Nat.zero_le _)) none 0 (Nat.zero_le _), .inl ⟨W, HO.out, rfl, rfl⟩⟩
    | none =>
      have S0 := Lib.hid (fun w' (hs : Rs B R l (W : Int) w') => skip_no hp0 hs)
      have S0 : Hid (∀ w', Rs B R l (W : Int) w' → Calls Tryz.prog 153 #[.pointer (some ⟨R, 0, none⟩), .string ⟨#[78, 59]⟩] w' (fun e w2 => e = .returned (.bool false) ∧ Rs B R l (W : Int) w2 ∧ Fr (OnR R) w' w2)) := S0
      cases hp1 : pf [98, 58, 48, 59] l with
      | some r =>
        have S1 := Lib.hid (fun w' (hs : Rs B R l (W : Int) w') => skip_yes hp1 hs)
        have S1 : Hid (∀ w', Rs B R l (W : Int) w' → Calls Tryz.prog 153 #[.pointer (some ⟨R, 0, none⟩), .string ⟨#[98, 58, 48, 59]⟩] w' (fun e w2 => e = .returned (.bool true) ∧ Rs B R r (W : Int) w2 ∧ Fr (OnR R) w' w2)) := S1
        have HL := Lib.hid (show r.length ≤ l.length by have := pf_len hp1; omega)
        have HO : Hid (rdP (f + 1) (W + 1) l = some (leaf 1 0 ⟨#[]⟩, r, W)) := Lib.hid (by rw [rdP_leaf (by unfold rdS; rw [hp0, hp1])]; rfl)
        clear hp0 hp1 hA
        obtain ⟨O, HOO⟩ : ∃ O, Hid (rdP (f + 1) (W + 1) l = O) := ⟨_, Lib.hid rfl⟩
        rw [HOO.out] at HO ⊢
        go_enter Tryz.func84, Tryz.ntmps84
        go_wp2_with (fail)
        rw [HW1.out]
        refine (S0.out _ HS1.out).mono ?_
        rintro e w2 ⟨rfl, hs, hf⟩
        have HS2 := Lib.hid hs
        have HF2 := Lib.hid (HF1.out.trans hf)
        have E2 := Lib.hid (KEEP.out _ _ hf E1.out)
        clear hs hf
        go_wp2_with (fail)
        refine (S1.out _ HS2.out).mono ?_
        rintro e w3 ⟨rfl, hs, hf⟩
        have HS3 := Lib.hid hs
        have HF3 := Lib.hid (HF2.out.trans hf)
        have E3 := Lib.hid (KEEP.out _ _ hf E2.out)
        clear hs hf
        go_wp2_with (fail)
        refine (show Calls _ _ _ _ (GivesQ _ (vV 1 0 ⟨#[]⟩ 0 none 0 0)) from boolValue_i false _).mono ?_
        rintro e w4 ⟨rfl, hb⟩
        have HS4 := Lib.hid (HS3.out.stays hb)
        have HF4 := Lib.hid (HF3.out.trans (Fr.of hb))
        have E4 := Lib.hid (carry hb E3.out)
        clear hb
        obtain ⟨rZ, fZ⟩ := rowc E4.out
        go_wp2_with (fail)
        generalize hwF : (((((w4.setCell ⟨w.heap.size, 0, none⟩ (.int .i64 1)).setCell ⟨w.heap.size, 1, none⟩ (.int .i64 0)).setCell ⟨w.heap.size, 2, none⟩ (.string ⟨#[]⟩)).setCell ⟨w.heap.size, 3, none⟩ (.int .i64 0)).setCell ⟨w.heap.size, 4, none⟩ (.slice none 0 0)) = wF
        obtain ⟨rF, oF, bF⟩ := fill5 E4.out hwF
        refine bodyPost_ret (v := .tuple #[vV 1 0 ⟨#[]⟩ 0 none 0 0, .bool true]) ?_ rfl ?_
        · simp [results, Tryz.results84, go_sem, rF]
        · exact ⟨r, _, 1, 0, ⟨#[]⟩, 0, [], [], none, 0, true, HS4.out.swap oF bF hBN hne, HF4.out.swap oF bF (Nat.le_refl _), HL.out, by omega, rfl, FIn.leaf (leaf_i64 (by decide) (by unfold I64; simp) (Nat.zero_le _)) none 0 (Nat.zero_le _), .inl ⟨W, HO.out, rfl, rfl⟩⟩
      | none =>
        have S1 := Lib.hid (fun w' (hs : Rs B R l (W : Int) w') => skip_no hp1 hs)
        have S1 : Hid (∀ w', Rs B R l (W : Int) w' → Calls Tryz.prog 153 #[.pointer (some ⟨R, 0, none⟩), .string ⟨#[98, 58, 48, 59]⟩] w' (fun e w2 => e = .returned (.bool false) ∧ Rs B R l (W : Int) w2 ∧ Fr (OnR R) w' w2)) := S1
        cases hp2 : pf [98, 58, 49, 59] l with
        | some r =>
          have S2 := Lib.hid (fun w' (hs : Rs B R l (W : Int) w') => skip_yes hp2 hs)
          have S2 : Hid (∀ w', Rs B R l (W : Int) w' → Calls Tryz.prog 153 #[.pointer (some ⟨R, 0, none⟩), .string ⟨#[98, 58, 49, 59]⟩] w' (fun e w2 => e = .returned (.bool true) ∧ Rs B R r (W : Int) w2 ∧ Fr (OnR R) w' w2)) := S2
          have HL := Lib.hid (show r.length ≤ l.length by have := pf_len hp2; omega)
          have HO : Hid (rdP (f + 1) (W + 1) l = some (leaf 1 1 ⟨#[]⟩, r, W)) := Lib.hid (by rw [rdP_leaf (by unfold rdS; rw [hp0, hp1, hp2])]; rfl)
          clear hp0 hp1 hp2 hA
          obtain ⟨O, HOO⟩ : ∃ O, Hid (rdP (f + 1) (W + 1) l = O) := ⟨_, Lib.hid rfl⟩
          rw [HOO.out] at HO ⊢
          go_enter Tryz.func84, Tryz.ntmps84
          go_wp2_with (fail)
          rw [HW1.out]
          refine (S0.out _ HS1.out).mono ?_
          rintro e w2 ⟨rfl, hs, hf⟩
          have HS2 := Lib.hid hs
          have HF2 := Lib.hid (HF1.out.trans hf)
          have E2 := Lib.hid (KEEP.out _ _ hf E1.out)
          clear hs hf
          go_wp2_with (fail)
          refine (S1.out _ HS2.out).mono ?_
          rintro e w3 ⟨rfl, hs, hf⟩
          have HS3 := Lib.hid hs
          have HF3 := Lib.hid (HF2.out.trans hf)
          have E3 := Lib.hid (KEEP.out _ _ hf E2.out)
          clear hs hf
          go_wp2_with (fail)
          refine (S2.out _ HS3.out).mono ?_
          rintro e w4 ⟨rfl, hs, hf⟩
          have HS4 := Lib.hid hs
          have HF4 := Lib.hid (HF3.out.trans hf)
          have E4 := Lib.hid (KEEP.out _ _ hf E3.out)
          clear hs hf
          go_wp2_with (fail)
          refine (show Calls _ _ _ _ (GivesQ _ (vV 1 1 ⟨#[]⟩ 0 none 0 0)) from boolValue_i true _).mono ?_
          rintro e w5 ⟨rfl, hb⟩
          have HS5 := Lib.hid (HS4.out.stays hb)
          have HF5 := Lib.hid (HF4.out.trans (Fr.of hb))
          have E5 := Lib.hid (carry hb E4.out)
          clear hb
          obtain ⟨rZ, fZ⟩ := rowc E5.out
          go_wp2_with (fail)
          generalize hwF : (((((w5.setCell ⟨w.heap.size, 0, none⟩ (.int .i64 1)).setCell ⟨w.heap.size, 1, none⟩ (.int .i64 1)).setCell ⟨w.heap.size, 2, none⟩ (.string ⟨#[]⟩)).setCell ⟨w.heap.size, 3, none⟩ (.int .i64 0)).setCell ⟨w.heap.size, 4, none⟩ (.slice none 0 0)) = wF
          obtain ⟨rF, oF, bF⟩ := fill5 E5.out hwF
          refine bodyPost_ret (v := .tuple #[vV 1 1 ⟨#[]⟩ 0 none 0 0, .bool true]) ?_ rfl ?_
          · simp [results, Tryz.results84, go_sem, rF]
          · exact ⟨r, _, 1, 1, ⟨#[]⟩, 0, [], [], none, 0, true, HS5.out.swap oF bF hBN hne, HF5.out.swap oF bF (Nat.le_refl _), HL.out, by omega, rfl, FIn.leaf (leaf_i64 (by decide) (by unfold I64; simp) (Nat.zero_le _)) none 0 (Nat.zero_le _), .inl ⟨W, HO.out, rfl, rfl⟩⟩
        | none =>
          have S2 := Lib.hid (fun w' (hs : Rs B R l (W : Int) w') => skip_no hp2 hs)
          have S2 : Hid (∀ w', Rs B R l (W : Int) w' → Calls Tryz.prog 153 #[.pointer (some ⟨R, 0, none⟩), .string ⟨#[98, 58, 49, 59]⟩] w' (fun e w2 => e = .returned (.bool false) ∧ Rs B R l (W : Int) w2 ∧ Fr (OnR R) w' w2)) := S2
          cases hp3 : pf [105, 58] l with
          | some r =>
            have S3 := Lib.hid (fun w' (hs : Rs B R l (W : Int) w') => skip_yes hp3 hs)
            have S3 : Hid (∀ w', Rs B R l (W : Int) w' → Calls Tryz.prog 153 #[.pointer (some ⟨R, 0, none⟩), .string ⟨#[105, 58]⟩] w' (fun e w2 => e = .returned (.bool true) ∧ Rs B R r (W : Int) w2 ∧ Fr (OnR R) w' w2)) := S3
            have HL := Lib.hid (show r.length ≤ l.length by have := pf_len hp3; omega)
            have RS := Lib.hid (fun w' hs => readSigned_i B R r (W : Int) w' hs)
            have HO : Hid (rdP (f + 1) (W + 1) l = ((nm 59 (-1000000000) 1000000000 r).map fun p => (leaf 2 p.1 ⟨#[]⟩, p.2)).map fun p => (p.1, p.2, W)) := Lib.hid (rdP_leaf (by unfold rdS; rw [hp0, hp1, hp2, hp3]))
            clear hp0 hp1 hp2 hp3 hA
            obtain ⟨O, HOO⟩ : ∃ O, Hid (rdP (f + 1) (W + 1) l = O) := ⟨_, Lib.hid rfl⟩
            rw [HOO.out] at HO ⊢
            go_enter Tryz.func84, Tryz.ntmps84
            go_wp2_with (fail)
            rw [HW1.out]
            refine (S0.out _ HS1.out).mono ?_
            rintro e w2 ⟨rfl, hs, hf⟩
            have HS2 := Lib.hid hs
            have HF2 := Lib.hid (HF1.out.trans hf)
            have E2 := Lib.hid (KEEP.out _ _ hf E1.out)
            clear hs hf
            go_wp2_with (fail)
            refine (S1.out _ HS2.out).mono ?_
            rintro e w3 ⟨rfl, hs, hf⟩
            have HS3 := Lib.hid hs
            have HF3 := Lib.hid (HF2.out.trans hf)
            have E3 := Lib.hid (KEEP.out _ _ hf E2.out)
            clear hs hf
            go_wp2_with (fail)
            refine (S2.out _ HS3.out).mono ?_
            rintro e w4 ⟨rfl, hs, hf⟩
            have HS4 := Lib.hid hs
            have HF4 := Lib.hid (HF3.out.trans hf)
            have E4 := Lib.hid (KEEP.out _ _ hf E3.out)
            clear hs hf
            go_wp2_with (fail)
            refine (S3.out _ HS4.out).mono ?_
            rintro e w5 ⟨rfl, hs, hf⟩
            have HS5 := Lib.hid hs
            have HF5 := Lib.hid (HF4.out.trans hf)
            have E5 := Lib.hid (KEEP.out _ _ hf E4.out)
            clear hs hf
            go_wp2_with (fail)
            refine (RS.out _ HS5.out).mono ?_
            rintro e w6 ⟨l2, hs, hf, hl2, hres⟩
            have HS6 := Lib.hid hs
            have HF6 := Lib.hid (HF5.out.trans hf)
            have E6 := Lib.hid (KEEP.out _ _ hf E5.out)
            clear hs hf
            obtain ⟨n, q, rfl, hnb, hk2⟩ : ∃ (n : Int) (q : Bool), e = .returned (.tuple #[.int .i64 n, .bool q]) ∧ I64 n ∧ ((q = true ∧ O = some (leaf 2 n ⟨#[]⟩, l2, W)) ∨ (q = false ∧ O = none)) := by
              rcases hres with ⟨n, hn, rfl⟩ | ⟨hn, rfl⟩
              · have := nm_out hn
                exact ⟨n, true, rfl, by unfold I64; omega, .inl ⟨rfl, by rw [HO.out, hn]; rfl⟩⟩
              · exact ⟨0, false, rfl, by unfold I64; simp, .inr ⟨rfl, by rw [HO.out, hn]; rfl⟩⟩
            have HK2 := Lib.hid hk2
            have HNB := Lib.hid hnb
            have HL2 := Lib.hid (Nat.le_trans hl2 HL.out)
            clear hres hk2 hnb hl2
            go_wp2_with (fail)
            refine (intValue_i n _).mono ?_
            rintro e w7 ⟨rfl, hb⟩
            have HS7 := Lib.hid (HS6.out.stays hb)
            have HF7 := Lib.hid (HF6.out.trans (Fr.of hb))
            have E7 := Lib.hid (carry hb E6.out)
            clear hb
            obtain ⟨rZ, fZ⟩ := rowc E7.out
            go_wp2_with (fail)
            generalize hwF : (((((w7.setCell ⟨w.heap.size, 0, none⟩ (.int .i64 2)).setCell ⟨w.heap.size, 1, none⟩ (.int .i64 n)).setCell ⟨w.heap.size, 2, none⟩ (.string ⟨#[]⟩)).setCell ⟨w.heap.size, 3, none⟩ (.int .i64 0)).setCell ⟨w.heap.size, 4, none⟩ (.slice none 0 0)) = wF
            obtain ⟨rF, oF, bF⟩ := fill5 E7.out hwF
            refine bodyPost_ret (v := .tuple #[vV 2 n ⟨#[]⟩ 0 none 0 0, .bool q]) ?_ rfl ?_
            · simp [results, Tryz.results84, go_sem, rF]
            · exact ⟨l2, _, 2, n, ⟨#[]⟩, 0, [], [], none, 0, q, HS7.out.swap oF bF hBN hne, HF7.out.swap oF bF (Nat.le_refl _), HL2.out, by omega, rfl, FIn.leaf (leaf_i64 (by decide) HNB.out (Nat.zero_le _)) none 0 (Nat.zero_le _), (by rcases HK2.out with ⟨rfl, h⟩ | ⟨rfl, h⟩; exact .inl ⟨W, h, rfl, rfl⟩; exact .inr ⟨h, rfl⟩)⟩
          | none =>
            have S3 := Lib.hid (fun w' (hs : Rs B R l (W : Int) w') => skip_no hp3 hs)
            have S3 : Hid (∀ w', Rs B R l (W : Int) w' → Calls Tryz.prog 153 #[.pointer (some ⟨R, 0, none⟩), .string ⟨#[105, 58]⟩] w' (fun e w2 => e = .returned (.bool false) ∧ Rs B R l (W : Int) w2 ∧ Fr (OnR R) w' w2)) := S3
            cases hp4 : pf [115, 58] l with
            | some r =>
              have S4 := Lib.hid (fun w' (hs : Rs B R l (W : Int) w') => skip_yes hp4 hs)
              have S4 : Hid (∀ w', Rs B R l (W : Int) w' → Calls Tryz.prog 153 #[.pointer (some ⟨R, 0, none⟩), .string ⟨#[115, 58]⟩] w' (fun e w2 => e = .returned (.bool true) ∧ Rs B R r (W : Int) w2 ∧ Fr (OnR R) w' w2)) := S4
              have HL := Lib.hid (show r.length ≤ l.length by have := pf_len hp4; omega)
              have RT := Lib.hid (fun w' hs => readText_i B R r (W : Int) w' hs)
              have HO : Hid (rdP (f + 1) (W + 1) l = ((tx r).map fun p => (leaf 3 0 (bz p.1), p.2)).map fun p => (p.1, p.2, W)) := Lib.hid (rdP_leaf (by unfold rdS; rw [hp0, hp1, hp2, hp3, hp4]))
              clear hp0 hp1 hp2 hp3 hp4 hA
              obtain ⟨O, HOO⟩ : ∃ O, Hid (rdP (f + 1) (W + 1) l = O) := ⟨_, Lib.hid rfl⟩
              rw [HOO.out] at HO ⊢
              go_enter Tryz.func84, Tryz.ntmps84
              go_wp2_with (fail)
              rw [HW1.out]
              refine (S0.out _ HS1.out).mono ?_
              rintro e w2 ⟨rfl, hs, hf⟩
              have HS2 := Lib.hid hs
              have HF2 := Lib.hid (HF1.out.trans hf)
              have E2 := Lib.hid (KEEP.out _ _ hf E1.out)
              clear hs hf
              go_wp2_with (fail)
              refine (S1.out _ HS2.out).mono ?_
              rintro e w3 ⟨rfl, hs, hf⟩
              have HS3 := Lib.hid hs
              have HF3 := Lib.hid (HF2.out.trans hf)
              have E3 := Lib.hid (KEEP.out _ _ hf E2.out)
              clear hs hf
              go_wp2_with (fail)
              refine (S2.out _ HS3.out).mono ?_
              rintro e w4 ⟨rfl, hs, hf⟩
              have HS4 := Lib.hid hs
              have HF4 := Lib.hid (HF3.out.trans hf)
              have E4 := Lib.hid (KEEP.out _ _ hf E3.out)
              clear hs hf
              go_wp2_with (fail)
              refine (S3.out _ HS4.out).mono ?_
              rintro e w5 ⟨rfl, hs, hf⟩
              have HS5 := Lib.hid hs
              have HF5 := Lib.hid (HF4.out.trans hf)
              have E5 := Lib.hid (KEEP.out _ _ hf E4.out)
              clear hs hf
              go_wp2_with (fail)
              refine (S4.out _ HS5.out).mono ?_
              rintro e w6 ⟨rfl, hs, hf⟩
              have HS6 := Lib.hid hs
              have HF6 := Lib.hid (HF5.out.trans hf)
              have E6 := Lib.hid (KEEP.out _ _ hf E5.out)
              clear hs hf
              go_wp2_with (fail)
              refine (RT.out _ HS6.out).mono ?_
              rintro e w7 ⟨l2, hs, hf, hl2, hres⟩
              have HS7 := Lib.hid hs
              have HF7 := Lib.hid (HF6.out.trans hf)
              have E7 := Lib.hid (KEEP.out _ _ hf E6.out)
              clear hs hf
              obtain ⟨s, q, rfl, hsz, hk2⟩ : ∃ (s : ByteArray) (q : Bool), e = .returned (.tuple #[.string s, .bool q]) ∧ s.size ≤ l.length ∧ ((q = true ∧ O = some (leaf 3 0 s, l2, W)) ∨ (q = false ∧ O = none)) := by
                rcases hres with ⟨d, hd, hdl, rfl⟩ | ⟨hd, s, hsl, rfl⟩
                · exact ⟨bz d, true, rfl, by rw [bz_size]; have := HL.out; omega, .inl ⟨rfl, by rw [HO.out, hd]; rfl⟩⟩
                · exact ⟨s, false, rfl, by have := HL.out; omega, .inr ⟨rfl, by rw [HO.out, hd]; rfl⟩⟩
              have HK2 := Lib.hid hk2
              have HSZ := Lib.hid (show s.size ≤ 1099511627776 by have := HLN.out; omega)
              have HL2 := Lib.hid (Nat.le_trans hl2 HL.out)
              clear hres hk2 hsz hl2
              go_wp2_with (fail)
              refine (textValue_i s HSZ.out _).mono ?_
              rintro e w8 ⟨rfl, hb⟩
              have HS8 := Lib.hid (HS7.out.stays hb)
              have HF8 := Lib.hid (HF7.out.trans (Fr.of hb))
              have E8 := Lib.hid (carry hb E7.out)
              clear hb
              obtain ⟨rZ, fZ⟩ := rowc E8.out
              go_wp2_with (fail)
              generalize hwF : (((((w8.setCell ⟨w.heap.size, 0, none⟩ (.int .i64 3)).setCell ⟨w.heap.size, 1, none⟩ (.int .i64 0)).setCell ⟨w.heap.size, 2, none⟩ (.string s)).setCell ⟨w.heap.size, 3, none⟩ (.int .i64 0)).setCell ⟨w.heap.size, 4, none⟩ (.slice none 0 0)) = wF
              obtain ⟨rF, oF, bF⟩ := fill5 E8.out hwF
              refine bodyPost_ret (v := .tuple #[vV 3 0 s 0 none 0 0, .bool q]) ?_ rfl ?_
              · simp [results, Tryz.results84, go_sem, rF]
              · exact ⟨l2, _, 3, 0, s, 0, [], [], none, 0, q, HS8.out.swap oF bF hBN hne, HF8.out.swap oF bF (Nat.le_refl _), HL2.out, by omega, rfl, FIn.leaf (leaf_i64 (by decide) (by unfold I64; simp) (by have := HSZ.out; unfold maxLen; omega)) none 0 (Nat.zero_le _), (by rcases HK2.out with ⟨rfl, h⟩ | ⟨rfl, h⟩; exact .inl ⟨W, h, rfl, rfl⟩; exact .inr ⟨h, rfl⟩)⟩
            | none =>
              have S4 := Lib.hid (fun w' (hs : Rs B R l (W : Int) w') => skip_no hp4 hs)
              have S4 : Hid (∀ w', Rs B R l (W : Int) w' → Calls Tryz.prog 153 #[.pointer (some ⟨R, 0, none⟩), .string ⟨#[115, 58]⟩] w' (fun e w2 => e = .returned (.bool false) ∧ Rs B R l (W : Int) w2 ∧ Fr (OnR R) w' w2)) := S4
              cases hp5 : pf [97, 58] l with
              | some r =>
                have S5 := Lib.hid (fun w' (hs : Rs B R l (W : Int) w') => skip_yes hp5 hs)
                have S5 : Hid (∀ w', Rs B R l (W : Int) w' → Calls Tryz.prog 153 #[.pointer (some ⟨R, 0, none⟩), .string ⟨#[97, 58]⟩] w' (fun e w2 => e = .returned (.bool true) ∧ Rs B R r (W : Int) w2 ∧ Fr (OnR R) w' w2)) := S5
                have HL := Lib.hid (show r.length ≤ l.length by have := pf_len hp5; omega)
                have RA := Lib.hid (fun w' hs => hA f r W w' rfl (by omega) hs)
                have HO : Hid (rdP (f + 1) (W + 1) l = rdA (rdP f) W r) := Lib.hid (rdP_arr (by unfold rdS; rw [hp0, hp1, hp2, hp3, hp4]) hp5)
                clear hp0 hp1 hp2 hp3 hp4 hp5 hA
                obtain ⟨O, HOO⟩ : ∃ O, Hid (rdP (f + 1) (W + 1) l = O) := ⟨_, Lib.hid rfl⟩
                rw [HOO.out] at HO ⊢
                go_enter Tryz.func84, Tryz.ntmps84
                go_wp2_with (fail)
                rw [HW1.out]
                refine (S0.out _ HS1.out).mono ?_
                rintro e w2 ⟨rfl, hs, hf⟩
                have HS2 := Lib.hid hs
                have HF2 := Lib.hid (HF1.out.trans hf)
                have E2 := Lib.hid (KEEP.out _ _ hf E1.out)
                clear hs hf
                go_wp2_with (fail)
                refine (S1.out _ HS2.out).mono ?_
                rintro e w3 ⟨rfl, hs, hf⟩
                have HS3 := Lib.hid hs
                have HF3 := Lib.hid (HF2.out.trans hf)
                have E3 := Lib.hid (KEEP.out _ _ hf E2.out)
                clear hs hf
                go_wp2_with (fail)
                refine (S2.out _ HS3.out).mono ?_
                rintro e w4 ⟨rfl, hs, hf⟩
                have HS4 := Lib.hid hs
                have HF4 := Lib.hid (HF3.out.trans hf)
                have E4 := Lib.hid (KEEP.out _ _ hf E3.out)
                clear hs hf
                go_wp2_with (fail)
                refine (S3.out _ HS4.out).mono ?_
                rintro e w5 ⟨rfl, hs, hf⟩
                have HS5 := Lib.hid hs
                have HF5 := Lib.hid (HF4.out.trans hf)
                have E5 := Lib.hid (KEEP.out _ _ hf E4.out)
                clear hs hf
                go_wp2_with (fail)
                refine (S4.out _ HS5.out).mono ?_
                rintro e w6 ⟨rfl, hs, hf⟩
                have HS6 := Lib.hid hs
                have HF6 := Lib.hid (HF5.out.trans hf)
                have E6 := Lib.hid (KEEP.out _ _ hf E5.out)
                clear hs hf
                go_wp2_with (fail)
                refine (S5.out _ HS6.out).mono ?_
                rintro e w7 ⟨rfl, hs, hf⟩
                have HS7 := Lib.hid hs
                have HF7 := Lib.hid (HF6.out.trans hf)
                have E7 := Lib.hid (KEEP.out _ _ hf E6.out)
                clear hs hf
                go_wp2_with (fail)
                refine (RA.out _ HS7.out).mono ?_
                rintro e w8 ⟨l8, W8, k8, n8, s8, x8, ks8, vs8, A8, c8, q, hs, hf, hl8, hW8, rfl, hin, hres⟩
                have HS8 := Lib.hid hs
                have HF8 := Lib.hid (HF7.out.trans hf)
                have E8 := Lib.hid (KEEP.out _ _ hf E7.out)
                have HL8 := Lib.hid (Nat.le_trans hl8 HL.out)
                have hnk := (Array.getElem?_eq_some_iff.1 E7.out).1
                have HIN := Lib.hid (hin.mono (F' := fun b => w.heap.size < b ∧ b < w8.heap.size) (fun b hb => ⟨by have := hb.1; omega, hb.2⟩))
                have HRES := Lib.hid hres
                obtain ⟨L8, HLL⟩ : ∃ L8, Hid (vs8.length = L8) := ⟨_, Lib.hid rfl⟩
                rw [HLL.out] at HIN ⊢
                obtain ⟨rZ, fZ⟩ := rowc E8.out
                clear hs hf hl8 hin hres hnk
                go_wp2_with (fail)
                generalize hwF : (((((w8.setCell ⟨w.heap.size, 0, none⟩ (.int .i64 k8)).setCell ⟨w.heap.size, 1, none⟩ (.int .i64 n8)).setCell ⟨w.heap.size, 2, none⟩ (.string s8)).setCell ⟨w.heap.size, 3, none⟩ (.int .i64 x8)).setCell ⟨w.heap.size, 4, none⟩ (.slice A8 L8 c8)) = wF
                obtain ⟨rF, oF, bF⟩ := fill5 E8.out hwF
                have hszF := (bF 0 w8 (Nat.zero_le _) (Below.refl 0 w8)).size
                refine bodyPost_ret (v := .tuple #[vV k8 n8 s8 x8 A8 L8 c8, .bool q]) ?_ rfl ?_
                · simp [results, Tryz.results84, go_sem, rF]
                · refine ⟨l8, W8, k8, n8, s8, x8, ks8, vs8, A8, c8, q, HS8.out.swap oF bF hBN hne, HF8.out.swap oF bF (Nat.le_refl _), HL8.out, hW8, by rw [HLL.out], ?_, ?_⟩
                  · rw [HLL.out]
                    exact (HIN.out.keep (fun b hb hlt => oF b (by have := hb.1; omega))).mono (fun b hb => ⟨by have := hb.1; omega, by have := hb.2; omega⟩)
                  · rw [HO.out]
                    exact HRES.out
              | none =>
                have S5 := Lib.hid (fun w' (hs : Rs B R l (W : Int) w') => skip_no hp5 hs)
                have S5 : Hid (∀ w', Rs B R l (W : Int) w' → Calls Tryz.prog 153 #[.pointer (some ⟨R, 0, none⟩), .string ⟨#[97, 58]⟩] w' (fun e w2 => e = .returned (.bool false) ∧ Rs B R l (W : Int) w2 ∧ Fr (OnR R) w' w2)) := S5
                have HO : Hid (rdP (f + 1) (W + 1) l = none) := Lib.hid (rdP_no (by unfold rdS; rw [hp0, hp1, hp2, hp3, hp4]) hp5)
                clear hp0 hp1 hp2 hp3 hp4 hp5 hA
                obtain ⟨O, HOO⟩ : ∃ O, Hid (rdP (f + 1) (W + 1) l = O) := ⟨_, Lib.hid rfl⟩
                rw [HOO.out] at HO ⊢
                go_enter Tryz.func84, Tryz.ntmps84
                go_wp2_with (fail)
                rw [HW1.out]
                refine (S0.out _ HS1.out).mono ?_
                rintro e w2 ⟨rfl, hs, hf⟩
                have HS2 := Lib.hid hs
                have HF2 := Lib.hid (HF1.out.trans hf)
                have E2 := Lib.hid (KEEP.out _ _ hf E1.out)
                clear hs hf
                go_wp2_with (fail)
                refine (S1.out _ HS2.out).mono ?_
                rintro e w3 ⟨rfl, hs, hf⟩
                have HS3 := Lib.hid hs
                have HF3 := Lib.hid (HF2.out.trans hf)
                have E3 := Lib.hid (KEEP.out _ _ hf E2.out)
                clear hs hf
                go_wp2_with (fail)
                refine (S2.out _ HS3.out).mono ?_
                rintro e w4 ⟨rfl, hs, hf⟩
                have HS4 := Lib.hid hs
                have HF4 := Lib.hid (HF3.out.trans hf)
                have E4 := Lib.hid (KEEP.out _ _ hf E3.out)
                clear hs hf
                go_wp2_with (fail)
                refine (S3.out _ HS4.out).mono ?_
                rintro e w5 ⟨rfl, hs, hf⟩
                have HS5 := Lib.hid hs
                have HF5 := Lib.hid (HF4.out.trans hf)
                have E5 := Lib.hid (KEEP.out _ _ hf E4.out)
                clear hs hf
                go_wp2_with (fail)
                refine (S4.out _ HS5.out).mono ?_
                rintro e w6 ⟨rfl, hs, hf⟩
                have HS6 := Lib.hid hs
                have HF6 := Lib.hid (HF5.out.trans hf)
                have E6 := Lib.hid (KEEP.out _ _ hf E5.out)
                clear hs hf
                go_wp2_with (fail)
                refine (S5.out _ HS6.out).mono ?_
                rintro e w7 ⟨rfl, hs, hf⟩
                have HS7 := Lib.hid hs
                have HF7 := Lib.hid (HF6.out.trans hf)
                have E7 := Lib.hid (KEEP.out _ _ hf E6.out)
                clear hs hf
                go_wp2_with (fail)
                refine (nullValue_i _).mono ?_
                rintro e w8 ⟨rfl, hb⟩
                have HS8 := Lib.hid (HS7.out.stays hb)
                have HF8 := Lib.hid (HF7.out.trans (Fr.of hb))
                have E8 := Lib.hid (carry hb E7.out)
                clear hb
                obtain ⟨rZ, fZ⟩ := rowc E8.out
                go_wp2_with (fail)
                generalize hwF : (((((w8.setCell ⟨w.heap.size, 0, none⟩ (.int .i64 0)).setCell ⟨w.heap.size, 1, none⟩ (.int .i64 0)).setCell ⟨w.heap.size, 2, none⟩ (.string ⟨#[]⟩)).setCell ⟨w.heap.size, 3, none⟩ (.int .i64 0)).setCell ⟨w.heap.size, 4, none⟩ (.slice none 0 0)) = wF
                obtain ⟨rF, oF, bF⟩ := fill5 E8.out hwF
                refine bodyPost_ret (v := .tuple #[vV 0 0 ⟨#[]⟩ 0 none 0 0, .bool false]) ?_ rfl ?_
                · simp [results, Tryz.results84, go_sem, rF]
                · exact ⟨l, _, 0, 0, ⟨#[]⟩, 0, [], [], none, 0, false, HS8.out.swap oF bF hBN hne, HF8.out.swap oF bF (Nat.le_refl _), Nat.le_refl _, by omega, rfl, FIn.leaf (leaf_i64 (by decide) (by unfold I64; simp) (Nat.zero_le _)) none 0 (Nat.zero_le _), .inr ⟨HO.out, rfl⟩⟩

end Go.Proofs.YtdglmnmalfpipaaGreatDoor.tree

/-
  The project's reader of a text: arrays; a whole value.
  Conditions: those that each theorem names.
-/
namespace Go.Proofs.YtdglmnmalfpipaaGreatDoor.tree
open Go.ChangeShapes Go.WideShapes Go.ChangeAt Go.RowKit
set_option linter.unusedVariables false

/-- Each value that is read takes from the weight. -/
theorem its_wt {rd : Nat → List UInt8 → Option (Tr × List UInt8 × Nat)} (hrd : ∀ W l t r W', rd W l = some (t, r, W') → W' + 1 ≤ W) : ∀ (n W : Nat) (l : List UInt8) (ks : List Ky) (vs : List Tr) (r : List UInt8) (W' : Nat), its rd n W l = some (ks, vs, r, W') → W' ≤ W
  | 0, W, l, ks, vs, r, W', h => by rw [its] at h; cases h; exact Nat.le_refl _
  | n + 1, W, l, ks, vs, r, W', h => by
    rw [its] at h
    obtain ⟨⟨y, l1⟩, h1, h⟩ := Option.bind_eq_some_iff.1 h
    obtain ⟨⟨t, l2, W2⟩, h2, h⟩ := Option.bind_eq_some_iff.1 h
    obtain ⟨⟨ks', vs', r', W3⟩, h3, h⟩ := Option.map_eq_some_iff.1 h
    cases h
    have a : W2 + 1 ≤ W := hrd _ _ _ _ _ h2
    have b : W3 ≤ W2 := its_wt hrd n _ _ _ _ _ _ h3
    show W3 ≤ W
    omega
theorem rdP_wt : ∀ (f W : Nat) (l : List UInt8) (t : Tr) (r : List UInt8) (W' : Nat), rdP f W l = some (t, r, W') → W' + 1 ≤ W
  | 0, W, l, t, r, W', h => by rw [rdP] at h; cases h
  | f + 1, 0, l, t, r, W', h => by rw [rdP] at h; cases h
  | f + 1, W + 1, l, t, r, W', h => by
    rw [rdP] at h
    split at h
    · obtain ⟨⟨t', r'⟩, h1, h2⟩ := Option.map_eq_some_iff.1 h
      cases h2
      exact Nat.le_refl _
    · split at h
      · unfold rdA at h
        obtain ⟨⟨n, l1⟩, h2, h⟩ := Option.bind_eq_some_iff.1 h
        obtain ⟨⟨x, l2⟩, h3, h⟩ := Option.bind_eq_some_iff.1 h
        obtain ⟨⟨ks, vs, l3, W3⟩, h4, h⟩ := Option.bind_eq_some_iff.1 h
        obtain ⟨e, h5, h⟩ := Option.map_eq_some_iff.1 h
        cases h
        have := its_wt (rdP_wt f) _ _ _ _ _ _ _ h4
        show W3 + 1 ≤ W + 1
        omega
      · cases h
section
variable {B R X : Nat} {l : List UInt8} {W : Int} {S : Nat → Prop} {w wa wb : World}
theorem Rs.upto (h : Rs B R l W wa) (hb : Below X wa wb) (hR : R < X) : Rs B R l W wb := by
  obtain ⟨w0, h1, h2, h3⟩ := h.env
  have hle := h.le
  exact ⟨(hb.block R hR).trans h.blk, h.le, ⟨w0, h1, h2, h3.trans (hb.mono (by omega))⟩, h.len, h.wt⟩
theorem Fr.upto (h : Fr S w wa) (hb : Below w.heap.size wa wb) : Fr S w wb :=
  ⟨hb.os.trans h.os, hb.tape.trans h.tape, hb.output.trans h.output, Nat.le_trans h.size hb.size, fun b hlt hs => (hb.block b hlt).trans (h.block b hlt hs)⟩
end
/-- The rest of the items behind those that are there. -/
def Itt (rd : Nat → List UInt8 → Option (Tr × List UInt8 × Nat)) (n W : Nat) (l : List UInt8) (ks : List Ky) (vs : List Tr) : Option (List Ky × List Tr × List UInt8 × Nat) := (its rd n W l).map fun z => (ks ++ z.1, vs ++ z.2.1, z.2.2.1, z.2.2.2)
theorem itt_zero (rd : Nat → List UInt8 → Option (Tr × List UInt8 × Nat)) (W : Nat) (l : List UInt8) (ks : List Ky) (vs : List Tr) : Itt rd 0 W l ks vs = some (ks, vs, l, W) := by unfold Itt; rw [its]; simp
theorem itt_start (rd : Nat → List UInt8 → Option (Tr × List UInt8 × Nat)) (n W : Nat) (l : List UInt8) : Itt rd n W l [] [] = its rd n W l := by
  unfold Itt
  cases its rd n W l with
  | none => rfl
  | some z => simp
theorem itt_key {rd : Nat → List UInt8 → Option (Tr × List UInt8 × Nat)} {n W : Nat} {l : List UInt8} {ks : List Ky} {vs : List Tr} (h : rdK l = none) : Itt rd (n + 1) W l ks vs = none := by unfold Itt; rw [its, h]; rfl
theorem itt_val {rd : Nat → List UInt8 → Option (Tr × List UInt8 × Nat)} {n W : Nat} {l l1 : List UInt8} {ks : List Ky} {vs : List Tr} {y : Ky} (h : rdK l = some (y, l1)) (h2 : rd W l1 = none) : Itt rd (n + 1) W l ks vs = none := by unfold Itt; rw [its, h]; simp only [Option.bind_some]; rw [h2]; rfl
theorem itt_step {rd : Nat → List UInt8 → Option (Tr × List UInt8 × Nat)} {n W W2 : Nat} {l l1 l2 : List UInt8} {ks : List Ky} {vs : List Tr} {y : Ky} {t : Tr} (h : rdK l = some (y, l1)) (h2 : rd W l1 = some (t, l2, W2)) : Itt rd (n + 1) W l ks vs = Itt rd n W2 l2 (ks ++ [y]) (vs ++ [t]) := by
  unfold Itt
  rw [its, h]
  simp only [Option.bind_some]
  rw [h2]
  simp only [Option.bind_some]
  cases its rd n W2 l2 with
  | none => rfl
  | some z => simp
theorem rdA_none1 {rd : Nat → List UInt8 → Option (Tr × List UInt8 × Nat)} {W : Nat} {l : List UInt8} (h : nm 58 0 1000000000000 l = none) : rdA rd W l = none := by unfold rdA; rw [h]; rfl
theorem rdA_none2 {rd : Nat → List UInt8 → Option (Tr × List UInt8 × Nat)} {W : Nat} {l l1 : List UInt8} {n : Int} (h : nm 58 0 1000000000000 l = some (n, l1)) (h2 : nm 123 0 1000000000000 l1 = none) : rdA rd W l = none := by unfold rdA; rw [h]; simp only [Option.bind_some]; rw [h2]; rfl
theorem rdA_some {rd : Nat → List UInt8 → Option (Tr × List UInt8 × Nat)} {W m : Nat} {l l1 l2 : List UInt8} {x : Int} (h : nm 58 0 1000000000000 l = some ((m : Int), l1)) (h2 : nm 123 0 1000000000000 l1 = some (x, l2)) :
    rdA rd W l = (its rd m W l2).bind fun z => (pf [125] z.2.2.1).map fun e => (.mk 4 0 ⟨#[]⟩ x z.1 z.2.1, e, z.2.2.2) := by unfold rdA; rw [h]; simp only [Option.bind_some]; rw [h2]; rfl

set_option maxHeartbeats 4000000 in
set_option maxRecDepth 100000 in
theorem readArray_i (f : Nat) (B R : Nat)
    (hV : ∀ (l : List UInt8) (W : Nat) (w : World), W ≤ f → Rs B R l (W : Int) w → Calls Tryz.prog 84 #[.pointer (some ⟨R, 0, none⟩)] w (VrQ B R l (rdP f W l) w))
    (l : List UInt8) (W : Nat) (w : World) (hWf : W ≤ f) (h : Rs B R l (W : Int) w) :
    Calls Tryz.prog 157 #[.pointer (some ⟨R, 0, none⟩)] w (VrQ B R l (rdA (rdP f) W l) w) := by
  have HLN := Lib.hid h.len
  have hRlt := h.lt
  have hBR := h.le
  have hwt := h.wt
  obtain ⟨W0, HW0⟩ : ∃ X, Hid (X = w.alloc (.cells #[.int .i64 0, .int .i64 0, .string ⟨#[]⟩, .int .i64 0, .slice none 0 0] IV)) := ⟨_, Lib.hid rfl⟩
  have E0 : Hid (W0.heap[w.heap.size]? = some (.cells #[.int .i64 0, .int .i64 0, .string ⟨#[]⟩, .int .i64 0, .slice none 0 0] IV (0, 0))) := Lib.hid (by rw [HW0.out]; exact heap_alloc_new w _)
  have HF0 : Hid (Fr (OnR R) w W0) := Lib.hid (by rw [HW0.out]; exact Fr.of (b1 w _))
  have HS0 : Hid (Rs B R l (W : Int) W0) := Lib.hid (by rw [HW0.out]; exact h.stays (b1 w _))
  have hne : R ≠ w.heap.size := by omega
  have hBN : B ≤ w.heap.size := by omega
  have keep : ∀ (wa wb : World) (q : Nat) (o : Obj), q ≠ R → Fr (OnR R) wa wb → wa.heap[q]? = some o → wb.heap[q]? = some o := fun wa wb q o hq hf hE => (hf.block _ (Array.getElem?_eq_some_iff.1 hE).1 hq).trans hE
  have KEEP := Lib.hid keep
  have RU1 := Lib.hid (readUnsigned_i 58 B R l (W : Int) W0 HS0.out)
  obtain ⟨O, HOO⟩ : ∃ O, Hid (rdA (rdP f) W l = O) := ⟨_, Lib.hid rfl⟩
  rw [HOO.out]
  clear h keep
  go_enter Tryz.func157, Tryz.ntmps157
  go_wp2_with (fail)
  rw [← HW0.out]
  refine RU1.out.mono ?_
  rintro e w1 ⟨l1, hs1, hf1, hl1, hres1⟩
  have HS1 := Lib.hid hs1
  have HF1 := Lib.hid (HF0.out.trans hf1)
  have E1 := Lib.hid (KEEP.out _ _ _ _ hne.symm hf1 E0.out)
  have HL1 := Lib.hid hl1
  obtain ⟨c, q1, rfl, hk1⟩ : ∃ (c : Nat) (q : Bool), e = .returned (.tuple #[.int .i64 c, .bool q]) ∧ ((q = true ∧ nm 58 0 1000000000000 l = some ((c : Int), l1)) ∨ (q = false ∧ nm 58 0 1000000000000 l = none)) := by
    rcases hres1 with ⟨n, hn, rfl⟩ | ⟨hn, rfl⟩
    · have := nm_out hn
      obtain ⟨m, rfl⟩ : ∃ m : Nat, n = (m : Int) := ⟨n.toNat, by omega⟩
      exact ⟨m, true, rfl, .inl ⟨rfl, hn⟩⟩
    · exact ⟨0, false, rfl, .inr ⟨rfl, hn⟩⟩
  have HK1 := Lib.hid hk1
  have RU2 := Lib.hid (readUnsigned_i 123 B R l1 (W : Int) w1 hs1)
  clear hs1 hf1 hl1 hres1 hk1
  go_wp2_with (fail)
  refine RU2.out.mono ?_
  rintro e w2 ⟨l2, hs2, hf2, hl2, hres2⟩
  have HS2 := Lib.hid hs2
  have HF2 := Lib.hid (HF1.out.trans hf2)
  have E2 := Lib.hid (KEEP.out _ _ _ _ hne.symm hf2 E1.out)
  have HL2 := Lib.hid (Nat.le_trans hl2 HL1.out)
  obtain ⟨x, q2, rfl, hxb, hk2⟩ : ∃ (x : Int) (q : Bool), e = .returned (.tuple #[.int .i64 x, .bool q]) ∧ I64 x ∧ ((q = true ∧ nm 123 0 1000000000000 l1 = some (x, l2)) ∨ (q = false ∧ nm 123 0 1000000000000 l1 = none)) := by
    rcases hres2 with ⟨n, hn, rfl⟩ | ⟨hn, rfl⟩
    · have := nm_out hn
      exact ⟨n, true, rfl, by unfold I64; omega, .inl ⟨rfl, hn⟩⟩
    · exact ⟨0, false, rfl, by unfold I64; simp, .inr ⟨rfl, hn⟩⟩
  have HK2 := Lib.hid hk2
  have HXB := Lib.hid hxb
  clear hs2 hf2 hl2 hres2 hk2 hxb
  have bad : ∀ wz, Below w2.heap.size w2 wz → O = none → ∀ wF, (((((wz.setCell ⟨w.heap.size, 0, none⟩ (.int .i64 0)).setCell ⟨w.heap.size, 1, none⟩ (.int .i64 0)).setCell ⟨w.heap.size, 2, none⟩ (.string ⟨#[]⟩)).setCell ⟨w.heap.size, 3, none⟩ (.int .i64 0)).setCell ⟨w.heap.size, 4, none⟩ (.slice none 0 0)) = wF →
      (∀ j, wF.cell? ⟨w.heap.size, j, none⟩ = (#[.int .i64 0, .int .i64 0, .string ⟨#[]⟩, .int .i64 0, .slice none 0 0] : Array Value)[j]?) ∧ VrQ B R l O w (.returned (.tuple #[vV 0 0 ⟨#[]⟩ 0 none 0 0, .bool false])) wF := fun wz hb ho wF hwF => by
    obtain ⟨rF, oF, bF⟩ := fill5 (carry hb E2.out) hwF
    exact ⟨rF, l2, _, 0, 0, ⟨#[]⟩, 0, [], [], none, 0, false, (HS2.out.stays hb).swap oF bF hBN hne, (HF2.out.trans (Fr.of hb)).swap oF bF (Nat.le_refl _), HL2.out, by omega, rfl, FIn.leaf (leaf_i64 (by decide) (by unfold I64; simp) (Nat.zero_le _)) none 0 (Nat.zero_le _), .inr ⟨ho, rfl⟩⟩
  have BAD := Lib.hid bad
  clear bad
  by_cases hq : q1 = true ∧ q2 = true
  · obtain ⟨rfl, rfl⟩ := hq
    have hn1 : nm 58 0 1000000000000 l = some ((c : Int), l1) := by rcases HK1.out with ⟨_, h⟩ | ⟨h, _⟩; exact h; cases h
    have hn2 : nm 123 0 1000000000000 l1 = some (x, l2) := by rcases HK2.out with ⟨_, h⟩ | ⟨h, _⟩; exact h; cases h
    have hcb := (nm_out hn1).2.2
    have HO : Hid ((its (rdP f) c W l2).bind (fun z => (pf [125] z.2.2.1).map fun e => (.mk 4 0 ⟨#[]⟩ x z.1 z.2.1, e, z.2.2.2)) = O) := Lib.hid (by rw [← HOO.out, rdA_some hn1 hn2])
    obtain ⟨IT, HIT⟩ : ∃ I, Hid (its (rdP f) c W l2 = I) := ⟨_, Lib.hid rfl⟩
    rw [HIT.out] at HO
    have HV := Lib.hid hV
    have hM2 : w.heap.size < w2.heap.size := (Array.getElem?_eq_some_iff.1 E2.out).1
    obtain ⟨M, HM⟩ : ∃ M, Hid (M = w2.heap.size) := ⟨_, Lib.hid rfl⟩
    have hMN : w.heap.size < M := by rw [HM.out]; exact hM2
    obtain ⟨W3, HW3⟩ : ∃ X, Hid (w2.alloc (.cells #[.int .i64 4, .int .i64 0, .string ⟨#[]⟩, .int .i64 x, .slice none 0 0] IV) = X) := ⟨_, Lib.hid rfl⟩
    have EM3 : Hid (W3.heap[M]? = some (.cells #[.int .i64 4, .int .i64 0, .string ⟨#[]⟩, .int .i64 x, .slice none 0 0] IV (0, 0))) := Lib.hid (by rw [← HW3.out, HM.out]; exact heap_alloc_new w2 _)
    have E3 : Hid (W3.heap[w.heap.size]? = some (.cells #[.int .i64 0, .int .i64 0, .string ⟨#[]⟩, .int .i64 0, .slice none 0 0] IV (0, 0))) := Lib.hid (by rw [← HW3.out]; exact keepAlloc E2.out)
    have HF3 : Hid (Fr (OnR R) w W3) := Lib.hid (by rw [← HW3.out]; exact HF2.out.trans (Fr.of (b1 w2 _)))
    have HS3 : Hid (Rs B R l2 (W : Int) W3) := Lib.hid (by rw [← HW3.out]; exact HS2.out.stays (b1 w2 _))
    obtain ⟨i0, hi0, hz0⟩ := ie_info
    have HII := Lib.hid hi0
    have HZZ := Lib.hid hz0
    have hmr : M ≠ R := by omega
    clear hn1 hn2 hV hM2 hi0 hz0 HK1 HK2 HS2 HF2 RU1 RU2 HS1 HF1 E1 HS0 HF0 E0 BAD
    go_wp2_with (fail)
    rw [HW3.out, ← HM.out]
    go_loopg [33] (c + 1) (fun gk i wr => ∃ (j W' : Nat) (l' : List UInt8) (sv : Value) (xs : List Value) (ks : List Ky) (vs : List Tr) (G : Nat → Nat → Prop), i = .int .i64 j ∧ gk + j = c + 1 ∧ j ≤ c ∧ vs.length = j ∧ W' + j ≤ W ∧ l'.length ≤ l.length ∧
      Hid (Itt (rdP f) (c - j) W' l' ks vs = IT) ∧ Hid (Rs B R l' (W' : Int) wr) ∧ Hid (Fr (OnR R) w wr) ∧ Hid (wr.heap[w.heap.size]? = some (.cells #[.int .i64 0, .int .i64 0, .string ⟨#[]⟩, .int .i64 0, .slice none 0 0] IV (0, 0))) ∧
      Hid (wr.heap[M]? = some (.cells #[.int .i64 4, .int .i64 0, .string ⟨#[]⟩, .int .i64 x, sv] IV (0, 0))) ∧ Hid (FRow wr (M + 1) sv xs ks vs G))
    case atStart => exact ⟨0, W, l2, _, [], [], [], fun _ _ => False, rfl, by omega, by omega, rfl, by omega, HL2.out, Lib.hid ((itt_start _ _ _ _).trans HIT.out), HS3, HF3, E3, EM3, Lib.hid (FRow.nil _ _ _)⟩
    case round =>
      obtain ⟨j, W', l', sv, xs, ks, vs, G, rfl, hgj, hjc, hvl, hWj, hll, HQ, HS, HF, HE, HEM, HR⟩ := hrel
      obtain ⟨SA, Sc, rfl, hSc⟩ := HR.out.isin
      by_cases hlt : j < c
      · have RK := Lib.hid (readKey_i B R l' (W' : Int) wr HS.out)
        obtain ⟨L, HL⟩ : ∃ L, Hid (L = vs.length) := ⟨_, Lib.hid rfl⟩
        have HLJ : Hid (L = j) := Lib.hid (by rw [HL.out]; exact hvl)
        have hLb : L ≤ 200 := by have := HLJ.out; omega
        have hML : M < wr.heap.size := (Array.getElem?_eq_some_iff.1 HEM.out).1
        rw [← HL.out] at HEM HR hSc
        have HOB := Lib.hid HR.out.block
        have HGB := Lib.hid (fun i b (hi : i < vs.length) (hb : G i b) => by obtain ⟨_, _, _, _, _, _, _, _, _, -, -, -, -, -, a6⟩ := HR.out.2.2 i hi; exact (a6 b hb).1.2.1)
        clear hvl
        go_wp2_with (fail)
        refine RK.out.mono ?_
        rintro e w4 ⟨l4, y, hs4, hf4, hl4, hyb, hres4⟩
        obtain ⟨yb, yn, ys⟩ := y
        have HS4 := Lib.hid hs4
        have HF4 := Lib.hid hf4
        have HE4 := Lib.hid (KEEP.out _ _ _ _ hne.symm hf4 HE.out)
        have HEM4 := Lib.hid (KEEP.out _ _ _ _ hmr hf4 HEM.out)
        have HR4 : Hid (FRow w4 (M + 1) (.slice SA L Sc) xs ks vs G) := Lib.hid (HR.out.keep hf4.size (fun b hb hlt => hf4.block b hlt (fun e => by unfold OnR at e; omega)))
        have HZ4 := Lib.hid hf4.size
        have HYB := Lib.hid hyb
        obtain ⟨q4, rfl, hk4⟩ : ∃ q : Bool, e = .returned (.tuple #[kyV ⟨yb, yn, ys⟩, .bool q]) ∧ ((q = true ∧ rdK l' = some (⟨yb, yn, ys⟩, l4)) ∨ (q = false ∧ rdK l' = none)) := by
          rcases hres4 with ⟨h1, rfl⟩ | ⟨h1, rfl⟩
          · exact ⟨true, rfl, .inl ⟨rfl, h1⟩⟩
          · exact ⟨false, rfl, .inr ⟨rfl, h1⟩⟩
        have HK4 := Lib.hid hk4
        have HL4 := Lib.hid (Nat.le_trans hl4 hll)
        unfold kyV
        obtain ⟨w5, HW5⟩ : ∃ X, Hid (w4.alloc (.cells #[.bool yb, .int .i64 yn, .string ys] IK) = X) := ⟨_, Lib.hid rfl⟩
        have EK5 : Hid (w5.heap[w4.heap.size]? = some (.cells #[.bool yb, .int .i64 yn, .string ys] IK (0, 0))) := Lib.hid (by rw [← HW5.out]; exact heap_alloc_new w4 _)
        have HB5 : Hid (Below w4.heap.size w4 w5) := Lib.hid (by rw [← HW5.out]; exact b1 w4 _)
        have HS5 := Lib.hid (HS4.out.stays HB5.out)
        have RV := Lib.hid (HV.out l4 W' w5 (by omega) HS5.out)
        clear hs4 hf4 hl4 hyb hres4 hk4
        go_wp2_with (fail)
        rw [HW5.out]
        refine RV.out.mono ?_
        rintro e w6 ⟨l6, W6, k6, n6, s6, x6, ks6, vs6, A6, c6, q6, hs6, hf6, hl6, hW6, rfl, hin6, hk6⟩
        have HS6 := Lib.hid hs6
        have HF6 : Hid (Fr (OnR R) wr w6) := Lib.hid ((HF4.out.trans (Fr.of HB5.out)).trans hf6)
        have HE6 := Lib.hid (KEEP.out _ _ _ _ hne.symm hf6 (carry HB5.out HE4.out))
        have HEM6 := Lib.hid (KEEP.out _ _ _ _ hmr hf6 (carry HB5.out HEM4.out))
        have hKR : w4.heap.size ≠ R := by have := HS4.out.lt; omega
        have EK6 := Lib.hid (KEEP.out _ _ _ _ hKR hf6 EK5.out)
        have HR6 : Hid (FRow w6 (M + 1) (.slice SA L Sc) xs ks vs G) := Lib.hid ((HR4.out.below HB5.out).keep hf6.size (fun b hb hlt => hf6.block b hlt (fun e => by unfold OnR at e; omega)))
        have HIN6 := Lib.hid hin6
        have HK6 := Lib.hid hk6
        have HL6 := Lib.hid (Nat.le_trans hl6 HL4.out)
        have HZ6 : Hid (w4.heap.size + 1 ≤ w6.heap.size) := Lib.hid (by have h1 := hf6.size; have h2 : w5.heap.size = w4.heap.size + 1 := by { rw [← HW5.out]; simp }; omega)
        have HZ5 : Hid (w5.heap.size = w4.heap.size + 1) := Lib.hid (by rw [← HW5.out]; simp)
        obtain ⟨L6, HL66⟩ : ∃ L, Hid (vs6.length = L) := ⟨_, Lib.hid rfl⟩
        rw [HL66.out] at HIN6 ⊢
        clear hs6 hf6 hl6 hin6 hk6
        by_cases hq : q4 = true ∧ q6 = true
        · obtain ⟨rfl, rfl⟩ := hq
          have hrk : rdK l' = some (⟨yb, yn, ys⟩, l4) := by rcases HK4.out with ⟨_, h⟩ | ⟨h, _⟩; exact h; cases h
          obtain ⟨W2, hrv, rfl⟩ : ∃ W2 : Nat, rdP f W' l4 = some (.mk k6 n6 s6 x6 ks6 vs6, l6, W2) ∧ W6 = (W2 : Int) := by
            rcases HK6.out with ⟨W2, h1, h2, -⟩ | ⟨_, h⟩
            · exact ⟨W2, h1, h2⟩
            · cases h
          have hWd := rdP_wt _ _ _ _ _ _ hrv
          have HQ2 : Hid (Itt (rdP f) (c - (j + 1)) W2 l6 (ks ++ [⟨yb, yn, ys⟩]) (vs ++ [.mk k6 n6 s6 x6 ks6 vs6]) = IT) := Lib.hid (by rw [← HQ.out, show c - j = (c - (j + 1)) + 1 by omega, itt_step hrk hrv])
          have p4 : ∀ o, (w6.alloc o).cell? ⟨M, 4, none⟩ = some (.slice SA L Sc) := fun o => (rowc (keepAlloc HEM6.out)).1 4
          have p0 : ∀ o, (w6.alloc o).cell? ⟨w4.heap.size, 0, none⟩ = some (.bool yb) := fun o => (rowc (keepAlloc EK6.out)).1 0
          have p1 : ∀ o, (w6.alloc o).cell? ⟨w4.heap.size, 1, none⟩ = some (.int .i64 yn) := fun o => (rowc (keepAlloc EK6.out)).1 1
          have p2 : ∀ o, (w6.alloc o).cell? ⟨w4.heap.size, 2, none⟩ = some (.string ys) := fun o => (rowc (keepAlloc EK6.out)).1 2
          have HOW : Hid (∀ o o', ((w6.alloc o).alloc o').ownsRow (M + 1) IE 8 (.slice SA L Sc) L xs) := Lib.hid (fun o o' => by
            have := ((HR6.out.below (b1 w6 o)).below (b1 _ o')).1
            rwa [← HL.out] at this)
          have hMz : M + 1 ≤ w6.heap.size := by have := HZ6.out; have := HZ4.out; omega
          obtain ⟨w7, HW7⟩ : ∃ X, Hid (w6.alloc (.cells #[.int .i64 k6, .int .i64 n6, .string s6, .int .i64 x6, .slice A6 L6 c6] IV) = X) := ⟨_, Lib.hid rfl⟩
          have HB7 : Hid (Below w6.heap.size w6 w7) := Lib.hid (by rw [← HW7.out]; exact b1 w6 _)
          have HZ7 : Hid (w7.heap.size = w6.heap.size + 1) := Lib.hid (by rw [← HW7.out]; simp)
          have HEN := Lib.hid (eight_new w7 (.bool yb) (.int .i64 yn) (.string ys) (.int .i64 k6) (.int .i64 n6) (.string s6) (.int .i64 x6) (.slice A6 L6 c6) IE)
          rw [HZ7.out, ← HW7.out] at HEN
          clear hrk hrv
          go_wp2_with (first
            | (at_builtin; go_loud (refine wpList_append_own_at _ rfl _ _ 30 rfl (M + 1) IE i0 _ 8 96 Tryz.underlying30 HII.out HZZ.out.1 HZZ.out.2.1 HZZ.out.2.2 rfl (by decide) _ L xs rfl (HOW.out _ _) ⟨w6.heap.size + 1, 0, none⟩ 1 1 [.bool yb, .int .i64 yn, .string ys, .int .i64 k6, .int .i64 n6, .string s6, .int .i64 x6, .slice A6 L6 c6] rfl rfl HEN.out (eight_one _ _ _ _ _ _ _ _ _ _) (by unfold maxLen; omega) (by omega) (by simp; omega) ?_)
               intro v' w8 hown' hgrow' hnil hat'
               have HO8 := Lib.hid hown'
               have HG8 := Lib.hid hgrow'
               have HA8 := Lib.hid hat'
               have hMo : some M ≠ (Value.slice SA L Sc).ownBlock := fun e => by have := (HOB.out M e.symm).1; omega
               have HEM8 : Hid (w8.heap[M]? = some (.cells #[.int .i64 4, .int .i64 0, .string ⟨#[]⟩, .int .i64 x, .slice SA L Sc] IV (0, 0))) := Lib.hid ((hgrow'.block M (by simp; omega) hMo).trans (keepAlloc (keepAlloc HEM6.out)))
               obtain ⟨rM8, fM8⟩ := rowc HEM8.out
               obtain ⟨g3, c3, rfl⟩ : ∃ g3 c3, v' = .slice (some ⟨g3, 0, none⟩) (L + 1) c3 := by
                 rcases hown'.2 with ⟨-, h⟩ | ⟨g, cap, cur, h, -⟩
                 · omega
                 · exact ⟨g, cap, h⟩
               clear hown' hgrow' hnil hat' hMo)
            | fail)
          have hOB := HOB.out
          have hNo : some w.heap.size ≠ (Value.slice SA L Sc).ownBlock := fun e => by have := (hOB _ e.symm).1; omega
          have HBF : Hid (Below w.heap.size w6 (w8.setCell ⟨M, 4, none⟩ (.slice (some ⟨g3, 0, none⟩) (L + 1) c3))) := Lib.hid (((((Below.refl _ w6).alloc (by omega) _).alloc (by simp; omega) _).grown HG8.out (by simp; omega) (fun b e => by have := (hOB b e).1; omega)).setCell (by show w.heap.size ≤ M; omega) _)
          have HR8 := Lib.hid (((HR6.out.below (b1 w6 (.cells #[.int .i64 k6, .int .i64 n6, .string s6, .int .i64 x6, .slice A6 L6 c6] IV))).below (b1 _ (.cells #[.bool yb, .int .i64 yn, .string ys, .int .i64 k6, .int .i64 n6, .string s6, .int .i64 x6, .slice A6 L6 c6] IE))).more (F := fun b => w5.heap.size ≤ b ∧ b < w6.heap.size) (y := ⟨yb, yn, ys⟩) (k := k6) (n := n6) (s := s6) (x := x6) (ks' := ks6) (vs' := vs6) (A := A6) (c := c6) (v' := .slice (some ⟨g3, 0, none⟩) (L + 1) c3) ⟨HYB.out.1, by have h1 : ys.size ≤ l'.length := HYB.out.2; have h2 := HLN.out; unfold maxLen; show ys.size ≤ _; omega⟩ (by rw [HL66.out]; exact (HIN6.out.below (b1 _ _)).below (b1 _ _))
            (fun b hb => ⟨⟨by have h1 := HZ5.out; have h2 := HZ4.out; have h3 := hb.1; omega, by have := hb.2; simp; omega, fun e => by have h1 := (hOB b e).2; have h2 := HZ4.out; have h3 := HZ5.out; have h4 := hb.1; omega⟩, fun i hi hg => by have h1 := HGB.out i b hi hg; have h2 := HZ4.out; have h3 := HZ5.out; have h4 := hb.1; omega⟩)
            (by rw [← HL.out, HL66.out]; exact HO8.out) HG8.out HA8.out HG8.out.size)
          have HE8 : Hid ((w8.setCell ⟨M, 4, none⟩ (.slice (some ⟨g3, 0, none⟩) (L + 1) c3)).heap[w.heap.size]? = some (.cells #[.int .i64 0, .int .i64 0, .string ⟨#[]⟩, .int .i64 0, .slice none 0 0] IV (0, 0))) := Lib.hid ((set_other (by omega)).trans ((HG8.out.block _ (by simp; omega) hNo).trans (keepAlloc (keepAlloc HE6.out))))
          have HEM9 : Hid ((w8.setCell ⟨M, 4, none⟩ (.slice (some ⟨g3, 0, none⟩) (L + 1) c3)).heap[M]? = some (.cells #[.int .i64 4, .int .i64 0, .string ⟨#[]⟩, .int .i64 x, .slice (some ⟨g3, 0, none⟩) (L + 1) c3] IV (0, 0))) := Lib.hid (by have := set_heap HEM8.out 4 (.slice (some ⟨g3, 0, none⟩) (L + 1) c3); simpa using this)
          clear hOB hNo rM8 fM8 p4 p0 p1 p2
          go_roundg (c - j)
          case rel => exact ⟨j + 1, W2, l6, _, _, _, _, _, by go_num, by omega, by omega, by rw [List.length_append, List.length_singleton, ← HL.out, HLJ.out], by omega, HL6.out, HQ2, Lib.hid (HS6.out.upto HBF.out hRlt), Lib.hid ((HF.out.trans HF6.out).upto HBF.out), HE8, HEM9, Lib.hid (HR8.out.keep (by rw [set_size]; exact Nat.le_refl _) (fun b hb _ => set_other (by omega)))⟩
          case measure => omega
        · have hO : O = none := by
            have hI : IT = none := by
              rw [← HQ.out, show c - j = (c - (j + 1)) + 1 by omega]
              rcases HK4.out with ⟨rfl, h4⟩ | ⟨-, h4⟩
              · rcases HK6.out with ⟨W2, -, -, rfl⟩ | ⟨h6, -⟩
                · exact absurd ⟨rfl, rfl⟩ hq
                · exact itt_val h4 h6
              · exact itt_key h4
            rw [← HO.out, hI]
            rfl
          have HON := Lib.hid hO
          have hcs : q4 = false ∨ (q4 = true ∧ q6 = false) := by
            cases q4 with
            | false => exact .inl rfl
            | true => cases q6 with
              | false => exact .inr ⟨rfl, rfl⟩
              | true => exact absurd ⟨rfl, rfl⟩ hq
          have HE6a : Hid (∀ o wz, Below (w6.alloc o).heap.size (w6.alloc o) wz → wz.heap[w.heap.size]? = some (.cells #[.int .i64 0, .int .i64 0, .string ⟨#[]⟩, .int .i64 0, .slice none 0 0] IV (0, 0))) := Lib.hid (fun o wz hb => carry hb (keepAlloc HE6.out))
          clear hq hO
          rcases hcs with rfl | ⟨rfl, rfl⟩
          all_goals
            go_wp2_with (fail)
            refine (nullValue_i _).mono ?_
            rintro e w9 ⟨rfl, hb9⟩
            have E9 := Lib.hid (HE6a.out _ _ hb9)
            have HB9 := Lib.hid (bs (b1 w6 _) hb9)
            obtain ⟨r9, f9⟩ := rowc E9.out
            clear hb9
            go_wp2_with (fail)
            generalize hwF : (((((w9.setCell ⟨w.heap.size, 0, none⟩ (.int .i64 0)).setCell ⟨w.heap.size, 1, none⟩ (.int .i64 0)).setCell ⟨w.heap.size, 2, none⟩ (.string ⟨#[]⟩)).setCell ⟨w.heap.size, 3, none⟩ (.int .i64 0)).setCell ⟨w.heap.size, 4, none⟩ (.slice none 0 0)) = wF
            obtain ⟨rF, oF, bF⟩ := fill5 E9.out hwF
            refine bodyPost_ret (v := .tuple #[vV 0 0 ⟨#[]⟩ 0 none 0 0, .bool false]) ?_ rfl ?_
            · simp [results, Tryz.results157, go_sem, rF]
            · exact ⟨l6, W6, 0, 0, ⟨#[]⟩, 0, [], [], none, 0, false, (HS6.out.stays HB9.out).swap oF bF hBN hne, ((HF.out.trans HF6.out).trans (Fr.of HB9.out)).swap oF bF (Nat.le_refl _), HL6.out, hW6, rfl, FIn.leaf (leaf_i64 (by decide) (by unfold I64; simp) (Nat.zero_le _)) none 0 (Nat.zero_le _), .inr ⟨HON.out, rfl⟩⟩
      · have hjc' : j = c := by omega
        have hI : IT = some (ks, vs, l', W') := by rw [← HQ.out, show c - j = 0 by omega, itt_zero]
        have HO2 : Hid (((pf [125] l').map fun e => (Tr.mk 4 0 ⟨#[]⟩ x ks vs, e, W')) = O) := Lib.hid (by rw [← HO.out, hI]; rfl)
        obtain ⟨A9, c9, e9, hc9, hin9⟩ := HR.out.out (by unfold maxLen; omega) (k := 4) (n := 0) (x := x) (s := ⟨#[]⟩) ⟨by unfold I64; omega, by unfold I64; omega, HXB.out, Nat.zero_le _⟩
        obtain ⟨rfl, rfl⟩ : SA = A9 ∧ Sc = c9 := by simpa using e9
        have HIN9 := Lib.hid hin9
        obtain ⟨L, HL⟩ : ∃ L, Hid (vs.length = L) := ⟨_, Lib.hid rfl⟩
        have hML : M < wr.heap.size := (Array.getElem?_eq_some_iff.1 HEM.out).1
        rw [HL.out] at HEM HIN9
        obtain ⟨q9, l9, HQ9⟩ : ∃ q9 l9, Hid ((pf [125] l').isSome = q9 ∧ (pf [125] l').getD l' = l9) := ⟨_, _, Lib.hid ⟨rfl, rfl⟩⟩
        have SK := Lib.hid (fun w' (hs : Rs B R l' (W' : Int) w') => skip_i [125] B R l' (W' : Int) w' hs)
        have SK : Hid (∀ w', Rs B R l' (W' : Int) w' → Calls Tryz.prog 153 #[.pointer (some ⟨R, 0, none⟩), .string ⟨#[125]⟩] w' (fun e w2 => e = .returned (.bool q9) ∧ Rs B R l9 (W' : Int) w2 ∧ Fr (OnR R) w' w2)) := Lib.hid (by have := SK.out; rw [HQ9.out.1, HQ9.out.2] at this; exact this)
        have HL9 : Hid (l9.length ≤ l.length) := Lib.hid (by
          rw [← HQ9.out.2]
          cases h : pf [125] l' with
          | none => exact hll
          | some r => have := pf_len h; simp only [Option.getD_some]; omega)
        have HRES : Hid ((∃ W2 : Nat, O = some (Tr.mk 4 0 ⟨#[]⟩ x ks vs, l9, W2) ∧ (W' : Int) = W2 ∧ q9 = true) ∨ (O = none ∧ q9 = false)) := Lib.hid (by
          rw [← HO2.out, ← HQ9.out.1, ← HQ9.out.2]
          cases h : pf [125] l' with
          | none => exact .inr ⟨rfl, rfl⟩
          | some r => exact .inl ⟨W', rfl, rfl, rfl⟩)
        have m0 : wr.cell? ⟨M, 0, none⟩ = some (.int .i64 4) := (rowc HEM.out).1 0
        have m1 : wr.cell? ⟨M, 1, none⟩ = some (.int .i64 0) := (rowc HEM.out).1 1
        have m2 : wr.cell? ⟨M, 2, none⟩ = some (.string ⟨#[]⟩) := (rowc HEM.out).1 2
        have m3 : wr.cell? ⟨M, 3, none⟩ = some (.int .i64 x) := (rowc HEM.out).1 3
        have m4 : wr.cell? ⟨M, 4, none⟩ = some (.slice SA L Sc) := (rowc HEM.out).1 4
        obtain ⟨rN, fN⟩ := rowc HE.out
        clear hin9 hc9 e9 hI
        go_wp2_with (fail)
        go_region_with (first
          | (go_at_call 153; refine (SK.out _ (HS.out.stays ((Below.refl wr.heap.size wr).drew))).mono ?_
             rintro e w9 ⟨rfl, hs9, hf9⟩
             have HS9 := Lib.hid hs9
             have hfx : Fr (OnR R) wr w9 := (Fr.of ((Below.refl wr.heap.size wr).drew)).trans hf9
             have HF9 := Lib.hid hfx
             have E9 := Lib.hid (KEEP.out _ _ _ _ hne.symm hfx HE.out)
             have EM9 := Lib.hid (KEEP.out _ _ _ _ hmr hfx HEM.out)
             obtain ⟨r9, f9⟩ := rowc E9.out
             have n0 : w9.cell? ⟨M, 0, none⟩ = some (.int .i64 4) := (rowc EM9.out).1 0
             have n1 : w9.cell? ⟨M, 1, none⟩ = some (.int .i64 0) := (rowc EM9.out).1 1
             have n2 : w9.cell? ⟨M, 2, none⟩ = some (.string ⟨#[]⟩) := (rowc EM9.out).1 2
             have n3 : w9.cell? ⟨M, 3, none⟩ = some (.int .i64 x) := (rowc EM9.out).1 3
             have n4 : w9.cell? ⟨M, 4, none⟩ = some (.slice SA L Sc) := (rowc EM9.out).1 4
             clear hs9 hf9 hfx))
        all_goals
          go_wp2_with (fail)
          generalize hwF : (((((w9.setCell ⟨w.heap.size, 0, none⟩ (.int .i64 4)).setCell ⟨w.heap.size, 1, none⟩ (.int .i64 0)).setCell ⟨w.heap.size, 2, none⟩ (.string ⟨#[]⟩)).setCell ⟨w.heap.size, 3, none⟩ (.int .i64 x)).setCell ⟨w.heap.size, 4, none⟩ (.slice SA L Sc)) = wF
          obtain ⟨rF, oF, bF⟩ := fill5 E9.out hwF
          have hszF := (bF 0 w9 (Nat.zero_le _) (Below.refl 0 w9)).size
          refine bodyPost_ret (v := .tuple #[vV 4 0 ⟨#[]⟩ x SA L Sc, .bool q9]) ?_ rfl ?_
          · simp [results, Tryz.results157, go_sem, rF]
          · refine ⟨l9, _, 4, 0, ⟨#[]⟩, x, ks, vs, SA, Sc, q9, HS9.out.swap oF bF hBN hne, (HF.out.trans HF9.out).swap oF bF (Nat.le_refl _), HL9.out, by omega, by rw [HL.out], ?_, HRES.out⟩
            rw [HL.out]
            exact ((HIN9.out.keep (w' := w9) (fun b hb hlt => HF9.out.block b hlt (fun e => by unfold OnR at e; have := hb.1; omega))).keep (w' := wF) (fun b hb hlt => oF b (by have := hb.1; omega))).mono (fun b hb => ⟨by have := hb.1; omega, by have h1 := hb.2; have h2 := HF9.out.size; omega⟩)
  · have hO : O = none := by
      rw [← HOO.out]
      rcases HK1.out with ⟨rfl, h1⟩ | ⟨-, h1⟩
      · rcases HK2.out with ⟨rfl, h2⟩ | ⟨-, h2⟩
        · exact absurd ⟨rfl, rfl⟩ hq
        · exact rdA_none2 h1 h2
      · exact rdA_none1 h1
    have HON := Lib.hid hO
    have hcs : q1 = false ∨ (q1 = true ∧ q2 = false) := by
      cases q1 with
      | false => exact .inl rfl
      | true => cases q2 with
        | false => exact .inr ⟨rfl, rfl⟩
        | true => exact absurd ⟨rfl, rfl⟩ hq
    clear hq hO
    rcases hcs with rfl | ⟨rfl, rfl⟩
    all_goals
      go_wp2_with (fail)
      refine (nullValue_i _).mono ?_
      rintro e w9 ⟨rfl, hb9⟩
      have HB9 := Lib.hid hb9
      obtain ⟨r9, f9⟩ := rowc (carry hb9 E2.out)
      clear hb9
      go_wp2_with (fail)
      generalize hwF : (((((w9.setCell ⟨w.heap.size, 0, none⟩ (.int .i64 0)).setCell ⟨w.heap.size, 1, none⟩ (.int .i64 0)).setCell ⟨w.heap.size, 2, none⟩ (.string ⟨#[]⟩)).setCell ⟨w.heap.size, 3, none⟩ (.int .i64 0)).setCell ⟨w.heap.size, 4, none⟩ (.slice none 0 0)) = wF
      obtain ⟨rF, hv⟩ := BAD.out w9 HB9.out HON.out wF hwF
      refine bodyPost_ret (v := .tuple #[vV 0 0 ⟨#[]⟩ 0 none 0 0, .bool false]) ?_ rfl hv
      simp [results, Tryz.results157, go_sem, rF]

theorem readValue_all : ∀ (f : Nat) (B R : Nat) (l : List UInt8) (W : Nat) (w : World), W ≤ f → Rs B R l (W : Int) w → Calls Tryz.prog 84 #[.pointer (some ⟨R, 0, none⟩)] w (VrQ B R l (rdP f W l) w)
  | 0, B, R, l, W, w, hW, h => readValue_i 0 B R l W w hW h (fun f' _ _ _ e => by omega)
  | f + 1, B, R, l, W, w, hW, h => readValue_i (f + 1) B R l W w hW h (fun f' l W w e hW hs => by
    obtain rfl : f = f' := by omega
    exact readArray_i f B R (fun l W w hW hs => readValue_all f B R l W w hW hs) l W w hW hs)

end Go.Proofs.YtdglmnmalfpipaaGreatDoor.tree

/-
  Unserialize of the project.
  Conditions: those that each theorem names.
-/
namespace Go.Proofs.YtdglmnmalfpipaaGreatDoor.tree
open Go.ChangeShapes Go.WideShapes Go.ChangeAt Go.RowKit
set_option linter.unusedVariables false

/-- What Unserialize gives: a value in new blocks. -/
def UnQ (l : List UInt8) (w : World) (e : Ending) (w' : World) : Prop :=
  ∃ k n s x ks vs A c, e = .returned (.tuple #[vV k n s x A vs.length c, .bool (unB l)]) ∧ FIn w' (fun b => w.heap.size ≤ b ∧ b < w'.heap.size) (.mk k n s x ks vs) (vV k n s x A vs.length c) ∧ unT l = .mk k n s x ks vs ∧ Below w.heap.size w w'

set_option maxHeartbeats 4000000 in
set_option maxRecDepth 100000 in
theorem unserialize_i (l : List UInt8) (hl : l.length ≤ 1048576) (w : World) (hE : prs.Env w) :
    Calls Tryz.prog 29 #[.string (bz l)] w (UnQ l w) := by
  obtain ⟨N, HN⟩ : ∃ N, Hid (w.heap.size = N) := ⟨_, Lib.hid rfl⟩
  obtain ⟨W2, HW2⟩ : ∃ X, Hid ((w.alloc (.cells #[.int .i64 0, .int .i64 0, .string ⟨#[]⟩, .int .i64 0, .slice none 0 0] IV)).alloc (.cells #[.string (bz l), .int .i64 200] 115) = X) := ⟨_, Lib.hid rfl⟩
  have E2 : Hid (W2.heap[w.heap.size]? = some (.cells #[.int .i64 0, .int .i64 0, .string ⟨#[]⟩, .int .i64 0, .slice none 0 0] IV (0, 0))) := Lib.hid (by rw [← HW2.out]; exact keepAlloc (heap_alloc_new w _))
  have HB2 : Hid (Below w.heap.size w W2) := Lib.hid (by rw [← HW2.out]; exact b2 w _ _)
  have HS2 : Hid (Rs w.heap.size (w.heap.size + 1) l ((200 : Nat) : Int) W2) := Lib.hid ⟨by rw [← HW2.out]; exact heap_alloc2_new w _ _, Nat.le_succ _, ⟨w, hE, Nat.le_refl _, HB2.out⟩, by omega, by omega⟩
  have RV := Lib.hid (readValue_all 200 w.heap.size (w.heap.size + 1) l 200 W2 (Nat.le_refl _) HS2.out)
  have HEN := Lib.hid hE
  have HLL := Lib.hid hl
  obtain ⟨UB, HUB⟩ : ∃ q, Hid (unB l = q) := ⟨_, Lib.hid rfl⟩
  obtain ⟨UT, HUT⟩ : ∃ q, Hid (unT l = q) := ⟨_, Lib.hid rfl⟩
  unfold UnQ
  rw [HUB.out, HUT.out]
  clear hE hl
  obtain ⟨Z, HZ⟩ : ∃ q, Hid (bz l = q) := ⟨_, Lib.hid rfl⟩
  rw [HZ.out] at HW2 ⊢
  go_enter Tryz.func29, Tryz.ntmps29
  go_wp2_with (fail)
  rw [HW2.out]
  refine RV.out.mono ?_
  rintro e w3 ⟨l3, W3, k, n, s, x, ks, vs, A, c, ok, hs3, hf3, hl3, hW3, rfl, hin, hres⟩
  have HS3 := Lib.hid hs3
  have HB3 : Hid (Below w.heap.size w w3) := Lib.hid (HB2.out.trans (hf3.below (by have := HB2.out.size; omega) (fun q hq => by unfold OnR at hq; omega)))
  have E3 : Hid (w3.heap[w.heap.size]? = some (.cells #[.int .i64 0, .int .i64 0, .string ⟨#[]⟩, .int .i64 0, .slice none 0 0] IV (0, 0))) := Lib.hid ((hf3.block _ (Array.getElem?_eq_some_iff.1 E2.out).1 (fun e => by unfold OnR at e; omega)).trans E2.out)
  have hz2 : w.heap.size < W2.heap.size := (Array.getElem?_eq_some_iff.1 E2.out).1
  have HIN := Lib.hid (hin.mono (F' := fun b => w.heap.size < b ∧ b < w3.heap.size) (fun b hb => ⟨by have := hb.1; omega, hb.2⟩))
  have HRES := Lib.hid hres
  obtain ⟨L, HL⟩ : ∃ L, Hid (vs.length = L) := ⟨_, Lib.hid rfl⟩
  rw [HL.out] at HIN ⊢
  have r3 : ∀ o j, (w3.alloc o).cell? ⟨w.heap.size + 1, j, none⟩ = _ := fun o j => (rowc (keepAlloc (o' := o) hs3.blk)).1 j
  have HE4 : Hid (∀ o wz, Below (w3.alloc o).heap.size (w3.alloc o) wz → wz.heap[w.heap.size]? = some (.cells #[.int .i64 0, .int .i64 0, .string ⟨#[]⟩, .int .i64 0, .slice none 0 0] IV (0, 0))) := Lib.hid (fun o wz hb => carry hb (keepAlloc E3.out))
  clear hs3 hf3 hl3 hW3 hin hres hz2
  -- what is given where nothing is read
  have hno : UB = false → UT = nulT → ∀ o wz, Below (w3.alloc o).heap.size (w3.alloc o) wz → ∀ wF, (((((wz.setCell ⟨w.heap.size, 0, none⟩ (.int .i64 0)).setCell ⟨w.heap.size, 1, none⟩ (.int .i64 0)).setCell ⟨w.heap.size, 2, none⟩ (.string ⟨#[]⟩)).setCell ⟨w.heap.size, 3, none⟩ (.int .i64 0)).setCell ⟨w.heap.size, 4, none⟩ (.slice none 0 0)) = wF →
      (∀ j, wF.cell? ⟨w.heap.size, j, none⟩ = (#[.int .i64 0, .int .i64 0, .string ⟨#[]⟩, .int .i64 0, .slice none 0 0] : Array Value)[j]?) ∧ ∃ k n s x ks vs A c, Ending.returned (.tuple #[vV 0 0 ⟨#[]⟩ 0 none 0 0, .bool false]) = .returned (.tuple #[vV k n s x A vs.length c, .bool UB]) ∧ FIn wF (fun b => w.heap.size ≤ b ∧ b < wF.heap.size) (.mk k n s x ks vs) (vV k n s x A vs.length c) ∧ UT = .mk k n s x ks vs ∧ Below w.heap.size w wF := fun h1 h2 o wz hb wF hwF => by
    obtain ⟨rF, oF, bF⟩ := fill5 (HE4.out o wz hb) hwF
    exact ⟨rF, 0, 0, ⟨#[]⟩, 0, [], [], none, 0, by rw [h1]; rfl, FIn.leaf (leaf_i64 (by decide) (by unfold I64; simp) (Nat.zero_le _)) none 0 (Nat.zero_le _), h2, bF _ _ (Nat.le_refl _) (bs (bs HB3.out (b1 w3 o)) hb)⟩
  have HNO := Lib.hid hno
  clear hno
  cases ok with
  | false =>
    have hp : rdP 200 200 l = none := by rcases HRES.out with ⟨_, _, _, h⟩ | ⟨h, _⟩; cases h; exact h
    have hu := unP_no hp
    have HU1 : Hid (UB = false) := Lib.hid (by rw [← HUB.out]; unfold unB; rw [hu]; rfl)
    have HU2 : Hid (UT = nulT) := Lib.hid (by rw [← HUT.out]; unfold unT; rw [hu]; rfl)
    clear hp hu
    go_wp2_with (fail)
    refine (nullValue_i _).mono ?_
    rintro e w5 ⟨rfl, hb5⟩
    have HB5 := Lib.hid hb5
    obtain ⟨r5, f5⟩ := rowc (HE4.out _ _ hb5)
    clear hb5 r3
    go_wp2_with (fail)
    generalize hwF : (((((w5.setCell ⟨w.heap.size, 0, none⟩ (.int .i64 0)).setCell ⟨w.heap.size, 1, none⟩ (.int .i64 0)).setCell ⟨w.heap.size, 2, none⟩ (.string ⟨#[]⟩)).setCell ⟨w.heap.size, 3, none⟩ (.int .i64 0)).setCell ⟨w.heap.size, 4, none⟩ (.slice none 0 0)) = wF
    obtain ⟨rF, hv⟩ := HNO.out HU1.out HU2.out _ w5 HB5.out wF hwF
    refine bodyPost_ret (v := .tuple #[vV 0 0 ⟨#[]⟩ 0 none 0 0, .bool false]) ?_ rfl hv
    simp [results, Tryz.results29, go_sem, rF]
  | true =>
    obtain ⟨W9, hp⟩ : ∃ W9, rdP 200 200 l = some (.mk k n s x ks vs, l3, W9) := by
      rcases HRES.out with ⟨W9, h, -, -⟩ | ⟨_, h⟩
      · exact ⟨W9, h⟩
      · cases h
    have hu := unP_is hp
    have htot := rdP_tot _ _ _ _ _ _ hp
    by_cases hl3 : l3 = []
    · subst hl3
      have IV2 := Lib.hid (fun w' hE h => isValue_i (.mk k n s x ks vs) (by have := HLL.out; omega) w' (Nw 0 w') (vV k n s x A L c) hE h)
      obtain ⟨q, HQ⟩ : ∃ q, Hid (valB (.mk k n s x ks vs) = q) := ⟨_, Lib.hid rfl⟩
      rw [HQ.out] at IV2 hu
      have HV4 : Hid (∀ o, TIn (w3.alloc o) (Nw 0 (w3.alloc o)) (.mk k n s x ks vs) (vV k n s x A L c)) := Lib.hid (fun o => (HIN.out.below (b1 w3 o)).tin)
      have HEV : Hid (∀ o, prs.Env (w3.alloc o)) := Lib.hid (fun o => HEN.out.stays (bs HB3.out (b1 w3 o)))
      have hz0 : bz [] = ⟨#[]⟩ := rfl
      rw [hz0] at r3
      have IV3 : Hid (∀ o, Calls Tryz.prog 32 #[vV k n s x A L c] (w3.alloc o) (BoQ (w3.alloc o) q)) := Lib.hid (fun o => IV2.out _ (HEV.out o) (HV4.out o))
      clear hp htot hz0
      cases q with
      | false =>
        have HU1 : Hid (UB = false) := Lib.hid (by rw [← HUB.out]; unfold unB; rw [hu]; rfl)
        have HU2 : Hid (UT = nulT) := Lib.hid (by rw [← HUT.out]; unfold unT; rw [hu]; rfl)
        clear hu
        go_wp2_with (fail)
        refine (IV3.out _).mono ?_
        rintro e w4 ⟨rfl, hb4⟩
        have HB4 := Lib.hid hb4
        clear hb4 r3
        go_wp2_with (fail)
        refine (nullValue_i _).mono ?_
        rintro e w5 ⟨rfl, hb5⟩
        have HB5 := Lib.hid (bs HB4.out hb5)
        obtain ⟨r5, f5⟩ := rowc (HE4.out _ _ HB5.out)
        clear hb5
        go_wp2_with (fail)
        generalize hwF : (((((w5.setCell ⟨w.heap.size, 0, none⟩ (.int .i64 0)).setCell ⟨w.heap.size, 1, none⟩ (.int .i64 0)).setCell ⟨w.heap.size, 2, none⟩ (.string ⟨#[]⟩)).setCell ⟨w.heap.size, 3, none⟩ (.int .i64 0)).setCell ⟨w.heap.size, 4, none⟩ (.slice none 0 0)) = wF
        obtain ⟨rF, hv⟩ := HNO.out HU1.out HU2.out _ w5 HB5.out wF hwF
        refine bodyPost_ret (v := .tuple #[vV 0 0 ⟨#[]⟩ 0 none 0 0, .bool false]) ?_ rfl hv
        simp [results, Tryz.results29, go_sem, rF]
      | true =>
        have HU1 : Hid (true = UB) := Lib.hid (by rw [← HUB.out]; unfold unB; rw [hu]; rfl)
        have HU2 : Hid (UT = .mk k n s x ks vs) := Lib.hid (by rw [← HUT.out]; unfold unT; rw [hu]; rfl)
        have EK : Hid (∀ wz, Below (w3.alloc (.cells #[.int .i64 k, .int .i64 n, .string s, .int .i64 x, .slice A L c] IV)).heap.size (w3.alloc (.cells #[.int .i64 k, .int .i64 n, .string s, .int .i64 x, .slice A L c] IV)) wz → wz.heap[w3.heap.size]? = some (.cells #[.int .i64 k, .int .i64 n, .string s, .int .i64 x, .slice A L c] IV (0, 0))) := Lib.hid (fun wz hb => carry hb (heap_alloc_new w3 _))
        clear hu
        go_wp2_with (fail)
        refine (IV3.out _).mono ?_
        rintro e w4 ⟨rfl, hb4⟩
        have HB4 := Lib.hid hb4
        obtain ⟨rk, fk⟩ := rowc (EK.out _ hb4)
        have E4 := Lib.hid (HE4.out _ _ hb4)
        obtain ⟨rn, fn⟩ := rowc E4.out
        clear hb4 r3
        go_wp2_with (fail)
        generalize hwF : (((((w4.setCell ⟨w.heap.size, 0, none⟩ (.int .i64 k)).setCell ⟨w.heap.size, 1, none⟩ (.int .i64 n)).setCell ⟨w.heap.size, 2, none⟩ (.string s)).setCell ⟨w.heap.size, 3, none⟩ (.int .i64 x)).setCell ⟨w.heap.size, 4, none⟩ (.slice A L c)) = wF
        obtain ⟨rF, oF, bF⟩ := fill5 E4.out hwF
        have hszF := (bF 0 w4 (Nat.zero_le _) (Below.refl 0 w4)).size
        have hsz4 := Nat.le_trans (b1 w3 _).size HB4.out.size
        refine bodyPost_ret (v := .tuple #[vV k n s x A L c, .bool true]) ?_ rfl ?_
        · simp [results, Tryz.results29, go_sem, rF]
        · refine ⟨k, n, s, x, ks, vs, A, c, by rw [HL.out, ← HU1.out], ?_, HU2.out, bF _ _ (Nat.le_refl _) (bs (bs HB3.out (b1 w3 _)) HB4.out)⟩
          rw [HL.out]
          exact (((HIN.out.below (b1 w3 _)).below HB4.out).keep (w' := wF) (fun b hb hlt => oF b (by have := hb.1; omega))).mono (fun b hb => ⟨by have := hb.1; omega, by have := hb.2; omega⟩)
    · have HU1 : Hid (UB = false) := Lib.hid (by rw [← HUB.out]; unfold unB; rw [hu, if_neg (fun h => hl3 h.1)]; rfl)
      have HU2 : Hid (UT = nulT) := Lib.hid (by rw [← HUT.out]; unfold unT; rw [hu, if_neg (fun h => hl3 h.1)]; rfl)
      obtain ⟨y1, y2⟩ := list_of (s := bz l3) (by rw [bz_size]; exact fun e => hl3 (List.eq_nil_of_length_eq_zero e))
      have y3 : ((bz l3).toList == ([] : List UInt8)) = false := by rw [beq_eq_false_iff_ne]; exact y1
      obtain ⟨z3, HZ3⟩ : ∃ q, Hid (bz l3 = q) := ⟨_, Lib.hid rfl⟩
      rw [HZ3.out] at y1 y2 y3 r3
      clear hp hu htot hl3
      go_wp2_with (fail)
      refine (nullValue_i _).mono ?_
      rintro e w5 ⟨rfl, hb5⟩
      have HB5 := Lib.hid hb5
      obtain ⟨r5, f5⟩ := rowc (HE4.out _ _ hb5)
      clear hb5 r3
      go_wp2_with (fail)
      generalize hwF : (((((w5.setCell ⟨w.heap.size, 0, none⟩ (.int .i64 0)).setCell ⟨w.heap.size, 1, none⟩ (.int .i64 0)).setCell ⟨w.heap.size, 2, none⟩ (.string ⟨#[]⟩)).setCell ⟨w.heap.size, 3, none⟩ (.int .i64 0)).setCell ⟨w.heap.size, 4, none⟩ (.slice none 0 0)) = wF
      obtain ⟨rF, hv⟩ := HNO.out HU1.out HU2.out _ w5 HB5.out wF hwF
      refine bodyPost_ret (v := .tuple #[vV 0 0 ⟨#[]⟩ 0 none 0 0, .bool false]) ?_ rfl hv
      simp [results, Tryz.results29, go_sem, rF]

end Go.Proofs.YtdglmnmalfpipaaGreatDoor.tree

