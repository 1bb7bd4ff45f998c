/-
  A slot added at the end of a table, of the model.
  Conditions: those that each theorem names.
-/
import Derived.Test.YtdgfpfkhcojgaaaGreatDoorTBB7
import Derived.Test.YtdgfpfkhcojgaaaGreatDoorTBB2
import Derived.BigQuiet
import Derived.Deep.QuietTactic
import Derived.Maps.AppendAt
namespace Go.Proofs.YtdgfpfkhcojgaaaGreatDoor.tree
open Go.ChangeShapes Go.WideShapes Go.ChangeAt Go.RowKit
set_option linter.unusedVariables false

set_option maxRecDepth 100000 in
set_option maxHeartbeats 8000000 in
theorem l7Push_s {M lo : Nat} {S : Nat → Prop} {b : Bool} {l : List Int} {sl : List Sl} {A : Option Addr} {n c : Nat} {B : Option Addr} {m d : Nat} {x k : Int} (w : World) (hbt : b = true → 0 < n) (hbf : b = false → n = 0) (ho : imem.OwnI w M A n c l) (hs : SRs w lo S (.slice B m d) sl) (hlen : sl.length = m)
    (hS : ∀ q, (S q ∨ (Value.slice B m d).ownBlock = some q) → (Value.slice A n c).ownBlock ≠ some q) (hSl : ∀ q, S q → q < w.heap.size) (hlo : lo ≤ w.heap.size) (hn : n ≤ 1048576) (hm : m ≤ 1000000) (hx : -1000000000000 ≤ x ∧ x ≤ 1000000000000) (hk : -1000000000000 ≤ k ∧ k ≤ 1000000000000) (hli : ∀ v ∈ l, -1 ≤ v ∧ v ≤ 1000000000)
    (y : Ky) (hy : -1000000000 ≤ y.num ∧ y.num ≤ 1000000000) (hys : y.str.size ≤ 140737488355328) {k1 n1 x1 : Int} {s1 : ByteArray} {ks1 : List Ky} {vs1 : List Tr} {A1 : Option Addr} {c1 : Nat} (hT : TIn w (fun q => S q ∧ (Value.slice B m d).ownBlock ≠ some q) (.mk k1 n1 s1 x1 ks1 vs1) (vV k1 n1 s1 x1 A1 vs1.length c1)) :
    Calls Tryz.prog 131 #[tbV b A n c B m d x k, kyV y, vV k1 n1 s1 x1 A1 vs1.length c1] w (Pu7Q w M lo S b l sl A n c B m d x k y (.mk k1 n1 s1 x1 ks1 vs1)) := by
  obtain ⟨P, HP⟩ : ∃ P, Hid (w.heap.size = P) := ⟨_, Lib.hid rfl⟩
  obtain ⟨i0, hi, hz⟩ := is_info
  have HII := Lib.hid hi
  have HZZ := Lib.hid hz
  obtain ⟨xs, hxs⟩ := hs
  obtain ⟨L1, HL1⟩ : ∃ L, Hid (vs1.length = L) := ⟨_, Lib.hid rfl⟩
  have hln : l.length = n := ho.len
  have HLN := Lib.hid hln
  have HLEN := Lib.hid hlen
  have HA : Hid (∀ q, (Value.slice A n c).ownBlock = some q → q < P) := Lib.hid (fun q e => HP.out ▸ (ho.block q e).2)
  have HBB : Hid (∀ q, (Value.slice B m d).ownBlock = some q → lo ≤ q ∧ q < P) := Lib.hid (fun q e => HP.out ▸ hxs.1.lt q e)
  have HSS := Lib.hid hS
  have HNS : Hid (∀ q, P ≤ q → q < P + 5 → ¬ (S q ∨ (Value.slice B m d).ownBlock = some q)) := Lib.hid (fun q h1 h2 h => by
    rcases h with h | h
    · have := hSl q h; have := HP.out; omega
    · have := HBB.out q h; omega)
  have HO := Lib.hid ho
  have HX := Lib.hid hxs
  have HT := Lib.hid hT
  have HYB : Hid (I64 y.num ∧ y.str.size ≤ maxLen) := Lib.hid ⟨by unfold I64; omega, by unfold maxLen; omega⟩
  have hloP : lo ≤ P := by rw [← HP.out]; exact hlo
  have KH : Hid (∀ w', Calls Tryz.prog 57 #[kyV y] w' (KhQ w' (kh y))) := Lib.hid fun w' => keyHash_s y hys w'
  have MX := specMax' x (y.num + 1)
  rw [HL1.out]
  cases b with
  | false =>
    obtain rfl : n = 0 := hbf rfl
    obtain rfl : l = [] := List.eq_nil_of_length_eq_zero hln
    have HPS : Hid (psS 0 [] y (.mk k1 n1 s1 x1 ks1 vs1) = ⟨y, .mk k1 n1 s1 x1 ks1 vs1, true, -1⟩) := Lib.hid rfl
    have HLK : Hid (I64 (-1)) := Lib.hid (by unfold I64; omega)
    obtain ⟨yb, yn, ys⟩ := y
    unfold kyV
    simp only at hy MX
    clear ho hxs hlen hS hSl hlo hn hli hys hT hln hbt hbf KH hi hz
    go_enter Tryz.func131, Tryz.ntmps131
    go_upto_region 2 with fail
    rw [HP.out]
    generalize hw0 : (((((w.alloc (.cells #[.bool false, .slice A 0 c, .slice B m d, .int .i64 x, .int .i64 k] IT)).alloc (.cells #[.bool yb, .int .i64 yn, .string ys] 29)).alloc (.cells #[.int .i64 k1, .int .i64 n1, .string s1, .int .i64 x1, .slice A1 L1 c1] IV)).alloc (.cells #[.bool false, .slice none 0 0, .slice none 0 0, .int .i64 0, .int .i64 0] IT)).alloc (.cells #[.bool yb, .int .i64 yn, .string ys, .int .i64 k1, .int .i64 n1, .string s1, .int .i64 x1, .slice A1 L1 c1, .bool true, .int .i64 (-1)] IS)) = w0
    obtain ⟨w00, hw00⟩ : ∃ q, ((w.alloc (.cells #[.bool false, .slice A 0 c, .slice B m d, .int .i64 x, .int .i64 k] IT)).alloc (.cells #[.bool yb, .int .i64 yn, .string ys] 29)).alloc (.cells #[.int .i64 k1, .int .i64 n1, .string s1, .int .i64 x1, .slice A1 L1 c1] IV) = q := ⟨_, rfl⟩
    rw [hw00] at hw0
    obtain ⟨a0, a1, a2, az, ab⟩ := al3t w _ _ _ _ _ _ w00 hw00
    rw [HP.out] at a0 a1 a2 az
    have H0 : Hid (w0.heap[P]? = some (.cells #[.bool false, .slice A 0 c, .slice B m d, .int .i64 x, .int .i64 k] IT (0, 0))) := Lib.hid (by rw [← hw0]; exact keepAlloc (keepAlloc a0))
    have H1 : Hid (w0.heap[P + 1]? = some (.cells #[.bool yb, .int .i64 yn, .string ys] 29 (0, 0))) := Lib.hid (by rw [← hw0]; exact keepAlloc (keepAlloc a1))
    have H3 : Hid (w0.heap[P + 3]? = some (.cells #[.bool false, .slice none 0 0, .slice none 0 0, .int .i64 0, .int .i64 0] IT (0, 0))) := Lib.hid (by rw [← hw0, ← az]; exact keepAlloc (heap_alloc_new w00 _))
    have H4 : Hid (w0.heap[P + 4]? = some (.cells #[.bool yb, .int .i64 yn, .string ys, .int .i64 k1, .int .i64 n1, .string s1, .int .i64 x1, .slice A1 L1 c1, .bool true, .int .i64 (-1)] IS (0, 0))) := Lib.hid (by
      rw [← hw0]
      have := heap_alloc_new (w00.alloc (.cells #[.bool false, .slice none 0 0, .slice none 0 0, .int .i64 0, .int .i64 0] IT)) (.cells #[.bool yb, .int .i64 yn, .string ys, .int .i64 k1, .int .i64 n1, .string s1, .int .i64 x1, .slice A1 L1 c1, .bool true, .int .i64 (-1)] IS)
      rwa [show (w00.alloc (.cells #[.bool false, .slice none 0 0, .slice none 0 0, .int .i64 0, .int .i64 0] IT)).heap.size = P + 4 by simp [az]] at this)
    have hz0 : P + 5 ≤ w0.heap.size := by rw [← hw0]; simp [az]
    have hb0 : Below w.heap.size w w0 := by rw [← hw0]; exact bs ab (b2 w00 _ _)
    have HB := Lib.hid hb0
    have HXb := Lib.hid (HX.out.below hb0)
    have HTb := Lib.hid (HT.out.below' hb0)
    have HOb := Lib.hid (HO.out.below hb0)
    clear hw0 hw00 a0 a1 a2 az ab hb0 HX HT HO
    have HFR : Hid (Fr (fun q => (Value.slice A 0 c).ownBlock = some q ∨ (Value.slice B m d).ownBlock = some q) w w0) := Lib.hid (Fr.of HB.out)
    have y0 : w0.cell? ⟨P, 0, none⟩ = some (.bool false) := (rowc H0.out).1 0
    have y1 : w0.cell? ⟨P, 1, none⟩ = some (.slice A 0 c) := (rowc H0.out).1 1
    have y2 : w0.cell? ⟨P, 2, none⟩ = some (.slice B m d) := (rowc H0.out).1 2
    have y3 : w0.cell? ⟨P, 3, none⟩ = some (.int .i64 x) := (rowc H0.out).1 3
    have y4 : w0.cell? ⟨P, 4, none⟩ = some (.int .i64 k) := (rowc H0.out).1 4
    have z0 : w0.cell? ⟨P + 4, 0, none⟩ = some (.bool yb) := (rowc H4.out).1 0
    have z1 : w0.cell? ⟨P + 4, 1, none⟩ = some (.int .i64 yn) := (rowc H4.out).1 1
    have z2 : w0.cell? ⟨P + 4, 2, none⟩ = some (.string ys) := (rowc H4.out).1 2
    have z3 : w0.cell? ⟨P + 4, 3, none⟩ = some (.int .i64 k1) := (rowc H4.out).1 3
    have z4 : w0.cell? ⟨P + 4, 4, none⟩ = some (.int .i64 n1) := (rowc H4.out).1 4
    have z5 : w0.cell? ⟨P + 4, 5, none⟩ = some (.string s1) := (rowc H4.out).1 5
    have z6 : w0.cell? ⟨P + 4, 6, none⟩ = some (.int .i64 x1) := (rowc H4.out).1 6
    have z7 : w0.cell? ⟨P + 4, 7, none⟩ = some (.slice A1 L1 c1) := (rowc H4.out).1 7
    have z8 : w0.cell? ⟨P + 4, 8, none⟩ = some (.bool true) := (rowc H4.out).1 8
    have z9 : w0.cell? ⟨P + 4, 9, none⟩ = some (.int .i64 (-1)) := (rowc H4.out).1 9
    have HOW : Hid (∀ o, (w0.alloc o).ownsRow lo IS 10 (.slice B m d) m xs) := Lib.hid (fun o => by
      have := World.ownsRow.alloc HXb.out.1 o
      rwa [HLEN.out] at this)
    have y2a : ∀ o, (w0.alloc o).cell? ⟨P, 2, none⟩ = some (.slice B m d) := fun o => (rowc (keepAlloc H0.out)).1 2
    go_upto_region 7 with (first
      | (at_builtin; refine wpList_append_own_at _ rfl _ _ 25 rfl lo IS i0 _ 10 112 Tryz.underlying25 HII.out HZZ.out.1 HZZ.out.2.1 HZZ.out.2.2 rfl (by decide) _ m xs rfl (HOW.out _) ⟨w0.heap.size, 0, none⟩ 1 1 [.bool yb, .int .i64 yn, .string ys, .int .i64 k1, .int .i64 n1, .string s1, .int .i64 x1, .slice A1 L1 c1, .bool true, .int .i64 (-1)] rfl rfl (ten_new w0 _ _ _ _ _ _ _ _ _ _ _) (ten_one _ _ _ _ _ _ _ _ _ _ _ _) (by unfold maxLen; omega) (by omega) (by simp; omega) ?_
         intro v' w7 hown hgrow0 hnil hat0
         have hgrow : (w0.alloc (Obj.cells #[.bool yb, .int .i64 yn, .string ys, .int .i64 k1, .int .i64 n1, .string s1, .int .i64 x1, .slice A1 L1 c1, .bool true, .int .i64 (-1)] IS)).grownBy w7 (Value.slice B m d).ownBlock := hgrow0
         have hat : v'.ownBlock = (Value.slice B m d).ownBlock ∨ v'.ownBlock = some (w0.alloc (Obj.cells #[.bool yb, .int .i64 yn, .string ys, .int .i64 k1, .int .i64 n1, .string s1, .int .i64 x1, .slice A1 L1 c1, .bool true, .int .i64 (-1)] IS)).heap.size := hat0
         have HOX : Hid (w7.ownsRow lo IS 10 v' (m + 1) (xs ++ [.bool yb, .int .i64 yn, .string ys, .int .i64 k1, .int .i64 n1, .string s1, .int .i64 x1, .slice A1 L1 c1, .bool true, .int .i64 (-1)])) := Lib.hid hown
         have HGX := Lib.hid hgrow
         have HAT : Hid (v'.ownBlock = (Value.slice B m d).ownBlock ∨ v'.ownBlock = some (w0.heap.size + 1)) := Lib.hid (by simpa using hat)
         obtain ⟨g3, c3, rfl⟩ : ∃ g3 c3, v' = .slice (some ⟨g3, 0, none⟩) (m + 1) c3 := by
           rcases hown.2 with ⟨-, h⟩ | ⟨g, cap, cur, h, -⟩
           · omega
           · exact ⟨g, cap, h⟩
         have hsz : w0.heap.size + 1 ≤ w7.heap.size := by have := hgrow.size; simpa using this
         have hnP : ∀ q, P ≤ q → q < w0.heap.size + 1 → w7.heap[q]? = (w0.alloc (Obj.cells #[.bool yb, .int .i64 yn, .string ys, .int .i64 k1, .int .i64 n1, .string s1, .int .i64 x1, .slice A1 L1 c1, .bool true, .int .i64 (-1)] IS)).heap[q]? := fun q h1 h2 => hgrow.block q (by simp; exact h2) (fun e => by have := (HBB.out q e.symm).2; omega)
         have H07 := Lib.hid ((hnP P (Nat.le_refl _) (by omega)).trans (keepAlloc H0.out))
         have H17 := Lib.hid ((hnP (P + 1) (by omega) (by omega)).trans (keepAlloc H1.out))
         have H37 := Lib.hid ((hnP (P + 3) (by omega) (by omega)).trans (keepAlloc H3.out))
         have HFR7 : Hid (Fr (fun q => ((Value.slice A 0 c).ownBlock = some q ∨ (Value.slice B m d).ownBlock = some q)) w w7) := Lib.hid (HFR.out.trans ((Fr.of (b1 w0 _)).trans ⟨hgrow.os, hgrow.tape, hgrow.output, hgrow.size, fun q hl hn => hgrow.block q hl (fun e => hn (.inr e.symm))⟩))
         have HO7 : Hid (imem.OwnI w7 M A 0 c []) := Lib.hid (owni_blk HOb.out fun q e => (hgrow.block q (by have := (HOb.out.block q e).2; simp; omega) (fun e2 => HSS.out q (.inr e2.symm) e)).trans ((b1 w0 _).block q (HOb.out.block q e).2))
         have hst : SRs w7 lo S (.slice (some ⟨g3, 0, none⟩) (m + 1) c3) (sl ++ [⟨⟨yb, yn, ys⟩, .mk k1 n1 s1 x1 ks1 vs1, true, (-1)⟩]) := by
           refine (HXb.out.below (b1 w0 (Obj.cells #[.bool yb, .int .i64 yn, .string ys, .int .i64 k1, .int .i64 n1, .string s1, .int .i64 x1, .slice A1 L1 c1, .bool true, .int .i64 (-1)] IS))).more (t := ⟨⟨yb, yn, ys⟩, .mk k1 n1 s1 x1 ks1 vs1, true, (-1)⟩) rfl HYB.out HLK.out (HTb.out.below' (b1 w0 _)) ?_ hgrow (hat.imp id fun h => ⟨_, h, Nat.le_refl _⟩)
           rw [HLEN.out, HL1.out]
           exact hown
         have HST := Lib.hid hst
         obtain ⟨t7, f7⟩ := rowc H07.out
         clear hown hgrow hgrow0 hnil hat hat0 hnP hst)
      | fail)
    generalize hw8 : World.setCell w7 _ _ = w8
    have H08 : Hid (w8.heap[P]? = some (.cells #[.bool false, .slice A 0 c, .slice (some ⟨g3, 0, none⟩) (m + 1) c3, .int .i64 x, .int .i64 k] IT (0, 0))) := Lib.hid (by
      rw [← hw8]
      have := set_heap H07.out 2 (.slice (some ⟨g3, 0, none⟩) (m + 1) c3)
      simpa using this)
    have ho8 : ∀ q, q ≠ P → w8.heap[q]? = w7.heap[q]? := fun q h => by rw [← hw8, set_other h]
    have hs8 : w8.heap.size = w7.heap.size := by rw [← hw8, set_size]
    have HO8 := Lib.hid ho8
    have HFR8 : Hid (Fr (fun q => ((Value.slice A 0 c).ownBlock = some q ∨ (Value.slice B m d).ownBlock = some q) ∨ P ≤ q) w w8) := Lib.hid (by
      rw [← hw8]
      exact (HFR7.out.mono fun q h => .inl h).trans (Fr.set (.inr (Nat.le_refl _)) _ _))
    clear hw8 ho8 t7 f7 y0 y1 y2 y3 y4 z0 z1 z2 z3 z4 z5 z6 z7 z8 z9 y2a
    have y4 : w8.cell? ⟨P, 4, none⟩ = some (.int .i64 k) := (rowc H08.out).1 4
    have f8 := (rowc H08.out).2
    have H18 := Lib.hid ((HO8.out (P + 1) (by omega)).trans H17.out)
    have z0 : w8.cell? ⟨P + 1, 0, none⟩ = some (.bool yb) := (rowc H18.out).1 0
    go_upto_region 8 with fail
    generalize hw9 : World.setCell w8 _ _ = w9
    have H09 : Hid (w9.heap[P]? = some (.cells #[.bool false, .slice A 0 c, .slice (some ⟨g3, 0, none⟩) (m + 1) c3, .int .i64 x, .int .i64 (k + 1)] IT (0, 0))) := Lib.hid (by
      rw [← hw9]
      have := set_heap H08.out 4 (.int .i64 (k + 1))
      simpa using this)
    have HO9 : Hid (∀ q, q ≠ P → w9.heap[q]? = w7.heap[q]?) := Lib.hid (fun q h => by rw [← hw9, set_other h]; exact HO8.out q h)
    have hs9 : w9.heap.size = w7.heap.size := by rw [← hw9, set_size, hs8]
    have HFR9 : Hid (Fr (fun q => ((Value.slice A 0 c).ownBlock = some q ∨ (Value.slice B m d).ownBlock = some q) ∨ P ≤ q) w w9) := Lib.hid (by
      rw [← hw9]
      exact HFR8.out.trans (Fr.set (.inr (Nat.le_refl _)) _ _))
    have H19 := Lib.hid ((HO9.out (P + 1) (by omega)).trans H17.out)
    have H39 := Lib.hid ((HO9.out (P + 3) (by omega)).trans H37.out)
    clear hw9 y4 f8 HO8 H08 z0 H18
    have FIN : Hid (∀ (wF : World) (xx : Int), (∀ q, q < P → wF.heap[q]? = w7.heap[q]?) → w7.heap.size ≤ wF.heap.size → (∀ q, P + 5 ≤ q → q < w7.heap.size → wF.heap[q]? = w7.heap[q]?) → Fr (fun q => ((Value.slice A 0 c).ownBlock = some q ∨ (Value.slice B m d).ownBlock = some q) ∨ P ≤ q) w wF → psX x ⟨yb, yn, ys⟩ = xx → Pu7Q w M lo S false [] sl A 0 c B m d x k ⟨yb, yn, ys⟩ (.mk k1 n1 s1 x1 ks1 vs1) (.returned (tbV false A 0 c (some ⟨g3, 0, none⟩) (m + 1) c3 xx (k + 1))) wF) := Lib.hid (fun wF xx h1 h2 h3 h4 h5 => by
      have hpp := HP.out
      refine ⟨some ⟨g3, 0, none⟩, c3, by rw [h5], ?_, ?_, ?_, ?_⟩
      · show imem.OwnI wF M _ 0 c (psH 0 [] m ⟨yb, yn, ys⟩)
        exact owni_blk HO7.out fun q e => h1 q (HA.out q e)
      · rw [HPS.out]
        refine SRs.keep (w := w7) HST.out fun q hq hl => ?_
        rcases Nat.lt_or_ge q P with h | h
        · exact h1 q h
        · rcases Nat.lt_or_ge q (P + 5) with h' | h'
          · exfalso
            rcases hq with hq | hq
            · exact HNS.out q h h' (.inl hq)
            · rcases HAT.out with h9 | h9
              · exact HNS.out q h h' (.inr (h9 ▸ hq))
              · rw [h9] at hq; injection hq with hq; omega
          · exact h3 q h' hl
      · exact ⟨h4.os, h4.tape, h4.output, h4.size, fun q hl hn => h4.block q hl (fun hh => by rcases hh with hh | hh; exact hn hh; omega)⟩
      · rcases HAT.out with h | h
        · exact .inl h
        · exact .inr ⟨_, h, by omega⟩)
    have z0 : w9.cell? ⟨P + 1, 0, none⟩ = some (.bool yb) := (rowc H19.out).1 0
    have z1 : w9.cell? ⟨P + 1, 1, none⟩ = some (.int .i64 yn) := (rowc H19.out).1 1
    cases yb with
    | true =>
      have y0 : w9.cell? ⟨P, 0, none⟩ = some (.bool false) := (rowc H09.out).1 0
      have y1 : w9.cell? ⟨P, 1, none⟩ = some (.slice A 0 c) := (rowc H09.out).1 1
      have y2 : w9.cell? ⟨P, 2, none⟩ = some (.slice (some ⟨g3, 0, none⟩) (m + 1) c3) := (rowc H09.out).1 2
      have y3 : w9.cell? ⟨P, 3, none⟩ = some (.int .i64 x) := (rowc H09.out).1 3
      have y4 : w9.cell? ⟨P, 4, none⟩ = some (.int .i64 (k + 1)) := (rowc H09.out).1 4
      obtain ⟨r1, f1⟩ := rowc H39.out
      have v0 := r1 0; have v1 := r1 1; have v2 := r1 2; have v3 := r1 3; have v4 := r1 4
      simp at v0 v1 v2 v3 v4
      clear r1
      go_wp2_with (fail)
      generalize hwF : World.setCell (World.setCell (World.setCell (World.setCell (World.setCell w9 _ _) _ _) _ _) _ _) _ _ = wF
      obtain ⟨rF, oF, bF⟩ := fill5t H39.out hwF
      have hzF : wF.heap.size = w9.heap.size := by rw [← hwF]; simp []
      have HFF : Fr (fun q => ((Value.slice A 0 c).ownBlock = some q ∨ (Value.slice B m d).ownBlock = some q) ∨ P ≤ q) w wF := by
        rw [← hwF]
        exact ((((HFR9.out.trans (Fr.set (Or.inr (by omega)) _ _)).trans (Fr.set (Or.inr (by omega)) _ _)).trans (Fr.set (Or.inr (by omega)) _ _)).trans (Fr.set (Or.inr (by omega)) _ _)).trans (Fr.set (Or.inr (by omega)) _ _)
      clear hwF
      refine bodyPost_ret (v := tbV false A 0 c (some ⟨g3, 0, none⟩) (m + 1) c3 x (k + 1)) (by simp [results, Tryz.results131, go_sem, rF, tbV]) rfl ?_
      exact FIN.out wF x (fun q h => (oF q (by omega)).trans (HO9.out q (by omega))) (by rw [hzF, hs9]; exact Nat.le_refl _) (fun q h hl => (oF q (by omega)).trans (HO9.out q (by omega))) HFF rfl
    | false =>
      have y3 : w9.cell? ⟨P, 3, none⟩ = some (.int .i64 x) := (rowc H09.out).1 3
      have hmx : -1000000000000 ≤ nums.mx x (yn + 1) ∧ nums.mx x (yn + 1) ≤ 1000000000000 := by unfold nums.mx; split <;> omega
      have hwy : IntKind.i64.wrap (yn + 1) = yn + 1 := by rw [IntKind.wrap_i64]; omega
      obtain ⟨X, HX2⟩ : ∃ q, Hid (nums.mx x (yn + 1) = q) := ⟨_, Lib.hid rfl⟩
      rw [HX2.out] at MX hmx
      have MX2 := Lib.hid MX
      have f9 := (rowc H09.out).2
      clear MX
      go_wp2_with (fail)
      refine (MX2.out _).mono ?_
      rintro e w10 ⟨rfl, hw10⟩
      subst hw10
      go_upto_region 10 with fail
      generalize hw11 : World.setCell w9 _ _ = w11
      have H011 : Hid (w11.heap[P]? = some (.cells #[.bool false, .slice A 0 c, .slice (some ⟨g3, 0, none⟩) (m + 1) c3, .int .i64 X, .int .i64 (k + 1)] IT (0, 0))) := Lib.hid (by
        rw [← hw11]
        have := set_heap H09.out 3 (.int .i64 X)
        simpa using this)
      have HO11 : Hid (∀ q, q ≠ P → w11.heap[q]? = w7.heap[q]?) := Lib.hid (fun q h => by rw [← hw11, set_other h]; exact HO9.out q h)
      have hs11 : w11.heap.size = w7.heap.size := by rw [← hw11, set_size, hs9]
      have HFR11 : Hid (Fr (fun q => ((Value.slice A 0 c).ownBlock = some q ∨ (Value.slice B m d).ownBlock = some q) ∨ P ≤ q) w w11) := Lib.hid (by
        rw [← hw11]
        exact HFR9.out.trans (Fr.set (.inr (Nat.le_refl _)) _ _))
      have H311 := Lib.hid ((HO11.out (P + 3) (by omega)).trans H37.out)
      clear hw11 y3 f9 z0 z1 H09 H19 H39 HFR9
      have y0 : w11.cell? ⟨P, 0, none⟩ = some (.bool false) := (rowc H011.out).1 0
      have y1 : w11.cell? ⟨P, 1, none⟩ = some (.slice A 0 c) := (rowc H011.out).1 1
      have y2 : w11.cell? ⟨P, 2, none⟩ = some (.slice (some ⟨g3, 0, none⟩) (m + 1) c3) := (rowc H011.out).1 2
      have y3 : w11.cell? ⟨P, 3, none⟩ = some (.int .i64 X) := (rowc H011.out).1 3
      have y4 : w11.cell? ⟨P, 4, none⟩ = some (.int .i64 (k + 1)) := (rowc H011.out).1 4
      obtain ⟨r1, f1⟩ := rowc H311.out
      have v0 := r1 0; have v1 := r1 1; have v2 := r1 2; have v3 := r1 3; have v4 := r1 4
      simp at v0 v1 v2 v3 v4
      clear r1
      go_wp2_with (fail)
      generalize hwF : World.setCell (World.setCell (World.setCell (World.setCell (World.setCell w11 _ _) _ _) _ _) _ _) _ _ = wF
      obtain ⟨rF, oF, bF⟩ := fill5t H311.out hwF
      have hzF : wF.heap.size = w11.heap.size := by rw [← hwF]; simp []
      have HFF : Fr (fun q => ((Value.slice A 0 c).ownBlock = some q ∨ (Value.slice B m d).ownBlock = some q) ∨ P ≤ q) w wF := by
        rw [← hwF]
        exact ((((HFR11.out.trans (Fr.set (Or.inr (by omega)) _ _)).trans (Fr.set (Or.inr (by omega)) _ _)).trans (Fr.set (Or.inr (by omega)) _ _)).trans (Fr.set (Or.inr (by omega)) _ _)).trans (Fr.set (Or.inr (by omega)) _ _)
      clear hwF
      refine bodyPost_ret (v := tbV false A 0 c (some ⟨g3, 0, none⟩) (m + 1) c3 X (k + 1)) (by simp [results, Tryz.results131, go_sem, rF, tbV]) rfl ?_
      exact FIN.out wF X (fun q h => (oF q (by omega)).trans (HO11.out q (by omega))) (by rw [hzF, hs11]; exact Nat.le_refl _) (fun q h hl => (oF q (by omega)).trans (HO11.out q (by omega))) HFF (by unfold psX; rw [if_neg (by simp)]; exact HX2.out)
  | true =>
    have hnp := hbt rfl
    obtain ⟨q, HQ⟩ : ∃ q : Nat, Hid (bk n y = q) := ⟨_, Lib.hid rfl⟩
    obtain ⟨z, HZ⟩ : ∃ z, Hid (kh y = z) := ⟨_, Lib.hid rfl⟩
    have hq : q < n := HQ.out ▸ bk_lt (by omega) y
    have hqi : (q : Int) < (n : Int) := by omega
    have hrem : z.tmod (n : Int) = (q : Int) := by
      rw [← HQ.out, ← bk_int (by omega), ← HZ.out, Int.tmod_eq_emod_of_nonneg (kh_in _).1]
    rw [HZ.out] at KH
    have hnz : ¬ n = 0 := by omega
    obtain ⟨ga, rfl, hga1, hga2, hob⟩ := ho.head hnp
    obtain ⟨lk, hlk⟩ : ∃ v, l[q]? = some v := ⟨_, List.getElem?_eq_getElem (by omega)⟩
    have hlkb := hli lk (List.mem_of_getElem? hlk)
    have HPS : Hid (psS n l y (.mk k1 n1 s1 x1 ks1 vs1) = ⟨y, .mk k1 n1 s1 x1 ks1 vs1, true, lk⟩) := Lib.hid (by unfold psS; rw [HQ.out, hlk]; rfl)
    have HPH : Hid (psH n l m y = l.set q m) := Lib.hid (by unfold psH; rw [HQ.out])
    have HLK : Hid (I64 lk) := Lib.hid (by unfold I64; omega)
    have hcq : w.cell? ⟨ga, q, none⟩ = some (.int .i64 lk) := by
      rw [ho.row.cellAt q (by omega)]
      exact imem.ics_get hlk
    have HCQ := Lib.hid hcq
    have HGA : Hid (ga < P) := Lib.hid (HP.out ▸ hga2)
    obtain ⟨yb, yn, ys⟩ := y
    unfold kyV at KH ⊢
    simp only at hy MX KH
    clear ho hxs hlen hS hSl hlo hli hys hT hln hbt hbf hi hz hlk hcq hga1 hga2 hob HZ
    go_enter Tryz.func131, Tryz.ntmps131
    go_upto_region 2 with fail
    rw [HP.out]
    generalize hw0 : (((((w.alloc (.cells #[.bool true, .slice (some ⟨ga, 0, none⟩) n c, .slice B m d, .int .i64 x, .int .i64 k] IT)).alloc (.cells #[.bool yb, .int .i64 yn, .string ys] 29)).alloc (.cells #[.int .i64 k1, .int .i64 n1, .string s1, .int .i64 x1, .slice A1 L1 c1] IV)).alloc (.cells #[.bool false, .slice none 0 0, .slice none 0 0, .int .i64 0, .int .i64 0] IT)).alloc (.cells #[.bool yb, .int .i64 yn, .string ys, .int .i64 k1, .int .i64 n1, .string s1, .int .i64 x1, .slice A1 L1 c1, .bool true, .int .i64 (-1)] IS)) = w0
    obtain ⟨w00, hw00⟩ : ∃ q, ((w.alloc (.cells #[.bool true, .slice (some ⟨ga, 0, none⟩) n c, .slice B m d, .int .i64 x, .int .i64 k] IT)).alloc (.cells #[.bool yb, .int .i64 yn, .string ys] 29)).alloc (.cells #[.int .i64 k1, .int .i64 n1, .string s1, .int .i64 x1, .slice A1 L1 c1] IV) = q := ⟨_, rfl⟩
    rw [hw00] at hw0
    obtain ⟨a0, a1, a2, az, ab⟩ := al3t w _ _ _ _ _ _ w00 hw00
    rw [HP.out] at a0 a1 a2 az
    have H0 : Hid (w0.heap[P]? = some (.cells #[.bool true, .slice (some ⟨ga, 0, none⟩) n c, .slice B m d, .int .i64 x, .int .i64 k] IT (0, 0))) := Lib.hid (by rw [← hw0]; exact keepAlloc (keepAlloc a0))
    have H1 : Hid (w0.heap[P + 1]? = some (.cells #[.bool yb, .int .i64 yn, .string ys] 29 (0, 0))) := Lib.hid (by rw [← hw0]; exact keepAlloc (keepAlloc a1))
    have H3 : Hid (w0.heap[P + 3]? = some (.cells #[.bool false, .slice none 0 0, .slice none 0 0, .int .i64 0, .int .i64 0] IT (0, 0))) := Lib.hid (by rw [← hw0, ← az]; exact keepAlloc (heap_alloc_new w00 _))
    have H4 : Hid (w0.heap[P + 4]? = some (.cells #[.bool yb, .int .i64 yn, .string ys, .int .i64 k1, .int .i64 n1, .string s1, .int .i64 x1, .slice A1 L1 c1, .bool true, .int .i64 (-1)] IS (0, 0))) := Lib.hid (by
      rw [← hw0]
      have := heap_alloc_new (w00.alloc (.cells #[.bool false, .slice none 0 0, .slice none 0 0, .int .i64 0, .int .i64 0] IT)) (.cells #[.bool yb, .int .i64 yn, .string ys, .int .i64 k1, .int .i64 n1, .string s1, .int .i64 x1, .slice A1 L1 c1, .bool true, .int .i64 (-1)] IS)
      rwa [show (w00.alloc (.cells #[.bool false, .slice none 0 0, .slice none 0 0, .int .i64 0, .int .i64 0] IT)).heap.size = P + 4 by simp [az]] at this)
    have hz0 : P + 5 ≤ w0.heap.size := by rw [← hw0]; simp [az]
    have hb0 : Below w.heap.size w w0 := by rw [← hw0]; exact bs ab (b2 w00 _ _)
    have HB := Lib.hid hb0
    have HXb := Lib.hid (HX.out.below hb0)
    have HTb := Lib.hid (HT.out.below' hb0)
    have HOb := Lib.hid (HO.out.below hb0)
    clear hw0 hw00 a0 a1 a2 az ab hb0 HX HT HO
    have y1 : w0.cell? ⟨P, 1, none⟩ = some (.slice (some ⟨ga, 0, none⟩) n c) := (rowc H0.out).1 1
    have z0 : w0.cell? ⟨P + 1, 0, none⟩ = some (.bool yb) := (rowc H1.out).1 0
    have z1 : w0.cell? ⟨P + 1, 1, none⟩ = some (.int .i64 yn) := (rowc H1.out).1 1
    have z2 : w0.cell? ⟨P + 1, 2, none⟩ = some (.string ys) := (rowc H1.out).1 2
    have y0 : w0.cell? ⟨P, 0, none⟩ = some (.bool true) := (rowc H0.out).1 0
    go_wp2_with (fail)
    go_region_held3 (fun w' => w'.cell? ⟨P, 1, none⟩ = some (.slice (some ⟨ga, 0, none⟩) n c) ∧ w'.cell? ⟨P + 1, 0, none⟩ = some (.bool yb) ∧ w'.cell? ⟨P + 1, 1, none⟩ = some (.int .i64 yn) ∧ w'.cell? ⟨P + 1, 2, none⟩ = some (.string ys)) (first | go_keep | exact ⟨y1, z0, z1, z2⟩) (first
      | (go_at_call 57; refine (KH.out _).mono ?_
         rintro e w1 ⟨rfl, hb1⟩
         have hbx := bs ((Below.refl w0.heap.size w0).drew) hb1
         have H01 := Lib.hid (carry hbx H0.out)
         have H11 := Lib.hid (carry hbx H1.out)
         have H31 := Lib.hid (carry hbx H3.out)
         have H41 := Lib.hid (carry hbx H4.out)
         have HB1 := Lib.hid (bs HB.out hbx)
         have HX1 := Lib.hid (HXb.out.below hbx)
         have HT1 := Lib.hid (HTb.out.below' hbx)
         have HO1 := Lib.hid (HOb.out.below hbx)
         have hz1 : P + 5 ≤ w1.heap.size := by have := hbx.size; omega
         have y1 : w1.cell? ⟨P, 1, none⟩ = some (.slice (some ⟨ga, 0, none⟩) n c) := (rowc H01.out).1 1
         have z0 : w1.cell? ⟨P + 1, 0, none⟩ = some (.bool yb) := (rowc H11.out).1 0
         have z1 : w1.cell? ⟨P + 1, 1, none⟩ = some (.int .i64 yn) := (rowc H11.out).1 1
         have z2 : w1.cell? ⟨P + 1, 2, none⟩ = some (.string ys) := (rowc H11.out).1 2
         clear hb1 hbx))
    clear z0 z1 z2 y0 hrem H0 H1 H3 H4 HXb HTb HOb HB
    have hcc : w1.cell? ⟨ga, q, none⟩ = some (.int .i64 lk) := cell_stays (fun hl => HB1.out.block _ hl) HCQ.out
    have z9 : w1.cell? ⟨P + 4, 9, none⟩ = some (.int .i64 (-1)) := (rowc H41.out).1 9
    have f4 := (rowc H41.out).2
    go_upto_region 5 with fail
    generalize hw2 : World.setCell w1 _ _ = w2
    have ho2 : ∀ p, p ≠ P + 4 → w2.heap[p]? = w1.heap[p]? := fun p h => by rw [← hw2, set_other h]
    have hs2 : w2.heap.size = w1.heap.size := by rw [← hw2, set_size]
    have H42 : Hid (w2.heap[P + 4]? = some (.cells #[.bool yb, .int .i64 yn, .string ys, .int .i64 k1, .int .i64 n1, .string s1, .int .i64 x1, .slice A1 L1 c1, .bool true, .int .i64 lk] IS (0, 0))) := Lib.hid (by
      rw [← hw2]
      have := set_heap H41.out 9 (.int .i64 lk)
      simpa using this)
    have H02 := Lib.hid ((ho2 P (by omega)).trans H01.out)
    have H12 := Lib.hid ((ho2 (P + 1) (by omega)).trans H11.out)
    have H32 := Lib.hid ((ho2 (P + 3) (by omega)).trans H31.out)
    have HO2 : Hid (imem.OwnI w2 M (some ⟨ga, 0, none⟩) n c l) := Lib.hid (owni_blk HO1.out fun p e => ho2 p (by have h9 : ga = p := (by simpa [Value.ownBlock] using e); have := HGA.out; omega))
    have HX2 := Lib.hid (HX1.out.keep (w' := w2) fun p hp _ => ho2 p (fun e => HNS.out p (by omega) (by omega) hp))
    have HT2 : Hid (TIn w2 (fun q => S q ∧ (Value.slice B m d).ownBlock ≠ some q) (.mk k1 n1 s1 x1 ks1 vs1) (vV k1 n1 s1 x1 A1 vs1.length c1)) := Lib.hid (HT1.out.stays (fun _ h => h) fun p hp _ => ho2 p (fun e => HNS.out p (by omega) (by omega) (.inl hp.1)))
    have HF2 : Hid (Fr (fun q => ((Value.slice (some ⟨ga, 0, none⟩) n c).ownBlock = some q ∨ (Value.slice B m d).ownBlock = some q) ∨ P ≤ q) w w2) := Lib.hid (by
      rw [← hw2]
      exact (Fr.of HB1.out).trans (Fr.set (.inr (by omega)) _ _))
    have y1 : w2.cell? ⟨P, 1, none⟩ = some (.slice (some ⟨ga, 0, none⟩) n c) := (rowc H02.out).1 1
    have y2 : w2.cell? ⟨P, 2, none⟩ = some (.slice B m d) := (rowc H02.out).1 2
    obtain ⟨⟨u, hcu⟩, hfz⟩ := HO2.out.cellk hq
    clear hw2 ho2 z9 f4 hcc H01 H11 H31 H41 HO1 HX1 HT1 HB1
    go_upto_region 6 with fail
    generalize hw3 : World.setCell w2 _ _ = w3
    have ho3 : ∀ p, p ≠ ga → w3.heap[p]? = w2.heap[p]? := fun p h => by rw [← hw3, set_other h]
    have hs3 : w3.heap.size = w2.heap.size := by rw [← hw3, set_size]
    have HOb : Hid (imem.OwnI w3 M (some ⟨ga, 0, none⟩) n c (l.set q m)) := Lib.hid (by rw [← hw3]; exact (HO2.out.set q m).1)
    have hga := HGA.out
    have H0 := Lib.hid ((ho3 P (by omega)).trans H02.out)
    have H1 := Lib.hid ((ho3 (P + 1) (by omega)).trans H12.out)
    have H3 := Lib.hid ((ho3 (P + 3) (by omega)).trans H32.out)
    have H4 := Lib.hid ((ho3 (P + 4) (by omega)).trans H42.out)
    have HXb := Lib.hid (HX2.out.keep (w' := w3) fun p hp _ => ho3 p (fun e => HSS.out p hp (by rw [e]; rfl)))
    have HTb : Hid (TIn w3 (fun q => S q ∧ (Value.slice B m d).ownBlock ≠ some q) (.mk k1 n1 s1 x1 ks1 vs1) (vV k1 n1 s1 x1 A1 vs1.length c1)) := Lib.hid (HT2.out.stays (fun _ h => h) fun p hp _ => ho3 p (fun e => HSS.out p (.inl hp.1) (by rw [e]; rfl)))
    have HFX : Hid (Fr (fun q => ((Value.slice (some ⟨ga, 0, none⟩) n c).ownBlock = some q ∨ (Value.slice B m d).ownBlock = some q) ∨ P ≤ q) w w3) := Lib.hid (by
      rw [← hw3]
      exact HF2.out.trans (Fr.set (.inl (.inl rfl)) _ _))
    have HFR : Hid (Fr (fun q => ((Value.slice (some ⟨ga, 0, none⟩) n c).ownBlock = some q ∨ (Value.slice B m d).ownBlock = some q)) w w3) := Lib.hid ⟨HFX.out.os, HFX.out.tape, HFX.out.output, HFX.out.size, fun p hl hn => HFX.out.block p hl (fun h => by
      rcases h with h | h
      · exact hn h
      · have := HP.out; omega)⟩
    have hz0 : P + 5 ≤ w3.heap.size := by rw [hs3, hs2]; exact hz1
    clear hs2 hs3 hz1 hw3 ho3 y1 y2 hcu hfz H02 H12 H32 H42 HX2 HT2 HO2 HF2 HFX
    have y0 : w3.cell? ⟨P, 0, none⟩ = some (.bool true) := (rowc H0.out).1 0
    have y1 : w3.cell? ⟨P, 1, none⟩ = some (.slice (some ⟨ga, 0, none⟩) n c) := (rowc H0.out).1 1
    have y2 : w3.cell? ⟨P, 2, none⟩ = some (.slice B m d) := (rowc H0.out).1 2
    have y3 : w3.cell? ⟨P, 3, none⟩ = some (.int .i64 x) := (rowc H0.out).1 3
    have y4 : w3.cell? ⟨P, 4, none⟩ = some (.int .i64 k) := (rowc H0.out).1 4
    have z0 : w3.cell? ⟨P + 4, 0, none⟩ = some (.bool yb) := (rowc H4.out).1 0
    have z1 : w3.cell? ⟨P + 4, 1, none⟩ = some (.int .i64 yn) := (rowc H4.out).1 1
    have z2 : w3.cell? ⟨P + 4, 2, none⟩ = some (.string ys) := (rowc H4.out).1 2
    have z3 : w3.cell? ⟨P + 4, 3, none⟩ = some (.int .i64 k1) := (rowc H4.out).1 3
    have z4 : w3.cell? ⟨P + 4, 4, none⟩ = some (.int .i64 n1) := (rowc H4.out).1 4
    have z5 : w3.cell? ⟨P + 4, 5, none⟩ = some (.string s1) := (rowc H4.out).1 5
    have z6 : w3.cell? ⟨P + 4, 6, none⟩ = some (.int .i64 x1) := (rowc H4.out).1 6
    have z7 : w3.cell? ⟨P + 4, 7, none⟩ = some (.slice A1 L1 c1) := (rowc H4.out).1 7
    have z8 : w3.cell? ⟨P + 4, 8, none⟩ = some (.bool true) := (rowc H4.out).1 8
    have z9 : w3.cell? ⟨P + 4, 9, none⟩ = some (.int .i64 lk) := (rowc H4.out).1 9
    have HOW : Hid (∀ o, (w3.alloc o).ownsRow lo IS 10 (.slice B m d) m xs) := Lib.hid (fun o => by
      have := World.ownsRow.alloc HXb.out.1 o
      rwa [HLEN.out] at this)
    have y2a : ∀ o, (w3.alloc o).cell? ⟨P, 2, none⟩ = some (.slice B m d) := fun o => (rowc (keepAlloc H0.out)).1 2
    go_upto_region 7 with (first
      | (at_builtin; refine wpList_append_own_at _ rfl _ _ 25 rfl lo IS i0 _ 10 112 Tryz.underlying25 HII.out HZZ.out.1 HZZ.out.2.1 HZZ.out.2.2 rfl (by decide) _ m xs rfl (HOW.out _) ⟨w3.heap.size, 0, none⟩ 1 1 [.bool yb, .int .i64 yn, .string ys, .int .i64 k1, .int .i64 n1, .string s1, .int .i64 x1, .slice A1 L1 c1, .bool true, .int .i64 lk] rfl rfl (ten_new w3 _ _ _ _ _ _ _ _ _ _ _) (ten_one _ _ _ _ _ _ _ _ _ _ _ _) (by unfold maxLen; omega) (by omega) (by simp; omega) ?_
         intro v' w7 hown hgrow0 hnil hat0
         have hgrow : (w3.alloc (Obj.cells #[.bool yb, .int .i64 yn, .string ys, .int .i64 k1, .int .i64 n1, .string s1, .int .i64 x1, .slice A1 L1 c1, .bool true, .int .i64 lk] IS)).grownBy w7 (Value.slice B m d).ownBlock := hgrow0
         have hat : v'.ownBlock = (Value.slice B m d).ownBlock ∨ v'.ownBlock = some (w3.alloc (Obj.cells #[.bool yb, .int .i64 yn, .string ys, .int .i64 k1, .int .i64 n1, .string s1, .int .i64 x1, .slice A1 L1 c1, .bool true, .int .i64 lk] IS)).heap.size := hat0
         have HOX : Hid (w7.ownsRow lo IS 10 v' (m + 1) (xs ++ [.bool yb, .int .i64 yn, .string ys, .int .i64 k1, .int .i64 n1, .string s1, .int .i64 x1, .slice A1 L1 c1, .bool true, .int .i64 lk])) := Lib.hid hown
         have HGX := Lib.hid hgrow
         have HAT : Hid (v'.ownBlock = (Value.slice B m d).ownBlock ∨ v'.ownBlock = some (w3.heap.size + 1)) := Lib.hid (by simpa using hat)
         obtain ⟨g3, c3, rfl⟩ : ∃ g3 c3, v' = .slice (some ⟨g3, 0, none⟩) (m + 1) c3 := by
           rcases hown.2 with ⟨-, h⟩ | ⟨g, cap, cur, h, -⟩
           · omega
           · exact ⟨g, cap, h⟩
         have hsz : w3.heap.size + 1 ≤ w7.heap.size := by have := hgrow.size; simpa using this
         have hnP : ∀ q, P ≤ q → q < w3.heap.size + 1 → w7.heap[q]? = (w3.alloc (Obj.cells #[.bool yb, .int .i64 yn, .string ys, .int .i64 k1, .int .i64 n1, .string s1, .int .i64 x1, .slice A1 L1 c1, .bool true, .int .i64 lk] IS)).heap[q]? := fun q h1 h2 => hgrow.block q (by simp; exact h2) (fun e => by have := (HBB.out q e.symm).2; omega)
         have H07 := Lib.hid ((hnP P (Nat.le_refl _) (by omega)).trans (keepAlloc H0.out))
         have H17 := Lib.hid ((hnP (P + 1) (by omega) (by omega)).trans (keepAlloc H1.out))
         have H37 := Lib.hid ((hnP (P + 3) (by omega) (by omega)).trans (keepAlloc H3.out))
         have HFR7 : Hid (Fr (fun q => ((Value.slice (some ⟨ga, 0, none⟩) n c).ownBlock = some q ∨ (Value.slice B m d).ownBlock = some q)) w w7) := Lib.hid (HFR.out.trans ((Fr.of (b1 w3 _)).trans ⟨hgrow.os, hgrow.tape, hgrow.output, hgrow.size, fun q hl hn => hgrow.block q hl (fun e => hn (.inr e.symm))⟩))
         have HO7 : Hid (imem.OwnI w7 M (some ⟨ga, 0, none⟩) n c (l.set q m)) := Lib.hid (owni_blk HOb.out fun q e => (hgrow.block q (by have := (HOb.out.block q e).2; simp; omega) (fun e2 => HSS.out q (.inr e2.symm) e)).trans ((b1 w3 _).block q (HOb.out.block q e).2))
         have hst : SRs w7 lo S (.slice (some ⟨g3, 0, none⟩) (m + 1) c3) (sl ++ [⟨⟨yb, yn, ys⟩, .mk k1 n1 s1 x1 ks1 vs1, true, lk⟩]) := by
           refine (HXb.out.below (b1 w3 (Obj.cells #[.bool yb, .int .i64 yn, .string ys, .int .i64 k1, .int .i64 n1, .string s1, .int .i64 x1, .slice A1 L1 c1, .bool true, .int .i64 lk] IS))).more (t := ⟨⟨yb, yn, ys⟩, .mk k1 n1 s1 x1 ks1 vs1, true, lk⟩) rfl HYB.out HLK.out (HTb.out.below' (b1 w3 _)) ?_ hgrow (hat.imp id fun h => ⟨_, h, Nat.le_refl _⟩)
           rw [HLEN.out, HL1.out]
           exact hown
         have HST := Lib.hid hst
         obtain ⟨t7, f7⟩ := rowc H07.out
         clear hown hgrow hgrow0 hnil hat hat0 hnP hst)
      | fail)
    generalize hw8 : World.setCell w7 _ _ = w8
    have H08 : Hid (w8.heap[P]? = some (.cells #[.bool true, .slice (some ⟨ga, 0, none⟩) n c, .slice (some ⟨g3, 0, none⟩) (m + 1) c3, .int .i64 x, .int .i64 k] IT (0, 0))) := Lib.hid (by
      rw [← hw8]
      have := set_heap H07.out 2 (.slice (some ⟨g3, 0, none⟩) (m + 1) c3)
      simpa using this)
    have ho8 : ∀ q, q ≠ P → w8.heap[q]? = w7.heap[q]? := fun q h => by rw [← hw8, set_other h]
    have hs8 : w8.heap.size = w7.heap.size := by rw [← hw8, set_size]
    have HO8 := Lib.hid ho8
    have HFR8 : Hid (Fr (fun q => ((Value.slice (some ⟨ga, 0, none⟩) n c).ownBlock = some q ∨ (Value.slice B m d).ownBlock = some q) ∨ P ≤ q) w w8) := Lib.hid (by
      rw [← hw8]
      exact (HFR7.out.mono fun q h => .inl h).trans (Fr.set (.inr (Nat.le_refl _)) _ _))
    clear hw8 ho8 t7 f7 y0 y1 y2 y3 y4 z0 z1 z2 z3 z4 z5 z6 z7 z8 z9 y2a
    have y4 : w8.cell? ⟨P, 4, none⟩ = some (.int .i64 k) := (rowc H08.out).1 4
    have f8 := (rowc H08.out).2
    have H18 := Lib.hid ((HO8.out (P + 1) (by omega)).trans H17.out)
    have z0 : w8.cell? ⟨P + 1, 0, none⟩ = some (.bool yb) := (rowc H18.out).1 0
    go_upto_region 8 with fail
    generalize hw9 : World.setCell w8 _ _ = w9
    have H09 : Hid (w9.heap[P]? = some (.cells #[.bool true, .slice (some ⟨ga, 0, none⟩) n c, .slice (some ⟨g3, 0, none⟩) (m + 1) c3, .int .i64 x, .int .i64 (k + 1)] IT (0, 0))) := Lib.hid (by
      rw [← hw9]
      have := set_heap H08.out 4 (.int .i64 (k + 1))
      simpa using this)
    have HO9 : Hid (∀ q, q ≠ P → w9.heap[q]? = w7.heap[q]?) := Lib.hid (fun q h => by rw [← hw9, set_other h]; exact HO8.out q h)
    have hs9 : w9.heap.size = w7.heap.size := by rw [← hw9, set_size, hs8]
    have HFR9 : Hid (Fr (fun q => ((Value.slice (some ⟨ga, 0, none⟩) n c).ownBlock = some q ∨ (Value.slice B m d).ownBlock = some q) ∨ P ≤ q) w w9) := Lib.hid (by
      rw [← hw9]
      exact HFR8.out.trans (Fr.set (.inr (Nat.le_refl _)) _ _))
    have H19 := Lib.hid ((HO9.out (P + 1) (by omega)).trans H17.out)
    have H39 := Lib.hid ((HO9.out (P + 3) (by omega)).trans H37.out)
    clear hw9 y4 f8 HO8 H08 z0 H18
    have FIN : Hid (∀ (wF : World) (xx : Int), (∀ q, q < P → wF.heap[q]? = w7.heap[q]?) → w7.heap.size ≤ wF.heap.size → (∀ q, P + 5 ≤ q → q < w7.heap.size → wF.heap[q]? = w7.heap[q]?) → Fr (fun q => ((Value.slice (some ⟨ga, 0, none⟩) n c).ownBlock = some q ∨ (Value.slice B m d).ownBlock = some q) ∨ P ≤ q) w wF → psX x ⟨yb, yn, ys⟩ = xx → Pu7Q w M lo S true l sl (some ⟨ga, 0, none⟩) n c B m d x k ⟨yb, yn, ys⟩ (.mk k1 n1 s1 x1 ks1 vs1) (.returned (tbV true (some ⟨ga, 0, none⟩) n c (some ⟨g3, 0, none⟩) (m + 1) c3 xx (k + 1))) wF) := Lib.hid (fun wF xx h1 h2 h3 h4 h5 => by
      have hpp := HP.out
      refine ⟨some ⟨g3, 0, none⟩, c3, by rw [h5], ?_, ?_, ?_, ?_⟩
      · rw [HPH.out]
        exact owni_blk HO7.out fun q e => h1 q (HA.out q e)
      · rw [HPS.out]
        refine SRs.keep (w := w7) HST.out fun q hq hl => ?_
        rcases Nat.lt_or_ge q P with h | h
        · exact h1 q h
        · rcases Nat.lt_or_ge q (P + 5) with h' | h'
          · exfalso
            rcases hq with hq | hq
            · exact HNS.out q h h' (.inl hq)
            · rcases HAT.out with h9 | h9
              · exact HNS.out q h h' (.inr (h9 ▸ hq))
              · rw [h9] at hq; injection hq with hq; omega
          · exact h3 q h' hl
      · exact ⟨h4.os, h4.tape, h4.output, h4.size, fun q hl hn => h4.block q hl (fun hh => by rcases hh with hh | hh; exact hn hh; omega)⟩
      · rcases HAT.out with h | h
        · exact .inl h
        · exact .inr ⟨_, h, by omega⟩)
    have z0 : w9.cell? ⟨P + 1, 0, none⟩ = some (.bool yb) := (rowc H19.out).1 0
    have z1 : w9.cell? ⟨P + 1, 1, none⟩ = some (.int .i64 yn) := (rowc H19.out).1 1
    cases yb with
    | true =>
      have y0 : w9.cell? ⟨P, 0, none⟩ = some (.bool true) := (rowc H09.out).1 0
      have y1 : w9.cell? ⟨P, 1, none⟩ = some (.slice (some ⟨ga, 0, none⟩) n c) := (rowc H09.out).1 1
      have y2 : w9.cell? ⟨P, 2, none⟩ = some (.slice (some ⟨g3, 0, none⟩) (m + 1) c3) := (rowc H09.out).1 2
      have y3 : w9.cell? ⟨P, 3, none⟩ = some (.int .i64 x) := (rowc H09.out).1 3
      have y4 : w9.cell? ⟨P, 4, none⟩ = some (.int .i64 (k + 1)) := (rowc H09.out).1 4
      obtain ⟨r1, f1⟩ := rowc H39.out
      have v0 := r1 0; have v1 := r1 1; have v2 := r1 2; have v3 := r1 3; have v4 := r1 4
      simp at v0 v1 v2 v3 v4
      clear r1
      go_wp2_with (fail)
      generalize hwF : World.setCell (World.setCell (World.setCell (World.setCell (World.setCell w9 _ _) _ _) _ _) _ _) _ _ = wF
      obtain ⟨rF, oF, bF⟩ := fill5t H39.out hwF
      have hzF : wF.heap.size = w9.heap.size := by rw [← hwF]; simp []
      have HFF : Fr (fun q => ((Value.slice (some ⟨ga, 0, none⟩) n c).ownBlock = some q ∨ (Value.slice B m d).ownBlock = some q) ∨ P ≤ q) w wF := by
        rw [← hwF]
        exact ((((HFR9.out.trans (Fr.set (Or.inr (by omega)) _ _)).trans (Fr.set (Or.inr (by omega)) _ _)).trans (Fr.set (Or.inr (by omega)) _ _)).trans (Fr.set (Or.inr (by omega)) _ _)).trans (Fr.set (Or.inr (by omega)) _ _)
      clear hwF
      refine bodyPost_ret (v := tbV true (some ⟨ga, 0, none⟩) n c (some ⟨g3, 0, none⟩) (m + 1) c3 x (k + 1)) (by simp [results, Tryz.results131, go_sem, rF, tbV]) rfl ?_
      exact FIN.out wF x (fun q h => (oF q (by omega)).trans (HO9.out q (by omega))) (by rw [hzF, hs9]; exact Nat.le_refl _) (fun q h hl => (oF q (by omega)).trans (HO9.out q (by omega))) HFF rfl
    | false =>
      have y3 : w9.cell? ⟨P, 3, none⟩ = some (.int .i64 x) := (rowc H09.out).1 3
      have hmx : -1000000000000 ≤ nums.mx x (yn + 1) ∧ nums.mx x (yn + 1) ≤ 1000000000000 := by unfold nums.mx; split <;> omega
      have hwy : IntKind.i64.wrap (yn + 1) = yn + 1 := by rw [IntKind.wrap_i64]; omega
      obtain ⟨X, HX2⟩ : ∃ q, Hid (nums.mx x (yn + 1) = q) := ⟨_, Lib.hid rfl⟩
      rw [HX2.out] at MX hmx
      have MX2 := Lib.hid MX
      have f9 := (rowc H09.out).2
      clear MX
      go_wp2_with (fail)
      refine (MX2.out _).mono ?_
      rintro e w10 ⟨rfl, hw10⟩
      subst hw10
      go_upto_region 10 with fail
      generalize hw11 : World.setCell w9 _ _ = w11
      have H011 : Hid (w11.heap[P]? = some (.cells #[.bool true, .slice (some ⟨ga, 0, none⟩) n c, .slice (some ⟨g3, 0, none⟩) (m + 1) c3, .int .i64 X, .int .i64 (k + 1)] IT (0, 0))) := Lib.hid (by
        rw [← hw11]
        have := set_heap H09.out 3 (.int .i64 X)
        simpa using this)
      have HO11 : Hid (∀ q, q ≠ P → w11.heap[q]? = w7.heap[q]?) := Lib.hid (fun q h => by rw [← hw11, set_other h]; exact HO9.out q h)
      have hs11 : w11.heap.size = w7.heap.size := by rw [← hw11, set_size, hs9]
      have HFR11 : Hid (Fr (fun q => ((Value.slice (some ⟨ga, 0, none⟩) n c).ownBlock = some q ∨ (Value.slice B m d).ownBlock = some q) ∨ P ≤ q) w w11) := Lib.hid (by
        rw [← hw11]
        exact HFR9.out.trans (Fr.set (.inr (Nat.le_refl _)) _ _))
      have H311 := Lib.hid ((HO11.out (P + 3) (by omega)).trans H37.out)
      clear hw11 y3 f9 z0 z1 H09 H19 H39 HFR9
      have y0 : w11.cell? ⟨P, 0, none⟩ = some (.bool true) := (rowc H011.out).1 0
      have y1 : w11.cell? ⟨P, 1, none⟩ = some (.slice (some ⟨ga, 0, none⟩) n c) := (rowc H011.out).1 1
      have y2 : w11.cell? ⟨P, 2, none⟩ = some (.slice (some ⟨g3, 0, none⟩) (m + 1) c3) := (rowc H011.out).1 2
      have y3 : w11.cell? ⟨P, 3, none⟩ = some (.int .i64 X) := (rowc H011.out).1 3
      have y4 : w11.cell? ⟨P, 4, none⟩ = some (.int .i64 (k + 1)) := (rowc H011.out).1 4
      obtain ⟨r1, f1⟩ := rowc H311.out
      have v0 := r1 0; have v1 := r1 1; have v2 := r1 2; have v3 := r1 3; have v4 := r1 4
      simp at v0 v1 v2 v3 v4
      clear r1
      go_wp2_with (fail)
      generalize hwF : World.setCell (World.setCell (World.setCell (World.setCell (World.setCell w11 _ _) _ _) _ _) _ _) _ _ = wF
      obtain ⟨rF, oF, bF⟩ := fill5t H311.out hwF
      have hzF : wF.heap.size = w11.heap.size := by rw [← hwF]; simp []
      have HFF : Fr (fun q => ((Value.slice (some ⟨ga, 0, none⟩) n c).ownBlock = some q ∨ (Value.slice B m d).ownBlock = some q) ∨ P ≤ q) w wF := by
        rw [← hwF]
        exact ((((HFR11.out.trans (Fr.set (Or.inr (by omega)) _ _)).trans (Fr.set (Or.inr (by omega)) _ _)).trans (Fr.set (Or.inr (by omega)) _ _)).trans (Fr.set (Or.inr (by omega)) _ _)).trans (Fr.set (Or.inr (by omega)) _ _)
      clear hwF
      refine bodyPost_ret (v := tbV true (some ⟨ga, 0, none⟩) n c (some ⟨g3, 0, none⟩) (m + 1) c3 X (k + 1)) (by simp [results, Tryz.results131, go_sem, rF, tbV]) rfl ?_
      exact FIN.out wF X (fun q h => (oF q (by omega)).trans (HO11.out q (by omega))) (by rw [hzF, hs11]; exact Nat.le_refl _) (fun q h hl => (oF q (by omega)).trans (HO11.out q (by omega))) HFF (by unfold psX; rw [if_neg (by simp)]; exact HX2.out)

end Go.Proofs.YtdgfpfkhcojgaaaGreatDoor.tree

