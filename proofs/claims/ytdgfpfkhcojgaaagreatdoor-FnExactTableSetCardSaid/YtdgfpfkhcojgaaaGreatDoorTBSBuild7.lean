/-
  A table built anew, of the model.
  Conditions: those that each theorem names.
-/
import Derived.Test.YtdgfpfkhcojgaaaGreatDoorTBSPush7b
import Derived.Test.YtdgfpfkhcojgaaaGreatDoorTBSRbT
namespace Go.Proofs.YtdgfpfkhcojgaaaGreatDoor.tree
open Go.ChangeShapes Go.WideShapes Go.ChangeAt Go.RowKit
set_option linter.unusedVariables false

def Bu7Q (w : World) (S : Nat → Prop) (n : Nat) (rs : List Sl) (x : Int) (e : Ending) (w' : World) : Prop :=
  ∃ A' c' B' d', e = .returned (tbV true A' n c' B' rs.length d' x (rs.length : Int)) ∧ imem.OwnI w' w.heap.size A' n c' (hsA n rs) ∧ SRs w' w.heap.size (fun q => S q ∧ q < w.heap.size) (.slice B' rs.length d') rs ∧ Below w.heap.size w w' ∧ ∀ q, (Value.slice B' rs.length d').ownBlock = some q → (Value.slice A' n c').ownBlock ≠ some q

set_option maxRecDepth 100000 in
set_option maxHeartbeats 8000000 in
theorem l7Build_s {S : Nat → Prop} {b : Bool} {l : List Int} {sl : List Sl} {A : Option Addr} {n c : Nat} {B : Option Addr} {m d : Nat} {x k : Int} (w : World) (hs : SIn w S sl B) (hlm : sl.length = m) (hm : m ≤ 1048576) (hx : 0 ≤ x ∧ x ≤ 1000000001) (hrow : rowS x sl) (hst : SlB sl) (N : Nat) (hN0 : 0 < N) (hN1 : N ≤ 1024) (hNm : m ≤ 1000000) :
    Calls Tryz.prog 129 #[tbV b A n c B m d x k, .int .i64 N] w (Bu7Q w S N (rbS N sl) x) := by
  obtain ⟨P, HP⟩ : ∃ P, Hid (w.heap.size = P) := ⟨_, Lib.hid rfl⟩
  obtain ⟨i1, hi1, hz10, hz11, hz12⟩ := int_info8
  have HS := Lib.hid hs.both
  have HRS := Lib.hid hrow
  have HST := Lib.hid hst
  have HLM := Lib.hid hlm
  clear hs hrow hst
  go_enter Tryz.func129, Tryz.ntmps129
  go_upto_region 2 with fail
  rw [HP.out]
  generalize hw0 : ((w.alloc (.cells #[.bool b, .slice A n c, .slice B m d, .int .i64 x, .int .i64 k] IT)).alloc (.cells #[.bool false, .slice none 0 0, .slice none 0 0, .int .i64 0, .int .i64 0] IT)).alloc (.cells #[.bool true, .slice none 0 0, .slice none 0 0, .int .i64 x, .int .i64 0] IT) = w0
  obtain ⟨a0, a1, a2, az, ab⟩ := al3t w _ _ _ _ _ _ w0 hw0
  rw [HP.out] at a0 a1 a2 az
  have H0 := Lib.hid a0
  have H1 := Lib.hid a1
  have H2 := Lib.hid a2
  have HB := Lib.hid ab
  have hz0 : P + 3 ≤ w0.heap.size := by omega
  clear hw0 a0 a1 a2 az ab
  go_wp2_with (fail)
  go_loopg [6] (N + 1) (fun gk i wr => ∃ (j : Nat) (A1 : Option Addr) (c1 : Nat), i = .int .i64 j ∧ gk + j = N + 1 ∧ j ≤ N ∧ Hid (wr.heap[P]? = some (.cells #[.bool b, .slice A n c, .slice B m d, .int .i64 x, .int .i64 k] IT (0, 0))) ∧ Hid (wr.heap[P + 1]? = some (.cells #[.bool false, .slice none 0 0, .slice none 0 0, .int .i64 0, .int .i64 0] IT (0, 0))) ∧ Hid (wr.heap[P + 2]? = some (.cells #[.bool true, .slice A1 j c1, .slice none 0 0, .int .i64 x, .int .i64 0] IT (0, 0))) ∧ Hid (imem.OwnI wr (P + 3) A1 j c1 (List.replicate j (-1))) ∧ Hid (Below w.heap.size w wr) ∧ Hid (P + 3 ≤ wr.heap.size))
  case atStart => exact ⟨0, none, 0, rfl, by omega, by omega, H0, H1, H2, Lib.hid ⟨rfl, World.ownsRow_nil _ _ _ 1⟩, HB, Lib.hid hz0⟩
  case round =>
    clear H0 H1 H2 HB hz0
    obtain ⟨j, A1, c1, rfl, hgj, hjN, H0, H1, H2, HO, HB, HZ⟩ := hrel
    by_cases hlt : j < N
    · have y1 : wr.cell? ⟨P + 2, 1, none⟩ = some (.slice A1 j c1) := (rowc H2.out).1 1
      have y1a : ∀ o, (wr.alloc o).cell? ⟨P + 2, 1, none⟩ = some (.slice A1 j c1) := fun o => (rowc (keepAlloc H2.out)).1 1
      go_upto_region 4 with (first
       | (at_builtin; refine imem.append_rdi rfl (.tmp 17) (.tmp 18) 24 rfl i1 Tryz.underlying24 hi1 hz10 hz11 hz12 (P + 3) _ _ _ _ rfl (HO.out.alloc _) _ 1 1 [-1] rfl (imem.rdi_one _ _ _) (by omega) (by have := HZ.out; simp; omega) ?_
          intro A2 c2 w2 ho hb hg
          have HO2 : Hid (imem.OwnI w2 (P + 3) A2 (j + 1) c2 (List.replicate (j + 1) (-1))) := Lib.hid (by rw [List.replicate_succ']; exact ho)
          have hbk : ∀ q, q < P + 3 → w2.heap[q]? = wr.heap[q]? := fun q hq => (hb.block q hq).trans ((b1 wr _).block q (by have := HZ.out; omega))
          have H02 := Lib.hid ((hbk P (by omega)).trans H0.out)
          have H12 := Lib.hid ((hbk (P + 1) (by omega)).trans H1.out)
          have H22 := Lib.hid ((hbk (P + 2) (by omega)).trans H2.out)
          have HB2 : Hid (Below w.heap.size w w2) := Lib.hid ((HB.out.alloc HB.out.size _).trans (hb.mono (by rw [HP.out]; omega)))
          have HZ2 : Hid (P + 3 ≤ w2.heap.size) := Lib.hid (by have h1 := hb.size; have h2 := HZ.out; simp at h1; omega)
          have y1 : w2.cell? ⟨P + 2, 1, none⟩ = some (.slice A1 j c1) := (rowc H22.out).1 1
          have f2 := (rowc H22.out).2
          clear ho hb hg hbk)
       | fail)
      generalize hw3 : World.setCell w2 _ _ = w3
      have ho3 : ∀ q, q ≠ P + 2 → w3.heap[q]? = w2.heap[q]? := fun q h => by rw [← hw3, set_other h]
      have H03 := Lib.hid ((ho3 P (by omega)).trans H02.out)
      have H13 := Lib.hid ((ho3 (P + 1) (by omega)).trans H12.out)
      have H23 : Hid (w3.heap[P + 2]? = some (.cells #[.bool true, .slice A2 (j + 1) c2, .slice none 0 0, .int .i64 x, .int .i64 0] IT (0, 0))) := Lib.hid (by
        rw [← hw3]
        have := set_heap H22.out 1 (.slice A2 (j + 1) c2)
        simpa using this)
      have HO3 := Lib.hid (owni_blk HO2.out fun q e => ho3 q (by have := (HO2.out.block q e).1; omega))
      have HB3 : Hid (Below w.heap.size w w3) := Lib.hid (by rw [← hw3]; exact HB2.out.setCell (show w.heap.size ≤ P + 2 by rw [HP.out]; omega) _)
      have HZ3 : Hid (P + 3 ≤ w3.heap.size) := Lib.hid (by rw [← hw3, set_size]; exact HZ2.out)
      clear hw3 ho3 y1 y1a f2
      go_wp2_with (fail)
      go_roundg (N - j)
      case rel => exact ⟨j + 1, A2, c2, by go_num, by omega, by omega, H03, H13, H23, HO3, HB3, HZ3⟩
      case measure => omega
    · obtain rfl : j = N := by omega
      have HA1 : Hid (∀ q, (Value.slice A1 j c1).ownBlock = some q → P + 3 ≤ q) := Lib.hid (fun q e => (HO.out.block q e).1)
      have HOh : Hid (imem.OwnI wr (P + 3) A1 j c1 (hsA j (rbS j (sl.take 0)))) := Lib.hid HO.out
      have HR0 : Hid (SRs wr (P + 3) (fun q => S q ∧ q < P) (.slice none 0 0) (rbS j (sl.take 0))) := Lib.hid (SRs.nil _ _ _)
      have q2 : wr.cell? ⟨P, 2, none⟩ = some (.slice B m d) := (rowc H0.out).1 2
      clear HO
      go_wp2_with (fail)
      go_loopg [7] (m + 1) (fun gk i wr => ∃ (i0 : Nat) (B' : Option Addr) (m' d' : Nat), i = .int .i64 i0 ∧ gk + i0 = m + 1 ∧ i0 ≤ m ∧ m' ≤ i0 ∧ Hid ((rbS j (sl.take i0)).length = m') ∧ Hid (wr.heap[P]? = some (.cells #[.bool b, .slice A n c, .slice B m d, .int .i64 x, .int .i64 k] IT (0, 0))) ∧ Hid (wr.heap[P + 1]? = some (.cells #[.bool false, .slice none 0 0, .slice none 0 0, .int .i64 0, .int .i64 0] IT (0, 0))) ∧ Hid (wr.heap[P + 2]? = some (.cells #[.bool true, .slice A1 j c1, .slice B' m' d', .int .i64 x, .int .i64 (m' : Int)] IT (0, 0))) ∧
        Hid (imem.OwnI wr (P + 3) A1 j c1 (hsA j (rbS j (sl.take i0)))) ∧ Hid (SRs wr (P + 3) (fun q => S q ∧ q < P) (.slice B' m' d') (rbS j (sl.take i0))) ∧ Hid (∀ q, (Value.slice B' m' d').ownBlock = some q → (Value.slice A1 j c1).ownBlock ≠ some q) ∧ Hid (Below w.heap.size w wr) ∧ Hid (P + 3 ≤ wr.heap.size))
      case atStart => exact ⟨0, none, 0, 0, rfl, by omega, by omega, by omega, Lib.hid rfl, H0, H1, H2, HOh, HR0, Lib.hid (fun q e => by simp [Value.ownBlock] at e), HB, HZ⟩
      case round =>
        clear H0 H1 H2 HOh HR0 HB HZ q2
        obtain ⟨i0, B', m', d', rfl, hgi, him, hmi, HL, H0, H1, H2, HO, HR, HAB, HB, HZ⟩ := hrel
        have q2 : wr.cell? ⟨P, 2, none⟩ = some (.slice B m d) := (rowc H0.out).1 2
        by_cases hlt : i0 < m
        · obtain ⟨t, htj⟩ : ∃ t, sl[i0]? = some t := ⟨_, List.getElem?_eq_getElem (by have := HLM.out; omega)⟩
          obtain ⟨a, k1, n1, s1, x1, ks1, vs1, A2, c2, rfl, -, hyb, hlb, hv, hT, hcell⟩ := HS.out i0 t htj
          have hc10 := hcell.stays (w' := wr) (fun hl => HB.out.block _ hl)
          obtain ⟨hso, -, -⟩ := HRS.out i0 t htj
          have hsz := HST.out.1 i0 t htj
          have HTK := Lib.hid (rbS_take (n := j) htj)
          obtain ⟨⟨yb, yn, ys⟩, tv, tb, tl⟩ := t
          simp only at hyb hlb hv hT hc10 hso hsz HTK
          subst hv
          obtain ⟨L1, HL1⟩ : ∃ L, Hid (vs1.length = L) := ⟨_, Lib.hid rfl⟩
          rw [HL1.out] at hc10
          rw [Bool.and_eq_true] at hso
          have HPX : Hid (psX x ⟨yb, yn, ys⟩ = x) := Lib.hid (psX_same hso.2)
          have HYL : Hid (-1000000000 ≤ yn ∧ yn ≤ 1000000000) := Lib.hid (by
            cases yb with
            | false => exact keyB_lim hso.1 rfl
            | true =>
              have := hso.1
              unfold keyB at this
              simp at this
              omega)
          have HT := Lib.hid hT
          have HSZ := Lib.hid hsz
          obtain ⟨p0, p1, p2, p3, p4, p5, p6, p7, p8, p9⟩ := hc10
          simp only at p0 p1 p2 p8 p9
          clear hyb hlb hT hcell htj hso hsz
          cases tb with
          | false =>
            go_wp2_with (fail)
            go_roundg (m - i0)
            case rel => exact ⟨i0 + 1, B', m', d', by go_num, by omega, by omega, by omega, by rw [HTK.out]; exact HL, H0, H1, H2, by rw [HTK.out]; exact HO, by rw [HTK.out]; exact HR, HAB, HB, HZ⟩
            case measure => omega
          | true =>
            have hsP := HP.out
            have PU : Hid (∀ w', Below wr.heap.size wr w' → Calls Tryz.prog 131 #[.agg #[.bool true, .slice A1 j c1, .slice B' m' d', .int .i64 x, .int .i64 (m' : Int)], .agg #[.bool yb, .int .i64 yn, .string ys], vV k1 n1 s1 x1 A2 L1 c2] w' (Pu7Q w' (P + 3) (P + 3) (fun q => S q ∧ q < P) true (hsA j (rbS j (sl.take i0))) (rbS j (sl.take i0)) A1 j c1 B' m' d' x (m' : Int) ⟨yb, yn, ys⟩ (.mk k1 n1 s1 x1 ks1 vs1))) := Lib.hid (fun w' hb' => by
              have hrw := HR.out.below hb'
              have h9 := l7Push_s (M := P + 3) (lo := P + 3) (S := fun q => S q ∧ q < P) (b := true) (x := x) (k := (m' : Int)) w' (fun _ => hN0) (fun h => by cases h) (HO.out.below hb') hrw HL.out (fun q hq e => by
                rcases hq with hq | hq
                · have := HA1.out q e; omega
                · exact HAB.out q hq e) (fun q hq => by have h1 := HB.out.size; have h2 := hb'.size; omega) (by have h1 := HZ.out; have h2 := hb'.size; omega) (by omega) (by omega) ⟨by omega, by omega⟩ ⟨by omega, by omega⟩ (fun v hv => by have := hs_bd j (rbS j (sl.take i0)) _ v hv; have := HL.out; omega) ⟨yb, yn, ys⟩ HYL.out HSZ.out (k1 := k1) (n1 := n1) (x1 := x1) (s1 := s1) (ks1 := ks1) (vs1 := vs1) (A1 := A2) (c1 := c2)
                ((HT.out.stays (S' := fun q => (S q ∧ q < P) ∧ (Value.slice B' m' d').ownBlock ≠ some q) (fun q hq => ⟨⟨hq.1, by have := hq.2; omega⟩, fun e => by have := (HR.out.block q e).1; have := hq.2; omega⟩) (fun q hq hl => (bs HB.out hb').block q hl)))
              rw [HL1.out] at h9
              unfold kyV tbV at h9
              exact h9)
            have y0 : wr.cell? ⟨P + 2, 0, none⟩ = some (.bool true) := (rowc H2.out).1 0
            have y1 : wr.cell? ⟨P + 2, 1, none⟩ = some (.slice A1 j c1) := (rowc H2.out).1 1
            have y2 : wr.cell? ⟨P + 2, 2, none⟩ = some (.slice B' m' d') := (rowc H2.out).1 2
            have y3 : wr.cell? ⟨P + 2, 3, none⟩ = some (.int .i64 x) := (rowc H2.out).1 3
            have y4 : wr.cell? ⟨P + 2, 4, none⟩ = some (.int .i64 (m' : Int)) := (rowc H2.out).1 4
            have hA := HA1.out
            go_wp2_with (fail)
            go_region_with (first
              | (go_at_call 131; refine (PU.out _ (by first | exact Below.refl _ _ | exact (Below.refl _ _).drew)).mono ?_
                 rintro e w5 ⟨B2, d2, rfl, ho5, hs5, hf5, hat5⟩
                 have HF5 : Hid (Fr (fun q => (Value.slice A1 j c1).ownBlock = some q ∨ (Value.slice B' m' d').ownBlock = some q) wr w5) := Lib.hid (by first | exact hf5 | exact ⟨hf5.os, hf5.tape, hf5.output, hf5.size, hf5.block⟩ | exact (Fr.of ((Below.refl _ wr).drew)).trans hf5)
                 have hk5 : ∀ q, q < P + 3 → w5.heap[q]? = wr.heap[q]? := fun q hq => HF5.out.block q (by have := HZ.out; omega) (fun h => by
                   rcases h with h | h
                   · have := hA q h; omega
                   · have := (HR.out.block q h).1; omega)
                 have H05 := Lib.hid ((hk5 P (by omega)).trans H0.out)
                 have H15 := Lib.hid ((hk5 (P + 1) (by omega)).trans H1.out)
                 have H25 := Lib.hid ((hk5 (P + 2) (by omega)).trans H2.out)
                 have HO5 := Lib.hid ho5
                 have HS5 := Lib.hid hs5
                 have HAT5 : Hid ((Value.slice B2 (m' + 1) d2).ownBlock = (Value.slice B' m' d').ownBlock ∨ ∃ g, (Value.slice B2 (m' + 1) d2).ownBlock = some g ∧ wr.heap.size ≤ g) := Lib.hid hat5
                 have y0 : w5.cell? ⟨P + 2, 0, none⟩ = some (.bool true) := (rowc H25.out).1 0
                 have y1 : w5.cell? ⟨P + 2, 1, none⟩ = some (.slice A1 j c1) := (rowc H25.out).1 1
                 have y2 : w5.cell? ⟨P + 2, 2, none⟩ = some (.slice B' m' d') := (rowc H25.out).1 2
                 have y3 : w5.cell? ⟨P + 2, 3, none⟩ = some (.int .i64 x) := (rowc H25.out).1 3
                 have y4 : w5.cell? ⟨P + 2, 4, none⟩ = some (.int .i64 (m' : Int)) := (rowc H25.out).1 4
                 have f5 := (rowc H25.out).2
                 clear ho5 hs5 hf5 hat5 hk5))
            all_goals
              generalize hw6 : World.setCell (World.setCell (World.setCell (World.setCell (World.setCell w5 _ _) _ _) _ _) _ _) _ _ = w6
              have H26 : Hid (w6.heap[P + 2]? = some (.cells #[.bool true, .slice A1 j c1, .slice B2 (m' + 1) d2, .int .i64 x, .int .i64 ((m' + 1 : Nat) : Int)] IT (0, 0))) := Lib.hid (by
                rw [← hw6, HPX.out]
                have := set_heap (set_heap (set_heap (set_heap (set_heap H25.out 0 (.bool true)) 1 (.slice A1 j c1)) 2 (.slice B2 (m' + 1) d2)) 3 (.int .i64 x)) 4 (.int .i64 ((m' + 1 : Nat) : Int))
                simpa using this)
              obtain ⟨-, o6, b6⟩ := fill5t H25.out hw6
              have hz6 : w5.heap.size ≤ w6.heap.size := by rw [← hw6]; simp []
              have H06 := Lib.hid ((o6 P (by omega)).trans H05.out)
              have H16 := Lib.hid ((o6 (P + 1) (by omega)).trans H15.out)
              have HTK2 : Hid (rbS j (sl.take (i0 + 1)) = addS j (rbS j (sl.take i0)) ⟨yb, yn, ys⟩ (.mk k1 n1 s1 x1 ks1 vs1)) := Lib.hid (by rw [HTK.out]; simp)
              have HO6 : Hid (imem.OwnI w6 (P + 3) A1 j c1 (hsA j (rbS j (sl.take (i0 + 1))))) := Lib.hid (by
                rw [HTK2.out, hsA_add, HL.out]
                exact owni_blk HO5.out fun q e => o6 q (by have := hA q e; omega))
              have HS6 : Hid (SRs w6 (P + 3) (fun q => S q ∧ q < P) (.slice B2 (m' + 1) d2) (rbS j (sl.take (i0 + 1)))) := Lib.hid (by
                rw [HTK2.out]
                refine SRs.keep (w := w5) HS5.out fun q hq hl => o6 q ?_
                rcases hq with hq | hq
                · omega
                · have := (HS5.out.block q hq).1; omega)
              have HB6 : Hid (Below w.heap.size w w6) := Lib.hid (b6 _ _ (by omega) (HB.out.trans (HF5.out.below (lo := w.heap.size) HB.out.size (fun q h => by
                rcases h with h | h
                · have := hA q h; omega
                · have := (HR.out.block q h).1; omega))))
              have HZ6 : Hid (P + 3 ≤ w6.heap.size) := Lib.hid (by have h1 := HZ.out; have h2 := HF5.out.size; omega)
              have HAB6 : Hid (∀ q, (Value.slice B2 (m' + 1) d2).ownBlock = some q → (Value.slice A1 j c1).ownBlock ≠ some q) := Lib.hid (fun q e e2 => by
                rcases HAT5.out with h | ⟨g, h, hg⟩
                · exact HAB.out q (h ▸ e) e2
                · rw [h] at e
                  injection e with e
                  have := (HO.out.block q e2).2
                  omega)
              clear hw6 o6 b6 hz6 y0 y1 y2 y3 y4 f5
              go_wp2_with (fail)
              go_roundg (m - i0)
              case rel => exact ⟨i0 + 1, B2, m' + 1, d2, by go_num, by omega, by omega, by omega, Lib.hid (by rw [HTK2.out, addS_len, HL.out]), H06, H16, H26, HO6, HS6, HAB6, HB6, HZ6⟩
              case measure => omega
        · obtain rfl : i0 = m := by omega
          have htl : sl.take i0 = sl := by rw [← HLM.out, List.take_length]
          rw [htl] at HL HO HR
          have y0 : wr.cell? ⟨P + 2, 0, none⟩ = some (.bool true) := (rowc H2.out).1 0
          have y1 : wr.cell? ⟨P + 2, 1, none⟩ = some (.slice A1 j c1) := (rowc H2.out).1 1
          have y2 : wr.cell? ⟨P + 2, 2, none⟩ = some (.slice B' m' d') := (rowc H2.out).1 2
          have y3 : wr.cell? ⟨P + 2, 3, none⟩ = some (.int .i64 x) := (rowc H2.out).1 3
          have y4 : wr.cell? ⟨P + 2, 4, none⟩ = some (.int .i64 (m' : Int)) := (rowc H2.out).1 4
          obtain ⟨r1, f1⟩ := rowc H1.out
          have v0 := r1 0; have v1 := r1 1; have v2 := r1 2; have v3 := r1 3; have v4 := r1 4
          simp at v0 v1 v2 v3 v4
          clear r1
          go_wp2_with (fail)
          generalize hwF : World.setCell (World.setCell (World.setCell (World.setCell (World.setCell wr _ _) _ _) _ _) _ _) _ _ = wF
          obtain ⟨rF, oF, bF⟩ := fill5t H1.out hwF
          have hpp := HP.out
          have hA := HA1.out
          clear hwF
          refine bodyPost_ret (v := tbV true A1 j c1 B' m' d' x (m' : Int)) (by simp [results, Tryz.results129, go_sem, rF, tbV]) rfl ?_
          refine ⟨A1, c1, B', d', by rw [HL.out], (owni_blk HO.out fun q e => oF q (by have := hA q e; omega)).less (by omega), ?_, bF _ _ (by omega) HB.out, by rw [HL.out]; exact HAB.out⟩
          rw [HL.out]
          obtain ⟨xs, hxs⟩ := HR.out.keep (w' := wF) fun q hq hl => oF q (by
            rcases hq with hq | hq
            · omega
            · have := (HR.out.block q hq).1; omega)
          rw [hpp]
          exact ⟨xs, ⟨hxs.1.1, hxs.1.2.imp id fun ⟨g, cap, cur, e, hlo, r⟩ => ⟨g, cap, cur, e, by omega, r⟩⟩, hxs.2⟩

end Go.Proofs.YtdgfpfkhcojgaaaGreatDoor.tree

