/-
  A table of the call's own built anew, of the project.
  Conditions: those that each theorem names.
-/
import Derived.Test.YtdgfpfkhcojgaaaGreatDoorTBSAddSl
import Derived.Test.YtdgfpfkhcojgaaaGreatDoorTBB7
import Derived.Test.YtdgfpfkhcojgaaaGreatDoorTBB3
import Derived.Deep.DeepCutAuto
import Derived.Deep.CutBlock
import Derived.Deep.RegionHeld3
namespace Go.Proofs.YtdgfpfkhcojgaaaGreatDoor.tree
open Go.ChangeShapes Go.WideShapes Go.ChangeAt Go.RowKit
set_option linter.unusedVariables false

theorem psX_same {x : Int} {y : Ky} (h : (y.text || decide (y.num < x)) = true) : psX x y = x := by
  unfold psX nums.mx
  rw [Bool.or_eq_true, decide_eq_true_eq] at h
  rcases h with h | h
  · rw [if_pos h]
  · split
    · rfl
    · rw [if_neg (by omega)]
theorem hs_bd (n : Nat) (sl : List Sl) : ∀ j, ∀ v ∈ hs n sl j, -1 ≤ v ∧ v < (j : Int)
  | 0 => fun v hv => by
    simp [hs] at hv
    omega
  | j + 1 => fun v hv => by
    rw [hs] at hv
    split at hv
    · rcases List.mem_or_eq_of_mem_set hv with hv | rfl
      · have := hs_bd n sl j v hv; omega
      · omega
    · have := hs_bd n sl j v hv; omega
theorem SFw.lower {w : World} {lo lo' : Nat} {v : Value} {xs : List Value} {sl : List Sl} {G : Nat → Nat → Prop} (h : SFw w lo v xs sl G) (hl : lo' ≤ lo) : SFw w lo' v xs sl G :=
  ⟨⟨h.1.1, h.1.2.imp id fun ⟨g, cap, cur, e, hlo, r⟩ => ⟨g, cap, cur, e, Nat.le_trans hl hlo, r⟩⟩, h.2⟩
theorem SFw.raise {w : World} {lo lo' : Nat} {v : Value} {xs : List Value} {sl : List Sl} {G : Nat → Nat → Prop} (h : SFw w lo v xs sl G) (hl : ∀ q, v.ownBlock = some q → lo' ≤ q) : SFw w lo' v xs sl G :=
  ⟨⟨h.1.1, h.1.2.imp id fun ⟨g, cap, cur, e, hlo, r⟩ => ⟨g, cap, cur, e, hl g (by rw [e]; rfl), r⟩⟩, h.2⟩
theorem owni_raise {w : World} {lo lo' n c : Nat} {A : Option Addr} {l : List Int} (h : imem.OwnI w lo A n c l) (hl : ∀ q, (Value.slice A n c).ownBlock = some q → lo' ≤ q) : imem.OwnI w lo' A n c l :=
  ⟨h.1, h.2.1, h.2.2.imp id fun ⟨g, cap, cur, e, hlo, r⟩ => ⟨g, cap, cur, e, hl g (by rw [e]; rfl), r⟩⟩
/-- A table without slots, in a variable, whenever a region that draws its order makes that variable. -/
def CutR (W : World) (n : Nat) (x : Int) (p : Value) (wx : World) : Prop :=
  ∃ Q g, p = .pointer (some ⟨Q, 0, none⟩) ∧ Below W.heap.size W wx ∧ W.heap.size ≤ Q ∧ W.heap.size ≤ g ∧ wx.heap[Q]? = some (.cells #[.bool true, .slice (some ⟨g, 0, none⟩) n n, .slice none 0 0, .int .i64 x, .int .i64 0] IT (0, 0)) ∧ imem.OwnI wx W.heap.size (some ⟨g, 0, none⟩) n n (List.replicate n (-1)) ∧ g ≠ Q
theorem cutR_box {W nw : World} {n g : Nat} {x : Int} (hw : Below W.heap.size W nw) (hg : W.heap.size ≤ g) (ho : imem.OwnI nw W.heap.size (some ⟨g, 0, none⟩) n n (List.replicate n (-1))) :
    CutR W n x (.pointer (some ⟨nw.heap.size, 0, none⟩)) (nw.alloc (.cells #[.bool true, .slice (some ⟨g, 0, none⟩) n n, .slice none 0 0, .int .i64 x, .int .i64 0] IT)) :=
  ⟨nw.heap.size, g, rfl, bs hw (b1 nw _), hw.size, hg, heap_alloc_new nw _, ho.below (b1 nw _), fun e => by have := (ho.block g rfl).2; omega⟩
theorem cutR_early {W nw wF : World} {n g Q : Nat} {x : Int} (hw : Below W.heap.size W nw) (hg : W.heap.size ≤ g) (ho : imem.OwnI nw W.heap.size (some ⟨g, 0, none⟩) n n (List.replicate n (-1))) (hQ : W.heap.size ≤ Q) (hne : Q ≠ g)
    (ez : nw.heap[Q]? = some (.cells #[.bool false, .slice none 0 0, .slice none 0 0, .int .i64 0, .int .i64 0] IT (0, 0)))
    (hF : (((((nw.setCell ⟨Q, 0, none⟩ (.bool true)).setCell ⟨Q, 1, none⟩ (.slice (some ⟨g, 0, none⟩) n n)).setCell ⟨Q, 2, none⟩ (.slice none 0 0)).setCell ⟨Q, 3, none⟩ (.int .i64 x)).setCell ⟨Q, 4, none⟩ (.int .i64 0)) = wF) :
    CutR W n x (.pointer (some ⟨Q, 0, none⟩)) wF := by
  obtain ⟨e1, e2, e3, -⟩ := fillT ez hF
  exact ⟨Q, g, rfl, e3 W hw hQ, hQ, hg, e1, owni_blk ho fun q e => e2 q (fun h => by subst h; simp [Value.ownBlock] at e; exact hne e.symm), fun e => hne e.symm⟩
def RtQ (w : World) (lo0 : Nat) (n : Nat) (rs : List Sl) (x k : Int) (m : Nat) (G : Nat → Nat → Prop) (e : Ending) (w' : World) : Prop :=
  ∃ g B' d' G', e = .returned (tbV true (some ⟨g, 0, none⟩) n n B' rs.length d' x k) ∧ OwnF w' lo0 (hsA n rs) rs (some ⟨g, 0, none⟩) n n B' rs.length d' G' ∧ Below w.heap.size w w' ∧ (∀ q, ((Value.slice (some ⟨g, 0, none⟩) n n).ownBlock = some q ∨ (Value.slice B' rs.length d').ownBlock = some q) → w.heap.size ≤ q) ∧ ∀ i, i < rs.length → ∀ q, G' i q → ∃ i', i' < m ∧ G i' q

set_option maxHeartbeats 4000000 in
set_option maxRecDepth 100000 in
theorem rebuiltTable_i {lo0 : Nat} {b : Bool} {l : List Int} {sl : List Sl} {A : Option Addr} {n c : Nat} {B : Option Addr} {m d : Nat} {x k : Int} {G : Nat → Nat → Prop} (w : World) (h : OwnF w lo0 l sl A n c B m d G) (hlo : lo0 ≤ w.heap.size) (hok : tabOk b l sl x k) (hk : k < 1024) (hst : SlB sl) :
    Calls Tryz.prog 64 #[tbV b A n c B m d x k] w (RtQ w lo0 (room k) (rbS (room k) sl) x k m G) := by
  obtain ⟨P, HP⟩ : ∃ P, Hid (w.heap.size = P) := ⟨_, Lib.hid rfl⟩
  obtain ⟨N, HN⟩ : ∃ N, Hid (room k = N) := ⟨_, Lib.hid rfl⟩
  have HRA : Hid (∀ s : Nat, p2 s → (s = 8 ∨ (s : Int) ≤ 2 * k) → k < s → s = N) := Lib.hid fun s h1 h2 h3 => (room_at hk h1 h2 h3).symm.trans HN.out
  have HPT : Hid (∀ s : Nat, p2 s → (s : Int) ≤ k → p2 (2 * s)) := Lib.hid fun s h1 h2 => p2_twice hk h1 h2
  have hN : N ≤ 1024 := by have := room_p2 k; rw [HN.out] at this; unfold p2 at this; omega
  have hm1 : m ≤ 1024 := by rw [← h.len]; exact hok.len.1
  have hk0 : 0 ≤ k := by have := hok.2.2.1.2; omega
  have hx0 := hok.1
  have NH : Hid (∀ w', Calls Tryz.prog 121 #[.int .i64 N] w' (NewQ w' N)) := Lib.hid fun w' => newHeads_i N (by omega) w'
  have HKN : Hid (((rbS N sl).length : Int) = k) := Lib.hid (by
    have := hok.2.2.1.2
    rw [rbS_len, ← this]
    unfold livK
    rw [List.length_map])
  have HRS := Lib.hid hok.2.2.1.1
  have HST := Lib.hid hst
  have HT := Lib.hid h
  have hml := h.len
  have HLO := Lib.hid hlo
  rw [HN.out]
  clear h hok hlo HN hst
  go_enter Tryz.func64, Tryz.ntmps64
  go_upto_region 1 with fail
  rw [HP.out]
  generalize hw0 : (w.alloc (.cells #[.bool b, .slice A n c, .slice B m d, .int .i64 x, .int .i64 k] IT)).alloc (.cells #[.bool false, .slice none 0 0, .slice none 0 0, .int .i64 0, .int .i64 0] IT) = w0
  have hb0 : Below w.heap.size w w0 := hw0 ▸ b2 w _ _
  have E0 : Hid (w0.heap[P]? = some (.cells #[.bool b, .slice A n c, .slice B m d, .int .i64 x, .int .i64 k] IT (0, 0))) := Lib.hid (by rw [← hw0, ← HP.out]; exact heap_alloc2_old w _ _)
  have E1 : Hid (w0.heap[P + 1]? = some (.cells #[.bool false, .slice none 0 0, .slice none 0 0, .int .i64 0, .int .i64 0] IT (0, 0))) := Lib.hid (by rw [← hw0, ← HP.out]; exact heap_alloc2_new w _ _)
  have HZ0 : Hid (w0.heap.size = P + 2) := Lib.hid (by rw [← hw0, ← HP.out]; simp)
  have HB := Lib.hid hb0
  clear hw0 hb0
  have y4 : w0.cell? ⟨P, 4, none⟩ = some (.int .i64 k) := (rowc E0.out).1 4
  go_wp2_with (fail)
  go_loopg [3] 2048 (fun gk v wr => ∃ s : Nat, v = .int .i64 s ∧ gk + s = 2056 ∧ s ≤ 1024 ∧ Hid (p2 s) ∧ Hid (s = 8 ∨ (s : Int) ≤ 2 * k) ∧ wr = w0)
  case atStart => exact ⟨8, rfl, by omega, by omega, Lib.hid (.inl rfl), Lib.hid (.inl rfl), rfl⟩
  case round =>
    obtain ⟨s, rfl, hgs, hs1, HP2, HS8, rfl⟩ := hrel
    by_cases hle : (s : Int) ≤ k
    · have hp2 := HPT.out s HP2.out hle
      have hs0 : 8 ≤ s ∧ 2 * s ≤ 1024 := by
        have h1 := HP2.out
        unfold p2 at h1 hp2
        omega
      have HP3 := Lib.hid hp2
      clear hp2
      go_wp2_with (fail)
      go_roundg (2056 - 2 * s)
      case rel => exact ⟨2 * s, by go_num, by omega, by omega, HP3, Lib.hid (.inr (by push_cast; omega)), rfl⟩
      case measure => omega
    · obtain rfl : s = N := HRA.out s HP2.out HS8.out (by omega)
      have y3 : wr.cell? ⟨P, 3, none⟩ = some (.int .i64 x) := (rowc E0.out).1 3
      have y2 : wr.cell? ⟨P, 2, none⟩ = some (.slice B m d) := (rowc E0.out).1 2
      go_wp2_with (fail)
      go_cut [4] (fun p wx => CutR wr s x p wx)
      case first =>
        have nz0 : wr.heap.size ≠ P := by have := (Array.getElem?_eq_some_iff.1 E0.out).1; omega
        go_region_held3 (fun w' => w'.cell? ⟨P, 3, none⟩ = some (.int .i64 x)) (go_keep) (first
          | (go_at_call 121; refine (NH.out _).mono ?_
             rintro e w1 ⟨g, rfl, hgl, hown, hb⟩
             have hbx : Below wr.heap.size wr w1 := by first | exact hb | exact bs ((Below.refl _ _).drew) hb | exact bs (b1 _ _) hb | exact bs (bs ((Below.refl _ _).drew) (b1 _ _)) hb
             first | (have ez := Lib.hid (carry hb (heap_alloc_new wr (.cells #[.bool false, .slice none 0 0, .slice none 0 0, .int .i64 0, .int .i64 0] IT))); have hne : wr.heap.size ≠ g := by simp at hgl; omega) | (have ez := Lib.hid (carry hb (heap_alloc_new wr.drew (.cells #[.bool false, .slice none 0 0, .slice none 0 0, .int .i64 0, .int .i64 0] IT))); have hne : wr.heap.size ≠ g := by simp at hgl; omega) | skip
             have hg2 : wr.heap.size ≤ g := by first | exact hgl | (simp at hgl; omega)
             have HO1 : Hid (imem.OwnI w1 wr.heap.size (some ⟨g, 0, none⟩) s s (List.replicate s (-1))) := Lib.hid (hown.less (by first | exact Nat.le_refl _ | simp))
             have HB1 := Lib.hid hbx
             have y3 : w1.cell? ⟨P, 3, none⟩ = some (.int .i64 x) := (rowc (carry hbx E0.out)).1 3
             have nz1 : w1.heap.size ≠ P := by have := (Array.getElem?_eq_some_iff.1 (carry hbx E0.out)).1; omega
             first | (have zr := (rowc ez.out).1; have zf := (rowc ez.out).2) | skip
             clear hb hbx hown hgl))
        all_goals
          go_wp2_with (fail)
          go_meet
          first
          | with_reducible exact cutR_box HB1.out hg2 HO1.out
          | exact cutR_early HB1.out hg2 HO1.out (Nat.le_refl _) hne ez.out rfl
      case rest =>
        obtain ⟨Q, g, hp, hbx, hQ, hg, hbox, hown, hgq⟩ := hcut
        subst hp
        obtain ⟨w1, hwc⟩ : ∃ q, q = wc := ⟨wc, rfl⟩
        subst hwc
        have hz0 := HZ0.out
        rw [hz0] at hQ hg hown
        have E01 := Lib.hid (carry hbx E0.out)
        have E11 := Lib.hid (carry hbx E1.out)
        have HB1 := Lib.hid (bs HB.out hbx)
        have HGQ := Lib.hid hgq
        have HBX : Hid (BxT w1 Q (P + 2) true (hsA s (rbS s (sl.take 0))) (rbS s (sl.take 0)) (some ⟨g, 0, none⟩) s s none 0 0 x ((0 : Nat) : Int) (fun _ _ => False)) := Lib.hid
          ⟨hbox, hown, ⟨[], SFw.nil _ _ _⟩, fun q hq => ⟨fun e => hgq (by subst e; simpa [Value.ownBlock] using hq), by simp [Value.ownBlock], fun i hi => absurd hi (by simp [rbS, liv])⟩, by simp [Value.ownBlock], fun i hi => absurd hi (by simp [rbS, liv]), by simp [rbS, liv]⟩
        have y2 : w1.cell? ⟨P, 2, none⟩ = some (.slice B m d) := (rowc E01.out).1 2
        clear hbx hbox hown hgq hz0 E0 E1 HB y3 y4 E01
        go_wp2_with (fail)
        go_loopg [21] (m + 1) (fun gk v wr2 => ∃ (j : Nat) (B' : Option Addr) (m' d' : Nat) (G' : Nat → Nat → Prop), v = .int .i64 j ∧ gk + j = m + 1 ∧ j ≤ m ∧ m' ≤ j ∧ Hid ((rbS s (sl.take j)).length = m') ∧ Hid (BxT wr2 Q (P + 2) true (hsA s (rbS s (sl.take j))) (rbS s (sl.take j)) (some ⟨g, 0, none⟩) s s B' m' d' x (m' : Int) G') ∧
          Hid (∀ i, i < m' → ∀ q, G' i q → ∃ i', i' < j ∧ G i' q) ∧ Hid (Below w.heap.size w wr2) ∧ Hid (wr2.heap[P + 1]? = some (.cells #[.bool false, .slice none 0 0, .slice none 0 0, .int .i64 0, .int .i64 0] IT (0, 0))))
        case atStart => exact ⟨0, none, 0, 0, _, rfl, by omega, by omega, by omega, Lib.hid (by simp [rbS, liv]), HBX, Lib.hid (fun i hi => absurd hi (by omega)), HB1, E11⟩
        case round =>
          clear HBX HB1 E11 y2
          obtain ⟨j, B', m', d', G', rfl, hgj, hjm, hmj, HL, HBX, HGG, HB, H1⟩ := hrel
          by_cases hlt : j < m
          · obtain ⟨t, ht⟩ : ∃ t, sl[j]? = some t := ⟨_, List.getElem?_eq_getElem (by omega)⟩
            obtain ⟨xs0, hs0⟩ := HT.out.slots
            rcases hs0.laid hml with ⟨-, h0, -⟩ | ⟨gB, rfl, hlB, hdB, arr, ha, hz, hi⟩
            · omega
            obtain ⟨hyb, hlb, k1, n1, s1, x1, ks1, vs1, A1, c1, hv, hfin, hat⟩ := hi j t ht
            obtain ⟨hso, -, -⟩ := HRS.out j t ht
            have hsz := HST.out.1 j t ht
            have HTK := Lib.hid (rbS_take (n := s) ht)
            obtain ⟨⟨yb, yn, ys⟩, tv, tb, tl⟩ := t
            simp only at hyb hlb hv hfin hat hso hsz HTK
            subst hv
            obtain ⟨L1, HL1⟩ : ∃ L, Hid (vs1.length = L) := ⟨_, Lib.hid rfl⟩
            rw [HL1.out] at hat
            rw [Bool.and_eq_true] at hso
            have hpx : psX x ⟨yb, yn, ys⟩ = x := psX_same hso.2
            have HPX := Lib.hid hpx
            have HYL : Hid (-1000000000 ≤ yn ∧ yn ≤ 1000000000) := Lib.hid (by
              cases yb with
              | false => exact keyB_lim hso.1 rfl
              | true =>
                have := hso.1
                unfold keyB at this
                simp at this
                omega)
            have HFIN := Lib.hid hfin
            have HSZ := Lib.hid hsz
            obtain ⟨r, -⟩ := rowc (carry HB.out ha)
            have z : ∀ q, q < 10 → wr.cell? ⟨gB, j * 10 + q, none⟩ = (#[.bool yb, .int .i64 yn, .string ys, .int .i64 k1, .int .i64 n1, .string s1, .int .i64 x1, .slice A1 L1 c1, .bool tb, .int .i64 tl] : Array Value)[q]? := fun q hq => (r _).trans (hat q hq)
            have z0 : wr.cell? ⟨gB, j * 10, none⟩ = some (.bool yb) := z 0 (by omega)
            have z1 : wr.cell? ⟨gB, j * 10 + 1, none⟩ = some (.int .i64 yn) := z 1 (by omega)
            have z2 : wr.cell? ⟨gB, j * 10 + 2, none⟩ = some (.string ys) := z 2 (by omega)
            have z3 : wr.cell? ⟨gB, j * 10 + 3, none⟩ = some (.int .i64 k1) := z 3 (by omega)
            have z4 : wr.cell? ⟨gB, j * 10 + 4, none⟩ = some (.int .i64 n1) := z 4 (by omega)
            have z5 : wr.cell? ⟨gB, j * 10 + 5, none⟩ = some (.string s1) := z 5 (by omega)
            have z6 : wr.cell? ⟨gB, j * 10 + 6, none⟩ = some (.int .i64 x1) := z 6 (by omega)
            have z7 : wr.cell? ⟨gB, j * 10 + 7, none⟩ = some (.slice A1 L1 c1) := z 7 (by omega)
            have z8 : wr.cell? ⟨gB, j * 10 + 8, none⟩ = some (.bool tb) := z 8 (by omega)
            have z9 : wr.cell? ⟨gB, j * 10 + 9, none⟩ = some (.int .i64 tl) := z 9 (by omega)
            clear hs0 ha hi hyb hlb hfin hat hso hsz r z hpx
            go_upto_region 8 with fail
            obtain ⟨R, HRR⟩ : ∃ R, Hid (wr.heap.size = R) := ⟨_, Lib.hid rfl⟩
            rw [HRR.out]
            generalize hw5 : wr.alloc (.cells #[.bool yb, .int .i64 yn, .string ys, .int .i64 k1, .int .i64 n1, .string s1, .int .i64 x1, .slice A1 L1 c1, .bool tb, .int .i64 tl] IS) = w5
            have hb5 : Below wr.heap.size wr w5 := hw5 ▸ b1 wr _
            have H10 : Hid (w5.heap[R]? = some (.cells #[.bool yb, .int .i64 yn, .string ys, .int .i64 k1, .int .i64 n1, .string s1, .int .i64 x1, .slice A1 L1 c1, .bool tb, .int .i64 tl] IS (0, 0))) := Lib.hid (by rw [← hw5, ← HRR.out]; exact heap_alloc_new wr _)
            have HBX5 := Lib.hid (HBX.out.below hb5)
            have HB5 := Lib.hid (bs HB.out hb5)
            have H15 := Lib.hid (carry hb5 H1.out)
            have r10 := (rowc H10.out).1
            have q0 : w5.cell? ⟨R, 0, none⟩ = some (.bool yb) := r10 0
            have q1 : w5.cell? ⟨R, 1, none⟩ = some (.int .i64 yn) := r10 1
            have q2 : w5.cell? ⟨R, 2, none⟩ = some (.string ys) := r10 2
            have q3 : w5.cell? ⟨R, 3, none⟩ = some (.int .i64 k1) := r10 3
            have q4 : w5.cell? ⟨R, 4, none⟩ = some (.int .i64 n1) := r10 4
            have q5 : w5.cell? ⟨R, 5, none⟩ = some (.string s1) := r10 5
            have q6 : w5.cell? ⟨R, 6, none⟩ = some (.int .i64 x1) := r10 6
            have q7 : w5.cell? ⟨R, 7, none⟩ = some (.slice A1 L1 c1) := r10 7
            have q8 : w5.cell? ⟨R, 8, none⟩ = some (.bool tb) := r10 8
            clear hw5 hb5 r10 z0 z1 z2 z3 z4 z5 z6 z7 z8 z9 HBX HB H1
            cases tb with
            | false =>
              go_wp2_with (fail)
              go_roundg (m - j)
              case rel => exact ⟨j + 1, B', m', d', G', by go_num, by omega, by omega, by omega, by rw [HTK.out]; exact HL, by rw [HTK.out]; exact HBX5, Lib.hid (fun i hi q hq => (HGG.out i hi q hq).imp fun i' h => ⟨by omega, h.2⟩), HB5, H15⟩
              case measure => omega
            | true =>
              have hsP := HP.out
              have AS : Hid (Calls Tryz.prog 113 #[.pointer (some ⟨Q, 0, none⟩), .agg #[.bool yb, .int .i64 yn, .string ys], vV k1 n1 s1 x1 A1 L1 c1] w5 (AdQ w5 Q (P + 2) true (hsA s (rbS s (sl.take j))) (rbS s (sl.take j)) (some ⟨g, 0, none⟩) s s B' m' d' x (m' : Int) G' ⟨yb, yn, ys⟩ (.mk k1 n1 s1 x1 ks1 vs1) (G j))) := Lib.hid (by
                have h9 := addSlot_i w5 HBX5.out (by have := HB5.out.size; have := H15.out; have := (Array.getElem?_eq_some_iff.1 H15.out).1; omega) (by omega) (by omega) ⟨by omega, by omega⟩ ⟨by omega, by omega⟩ (fun v hv => by have := hs_bd s (rbS s (sl.take j)) _ v hv; have := HL.out; omega) ⟨yb, yn, ys⟩ HYL.out HSZ.out (F := G j) (k1 := k1) (n1 := n1) (x1 := x1) (s1 := s1) (ks1 := ks1) (vs1 := vs1) (A1 := A1) (c1 := c1) (HFIN.out.below HB5.out) (fun q hq => by
                  have hf := HT.out.foot hlt hq
                  have hq5 := HB5.out.size
                  refine ⟨by omega, fun e => ?_, fun e => ?_, by omega, fun i hi hg => ?_⟩
                  · obtain ⟨xs, hs⟩ := HBX5.out.slots
                    have := (hs.block q e).1
                    omega
                  · have := (HBX5.out.heads.block q e).1
                    omega
                  · obtain ⟨i', hi', hg'⟩ := HGG.out i (by rw [← HL.out]; exact hi) q hg
                    exact HT.out.apart hlt (by omega) (by omega) hq hg')
                rw [HL1.out] at h9
                unfold kyV at h9
                exact h9)
              go_wp2_with (fail)
              refine AS.out.mono ?_
              rintro e w6 ⟨rfl, B2, d2, hbx, hfr, hat⟩
              have HBX6 := Lib.hid hbx
              have HTK2 : Hid (rbS s (sl.take (j + 1)) = addS s (rbS s (sl.take j)) ⟨yb, yn, ys⟩ (.mk k1 n1 s1 x1 ks1 vs1)) := Lib.hid (by rw [HTK.out]; simp)
              have hnot : ∀ q, q < P + 2 → ¬ BxF Q (some ⟨g, 0, none⟩) s s B' m' d' q := fun q hq h => by
                rcases h with h | h | h
                · omega
                · have := (HBX5.out.heads.block q h).1; omega
                · obtain ⟨xs, hs⟩ := HBX5.out.slots
                  have := (hs.block q h).1
                  omega
              have HB6 : Hid (Below w.heap.size w w6) := Lib.hid (HB5.out.trans (hfr.below (lo := w.heap.size) HB5.out.size (fun q h => by
                rcases Nat.lt_or_ge q (P + 2) with h0 | h0
                · exact absurd h (hnot q h0)
                · omega)))
              have H16 := Lib.hid ((hfr.block (P + 1) (Array.getElem?_eq_some_iff.1 H15.out).1 (hnot _ (by omega))).trans H15.out)
              clear hbx hfr hat hnot q0 q1 q2 q3 q4 q5 q6 q7 q8 AS
              go_wp2_with (fail)
              go_roundg (m - j)
              case rel =>
                refine ⟨j + 1, B2, m' + 1, d2, fun i => if i = m' then G j else G' i, by go_num, by omega, by omega, by omega, Lib.hid (by rw [HTK2.out, addS_len, HL.out]), Lib.hid ?_, Lib.hid (fun i hi q hq => ?_), HB6, H16⟩
                · have h9 := HBX6.out
                  rw [HPX.out] at h9
                  rw [HTK2.out, hsA_add, HL.out]
                  exact h9
                · dsimp only at hq
                  split at hq
                  · exact ⟨j, by omega, hq⟩
                  · obtain ⟨i', h1, h2⟩ := HGG.out i (by omega) q hq
                    exact ⟨i', by omega, h2⟩
              case measure => omega
          · obtain rfl : j = m := by omega
            have htl : sl.take j = sl := by rw [← hml, List.take_length]
            rw [htl] at HL HBX
            have HKm : Hid ((m' : Int) = k) := Lib.hid (by rw [← HL.out]; exact HKN.out)
            obtain ⟨r5, f5⟩ := rowc HBX.out.box
            have y0 := r5 0; have y1 := r5 1; have y2 := r5 2; have y3 := r5 3; have y4 := r5 4
            simp at y0 y1 y2 y3 y4
            obtain ⟨r6, f6⟩ := rowc H1.out
            have v0 := r6 0; have v1 := r6 1; have v2 := r6 2; have v3 := r6 3; have v4 := r6 4
            simp at v0 v1 v2 v3 v4
            clear r5 r6
            go_wp2_with (fail)
            generalize hwF : World.setCell (World.setCell (World.setCell (World.setCell (World.setCell wr _ _) _ _) _ _) _ _) _ _ = wF
            obtain ⟨rF, oF, bF⟩ := fill5t H1.out hwF
            have hzF : wr.heap.size ≤ wF.heap.size := by rw [← hwF]; simp []
            clear hwF
            obtain ⟨xs, hs⟩ := HBX.out.slots
            have hne : ∀ q, P + 2 ≤ q → wF.heap[q]? = wr.heap[q]? := fun q hq => oF q (by omega)
            have hsb := hs.block
            have hlow : ∀ i, i < m' → ∀ q, G' i q → (∃ i, i < j ∧ G i q) ∧ lo0 ≤ q ∧ q < P := fun i hi q hq => by
              obtain ⟨i', h1, h2⟩ := HGG.out i hi q hq
              have := (HT.out.foot h1 h2).1
              have := HP.out
              exact ⟨⟨i', h1, h2⟩, by omega, by omega⟩
            have hlo := HLO.out
            have hPP := HP.out
            have hOF : OwnF wF lo0 (hsA s (rbS s sl)) (rbS s sl) (some ⟨g, 0, none⟩) s s B' m' d' G' := ⟨(owni_blk HBX.out.heads fun q e => hne q (HBX.out.heads.block q e).1).less (by omega), ⟨xs, (hs.keep hzF fun q hq hl => by
                rcases hq with hq | ⟨i, hi, hq⟩
                · exact hne q (hsb q hq).1
                · exact oF q (by have := (hlow i (by rw [← HL.out]; exact hi) q hq).2.2; omega)).lower (by omega)⟩, fun q e => ⟨(HBX.out.hq q e).2.1, fun i hi => (HBX.out.hq q e).2.2 i (by rw [HL.out]; exact hi)⟩, HL.out, fun i hi q hq => (hlow i hi q hq).2.1⟩
            refine bodyPost_ret (v := tbV true (some ⟨g, 0, none⟩) s s B' m' d' x (m' : Int)) (by simp [results, Tryz.results64, go_sem, rF, tbV]) rfl ?_
            refine ⟨g, B', d', G', by rw [HL.out, HKm.out], by rw [HL.out]; exact hOF, bF _ _ (by omega) HB.out, fun q hq => ?_, fun i hi q hq => (hlow i (by rw [← HL.out]; exact hi) q hq).1⟩
            rw [HL.out] at hq
            rcases hq with hq | hq
            · have := (HBX.out.heads.block q hq).1; omega
            · have := (hsb q hq).1; omega

end Go.Proofs.YtdgfpfkhcojgaaaGreatDoor.tree

