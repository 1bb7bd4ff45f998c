/-
  What the texts behind this one use: 4 parts of one proof.
  Conditions: those that each theorem names.
-/
import Derived.Test.YtbgffmiffmmohaaGreatDoorHcB2
import Derived.Laws.CopyRow
import Derived.Laws.OwnMore
import Derived.Deep.RegionHeld3
import Derived.Deep.QuietTactic
/-
  New heads, and a slot linked to its chain, of the project.
  Conditions: those that each theorem names.
-/
namespace Go.Proofs.YtbgffmiffmmohaaGreatDoor.tree
open Go.ChangeShapes Go.WideShapes Go.ChangeAt Go.RowKit
set_option linter.unusedVariables false

def rwK (K n : Nat) : Array Value := (List.replicate K (Value.int .i64 (-1)) ++ List.replicate (n - K) (Value.int .i64 0)).toArray
theorem rwK_size {K n : Nat} (h : K ≤ n) : (rwK K n).size = n := by simp [rwK]; omega
theorem rwK_next {K q n : Nat} (h : K + q ≤ n) : ((rwK K n).toList.take K ++ (List.replicate q (Value.int .i64 (-1)) ++ (rwK K n).toList.drop (K + q))).toArray = rwK (K + q) n := by
  unfold rwK
  congr 1
  rw [List.take_left' (by simp), List.drop_append, List.drop_eq_nil_of_le (by simp), List.nil_append, List.length_replicate, List.drop_replicate, ← List.append_assoc, List.replicate_append_replicate, show n - K - (K + q - K) = n - (K + q) by omega]
theorem rwK_get {K n j : Nat} {v : Value} (h : (List.replicate K (Value.int .i64 (-1)))[j]? = some v) : (rwK K n)[j]? = some v := by
  have hj := (List.getElem?_eq_some_iff.1 h).1
  rw [List.length_replicate] at hj
  unfold rwK
  rw [List.getElem?_toArray, List.getElem?_append_left (by simpa using hj)]
  exact h
theorem rwK_own {w : World} {lo g n : Nat} (hg : w.heap[g]? = some (.cells (rwK n n) 3 (0, 0))) (hl : lo ≤ g) (hn : n ≤ 1048576) : imem.OwnI w lo (some ⟨g, 0, none⟩) n n (List.replicate n (-1)) :=
  ⟨by simp, by simp [imem.ics], .inr ⟨g, n, _, rfl, hl, hg, Nat.le_refl _, by unfold maxLen; omega, by rw [rwK_size (Nat.le_refl _)]; omega, by simp [rwK, imem.ics]⟩⟩
theorem int_info : ∃ i, Tryz.prog.info? 3 = some i ∧ i.zero = some (.int .i64 0) ∧ i.size = 1 ∧ i.bytes = 8 := by
  have := imem.i64row
  cases h : Tryz.prog.info? 3 with
  | none => rw [h] at this; simp at this
  | some i => rw [h] at this; simp at this; exact ⟨i, rfl, this⟩

def NewQ (w : World) (n : Nat) (e : Ending) (w' : World) : Prop := ∃ g, e = .returned (.slice (some ⟨g, 0, none⟩) n n) ∧ w.heap.size ≤ g ∧ imem.OwnI w' w.heap.size (some ⟨g, 0, none⟩) n n (List.replicate n (-1)) ∧ Below w.heap.size w w'

set_option maxRecDepth 100000 in
set_option maxHeartbeats 2000000 in
theorem repeat_i (n : Nat) (hn : n ≤ 1048576) (g0 : Nat) (w : World) (h0 : w.cell? ⟨g0, 0, none⟩ = some (.int .i64 (-1))) :
    Calls Tryz.prog 213 #[.slice (some ⟨g0, 0, none⟩) 1 1, .int .i64 n] w (NewQ w n) := by
  obtain ⟨i0, hi, hz, hs, hby⟩ := int_info
  have hsz : (Tryz.prog.info? 3).map (·.size) = some 1 := by rw [hi]; exact congrArg some hs
  have MU := fun w => Tryz.bits_Mul 1 n (by omega) (by omega) w
  rw [Nat.one_mul, Nat.div_eq_of_lt (by omega), Nat.mod_eq_of_lt (by omega)] at MU
  have hmk := run_make (P := Tryz.prog) w 24 3 i0 _ Tryz.underlying24 hi hz .i64 .i64 n n (by omega) (Int.le_refl _) (by rw [hby]; omega) (by omega)
  rw [hs, Nat.mul_one] at hmk
  simp only [Int.toNat_natCast] at hmk
  rw [show madeCells (Value.int .i64 0).cells n = rwK 0 n by
    have := toList_madeCells_one (.int .i64 0) n
    rw [show (Value.int .i64 0).cells = #[.int .i64 0] from rfl]
    apply Array.toList_inj.1
    rw [this]
    simp [rwK]] at hmk
  have hse : ∀ w', (sizeOf (Tryz.prog.elem 24)).run Tryz.prog w' = .ok 1 w' := fun w' => by
    have : Tryz.prog.elem 24 = 3 := by kernel_rfl
    simp [sizeOf, typeInfo, this, hi, hs]
  have HSE := Lib.hid hse
  have HSZ := Lib.hid hsz
  clear hi hz hs hby hse hsz
  rcases Nat.eq_zero_or_pos n with hz | hp
  · subst hz
    have hc := run_copy_none (P := Tryz.prog) (w.alloc (.cells (rwK 0 0) 3)) 24 24 3 3 (some ⟨w.heap.size, 0, none⟩) (some ⟨g0, 0, none⟩) 0 0 1 1 Tryz.underlying24 HSZ.out (by decide)
    have hmk0 : (Instr.makeSlice 24 (.int .i64 0) (.int .i64 0)).run Tryz.prog w = .ok (.slice (some ⟨w.heap.size, 0, none⟩) 0 0) (w.alloc (.cells (rwK 0 0) 3)) := hmk
    clear hmk
    go_enter Tryz.func213, Tryz.ntmps213
    go_wp2_with (fail)
    refine (MU _).mono ?_
    rintro e w1 ⟨rfl, rfl⟩
    go_wp2_with (fail)
    go_loopg [8] 0 (fun gk s wr => s = .int .i64 0 ∧ wr = w1.alloc (.cells (rwK 0 0) 3))
    case atStart => exact ⟨rfl, rfl⟩
    case round =>
      obtain ⟨rfl, rfl⟩ := hrel
      go_wp2_with (fail)
      go_ret
      exact ⟨_, rfl, Nat.le_refl _, rwK_own (heap_alloc_new _ _) (Nat.le_refl _) (by omega), b1 _ _⟩
  · obtain ⟨row, HROW⟩ : ∃ r, Hid (r = rwK 0 n) := ⟨_, Lib.hid rfl⟩
    rw [← HROW.out] at hmk
    have hc := run_copy_row (P := Tryz.prog) (w.alloc (.cells row 3)) 24 24 3 3 w.heap.size 0 n n ⟨g0, 0, none⟩ 1 1 row 3 [.int .i64 (-1)] Tryz.underlying24 HSZ.out (heap_alloc_new _ _) (by show 1 = Nat.min 1 n; simp only [Nat.min_def]; split <;> omega)
      (fun j v hv => by
        cases j with
        | zero => simp at hv; subst hv; rw [show (⟨g0, 0, none⟩ : Addr).add 0 = ⟨g0, 0, none⟩ by unfold Addr.add; rw [if_pos rfl]]; exact cell_stays (fun hl => (b1 w _).block _ hl) h0
        | succ j => simp at hv) (by rw [HROW.out, rwK_size (Nat.zero_le _)]; simp; omega) (by simp [Value.oneCell'])
    rw [show (row.toList.take 0 ++ [Value.int .i64 (-1)] ++ row.toList.drop (0 + [Value.int .i64 (-1)].length)).toArray = rwK 1 n by
      have := rwK_next (K := 0) (q := 1) (n := n) (by omega)
      rw [HROW.out, List.append_assoc]
      exact this] at hc
    obtain ⟨w2, HW2⟩ : ∃ W, Hid (W = (w.alloc (.cells row 3)).setRow w.heap.size (rwK 1 n)) := ⟨_, Lib.hid rfl⟩
    rw [← HW2.out] at hc
    have HB2 : Hid (Below w.heap.size w w2) := Lib.hid (HW2.out ▸ below_setRow (b1 w _) (Nat.le_refl _) _)
    have HG2 : Hid (w2.heap[w.heap.size]? = some (.cells (rwK 1 n) 3 (0, 0))) := Lib.hid (HW2.out ▸ setRow_heap _ _ _ _ _ _ (heap_alloc_new _ _))
    clear h0
    go_enter Tryz.func213, Tryz.ntmps213
    go_wp2_with (fail)
    refine (MU _).mono ?_
    rintro e w1 ⟨rfl, rfl⟩
    go_wp2_with (fail)
    clear hc hmk
    have hlo := HB2.out.size
    obtain ⟨g, HG⟩ : ∃ g, Hid (w1.heap.size = g) := ⟨_, Lib.hid rfl⟩
    rw [HG.out] at HG2 HB2 hlo ⊢
    go_loopg [8] n (fun gk s wr => ∃ K : Nat, s = .int .i64 K ∧ n - K ≤ gk ∧ 1 ≤ K ∧ K ≤ n ∧ Hid (wr.heap[g]? = some (.cells (rwK K n) 3 (0, 0))) ∧ Hid (Below g w1 wr))
    case atStart => exact ⟨1, rfl, by omega, by omega, by omega, HG2, HB2⟩
    case round =>
      obtain ⟨K, rfl, hgk, hK1, hKn, HR, HB⟩ := hrel
      clear HG2 HB2 HW2 hlo
      by_cases hlt : K < n
      · obtain ⟨q, HQ⟩ : ∃ q, Hid (q = if K ≤ n - K then K else n - K) := ⟨_, Lib.hid rfl⟩
        have hq : 1 ≤ q ∧ K + q ≤ n := by rw [HQ.out]; split <;> omega
        have hs1 : ∀ w', (Instr.slice 24 (.slice (some ⟨g, 0, none⟩) n n) (some (.int .i64 K)) none none).run Tryz.prog w' = .ok (.slice (some ⟨g, K, none⟩) (n - K) (n - K)) w' := fun w' => by
          rw [run_slice_l (P := Tryz.prog) w' 24 _ n n (by kernel_rfl) .i64 (K : Int) (by omega) (by omega), HSE.out]
          simp [Result.andThen, sliced, show n ≠ K by omega, Addr.add_lit]
        have hs2 : ∀ w', (Instr.slice 24 (.slice (some ⟨g, 0, none⟩) n n) none (some (.int .i64 K)) none).run Tryz.prog w' = .ok (.slice (some ⟨g, 0, none⟩) K n) w' := fun w' => by
          rw [run_slice_h (P := Tryz.prog) w' 24 (some ⟨g, 0, none⟩) n n (by kernel_rfl) .i64 (K : Int) (by omega) (by omega), HSE.out]
          have h0 : (⟨g, 0, none⟩ : Addr).add 0 = ⟨g, 0, none⟩ := by unfold Addr.add; rw [if_pos rfl]
          simp [Result.andThen, sliced, h0]
        have hcp := run_copy_row (P := Tryz.prog) wr.drew 24 24 3 3 g K (n - K) (n - K) ⟨g, 0, none⟩ K n (rwK K n) 3 (List.replicate q (.int .i64 (-1))) Tryz.underlying24 HSZ.out HR.out (by rw [List.length_replicate, HQ.out]; simp only [Nat.min_def])
          (fun j v hv => by
            have hj := (List.getElem?_eq_some_iff.1 hv).1
            rw [List.length_replicate] at hj
            have hv2 : (List.replicate K (Value.int .i64 (-1)))[j]? = some v := by
              rw [List.getElem?_replicate, if_pos hj] at hv
              rw [List.getElem?_replicate, if_pos (by have := HQ.out; split at this <;> omega)]
              exact hv
            have := rwK_get (n := n) hv2
            rw [Addr.add_lit, Nat.zero_add]
            exact (cell_of_row _ _ j _ _ _ (show wr.drew.heap[g]? = _ from HR.out)).trans this) (by rw [List.length_replicate, rwK_size hKn]; omega) (fun v hv => by rw [List.mem_replicate] at hv; rw [hv.2]; rfl)
        rw [List.length_replicate, List.append_assoc, rwK_next hq.2] at hcp
        obtain ⟨w3, HW3⟩ : ∃ W, Hid (W = wr.drew.setRow g (rwK (K + q) n)) := ⟨_, Lib.hid rfl⟩
        rw [← HW3.out] at hcp
        have HB3 : Hid (Below g w1 w3) := Lib.hid (HW3.out ▸ below_setRow HB.out.drew (Nat.le_refl _) _)
        have HR3 : Hid (w3.heap[g]? = some (.cells (rwK (K + q) n) 3 (0, 0))) := Lib.hid (HW3.out ▸ setRow_heap _ _ _ _ _ _ (show wr.drew.heap[g]? = _ from HR.out))
        clear HSE HSZ
        go_wp2_with (fail)
        go_region
        go_wp2_with (fail)
        go_roundg (n - (K + q))
        case rel => exact ⟨K + q, by go_num, by omega, by omega, by omega, HR3, HB3⟩
        case measure => omega
      · obtain rfl : K = n := by omega
        go_wp2_with (fail)
        go_ret
        exact ⟨g, rfl, Nat.le_of_eq HG.out, rwK_own HR.out (Nat.le_of_eq HG.out) hn, HG.out.symm ▸ HB.out⟩

theorem newHeads_i (n : Nat) (hn : n ≤ 1048576) (w : World) : Calls Tryz.prog 166 #[.int .i64 n] w (NewQ w n) := by
  have RE := fun o : Obj => fun h => repeat_i n hn w.heap.size (w.alloc o) h
  go_enter Tryz.func166, Tryz.ntmps166
  go_wp2_with (fail)
  refine (RE _ ((rowc (heap_alloc_new w _)).1 0)).mono ?_
  rintro e w1 ⟨g, rfl, hg, ho, hb⟩
  have HO := Lib.hid ho
  have HB := Lib.hid (bs (b1 w _) hb)
  have hz : w.heap.size ≤ g := by simp at hg; omega
  clear ho hb hg
  go_wp2_with (fail)
  go_ret
  exact ⟨g, rfl, hz, HO.out.less (by simp), HB.out⟩

theorem bucketOf_i (n : Nat) (h0 : 0 < n) (hn : n ≤ 1048576) (y : Ky) (hs : y.str.size ≤ 140737488355328) (w : World) : Calls Tryz.prog 214 #[kyV y, .int .i64 n] w (LtQ w (bk n y)) := by
  obtain ⟨q, HQ⟩ : ∃ q : Nat, Hid (bk n y = q) := ⟨_, Lib.hid rfl⟩
  obtain ⟨z, HZ⟩ : ∃ z, Hid (kh y = z) := ⟨_, Lib.hid rfl⟩
  have KH := keyHash_i y hs
  have hmd : mdl.md z n = (q : Int) := by
    unfold mdl.md
    rw [if_pos (mdl.inr_of (by omega) (by omega)), ← HZ.out, bk_int h0, HQ.out]
  have MO := fun w => mdl.implMod z n w
  rw [hmd] at MO
  rw [HZ.out] at KH
  rw [HQ.out]
  obtain ⟨yb, yn, ys⟩ := y
  unfold kyV at KH ⊢
  clear hmd
  go_enter Tryz.func214, Tryz.ntmps214
  go_wp2_with (fail)
  refine (KH _).mono ?_
  rintro e w1 ⟨rfl, hb⟩
  have HB := Lib.hid (bs (b1 w _) hb)
  clear hb
  go_wp2_with (fail)
  refine (MO _).mono ?_
  rintro e w2 ⟨rfl, rfl⟩
  go_wp2_with (fail)
  go_ret
  exact ⟨rfl, HB.out⟩

theorem gb {w w' : World} (h : Below w.heap.size w w') (r : Option Nat) : w.grownBy w' r := ⟨h.os, h.tape, h.output, h.size, fun k hk _ => h.block k hk⟩
def LkQ (w : World) (lo : Nat) (A : Option Addr) (n c : Nat) (v : Int) (h' : List Int) (e : Ending) (w' : World) : Prop := e = .returned (.int .i64 v) ∧ imem.OwnI w' lo A n c h' ∧ w.grownBy w' (Value.slice A n c).ownBlock

theorem linkSlot_i (n c : Nat) (hn : n ≤ 1048576) (A : Option Addr) (h : List Int) (lo : Nat) (y : Ky) (hs : y.str.size ≤ 140737488355328) (i : Nat) (w : World) (ho : imem.OwnI w lo A n c h) :
    Calls Tryz.prog 205 #[.slice A n c, kyV y, .int .i64 i] w (LkQ w lo A n c ((h[bk n y]?).getD (-1)) (h.set (bk n y) i)) := by
  rcases Nat.eq_zero_or_pos n with hz | hp
  · subst hz
    have h0 : h = [] := List.eq_nil_of_length_eq_zero ho.len
    subst h0
    have HO := Lib.hid ho
    obtain ⟨yb, yn, ys⟩ := y
    unfold kyV
    clear ho hs hn
    go_enter Tryz.func205, Tryz.ntmps205
    go_wp2_with (fail)
    go_ret
    exact ⟨rfl, HO.out.alloc _, World.grownBy_alloc _ _ _⟩
  · obtain ⟨g, rfl, hlg, hgs, hob⟩ := ho.head hp
    have BK := fun w => bucketOf_i n hp hn y hs w
    have hq := bk_lt hp y
    obtain ⟨q, HQ⟩ : ∃ q : Nat, Hid (bk n y = q) := ⟨_, Lib.hid rfl⟩
    rw [HQ.out] at BK hq ⊢
    have hl := ho.len
    obtain ⟨v, hv⟩ : ∃ v, h[q]? = some v := ⟨_, List.getElem?_eq_getElem (by omega)⟩
    have hc : w.cell? ⟨g, q, none⟩ = some (.int .i64 v) := by
      have := ho.row.cellAt q (by omega)
      rw [this]
      exact imem.ics_get hv
    have hfz : w.frozen? ⟨g, q, none⟩ = false := ho.row.frozenAt q
    rw [hv, Option.getD_some]
    have HO := Lib.hid ho
    have HGS := Lib.hid hgs
    have hn1 : ((n : Int) == 0) = false := by simp; omega
    have hqi : (q : Int) < (n : Int) := by omega
    obtain ⟨yb, yn, ys⟩ := y
    unfold kyV at BK ⊢
    have HC := Lib.hid hc
    have HFZ := Lib.hid hfz
    clear ho hs hl hv hgs hc hfz
    go_enter Tryz.func205, Tryz.ntmps205
    go_wp2_with (fail)
    refine (BK _).mono ?_
    rintro e w1 ⟨rfl, hb⟩
    have HB := Lib.hid (bs (b1 w _) hb)
    have hc1 : w1.cell? ⟨g, q, none⟩ = some (.int .i64 v) := cell_stays (fun hl => HB.out.block _ hl) HC.out
    have HO1 := Lib.hid (HO.out.below HB.out)
    have hf1 : w1.frozen? ⟨g, q, none⟩ = false := HO1.out.row.frozenAt q
    clear hb
    go_wp2_with (fail)
    go_ret
    obtain ⟨h1, h2⟩ := HO1.out.set q i
    exact ⟨rfl, h1, by rw [hob]; exact mem.grown_trans (gb HB.out _) h2⟩

end Go.Proofs.YtbgffmiffmmohaaGreatDoor.tree

/-
  Whether the slots of a table are linked as they must be, of the project.
  Conditions: those that each theorem names.
-/
namespace Go.Proofs.YtbgffmiffmmohaaGreatDoor.tree
open Go.ChangeShapes Go.WideShapes Go.ChangeAt Go.RowKit
set_option linter.unusedVariables false

theorem spot_none {w : World} {a : Addr} {v : Value} (h : w.cell? a = some v) : a.spot = none := by
  unfold World.cell? at h
  split at h
  · split at h
    · cases h
    · rename_i hs
      cases e : a.spot with
      | none => rfl
      | some k => rw [e] at hs; simp at hs
  · cases h
theorem equal_i (n : Nat) (hn : n ≤ 1048576) (lo g c d : Nat) (A : Option Addr) (xs ys : List Int) (w : World) (ho : imem.OwnI w lo (some ⟨g, 0, none⟩) n c xs) (hr : imem.RdI w A n ys) :
    Calls Tryz.prog 206 #[.slice (some ⟨g, 0, none⟩) n c, .slice A n d] w (BoQ w (decide (xs = ys))) := by
  have l1 := ho.len
  have l2 := hr.len
  rcases Nat.eq_zero_or_pos n with hz | hp
  · subst hz
    refine (Tryz.slices_Equal_int_empty _ A c 0 d w (by omega)).mono ?_
    rintro e w1 ⟨rfl, rfl⟩
    have e1 : xs = [] := List.eq_nil_of_length_eq_zero l1
    have e2 : ys = [] := List.eq_nil_of_length_eq_zero l2
    subst e1 e2
    exact ⟨rfl, Below.refl _ _⟩
  · obtain ⟨a, rfl, hc⟩ := hr.2 hp
    obtain ⟨v0, h0⟩ : ∃ v, ys[0]? = some v := ⟨_, List.getElem?_eq_getElem (by omega)⟩
    have hs := spot_none (hc 0 v0 h0)
    have ha0 : a.add 0 = a := by unfold Addr.add; rw [if_pos rfl]
    rw [ha0] at hs
    obtain ⟨ab, ao, asp⟩ := a
    simp only at hs
    subst hs
    refine (Tryz.slices_Equal_int g 0 n c ab ao n d xs ys w (by omega) (by omega) (by omega) (by omega) (fun j hj => ?_) (fun j hj => ?_)).mono ?_
    · have hx : xs[j]? = some xs[j] := List.getElem?_eq_getElem hj
      have := ho.row.cellAt j (by omega)
      rw [Nat.zero_add, this, imem.ics_get hx, List.getD, hx]
      rfl
    · have hy : ys[j]? = some ys[j] := List.getElem?_eq_getElem hj
      have := hc j _ hy
      rw [Addr.add_lit] at this
      rw [this, List.getD, hy]
      rfl
    · rintro e w1 ⟨rfl, q, rfl⟩
      refine ⟨?_, kbelow_drew _ _⟩
      rw [List.take_of_length_le (by omega), List.take_of_length_le (by omega)]
      by_cases e : xs = ys
      · subst e; simp
      · simp [e]

set_option maxRecDepth 100000 in
set_option maxHeartbeats 4000000 in
theorem rightLinks_i {l : List Int} {sl : List Sl} {b : Bool} {A : Option Addr} {n c : Nat} {B : Option Addr} {m d : Nat} {x k : Int} (w : World) {S : Nat → Prop} (hr : TbIn w S l sl A n c B m d x k) (hn : n ≤ 1048576) (hm : m ≤ 1048576) (hst : ∀ (j : Nat) t, sl[j]? = some t → t.key.str.size ≤ 140737488355328) :
    Calls Tryz.prog 154 #[tbV b A n c B m d x k] w (BoP w (rowL b n sl ∧ hs n sl m = l)) := by
  have HR := Lib.hid hr
  have HST := Lib.hid hst
  have hlen : Hid (sl.length = m) := Lib.hid hr.len
  clear hr hst
  have NH := fun w => newHeads_i n hn w
  go_enter Tryz.func154, Tryz.ntmps154
  go_wp2_with (fail)
  refine (NH _).mono ?_
  rintro e w1 ⟨g, rfl, hg, ho, hb⟩
  have HA0 := Lib.hid (carry hb (heap_alloc_new w _))
  have HB0 := Lib.hid (bs (b1 w _) hb)
  have HG : Hid (w.heap.size < g) := Lib.hid (by simp at hg; omega)
  have HO := Lib.hid (ho.less (show w.heap.size + 1 ≤ _ by simp))
  have r0 := (rowc HA0.out).1
  have z2 := r0 2
  simp at z2
  clear hb ho hg r0 NH
  go_wp2_with (fail)
  go_loopg [14] (m + 1) (fun gk i wr => ∃ j : Nat, i = .int .i64 j ∧ gk + j = m + 1 ∧ j ≤ m ∧ Hid (∀ (i : Nat) t, i < j → sl[i]? = some t → linkS b n sl i t) ∧
    Hid (wr.heap[w.heap.size]? = some (.cells #[.bool b, .slice A n c, .slice B m d, .int .i64 x, .int .i64 k] IT (0, 0))) ∧ Hid (imem.OwnI wr (w.heap.size + 1) (some ⟨g, 0, none⟩) n n (hs n sl j)) ∧ Hid (Below w.heap.size w wr))
  case atStart => exact ⟨0, rfl, by omega, by omega, Lib.hid (fun i t h => absurd h (by omega)), HA0, HO, HB0⟩
  case round =>
    clear z2 HA0 HB0 HO
    obtain ⟨j, rfl, hgj, hjm, HL, HA, HO, HB⟩ := hrel
    by_cases hlt : j < m
    · obtain ⟨t, htj⟩ : ∃ t, sl[j]? = some t := ⟨_, List.getElem?_eq_getElem (by have := hlen.out; omega)⟩
      obtain ⟨a, k1, n1, s1, x1, ks1, vs1, A1, c1, rfl, -, hyb, hlb, hv, hT, hcell⟩ := HR.out.slots j t htj
      have hc10 := hcell.stays (w' := wr) (fun hl => HB.out.block _ hl)
      have hys := HST.out j t htj
      have HSU := Lib.hid (hs_succ (n := n) htj)
      have HTJ := Lib.hid htj
      obtain ⟨⟨yb, yn, ys⟩, tv, tb, tl⟩ := t
      simp only at hyb hlb hv hT hc10 hys
      obtain ⟨L1, HL1⟩ : ∃ L, Hid (vs1.length = L) := ⟨_, Lib.hid rfl⟩
      rw [HL1.out] at hc10
      obtain ⟨p0, p1, p2, p3, p4, p5, p6, p7, p8, p9⟩ := hc10
      simp only at p0 p1 p2
      clear hyb hlb hT hcell htj hv
      go_upto_region 5 with fail
      obtain ⟨R, HRR⟩ : ∃ R, Hid (wr.heap.size = R) := ⟨_, Lib.hid rfl⟩
      rw [HRR.out]
      generalize hw1 : wr.alloc (.cells #[.bool yb, .int .i64 yn, .string ys, .int .i64 k1, .int .i64 n1, .string s1, .int .i64 x1, .slice A1 L1 c1, .bool tb, .int .i64 tl] 112) = w2
      have hb1 : Below wr.heap.size wr w2 := hw1 ▸ b1 wr _
      have H10 : Hid (w2.heap[R]? = some (.cells #[.bool yb, .int .i64 yn, .string ys, .int .i64 k1, .int .i64 n1, .string s1, .int .i64 x1, .slice A1 L1 c1, .bool tb, .int .i64 tl] 112 (0, 0))) := Lib.hid (by rw [← hw1, ← HRR.out]; exact heap_alloc_new wr _)
      have HB2 := Lib.hid (bs HB.out hb1)
      have HA2 := Lib.hid (carry hb1 HA.out)
      have HO2 := Lib.hid (HO.out.below hb1)
      have HGR : Hid (g < R) := Lib.hid (by have h1 := HO.out.block g rfl; have := HRR.out; omega)
      have r10 := (rowc H10.out).1
      have z0 := r10 0; have z1 := r10 1; have z2 := r10 2; have z9 := r10 9
      simp at z0 z1 z2 z9
      have y0 := (rowc HA2.out).1 0
      simp at y0
      clear hw1 hb1 r10 HA HO p0 p1 p2 p3 p4 p5 p6 p7 p8 p9
      obtain ⟨v, HV⟩ : ∃ v, Hid (lk n sl j ⟨yb, yn, ys⟩ = v) := ⟨_, Lib.hid rfl⟩
      have LS : Hid (∀ w', imem.OwnI w' (w.heap.size + 1) (some ⟨g, 0, none⟩) n n (hs n sl j) → Calls Tryz.prog 205 #[.slice (some ⟨g, 0, none⟩) n n, .agg #[.bool yb, .int .i64 yn, .string ys], .int .i64 j] w' (LkQ w' (w.heap.size + 1) (some ⟨g, 0, none⟩) n n v (hs n sl (j + 1)))) := Lib.hid (fun w' h => by
        have := linkSlot_i n n hn _ _ _ ⟨yb, yn, ys⟩ hys j w' h
        rw [HSU.out, ← HV.out]
        exact this)
      have NE := fun w => ky_eql w ⟨yb, yn, ys⟩ (ixK j)
      obtain ⟨q, HQ⟩ : ∃ q, Hid (decide ((⟨yb, yn, ys⟩ : Ky) = ixK j) = q) := ⟨_, Lib.hid rfl⟩
      rw [HQ.out] at NE
      unfold kyV ixK at NE
      simp only at NE
      cases b with
      | true =>
        have HIN : Hid (true = true ∨ (⟨yb, yn, ys⟩ : Ky) = ixK j) := Lib.hid (.inl rfl)
        by_cases htl : tl = v
        · subst htl
          go_wp2_with (fail)
          go_region_held3 (fun w' => w'.cell? ⟨R, 0, none⟩ = some (.bool yb) ∧ w'.cell? ⟨R, 1, none⟩ = some (.int .i64 yn) ∧ w'.cell? ⟨R, 2, none⟩ = some (.string ys) ∧ w'.cell? ⟨R, 9, none⟩ = some (.int .i64 tl)) (first | go_keep | exact ⟨z0, z1, z2, z9⟩) (first
            | (go_at_call 205; refine (LS.out w2.drew HO2.out).mono ?_
               rintro e w3 ⟨rfl, ho3, hg3⟩
               replace hg3 : w2.drew.grownBy w3 (some g) := hg3
               have h3 : w3.heap[R]? = _ := (hg3.block R (Array.getElem?_eq_some_iff.1 H10.out).1 (fun e => by injection e with e; have := HGR.out; omega)).trans H10.out
               have HA3 := Lib.hid ((hg3.block _ (Array.getElem?_eq_some_iff.1 HA2.out).1 (fun e => by injection e with e; have := HG.out; omega)).trans HA2.out)
               have HB3 := Lib.hid (HB2.out.drew.grown hg3 HB2.out.drew.size (fun b e => by injection e with e; have := HG.out; omega))
               have HO3 := Lib.hid ho3
               have r3 := (rowc h3).1
               have z0 := r3 0; have z1 := r3 1; have z2 := r3 2; have z9 := r3 9
               simp at z0 z1 z2 z9
               clear h3 hg3 ho3 r3))
          go_wp2_with (fail)
          go_roundg (m - j)
          case rel =>
            refine ⟨j + 1, by go_num, by omega, by omega, Lib.hid (fun i t hi ht => ?_), HA3, HO3, HB3⟩
            rcases Nat.lt_or_ge i j with h | h
            · exact HL.out i t h ht
            · obtain rfl : i = j := by omega
              rw [HTJ.out] at ht
              obtain rfl := Option.some.inj ht
              exact ⟨by simp, HV.out.symm⟩
          case measure => omega
        · have htl2 : (tl != v) = true := by simp [htl]
          have HF : Hid (false = true ↔ (rowL true n sl ∧ hs n sl m = l)) := Lib.hid ⟨fun h => (by cases h), fun h => absurd ((h.1 j _ HTJ.out).2.trans HV.out) htl⟩
          clear htl
          go_wp2_with (fail)
          go_region_held3 (fun w' => w'.cell? ⟨R, 0, none⟩ = some (.bool yb) ∧ w'.cell? ⟨R, 1, none⟩ = some (.int .i64 yn) ∧ w'.cell? ⟨R, 2, none⟩ = some (.string ys) ∧ w'.cell? ⟨R, 9, none⟩ = some (.int .i64 tl)) (first | go_keep | exact ⟨z0, z1, z2, z9⟩) (first
            | (go_at_call 205; refine (LS.out w2.drew HO2.out).mono ?_
               rintro e w3 ⟨rfl, ho3, hg3⟩
               replace hg3 : w2.drew.grownBy w3 (some g) := hg3
               have h3 : w3.heap[R]? = _ := (hg3.block R (Array.getElem?_eq_some_iff.1 H10.out).1 (fun e => by injection e with e; have := HGR.out; omega)).trans H10.out
               have HB3 := Lib.hid (HB2.out.drew.grown hg3 HB2.out.drew.size (fun b e => by injection e with e; have := HG.out; omega))
               have r3 := (rowc h3).1
               have z0 := r3 0; have z1 := r3 1; have z2 := r3 2; have z9 := r3 9
               simp at z0 z1 z2 z9
               clear h3 hg3 ho3 r3))
          go_wp2_with (fail)
          go_ret
          exact BoP.of HF.out HB3.out
      | false =>
        cases q with
        | true =>
          have HIN : Hid (false = true ∨ (⟨yb, yn, ys⟩ : Ky) = ixK j) := Lib.hid (.inr (of_decide_eq_true HQ.out))
          by_cases htl : tl = v
          · subst htl
            go_wp2_with (fail)
            go_region_held3 (fun w' => w'.cell? ⟨R, 0, none⟩ = some (.bool yb) ∧ w'.cell? ⟨R, 1, none⟩ = some (.int .i64 yn) ∧ w'.cell? ⟨R, 2, none⟩ = some (.string ys) ∧ w'.cell? ⟨R, 9, none⟩ = some (.int .i64 tl)) (first | go_keep | exact ⟨z0, z1, z2, z9⟩) (first
              | (go_at_call 205; refine (LS.out w2.drew HO2.out).mono ?_
                 rintro e w3 ⟨rfl, ho3, hg3⟩
                 replace hg3 : w2.drew.grownBy w3 (some g) := hg3
                 have h3 : w3.heap[R]? = _ := (hg3.block R (Array.getElem?_eq_some_iff.1 H10.out).1 (fun e => by injection e with e; have := HGR.out; omega)).trans H10.out
                 have HA3 := Lib.hid ((hg3.block _ (Array.getElem?_eq_some_iff.1 HA2.out).1 (fun e => by injection e with e; have := HG.out; omega)).trans HA2.out)
                 have HB3 := Lib.hid (HB2.out.drew.grown hg3 HB2.out.drew.size (fun b e => by injection e with e; have := HG.out; omega))
                 have HO3 := Lib.hid ho3
                 have r3 := (rowc h3).1
                 have z0 := r3 0; have z1 := r3 1; have z2 := r3 2; have z9 := r3 9
                 simp at z0 z1 z2 z9
                 clear h3 hg3 ho3 r3))
            go_wp2_with (fail)
            go_roundg (m - j)
            case rel =>
              refine ⟨j + 1, by go_num, by omega, by omega, Lib.hid (fun i t hi ht => ?_), HA3, HO3, HB3⟩
              rcases Nat.lt_or_ge i j with h | h
              · exact HL.out i t h ht
              · obtain rfl : i = j := by omega
                rw [HTJ.out] at ht
                obtain rfl := Option.some.inj ht
                exact ⟨by simpa using HIN.out, HV.out.symm⟩
            case measure => omega
          · have htl2 : (tl != v) = true := by simp [htl]
            have HF : Hid (false = true ↔ (rowL false n sl ∧ hs n sl m = l)) := Lib.hid ⟨fun h => (by cases h), fun h => absurd ((h.1 j _ HTJ.out).2.trans HV.out) htl⟩
            clear htl
            go_wp2_with (fail)
            go_region_held3 (fun w' => w'.cell? ⟨R, 0, none⟩ = some (.bool yb) ∧ w'.cell? ⟨R, 1, none⟩ = some (.int .i64 yn) ∧ w'.cell? ⟨R, 2, none⟩ = some (.string ys) ∧ w'.cell? ⟨R, 9, none⟩ = some (.int .i64 tl)) (first | go_keep | exact ⟨z0, z1, z2, z9⟩) (first
              | (go_at_call 205; refine (LS.out w2.drew HO2.out).mono ?_
                 rintro e w3 ⟨rfl, ho3, hg3⟩
                 replace hg3 : w2.drew.grownBy w3 (some g) := hg3
                 have h3 : w3.heap[R]? = _ := (hg3.block R (Array.getElem?_eq_some_iff.1 H10.out).1 (fun e => by injection e with e; have := HGR.out; omega)).trans H10.out
                 have HB3 := Lib.hid (HB2.out.drew.grown hg3 HB2.out.drew.size (fun b e => by injection e with e; have := HG.out; omega))
                 have r3 := (rowc h3).1
                 have z0 := r3 0; have z1 := r3 1; have z2 := r3 2; have z9 := r3 9
                 simp at z0 z1 z2 z9
                 clear h3 hg3 ho3 r3))
            go_wp2_with (fail)
            go_ret
            exact BoP.of HF.out HB3.out
        | false =>
          have HF : Hid (false = true ↔ (rowL false n sl ∧ hs n sl m = l)) := Lib.hid ⟨fun h => (by cases h), fun h => by
            rcases (h.1 j _ HTJ.out).1 with h | h
            · cases h
            · exact absurd h (of_decide_eq_false HQ.out)⟩
          go_wp2_with (fail)
          go_quiet ((fail))
          go_wp2_with (fail)
          go_ret
          exact BoP.of HF.out (bs HB2.out (kbelow_drew _ _))
    · obtain rfl : j = m := by omega
      have EQ := Lib.hid (equal_i n hn _ g n c A _ l wr HO.out (HR.out.heads.below HB.out))
      have HF : Hid (decide (hs n sl j = l) = true ↔ (rowL b n sl ∧ hs n sl j = l)) := Lib.hid (by
        rw [decide_eq_true_eq]
        exact ⟨fun h => ⟨fun i t ht => HL.out i t (by have := (List.getElem?_eq_some_iff.1 ht).1; have := hlen.out; omega) ht, h⟩, fun h => h.2⟩)
      obtain ⟨q, HQ⟩ : ∃ q, Hid (decide (hs n sl j = l) = q) := ⟨_, Lib.hid rfl⟩
      rw [HQ.out] at EQ HF
      have z1 := (rowc HA.out).1 1
      simp at z1
      go_wp2_with (fail)
      refine (EQ.out).mono ?_
      rintro e w2 ⟨rfl, hb2⟩
      have HB2 := Lib.hid (bs HB.out hb2)
      clear hb2 z1
      go_wp2_with (fail)
      go_ret
      exact BoP.of HF.out HB2.out

end Go.Proofs.YtbgffmiffmmohaaGreatDoor.tree

/-
  Whether the slots of a table are sound, each by itself and all together, of the project.
  Conditions: those that each theorem names; the package variables of the library's reading of numbers hold what the program's text lays.
-/
namespace Go.Proofs.YtbgffmiffmmohaaGreatDoor.tree
open Go.ChangeShapes Go.WideShapes Go.ChangeAt Go.RowKit
set_option linter.unusedVariables false

/-- Block B is a map of c entries that holds f. -/
def HoldsC (w : World) (B : Nat) (f : Value → Option Value) (c : Nat) : Prop :=
  ∃ es clock, w.heap[B]? = some (.map es clock) ∧ (∀ e ∈ es.toList, GK w e.key) ∧ f = raw.look es.toList ∧ es.size = c
theorem HoldsC.holds {w : World} {B c : Nat} {f : Value → Option Value} (h : HoldsC w B f c) : raw.Holds w GK B f := by
  obtain ⟨es, clock, h1, h2, h3, -⟩ := h
  exact ⟨es, clock, h1, h2, h3⟩
theorem HoldsC.made (w : World) : HoldsC (w.alloc (.map #[] 0)) w.heap.size (fun _ => none) 0 := by
  obtain ⟨es, clock, h1, h2, h3⟩ := raw.Holds.made w GK
  refine ⟨#[], 0, ?_, by simp, rfl, rfl⟩
  show (w.heap.push _)[w.heap.size]? = _
  simp
theorem HoldsC.kept {w w' : World} {B c : Nat} {f : Value → Option Value} (h : HoldsC w B f c) (hb : w'.heap[B]? = w.heap[B]?) : HoldsC w' B f c := by
  obtain ⟨es, clock, h1, h2, h3, h4⟩ := h
  exact ⟨es, clock, hb.trans h1, h2, h3, h4⟩
theorem HoldsC.update {P : Program} {w : World} {B c : Nat} {f : Value → Option Value} (h : HoldsC w B f c) {K E T : TypeId} (g : raw.Good P K GK) (ht : P.underlying T = some (.map K E)) {k v : Value} (hk : GK w k) (hf : f k = none) :
    ∃ w', (Instr.mapUpdate T (.map (some B)) k v).run P w = .ok () w' ∧ HoldsC w' B (raw.put f k v) (c + 1) ∧ w.grownBy w' (some B) := by
  obtain ⟨es, clock, hb, hall, rfl, rfl⟩ := h
  have hchk := g.check w false k hk
  have gr : ∀ (o : Obj), w.grownBy { w with heap := w.heap.setIfInBounds B o } (some B) := fun o => ⟨rfl, rfl, rfl, by simp, fun i _ hi => (MapKept.heap_set (o' := o) hb).2 i (fun e => hi (by rw [e]))⟩
  rcases raw.find g w hk es.toList 0 hall with ⟨h1, h2⟩ | ⟨j, e, h1, h2, h3, h4, h5⟩
  · have hfk := (run_findKey_eq w g.wide k es.toList).trans h1
    refine ⟨{ w with heap := w.heap.setIfInBounds B (.map (es.push { key := k, val := v, born := clock }) (clock + 1)) }, by simp [Instr.mapUpdate, run_underlying ht, MapKept.run_getObj_map hb, hchk, hfk, MapKept.run_setObj_map _ hb, Result.andThen], ⟨_, _, (MapKept.heap_set hb).1, ?_, ?_, by simp⟩, gr _⟩
    · intro x hx
      simp only [Array.toList_push, List.mem_append, List.mem_singleton] at hx
      rcases hx with hx | rfl
      · exact hall x hx
      · exact hk
    · rw [Array.toList_push]
      exact (raw.look_push es.toList ⟨k, v, clock⟩ h2).symm
  · rw [hf] at h4
    cases h4
theorem HoldsC.len {P : Program} {w : World} {B c : Nat} {f : Value → Option Value} (h : HoldsC w B f c) {K E T : TypeId} (ht : P.underlying T = some (.map K E)) (ty : TypeId) : (Builtin.len_ #[T] ty #[.map (some B)]).run P w = .ok (.int .i64 c) w := by
  obtain ⟨es, clock, hb, -, -, rfl⟩ := h
  simp [Builtin.len_, run_underlying ht, MapKept.run_getObj_map hb, goInt, Result.andThen]
/-- 'm[k] = v' of a new key at the operation. -/
theorem wpList_updateC {P : Program} (w : World) {ops : Array Oper} {rest : List Oper} {o : Oper} {a : Act} {Q : Exit → Act → World → Prop}
    (hg : o.guard = none) (m x v : Operand) (t : TypeId) (hop : o.op = Op.mapUpdate t m x v)
    {K E : TypeId} {B c : Nat} {f : Value → Option Value} (hown : HoldsC w B f c) (g : raw.Good P K GK) (ht : P.underlying t = some (.map K E))
    (hm : a.eval m = .map (some B)) {k val : Value} (hx : a.eval x = k) (hv : a.eval v = val) (hk : GK w k) (hf : f k = none)
    (hK : ∀ w', HoldsC w' B (raw.put f k val) (c + 1) → w.grownBy w' (some B) → wpList P ops Q rest (a.put o.dst undef) w') :
    wpList P ops Q (o :: rest) a w := by
  refine wpList_plain hg fun K' hK' => ?_
  obtain ⟨w', hrun, r1, r2⟩ := hown.update g ht (v := val) hk hf
  unfold Oper.wp
  simp [execOp, hop, hm, hx, hv, hrun, Result.andThen]
  exact hK' _ _ (hK w' r1 r2)

theorem val_zero {k n : Int} {s : ByteArray} {x : Int} {ks : List Ky} {vs : List Tr} (hk : k = 0) : valB (.mk k n s x ks vs) = true ↔ zeroT (.mk k n s x ks vs) := by
  subst hk
  unfold valB lightB
  rw [wgt_not (by decide), snd_not (by decide)]
  unfold zeroT restB scalB
  simp
  constructor
  · rintro ⟨⟨h1, h2, h3⟩, h4⟩; exact ⟨h4, h1, h2, h3⟩
  · rintro ⟨h4, h1, h2, h3⟩; exact ⟨⟨h1, h2, h3⟩, h4⟩

set_option maxRecDepth 100000 in
set_option maxHeartbeats 4000000 in
theorem soundSlots_i {l : List Int} {sl : List Sl} {b : Bool} {A : Option Addr} {n c : Nat} {B : Option Addr} {m d : Nat} {x k : Int} (w : World) {S : Nat → Prop} (hr : TbIn w S l sl A n c B m d x k) (hm : m ≤ 1048576) (hst : ∀ (j : Nat) t, sl[j]? = some t → t.key.str.size ≤ 140737488355328 ∧ tot t.val ≤ 281474976710656) (hE : prs.Env w) :
    Calls Tryz.prog 153 #[tbV b A n c B m d x k] w (BoP w (rowS x sl ∧ ((livK sl).length : Int) = k)) := by
  have HR := Lib.hid hr
  have HST := Lib.hid hst
  have HEN := Lib.hid hE
  have hlen : Hid (sl.length = m) := Lib.hid hr.len
  clear hr hst hE
  have hmm := @run_makeMap Tryz.prog
  go_enter Tryz.func153, Tryz.ntmps153
  go_wp2_with (fail)
  clear hmm
  go_loopg [10] (m + 1) (fun gk i wr => ∃ (j : Nat) (e : Value → Option Value), i = .int .i64 j ∧ gk + j = m + 1 ∧ j ≤ m ∧ Hid (∀ (i : Nat) t, i < j → sl[i]? = some t → soundS x sl i t) ∧
    Hid (wr.heap[w.heap.size]? = some (.cells #[.bool b, .slice A n c, .slice B m d, .int .i64 x, .int .i64 k] IT (0, 0))) ∧ Hid (SeenK (livK (sl.take j)) e) ∧ Hid (HoldsC wr (w.heap.size + 1) e (livK (sl.take j)).length) ∧ Hid (Below w.heap.size w wr))
  case atStart =>
    have h1 := HoldsC.made (w.alloc (.cells #[.bool b, .slice A n c, .slice B m d, .int .i64 x, .int .i64 k] IT))
    have z1 : (w.alloc (.cells #[.bool b, .slice A n c, .slice B m d, .int .i64 x, .int .i64 k] IT)).heap.size = w.heap.size + 1 := by simp
    rw [z1] at h1
    exact ⟨0, fun _ => none, rfl, by omega, by omega, Lib.hid (fun i t h => absurd h (by omega)), Lib.hid (heap_alloc2_old w _ _), Lib.hid (fun y => by simp [livK, liv]), Lib.hid h1, Lib.hid (b2 _ _ _)⟩
  case round =>
    obtain ⟨j, e, rfl, hgj, hjm, HL, HA, HS, HM, HB⟩ := hrel
    by_cases hlt : j < m
    · obtain ⟨t, htj⟩ : ∃ t, sl[j]? = some t := ⟨_, List.getElem?_eq_getElem (by have := hlen.out; omega)⟩
      obtain ⟨a, k1, n1, s1, x1, ks1, vs1, A1, c1, rfl, -, hyb, hlb, hv, hT, hcell⟩ := HR.out.slots j t htj
      have hc10 := hcell.stays (w' := wr) (fun hl => HB.out.block _ hl)
      have hys := HST.out j t htj
      have HLT := Lib.hid (livK_take htj)
      have HTJ := Lib.hid htj
      obtain ⟨⟨yb, yn, ys⟩, tv, tb, tl⟩ := t
      simp only at hyb hlb hv hT hc10 hys
      subst hv
      obtain ⟨q1, HQ1⟩ : ∃ q, Hid (belowB ⟨yb, yn, ys⟩ x = q) := ⟨_, Lib.hid rfl⟩
      obtain ⟨q2, HQ2⟩ : ∃ q, Hid (valB (.mk k1 n1 s1 x1 ks1 vs1) = q) := ⟨_, Lib.hid rfl⟩
      have KB : Hid (∀ w' : World, Below w.heap.size w w' → Calls Tryz.prog 204 #[.agg #[.bool yb, .int .i64 yn, .string ys], .int .i64 x] w' (BoQ w' q1)) := Lib.hid fun w' hb' => HQ1.out ▸ keyBelow_i ⟨yb, yn, ys⟩ (by have := hys.1; show ys.size ≤ _; have : ys.size ≤ 140737488355328 := this; omega) x w' (HEN.out.stays hb')
      have IV0 : Hid (∀ w' : World, Below w.heap.size w w' → Calls Tryz.prog 90 #[vV k1 n1 s1 x1 A1 vs1.length c1] w' (BoQ w' q2)) := Lib.hid fun w' hb' => HQ2.out ▸ isValue_i _ hys.2 w' S _ (HEN.out.stays hb') (hT.below' hb')
      obtain ⟨L1, HL1⟩ : ∃ L, Hid (vs1.length = L) := ⟨_, Lib.hid rfl⟩
      rw [HL1.out] at hc10 IV0
      unfold vV at IV0
      obtain ⟨p0, p1, p2, p3, p4, p5, p6, p7, p8, p9⟩ := hc10
      simp only at p0 p1 p2
      clear hyb hlb hT hcell htj hys
      go_upto_region 5 with fail
      obtain ⟨R, HRR⟩ : ∃ R, Hid (wr.heap.size = R) := ⟨_, Lib.hid rfl⟩
      rw [HRR.out]
      generalize hw1 : wr.alloc (.cells #[.bool yb, .int .i64 yn, .string ys, .int .i64 k1, .int .i64 n1, .string s1, .int .i64 x1, .slice A1 L1 c1, .bool tb, .int .i64 tl] 112) = w2
      have hb1 : Below wr.heap.size wr w2 := hw1 ▸ b1 wr _
      have H10 : Hid (w2.heap[R]? = some (.cells #[.bool yb, .int .i64 yn, .string ys, .int .i64 k1, .int .i64 n1, .string s1, .int .i64 x1, .slice A1 L1 c1, .bool tb, .int .i64 tl] 112 (0, 0))) := Lib.hid (by rw [← hw1, ← HRR.out]; exact heap_alloc_new wr _)
      have HMR : Hid (w.heap.size + 1 < R) := Lib.hid (by have := HM.out.holds.lt; have := HRR.out; omega)
      replace HM := Lib.hid (HM.out.kept (hb1.block _ HM.out.holds.lt))
      replace HB := Lib.hid (bs HB.out hb1)
      replace HA := Lib.hid (carry hb1 HA.out)
      have r10 := (rowc H10.out).1
      have z0 := r10 0; have z1 := r10 1; have z2 := r10 2
      simp at z0 z1 z2
      have y3 := (rowc HA.out).1 3
      simp at y3
      clear hw1 hb1 r10 p0 p1 p2 p3 p4 p5 p6 p7 p8 p9
      go_wp2_with (fail)
      refine (KB.out _ HB.out).mono ?_
      rintro e1 w3 ⟨rfl, hb1⟩
      replace HM := Lib.hid (HM.out.kept (hb1.block _ HM.out.holds.lt))
      replace HB := Lib.hid (bs HB.out hb1)
      replace HA := Lib.hid (carry hb1 HA.out)
      replace H10 := Lib.hid (carry hb1 H10.out)
      have r10 := (rowc H10.out).1
      clear z0 z1 z2 y3 hb1
      have z0 := r10 0; have z1 := r10 1; have z2 := r10 2; have z3 := r10 3; have z4 := r10 4; have z5 := r10 5; have z6 := r10 6; have z7 := r10 7; have z8 := r10 8
      simp at z0 z1 z2 z3 z4 z5 z6 z7 z8
      clear r10
      cases q1 with
      | false =>
        have HF : Hid (false = true ↔ (rowS x sl ∧ ((livK sl).length : Int) = k)) := Lib.hid ⟨fun h => (by cases h), fun h => by
          have h1 := (h.1 j _ HTJ.out).1
          have h2 := HQ1.out
          unfold belowB at h2
          rw [h2] at h1
          cases h1⟩
        go_wp2_with (fail)
        go_ret
        exact BoP.of HF.out HB.out
      | true =>
        have hkk : ∀ w' : World, GK w' (.agg #[.bool yb, .int .i64 yn, .string ys]) := fun _ => ⟨⟨yb, yn, ys⟩, rfl⟩
        by_cases hsn : (⟨yb, yn, ys⟩ : Ky) ∈ livK (sl.take j)
        · have HEK : Hid (e (.agg #[.bool yb, .int .i64 yn, .string ys]) = some (.bool true)) := Lib.hid ((HS.out ⟨yb, yn, ys⟩).trans (if_pos hsn))
          cases tb with
          | true =>
            have HF : Hid (false = true ↔ (rowS x sl ∧ ((livK sl).length : Int) = k)) := Lib.hid ⟨fun h => (by cases h), fun h => absurd hsn ((h.1 j _ HTJ.out).2.1 rfl)⟩
            clear hsn
            go_wp2_with (first | (at_lookup; refine raw.wpList_lookup_w _ (by rfl) _ _ 214 false rfl HM.out.holds good_ky Tryz.underlying214 (kzero _) rfl rfl (hkk _) HEK.out (kgot_some _ _) ?_) | fail)
            go_ret
            exact BoP.of HF.out HB.out
          | false =>
            clear hsn
            by_cases hk : k1 = 0
            · have HVZ : Hid (q2 = true ↔ zeroT (.mk k1 n1 s1 x1 ks1 vs1)) := Lib.hid (by rw [← HQ2.out]; exact val_zero hk)
              subst hk
              go_wp2_with (first | (at_lookup; refine raw.wpList_lookup_w _ (by rfl) _ _ 214 false rfl HM.out.holds good_ky Tryz.underlying214 (kzero _) rfl rfl (hkk _) HEK.out (kgot_some _ _) ?_) | fail)
              refine (IV0.out _ HB.out).mono ?_
              rintro e2 w4 ⟨rfl, hb1⟩
              replace HM := Lib.hid (HM.out.kept (hb1.block _ HM.out.holds.lt))
              replace HB := Lib.hid (bs HB.out hb1)
              replace HA := Lib.hid (carry hb1 HA.out)
              clear hb1 z0 z1 z2 z3 z4 z5 z6 z7 z8
              cases q2 with
              | false =>
                have HF : Hid (false = true ↔ (rowS x sl ∧ ((livK sl).length : Int) = k)) := Lib.hid ⟨fun h => (by cases h), fun h => absurd (HVZ.out.2 ((h.1 j _ HTJ.out).2.2 rfl)) (by decide)⟩
                go_wp2_with (fail)
                go_ret
                exact BoP.of HF.out HB.out
              | true =>
                have HL2 : Hid (livK (sl.take (j + 1)) = livK (sl.take j)) := Lib.hid (by have := HLT.out; simpa using this)
                have HVT : Hid (zeroT (.mk 0 n1 s1 x1 ks1 vs1)) := Lib.hid (HVZ.out.1 rfl)
                have HQT : Hid (belowB ⟨yb, yn, ys⟩ x = true) := Lib.hid HQ1.out
                go_wp2_with (fail)
                go_roundg (m - j)
                case rel =>
                  refine ⟨j + 1, e, by go_num, by omega, by omega, Lib.hid (fun i t hi ht => ?_), HA, Lib.hid (by rw [HL2.out]; exact HS.out), Lib.hid (by rw [HL2.out]; exact HM.out), HB⟩
                  rcases Nat.lt_or_ge i j with h | h
                  · exact HL.out i t h ht
                  · obtain rfl : i = j := by omega
                    rw [HTJ.out] at ht
                    obtain rfl := Option.some.inj ht
                    exact ⟨HQ1.out, fun h => (by cases h), fun _ => HVT.out⟩
                case measure => omega
            · have hk2 : (k1 != 0) = true := by simp [hk]
              have HF : Hid (false = true ↔ (rowS x sl ∧ ((livK sl).length : Int) = k)) := Lib.hid ⟨fun h => (by cases h), fun h => absurd ((h.1 j _ HTJ.out).2.2 rfl).1 hk⟩
              clear hk
              go_wp2_with (first | (at_lookup; refine raw.wpList_lookup_w _ (by rfl) _ _ 214 false rfl HM.out.holds good_ky Tryz.underlying214 (kzero _) rfl rfl (hkk _) HEK.out (kgot_some _ _) ?_) | fail)
              go_ret
              exact BoP.of HF.out HB.out
        · have HEK : Hid (e (.agg #[.bool yb, .int .i64 yn, .string ys]) = none) := Lib.hid ((HS.out ⟨yb, yn, ys⟩).trans (if_neg hsn))
          cases tb with
          | true =>
            have HSN := Lib.hid hsn
            have HL2 : Hid (livK (sl.take (j + 1)) = livK (sl.take j) ++ [⟨yb, yn, ys⟩]) := Lib.hid (by have := HLT.out; simpa using this)
            clear hsn
            go_wp2_with (first
              | (at_lookup; refine raw.wpList_lookup_w _ (by rfl) _ _ 214 false rfl HM.out.holds good_ky Tryz.underlying214 (kzero _) rfl rfl (hkk _) HEK.out (kgot_none _) ?_)
              | (at_mapUpdate; refine wpList_updateC _ rfl _ _ _ 214 rfl HM.out good_ky Tryz.underlying214 rfl rfl rfl (hkk _) HEK.out ?_
                 intro w4 hm14 hgr4
                 have HM4 := Lib.hid hm14
                 have HGR4 := Lib.hid hgr4
                 clear hm14 hgr4)
              | fail)
            go_roundg (m - j)
            case rel =>
              refine ⟨j + 1, _, by go_num, by omega, by omega, Lib.hid (fun i t hi ht => ?_), Lib.hid ((HGR4.out.block _ (Array.getElem?_eq_some_iff.1 HA.out).1 (fun h => by injection h with h; omega)).trans HA.out), Lib.hid (by rw [HL2.out]; exact HS.out.push _), Lib.hid (by rw [HL2.out, List.length_append]; exact HM4.out), Lib.hid (HB.out.grown HGR4.out HB.out.size (fun h e => by injection e with e; omega))⟩
              rcases Nat.lt_or_ge i j with h | h
              · exact HL.out i t h ht
              · obtain rfl : i = j := by omega
                rw [HTJ.out] at ht
                obtain rfl := Option.some.inj ht
                exact ⟨HQ1.out, fun _ => HSN.out, fun h => (by cases h)⟩
            case measure => omega
          | false =>
            clear hsn
            by_cases hk : k1 = 0
            · have HVZ : Hid (q2 = true ↔ zeroT (.mk k1 n1 s1 x1 ks1 vs1)) := Lib.hid (by rw [← HQ2.out]; exact val_zero hk)
              subst hk
              go_wp2_with (first | (at_lookup; refine raw.wpList_lookup_w _ (by rfl) _ _ 214 false rfl HM.out.holds good_ky Tryz.underlying214 (kzero _) rfl rfl (hkk _) HEK.out (kgot_none _) ?_) | fail)
              refine (IV0.out _ HB.out).mono ?_
              rintro e2 w4 ⟨rfl, hb1⟩
              replace HM := Lib.hid (HM.out.kept (hb1.block _ HM.out.holds.lt))
              replace HB := Lib.hid (bs HB.out hb1)
              replace HA := Lib.hid (carry hb1 HA.out)
              clear hb1 z0 z1 z2 z3 z4 z5 z6 z7 z8
              cases q2 with
              | false =>
                have HF : Hid (false = true ↔ (rowS x sl ∧ ((livK sl).length : Int) = k)) := Lib.hid ⟨fun h => (by cases h), fun h => absurd (HVZ.out.2 ((h.1 j _ HTJ.out).2.2 rfl)) (by decide)⟩
                go_wp2_with (fail)
                go_ret
                exact BoP.of HF.out HB.out
              | true =>
                have HL2 : Hid (livK (sl.take (j + 1)) = livK (sl.take j)) := Lib.hid (by have := HLT.out; simpa using this)
                have HVT : Hid (zeroT (.mk 0 n1 s1 x1 ks1 vs1)) := Lib.hid (HVZ.out.1 rfl)
                have HQT : Hid (belowB ⟨yb, yn, ys⟩ x = true) := Lib.hid HQ1.out
                go_wp2_with (fail)
                go_roundg (m - j)
                case rel =>
                  refine ⟨j + 1, e, by go_num, by omega, by omega, Lib.hid (fun i t hi ht => ?_), HA, Lib.hid (by rw [HL2.out]; exact HS.out), Lib.hid (by rw [HL2.out]; exact HM.out), HB⟩
                  rcases Nat.lt_or_ge i j with h | h
                  · exact HL.out i t h ht
                  · obtain rfl : i = j := by omega
                    rw [HTJ.out] at ht
                    obtain rfl := Option.some.inj ht
                    exact ⟨HQ1.out, fun h => (by cases h), fun _ => HVT.out⟩
                case measure => omega
            · have hk2 : (k1 != 0) = true := by simp [hk]
              have HF : Hid (false = true ↔ (rowS x sl ∧ ((livK sl).length : Int) = k)) := Lib.hid ⟨fun h => (by cases h), fun h => absurd ((h.1 j _ HTJ.out).2.2 rfl).1 hk⟩
              clear hk
              go_wp2_with (first | (at_lookup; refine raw.wpList_lookup_w _ (by rfl) _ _ 214 false rfl HM.out.holds good_ky Tryz.underlying214 (kzero _) rfl rfl (hkk _) HEK.out (kgot_none _) ?_) | fail)
              go_ret
              exact BoP.of HF.out HB.out
    · obtain rfl : j = m := by omega
      have hln := fun ty => HM.out.len Tryz.underlying214 ty
      have e1 : sl.take j = sl := by rw [← hlen.out, List.take_length]
      rw [e1] at hln
      obtain ⟨c2, HC⟩ : ∃ c2, Hid ((livK sl).length = c2) := ⟨_, Lib.hid rfl⟩
      rw [HC.out] at hln
      have HF : Hid ((k == (c2 : Int)) = true ↔ (rowS x sl ∧ ((livK sl).length : Int) = k)) := Lib.hid (by
        rw [HC.out, beq_iff_eq]
        exact ⟨fun h => ⟨fun i t ht => HL.out i t (by have := (List.getElem?_eq_some_iff.1 ht).1; have := hlen.out; omega) ht, h.symm⟩, fun h => h.2.symm⟩)
      have z4 := (rowc HA.out).1 4
      simp at z4
      clear e1
      go_wp2_with (fail)
      go_ret
      exact BoP.of HF.out HB.out

end Go.Proofs.YtbgffmiffmmohaaGreatDoor.tree

/-
  Whether a table is sound, of the project.
  Conditions: those that each theorem names; the package variables of the library's reading of numbers hold what the program's text lays.
-/
namespace Go.Proofs.YtbgffmiffmmohaaGreatDoor.tree
open Go.ChangeShapes Go.WideShapes Go.ChangeAt Go.RowKit
set_option linter.unusedVariables false

/-- The bounds that a law's size gives. -/
structure SlB (sl : List Sl) : Prop where
  str : ∀ (j : Nat) t, sl[j]? = some t → t.key.str.size ≤ 140737488355328
  tot : ∀ (j : Nat) t, sl[j]? = some t → tot t.val ≤ 281474976710656

set_option maxHeartbeats 1000000 in
theorem isTable_i {l : List Int} {sl : List Sl} {b : Bool} {A : Option Addr} {n c : Nat} {B : Option Addr} {m d : Nat} {x k : Int} (w : World) {S : Nat → Prop} (hr : TbIn w S l sl A n c B m d x k) (hn : n ≤ 1048576) (hm : m ≤ 1048576) (hst : SlB sl) (hE : prs.Env w) :
    Calls Tryz.prog 71 #[tbV b A n c B m d x k] w (BoP w (tabOk b l sl x k)) := by
  have hln : l.length = n := hr.heads.len
  have hlm : sl.length = m := hr.len
  have HR : Hid (∀ w', Below w.heap.size w w' → TbIn w' S l sl A n c B m d x k) := Lib.hid fun w' hb => ⟨hr.heads.below hb, hr.hn, hr.len, hr.cap, hr.slots.below hb, hr.next, hr.count⟩
  have HEN := Lib.hid hE
  have HST := Lib.hid hst
  obtain ⟨q, HQ⟩ : ∃ q, Hid (nums.inr x 0 1000000001 = q) := ⟨_, Lib.hid rfl⟩
  have IR := fun w => HQ.out ▸ nums.implInRange x 0 1000000001 w
  have HT : Hid (tabOk b l sl x k ↔ (q = true ∧ sizeP b n m x ∧ (rowS x sl ∧ ((livK sl).length : Int) = k) ∧ (rowL b n sl ∧ hs n sl m = l))) := Lib.hid (by
    unfold tabOk
    rw [hln, hlm, ← HQ.out]
    unfold nums.inr
    simp)
  clear hr hE hst
  clear hln hlm
  cases q with
  | false =>
    have HF : Hid (false = true ↔ tabOk b l sl x k) := Lib.hid (by rw [HT.out]; simp)
    go_enter Tryz.func71, Tryz.ntmps71
    go_wp2_with (fail)
    refine (IR _).mono ?_
    rintro e w1 ⟨rfl, rfl⟩
    go_wp2_with (fail)
    go_ret
    exact BoP.of HF.out (b1 _ _)
  | true =>
    have hx : 0 ≤ x := by have := HQ.out; unfold nums.inr at this; simp at this; omega
    have RS := fun w => rightSize_i b A n c B m d x k hn hm hx w
    have SS : Hid (∀ w', Below w.heap.size w w' → Calls Tryz.prog 153 #[tbV b A n c B m d x k] w' (BoP w' (rowS x sl ∧ ((livK sl).length : Int) = k))) := Lib.hid fun w' hb => soundSlots_i w' (HR.out w' hb) hm (fun j t h => ⟨HST.out.str j t h, HST.out.tot j t h⟩) (HEN.out.stays hb)
    have RL : Hid (∀ w', Below w.heap.size w w' → Calls Tryz.prog 154 #[tbV b A n c B m d x k] w' (BoP w' (rowL b n sl ∧ hs n sl m = l))) := Lib.hid fun w' hb => rightLinks_i w' (HR.out w' hb) hn hm HST.out.str
    clear hx
    go_enter Tryz.func71, Tryz.ntmps71
    go_wp2_with (fail)
    refine (IR _).mono ?_
    rintro e w1 ⟨rfl, rfl⟩
    go_wp2_with (fail)
    refine (RS _).mono ?_
    rintro e w2 ⟨q1, rfl, h1, hb⟩
    have HA := Lib.hid (carry hb (heap_alloc_new _ _))
    have HB := Lib.hid (bs (b1 _ _) hb)
    have H1 := Lib.hid h1
    have r := (rowc HA.out).1
    have z0 := r 0; have z1 := r 1; have z2 := r 2; have z3 := r 3; have z4 := r 4
    simp at z0 z1 z2 z3 z4
    clear hb h1 r
    cases q1 with
    | false =>
      go_wp2_with (fail)
      go_ret
      exact BoP.of (by rw [HT.out]; have := H1.out; simp at this; simp [this]) HB.out
    | true =>
      go_wp2_with (fail)
      refine (SS.out _ HB.out).mono ?_
      rintro e w3 ⟨q2, rfl, h2, hb⟩
      replace HA := Lib.hid (carry hb HA.out)
      replace HB := Lib.hid (bs HB.out hb)
      have H2 := Lib.hid h2
      clear z0 z1 z2 z3 z4
      have r := (rowc HA.out).1
      have z0 := r 0; have z1 := r 1; have z2 := r 2; have z3 := r 3; have z4 := r 4
      simp at z0 z1 z2 z3 z4
      clear hb h2 r
      cases q2 with
      | false =>
        go_wp2_with (fail)
        go_ret
        exact BoP.of (by rw [HT.out]; have := H2.out; simp at this; simp only [Bool.false_eq_true, false_iff]; rintro ⟨-, -, h, -⟩; exact this h.1 h.2) HB.out
      | true =>
        go_wp2_with (fail)
        refine (RL.out _ HB.out).mono ?_
        rintro e w4 ⟨q3, rfl, h3, hb⟩
        replace HB := Lib.hid (bs HB.out hb)
        have H3 := Lib.hid h3
        clear z0 z1 z2 z3 z4 hb h3
        go_wp2_with (fail)
        go_ret
        exact BoP.of (by rw [HT.out, H3.out]; exact ⟨fun h => ⟨trivial, H1.out.1 trivial, H2.out.1 trivial, h⟩, fun h => h.2.2.2⟩) HB.out

end Go.Proofs.YtbgffmiffmmohaaGreatDoor.tree

