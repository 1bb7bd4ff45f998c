/-
  Looking for a key among the items of the other array, each of which is gone through once.
  Conditions: those that each theorem names.
-/
import Derived.Test.YtdglmnmalfpipaaGreatDoorVB14
import Derived.Test.YtdglmnmalfpipaaGreatDoorVB8
import Derived.BigQuiet
import Derived.Deep.QuietTactic
namespace Go.Proofs.YtdglmnmalfpipaaGreatDoor.tree
open Go.ChangeShapes Go.WideShapes Go.ChangeAt Go.RowKit
set_option linter.unusedVariables false

abbrev MG : TypeId := 222
theorem izero (w : World) : (zeroValue 3).run Tryz.prog w = .ok (.int .i64 0) w := by kernel_rfl
theorem zgot_some (z v : Value) : raw.Got true z (some v) = .tuple #[v, .bool true] := rfl
theorem zgot_none (z : Value) : raw.Got true z none = .tuple #[z, .bool false] := rfl
/-- The rows of a matching in the block of the list: the number passed is p. -/
structure MAt (w : World) (g m : Nat) (cur : Array Value) (p : Nat) (arr : Array Value) : Prop where
  blk : w.heap[g]? = some (.cells arr MG (0, 0))
  size : arr.size = cur.size
  at_ : arr[m * 4 + 2]? = some (.int .i64 p)
  other : ∀ j, j ≠ m * 4 + 2 → arr[j]? = cur[j]?
def FindQ (w : World) (g m mb : Nat) (cur : Array Value) (ks : List Ky) (y : Ky) (e : Ending) (w' : World) : Prop :=
  ∃ (i : Int) (b : Bool) (p : Nat) (arr : Array Value) (f : Value → Option Value), e = .returned (.tuple #[.int .i64 i, .bool b]) ∧ (b = true → i = pos ks y 0 ∧ pos ks y 0 ≠ -1) ∧ (b = false → pos ks y 0 = -1) ∧
    p ≤ ks.length ∧ MAt w' g m cur p arr ∧ raw.Holds w' GK mb f ∧ FirstK (ks.take p) f ∧ Fr (fun b => b = g ∨ b = mb) w w'

theorem lookK {w : World} {mb : Nat} {f : Value → Option Value} {l : List Ky} (h : raw.Holds w GK mb f) (hf : FirstK l f) (y : Ky) :
    (Instr.lookup 220 (.map (some mb)) (kyV y) true).run Tryz.prog w = .ok (if pos l y 0 = -1 then .tuple #[.int .i64 0, .bool false] else .tuple #[.int .i64 (pos l y 0), .bool true]) w := by
  have := h.lookup good_ky Tryz.underlying220 (izero w) (k := kyV y) ⟨y, rfl⟩ true
  rw [this, hf y]
  split <;> rfl

theorem MAt.set {w w1 : World} {g m p p1 : Nat} {cur arr : Array Value} (h : MAt w g m cur p arr) (hg : w1.heap[g]? = some (.cells arr MG (0, 0))) : MAt (w1.setCell ⟨g, m * 4 + 2, none⟩ (.int .i64 p1)) g m cur p1 (arr.setIfInBounds (m * 4 + 2) (.int .i64 p1)) where
  blk := set_heap hg _ _
  size := by rw [Array.size_setIfInBounds]; exact h.size
  at_ := by
    have := (Array.getElem?_eq_some_iff.1 h.at_).1
    rw [Array.getElem?_setIfInBounds_self_of_lt this]
  other := fun j hj => by rw [Array.getElem?_setIfInBounds_ne (by omega)]; exact h.other j hj
theorem pos_snoc {l : List Ky} {y z : Ky} {p : Nat} (hz : l[p]? = some z) : pos (l.take (p + 1)) y 0 = if pos (l.take p) y 0 = -1 then (if z = y then (p : Int) else -1) else pos (l.take p) y 0 := by
  have hl := (List.getElem?_eq_some_iff.1 hz).1
  rw [List.take_add_one, hz]
  show pos (l.take p ++ [z]) y 0 = _
  rw [pos_app, List.length_take, Nat.min_eq_left (by omega), Nat.zero_add]

def CutW (w : World) (b : Bool) (v : Value) (wx : World) : Prop := v = .bool b ∧ Below w.heap.size w wx ∧ wx.heap = w.heap
theorem take_snoc {α : Type} {l : List α} {q : Nat} {y : α} (h : l[q]? = some y) : l.take (q + 1) = l.take q ++ [y] := by rw [List.take_add_one, h]; rfl

set_option maxHeartbeats 2000000 in
set_option maxRecDepth 100000 in
theorem findM {w : World} {g m mb p : Nat} {cur : Array Value} {B' : Option Addr} {L c : Nat} {ks : List Ky} {vs : List Tr} {S : Nat → Prop} {f : Value → Option Value} (y : Ky)
    (hg : w.heap[g]? = some (.cells cur MG (0, 0))) (h1 : cur[m * 4 + 1]? = some (.slice B' L c)) (h2 : cur[m * 4 + 2]? = some (.int .i64 p)) (h3 : cur[m * 4 + 3]? = some (.map (some mb)))
    (hin : IsIn w S ks vs B') (hL : vs.length = L) (hp : p ≤ L) (hm : raw.Holds w GK mb f) (hf : FirstK (ks.take p) f) (hS : ∀ b, S b → b ≠ g ∧ b ≠ mb) :
    Calls Tryz.prog 232 #[.pointer (some ⟨g, m * 4, none⟩), kyV y] w (FindQ w g m mb cur ks y) := by
  have hmL : L ≤ maxLen := by rw [← hL]; exact hin.2.1
  unfold maxLen at hmL
  have hkl : ks.length = L := by rw [← hL]; exact hin.1
  have hgl : g < w.heap.size := (Array.getElem?_eq_some_iff.1 hg).1
  have hml : mb < w.heap.size := hm.lt
  have hgm : g ≠ mb := fun e => by
    obtain ⟨es, ck, hb, -⟩ := hm
    rw [← e, hg] at hb
    cases hb
  have hm4 : m * 4 + 3 < cur.size := (Array.getElem?_eq_some_iff.1 h3).1
  obtain ⟨yb, yn, ys⟩ := y
  obtain ⟨w0, HW0⟩ : ∃ w0, Hid (w.alloc (.cells #[.bool yb, .int .i64 yn, .string ys] IK) = w0) := ⟨_, Lib.hid rfl⟩
  have hg0 : w0.heap[g]? = some (.cells cur MG (0, 0)) := by rw [← HW0.out]; exact keepAlloc hg
  have hm0 : raw.Holds w0 GK mb f := by rw [← HW0.out]; exact hm.kept (Below.heap_alloc w _ mb hml) (fun _ hx => hx)
  have hb0 : Below w.heap.size w w0 := by rw [← HW0.out]; exact b1 _ _
  have hk0 : w0.heap[w.heap.size]? = some (.cells #[.bool yb, .int .i64 yn, .string ys] IK (0, 0)) := by rw [← HW0.out]; exact heap_alloc_new w _
  have LK0 := lookK (w := w0.drew) hm0 hf ⟨yb, yn, ys⟩
  obtain ⟨r0, -⟩ := rowc hg0
  have c1 := (r0 _).trans h1
  have c2 := (r0 _).trans h2
  have c3 := (r0 _).trans h3
  obtain ⟨rk, -⟩ := rowc hk0
  unfold kyV at LK0 ⊢
  have HIN := Lib.hid hin
  have HF := Lib.hid hf
  have HS := Lib.hid hS
  have HKL := Lib.hid hkl
  have HL := Lib.hid hL
  have HC : Hid (cur[m * 4 + 1]? = some (.slice B' L c) ∧ cur[m * 4 + 3]? = some (.map (some mb))) := Lib.hid ⟨h1, h3⟩
  have MA0 : Hid (MAt w0 g m cur p cur) := Lib.hid ⟨hg0, rfl, h2, fun _ _ => rfl⟩
  have HK0 := Lib.hid hk0
  have HM0 := Lib.hid hm0
  have HFR0 : Hid (Fr (fun b => b = g ∨ b = mb) w w0) := Lib.hid (Fr.of hb0)
  obtain ⟨P, HPP⟩ : ∃ P, Hid (pos (ks.take p) ⟨yb, yn, ys⟩ 0 = P) := ⟨_, Lib.hid rfl⟩
  rw [HPP.out] at LK0
  obtain ⟨bt, HBT⟩ : ∃ b : Bool, Hid (b = !decide (P = -1)) := ⟨_, Lib.hid rfl⟩
  obtain ⟨ix, HIX⟩ : ∃ i : Int, Hid (i = if P = -1 then 0 else P) := ⟨_, Lib.hid rfl⟩
  have LK1 : (Instr.lookup 220 (.map (some mb)) (.agg #[.bool yb, .int .i64 yn, .string ys]) true).run Tryz.prog w0.drew = .ok (.tuple #[.int .i64 ix, .bool bt]) w0.drew := by
    rw [LK0, HBT.out, HIX.out]
    by_cases h : P = -1
    · rw [if_pos h, if_pos h, decide_eq_true h]; rfl
    · rw [if_neg h, if_neg h, decide_eq_false h]; rfl
  clear hg hin hm hf hS hkl hL hg0 hk0 hm0 hb0 h1 h2 h3 r0 LK0
  go_enter Tryz.func232, Tryz.ntmps232
  go_wp2_with (fail)
  rw [HW0.out]
  go_region
  go_wp2_with (fail)
  clear LK1 c1 c2 c3 rk
  go_loopg [6, 7] (L + 1 - p) (fun gk iv bv wr => ∃ (q : Nat) (arr : Array Value) (fn : Value → Option Value) (b : Bool) (i : Int), iv = .int .i64 i ∧ bv = .bool b ∧ gk + q = L + 1 ∧ q ≤ L ∧ Hid (b = true → i = pos (ks.take q) ⟨yb, yn, ys⟩ 0 ∧ pos (ks.take q) ⟨yb, yn, ys⟩ 0 ≠ -1) ∧ Hid (b = false → pos (ks.take q) ⟨yb, yn, ys⟩ 0 = -1) ∧ Hid (MAt wr g m cur q arr) ∧ Hid (raw.Holds wr GK mb fn) ∧
    Hid (FirstK (ks.take q) fn) ∧ Hid (Fr (fun b => b = g ∨ b = mb) w wr) ∧ Hid (wr.heap[w.heap.size]? = some (.cells #[.bool yb, .int .i64 yn, .string ys] IK (0, 0))))
  case atStart =>
    refine ⟨p, cur, f, bt, ix, rfl, rfl, by omega, hp, Lib.hid (fun h => ?_), Lib.hid (fun h => ?_), Lib.hid ⟨MA0.out.blk, rfl, MA0.out.at_, fun _ _ => rfl⟩, Lib.hid HM0.out, HF, Lib.hid ?_, Lib.hid HK0.out⟩
    · rw [HBT.out] at h
      have h' : ¬ P = -1 := by simpa using h
      rw [HPP.out, HIX.out, if_neg h']
      exact ⟨rfl, h'⟩
    · rw [HBT.out] at h
      have h' : P = -1 := by simpa using h
      rw [HPP.out, h']
    · exact HFR0.out.trans (Fr.of ((Below.refl _ _).drew))
  case round =>
    obtain ⟨q, arr, fn, b, i, rfl, rfl, hgq, hqL, HT, HN, HA, HM, HFF, HFR, HK⟩ := hrel
    by_cases hgo : b = false ∧ q < L
    · obtain ⟨rfl, hlt⟩ := hgo
      obtain ⟨rw1, -⟩ := rowc HA.out.blk
      have a1 : wr.cell? ⟨g, m * 4 + 1, none⟩ = some (.slice B' L c) := (rw1 _).trans ((HA.out.other _ (by omega)).trans HC.out.1)
      have a2 : wr.cell? ⟨g, m * 4 + 2, none⟩ = some (.int .i64 q) := (rw1 _).trans HA.out.at_
      have hd : decide ((q : Int) < (L : Int)) = true := by simpa using hlt
      clear rw1
      go_upto_region 2 with fail
      go_cut [33] (fun v wx => CutW wr true v wx)
      case first =>
        go_quiet (fail)
        all_goals
          go_wp2_with (fail)
          go_meet
          exact ⟨rfl, kbelow_drew _ _, kdrew_heap _ _⟩
      case rest =>
        obtain ⟨rfl, hbc, hhp⟩ := hcut
        clear a1 a2 hd
        have HFc := Lib.hid (HFR.out.trans (Fr.of hbc))
        have HAc : Hid (MAt wc g m cur q arr) := Lib.hid ⟨by rw [hhp]; exact HA.out.blk, HA.out.size, HA.out.at_, HA.out.other⟩
        have HMc := Lib.hid (HM.out.kept (w' := wc) (by rw [hhp]) (fun _ hx => hx))
        have HKc : Hid (wc.heap[w.heap.size]? = _) := Lib.hid ((congrArg (fun z => z[w.heap.size]?) hhp).trans HK.out)
        have HIc := Lib.hid (HIN.out.stays (w' := wc) (S' := S) (fun _ h => h) (fun b hb hl => HFc.out.block b hl (fun h => h.elim (HS.out b hb).1 (HS.out b hb).2)))
        clear hbc hhp HA HM HK HFR
        obtain ⟨a, z, k1, n1, s1, x1, ks1, vs1, A1, c1, rfl, -, hky, -, -, -, -, -, hcell⟩ := HIc.out.item (i := q) (by rw [HL.out]; exact hlt)
        obtain ⟨zb, zn, zs⟩ := z
        have p0 := hcell.c0
        have p1 := hcell.c1
        have p2 := hcell.c2
        simp only at p0 p1 p2
        have HKY := Lib.hid hky
        obtain ⟨w2, HW2⟩ : ∃ w2, Hid (wc.alloc (.cells #[.bool zb, .int .i64 zn, .string zs] IK) = w2) := ⟨_, Lib.hid rfl⟩
        have hb2 : Below wc.heap.size wc w2 := by rw [← HW2.out]; exact b1 _ _
        have HF2 := Lib.hid (HFc.out.trans (Fr.of hb2))
        have HA2 : Hid (MAt w2 g m cur q arr) := Lib.hid ⟨carry hb2 HAc.out.blk, HAc.out.size, HAc.out.at_, HAc.out.other⟩
        have HM2 := Lib.hid (HMc.out.kept (w' := w2) (hb2.block _ HMc.out.lt) (fun _ hx => hx))
        have HK2 := Lib.hid (carry hb2 HKc.out)
        obtain ⟨NB, HNB⟩ : ∃ N, Hid (wc.heap.size = N) := ⟨_, Lib.hid rfl⟩
        have HZ2 : Hid (w2.heap[NB]? = some (.cells #[.bool zb, .int .i64 zn, .string zs] IK (0, 0))) := Lib.hid (by rw [← HW2.out, ← HNB.out]; exact heap_alloc_new wc _)
        have hlw : w.heap.size < NB := by rw [← HNB.out]; exact (Array.getElem?_eq_some_iff.1 HKc.out).1
        have hgb : g < w.heap.size := hgl
        obtain ⟨r1, -⟩ := rowc HAc.out.blk
        have a1 : wc.cell? ⟨g, m * 4 + 1, none⟩ = some (.slice (some a) L c) := (r1 _).trans ((HAc.out.other _ (by omega)).trans HC.out.1)
        have a2 : wc.cell? ⟨g, m * 4 + 2, none⟩ = some (.int .i64 q) := (r1 _).trans HAc.out.at_
        obtain ⟨Pz, HPz⟩ : ∃ P, Hid (pos (ks.take q) ⟨zb, zn, zs⟩ 0 = P) := ⟨_, Lib.hid rfl⟩
        have LK2 := lookK (w := w2.drew) HM2.out HFF.out ⟨zb, zn, zs⟩
        rw [HPz.out] at LK2
        unfold kyV at LK2
        simp only at LK2
        clear hb2 hcell hky r1
        go_wp2_with (fail)
        rw [HNB.out, HW2.out]
        clear p0 p1 p2 a1 a2
        obtain ⟨r2, -⟩ := rowc HA2.out.blk
        have a3 : w2.cell? ⟨g, m * 4 + 3, none⟩ = some (.map (some mb)) := (r2 _).trans ((HA2.out.other _ (by omega)).trans HC.out.2)
        clear r2
        obtain ⟨rz, -⟩ := rowc HZ2.out
        obtain ⟨rk, -⟩ := rowc HK2.out
        by_cases hP : Pz = -1
        · rw [if_pos hP] at LK2
          go_region
          obtain ⟨w3, hrun, hm3, hg3⟩ := (show raw.Holds w2.drew.drew GK mb fn from HM2.out).update good_ky gk_stays Tryz.underlying220 (k := .agg #[.bool zb, .int .i64 zn, .string zs]) (v := .int .i64 q) ⟨⟨zb, zn, zs⟩, rfl⟩
          have HM3 := Lib.hid hm3
          have e3 : ∀ (b : Nat) (o : Obj), b ≠ mb → w2.heap[b]? = some o → w3.heap[b]? = some o := fun b o hb ho => (hg3.block b (Array.getElem?_eq_some_iff.1 ho).1 (by intro h; injection h with h; exact hb h)).trans ho
          have HA3 : Hid (MAt w3 g m cur q arr) := Lib.hid ⟨e3 _ _ (by omega) HA2.out.blk, HA2.out.size, HA2.out.at_, HA2.out.other⟩
          have HK3 := Lib.hid (e3 _ _ (by omega) HK2.out)
          have HZ3 := Lib.hid (e3 _ _ (by omega) HZ2.out)
          have HF3 : Hid (Fr (fun b => b = g ∨ b = mb) w w3) := Lib.hid (HF2.out.trans ⟨hg3.os, hg3.tape, hg3.output, hg3.size, fun b hb hn => hg3.block b hb (fun h => hn (.inr (Option.some.inj h)))⟩)
          clear hm3 hg3 e3
          go_wp2_with (fail)
          go_region
          clear hrun LK2 rz rk a3
          obtain ⟨r3, f3⟩ := rowc HA3.out.blk
          obtain ⟨rz3, -⟩ := rowc HZ3.out
          obtain ⟨rk3, -⟩ := rowc HK3.out
          have a2 : w3.cell? ⟨g, m * 4 + 2, none⟩ = some (.int .i64 q) := (r3 _).trans HA3.out.at_
          have f2 := f3 (m * 4 + 2)
          clear r3 f3
          have KE := fun w => ky_eql w ⟨zb, zn, zs⟩ ⟨yb, yn, ys⟩
          unfold kyV at KE
          simp only at KE
          go_wp2_with (fail)
          go_roundg (L - q)
          case rel =>
            have hps := pos_snoc (y := ⟨yb, yn, ys⟩) HKY.out
            rw [if_pos (HN.out (by trivial))] at hps
            refine ⟨q + 1, _, _, _, q, by go_num, rfl, by omega, by omega, Lib.hid (fun h => ?_), Lib.hid (fun h => ?_), Lib.hid (HA3.out.set (p1 := q + 1) HA3.out.blk), Lib.hid (HM3.out.kept (set_other (by omega)) (fun _ hx => hx)), Lib.hid ?_, Lib.hid (HF3.out.trans (Fr.set (.inl rfl) _ _)), Lib.hid ((set_other (by omega)).trans HK3.out)⟩
            · rw [hps, if_pos (by simpa using h)]
              exact ⟨rfl, by omega⟩
            · rw [hps, if_neg (by simpa using h)]
            · rw [take_snoc HKY.out]
              have := HFF.out.push (y := ⟨zb, zn, zs⟩) (by rw [HPz.out]; exact hP)
              rwa [List.length_take, HKL.out, Nat.min_eq_left (by omega)] at this
          case measure => omega
        · rw [if_neg hP] at LK2
          go_region
          clear LK2 a3
          obtain ⟨r3, f3⟩ := rowc HA2.out.blk
          have a2 : w2.cell? ⟨g, m * 4 + 2, none⟩ = some (.int .i64 q) := (r3 _).trans HA2.out.at_
          have f2 := f3 (m * 4 + 2)
          clear r3 f3
          have KE := fun w => ky_eql w ⟨zb, zn, zs⟩ ⟨yb, yn, ys⟩
          unfold kyV at KE
          simp only at KE
          go_wp2_with (fail)
          go_roundg (L - q)
          case rel =>
            have hps := pos_snoc (y := ⟨yb, yn, ys⟩) HKY.out
            rw [if_pos (HN.out (by trivial))] at hps
            refine ⟨q + 1, arr.setIfInBounds (m * 4 + 2) (.int .i64 ((q + 1 : Nat) : Int)), fn, _, q, by go_num, rfl, by omega, by omega, Lib.hid (fun h => ?_), Lib.hid (fun h => ?_), Lib.hid (by have h := HA2.out.set (p1 := q + 1) HA2.out.blk; exact ⟨h.blk, h.size, h.at_, h.other⟩), Lib.hid (HM2.out.kept (set_other (by omega)) (fun _ hx => hx)), Lib.hid ?_, Lib.hid ((HF2.out.trans (Fr.of (Below.refl _ _).drew)).trans (Fr.set (.inl rfl) _ _)), Lib.hid ((set_other (by omega)).trans HK2.out)⟩
            · rw [hps, if_pos (by simpa using h)]
              exact ⟨rfl, by omega⟩
            · rw [hps, if_neg (by simpa using h)]
            · rw [take_snoc HKY.out]
              exact HFF.out.skip (y := ⟨zb, zn, zs⟩) (by rw [HPz.out]; exact hP)
          case measure => omega
    · have hQ : Hid ((b = true → i = pos ks ⟨yb, yn, ys⟩ 0 ∧ pos ks ⟨yb, yn, ys⟩ 0 ≠ -1) ∧ (b = false → pos ks ⟨yb, yn, ys⟩ 0 = -1)) := Lib.hid ⟨fun h => by
          obtain ⟨h1, h2⟩ := HT.out h
          have := pos_take ks _ q 0 h2
          exact ⟨by rw [h1, this], by rw [this]; exact h2⟩, fun h => by
          have hq : ¬ q < L := fun hl => hgo ⟨h, hl⟩
          have := HN.out h
          rwa [List.take_of_length_le (by rw [HKL.out]; omega)] at this⟩
      obtain ⟨rw1, -⟩ := rowc HA.out.blk
      have a1 : wr.cell? ⟨g, m * 4 + 1, none⟩ = some (.slice B' L c) := (rw1 _).trans ((HA.out.other _ (by omega)).trans HC.out.1)
      have a2 : wr.cell? ⟨g, m * 4 + 2, none⟩ = some (.int .i64 q) := (rw1 _).trans HA.out.at_
      clear rw1 HT HN
      go_upto_region 2 with fail
      go_cut [33] (fun v wx => CutW wr false v wx)
      case first =>
        cases b with
        | true =>
          go_quiet (fail)
          all_goals
            go_wp2_with (fail)
            go_meet
            exact ⟨rfl, kbelow_drew _ _, kdrew_heap _ _⟩
        | false =>
          have hd : ¬ q < L := fun h => hgo ⟨rfl, h⟩
          go_quiet (fail)
          all_goals
            go_wp2_with (fail)
            go_meet
            exact ⟨by first | rfl | rw [decide_eq_false hd], kbelow_drew _ _, kdrew_heap _ _⟩
      case rest =>
        obtain ⟨rfl, hbc, hhp⟩ := hcut
        have HFc := Lib.hid (HFR.out.trans (Fr.of hbc))
        have HAc : Hid (MAt wc g m cur q arr) := Lib.hid ⟨by rw [hhp]; exact HA.out.blk, HA.out.size, HA.out.at_, HA.out.other⟩
        have HMc := Lib.hid (HM.out.kept (w' := wc) (by rw [hhp]) (fun _ hx => hx))
        clear hbc hhp a1 a2 HK
        go_wp2_with (fail)
        go_ret2
        exact ⟨i, b, q, arr, fn, rfl, hQ.out.1, hQ.out.2, by rw [HKL.out]; exact hqL, HAc.out, HMc.out, HFF.out, HFc.out⟩

end Go.Proofs.YtdglmnmalfpipaaGreatDoor.tree

