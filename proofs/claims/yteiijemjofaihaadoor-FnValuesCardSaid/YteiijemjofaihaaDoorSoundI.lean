/-
  Whether a light value is valid, of the project: the items of an array.
  Conditions: the keys' texts have at most 2^48 bytes; the package variables of the library's reading of numbers hold what the program's text lays.
-/
import Derived.Test.YteiijemjofaihaaDoorSound
namespace Go.Proofs.YteiijemjofaihaaDoor.tree
open Go.ChangeShapes Go.WideShapes Go.ChangeAt Go.RowKit
set_option linter.unusedVariables false

theorem kzero (w : World) : (zeroValue 4).run Tryd.prog w = .ok (.bool false) w := by kernel_rfl
theorem kgot_some (z v : Value) : raw.Got false z (some v) = v := rfl
theorem kgot_none (z : Value) : raw.Got false z none = z := rfl
theorem kalH {w : World} {b : Nat} {f : Value → Option Value} (h : raw.Holds w GK b f) (o : Obj) : raw.Holds (w.alloc o) GK b f :=
  h.kept (Below.heap_alloc w o b h.lt) (fun _ hx => hx)
def SeenK (l : List Ky) (e : Value → Option Value) : Prop := ∀ y : Ky, e (kyV y) = if y ∈ l then some (.bool true) else none
theorem SeenK.push {l : List Ky} {e : Value → Option Value} (h : SeenK l e) (y : Ky) : SeenK (l ++ [y]) (raw.put e (kyV y) (.bool true)) := fun z => by
  by_cases hz : z = y
  · subst hz
    rw [raw.put_same]
    simp
  · rw [raw.put_other (fun e => hz (ky_inj e)), h z]
    simp [hz]

def SoI (t : Tr) : Prop := tot t ≤ 281474976710656 → ∀ (w : World) (S : Nat → Prop) (v : Value), prs.Env w → TIn w S t v → Calls Tryd.prog 81 #[v] w (BoQ w (sndB t))

set_option maxHeartbeats 1000000 in
theorem soundItems (n : Int) (s : ByteArray) (x : Int) (ks : List Ky) (vs : List Tr) (ih : ∀ t ∈ vs, SoI t) (A : Option Addr) (c : Nat) (w : World) (S : Nat → Prop) (hE : prs.Env w) (h : IsIn w S ks vs A) (hN : tots ks vs ≤ 281474976710656) :
    Calls Tryd.prog 122 #[vV 4 n s x A vs.length c] w (BoQ w (itemsB x [] ks vs)) := by
  obtain ⟨L, HL⟩ : ∃ L, Hid (L = vs.length) := ⟨_, Lib.hid rfl⟩
  have hm : L ≤ maxLen := by rw [HL.out]; exact h.2.1
  unfold maxLen at hm
  have HKL : Hid (ks.length = L) := Lib.hid (by rw [HL.out]; exact h.1)
  rw [← HL.out]
  have HI := Lib.hid h
  have HEN := Lib.hid hE
  clear h hE
  obtain ⟨W, HW⟩ : ∃ W, Hid (itemsB x [] ks vs = W) := ⟨_, Lib.hid rfl⟩
  rw [HW.out]
  have hmm := @run_makeMap Tryd.prog
  go_enter Tryd.func122, Tryd.ntmps122
  go_wp2_with (fail)
  clear hmm
  go_loopg [10] (L + 1) (fun gk i wr => ∃ (j : Nat) (e : Value → Option Value), i = .int .i64 j ∧ gk + j = L + 1 ∧ j ≤ L ∧ Hid (itemsB x (ks.take j) (ks.drop j) (vs.drop j) = W) ∧
    Hid (wr.heap[w.heap.size]? = some (.cells #[.int .i64 4, .int .i64 n, .string s, .int .i64 x, .slice A L c] IV (0, 0))) ∧ Hid (SeenK (ks.take j) e) ∧ raw.Holds wr GK (w.heap.size + 1) e ∧ Below w.heap.size w wr ∧ w.heap.size + 1 < wr.heap.size)
  case atStart =>
    have h1 := raw.Holds.made (w.alloc (.cells #[.int .i64 4, .int .i64 n, .string s, .int .i64 x, .slice A L c] IV)) GK
    have z1 : (w.alloc (.cells #[.int .i64 4, .int .i64 n, .string s, .int .i64 x, .slice A L c] IV)).heap.size = w.heap.size + 1 := by simp
    rw [z1] at h1
    exact ⟨0, fun _ => none, rfl, by omega, by omega, Lib.hid HW.out, Lib.hid (heap_alloc2_old w _ _), Lib.hid (fun y => by simp), h1, b2 _ _ _, h1.lt⟩
  case round =>
    obtain ⟨j, e, rfl, hgj, hjL, HQ, HE, HS, hm1, hb, hz⟩ := hrel
    have HB := Lib.hid hb
    have HZ := Lib.hid hz
    clear hb hz
    obtain ⟨r0, -⟩ := rowc HE.out
    by_cases hlt : j < L
    · obtain ⟨a, y, k', n', s', x', ks', vs', A1, c1, rfl, hS, hky, hvs, ht, hyb, hkb, hin', hcell⟩ := (HI.out.below HB.out).item (i := j) (by rw [← HL.out]; exact hlt)
      have htm := tots_item hky hvs
      have hys : y.str.size ≤ 281474976710656 := by omega
      have htt : tot (.mk k' n' s' x' ks' vs') ≤ 281474976710656 := by omega
      have HD := Lib.hid ((items_drop (x := x) hky hvs).symm.trans HQ.out)
      have HTK : Hid (ks.take (j + 1) = ks.take j ++ [y]) := Lib.hid (by
        obtain ⟨hj, rfl⟩ := List.getElem?_eq_some_iff.1 hky
        exact List.take_succ_eq_append_getElem hj)
      have hm2 := fun o => kalH hm1 o
      have hkk : ∀ w' : World, GK w' (.agg #[.bool y.text, .int .i64 y.num, .string y.str]) := fun _ => ⟨y, rfl⟩
      obtain ⟨q1, HQ1⟩ : ∃ q, Hid (belowB y x = q) := ⟨_, Lib.hid rfl⟩
      obtain ⟨q2, HQ2⟩ : ∃ q, Hid (sndB (.mk k' n' s' x' ks' vs') = q) := ⟨_, Lib.hid rfl⟩
      have KB : ∀ w' : World, Below wr.heap.size wr w' → Calls Tryd.prog 129 #[.agg #[.bool y.text, .int .i64 y.num, .string y.str], .int .i64 x] w' (BoQ w' q1) := fun w' hb' => HQ1.out ▸ keyBelow_i y hys x w' (HEN.out.stays (bs HB.out hb'))
      have ihj : ∀ w' : World, Below wr.heap.size wr w' → Calls Tryd.prog 81 #[vV k' n' s' x' A1 vs'.length c1] w' (BoQ w' q2) := fun w' hb' => HQ2.out ▸ ih _ (List.mem_of_getElem? hvs) htt w' S _ (HEN.out.stays (bs HB.out hb')) (ht.below' hb')
      rw [HQ1.out, HQ2.out] at HD
      obtain ⟨L1, HL1⟩ : ∃ L1, Hid (L1 = vs'.length) := ⟨_, Lib.hid rfl⟩
      rw [← HL1.out] at hcell ihj
      clear hky hvs ht hin' hyb hkb hS htm hys htt
      obtain ⟨p0, p1, p2, p3, p4, p5, p6, p7⟩ := hcell
      obtain ⟨NI, hNI⟩ : ∃ N, N = wr.heap.size := ⟨_, rfl⟩
      by_cases hsn : y ∈ ks.take j
      · have hek : e (.agg #[.bool y.text, .int .i64 y.num, .string y.str]) = some (.bool true) := (HS.out y).trans (if_pos hsn)
        have HEK := Lib.hid hek
        have HF : Hid (false = W) := Lib.hid (by have := HD.out; rw [decide_eq_true hsn] at this; simpa using this)
        clear hsn hek hm1
        go_wp2_with (first | (at_lookup; refine raw.wpList_lookup_to _ rfl _ _ 152 false rfl (hm2 _) good_ky Tryd.underlying152 (kzero _) rfl rfl (hkk _) HEK.out (kgot_some _ _) ?_) | fail)
        go_ret
        exact ⟨by rw [← HF.out]; rfl, bs HB.out (b1 _ _)⟩
      · have hek : e (.agg #[.bool y.text, .int .i64 y.num, .string y.str]) = none := (HS.out y).trans (if_neg hsn)
        have HEK := Lib.hid hek
        have HD2 : Hid (((q1 && q2) && itemsB x (ks.take (j + 1)) (ks.drop (j + 1)) (vs.drop (j + 1))) = W) := Lib.hid (by have := HD.out; rw [decide_eq_false hsn] at this; simpa using this)
        clear hsn hek hm1 HD
        have bx : ∀ o, (wr.alloc o).cell? ⟨w.heap.size, 3, none⟩ = some (.int .i64 x) := fun o => (rowc (keepAlloc (o' := o) HE.out)).1 3
        go_wp2_with (first | (at_lookup; refine raw.wpList_lookup_to _ rfl _ _ 152 false rfl (hm2 _) good_ky Tryd.underlying152 (kzero _) rfl rfl (hkk _) HEK.out (kgot_none _) ?_) | fail)
        refine (KB _ (b1 _ _)).mono ?_
        rintro e1 w1 ⟨rfl, hb1⟩
        have eI := carry hb1 (heap_alloc_new wr _)
        rw [← hNI] at eI ⊢
        have EI := Lib.hid eI
        obtain ⟨rI, -⟩ := rowc eI
        have hB1 := bs (b1 wr _) hb1
        have HB1 := Lib.hid hB1
        have hm3 : raw.Holds w1 GK (w.heap.size + 1) e := (hm2 _).kept (hb1.block _ (hm2 _).lt) (fun _ hx => hx)
        have hbIH := Lib.hid hb1
        clear hb1 eI hB1 hm2 r0 bx hNI
        cases q1 with
        | false =>
          have HF : Hid (false = W) := HD2
          go_wp2_with (fail)
          go_ret
          exact ⟨by rw [← HF.out]; rfl, bs HB.out HB1.out⟩
        | true =>
          go_wp2_with (fail)
          refine (ihj _ HB1.out).mono ?_
          rintro e2 w2 ⟨rfl, hb2⟩
          have eI2 := carry hb2 EI.out
          have EI2 := Lib.hid eI2
          obtain ⟨rI2, -⟩ := rowc eI2
          have hm4 : raw.Holds w2 GK (w.heap.size + 1) e := hm3.kept (hb2.block _ hm3.lt) (fun _ hx => hx)
          have HB2 := Lib.hid (bs HB1.out hb2)
          clear hb2 eI2 rI hm3
          cases q2 with
          | false =>
            have HF : Hid (false = W) := HD2
            go_wp2_with (fail)
            go_ret
            exact ⟨by rw [← HF.out]; rfl, bs HB.out HB2.out⟩
          | true =>
            have HF : Hid (itemsB x (ks.take (j + 1)) (ks.drop (j + 1)) (vs.drop (j + 1)) = W) := HD2
            go_wp2_with (first
              | (at_mapUpdate; refine raw.wpList_update _ rfl _ _ _ 152 rfl hm4 good_ky gk_stays Tryd.underlying152 rfl rfl rfl (hkk _) ?_
                 intro w4 hm14 hgr4
                 have HM14 := Lib.hid hm14
                 have HGR4 := Lib.hid hgr4
                 clear hm14 hgr4)
              | fail)
            go_roundg (L - j)
            case rel =>
              have hE2 := carry HB2.out HE.out
              have z4 := HB2.out.size
              have z5 := HZ.out
              refine ⟨j + 1, _, by go_num, by omega, by omega, HF, Lib.hid ((HGR4.out.block _ (Array.getElem?_eq_some_iff.1 hE2).1 (by intro h; injection h; omega)).trans hE2), Lib.hid (by rw [HTK.out]; exact HS.out.push y), HM14.out, ?_, HM14.out.lt⟩
              exact (bs HB.out HB2.out).grown HGR4.out (by omega) (fun k hk => by obtain rfl := Option.some.inj hk; omega)
            case measure => omega
    · obtain rfl : j = L := by omega
      have HF : Hid (true = W) := Lib.hid (by rw [← HQ.out, show vs.drop j = [] from List.drop_eq_nil_of_le (Nat.le_of_eq HL.out.symm), items_nil])
      clear hm1
      go_wp2_with (fail)
      go_ret
      exact ⟨by rw [← HF.out]; rfl, HB.out⟩

end Go.Proofs.YteiijemjofaihaaDoor.tree
