/-
  What the texts behind this one use: 2 parts of one proof.
  Conditions: those that each theorem names.
-/
import Derived.Test.YtcjgcnlcijejjaaTB4
import Derived.Test.YtcjgcnlcijejjaaTSCopyV
import Derived.Maps.AppendAt
import Derived.Deep.DeepCutAuto
import Derived.Deep.RegionWith
import Derived.Test.YtcjgcnlcijejjaaTSCopyS
/-
  TableValue of the project.
  Conditions: those that each theorem names.
-/
namespace Go.Proofs.Ytcjgcnlcijejjaa.tree
open Go.ChangeShapes Go.WideShapes Go.ChangeAt Go.RowKit
set_option linter.unusedVariables false

theorem fill5v {w wF : World} {R : Nat} {t : TypeId} {a b c d e c0 c1 c2 c3 c4 : Value} (h : w.heap[R]? = some (.cells #[a, b, c, d, e] t (0, 0)))
    (hF : (((((w.setCell ⟨R, 0, none⟩ c0).setCell ⟨R, 1, none⟩ c1).setCell ⟨R, 2, none⟩ c2).setCell ⟨R, 3, none⟩ c3).setCell ⟨R, 4, none⟩ c4) = wF) :
    (∀ j, wF.cell? ⟨R, j, none⟩ = (#[c0, c1, c2, c3, c4] : Array Value)[j]?) ∧ (∀ q, q ≠ R → wF.heap[q]? = w.heap[q]?) ∧ ∀ (B : Nat) (w0 : World), B ≤ R → Below B w0 w → Below B w0 wF := by
  subst hF
  refine ⟨fun j => ?_, fun q hq => ?_, fun B w0 hB hb => ?_⟩
  · have := set_heap (set_heap (set_heap (set_heap (set_heap h 0 c0) 1 c1) 2 c2) 3 c3) 4 c4
    rw [cell_of_row _ _ j _ _ _ this]
    simp
  · rw [set_other hq, set_other hq, set_other hq, set_other hq, set_other hq]
  · exact ((((hb.setCell hB _).setCell hB _).setCell hB _).setCell hB _).setCell hB _
/-- The live slots. -/
def liv (sl : List Sl) : List Sl := sl.filter (fun t => t.live)
def livK (sl : List Sl) : List Ky := (liv sl).map (fun t => t.key)
def livV (sl : List Sl) : List Tr := (liv sl).map (fun t => t.val)
/-- The array that a table stands for. -/
def tvT (x : Int) (sl : List Sl) : Tr := .mk 4 0 ⟨#[]⟩ x (livK sl) (livV sl)
theorem liv_take {sl : List Sl} {j : Nat} {t : Sl} (h : sl[j]? = some t) : liv (sl.take (j + 1)) = liv (sl.take j) ++ (if t.live then [t] else []) := by
  unfold liv
  rw [List.take_add_one, h, List.filter_append]
  cases ht : t.live <;> simp [ht]
theorem liv_len (sl : List Sl) : (liv sl).length ≤ sl.length := List.length_filter_le _ _

/-- The blocks of a row that a variable in block M holds: not those of the call's variables. -/
def PV (P : Nat) (w : World) (b : Nat) : Prop := (b < P ∨ P + 2 < b) ∧ Plain w b
theorem OwR.slot {w0 w2 w7 : World} {P : Nat} {v v' : Value} {xs : List Value} {ks : List Ky} {vs : List Tr} (h : OwR w2 (PV P w2) v xs ks vs) (hv : ∀ b, v.ownBlock = some b → P + 2 < b) (hP : P + 2 < w2.heap.size) (hw0 : w0.heap.size = P) (hB : Below w0.heap.size w0 w2)
    {y : Ky} {k n x : Int} {s : ByteArray} {ks' : List Ky} {vs' : List Tr} {A : Option Addr} {c : Nat} (hy : I64 y.num ∧ y.str.size ≤ maxLen) (hT : TIn w0 (Nw 0 w0) (.mk k n s x ks' vs') (vV k n s x A vs'.length c))
    (ho : w7.ownsRow 0 IE 8 v' (vs.length + 1) (xs ++ [.bool y.text, .int .i64 y.num, .string y.str, .int .i64 k, .int .i64 n, .string s, .int .i64 x, .slice A vs'.length c])) (hg : w2.grownBy w7 v.ownBlock) (hat : v'.ownBlock = v.ownBlock ∨ v'.ownBlock = some w2.heap.size) :
    OwR w7 (PV P w7) v' (xs ++ [.bool y.text, .int .i64 y.num, .string y.str, .int .i64 k, .int .i64 n, .string s, .int .i64 x, .slice A vs'.length c]) (ks ++ [y]) (vs ++ [.mk k n s x ks' vs']) ∧ ∀ b, v'.ownBlock = some b → P + 2 < b := by
  have hT2 : TIn w2 (fun b => b < P ∧ Plain w2 b) (.mk k n s x ks' vs') (vV k n s x A vs'.length c) := hT.stays (fun b hb => ⟨by rw [← hw0]; exact hb.2.lt, hb.2.same (hB.block b hb.2.lt)⟩) fun b hb hl => hB.block b hl
  have hm := OwR.more (Q := fun b => b < P ∧ Plain w2 b) h hy hT2 (fun b hb e => by have := hv b e; have := hb.1; omega) ho hg hat
  have hown : ∀ b, v'.ownBlock = some b → P + 2 < b := fun b e => by
    rcases hat with h' | h'
    · exact hv b (h' ▸ e)
    · rw [h'] at e; injection e with e; omega
  refine ⟨hm.mono fun b hb => ?_, hown⟩
  rcases hb with (⟨hb, hne⟩ | hb) | hb
  · exact ⟨hb.1, hb.2.same (hg.block b hb.2.lt (fun e => hne e.symm))⟩
  · exact ⟨.inl hb.1, hb.2.same (hg.block b hb.2.lt (fun e => by have := hv b e.symm; have := hb.1; omega))⟩
  · refine ⟨.inr (hown b hb), ?_⟩
    rcases ho.2 with ⟨rfl, h'⟩ | ⟨g, cap, cur, rfl, hlo, hgc, hr⟩
    · simp [Value.ownBlock] at hb
    · simp [Value.ownBlock] at hb
      subst hb
      exact ⟨cur, IE, hgc⟩

set_option maxRecDepth 100000 in
set_option maxHeartbeats 2000000 in
theorem tableValue_i {sl : List Sl} {b : Bool} {A : Option Addr} {n c : Nat} {B : Option Addr} {m d : Nat} {x k : Int} (w : World) (hs : SIn w (Nw 0 w) sl B) (hm : sl.length = m) (hm2 : m ≤ 1048576) (hx : I64 x) (hc : cnt (tvT x sl) ≤ 1048578) (ht : tot (tvT x sl) ≤ 1000000000) :
    Calls Try.prog 7 #[tbV b A n c B m d x k] w (CvQ w (tvT x sl)) := by
  obtain ⟨i0, hi, hzz⟩ := ie_info
  have HII := Lib.hid hi
  have HZZ := Lib.hid hzz
  obtain ⟨P, HP⟩ : ∃ P, Hid (w.heap.size = P) := ⟨_, Lib.hid rfl⟩
  have HS := Lib.hid hs
  have HCT := Lib.hid (And.intro hc ht)
  clear hi hzz hs hc ht
  go_enter Try.func7, Try.ntmps7
  go_upto_region 2 with fail
  rw [HP.out]
  generalize hw0 : ((w.alloc (.cells #[.bool b, .slice A n c, .slice B m d, .int .i64 x, .int .i64 k] IT)).alloc (.cells #[.int .i64 0, .int .i64 0, .string ⟨#[]⟩, .int .i64 0, .slice none 0 0] IV)).alloc (.cells #[.int .i64 4, .int .i64 0, .string ⟨#[]⟩, .int .i64 x, .slice none 0 0] IV) = w0
  obtain ⟨a0, a1, a2, az, ab⟩ := al3t w _ _ _ _ _ _ w0 hw0
  rw [HP.out] at a0 a1 a2 az
  have HA0 := Lib.hid a0
  have HA1 := Lib.hid a1
  have HA2 := Lib.hid a2
  have HB0 := Lib.hid ab
  have r0 := rowc HA0.out
  have x2 := r0.1 2
  simp at x2
  have hz0 : P + 2 < w0.heap.size := by rw [az]; omega
  clear hw0 a0 a1 a2 az ab r0
  go_wp2_with (fail)
  go_loopg [12] (m + 1) (fun gk i wr => ∃ (j : Nat) (ks : List Ky) (vs : List Tr) (xs : List Value) (A2 : Option Addr) (L2 c2 : Nat), i = .int .i64 j ∧ gk + j = m + 1 ∧ j ≤ m ∧ L2 ≤ j ∧ Hid (L2 = vs.length) ∧ Hid (ks = livK (sl.take j) ∧ vs = livV (sl.take j)) ∧ Hid (wr.heap[P + 1]? = some (.cells #[.int .i64 0, .int .i64 0, .string ⟨#[]⟩, .int .i64 0, .slice none 0 0] IV (0, 0))) ∧
    Hid (wr.heap[P + 2]? = some (.cells #[.int .i64 4, .int .i64 0, .string ⟨#[]⟩, .int .i64 x, .slice A2 L2 c2] IV (0, 0))) ∧ Hid (OwR wr (PV P wr) (.slice A2 L2 c2) xs ks vs ∧ ∀ b, (Value.slice A2 L2 c2).ownBlock = some b → P + 2 < b) ∧ Hid (Below w.heap.size w wr))
  case atStart => exact ⟨0, [], [], [], none, 0, 0, rfl, by omega, by omega, by omega, Lib.hid rfl, Lib.hid ⟨rfl, rfl⟩, HA1, HA2, Lib.hid ⟨⟨World.ownsRow_nil _ 0 _ 8, fun b e => by simp [Value.ownBlock] at e, rfl, fun i hi => absurd hi (by simp)⟩, fun b e => by simp [Value.ownBlock] at e⟩, HB0⟩
  case round =>
    clear HA0 HA1 HA2 HB0 x2
    obtain ⟨j, ks, vs, xs, A2, L2, c2, rfl, hgj, hjm, hLj, HL, HKV, H1, H2, HO, HB⟩ := hrel
    by_cases hlt : j < m
    · obtain ⟨t, htj⟩ : ∃ t, sl[j]? = some t := ⟨_, List.getElem?_eq_getElem (by omega)⟩
      obtain ⟨a, k1, n1, s1, x1, ks1, vs1, A1, c1, rfl, -, hyb, hlb, hv, hT, hcell⟩ := HS.out j t htj
      have hlv := liv_take htj
      have hc10 := hcell.stays (w' := wr) (fun hl => HB.out.block _ hl)
      obtain ⟨⟨yb, yn, ys⟩, tv, tb, tl⟩ := t
      simp only at hyb hlb hv hT hc10 hlv
      subst hv
      have HT := Lib.hid hT
      have HYB := Lib.hid hyb
      have HLV := Lib.hid hlv
      obtain ⟨L1, HL1⟩ : ∃ L, Hid (vs1.length = L) := ⟨_, Lib.hid rfl⟩
      rw [HL1.out] at hc10 HT
      obtain ⟨p0, p1, p2, p3, p4, p5, p6, p7, p8, p9⟩ := hc10
      simp only at p0 p1 p2
      clear hyb hlb hT hcell hlv htj
      go_upto_region 5 with fail
      obtain ⟨R, HR⟩ : ∃ R, Hid (wr.heap.size = R) := ⟨_, Lib.hid rfl⟩
      rw [HR.out]
      generalize hw1 : wr.alloc (.cells #[.bool yb, .int .i64 yn, .string ys, .int .i64 k1, .int .i64 n1, .string s1, .int .i64 x1, .slice A1 L1 c1, .bool tb, .int .i64 tl] 46) = w1
      have hb1 : Below wr.heap.size wr w1 := hw1 ▸ b1 wr _
      have h10 : w1.heap[R]? = some (.cells #[.bool yb, .int .i64 yn, .string ys, .int .i64 k1, .int .i64 n1, .string s1, .int .i64 x1, .slice A1 L1 c1, .bool tb, .int .i64 tl] 46 (0, 0)) := by rw [← hw1, ← HR.out]; exact heap_alloc_new wr _
      have HB1 := Lib.hid (bs HB.out hb1)
      have H11 := Lib.hid (carry hb1 H1.out)
      have H21 := Lib.hid (carry hb1 H2.out)
      have HO1 : Hid (OwR w1 (PV P w1) (.slice A2 L2 c2) xs ks vs) := Lib.hid ((OwR.keep HO.out.1 fun b hb hl => hb1.block b hl).mono fun b hb => ⟨hb.1, hb.2.same (hb1.block b hb.2.lt)⟩)
      have HOB := Lib.hid HO.out.2
      have r10 := (rowc h10).1
      have z0 := r10 0; have z1 := r10 1; have z2 := r10 2; have z3 := r10 3; have z4 := r10 4; have z5 := r10 5; have z6 := r10 6; have z7 := r10 7; have z8 := r10 8; have z9 := r10 9
      simp at z0 z1 z2 z3 z4 z5 z6 z7 z8 z9
      have e4 := (rowc H21.out).1 4
      simp at e4
      have hz1 : P + 2 < w1.heap.size := (Array.getElem?_eq_some_iff.1 H21.out).1
      clear hw1 hb1 h10 r10 H1 H2 HO HB p0 p1 p2 p3 p4 p5 p6 p7 p8 p9
      cases tb with
      | false =>
        have HKV2 : Hid (ks = livK (sl.take (j + 1)) ∧ vs = livV (sl.take (j + 1))) := Lib.hid (by
          have h := HLV.out
          simp at h
          unfold livK livV
          rw [h]
          exact HKV.out)
        go_wp2_with (fail)
        go_roundg (m - j)
        case rel => exact ⟨j + 1, ks, vs, xs, A2, L2, c2, by go_num, by omega, by omega, by omega, HL, HKV2, H11, H21, Lib.hid ⟨HO1.out, HOB.out⟩, HB1⟩
        case measure => omega
      | true =>
        have HKV2 : Hid (ks ++ [⟨yb, yn, ys⟩] = livK (sl.take (j + 1)) ∧ vs ++ [.mk k1 n1 s1 x1 ks1 vs1] = livV (sl.take (j + 1))) := Lib.hid (by
          have h := HLV.out
          simp at h
          unfold livK livV
          rw [h, List.map_append, List.map_append, HKV.out.1, HKV.out.2]
          exact ⟨rfl, rfl⟩)
        have HOW : Hid (∀ o, (w1.alloc o).ownsRow 0 IE 8 (.slice A2 L2 c2) L2 xs) := Lib.hid fun o => by
          have := World.ownsRow.alloc HO1.out.1 o
          rwa [← HL.out] at this
        go_wp2_with (first
          | (at_builtin; refine wpList_append_own_at _ rfl _ _ 27 rfl 0 IE i0 _ 8 96 Try.underlying27 HII.out HZZ.out.1 HZZ.out.2.1 HZZ.out.2.2 rfl (by decide) _ L2 xs rfl (HOW.out _) ⟨w1.heap.size, 0, none⟩ 1 1 [.bool yb, .int .i64 yn, .string ys, .int .i64 k1, .int .i64 n1, .string s1, .int .i64 x1, .slice A1 L1 c1] rfl rfl (eight_new w1 _ _ _ _ _ _ _ _ _) (eight_one _ _ _ _ _ _ _ _ _ _) (by unfold maxLen; omega) (by omega) (Nat.zero_le _) ?_
             intro v' w7 hown hgrow hnil hat
             have hown2 : w7.ownsRow 0 IE 8 v' (vs.length + 1) (xs ++ [.bool yb, .int .i64 yn, .string ys, .int .i64 k1, .int .i64 n1, .string s1, .int .i64 x1, .slice A1 vs1.length c1]) := by
               rw [← HL.out, HL1.out]
               exact hown
             have HST := Lib.hid (OwR.slot (y := ⟨yb, yn, ys⟩) (w2 := w1.alloc _) ((OwR.keep HO1.out fun b hb hl => (b1 w1 _).block b hl).mono fun b hb => ⟨hb.1, hb.2.same ((b1 w1 _).block b hb.2.lt)⟩) HOB.out (by simp; omega) HP.out (bs HB1.out (b1 w1 _)) HYB.out (HL1.out.symm ▸ HT.out) hown2 hgrow hat)
             have HB7 : Hid (Below w.heap.size w w7) := Lib.hid ((HB1.out.alloc HB1.out.size _).grown hgrow (by have := HB1.out.size; simp; omega) (fun b e => by have := HOB.out b e; have := HP.out; omega))
             have H17 := Lib.hid ((hgrow.block (P + 1) (by simp; omega) (fun e => by have := HOB.out _ e.symm; omega)).trans (keepAlloc H11.out))
             have H27 := Lib.hid ((hgrow.block (P + 2) (by simp; omega) (fun e => by have := HOB.out _ e.symm; omega)).trans (keepAlloc H21.out))
             obtain ⟨g3, c3, rfl⟩ : ∃ g3 c3, v' = .slice (some ⟨g3, 0, none⟩) (L2 + 1) c3 := by
               rcases hown.2 with ⟨-, h⟩ | ⟨g, cap, cur, h, -⟩
               · omega
               · exact ⟨g, cap, h⟩
             obtain ⟨t7, f7⟩ := rowc H27.out
             clear hown hown2 hgrow hnil hat)
          | fail)
        clear t7 f7 z0 z1 z2 z3 z4 z5 z6 z7 z8 z9 e4
        go_roundg (m - j)
        case rel => exact ⟨j + 1, ks ++ [⟨yb, yn, ys⟩], vs ++ [.mk k1 n1 s1 x1 ks1 vs1], _, some ⟨g3, 0, none⟩, L2 + 1, c3, by go_num, by omega, by omega, by omega, Lib.hid (by rw [HL.out]; simp), HKV2, Lib.hid ((set_other (by omega)).trans H17.out), Lib.hid (by have := set_heap H27.out 4 (.slice (some ⟨g3, 0, none⟩) (L2 + 1) c3); simpa using this), Lib.hid ⟨(OwR.keep HST.out.1 fun b hb _ => set_other (by have := hb.1; omega)).mono fun b hb => ⟨hb.1, hb.2.same (set_other (by have := hb.1; omega))⟩, HST.out.2⟩, Lib.hid (HB7.out.setCell (show w.heap.size ≤ P + 2 by rw [HP.out]; omega) _)⟩
        case measure => omega
    · obtain rfl : j = m := by omega
      have hkv := HKV.out
      rw [show sl.take j = sl by rw [← hm, List.take_length]] at hkv
      obtain ⟨A9, c9, e9, hc9, hin9⟩ := HO.out.1.isinP (by rw [← HL.out]; unfold maxLen; omega)
      obtain ⟨rfl, -, rfl⟩ : A2 = A9 ∧ L2 = vs.length ∧ c2 = c9 := by simpa using e9
      have hT9 := TIn.of (k := 4) (n := 0) (s := ⟨#[]⟩) (x := x) c2 ⟨by unfold I64; omega, by unfold I64; omega, hx, Nat.zero_le _⟩ hin9 hc9
      rw [hkv.1, hkv.2, ← hkv.2, ← HL.out, hkv.2] at hT9
      have HV : Hid (TIn wr (Nw 0 wr) (tvT x sl) (vV 4 0 ⟨#[]⟩ x A2 L2 c2)) := Lib.hid (hT9.stays (fun b hb => ⟨Nat.zero_le _, hb.2⟩) (fun _ _ _ => rfl))
      have q := rowc H2.out
      have q0 := q.1 0; have q1 := q.1 1; have q2 := q.1 2; have q3 := q.1 3; have q4 := q.1 4
      simp at q0 q1 q2 q3 q4
      clear q hkv e9 hc9 hin9 hT9
      go_wp2_with (fail)
      refine (copyValue (tvT x sl) _ wr 0 HV.out HCT.out.1 HCT.out.2).mono ?_
      rintro e w9 ⟨u, par, R, rfl, hu, hR, hb9⟩
      have HU : Hid (TPar w9 par (R, 0) (.mk 4 0 ⟨#[]⟩ x (livK sl) (livV sl)) u) := Lib.hid hu
      obtain ⟨A8, c8, rfl, -⟩ := HU.out.out
      obtain ⟨L8, HL8⟩ : ∃ L, Hid ((livV sl).length = L) := ⟨_, Lib.hid rfl⟩
      rw [HL8.out] at HU ⊢
      have H19 := Lib.hid (carry hb9 H1.out)
      have HB9 := Lib.hid (bs HB.out hb9)
      have HRR : Hid (P + 1 < R) := Lib.hid (Nat.lt_of_lt_of_le (Nat.lt_trans (Nat.lt_succ_self _) (Array.getElem?_eq_some_iff.1 H2.out).1) hR)
      obtain ⟨r9, f9⟩ := rowc H19.out
      clear hu hR hb9 q0 q1 q2 q3 q4
      go_wp2_with (fail)
      generalize hwF : World.setCell (World.setCell (World.setCell (World.setCell (World.setCell w9 _ _) _ _) _ _) _ _) _ _ = wF
      obtain ⟨rF, oF, bF⟩ := fill5v H19.out hwF
      clear hwF r9 f9
      exact bodyPost_ret (v := vV 4 0 ⟨#[]⟩ x A8 L8 c8) (by simp [results, Try.results7, go_sem, rF]) rfl ⟨_, par, R, rfl, by unfold tvT; exact HU.out.above fun q hq _ => oF q (by have := HRR.out; simp at hq; omega), by have := HRR.out; rw [HP.out]; omega, bF _ _ (by rw [HP.out]; omega) HB9.out⟩

end Go.Proofs.Ytcjgcnlcijejjaa.tree

/-
  TableValue of the model.
  Conditions: those that each theorem names.
-/
namespace Go.Proofs.Ytcjgcnlcijejjaa.tree
open Go.ChangeShapes Go.WideShapes Go.ChangeAt Go.RowKit
set_option linter.unusedVariables false

theorem arrTv_s (w : World) : Calls Try.prog 15 #[] w (GivesQ w (vV 4 0 ⟨#[]⟩ 0 none 0 0)) := by
  go_enter Try.func15, Try.ntmps15
  go_wp2
  exact bodyPost_ret (v := vV 4 0 ⟨#[]⟩ 0 none 0 0) (by simp [results, Try.results15, go_sem]) rfl ⟨rfl, b1 _ _⟩

set_option maxRecDepth 100000 in
set_option maxHeartbeats 4000000 in
theorem tableValue_s {sl : List Sl} {b : Bool} {A : Option Addr} {n c : Nat} {B : Option Addr} {m d : Nat} {x k : Int} (w : World) {S : Nat → Prop} (hs : SIn w S sl B) (hm : sl.length = m) (hm2 : m ≤ 1048576) (hx : I64 x) (hc : ∀ t ∈ sl, cnt t.val ≤ 1000000000) :
    Calls Try.prog 5 #[tbV b A n c B m d x k] w (ToQ w (tvT x sl)) := by
  obtain ⟨i0, hi, hz⟩ := ie_info
  have HII := Lib.hid hi
  have HZZ := Lib.hid hz
  have HV := Lib.hid hs
  have HCT := Lib.hid hc
  have AV := arrTv_s
  unfold vV at AV
  clear hs hi hz hc
  go_enter Try.func5, Try.ntmps5
  go_wp2_with (fail)
  refine (AV _).mono ?_
  rintro e w1 ⟨rfl, hb1⟩
  obtain ⟨cI, HA0⟩ : ∃ t0, Hid (w1.heap[w.heap.size]? = some (.cells #[.bool b, .slice A n c, .slice B m d, .int .i64 x, .int .i64 k] t0 (0, 0))) := ⟨_, Lib.hid (carry hb1 (keepAlloc (heap_alloc_new w _)))⟩
  obtain ⟨cV, HA1⟩ : ∃ t0, Hid (w1.heap[w.heap.size + 1]? = some (.cells #[.int .i64 0, .int .i64 0, .string ⟨#[]⟩, .int .i64 0, .slice none 0 0] t0 (0, 0))) := ⟨_, Lib.hid (carry hb1 (by have := heap_alloc_new (w.alloc (.cells #[.bool b, .slice A n c, .slice B m d, .int .i64 x, .int .i64 k] 33)) (.cells #[.int .i64 0, .int .i64 0, .string ⟨#[]⟩, .int .i64 0, .slice none 0 0] IV); rwa [show (w.alloc (.cells #[.bool b, .slice A n c, .slice B m d, .int .i64 x, .int .i64 k] 33)).heap.size = w.heap.size + 1 by simp] at this))⟩
  have HB1 := Lib.hid (bs (b2 w _ _) hb1)
  clear hb1 AV
  obtain ⟨M, HM⟩ : ∃ M, Hid (w1.heap.size = M) := ⟨_, Lib.hid rfl⟩
  have hNM : w.heap.size + 1 < M := by rw [← HM.out]; exact (Array.getElem?_eq_some_iff.1 HA1.out).1
  have r0 := (rowc (keepAlloc (o' := .cells #[.int .i64 4, .int .i64 0, .string ⟨#[]⟩, .int .i64 0, .slice none 0 0] IV) HA0.out)).1
  have x3 := r0 3
  simp at x3
  clear r0
  go_wp2_with (fail)
  rw [HM.out]
  go_loopg [4] (m + 1) (fun gk i wr => ∃ (j L2 : Nat) (A1 : Option Addr) (c1 : Nat) (ks : List Ky) (vs : List Tr), i = .int .i64 j ∧ gk + j = m + 1 ∧ j ≤ m ∧ L2 ≤ j ∧ Hid (L2 = vs.length) ∧ Hid (ks = livK (sl.take j) ∧ vs = livV (sl.take j)) ∧ Hid (wr.heap[w.heap.size]? = some (.cells #[.bool b, .slice A n c, .slice B m d, .int .i64 x, .int .i64 k] cI (0, 0))) ∧ Hid (wr.heap[w.heap.size + 1]? = some (.cells #[.int .i64 0, .int .i64 0, .string ⟨#[]⟩, .int .i64 0, .slice none 0 0] cV (0, 0))) ∧ Hid (wr.heap[M]? = some (.cells #[.int .i64 4, .int .i64 0, .string ⟨#[]⟩, .int .i64 x, .slice A1 L2 c1] IV (0, 0))) ∧ Hid (ORow wr (M + 1) (.slice A1 L2 c1) ks vs) ∧ Hid (Below w.heap.size w wr))
  case atStart =>
    refine ⟨0, 0, none, 0, [], [], rfl, by omega, by omega, by omega, Lib.hid rfl, Lib.hid ⟨rfl, rfl⟩, Lib.hid (keepAlloc HA0.out), Lib.hid (keepAlloc HA1.out), Lib.hid ?_, Lib.hid (ORow.nil _ _), Lib.hid (bs HB1.out (b1 w1 _))⟩
    rw [← HM.out]
    exact heap_alloc_new w1 _
  case round =>
    obtain ⟨j, L2, A1, c1, ks, vs, rfl, hgj, hjm, hLj, HLV, HKV, HE0, HE1, HE2, HR, HB⟩ := hrel
    clear x3 HA0 HA1 HB1
    by_cases hlt : j < m
    · obtain ⟨t, htj⟩ : ∃ t, sl[j]? = some t := ⟨_, List.getElem?_eq_getElem (by omega)⟩
      obtain ⟨a, k', n', s', x', ks', vs', A', c', rfl, hSa, hyb, hlb, hv, hT, hcell⟩ := HV.out j t htj
      have hab : (a.add (j * 10)).block < w.heap.size := World.block_lt_of_cell? _ _ hcell.c0
      have hlv := liv_take htj
      have hct := HCT.out t (List.mem_of_getElem? htj)
      have hc10 := hcell.stays (w' := wr) (fun hl => HB.out.block _ hl)
      obtain ⟨⟨yb, yn, ys⟩, tv, tb, tl⟩ := t
      simp only at hyb hlb hv hT hc10 hlv hct
      subst hv
      have ihj : ∀ w', Below wr.heap.size wr w' → Calls Try.prog 16 #[vV k' n' s' x' A' vs'.length c'] w' (ToQ w' (.mk k' n' s' x' ks' vs')) := fun w' hb' => l5Copy _ hct w' S _ (hT.below' (bs HB.out hb'))
      obtain ⟨L1, HL1⟩ : ∃ L1, Hid (L1 = vs'.length) := ⟨_, Lib.hid rfl⟩
      rw [← HL1.out] at ihj hc10
      have IHJ := Lib.hid ihj
      have HC8 : Hid (At8 wr (a.add (j * 10)) ⟨yb, yn, ys⟩ k' n' s' x' A' L1 c') := Lib.hid ⟨hc10.c0, hc10.c1, hc10.c2, hc10.c3, hc10.c4, hc10.c5, hc10.c6, hc10.c7⟩
      have HYB := Lib.hid hyb
      have HLVE := Lib.hid hlv
      obtain ⟨p0, p1, p2, p3, p4, p5, p6, p7, p8, p9⟩ := hc10
      simp only at p0 p1 p2
      obtain ⟨xs, hxx⟩ := HR.out
      have HX := Lib.hid hxx
      have HSZ : Hid (M + 1 ≤ wr.heap.size) := Lib.hid (Array.getElem?_eq_some_iff.1 HE2.out).1
      have HAB := Lib.hid hab
      have HNE : Hid (∀ p : Addr, p.block < w.heap.size + 1 → (⟨M, 4, none⟩ : Addr) ≠ p) := Lib.hid (addr_far (show w.heap.size < M by omega) 4)
      obtain ⟨q0, -⟩ := rowc HE0.out
      have q02 : wr.cell? ⟨w.heap.size, 2, none⟩ = some (.slice (some a) m d) := q0 2
      obtain ⟨q2, f2⟩ := rowc HE2.out
      have q24 : wr.cell? ⟨M, 4, none⟩ = some (.slice A1 L2 c1) := q2 4
      clear ihj hyb hlb hT hcell hlv htj hct hab hxx hSa q0 q2 f2
      cases tb with
      | false =>
        have HKV2 : Hid (ks = livK (sl.take (j + 1)) ∧ vs = livV (sl.take (j + 1))) := Lib.hid (by
          have h := HLVE.out
          simp at h
          unfold livK livV
          rw [h]
          exact HKV.out)
        go_wp2_with (fail)
        go_roundg (m - j)
        case rel => exact ⟨j + 1, L2, A1, c1, ks, vs, by go_num, by omega, by omega, by omega, HLV, HKV2, HE0, HE1, HE2, HR, HB⟩
        case measure => omega
      | true =>
        have HKV2 : Hid (ks ++ [⟨yb, yn, ys⟩] = livK (sl.take (j + 1)) ∧ vs ++ [.mk k' n' s' x' ks' vs'] = livV (sl.take (j + 1))) := Lib.hid (by
          have h := HLVE.out
          simp at h
          unfold livK livV
          rw [h, List.map_append, List.map_append, HKV.out.1, HKV.out.2]
          exact ⟨rfl, rfl⟩)
        go_wp2_with (fail)
        refine wp_region_held_drew (S := (fun w' => w'.cell? ⟨w.heap.size, 2, none⟩ = some (.slice (some a) m d) ∧ w'.cell? (a.add (j * 10)) = some (.bool yb) ∧ w'.cell? ⟨(a.add (j * 10)).block, (a.add (j * 10)).off + 1, none⟩ = some (.int .i64 yn) ∧ w'.cell? ⟨(a.add (j * 10)).block, (a.add (j * 10)).off + 2, none⟩ = some (.string ys) ∧ w'.cell? ⟨(a.add (j * 10)).block, (a.add (j * 10)).off + 3, none⟩ = some (.int .i64 k') ∧ w'.cell? ⟨(a.add (j * 10)).block, (a.add (j * 10)).off + 4, none⟩ = some (.int .i64 n') ∧ w'.cell? ⟨(a.add (j * 10)).block, (a.add (j * 10)).off + 5, none⟩ = some (.string s') ∧ w'.cell? ⟨(a.add (j * 10)).block, (a.add (j * 10)).off + 6, none⟩ = some (.int .i64 x') ∧ w'.cell? ⟨(a.add (j * 10)).block, (a.add (j * 10)).off + 7, none⟩ = some (.slice A' L1 c'))) (by kernel_rfl) ?_ (fun hHeld => ?_)
        · (try dsimp only) <;> go_keep
        refine wpAnyH_take (i := 0) (v := ?_) rfl (by kernel_rfl) (by kernel_rfl) (by kernel_rfl) (fun _ _ _ h => h) (Or.inl ⟨by kernel_rfl, ?_⟩) (by assumption) ?_
        rotate_left
        · (intro w hSw; (try dsimp only at hSw); go_split_ands; go_simp; try (with_reducible rfl))
        try simp only [Act.put, List.setIfInBounds_toArray, List.set_cons_zero, List.set_cons_succ, List.getElem_toArray, List.getElem_cons_zero]
        refine wpAnyH_take (i := 2) (v := ?_) rfl (by kernel_rfl) (by kernel_rfl) (by kernel_rfl) (fun _ _ _ h => h) (Or.inl ⟨by kernel_rfl, ?_⟩) (by assumption) ?_
        rotate_left
        · (intro w hSw; (try dsimp only at hSw); go_split_ands; go_simp; try (with_reducible rfl))
        try simp only [Act.put, List.setIfInBounds_toArray, List.set_cons_zero, List.set_cons_succ, List.getElem_toArray, List.getElem_cons_zero, List.getElem_cons_succ]
        refine wpAnyH_take (i := 3) (v := ?_) rfl (by kernel_rfl) (by kernel_rfl) (by kernel_rfl) (fun _ _ _ h => h) (Or.inl ⟨by kernel_rfl, ?_⟩) (by assumption) ?_
        rotate_left
        · (intro w hSw; (try dsimp only at hSw); go_split_ands; go_simp; try (with_reducible rfl))
        try simp only [Act.put, List.setIfInBounds_toArray, List.set_cons_zero, List.set_cons_succ, List.getElem_toArray, List.getElem_cons_zero, List.getElem_cons_succ]
        refine wpAnyH_take (i := 4) (v := ?_) rfl (by kernel_rfl) (by kernel_rfl) (by kernel_rfl) (fun _ _ _ h => h) (Or.inl ⟨by kernel_rfl, ?_⟩) (by assumption) ?_
        rotate_left
        · (intro w hSw; (try dsimp only at hSw); go_split_ands; go_simp; try (with_reducible rfl))
        try simp only [Act.put, List.setIfInBounds_toArray, List.set_cons_zero, List.set_cons_succ, List.getElem_toArray, List.getElem_cons_zero, List.getElem_cons_succ]
        refine wpAnyH_take (i := 5) (v := ?_) rfl (by kernel_rfl) (by kernel_rfl) (by kernel_rfl) (fun _ _ _ h => h) (Or.inl ⟨by kernel_rfl, ?_⟩) (by assumption) ?_
        rotate_left
        · (intro w hSw; (try dsimp only at hSw); go_split_ands; go_simp; try (with_reducible rfl))
        try simp only [Act.put, List.setIfInBounds_toArray, List.set_cons_zero, List.set_cons_succ, List.getElem_toArray, List.getElem_cons_zero, List.getElem_cons_succ]
        refine wpAnyH_take (i := 6) (v := ?_) rfl (by kernel_rfl) (by kernel_rfl) (by kernel_rfl) (fun _ _ _ h => h) (Or.inl ⟨by kernel_rfl, ?_⟩) (by assumption) ?_
        rotate_left
        · (intro w hSw; (try dsimp only at hSw); go_split_ands; go_simp; try (with_reducible rfl))
        try simp only [Act.put, List.setIfInBounds_toArray, List.set_cons_zero, List.set_cons_succ, List.getElem_toArray, List.getElem_cons_zero, List.getElem_cons_succ]
        refine wpAnyH_take (i := 7) (v := ?_) rfl (by kernel_rfl) (by kernel_rfl) (by kernel_rfl) (fun _ _ _ h => h) (Or.inl ⟨by kernel_rfl, ?_⟩) (by assumption) ?_
        rotate_left
        · (intro w hSw; (try dsimp only at hSw); go_split_ands; go_simp; try (with_reducible rfl))
        try simp only [Act.put, List.setIfInBounds_toArray, List.set_cons_zero, List.set_cons_succ, List.getElem_toArray, List.getElem_cons_zero, List.getElem_cons_succ]
        refine wpAnyH_take (i := 8) (v := ?_) rfl (by kernel_rfl) (by kernel_rfl) (by kernel_rfl) (fun _ _ _ h => h) (Or.inl ⟨by kernel_rfl, ?_⟩) (by assumption) ?_
        rotate_left
        · (intro w hSw; (try dsimp only at hSw); go_split_ands; go_simp; try (with_reducible rfl))
        try simp only [Act.put, List.setIfInBounds_toArray, List.set_cons_zero, List.set_cons_succ, List.getElem_toArray, List.getElem_cons_zero, List.getElem_cons_succ]
        refine wpAnyH_take (i := 9) (v := ?_) rfl (by kernel_rfl) (by kernel_rfl) (by kernel_rfl) (fun _ _ _ h => h) (Or.inl ⟨by kernel_rfl, ?_⟩) (by assumption) ?_
        rotate_left
        · (intro w hSw; (try dsimp only at hSw); go_split_ands; go_simp; try (with_reducible rfl))
        try simp only [Act.put, List.setIfInBounds_toArray, List.set_cons_zero, List.set_cons_succ, List.getElem_toArray, List.getElem_cons_zero, List.getElem_cons_succ]
        refine wpAnyH_take (i := 10) (v := ?_) rfl (by kernel_rfl) (by kernel_rfl) (by kernel_rfl) (fun _ _ _ h => h) (Or.inl ⟨by kernel_rfl, ?_⟩) (by assumption) ?_
        rotate_left
        · (intro w hSw; (try dsimp only at hSw); go_split_ands; go_simp; try (with_reducible rfl))
        try simp only [Act.put, List.setIfInBounds_toArray, List.set_cons_zero, List.set_cons_succ, List.getElem_toArray, List.getElem_cons_zero, List.getElem_cons_succ]
        refine wpAnyH_take (i := 11) (v := ?_) rfl (by kernel_rfl) (by kernel_rfl) (by kernel_rfl) (fun _ _ _ h => h) (Or.inl ⟨by kernel_rfl, ?_⟩) (by assumption) ?_
        rotate_left
        · (intro w hSw; (try dsimp only at hSw); go_split_ands; go_simp; try (with_reducible rfl))
        try simp only [Act.put, List.setIfInBounds_toArray, List.set_cons_zero, List.set_cons_succ, List.getElem_toArray, List.getElem_cons_zero, List.getElem_cons_succ]
        refine wpAnyH_take (i := 12) (v := ?_) rfl (by kernel_rfl) (by kernel_rfl) (by kernel_rfl) (fun _ _ _ h => h) (Or.inl ⟨by kernel_rfl, ?_⟩) (by assumption) ?_
        rotate_left
        · (intro w hSw; (try dsimp only at hSw); go_split_ands; go_simp; try (with_reducible rfl))
        try simp only [Act.put, List.setIfInBounds_toArray, List.set_cons_zero, List.set_cons_succ, List.getElem_toArray, List.getElem_cons_zero, List.getElem_cons_succ]
        refine wpAnyH_take (i := 13) (v := ?_) rfl (by kernel_rfl) (by kernel_rfl) (by kernel_rfl) (fun _ _ _ h => h) (Or.inl ⟨by kernel_rfl, ?_⟩) (by assumption) ?_
        rotate_left
        · (intro w hSw; (try dsimp only at hSw); go_split_ands; go_simp; try (with_reducible rfl))
        try simp only [Act.put, List.setIfInBounds_toArray, List.set_cons_zero, List.set_cons_succ, List.getElem_toArray, List.getElem_cons_zero, List.getElem_cons_succ]
        refine wpAnyH_ready (rs := [1, 14]) (by kernel_rfl) (by simp) ?_
        refine AllReadyH.cons rfl (fun K hK => ?_) ?_
        · go_simp
          refine hK.out _ _ ?_ (fun hHeld => ?_)
          · (first | go_keep | (go_split_ands; refine ⟨?_, ?_, ?_, ?_, ?_, ?_, ?_, ?_, ?_⟩ <;> (rw [World.cell?_setCell_other _ _ _ _ (HNE.out _ (by first | (show w.heap.size < _; omega) | exact Nat.lt_succ_of_lt HAB.out))]; assumption)))
          clear hK K
          try simp only [Act.put, List.setIfInBounds_toArray, List.set_cons_zero, List.set_cons_succ, List.getElem_toArray, List.getElem_cons_zero, List.getElem_cons_succ]
          refine wpAnyH_ready (rs := [14]) (by kernel_rfl) (by simp) ?_
          refine AllReadyH.cons rfl (fun K hK => ?_) AllReadyH.nil
          go_simp
          go_at_call 16
          refine (IHJ.out _ (Below.refl wr.heap.size wr).drew).mono ?_
          rintro e w1 ⟨v1, rfl, hv1, hb1⟩
          obtain ⟨A2, c2, rfl, hk2, hin2⟩ := hv1.out
          have HV1 := Lib.hid hv1
          rw [← HL1.out]
          have HB1 := Lib.hid (bs ((Below.refl wr.heap.size wr).drew) hb1)
          obtain ⟨q0, q1, q2, q3, q4, q5, q6, q7⟩ := HC8.out.below HB1.out
          simp only at q0 q1 q2
          obtain ⟨s0, -⟩ := rowc (carry HB1.out HE0.out)
          have s02 : w1.cell? ⟨w.heap.size, 2, none⟩ = some (.slice (some a) m d) := s0 2
          have s24 : w1.cell? ⟨M, 4, none⟩ = some (.slice A1 L2 c1) := (rowc (carry HB1.out HE2.out)).1 4
          have s24a : ∀ o, (w1.alloc o).cell? ⟨M, 4, none⟩ = some (.slice A1 L2 c1) := fun o => (rowc (keepAlloc (carry HB1.out HE2.out))).1 4
          have HOW : Hid (∀ o, (w1.alloc o).ownsRow (M + 1) IE 8 (.slice A1 L2 c1) L2 xs) := Lib.hid fun o => by
            have := ((HX.out.below HB1.out).below (b1 w1 o)).1
            rwa [← HLV.out] at this
          clear hb1 hv1 hk2 hin2 s0
          try go_wp2_with (fail)
          refine hK.out _ _ ?_ (fun hHeld => ?_)
          · (first | go_keep | (go_split_ands; refine ⟨?_, ?_, ?_, ?_, ?_, ?_, ?_, ?_, ?_⟩ <;> (rw [World.cell?_setCell_other _ _ _ _ (HNE.out _ (by first | (show w.heap.size < _; omega) | exact Nat.lt_succ_of_lt HAB.out))]; assumption)))
          clear hK K
          try simp only [Act.put, List.setIfInBounds_toArray, List.set_cons_zero, List.set_cons_succ, List.getElem_toArray, List.getElem_cons_zero, List.getElem_cons_succ]
          refine wpAnyH_take (i := 15) (v := ?_) rfl (by kernel_rfl) (by kernel_rfl) (by kernel_rfl) (fun _ _ _ h => h) (Or.inl ⟨by kernel_rfl, ?_⟩) (by assumption) ?_
          rotate_left
          · (intro w hSw; (try dsimp only at hSw); go_split_ands; go_simp; try (with_reducible rfl))
          try simp only [Act.put, List.setIfInBounds_toArray, List.set_cons_zero, List.set_cons_succ, List.getElem_toArray, List.getElem_cons_zero, List.getElem_cons_succ]
          refine wpAnyH_ready (rs := [16]) (by kernel_rfl) (by simp) ?_
          refine AllReadyH.cons rfl (fun K hK => ?_) AllReadyH.nil
          go_simp
          refine hK.out _ _ ?_ (fun hHeld => ?_)
          · (first | go_keep | (go_split_ands; refine ⟨?_, ?_, ?_, ?_, ?_, ?_, ?_, ?_, ?_⟩ <;> (rw [World.cell?_setCell_other _ _ _ _ (HNE.out _ (by first | (show w.heap.size < _; omega) | exact Nat.lt_succ_of_lt HAB.out))]; assumption)))
          clear hK K
          try simp only [Act.put, List.setIfInBounds_toArray, List.set_cons_zero, List.set_cons_succ, List.getElem_toArray, List.getElem_cons_zero, List.getElem_cons_succ]
          refine wpAnyH_ready (rs := [17]) (by kernel_rfl) (by simp) ?_
          refine AllReadyH.cons rfl (fun K hK => ?_) AllReadyH.nil
          refine step_append_lies _ (by rfl) _ _ 27 (by rfl) (M + 1) IE i0 _ 8 96 Try.underlying27 HII.out HZZ.out.1 HZZ.out.2.1 HZZ.out.2.2 rfl (by decide) (.slice A1 L2 c1) L2 xs (by rfl) (HOW.out _) ⟨w1.heap.size, 0, none⟩ 1 1 [.bool yb, .int .i64 yn, .string ys, .int .i64 k', .int .i64 n', .string s', .int .i64 x', .slice A2 L1 c2] (by rfl) (by rfl) (eight_new w1 _ _ _ _ _ _ _ _ _) (eight_one _ _ _ _ _ _ _ _ _ _) (by omega) (by unfold maxLen; omega) (by omega) (by have := HB1.out.size; have := HSZ.out; simp; omega) (w1.heap.size + 1) (by simp) ?_
          intro g3 c3 w2 hown hgrow hat hlt3
          have hown2 : w2.ownsRow (M + 1) IE 8 (.slice (some ⟨g3, 0, none⟩) (L2 + 1) c3) (vs.length + 1) (xs ++ [.bool yb, .int .i64 yn, .string ys, .int .i64 k', .int .i64 n', .string s', .int .i64 x', .slice A2 vs'.length c2]) := by
            rw [← HLV.out, ← HL1.out]
            exact hown
          have hor := ((HX.out.below HB1.out).below (b1 w1 _)).more (y := ⟨yb, yn, ys⟩) (k := k') (n := n') (s := s') (x := x') (ks' := ks') (vs' := vs') (A := A2) (c := c2) (v' := .slice (some ⟨g3, 0, none⟩) (L2 + 1) c3) HYB.out ((HV1.out.stays (S' := SX (M + 1) (.slice A1 L2 c1)) (fun b hb => ⟨Nat.le_trans HSZ.out hb, fun e => by have := (HR.out.block b e).2; have hb2 : wr.heap.size ≤ b := hb; omega⟩) (fun b _ hlt => rfl)).below' (b1 w1 _)) hown2 hgrow (hat.imp (fun h => h.symm) (fun h => by rw [h]; simp [Value.ownBlock]))
          have HOR := Lib.hid hor
          have hsz1 : M + 1 ≤ w1.heap.size := Nat.le_trans HSZ.out HB1.out.size
          have HB2 : Hid (Below w.heap.size w w2) := Lib.hid (((bs HB.out HB1.out).alloc (by omega) _).grown hgrow (by simp; omega) (fun k hk => by have := (HR.out.block k hk).1; omega))
          have blk : ∀ (b : Nat) (o : Obj), wr.heap[b]? = some o → b < M + 1 → w2.heap[b]? = some o := fun b o h hb => (hgrow.block b (by simp; omega) (fun e => by have := (HR.out.block _ e.symm).1; omega)).trans (keepAlloc (carry HB1.out h))
          have HF0 := Lib.hid (blk _ _ HE0.out (by omega))
          have HF1 := Lib.hid (blk _ _ HE1.out (by omega))
          have HF2 := Lib.hid (blk _ _ HE2.out (by omega))
          have far : ∀ (p : Addr) (u : Value), w1.cell? p = some u → p.block < M + 1 → w2.cell? p = some u := fun p u hu hlt => by
            rw [hgrow.cell_far p (by simp; have := World.block_lt_of_cell? _ _ hu; omega) (fun e => by have := (HR.out.block _ e.symm).1; omega)]
            exact cell_stays (fun hlt => (b1 w1 _).block _ hlt) hu
          have t02 := far _ _ s02 (by show w.heap.size < _; omega)
          have t24 := far _ _ s24 (by show M < _; omega)
          have t0 := far _ _ q0 (Nat.lt_of_lt_of_le HAB.out (by omega))
          have t1 := far _ _ q1 (Nat.lt_of_lt_of_le HAB.out (by omega))
          have t2 := far _ _ q2 (Nat.lt_of_lt_of_le HAB.out (by omega))
          have t3 := far _ _ q3 (Nat.lt_of_lt_of_le HAB.out (by omega))
          have t4 := far _ _ q4 (Nat.lt_of_lt_of_le HAB.out (by omega))
          have t5 := far _ _ q5 (Nat.lt_of_lt_of_le HAB.out (by omega))
          have t6 := far _ _ q6 (Nat.lt_of_lt_of_le HAB.out (by omega))
          have t7 := far _ _ q7 (Nat.lt_of_lt_of_le HAB.out (by omega))
          have ff2 : w2.frozen? ⟨M, 4, none⟩ = false := (rowc HF2.out).2 4
          clear hown hown2 hgrow hat hor far blk
          refine hK.out _ _ ?_ (fun hHeld => ?_)
          · (first | go_keep | (go_split_ands; refine ⟨?_, ?_, ?_, ?_, ?_, ?_, ?_, ?_, ?_⟩ <;> (rw [World.cell?_setCell_other _ _ _ _ (HNE.out _ (by first | (show w.heap.size < _; omega) | exact Nat.lt_succ_of_lt HAB.out))]; assumption)))
          clear hK K
          try simp only [Act.put, List.setIfInBounds_toArray, List.set_cons_zero, List.set_cons_succ, List.getElem_toArray, List.getElem_cons_zero, List.getElem_cons_succ]
          refine wpAnyH_take (i := 18) (v := ?_) rfl (by kernel_rfl) (by kernel_rfl) (by kernel_rfl) (fun _ _ _ h => h) (Or.inl ⟨by kernel_rfl, ?_⟩) (by assumption) ?_
          rotate_left
          · (intro w hSw; (try dsimp only at hSw); go_split_ands; go_simp; try (with_reducible rfl))
          try simp only [Act.put, List.setIfInBounds_toArray, List.set_cons_zero, List.set_cons_succ, List.getElem_toArray, List.getElem_cons_zero, List.getElem_cons_succ]
          refine wpAnyH_ready (rs := [19]) (by kernel_rfl) (by simp) ?_
          refine AllReadyH.cons rfl (fun K hK => ?_) AllReadyH.nil
          go_simp
          refine hK.out _ _ ?_ (fun hHeld => ?_)
          · (first | go_keep | (go_split_ands; refine ⟨?_, ?_, ?_, ?_, ?_, ?_, ?_, ?_, ?_⟩ <;> (rw [World.cell?_setCell_other _ _ _ _ (HNE.out _ (by first | (show w.heap.size < _; omega) | exact Nat.lt_succ_of_lt HAB.out))]; assumption)))
          clear hK K
          try simp only [Act.put, List.setIfInBounds_toArray, List.set_cons_zero, List.set_cons_succ, List.getElem_toArray, List.getElem_cons_zero, List.getElem_cons_succ]
          refine wpAnyH_done (by kernel_rfl) ?_ _
          go_wp2_with (fail)
          go_roundg (m - j)
          case rel =>
            have hr := HOR.out
            exact ⟨j + 1, L2 + 1, _, _, ks ++ [⟨yb, yn, ys⟩], vs ++ [.mk k' n' s' x' ks' vs'], by go_num, by omega, by omega, by omega, Lib.hid (by rw [HLV.out]; simp), HKV2, Lib.hid ((set_other (by omega)).trans HF0.out), Lib.hid ((set_other (by omega)).trans HF1.out), Lib.hid (by have := set_heap HF2.out 4 (.slice (some ⟨g3, 0, none⟩) (L2 + 1) c3); simpa using this), Lib.hid (hr.above fun b hb _ => set_other (by omega)), Lib.hid (HB2.out.setCell (by simp; omega) _)⟩
          case measure => omega
        refine AllReadyH.cons rfl (fun K hK => ?_) AllReadyH.nil
        go_simp
        go_at_call 16
        refine (IHJ.out _ (Below.refl wr.heap.size wr).drew).mono ?_
        rintro e w1 ⟨v1, rfl, hv1, hb1⟩
        obtain ⟨A2, c2, rfl, hk2, hin2⟩ := hv1.out
        have HV1 := Lib.hid hv1
        rw [← HL1.out]
        have HB1 := Lib.hid (bs ((Below.refl wr.heap.size wr).drew) hb1)
        obtain ⟨q0, q1, q2, q3, q4, q5, q6, q7⟩ := HC8.out.below HB1.out
        simp only at q0 q1 q2
        obtain ⟨s0, -⟩ := rowc (carry HB1.out HE0.out)
        have s02 : w1.cell? ⟨w.heap.size, 2, none⟩ = some (.slice (some a) m d) := s0 2
        have s24 : w1.cell? ⟨M, 4, none⟩ = some (.slice A1 L2 c1) := (rowc (carry HB1.out HE2.out)).1 4
        have s24a : ∀ o, (w1.alloc o).cell? ⟨M, 4, none⟩ = some (.slice A1 L2 c1) := fun o => (rowc (keepAlloc (carry HB1.out HE2.out))).1 4
        have HOW : Hid (∀ o, (w1.alloc o).ownsRow (M + 1) IE 8 (.slice A1 L2 c1) L2 xs) := Lib.hid fun o => by
          have := ((HX.out.below HB1.out).below (b1 w1 o)).1
          rwa [← HLV.out] at this
        clear hb1 hv1 hk2 hin2 s0
        try go_wp2_with (fail)
        refine hK.out _ _ ?_ (fun hHeld => ?_)
        · (first | go_keep | (go_split_ands; refine ⟨?_, ?_, ?_, ?_, ?_, ?_, ?_, ?_, ?_⟩ <;> (rw [World.cell?_setCell_other _ _ _ _ (HNE.out _ (by first | (show w.heap.size < _; omega) | exact Nat.lt_succ_of_lt HAB.out))]; assumption)))
        clear hK K
        try simp only [Act.put, List.setIfInBounds_toArray, List.set_cons_zero, List.set_cons_succ, List.getElem_toArray, List.getElem_cons_zero, List.getElem_cons_succ]
        refine wpAnyH_take (i := 15) (v := ?_) rfl (by kernel_rfl) (by kernel_rfl) (by kernel_rfl) (fun _ _ _ h => h) (Or.inl ⟨by kernel_rfl, ?_⟩) (by assumption) ?_
        rotate_left
        · (intro w hSw; (try dsimp only at hSw); go_split_ands; go_simp; try (with_reducible rfl))
        try simp only [Act.put, List.setIfInBounds_toArray, List.set_cons_zero, List.set_cons_succ, List.getElem_toArray, List.getElem_cons_zero, List.getElem_cons_succ]
        refine wpAnyH_ready (rs := [1, 16]) (by kernel_rfl) (by simp) ?_
        refine AllReadyH.cons rfl (fun K hK => ?_) ?_
        · go_simp
          refine hK.out _ _ ?_ (fun hHeld => ?_)
          · (first | go_keep | (go_split_ands; refine ⟨?_, ?_, ?_, ?_, ?_, ?_, ?_, ?_, ?_⟩ <;> (rw [World.cell?_setCell_other _ _ _ _ (HNE.out _ (by first | (show w.heap.size < _; omega) | exact Nat.lt_succ_of_lt HAB.out))]; assumption)))
          clear hK K
          try simp only [Act.put, List.setIfInBounds_toArray, List.set_cons_zero, List.set_cons_succ, List.getElem_toArray, List.getElem_cons_zero, List.getElem_cons_succ]
          refine wpAnyH_ready (rs := [16]) (by kernel_rfl) (by simp) ?_
          refine AllReadyH.cons rfl (fun K hK => ?_) AllReadyH.nil
          go_simp
          refine hK.out _ _ ?_ (fun hHeld => ?_)
          · (first | go_keep | (go_split_ands; refine ⟨?_, ?_, ?_, ?_, ?_, ?_, ?_, ?_, ?_⟩ <;> (rw [World.cell?_setCell_other _ _ _ _ (HNE.out _ (by first | (show w.heap.size < _; omega) | exact Nat.lt_succ_of_lt HAB.out))]; assumption)))
          clear hK K
          try simp only [Act.put, List.setIfInBounds_toArray, List.set_cons_zero, List.set_cons_succ, List.getElem_toArray, List.getElem_cons_zero, List.getElem_cons_succ]
          refine wpAnyH_ready (rs := [17]) (by kernel_rfl) (by simp) ?_
          refine AllReadyH.cons rfl (fun K hK => ?_) AllReadyH.nil
          refine step_append_lies _ (by rfl) _ _ 27 (by rfl) (M + 1) IE i0 _ 8 96 Try.underlying27 HII.out HZZ.out.1 HZZ.out.2.1 HZZ.out.2.2 rfl (by decide) (.slice A1 L2 c1) L2 xs (by rfl) (HOW.out _) ⟨w1.heap.size, 0, none⟩ 1 1 [.bool yb, .int .i64 yn, .string ys, .int .i64 k', .int .i64 n', .string s', .int .i64 x', .slice A2 L1 c2] (by rfl) (by rfl) (eight_new w1 _ _ _ _ _ _ _ _ _) (eight_one _ _ _ _ _ _ _ _ _ _) (by omega) (by unfold maxLen; omega) (by omega) (by have := HB1.out.size; have := HSZ.out; simp; omega) (w1.heap.size + 1) (by simp) ?_
          intro g3 c3 w2 hown hgrow hat hlt3
          have hown2 : w2.ownsRow (M + 1) IE 8 (.slice (some ⟨g3, 0, none⟩) (L2 + 1) c3) (vs.length + 1) (xs ++ [.bool yb, .int .i64 yn, .string ys, .int .i64 k', .int .i64 n', .string s', .int .i64 x', .slice A2 vs'.length c2]) := by
            rw [← HLV.out, ← HL1.out]
            exact hown
          have hor := ((HX.out.below HB1.out).below (b1 w1 _)).more (y := ⟨yb, yn, ys⟩) (k := k') (n := n') (s := s') (x := x') (ks' := ks') (vs' := vs') (A := A2) (c := c2) (v' := .slice (some ⟨g3, 0, none⟩) (L2 + 1) c3) HYB.out ((HV1.out.stays (S' := SX (M + 1) (.slice A1 L2 c1)) (fun b hb => ⟨Nat.le_trans HSZ.out hb, fun e => by have := (HR.out.block b e).2; have hb2 : wr.heap.size ≤ b := hb; omega⟩) (fun b _ hlt => rfl)).below' (b1 w1 _)) hown2 hgrow (hat.imp (fun h => h.symm) (fun h => by rw [h]; simp [Value.ownBlock]))
          have HOR := Lib.hid hor
          have hsz1 : M + 1 ≤ w1.heap.size := Nat.le_trans HSZ.out HB1.out.size
          have HB2 : Hid (Below w.heap.size w w2) := Lib.hid (((bs HB.out HB1.out).alloc (by omega) _).grown hgrow (by simp; omega) (fun k hk => by have := (HR.out.block k hk).1; omega))
          have blk : ∀ (b : Nat) (o : Obj), wr.heap[b]? = some o → b < M + 1 → w2.heap[b]? = some o := fun b o h hb => (hgrow.block b (by simp; omega) (fun e => by have := (HR.out.block _ e.symm).1; omega)).trans (keepAlloc (carry HB1.out h))
          have HF0 := Lib.hid (blk _ _ HE0.out (by omega))
          have HF1 := Lib.hid (blk _ _ HE1.out (by omega))
          have HF2 := Lib.hid (blk _ _ HE2.out (by omega))
          have far : ∀ (p : Addr) (u : Value), w1.cell? p = some u → p.block < M + 1 → w2.cell? p = some u := fun p u hu hlt => by
            rw [hgrow.cell_far p (by simp; have := World.block_lt_of_cell? _ _ hu; omega) (fun e => by have := (HR.out.block _ e.symm).1; omega)]
            exact cell_stays (fun hlt => (b1 w1 _).block _ hlt) hu
          have t02 := far _ _ s02 (by show w.heap.size < _; omega)
          have t24 := far _ _ s24 (by show M < _; omega)
          have t0 := far _ _ q0 (Nat.lt_of_lt_of_le HAB.out (by omega))
          have t1 := far _ _ q1 (Nat.lt_of_lt_of_le HAB.out (by omega))
          have t2 := far _ _ q2 (Nat.lt_of_lt_of_le HAB.out (by omega))
          have t3 := far _ _ q3 (Nat.lt_of_lt_of_le HAB.out (by omega))
          have t4 := far _ _ q4 (Nat.lt_of_lt_of_le HAB.out (by omega))
          have t5 := far _ _ q5 (Nat.lt_of_lt_of_le HAB.out (by omega))
          have t6 := far _ _ q6 (Nat.lt_of_lt_of_le HAB.out (by omega))
          have t7 := far _ _ q7 (Nat.lt_of_lt_of_le HAB.out (by omega))
          have ff2 : w2.frozen? ⟨M, 4, none⟩ = false := (rowc HF2.out).2 4
          clear hown hown2 hgrow hat hor far blk
          refine hK.out _ _ ?_ (fun hHeld => ?_)
          · (first | go_keep | (go_split_ands; refine ⟨?_, ?_, ?_, ?_, ?_, ?_, ?_, ?_, ?_⟩ <;> (rw [World.cell?_setCell_other _ _ _ _ (HNE.out _ (by first | (show w.heap.size < _; omega) | exact Nat.lt_succ_of_lt HAB.out))]; assumption)))
          clear hK K
          try simp only [Act.put, List.setIfInBounds_toArray, List.set_cons_zero, List.set_cons_succ, List.getElem_toArray, List.getElem_cons_zero, List.getElem_cons_succ]
          refine wpAnyH_take (i := 18) (v := ?_) rfl (by kernel_rfl) (by kernel_rfl) (by kernel_rfl) (fun _ _ _ h => h) (Or.inl ⟨by kernel_rfl, ?_⟩) (by assumption) ?_
          rotate_left
          · (intro w hSw; (try dsimp only at hSw); go_split_ands; go_simp; try (with_reducible rfl))
          try simp only [Act.put, List.setIfInBounds_toArray, List.set_cons_zero, List.set_cons_succ, List.getElem_toArray, List.getElem_cons_zero, List.getElem_cons_succ]
          refine wpAnyH_ready (rs := [19]) (by kernel_rfl) (by simp) ?_
          refine AllReadyH.cons rfl (fun K hK => ?_) AllReadyH.nil
          go_simp
          refine hK.out _ _ ?_ (fun hHeld => ?_)
          · (first | go_keep | (go_split_ands; refine ⟨?_, ?_, ?_, ?_, ?_, ?_, ?_, ?_, ?_⟩ <;> (rw [World.cell?_setCell_other _ _ _ _ (HNE.out _ (by first | (show w.heap.size < _; omega) | exact Nat.lt_succ_of_lt HAB.out))]; assumption)))
          clear hK K
          try simp only [Act.put, List.setIfInBounds_toArray, List.set_cons_zero, List.set_cons_succ, List.getElem_toArray, List.getElem_cons_zero, List.getElem_cons_succ]
          refine wpAnyH_done (by kernel_rfl) ?_ _
          go_wp2_with (fail)
          go_roundg (m - j)
          case rel =>
            have hr := HOR.out
            exact ⟨j + 1, L2 + 1, _, _, ks ++ [⟨yb, yn, ys⟩], vs ++ [.mk k' n' s' x' ks' vs'], by go_num, by omega, by omega, by omega, Lib.hid (by rw [HLV.out]; simp), HKV2, Lib.hid ((set_other (by omega)).trans HF0.out), Lib.hid ((set_other (by omega)).trans HF1.out), Lib.hid (by have := set_heap HF2.out 4 (.slice (some ⟨g3, 0, none⟩) (L2 + 1) c3); simpa using this), Lib.hid (hr.above fun b hb _ => set_other (by omega)), Lib.hid (HB2.out.setCell (by simp; omega) _)⟩
          case measure => omega
        refine AllReadyH.cons rfl (fun K hK => ?_) AllReadyH.nil
        go_simp
        refine hK.out _ _ ?_ (fun hHeld => ?_)
        · (first | go_keep | (go_split_ands; refine ⟨?_, ?_, ?_, ?_, ?_, ?_, ?_, ?_, ?_⟩ <;> (rw [World.cell?_setCell_other _ _ _ _ (HNE.out _ (by first | (show w.heap.size < _; omega) | exact Nat.lt_succ_of_lt HAB.out))]; assumption)))
        clear hK K
        try simp only [Act.put, List.setIfInBounds_toArray, List.set_cons_zero, List.set_cons_succ, List.getElem_toArray, List.getElem_cons_zero, List.getElem_cons_succ]
        refine wpAnyH_ready (rs := [1]) (by kernel_rfl) (by simp) ?_
        refine AllReadyH.cons rfl (fun K hK => ?_) AllReadyH.nil
        go_simp
        refine hK.out _ _ ?_ (fun hHeld => ?_)
        · (first | go_keep | (go_split_ands; refine ⟨?_, ?_, ?_, ?_, ?_, ?_, ?_, ?_, ?_⟩ <;> (rw [World.cell?_setCell_other _ _ _ _ (HNE.out _ (by first | (show w.heap.size < _; omega) | exact Nat.lt_succ_of_lt HAB.out))]; assumption)))
        clear hK K
        try simp only [Act.put, List.setIfInBounds_toArray, List.set_cons_zero, List.set_cons_succ, List.getElem_toArray, List.getElem_cons_zero, List.getElem_cons_succ]
        refine wpAnyH_ready (rs := [17]) (by kernel_rfl) (by simp) ?_
        refine AllReadyH.cons rfl (fun K hK => ?_) AllReadyH.nil
        refine step_append_lies _ (by rfl) _ _ 27 (by rfl) (M + 1) IE i0 _ 8 96 Try.underlying27 HII.out HZZ.out.1 HZZ.out.2.1 HZZ.out.2.2 rfl (by decide) (.slice A1 L2 c1) L2 xs (by rfl) (HOW.out _) ⟨w1.heap.size, 0, none⟩ 1 1 [.bool yb, .int .i64 yn, .string ys, .int .i64 k', .int .i64 n', .string s', .int .i64 x', .slice A2 L1 c2] (by rfl) (by rfl) (eight_new w1 _ _ _ _ _ _ _ _ _) (eight_one _ _ _ _ _ _ _ _ _ _) (by omega) (by unfold maxLen; omega) (by omega) (by have := HB1.out.size; have := HSZ.out; simp; omega) (w1.heap.size + 1) (by simp) ?_
        intro g3 c3 w2 hown hgrow hat hlt3
        have hown2 : w2.ownsRow (M + 1) IE 8 (.slice (some ⟨g3, 0, none⟩) (L2 + 1) c3) (vs.length + 1) (xs ++ [.bool yb, .int .i64 yn, .string ys, .int .i64 k', .int .i64 n', .string s', .int .i64 x', .slice A2 vs'.length c2]) := by
          rw [← HLV.out, ← HL1.out]
          exact hown
        have hor := ((HX.out.below HB1.out).below (b1 w1 _)).more (y := ⟨yb, yn, ys⟩) (k := k') (n := n') (s := s') (x := x') (ks' := ks') (vs' := vs') (A := A2) (c := c2) (v' := .slice (some ⟨g3, 0, none⟩) (L2 + 1) c3) HYB.out ((HV1.out.stays (S' := SX (M + 1) (.slice A1 L2 c1)) (fun b hb => ⟨Nat.le_trans HSZ.out hb, fun e => by have := (HR.out.block b e).2; have hb2 : wr.heap.size ≤ b := hb; omega⟩) (fun b _ hlt => rfl)).below' (b1 w1 _)) hown2 hgrow (hat.imp (fun h => h.symm) (fun h => by rw [h]; simp [Value.ownBlock]))
        have HOR := Lib.hid hor
        have hsz1 : M + 1 ≤ w1.heap.size := Nat.le_trans HSZ.out HB1.out.size
        have HB2 : Hid (Below w.heap.size w w2) := Lib.hid (((bs HB.out HB1.out).alloc (by omega) _).grown hgrow (by simp; omega) (fun k hk => by have := (HR.out.block k hk).1; omega))
        have blk : ∀ (b : Nat) (o : Obj), wr.heap[b]? = some o → b < M + 1 → w2.heap[b]? = some o := fun b o h hb => (hgrow.block b (by simp; omega) (fun e => by have := (HR.out.block _ e.symm).1; omega)).trans (keepAlloc (carry HB1.out h))
        have HF0 := Lib.hid (blk _ _ HE0.out (by omega))
        have HF1 := Lib.hid (blk _ _ HE1.out (by omega))
        have HF2 := Lib.hid (blk _ _ HE2.out (by omega))
        have far : ∀ (p : Addr) (u : Value), w1.cell? p = some u → p.block < M + 1 → w2.cell? p = some u := fun p u hu hlt => by
          rw [hgrow.cell_far p (by simp; have := World.block_lt_of_cell? _ _ hu; omega) (fun e => by have := (HR.out.block _ e.symm).1; omega)]
          exact cell_stays (fun hlt => (b1 w1 _).block _ hlt) hu
        have t02 := far _ _ s02 (by show w.heap.size < _; omega)
        have t24 := far _ _ s24 (by show M < _; omega)
        have t0 := far _ _ q0 (Nat.lt_of_lt_of_le HAB.out (by omega))
        have t1 := far _ _ q1 (Nat.lt_of_lt_of_le HAB.out (by omega))
        have t2 := far _ _ q2 (Nat.lt_of_lt_of_le HAB.out (by omega))
        have t3 := far _ _ q3 (Nat.lt_of_lt_of_le HAB.out (by omega))
        have t4 := far _ _ q4 (Nat.lt_of_lt_of_le HAB.out (by omega))
        have t5 := far _ _ q5 (Nat.lt_of_lt_of_le HAB.out (by omega))
        have t6 := far _ _ q6 (Nat.lt_of_lt_of_le HAB.out (by omega))
        have t7 := far _ _ q7 (Nat.lt_of_lt_of_le HAB.out (by omega))
        have ff2 : w2.frozen? ⟨M, 4, none⟩ = false := (rowc HF2.out).2 4
        clear hown hown2 hgrow hat hor far blk
        refine hK.out _ _ ?_ (fun hHeld => ?_)
        · (first | go_keep | (go_split_ands; refine ⟨?_, ?_, ?_, ?_, ?_, ?_, ?_, ?_, ?_⟩ <;> (rw [World.cell?_setCell_other _ _ _ _ (HNE.out _ (by first | (show w.heap.size < _; omega) | exact Nat.lt_succ_of_lt HAB.out))]; assumption)))
        clear hK K
        try simp only [Act.put, List.setIfInBounds_toArray, List.set_cons_zero, List.set_cons_succ, List.getElem_toArray, List.getElem_cons_zero, List.getElem_cons_succ]
        refine wpAnyH_take (i := 18) (v := ?_) rfl (by kernel_rfl) (by kernel_rfl) (by kernel_rfl) (fun _ _ _ h => h) (Or.inl ⟨by kernel_rfl, ?_⟩) (by assumption) ?_
        rotate_left
        · (intro w hSw; (try dsimp only at hSw); go_split_ands; go_simp; try (with_reducible rfl))
        try simp only [Act.put, List.setIfInBounds_toArray, List.set_cons_zero, List.set_cons_succ, List.getElem_toArray, List.getElem_cons_zero, List.getElem_cons_succ]
        refine wpAnyH_ready (rs := [19]) (by kernel_rfl) (by simp) ?_
        refine AllReadyH.cons rfl (fun K hK => ?_) AllReadyH.nil
        go_simp
        refine hK.out _ _ ?_ (fun hHeld => ?_)
        · (first | go_keep | (go_split_ands; refine ⟨?_, ?_, ?_, ?_, ?_, ?_, ?_, ?_, ?_⟩ <;> (rw [World.cell?_setCell_other _ _ _ _ (HNE.out _ (by first | (show w.heap.size < _; omega) | exact Nat.lt_succ_of_lt HAB.out))]; assumption)))
        clear hK K
        try simp only [Act.put, List.setIfInBounds_toArray, List.set_cons_zero, List.set_cons_succ, List.getElem_toArray, List.getElem_cons_zero, List.getElem_cons_succ]
        refine wpAnyH_done (by kernel_rfl) ?_ _
        go_wp2_with (fail)
        go_roundg (m - j)
        case rel =>
          have hr := HOR.out
          exact ⟨j + 1, L2 + 1, _, _, ks ++ [⟨yb, yn, ys⟩], vs ++ [.mk k' n' s' x' ks' vs'], by go_num, by omega, by omega, by omega, Lib.hid (by rw [HLV.out]; simp), HKV2, Lib.hid ((set_other (by omega)).trans HF0.out), Lib.hid ((set_other (by omega)).trans HF1.out), Lib.hid (by have := set_heap HF2.out 4 (.slice (some ⟨g3, 0, none⟩) (L2 + 1) c3); simpa using this), Lib.hid (hr.above fun b hb _ => set_other (by omega)), Lib.hid (HB2.out.setCell (by simp; omega) _)⟩
        case measure => omega
    · obtain rfl : j = m := by omega
      obtain ⟨A3, c3, e3, hc3, hi3⟩ := HR.out.isin (by rw [← HLV.out]; unfold maxLen; omega)
      rw [← HLV.out] at e3 hc3
      simp only [Value.slice.injEq, true_and] at e3
      obtain ⟨rfl, rfl⟩ := e3
      have hkv := HKV.out
      rw [show sl.take j = sl by rw [← hm, List.take_length]] at hkv
      obtain ⟨rfl, rfl⟩ := hkv
      have HI3 := Lib.hid hi3
      have HC3 := Lib.hid hc3
      obtain ⟨r0, -⟩ := rowc HE0.out
      have x2 := r0 2
      obtain ⟨r1, f1⟩ := rowc HE1.out
      obtain ⟨r2, f2⟩ := rowc HE2.out
      have y0 := r2 0; have y1 := r2 1; have y2 := r2 2; have y3 := r2 3; have y4 := r2 4
      simp at x2 y0 y1 y2 y3 y4
      clear hi3 hc3 r0 r2 f2
      go_wp2_with (fail)
      generalize hwF : World.setCell (World.setCell (World.setCell (World.setCell (World.setCell wr _ _) _ _) _ _) _ _) _ _ = wF
      obtain ⟨rF, oF, bF⟩ := fill5v HE1.out hwF
      clear hwF
      refine bodyPost_ret (v := vV 4 0 ⟨#[]⟩ x A1 L2 c1) (by simp [results, Try.results5, go_sem, rF]) rfl ⟨_, rfl, ?_, bF _ _ (by omega) HB.out⟩
      have base : TIn wr (fun b => M + 1 ≤ b) (tvT x sl) (vV 4 0 ⟨#[]⟩ x A1 L2 c1) := by
        have := TIn.of (k := 4) (n := 0) (s := ⟨#[]⟩) (x := x) c1 ⟨by unfold I64; omega, by unfold I64; omega, hx, Nat.zero_le _⟩ HI3.out (by rw [← HLV.out]; exact HC3.out)
        rwa [← HLV.out] at this
      exact base.stays (fun b hb => by show w.heap.size ≤ b; have hb' : M + 1 ≤ b := hb; omega) (fun b hb _ => oF b (by have hb' : M + 1 ≤ b := hb; omega))

end Go.Proofs.Ytcjgcnlcijejjaa.tree

