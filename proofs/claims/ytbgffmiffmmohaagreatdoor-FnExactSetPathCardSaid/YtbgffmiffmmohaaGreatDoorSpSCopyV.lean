/-
  The project's copy of a value: each list in a block of its own.
  Conditions: the value holds at most 2^20 and one items and 10^9 letters.
-/
import Derived.Test.YtbgffmiffmmohaaGreatDoorSpSRepeats
import Derived.Test.YtbgffmiffmmohaaGreatDoorSpSCopyI
import Derived.Test.YtbgffmiffmmohaaGreatDoorSpB2
namespace Go.Proofs.YtbgffmiffmmohaaGreatDoor.tree
open Go.ChangeShapes Go.WideShapes Go.ChangeAt Go.RowKit
set_option linter.unusedVariables false

/-- The lists that are pending, as blocks. -/
def At (P : List Pend) (b : Nat) : Prop := ∃ l ∈ P, l.R = some ⟨b, 0, none⟩
structure Jobs (G : Gr) (P : List Pend) : Prop where
  job : ∀ l ∈ P, ∃ b, l.R = some ⟨b, 0, none⟩ ∧ G.lab b = some (l.ks, l.vs) ∧ G.st b = 0 ∧ (l.vs.length ≤ l.c ∧ l.c ≤ maxLen) ∧ tots l.ks l.vs ≤ 1000000000 ∧ l.vs.length ≤ 1000000000 ∧ cnts l.vs ≤ 1000000000
  nd : (P.map Pend.R).Nodup

theorem Jobs.tick {G : Gr} {P : List Pend} (h : Jobs G P) {g : Nat} (hg : ¬ At P g) (j : Nat) : Jobs (G.tick g j) P where
  job := fun l hl => by
    obtain ⟨b, h1, h2, h3, h4⟩ := h.job l hl
    have e : b ≠ g := fun e => hg ⟨l, hl, e ▸ h1⟩
    exact ⟨b, h1, h2, by simp [Gr.tick, e, h3], h4⟩
  nd := h.nd
theorem Jobs.hang {w : World} {B : Nat} {op : Nat → Prop} {G : Gr} {P : List Pend} (hG : GOk w B G op) (h : Jobs G P) {g : Nat} (hg : ¬ At P g) {j g' : Nat} {ks : List Ky} {vs : List Tr} {c : Nat} (hf : w.heap.size ≤ g')
    (hb : (vs.length ≤ c ∧ c ≤ maxLen) ∧ tots ks vs ≤ 1000000000 ∧ vs.length ≤ 1000000000 ∧ cnts vs ≤ 1000000000) : Jobs (G.hang g j g' ks vs) (⟨some ⟨g', 0, none⟩, c, ks, vs⟩ :: P) where
  job := fun l hl => by
    rcases List.mem_cons.1 hl with rfl | hl
    · exact ⟨g', rfl, by simp [Gr.hang], by simp [Gr.hang], hb⟩
    · obtain ⟨b, h1, h2, h3, h4⟩ := h.job l hl
      have e : b ≠ g := fun e => hg ⟨l, hl, e ▸ h1⟩
      have e' : b ≠ g' := by have := hG.lt (g := b) (by rw [h2]; simp); omega
      exact ⟨b, h1, by simp [Gr.hang, e', h2], by simp [Gr.hang, e, e', h3], h4⟩
  nd := by
    rw [List.map_cons, List.nodup_cons]
    refine ⟨fun hm => ?_, h.nd⟩
    obtain ⟨l, hl, e⟩ := List.mem_map.1 hm
    obtain ⟨b, h1, h2, -⟩ := h.job l hl
    rw [h1] at e
    have e1 : b = g' := by simpa using e
    have := hG.lt (g := b) (by rw [h2]; simp)
    omega

def CvQ (w : World) (T : Tr) (e : Ending) (w' : World) : Prop := ∃ v par R, e = .returned v ∧ TPar w' par (R, 0) T v ∧ w.heap.size ≤ R ∧ Below w.heap.size w w'

def CRelV (T : Tr) (w : World) (R M : Nat) (cz : Array Value) (gk : Nat) (way : Value) (wr : World) : Prop :=
  ∃ P G, gk = lefts P ∧ Hid (GOk wr w.heap.size G (At P)) ∧ Hid (Jobs G P) ∧ Hid (∃ y, G.lab R = some ([y], [T])) ∧ PRow wr (w.heap.size + 1) way P ∧ raw.Holds wr GP M (fun _ => none) ∧ Hid (wr.heap[w.heap.size + 1]? = some (.cells cz IV (0, 0))) ∧ Below w.heap.size w wr ∧ gk ≤ 4000000000
def CIRel (T : Tr) (w : World) (R M : Nat) (cz : Array Value) (gk Lr g : Nat) (ks : List Ky) (vs : List Tr) (gk2 : Nat) (way i : Value) (wr : World) : Prop :=
  ∃ (j : Nat) (P : List Pend) (G : Gr), i = .int .i64 j ∧ gk2 + j = Lr + 1 ∧ j ≤ Lr ∧ Hid (GOk wr w.heap.size G (fun b => b = g ∨ At P b)) ∧ Hid (G.lab g = some (ks, vs) ∧ G.st g = j ∧ ¬ At P g) ∧ Hid (Jobs G P) ∧ Hid (∃ y, G.lab R = some ([y], [T])) ∧ PRow wr (w.heap.size + 1) way P ∧ raw.Holds wr GP M (fun _ => none) ∧
    Hid (wr.heap[w.heap.size + 1]? = some (.cells cz IV (0, 0))) ∧ Below w.heap.size w wr ∧ lefts P + wks (vs.drop j) < gk

theorem ie_ne_se : IE ≠ SE := by decide
theorem ie_ne_iv : IE ≠ IV := by decide
/-- A row of lists is no list of items. -/
theorem PRow.far {w : World} {B : Nat} {way : Value} {P : List Pend} (h : PRow w B way P) {g : Nat} {arr : Array Value} (hg : w.heap[g]? = some (.cells arr IE (0, 0))) : some g ≠ way.ownBlock := fun e => by
  rcases h.2 with ⟨h0, _⟩ | ⟨g', cap, cur, h0, hB, hh, _⟩
  · rw [h0] at e; cases e
  · rw [h0] at e
    have : g = g' := by simpa [Value.ownBlock] using e
    subst this
    rw [hh] at hg
    have := ie_ne_se
    simp at hg
    exact this hg.2.symm

theorem zeroSl (w : World) : (zeroValue 30).run Tryz.prog w = .ok (.slice none 0 0) w := by kernel_rfl
theorem gp_none : ∀ w, GP w (.agg #[.pointer none, .int .i64 0]) := fun w => ⟨none, 0, rfl, fun a h => by cases h⟩

/-- Three cells of an item written. -/
def set3 (arr : Array Value) (o : Nat) (c2 c5 c7 : Value) : Array Value := ((arr.setIfInBounds (o + 2) c2).setIfInBounds (o + 5) c5).setIfInBounds (o + 7) c7
theorem set3_size (arr : Array Value) (o : Nat) (c2 c5 c7 : Value) : (set3 arr o c2 c5 c7).size = arr.size := by simp [set3]
theorem set3_out (arr : Array Value) (o : Nat) (c2 c5 c7 : Value) (p : Nat) (h : p < o ∨ o + 8 ≤ p) : (set3 arr o c2 c5 c7)[p]? = arr[p]? := by
  unfold set3
  iterate 3 rw [Array.getElem?_setIfInBounds_ne (by omega)]
theorem set3_at {arr : Array Value} {j : Nat} {y : Ky} {k n x : Int} {s : ByteArray} {A : Option Addr} {L c : Nat} (h : At8r arr j y k n s x A L c) (hs : (j + 1) * 8 ≤ arr.size) (A' : Option Addr) (c' : Nat) : At8r (set3 arr (j * 8) (.string y.str) (.string s) (.slice A' L c')) j y k n s x A' L c' := by
  intro q hq
  unfold set3
  have h' := h q hq
  match q, hq with
  | 0, _ => iterate 3 rw [Array.getElem?_setIfInBounds_ne (by omega)]
            exact h'
  | 1, _ => iterate 3 rw [Array.getElem?_setIfInBounds_ne (by omega)]
            exact h'
  | 2, _ => iterate 2 rw [Array.getElem?_setIfInBounds_ne (by omega)]
            rw [Array.getElem?_setIfInBounds_self_of_lt (by omega)]; rfl
  | 3, _ => iterate 3 rw [Array.getElem?_setIfInBounds_ne (by omega)]
            exact h'
  | 4, _ => iterate 3 rw [Array.getElem?_setIfInBounds_ne (by omega)]
            exact h'
  | 5, _ => rw [Array.getElem?_setIfInBounds_ne (by omega), Array.getElem?_setIfInBounds_self_of_lt (by simp; omega)]; rfl
  | 6, _ => iterate 3 rw [Array.getElem?_setIfInBounds_ne (by omega)]
            exact h'
  | 7, _ => rw [Array.getElem?_setIfInBounds_self_of_lt (by simp; omega)]; rfl

theorem cstartV {w w1 : World} {k n x : Int} {s : ByteArray} {ks : List Ky} {vs : List Tr} {A : Option Addr} {c : Nat} (h : TIn w (Nw 0 w) (.mk k n s x ks vs) (vV k n s x A vs.length c)) (hb : Below w.heap.size w w1) (cz : Array Value)
    (hz : w1.heap[w.heap.size + 1]? = some (.cells cz IV (0, 0))) (hr : w1.heap[w.heap.size + 1 + 1]? = some (.cells #[.bool false, .int .i64 0, .string ⟨#[]⟩, .int .i64 k, .int .i64 n, .string s, .int .i64 x, .slice A vs.length c] IE (0, 0)))
    (hN : cnt (.mk k n s x ks vs) ≤ 1048578) (hT : tot (.mk k n s x ks vs) ≤ 1000000000) :
    CRelV (.mk k n s x ks vs) w (w.heap.size + 1 + 1) w1.heap.size cz (lefts [⟨some ⟨w.heap.size + 1 + 1, 0, none⟩, 1, [⟨false, 0, ⟨#[]⟩⟩], [.mk k n s x ks vs]⟩]) (.slice (some ⟨w1.heap.size + 1, 0, none⟩) 1 1) ((w1.alloc (.map #[] 0)).alloc (.cells #[.slice (some ⟨w.heap.size + 1 + 1, 0, none⟩) 1 1] SE)) := by
  obtain ⟨A', c', e, hk, hin⟩ := h.out
  have hcap := h.cap
  simp at e
  obtain ⟨rfl, rfl⟩ := e
  have B2 := b2 w1 (.map #[] 0) (.cells #[.slice (some ⟨w.heap.size + 1 + 1, 0, none⟩) 1 1] SE)
  have hB := bs hb B2
  have e4 := heap_alloc2_new w1 (.map #[] 0) (.cells #[.slice (some ⟨w.heap.size + 1 + 1, 0, none⟩) 1 1] SE)
  have hm : raw.Holds ((w1.alloc (.map #[] 0)).alloc (.cells #[.slice (some ⟨w.heap.size + 1 + 1, 0, none⟩) 1 1] SE)) GP w1.heap.size (fun _ => none) :=
    (raw.Holds.made w1 GP).kept (Below.heap_alloc _ _ _ (raw.Holds.made w1 GP).lt) (fun x hx => gp_below (b1 _ _) hx)
  have hw : lefts [⟨some ⟨w.heap.size + 1 + 1, 0, none⟩, 1, [⟨false, 0, ⟨#[]⟩⟩], [.mk k n s x ks vs]⟩] ≤ 4000000000 := by have := wk_cnt' (.mk k n s x ks vs); rw [lefts, lefts, wks_cons, wks]; omega
  have hin2 : IsIn ((w1.alloc (.map #[] 0)).alloc (.cells #[.slice (some ⟨w.heap.size + 1 + 1, 0, none⟩) 1 1] SE)) (Lo w.heap.size ((w1.alloc (.map #[] 0)).alloc (.cells #[.slice (some ⟨w.heap.size + 1 + 1, 0, none⟩) 1 1] SE))) ks vs A :=
    hin.stays (fun b hb' => ⟨hb'.2.lt, by obtain ⟨_, cs, t, hc⟩ := hb'; exact ⟨cs, t, carry hB hc⟩⟩) (fun b _ hlt => hB.block b hlt)
  generalize hwf : (w1.alloc (.map #[] 0)).alloc (.cells #[.slice (some ⟨w.heap.size + 1 + 1, 0, none⟩) 1 1] SE) = wf at *
  have hr' := carry B2 hr
  refine ⟨_, ⟨fun b => if b = w.heap.size + 1 + 1 then some ([⟨false, 0, ⟨#[]⟩⟩], [.mk k n s x ks vs]) else none, fun _ => (0, 0), fun _ => 0⟩, rfl, Lib.hid ⟨fun g ks1 vs1 hg => ?_, fun g ks1 vs1 hg hn => ?_⟩, Lib.hid ⟨fun l hl => ?_, by simp⟩, Lib.hid ⟨⟨false, 0, ⟨#[]⟩⟩, if_pos rfl⟩, ⟨rfl, .inr ⟨w1.heap.size + 1, 1, _, rfl, by have := hb.size; omega, e4, by simp, by simp [maxLen], rfl, rfl⟩⟩, hm, Lib.hid (carry B2 hz), hB, hw⟩
  · by_cases e : g = w.heap.size + 1 + 1
    · subst e
      simp at hg
      obtain ⟨rfl, rfl⟩ := hg
      refine ⟨⟨_, hr', by simp, fun i y t hy ht => ?_⟩, rfl, by simp, by omega⟩
      obtain rfl : i = 0 := by
        have := (List.getElem?_eq_some_iff.1 ht).1
        simp at this
        exact this
      simp at hy ht
      subst hy ht
      refine ⟨A, c, ⟨by show I64 0; unfold I64; omega, Nat.zero_le _⟩, hk, hin.1, hcap, fun q hq => ?_, .inr ⟨Nat.zero_le _, hin2⟩⟩
      match q, hq with
      | 0, _ => rfl
      | 1, _ => rfl
      | 2, _ => rfl
      | 3, _ => rfl
      | 4, _ => rfl
      | 5, _ => rfl
      | 6, _ => rfl
      | 7, _ => rfl
    · simp [e] at hg
  · by_cases e : g = w.heap.size + 1 + 1
    · subst e
      exact absurd ⟨_, List.mem_singleton.2 rfl, rfl⟩ hn
    · simp [e] at hg
  · obtain rfl := List.mem_singleton.1 hl
    have ht1 : tots [(⟨false, 0, ⟨#[]⟩⟩ : Ky)] [.mk k n s x ks vs] = tot (.mk k n s x ks vs) := by
      rw [tots_cons]
      show (0 : Nat) + _ + _ = _
      simp [tots]
    have hc1 : cnts [.mk k n s x ks vs] = cnt (.mk k n s x ks vs) := by rw [cnts_cons', cnts_nil]; rfl
    exact ⟨_, rfl, if_pos rfl, rfl, ⟨by simp, by simp [maxLen]⟩, by rw [ht1]; exact hT, by simp, by rw [hc1]; omega⟩

theorem PRow.farT {w : World} {B : Nat} {way : Value} {P : List Pend} (h : PRow w B way P) {g : Nat} {o : Obj} (hg : w.heap[g]? = some o) (ho : ∀ cur, o ≠ .cells cur SE (0, 0)) : some g ≠ way.ownBlock := fun e => by
  rcases h.2 with ⟨h0, _⟩ | ⟨g', cap, cur, h0, hB, hh, _⟩
  · rw [h0] at e; cases e
  · rw [h0] at e
    have : g = g' := by simpa [Value.ownBlock] using e
    subst this
    rw [hh] at hg
    exact ho cur (Option.some.inj hg).symm
theorem look_none : ∀ (l : List MapEntry) (e : MapEntry), e ∈ l → raw.look l e.key ≠ none
  | [], e, h => by cases h
  | x :: l, e, h => by
    rw [raw.look]
    split
    · simp
    · rename_i hne
      rcases List.mem_cons.1 h with rfl | h
      · exact absurd rfl hne
      · exact look_none l e h
theorem holds_none {w w' : World} {M : Nat} (h : raw.Holds w GP M (fun _ => none)) (hb : w'.heap[M]? = w.heap[M]?) : raw.Holds w' GP M (fun _ => none) := by
  obtain ⟨es, clock, hm, hk, hf⟩ := h
  exact ⟨es, clock, hb.trans hm, fun e he => absurd (congrFun hf e.key).symm (look_none _ e he), hf⟩
theorem PRow.off {w w' : World} {B b : Nat} {way : Value} {P : List Pend} (h : PRow w B way P) (hne : some b ≠ way.ownBlock) (hx : ∀ q, q ≠ b → q < w.heap.size → w'.heap[q]? = w.heap[q]?) : PRow w' B way P := by
  refine ⟨h.1, ?_⟩
  rcases h.2 with h0 | ⟨g, cap, cur, h0, hB, hg, hr⟩
  · exact .inl h0
  · refine .inr ⟨g, cap, cur, h0, hB, (hx g (fun e => hne ?_) (Array.getElem?_eq_some_iff.1 hg).1).trans hg, hr⟩
    rw [h0, e]; rfl
theorem gp_plain {w w' : World} (h : ∀ q, Plain w q → Plain w' q) {x : Value} (hx : GP w x) : GP w' x := by
  obtain ⟨p, n, e, hp⟩ := hx
  exact ⟨p, n, e, fun a ha => h _ (hp a ha)⟩
theorem plain_off {w w' : World} {b : Nat} (hx : ∀ q, q ≠ b → q < w.heap.size → w'.heap[q]? = w.heap[q]?) (hb : Plain w' b) : ∀ q, Plain w q → Plain w' q := fun q ⟨cs, t, hc⟩ => by
  by_cases e : q = b
  · rw [e]; exact hb
  · exact ⟨cs, t, (hx q e (Array.getElem?_eq_some_iff.1 hc).1).trans hc⟩
theorem holds_off {w w' : World} {b M : Nat} {f : Value → Option Value} (h : raw.Holds w GP M f) (hx : ∀ q, q ≠ b → q < w.heap.size → w'.heap[q]? = w.heap[q]?) (hb : Plain w b) (hb' : Plain w' b) : raw.Holds w' GP M f := by
  have hne : M ≠ b := fun e => by
    obtain ⟨es, clock, hm, -⟩ := h
    obtain ⟨cs, t, hc⟩ := hb
    rw [e, hc] at hm
    cases hm
  exact h.kept (hx M hne h.lt) fun x hx' => gp_plain (plain_off hx hb') hx'

set_option maxHeartbeats 1600000 in
set_option maxRecDepth 100000 in
theorem copyValue (T : Tr) (v : Value) (w : World) (lo : Nat) (h : TIn w (Nw lo w) T v) (hN : cnt T ≤ 1048578) (hT : tot T ≤ 1000000000) : Calls Tryz.prog 76 #[v] w (CvQ w T) := by
  obtain ⟨k, n, s, x, ks0, vs0⟩ := T
  obtain ⟨A, c, rfl, -, -⟩ := h.out
  replace h : TIn w (Nw 0 w) _ _ := h.stays (fun b hb => ⟨Nat.zero_le _, hb.2⟩) (fun _ _ _ => rfl)
  have hst := fun w1 hb cz hz hr => cstartV (w1 := w1) h hb cz hz hr hN hT
  obtain ⟨L, HL⟩ : ∃ L, Hid (L = vs0.length) := ⟨_, Lib.hid rfl⟩
  obtain ⟨T, HTE⟩ : ∃ T, Hid (T = Tr.mk k n s x ks0 vs0) := ⟨_, Lib.hid rfl⟩
  rw [← HTE.out] at h hst hN hT ⊢
  rw [← HL.out] at h hst ⊢
  have HT := Lib.hid h
  have HST := Lib.hid hst
  clear h hst
  have hmm := @run_makeMap Tryz.prog
  go_enter Tryz.func76, Tryz.ntmps76
  go_wp2_with (fail)
  obtain ⟨a0, a1, a2, az, ab⟩ := al3 w #[.int .i64 k, .int .i64 n, .string s, .int .i64 x, .slice A L c] #[.int .i64 0, .int .i64 0, .string ⟨#[]⟩, .int .i64 0, .slice none 0 0] #[.bool false, .int .i64 0, .string ⟨#[]⟩, .int .i64 k, .int .i64 n, .string s, .int .i64 x, .slice A L c] IV IV IE
  refine (repeatsFew T ⟨false, 0, ⟨#[]⟩⟩ (some ⟨w.heap.size + 1 + 1, 0, none⟩) 1 _ 0 (isin_one (y := ⟨false, 0, ⟨#[]⟩⟩) ⟨Nat.zero_le _, _, _, a2⟩ ⟨by show I64 0; unfold I64; omega, Nat.zero_le _⟩ a2 (HT.out.stays (fun b hb => ⟨Nat.zero_le _, by obtain ⟨_, cs, t, hc⟩ := hb; exact ⟨cs, t, carry ab hc⟩⟩) (fun b _ hlt => ab.block b hlt))) ⟨by omega, by unfold maxLen; omega⟩ hN).mono ?_
  rintro e0 w1 ⟨rfl, hb1⟩
  have A1' := Lib.hid (carry hb1 a1)
  have A2' := Lib.hid (carry hb1 a2)
  have HB1 := Lib.hid (bs ab hb1)
  clear a0 a1 a2 az ab hb1
  obtain ⟨R, HR⟩ : ∃ R, Hid (R = w.heap.size + 1 + 1) := ⟨_, Lib.hid rfl⟩
  go_wp2_with (fail)
  clear hmm
  go_loopg [6] (lefts [⟨some ⟨w.heap.size + 1 + 1, 0, none⟩, 1, [⟨false, 0, ⟨#[]⟩⟩], [T]⟩]) (fun gk way wr => CRelV T w (w.heap.size + 1 + 1) w1.heap.size #[.int .i64 0, .int .i64 0, .string ⟨#[]⟩, .int .i64 0, .slice none 0 0] gk way wr)
  case atStart => exact HST.out w1 HB1.out _ A1'.out A2'.out
  case round =>
    obtain ⟨P, G, hgk, HG, HJ, HRT, hrow, hm1, HZ, hb, hle⟩ := hrel
    cases P with
    | nil =>
      obtain ⟨A0, c0, rfl⟩ := hrow.nil
      have HB := Lib.hid hb
      obtain ⟨y, hy⟩ := HRT.out
      have hfine := HG.out.fine (fun g hg => by obtain ⟨l, hl, -⟩ := hg; cases hl) hy
      obtain ⟨arr, ha, hs, hi⟩ := hfine
      obtain ⟨y', k', n', s', x', ks', vs', A', c', e1, e2, e3, e4, e5⟩ := hi 0 (by simp)
      simp only [List.length_cons, List.length_nil, List.getElem?_cons_zero, Option.some.injEq] at hs e1 e2
      subst e2
      obtain ⟨r, f⟩ := rowc ha
      obtain ⟨L', HL'⟩ : ∃ L', Hid (L' = vs'.length) := ⟨_, Lib.hid rfl⟩
      rw [← HL'.out] at e4 e5
      have q3 : wr.cell? ⟨w.heap.size + 1 + 1, 3, none⟩ = some (.int .i64 k') := (r 3).trans (e4 3 (by omega))
      have q4 : wr.cell? ⟨w.heap.size + 1 + 1, 4, none⟩ = some (.int .i64 n') := (r 4).trans (e4 4 (by omega))
      have q5 : wr.cell? ⟨w.heap.size + 1 + 1, 5, none⟩ = some (.string s') := (r 5).trans (e4 5 (by omega))
      have q6 : wr.cell? ⟨w.heap.size + 1 + 1, 6, none⟩ = some (.int .i64 x') := (r 6).trans (e4 6 (by omega))
      have q7 : wr.cell? ⟨w.heap.size + 1 + 1, 7, none⟩ = some (.slice A' L' c') := (r 7).trans (e4 7 (by omega))
      have HP := Lib.hid e5
      obtain ⟨rz, fz⟩ := rowc HZ.out
      clear hgk hrow hm1 hb hle ha hi r f e4 e5 hy e1 hs e3
      go_wp2_with (fail)
      refine bodyPost_ret (v := vV k' n' s' x' A' L' c') (by simp [results, Tryz.results76, go_sem, rz]) rfl ⟨_, G.par, w.heap.size + 1 + 1, rfl, ?_, by omega, ?_⟩
      · refine HP.out.above fun b hb hlt => ?_
        have q1 : b ≠ w.heap.size + 1 := by simp at hb; omega
        simp only [set_other q1]
      · have hB := HB.out
        iterate 5 refine Below.setCell ?_ (by first | (simp; done) | (simp; omega)) _
        exact hB
    | cons l P =>
      obtain ⟨g0, cc, rfl, hgB, hlc, hcm, htop, hpop⟩ := hrow.top
      obtain ⟨m, HM⟩ : ∃ m, Hid (m = P.length) := ⟨_, Lib.hid rfl⟩
      rw [← HM.out] at htop hlc hpop ⊢
      obtain ⟨b, hRb, hlab, hst0, hcap, htt, hlen, hcn⟩ := HJ.out.job l List.mem_cons_self
      obtain ⟨R1, rc, ks, vs⟩ := l
      simp only at hRb hlab hcap htt hlen hcn
      subst hRb
      obtain ⟨Lr, HLr⟩ : ∃ Lr, Hid (Lr = vs.length) := ⟨_, Lib.hid rfl⟩
      have htop' : wr.cell? ⟨g0, m, none⟩ = some (.slice (some ⟨b, 0, none⟩) Lr rc) := by rw [HLr.out]; exact htop
      have hnat : ¬ At P b := fun ⟨l', hl', e⟩ => by
        have := HJ.out.nd
        rw [List.map_cons, List.nodup_cons] at this
        exact this.1 (List.mem_map.2 ⟨l', hl', e⟩)
      have HG1 : Hid (GOk wr w.heap.size G (fun q => q = b ∨ At P q)) := Lib.hid (HG.out.close fun g ks1 vs1 _ hn => .inl fun ⟨l', hl', e⟩ => by
        rcases List.mem_cons.1 hl' with rfl | hl'
        · exact hn (.inl (by simpa using e.symm))
        · exact hn (.inr ⟨l', hl', e⟩))
      have HJ1 : Hid (Jobs G P) := Lib.hid ⟨fun l' hl' => HJ.out.job l' (List.mem_cons_of_mem _ hl'), by have := HJ.out.nd; rw [List.map_cons, List.nodup_cons] at this; exact this.2⟩
      have HLB : Hid (G.lab b = some (ks, vs) ∧ G.st b = 0 ∧ ¬ At P b) := Lib.hid ⟨hlab, hst0, hnat⟩
      have HTT2 := Lib.hid htt
      have HCN := Lib.hid hcn
      have hLr : Lr ≤ 1000000000 := by rw [HLr.out]; exact hlen
      have HROW2 : PRow wr (w.heap.size + 1) (.slice (some ⟨g0, 0, none⟩) m cc) P := hpop
      have HM1 := Lib.hid hm1
      have HB := Lib.hid hb
      have HGK : Hid (gk = 1 + wks vs + lefts P) := Lib.hid hgk
      have HLE := Lib.hid hle
      unfold maxLen at hcm
      clear hgk hrow hm1 hb hle htop hpop hlab hst0 hcap htt hlen hcn hnat
      go_wp2_with (fail)
      go_loopg [6, 37] (Lr + 1) (fun gk2 way i wr => CIRel T w (w.heap.size + 1 + 1) w1.heap.size #[.int .i64 0, .int .i64 0, .string ⟨#[]⟩, .int .i64 0, .slice none 0 0] gk Lr b ks vs gk2 way i wr)
      case atStart => exact ⟨0, P, G, rfl, by omega, by omega, HG1.out |> Lib.hid, HLB, HJ1, HRT, HROW2, HM1.out, HZ, HB.out, by have := HGK.out; simp; omega⟩
      case round =>
        obtain ⟨j, P2, G2, rfl, hgj, hjL, HG2, HL2, HJ2, HRT2, hrow, hm1, HZ2, hb, hlt2⟩ := hrel
        have HROW5 := Lib.hid hrow
        have HM5 := Lib.hid hm1
        have HB5 := Lib.hid hb
        have HLT2 := Lib.hid hlt2
        clear hrow hm1 hb hlt2
        by_cases hlt : j < Lr
        · obtain ⟨⟨arr, ha, hsz, hit⟩, hkl, hpos, hBb⟩ := HG2.out.blk b ks vs HL2.out.1
          obtain ⟨y, hy⟩ : ∃ y, ks[j]? = some y := ⟨_, List.getElem?_eq_getElem (by rw [hkl, ← HLr.out]; exact hlt)⟩
          obtain ⟨t, ht⟩ : ∃ t, vs[j]? = some t := ⟨_, List.getElem?_eq_getElem (by rw [← HLr.out]; exact hlt)⟩
          have hitem := hit j y t hy ht
          obtain ⟨k', n', s', x', ks', vs'⟩ := t
          obtain ⟨A1, c1, hyb, hkb, hkl', hcap', hat, hsh⟩ := hitem
          have hin : IsIn wr (Lo w.heap.size wr) ks' vs' A1 := by
            rcases hsh with ⟨h1, -⟩ | ⟨-, h1⟩
            · have := HL2.out.2.1; omega
            · exact h1
          have htk := tots_key hy ht
          have hcl := cnts_lt ht
          rw [cnt_mk'] at hcl
          rw [tot_mk] at htk
          have hl' := cnts_len vs'
          have h2 := HTT2.out
          have h3 := HCN.out
          have hys : y.str.size ≤ 1099511627776 := by omega
          have hss : s'.size ≤ 1099511627776 := by omega
          have hL1m : vs'.length ≤ 1000000000 := by omega
          have hbnd : Hid (tots ks' vs' ≤ 1000000000 ∧ vs'.length ≤ 1000000000 ∧ cnts vs' ≤ 1000000000) := Lib.hid ⟨by omega, by omega, by omega⟩
          have hwd : wks (vs.drop j) = 3 + wks vs' + wks (vs.drop (j + 1)) := by
            obtain ⟨hj, e1⟩ := List.getElem?_eq_some_iff.1 ht
            rw [List.drop_eq_getElem_cons hj, e1, wks_cons, wk_mk]
          have CL1 := implClone' y.str hys
          have CL2 := implClone' s' hss
          have hA1 : 0 < vs'.length → ∃ a, A1 = some a := fun h0 => by
            obtain ⟨_, _, C, hc, _⟩ := hin
            obtain ⟨a, ha, _⟩ := hc 0 h0
            exact ⟨a, ha⟩
          obtain ⟨pp, mm, hpl, hgp⟩ : ∃ pp mm, plc A1 vs'.length = .agg #[.pointer pp, .int .i64 mm] ∧ GB w.heap.size wr (.agg #[.pointer pp, .int .i64 mm]) := by
            obtain ⟨pp, mm, h, h'⟩ := PlB.gb (ks := ks') (vs := vs') (⟨A1, hin, rfl⟩ : PlB w.heap.size wr (plc A1 vs'.length) ks' vs')
            exact ⟨pp, mm, h, pp, mm, rfl, h'⟩
          obtain ⟨L1, HL1⟩ : ∃ L1, Hid (L1 = vs'.length) := ⟨_, Lib.hid rfl⟩
          have PO : ∀ w, Calls Tryz.prog 161 #[.slice A1 L1 c1] w (GivesQ w (.agg #[.pointer pp, .int .i64 mm])) := fun w => by rw [HL1.out, ← hpl]; exact placeOf A1 vs'.length c1 hin.2.1 hA1 w
          have CI : ∀ w', Kp w.heap.size wr w' → w.heap.size ≤ w'.heap.size → Calls Tryz.prog 162 #[.slice A1 L1 c1] w' (CiQ w' (Lo w.heap.size w') ks' vs' L1) := fun w' hk hz => by rw [HL1.out]; exact copyItems ks' vs' A1 c1 w' _ (hin.kp hk) hL1m (fun b hb => Nat.lt_of_lt_of_le hb.1 hz)
          have PO := Lib.hid PO
          have CI := Lib.hid CI
          have HGP := Lib.hid hgp
          have HWD := Lib.hid hwd
          have HY := Lib.hid hy
          have HTJ := Lib.hid ht
          have HAT := Lib.hid hat
          have HA := Lib.hid ha
          have HBb := Lib.hid hBb
          rw [HLr.out.symm] at hsz
          have hs8 : (j + 1) * 8 ≤ arr.size := by omega
          have hbl : b < wr.heap.size := (Array.getElem?_eq_some_iff.1 ha).1
          obtain ⟨r, f⟩ := rowc ha
          have y2 : wr.cell? ⟨b, j * 8 + 2, none⟩ = some (.string y.str) := (r _).trans (hat 2 (by omega))
          clear hit hin htk hcl hl' h2 h3 hwd hA1 hpl hgp hy ht hat ha hBb hsz r hkl hpos hyb hkb hkl' hcap'
          go_wp2_with (fail)
          refine (CL1 _).mono ?_
          rintro e1 w2 ⟨rfl, hb2⟩
          have hg2 := (hb2.block b hbl).trans HA.out
          have hbl2 : b < w2.heap.size := (Array.getElem?_eq_some_iff.1 hg2).1
          obtain ⟨r2, f2⟩ := rowc hg2
          have u2 : w2.cell? ⟨b, j * 8 + 2, none⟩ = some (.string y.str) := (r2 _).trans (HAT.out 2 (by omega))
          have u5 : w2.cell? ⟨b, j * 8 + 5, none⟩ = some (.string s') := (r2 _).trans (HAT.out 5 (by omega))
          have HG2' := Lib.hid hg2
          have HX2 : Hid (∀ q, q ≠ b → q < wr.heap.size → w2.heap[q]? = wr.heap[q]?) := Lib.hid fun q _ hq => hb2.block q hq
          have HS2 : Hid (wr.heap.size ≤ w2.heap.size) := Lib.hid hb2.size
          have HW2 : Hid (Below w.heap.size w w2) := Lib.hid (bs HB5.out hb2)
          clear hb2 hg2 r2 y2 f
          go_wp2_with (fail)
          refine (CL2 _).mono ?_
          rintro e2 w3 ⟨rfl, hb3⟩
          have hg3 := (hb3.block b (by rw [set_size]; exact hbl2)).trans (set_heap HG2'.out (j * 8 + 2) (.string y.str))
          have hbl3 : b < w3.heap.size := (Array.getElem?_eq_some_iff.1 hg3).1
          obtain ⟨r3, f3⟩ := rowc hg3
          have u5 : w3.cell? ⟨b, j * 8 + 5, none⟩ = some (.string s') := by rw [r3, Array.getElem?_setIfInBounds_ne (by omega)]; exact HAT.out 5 (by omega)
          have u7 : w3.cell? ⟨b, j * 8 + 7, none⟩ = some (.slice A1 L1 c1) := by rw [r3, Array.getElem?_setIfInBounds_ne (by omega), HL1.out]; exact HAT.out 7 (by omega)
          have HG3' := Lib.hid hg3
          have HX3 : Hid (∀ q, q ≠ b → q < wr.heap.size → w3.heap[q]? = wr.heap[q]?) := Lib.hid fun q hq hl => (hb3.block q (by rw [set_size]; exact Nat.lt_of_lt_of_le hl HS2.out)).trans ((set_other hq).trans (HX2.out q hq hl))
          have HS3 : Hid (wr.heap.size ≤ w3.heap.size) := Lib.hid (Nat.le_trans HS2.out (by have := hb3.size; rwa [set_size] at this))
          have HW3 : Hid (Below w.heap.size w w3) := Lib.hid ((HW2.out.setCell (p := ⟨b, j * 8 + 2, none⟩) HBb.out (.string y.str)).trans (hb3.mono (by rw [set_size]; exact HW2.out.size)))
          clear hb3 hg3 r3 u2 f2
          go_wp2_with (fail)
          refine (PO.out _).mono ?_
          rintro e3 w4 ⟨rfl, hb4⟩
          have hg4 := (hb4.block b (by rw [set_size]; exact hbl3)).trans (set_heap HG3'.out (j * 8 + 5) (.string s'))
          have hbl4 : b < w4.heap.size := (Array.getElem?_eq_some_iff.1 hg4).1
          have hg4' := keepAlloc (o' := .cells #[.pointer pp, .int .i64 mm] PL) hg4
          obtain ⟨r4, f4⟩ := rowc hg4'
          have u7 : (w4.alloc (.cells #[.pointer pp, .int .i64 mm] PL)).cell? ⟨b, j * 8 + 7, none⟩ = some (.slice A1 L1 c1) := by rw [r4, Array.getElem?_setIfInBounds_ne (by omega), Array.getElem?_setIfInBounds_ne (by omega), HL1.out]; exact HAT.out 7 (by omega)
          have HG4' := Lib.hid hg4'
          have HX4 : Hid (∀ q, q ≠ b → q < wr.heap.size → (w4.alloc (.cells #[.pointer pp, .int .i64 mm] PL)).heap[q]? = wr.heap[q]?) := Lib.hid fun q hq hl => (Below.heap_alloc w4 _ q (Nat.lt_of_lt_of_le hl (Nat.le_trans HS3.out (by have := hb4.size; rwa [set_size] at this)))).trans ((hb4.block q (by rw [set_size]; exact Nat.lt_of_lt_of_le hl HS3.out)).trans ((set_other hq).trans (HX3.out q hq hl)))
          have HS4 : Hid (wr.heap.size ≤ (w4.alloc (.cells #[.pointer pp, .int .i64 mm] PL)).heap.size) := Lib.hid (Nat.le_trans HS3.out (Nat.le_trans (by have := hb4.size; rwa [set_size] at this) (b1 w4 _).size))
          have HW4 : Hid (Below w.heap.size w (w4.alloc (.cells #[.pointer pp, .int .i64 mm] PL))) := Lib.hid (((HW3.out.setCell (p := ⟨b, j * 8 + 5, none⟩) HBb.out (.string s')).trans (hb4.mono (by rw [set_size]; exact HW3.out.size))).trans ((b1 w4 _).mono (Nat.le_trans HW3.out.size (by have := hb4.size; rwa [set_size] at this))))
          have hpb : Plain wr b := ⟨_, _, HA.out⟩
          have hpb4 : Plain (w4.alloc (.cells #[.pointer pp, .int .i64 mm] PL)) b := ⟨_, _, HG4'.out⟩
          have hm4 := holds_off HM5.out HX4.out hpb hpb4
          have hgp4 := gp_plain (plain_off HX4.out hpb4) HGP.out.gp
          have HKP4 : Hid (Kp w.heap.size wr (w4.alloc (.cells #[.pointer pp, .int .i64 mm] PL))) := Lib.hid fun q hq hp => HX4.out q (by have := HBb.out; omega) hp.lt
          have HPB := Lib.hid hpb
          clear hb4 hg4 hg4' r4 u5 f3 hpb hpb4
          go_wp2_with (first
            | (at_lookup; refine raw.wpList_lookup_to _ rfl _ _ 169 true rfl hm4 good_pl Tryz.underlying169 (zeroSl _) rfl rfl hgp4 rfl (got_none _) ?_)
            | fail)
          refine (CI.out _ HKP4.out (Nat.le_trans HB5.out.size HS4.out)).mono ?_
          rintro e4 w5 ⟨A2, c2, rfl, hcap2, hsh2, hb5⟩
          have hg5 := carry hb5 HG4'.out
          have hbl5 : b < w5.heap.size := (Array.getElem?_eq_some_iff.1 hg5).1
          obtain ⟨r5, f5⟩ := rowc hg5
          have u7 : w5.cell? ⟨b, j * 8 + 7, none⟩ = some (.slice A1 L1 c1) := by rw [r5, Array.getElem?_setIfInBounds_ne (by omega), Array.getElem?_setIfInBounds_ne (by omega), HL1.out]; exact HAT.out 7 (by omega)
          obtain ⟨W6, HW6⟩ : ∃ W6, Hid (W6 = w5.setCell ⟨b, j * 8 + 7, none⟩ (.slice A2 L1 c2)) := ⟨_, Lib.hid rfl⟩
          have HG6 : Hid (W6.heap[b]? = some (.cells (set3 arr (j * 8) (.string y.str) (.string s') (.slice A2 L1 c2)) IE (0, 0))) := Lib.hid (by rw [HW6.out]; exact set_heap hg5 (j * 8 + 7) (.slice A2 L1 c2))
          have HX6 : Hid (∀ q, q ≠ b → q < wr.heap.size → W6.heap[q]? = wr.heap[q]?) := Lib.hid fun q hq hl => by
            rw [HW6.out]
            exact (set_other hq).trans ((hb5.block q (Nat.lt_of_lt_of_le hl HS4.out)).trans (HX4.out q hq hl))
          have hz6 : W6.heap.size = w5.heap.size := by rw [HW6.out, set_size]
          have HS6 : Hid (wr.heap.size ≤ W6.heap.size) := Lib.hid (by rw [hz6]; exact Nat.le_trans HS4.out hb5.size)
          have HB6 : Hid (Below w.heap.size w W6) := Lib.hid (by rw [HW6.out]; exact ((HW4.out.trans (hb5.mono HW4.out.size)).setCell HBb.out _))
          have hpb6 : Plain W6 b := ⟨_, _, HG6.out⟩
          have HM6 : Hid (raw.Holds W6 GP w1.heap.size (fun _ => none)) := Lib.hid (holds_off HM5.out HX6.out HPB.out hpb6)
          have HKP6 : Hid (Kp w.heap.size wr W6) := Lib.hid fun q hq hp => HX6.out q (by have := HBb.out; omega) hp.lt
          have HROW6 : Hid (PRow W6 (w.heap.size + 1) _ P2) := Lib.hid (HROW5.out.off (HROW5.out.far HA.out) HX6.out)
          have HZ6 : Hid (W6.heap[w.heap.size + 1]? = some (.cells #[.int .i64 0, .int .i64 0, .string ⟨#[]⟩, .int .i64 0, .slice none 0 0] IV (0, 0))) := Lib.hid ((HX6.out _ (fun e => by
            have h1 := HZ2.out
            rw [e, HA.out] at h1
            simp at h1
            exact ie_ne_iv h1.2) (Array.getElem?_eq_some_iff.1 HZ2.out).1).trans HZ2.out)
          have hcapm : L1 ≤ 1000000000 := by rw [HL1.out]; exact hbnd.out.2.1
          have HCAP2 := Lib.hid hcap2
          have HSH : Hid (0 < L1 → ∃ g', A2 = some ⟨g', 0, none⟩ ∧ wr.heap.size ≤ g' ∧ g' < W6.heap.size ∧ Shal W6 (Lo w.heap.size W6) g' ks' vs') := Lib.hid fun h0 => by
            obtain ⟨g', h1, h2, arr2, h3, h4, h5⟩ := hsh2 h0
            have h2' : wr.heap.size ≤ g' := Nat.le_trans HS4.out h2
            have hgb : g' ≠ b := fun e => by have := HG4'.out; have := (Array.getElem?_eq_some_iff.1 this).1; omega
            have hw6 : W6.heap[g']? = w5.heap[g']? := by rw [HW6.out]; exact set_other hgb
            have k56 : Kp w.heap.size (w4.alloc (.cells #[.pointer pp, .int .i64 mm] PL)) W6 := fun q hq hp => by
              rw [HW6.out]
              exact (set_other (by have := HBb.out; omega)).trans (hb5.block q hp.lt)
            refine ⟨g', h1, h2', by rw [hz6]; exact (Array.getElem?_eq_some_iff.1 h3).1, arr2, hw6.trans h3, h4, fun i y2 k2 n2 s2 x2 ks2 vs2 hy2 hv2 => ?_⟩
            obtain ⟨A3, c3, q1, q2, q3, q4, q5, q6⟩ := h5 i y2 k2 n2 s2 x2 ks2 vs2 hy2 hv2
            exact ⟨A3, c3, q1, q2, q3, q4, q5, q6.stays (fun q hq => hq.kp k56) fun q hq hlt => by
              rw [HW6.out]
              exact set_other (by have := hq.1; have := HBb.out; omega)⟩
          clear hb5 hg5 r5 f4 hcap2 hsh2 hm4 hgp4 hpb6
          have HWR : Hid (∀ arr', wr.heap[b]? = some (.cells arr' IE (0, 0)) → arr' = arr) := Lib.hid fun arr' h => by rw [HA.out] at h; injection h with h; injection h with h; exact h.symm
          by_cases h0 : L1 = 0
          · subst h0
            obtain rfl : vs' = [] := List.length_eq_zero_iff.1 HL1.out.symm
            have hks : ks' = ks' := rfl
            go_wp2_with (fail)
            rw [← HW6.out]
            go_roundg (Lr - j)
            case rel =>
              have hG := HG2.out.tick (w' := W6) HL2.out.1 (.inl rfl) HL2.out.2.1 HY.out HTJ.out HKP6.out (fun q hq hl => HX6.out q hq (HG2.out.lt hl)) (fun arr' h => by
                obtain rfl := HWR.out arr' h
                exact ⟨_, A2, c2, HG6.out, set3_size _ _ _ _ _, HCAP2.out.2, set3_at HAT.out hs8 A2 c2, fun q hq => set3_out _ _ _ _ _ q hq⟩)
              obtain ⟨y0, hy0⟩ := HRT2.out
              refine ⟨j + 1, P2, _, by go_num, by omega, by omega, Lib.hid hG, Lib.hid ⟨HL2.out.1, by simp [Gr.tick], HL2.out.2.2⟩, Lib.hid (HJ2.out.tick HL2.out.2.2 _), Lib.hid ⟨y0, hy0⟩, HROW6.out, HM6.out, HZ6, HB6.out, by have := HLT2.out; rw [HWD.out] at this; omega⟩
            case measure => omega
          · have hpos : 0 < L1 := by omega
            obtain ⟨g', rfl, hg'1, hg'2, hshal⟩ := HSH.out hpos
            obtain ⟨i0, hi, hz⟩ : ∃ i, Tryz.prog.info? SE = some i ∧ (i.zero = some (.slice none 0 0) ∧ i.size = 1 ∧ i.bytes = 24) := by
              have := seRow
              cases hq : Tryz.prog.info? SE with
              | none => rw [hq] at this; cases this
              | some i => rw [hq] at this; simp at this; exact ⟨i, rfl, this⟩
            have HII := Lib.hid hi
            have HZZ := Lib.hid hz
            have HSHAL := Lib.hid hshal
            have hP : P2.length ≤ 1099511627776 := by have h1 := lefts_len P2; have h2 := HLT2.out; have h3 := HLE.out; omega
            obtain ⟨NP, HNP⟩ : ∃ NP, Hid (NP = P2.length) := ⟨_, Lib.hid rfl⟩
            rw [← HNP.out] at hP
            have HSZ6 : Hid (w.heap.size + 1 ≤ W6.heap.size) := Lib.hid (Array.getElem?_eq_some_iff.1 HZ6.out).1 |> fun h => Lib.hid (Nat.le_of_lt h.out)
            clear hi hz hshal h0
            go_wp2_with (first
              | (at_builtin; rw [← HW6.out]; refine wpList_append_own _ rfl _ _ 170 rfl (w.heap.size + 1) SE i0 _ 1 24 Tryz.underlying170 HII.out HZZ.out.1 HZZ.out.2.1 HZZ.out.2.2 rfl (by decide) _ NP _ rfl (by rw [HNP.out]; exact HROW6.out.below (b1 _ _)) ⟨w5.heap.size, 0, none⟩ 1 1 [.slice (some ⟨g', 0, none⟩) L1 c2] rfl rfl (one_new' _ _ _ hz6) (by intro u hu; simp at hu; subst hu; rfl) (by unfold maxLen; omega) (by omega) (by have := HSZ6.out; simp; omega) ?_
                 intro v' w7 hown' hgrow' hnil
                 have HR7 := Lib.hid hown'
                 have HG7 := Lib.hid hgrow'
                 clear hown' hgrow' hnil)
              | fail)
            go_roundg (Lr - j)
            case rel =>
              have hG := HG2.out.hang (w' := W6) HL2.out.1 (.inl rfl) HL2.out.2.1 HY.out HTJ.out (by rw [← HL1.out]; exact hpos) hg'1 (Nat.le_trans HB5.out.size hg'1) HKP6.out (fun q hq hl => HX6.out q hq (HG2.out.lt hl)) (fun arr' h => by
                obtain rfl := HWR.out arr' h
                refine ⟨_, c2, HG6.out, set3_size _ _ _ _ _, by rw [← HL1.out]; exact HCAP2.out, ?_, fun q hq => set3_out _ _ _ _ _ q hq⟩
                rw [HL1.out]
                exact set3_at HAT.out hs8 _ _) HSHAL.out
              have kb := b1 W6 (.cells #[.slice (some ⟨g', 0, none⟩) L1 c2] SE)
              have hrow7 := HROW6.out.below kb
              have hr7 := hrow7.own
              have hx7 : ∀ q, some q ≠ _ → q < W6.heap.size → w7.heap[q]? = W6.heap[q]? := fun q hq hl => (HG7.out.block q (Nat.lt_of_lt_of_le hl kb.size) hq).trans (kb.block q hl)
              have k7 : Kp w.heap.size W6 w7 := fun q hq hp => hx7 q (fun h => by have := hr7 _ h.symm; omega) hp.lt
              have hG7 := hG.keep k7 (fun q hl => by
                have hq := hG.lt hl
                obtain ⟨⟨kq, vq⟩, hlq⟩ := Option.ne_none_iff_exists'.1 hl
                obtain ⟨⟨arrq, haq, -⟩, -⟩ := hG.blk q kq vq hlq
                exact hx7 q (HROW6.out.far haq) hq)
              have hJ := HJ2.out.hang HG2.out HL2.out.2.2 (j := j) (g' := g') (ks := ks') (vs := vs') (c := c2) hg'1 ⟨by rw [← HL1.out]; exact HCAP2.out, hbnd.out⟩
              obtain ⟨y0, hy0⟩ := HRT2.out
              have hbg : b ≠ g' := fun e => by have := (Array.getElem?_eq_some_iff.1 HA.out).1; omega
              have hR0 : w.heap.size + 1 + 1 ≠ g' := fun e => by have := HG2.out.lt (g := w.heap.size + 1 + 1) (by rw [hy0]; simp); omega
              have hm7 : raw.Holds w7 GP w1.heap.size (fun _ => none) := holds_none HM6.out (hx7 _ (by
                obtain ⟨es, clock, hm, -⟩ := HM6.out
                exact HROW6.out.farT hm (fun cur h => by cases h)) HM6.out.lt)
              refine ⟨j + 1, ⟨some ⟨g', 0, none⟩, c2, ks', vs'⟩ :: P2, _, by go_num, by omega, by omega, Lib.hid (hG7.close fun q kq vq _ hn => .inl fun h => ?_), Lib.hid ⟨by simp [Gr.hang, hbg, HL2.out.1], by simp [Gr.hang, hbg], fun ⟨l', hl', e⟩ => ?_⟩, Lib.hid hJ, Lib.hid ⟨y0, by simp [Gr.hang, hR0, hy0]⟩, ?_, hm7, Lib.hid ((hx7 _ (HROW6.out.farT HZ6.out (fun cur h => by injection h with _ h; revert h; decide)) (Array.getElem?_eq_some_iff.1 HZ6.out).1).trans HZ6.out), ?_, ?_⟩
              · rcases h with h | rfl
                · rcases h with rfl | ⟨l', hl', e⟩
                  · exact hn (.inl rfl)
                  · exact hn (.inr ⟨l', List.mem_cons_of_mem _ hl', e⟩)
                · exact hn (.inr ⟨_, List.mem_cons_self, rfl⟩)
              · rcases List.mem_cons.1 hl' with rfl | hl'
                · exact hbg (by simpa using e.symm)
                · exact HL2.out.2.2 ⟨l', hl', e⟩
              · show w7.ownsRow _ _ _ _ _ _
                have := HR7.out
                rw [HNP.out, HL1.out] at this
                simpa [Pend.cell] using this
              · exact (bs HB6.out kb).grown HG7.out (Nat.le_trans HB6.out.size kb.size) (fun k hk => by have := hr7 k hk; omega)
              · have := HLT2.out
                rw [HWD.out] at this
                rw [show lefts (Pend.mk (some ⟨g', 0, none⟩) c2 ks' vs' :: P2) = 1 + wks vs' + lefts P2 from rfl]
                omega
            case measure => omega
        · obtain rfl : j = Lr := by omega
          have hd0 : vs.drop j = [] := List.drop_eq_nil_of_le (Nat.le_of_eq HLr.out.symm)
          have HLT3 := HLT2.out
          rw [hd0, wks] at HLT3
          have HLT4 := Lib.hid HLT3
          clear hd0 HLT3
          go_wp2_with (fail)
          go_roundg (lefts P2)
          case rel => exact ⟨P2, G2, rfl, Lib.hid (HG2.out.close fun q kq vq hq hn => by
            by_cases e : q = b
            · subst e
              rw [HL2.out.1] at hq
              have e2 : vs = vq := by simp at hq; exact hq.2
              exact .inr (by rw [HL2.out.2.1, HLr.out, e2])
            · exact .inl fun h => h.elim e hn), HJ2, HRT2, HROW5.out, HM5.out, HZ2, HB5.out, by have := HLT4.out; have := HLE.out; omega⟩
          case measure => have := HLT4.out; omega

end Go.Proofs.YtbgffmiffmmohaaGreatDoor.tree

