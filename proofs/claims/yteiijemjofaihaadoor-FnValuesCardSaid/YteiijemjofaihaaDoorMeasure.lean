/-
  Measuring a value: the loop over the stack of arrays gives its size.
  Conditions: those that each theorem names.
-/
import Derived.Test.YteiijemjofaihaaDoorTake
import Derived.Test.YteiijemjofaihaaDoorStack
namespace Go.Proofs.YteiijemjofaihaaDoor.tree
open Go.ChangeShapes Go.WideShapes Go.ChangeAt Go.RowKit
set_option linter.unusedVariables false

section
variable {si : Int} {J : Int → Int → Int} {ans : Int} {B N : Nat} {w w' : World}
theorem Chain.depth : ∀ {V : Vis} {l : List Vis}, Chain si J ans B w (V :: l) → (∀ X ∈ V :: l, VisOk B N w X) → cnts V.vs + (V :: l).length ≤ N + 1
  | V, [], _, h => by
    have hV := h V List.mem_cons_self
    have h1 := hV.lo
    have h2 := hV.hi
    simp
    omega
  | V, U :: l, ⟨⟨ks0, vs0, h1⟩, h2⟩, h => by
    have h3 := Chain.depth h2 fun X hX => h X (List.mem_cons_of_mem _ hX)
    obtain ⟨n, s, x, ts, hu⟩ := h1.head
    rw [hu, cnts_cons, cnt_mk] at h3
    have := h1.le
    simp at h3 ⊢
    omega

def MRel (si : Int) (J : Int → Int → Int) (ans : Int) (N : Nat) (w : World) (gk : Nat) (way : Value) (wr : World) : Prop :=
  ∃ G hk f e, gk = left G hk ∧ St si J ans (w.heap.size + 4) N wr G hk f e ∧ Row wr (w.heap.size + 4) way G ∧ raw.Holds wr (GB (w.heap.size + 4)) (w.heap.size + 1) f ∧ raw.Holds wr (GB (w.heap.size + 4)) (w.heap.size + 1 + 1) e ∧ Below w.heap.size w wr
end


theorem mstart {si : Int} {J : Int → Int → Int} {w : World} {lo : Nat} {T : Tr} {k n x : Int} {s : ByteArray} {A : Option Addr} {L c : Nat} (h : TIn w (Nw lo w) T (vV k n s x A L c)) (cb : Array Value) (tb ti : TypeId) :
    MRel si J (J 0 (sz si J T)) (cnt T) w (left [⟨none, 0, 0, some ⟨w.heap.size + 1 + 1 + 1, 0, none⟩, 1, [⟨false, 0, ⟨#[]⟩⟩], [T]⟩] false) (.slice (some ⟨w.heap.size + 1 + 1 + 1 + 1, 0, none⟩) 1 1)
      (((((w.alloc (.cells cb tb)).alloc (.map #[] 0)).alloc (.map #[] 0)).alloc (.cells #[.bool false, .int .i64 0, .string ⟨#[]⟩, .int .i64 k, .int .i64 n, .string s, .int .i64 x, .slice A L c] ti)).alloc
        (.cells #[.pointer none, .int .i64 0, .int .i64 0, .slice (some ⟨w.heap.size + 1 + 1 + 1, 0, none⟩) 1 1] VIS)) := by
  have z1 : (w.alloc (.cells cb tb)).heap.size = w.heap.size + 1 := by simp
  generalize hw1 : w.alloc (.cells cb tb) = w1 at *
  have B1 : Below w.heap.size w w1 := hw1 ▸ b1 _ _
  have h1 := raw.Holds.made w1 (GB (w.heap.size + 4))
  have z2 : (w1.alloc (.map #[] 0)).heap.size = w.heap.size + 1 + 1 := by simp [z1]
  have B2 := bs B1 (b1 w1 (.map #[] 0))
  generalize hw2 : w1.alloc (.map #[] 0) = w2 at *
  have h2 := raw.Holds.made w2 (GB (w.heap.size + 4))
  have z3 : (w2.alloc (.map #[] 0)).heap.size = w.heap.size + 1 + 1 + 1 := by simp [z2]
  have h1' := alH h1 (.map #[] 0)
  have B3 := bs B2 (b1 w2 (.map #[] 0))
  generalize hw3 : w2.alloc (.map #[] 0) = w3 at *
  have e4 := heap_alloc_new w3 (.cells #[.bool false, .int .i64 0, .string ⟨#[]⟩, .int .i64 k, .int .i64 n, .string s, .int .i64 x, .slice A L c] ti)
  have z4 : (w3.alloc (.cells #[.bool false, .int .i64 0, .string ⟨#[]⟩, .int .i64 k, .int .i64 n, .string s, .int .i64 x, .slice A L c] ti)).heap.size = w.heap.size + 1 + 1 + 1 + 1 := by simp [z3]
  have h1'' := alH h1' (.cells #[.bool false, .int .i64 0, .string ⟨#[]⟩, .int .i64 k, .int .i64 n, .string s, .int .i64 x, .slice A L c] ti)
  have h2' := alH h2 (.cells #[.bool false, .int .i64 0, .string ⟨#[]⟩, .int .i64 k, .int .i64 n, .string s, .int .i64 x, .slice A L c] ti)
  have B4 := bs B3 (b1 w3 (.cells #[.bool false, .int .i64 0, .string ⟨#[]⟩, .int .i64 k, .int .i64 n, .string s, .int .i64 x, .slice A L c] ti))
  generalize w3.alloc (.cells #[.bool false, .int .i64 0, .string ⟨#[]⟩, .int .i64 k, .int .i64 n, .string s, .int .i64 x, .slice A L c] ti) = w4 at *
  have e5 := heap_alloc_new w4 (.cells #[.pointer none, .int .i64 0, .int .i64 0, .slice (some ⟨w.heap.size + 1 + 1 + 1, 0, none⟩) 1 1] VIS)
  have h1f := alH h1'' (.cells #[.pointer none, .int .i64 0, .int .i64 0, .slice (some ⟨w.heap.size + 1 + 1 + 1, 0, none⟩) 1 1] VIS)
  have h2f := alH h2' (.cells #[.pointer none, .int .i64 0, .int .i64 0, .slice (some ⟨w.heap.size + 1 + 1 + 1, 0, none⟩) 1 1] VIS)
  have B5 := bs B4 (b1 w4 (.cells #[.pointer none, .int .i64 0, .int .i64 0, .slice (some ⟨w.heap.size + 1 + 1 + 1, 0, none⟩) 1 1] VIS))
  have e4' := carry (b1 w4 (.cells #[.pointer none, .int .i64 0, .int .i64 0, .slice (some ⟨w.heap.size + 1 + 1 + 1, 0, none⟩) 1 1] VIS)) e4
  generalize w4.alloc (.cells #[.pointer none, .int .i64 0, .int .i64 0, .slice (some ⟨w.heap.size + 1 + 1 + 1, 0, none⟩) 1 1] VIS) = w5 at *
  rw [z3] at e4'
  rw [z4] at e5
  rw [z1] at h1f
  rw [z2] at h2f
  have hT : TIn w5 (Lo (w.heap.size + 4) w5) T (vV k n s x A L c) := h.stays (fun b hb => ⟨by have := hb.2.lt; omega, by obtain ⟨_, cs, t, hc⟩ := hb; exact ⟨cs, t, carry B5 hc⟩⟩) (fun b hb hlt => B5.block b hlt)
  have hI := isin_one (y := ⟨false, 0, ⟨#[]⟩⟩) (S := Lo (w.heap.size + 4) w5) (g := w.heap.size + 1 + 1 + 1) ⟨by omega, _, _, e4'⟩ ⟨by show I64 0; unfold I64; omega, Nat.zero_le _⟩ e4' hT
  refine ⟨_, _, _, _, rfl, ⟨fun V hV => ?_, ?_, (fun h => by cases h), (fun p z h => by cases h), (fun p b h => by cases h)⟩, ⟨rfl, .inr ⟨w.heap.size + 1 + 1 + 1 + 1, 1, _, rfl, by omega, e5, by simp, by simp [maxLen], rfl, rfl⟩⟩, h1f, h2f, B5⟩
  · obtain rfl := List.mem_singleton.1 hV
    exact ⟨hI, ⟨Nat.le_refl _, by simp [maxLen]⟩, Int.le_refl _, by simp [cnts]⟩
  · show szl si J [T] 0 = _
    rw [szl_cons, szl_nil]

/-- The top of the stack, for the walk. -/
theorem MRel.top {si : Int} {J : Int → Int → Int} {ans : Int} {N : Nat} {w wr : World} {gk : Nat} {way : Value} (h : MRel si J ans N w gk way wr) :
    ∃ (V : Vis) (l : List Vis) (hk : Bool) (f e : Value → Option Value) (g c : Nat) (cur : Array Value), gk = left (V :: l) hk ∧ St si J ans (w.heap.size + 4) N wr (V :: l) hk f e ∧ Row wr (w.heap.size + 4) way (V :: l) ∧ raw.Holds wr (GB (w.heap.size + 4)) (w.heap.size + 1) f ∧ raw.Holds wr (GB (w.heap.size + 4)) (w.heap.size + 1 + 1) e ∧ Below w.heap.size w wr ∧
      way = .slice (some ⟨g, 0, none⟩) (l.length + 1) c ∧ w.heap.size + 4 ≤ g ∧ wr.heap[g]? = some (.cells cur VIS (0, 0)) ∧ l.length + 1 ≤ c ∧ c ≤ maxLen ∧ cur.size = c * 4 ∧ (∀ q, q < 4 → cur[l.length * 4 + q]? = V.cells[q]?) ∧ l.length + 1 ≤ N + 1 := by
  obtain ⟨G, hk, f, e, h1, h2, h3, h4, h5, h6⟩ := h
  cases G with
  | nil => exact h2.chain.elim
  | cons V l =>
    obtain ⟨g, c, cur, rfl, hB, hg, hc, hcm, hs, hq⟩ := h3.top
    have hd := h2.chain.depth h2.ok
    exact ⟨V, l, hk, f, e, g, c, cur, h1, h2, h3, h4, h5, h6, rfl, hB, hg, hc, hcm, hs, hq, by simp at hd; omega⟩

theorem visRow : (Tryd.prog.info? VIS).map (fun i => (i.zero, i.size, i.bytes)) = some (some (.agg #[.pointer none, .int .i64 0, .int .i64 0, .slice none 0 0]), 4, 48) := by kernel_rfl
theorem four_new (w : World) (a b c d : Value) (t : TypeId) : ∀ j u, [a, b, c, d][j]? = some u → (w.alloc (.cells #[a, b, c, d] t)).cell? ((⟨w.heap.size, 0, none⟩ : Addr).add j) = some u := by
  intro j u hj
  rw [Addr.add_lit, Nat.zero_add, cell_of_row _ _ j _ t _ (heap_alloc_new w _)]
  simpa using hj

section
variable {si : Int} {J : Int → Int → Int} {ans : Int} {N : Nat} {w wr w3 w4 w5 : World} {V : Vis} {ks' : List Ky} {vs' ts : List Tr} {n x : Int} {s : ByteArray} {l : List Vis} {f e : Value → Option Value} {way : Value} {A : Option Addr} {c : Nat} {p : Option Addr} {m : Int} {o : Obj} {row : Option Nat}
/-- An array is entered: the stack behind it. -/
theorem MRel.push (hst : St si J ans (w.heap.size + 4) N wr (V :: l) false f e) (hv : V.vs = .mk 4 n s x ks' vs' :: ts)
    (hm1 : raw.Holds wr (GB (w.heap.size + 4)) (w.heap.size + 1) f) (hb : Below w.heap.size w wr) (h3 : Below wr.heap.size wr w3) (hm2 : raw.Holds w3 (GB (w.heap.size + 4)) (w.heap.size + 1 + 1) e)
    (hin : IsIn wr (Lo (w.heap.size + 4) wr) ks' vs' A) (hc : vs'.length ≤ c ∧ c ≤ maxLen) (hpl : plc A vs'.length = .agg #[.pointer p, .int .i64 m]) (hat : HeadPl (w.heap.size + 4) wr V.R (plc A vs'.length))
    (hm4 : raw.Holds w4 (GB (w.heap.size + 4)) (w.heap.size + 1 + 1) (raw.put e (.agg #[.pointer p, .int .i64 m]) (.bool true))) (h4 : w3.grownBy w4 (some (w.heap.size + 1 + 1)))
    (hrow : w5.ownsRow (w.heap.size + 4) VIS 4 way (l.length + 1 + 1) ((V :: l).reverse.flatMap Vis.cells ++ [.pointer p, .int .i64 m, .int .i64 0, .slice A vs'.length c])) (h5 : (w4.alloc o).grownBy w5 row) (hr : ∀ k, row = some k → w.heap.size + 4 ≤ k) :
    MRel si J ans N w (left (⟨p, m, 0, A, c, ks', vs'⟩ :: V :: l) false) way w5 ∧ left (⟨p, m, 0, A, c, ks', vs'⟩ :: V :: l) false < left (V :: l) false := by
  obtain ⟨hst', hlt⟩ := hst.push hv hin hc hpl hat
  have m1 := hm1.lt
  have m2 := hm2.lt
  have k4 : Kp (w.heap.size + 4) w3 w4 := Kp.grown h4 (fun k hk => .inr (fun ⟨cs, t, hc⟩ => by
    obtain rfl := Option.some.inj hk
    obtain ⟨es, clock, hb, _⟩ := hm2
    rw [hb] at hc
    cases hc))
  have k5 : Kp (w.heap.size + 4) (w4.alloc o) w5 := Kp.grown h5 (fun k hk => .inl (hr k hk))
  have hkp : Kp (w.heap.size + 4) wr w5 := (((Kp.below h3).trans k4).trans (Kp.below (b1 w4 o))).trans k5
  have lt1 : w.heap.size + 1 < w3.heap.size := Nat.lt_of_lt_of_le m1 h3.size
  have e1 : w5.heap[w.heap.size + 1]? = wr.heap[w.heap.size + 1]? := by
    rw [h5.block _ (by have := h4.size; simp; omega) (by intro h; have := hr _ h.symm; omega), Below.heap_alloc _ _ _ (by have := h4.size; omega), h4.block _ lt1 (by intro h; injection h; omega)]
    exact h3.block _ m1
  have e2 : w5.heap[w.heap.size + 1 + 1]? = w4.heap[w.heap.size + 1 + 1]? := by
    have := hm4.lt
    rw [h5.block _ (by simp; omega) (by intro h; have := hr _ h.symm; omega), Below.heap_alloc _ _ _ this]
  rw [hpl] at hst'
  refine ⟨⟨_, false, f, _, rfl, hst'.kp hkp, ?_, hm1.kept e1 (fun x hx => hx.kp hkp), hm4.kept e2 (fun x hx => (hx.kp (Kp.below (b1 w4 o))).kp k5), ?_⟩, hlt⟩
  · show w5.ownsRow _ _ _ _ _ _
    rw [cells_rev ⟨p, m, 0, A, c, ks', vs'⟩ (V :: l)]
    exact hrow
  · have hz := hb.size
    have hz3 := h3.size
    have hz4 := h4.size
    exact (((bs hb h3).grown h4 (by omega) (fun k hk => by obtain rfl := Option.some.inj hk; omega)).alloc (by omega) o).grown h5 (by simp; omega) (fun k hk => by have := hr k hk; omega)
end

/-- A step of the stack that leaves fewer rounds. -/
def StepQ (si : Int) (J : Int → Int → Int) (ans : Int) (N : Nat) (w : World) (gk : Nat) (way : Value) (e : Ending) (w' : World) : Prop := ∃ gk', e = .returned (.tuple #[]) ∧ MRel si J ans N w gk' way w' ∧ gk' < gk

theorem zeroInt (w : World) : (zeroValue 3).run Tryd.prog w = .ok (.int .i64 0) w := by kernel_rfl


theorem Row.below {w w' : World} {B : Nat} {way : Value} {G : List Vis} (h : Row w B way G) (hb : Below w.heap.size w w') : Row w' B way G :=
  World.ownsRow.kept h (mem.none_of_below hb) (by
    cases e : way.ownBlock with
    | none => exact .inl rfl
    | some k => exact .inr (by simp))

section
variable {si : Int} {J : Int → Int → Int} {ans : Int} {N : Nat} {w wr w3 w4 : World} {p : Option Addr} {nn size : Int} {R : Option Addr} {rc : Nat} {kr : List Ky} {t : Tr} {ts : List Tr} {l : List Vis} {hk : Bool} {f e : Value → Option Value} {g c : Nat} {cur : Array Value}
/-- An item is taken: the stack behind it. -/
theorem MRel.take (hJ : Join si J) {a : Addr} {sz' : Int} (hst : St si J ans (w.heap.size + 4) N wr (⟨p, nn, size, some a, rc, kr, t :: ts⟩ :: l) hk f e) (hrow : Row wr (w.heap.size + 4) (.slice (some ⟨g, 0, none⟩) (l.length + 1) c) (⟨p, nn, size, some a, rc, kr, t :: ts⟩ :: l))
    (hm1 : raw.Holds wr (GB (w.heap.size + 4)) (w.heap.size + 1) f) (hm2 : raw.Holds wr (GB (w.heap.size + 4)) (w.heap.size + 1 + 1) e) (hb : Below w.heap.size w wr) (hgB : w.heap.size + 4 ≤ g) (hg : wr.heap[g]? = some (.cells cur VIS (0, 0)))
    (h3 : Below wr.heap.size wr w3) (hsz : sz si J t = sz') (hR : R = some (a.add 8) ∨ ts.length = 0)
    (h4 : w4 = (w3.setCell ⟨g, l.length * 4 + 2, none⟩ (.int .i64 (J size sz'))).setCell ⟨g, l.length * 4 + 3, none⟩ (.slice R ts.length (rc - 1))) :
    MRel si J ans N w (left (⟨p, nn, J size sz', R, rc - 1, kr.tail, ts⟩ :: l) false) (.slice (some ⟨g, 0, none⟩) (l.length + 1) c) w4 ∧ left (⟨p, nn, J size sz', R, rc - 1, kr.tail, ts⟩ :: l) false < left (⟨p, nn, size, some a, rc, kr, t :: ts⟩ :: l) hk := by
  subst hsz
  have hV := hst.ok _ List.mem_cons_self
  have hin : IsIn wr (Lo (w.heap.size + 4) wr) kr (t :: ts) (some a) := hV.isin
  have hcap : (t :: ts).length ≤ rc ∧ rc ≤ maxLen := hV.cap
  simp only [List.length_cons] at hcap
  cases kr with
  | nil => have := hin.1; simp at this
  | cons y kt =>
    have hinR : IsIn wr (Lo (w.heap.size + 4) wr) kt ts R := by
      rcases hR with rfl | h0
      · exact hin.tail
      · obtain rfl := List.length_eq_zero_iff.1 h0
        have hl := hin.1
        simp at hl
        subst hl
        exact IsIn.nil _ _ _
    obtain ⟨hst', hlt⟩ := hst.take hJ rfl rfl (R := R) (c := rc - 1) hinR ⟨by omega, by omega⟩
    have hkp : Kp (w.heap.size + 4) wr w4 := by
      rw [h4]
      exact ((Kp.below h3).trans (Kp.set w3 hgB _ _)).trans (Kp.set _ hgB _ _)
    have hg3 := carry h3 hg
    have ho : ∀ b, b ≠ g → w4.heap[b]? = w3.heap[b]? := fun b hb => by rw [h4]; exact (set_other hb).trans (set_other hb)
    have m1lt := hm1.lt
    have m2lt := hm2.lt
    refine ⟨⟨_, false, f, e, rfl, hst'.kp hkp, ?_, hm1.kept ((ho _ (by omega)).trans (h3.block _ m1lt)) (fun x hx => hx.kp hkp), hm2.kept ((ho _ (by omega)).trans (h3.block _ m2lt)) (fun x hx => hx.kp hkp), ?_⟩, hlt⟩
    · refine (hrow.below h3).set (V' := ⟨p, nn, J size (sz si J t), R, rc - 1, kt, ts⟩) hg3 rfl rfl ?_
      rw [h4]
      exact set_heap (set_heap hg3 _ _) _ _
    · rw [h4]
      exact ((bs hb h3).setCell (by show w.heap.size ≤ g; omega) _).setCell (by show w.heap.size ≤ g; omega) _
end

set_option maxHeartbeats 1000000 in
set_option maxRecDepth 100000 in
theorem measure {si : Int} {J : Int → Int → Int} (hJ : Join si J) {F : FuncId} (hF : Joins F J) (t : Tr) (v : Value) (w : World) (lo : Nat) (h : TIn w (Nw lo w) t v) (hN : cnt t ≤ 1099511627000) :
    Calls Tryd.prog 82 #[v, .int .i64 si, .func (.func F) #[] #[]] w (GivesQ w (.int .i64 (sz si J t))) := by
  obtain ⟨k, n, s, x, ks, vs⟩ := t
  obtain ⟨A, c, rfl, hk, hin⟩ := h.out
  obtain ⟨L, HL⟩ : ∃ L, Hid (L = vs.length) := ⟨_, Lib.hid rfl⟩
  obtain ⟨T, HT⟩ : ∃ T, Hid (T = Tr.mk k n s x ks vs) := ⟨_, Lib.hid rfl⟩
  have HH : Hid (TIn w (Nw lo w) T (vV k n s x A L c)) := by rw [HT.out, HL.out]; exact h
  rw [← HT.out] at hN ⊢
  rw [← HL.out]
  have HK := Lib.hid hk
  clear h hin hk
  have hmm := @run_makeMap Tryd.prog
  go_enter Tryd.func82, Tryd.ntmps82
  go_wp2_with (fail)
  clear hmm
  go_loopg [9] (left [⟨none, 0, 0, some ⟨w.heap.size + 1 + 1 + 1, 0, none⟩, 1, [⟨false, 0, ⟨#[]⟩⟩], [T]⟩] false) (fun gk way wr => MRel si J (J 0 (sz si J T)) (cnt T) w gk way wr)
  case atStart => exact mstart HH.out _ _ _
  case round =>
    obtain ⟨⟨p, nn, size, R, rc, kr, vr⟩, l, hk, f, e, g, c, cur, hgk, hst, hrow, hm1, hm2, hb, rfl, hgB, hg, hlc, hcm, hcs, hq, hdep⟩ := hrel.top
    clear hrel
    obtain ⟨m, HM⟩ : ∃ m, Hid (m = l.length) := ⟨_, Lib.hid rfl⟩
    rw [← HM.out] at hlc hq hdep ⊢
    obtain ⟨rg, fr⟩ := rowc hg
    have c0 := (rg _).trans (hq 0 (by omega))
    have c1 := (rg _).trans (hq 1 (by omega))
    have c2 := (rg _).trans (hq 2 (by omega))
    have c3 := (rg _).trans (hq 3 (by omega))
    simp only [Vis.cells, Nat.add_zero, List.getElem?_cons_zero, List.getElem?_cons_succ] at c0 c1 c2 c3
    have HG := Lib.hid hg
    have HGK := Lib.hid hgk
    have HST := Lib.hid hst
    have HROW := Lib.hid hrow
    have HM1 := Lib.hid hm1
    have HM2 := Lib.hid hm2
    have HB := Lib.hid hb
    have HQ := Lib.hid hq
    have HCS := Lib.hid hcs
    clear hg hgk hst hrow hm1 hm2 hb hq hcs rg
    unfold maxLen at hcm
    cases vr with
    | nil =>
      cases l with
      | nil =>
        obtain rfl : m = 0 := HM.out
        simp only [Nat.zero_mul, Nat.zero_add] at c0 c1 c2 c3
        go_wp2_with (fail)
        go_ret
        have hc := HST.out.chain
        have : size = J 0 (sz si J T) := hc
        rw [hJ.zero _ (sz_bd hJ T).1] at this
        exact ⟨by rw [this]; rfl, HB.out⟩
      | cons U l =>
        obtain ⟨m', HM'⟩ : ∃ m', Hid (m' = l.length) := ⟨_, Lib.hid rfl⟩
        obtain rfl : m = m' + 1 := by rw [HM.out, HM'.out]; rfl
        have hV := HST.out.ok _ List.mem_cons_self
        have hs0 : 0 ≤ size := hV.lo
        have hs1 : size ≤ 1099511627776 := by have := hV.hi; simp at this; omega
        clear hV
        obtain ⟨hgb, hst1, hlt⟩ := HST.out.pop rfl
        obtain ⟨w1, hrun, hm1, hgr⟩ := (show raw.Holds wr.drew (GB (w.heap.size + 4)) (w.heap.size + 1) f from HM1.out).update (good_gb _) (gb_stays _) Tryd.underlying139 (k := .agg #[.pointer p, .int .i64 nn]) (v := .int .i64 (1 + size)) hgb
        have HST1 := Lib.hid hst1
        have HLT := Lib.hid hlt
        have HGR := Lib.hid hgr
        have HM1' := Lib.hid hm1
        clear hgb hst1 hlt hm1 hgr
        go_wp2_with (fail)
        go_region
        all_goals
          go_wp2_with (fail)
          go_roundg (left (U :: l) true)
          case rel =>
            have hkp : Kp (w.heap.size + 4) wr w1 := Kp.grown (w := wr.drew) HGR.out (fun k hk => .inr (fun ⟨cs, t, hc⟩ => by
              obtain rfl := Option.some.inj hk
              obtain ⟨es, clock, hb, _⟩ := HM1.out
              rw [show wr.heap[w.heap.size + 1]? = some (Obj.cells cs t (0, 0)) from hc] at hb
              cases hb))
            have hrow1 : Row w1 (w.heap.size + 4) (.slice (some ⟨g, 0, none⟩) (U :: l).length c) (U :: l) := by
              have hp := HROW.out.pop
              exact hp.kept (row := some (w.heap.size + 1)) (w' := w1) ⟨HGR.out.os, HGR.out.tape, HGR.out.output, HGR.out.size, HGR.out.block⟩ (.inr (by show some g ≠ some _; intro h; injection h; omega))
            refine ⟨U :: l, true, _, e, rfl, HST1.out.kp hkp, ?_, HM1'.out, ?_, ?_⟩
            · have e1 : m' + 1 = (U :: l).length := by rw [HM'.out]; rfl
              rw [e1]
              exact hrow1
            · exact HM2.out.kept (HGR.out.block _ HM2.out.lt (by intro h; injection h; omega)) (fun x hx => hx.kp hkp)
            · exact (HB.out.drew).grown (w := wr.drew) HGR.out HB.out.size (fun k hk => by obtain rfl := Option.some.inj hk; omega)
          case measure => have := HLT.out; have := HGK.out; omega
    | cons t ts =>
      have hV := HST.out.ok _ List.mem_cons_self
      have hs0 : 0 ≤ size := hV.lo
      have hhi : size + (cnts (t :: ts) : Int) ≤ cnt T := hV.hi
      have hs1 : size ≤ 1099511627776 := by omega
      have hcap : ts.length + 1 ≤ rc ∧ rc ≤ maxLen := hV.cap
      obtain ⟨hc1, hc2⟩ := hcap
      have hin : IsIn wr (Lo (w.heap.size + 4) wr) kr (t :: ts) R := hV.isin
      obtain ⟨a, y, k', n', s', x', ks', vs', A1, c1', rfl, hS, hky, hvs, ht, hyb, hkb, hin', hcell⟩ := hin.item (i := 0) (by simp)
      obtain rfl : t = .mk k' n' s' x' ks' vs' := by simpa using hvs
      have ea : a.add (0 * 8) = a := rfl
      rw [ea] at hcell
      have hplb : PlB (w.heap.size + 4) wr (plc A1 vs'.length) ks' vs' := ⟨A1, hin', rfl⟩
      have hcell7 := hcell.c7
      have hat : HeadPl (w.heap.size + 4) wr (some a) (plc A1 vs'.length) := ⟨a, A1, vs'.length, c1', rfl, hS, hcell7, rfl⟩
      have hcap' := ht.cap
      obtain ⟨pp, mm, hpl⟩ : ∃ pp mm, plc A1 vs'.length = .agg #[.pointer pp, .int .i64 mm] := by
        obtain ⟨pp, mm, h, _⟩ := hplb.gb
        exact ⟨pp, mm, h⟩
      have hA1 : 0 < vs'.length → ∃ a, A1 = some a := fun h0 => by
        obtain ⟨_, _, C, hc, _⟩ := hin'
        obtain ⟨a, ha, _⟩ := hc 0 h0
        exact ⟨a, ha⟩
      have PO : ∀ w, Calls Tryd.prog 85 #[.slice A1 vs'.length c1'] w (GivesQ w (.agg #[.pointer pp, .int .i64 mm])) := fun w => hpl ▸ placeOf A1 vs'.length c1' hin'.2.1 hA1 w
      rw [hpl] at hplb hat
      have hszb := sz_bd hJ (.mk k' n' s' x' ks' vs')
      have hcn : (cnt (.mk k' n' s' x' ks' vs') : Int) ≤ 1099511627776 := by rw [cnts_cons] at hhi; push_cast at hhi; omega
      have hfr : f (.agg #[.pointer pp, .int .i64 mm]) = none → k' = 4 → e (.agg #[.pointer pp, .int .i64 mm]) = none ∧ hk = false := fun hf h4 => by
        subst h4
        exact HST.out.fresh rfl hplb hat hf
      have hsf : ∀ z, f (.agg #[.pointer pp, .int .i64 mm]) = some z → k' = 4 → z = .int .i64 (sz si J (.mk k' n' s' x' ks' vs')) := fun z hf h4 => by
        subst h4
        rw [sz_four]
        exact HST.out.size_of hplb hf
      have hnf : k' ≠ 4 → sz si J (.mk k' n' s' x' ks' vs') = si := fun h => sz_not h
      obtain ⟨SZ, HSZ⟩ : ∃ SZ, Hid (sz si J (.mk k' n' s' x' ks' vs') = SZ) := ⟨_, Lib.hid rfl⟩
      rw [HSZ.out] at hszb hsf hnf
      have hsz0 := hszb.1
      have hsz1 : SZ ≤ 1099511627776 := by omega
      have HPLB := Lib.hid hplb
      have HAT := Lib.hid hat
      have HFR := Lib.hid hfr
      have HSF := Lib.hid hsf
      have HNF := Lib.hid hnf
      have HIN' := Lib.hid hin'
      have HCAP' := Lib.hid hcap'
      have HPL := Lib.hid hpl
      obtain ⟨L1, HL1⟩ : ∃ L1, Hid (L1 = vs'.length) := ⟨_, Lib.hid rfl⟩
      obtain ⟨Lr, HLr⟩ : ∃ Lr, Hid (Lr = ts.length) := ⟨_, Lib.hid rfl⟩
      simp only [List.length_cons] at c3
      rw [← HL1.out] at PO hcell
      rw [← HLr.out] at c3 hc1
      obtain ⟨p0, p1, p2, p3, p4, p5, p6, p7⟩ := hcell
      have hsi0 := hJ.lo
      have hsi1 := hJ.hi
      unfold maxLen at hc2
      clear hV hhi hin hS hky hvs ht hyb hkb hin' hplb hat hfr hsf hnf hszb hcn hcap' hpl hcell7 hA1 ea
      go_wp2_with (fail)
      refine (PO _).mono ?_
      rintro e0 w2 ⟨rfl, hb2⟩
      have eI := carry hb2 (heap_alloc_new wr _)
      have hB2 := bs (b1 wr _) hb2
      have hB3 := bs hB2 (b1 w2 (.cells #[.pointer pp, .int .i64 mm] PL))
      obtain ⟨NI, hNI⟩ : ∃ N, N = wr.heap.size := ⟨_, rfl⟩
      rw [← hNI] at eI ⊢
      have HNI := Lib.hid hNI
      have lI : NI < w2.heap.size := (Array.getElem?_eq_some_iff.1 eI).1
      have EI := Lib.hid eI
      obtain ⟨rI, -⟩ := rowc eI
      have HB2 := Lib.hid hB2
      have HB3 := Lib.hid hB3
      have hgb3 := HPLB.out.gb.kp (Kp.below hB3)
      have hm13 := alH (HM1.out.kept (hB2.block _ HM1.out.lt) (fun x hx => hx.kp (Kp.below hB2))) (.cells #[.pointer pp, .int .i64 mm] PL)
      have hm23 := alH (HM2.out.kept (hB2.block _ HM2.out.lt) (fun x hx => hx.kp (Kp.below hB2))) (.cells #[.pointer pp, .int .i64 mm] PL)
      have hg3 := carry hB3 HG.out
      have HG3 := Lib.hid hg3
      have lg : g < w2.heap.size := Nat.lt_of_lt_of_le (Array.getElem?_eq_some_iff.1 HG.out).1 hB2.size
      have q2 := HQ.out 2 (by omega)
      have q3 : cur[m * 4 + 3]? = some (.slice (some a) (Lr + 1) rc) := (HQ.out 3 (by omega)).trans (by rw [HLr.out]; rfl)
      have TK : Hid (∀ it : Int, sz si J (.mk k' n' s' x' ks' vs') = it → 0 ≤ it → it ≤ 1099511627776 → Calls Tryd.prog 123 #[.pointer (some ⟨g, m * 4, none⟩), .int .i64 it, .func (.func F) #[] #[]] (w2.alloc (.cells #[.pointer pp, .int .i64 mm] PL)) (StepQ si J (J 0 (sz si J T)) (cnt T) w gk (.slice (some ⟨g, 0, none⟩) (m + 1) c))) := by
        intro it hit it0 it1
        refine (take_any hF hg3 q2 q3 hc1 (by unfold maxLen; omega) hs0 hs1 it0 it1).mono ?_
        rintro e0 w4 ⟨R', rfl, hR', hw4⟩
        rw [HM.out, HLr.out] at hw4
        rw [HLr.out] at hR'
        obtain ⟨h1, h2⟩ := MRel.take (w3 := w2.alloc (.cells #[.pointer pp, .int .i64 mm] PL)) hJ HST.out HROW.out HM1.out HM2.out HB.out hgB HG.out hB3 hit hR' hw4
        exact ⟨_, rfl, by rw [HM.out]; exact h1, by rw [HGK.out]; exact h2⟩
      clear hb2 eI hNI hB2 hB3 hg3 q2 q3
      cases hfk : f (.agg #[.pointer pp, .int .i64 mm]) with
      | none =>
        by_cases h4 : k' = 4
        · subst h4
          obtain ⟨he, rfl⟩ := HFR.out hfk rfl
          obtain ⟨i0, hi, hz⟩ : ∃ i, Tryd.prog.info? VIS = some i ∧ (i.zero = some (.agg #[.pointer none, .int .i64 0, .int .i64 0, .slice none 0 0]) ∧ i.size = 4 ∧ i.bytes = 48) := by
            have := visRow
            cases hq : Tryd.prog.info? VIS with
            | none => rw [hq] at this; cases this
            | some i => rw [hq] at this; simp at this; exact ⟨i, rfl, this⟩
          have HII := Lib.hid hi
          have HZZ := Lib.hid hz
          have HFK := Lib.hid hfk
          have HE := Lib.hid he
          have EI3 : Hid ((w2.alloc (.cells #[.pointer pp, .int .i64 mm] PL)).heap[NI]? = _) := Lib.hid (keepAlloc EI.out)
          have EP3 : Hid ((w2.alloc (.cells #[.pointer pp, .int .i64 mm] PL)).heap[w2.heap.size]? = _) := Lib.hid (heap_alloc_new w2 _)
          have hNIB : w.heap.size + 4 ≤ NI := by rw [HNI.out]; have := (Array.getElem?_eq_some_iff.1 HG.out).1; omega
          clear hfk he hi hz
          go_wp2_with (first
            | (at_lookup; refine raw.wpList_lookup_to _ rfl _ _ 139 true rfl hm13 (good_gb _) Tryd.underlying139 (zeroInt _) rfl rfl hgb3 HFK.out (got_none _) ?_)
            | (at_lookup; refine raw.wpList_lookup_to _ rfl _ _ 107 false rfl hm23 (good_gb _) Tryd.underlying107 (zeroBool _) rfl rfl hgb3 HE.out (got1_none _) ?_)
            | (at_mapUpdate; refine raw.wpList_update _ rfl _ _ _ 107 rfl hm23 (good_gb _) (gb_stays _) Tryd.underlying107 rfl rfl rfl hgb3 ?_
               intro w4 hm24 hgr4
               have HM24 := Lib.hid hm24
               have HGR4 := Lib.hid hgr4
               obtain ⟨rI4, _⟩ := rowc ((hgr4.block NI (Array.getElem?_eq_some_iff.1 EI3.out).1 (by intro h; injection h; omega)).trans EI3.out)
               obtain ⟨rP4, _⟩ := rowc ((hgr4.block w2.heap.size (Array.getElem?_eq_some_iff.1 EP3.out).1 (by intro h; injection h; omega)).trans EP3.out)
               have HR4 : Hid (w4.ownsRow (w.heap.size + 4) VIS 4 (.slice (some ⟨g, 0, none⟩) (m + 1) c) (m + 1) ((⟨p, nn, size, some a, rc, kr, .mk 4 n' s' x' ks' vs' :: ts⟩ :: l : List Vis).reverse.flatMap Vis.cells)) := Lib.hid (by
                 have := (HROW.out.below HB3.out).kept hgr4 (.inr (by show some g ≠ some _; intro h; injection h; omega))
                 rw [HM.out]; exact this)
               have hNI4 : NI < w4.heap.size := Nat.lt_of_lt_of_le (Array.getElem?_eq_some_iff.1 EI3.out).1 hgr4.size
               clear hm24 hgr4)
            | (at_builtin; refine wpList_append_own _ rfl _ _ 142 rfl (w.heap.size + 4) VIS i0 _ 4 48 Tryd.underlying142 HII.out HZZ.out.1 HZZ.out.2.1 HZZ.out.2.2 rfl (by decide) _ (m + 1) _ rfl (HR4.out.alloc _) ⟨w4.heap.size, 0, none⟩ 1 1 [.pointer pp, .int .i64 mm, .int .i64 0, .slice A1 L1 c1'] rfl rfl (four_new _ _ _ _ _ _) (by intro u hu; simp at hu; rcases hu with rfl | rfl | rfl | rfl <;> rfl) (by unfold maxLen; omega) (by omega) (by simp; omega) ?_
               intro v' w5 hown' hgrow' hnil
               have HR5 := Lib.hid hown'
               have HG5 := Lib.hid hgrow'
               clear hown' hgrow' hnil)
            | fail)
          have hpush := MRel.push (V := ⟨p, nn, size, some a, rc, kr, .mk 4 n' s' x' ks' vs' :: ts⟩) (c := c1') HST.out rfl HM1.out HB.out HB3.out hm23 HIN'.out HCAP'.out HPL.out (by rw [HPL.out]; exact HAT.out) HM24.out HGR4.out (by rw [← HM.out, ← HL1.out]; exact HR5.out) HG5.out (fun k hk => by have : some g = some k := hk; injection this; omega)
          have HPU := Lib.hid hpush
          clear hpush
          go_roundg (left (⟨pp, mm, 0, A1, c1', ks', vs'⟩ :: ⟨p, nn, size, some a, rc, kr, .mk 4 n' s' x' ks' vs' :: ts⟩ :: l) false)
          case rel => exact HPU.out.1
          case measure => have := HPU.out.2; have := HGK.out; omega
        · have HFK := Lib.hid hfk
          clear hfk
          go_wp2_with (first | (at_lookup; refine raw.wpList_lookup_to _ rfl _ _ 139 true rfl hm13 (good_gb _) Tryd.underlying139 (zeroInt _) rfl rfl hgb3 HFK.out (got_none _) ?_) | fail)
          refine (TK.out si (HSZ.out.trans (HNF.out h4)) hsi0 (by omega)).mono ?_
          rintro e0 w4 ⟨gk', rfl, hrel', hlt'⟩
          have HREL := Lib.hid hrel'
          clear hrel'
          go_wp2_with (fail)
          go_roundg gk'
          case rel => exact HREL.out
          case measure => exact hlt'
      | some z =>
        by_cases h4 : k' = 4
        · obtain rfl := HSF.out _ hfk h4
          have HFK := Lib.hid hfk
          clear hfk
          go_wp2_with (first | (at_lookup; refine raw.wpList_lookup_to _ rfl _ _ 139 true rfl hm13 (good_gb _) Tryd.underlying139 (zeroInt _) rfl rfl hgb3 HFK.out (got_some _ _) ?_) | fail)
          refine (TK.out SZ HSZ.out hsz0 hsz1).mono ?_
          rintro e0 w4 ⟨gk', rfl, hrel', hlt'⟩
          have HREL := Lib.hid hrel'
          clear hrel'
          go_wp2_with (fail)
          go_roundg gk'
          case rel => exact HREL.out
          case measure => exact hlt'
        · have HFK := Lib.hid hfk
          clear hfk
          go_wp2_with (first | (at_lookup; refine raw.wpList_lookup_to _ rfl _ _ 139 true rfl hm13 (good_gb _) Tryd.underlying139 (zeroInt _) rfl rfl hgb3 HFK.out (got_some _ _) ?_) | fail)
          refine (TK.out si (HSZ.out.trans (HNF.out h4)) hsi0 (by omega)).mono ?_
          rintro e0 w4 ⟨gk', rfl, hrel', hlt'⟩
          have HREL := Lib.hid hrel'
          clear hrel'
          go_wp2_with (fail)
          go_roundg gk'
          case rel => exact HREL.out
          case measure => exact hlt'

end Go.Proofs.YteiijemjofaihaaDoor.tree
