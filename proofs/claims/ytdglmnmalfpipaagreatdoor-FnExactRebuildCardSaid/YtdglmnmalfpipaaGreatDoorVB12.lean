/-
  What the texts behind this one use: 3 parts of one proof.
  Conditions: those that each theorem names.
-/
import Derived.Test.YtdglmnmalfpipaaGreatDoorVB9
import Derived.Test.YtdglmnmalfpipaaGreatDoorVSCopyV
import Derived.Test.YtdglmnmalfpipaaGreatDoorVB8
import Derived.Test.YtdglmnmalfpipaaGreatDoorVSCopyS
import Derived.Test.YtdglmnmalfpipaaGreatDoorVB5
import Derived.Maps.AppendAt
import Derived.Deep.DeepCutAuto
import Derived.Deep.RegionWith
import Derived.Deep.RegionHeld3
/-
  A table copied into new memory, of the project.
  Conditions: those that each theorem names.
-/
namespace Go.Proofs.YtdglmnmalfpipaaGreatDoor.tree
open Go.ChangeShapes Go.WideShapes Go.ChangeAt Go.RowKit
set_option linter.unusedVariables false

/-- The items of a table's slots, the first j of them laid in block G; their lists lie below G. -/
def LaidC (w : World) (G L j : Nat) (sl : List Sl) : Prop :=
  ∃ arr, w.heap[G]? = some (.cells arr IE (0, 0)) ∧ arr.size = L * 8 ∧ ∀ (i : Nat) t, sl[i]? = some t → i < j → ∃ k n s x ks vs A c, t.val = .mk k n s x ks vs ∧ TIn w (fun b => b < G ∧ Plain w b) t.val (vV k n s x A vs.length c) ∧ (I64 t.key.num ∧ t.key.str.size ≤ maxLen) ∧ At8r arr i t.key k n s x A vs.length c
def skS (sl : List Sl) : List Ky := sl.map fun t => t.key
def svS (sl : List Sl) : List Tr := sl.map fun t => t.val
theorem LaidC.done {w : World} {G L : Nat} {sl : List Sl} (h : LaidC w G L L sl) (hL : sl.length = L) (hm : L ≤ maxLen) : IsIn w (Nw 0 w) (skS sl) (svS sl) (some ⟨G, 0, none⟩) := by
  obtain ⟨arr, hg, hs, h⟩ := h
  have hk : (skS sl).length = (svS sl).length := by simp [skS, svS]
  have hvl : (svS sl).length = L := by simp [svS, hL]
  have each : ∀ i (hi : i < (svS sl).length), ∃ C : Array Value, KyAt w ⟨G, 0, none⟩ i ((skS sl)[i]'(hk ▸ hi)) ∧ C.size = 5 ∧ (∀ j, j < 5 → w.cell? ((⟨G, 0, none⟩ : Addr).add (8 * i + (3 + j))) = C[j]?) ∧ TIn w (Nw 0 w) ((svS sl)[i]) (.agg C) := by
    intro i hi
    obtain ⟨t, ht⟩ : ∃ t, sl[i]? = some t := ⟨_, List.getElem?_eq_getElem (by rw [hL, ← hvl]; exact hi)⟩
    obtain ⟨k, n, s, x, ks', vs', A, c, hv, hti, hyb, hc⟩ := h i t ht (by omega)
    have ey : (skS sl)[i]'(hk ▸ hi) = t.key := by
      have : (skS sl)[i]? = some t.key := by simp [skS, ht]
      rw [List.getElem?_eq_getElem (hk ▸ hi)] at this
      exact Option.some.inj this
    have et : (svS sl)[i] = t.val := by
      have : (svS sl)[i]? = some t.val := by simp [svS, ht]
      rw [List.getElem?_eq_getElem hi] at this
      exact Option.some.inj this
    have at_ : ∀ q, q < 8 → w.cell? ((⟨G, 0, none⟩ : Addr).add (8 * i + q)) = (eV t.key k n s x A vs'.length c).cells[q]? := fun q hq => by
      rw [Addr.add_lit, Nat.zero_add, cell_of_row w G _ arr IE _ hg, ← hc q hq, Nat.mul_comm]
    rw [ey, et]
    refine ⟨_, ⟨at_ 0 (by omega), at_ 1 (by omega), at_ 2 (by omega), hyb⟩, rfl, fun j hj => ?_, hti.stays (fun b hb => ⟨Nat.zero_le _, hb.2⟩) (fun b _ _ => rfl)⟩
    rw [at_ (3 + j) (by omega)]
    match j, hj with
    | 0, _ => rfl
    | 1, _ => rfl
    | 2, _ => rfl
    | 3, _ => rfl
    | 4, _ => rfl
  have pick : ∃ C : Nat → Array Value, ∀ i (hi : i < (svS sl).length), KyAt w ⟨G, 0, none⟩ i ((skS sl)[i]'(hk ▸ hi)) ∧ (C i).size = 5 ∧ (∀ j, j < 5 → w.cell? ((⟨G, 0, none⟩ : Addr).add (8 * i + (3 + j))) = (C i)[j]?) ∧ TIn w (Nw 0 w) ((svS sl)[i]) (.agg (C i)) :=
    ⟨fun i => if hi : i < (svS sl).length then (each i hi).choose else #[], fun i hi => by simp only [dif_pos hi]; exact (each i hi).choose_spec⟩
  obtain ⟨C, hC⟩ := pick
  exact ⟨hk, by rw [hvl]; exact hm, C, fun i hi => ⟨_, rfl, ⟨Nat.zero_le _, arr, IE, hg⟩, (hC i hi).1, (hC i hi).2.1, (hC i hi).2.2.1⟩, fun i hi => (hC i hi).2.2.2⟩
theorem LaidC.step {w w1 w2 : World} {G L j : Nat} {sl : List Sl} (h : LaidC w G L j sl) (hb : Below w.heap.size w w1) {t : Sl} {k n x : Int} {s : ByteArray} {ks' : List Ky} {vs' : List Tr} {A : Option Addr} {c : Nat}
    (ht : sl[j]? = some t) (hv : t.val = .mk k n s x ks' vs') (hti : TIn w1 (fun b => b < G ∧ Plain w1 b) t.val (vV k n s x A vs'.length c)) (hyb : I64 t.key.num ∧ t.key.str.size ≤ maxLen) (hj : j < L)
    (hg : ∀ arr, w1.heap[G]? = some (.cells arr IE (0, 0)) → w2.heap[G]? = some (.cells (set8 arr (j * 8) (.bool t.key.text) (.int .i64 t.key.num) (.string t.key.str) (.int .i64 k) (.int .i64 n) (.string s) (.int .i64 x) (.slice A vs'.length c)) IE (0, 0)))
    (ho : ∀ b, b ≠ G → w2.heap[b]? = w1.heap[b]?) : LaidC w2 G L (j + 1) sl := by
  obtain ⟨arr, hg0, hs, h⟩ := h
  have glt : G < w.heap.size := (Array.getElem?_eq_some_iff.1 hg0).1
  have hg1 := hg arr ((hb.block _ glt).trans hg0)
  refine ⟨_, hg1, by rw [set8_size]; exact hs, fun i t' ht' hi => ?_⟩
  rcases Nat.lt_or_ge i j with hlt | hge
  · obtain ⟨k', n', s', x', ks2, vs2, A', c', hv', hT', hy', hc'⟩ := h i t' ht' hlt
    refine ⟨k', n', s', x', ks2, vs2, A', c', hv', hT'.stays (fun b hb' => ⟨hb'.1, hb'.2.same ((ho b (by have := hb'.1; omega)).trans (hb.block b (by have := hb'.1; omega)))⟩) (fun b hb' hl => (ho b (by have := hb'.1; omega)).trans (hb.block b hl)), hy', fun q hq => ?_⟩
    rw [set8_out _ _ _ _ _ _ _ _ _ _ _ (by omega)]
    exact hc' q hq
  · obtain rfl : i = j := by omega
    rw [ht] at ht'
    obtain rfl := Option.some.inj ht'
    refine ⟨k, n, s, x, ks', vs', A, c, hv, hti.stays (fun b hb' => ⟨hb'.1, hb'.2.same (ho b (by have := hb'.1; omega))⟩) (fun b hb' _ => ho b (by have := hb'.1; omega)), hyb, fun q hq => ?_⟩
    rw [set8_in _ _ _ _ _ _ _ _ _ _ (by rw [hs]; omega) q hq]
    match q, hq with
    | 0, _ => rfl
    | 1, _ => rfl
    | 2, _ => rfl
    | 3, _ => rfl
    | 4, _ => rfl
    | 5, _ => rfl
    | 6, _ => rfl
    | 7, _ => rfl

/-- A slot's ten cells in a row. -/
def At10r (arr : Array Value) (i : Nat) (y : Ky) (k n : Int) (s : ByteArray) (x : Int) (A : Option Addr) (L c : Nat) (b : Bool) (l : Int) : Prop := ∀ q, q < 10 → arr[i * 10 + q]? = (#[.bool y.text, .int .i64 y.num, .string y.str, .int .i64 k, .int .i64 n, .string s, .int .i64 x, .slice A L c, .bool b, .int .i64 l] : Array Value)[q]?
/-- The slots of block g; those among the first j have lists of their own, which hang at block R. -/
def LaidP (w : World) (par : Nat → Nat × Nat) (R g L j : Nat) (sl : List Sl) : Prop :=
  ∃ arr, w.heap[g]? = some (.cells arr IS (0, 0)) ∧ arr.size = L * 10 ∧ ∀ (i : Nat) t, sl[i]? = some t → (I64 t.key.num ∧ t.key.str.size ≤ maxLen) ∧ I64 t.link ∧ arr[i * 10 + 8]? = some (.bool t.live) ∧ arr[i * 10 + 9]? = some (.int .i64 t.link) ∧
    (i < j → ∃ k n s x ks vs A c, t.val = .mk k n s x ks vs ∧ TPar w par (R, i) t.val (vV k n s x A vs.length c) ∧ At10r arr i t.key k n s x A vs.length c t.live t.link)
/-- A table of the call's own: its heads, its slots, and the lists of its values lie apart. -/
structure OwnT (w : World) (par : Nat → Nat × Nat) (R lo : Nat) (l : List Int) (sl : List Sl) (A : Option Addr) (n c : Nat) (B : Option Addr) (m d : Nat) : Prop where
  heads : imem.OwnI w lo A n c l
  low : ∀ h, (Value.slice A n c).ownBlock = some h → h ≤ R
  len : sl.length = m
  cap : m ≤ d ∧ d ≤ maxLen
  nod : B = none → d = 0
  slots : (B = none ∧ m = 0) ∨ ∃ g, B = some ⟨g, 0, none⟩ ∧ lo ≤ g ∧ g ≤ R ∧ (m ≤ d ∧ d ≤ maxLen) ∧ (∀ h, (Value.slice A n c).ownBlock = some h → h ≠ g) ∧ LaidP w par R g d m sl

end Go.Proofs.YtdglmnmalfpipaaGreatDoor.tree

/-
  A table copied by the model.
  Conditions: those that each theorem names.
-/
namespace Go.Proofs.YtdglmnmalfpipaaGreatDoor.tree
open Go.ChangeShapes Go.WideShapes Go.ChangeAt Go.RowKit
set_option linter.unusedVariables false

theorem ten_one (b : Bool) (n : Int) (s : ByteArray) (k m : Int) (z : ByteArray) (x : Int) (A : Option Addr) (L c : Nat) (b2 : Bool) (q : Int) : ∀ u ∈ [Value.bool b, .int .i64 n, .string s, .int .i64 k, .int .i64 m, .string z, .int .i64 x, .slice A L c, .bool b2, .int .i64 q], u.oneCell' = true := by simp [Value.oneCell']
theorem ten_new (w : World) (c0 c1 c2 c3 c4 c5 c6 c7 c8 c9 : Value) (t : TypeId) : ∀ j u, [c0, c1, c2, c3, c4, c5, c6, c7, c8, c9][j]? = some u → (w.alloc (.cells #[c0, c1, c2, c3, c4, c5, c6, c7, c8, c9] t)).cell? ((⟨w.heap.size, 0, none⟩ : Addr).add j) = some u := by
  intro j u hj
  rw [Addr.add_lit, Nat.zero_add, cell_of_row _ _ j _ t _ (heap_alloc_new w _)]
  simpa using hj
theorem fill10 {w wF : World} {R : Nat} {t : TypeId} {a0 a1 a2 a3 a4 a5 a6 a7 a8 a9 c0 c1 c2 c3 c4 : Value} (h : w.heap[R]? = some (.cells #[a0, a1, a2, a3, a4, a5, a6, a7, a8, a9] t (0, 0)))
    (hF : (((((w.setCell ⟨R, 3, none⟩ c0).setCell ⟨R, 4, none⟩ c1).setCell ⟨R, 5, none⟩ c2).setCell ⟨R, 6, none⟩ c3).setCell ⟨R, 7, none⟩ c4) = wF) :
    wF.heap[R]? = some (.cells #[a0, a1, a2, c0, c1, c2, c3, c4, a8, a9] t (0, 0)) ∧ (∀ q, q ≠ R → wF.heap[q]? = w.heap[q]?) ∧ (∀ (B : Nat) (w0 : World), B ≤ R → Below B w0 w → Below B w0 wF) ∧ wF.heap.size = w.heap.size := by
  subst hF
  refine ⟨?_, fun q hq => ?_, fun B w0 hB hb => ?_, by simp⟩
  · have := set_heap (set_heap (set_heap (set_heap (set_heap h 3 c0) 4 c1) 5 c2) 6 c3) 7 c4
    simpa using this
  · rw [set_other hq, set_other hq, set_other hq, set_other hq, set_other hq]
  · exact ((((hb.setCell hB _).setCell hB _).setCell hB _).setCell hB _).setCell hB _
theorem owni_at {w w' : World} {lo n c : Nat} {A : Option Addr} {l : List Int} (h : imem.OwnI w lo A n c l) (hs : ∀ q, (Value.slice A n c).ownBlock = some q → w'.heap[q]? = w.heap[q]?) : imem.OwnI w' lo A n c l := by
  refine ⟨h.1, h.2.1, ?_⟩
  rcases h.2.2 with h | ⟨g, cap, cur, e, hlo, hg, hr⟩
  · exact .inl h
  · exact .inr ⟨g, cap, cur, e, hlo, (hs g (by rw [e]; rfl)).trans hg, hr⟩

theorem fill5s {w wF : World} {R : Nat} {t : TypeId} {a b c d e c0 c1 c2 c3 c4 : Value} (h : w.heap[R]? = some (.cells #[a, b, c, d, e] t (0, 0)))
    (hF : (((((w.setCell ⟨R, 0, none⟩ c0).setCell ⟨R, 1, none⟩ c1).setCell ⟨R, 2, none⟩ c2).setCell ⟨R, 3, none⟩ c3).setCell ⟨R, 4, none⟩ c4) = wF) :
    (∀ j, wF.cell? ⟨R, j, none⟩ = (#[c0, c1, c2, c3, c4] : Array Value)[j]?) ∧ (∀ q, q ≠ R → wF.heap[q]? = w.heap[q]?) ∧ ∀ (B : Nat) (w0 : World), B ≤ R → Below B w0 w → Below B w0 wF := by
  subst hF
  refine ⟨fun j => ?_, fun q hq => ?_, fun B w0 hB hb => ?_⟩
  · have := set_heap (set_heap (set_heap (set_heap (set_heap h 0 c0) 1 c1) 2 c2) 3 c3) 4 c4
    rw [cell_of_row _ _ j _ _ _ this]
    simp
  · rw [set_other hq, set_other hq, set_other hq, set_other hq, set_other hq]
  · exact ((((hb.setCell hB _).setCell hB _).setCell hB _).setCell hB _).setCell hB _
theorem SRowX.below {w w' : World} {lo : Nat} {v : Value} {xs : List Value} {sl : List Sl} (h : SRowX w lo v xs sl) (hb : Below w.heap.size w w') : SRowX w' lo v xs sl := by
  obtain ⟨h1, h3⟩ := h
  refine ⟨World.ownsRow.kept h1 (mem.none_of_below hb) ownBlock_keep, fun i t ht => ?_⟩
  obtain ⟨k, n, s, x, ks, vs, A, c, a1, a2, a3, a4, a5⟩ := h3 i t ht
  exact ⟨k, n, s, x, ks, vs, A, c, a1, a2, a3, a4, a5.below' hb⟩

/-- A table of the model's own: its heads lie below N, its slots and their lists from N on. -/
def Q7 (w : World) (b : Bool) (l : List Int) (sl : List Sl) (n m : Nat) (x k : Int) (e : Ending) (w' : World) : Prop :=
  ∃ A1 c1 g d1 M N, e = .returned (tbV b A1 n c1 (some ⟨g, 0, none⟩) m d1 x k) ∧ w.heap.size ≤ M ∧ M ≤ N ∧ imem.OwnI w' M A1 n c1 l ∧ (∀ h, (Value.slice A1 n c1).ownBlock = some h → h < N) ∧ SRow w' N (.slice (some ⟨g, 0, none⟩) m d1) sl ∧ Below w.heap.size w w'

set_option maxRecDepth 100000 in
set_option maxHeartbeats 4000000 in
theorem l7Copy_s {l : List Int} {sl : List Sl} {b : Bool} {A : Option Addr} {n c : Nat} {B : Option Addr} {m d : Nat} {x k : Int} (w : World) {S : Nat → Prop} (hr : TbIn w S l sl A n c B m d x k) (hn : n ≤ 1048576) (hm : m ≤ 1000000000) (hct : ∀ t ∈ sl, cnt t.val ≤ 1000000000) :
    Calls Tryz.prog 112 #[tbV b A n c B m d x k] w (Q7 w b l sl n m x k) := by
  obtain ⟨i0, hi, hz⟩ := is_info
  have HII := Lib.hid hi
  have HZZ := Lib.hid hz
  obtain ⟨i1, hi1, hz10, hz11, hz12⟩ := int_info8
  obtain ⟨P, HP⟩ : ∃ P, Hid (w.heap.size = P) := ⟨_, Lib.hid rfl⟩
  have HS := Lib.hid hr.slots
  have HH := Lib.hid hr.heads
  have HC := Lib.hid hct
  have hlen := hr.len
  clear hi hz hr hct
  go_enter Tryz.func112, Tryz.ntmps112
  go_upto_region 2 with fail
  rw [HP.out]
  generalize hw0 : ((w.alloc (.cells #[.bool b, .slice A n c, .slice B m d, .int .i64 x, .int .i64 k] IT)).alloc (.cells #[.bool false, .slice none 0 0, .slice none 0 0, .int .i64 0, .int .i64 0] IT)).alloc (.cells #[.bool b, .slice A n c, .slice B m d, .int .i64 x, .int .i64 k] IT) = w0
  obtain ⟨a0, a1, a2, az, ab⟩ := al3t w _ _ _ _ _ _ w0 hw0
  rw [HP.out] at a0 a1 a2 az
  have HA0 := Lib.hid a0
  have HA1 := Lib.hid a1
  have HA2 := Lib.hid a2
  have HB0 := Lib.hid ab
  have HZ0 := Lib.hid az
  have x1 := (rowc a0).1 1
  have x2 := (rowc a0).1 2
  have y1 := (rowc a2).1 1
  have y2 := (rowc a2).1 2
  simp at x1 x2 y1 y2
  have f2 := (rowc a2).2
  have hz0 : P + 2 < w0.heap.size := by omega
  have x1a : ∀ o, (w0.alloc o).cell? ⟨P, 1, none⟩ = some (.slice A n c) := fun o => (rowc (keepAlloc HA0.out)).1 1
  have HH0 := Lib.hid (HH.out.below ab)
  clear hw0 a0 a1 a2 az ab
  go_wp2_with (at_builtin; refine imem.append_rdi rfl (.tmp 7) (.tmp 9) 24 rfl i1 Tryz.underlying24 hi1 hz10 hz11 hz12 w0.heap.size _ _ _ _ rfl (imem.owni_none w0 _ (Nat.le_refl _)) A n c l rfl (HH0.out.below (b1 w0 _)) (by omega) (by simp) ?_)
  intro A1 c1 w1 ho hb hg
  have HB1 := Lib.hid ((b1 w0 _).trans hb)
  have HO1 : Hid (imem.OwnI w1 w0.heap.size A1 n c1 l) := Lib.hid (by simpa using ho)
  have g2 := rowc (carry HB1.out HA2.out)
  have f2a := g2.2 1
  have f2b := g2.2 2
  clear ho hb hg x1 x2 x1a y1 y2 f2 hi1 hz10 hz11 hz12
  go_upto_region 3 with fail
  obtain ⟨N, HN⟩ : ∃ N, Hid (w1.heap.size = N) := ⟨_, Lib.hid rfl⟩
  generalize hw2 : w1.setCell ⟨P + 1 + 1, 1, none⟩ (.slice A1 n c1) = w2
  have hPN : P + 2 < N := by have := HB1.out.size; rw [← HN.out]; omega
  have HZ2 : Hid (w2.heap.size = N) := Lib.hid (by rw [← hw2, ← HN.out]; simp)
  have HF2 : Hid (∀ q, q ≠ P + 2 → w2.heap[q]? = w1.heap[q]?) := Lib.hid fun q hq => by rw [← hw2]; exact set_other hq
  have HC2 : Hid (w2.heap[P + 2]? = some (.cells #[.bool b, .slice A1 n c1, .slice B m d, .int .i64 x, .int .i64 k] IT (0, 0))) := Lib.hid (by
    rw [← hw2]
    have := set_heap (carry HB1.out HA2.out) 1 (.slice A1 n c1)
    simpa using this)
  have HB2 : Hid (Below w.heap.size w w2) := Lib.hid (by
    rw [← hw2]
    exact (bs HB0.out HB1.out).setCell (show w.heap.size ≤ P + 1 + 1 by rw [HP.out]; omega) _)
  have HNA : Hid (∀ h, (Value.slice A1 n c1).ownBlock = some h → P + 3 ≤ h ∧ h < N) := Lib.hid fun h e => by
    have h1 := HO1.out.block h e
    rw [HN.out, HZ0.out] at h1
    exact h1
  have HO2 : Hid (imem.OwnI w2 w0.heap.size A1 n c1 l) := Lib.hid (owni_at HO1.out fun q e => HF2.out q (by have := HNA.out q e; omega))
  have HD0 : Hid (w2.heap[P]? = some (.cells #[.bool b, .slice A n c, .slice B m d, .int .i64 x, .int .i64 k] IT (0, 0))) := Lib.hid ((HF2.out P (by omega)).trans (carry HB1.out HA0.out))
  have HD1 : Hid (w2.heap[P + 1]? = some (.cells #[.bool false, .slice none 0 0, .slice none 0 0, .int .i64 0, .int .i64 0] IT (0, 0))) := Lib.hid ((HF2.out (P + 1) (by omega)).trans (carry HB1.out HA1.out))
  have f2b : ∀ o, (w2.alloc o).frozen? ⟨P + 1 + 1, 2, none⟩ = false := fun o => (rowc (keepAlloc HC2.out)).2 2
  have c2b : ∀ o, (w2.alloc o).cell? ⟨P + 1 + 1, 2, none⟩ = some (.slice B m d) := fun o => (rowc (keepAlloc HC2.out)).1 2
  clear hw2 g2 f2a
  go_upto_region 4 with fail
  rw [HZ2.out]
  generalize hw3 : (w2.alloc _).setCell _ _ = w3
  have HR3 : Hid (SRow w3 N (.slice (some ⟨N, 0, none⟩) 0 0) []) := Lib.hid (by
    have h1 := SRow.empty w2 N (by rw [HZ2.out]; exact Nat.le_refl _)
    rw [HZ2.out] at h1
    refine h1.above fun q hq _ => ?_
    rw [← hw3]
    exact set_other (by omega))
  have HC3 : Hid (w3.heap[P + 2]? = some (.cells #[.bool b, .slice A1 n c1, .slice (some ⟨N, 0, none⟩) 0 0, .int .i64 x, .int .i64 k] IT (0, 0))) := Lib.hid (by
    rw [← hw3]
    have := set_heap (keepAlloc (o' := .cells #[] IS) HC2.out) 2 (.slice (some ⟨N, 0, none⟩) 0 0)
    simpa using this)
  have HF3 : Hid (∀ q, q < N → q ≠ P + 2 → w3.heap[q]? = w2.heap[q]?) := Lib.hid fun q hq hne => by
    rw [← hw3, set_other hne]
    exact (b1 w2 _).block q (by rw [HZ2.out]; exact hq)
  have HB3 : Hid (Below w.heap.size w w3) := Lib.hid (by
    rw [← hw3]
    exact (bs HB2.out (b1 w2 _)).setCell (show w.heap.size ≤ P + 1 + 1 by rw [HP.out]; omega) _)
  have HO3 : Hid (imem.OwnI w3 (P + 3) A1 n c1 l) := Lib.hid ((owni_at HO2.out fun q e => HF3.out q (HNA.out q e).2 (by have := HNA.out q e; omega)).less (by rw [HZ0.out]; exact Nat.le_refl _))
  have HE0 := Lib.hid ((HF3.out P (by omega) (by omega)).trans HD0.out)
  have HE1 := Lib.hid ((HF3.out (P + 1) (by omega) (by omega)).trans HD1.out)
  have x2 := (rowc HE0.out).1 2
  simp at x2
  clear hw3 f2b c2b HO1 HO2 HB1 HB2 HD0 HD1 HC2 HF2 HF3 HB0 HA0 HA1 HA2 HH0 HH HZ0 HZ2
  go_wp2_with (fail)
  go_loopg [4] (m + 1) (fun gk i wr => ∃ (j : Nat) (g1 : Nat) (d1 : Nat), i = .int .i64 j ∧ gk + j = m + 1 ∧ j ≤ m ∧ Hid (wr.heap[P]? = some (.cells #[.bool b, .slice A n c, .slice B m d, .int .i64 x, .int .i64 k] IT (0, 0))) ∧ Hid (wr.heap[P + 1]? = some (.cells #[.bool false, .slice none 0 0, .slice none 0 0, .int .i64 0, .int .i64 0] IT (0, 0))) ∧
    Hid (wr.heap[P + 2]? = some (.cells #[.bool b, .slice A1 n c1, .slice (some ⟨g1, 0, none⟩) j d1, .int .i64 x, .int .i64 k] IT (0, 0))) ∧ Hid (SRow wr N (.slice (some ⟨g1, 0, none⟩) j d1) (sl.take j)) ∧ Hid (imem.OwnI wr (P + 3) A1 n c1 l) ∧ Hid (Below w.heap.size w wr))
  case atStart => exact ⟨0, _, 0, rfl, by omega, by omega, HE0, HE1, HC3, HR3, HO3, HB3⟩
  case round =>
    clear HE0 HE1 HC3 HR3 HO3 HB3 x2
    obtain ⟨j, g1, d1, rfl, hgj, hjm, H0, H1, H2, HR, HO, HB⟩ := hrel
    have q0 := (rowc H0.out).1 2
    simp at q0
    obtain ⟨hNg, hgw⟩ := HR.out.block g1 rfl
    by_cases hlt : j < m
    · obtain ⟨t, htj⟩ : ∃ t, sl[j]? = some t := ⟨_, List.getElem?_eq_getElem (by omega)⟩
      obtain ⟨a, k1, n1, s1, x1, ks1, vs1, A2, c2, rfl, -, hyb, hlb, hv, hT, hcell⟩ := HS.out j t htj
      have hc10 := hcell.stays (w' := wr) (fun hl => HB.out.block _ hl)
      have hcnt := HC.out t (List.mem_of_getElem? htj)
      have HTK : Hid (sl.take j ++ [t] = sl.take (j + 1)) := Lib.hid (by
        obtain ⟨hj, e⟩ := List.getElem?_eq_some_iff.1 htj
        rw [List.take_succ_eq_append_getElem hj, e])
      have HTL : Hid ((sl.take j).length = j) := Lib.hid (by rw [List.length_take]; omega)
      obtain ⟨⟨yb, yn, ys⟩, tv, tb, tl⟩ := t
      simp only at hyb hlb hv hT hc10 hcnt
      subst hv
      have LC : Hid (∀ w', Below wr.heap.size wr w' → Calls Tryz.prog 71 #[vV k1 n1 s1 x1 A2 vs1.length c2] w' (ToQ w' (.mk k1 n1 s1 x1 ks1 vs1))) := Lib.hid fun w' hb => l5Copy _ hcnt w' S _ (hT.below' (bs HB.out hb))
      have HYB := Lib.hid hyb
      have HLB := Lib.hid hlb
      obtain ⟨L1, HL1⟩ : ∃ L, Hid (vs1.length = L) := ⟨_, Lib.hid rfl⟩
      rw [HL1.out] at hc10 LC
      obtain ⟨p0, p1, p2, p3, p4, p5, p6, p7, p8, p9⟩ := hc10
      simp only at p0 p1 p2 p8 p9
      clear hyb hlb hT hcell htj hcnt
      go_upto_region 8 with fail
      obtain ⟨R, HRR⟩ : ∃ R, Hid (wr.heap.size = R) := ⟨_, Lib.hid rfl⟩
      rw [HRR.out]
      rw [HRR.out] at hgw
      generalize hw1 : wr.alloc (.cells #[.bool yb, .int .i64 yn, .string ys, .int .i64 k1, .int .i64 n1, .string s1, .int .i64 x1, .slice A2 L1 c2, .bool tb, .int .i64 tl] IS) = w5
      have hb1 : Below wr.heap.size wr w5 := hw1 ▸ b1 wr _
      have h10 : w5.heap[R]? = some (.cells #[.bool yb, .int .i64 yn, .string ys, .int .i64 k1, .int .i64 n1, .string s1, .int .i64 x1, .slice A2 L1 c2, .bool tb, .int .i64 tl] IS (0, 0)) := by rw [← hw1, ← HRR.out]; exact heap_alloc_new wr _
      have HZ5 : Hid (w5.heap.size = R + 1) := Lib.hid (by rw [← hw1, ← HRR.out]; simp)
      have HB5 := Lib.hid hb1
      have H10 := Lib.hid h10
      have r10 := (rowc h10).1
      have z3 := r10 3; have z4 := r10 4; have z5 := r10 5; have z6 := r10 6; have z7 := r10 7
      simp at z3 z4 z5 z6 z7
      clear hw1 hb1 h10 r10 q0 p0 p1 p2 p3 p4 p5 p6 p7 p8 p9
      go_wp2_with (fail)
      refine (LC.out _ HB5.out).mono ?_
      rintro e w6 ⟨v1, rfl, hv1, hb6⟩
      obtain ⟨A3, c3, rfl, -, -⟩ := hv1.out
      rw [HL1.out] at hv1 ⊢
      have HV1 := Lib.hid hv1
      have H16 := Lib.hid (carry hb6 H10.out)
      have HB6 := Lib.hid (bs HB5.out hb6)
      have f6 := (rowc H16.out).2
      have r16 := (rowc H16.out).1
      have u3 := r16 3; have u4 := r16 4; have u5 := r16 5; have u6 := r16 6; have u7 := r16 7
      simp at u3 u4 u5 u6 u7
      clear hv1 hb6 z3 z4 z5 z6 z7 r16
      go_upto_region 9 with fail
      generalize hwF : World.setCell (World.setCell (World.setCell (World.setCell (World.setCell w6 _ _) _ _) _ _) _ _) _ _ = wF
      obtain ⟨cF, oF, bF, sF⟩ := fill10 H16.out hwF
      have HBF : Hid (Below wr.heap.size wr wF) := Lib.hid (bF _ _ (by rw [HRR.out]; exact Nat.le_refl _) HB6.out)
      have HCF := Lib.hid cF
      have HTI : Hid (TIn wF (SX N (.slice (some ⟨g1, 0, none⟩) j d1)) (.mk k1 n1 s1 x1 ks1 vs1) (vV k1 n1 s1 x1 A3 vs1.length c3)) := Lib.hid (by
        rw [HL1.out]
        refine HV1.out.stays (S' := SX N (.slice (some ⟨g1, 0, none⟩) j d1)) (fun q hq => ?_) (fun q hq _ => oF q ?_)
        · have hq2 : w5.heap.size ≤ q := hq
          rw [HZ5.out] at hq2
          exact ⟨by omega, fun e => by simp [Value.ownBlock] at e; omega⟩
        · have hq2 : w5.heap.size ≤ q := hq
          rw [HZ5.out] at hq2
          omega)
      have hsF : R + 1 ≤ wF.heap.size := by
        have := (Array.getElem?_eq_some_iff.1 cF).1
        omega
      obtain ⟨xs, hx⟩ := HR.out
      have HX := Lib.hid (hx.below HBF.out)
      have HOW : Hid (∀ o, (wF.alloc o).ownsRow N IS 10 (.slice (some ⟨g1, 0, none⟩) j d1) j xs) := Lib.hid fun o => by
        have := World.ownsRow.alloc HX.out.1 o
        rwa [HTL.out] at this
      have H0F := Lib.hid (carry HBF.out H0.out)
      have H1F := Lib.hid (carry HBF.out H1.out)
      have H2F := Lib.hid (carry HBF.out H2.out)
      have HOF := Lib.hid (HO.out.below HBF.out)
      have HBG := Lib.hid (bs HB.out HBF.out)
      have rF := (rowc HCF.out).1
      have z0 := rF 0; have z1 := rF 1; have z2 := rF 2; have z3 := rF 3; have z4 := rF 4; have z5 := rF 5; have z6 := rF 6; have z7 := rF 7; have z8 := rF 8; have z9 := rF 9
      have e2 := (rowc H2F.out).1 2
      simp at z0 z1 z2 z3 z4 z5 z6 z7 z8 z9 e2
      clear hwF hx cF oF bF sF u3 u4 u5 u6 u7 f6 rF H0 H1 H2 HO HB HBF H16 HB6 HV1 H10 HB5 LC
      go_wp2_with (first
        | (at_builtin; refine wpList_append_own_at _ rfl _ _ 25 rfl N IS i0 _ 10 112 Tryz.underlying25 HII.out HZZ.out.1 HZZ.out.2.1 HZZ.out.2.2 rfl (by decide) _ j xs rfl (HOW.out _) ⟨wF.heap.size, 0, none⟩ 1 1 [.bool yb, .int .i64 yn, .string ys, .int .i64 k1, .int .i64 n1, .string s1, .int .i64 x1, .slice A3 L1 c3, .bool tb, .int .i64 tl] rfl rfl (ten_new wF _ _ _ _ _ _ _ _ _ _ _) (ten_one _ _ _ _ _ _ _ _ _ _ _ _) (by unfold maxLen; omega) (by omega) (by simp; omega) ?_
           intro v' w7 hown hgrow hnil hat
           have hown2 : w7.ownsRow N IS 10 v' ((sl.take j).length + 1) (xs ++ [.bool yb, .int .i64 yn, .string ys, .int .i64 k1, .int .i64 n1, .string s1, .int .i64 x1, .slice A3 vs1.length c3, .bool tb, .int .i64 tl]) := by
             rw [HTL.out, HL1.out]
             exact hown
           have HST : Hid (SRow w7 N v' (sl.take (j + 1))) := Lib.hid (by
             rw [← HTK.out]
             exact (HX.out.below (b1 wF _)).more (t := ⟨⟨yb, yn, ys⟩, .mk k1 n1 s1 x1 ks1 vs1, tb, tl⟩) rfl HYB.out HLB.out (HTI.out.below' (b1 wF _)) hown2 hgrow hat)
           have HB7 : Hid (Below w.heap.size w w7) := Lib.hid ((HBG.out.alloc HBG.out.size _).grown hgrow (by have := HBG.out.size; simp; omega) (fun b e => by have e3 : g1 = b := Option.some.inj e; have := HP.out; omega))
           have H07 := Lib.hid ((hgrow.block P (by simp; omega) (fun e => by have e3 : _ = g1 := Option.some.inj e; omega)).trans (keepAlloc H0F.out))
           have H17 := Lib.hid ((hgrow.block (P + 1) (by simp; omega) (fun e => by have e3 : _ = g1 := Option.some.inj e; omega)).trans (keepAlloc H1F.out))
           have H27 := Lib.hid ((hgrow.block (P + 2) (by simp; omega) (fun e => by have e3 : _ = g1 := Option.some.inj e; omega)).trans (keepAlloc H2F.out))
           have HO7 := Lib.hid (HOF.out.alloc (Obj.cells #[.bool yb, .int .i64 yn, .string ys, .int .i64 k1, .int .i64 n1, .string s1, .int .i64 x1, .slice A3 L1 c3, .bool tb, .int .i64 tl] IS) |>.keep hgrow (fun q e e2 => by have := HNA.out q e; have e3 : g1 = q := Option.some.inj e2; omega))
           obtain ⟨g3, c4, rfl⟩ : ∃ g3 c4, v' = .slice (some ⟨g3, 0, none⟩) (j + 1) c4 := by
             rcases hown.2 with ⟨-, h⟩ | ⟨g, cap, cur, h, -⟩
             · omega
             · exact ⟨g, cap, h⟩
           obtain ⟨t7, f7⟩ := rowc H27.out
           clear hown hown2 hgrow hnil hat)
        | fail)
      clear t7 f7 z0 z1 z2 z3 z4 z5 z6 z7 z8 z9 e2
      go_roundg (m - j)
      case rel => exact ⟨j + 1, g3, c4, by go_num, by omega, by omega, Lib.hid ((set_other (by omega)).trans H07.out), Lib.hid ((set_other (by omega)).trans H17.out), Lib.hid (by have := set_heap H27.out 2 (.slice (some ⟨g3, 0, none⟩) (j + 1) c4); simpa using this), Lib.hid (HST.out.above fun q hq _ => set_other (by omega)), Lib.hid (owni_at HO7.out fun q e => set_other (by have := HNA.out q e; omega)), Lib.hid (HB7.out.setCell (show w.heap.size ≤ P + 2 by rw [HP.out]; omega) _)⟩
      case measure => omega
    · obtain rfl : j = m := by omega
      have e2 := (rowc H2.out).1
      have e1 := (rowc H1.out).2
      have y0 := e2 0; have y1 := e2 1; have y2 := e2 2; have y3 := e2 3; have y4 := e2 4
      have e3 := (rowc H1.out).1
      have v0 := e3 0; have v1 := e3 1; have v2 := e3 2; have v3 := e3 3; have v4 := e3 4
      simp at y0 y1 y2 y3 y4 v0 v1 v2 v3 v4
      clear e2 e3
      go_wp2_with (fail)
      generalize hwF : World.setCell (World.setCell (World.setCell (World.setCell (World.setCell wr _ _) _ _) _ _) _ _) _ _ = wF
      obtain ⟨rF, oF, bF⟩ := fill5s H1.out hwF
      have hrr := HR.out
      rw [show sl.take j = sl by rw [← hlen, List.take_length]] at hrr
      clear hwF
      exact bodyPost_ret (v := tbV b A1 n c1 (some ⟨g1, 0, none⟩) j d1 x k) (by simp [results, Tryz.results112, go_sem, rF, tbV]) rfl ⟨A1, c1, _, d1, P + 3, N, rfl, by rw [HP.out]; omega, by omega, owni_at HO.out fun q e => oF q (by have := HNA.out q e; omega), fun h e => (HNA.out h e).2, hrr.above fun q hq _ => oF q (by omega), bF _ _ (by rw [HP.out]; omega) HB.out⟩

end Go.Proofs.YtdglmnmalfpipaaGreatDoor.tree

/-
  A slot of an own table given up, of the project.
  Conditions: those that each theorem names.
-/
namespace Go.Proofs.YtdglmnmalfpipaaGreatDoor.tree
open Go.ChangeShapes Go.WideShapes Go.ChangeAt Go.RowKit
set_option linter.unusedVariables false

abbrev zTr : Tr := .mk 0 0 ⟨#[]⟩ 0 [] []
/-- The slots when slot i is given up. -/
def dropS (sl : List Sl) (i : Nat) : List Sl := match sl[i]? with
  | some t => sl.set i ⟨t.key, zTr, false, t.link⟩
  | none => sl
theorem dropS_len (sl : List Sl) (i : Nat) : (dropS sl i).length = sl.length := by
  unfold dropS
  split <;> simp
theorem dropS_get {sl : List Sl} {i j : Nat} {t : Sl} (h : (dropS sl i)[j]? = some t) : (j ≠ i ∧ sl[j]? = some t) ∨ (j = i ∧ ∃ t0, sl[i]? = some t0 ∧ t = ⟨t0.key, zTr, false, t0.link⟩) := by
  unfold dropS at h
  cases hi : sl[i]? with
  | none =>
    rw [hi] at h
    simp only at h
    refine .inl ⟨fun e => ?_, h⟩
    rw [e, hi] at h
    cases h
  | some t0 =>
    rw [hi] at h
    simp only at h
    by_cases e : j = i
    · subst e
      rw [List.getElem?_set_self (List.getElem?_eq_some_iff.1 hi).1] at h
      exact .inr ⟨rfl, t0, rfl, (Option.some.inj h).symm⟩
    · rw [List.getElem?_set_ne (fun e2 => e e2.symm)] at h
      exact .inl ⟨e, h⟩

/-- The cells of a slot that is given up. -/
def clr (arr : Array Value) (o : Nat) : Array Value := (((((arr.setIfInBounds (o + 8) (.bool false)).setIfInBounds (o + 3) (.int .i64 0)).setIfInBounds (o + 4) (.int .i64 0)).setIfInBounds (o + 5) (.string ⟨#[]⟩)).setIfInBounds (o + 6) (.int .i64 0)).setIfInBounds (o + 7) (.slice none 0 0)
theorem clr_size (arr : Array Value) (o : Nat) : (clr arr o).size = arr.size := by simp [clr]
theorem clr_out (arr : Array Value) (o p : Nat) (h : p < o + 3 ∨ o + 9 ≤ p) : (clr arr o)[p]? = arr[p]? := by
  unfold clr
  rw [Array.getElem?_setIfInBounds_ne (by omega), Array.getElem?_setIfInBounds_ne (by omega), Array.getElem?_setIfInBounds_ne (by omega), Array.getElem?_setIfInBounds_ne (by omega), Array.getElem?_setIfInBounds_ne (by omega), Array.getElem?_setIfInBounds_ne (by omega)]
theorem clr_in (arr : Array Value) (o : Nat) (h : o + 10 ≤ arr.size) : (clr arr o)[o + 3]? = some (.int .i64 0) ∧ (clr arr o)[o + 4]? = some (.int .i64 0) ∧ (clr arr o)[o + 5]? = some (.string ⟨#[]⟩) ∧ (clr arr o)[o + 6]? = some (.int .i64 0) ∧ (clr arr o)[o + 7]? = some (.slice none 0 0) ∧ (clr arr o)[o + 8]? = some (.bool false) := by
  unfold clr
  refine ⟨?_, ?_, ?_, ?_, ?_, ?_⟩
  all_goals simp [Array.getElem?_setIfInBounds]
  all_goals omega
theorem LaidP.del {w w' : World} {par : Nat → Nat × Nat} {R g L j : Nat} {sl : List Sl} (h : LaidP w par R g L j sl) {i : Nat} (hi : i < L)
    (hg : ∀ arr, w.heap[g]? = some (.cells arr IS (0, 0)) → w'.heap[g]? = some (.cells (clr arr (i * 10)) IS (0, 0))) (hR : ∀ q, R < q → q < w.heap.size → w'.heap[q]? = w.heap[q]?) : LaidP w' par R g L j (dropS sl i) := by
  obtain ⟨arr, hg0, hs, h⟩ := h
  obtain ⟨e3, e4, e5, e6, e7, e8⟩ := clr_in arr (i * 10) (by omega)
  refine ⟨_, hg arr hg0, by rw [clr_size]; exact hs, fun q t ht => ?_⟩
  rcases dropS_get ht with ⟨hne, ht⟩ | ⟨rfl, t0, ht0, rfl⟩
  · obtain ⟨h1, h2, h3, h4, h5⟩ := h q t ht
    have out : ∀ p, p < 10 → (clr arr (i * 10))[q * 10 + p]? = arr[q * 10 + p]? := fun p hp => clr_out _ _ _ (by omega)
    refine ⟨h1, h2, (out 8 (by omega)).trans h3, (out 9 (by omega)).trans h4, fun hj => ?_⟩
    obtain ⟨k, n, s, x, ks, vs, A, c, hv, hT, hc⟩ := h5 hj
    exact ⟨k, n, s, x, ks, vs, A, c, hv, hT.above fun q hq hl => hR q hq hl, fun p hp => (out p hp).trans (hc p hp)⟩
  · obtain ⟨h1, h2, h3, h4, h5⟩ := h q t0 ht0
    refine ⟨h1, h2, e8, (clr_out _ _ _ (by omega)).trans h4, fun hj => ?_⟩
    obtain ⟨k, n, s, x, ks, vs, A, c, hv, hT, hc⟩ := h5 hj
    refine ⟨0, 0, ⟨#[]⟩, 0, [], [], none, 0, rfl, TPar.of ⟨by unfold I64; omega, by unfold I64; omega, by unfold I64; omega, Nat.zero_le _⟩ rfl ⟨Nat.le_refl _, by unfold maxLen; omega⟩ (fun h => absurd h (by simp)), fun p hp => ?_⟩
    match p, hp with
    | 0, _ => exact (clr_out _ _ _ (by omega)).trans (hc 0 (by omega))
    | 1, _ => exact (clr_out _ _ _ (by omega)).trans (hc 1 (by omega))
    | 2, _ => exact (clr_out _ _ _ (by omega)).trans (hc 2 (by omega))
    | 3, _ => exact e3
    | 4, _ => exact e4
    | 5, _ => exact e5
    | 6, _ => exact e6
    | 7, _ => exact e7
    | 8, _ => exact e8
    | 9, _ => exact (clr_out _ _ _ (by omega)).trans h4

def DelQ (w : World) (par : Nat → Nat × Nat) (R Q g d m i : Nat) (b : Bool) (A : Option Addr) (n c : Nat) (x k : Int) (sl : List Sl) (e : Ending) (w' : World) : Prop :=
  e = .returned (.tuple #[]) ∧ w'.heap[Q]? = some (.cells #[.bool b, .slice A n c, .slice (some ⟨g, 0, none⟩) m d, .int .i64 x, .int .i64 (k - 1)] IT (0, 0)) ∧ LaidP w' par R g d m (dropS sl i) ∧ Fr (fun q => q = Q ∨ q = g) w w'

set_option maxRecDepth 100000 in
set_option maxHeartbeats 2000000 in
theorem deleteSlot_i {par : Nat → Nat × Nat} {R Q g d m i : Nat} {b : Bool} {A : Option Addr} {n c : Nat} {x k : Int} {sl : List Sl} (w : World) (hbox : w.heap[Q]? = some (.cells #[.bool b, .slice A n c, .slice (some ⟨g, 0, none⟩) m d, .int .i64 x, .int .i64 k] IT (0, 0)))
    (hlp : LaidP w par R g d m sl) (hi : i < m) (hmd : m ≤ d) (hQg : Q ≠ g) (hgR : g ≤ R) (hQR : Q ≤ R) (hk : -1000000000000 ≤ k ∧ k ≤ 1000000000000) :
    Calls Tryz.prog 73 #[.pointer (some ⟨Q, 0, none⟩), .int .i64 i] w (DelQ w par R Q g d m i b A n c x k sl) := by
  obtain ⟨hk1, hk2⟩ := hk
  have HL := Lib.hid hlp
  have HBX := Lib.hid hbox
  obtain ⟨arr, hg0, hs, -⟩ := hlp
  have HG0 := Lib.hid hg0
  obtain ⟨r1, f1⟩ := rowc hg0
  obtain ⟨u8, z8⟩ : ∃ u, w.cell? ⟨g, i * 10 + 8, none⟩ = some u := ⟨_, (r1 _).trans (Array.getElem?_eq_getElem (by omega))⟩
  obtain ⟨r0, f0⟩ := rowc hbox
  have y2 := r0 2
  simp at y2
  have hii : (i : Int) < (m : Int) := by omega
  have NV := nullValue_i
  unfold vV at NV
  have HSA := Lib.hid hs
  clear hbox hg0 hs r1 r0
  go_enter Tryz.func73, Tryz.ntmps73
  go_upto_region 1 with fail
  generalize hw1 : w.setCell ⟨g, i * 10 + 8, none⟩ (.bool false) = w1
  have HG1 : Hid (w1.heap[g]? = some (.cells (arr.setIfInBounds (i * 10 + 8) (.bool false)) IS (0, 0))) := Lib.hid (by rw [← hw1]; exact set_heap HG0.out _ _)
  have ho1 : ∀ q, q ≠ g → w1.heap[q]? = w.heap[q]? := fun q h => by rw [← hw1, set_other h]
  have HO1 := Lib.hid ho1
  have HB1 := Lib.hid ((ho1 Q hQg).trans HBX.out)
  have HF1 : Hid (Fr (fun q => q = Q ∨ q = g) w w1) := Lib.hid (hw1 ▸ Fr.set (.inr rfl) _ _)
  obtain ⟨r0, f0'⟩ := rowc HB1.out
  have y2 := r0 2
  simp at y2
  clear hw1 ho1 r0 f0 f1 z8
  go_wp2_with (fail)
  go_region_with (first
    | (go_at_call 85; refine (NV _).mono ?_
       rintro e w2 ⟨rfl, hb⟩
       have hbx := bs ((Below.refl w1.heap.size w1).drew) hb
       have HG2 := Lib.hid (carry hbx HG1.out)
       have HB2 := Lib.hid (carry hbx HB1.out)
       have HF2 := Lib.hid (HF1.out.trans (Fr.of hbx))
       have HO2 : Hid (∀ q, q ≠ g → q < w1.heap.size → w2.heap[q]? = w.heap[q]?) := Lib.hid (fun q h h2 => (hbx.block q h2).trans (HO1.out q h))
       obtain ⟨r1, f1⟩ := rowc HG2.out
       have hsz := HSA.out
       have z : ∀ q, q < 10 → ∃ u, w2.cell? ⟨g, i * 10 + q, none⟩ = some u := fun q hq => ⟨_, (r1 _).trans (Array.getElem?_eq_getElem (by rw [Array.size_setIfInBounds]; omega))⟩
       obtain ⟨u3, z3⟩ := z 3 (by omega)
       obtain ⟨u4, z4⟩ := z 4 (by omega)
       obtain ⟨u5, z5⟩ := z 5 (by omega)
       obtain ⟨u6, z6⟩ := z 6 (by omega)
       obtain ⟨u7, z7⟩ := z 7 (by omega)
       have y2 : w2.cell? ⟨Q, 2, none⟩ = some (.slice (some ⟨g, 0, none⟩) m d) := (rowc HB2.out).1 2
       clear hb hbx r1 z hsz))
  all_goals
    rw [show i * 10 + 3 + 1 = i * 10 + 4 from rfl, show i * 10 + 3 + 2 = i * 10 + 5 from rfl, show i * 10 + 3 + 3 = i * 10 + 6 from rfl, show i * 10 + 3 + 4 = i * 10 + 7 from rfl]
    generalize hw3 : World.setCell (World.setCell (World.setCell (World.setCell (World.setCell w2 _ _) _ _) _ _) _ _) _ _ = w3
    have HG3 : Hid (w3.heap[g]? = some (.cells (clr arr (i * 10)) IS (0, 0))) := Lib.hid (by
      rw [← hw3]
      unfold clr
      with_reducible exact set_heap (set_heap (set_heap (set_heap (set_heap HG2.out _ _) _ _) _ _) _ _) _ _)
    have ho3 : ∀ q, q ≠ g → w3.heap[q]? = w2.heap[q]? := fun q h => by rw [← hw3, set_other h, set_other h, set_other h, set_other h, set_other h]
    have HB3 := Lib.hid ((ho3 Q hQg).trans HB2.out)
    have HO3 : Hid (∀ q, q ≠ g → q < w1.heap.size → w3.heap[q]? = w.heap[q]?) := Lib.hid (fun q h h2 => (ho3 q h).trans (HO2.out q h h2))
    have HF3 : Hid (Fr (fun q => q = Q ∨ q = g) w w3) := Lib.hid (by
      rw [← hw3]
      exact ((((HF2.out.trans (Fr.set (.inr rfl) _ _)).trans (Fr.set (.inr rfl) _ _)).trans (Fr.set (.inr rfl) _ _)).trans (Fr.set (.inr rfl) _ _)).trans (Fr.set (.inr rfl) _ _))
    have y4 : w3.cell? ⟨Q, 4, none⟩ = some (.int .i64 k) := (rowc HB3.out).1 4
    have f4 := (rowc HB3.out).2
    clear hw3 ho3 z3 z4 z5 z6 z7 f1 y2
    go_wp2_with (fail)
    go_end0
    generalize hw4 : w3.setCell ⟨Q, 4, none⟩ (.int .i64 (k - 1)) = w4
    have h1 : w4.heap[Q]? = some (.cells #[.bool b, .slice A n c, .slice (some ⟨g, 0, none⟩) m d, .int .i64 x, .int .i64 (k - 1)] IT (0, 0)) := by
      rw [← hw4]
      have := set_heap HB3.out 4 (.int .i64 (k - 1))
      simpa using this
    have h2 : ∀ q, q ≠ Q → w4.heap[q]? = w3.heap[q]? := fun q h => by rw [← hw4, set_other h]
    have h3 : Fr (fun q => q = Q ∨ q = g) w w4 := by
      rw [← hw4]
      exact HF3.out.trans (Fr.set (.inl rfl) _ _)
    have hd : i < d := by omega
    have hz : w.heap.size ≤ w1.heap.size := HF1.out.size
    have h4 : LaidP w4 par R g d m (dropS sl i) := by
      refine LaidP.del HL.out hd (fun arr' hg' => ?_) (fun q hq hl => ?_)
      · rw [h2 g (Ne.symm hQg)]
        have e : arr' = arr := (Obj.cells.inj (Option.some.inj (hg'.symm.trans HG0.out))).1
        rw [e]
        exact HG3.out
      · rw [h2 q (by omega)]
        exact HO3.out q (by omega) (by omega)
    exact ⟨rfl, h1, h4, h3⟩

end Go.Proofs.YtdglmnmalfpipaaGreatDoor.tree

