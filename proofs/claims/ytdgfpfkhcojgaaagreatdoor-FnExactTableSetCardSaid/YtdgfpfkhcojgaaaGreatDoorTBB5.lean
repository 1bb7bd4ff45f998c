/-
  What the texts behind this one use: 8 parts of one proof.
  Conditions: those that each theorem names.
-/
import Derived.Test.YtdgfpfkhcojgaaaGreatDoorTBSMarkA
import Derived.Test.YtdgfpfkhcojgaaaGreatDoorTBSHeld
import Derived.Test.YtdgfpfkhcojgaaaGreatDoorTBB2
import Derived.Test.YtdgfpfkhcojgaaaGreatDoorTBB4
import Derived.Test.YtdgfpfkhcojgaaaGreatDoorTBSCopyV
import Derived.Test.YtdgfpfkhcojgaaaGreatDoorTBSMarks
import Derived.Test.YtdgfpfkhcojgaaaGreatDoorTBSCopyS
import Derived.Maps.AppendAt
import Derived.Deep.DeepCutAuto
import Derived.Deep.RegionWith
import Derived.Test.YtdgfpfkhcojgaaaGreatDoorTBSCopyI
import Derived.Test.YtdgfpfkhcojgaaaGreatDoorTBB1
/-
  What the walks of the exact laws on values ask for again and again: the words of blocks behind calls, marks that are put in and found again.
  Conditions: those that each theorem names.
-/
namespace Go.Proofs.YtdgfpfkhcojgaaaGreatDoor.tree
open Go.ChangeShapes Go.WideShapes Go.ChangeAt Go.RowKit
set_option linter.unusedVariables false

/-- How many items hang in a value. -/
def itm : Tr → Nat
  | .mk _ _ _ _ _ vs => cnts vs
theorem itm_cnt (t : Tr) : cnt t = 1 + itm t := by cases t; rw [cnt_mk', itm]
/-- A value with marks. -/
def mkI (m : Int) : Tr → Tr
  | .mk k n s x _ vs => .mk k n s x (mkK m vs) (mkV m vs)

/-- Blocks from lo on and below hi. -/
def Rg (lo hi : Nat) (b : Nat) : Prop := lo ≤ b ∧ b < hi
/-- A value in plain blocks from lo on: in those that are there. -/
theorem TIn.rg {w : World} {lo : Nat} {t : Tr} {v : Value} (h : TIn w (Nw lo w) t v) : TIn w (fun b => Rg lo w.heap.size b ∧ Plain w b) t v := h.stays (fun b hb => ⟨⟨hb.1, hb.2.lt⟩, hb.2⟩) (fun _ _ _ => rfl)

/-- Marks on an argument: all else stays. -/
theorem markArg (t : Tr) (v : Value) (m : Int) (hm0 : 1 ≤ m) (hm1 : m + 7 * cnt t ≤ 100000000000) (w w0 : World) (lo : Nat) (h : TIn w0 (Nw lo w0) t v) (hb : Below w0.heap.size w0 w) :
    Calls Tryz.prog 34 #[v, .int .i64 m] w (fun e w' => ∃ q, e = .returned (.int .i64 q) ∧ m ≤ q ∧ q ≤ m + 7 * cnt t ∧ Fr (Rg lo w0.heap.size) w w') := by
  have h1 := h.rg
  have h2 : TIn w (fun b => Rg lo w0.heap.size b ∧ Plain w0 b) t v := h1.below' hb
  refine (markVal t v m hm0 hm1 w _ h2 fun b hb' => ?_).mono fun e w' ⟨q, a, b, c, d⟩ => ⟨q, a, b, c, d.mono fun _ hb' => hb'.1⟩
  obtain ⟨_, cs, t, hc⟩ := hb'
  exact ⟨cs, t, carry hb hc⟩

/-- Nothing hangs but what is there. -/
theorem TPar.tight {w : World} {par : Nat → Nat × Nat} {R i : Nat} {t : Tr} {v : Value} (h : TPar w par (R, i) t v) : ∃ par', TPar w par' (R, i) t v ∧ ∀ b, Hang par' (R, i) b → Rg (R + 1) w.heap.size b := by
  refine ⟨fun b => if b < w.heap.size then par b else (b, 0), h.par_ fun b hb => if_pos hb, fun b hb => ⟨by have := hb.gt; simp at this; omega, ?_⟩⟩
  cases hb with
  | root _ e hlt =>
    by_cases hb : b < w.heap.size
    · exact hb
    · rw [if_neg hb] at e
      injection e with e1 e2
      simp at hlt
      omega
  | step _ g j e hlt hh =>
    by_cases hb : b < w.heap.size
    · exact hb
    · rw [if_neg hb] at e
      injection e with e1 e2
      omega

/-- Marks on a value whose lists lie apart. -/
theorem markSep (t : Tr) (v : Value) (m : Int) (hm0 : 1 ≤ m) (hm1 : m + 7 * itm t ≤ 100000000000) (w : World) (par : Nat → Nat × Nat) (R i lo hi : Nat) (h : TPar w par (R, i) t v) (hr : ∀ b, Hang par (R, i) b → Rg lo hi b) :
    Calls Tryz.prog 34 #[v, .int .i64 m] w (fun e w' => e = .returned (.int .i64 (m + 7 * itm t)) ∧ TPar w' par (R, i) (mkI m t) v ∧ Fr (Rg lo hi) w w') := by
  obtain ⟨k, n, s, x, ks, vs⟩ := t
  obtain ⟨A, c, rfl, hk, hl, hcap, hblk⟩ := h.out
  rw [itm] at hm1 ⊢
  rw [mkI]
  have M := markItems (.mk k n s x ks vs) k n s x ks vs rfl k n s x ks m hm0 hm1
  obtain ⟨L, HL⟩ : ∃ L, Hid (L = vs.length) := ⟨_, Lib.hid rfl⟩
  obtain ⟨Q, HQ⟩ : ∃ Q : Int, Hid (m + 7 * cnts vs = Q) := ⟨_, Lib.hid rfl⟩
  rw [HQ.out] at M ⊢
  have HH := Lib.hid h
  have HR := Lib.hid hr
  have HM := Lib.hid M
  have hsz : R < w.heap.size ∨ vs.length = 0 := by
    rcases Nat.eq_zero_or_pos vs.length with h0 | h0
    · exact .inr h0
    · obtain ⟨g, -, -, h2, arr, h3, -⟩ := hblk h0
      exact .inl (Nat.lt_trans (by simpa using h2) (Array.getElem?_eq_some_iff.1 h3).1)
  rw [← HL.out]
  clear h hr M hblk hl hcap hk hsz
  go_enter Tryz.func34, Tryz.ntmps34
  go_wp2_with (fail)
  have M2 := HM.out _ par (R, i) A c (HH.out.keep (w' := w.alloc (.cells #[.int .i64 k, .int .i64 n, .string s, .int .i64 x, .slice A vs.length c] IV)) fun b _ hb => (b1 w _).block b hb)
  rw [← HL.out] at M2
  refine M2.mono ?_
  rintro e w1 ⟨rfl, ht1, hf1⟩
  have HT1 := Lib.hid ht1
  have HF1 := Lib.hid hf1
  clear ht1 hf1 M2
  go_wp2_with (fail)
  go_ret
  exact ⟨rfl, HT1.out, (Fr.of (b1 w _)).trans (HF1.out.mono HR.out)⟩

theorem heldSep (t : Tr) (v : Value) (m : Int) (hm0 : 1 ≤ m) (hm1 : m + 7 * itm t ≤ 100000000000) (w : World) (S : Nat → Prop) (h : TIn w S (mkI m t) v) :
    Calls Tryz.prog 43 #[v, .int .i64 m] w (GivesQ w (.int .i64 (m + 7 * itm t))) := by
  obtain ⟨k, n, s, x, ks, vs⟩ := t
  rw [mkI] at h
  obtain ⟨A, c, rfl, hk, hin⟩ := h.out
  rw [itm] at hm1 ⊢
  have M := fun w h => heldItems (.mk k n s x ks vs) k n s x ks vs rfl m hm0 hm1 w S A c h
  obtain ⟨L, HL⟩ : ∃ L, Hid (L = vs.length) := ⟨_, Lib.hid rfl⟩
  obtain ⟨Q, HQ⟩ : ∃ Q : Int, Hid (m + 7 * cnts vs = Q) := ⟨_, Lib.hid rfl⟩
  have hQ : 0 ≤ Q := by rw [← HQ.out]; omega
  rw [HQ.out, ← HL.out] at M
  rw [HQ.out, mkV_len, ← HL.out]
  have HI := Lib.hid hin
  clear h hin hk
  go_enter Tryz.func43, Tryz.ntmps43
  go_wp2_with (fail)
  refine (M _ (HI.out.below (b1 _ _))).mono ?_
  rintro e w1 ⟨rfl, hb1⟩
  have HB := Lib.hid hb1
  clear hb1
  go_wp2_with (fail)
  go_ret
  exact ⟨rfl, bs (b1 _ _) HB.out⟩

end Go.Proofs.YtdgfpfkhcojgaaaGreatDoor.tree

/-
  A table copied into new memory, of the project.
  Conditions: those that each theorem names.
-/
namespace Go.Proofs.YtdgfpfkhcojgaaaGreatDoor.tree
open Go.ChangeShapes Go.WideShapes Go.ChangeAt Go.RowKit
set_option linter.unusedVariables false

/-- The items of a table's slots, the first j of them laid in block G; their lists lie below G. -/
def LaidC (w : World) (G L j : Nat) (sl : List Sl) : Prop :=
  ∃ arr, w.heap[G]? = some (.cells arr IE (0, 0)) ∧ arr.size = L * 8 ∧ ∀ (i : Nat) t, sl[i]? = some t → i < j → ∃ k n s x ks vs A c, t.val = .mk k n s x ks vs ∧ TIn w (fun b => b < G ∧ Plain w b) t.val (vV k n s x A vs.length c) ∧ (I64 t.key.num ∧ t.key.str.size ≤ maxLen) ∧ At8r arr i t.key k n s x A vs.length c
def skS (sl : List Sl) : List Ky := sl.map fun t => t.key
def svS (sl : List Sl) : List Tr := sl.map fun t => t.val
theorem LaidC.done {w : World} {G L : Nat} {sl : List Sl} (h : LaidC w G L L sl) (hL : sl.length = L) (hm : L ≤ maxLen) : IsIn w (Nw 0 w) (skS sl) (svS sl) (some ⟨G, 0, none⟩) := by
  obtain ⟨arr, hg, hs, h⟩ := h
  have hk : (skS sl).length = (svS sl).length := by simp [skS, svS]
  have hvl : (svS sl).length = L := by simp [svS, hL]
  have each : ∀ i (hi : i < (svS sl).length), ∃ C : Array Value, KyAt w ⟨G, 0, none⟩ i ((skS sl)[i]'(hk ▸ hi)) ∧ C.size = 5 ∧ (∀ j, j < 5 → w.cell? ((⟨G, 0, none⟩ : Addr).add (8 * i + (3 + j))) = C[j]?) ∧ TIn w (Nw 0 w) ((svS sl)[i]) (.agg C) := by
    intro i hi
    obtain ⟨t, ht⟩ : ∃ t, sl[i]? = some t := ⟨_, List.getElem?_eq_getElem (by rw [hL, ← hvl]; exact hi)⟩
    obtain ⟨k, n, s, x, ks', vs', A, c, hv, hti, hyb, hc⟩ := h i t ht (by omega)
    have ey : (skS sl)[i]'(hk ▸ hi) = t.key := by
      have : (skS sl)[i]? = some t.key := by simp [skS, ht]
      rw [List.getElem?_eq_getElem (hk ▸ hi)] at this
      exact Option.some.inj this
    have et : (svS sl)[i] = t.val := by
      have : (svS sl)[i]? = some t.val := by simp [svS, ht]
      rw [List.getElem?_eq_getElem hi] at this
      exact Option.some.inj this
    have at_ : ∀ q, q < 8 → w.cell? ((⟨G, 0, none⟩ : Addr).add (8 * i + q)) = (eV t.key k n s x A vs'.length c).cells[q]? := fun q hq => by
      rw [Addr.add_lit, Nat.zero_add, cell_of_row w G _ arr IE _ hg, ← hc q hq, Nat.mul_comm]
    rw [ey, et]
    refine ⟨_, ⟨at_ 0 (by omega), at_ 1 (by omega), at_ 2 (by omega), hyb⟩, rfl, fun j hj => ?_, hti.stays (fun b hb => ⟨Nat.zero_le _, hb.2⟩) (fun b _ _ => rfl)⟩
    rw [at_ (3 + j) (by omega)]
    match j, hj with
    | 0, _ => rfl
    | 1, _ => rfl
    | 2, _ => rfl
    | 3, _ => rfl
    | 4, _ => rfl
  have pick : ∃ C : Nat → Array Value, ∀ i (hi : i < (svS sl).length), KyAt w ⟨G, 0, none⟩ i ((skS sl)[i]'(hk ▸ hi)) ∧ (C i).size = 5 ∧ (∀ j, j < 5 → w.cell? ((⟨G, 0, none⟩ : Addr).add (8 * i + (3 + j))) = (C i)[j]?) ∧ TIn w (Nw 0 w) ((svS sl)[i]) (.agg (C i)) :=
    ⟨fun i => if hi : i < (svS sl).length then (each i hi).choose else #[], fun i hi => by simp only [dif_pos hi]; exact (each i hi).choose_spec⟩
  obtain ⟨C, hC⟩ := pick
  exact ⟨hk, by rw [hvl]; exact hm, C, fun i hi => ⟨_, rfl, ⟨Nat.zero_le _, arr, IE, hg⟩, (hC i hi).1, (hC i hi).2.1, (hC i hi).2.2.1⟩, fun i hi => (hC i hi).2.2.2⟩
theorem LaidC.step {w w1 w2 : World} {G L j : Nat} {sl : List Sl} (h : LaidC w G L j sl) (hb : Below w.heap.size w w1) {t : Sl} {k n x : Int} {s : ByteArray} {ks' : List Ky} {vs' : List Tr} {A : Option Addr} {c : Nat}
    (ht : sl[j]? = some t) (hv : t.val = .mk k n s x ks' vs') (hti : TIn w1 (fun b => b < G ∧ Plain w1 b) t.val (vV k n s x A vs'.length c)) (hyb : I64 t.key.num ∧ t.key.str.size ≤ maxLen) (hj : j < L)
    (hg : ∀ arr, w1.heap[G]? = some (.cells arr IE (0, 0)) → w2.heap[G]? = some (.cells (set8 arr (j * 8) (.bool t.key.text) (.int .i64 t.key.num) (.string t.key.str) (.int .i64 k) (.int .i64 n) (.string s) (.int .i64 x) (.slice A vs'.length c)) IE (0, 0)))
    (ho : ∀ b, b ≠ G → w2.heap[b]? = w1.heap[b]?) : LaidC w2 G L (j + 1) sl := by
  obtain ⟨arr, hg0, hs, h⟩ := h
  have glt : G < w.heap.size := (Array.getElem?_eq_some_iff.1 hg0).1
  have hg1 := hg arr ((hb.block _ glt).trans hg0)
  refine ⟨_, hg1, by rw [set8_size]; exact hs, fun i t' ht' hi => ?_⟩
  rcases Nat.lt_or_ge i j with hlt | hge
  · obtain ⟨k', n', s', x', ks2, vs2, A', c', hv', hT', hy', hc'⟩ := h i t' ht' hlt
    refine ⟨k', n', s', x', ks2, vs2, A', c', hv', hT'.stays (fun b hb' => ⟨hb'.1, hb'.2.same ((ho b (by have := hb'.1; omega)).trans (hb.block b (by have := hb'.1; omega)))⟩) (fun b hb' hl => (ho b (by have := hb'.1; omega)).trans (hb.block b hl)), hy', fun q hq => ?_⟩
    rw [set8_out _ _ _ _ _ _ _ _ _ _ _ (by omega)]
    exact hc' q hq
  · obtain rfl : i = j := by omega
    rw [ht] at ht'
    obtain rfl := Option.some.inj ht'
    refine ⟨k, n, s, x, ks', vs', A, c, hv, hti.stays (fun b hb' => ⟨hb'.1, hb'.2.same (ho b (by have := hb'.1; omega))⟩) (fun b hb' _ => ho b (by have := hb'.1; omega)), hyb, fun q hq => ?_⟩
    rw [set8_in _ _ _ _ _ _ _ _ _ _ (by rw [hs]; omega) q hq]
    match q, hq with
    | 0, _ => rfl
    | 1, _ => rfl
    | 2, _ => rfl
    | 3, _ => rfl
    | 4, _ => rfl
    | 5, _ => rfl
    | 6, _ => rfl
    | 7, _ => rfl

/-- A slot's ten cells in a row. -/
def At10r (arr : Array Value) (i : Nat) (y : Ky) (k n : Int) (s : ByteArray) (x : Int) (A : Option Addr) (L c : Nat) (b : Bool) (l : Int) : Prop := ∀ q, q < 10 → arr[i * 10 + q]? = (#[.bool y.text, .int .i64 y.num, .string y.str, .int .i64 k, .int .i64 n, .string s, .int .i64 x, .slice A L c, .bool b, .int .i64 l] : Array Value)[q]?
/-- The slots of block g; those among the first j have lists of their own, which hang at block R. -/
def LaidP (w : World) (par : Nat → Nat × Nat) (R g L j : Nat) (sl : List Sl) : Prop :=
  ∃ arr, w.heap[g]? = some (.cells arr IS (0, 0)) ∧ arr.size = L * 10 ∧ ∀ (i : Nat) t, sl[i]? = some t → (I64 t.key.num ∧ t.key.str.size ≤ maxLen) ∧ I64 t.link ∧ arr[i * 10 + 8]? = some (.bool t.live) ∧ arr[i * 10 + 9]? = some (.int .i64 t.link) ∧
    (i < j → ∃ k n s x ks vs A c, t.val = .mk k n s x ks vs ∧ TPar w par (R, i) t.val (vV k n s x A vs.length c) ∧ At10r arr i t.key k n s x A vs.length c t.live t.link)
/-- A table of the call's own: its heads, its slots, and the lists of its values lie apart. -/
structure OwnT (w : World) (par : Nat → Nat × Nat) (R lo : Nat) (l : List Int) (sl : List Sl) (A : Option Addr) (n c : Nat) (B : Option Addr) (m d : Nat) : Prop where
  heads : imem.OwnI w lo A n c l
  low : ∀ h, (Value.slice A n c).ownBlock = some h → h ≤ R
  len : sl.length = m
  cap : m ≤ d ∧ d ≤ maxLen
  nod : B = none → d = 0
  slots : (B = none ∧ m = 0) ∨ ∃ g, B = some ⟨g, 0, none⟩ ∧ lo ≤ g ∧ g ≤ R ∧ (m ≤ d ∧ d ≤ maxLen) ∧ (∀ h, (Value.slice A n c).ownBlock = some h → h ≠ g) ∧ LaidP w par R g d m sl

end Go.Proofs.YtdgfpfkhcojgaaaGreatDoor.tree

/-
  The laws' marks, put into a value whose lists lie each in a block of its own, whichever block is the older one.
  Conditions: those that each theorem names.
-/
namespace Go.Proofs.YtdgfpfkhcojgaaaGreatDoor.tree
open Go.ChangeShapes Go.WideShapes Go.ChangeAt Go.RowKit
set_option linter.unusedVariables false

section
variable {w w' : World} {rk : Nat → Nat} {par : Nat → Nat × Nat} {here : Nat × Nat}
theorem PBlkR.step {wr w4 : World} {g j : Nat} {m q : Int} {ks : List Ky} {vs : List Tr} (h : PBlkR wr rk par g (mix (mkK m vs) ks j) (mix (mkV m vs) vs j)) (hkl : ks.length = vs.length) {k1 n1 x1 : Int} {s1 : ByteArray} {ks1 : List Ky} {vs1 : List Tr} (ht : vs[j]? = some (.mk k1 n1 s1 x1 ks1 vs1))
    (hq : q = m + 7 * cnts (vs.take j)) (hq0 : 1 ≤ q) (hq1 : q ≤ 1000000000000) {A1 : Option Addr} {c1 : Nat}
    (hg : ∀ arr, wr.heap[g]? = some (.cells arr IE (0, 0)) → arr[j * 8 + 7]? = some (.slice A1 vs1.length c1) ∧ w4.heap[g]? = some (.cells (set7 arr (j * 8) (.bool (decide (q % 3 = 0))) (.int .i64 (q + 1)) (.string (mtx (q + 2))) (.int .i64 (q + 3)) (.int .i64 (q + 4)) (.string (mtx (q + 5))) (.int .i64 (q + 6))) IE (0, 0)))
    (ho : ∀ b, b ≠ g → b < wr.heap.size → ¬ HangR rk par (g, j) b → w4.heap[b]? = wr.heap[b]?)
    (htp : TRk w4 rk par (g, j) (.mk (q + 3) (q + 4) (mtx (q + 5)) (q + 6) (mkK (q + 7) vs1) (mkV (q + 7) vs1)) (vV (q + 3) (q + 4) (mtx (q + 5)) (q + 6) A1 vs1.length c1)) :
    PBlkR w4 rk par g (mix (mkK m vs) ks (j + 1)) (mix (mkV m vs) vs (j + 1)) := by
  obtain ⟨hj, -⟩ := List.getElem?_eq_some_iff.1 ht
  obtain ⟨arr, ha, hs, hi⟩ := h
  obtain ⟨hsl, hg4⟩ := hg arr ha
  have hl1 : (mkV m vs).length = vs.length := mkV_len m vs
  have hl2 : (mkK m vs).length = ks.length := by rw [mkK_len, hkl]
  rw [mix_len hl1] at hs hi
  refine ⟨_, hg4, by rw [mix_len hl1, set7_size]; exact hs, fun i hil => ?_⟩
  rw [mix_len hl1] at hil
  by_cases e : i = j
  · subst e
    have hy : (mix (mkK m vs) ks (i + 1))[i]? = some (mkY q) := by rw [mix_lt hl2 (by omega) (by omega), mkK_get m vs i _ ht, hq]
    have hv : (mix (mkV m vs) vs (i + 1))[i]? = some (.mk (q + 3) (q + 4) (mtx (q + 5)) (q + 6) (mkK (q + 7) vs1) (mkV (q + 7) vs1)) := by rw [mix_lt hl1 (by omega) (by omega), mkV_get m vs i _ ht, ← hq, mkT_mk]
    refine ⟨mkY q, _, _, _, _, _, _, A1, c1, hy, hv, ⟨by show I64 (q + 1); unfold I64; omega, by show (mtx (q + 2)).size ≤ maxLen; have := mtx_size (q + 2); unfold maxLen; omega⟩, fun p hp => ?_, by rw [mkV_len]; exact htp⟩
    by_cases hp7 : p < 7
    · rw [set7_in _ _ _ _ _ _ _ _ _ (by omega) p hp7]
      match p, hp7 with
      | 0, _ => rfl
      | 1, _ => rfl
      | 2, _ => rfl
      | 3, _ => rfl
      | 4, _ => rfl
      | 5, _ => rfl
      | 6, _ => rfl
    · obtain rfl : p = 7 := by omega
      rw [set7_out _ _ _ _ _ _ _ _ _ _ (by omega), hsl, mkV_len]
      rfl
  · obtain ⟨y, k, n, s, x, ks', vs', A, c, hy, hv, hyb, hat, hT⟩ := hi i hil
    have same : (mix (mkK m vs) ks (j + 1))[i]? = (mix (mkK m vs) ks j)[i]? ∧ (mix (mkV m vs) vs (j + 1))[i]? = (mix (mkV m vs) vs j)[i]? := by
      by_cases hlt : i < j
      · rw [mix_lt hl2 (by omega) (by omega), mix_lt hl2 hlt (by omega), mix_lt hl1 (by omega) (by omega), mix_lt hl1 hlt (by omega)]
        exact ⟨rfl, rfl⟩
      · rw [mix_ge hl2 (by omega) (by omega), mix_ge hl2 (by omega) (by omega), mix_ge hl1 (by omega) (by omega), mix_ge hl1 (by omega) (by omega)]
        exact ⟨rfl, rfl⟩
    refine ⟨y, k, n, s, x, ks', vs', A, c, by rw [same.1, hy], by rw [same.2, hv], hyb, fun p hp => ?_, hT.keep fun b hb hlt => ho b (fun e => by have := hb.gt; rw [e] at this; exact Nat.lt_irrefl _ this) hlt fun hh => e (hb.disj hh)⟩
    rw [set7_out _ _ _ _ _ _ _ _ _ _ (by omega)]
    exact hat p hp
end

def MkQR (w : World) (rk : Nat → Nat) (par : Nat → Nat × Nat) (here : Nat × Nat) (t : Tr) (v : Value) (m : Int) (e : Ending) (w' : World) : Prop := e = .returned (.int .i64 m) ∧ TRk w' rk par here t v ∧ Fr (HangR rk par here) w w'
def MaSR (t : Tr) : Prop := ∀ (k0 n0 : Int) (s0 : ByteArray) (x0 : Int) (ks0 : List Ky) (vs : List Tr), t = .mk k0 n0 s0 x0 ks0 vs → ∀ (k n : Int) (s : ByteArray) (x : Int) (ks : List Ky) (m : Int), 1 ≤ m → m + 7 * cnts vs ≤ 100000000000 → ∀ (w : World) (rk : Nat → Nat) (par : Nat → Nat × Nat) (here : Nat × Nat) (A : Option Addr) (c : Nat), TRk w rk par here (.mk k n s x ks vs) (vV k n s x A vs.length c) →
  Calls Tryz.prog 85 #[.slice A vs.length c, .int .i64 m] w (MkQR w rk par here (.mk k n s x (mkK m vs) (mkV m vs)) (vV k n s x A vs.length c) (m + 7 * cnts vs))

set_option maxHeartbeats 2000000 in
set_option maxRecDepth 100000 in
theorem markItemsR : ∀ t, MaSR t := Tr.ind fun k0 n0 s0 x0 ks0 vs ih => by
  intro k0' n0' s0' x0' ks0' vs' he
  obtain ⟨-, -, -, -, -, rfl⟩ : k0 = k0' ∧ n0 = n0' ∧ s0 = s0' ∧ x0 = x0' ∧ ks0 = ks0' ∧ vs = vs' := by simpa using he
  clear he
  intro k n s x ks m hm0 hm1 w rk par here A c h
  obtain ⟨A', c', e', hk, hkl, hcap, hblk⟩ := h.out
  simp only [vV, Value.agg.injEq, Array.mk.injEq, List.cons.injEq, Value.slice.injEq, and_true, true_and] at e'
  obtain ⟨rfl, rfl⟩ := e'
  have HK := Lib.hid hk
  have HKL := Lib.hid hkl
  have HCAP := Lib.hid hcap
  obtain ⟨L, HL⟩ : ∃ L, Hid (L = vs.length) := ⟨_, Lib.hid rfl⟩
  have hm : L ≤ maxLen := by rw [HL.out]; omega
  unfold maxLen at hm
  have HM1 := Lib.hid hm1
  obtain ⟨W, HW⟩ : ∃ W : Int, Hid (m + 7 * cnts vs = W) := ⟨_, Lib.hid rfl⟩
  clear hm1 hk hkl hcap h
  by_cases hz : L = 0
  · obtain rfl : vs = [] := List.length_eq_zero_iff.1 (by rw [← HL.out]; exact hz)
    clear hblk
    have e0 : m + 7 * (cnts [] : Int) = m := by rw [cnts_nil]; simp
    rw [e0]
    go_enter Tryz.func85, Tryz.ntmps85
    go_wp2
    go_loopg [1, 5] 1 (fun gk l i wr => l = .int .i64 m ∧ i = .int .i64 0 ∧ gk = 1 ∧ w = wr)
    case atStart => exact ⟨rfl, rfl, rfl, rfl⟩
    case round =>
      obtain ⟨rfl, rfl, rfl, rfl⟩ := hrel
      go_wp2
      go_ret
      exact ⟨rfl, TRk.of HK.out (by simp [mkK, mkV]) (by rw [mkV]; exact HCAP.out) (fun h => by simp [mkV] at h), Fr.refl _ _⟩
  · obtain ⟨g, rfl, hpar, hlt0, hb⟩ := hblk (by rw [← HL.out]; omega)
    rw [HW.out, ← HL.out]
    have hb0 : PBlkR w rk par g (mix (mkK m vs) ks 0) (mix (mkV m vs) vs 0) := by rw [mix_zero, mix_zero]; exact hb
    have HB0 := Lib.hid hb0
    have HP := Lib.hid hpar
    have HLT := Lib.hid hlt0
    clear hblk hb hb0 hpar hlt0
    go_enter Tryz.func85, Tryz.ntmps85
    go_wp2_with (fail)
    go_loopg [1, 5] (L + 1) (fun gk l i wr => ∃ (j : Nat) (q : Int), i = .int .i64 j ∧ l = .int .i64 q ∧ gk + j = L + 1 ∧ j ≤ L ∧ 1 ≤ q ∧ q ≤ 100000000000 ∧ Hid (q = m + 7 * cnts (vs.take j)) ∧ Hid (PBlkR wr rk par g (mix (mkK m vs) ks j) (mix (mkV m vs) vs j)) ∧ Fr (HangR rk par here) w wr)
    case atStart => exact ⟨0, m, rfl, rfl, by omega, by omega, hm0, by have := HM1.out; omega, Lib.hid (by simp [cnts_nil]), HB0, Fr.refl _ _⟩
    case round =>
      obtain ⟨j, q, rfl, rfl, hgj, hjL, hq0, hq1, HQ, HBL, hfr⟩ := hrel
      have HFR := Lib.hid hfr
      clear hfr
      by_cases hlt : j < L
      · obtain ⟨t, ht⟩ : ∃ t, vs[j]? = some t := ⟨_, List.getElem?_eq_getElem (by rw [← HL.out]; exact hlt)⟩
        obtain ⟨arr, ha, hs, hi⟩ := HBL.out
        rw [mix_len (mkV_len m vs)] at hs hi
        obtain ⟨y, k1, n1, s1, x1, ks1, vs1, A1, c1, hy, hv, hyb, hat, htp⟩ := hi j (by rw [← HL.out]; exact hlt)
        rw [mix_ge (mkV_len m vs) (Nat.le_refl _) (by rw [mkV_len, ← HL.out]; exact hjL), ht] at hv
        obtain rfl := Option.some.inj hv
        have hcl := cnts_lt ht
        rw [cnt_mk'] at hcl
        have hq7 : q + 7 + 7 * cnts vs1 ≤ 100000000000 := by have h1 := HQ.out; have h2 := HM1.out; omega
        obtain ⟨Q, HQ2⟩ : ∃ Q : Int, Hid (q + 7 + 7 * cnts vs1 = Q) := ⟨_, Lib.hid rfl⟩
        obtain ⟨L1, HL1⟩ : ∃ L1, Hid (L1 = vs1.length) := ⟨_, Lib.hid rfl⟩
        rw [HQ2.out] at hq7
        have hQ0 : 1 ≤ Q := by rw [← HQ2.out]; omega
        have ihj : ∀ z, z = q + 7 → ∀ w', TRk w' rk par (g, j) (.mk (q + 3) (q + 4) (mtx (q + 5)) (q + 6) ks1 vs1) (vV (q + 3) (q + 4) (mtx (q + 5)) (q + 6) A1 vs1.length c1) → Calls Tryz.prog 85 #[.slice A1 L1 c1, .int .i64 z] w' (MkQR w' rk par (g, j) (.mk (q + 3) (q + 4) (mtx (q + 5)) (q + 6) (mkK (q + 7) vs1) (mkV (q + 7) vs1)) (vV (q + 3) (q + 4) (mtx (q + 5)) (q + 6) A1 vs1.length c1) Q) := fun z hz w' hw' => by
          subst hz
          have := ih _ (List.mem_of_getElem? ht) k1 n1 s1 x1 ks1 vs1 rfl (q + 3) (q + 4) (mtx (q + 5)) (q + 6) ks1 (q + 7) (by omega) (by rw [HQ2.out]; exact hq7) w' rk par (g, j) A1 c1 hw'
          rw [HQ2.out] at this
          rw [HL1.out]
          exact this
        have HQ3 : Hid (Q = m + 7 * cnts (vs.take (j + 1))) := Lib.hid (by rw [cnts_take ht, cnt_mk', ← HQ2.out, HQ.out]; push_cast; omega)
        have MT2 := markText (q + 2) (by omega) (by omega)
        have MT5 := markText (q + 5) (by omega) (by omega)
        have z2 := mtx_size (q + 2)
        have z5 := mtx_size (q + 5)
        obtain ⟨u2, HU2⟩ : ∃ u, Hid (mtx (q + 2) = u) := ⟨_, Lib.hid rfl⟩
        obtain ⟨u5, HU5⟩ : ∃ u, Hid (mtx (q + 5) = u) := ⟨_, Lib.hid rfl⟩
        unfold MtQ at MT2 MT5
        rw [HU2.out] at MT2 z2
        rw [HU5.out] at MT5 z5
        rw [show q + 2 = q + 1 + 1 by omega] at MT2
        rw [show q + 5 = q + 1 + 1 + 1 + 1 + 1 by omega] at MT5
        have IHJ := Lib.hid ihj
        have HTP := Lib.hid htp
        have HAT := Lib.hid hat
        have HA := Lib.hid ha
        obtain ⟨B, HBX⟩ : ∃ B, Hid (arr = B) := ⟨_, Lib.hid rfl⟩
        rw [HBX.out] at ha
        have hs2 : (j + 1) * 8 ≤ B.size := by rw [← HBX.out]; have := HL.out; omega
        obtain ⟨r, f⟩ := rowc ha
        have hgl : g < wr.heap.size := (Array.getElem?_eq_some_iff.1 ha).1
        have z : ∀ q, q < 8 → ∃ u, wr.cell? ⟨g, j * 8 + q, none⟩ = some u := fun q hq => ⟨_, (r _).trans (Array.getElem?_eq_getElem (by omega))⟩
        obtain ⟨w0, y0⟩ := z 0 (by omega)
        obtain ⟨w1', y1⟩ := z 1 (by omega)
        rw [Nat.add_zero] at y0
        have HA2 := Lib.hid ha
        have HTT := Lib.hid ht
        clear ihj htp hat ha hi hs hy hyb z r hcl ht hv
        have hB7 : B[j * 8 + 7]? = some (.slice A1 L1 c1) := by rw [← HBX.out, HL1.out]; exact HAT.out 7 (by omega)
        have HB7 := Lib.hid hB7
        have hroot : HangR rk par here g := .root g HP.out HLT.out
        have HR := Lib.hid hroot
        have HB0 := Lib.hid hB7
        clear hB7 hroot
        go_wp2_with (fail)
        refine (MT2 _).mono ?_
        rintro e w1 ⟨rfl, hb1⟩
        have hg1 := (hb1.block g (by rw [set_size, set_size]; exact hgl)).trans (set_heap (set_heap HA2.out (j * 8) (.bool (q % 3 == 0))) (j * 8 + 1) (.int .i64 (q + 1)))
        have hgl1 : g < w1.heap.size := (Array.getElem?_eq_some_iff.1 hg1).1
        obtain ⟨r1, f1⟩ := rowc hg1
        have z1 : ∀ p, p < 8 → ∃ u, w1.cell? ⟨g, j * 8 + p, none⟩ = some u := fun p hp => ⟨_, (r1 _).trans (Array.getElem?_eq_getElem (by simp; omega))⟩
        obtain ⟨_, y2⟩ := z1 2 (by omega)
        obtain ⟨_, y3⟩ := z1 3 (by omega)
        obtain ⟨_, y4⟩ := z1 4 (by omega)
        have HG1 := Lib.hid hg1
        have HX1 : Hid (∀ b, b ≠ g → b < wr.heap.size → w1.heap[b]? = wr.heap[b]?) := Lib.hid fun b hb hlt => (hb1.block b (by rw [set_size, set_size]; exact hlt)).trans ((set_other (by omega)).trans (set_other (by omega)))
        have HF1 : Hid (Fr (HangR rk par here) wr w1) := Lib.hid (((Fr.set HR.out _ _).trans (Fr.set HR.out _ _)).trans (Fr.of hb1))
        have HZ1 : Hid (wr.heap.size ≤ w1.heap.size) := Lib.hid (by have := hb1.size; rwa [set_size, set_size] at this)
        clear f y0 y1 hb1 r1 z1 hg1
        go_wp2_with (fail)
        refine (MT5 _).mono ?_
        rintro e w2 ⟨rfl, hb2⟩
        have hg2 := (hb2.block g (by rw [set_size, set_size, set_size]; exact hgl1)).trans (set_heap (set_heap (set_heap HG1.out (j * 8 + 2) (.string u2)) (j * 8 + 3) (.int .i64 (q + 1 + 1 + 1))) (j * 8 + 4) (.int .i64 (q + 1 + 1 + 1 + 1)))
        have hgl2 : g < w2.heap.size := (Array.getElem?_eq_some_iff.1 hg2).1
        obtain ⟨r2, f2⟩ := rowc hg2
        have z2 : ∀ p, p < 8 → ∃ u, w2.cell? ⟨g, j * 8 + p, none⟩ = some u := fun p hp => ⟨_, (r2 _).trans (Array.getElem?_eq_getElem (by simp; omega))⟩
        obtain ⟨_, y5⟩ := z2 5 (by omega)
        obtain ⟨_, y6⟩ := z2 6 (by omega)
        have y7 : w2.cell? ⟨g, j * 8 + 7, none⟩ = some (.slice A1 L1 c1) := by
          rw [r2]
          iterate 5 rw [Array.getElem?_setIfInBounds_ne (by omega)]
          exact HB7.out
        have HG2 := Lib.hid hg2
        have HX2 : Hid (∀ b, b ≠ g → b < wr.heap.size → w2.heap[b]? = wr.heap[b]?) := Lib.hid fun b hb hlt => (hb2.block b (by rw [set_size, set_size, set_size]; exact Nat.lt_of_lt_of_le hlt HZ1.out)).trans ((set_other (by omega)).trans ((set_other (by omega)).trans ((set_other (by omega)).trans (HX1.out b hb hlt))))
        have HF2 : Hid (Fr (HangR rk par here) wr w2) := Lib.hid (HF1.out.trans ((((Fr.set HR.out _ _).trans (Fr.set HR.out _ _)).trans (Fr.set HR.out _ _)).trans (Fr.of hb2)))
        clear f1 y2 y3 y4 hb2 r2 z2 hg2
        go_wp2_with (fail)
        refine (IHJ.out _ (by omega) _ ?_).mono ?_
        · refine (HTP.out.keep fun b hb hlt => have hne : b ≠ g := fun e => by { have := hb.gt; rw [e] at this; exact Nat.lt_irrefl _ this }; (set_other (by omega)).trans ((set_other (by omega)).trans (HX2.out b hne hlt))).head ⟨by unfold I64; omega, by unfold I64; omega, by unfold I64; omega, by have := mtx_size (q + 5); unfold maxLen; omega⟩
        rintro e w4 ⟨rfl, ht4, hf4⟩
        have hg4 := (hf4.block g (by rw [set_size, set_size]; exact hgl2) (fun hh => by have := hh.gt; simp at this)).trans (set_heap (set_heap HG2.out (j * 8 + 5) (.string u5)) (j * 8 + 6) (.int .i64 (q + 1 + 1 + 1 + 1 + 1 + 1)))
        have HG4 := Lib.hid hg4
        have HT4 := Lib.hid ht4
        have HF4 := Lib.hid hf4
        clear f2 y5 y6 y7 ht4 hf4 hg4
        go_wp2_with (fail)
        go_roundg (L - j)
        case rel =>
          refine ⟨j + 1, Q, by go_num, rfl, by omega, by omega, hQ0, hq7, HQ3, Lib.hid (HBL.out.step HKL.out HTT.out HQ.out hq0 (by omega) (A1 := A1) (c1 := c1) (fun arr' ha' => ?_) (fun b hb hlt hn => ?_) HT4.out), HFR.out.trans (HF2.out.trans ((((Fr.set HR.out _ _).trans (Fr.set HR.out _ _))).trans (HF4.out.mono fun b hb => hb.sub HP.out HLT.out)))⟩
          · rw [HA2.out] at ha'
            obtain rfl : B = arr' := by injection ha' with ha'; injection ha'
            refine ⟨by rw [HB7.out, HL1.out], HG4.out.trans ?_⟩
            unfold set7
            have e0 : (q % 3 == 0) = decide (q % 3 = 0) := by rw [Bool.eq_iff_iff]; simp
            rw [HU2.out, HU5.out, e0, show q + 1 + 1 + 1 + 1 + 1 + 1 = q + 6 by omega, show q + 1 + 1 + 1 + 1 = q + 4 by omega, show q + 1 + 1 + 1 = q + 3 by omega]
          · exact (HF4.out.block b (by rw [set_size, set_size]; exact Nat.lt_of_lt_of_le hlt HF2.out.size) hn).trans ((set_other (by omega)).trans ((set_other (by omega)).trans (HX2.out b hb hlt)))
        case measure => omega
      · obtain rfl : j = L := by omega
        have e : q = W := by rw [HQ.out, ← HW.out, HL.out, List.take_length]
        subst e
        go_wp2_with (fail)
        go_ret
        refine ⟨rfl, ?_, HFR.out⟩
        have := HBL.out
        rw [show mix (mkV m vs) vs j = mkV m vs by rw [HL.out]; exact mix_all (mkV_len m vs), show mix (mkK m vs) ks j = mkK m vs by rw [HL.out, ← HKL.out]; exact mix_all (by rw [mkK_len, HKL.out])] at this
        have e2 : j = (mkV m vs).length := by rw [mkV_len, HL.out]
        rw [e2]
        exact TRk.of HK.out (by rw [mkK_len, mkV_len]) (by rw [mkV_len]; exact HCAP.out) (fun _ => ⟨g, rfl, HP.out, HLT.out, this⟩)

/-- Marks on a value whose lists lie apart. -/
theorem markSepR (t : Tr) (v : Value) (m : Int) (hm0 : 1 ≤ m) (hm1 : m + 7 * itm t ≤ 100000000000) (w : World) (rk : Nat → Nat) (par : Nat → Nat × Nat) (R i lo hi : Nat) (h : TRk w rk par (R, i) t v) (hr : ∀ b, HangR rk par (R, i) b → Rg lo hi b) :
    Calls Tryz.prog 34 #[v, .int .i64 m] w (fun e w' => e = .returned (.int .i64 (m + 7 * itm t)) ∧ TRk w' rk par (R, i) (mkI m t) v ∧ Fr (Rg lo hi) w w') := by
  obtain ⟨k, n, s, x, ks, vs⟩ := t
  obtain ⟨A, c, rfl, hk, hl, hcap, hblk⟩ := h.out
  rw [itm] at hm1 ⊢
  rw [mkI]
  have M := markItemsR (.mk k n s x ks vs) k n s x ks vs rfl k n s x ks m hm0 hm1
  obtain ⟨L, HL⟩ : ∃ L, Hid (L = vs.length) := ⟨_, Lib.hid rfl⟩
  obtain ⟨Q, HQ⟩ : ∃ Q : Int, Hid (m + 7 * cnts vs = Q) := ⟨_, Lib.hid rfl⟩
  rw [HQ.out] at M ⊢
  have HH := Lib.hid h
  have HR := Lib.hid hr
  have HM := Lib.hid M
  rw [← HL.out]
  clear h hr M hblk hl hcap hk
  go_enter Tryz.func34, Tryz.ntmps34
  go_wp2_with (fail)
  have M2 := HM.out _ rk par (R, i) A c (HH.out.keep (w' := w.alloc (.cells #[.int .i64 k, .int .i64 n, .string s, .int .i64 x, .slice A vs.length c] IV)) fun b _ hb => (b1 w _).block b hb)
  rw [← HL.out] at M2
  refine M2.mono ?_
  rintro e w1 ⟨rfl, ht1, hf1⟩
  have HT1 := Lib.hid ht1
  have HF1 := Lib.hid hf1
  clear ht1 hf1 M2
  go_wp2_with (fail)
  go_ret
  exact ⟨rfl, HT1.out, (Fr.of (b1 w _)).trans (HF1.out.mono HR.out)⟩

end Go.Proofs.YtdgfpfkhcojgaaaGreatDoor.tree

/-
  A table copied by the model.
  Conditions: those that each theorem names.
-/
namespace Go.Proofs.YtdgfpfkhcojgaaaGreatDoor.tree
open Go.ChangeShapes Go.WideShapes Go.ChangeAt Go.RowKit
set_option linter.unusedVariables false

theorem ten_one (b : Bool) (n : Int) (s : ByteArray) (k m : Int) (z : ByteArray) (x : Int) (A : Option Addr) (L c : Nat) (b2 : Bool) (q : Int) : ∀ u ∈ [Value.bool b, .int .i64 n, .string s, .int .i64 k, .int .i64 m, .string z, .int .i64 x, .slice A L c, .bool b2, .int .i64 q], u.oneCell' = true := by simp [Value.oneCell']
theorem ten_new (w : World) (c0 c1 c2 c3 c4 c5 c6 c7 c8 c9 : Value) (t : TypeId) : ∀ j u, [c0, c1, c2, c3, c4, c5, c6, c7, c8, c9][j]? = some u → (w.alloc (.cells #[c0, c1, c2, c3, c4, c5, c6, c7, c8, c9] t)).cell? ((⟨w.heap.size, 0, none⟩ : Addr).add j) = some u := by
  intro j u hj
  rw [Addr.add_lit, Nat.zero_add, cell_of_row _ _ j _ t _ (heap_alloc_new w _)]
  simpa using hj
theorem fill10 {w wF : World} {R : Nat} {t : TypeId} {a0 a1 a2 a3 a4 a5 a6 a7 a8 a9 c0 c1 c2 c3 c4 : Value} (h : w.heap[R]? = some (.cells #[a0, a1, a2, a3, a4, a5, a6, a7, a8, a9] t (0, 0)))
    (hF : (((((w.setCell ⟨R, 3, none⟩ c0).setCell ⟨R, 4, none⟩ c1).setCell ⟨R, 5, none⟩ c2).setCell ⟨R, 6, none⟩ c3).setCell ⟨R, 7, none⟩ c4) = wF) :
    wF.heap[R]? = some (.cells #[a0, a1, a2, c0, c1, c2, c3, c4, a8, a9] t (0, 0)) ∧ (∀ q, q ≠ R → wF.heap[q]? = w.heap[q]?) ∧ (∀ (B : Nat) (w0 : World), B ≤ R → Below B w0 w → Below B w0 wF) ∧ wF.heap.size = w.heap.size := by
  subst hF
  refine ⟨?_, fun q hq => ?_, fun B w0 hB hb => ?_, by simp⟩
  · have := set_heap (set_heap (set_heap (set_heap (set_heap h 3 c0) 4 c1) 5 c2) 6 c3) 7 c4
    simpa using this
  · rw [set_other hq, set_other hq, set_other hq, set_other hq, set_other hq]
  · exact ((((hb.setCell hB _).setCell hB _).setCell hB _).setCell hB _).setCell hB _
theorem owni_at {w w' : World} {lo n c : Nat} {A : Option Addr} {l : List Int} (h : imem.OwnI w lo A n c l) (hs : ∀ q, (Value.slice A n c).ownBlock = some q → w'.heap[q]? = w.heap[q]?) : imem.OwnI w' lo A n c l := by
  refine ⟨h.1, h.2.1, ?_⟩
  rcases h.2.2 with h | ⟨g, cap, cur, e, hlo, hg, hr⟩
  · exact .inl h
  · exact .inr ⟨g, cap, cur, e, hlo, (hs g (by rw [e]; rfl)).trans hg, hr⟩

theorem fill5s {w wF : World} {R : Nat} {t : TypeId} {a b c d e c0 c1 c2 c3 c4 : Value} (h : w.heap[R]? = some (.cells #[a, b, c, d, e] t (0, 0)))
    (hF : (((((w.setCell ⟨R, 0, none⟩ c0).setCell ⟨R, 1, none⟩ c1).setCell ⟨R, 2, none⟩ c2).setCell ⟨R, 3, none⟩ c3).setCell ⟨R, 4, none⟩ c4) = wF) :
    (∀ j, wF.cell? ⟨R, j, none⟩ = (#[c0, c1, c2, c3, c4] : Array Value)[j]?) ∧ (∀ q, q ≠ R → wF.heap[q]? = w.heap[q]?) ∧ ∀ (B : Nat) (w0 : World), B ≤ R → Below B w0 w → Below B w0 wF := by
  subst hF
  refine ⟨fun j => ?_, fun q hq => ?_, fun B w0 hB hb => ?_⟩
  · have := set_heap (set_heap (set_heap (set_heap (set_heap h 0 c0) 1 c1) 2 c2) 3 c3) 4 c4
    rw [cell_of_row _ _ j _ _ _ this]
    simp
  · rw [set_other hq, set_other hq, set_other hq, set_other hq, set_other hq]
  · exact ((((hb.setCell hB _).setCell hB _).setCell hB _).setCell hB _).setCell hB _
theorem SRowX.below {w w' : World} {lo : Nat} {v : Value} {xs : List Value} {sl : List Sl} (h : SRowX w lo v xs sl) (hb : Below w.heap.size w w') : SRowX w' lo v xs sl := by
  obtain ⟨h1, h3⟩ := h
  refine ⟨World.ownsRow.kept h1 (mem.none_of_below hb) ownBlock_keep, fun i t ht => ?_⟩
  obtain ⟨k, n, s, x, ks, vs, A, c, a1, a2, a3, a4, a5⟩ := h3 i t ht
  exact ⟨k, n, s, x, ks, vs, A, c, a1, a2, a3, a4, a5.below' hb⟩

/-- A table of the model's own: its heads lie below N, its slots and their lists from N on. -/
def Q7 (w : World) (b : Bool) (l : List Int) (sl : List Sl) (n m : Nat) (x k : Int) (e : Ending) (w' : World) : Prop :=
  ∃ A1 c1 g d1 M N, e = .returned (tbV b A1 n c1 (some ⟨g, 0, none⟩) m d1 x k) ∧ w.heap.size ≤ M ∧ M ≤ N ∧ imem.OwnI w' M A1 n c1 l ∧ (∀ h, (Value.slice A1 n c1).ownBlock = some h → h < N) ∧ SRow w' N (.slice (some ⟨g, 0, none⟩) m d1) sl ∧ Below w.heap.size w w'

set_option maxRecDepth 100000 in
set_option maxHeartbeats 4000000 in
theorem l7Copy_s {l : List Int} {sl : List Sl} {b : Bool} {A : Option Addr} {n c : Nat} {B : Option Addr} {m d : Nat} {x k : Int} (w : World) {S : Nat → Prop} (hr : TbIn w S l sl A n c B m d x k) (hn : n ≤ 1048576) (hm : m ≤ 1000000000) (hct : ∀ t ∈ sl, cnt t.val ≤ 1000000000) :
    Calls Tryz.prog 75 #[tbV b A n c B m d x k] w (Q7 w b l sl n m x k) := by
  obtain ⟨i0, hi, hz⟩ := is_info
  have HII := Lib.hid hi
  have HZZ := Lib.hid hz
  obtain ⟨i1, hi1, hz10, hz11, hz12⟩ := int_info8
  obtain ⟨P, HP⟩ : ∃ P, Hid (w.heap.size = P) := ⟨_, Lib.hid rfl⟩
  have HS := Lib.hid hr.slots
  have HH := Lib.hid hr.heads
  have HC := Lib.hid hct
  have hlen := hr.len
  clear hi hz hr hct
  go_enter Tryz.func75, Tryz.ntmps75
  go_upto_region 2 with fail
  rw [HP.out]
  generalize hw0 : ((w.alloc (.cells #[.bool b, .slice A n c, .slice B m d, .int .i64 x, .int .i64 k] IT)).alloc (.cells #[.bool false, .slice none 0 0, .slice none 0 0, .int .i64 0, .int .i64 0] IT)).alloc (.cells #[.bool b, .slice A n c, .slice B m d, .int .i64 x, .int .i64 k] IT) = w0
  obtain ⟨a0, a1, a2, az, ab⟩ := al3t w _ _ _ _ _ _ w0 hw0
  rw [HP.out] at a0 a1 a2 az
  have HA0 := Lib.hid a0
  have HA1 := Lib.hid a1
  have HA2 := Lib.hid a2
  have HB0 := Lib.hid ab
  have HZ0 := Lib.hid az
  have x1 := (rowc a0).1 1
  have x2 := (rowc a0).1 2
  have y1 := (rowc a2).1 1
  have y2 := (rowc a2).1 2
  simp at x1 x2 y1 y2
  have f2 := (rowc a2).2
  have hz0 : P + 2 < w0.heap.size := by omega
  have x1a : ∀ o, (w0.alloc o).cell? ⟨P, 1, none⟩ = some (.slice A n c) := fun o => (rowc (keepAlloc HA0.out)).1 1
  have HH0 := Lib.hid (HH.out.below ab)
  clear hw0 a0 a1 a2 az ab
  go_wp2_with (at_builtin; refine imem.append_rdi rfl (.tmp 7) (.tmp 9) 24 rfl i1 Tryz.underlying24 hi1 hz10 hz11 hz12 w0.heap.size _ _ _ _ rfl (imem.owni_none w0 _ (Nat.le_refl _)) A n c l rfl (HH0.out.below (b1 w0 _)) (by omega) (by simp) ?_)
  intro A1 c1 w1 ho hb hg
  have HB1 := Lib.hid ((b1 w0 _).trans hb)
  have HO1 : Hid (imem.OwnI w1 w0.heap.size A1 n c1 l) := Lib.hid (by simpa using ho)
  have g2 := rowc (carry HB1.out HA2.out)
  have f2a := g2.2 1
  have f2b := g2.2 2
  clear ho hb hg x1 x2 x1a y1 y2 f2 hi1 hz10 hz11 hz12
  go_upto_region 3 with fail
  obtain ⟨N, HN⟩ : ∃ N, Hid (w1.heap.size = N) := ⟨_, Lib.hid rfl⟩
  generalize hw2 : w1.setCell ⟨P + 1 + 1, 1, none⟩ (.slice A1 n c1) = w2
  have hPN : P + 2 < N := by have := HB1.out.size; rw [← HN.out]; omega
  have HZ2 : Hid (w2.heap.size = N) := Lib.hid (by rw [← hw2, ← HN.out]; simp)
  have HF2 : Hid (∀ q, q ≠ P + 2 → w2.heap[q]? = w1.heap[q]?) := Lib.hid fun q hq => by rw [← hw2]; exact set_other hq
  have HC2 : Hid (w2.heap[P + 2]? = some (.cells #[.bool b, .slice A1 n c1, .slice B m d, .int .i64 x, .int .i64 k] IT (0, 0))) := Lib.hid (by
    rw [← hw2]
    have := set_heap (carry HB1.out HA2.out) 1 (.slice A1 n c1)
    simpa using this)
  have HB2 : Hid (Below w.heap.size w w2) := Lib.hid (by
    rw [← hw2]
    exact (bs HB0.out HB1.out).setCell (show w.heap.size ≤ P + 1 + 1 by rw [HP.out]; omega) _)
  have HNA : Hid (∀ h, (Value.slice A1 n c1).ownBlock = some h → P + 3 ≤ h ∧ h < N) := Lib.hid fun h e => by
    have h1 := HO1.out.block h e
    rw [HN.out, HZ0.out] at h1
    exact h1
  have HO2 : Hid (imem.OwnI w2 w0.heap.size A1 n c1 l) := Lib.hid (owni_at HO1.out fun q e => HF2.out q (by have := HNA.out q e; omega))
  have HD0 : Hid (w2.heap[P]? = some (.cells #[.bool b, .slice A n c, .slice B m d, .int .i64 x, .int .i64 k] IT (0, 0))) := Lib.hid ((HF2.out P (by omega)).trans (carry HB1.out HA0.out))
  have HD1 : Hid (w2.heap[P + 1]? = some (.cells #[.bool false, .slice none 0 0, .slice none 0 0, .int .i64 0, .int .i64 0] IT (0, 0))) := Lib.hid ((HF2.out (P + 1) (by omega)).trans (carry HB1.out HA1.out))
  have f2b : ∀ o, (w2.alloc o).frozen? ⟨P + 1 + 1, 2, none⟩ = false := fun o => (rowc (keepAlloc HC2.out)).2 2
  have c2b : ∀ o, (w2.alloc o).cell? ⟨P + 1 + 1, 2, none⟩ = some (.slice B m d) := fun o => (rowc (keepAlloc HC2.out)).1 2
  clear hw2 g2 f2a
  go_upto_region 4 with fail
  rw [HZ2.out]
  generalize hw3 : (w2.alloc _).setCell _ _ = w3
  have HR3 : Hid (SRow w3 N (.slice (some ⟨N, 0, none⟩) 0 0) []) := Lib.hid (by
    have h1 := SRow.empty w2 N (by rw [HZ2.out]; exact Nat.le_refl _)
    rw [HZ2.out] at h1
    refine h1.above fun q hq _ => ?_
    rw [← hw3]
    exact set_other (by omega))
  have HC3 : Hid (w3.heap[P + 2]? = some (.cells #[.bool b, .slice A1 n c1, .slice (some ⟨N, 0, none⟩) 0 0, .int .i64 x, .int .i64 k] IT (0, 0))) := Lib.hid (by
    rw [← hw3]
    have := set_heap (keepAlloc (o' := .cells #[] IS) HC2.out) 2 (.slice (some ⟨N, 0, none⟩) 0 0)
    simpa using this)
  have HF3 : Hid (∀ q, q < N → q ≠ P + 2 → w3.heap[q]? = w2.heap[q]?) := Lib.hid fun q hq hne => by
    rw [← hw3, set_other hne]
    exact (b1 w2 _).block q (by rw [HZ2.out]; exact hq)
  have HB3 : Hid (Below w.heap.size w w3) := Lib.hid (by
    rw [← hw3]
    exact (bs HB2.out (b1 w2 _)).setCell (show w.heap.size ≤ P + 1 + 1 by rw [HP.out]; omega) _)
  have HO3 : Hid (imem.OwnI w3 (P + 3) A1 n c1 l) := Lib.hid ((owni_at HO2.out fun q e => HF3.out q (HNA.out q e).2 (by have := HNA.out q e; omega)).less (by rw [HZ0.out]; exact Nat.le_refl _))
  have HE0 := Lib.hid ((HF3.out P (by omega) (by omega)).trans HD0.out)
  have HE1 := Lib.hid ((HF3.out (P + 1) (by omega) (by omega)).trans HD1.out)
  have x2 := (rowc HE0.out).1 2
  simp at x2
  clear hw3 f2b c2b HO1 HO2 HB1 HB2 HD0 HD1 HC2 HF2 HF3 HB0 HA0 HA1 HA2 HH0 HH HZ0 HZ2
  go_wp2_with (fail)
  go_loopg [4] (m + 1) (fun gk i wr => ∃ (j : Nat) (g1 : Nat) (d1 : Nat), i = .int .i64 j ∧ gk + j = m + 1 ∧ j ≤ m ∧ Hid (wr.heap[P]? = some (.cells #[.bool b, .slice A n c, .slice B m d, .int .i64 x, .int .i64 k] IT (0, 0))) ∧ Hid (wr.heap[P + 1]? = some (.cells #[.bool false, .slice none 0 0, .slice none 0 0, .int .i64 0, .int .i64 0] IT (0, 0))) ∧
    Hid (wr.heap[P + 2]? = some (.cells #[.bool b, .slice A1 n c1, .slice (some ⟨g1, 0, none⟩) j d1, .int .i64 x, .int .i64 k] IT (0, 0))) ∧ Hid (SRow wr N (.slice (some ⟨g1, 0, none⟩) j d1) (sl.take j)) ∧ Hid (imem.OwnI wr (P + 3) A1 n c1 l) ∧ Hid (Below w.heap.size w wr))
  case atStart => exact ⟨0, _, 0, rfl, by omega, by omega, HE0, HE1, HC3, HR3, HO3, HB3⟩
  case round =>
    clear HE0 HE1 HC3 HR3 HO3 HB3 x2
    obtain ⟨j, g1, d1, rfl, hgj, hjm, H0, H1, H2, HR, HO, HB⟩ := hrel
    have q0 := (rowc H0.out).1 2
    simp at q0
    obtain ⟨hNg, hgw⟩ := HR.out.block g1 rfl
    by_cases hlt : j < m
    · obtain ⟨t, htj⟩ : ∃ t, sl[j]? = some t := ⟨_, List.getElem?_eq_getElem (by omega)⟩
      obtain ⟨a, k1, n1, s1, x1, ks1, vs1, A2, c2, rfl, -, hyb, hlb, hv, hT, hcell⟩ := HS.out j t htj
      have hc10 := hcell.stays (w' := wr) (fun hl => HB.out.block _ hl)
      have hcnt := HC.out t (List.mem_of_getElem? htj)
      have HTK : Hid (sl.take j ++ [t] = sl.take (j + 1)) := Lib.hid (by
        obtain ⟨hj, e⟩ := List.getElem?_eq_some_iff.1 htj
        rw [List.take_succ_eq_append_getElem hj, e])
      have HTL : Hid ((sl.take j).length = j) := Lib.hid (by rw [List.length_take]; omega)
      obtain ⟨⟨yb, yn, ys⟩, tv, tb, tl⟩ := t
      simp only at hyb hlb hv hT hc10 hcnt
      subst hv
      have LC : Hid (∀ w', Below wr.heap.size wr w' → Calls Tryz.prog 61 #[vV k1 n1 s1 x1 A2 vs1.length c2] w' (ToQ w' (.mk k1 n1 s1 x1 ks1 vs1))) := Lib.hid fun w' hb => l5Copy _ hcnt w' S _ (hT.below' (bs HB.out hb))
      have HYB := Lib.hid hyb
      have HLB := Lib.hid hlb
      obtain ⟨L1, HL1⟩ : ∃ L, Hid (vs1.length = L) := ⟨_, Lib.hid rfl⟩
      rw [HL1.out] at hc10 LC
      obtain ⟨p0, p1, p2, p3, p4, p5, p6, p7, p8, p9⟩ := hc10
      simp only at p0 p1 p2 p8 p9
      clear hyb hlb hT hcell htj hcnt
      go_upto_region 8 with fail
      obtain ⟨R, HRR⟩ : ∃ R, Hid (wr.heap.size = R) := ⟨_, Lib.hid rfl⟩
      rw [HRR.out]
      rw [HRR.out] at hgw
      generalize hw1 : wr.alloc (.cells #[.bool yb, .int .i64 yn, .string ys, .int .i64 k1, .int .i64 n1, .string s1, .int .i64 x1, .slice A2 L1 c2, .bool tb, .int .i64 tl] IS) = w5
      have hb1 : Below wr.heap.size wr w5 := hw1 ▸ b1 wr _
      have h10 : w5.heap[R]? = some (.cells #[.bool yb, .int .i64 yn, .string ys, .int .i64 k1, .int .i64 n1, .string s1, .int .i64 x1, .slice A2 L1 c2, .bool tb, .int .i64 tl] IS (0, 0)) := by rw [← hw1, ← HRR.out]; exact heap_alloc_new wr _
      have HZ5 : Hid (w5.heap.size = R + 1) := Lib.hid (by rw [← hw1, ← HRR.out]; simp)
      have HB5 := Lib.hid hb1
      have H10 := Lib.hid h10
      have r10 := (rowc h10).1
      have z3 := r10 3; have z4 := r10 4; have z5 := r10 5; have z6 := r10 6; have z7 := r10 7
      simp at z3 z4 z5 z6 z7
      clear hw1 hb1 h10 r10 q0 p0 p1 p2 p3 p4 p5 p6 p7 p8 p9
      go_wp2_with (fail)
      refine (LC.out _ HB5.out).mono ?_
      rintro e w6 ⟨v1, rfl, hv1, hb6⟩
      obtain ⟨A3, c3, rfl, -, -⟩ := hv1.out
      rw [HL1.out] at hv1 ⊢
      have HV1 := Lib.hid hv1
      have H16 := Lib.hid (carry hb6 H10.out)
      have HB6 := Lib.hid (bs HB5.out hb6)
      have f6 := (rowc H16.out).2
      have r16 := (rowc H16.out).1
      have u3 := r16 3; have u4 := r16 4; have u5 := r16 5; have u6 := r16 6; have u7 := r16 7
      simp at u3 u4 u5 u6 u7
      clear hv1 hb6 z3 z4 z5 z6 z7 r16
      go_upto_region 9 with fail
      generalize hwF : World.setCell (World.setCell (World.setCell (World.setCell (World.setCell w6 _ _) _ _) _ _) _ _) _ _ = wF
      obtain ⟨cF, oF, bF, sF⟩ := fill10 H16.out hwF
      have HBF : Hid (Below wr.heap.size wr wF) := Lib.hid (bF _ _ (by rw [HRR.out]; exact Nat.le_refl _) HB6.out)
      have HCF := Lib.hid cF
      have HTI : Hid (TIn wF (SX N (.slice (some ⟨g1, 0, none⟩) j d1)) (.mk k1 n1 s1 x1 ks1 vs1) (vV k1 n1 s1 x1 A3 vs1.length c3)) := Lib.hid (by
        rw [HL1.out]
        refine HV1.out.stays (S' := SX N (.slice (some ⟨g1, 0, none⟩) j d1)) (fun q hq => ?_) (fun q hq _ => oF q ?_)
        · have hq2 : w5.heap.size ≤ q := hq
          rw [HZ5.out] at hq2
          exact ⟨by omega, fun e => by simp [Value.ownBlock] at e; omega⟩
        · have hq2 : w5.heap.size ≤ q := hq
          rw [HZ5.out] at hq2
          omega)
      have hsF : R + 1 ≤ wF.heap.size := by
        have := (Array.getElem?_eq_some_iff.1 cF).1
        omega
      obtain ⟨xs, hx⟩ := HR.out
      have HX := Lib.hid (hx.below HBF.out)
      have HOW : Hid (∀ o, (wF.alloc o).ownsRow N IS 10 (.slice (some ⟨g1, 0, none⟩) j d1) j xs) := Lib.hid fun o => by
        have := World.ownsRow.alloc HX.out.1 o
        rwa [HTL.out] at this
      have H0F := Lib.hid (carry HBF.out H0.out)
      have H1F := Lib.hid (carry HBF.out H1.out)
      have H2F := Lib.hid (carry HBF.out H2.out)
      have HOF := Lib.hid (HO.out.below HBF.out)
      have HBG := Lib.hid (bs HB.out HBF.out)
      have rF := (rowc HCF.out).1
      have z0 := rF 0; have z1 := rF 1; have z2 := rF 2; have z3 := rF 3; have z4 := rF 4; have z5 := rF 5; have z6 := rF 6; have z7 := rF 7; have z8 := rF 8; have z9 := rF 9
      have e2 := (rowc H2F.out).1 2
      simp at z0 z1 z2 z3 z4 z5 z6 z7 z8 z9 e2
      clear hwF hx cF oF bF sF u3 u4 u5 u6 u7 f6 rF H0 H1 H2 HO HB HBF H16 HB6 HV1 H10 HB5 LC
      go_wp2_with (first
        | (at_builtin; refine wpList_append_own_at _ rfl _ _ 25 rfl N IS i0 _ 10 112 Tryz.underlying25 HII.out HZZ.out.1 HZZ.out.2.1 HZZ.out.2.2 rfl (by decide) _ j xs rfl (HOW.out _) ⟨wF.heap.size, 0, none⟩ 1 1 [.bool yb, .int .i64 yn, .string ys, .int .i64 k1, .int .i64 n1, .string s1, .int .i64 x1, .slice A3 L1 c3, .bool tb, .int .i64 tl] rfl rfl (ten_new wF _ _ _ _ _ _ _ _ _ _ _) (ten_one _ _ _ _ _ _ _ _ _ _ _ _) (by unfold maxLen; omega) (by omega) (by simp; omega) ?_
           intro v' w7 hown hgrow hnil hat
           have hown2 : w7.ownsRow N IS 10 v' ((sl.take j).length + 1) (xs ++ [.bool yb, .int .i64 yn, .string ys, .int .i64 k1, .int .i64 n1, .string s1, .int .i64 x1, .slice A3 vs1.length c3, .bool tb, .int .i64 tl]) := by
             rw [HTL.out, HL1.out]
             exact hown
           have HST : Hid (SRow w7 N v' (sl.take (j + 1))) := Lib.hid (by
             rw [← HTK.out]
             exact (HX.out.below (b1 wF _)).more (t := ⟨⟨yb, yn, ys⟩, .mk k1 n1 s1 x1 ks1 vs1, tb, tl⟩) rfl HYB.out HLB.out (HTI.out.below' (b1 wF _)) hown2 hgrow hat)
           have HB7 : Hid (Below w.heap.size w w7) := Lib.hid ((HBG.out.alloc HBG.out.size _).grown hgrow (by have := HBG.out.size; simp; omega) (fun b e => by have e3 : g1 = b := Option.some.inj e; have := HP.out; omega))
           have H07 := Lib.hid ((hgrow.block P (by simp; omega) (fun e => by have e3 : _ = g1 := Option.some.inj e; omega)).trans (keepAlloc H0F.out))
           have H17 := Lib.hid ((hgrow.block (P + 1) (by simp; omega) (fun e => by have e3 : _ = g1 := Option.some.inj e; omega)).trans (keepAlloc H1F.out))
           have H27 := Lib.hid ((hgrow.block (P + 2) (by simp; omega) (fun e => by have e3 : _ = g1 := Option.some.inj e; omega)).trans (keepAlloc H2F.out))
           have HO7 := Lib.hid (HOF.out.alloc (Obj.cells #[.bool yb, .int .i64 yn, .string ys, .int .i64 k1, .int .i64 n1, .string s1, .int .i64 x1, .slice A3 L1 c3, .bool tb, .int .i64 tl] IS) |>.keep hgrow (fun q e e2 => by have := HNA.out q e; have e3 : g1 = q := Option.some.inj e2; omega))
           obtain ⟨g3, c4, rfl⟩ : ∃ g3 c4, v' = .slice (some ⟨g3, 0, none⟩) (j + 1) c4 := by
             rcases hown.2 with ⟨-, h⟩ | ⟨g, cap, cur, h, -⟩
             · omega
             · exact ⟨g, cap, h⟩
           obtain ⟨t7, f7⟩ := rowc H27.out
           clear hown hown2 hgrow hnil hat)
        | fail)
      clear t7 f7 z0 z1 z2 z3 z4 z5 z6 z7 z8 z9 e2
      go_roundg (m - j)
      case rel => exact ⟨j + 1, g3, c4, by go_num, by omega, by omega, Lib.hid ((set_other (by omega)).trans H07.out), Lib.hid ((set_other (by omega)).trans H17.out), Lib.hid (by have := set_heap H27.out 2 (.slice (some ⟨g3, 0, none⟩) (j + 1) c4); simpa using this), Lib.hid (HST.out.above fun q hq _ => set_other (by omega)), Lib.hid (owni_at HO7.out fun q e => set_other (by have := HNA.out q e; omega)), Lib.hid (HB7.out.setCell (show w.heap.size ≤ P + 2 by rw [HP.out]; omega) _)⟩
      case measure => omega
    · obtain rfl : j = m := by omega
      have e2 := (rowc H2.out).1
      have e1 := (rowc H1.out).2
      have y0 := e2 0; have y1 := e2 1; have y2 := e2 2; have y3 := e2 3; have y4 := e2 4
      have e3 := (rowc H1.out).1
      have v0 := e3 0; have v1 := e3 1; have v2 := e3 2; have v3 := e3 3; have v4 := e3 4
      simp at y0 y1 y2 y3 y4 v0 v1 v2 v3 v4
      clear e2 e3
      go_wp2_with (fail)
      generalize hwF : World.setCell (World.setCell (World.setCell (World.setCell (World.setCell wr _ _) _ _) _ _) _ _) _ _ = wF
      obtain ⟨rF, oF, bF⟩ := fill5s H1.out hwF
      have hrr := HR.out
      rw [show sl.take j = sl by rw [← hlen, List.take_length]] at hrr
      clear hwF
      exact bodyPost_ret (v := tbV b A1 n c1 (some ⟨g1, 0, none⟩) j d1 x k) (by simp [results, Tryz.results75, go_sem, rF, tbV]) rfl ⟨A1, c1, _, d1, P + 3, N, rfl, by rw [HP.out]; omega, by omega, owni_at HO.out fun q e => oF q (by have := HNA.out q e; omega), fun h e => (HNA.out h e).2, hrr.above fun q hq _ => oF q (by omega), bF _ _ (by rw [HP.out]; omega) HB.out⟩

end Go.Proofs.YtdgfpfkhcojgaaaGreatDoor.tree

/-
  Items that lie in one block, as a list; items without one of them.
  Conditions: those that each theorem names.
-/
namespace Go.Proofs.YtdgfpfkhcojgaaaGreatDoor.tree
open Go.ChangeShapes Go.WideShapes Go.ChangeAt Go.RowKit
set_option linter.unusedVariables false

theorem isin_row {w : World} {S : Nat → Prop} {g : Nat} {arr : Array Value} {ks : List Ky} {vs : List Tr} (hg : w.heap[g]? = some (.cells arr IE (0, 0))) (hS : S g) (hl : ks.length = vs.length) (hm : vs.length ≤ maxLen)
    (hit : ∀ i, i < vs.length → ∃ y k n s x ks' vs' A c, ks[i]? = some y ∧ vs[i]? = some (.mk k n s x ks' vs') ∧ (I64 y.num ∧ y.str.size ≤ maxLen) ∧ At8r arr i y k n s x A vs'.length c ∧ TIn w S (.mk k n s x ks' vs') (vV k n s x A vs'.length c)) :
    IsIn w S ks vs (some ⟨g, 0, none⟩) := by
  have each : ∀ i, ∃ C : Array Value, ∀ (hi : i < vs.length), KyAt w ⟨g, 0, none⟩ i (ks[i]'(hl ▸ hi)) ∧ C.size = 5 ∧ (∀ j, j < 5 → w.cell? ((⟨g, 0, none⟩ : Addr).add (8 * i + (3 + j))) = C[j]?) ∧ TIn w S (vs[i]) (.agg C) := by
    intro i
    by_cases hi : i < vs.length
    · obtain ⟨y, k, n, s, x, ks', vs', A, c, hy, ht, hyb, hat, hT⟩ := hit i hi
      have ey : ks[i]'(hl ▸ hi) = y := by rw [List.getElem?_eq_getElem (hl ▸ hi)] at hy; exact Option.some.inj hy
      have et : vs[i] = .mk k n s x ks' vs' := by rw [List.getElem?_eq_getElem hi] at ht; exact Option.some.inj ht
      have at_ : ∀ q, q < 8 → w.cell? ((⟨g, 0, none⟩ : Addr).add (8 * i + q)) = (eV y k n s x A vs'.length c).cells[q]? := fun q hq => by
        rw [Addr.add_lit, Nat.zero_add, cell_of_row w g _ arr IE _ hg, ← hat q hq, Nat.mul_comm]
      refine ⟨#[.int .i64 k, .int .i64 n, .string s, .int .i64 x, .slice A vs'.length c], fun _ => ?_⟩
      rw [ey, et]
      refine ⟨⟨at_ 0 (by omega), at_ 1 (by omega), at_ 2 (by omega), hyb⟩, rfl, fun j hj => ?_, hT⟩
      rw [at_ (3 + j) (by omega)]
      match j, hj with
      | 0, _ => rfl
      | 1, _ => rfl
      | 2, _ => rfl
      | 3, _ => rfl
      | 4, _ => rfl
    · exact ⟨#[], fun h => absurd h hi⟩
  exact ⟨hl, hm, fun i => (each i).choose, fun i hi => ⟨_, rfl, hS, ((each i).choose_spec hi).1, ((each i).choose_spec hi).2.1, ((each i).choose_spec hi).2.2.1⟩, fun i hi => ((each i).choose_spec hi).2.2.2⟩

/-- The cells of items, without those of item i. -/
theorem xAt8_drop {xs : List Value} {i j M : Nat} (hx : xs.length = M * 8) (hi : i < M) {y : Ky} {k n x : Int} {s : ByteArray} {A : Option Addr} {L c : Nat} (h : xAt8 xs (if j < i then j else j + 1) y k n s x A L c) : xAt8 (xs.take (i * 8) ++ xs.drop ((i + 1) * 8)) j y k n s x A L c := by
  intro q hq
  have := h q hq
  by_cases hj : j < i
  · rw [if_pos hj] at this
    rw [List.getElem?_append_left (by rw [List.length_take]; omega), List.getElem?_take_of_lt (by omega)]
    exact this
  · rw [if_neg hj] at this
    rw [List.getElem?_append_right (by rw [List.length_take]; omega), List.length_take, List.getElem?_drop, ← this]
    congr 1
    omega
theorem erase_get {α : Type} (l : List α) (i j : Nat) (hi : i < l.length) : (l.eraseIdx i)[j]? = l[if j < i then j else j + 1]? := by
  rw [List.getElem?_eraseIdx]
  split <;> rfl

theorem grown_below {w w1 w2 : World} {B k : Nat} (h : Below B w w1) (g : w1.grownBy w2 (some k)) (hk : B ≤ k) (hB : B ≤ w1.heap.size) : Below B w w2 :=
  ⟨g.os.trans h.os, g.tape.trans h.tape, g.output.trans h.output, Nat.le_trans h.size g.size, fun b hb => (g.block b (by omega) (by simp; omega)).trans (h.block b hb)⟩

theorem grown_below' {w w1 w2 : World} {B : Nat} {row : Option Nat} (h : Below B w w1) (g : w1.grownBy w2 row) (hB : B ≤ w1.heap.size) (hk : ∀ b, row = some b → B ≤ b) : Below B w w2 :=
  ⟨g.os.trans h.os, g.tape.trans h.tape, g.output.trans h.output, Nat.le_trans h.size g.size, fun b hb => (g.block b (by omega) (fun e => by have := hk b e.symm; omega)).trans (h.block b hb)⟩
def OutV (w : World) (t : Tr) (S : Nat → Prop) (e : Ending) (w' : World) : Prop := ∃ u, e = .returned u ∧ TIn w' S t u ∧ Below w.heap.size w w'

end Go.Proofs.YtdgfpfkhcojgaaaGreatDoor.tree

/-
  A value with the value of a key; items of a block of which one has a new value.
  Conditions: those that each theorem names.
-/
namespace Go.Proofs.YtdgfpfkhcojgaaaGreatDoor.tree
open Go.ChangeShapes Go.WideShapes Go.ChangeAt Go.RowKit
set_option linter.unusedVariables false

/-- The next free index behind a key. -/
def nxt (x : Int) (y : Ky) : Int := if y.text then x else if x < y.num + 1 then y.num + 1 else x
/-- A value with the value u at a key. -/
def setT : Tr → Ky → Tr → Tr
  | .mk k n s x ks vs, y, u => if posV (.mk k n s x ks vs) y = -1 then .mk k n s (nxt x y) (ks ++ [y]) (vs ++ [u]) else .mk k n s x ks (vs.set (posV (.mk k n s x ks vs) y).toNat u)
theorem setT_none {k n x : Int} {s : ByteArray} {ks : List Ky} {vs : List Tr} {y : Ky} {u : Tr} (h : posV (.mk k n s x ks vs) y = -1) : setT (.mk k n s x ks vs) y u = .mk k n s (nxt x y) (ks ++ [y]) (vs ++ [u]) := by rw [setT, if_pos h]
theorem setT_some {k n x : Int} {s : ByteArray} {ks : List Ky} {vs : List Tr} {y : Ky} {u : Tr} {i : Nat} (h : posV (.mk k n s x ks vs) y = i) : setT (.mk k n s x ks vs) y u = .mk k n s x ks (vs.set i u) := by
  rw [setT, if_neg (by omega), h, Int.toNat_natCast]
theorem cnts_append : ∀ (a b : List Tr), cnts (a ++ b) = cnts a + cnts b
  | [], b => by rw [List.nil_append, cnts]; omega
  | t :: a, b => by rw [List.cons_append, cnts_cons', cnts_cons', cnts_append a b]; omega
theorem cnts_set : ∀ (vs : List Tr) (i : Nat) (u : Tr), cnts (vs.set i u) ≤ cnts vs + cnt u
  | [], i, u => by rw [List.set_nil]; omega
  | t :: vs, 0, u => by rw [List.set_cons_zero, cnts_cons', cnts_cons']; omega
  | t :: vs, i + 1, u => by
    have := cnts_set vs i u
    rw [List.set_cons_succ, cnts_cons', cnts_cons']
    omega
theorem tots_append : ∀ (ks : List Ky) (vs : List Tr) (y : Ky) (u : Tr), ks.length = vs.length → tots (ks ++ [y]) (vs ++ [u]) = tots ks vs + (y.str.size + tot u)
  | [], [], y, u, _ => by rw [List.nil_append, List.nil_append, tots_cons]; omega
  | y0 :: ks, t :: vs, y, u, h => by
    have := tots_append ks vs y u (by simpa using h)
    rw [List.cons_append, List.cons_append, tots_cons, tots_cons, this]
    omega
theorem tots_set : ∀ (ks : List Ky) (vs : List Tr) (i : Nat) (u : Tr), tots ks (vs.set i u) ≤ tots ks vs + tot u
  | _, [], i, u => by rw [List.set_nil]; omega
  | [], t :: vs, i, u => by cases i <;> simp [List.set, tots]
  | y :: ks, t :: vs, 0, u => by rw [List.set_cons_zero, tots_cons, tots_cons]; omega
  | y :: ks, t :: vs, i + 1, u => by
    have := tots_set ks vs i u
    rw [List.set_cons_succ, tots_cons, tots_cons]
    omega
theorem setT_cnt (t : Tr) (y : Ky) (u : Tr) : cnt (setT t y u) ≤ cnt t + cnt u := by
  obtain ⟨k, n, s, x, ks, vs⟩ := t
  rcases posV_cases k n s x ks vs y with hp | ⟨i, hp, hi, rfl⟩
  · rw [setT_none hp, cnt_mk', cnt_mk', cnts_append, cnts_cons', cnts]; omega
  · have := cnts_set vs i u
    rw [setT_some hp, cnt_mk', cnt_mk']
    omega
theorem setT_tot (t : Tr) (y : Ky) (u : Tr) (hf : fits t) : tot (setT t y u) ≤ tot t + y.str.size + tot u + 1 := by
  obtain ⟨k, n, s, x, ks, vs⟩ := t
  rw [fits] at hf
  rcases posV_cases k n s x ks vs y with hp | ⟨i, hp, hi, rfl⟩
  · have := tots_append ks vs y u hf.1
    rw [setT_none hp, tot_mk, tot_mk, this, List.length_append]
    simp only [List.length_cons, List.length_nil]
    omega
  · have := tots_set ks vs i u
    rw [setT_some hp, tot_mk, tot_mk, List.length_set]
    omega
/-- Five cells in a row. -/
def put5c (arr : Array Value) (o : Nat) (c0 c1 c2 c3 c4 : Value) : Array Value := ((((arr.setIfInBounds o c0).setIfInBounds (o + 1) c1).setIfInBounds (o + 2) c2).setIfInBounds (o + 3) c3).setIfInBounds (o + 4) c4
theorem put5c_out (arr : Array Value) (o : Nat) (c0 c1 c2 c3 c4 : Value) (p : Nat) (h : p < o ∨ o + 5 ≤ p) : (put5c arr o c0 c1 c2 c3 c4)[p]? = arr[p]? := by
  unfold put5c
  iterate 5 rw [Array.getElem?_setIfInBounds_ne (by omega)]
theorem put5c_in (arr : Array Value) (o : Nat) (c0 c1 c2 c3 c4 : Value) (h : o + 5 ≤ arr.size) (q : Nat) (hq : q < 5) : (put5c arr o c0 c1 c2 c3 c4)[o + q]? = (#[c0, c1, c2, c3, c4] : Array Value)[q]? := by
  unfold put5c
  match q, hq with
  | 0, _ => iterate 4 rw [Array.getElem?_setIfInBounds_ne (by omega)]
            rw [Nat.add_zero, Array.getElem?_setIfInBounds_self_of_lt (by omega)]; rfl
  | 1, _ => iterate 3 rw [Array.getElem?_setIfInBounds_ne (by omega)]
            rw [Array.getElem?_setIfInBounds_self_of_lt (by simp; omega)]; rfl
  | 2, _ => iterate 2 rw [Array.getElem?_setIfInBounds_ne (by omega)]
            rw [Array.getElem?_setIfInBounds_self_of_lt (by simp; omega)]; rfl
  | 3, _ => rw [Array.getElem?_setIfInBounds_ne (by omega), Array.getElem?_setIfInBounds_self_of_lt (by simp; omega)]; rfl
  | 4, _ => rw [Array.getElem?_setIfInBounds_self_of_lt (by simp; omega)]; rfl

/-- An item as it lies in a row. -/
def ItAt (w : World) (S : Nat → Prop) (arr : Array Value) (ks : List Ky) (vs : List Tr) (j : Nat) : Prop :=
  ∃ y k n s x ks' vs' A c, ks[j]? = some y ∧ vs[j]? = some (.mk k n s x ks' vs') ∧ (I64 y.num ∧ y.str.size ≤ maxLen) ∧ At8r arr j y k n s x A vs'.length c ∧ TIn w S (.mk k n s x ks' vs') (vV k n s x A vs'.length c)

/-- A row of items, one of which has a new value. -/
theorem isin_put {w : World} {S : Nat → Prop} {g i : Nat} {arr : Array Value} {ks : List Ky} {vs : List Tr} {y : Ky} {k n x : Int} {s : ByteArray} {ks' : List Ky} {vs' : List Tr} {A : Option Addr} {c : Nat}
    (hg : w.heap[g]? = some (.cells (put5c arr (i * 8 + 3) (.int .i64 k) (.int .i64 n) (.string s) (.int .i64 x) (.slice A vs'.length c)) IE (0, 0))) (hS : S g) (hl : ks.length = vs.length) (hm : vs.length ≤ maxLen) (hsz : vs.length * 8 ≤ arr.size) (hi : i < vs.length)
    (hky : ks[i]? = some y) (hvs : vs[i]? = some (.mk k n s x ks' vs')) (hyb : I64 y.num ∧ y.str.size ≤ maxLen) (h0 : arr[i * 8]? = some (.bool y.text)) (h1 : arr[i * 8 + 1]? = some (.int .i64 y.num)) (h2 : arr[i * 8 + 2]? = some (.string y.str))
    (hT : TIn w S (.mk k n s x ks' vs') (vV k n s x A vs'.length c)) (ho : ∀ j, j < vs.length → j ≠ i → ItAt w S arr ks vs j) : IsIn w S ks vs (some ⟨g, 0, none⟩) := by
  refine isin_row hg hS hl hm fun j hj => ?_
  by_cases e : j = i
  · subst e
    refine ⟨y, k, n, s, x, ks', vs', A, c, hky, hvs, hyb, fun q hq => ?_, hT⟩
    by_cases hq3 : q < 3
    · rw [put5c_out _ _ _ _ _ _ _ _ (.inl (by omega))]
      match q, hq3 with
      | 0, _ => exact h0
      | 1, _ => exact h1
      | 2, _ => exact h2
    · obtain ⟨r, rfl⟩ : ∃ r, q = 3 + r := ⟨q - 3, by omega⟩
      rw [← Nat.add_assoc, put5c_in _ _ _ _ _ _ _ (by omega) r (by omega)]
      have hr : r < 5 := by omega
      match r, hr with
      | 0, _ => rfl
      | 1, _ => rfl
      | 2, _ => rfl
      | 3, _ => rfl
      | 4, _ => rfl
  · obtain ⟨y, k, n, s, x, ks', vs', A, c, a1, a2, a3, a4, a5⟩ := ho j hj e
    refine ⟨y, k, n, s, x, ks', vs', A, c, a1, a2, a3, fun q hq => ?_, a5⟩
    rw [put5c_out _ _ _ _ _ _ _ _ (by omega)]
    exact a4 q hq

/-- append at an operation of the walk, by what it runs to. -/
theorem wpList_append_eq {P : Program} {ops : Array Oper} {rest : List Oper} {o : Oper} {a : Act} {Q : Exit → Act → World → Prop} {w w' : World} (hgd : o.guard = none) (s x : Operand) (t : TypeId)
    (ho : o.op = .call { callee := .builtin .append, args := #[s, x], argTypes := #[t, t] }) {u v r : Value} (hrun : (Builtin.append_ #[t, t] o.type #[u, v]).run P w = .ok r w') (hs : a.eval s = u) (hx : a.eval x = v)
    (h : wpList P ops Q rest (a.put o.dst r) w') : wpList P ops Q (o :: rest) a w := by
  refine wpList_plain hgd fun K hK => ?_
  unfold Oper.wp execOp
  simp only [ho, resolve, invoke, builtin, Sem.run_bind, Sem.run_pure, Result.andThen_ok, List.map_toArray, List.map_cons, List.map_nil, hs, hx, hrun]
  exact hK _ _ h

theorem alc {w : World} {o : Obj} {p : Addr} {u : Value} (h : w.cell? p = some u) : (w.alloc o).cell? p = some u := cell_stays (fun hlt => (b1 w o).block _ hlt) h
theorem drc {w : World} {p : Addr} {u : Value} (h : w.cell? p = some u) : w.drew.cell? p = some u := h
theorem st5 {w : World} {b j B : Nat} {u c0 c1 c2 c3 c4 : Value} (h : w.cell? ⟨b, j, none⟩ = some u) (hne : B ≠ b) : (((((w.setCell ⟨B, 0, none⟩ c0).setCell ⟨B, 1, none⟩ c1).setCell ⟨B, 2, none⟩ c2).setCell ⟨B, 3, none⟩ c3).setCell ⟨B, 4, none⟩ c4).cell? ⟨b, j, none⟩ = some u :=
  cell_stays (fun _ => by
    have hn : b ≠ B := fun e => hne e.symm
    simp only []
    rw [set_other hn, set_other hn, set_other hn, set_other hn, set_other hn]) h
/-- Five cells of a block, written. -/
theorem put5_heap {w wF : World} {g o : Nat} {arr : Array Value} {t : TypeId} {c0 c1 c2 c3 c4 : Value} (h : w.heap[g]? = some (.cells arr t (0, 0)))
    (hF : (((((w.setCell ⟨g, o, none⟩ c0).setCell ⟨g, o + 1, none⟩ c1).setCell ⟨g, o + 2, none⟩ c2).setCell ⟨g, o + 3, none⟩ c3).setCell ⟨g, o + 4, none⟩ c4) = wF) :
    wF.heap[g]? = some (.cells (put5c arr o c0 c1 c2 c3 c4) t (0, 0)) ∧ (∀ q, q ≠ g → wF.heap[q]? = w.heap[q]?) ∧ ∀ (B : Nat) (w0 : World), B ≤ g → Below B w0 w → Below B w0 wF := by
  subst hF
  refine ⟨set_heap (set_heap (set_heap (set_heap (set_heap h _ _) _ _) _ _) _ _) _ _, fun q hq => ?_, fun B w0 hB hb => ?_⟩
  · rw [set_other hq, set_other hq, set_other hq, set_other hq, set_other hq]
  · exact ((((hb.setCell hB _).setCell hB _).setCell hB _).setCell hB _).setCell hB _
theorem max_nxt (x : Int) (y : Ky) (h : y.text = false) : nums.mx x (y.num + 1) = nxt x y := by
  unfold nums.mx nxt
  rw [h]
  simp

end Go.Proofs.YtdgfpfkhcojgaaaGreatDoor.tree

/-
  New blocks, and copies of lists of items, for setting a key.
  Conditions: those that each theorem names.
-/
namespace Go.Proofs.YtdgfpfkhcojgaaaGreatDoor.tree
open Go.ChangeShapes Go.WideShapes Go.ChangeAt Go.RowKit
set_option linter.unusedVariables false

/-- Four new blocks in a row. -/
theorem al4 (w : World) (c0 c1 c2 c3 : Array Value) (t0 t1 t2 t3 : TypeId) (W : World) (hW : W = (((w.alloc (.cells c0 t0)).alloc (.cells c1 t1)).alloc (.cells c2 t2)).alloc (.cells c3 t3)) :
    W.heap[w.heap.size]? = some (.cells c0 t0 (0, 0)) ∧ W.heap[w.heap.size + 1]? = some (.cells c1 t1 (0, 0)) ∧ W.heap[w.heap.size + 1 + 1]? = some (.cells c2 t2 (0, 0)) ∧ W.heap[w.heap.size + 1 + 1 + 1]? = some (.cells c3 t3 (0, 0)) ∧ W.heap.size = w.heap.size + 1 + 1 + 1 + 1 ∧ Below w.heap.size w W := by
  obtain ⟨h0, h1, h2, hs, hb⟩ := al3 w c0 c1 c2 t0 t1 t2
  subst hW
  have h3 := heap_alloc_new (((w.alloc (.cells c0 t0)).alloc (.cells c1 t1)).alloc (.cells c2 t2)) (.cells c3 t3)
  rw [hs] at h3
  exact ⟨keepAlloc h0, keepAlloc h1, keepAlloc h2, h3, by simp, hb.alloc hb.size _⟩

/-- The cells of a list of items, of none too. -/
theorem IsIn.cellsA {w : World} {S : Nat → Prop} {ks : List Ky} {vs : List Tr} {A : Option Addr} (h : IsIn w S ks vs A) :
    ∃ cs : List Value, cs.length = vs.length * 8 ∧ (∀ j v, cs[j]? = some v → ∃ a, A = some a ∧ w.cell? (a.add j) = some v) ∧ (∀ v ∈ cs, v.oneCell' = true) ∧
      ∀ i, i < vs.length → ∃ y k n s x ks' vs' A c, ks[i]? = some y ∧ vs[i]? = some (.mk k n s x ks' vs') ∧ (I64 y.num ∧ y.str.size ≤ maxLen) ∧ (I64 k ∧ I64 n ∧ I64 x ∧ s.size ≤ maxLen) ∧ xAt8 cs i y k n s x A vs'.length c ∧ TIn w S (.mk k n s x ks' vs') (vV k n s x A vs'.length c) := by
  cases A with
  | some a =>
    obtain ⟨cs, h1, h2, h3, h4⟩ := h.cells
    exact ⟨cs, h1, fun j v hv => ⟨a, rfl, h2 j v hv⟩, h3, h4⟩
  | none =>
    have h0 : vs.length = 0 := by
      rcases Nat.eq_zero_or_pos vs.length with h0 | h0
      · exact h0
      · obtain ⟨_, _, C, hc, -⟩ := h
        obtain ⟨a, ha, -⟩ := hc 0 h0
        cases ha
    exact ⟨[], by simp [h0], fun j v hv => by simp at hv, fun v hv => by simp at hv, fun i hi => by omega⟩

/-- 'copy' of items, of none too. -/
theorem run_copy_A {P : Program} (w : World) (dT sT ty elem : TypeId) (g dLen dCap : Nat) (A : Option Addr) (sLen sCap : Nat) (cur : Array Value) (t : TypeId) (cs : List Value) (n : Nat)
    (hu : P.underlying dT = some (.slice elem)) (hs : (P.info? elem).map (·.size) = some 8) (hg : w.heap[g]? = some (.cells cur t (0, 0))) (hn : n = Nat.min sLen dLen) (hl : cs.length = n * 8)
    (hsrc : ∀ j v, cs[j]? = some v → ∃ a, A = some a ∧ w.cell? (a.add j) = some v) (ho : cs.length ≤ cur.size) (h1 : ∀ v ∈ cs, v.oneCell' = true) (hA : A = none → sLen = 0) :
    (Builtin.copy_ #[dT, sT] ty #[.slice (some ⟨g, 0, none⟩) dLen dCap, .slice A sLen sCap]).run P w = .ok (goInt n) (w.setRow g (cs ++ cur.toList.drop cs.length).toArray) := by
  cases A with
  | some a =>
    have := run_copy_8 (P := P) w dT sT ty elem g 0 dLen dCap a sLen sCap cur t cs n hu hs hg hn hl (fun j v hv => by
      obtain ⟨a', e, h⟩ := hsrc j v hv
      obtain rfl := Option.some.inj e
      exact h) (by omega) h1
    simpa using this
  | none =>
    have h0 := hA rfl
    subst h0
    have hn0 : n = 0 := by rw [hn]; exact Nat.zero_min _
    subst hn0
    have hc : cs = [] := List.eq_nil_of_length_eq_zero (by omega)
    subst hc
    have e : w.setRow g ([] ++ cur.toList.drop ([] : List Value).length).toArray = w := by
      have := setRow_self w g cur t (0, 0) hg
      simpa using this
    rw [e]
    cases hq : P.info? elem with
    | none => simp [hq] at hs
    | some i =>
      have hi : i.size = 8 := by simpa [hq] using hs
      simp [Builtin.copy_, run_underlying hu, Builtin.lenOf, Builtin.firstCells, sizeOf, typeInfo, hq, storeCells]

end Go.Proofs.YtdgfpfkhcojgaaaGreatDoor.tree

/-
  A value with the value of a key, if it is an array and the key may stand there.
  Conditions: those that each theorem names.
-/
namespace Go.Proofs.YtdgfpfkhcojgaaaGreatDoor.tree
open Go.ChangeShapes Go.WideShapes Go.ChangeAt Go.RowKit
set_option linter.unusedVariables false

def setB : Tr → Ky → Bool
  | .mk k _ _ _ _ _, y => decide (k = 4) && keyB y
theorem setB_mk (k n x : Int) (s : ByteArray) (ks : List Ky) (vs : List Tr) (y : Ky) : setB (.mk k n s x ks vs) y = (decide (k = 4) && keyB y) := rfl
def setR (t : Tr) (y : Ky) (u : Tr) : Tr := if setB t y then setT t y u else t
theorem setR_cnt (t : Tr) (y : Ky) (u : Tr) : cnt (setR t y u) ≤ cnt t + cnt u := by
  have := setT_cnt t y u
  unfold setR
  split <;> omega
theorem setR_tot (t : Tr) (y : Ky) (u : Tr) (hf : fits t) : tot (setR t y u) ≤ tot t + y.str.size + tot u + 1 := by
  have := setT_tot t y u hf
  unfold setR
  split <;> omega

end Go.Proofs.YtdgfpfkhcojgaaaGreatDoor.tree

