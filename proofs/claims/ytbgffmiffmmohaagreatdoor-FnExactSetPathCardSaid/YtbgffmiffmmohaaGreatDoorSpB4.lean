/-
  What the texts behind this one use: 5 parts of one proof.
  Conditions: those that each theorem names.
-/
import Derived.Test.YtbgffmiffmmohaaGreatDoorSpSPar
import Derived.Test.YtbgffmiffmmohaaGreatDoorSpSPlace
import Derived.Maps.AppendAt
/-
  The laws' marks: what they leave in a value.
  Conditions: those that each theorem names.
-/
namespace Go.Proofs.YtbgffmiffmmohaaGreatDoor.tree
open Go.ChangeShapes Go.WideShapes Go.ChangeAt Go.RowKit
set_option linter.unusedVariables false

theorem cnts_nil : cnts [] = 0 := by rw [cnts]
theorem cnts_cons' (t : Tr) (vs : List Tr) : cnts (t :: vs) = cnt t + cnts vs := by rw [cnts]
theorem cnt_mk' (k n : Int) (s : ByteArray) (x : Int) (ks : List Ky) (vs : List Tr) : cnt (.mk k n s x ks vs) = 1 + cnts vs := by rw [cnt]
theorem cnts_app : ∀ (a b : List Tr), cnts (a ++ b) = cnts a + cnts b
  | [], b => by rw [cnts_nil]; simp
  | t :: a, b => by rw [List.cons_append, cnts_cons', cnts_cons', cnts_app a b]; omega
theorem cnts_take {vs : List Tr} {j : Nat} {t : Tr} (h : vs[j]? = some t) : cnts (vs.take (j + 1)) = cnts (vs.take j) + cnt t := by
  obtain ⟨hj, rfl⟩ := List.getElem?_eq_some_iff.1 h
  rw [List.take_succ_eq_append_getElem hj, cnts_app, cnts_cons', cnts_nil]
  omega
theorem cnts_le (vs : List Tr) (j : Nat) : cnts (vs.take j) ≤ cnts vs := by
  have := cnts_app (vs.take j) (vs.drop j)
  rw [List.take_append_drop] at this
  omega
theorem cnts_lt {vs : List Tr} {j : Nat} {t : Tr} (h : vs[j]? = some t) : cnts (vs.take j) + cnt t ≤ cnts vs := by
  rw [← cnts_take h]
  exact cnts_le vs (j + 1)

/-- The digits of a number, before a text. -/
def digOf (k : Nat) : ByteArray := ⟨#[UInt8.ofNat (48 + k % 10)]⟩
def mgo : Nat → Nat → ByteArray → ByteArray
  | 0, _, out => out
  | f + 1, k, out => if k = 0 then out else mgo f (k / 10) (digOf k ++ out)
def mtx (k : Int) : ByteArray := "m".toUTF8 ++ mgo 30 k.toNat ⟨#[]⟩

/-- The key and the value that the marks from m on leave. -/
def mkY (m : Int) : Ky := ⟨decide (m % 3 = 0), m + 1, mtx (m + 2)⟩
def mkK (m : Int) : List Tr → List Ky
  | [] => []
  | t :: vs => mkY m :: mkK (m + 7 * cnt t) vs
mutual
def mkT (m : Int) : Tr → Tr
  | .mk _ _ _ _ _ vs => .mk (m + 3) (m + 4) (mtx (m + 5)) (m + 6) (mkK (m + 7) vs) (mkV (m + 7) vs)
def mkV (m : Int) : List Tr → List Tr
  | [] => []
  | t :: vs => mkT m t :: mkV (m + 7 * cnt t) vs
end
theorem mkT_mk (m k n : Int) (s : ByteArray) (x : Int) (ks : List Ky) (vs : List Tr) : mkT m (.mk k n s x ks vs) = .mk (m + 3) (m + 4) (mtx (m + 5)) (m + 6) (mkK (m + 7) vs) (mkV (m + 7) vs) := by rw [mkT]
theorem mkK_len : ∀ (m : Int) (vs : List Tr), (mkK m vs).length = vs.length
  | _, [] => rfl
  | m, t :: vs => by rw [mkK, List.length_cons, mkK_len, List.length_cons]
theorem mkV_len : ∀ (m : Int) (vs : List Tr), (mkV m vs).length = vs.length
  | _, [] => by rw [mkV]
  | m, t :: vs => by rw [mkV, List.length_cons, mkV_len, List.length_cons]
theorem mkK_get : ∀ (m : Int) (vs : List Tr) (j : Nat) (t : Tr), vs[j]? = some t → (mkK m vs)[j]? = some (mkY (m + 7 * cnts (vs.take j)))
  | _, [], j, t, h => by simp at h
  | m, u :: vs, 0, t, h => by simp [mkK, cnts_nil]
  | m, u :: vs, j + 1, t, h => by
    rw [mkK, List.getElem?_cons_succ, mkK_get (m + 7 * cnt u) vs j t (by simpa using h), List.take_succ_cons, cnts_cons']
    congr 2
    push_cast
    omega
theorem mkV_get : ∀ (m : Int) (vs : List Tr) (j : Nat) (t : Tr), vs[j]? = some t → (mkV m vs)[j]? = some (mkT (m + 7 * cnts (vs.take j)) t)
  | _, [], j, t, h => by simp at h
  | m, u :: vs, 0, t, h => by
    simp at h
    subst h
    simp [mkV, cnts_nil]
  | m, u :: vs, j + 1, t, h => by
    rw [mkV, List.getElem?_cons_succ, mkV_get (m + 7 * cnt u) vs j t (by simpa using h), List.take_succ_cons, cnts_cons']
    congr 2
    push_cast
    omega

/-- The first j of one list, then the other. -/
def mix {α : Type} (a b : List α) (j : Nat) : List α := a.take j ++ b.drop j
theorem mix_len {α : Type} {a b : List α} (h : a.length = b.length) (j : Nat) : (mix a b j).length = b.length := by
  unfold mix
  rw [List.length_append, List.length_take, List.length_drop]
  omega
theorem mix_lt {α : Type} {a b : List α} (h : a.length = b.length) {i j : Nat} (hi : i < j) (hj : j ≤ a.length) : (mix a b j)[i]? = a[i]? := by
  unfold mix
  rw [List.getElem?_append_left (by rw [List.length_take]; omega), List.getElem?_take_of_lt hi]
theorem mix_ge {α : Type} {a b : List α} (h : a.length = b.length) {i j : Nat} (hi : j ≤ i) (hj : j ≤ a.length) : (mix a b j)[i]? = b[i]? := by
  unfold mix
  rw [List.getElem?_append_right (by rw [List.length_take]; omega), List.length_take, List.getElem?_drop]
  congr 1
  omega
theorem mix_zero {α : Type} (a b : List α) : mix a b 0 = b := by simp [mix]
theorem mix_all {α : Type} {a b : List α} (h : a.length = b.length) : mix a b b.length = a := by simp [mix, ← h]

def MtQ (w : World) (k : Int) (e : Ending) (w' : World) : Prop := e = .returned (.string (mtx k)) ∧ Below w.heap.size w w'
theorem mgo_size : ∀ (f k : Nat) (out : ByteArray), (mgo f k out).size ≤ f + out.size
  | 0, _, out => by simp [mgo]
  | f + 1, k, out => by
    rw [mgo]
    split
    · omega
    · have := mgo_size f (k / 10) (digOf k ++ out)
      rw [ByteArray.size_append] at this
      have e : (digOf k).size = 1 := rfl
      omega
theorem mtx_size (k : Int) : (mtx k).size ≤ 31 := by
  unfold mtx
  rw [ByteArray.size_append]
  have := mgo_size 30 k.toNat ⟨#[]⟩
  have e : ("m".toUTF8 : ByteArray).size = 1 := by decide
  have e0 : (⟨#[]⟩ : ByteArray).size = 0 := rfl
  omega

end Go.Proofs.YtbgffmiffmmohaaGreatDoor.tree

/-
  The laws' marks: the text of a mark.
  Conditions: the number is above 0 and at most 10^15.
-/
namespace Go.Proofs.YtbgffmiffmmohaaGreatDoor.tree
open Go.ChangeShapes Go.WideShapes Go.ChangeAt Go.RowKit mem
set_option linter.unusedVariables false

theorem mgo_step {f q : Nat} (hq : q ≠ 0) (o : ByteArray) : mgo (f + 1) q o = mgo f (q / 10) (digOf q ++ o) := by rw [mgo, if_neg hq]
theorem mgo_zero (f : Nat) (o : ByteArray) : mgo f 0 o = o := by cases f <;> simp [mgo]

set_option maxHeartbeats 800000 in
theorem markText (k : Int) (h0 : 1 ≤ k) (h1 : k ≤ 1000000000000000) (w : World) : Calls Tryz.prog 113 #[.int .i64 k] w (MtQ w k) := by
  obtain ⟨K, rfl⟩ : ∃ K : Nat, k = (K : Int) := ⟨k.toNat, by omega⟩
  unfold MtQ mtx
  rw [Int.toNat_natCast]
  obtain ⟨T, HT⟩ : ∃ T, Hid (mgo 30 K ⟨#[]⟩ = T) := ⟨_, Lib.hid rfl⟩
  rw [HT.out]
  go_enter Tryz.func113, Tryz.ntmps113
  go_wp2_with (fail)
  go_loopg [0, 3] 30 (fun gk kv ov wr => ∃ (q : Nat) (o : ByteArray), kv = .int .i64 q ∧ ov = .string o ∧ q ≤ 1000000000000000 ∧ q < 10 ^ gk ∧ o.size + gk = 30 ∧ Hid (mgo gk q o = T) ∧ Below w.heap.size w wr)
  case atStart => exact ⟨K, ⟨#[]⟩, rfl, rfl, by omega, by omega, rfl, HT, Below.refl _ _⟩
  case round =>
    obtain ⟨q, o, rfl, rfl, hq, hp, ho, HQ, hb⟩ := hrel
    have HB := Lib.hid hb
    have HP := Lib.hid hp
    clear hb hp
    by_cases hq0 : q = 0
    · subst hq0
      have e : T = o := by rw [← HQ.out, mgo_zero]
      subst e
      have ho' : T.size ≤ 30 := by omega
      go_wp2_with (fail)
      go_ret
      exact ⟨rfl, HB.out⟩
    · have hpos : 0 < q := by omega
      have hgk : gk ≠ 0 := fun e => by have := HP.out; rw [e] at this; simp at this; omega
      obtain ⟨f, HF⟩ : ∃ f, Hid (gk = f + 1) := ⟨gk - 1, Lib.hid (by omega)⟩
      have hd0 : (0 : Int) ≤ (q : Int) % 10 := by omega
      have hd1 : (q : Int) % 10 ≤ 9 := by omega
      have hcv := conv_rd (P := Tryz.prog) _ 22 9 5 Tryz.underlying22 Tryz.underlying5 Tryz.underlying9 (rd_one wr (48 + (q : Int) % 10) (by omega) (by omega) 5) 1
      rw [show strOfNums [48 + (q : Int) % 10] = digOf q by
        have e : (48 + (q : Int) % 10).toNat = 48 + q % 10 := by omega
        simp [strOfNums, digOf, e]] at hcv
      have hd2 : (digOf q).size ≤ 1 := Nat.le_refl 1
      have ho2 : o.size ≤ 30 := by omega
      obtain ⟨D, HD⟩ : ∃ D, Hid (digOf q = D) := ⟨_, Lib.hid rfl⟩
      rw [HD.out] at hcv hd2
      go_wp2_with (fail)
      clear hcv
      go_roundg f
      case rel =>
        refine ⟨q / 10, D ++ o, rfl, rfl, by omega, ?_, ?_, Lib.hid ?_, bs HB.out (b1 _ _)⟩
        · exact Nat.div_lt_of_lt_mul (by have := HP.out; rw [HF.out, Nat.pow_succ] at this; omega)
        · have e1 : (digOf q).size = 1 := rfl
          rw [HD.out] at e1
          have := HF.out
          rw [ByteArray.size_append]
          omega
        · rw [← HD.out, ← mgo_step hq0, ← HF.out]
          exact HQ.out
      case measure => have := HF.out; omega

end Go.Proofs.YtbgffmiffmmohaaGreatDoor.tree

/-
  What measuring an array by places computes: sizes, the stack of arrays, and what is known of places.
  Conditions: those that each theorem names.
-/
namespace Go.Proofs.YtbgffmiffmmohaaGreatDoor.tree
open Go.ChangeShapes Go.WideShapes Go.ChangeAt Go.RowKit
set_option linter.unusedVariables false

mutual
/-- The size of a value: si for what is no array, else 1 more than its items' sizes joined. -/
def sz (si : Int) (J : Int → Int → Int) : Tr → Int
  | .mk k _ _ _ _ vs => if k = 4 then 1 + szl si J vs 0 else si
def szl (si : Int) (J : Int → Int → Int) : List Tr → Int → Int
  | [], a => a
  | t :: vs, a => szl si J vs (J a (sz si J t))
end

structure Join (si : Int) (J : Int → Int → Int) : Prop where
  lo : 0 ≤ si
  hi : si ≤ 1
  bd : ∀ a b, 0 ≤ a → 0 ≤ b → 0 ≤ J a b ∧ J a b ≤ a + b
  zero : ∀ b, 0 ≤ b → J 0 b = b

section
variable {si : Int} {J : Int → Int → Int}
theorem sz_four (n : Int) (s : ByteArray) (x : Int) (ks : List Ky) (vs : List Tr) : sz si J (.mk 4 n s x ks vs) = 1 + szl si J vs 0 := by rw [sz, if_pos rfl]
theorem sz_not {k n : Int} {s : ByteArray} {x : Int} {ks : List Ky} {vs : List Tr} (h : k ≠ 4) : sz si J (.mk k n s x ks vs) = si := by rw [sz, if_neg h]
theorem szl_nil (a : Int) : szl si J [] a = a := by rw [szl]
theorem szl_cons (t : Tr) (vs : List Tr) (a : Int) : szl si J (t :: vs) a = szl si J vs (J a (sz si J t)) := by rw [szl]
mutual
theorem sz_bd (h : Join si J) : ∀ t, 0 ≤ sz si J t ∧ sz si J t ≤ cnt t
  | .mk k _ _ _ _ vs => by
    have := szl_bd h vs 0 (Int.le_refl _)
    have h1 := h.lo
    have h2 := h.hi
    rw [sz, cnt]
    split <;> constructor <;> push_cast <;> omega
theorem szl_bd (h : Join si J) : ∀ (vs : List Tr) (a : Int), 0 ≤ a → 0 ≤ szl si J vs a ∧ szl si J vs a ≤ a + cnts vs
  | [], a, ha => by rw [szl, cnts]; exact ⟨ha, by omega⟩
  | t :: vs, a, ha => by
    have h1 := sz_bd h t
    have h2 := h.bd a (sz si J t) ha h1.1
    have h3 := szl_bd h vs (J a (sz si J t)) h2.1
    rw [szl, cnts]
    exact ⟨h3.1, by push_cast; omega⟩
end
end

mutual
/-- How many rounds a value takes at most. -/
def wk : Tr → Nat
  | .mk _ _ _ _ _ vs => 3 + wks vs
def wks : List Tr → Nat
  | [] => 0
  | t :: vs => wk t + wks vs
end
theorem wks_cons (t : Tr) (vs : List Tr) : wks (t :: vs) = wk t + wks vs := by rw [wks]
theorem wk_mk (k n : Int) (s : ByteArray) (x : Int) (ks : List Ky) (vs : List Tr) : wk (.mk k n s x ks vs) = 3 + wks vs := by rw [wk]
theorem wk_pos (t : Tr) : 3 ≤ wk t := by cases t; rw [wk]; omega
theorem cnt_mk (k n : Int) (s : ByteArray) (x : Int) (ks : List Ky) (vs : List Tr) : cnt (.mk k n s x ks vs) = 1 + cnts vs := by rw [cnt]
theorem cnts_cons (t : Tr) (vs : List Tr) : cnts (t :: vs) = cnt t + cnts vs := by rw [cnts]

/-! ### blocks that stay -/
def Lo (B : Nat) (w : World) (b : Nat) : Prop := b < B ∧ Plain w b
/-- Every plain block below B stays. -/
def Kp (B : Nat) (w w' : World) : Prop := ∀ b, b < B → Plain w b → w'.heap[b]? = w.heap[b]?
section
variable {B : Nat} {w w' w2 : World}
theorem Lo.kp (hk : Kp B w w') {b : Nat} (h : Lo B w b) : Lo B w' b := by
  obtain ⟨h1, cs, t, h2⟩ := h
  exact ⟨h1, cs, t, (hk b h1 ⟨cs, t, h2⟩).trans h2⟩
theorem Kp.refl (B : Nat) (w : World) : Kp B w w := fun _ _ _ => rfl
theorem Kp.trans (h : Kp B w w') (k : Kp B w' w2) : Kp B w w2 := fun b hb hp => (k b hb (Lo.kp h ⟨hb, hp⟩).2).trans (h b hb hp)
theorem Kp.below (h : Below w.heap.size w w') : Kp B w w' := fun b _ hp => h.block b hp.lt
theorem Kp.set (w : World) {g : Nat} (hg : B ≤ g) (j : Nat) (v : Value) : Kp B w (w.setCell ⟨g, j, none⟩ v) := fun b hb _ => set_other (by omega)
theorem Kp.grown {row : Option Nat} (h : w.grownBy w' row) (hr : ∀ k, row = some k → B ≤ k ∨ ¬ Plain w k) : Kp B w w' := fun b hb hp => h.block b hp.lt (fun e => by
  rcases hr b e.symm with h | h
  · omega
  · exact h hp)
theorem TIn.kp (hk : Kp B w w') {t : Tr} {v : Value} (h : TIn w (Lo B w) t v) : TIn w' (Lo B w') t v := h.stays (fun b hb => hb.kp hk) (fun b hb _ => hk b hb.1 hb.2)
theorem IsIn.kp (hk : Kp B w w') {ks : List Ky} {vs : List Tr} {A : Option Addr} (h : IsIn w (Lo B w) ks vs A) : IsIn w' (Lo B w') ks vs A := h.stays (fun b hb => hb.kp hk) (fun b hb _ => hk b hb.1 hb.2)

/-- At the place p lies the list, below B. -/
def PlB (B : Nat) (w : World) (p : Value) (ks : List Ky) (vs : List Tr) : Prop := ∃ A : Option Addr, IsIn w (Lo B w) ks vs A ∧ p = plc A vs.length
theorem PlB.is {p : Value} {ks : List Ky} {vs : List Tr} (h : PlB B w p ks vs) : PlIs w p ks vs := by
  obtain ⟨A, h1, h2⟩ := h
  exact ⟨_, A, h1, h2⟩
theorem PlB.kp (hk : Kp B w w') {p : Value} {ks : List Ky} {vs : List Tr} (h : PlB B w p ks vs) : PlB B w' p ks vs := by
  obtain ⟨A, h1, h2⟩ := h
  exact ⟨A, h1.kp hk, h2⟩
/-- A key of a map of places below B. -/
def GB (B : Nat) (w : World) (x : Value) : Prop := ∃ (p : Option Addr) (n : Int), x = .agg #[.pointer p, .int .i64 n] ∧ ∀ a, p = some a → Lo B w a.block
theorem GB.gp {x : Value} (h : GB B w x) : GP w x := by
  obtain ⟨p, n, e, hp⟩ := h
  exact ⟨p, n, e, fun a ha => (hp a ha).2⟩
theorem GB.kp (hk : Kp B w w') {x : Value} (h : GB B w x) : GB B w' x := by
  obtain ⟨p, n, e, hp⟩ := h
  exact ⟨p, n, e, fun a ha => (hp a ha).kp hk⟩
theorem PlB.gb {p : Value} {ks : List Ky} {vs : List Tr} (h : PlB B w p ks vs) : GB B w p := by
  obtain ⟨A, h, rfl⟩ := h
  unfold plc
  by_cases h0 : vs.length = 0
  · rw [if_pos h0]
    exact ⟨none, 0, rfl, fun a h => by cases h⟩
  · rw [if_neg h0]
    obtain ⟨hl, hm, C, hc, -⟩ := h
    obtain ⟨a, ha, hS, -⟩ := hc 0 (by omega)
    exact ⟨A, vs.length, rfl, fun a' h' => by rw [ha] at h'; obtain rfl := Option.some.inj h'; exact hS⟩
theorem good_gb (B : Nat) : raw.Good Tryz.prog PL (GB B) where
  wide := good_pl.wide
  check := fun w em x h => good_pl.check w em x h.gp
  eq := fun w x y hx hy => good_pl.eq w x y hx.gp hy.gp
  same := fun w x h => good_pl.same w x h.gp
theorem gb_stays (B : Nat) : raw.Stays (GB B) := fun w w' b x hb h hx => by
  obtain ⟨es, clock, hm⟩ := hb
  exact hx.kp fun k _ hp => h k (fun e => by
    obtain ⟨cs, t, hc⟩ := hp
    rw [e, hm] at hc
    cases hc) hp.lt
/-- The place that the first item of a list leads to. -/
def HeadPl (B : Nat) (w : World) (R : Option Addr) (p : Value) : Prop := ∃ (a : Addr) (A : Option Addr) (L c : Nat), R = some a ∧ Lo B w a.block ∧ w.cell? ⟨a.block, a.off + 7, none⟩ = some (.slice A L c) ∧ p = plc A L
theorem HeadPl.unique {R : Option Addr} {p p' : Value} (h : HeadPl B w R p) (h' : HeadPl B w R p') : p = p' := by
  obtain ⟨a, A, L, c, rfl, -, h1, rfl⟩ := h
  obtain ⟨a', A', L', c', e, -, h2, rfl⟩ := h'
  obtain rfl := Option.some.inj e
  rw [h1] at h2
  simp at h2
  obtain ⟨rfl, rfl, rfl⟩ := h2
  rfl
theorem HeadPl.kp (hk : Kp B w w') {R : Option Addr} {p : Value} (h : HeadPl B w R p) : HeadPl B w' R p := by
  obtain ⟨a, A, L, c, e, hl, h1, h2⟩ := h
  exact ⟨a, A, L, c, e, hl.kp hk, cell_stays (fun _ => hk _ hl.1 hl.2) h1, h2⟩
end

/-! ### the stack of arrays, the top first -/
structure Vis where
  p : Option Addr
  n : Int
  size : Int
  R : Option Addr
  c : Nat
  ks : List Ky
  vs : List Tr
def Vis.pl (V : Vis) : Value := .agg #[.pointer V.p, .int .i64 V.n]
def Vis.cells (V : Vis) : List Value := [.pointer V.p, .int .i64 V.n, .int .i64 V.size, .slice V.R V.vs.length V.c]
structure VisOk (B N : Nat) (w : World) (V : Vis) : Prop where
  isin : IsIn w (Lo B w) V.ks V.vs V.R
  cap : V.vs.length ≤ V.c ∧ V.c ≤ maxLen
  lo : 0 ≤ V.size
  hi : V.size + cnts V.vs ≤ N

section
variable {si : Int} {J : Int → Int → Int} {ans : Int} {B N : Nat} {w w' : World}
/-- V stands for the first item of U's rest. -/
structure Link (si : Int) (J : Int → Int → Int) (B : Nat) (w : World) (V U : Vis) (ks0 : List Ky) (vs0 : List Tr) : Prop where
  head : ∃ n s x ts, U.vs = .mk 4 n s x ks0 vs0 :: ts
  pl : PlB B w V.pl ks0 vs0
  at_ : HeadPl B w U.R V.pl
  size : szl si J V.vs V.size = szl si J vs0 0
  le : cnts V.vs ≤ cnts vs0
def Chain (si : Int) (J : Int → Int → Int) (ans : Int) (B : Nat) (w : World) : List Vis → Prop
  | [] => False
  | [V] => szl si J V.vs V.size = ans
  | V :: U :: l => (∃ ks0 vs0, Link si J B w V U ks0 vs0) ∧ Chain si J ans B w (U :: l)
theorem Link.kp (hk : Kp B w w') {V U : Vis} {ks0 : List Ky} {vs0 : List Tr} (h : Link si J B w V U ks0 vs0) : Link si J B w' V U ks0 vs0 :=
  ⟨h.head, h.pl.kp hk, h.at_.kp hk, h.size, h.le⟩
theorem Chain.kp (hk : Kp B w w') : ∀ {G : List Vis}, Chain si J ans B w G → Chain si J ans B w' G
  | [], h => h.elim
  | [V], h => h
  | V :: U :: l, h => by
    obtain ⟨⟨ks0, vs0, h1⟩, h2⟩ := h
    exact ⟨⟨ks0, vs0, h1.kp hk⟩, Chain.kp hk h2⟩
theorem Chain.mem : ∀ {V : Vis} {l : List Vis}, Chain si J ans B w (V :: l) → ∀ X ∈ (V :: l).dropLast, ∃ ks0 vs0, PlB B w X.pl ks0 vs0 ∧ cnts V.vs ≤ cnts vs0
  | V, [], _, X, hX => by simp at hX
  | V, U :: l, ⟨⟨ks0, vs0, h1⟩, h2⟩, X, hX => by
    rw [List.dropLast_cons_cons] at hX
    rcases List.mem_cons.1 hX with rfl | hX
    · exact ⟨ks0, vs0, h1.pl, h1.le⟩
    · obtain ⟨ks1, vs1, h3, h4⟩ := Chain.mem h2 X hX
      obtain ⟨n, s, x, ts, hu⟩ := h1.head
      refine ⟨ks1, vs1, h3, ?_⟩
      rw [hu, cnts_cons, cnt_mk] at h4
      have := h1.le
      omega

/-- What is known at the head of the loop. -/
structure St (si : Int) (J : Int → Int → Int) (ans : Int) (B N : Nat) (w : World) (G : List Vis) (hk : Bool) (f e : Value → Option Value) : Prop where
  ok : ∀ V ∈ G, VisOk B N w V
  chain : Chain si J ans B w G
  known : hk = true → ∃ V l p z, G = V :: l ∧ HeadPl B w V.R p ∧ f p = some z
  szs : ∀ p z, f p = some z → ∃ ks vs, PlB B w p ks vs ∧ z = .int .i64 (1 + szl si J vs 0)
  ens : ∀ p b, e p = some b → b = .bool true ∧ ((∃ z, f p = some z) ∨ ∃ V ∈ G.dropLast, V.pl = p)
theorem St.kp (hkp : Kp B w w') {G : List Vis} {hk : Bool} {f e : Value → Option Value} (h : St si J ans B N w G hk f e) : St si J ans B N w' G hk f e where
  ok := fun V hV => ⟨(h.ok V hV).isin.kp hkp, (h.ok V hV).cap, (h.ok V hV).lo, (h.ok V hV).hi⟩
  chain := h.chain.kp hkp
  known := fun hh => by
    obtain ⟨V, l, p, z, e1, e2, e3⟩ := h.known hh
    exact ⟨V, l, p, z, e1, e2.kp hkp, e3⟩
  szs := fun p z hp => by
    obtain ⟨ks, vs, h1, h2⟩ := h.szs p z hp
    exact ⟨ks, vs, h1.kp hkp, h2⟩
  ens := h.ens

/-- The rounds that are left at most. -/
def left : List Vis → Bool → Nat
  | [], _ => 0
  | V :: l, hk => (if hk then 1 + wks V.vs.tail else wks V.vs) + (l.map fun U => 1 + wks U.vs.tail).sum + (l.length + 1)

/-- An array that is done. -/
theorem St.pop {V U : Vis} {l : List Vis} {hk : Bool} {f e : Value → Option Value} (h : St si J ans B N w (V :: U :: l) hk f e) (hv : V.vs = []) :
    GB B w V.pl ∧ St si J ans B N w (U :: l) true (raw.put f V.pl (.int .i64 (1 + V.size))) e ∧ left (U :: l) true < left (V :: U :: l) hk := by
  obtain ⟨⟨ks0, vs0, hl⟩, hc⟩ := h.chain
  have hsz : V.size = szl si J vs0 0 := by have := hl.size; rwa [hv, szl_nil] at this
  refine ⟨hl.pl.gb, ⟨fun X hX => h.ok X (List.mem_cons_of_mem _ hX), hc, fun _ => ⟨U, l, V.pl, _, rfl, hl.at_, raw.put_same _ _ _⟩, fun p z hp => ?_, fun p b hp => ?_⟩, ?_⟩
  · by_cases e1 : p = V.pl
    · subst e1
      rw [raw.put_same] at hp
      exact ⟨ks0, vs0, hl.pl, by rw [← hsz]; exact (Option.some.inj hp).symm⟩
    · rw [raw.put_other e1] at hp
      exact h.szs p z hp
  · obtain ⟨hb, ho⟩ := h.ens p b hp
    refine ⟨hb, ?_⟩
    by_cases e1 : p = V.pl
    · subst e1
      exact .inl ⟨_, raw.put_same _ _ _⟩
    · rw [raw.put_other e1]
      rcases ho with ho | ⟨X, hX, hXp⟩
      · exact .inl ho
      · rw [List.dropLast_cons_cons] at hX
        rcases List.mem_cons.1 hX with rfl | hX
        · exact absurd hXp.symm e1
        · exact .inr ⟨X, hX, hXp⟩
  · simp only [left, List.map_cons, List.sum_cons, List.length_cons, if_true]
    have : (0 : Nat) ≤ if hk = true then 1 + wks V.vs.tail else wks V.vs := Nat.zero_le _
    omega

/-- The first item's size is known: it is taken. -/
theorem St.take (hJ : Join si J) {V : Vis} {l : List Vis} {hk : Bool} {f e : Value → Option Value} (h : St si J ans B N w (V :: l) hk f e) {y : Ky} {kt : List Ky} {t : Tr} {ts : List Tr} (hk0 : V.ks = y :: kt) (hv : V.vs = t :: ts) {R : Option Addr} {c : Nat}
    (hR : IsIn w (Lo B w) kt ts R) (hc : ts.length ≤ c ∧ c ≤ maxLen) :
    St si J ans B N w (⟨V.p, V.n, J V.size (sz si J t), R, c, kt, ts⟩ :: l) false f e ∧ left (⟨V.p, V.n, J V.size (sz si J t), R, c, kt, ts⟩ :: l) false < left (V :: l) hk := by
  have hV := h.ok V List.mem_cons_self
  have hb := hJ.bd V.size (sz si J t) hV.lo (sz_bd hJ t).1
  have hs := (sz_bd hJ t).2
  have hhi := hV.hi
  rw [hv, cnts_cons] at hhi
  push_cast at hhi
  refine ⟨⟨fun X hX => ?_, ?_, (fun h => by cases h), h.szs, fun p b hp => ?_⟩, ?_⟩
  · rcases List.mem_cons.1 hX with rfl | hX
    · exact ⟨hR, hc, hb.1, by show J V.size (sz si J t) + (cnts ts : Int) ≤ N; omega⟩
    · exact h.ok X (List.mem_cons_of_mem _ hX)
  · have hch := h.chain
    cases l with
    | nil =>
      have : szl si J V.vs V.size = ans := hch
      rw [hv, szl_cons] at this
      exact this
    | cons U l =>
      obtain ⟨⟨ks0, vs0, hl⟩, hc2⟩ := hch
      refine ⟨⟨ks0, vs0, hl.head, hl.pl, hl.at_, ?_, ?_⟩, hc2⟩
      · have := hl.size
        rw [hv, szl_cons] at this
        exact this
      · have := hl.le
        rw [hv, cnts_cons] at this
        show cnts ts ≤ cnts vs0
        omega
  · obtain ⟨hb, ho⟩ := h.ens p b hp
    refine ⟨hb, ho.imp id fun ⟨X, hX, hXp⟩ => ?_⟩
    cases l with
    | nil => simp at hX
    | cons U l =>
      rw [List.dropLast_cons_cons] at hX ⊢
      rcases List.mem_cons.1 hX with rfl | hX
      · exact ⟨_, List.mem_cons_self, hXp⟩
      · exact ⟨X, List.mem_cons_of_mem _ hX, hXp⟩
  · have := wk_pos t
    cases hk <;> simp [left, hv, wks_cons] <;> omega

/-- What is known of a place is the size of the array that lies there. -/
theorem St.size_of {G : List Vis} {hk : Bool} {f e : Value → Option Value} (h : St si J ans B N w G hk f e) {p z : Value} {ks : List Ky} {vs : List Tr} (hp : PlB B w p ks vs) (hf : f p = some z) : z = .int .i64 (1 + szl si J vs 0) := by
  obtain ⟨ks', vs', h1, h2⟩ := h.szs p z hf
  obtain ⟨-, rfl⟩ := h1.is.unique hp.is
  exact h2

/-- An array whose size is not known has not been entered: no array lies in itself. -/
theorem St.fresh {V : Vis} {l : List Vis} {hk : Bool} {f e : Value → Option Value} (h : St si J ans B N w (V :: l) hk f e) {n : Int} {s : ByteArray} {x : Int} {ks' : List Ky} {vs' ts : List Tr} (hv : V.vs = .mk 4 n s x ks' vs' :: ts) {p : Value}
    (hp : PlB B w p ks' vs') (hat : HeadPl B w V.R p) (hf : f p = none) : e p = none ∧ hk = false := by
  constructor
  · cases he : e p with
    | none => rfl
    | some b =>
      rcases (h.ens p b he).2 with ⟨z, hz⟩ | ⟨X, hX, hXp⟩
      · rw [hf] at hz; cases hz
      · obtain ⟨ks0, vs0, h1, h2⟩ := h.chain.mem X hX
        rw [hXp] at h1
        obtain ⟨-, rfl⟩ := h1.is.unique hp.is
        rw [hv, cnts_cons, cnt_mk] at h2
        omega
  · cases hk with
    | false => rfl
    | true =>
      obtain ⟨V', l', p', z, e1, e2, e3⟩ := h.known rfl
      injection e1 with e1 _
      subst e1
      rw [e2.unique hat, hf] at e3
      cases e3

/-- It is entered. -/
theorem St.push {V : Vis} {l : List Vis} {f e : Value → Option Value} (h : St si J ans B N w (V :: l) false f e) {n : Int} {s : ByteArray} {x : Int} {ks' : List Ky} {vs' ts : List Tr} (hv : V.vs = .mk 4 n s x ks' vs' :: ts) {A : Option Addr} {c : Nat} {p : Option Addr} {m : Int}
    (hin : IsIn w (Lo B w) ks' vs' A) (hc : vs'.length ≤ c ∧ c ≤ maxLen) (hpl : plc A vs'.length = .agg #[.pointer p, .int .i64 m]) (hat : HeadPl B w V.R (plc A vs'.length)) :
    St si J ans B N w (⟨p, m, 0, A, c, ks', vs'⟩ :: V :: l) false f (raw.put e (plc A vs'.length) (.bool true)) ∧ left (⟨p, m, 0, A, c, ks', vs'⟩ :: V :: l) false < left (V :: l) false := by
  have hV := h.ok V List.mem_cons_self
  have hhi := hV.hi
  have hlo := hV.lo
  rw [hv, cnts_cons, cnt_mk] at hhi
  push_cast at hhi
  have epl : Vis.pl ⟨p, m, 0, A, c, ks', vs'⟩ = plc A vs'.length := hpl.symm
  refine ⟨⟨fun X hX => ?_, ⟨⟨ks', vs', ⟨n, s, x, ts, hv⟩, ⟨A, hin, epl⟩, by rw [epl]; exact hat, rfl, Nat.le_refl _⟩, h.chain⟩, (fun h => by cases h), h.szs, fun q b hq => ?_⟩, ?_⟩
  · rcases List.mem_cons.1 hX with rfl | hX
    · exact ⟨hin, hc, Int.le_refl _, by show (0 : Int) + (cnts vs' : Int) ≤ N; omega⟩
    · exact h.ok X hX
  · by_cases e1 : q = plc A vs'.length
    · subst e1
      rw [raw.put_same] at hq
      refine ⟨(Option.some.inj hq).symm, .inr ⟨⟨p, m, 0, A, c, ks', vs'⟩, ?_, epl⟩⟩
      rw [List.dropLast_cons_cons]
      exact List.mem_cons_self
    · rw [raw.put_other e1] at hq
      obtain ⟨hb, ho⟩ := h.ens q b hq
      refine ⟨hb, ho.imp id fun ⟨X, hX, hXp⟩ => ⟨X, ?_, hXp⟩⟩
      rw [List.dropLast_cons_cons]
      exact List.mem_cons_of_mem _ hX
  · simp only [left, hv, List.tail_cons, wks_cons, wk_mk, List.map_cons, List.sum_cons, List.length_cons]
    simp
    omega

/-- The rest behind the first item. -/
theorem IsIn.tail {S : Nat → Prop} {y : Ky} {ks : List Ky} {t : Tr} {vs : List Tr} {a : Addr} (h : IsIn w S (y :: ks) (t :: vs) (some a)) : IsIn w S ks vs (some (a.add 8)) := by
  obtain ⟨hl, hm, C, hc, ht⟩ := h
  refine ⟨by simpa using hl, by simp at hm; omega, fun i => C (i + 1), fun i hi => ?_, fun i hi => ?_⟩
  · obtain ⟨a', ha, hS, ⟨p0, p1, p2, p3, p4⟩, hs, hj⟩ := hc (i + 1) (by simpa using hi)
    obtain rfl := Option.some.inj ha
    have e : ∀ q, (a.add 8).add (8 * i + q) = a.add (8 * (i + 1) + q) := fun q => by rw [add_add']; congr 1; omega
    refine ⟨_, rfl, by rw [mem.add_block]; exact hS, ⟨?_, ?_, ?_, p3, p4⟩, hs, fun j hj5 => ?_⟩
    · have := e 0
      rw [Nat.add_zero, Nat.add_zero] at this
      rw [this]; exact p0
    · rw [e 1]; exact p1
    · rw [e 2]; exact p2
    · rw [e (3 + j)]; exact hj j hj5
  · exact ht (i + 1) (by simpa using hi)
end

end Go.Proofs.YtbgffmiffmmohaaGreatDoor.tree

/-
  A stack of lists that are still to be gone through, as it lies in memory.
  Conditions: those that each theorem names.
-/
namespace Go.Proofs.YtbgffmiffmmohaaGreatDoor.tree
open Go.ChangeShapes Go.WideShapes Go.ChangeAt Go.RowKit
set_option linter.unusedVariables false

/-- A list that is still to be gone through. -/
structure Pend where
  R : Option Addr
  c : Nat
  ks : List Ky
  vs : List Tr
def Pend.cell (l : Pend) : Value := .slice l.R l.vs.length l.c
structure PendOk (B : Nat) (w : World) (l : Pend) : Prop where
  isin : IsIn w (Lo B w) l.ks l.vs l.R
  cap : l.vs.length ≤ l.c ∧ l.c ≤ maxLen

def lefts : List Pend → Nat
  | [] => 0
  | l :: P => 1 + wks l.vs + lefts P
theorem lefts_len : ∀ P : List Pend, P.length ≤ lefts P
  | [] => Nat.le_refl _
  | l :: P => by have := lefts_len P; rw [lefts, List.length_cons]; omega

mutual
theorem wk_cnt : ∀ t, wk t ≤ 3 * cnt t
  | .mk _ _ _ _ _ vs => by have := wks_cnts vs; rw [wk, cnt]; omega
theorem wks_cnts : ∀ vs, wks vs ≤ 3 * cnts vs
  | [] => by rw [wks]; omega
  | t :: vs => by have h1 := wk_cnt t; have h2 := wks_cnts vs; rw [wks, cnts]; omega
end

/-! ### the lists in memory -/
abbrev SE : TypeId := 30
def PRow (w : World) (B : Nat) (way : Value) (P : List Pend) : Prop := w.ownsRow B SE 1 way P.length (P.reverse.map Pend.cell)
theorem PRow.below {w w' : World} {B : Nat} {way : Value} {P : List Pend} (h : PRow w B way P) (hb : Below w.heap.size w w') : PRow w' B way P :=
  World.ownsRow.kept h (mem.none_of_below hb) (by
    cases e : way.ownBlock with
    | none => exact .inl rfl
    | some k => exact .inr (by simp))
theorem PRow.top {w : World} {B : Nat} {way : Value} {l : Pend} {P : List Pend} (h : PRow w B way (l :: P)) :
    ∃ g c, way = .slice (some ⟨g, 0, none⟩) (P.length + 1) c ∧ B ≤ g ∧ P.length + 1 ≤ c ∧ c ≤ maxLen ∧ w.cell? ⟨g, P.length, none⟩ = some l.cell ∧ PRow w B (.slice (some ⟨g, 0, none⟩) P.length c) P := by
  obtain ⟨h1, h2⟩ := h
  rcases h2 with ⟨_, h0⟩ | ⟨g, cap, cur, rfl, hB, hg, hn, hm, hs, htake⟩
  · simp at h0
  · have hl : (P.reverse.map Pend.cell).length = P.length := by simp
    have er : (l :: P).reverse.map Pend.cell = P.reverse.map Pend.cell ++ [l.cell] := by simp
    rw [Nat.mul_one, er] at htake
    rw [Nat.mul_one] at hs
    simp only [List.length_cons] at htake hn
    refine ⟨g, cap, rfl, hB, hn, hm, ?_, ⟨by simp, .inr ⟨g, cap, cur, rfl, hB, hg, by omega, hm, by omega, ?_⟩⟩⟩
    · rw [cell_of_row w g _ cur SE _ hg]
      have e : (cur.toList.take (P.length + 1))[P.length]? = some l.cell := by
        rw [htake, List.getElem?_append_right (by omega), hl]
        simp
      rw [List.getElem?_take_of_lt (by omega)] at e
      simpa using e
    · have := congrArg (List.take P.length) htake
      rw [List.take_take, List.take_append_of_le_length (by omega), List.take_of_length_le (l := List.map _ _) (by omega)] at this
      rw [Nat.mul_one, ← this]
      congr 1
      omega

theorem seRow : (Tryz.prog.info? SE).map (fun i => (i.zero, i.size, i.bytes)) = some (some (.slice none 0 0), 1, 24) := by kernel_rfl
theorem PRow.kept4 {w w' : World} {B b : Nat} {way : Value} {P : List Pend} (h : PRow w B way P) (hg : w.grownBy w' (some b)) (hb : b < B) : PRow w' B way P :=
  World.ownsRow.kept h hg (by
    cases e : way.ownBlock with
    | none => exact .inl rfl
    | some k =>
      refine .inr (fun h2 => ?_)
      rcases h.2 with ⟨h0, _⟩ | ⟨g, cap, cur, h0, hB, _⟩
      · rw [h0] at e; cases e
      · rw [h0] at e
        injection e with e
        injection h2 with h2
        have : g = k := e
        omega)
theorem PRow.own {w : World} {B : Nat} {way : Value} {P : List Pend} (h : PRow w B way P) : ∀ k, way.ownBlock = some k → B ≤ k := fun k e => by
  rcases h.2 with ⟨h0, _⟩ | ⟨g, cap, cur, h0, hB, _⟩
  · rw [h0] at e; cases e
  · rw [h0] at e
    injection e with e
    have : g = k := e
    omega
theorem one_new (w : World) (a : Value) (t : TypeId) : ∀ j u, [a][j]? = some u → (w.alloc (.cells #[a] t)).cell? ((⟨w.heap.size, 0, none⟩ : Addr).add j) = some u := by
  intro j u hj
  rw [Addr.add_lit, Nat.zero_add, cell_of_row _ _ j _ t _ (heap_alloc_new w _)]
  simpa using hj

theorem one_new' (w : World) (a : Value) (t : TypeId) {N : Nat} (hN : w.heap.size = N) : ∀ j u, [a][j]? = some u → (w.alloc (.cells #[a] t)).cell? ((⟨N, 0, none⟩ : Addr).add j) = some u := by
  subst hN
  exact one_new w a t
theorem PRow.nil {w : World} {B : Nat} {way : Value} (h : PRow w B way []) : ∃ A c, way = .slice A 0 c := by
  rcases h.2 with ⟨h0, _⟩ | ⟨g, cap, cur, h0, _⟩
  · exact ⟨none, 0, h0⟩
  · exact ⟨_, cap, h0⟩

theorem alH {w : World} {B b : Nat} {f : Value → Option Value} (h : raw.Holds w (GB B) b f) (o : Obj) : raw.Holds (w.alloc o) (GB B) b f :=
  h.kept (Below.heap_alloc w o b h.lt) (fun x hx => hx.kp (Kp.below (b1 w o)))
theorem isin_one {w : World} {S : Nat → Prop} {g : Nat} {y : Ky} {k n x : Int} {s : ByteArray} {A : Option Addr} {L c : Nat} {t : TypeId} {T : Tr} (hS : S g) (hy : I64 y.num ∧ y.str.size ≤ maxLen)
    (hg : w.heap[g]? = some (.cells #[.bool y.text, .int .i64 y.num, .string y.str, .int .i64 k, .int .i64 n, .string s, .int .i64 x, .slice A L c] t (0, 0))) (h : TIn w S T (vV k n s x A L c)) : IsIn w S [y] [T] (some ⟨g, 0, none⟩) := by
  obtain ⟨r, -⟩ := rowc hg
  refine ⟨rfl, by simp [maxLen], fun _ => #[.int .i64 k, .int .i64 n, .string s, .int .i64 x, .slice A L c], fun i hi => ?_, fun i hi => ?_⟩
  · obtain rfl : i = 0 := by simp at hi; omega
    refine ⟨_, rfl, hS, ⟨?_, ?_, ?_, hy⟩, rfl, fun j hj => ?_⟩
    · rw [Addr.add_lit]; exact r 0
    · rw [Addr.add_lit]; exact r 1
    · rw [Addr.add_lit]; exact r 2
    · rw [Addr.add_lit]
      match j, hj with
      | 0, _ => exact r 3
      | 1, _ => exact r 4
      | 2, _ => exact r 5
      | 3, _ => exact r 6
      | 4, _ => exact r 7
  · obtain rfl : i = 0 := by simp at hi; omega
    exact h
theorem zeroBool (w : World) : (zeroValue 4).run Tryz.prog w = .ok (.bool false) w := by kernel_rfl
theorem got1_none (z : Value) : raw.Got false z none = z := rfl
theorem got1_some (z v : Value) : raw.Got false z (some v) = v := rfl
theorem got_some (z v : Value) : raw.Got true z (some v) = .tuple #[v, .bool true] := rfl
theorem got_none (z : Value) : raw.Got true z none = .tuple #[z, .bool false] := rfl

end Go.Proofs.YtbgffmiffmmohaaGreatDoor.tree

/-
  Items that a call appends one by one: a row of its own.
  Conditions: those that each theorem names.
-/
namespace Go.Proofs.YtbgffmiffmmohaaGreatDoor.tree
open Go.ChangeShapes Go.WideShapes Go.ChangeAt Go.RowKit
set_option linter.unusedVariables false

/-- lo or above, and not the row's own block. -/
def SX (lo : Nat) (v : Value) (b : Nat) : Prop := lo ≤ b ∧ v.ownBlock ≠ some b
def xAt8 (xs : List Value) (i : Nat) (y : Ky) (k n : Int) (s : ByteArray) (x : Int) (A : Option Addr) (L c : Nat) : Prop := ∀ q, q < 8 → xs[i * 8 + q]? = (eV y k n s x A L c).cells[q]?
def ORowX (w : World) (lo : Nat) (v : Value) (xs : List Value) (ks : List Ky) (vs : List Tr) : Prop :=
  w.ownsRow lo IE 8 v vs.length xs ∧ ks.length = vs.length ∧ ∀ i, i < vs.length → ∃ y k n s x ks' vs' A c, ks[i]? = some y ∧ vs[i]? = some (.mk k n s x ks' vs') ∧ (I64 y.num ∧ y.str.size ≤ maxLen) ∧
    xAt8 xs i y k n s x A vs'.length c ∧ TIn w (SX lo v) (.mk k n s x ks' vs') (vV k n s x A vs'.length c)
def ORow (w : World) (lo : Nat) (v : Value) (ks : List Ky) (vs : List Tr) : Prop := ∃ xs, ORowX w lo v xs ks vs

section
variable {w w' : World} {lo : Nat} {v : Value} {ks : List Ky} {vs : List Tr}
theorem ORow.nil (w : World) (lo : Nat) : ORow w lo (.slice none 0 0) [] [] := ⟨[], World.ownsRow_nil w lo _ 8, rfl, fun i hi => absurd hi (by simp)⟩
theorem ownBlock_keep {v : Value} : v.ownBlock = none ∨ v.ownBlock ≠ (none : Option Nat) := by
  cases e : v.ownBlock with
  | none => exact .inl rfl
  | some k => exact .inr (by simp)
theorem ORowX.below {xs : List Value} (h : ORowX w lo v xs ks vs) (hb : Below w.heap.size w w') : ORowX w' lo v xs ks vs := by
  obtain ⟨h1, h2, h3⟩ := h
  refine ⟨World.ownsRow.kept h1 (mem.none_of_below hb) ownBlock_keep, h2, fun i hi => ?_⟩
  obtain ⟨y, k, n, s, x, ks', vs', A, c, a1, a2, a3, a4, a5⟩ := h3 i hi
  exact ⟨y, k, n, s, x, ks', vs', A, c, a1, a2, a3, a4, a5.below' hb⟩
theorem ORow.below (h : ORow w lo v ks vs) (hb : Below w.heap.size w w') : ORow w' lo v ks vs := by
  obtain ⟨xs, h⟩ := h
  exact ⟨xs, h.below hb⟩
theorem ORowX.above {xs : List Value} (h : ORowX w lo v xs ks vs) (hs : ∀ b, lo ≤ b → b < w.heap.size → w'.heap[b]? = w.heap[b]?) : ORowX w' lo v xs ks vs := by
  obtain ⟨h1, h2, h3⟩ := h
  refine ⟨⟨h1.1, ?_⟩, h2, fun i hi => ?_⟩
  · rcases h1.2 with h | ⟨g, cap, cur, e, hlo, hg, hr⟩
    · exact .inl h
    · exact .inr ⟨g, cap, cur, e, hlo, (hs g hlo (Array.getElem?_eq_some_iff.1 hg).1).trans hg, hr⟩
  · obtain ⟨y, k, n, s, x, ks', vs', A, c, a1, a2, a3, a4, a5⟩ := h3 i hi
    exact ⟨y, k, n, s, x, ks', vs', A, c, a1, a2, a3, a4, a5.stays (fun _ h => h) fun b hb hlt => hs b hb.1 hlt⟩
theorem ORow.above (h : ORow w lo v ks vs) (hs : ∀ b, lo ≤ b → b < w.heap.size → w'.heap[b]? = w.heap[b]?) : ORow w' lo v ks vs := by
  obtain ⟨xs, h⟩ := h
  exact ⟨xs, h.above hs⟩
theorem ORow.block (h : ORow w lo v ks vs) : ∀ k, v.ownBlock = some k → lo ≤ k ∧ k < w.heap.size := by
  obtain ⟨xs, h1, -⟩ := h
  exact h1.lt

/-- One more. -/
theorem ORowX.more {xs : List Value} (h : ORowX w lo v xs ks vs)
    {y : Ky} {k n x : Int} {s : ByteArray} {ks' : List Ky} {vs' : List Tr} {A : Option Addr} {c : Nat} (hy : I64 y.num ∧ y.str.size ≤ maxLen) (ht : TIn w (SX lo v) (.mk k n s x ks' vs') (vV k n s x A vs'.length c))
    {v' : Value} (ho : w'.ownsRow lo IE 8 v' (vs.length + 1) (xs ++ [.bool y.text, .int .i64 y.num, .string y.str, .int .i64 k, .int .i64 n, .string s, .int .i64 x, .slice A vs'.length c])) (hg : w.grownBy w' v.ownBlock) (hat : v'.ownBlock = v.ownBlock ∨ v'.ownBlock = some w.heap.size) :
    ORow w' lo v' (ks ++ [y]) (vs ++ [.mk k n s x ks' vs']) := by
  obtain ⟨h1, h2, h3⟩ := h
  have hxl : xs.length = vs.length * 8 := h1.1
  have st : ∀ {t : Tr} {u : Value}, TIn w (SX lo v) t u → TIn w' (SX lo v') t u := fun {t u} h => by
    have h' : TIn w (fun b => SX lo v b ∧ b < w.heap.size) t u := by
      induction h with
      | mk k n s x ks vs A cap C hk hl hm hcap hc ht ih =>
        refine .mk k n s x ks vs A cap C hk hl hm hcap (fun i hi => ?_) ih
        obtain ⟨a, ha, hS, hky, hs, hj⟩ := hc i hi
        refine ⟨a, ha, ⟨hS, ?_⟩, hky, hs, hj⟩
        have := World.block_lt_of_cell? _ _ hky.1
        rwa [mem.add_block] at this
    exact h'.stays (fun b ⟨⟨hb1, hb2⟩, hb3⟩ => ⟨hb1, fun e => by
      rcases hat with h | h
      · exact hb2 (h ▸ e)
      · rw [h] at e; injection e with e; omega⟩) (fun b ⟨⟨hb1, hb2⟩, hb3⟩ hlt => hg.block b hlt (fun e => hb2 e.symm))
  refine ⟨_, by rw [List.length_append]; exact ho, by rw [List.length_append, List.length_append, h2]; rfl, fun i hi => ?_⟩
  rw [List.length_append] at hi
  simp only [List.length_cons, List.length_nil] at hi
  by_cases e : i = vs.length
  · subst e
    refine ⟨y, k, n, s, x, ks', vs', A, c, by rw [List.getElem?_append_right (by omega), h2]; simp, by rw [List.getElem?_append_right (by omega)]; simp, hy, fun q hq => ?_, st ht⟩
    rw [List.getElem?_append_right (by omega), hxl, Nat.add_sub_cancel_left]
    match q, hq with
    | 0, _ => rfl
    | 1, _ => rfl
    | 2, _ => rfl
    | 3, _ => rfl
    | 4, _ => rfl
    | 5, _ => rfl
    | 6, _ => rfl
    | 7, _ => rfl
  · obtain ⟨y1, k1, n1, s1, x1, ks1, vs1, A1, c1, a1, a2, a3, a4, a5⟩ := h3 i (by omega)
    refine ⟨y1, k1, n1, s1, x1, ks1, vs1, A1, c1, by rw [List.getElem?_append_left (by omega)]; exact a1, by rw [List.getElem?_append_left (by omega)]; exact a2, a3, fun q hq => ?_, st a5⟩
    rw [List.getElem?_append_left (by omega)]
    exact a4 q hq

theorem ORow.isin (h : ORow w lo v ks vs) (hm : vs.length ≤ maxLen) : ∃ A c, v = .slice A vs.length c ∧ (vs.length ≤ c ∧ c ≤ maxLen) ∧ IsIn w (fun b => lo ≤ b) ks vs A := by
  obtain ⟨xs, h1, h2, h3⟩ := h
  rcases h1.2 with ⟨rfl, h0⟩ | ⟨g, cap, cur, rfl, hlo, hg, hnc, hcm, hsz, htk⟩
  · obtain rfl : vs = [] := List.length_eq_zero_iff.1 h0
    obtain rfl : ks = [] := List.length_eq_zero_iff.1 h2
    exact ⟨none, 0, rfl, ⟨by simp, by simp⟩, IsIn.nil _ _ _⟩
  · refine ⟨some ⟨g, 0, none⟩, cap, rfl, ⟨hnc, hcm⟩, h2, hm, ?_⟩
    have each : ∀ i, ∃ C : Array Value, ∀ (hi : i < vs.length), KyAt w ⟨g, 0, none⟩ i (ks[i]'(h2 ▸ hi)) ∧ C.size = 5 ∧ (∀ j, j < 5 → w.cell? ((⟨g, 0, none⟩ : Addr).add (8 * i + (3 + j))) = C[j]?) ∧ TIn w (fun b => lo ≤ b) (vs[i]) (.agg C) := by
      intro i
      by_cases hi : i < vs.length
      · obtain ⟨y, k, n, s, x, ks', vs', A, c, hy, ht, hyb, hat, hT⟩ := h3 i hi
        have ey : ks[i]'(h2 ▸ hi) = y := by rw [List.getElem?_eq_getElem (h2 ▸ hi)] at hy; exact Option.some.inj hy
        have et : vs[i] = .mk k n s x ks' vs' := by rw [List.getElem?_eq_getElem hi] at ht; exact Option.some.inj ht
        have at_ : ∀ q, q < 8 → w.cell? ((⟨g, 0, none⟩ : Addr).add (8 * i + q)) = (eV y k n s x A vs'.length c).cells[q]? := fun q hq => by
          rw [Addr.add_lit, Nat.zero_add, cell_of_row w g _ cur IE _ hg, ← hat q hq, ← htk, List.getElem?_take_of_lt (by omega), Nat.mul_comm]
          simp
        refine ⟨#[.int .i64 k, .int .i64 n, .string s, .int .i64 x, .slice A vs'.length c], fun _ => ?_⟩
        rw [ey, et]
        refine ⟨⟨at_ 0 (by omega), at_ 1 (by omega), at_ 2 (by omega), hyb⟩, rfl, fun j hj => ?_, hT.stays (fun b hb => hb.1) (fun b _ _ => rfl)⟩
        rw [at_ (3 + j) (by omega)]
        match j, hj with
        | 0, _ => rfl
        | 1, _ => rfl
        | 2, _ => rfl
        | 3, _ => rfl
        | 4, _ => rfl
      · exact ⟨#[], fun h => absurd h hi⟩
    exact ⟨fun i => (each i).choose, fun i hi => ⟨_, rfl, hlo, ((each i).choose_spec hi).1, ((each i).choose_spec hi).2.1, ((each i).choose_spec hi).2.2.1⟩, fun i hi => ((each i).choose_spec hi).2.2.2⟩
end

theorem addr_far {N j : Nat} (h : N < j) (o : Nat) : ∀ p : Addr, p.block < N + 1 → (⟨j, o, none⟩ : Addr) ≠ p := fun p hp e => by
  rw [← e] at hp
  simp only at hp
  omega
theorem ie_info : ∃ i, Tryz.prog.info? IE = some i ∧ (i.zero = some (.agg #[.bool false, .int .i64 0, .string ⟨#[]⟩, .int .i64 0, .int .i64 0, .string ⟨#[]⟩, .int .i64 0, .slice none 0 0]) ∧ i.size = 8 ∧ i.bytes = 96) := by
  have := ieRow
  cases hq : Tryz.prog.info? IE with
  | none => rw [hq] at this; cases this
  | some i => rw [hq] at this; simp at this; exact ⟨i, rfl, this⟩
theorem eight_one (b : Bool) (n : Int) (s : ByteArray) (k m : Int) (z : ByteArray) (x : Int) (A : Option Addr) (L c : Nat) : ∀ u ∈ [Value.bool b, .int .i64 n, .string s, .int .i64 k, .int .i64 m, .string z, .int .i64 x, .slice A L c], u.oneCell' = true := by simp [Value.oneCell']
theorem eight_new (w : World) (c0 c1 c2 c3 c4 c5 c6 c7 : Value) (t : TypeId) : ∀ j u, [c0, c1, c2, c3, c4, c5, c6, c7][j]? = some u → (w.alloc (.cells #[c0, c1, c2, c3, c4, c5, c6, c7] t)).cell? ((⟨w.heap.size, 0, none⟩ : Addr).add j) = some u := by
  intro j u hj
  rw [Addr.add_lit, Nat.zero_add, cell_of_row _ _ j _ t _ (heap_alloc_new w _)]
  simpa using hj

end Go.Proofs.YtbgffmiffmmohaaGreatDoor.tree

