/-
  The laws' marks: what they leave in a value.
  Conditions: those that each theorem names.
-/
import Derived.Test.YtlbkbcafkjgckaaPar
namespace Go.Proofs.Ytlbkbcafkjgckaa.tree
open Go.ChangeShapes Go.WideShapes Go.ChangeAt Go.RowKit
set_option linter.unusedVariables false

theorem cnts_nil : cnts [] = 0 := by rw [cnts]
theorem cnts_cons' (t : Tr) (vs : List Tr) : cnts (t :: vs) = cnt t + cnts vs := by rw [cnts]
theorem cnt_mk' (k n : Int) (s : ByteArray) (x : Int) (ks : List Ky) (vs : List Tr) : cnt (.mk k n s x ks vs) = 1 + cnts vs := by rw [cnt]
theorem cnts_app : ∀ (a b : List Tr), cnts (a ++ b) = cnts a + cnts b
  | [], b => by rw [cnts_nil]; simp
  | t :: a, b => by rw [List.cons_append, cnts_cons', cnts_cons', cnts_app a b]; omega
theorem cnts_take {vs : List Tr} {j : Nat} {t : Tr} (h : vs[j]? = some t) : cnts (vs.take (j + 1)) = cnts (vs.take j) + cnt t := by
  obtain ⟨hj, rfl⟩ := List.getElem?_eq_some_iff.1 h
  rw [List.take_succ_eq_append_getElem hj, cnts_app, cnts_cons', cnts_nil]
  omega
theorem cnts_le (vs : List Tr) (j : Nat) : cnts (vs.take j) ≤ cnts vs := by
  have := cnts_app (vs.take j) (vs.drop j)
  rw [List.take_append_drop] at this
  omega
theorem cnts_lt {vs : List Tr} {j : Nat} {t : Tr} (h : vs[j]? = some t) : cnts (vs.take j) + cnt t ≤ cnts vs := by
  rw [← cnts_take h]
  exact cnts_le vs (j + 1)

/-- The digits of a number, before a text. -/
def digOf (k : Nat) : ByteArray := ⟨#[UInt8.ofNat (48 + k % 10)]⟩
def mgo : Nat → Nat → ByteArray → ByteArray
  | 0, _, out => out
  | f + 1, k, out => if k = 0 then out else mgo f (k / 10) (digOf k ++ out)
def mtx (k : Int) : ByteArray := "m".toUTF8 ++ mgo 30 k.toNat ⟨#[]⟩

/-- The key and the value that the marks from m on leave. -/
def mkY (m : Int) : Ky := ⟨decide (m % 3 = 0), m + 1, mtx (m + 2)⟩
def mkK (m : Int) : List Tr → List Ky
  | [] => []
  | t :: vs => mkY m :: mkK (m + 7 * cnt t) vs
mutual
def mkT (m : Int) : Tr → Tr
  | .mk _ _ _ _ _ vs => .mk (m + 3) (m + 4) (mtx (m + 5)) (m + 6) (mkK (m + 7) vs) (mkV (m + 7) vs)
def mkV (m : Int) : List Tr → List Tr
  | [] => []
  | t :: vs => mkT m t :: mkV (m + 7 * cnt t) vs
end
theorem mkT_mk (m k n : Int) (s : ByteArray) (x : Int) (ks : List Ky) (vs : List Tr) : mkT m (.mk k n s x ks vs) = .mk (m + 3) (m + 4) (mtx (m + 5)) (m + 6) (mkK (m + 7) vs) (mkV (m + 7) vs) := by rw [mkT]
theorem mkK_len : ∀ (m : Int) (vs : List Tr), (mkK m vs).length = vs.length
  | _, [] => rfl
  | m, t :: vs => by rw [mkK, List.length_cons, mkK_len, List.length_cons]
theorem mkV_len : ∀ (m : Int) (vs : List Tr), (mkV m vs).length = vs.length
  | _, [] => by rw [mkV]
  | m, t :: vs => by rw [mkV, List.length_cons, mkV_len, List.length_cons]
theorem mkK_get : ∀ (m : Int) (vs : List Tr) (j : Nat) (t : Tr), vs[j]? = some t → (mkK m vs)[j]? = some (mkY (m + 7 * cnts (vs.take j)))
  | _, [], j, t, h => by simp at h
  | m, u :: vs, 0, t, h => by simp [mkK, cnts_nil]
  | m, u :: vs, j + 1, t, h => by
    rw [mkK, List.getElem?_cons_succ, mkK_get (m + 7 * cnt u) vs j t (by simpa using h), List.take_succ_cons, cnts_cons']
    congr 2
    push_cast
    omega
theorem mkV_get : ∀ (m : Int) (vs : List Tr) (j : Nat) (t : Tr), vs[j]? = some t → (mkV m vs)[j]? = some (mkT (m + 7 * cnts (vs.take j)) t)
  | _, [], j, t, h => by simp at h
  | m, u :: vs, 0, t, h => by
    simp at h
    subst h
    simp [mkV, cnts_nil]
  | m, u :: vs, j + 1, t, h => by
    rw [mkV, List.getElem?_cons_succ, mkV_get (m + 7 * cnt u) vs j t (by simpa using h), List.take_succ_cons, cnts_cons']
    congr 2
    push_cast
    omega

/-- The first j of one list, then the other. -/
def mix {α : Type} (a b : List α) (j : Nat) : List α := a.take j ++ b.drop j
theorem mix_len {α : Type} {a b : List α} (h : a.length = b.length) (j : Nat) : (mix a b j).length = b.length := by
  unfold mix
  rw [List.length_append, List.length_take, List.length_drop]
  omega
theorem mix_lt {α : Type} {a b : List α} (h : a.length = b.length) {i j : Nat} (hi : i < j) (hj : j ≤ a.length) : (mix a b j)[i]? = a[i]? := by
  unfold mix
  rw [List.getElem?_append_left (by rw [List.length_take]; omega), List.getElem?_take_of_lt hi]
theorem mix_ge {α : Type} {a b : List α} (h : a.length = b.length) {i j : Nat} (hi : j ≤ i) (hj : j ≤ a.length) : (mix a b j)[i]? = b[i]? := by
  unfold mix
  rw [List.getElem?_append_right (by rw [List.length_take]; omega), List.length_take, List.getElem?_drop]
  congr 1
  omega
theorem mix_zero {α : Type} (a b : List α) : mix a b 0 = b := by simp [mix]
theorem mix_all {α : Type} {a b : List α} (h : a.length = b.length) : mix a b b.length = a := by simp [mix, ← h]

def MtQ (w : World) (k : Int) (e : Ending) (w' : World) : Prop := e = .returned (.string (mtx k)) ∧ Below w.heap.size w w'
theorem mgo_size : ∀ (f k : Nat) (out : ByteArray), (mgo f k out).size ≤ f + out.size
  | 0, _, out => by simp [mgo]
  | f + 1, k, out => by
    rw [mgo]
    split
    · omega
    · have := mgo_size f (k / 10) (digOf k ++ out)
      rw [ByteArray.size_append] at this
      have e : (digOf k).size = 1 := rfl
      omega
theorem mtx_size (k : Int) : (mtx k).size ≤ 31 := by
  unfold mtx
  rw [ByteArray.size_append]
  have := mgo_size 30 k.toNat ⟨#[]⟩
  have e : ("m".toUTF8 : ByteArray).size = 1 := by decide
  have e0 : (⟨#[]⟩ : ByteArray).size = 0 := rfl
  omega

end Go.Proofs.Ytlbkbcafkjgckaa.tree
