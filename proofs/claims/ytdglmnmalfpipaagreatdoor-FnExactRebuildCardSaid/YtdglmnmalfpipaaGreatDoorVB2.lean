/-
  What the texts behind this one use: 7 parts of one proof.
  Conditions: those that each theorem names.
-/
import Derived.Test.YtdglmnmalfpipaaGreatDoorVB1
import Derived.WalkKit
import Derived.ProofKit
import Derived.IntWalk
import Derived.BigQuiet
import Derived.Deep.QuietTactic
import Derived.WalkLawsBesides
import Derived.Deep.LoopGhost
import Derived.Below
import Derived.Test.YtdglmnmalfpipaaGreatDoorRows
import Derived.Lib.Hide
import Derived.WalkSmall
import Derived.Lib.OthersKept
import Derived.Laws.RangeAny
import Derived.Lib.Strings
/-
  How a value and a key that came in are opened.
  Conditions: those that each theorem names.
-/
namespace Go.Proofs.YtdglmnmalfpipaaGreatDoor.opt
open Go.ChangeShapes Go.WideShapes Go.ChangeAt Go.RowKit mem tree
set_option linter.unusedVariables false

section
variable {H : Type} {enc : TypeId × Value → H}

theorem types : Types Tryz.prog LV LE LK 70 where
  value := ⟨_, _, _, _, _, Tryz.underlying72, by kernel_rfl, by kernel_rfl, by kernel_rfl, by kernel_rfl, by kernel_rfl, by kernel_rfl⟩
  items := Tryz.underlying70
  item := ⟨_, _, Tryz.underlying197, by kernel_rfl, by kernel_rfl, by kernel_rfl, by kernel_rfl⟩
  key := ⟨_, _, _, Tryz.underlying69, by kernel_rfl, by kernel_rfl, by kernel_rfl, by kernel_rfl⟩
  cV := by kernel_rfl
  cE := by kernel_rfl
  cK := by kernel_rfl

set_option maxRecDepth 100000 in
theorem open_value {W : World} {base : Nat} {v : Value} {d : DataW H} {ps : List MemPlace} (hval : Value.okWide Tryz.prog W .any base LV v) (h : DataW.Trod enc Tryz.prog W 0 (fun _ => true) true LV v d ps) : ∃ t, TIn W (fun _ => True) t v := by
  obtain ⟨cs, rfl, hsz⟩ := okWide_struct Tryz.underlying72 hval
  obtain ⟨fuel, hf⟩ := h
  exact open_tree types fuel _ _ hf

set_option maxRecDepth 100000 in
theorem open_key {W : World} {base : Nat} {v : Value} {d : DataW H} {ps : List MemPlace} (hval : Value.okWide Tryz.prog W .any base LK v) (h : DataW.Trod enc Tryz.prog W 0 (fun _ => true) true LK v d ps) : ∃ y : Ky, v = kyV y ∧ I64 y.num ∧ y.str.size ≤ maxLen := by
  obtain ⟨cs, rfl, hsz⟩ := okWide_struct Tryz.underlying69 hval
  obtain ⟨fuel, hf⟩ := h
  obtain ⟨y, he, hn, hs⟩ := tree.open_key types hf
  refine ⟨y, ?_, hn, hs⟩
  unfold kyV
  congr 1
  apply Array.ext'
  simpa [Value.cells] using he
end

end Go.Proofs.YtdglmnmalfpipaaGreatDoor.opt

/-
  How a slice of integers that came in is opened.
  Conditions: those that the theorem names.
-/
namespace Go.Proofs.YtdglmnmalfpipaaGreatDoor.opn
open Go.ChangeShapes Go.WideShapes Go.ChangeAt Go.RowKit mem imem
set_option linter.unusedVariables false

section
variable {H : Type} {enc : TypeId × Value → H} {P : Program}

/-- A slice of integers that came in. -/
theorem open_numbers {W : World} {base : Nat} {t e : TypeId} {v : Value} {d : DataW H} {ps : List MemPlace} (ht : P.underlying t = some (.slice e)) (he : P.underlying e = some (.int .i64)) (hc : P.cellsOf e = 1)
    (hval : Value.okWide P W .any base t v) (h : DataW.Trod enc P W 0 (fun _ => true) true t v d ps) :
    ∃ (A : Option Addr) (n c : Nat) (l : List Int), v = .slice A n c ∧ n ≤ maxLen ∧ RdI W A n l := by
  obtain ⟨A, n, c, rfl⟩ := okWide_slice ht hval
  obtain ⟨fuel, hf⟩ := h
  rcases open_ints ht he hc hf with ⟨hcs, _⟩ | ⟨a, len, cap, zs, hcs, _, hl, hm, hz, _, hcell, hwz⟩
  · simp [Value.cells] at hcs
    obtain ⟨rfl, rfl, rfl⟩ := hcs
    exact ⟨none, 0, 0, [], rfl, Nat.zero_le _, rfl, fun hn => absurd hn (by omega)⟩
  · simp [Value.cells] at hcs
    obtain ⟨rfl, rfl, rfl⟩ := hcs
    simp only [if_true] at hz
    have hle : n ≤ zs.length := by omega
    refine ⟨some a, n, c, zs.take n, rfl, by omega, by rw [List.length_take]; omega, fun hn => ⟨a, rfl, fun j x hx => ?_⟩⟩
    have hj : j < n := by
      have := (List.getElem?_eq_some_iff.1 hx).1
      rw [List.length_take] at this
      omega
    rw [List.getElem?_take, if_pos hj] at hx
    have hcj := hcell j (by omega)
    rw [hcj]
    simp [List.getD, hx]
end
end Go.Proofs.YtdglmnmalfpipaaGreatDoor.opn

/-
  What the law's helpers on slices of integers return: a copy, and the test of two.
  Conditions: the slices have at most 2^44 integers.
-/
namespace Go.Proofs.YtdglmnmalfpipaaGreatDoor.ints
open Go.ChangeShapes Go.WideShapes Go.ChangeAt Go.RowKit mem imem
set_option linter.unusedVariables false

/-- A new slice of integers that reads as l. -/
def MadeI (w : World) (l : List Int) (e : Ending) (w' : World) : Prop := ∃ A n c, e = .returned (.slice A n c) ∧ OwnI w' w.heap.size A n c l ∧ w.grownBy w' none

theorem toInts (A : Option Addr) (n c : Nat) (l : List Int) (hn : n ≤ 17592186044416) (w : World) (hA : RdI w A n l) :
    Calls Tryz.prog 114 #[.slice A n c] w (MadeI w l) := by
  have hl := hA.len
  obtain ⟨i0, hi, hz0, hz1, hz2⟩ := info_parts i64row
  have HA := Lib.hid hA; have HL := Lib.hid hl; have HZ := Lib.hid hz2; clear hA hl hz2
  go_enter Tryz.func114, Tryz.ntmps114
  go_wp2_with (at_make; refine wpList_make_full _ rfl _ _ 24 rfl w.heap.size 3 i0 (.int .i64 0) 1 Tryz.underlying24 hi hz0 hz1 _ _ _ _ n rfl rfl rfl rfl (by have := HZ.out; rw [this]; omega) (by unfold maxLen; omega) (Nat.le_refl _) ?_)
  intro w1 hown hg
  have ho : OwnI w1 w.heap.size (some ⟨w.heap.size, 0, none⟩) n n (List.replicate n 0) := ⟨List.length_replicate, by rw [ics_zero, ← toList_madeCells_one, ← Nat.mul_one n]; simpa using hown⟩
  have HO := Lib.hid ho; have HG := Lib.hid hg; clear ho hown hg
  go_wp2
  go_loopg [4] n (fun gk i wr => ∃ (k : Nat) (m : List Int), i = .int .i64 k ∧ gk + k = n ∧ OwnI wr w.heap.size (some ⟨w.heap.size, 0, none⟩) n n m ∧ Filled l m k ∧ w.grownBy wr none)
  case atStart => exact ⟨0, _, rfl, by omega, HO.out, Filled.start _ _ (by rw [List.length_replicate]; exact HL.out.symm), HG.out⟩
  case round =>
    obtain ⟨k, m, rfl, hk, ho, hf, hg⟩ := hrel
    have hr := HA.out.grown hg (Off.none_ _ _)
    by_cases hlt : k < n
    · obtain ⟨a, v, rfl, hv, hc⟩ := hr.at_ hlt
      obtain ⟨⟨u, hcu⟩, hfu⟩ := ho.cellk hlt
      obtain ⟨ho1, hg1⟩ := ho.set k v
      have hf1 := hf.step hv
      have hgg : w.grownBy (wr.setCell ⟨w.heap.size, k, none⟩ (.int .i64 v)) none := ⟨hg1.os.trans hg.os, hg1.tape.trans hg.tape, hg1.output.trans hg.output, Nat.le_trans hg.size hg1.size, fun j hj hne => (hg1.block j (Nat.lt_of_lt_of_le hj hg.size) (by intro e; injection e with e; omega)).trans (hg.block j hj hne)⟩
      have H1 := Lib.hid ho1; have H2 := Lib.hid hf1; have H3 := Lib.hid hgg; have HK := Lib.hid hk
      clear ho hr hg hf ho1 hg1 hf1 hgg hv hk
      go_wp2
      go_roundg (n - (k + 1))
      case measure => have := HK.out; omega
      case rel => exact ⟨k + 1, _, by go_num, by have := HK.out; omega, H1.out, H2.out, H3.out⟩
    · have hm : m = l := hf.all (by have := HL.out; omega)
      subst hm
      have H1 := Lib.hid ho; have H3 := Lib.hid hg; have HK := Lib.hid hk
      clear ho hr hg hf hk
      go_wp2
      go_ret
      exact ⟨_, _, _, rfl, H1.out, H3.out⟩

/-- A call that answers b and only makes memory. -/
def BoolQ (w : World) (b : Bool) (e : Ending) (w' : World) : Prop := e = .returned (.bool b) ∧ w.grownBy w' none

/-- Two slices that read alike. -/
theorem eqInts (A B : Option Addr) (n c d : Nat) (l : List Int) (hn : n ≤ 17592186044416) (w : World) (hA : RdI w A n l) (hB : RdI w B n l) :
    Calls Tryz.prog 117 #[.slice A n c, .slice B n d] w (BoolQ w true) := by
  have HA := Lib.hid hA; have HB := Lib.hid hB; clear hA hB
  go_enter Tryz.func117, Tryz.ntmps117
  go_wp2
  go_loopg [5] n (fun gk i wr => ∃ (k : Nat), i = .int .i64 k ∧ gk + k = n ∧ w.grownBy wr none)
  case atStart => exact ⟨0, rfl, by omega, World.grownBy.refl _ _⟩
  case round =>
    obtain ⟨k, rfl, hk, hg⟩ := hrel
    by_cases hlt : k < n
    · obtain ⟨a, v, rfl, hv, hc⟩ := (HA.out.grown hg (Off.none_ _ _)).at_ hlt
      obtain ⟨b, v', rfl, hv', hc'⟩ := (HB.out.grown hg (Off.none_ _ _)).at_ hlt
      obtain rfl : v = v' := Option.some.inj (hv.symm.trans hv')
      have HG := Lib.hid hg; have HK := Lib.hid hk
      clear hg hk hv hv'
      go_wp2
      go_quiet (fail)
      go_wp2
      go_roundg (n - (k + 1))
      case measure => have := HK.out; omega
      case rel => exact ⟨k + 1, by go_num, by have := HK.out; omega, grown_draws HG.out _⟩
    · have HG := Lib.hid hg; have HK := Lib.hid hk
      clear hg hk
      go_wp2
      go_ret
      exact ⟨rfl, HG.out⟩

end Go.Proofs.YtdglmnmalfpipaaGreatDoor.ints

/-
  Plain facts on digests, without the program: how one number is folded into a digest, and a list of them.
  Conditions: those that each theorem names.
-/
namespace Go.Proofs.YtdglmnmalfpipaaGreatDoor.dig
set_option linter.unusedVariables false

/-- A digest after one number more. -/
def step (d v : Int) : Int := (d * 1000003 + v % 2147483647 + 13) % 2147483647
def fold (d : Int) (l : List Int) : Int := l.foldl step d
def In (d : Int) : Prop := 0 ≤ d ∧ d ≤ 2147483646

theorem step_in (d v : Int) : In (step d v) := by unfold step In; omega
theorem fold_nil (d : Int) : fold d [] = d := rfl
theorem fold_cons (d v : Int) (l : List Int) : fold d (v :: l) = fold (step d v) l := rfl
theorem fold_app (d : Int) (a b : List Int) : fold d (a ++ b) = fold (fold d a) b := List.foldl_append
theorem fold_one (d v : Int) : fold d [v] = step d v := rfl
theorem fold_in {d : Int} (h : In d) : ∀ l : List Int, In (fold d l) := fun l => by
  induction l generalizing d with
  | nil => exact h
  | cons v l ih => exact ih (step_in d v)
theorem in11 : In 11 := by unfold In; omega
theorem fold_take {l : List Int} {k : Nat} {v : Int} (d : Int) (h : l[k]? = some v) : fold d (l.take (k + 1)) = step (fold d (l.take k)) v := by
  obtain ⟨hk, e⟩ := List.getElem?_eq_some_iff.1 h
  rw [List.take_succ_eq_append_getElem hk, fold_app, e]
  rfl
theorem fold_all {l : List Int} {k : Nat} (d : Int) (h : l.length ≤ k) : fold d (l.take k) = fold d l := by rw [List.take_of_length_le h]
theorem step_byte (d v : Int) (h0 : 0 ≤ v) (h1 : v ≤ 255) : (d * 1000003 + v + 13) % 2147483647 = step d v := by
  unfold step
  rw [show v % 2147483647 = v by omega]
theorem step5 (d : Int) : step d 5 = (d * 1000003 + 18) % 2147483647 := by
  unfold step
  rw [show d * 1000003 + 5 % 2147483647 + 13 = d * 1000003 + 18 by omega]

end Go.Proofs.YtdglmnmalfpipaaGreatDoor.dig

/-
  What Mod and InRange of the project and of the model, and the model's own range test, return at every integer; they change nothing.
  Conditions: none but that arguments are of Go's type int.
-/
namespace Go.Proofs.YtdglmnmalfpipaaGreatDoor.mdl
open Go.ChangeShapes Go.WideShapes Go.ChangeAt Go.RowKit
set_option linter.unusedVariables false

def inr (n l h : Int) : Bool := decide (l ≤ n) && decide (n ≤ h)
theorem inr_of {n l h : Int} (h0 : l ≤ n) (h1 : n ≤ h) : inr n l h = true := by unfold inr; simp; omega
theorem inr_not {n l h : Int} (hh : ¬ (l ≤ n ∧ n ≤ h)) : inr n l h = false := by unfold inr; simp; omega

theorem ret_int {k : IntKind} {a b : Int} (h : a = b) : Ending.returned (.int k a) = .returned (.int k b) := by rw [h]

theorem l1In (n l h : Int) (w : World) : Calls Tryz.prog 66 #[.int .i64 n, .int .i64 l, .int .i64 h] w fun e w' => e = .returned (.bool (inr n l h)) ∧ w = w' := by
  by_cases h1 : l ≤ n
  all_goals
    by_cases h2 : n ≤ h
    all_goals
      go_enter Tryz.func66, Tryz.ntmps66
      go_wp2
      go_ret
      exact ⟨by simp [inr, h1, h2], rfl⟩

theorem implInRange (n l h : Int) (w : World) : Calls Tryz.prog 95 #[.int .i64 n, .int .i64 l, .int .i64 h] w fun e w' => e = .returned (.bool (inr n l h)) ∧ w = w' := by
  by_cases h1 : l ≤ n
  all_goals
    by_cases h2 : n ≤ h
    all_goals
      go_enter Tryz.func95, Tryz.ntmps95
      go_wp2
      go_ret
      exact ⟨by simp [inr, h1, h2], rfl⟩

theorem tm_bd (n m : Int) (h : 1 ≤ m) : -m < n.tmod m ∧ n.tmod m < m ∧ (n.tmod m + m) % m = n % m ∧ (n.tmod m < 0 → n.tmod m + m = n % m) ∧ (0 ≤ n.tmod m → n.tmod m = n % m) := by
  have e1 := Int.emod_nonneg n (b := m) (by omega)
  have e2 := Int.emod_lt_of_pos n (b := m) (by omega)
  have e3 : (n % m + m) % m = n % m := by rw [Int.add_emod_right, Int.emod_emod]
  have e4 : n % m % m = n % m := Int.emod_emod _ _
  rw [Int.tmod_eq_emod]
  split
  · have z : n % m - ((0 : Nat) : Int) = n % m := by omega
    rw [z]; exact ⟨by omega, by omega, e3, by omega, by omega⟩
  · rename_i hn
    have h0 : n % m ≠ 0 := fun hh => hn (Or.inr (Int.dvd_of_emod_eq_zero hh))
    have h1 : (m.natAbs : Int) = m := by omega
    rw [h1]
    have e5 : n % m - m + m = n % m := by omega
    rw [e5]
    exact ⟨by omega, by omega, e4, by omega, by omega⟩

def md (n m : Int) : Int := if inr m 1 1000000000000 = true then n % m else 0

theorem specMod (n m : Int) (w : World) : Calls Tryz.prog 146 #[.int .i64 n, .int .i64 m] w fun e w' => e = .returned (.int .i64 (md n m)) ∧ w = w' := by
  by_cases h : inr m 1 1000000000000 = true
  · have h1 : 1 ≤ m := by simp [inr] at h; omega
    have h2 : m ≤ 1000000000000 := by simp [inr] at h; omega
    obtain ⟨b1, b2, b3, b4, b5⟩ := tm_bd n m h1
    have B3 := Lib.hid b3; clear b3
    have B4 := Lib.hid b4; clear b4
    have B5 := Lib.hid b5; clear b5
    go_enter Tryz.func146, Tryz.ntmps146
    go_wp2_with (first | (go_at_call 66; refine (l1In _ _ _ _).mono ?_; rintro e w' ⟨rfl, rfl⟩))
    go_ret
    exact ⟨ret_int (by unfold md; rw [if_pos h]; exact B3.out), rfl⟩
  · go_enter Tryz.func146, Tryz.ntmps146
    go_wp2_with (first | (go_at_call 66; refine (l1In _ _ _ _).mono ?_; rintro e w' ⟨rfl, rfl⟩))
    go_ret
    exact ⟨ret_int (by unfold md; simp [h]), rfl⟩

theorem implMod (n m : Int) (w : World) : Calls Tryz.prog 221 #[.int .i64 n, .int .i64 m] w fun e w' => e = .returned (.int .i64 (md n m)) ∧ w = w' := by
  by_cases h : inr m 1 1000000000000 = true
  · have h1 : 1 ≤ m := by simp [inr] at h; omega
    have h2 : m ≤ 1000000000000 := by simp [inr] at h; omega
    obtain ⟨b1, b2, b3, b4, b5⟩ := tm_bd n m h1
    have B3 := Lib.hid b3; clear b3
    have B4 := Lib.hid b4; clear b4
    have B5 := Lib.hid b5; clear b5
    by_cases h0 : n.tmod m < 0
    all_goals
      go_enter Tryz.func221, Tryz.ntmps221
      go_wp2_with (first | (go_at_call 95; refine (implInRange _ _ _ _).mono ?_; rintro e w' ⟨rfl, rfl⟩))
      go_ret
      exact ⟨ret_int (by unfold md; rw [if_pos h]; first | exact B4.out h0 | exact B5.out (by omega)), rfl⟩
  · go_enter Tryz.func221, Tryz.ntmps221
    go_wp2_with (first | (go_at_call 95; refine (implInRange _ _ _ _).mono ?_; rintro e w' ⟨rfl, rfl⟩))
    go_ret
    exact ⟨ret_int (by unfold md; simp [h]), rfl⟩

theorem md_pos (n m : Int) (h0 : 1 ≤ m) (h1 : m ≤ 1000000000000) : md n m = n % m := by unfold md; rw [if_pos (inr_of h0 h1)]

end Go.Proofs.YtdglmnmalfpipaaGreatDoor.mdl

/-
  What the digests of a number and of the bytes of a text are, of the project and of the model.
  Conditions: slices have at most 2^44 numbers, texts at most 2^47 bytes.
-/
namespace Go.Proofs.YtdglmnmalfpipaaGreatDoor.hsh
open Go.ChangeShapes Go.WideShapes Go.ChangeAt Go.RowKit mem imem
set_option linter.unusedVariables false

theorem ret_int {k : IntKind} {a b : Int} (h : a = b) : Ending.returned (.int k a) = .returned (.int k b) := by rw [h]

theorem implMod31 (v : Int) (w : World) : Calls Tryz.prog 221 #[.int .i64 v, .int .i64 2147483647] w fun e w' => e = .returned (.int .i64 (v % 2147483647)) ∧ w = w' := by
  have h := mdl.implMod v 2147483647 w
  rwa [mdl.md_pos v 2147483647 (by omega) (by omega)] at h
theorem specMod31 (v : Int) (w : World) : Calls Tryz.prog 146 #[.int .i64 v, .int .i64 2147483647] w fun e w' => e = .returned (.int .i64 (v % 2147483647)) ∧ w = w' := by
  have h := mdl.specMod v 2147483647 w
  rwa [mdl.md_pos v 2147483647 (by omega) (by omega)] at h

theorem number (d v : Int) (hd : dig.In d) (w : World) :
    Calls Tryz.prog 262 #[.int .i64 d, .int .i64 v] w fun e w' => e = .returned (.int .i64 (dig.step d v)) ∧ w = w' := by
  obtain ⟨d0, d1⟩ := hd
  generalize hm : v % 2147483647 = m
  have m0 : 0 ≤ m := by omega
  have m1 : m ≤ 2147483646 := by omega
  have HM := Lib.hid hm; clear hm
  go_enter Tryz.func262, Tryz.ntmps262
  go_wp2_with (go_at_call 221; refine (implMod31 v _).mono ?_; rintro e w' ⟨rfl, rfl⟩; rw [HM.out])
  go_ret
  exact ⟨ret_int (by unfold dig.step; rw [HM.out]), rfl⟩

theorem txt_get (s : ByteArray) (k : Nat) (h : k < s.size) : (txt s)[k]? = some ((s[k]'h).toNat : Int) := by
  unfold txt
  rw [List.getElem?_map, List.getElem?_eq_getElem (by simpa using h)]
  rfl

theorem bytes (d : Int) (hd : dig.In d) (s : ByteArray) (hs : s.size ≤ 140737488355328) (w : World) :
    Calls Tryz.prog 253 #[.int .i64 d, .string s] w fun e w' => e = .returned (.int .i64 (dig.fold d (txt s))) ∧ w = w' := by
  have HD := Lib.hid hd; clear hd
  go_enter Tryz.func253, Tryz.ntmps253
  go_wp2
  go_loopg [0, 5, 8] s.size (fun gk x y i wr => ∃ (k : Nat) (z : Int), k ≤ s.size ∧ i = .int .i64 k ∧ x = .int .i64 z ∧ gk + k = s.size ∧ dig.fold d ((txt s).take k) = z ∧ dig.In z ∧ w = wr)
  case atStart => exact ⟨0, d, by omega, rfl, rfl, by omega, rfl, HD.out, rfl⟩
  case round =>
    obtain ⟨k, z, hkn, rfl, rfl, hk, hz, hzi, rfl⟩ := hrel
    have HZ := Lib.hid hz; have HI := Lib.hid hzi; have HK := Lib.hid hk; clear hz hzi hk
    by_cases hlt : k < s.size
    · have hv1 := (s[k]'hlt).toNat_lt
      have HT := Lib.hid (dig.fold_take d (txt_get s k hlt))
      go_wp2_with (go_at_call 262; refine (number z _ HI.out _).mono ?_; rintro e w' ⟨rfl, rfl⟩)
      go_roundg (s.size - (k + 1))
      case measure => have := HK.out; omega
      case rel => exact ⟨k + 1, _, by omega, by go_num, rfl, by have := HK.out; omega, by rw [HT.out, HZ.out], dig.step_in _ _, rfl⟩
    · have HT := Lib.hid (dig.fold_all (l := txt s) (k := k) d (by have := txt_len s; omega))
      go_wp2
      go_ret
      exact ⟨ret_int (by rw [← HZ.out, HT.out]), rfl⟩

theorem specText (s : ByteArray) (hs : s.size ≤ 140737488355328) (w : World) :
    Calls Tryz.prog 145 #[.string s] w fun e w' => e = .returned (.int .i64 (dig.fold 11 (txt s))) ∧ w = w' := by
  go_enter Tryz.func145, Tryz.ntmps145
  go_wp2
  go_loopg [3, 4] s.size (fun gk x i wr => ∃ (k : Nat) (z : Int), k ≤ s.size ∧ i = .int .i64 k ∧ x = .int .i64 z ∧ gk + k = s.size ∧ dig.fold 11 ((txt s).take k) = z ∧ 0 ≤ z ∧ z ≤ 2147483646 ∧ w = wr)
  case atStart => exact ⟨0, 11, by omega, rfl, rfl, by omega, rfl, by omega, by omega, rfl⟩
  case round =>
    obtain ⟨k, z, hkn, rfl, rfl, hk, hz, z0, z1, rfl⟩ := hrel
    have HZ := Lib.hid hz; have HK := Lib.hid hk; clear hz hk
    by_cases hlt : k < s.size
    · have hv1 := (s[k]'hlt).toNat_lt
      have HT := Lib.hid (dig.fold_take 11 (txt_get s k hlt))
      have HS := Lib.hid (dig.step_byte z ((s[k]'hlt).toNat : Int) (by omega) (by omega))
      have HI := Lib.hid (dig.step_in z ((s[k]'hlt).toNat : Int))
      go_wp2
      go_roundg (s.size - (k + 1))
      case measure => have := HK.out; omega
      case rel => exact ⟨k + 1, _, by omega, by go_num, rfl, by have := HK.out; omega, by rw [HT.out, HZ.out, HS.out], by rw [HS.out]; exact HI.out.1, by rw [HS.out]; exact HI.out.2, rfl⟩
    · have HT := Lib.hid (dig.fold_all (l := txt s) (k := k) 11 (by have := txt_len s; omega))
      go_wp2
      go_ret
      exact ⟨ret_int (by rw [← HZ.out, HT.out]), rfl⟩

end Go.Proofs.YtdglmnmalfpipaaGreatDoor.hsh

/-
  What HashText of the project returns: the fold of the text's bytes, though it goes from character to character.
  Conditions: the text has at most 2^47 bytes.
-/
namespace Go.Proofs.YtdglmnmalfpipaaGreatDoor.hsh
open Go.ChangeShapes Go.WideShapes Go.ChangeAt Go.RowKit mem imem
set_option linter.unusedVariables false

theorem width_pos (s : ByteArray) (pos : Nat) (h : pos < s.size) : 1 ≤ (Utf8.decode s pos).2 := by
  by_cases ha : (s[pos]'h).toNat < 128
  · rw [decode_ascii s pos h ha]; exact Nat.le_refl _
  · exact (decode_high s pos h (by omega)).2

theorem txt_extract (s : ByteArray) (i j : Nat) : txt (s.extract i j) = ((txt s).drop i).take (j - i) := by
  unfold txt
  rw [Lib.extract_eq, List.map_take, List.map_drop]
theorem extract_le (s : ByteArray) (i j : Nat) : (s.extract i j).size ≤ s.size := by
  have h1 := txt_len (s.extract i j)
  have h2 := txt_len s
  rw [txt_extract, List.length_take, List.length_drop] at h1
  omega
theorem fold_part (d : Int) (s : ByteArray) (i j : Nat) (h : i ≤ j) : dig.fold (dig.fold d ((txt s).take i)) (txt (s.extract i j)) = dig.fold d ((txt s).take j) := by
  rw [txt_extract, ← dig.fold_app, ← List.take_add, Nat.add_sub_cancel' h]

/-- A call that only makes memory. -/
def NumQ (w : World) (x : Int) (e : Ending) (w' : World) : Prop := e = .returned (.int .i64 x) ∧ Below w.heap.size w w'

theorem implText (s : ByteArray) (hs : s.size ≤ 140737488355328) (w : World) :
    Calls Tryz.prog 240 #[.string s] w (NumQ w (dig.fold 11 (txt s))) := by
  go_enter Tryz.func240, Tryz.ntmps240
  go_wp2
  go_loopw [3, 4, 5] (fun x y z wr => ∃ (st pos : Nat) (d : Int), st ≤ pos ∧ st ≤ s.size ∧ wr.heap[w.heap.size]? = some (.stringIter s pos) ∧ x = .int .i64 d ∧ y = .int .i64 st ∧ Hid (dig.fold 11 ((txt s).take st) = d) ∧ Hid (dig.In d) ∧ Below w.heap.size w wr) (fun _ _ _ wr => s.size - wr.iterPos w.heap.size)
  case atStart => exact ⟨0, 0, 11, by omega, by omega, World.iter_heap w s 0, rfl, rfl, rfl, dig.in11, (Below.refl _ _).alloc (Nat.le_refl _) _⟩
  case round =>
    obtain ⟨st, pos, d, h1, h2, hit, rfl, rfl, HD, HI, hb⟩ := hrel
    have hpos0 := iterPos_of hit
    have HB := Lib.hid hb; clear hb
    by_cases hp : pos < s.size
    · have hnx : ∀ ty, (Instr.next (.pointer (some ⟨w.heap.size, 0, none⟩)) true ty).run Tryz.prog wr = _ := fun ty => Lib.run_next_any_at wr w.heap.size s pos ty hit hp
      have hwd := width_pos s pos hp
      have h3 : pos ≤ s.size := by omega
      have hit2 := Lib.iterAt_heap wr w.heap.size s pos (pos + (Utf8.decode s pos).2) hit
      have hb2 := Lib.below_iterAt HB.out (k := w.heap.size) (Nat.le_refl _) s (pos + (Utf8.decode s pos).2)
      obtain ⟨W1, hW1⟩ : ∃ W1, W1 = wr.iterAt w.heap.size s (pos + (Utf8.decode s pos).2) := ⟨_, rfl⟩
      rw [← hW1] at hnx hit2 hb2
      have hsz := extract_le s st pos
      have HP := Lib.hid (fold_part 11 s st pos h1)
      have HI2 := Lib.hid hit2; have HB2 := Lib.hid hb2; have H0 := Lib.hid hpos0; have HS := Lib.hid hsz
      clear hW1 hit2 hb2 hit hpos0 hsz
      go_wp2_with (go_at_call 253; refine (bytes d HI.out _ (by have := HS.out; omega) _).mono ?_; rintro e w' ⟨rfl, rfl⟩)
      go_roundw
      case measure => rw [iterPos_of HI2.out, H0.out]; omega
      case rel => exact ⟨pos, _, _, by omega, by omega, HI2.out, rfl, rfl, by show _ = _; rw [← HP.out, HD.out], dig.fold_in HI.out _, HB2.out⟩
    · have hnx : ∀ ty, (Instr.next (.pointer (some ⟨w.heap.size, 0, none⟩)) true ty).run Tryz.prog wr = _ := fun ty => Lib.run_next_end_at wr w.heap.size s pos ty hit hp
      have HP := Lib.hid (fold_part 11 s st s.size h2)
      have HA := Lib.hid (dig.fold_all (l := txt s) (k := s.size) 11 (by have := txt_len s; omega))
      have HS := Lib.hid (extract_le s st s.size)
      clear hit hpos0
      go_wp2_with (go_at_call 253; refine (bytes d HI.out _ (by have := HS.out; omega) _).mono ?_; rintro e w' ⟨rfl, rfl⟩)
      go_ret
      exact ⟨ret_int (by rw [← HD.out, HP.out, HA.out]), HB.out⟩

end Go.Proofs.YtdglmnmalfpipaaGreatDoor.hsh

