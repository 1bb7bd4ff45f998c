/-
  What the texts behind this one use: 13 parts of one proof.
  Conditions: those that each theorem names.
-/
import Derived.Test.YtbgffmiffmmohaaGreatDoorSpSTreeEq
import Derived.Test.YtbgffmiffmmohaaGreatDoorSpB1
import Derived.Laws.StructEq
import Derived.Deep.RegionHeld3
import Derived.Deep.CutBlock
import Derived.Deep.DeepCutAuto
import Derived.Deep.LoopGhost
import Derived.BigQuiet
import Derived.Deep.QuietTactic
import Derived.Test.YtbgffmiffmmohaaGreatDoorShelf
/-
  The laws' size of a value, and how many values a tree holds.
  Conditions: those that each theorem names.
-/
namespace Go.Proofs.YtbgffmiffmmohaaGreatDoor.tree
open Go.ChangeShapes Go.WideShapes Go.ChangeAt Go.RowKit
set_option linter.unusedVariables false

mutual
/-- Letters and items, all that is in a value. -/
def tot : Tr → Nat
  | .mk _ _ s _ ks vs => s.size + (vs.length + tots ks vs)
def tots : List Ky → List Tr → Nat
  | y :: ks, t :: vs => y.str.size + tot t + tots ks vs
  | _, _ => 0
end
mutual
/-- How many values a tree is. -/
def cnt : Tr → Nat
  | .mk _ _ _ _ _ vs => 1 + cnts vs
def cnts : List Tr → Nat
  | [] => 0
  | t :: vs => cnt t + cnts vs
end
mutual
/-- Each item has its key. -/
def fits : Tr → Prop
  | .mk _ _ _ _ ks vs => ks.length = vs.length ∧ fitss vs
def fitss : List Tr → Prop
  | [] => True
  | t :: vs => fits t ∧ fitss vs
end
theorem tots_cons (y : Ky) (ks : List Ky) (t : Tr) (vs : List Tr) : tots (y :: ks) (t :: vs) = y.str.size + tot t + tots ks vs := by rw [tots]
theorem tots_drop {ks : List Ky} {vs : List Tr} {j : Nat} {y : Ky} {t : Tr} (hk : ks[j]? = some y) (hv : vs[j]? = some t) : tots (ks.drop j) (vs.drop j) = y.str.size + tot t + tots (ks.drop (j + 1)) (vs.drop (j + 1)) := by
  obtain ⟨hj, rfl⟩ := List.getElem?_eq_some_iff.1 hk
  obtain ⟨hj', rfl⟩ := List.getElem?_eq_some_iff.1 hv
  rw [List.drop_eq_getElem_cons hj, List.drop_eq_getElem_cons hj', tots_cons]
theorem fitss_of : ∀ {vs : List Tr}, (∀ t ∈ vs, fits t) → fitss vs
  | [], _ => by rw [fitss]; trivial
  | t :: vs, h => by rw [fitss]; exact ⟨h t (by simp), fitss_of fun u hu => h u (by simp [hu])⟩
theorem TIn.fits {w : World} {S : Nat → Prop} {t : Tr} {v : Value} (h : TIn w S t v) : fits t := by
  induction h with
  | mk k n s x ks vs A cap C hk hl hm hcap hc ht ih =>
    rw [tree.fits]
    refine ⟨hl, fitss_of fun t h => ?_⟩
    obtain ⟨i, hi, rfl⟩ := List.mem_iff_getElem.1 h
    exact ih i hi
mutual
theorem cnt_tot : ∀ t, fits t → cnt t ≤ tot t + 1
  | .mk _ _ s _ ks vs, h => by
    rw [fits] at h
    have := cnts_tots ks vs h.1 h.2
    rw [cnt, tot]
    omega
theorem cnts_tots : ∀ (ks : List Ky) (vs : List Tr), ks.length = vs.length → fitss vs → cnts vs ≤ vs.length + tots ks vs
  | _, [], _, _ => by simp [cnts]
  | [], t :: vs, h, _ => by simp at h
  | y :: ks, t :: vs, h, hf => by
    rw [fitss] at hf
    have h1 := cnt_tot t hf.1
    have h2 := cnts_tots ks vs (by simpa using h) hf.2
    rw [cnts, tots, List.length_cons]
    omega
end

def SzOk (left : Int) (T : Nat) (r : Int) : Prop := -1 ≤ r ∧ r ≤ left ∧ (0 ≤ r → r + T = left)
def SzQ (left : Int) (T : Nat) (w : World) (e : Ending) (w' : World) : Prop := ∃ r : Int, e = .returned (.int .i64 r) ∧ SzOk left T r ∧ Below w.heap.size w w'

theorem szKey (y : Ky) (hy : y.str.size ≤ maxLen) (left : Int) (h0 : 0 ≤ left) (h1 : left ≤ 1048576) (w : World) :
    Calls Tryz.prog 105 #[kyV y, .int .i64 left] w (SzQ left y.str.size w) := by
  obtain ⟨b, n, s⟩ := y
  replace hy : s.size ≤ maxLen := hy
  show Calls _ _ _ _ (SzQ left s.size w)
  unfold kyV
  unfold maxLen at hy
  by_cases hlt : left - s.size < 0
  · go_enter Tryz.func105, Tryz.ntmps105
    go_wp2
    go_ret
    exact ⟨-1, rfl, ⟨by omega, by omega, fun h => by omega⟩, b1 _ _⟩
  · have hge : ¬ (left < s.size) := by omega
    go_enter Tryz.func105, Tryz.ntmps105
    go_wp2
    go_ret
    exact ⟨left - s.size, rfl, ⟨by omega, by omega, fun h => by omega⟩, b1 _ _⟩

def SzV (t : Tr) : Prop := ∀ (w : World) (S : Nat → Prop) (v : Value), TIn w S t v → ∀ left : Int, 0 ≤ left → left ≤ 1048576 → Calls Tryz.prog 29 #[v, .int .i64 left] w (SzQ left (tot t) w)

theorem szEntry (y : Ky) (hy : y.str.size ≤ maxLen) (k n : Int) (s : ByteArray) (x : Int) (A : Option Addr) (L c : Nat) (T : Nat) (left : Int) (h0 : 0 ≤ left) (h1 : left ≤ 1048576) (w : World)
    (ih : ∀ (w' : World) (left' : Int), Below w.heap.size w w' → 0 ≤ left' → left' ≤ 1048576 → Calls Tryz.prog 29 #[vV k n s x A L c, .int .i64 left'] w' (SzQ left' T w')) :
    Calls Tryz.prog 172 #[eV y k n s x A L c, .int .i64 left] w (SzQ left (y.str.size + T) w) := by
  obtain ⟨b, m, ys⟩ := y
  have K := szKey ⟨b, m, ys⟩ hy left h0 h1
  show Calls _ _ _ _ (SzQ left (ys.size + T) w)
  replace K : ∀ w, Calls Tryz.prog 105 #[kyV ⟨b, m, ys⟩, .int .i64 left] w (SzQ left ys.size w) := K
  unfold eV
  go_enter Tryz.func172, Tryz.ntmps172
  go_wp2_with (fail)
  refine (K _).mono ?_
  rintro e w1 ⟨r, rfl, ⟨hr1, hr2, hr3⟩, hb1⟩
  obtain ⟨hc, hf⟩ := bcell hb1
  have HB := Lib.hid hb1
  have HR := Lib.hid hr3
  clear hb1 hr3
  by_cases hr : r < 0
  · go_wp2_with (fail)
    go_ret
    exact ⟨-1, rfl, ⟨by omega, by omega, fun h => by omega⟩, bs (b1 _ _) HB.out⟩
  · have hr0 : 0 ≤ r := by omega
    go_wp2_with (fail)
    refine (ih _ r (bs (b1 _ _) HB.out) hr0 (by omega)).mono ?_
    rintro e w2 ⟨r2, rfl, ⟨hs1, hs2, hs3⟩, hb2⟩
    have HB2 := Lib.hid hb2
    have HR2 := Lib.hid hs3
    clear hb2 hs3
    by_cases hq : r2 < 0
    · go_wp2_with (fail)
      go_ret
      exact ⟨-1, rfl, ⟨by omega, by omega, fun h => by omega⟩, bs (bs (b1 _ _) HB.out) HB2.out⟩
    · have hq0 : 0 ≤ r2 := by omega
      go_wp2_with (fail)
      go_ret
      refine ⟨r2, rfl, ⟨by omega, by omega, fun h => ?_⟩, bs (bs (b1 _ _) HB.out) HB2.out⟩
      have a1 := HR.out hr0
      have a2 := HR2.out h
      omega

theorem szItems (ks : List Ky) (vs : List Tr) (ih : ∀ t ∈ vs, SzV t) (A : Option Addr) (c : Nat) (w : World) (S : Nat → Prop) (h : IsIn w S ks vs A) (left : Int) (h0 : 0 ≤ left) (h1 : left ≤ 1048576) :
    Calls Tryz.prog 94 #[.slice A vs.length c, .int .i64 left] w (SzQ left (vs.length + tots ks vs) w) := by
  obtain ⟨L, HL⟩ : ∃ L, Hid (L = vs.length) := ⟨_, Lib.hid rfl⟩
  have hm : L ≤ maxLen := by rw [HL.out]; exact h.2.1
  unfold maxLen at hm
  rw [← HL.out]
  by_cases hlt : left - L < 0
  · go_enter Tryz.func94, Tryz.ntmps94
    go_wp2_with (fail)
    go_ret
    exact ⟨-1, rfl, ⟨by omega, by omega, fun h => by omega⟩, Below.refl _ _⟩
  have hge : ¬ (left < L) := by omega
  clear hlt
  go_enter Tryz.func94, Tryz.ntmps94
  go_wp2_with (fail)
  go_loopg [1, 5] (L + 1) (fun gk l i wr => ∃ (j : Nat) (r : Int), l = .int .i64 r ∧ i = .int .i64 j ∧ gk + j = L + 1 ∧ j ≤ L ∧ 0 ≤ r ∧ r ≤ left ∧ Hid (r + tots ks vs = left - L + tots (ks.drop j) (vs.drop j)) ∧ Below w.heap.size w wr)
  case atStart => exact ⟨0, left - L, rfl, rfl, by omega, by omega, by omega, by omega, Lib.hid (by simp), Below.refl _ _⟩
  case round =>
    obtain ⟨j, r, rfl, rfl, hgj, hjL, hr0, hr1, HR, hb⟩ := hrel
    have HB := Lib.hid hb
    clear hb
    by_cases hlt : j < L
    · obtain ⟨a, y, k, n, s, x, ks', vs', A1, c1, rfl, hS, hky, hvs, ht, hyb, hkb, hin, hcell⟩ := (h.below HB.out).item (i := j) (by rw [← HL.out]; exact hlt)
      have ihj : ∀ (w' : World) (left' : Int), Below wr.heap.size wr w' → 0 ≤ left' → left' ≤ 1048576 → Calls Tryz.prog 29 #[vV k n s x A1 vs'.length c1, .int .i64 left'] w' (SzQ left' (tot (.mk k n s x ks' vs')) w') := fun w' l' hb' a0 a1 => ih _ (List.mem_of_getElem? hvs) w' S _ (ht.below' hb') l' a0 a1
      have HT := Lib.hid (tots_drop hky hvs)
      have hys := hyb.2
      clear hky hvs ht hin hyb hkb hS
      obtain ⟨p0, p1, p2, p3, p4, p5, p6, p7⟩ := hcell
      go_wp2_with (fail)
      refine (szEntry y hys k n s x A1 vs'.length c1 _ r hr0 (by omega) _ ihj).mono ?_
      rintro e w1 ⟨r2, rfl, ⟨hs1, hs2, hs3⟩, hb1⟩
      have HB1 := Lib.hid hb1
      have HR2 := Lib.hid hs3
      clear hb1 hs3
      by_cases hq : r2 < 0
      · go_wp2_with (fail)
        go_ret
        exact ⟨-1, rfl, ⟨by omega, by omega, fun h => by omega⟩, bs HB.out HB1.out⟩
      · have hq0 : 0 ≤ r2 := by omega
        go_wp2_with (fail)
        go_roundg (L - j)
        case rel =>
          refine ⟨j + 1, r2, rfl, by go_num, by omega, by omega, hq0, by omega, Lib.hid ?_, bs HB.out HB1.out⟩
          have a1 := HR.out
          have a2 := HR2.out hq0
          have a3 := HT.out
          omega
        case measure => omega
    · go_wp2_with (fail)
      go_ret
      refine ⟨r, rfl, ⟨by omega, by omega, fun _ => ?_⟩, HB.out⟩
      have a1 := HR.out
      have e : tots (ks.drop j) (vs.drop j) = 0 := by
        rw [show vs.drop j = [] from List.drop_eq_nil_of_le (by rw [← HL.out]; omega)]
        cases ks.drop j <;> rfl
      rw [e] at a1
      push_cast
      omega

theorem szV : ∀ t, SzV t := Tr.ind fun k n s x ks vs ih w S v h left h0 h1 => by
  obtain ⟨A, c, rfl, ⟨_, _, _, hs⟩, hin⟩ := h.out
  clear h
  have hT : tot (.mk k n s x ks vs) = s.size + (vs.length + tots ks vs) := by rw [tot]
  rw [hT]
  clear hT
  unfold maxLen at hs
  by_cases hlt : left - s.size < 0
  · go_enter Tryz.func29, Tryz.ntmps29
    go_wp2_with (fail)
    go_ret
    exact ⟨-1, rfl, ⟨by omega, by omega, fun h => by omega⟩, b1 _ _⟩
  have hge : ¬ (left < s.size) := by omega
  clear hlt
  go_enter Tryz.func29, Tryz.ntmps29
  go_wp2_with (fail)
  refine (szItems ks vs ih A c _ S (hin.below (b1 _ _)) (left - s.size) (by omega) (by omega)).mono ?_
  rintro e w1 ⟨r, rfl, ⟨hr1, hr2, hr3⟩, hb1⟩
  have HB1 := Lib.hid hb1
  have HR := Lib.hid hr3
  clear hb1 hr3
  by_cases hr : r < 0
  · go_wp2_with (fail)
    go_ret
    exact ⟨-1, rfl, ⟨by omega, by omega, fun h => by omega⟩, bs (b1 _ _) HB1.out⟩
  · have hr0 : 0 ≤ r := by omega
    go_wp2_with (fail)
    go_ret
    refine ⟨r, rfl, ⟨by omega, by omega, fun h => ?_⟩, bs (b1 _ _) HB1.out⟩
    have a1 := HR.out h
    push_cast at a1 ⊢
    omega

end Go.Proofs.YtbgffmiffmmohaaGreatDoor.tree

/-
  A value without items; a call that gives back a value and writes nothing that was there.
  Conditions: those that each theorem names.
-/
namespace Go.Proofs.YtbgffmiffmmohaaGreatDoor.tree
open Go.ChangeShapes Go.WideShapes Go.ChangeAt Go.RowKit
set_option linter.unusedVariables false

theorem IsIn.nil (w : World) (S : Nat → Prop) (A : Option Addr) : IsIn w S [] [] A := ⟨rfl, by simp, fun _ => #[], fun i hi => absurd hi (by simp), fun i hi => absurd hi (by simp)⟩
/-- A value with no items. -/
theorem flat {k n x : Int} {s : ByteArray} (hk : I64 k ∧ I64 n ∧ I64 x ∧ s.size ≤ maxLen) (w : World) (S : Nat → Prop) (A : Option Addr) (c : Nat) (hc : c ≤ maxLen) : TIn w S (.mk k n s x [] []) (vV k n s x A 0 c) := TIn.of c hk (IsIn.nil w S A) ⟨Nat.zero_le _, hc⟩

def GivesQ (w : World) (v : Value) (e : Ending) (w' : World) : Prop := e = .returned v ∧ Below w.heap.size w w'

end Go.Proofs.YtbgffmiffmmohaaGreatDoor.tree

/-
  Two keys compared, and keys as the keys of a map.
  Conditions: those that each theorem names.
-/
namespace Go.Proofs.YtbgffmiffmmohaaGreatDoor.tree
open Go.ChangeShapes Go.WideShapes Go.ChangeAt Go.RowKit
set_option linter.unusedVariables false

instance : DecidableEq Ky := fun a b =>
  match a, b with
  | ⟨t, n, s⟩, ⟨t', n', s'⟩ => if h : t = t' ∧ n = n' ∧ s.data.toList = s'.data.toList then .isTrue (by
      obtain ⟨rfl, rfl, h⟩ := h
      obtain ⟨⟨s⟩⟩ := s
      obtain ⟨⟨s'⟩⟩ := s'
      simp at h
      subst h
      rfl) else .isFalse (fun e => h (by cases e; exact ⟨rfl, rfl, rfl⟩))

theorem kpart1 {P : Program} {w : World} {t : TypeId} {d : TypeDesc} (h : P.underlying t = some d) (hd : (match d with | .struct _ | .array _ _ => true | _ => false) = false) {cs : Array Value} {off : Nat} {v : Value} (hx : cs[off]? = some v) : (part t cs off).run P w = .ok v w := by
  cases d <;> simp_all [part, isAgg, run_underlying h]
theorem bytes_ne {s s' : ByteArray} (h : ¬ s.data.toList = s'.data.toList) : (s.toList == s'.toList) = false ∧ ¬ s.toList = s'.toList := by
  have h1 : ¬ s.toList = s'.toList := fun hh => h (by rwa [ByteArray.toList_eq, ByteArray.toList_eq] at hh)
  exact ⟨beq_false_of_ne h1, h1⟩
theorem bytes_same {s s' : ByteArray} (h : s.data.toList = s'.data.toList) : s = s' := by
  obtain ⟨⟨s⟩⟩ := s
  obtain ⟨⟨s'⟩⟩ := s'
  simp at h
  subst h
  rfl
theorem ik_desc : ∃ f0 f1 f2 : Field, Tryz.prog.underlying IK = some (.struct #[f0, f1, f2]) ∧ f0.name ≠ "_" ∧ f1.name ≠ "_" ∧ f2.name ≠ "_" ∧ f0.type = 4 ∧ f1.type = 3 ∧ f2.type = 9 ∧ f0.offset = 0 ∧ f1.offset = 1 ∧ f2.offset = 2 :=
  ⟨_, _, _, Tryz.underlying29, by decide, by decide, by decide, rfl, rfl, rfl, rfl, rfl, rfl⟩
theorem ik_held : Tryz.prog.stoodInHeld IK = false := by kernel_rfl
theorem ky_eq (d : Nat) (w : World) (y y' : Ky) : (Op.equalIn (d + 2) IK (kyV y) (kyV y')).run Tryz.prog w = .ok (decide (y = y')) w := by
  obtain ⟨b, n, s⟩ := y
  obtain ⟨b', n', s'⟩ := y'
  obtain ⟨f0, f1, f2, hu, n0, n1, n2, t0, t1, t2, o0, o1, o2⟩ := ik_desc
  have hf : Tryz.prog.fieldsOf IK = #[f0, f1, f2] := by simp [Program.fieldsOf, hu]
  have hb := run_equalIn_bool' (P := Tryz.prog) w d 4 b b' Tryz.underlying4
  have hi := run_equalIn_int (P := Tryz.prog) w d 3 .i64 .i64 n n' Tryz.underlying3
  have hs := run_equalIn_string (P := Tryz.prog) w d 9 s s' Tryz.underlying9
  have pa : ∀ (cs : Array Value) (v : Value), cs[0]? = some v → (part 4 cs 0).run Tryz.prog w = .ok v w := fun cs v h => kpart1 Tryz.underlying4 rfl h
  have pb : ∀ (cs : Array Value) (v : Value), cs[1]? = some v → (part 3 cs 1).run Tryz.prog w = .ok v w := fun cs v h => kpart1 Tryz.underlying3 rfl h
  have pc : ∀ (cs : Array Value) (v : Value), cs[2]? = some v → (part 9 cs 2).run Tryz.prog w = .ok v w := fun cs v h => kpart1 Tryz.underlying9 rfl h
  unfold kyV
  rw [run_equalIn_struct w (d + 1) IK _ _ (by rw [hf]; exact hu) ik_held, hf]
  have e1 := pa #[.bool b, .int .i64 n, .string s] _ rfl
  have e2 := pa #[.bool b', .int .i64 n', .string s'] _ rfl
  have e3 := pb #[.bool b, .int .i64 n, .string s] _ rfl
  have e4 := pb #[.bool b', .int .i64 n', .string s'] _ rfl
  have e5 := pc #[.bool b, .int .i64 n, .string s] _ rfl
  have e6 := pc #[.bool b', .int .i64 n', .string s'] _ rfl
  have key : decide ((⟨b, n, s⟩ : Ky) = ⟨b', n', s'⟩) = ((b == b') && ((n == n') && (s.toList == s'.toList))) := by
    rw [Bool.eq_iff_iff]
    simp only [decide_eq_true_eq, Ky.mk.injEq, Bool.and_eq_true, beq_iff_eq]
    constructor
    · rintro ⟨rfl, rfl, rfl⟩; exact ⟨rfl, rfl, rfl⟩
    · rintro ⟨rfl, rfl, h⟩
      refine ⟨rfl, rfl, bytes_same ?_⟩
      simp only [ByteArray.toList_eq] at h
      exact h
  rw [key]
  generalize hq1 : (b == b') = q1 at *
  generalize hq2 : (n == n') = q2 at *
  generalize hq3 : (s.toList == s'.toList) = q3 at *
  cases q1 <;> cases q2 <;> cases q3 <;> simp [Op.eqFields, n0, n1, n2, t0, t1, t2, o0, o1, o2, e1, e2, e3, e4, e5, e6, hb, hi, hs, Result.andThen]
theorem ky_neq (w : World) (y y' : Ky) : (binOp .neq IK (kyV y) (kyV y')).run Tryz.prog w = .ok (.bool (!decide (y = y'))) w := by
  have := ky_eq 9998 w y y'
  unfold kyV at this ⊢
  rw [run_neq_struct, this]
  rfl

theorem ky_eql (w : World) (y y' : Ky) : (binOp .eql IK (kyV y) (kyV y')).run Tryz.prog w = .ok (.bool (decide (y = y'))) w := by
  have := ky_eq 9998 w y y'
  unfold kyV at this ⊢
  rw [run_eql_struct, this]
  rfl

def GK (w : World) (v : Value) : Prop := ∃ y : Ky, v = kyV y
theorem ky_inj {y y' : Ky} (h : kyV y = kyV y') : y = y' := by
  obtain ⟨b, n, s⟩ := y
  obtain ⟨b', n', s'⟩ := y'
  simp [kyV] at h
  obtain ⟨rfl, rfl, rfl⟩ := h
  rfl
theorem ky_check (d : Nat) (w : World) (em : Bool) (y : Ky) : (Instr.checkKey em (d + 2) IK (kyV y)).run Tryz.prog w = .ok () w := by
  obtain ⟨b, n, s⟩ := y
  obtain ⟨f0, f1, f2, hu, n0, n1, n2, t0, t1, t2, o0, o1, o2⟩ := ik_desc
  have pa : (part 4 #[.bool b, .int .i64 n, .string s] 0).run Tryz.prog w = .ok (.bool b) w := kpart1 Tryz.underlying4 rfl rfl
  have pb : (part 3 #[.bool b, .int .i64 n, .string s] 1).run Tryz.prog w = .ok (.int .i64 n) w := kpart1 Tryz.underlying3 rfl rfl
  have pc : (part 9 #[.bool b, .int .i64 n, .string s] 2).run Tryz.prog w = .ok (.string s) w := kpart1 Tryz.underlying9 rfl rfl
  unfold kyV
  simp [Instr.checkKey, run_underlying hu, n0, n1, n2, t0, t1, t2, o0, o1, o2, pa, pb, pc, run_underlying Tryz.underlying4, run_underlying Tryz.underlying3, run_underlying Tryz.underlying9, Result.andThen]
theorem ky_same (d : Nat) (b : Bool) (n : Int) (s : ByteArray) : Instr.sameBits (d + 2) (.agg #[.bool b, .int .i64 n, .string s]) (.agg #[.bool b, .int .i64 n, .string s]) = true := by
  simp [Instr.sameBits]
  first | rfl | (obtain ⟨a⟩ := s; show (a == a) = true; simp) | exact beq_iff_eq.2 rfl
theorem good_ky : raw.Good Tryz.prog IK GK where
  wide := by
    obtain ⟨f0, f1, f2, hu, _⟩ := ik_desc
    rw [hu]
  check := fun w em x ⟨y, e⟩ => e ▸ ky_check 9998 w em y
  eq := fun w x x' ⟨y, e⟩ ⟨y', e'⟩ => ⟨decide (y = y'), by rw [e, e']; exact ky_eq 9998 w y y', by rw [e, e', decide_eq_true_eq]; exact ⟨fun h => h ▸ rfl, ky_inj⟩⟩
  same := fun w x ⟨y, e⟩ => by
    rw [e]
    obtain ⟨b, n, s⟩ := y
    exact ky_same 9998 b n s
theorem gk_stays : raw.Stays GK := fun _ _ _ _ _ _ h => h

end Go.Proofs.YtbgffmiffmmohaaGreatDoor.tree

/-
  Where a key stands first among the items, of the model.
  Conditions: those that each theorem names.
-/
namespace Go.Proofs.YtbgffmiffmmohaaGreatDoor.tree
open Go.ChangeShapes Go.WideShapes Go.ChangeAt Go.RowKit
set_option linter.unusedVariables false

def LtQ (w : World) (x : Int) (e : Ending) (w' : World) : Prop := e = .returned (.int .i64 x) ∧ Below w.heap.size w w'
def BoQ (w : World) (b : Bool) (e : Ending) (w' : World) : Prop := e = .returned (.bool b) ∧ Below w.heap.size w w'
def pos : List Ky → Ky → Nat → Int
  | [], _, _ => -1
  | z :: ks, y, i => if z = y then i else pos ks y (i + 1)
theorem pos_first : ∀ (ks : List Ky) (y : Ky) (i j : Nat), ks[j]? = some y → (pos ks y i = (i : Int) + j ↔ y ∉ ks.take j)
  | [], y, i, j, h => by simp at h
  | z :: ks, y, i, 0, h => by
    simp at h
    subst h
    simp [pos]
  | z :: ks, y, i, j + 1, h => by
    have ih := pos_first ks y (i + 1) j (by simpa using h)
    rw [pos, List.take_succ_cons, List.mem_cons]
    by_cases hz : z = y
    · subst hz
      simp
      omega
    · rw [if_neg hz]
      rw [show (i : Int) + ((j + 1 : Nat) : Int) = ((i + 1 : Nat) : Int) + (j : Int) by push_cast; omega, ih]
      simp [Ne.symm hz]
theorem pos_bd : ∀ (ks : List Ky) (y : Ky) (i : Nat), -1 ≤ pos ks y i ∧ pos ks y i ≤ i + ks.length
  | [], y, i => by simp [pos]
  | z :: ks, y, i => by
    have := pos_bd ks y (i + 1)
    rw [pos]
    split
    · simp; omega
    · push_cast at *; simp; omega
theorem pos_drop {ks : List Ky} {j : Nat} {z y : Ky} (h : ks[j]? = some z) : pos (ks.drop j) y j = if z = y then (j : Int) else pos (ks.drop (j + 1)) y (j + 1) := by
  obtain ⟨hj, rfl⟩ := List.getElem?_eq_some_iff.1 h
  rw [List.drop_eq_getElem_cons hj, pos]

theorem kdrew_heap (w : World) : ∀ n, (w.drewN n).heap = w.heap
  | 0 => rfl
  | n + 1 => (kdrew_heap w n)
theorem kbelow_drew (w : World) : ∀ n, Below w.heap.size w (w.drewN n)
  | 0 => Below.refl _ _
  | n + 1 => (kbelow_drew w n).drew

def CutF (wr : World) (b : Bool) (N : Nat) (C D : Array Value) (v : Value) (wx : World) : Prop :=
  v = .bool b ∧ Below wr.heap.size wr wx ∧ wx.heap[N]? = some (.cells C IV (0, 0)) ∧ wx.heap[N + 1]? = some (.cells D IK (0, 0))

set_option maxHeartbeats 800000 in
theorem find_s (n : Int) (s : ByteArray) (x : Int) (ks : List Ky) (vs : List Tr) (A : Option Addr) (c : Nat) (y : Ky) (w : World) (S : Nat → Prop) (h : IsIn w S ks vs A) :
    Calls Tryz.prog 149 #[vV 4 n s x A vs.length c, kyV y] w (LtQ w (pos ks y 0)) := by
  obtain ⟨L, HL⟩ : ∃ L, Hid (L = vs.length) := ⟨_, Lib.hid rfl⟩
  have hm : L ≤ maxLen := by rw [HL.out]; exact h.2.1
  have hkl : Hid (ks.length = L) := Lib.hid (by rw [HL.out]; exact h.1)
  unfold maxLen at hm
  rw [← HL.out]
  have HI := Lib.hid h
  clear h
  obtain ⟨W, HW⟩ : ∃ W, Hid (pos ks y 0 = W) := ⟨_, Lib.hid rfl⟩
  rw [HW.out]
  obtain ⟨yb, yn, ys⟩ := y
  unfold kyV
  go_enter Tryz.func149, Tryz.ntmps149
  go_wp2_with (fail)
  go_loopg [5] (L + 1) (fun gk i wr => ∃ j : Nat, i = .int .i64 j ∧ gk + j = L + 1 ∧ j ≤ L ∧ Hid (pos (ks.drop j) ⟨yb, yn, ys⟩ j = W) ∧
    Hid (wr.heap[w.heap.size]? = some (.cells #[.int .i64 4, .int .i64 n, .string s, .int .i64 x, .slice A L c] IV (0, 0))) ∧ Hid (wr.heap[w.heap.size + 1]? = some (.cells #[.bool yb, .int .i64 yn, .string ys] IK (0, 0))) ∧ Below w.heap.size w wr)
  case atStart => exact ⟨0, rfl, by omega, by omega, Lib.hid HW.out, Lib.hid (heap_alloc2_old w _ _), Lib.hid (heap_alloc2_new w _ _), b2 _ _ _⟩
  case round =>
    obtain ⟨j, rfl, hgj, hjL, HQ, HE, HE', hb⟩ := hrel
    have HB := Lib.hid hb
    clear hb
    obtain ⟨r0, -⟩ := rowc HE.out
    obtain ⟨r1, -⟩ := rowc HE'.out
    by_cases hlt : j < L
    · obtain ⟨a, y1, k1, n1, s1, x1, ks1, vs1, A1, c1, rfl, hS, hky, hvs, ht, hyb, hkb, hin1, hcell⟩ := (HI.out.below HB.out).item (i := j) (by rw [← HL.out]; exact hlt)
      have HD := Lib.hid ((pos_drop (y := ⟨yb, yn, ys⟩) hky).symm.trans HQ.out)
      obtain ⟨b, HBB⟩ : ∃ b, Hid (decide (y1 = ⟨yb, yn, ys⟩) = b) := ⟨_, Lib.hid rfl⟩
      have NE := fun w => ky_eql w y1 ⟨yb, yn, ys⟩
      rw [HBB.out] at NE
      unfold kyV at NE
      simp only at NE
      clear hky hvs ht hyb hkb hin1 hS
      obtain ⟨p0, p1, p2, p3, p4, p5, p6, p7⟩ := hcell
      go_upto_region 4 with fail
      go_cut [25] (fun v wx => CutF wr b w.heap.size #[.int .i64 4, .int .i64 n, .string s, .int .i64 x, .slice (some a) L c] #[.bool yb, .int .i64 yn, .string ys] v wx)
      case first =>
        go_quiet ((fail))
        all_goals
          go_wp2_with (fail)
          go_meet
          exact ⟨rfl, kbelow_drew _ _, (kdrew_heap _ _).symm ▸ HE.out, (kdrew_heap _ _).symm ▸ HE'.out⟩
      case rest =>
        obtain ⟨rfl, hbc, hx0, hx1⟩ := hcut
        have HBc := Lib.hid (bs HB.out hbc)
        have HX0 := Lib.hid hx0
        have HX1 := Lib.hid hx1
        clear hbc hx0 hx1 p0 p1 p2 p3 p4 p5 p6 p7 NE
        cases b with
        | true =>
          have e : W = (j : Int) := by rw [← HD.out, if_pos (of_decide_eq_true HBB.out)]
          go_wp2_with (fail)
          go_ret
          exact ⟨by first | rfl | (rw [e]; rfl), HBc.out⟩
        | false =>
          have HF : Hid (pos (ks.drop (j + 1)) ⟨yb, yn, ys⟩ (j + 1) = W) := Lib.hid (by have := HD.out; rw [if_neg (of_decide_eq_false HBB.out)] at this; exact this)
          go_wp2_with (fail)
          go_roundg (L - j)
          case rel => exact ⟨j + 1, by go_num, by omega, by omega, HF, HX0, HX1, HBc.out⟩
          case measure => omega
    · obtain rfl : j = L := by omega
      have e : W = -1 := by rw [← HQ.out, show ks.drop j = [] from List.drop_eq_nil_of_le (Nat.le_of_eq hkl.out)]; rfl
      go_wp2_with (fail)
      go_ret
      exact ⟨by first | rfl | (rw [e]; rfl), HB.out⟩

end Go.Proofs.YtbgffmiffmmohaaGreatDoor.tree

/-
  Where a key stands first in a value, of the project and of the model.
  Conditions: those that each theorem names.
-/
namespace Go.Proofs.YtbgffmiffmmohaaGreatDoor.tree
open Go.ChangeShapes Go.WideShapes Go.ChangeAt Go.RowKit
set_option linter.unusedVariables false

/-- Where the key stands first in the value, -1 if nowhere. -/
def posV : Tr → Ky → Int
  | .mk k _ _ _ ks _, y => if k = 4 then pos ks y 0 else -1
theorem posV_four (n : Int) (s : ByteArray) (x : Int) (ks : List Ky) (vs : List Tr) (y : Ky) : posV (.mk 4 n s x ks vs) y = pos ks y 0 := by rw [posV, if_pos rfl]
theorem posV_not {k n : Int} {s : ByteArray} {x : Int} {ks : List Ky} {vs : List Tr} (h : k ≠ 4) (y : Ky) : posV (.mk k n s x ks vs) y = -1 := by rw [posV, if_neg h]
theorem pos_lt : ∀ (ks : List Ky) (y : Ky) (i : Nat), pos ks y i < (i : Int) + ks.length
  | [], y, i => by simp [pos]; omega
  | z :: ks, y, i => by
    have := pos_lt ks y (i + 1)
    rw [pos]
    split
    · simp; omega
    · push_cast at *; simp; omega
theorem pos_ge : ∀ (ks : List Ky) (y : Ky) (i : Nat), pos ks y i = -1 ∨ (i : Int) ≤ pos ks y i
  | [], y, i => .inl rfl
  | z :: ks, y, i => by
    rw [pos]
    split
    · exact .inr (Int.le_refl _)
    · rcases pos_ge ks y (i + 1) with h | h
      · exact .inl h
      · exact .inr (by push_cast at h; omega)
/-- It is no place, or one among the items. -/
theorem posV_cases (k n : Int) (s : ByteArray) (x : Int) (ks : List Ky) (vs : List Tr) (y : Ky) : posV (.mk k n s x ks vs) y = -1 ∨ ∃ i : Nat, posV (.mk k n s x ks vs) y = i ∧ i < ks.length ∧ k = 4 := by
  by_cases h4 : k = 4
  · subst h4
    rw [posV_four]
    rcases pos_ge ks y 0 with h | h
    · exact .inl h
    · have := pos_lt ks y 0
      exact .inr ⟨(pos ks y 0).toNat, by omega, by omega, rfl⟩
  · exact .inl (posV_not h4 y)

set_option maxHeartbeats 800000 in
theorem findKey_i (t : Tr) (v : Value) (y : Ky) (w : World) (S : Nat → Prop) (h : TIn w S t v) : Calls Tryz.prog 233 #[v, kyV y] w (LtQ w (posV t y)) := by
  obtain ⟨k, n, s, x, ks, vs⟩ := t
  obtain ⟨A, c, rfl, -, hin⟩ := h.out
  clear h
  obtain ⟨L, HL⟩ : ∃ L, Hid (L = vs.length) := ⟨_, Lib.hid rfl⟩
  have hm : L ≤ maxLen := by rw [HL.out]; exact hin.2.1
  have hkl : Hid (ks.length = L) := Lib.hid (by rw [HL.out]; exact hin.1)
  unfold maxLen at hm
  rw [← HL.out]
  have HI := Lib.hid hin
  clear hin
  by_cases h4 : k = 4
  · subst h4
    rw [posV_four]
    obtain ⟨W, HW⟩ : ∃ W, Hid (pos ks y 0 = W) := ⟨_, Lib.hid rfl⟩
    rw [HW.out]
    obtain ⟨yb, yn, ys⟩ := y
    unfold kyV
    go_enter Tryz.func233, Tryz.ntmps233
    go_wp2_with (fail)
    go_loopg [13] (L + 1) (fun gk i wr => ∃ j : Nat, i = .int .i64 j ∧ gk + j = L + 1 ∧ j ≤ L ∧ Hid (pos (ks.drop j) ⟨yb, yn, ys⟩ j = W) ∧
      Hid (wr.heap[w.heap.size + 1]? = some (.cells #[.bool yb, .int .i64 yn, .string ys] IK (0, 0))) ∧ Below w.heap.size w wr)
    case atStart => exact ⟨0, rfl, by omega, by omega, Lib.hid HW.out, Lib.hid (heap_alloc2_new w _ _), b2 _ _ _⟩
    case round =>
      obtain ⟨j, rfl, hgj, hjL, HQ, HE', hb⟩ := hrel
      have HB := Lib.hid hb
      clear hb
      by_cases hlt : j < L
      · obtain ⟨a, y1, k1, n1, s1, x1, ks1, vs1, A1, c1, rfl, hS, hky, hvs, ht, hyb, hkb, hin1, hcell⟩ := (HI.out.below HB.out).item (i := j) (by rw [← HL.out]; exact hlt)
        have HD := Lib.hid ((pos_drop (y := ⟨yb, yn, ys⟩) hky).symm.trans HQ.out)
        obtain ⟨b, HBB⟩ : ∃ b, Hid (decide (y1 = ⟨yb, yn, ys⟩) = b) := ⟨_, Lib.hid rfl⟩
        have NE := fun w => ky_eql w y1 ⟨yb, yn, ys⟩
        rw [HBB.out] at NE
        unfold kyV at NE
        simp only at NE
        have r1 : ∀ o q, (wr.alloc o).cell? ⟨w.heap.size + 1, q, none⟩ = _ := fun o q => (rowc (keepAlloc HE'.out)).1 q
        clear hky hvs ht hyb hkb hin1 hS
        obtain ⟨p0, p1, p2, p3, p4, p5, p6, p7⟩ := hcell
        cases b with
        | true =>
          have e : W = (j : Int) := by rw [← HD.out, if_pos (of_decide_eq_true HBB.out)]
          go_wp2_with (fail)
          go_ret
          exact ⟨by first | rfl | (rw [e]; rfl), bs HB.out (b1 _ _)⟩
        | false =>
          have HF : Hid (pos (ks.drop (j + 1)) ⟨yb, yn, ys⟩ (j + 1) = W) := Lib.hid (by have := HD.out; rw [if_neg (of_decide_eq_false HBB.out)] at this; exact this)
          go_wp2_with (fail)
          go_roundg (L - j)
          case rel => exact ⟨j + 1, by go_num, by omega, by omega, HF, Lib.hid (keepAlloc HE'.out), bs HB.out (b1 _ _)⟩
          case measure => omega
      · obtain rfl : j = L := by omega
        have e : W = -1 := by rw [← HQ.out, show ks.drop j = [] from List.drop_eq_nil_of_le (Nat.le_of_eq hkl.out)]; rfl
        go_wp2_with (fail)
        go_ret
        exact ⟨by first | rfl | (rw [e]; rfl), HB.out⟩
  · rw [posV_not h4]
    unfold kyV
    go_enter Tryz.func233, Tryz.ntmps233
    go_wp2_with (fail)
    go_ret
    exact ⟨rfl, b2 _ _ _⟩

set_option maxHeartbeats 800000 in
theorem findV_s (t : Tr) (v : Value) (y : Ky) (w : World) (S : Nat → Prop) (h : TIn w S t v) : Calls Tryz.prog 149 #[v, kyV y] w (LtQ w (posV t y)) := by
  obtain ⟨k, n, s, x, ks, vs⟩ := t
  obtain ⟨A, c, rfl, -, hin⟩ := h.out
  by_cases h4 : k = 4
  · subst h4
    rw [posV_four]
    exact find_s n s x ks vs A c y w S hin
  · rw [posV_not h4]
    have hm : vs.length ≤ maxLen := hin.2.1
    generalize vs.length = L at *
    clear h hin
    unfold kyV
    go_enter Tryz.func149, Tryz.ntmps149
    go_wp2_with (fail)
    go_loopg [5] 1 (fun gk i wr => i = .int .i64 0 ∧ gk = 1 ∧ wr = ((w.alloc (.cells #[.int .i64 k, .int .i64 n, .string s, .int .i64 x, .slice A L c] IV)).alloc (.cells #[.bool y.text, .int .i64 y.num, .string y.str] IK)))
    case atStart => exact ⟨rfl, rfl, rfl⟩
    case round =>
      obtain ⟨rfl, rfl, rfl⟩ := hrel
      go_wp2_with (fail)
      go_ret
      exact ⟨rfl, b2 _ _ _⟩

end Go.Proofs.YtbgffmiffmmohaaGreatDoor.tree

/-
  A text's copy; a part of what a list of items holds.
  Conditions: those that each theorem names.
-/
namespace Go.Proofs.YtbgffmiffmmohaaGreatDoor.tree
open Go.ChangeShapes Go.WideShapes Go.ChangeAt Go.RowKit
set_option linter.unusedVariables false

theorem implClone' (s : ByteArray) (hs : s.size ≤ 1099511627776) (w : World) : Calls Tryz.prog 74 #[.string s] w fun e w' => e = .returned (.string s) ∧ Below w.heap.size w w' := by
  go_enter Tryz.func74, Tryz.ntmps74
  go_wp2_with (fail)
  refine (Tryz.stringslite_Clone s _ (by omega)).mono ?_
  rintro e w1 ⟨rfl, hb⟩
  go_wp2
  go_ret
  exact ⟨rfl, hb⟩

theorem tots_key : ∀ {ks : List Ky} {vs : List Tr} {j : Nat} {y : Ky} {t : Tr}, ks[j]? = some y → vs[j]? = some t → y.str.size + tot t ≤ tots ks vs
  | [], _, j, _, _, h, _ => by simp at h
  | _, [], j, _, _, _, h => by simp at h
  | y :: ks, t :: vs, 0, _, _, h, h' => by
    simp at h h'
    subst h h'
    rw [tots]
    omega
  | y :: ks, t :: vs, j + 1, _, _, h, h' => by
    have := tots_key (ks := ks) (vs := vs) (j := j) (by simpa using h) (by simpa using h')
    rw [tots]
    omega

end Go.Proofs.YtbgffmiffmmohaaGreatDoor.tree

/-
  Whether a value is light, of the project and of the model: what its weight leaves of a limit.
  Conditions: those that each theorem names.
-/
namespace Go.Proofs.YtbgffmiffmmohaaGreatDoor.tree
open Go.ChangeShapes Go.WideShapes Go.ChangeAt Go.RowKit
set_option linter.unusedVariables false

mutual
/-- The weight of a value. -/
def wgt : Tr → Nat
  | .mk k _ _ _ _ vs => if k = 4 then 1 + wgts vs else 1
def wgts : List Tr → Nat
  | [] => 0
  | t :: vs => wgt t + wgts vs
end
theorem wgt_four (n : Int) (s : ByteArray) (x : Int) (ks : List Ky) (vs : List Tr) : wgt (.mk 4 n s x ks vs) = 1 + wgts vs := by rw [wgt, if_pos rfl]
theorem wgt_not {k n : Int} {s : ByteArray} {x : Int} {ks : List Ky} {vs : List Tr} (h : k ≠ 4) : wgt (.mk k n s x ks vs) = 1 := by rw [wgt, if_neg h]
theorem wgts_nil : wgts [] = 0 := by rw [wgts]
theorem wgts_cons (t : Tr) (vs : List Tr) : wgts (t :: vs) = wgt t + wgts vs := by rw [wgts]
theorem wgts_drop {vs : List Tr} {j : Nat} {t : Tr} (h : vs[j]? = some t) : wgts (vs.drop j) = wgt t + wgts (vs.drop (j + 1)) := by
  obtain ⟨hj, rfl⟩ := List.getElem?_eq_some_iff.1 h
  rw [List.drop_eq_getElem_cons hj, wgts_cons]
theorem wgt_pos : ∀ t, 1 ≤ wgt t
  | .mk k _ _ _ _ vs => by rw [wgt]; split <;> omega

/-- What a weight leaves of a limit, -1 if it is more. -/
def lft (m : Int) (n : Nat) : Int := if m < n then -1 else m - n
/-- A weight up to one more than a limit. -/
def cut (m : Int) (n : Nat) : Int := if m < n then m + 1 else n

def SpI (t : Tr) : Prop := ∀ (w : World) (S : Nat → Prop) (v : Value), TIn w S t v → ∀ m : Int, 0 ≤ m → m ≤ 200 → Calls Tryz.prog 215 #[.int .i64 m, v] w (LtQ w (lft m (wgt t)))

set_option maxHeartbeats 800000 in
theorem spare_i : ∀ t, SpI t := Tr.ind fun k n s x ks vs ih w S v h m hm0 hm1 => by
  obtain ⟨A, c, rfl, hk, hin⟩ := h.out
  clear h
  obtain ⟨L, HL⟩ : ∃ L, Hid (L = vs.length) := ⟨_, Lib.hid rfl⟩
  have hm : L ≤ maxLen := by rw [HL.out]; exact hin.2.1
  unfold maxLen at hm
  rw [← HL.out]
  by_cases h4 : k = 4
  · subst h4
    obtain ⟨W, HW⟩ : ∃ W, Hid (W = lft m (wgt (.mk 4 n s x ks vs))) := ⟨_, Lib.hid rfl⟩
    have HW1 : Hid (W = lft (m - 1) (wgts vs)) := by
      show W = _
      rw [HW.out, wgt_four]
      unfold lft
      split <;> split <;> push_cast <;> omega
    rw [← HW.out]
    have HI := Lib.hid hin
    clear hin hk
    go_enter Tryz.func215, Tryz.ntmps215
    go_wp2_with (fail)
    go_loopg [0, 16] (L + 1) (fun gk l i wr => ∃ (j : Nat) (q : Int), l = .int .i64 q ∧ i = .int .i64 j ∧ gk + j = L + 1 ∧ j ≤ L ∧ -1 ≤ q ∧ q ≤ 199 ∧ Hid (lft q (wgts (vs.drop j)) = W) ∧ Below w.heap.size w wr)
    case atStart => exact ⟨0, m - 1, rfl, rfl, by omega, by omega, by omega, by omega, Lib.hid (by rw [HW1.out]; simp), b1 _ _⟩
    case round =>
      obtain ⟨j, q, rfl, rfl, hgj, hjL, hq0, hq1, HQ, hb⟩ := hrel
      have HB := Lib.hid hb
      clear hb
      by_cases hlt : j < L
      · obtain ⟨a, y, k', n', s', x', ks', vs', A1, c1, rfl, hS, hky, hvs, ht, hyb, hkb, hin', hcell⟩ := (HI.out.below HB.out).item (i := j) (by rw [← HL.out]; exact hlt)
        obtain ⟨Q, HQQ⟩ : ∃ Q, Hid (lft q (wgt (.mk k' n' s' x' ks' vs')) = Q) := ⟨_, Lib.hid rfl⟩
        have ihj : 0 ≤ q → ∀ w' : World, Below wr.heap.size wr w' → Calls Tryz.prog 215 #[.int .i64 q, vV k' n' s' x' A1 vs'.length c1] w' (LtQ w' Q) := fun h0 w' hb' => HQQ.out ▸ ih _ (List.mem_of_getElem? hvs) w' S _ (ht.below' hb') q h0 (by omega)
        have HD := Lib.hid (wgts_drop hvs)
        have HP := Lib.hid (wgt_pos (.mk k' n' s' x' ks' vs'))
        clear hky hvs ht hin' hyb hkb hS
        obtain ⟨p0, p1, p2, p3, p4, p5, p6, p7⟩ := hcell
        by_cases hneg : q < 0
        · obtain rfl : q = -1 := by omega
          go_wp2_with (fail)
          go_ret
          have e : W = -1 := by
            rw [← HQ.out]
            unfold lft
            split <;> omega
          exact ⟨by rw [e]; rfl, bs HB.out (b1 _ _)⟩
        · have hq : 0 ≤ q := by omega
          have hQ : -1 ≤ Q ∧ Q ≤ 199 := by
            rw [← HQQ.out]
            have := HP.out
            unfold lft
            split <;> omega
          obtain ⟨hQ0, hQ1⟩ := hQ
          go_wp2_with (fail)
          refine (ihj hq _ (b1 _ _)).mono ?_
          rintro e w1 ⟨rfl, hb1⟩
          have HB1 := Lib.hid (bs HB.out (bs (b1 _ _) hb1))
          clear hb1
          go_wp2_with (fail)
          go_roundg (L - j)
          case rel =>
            refine ⟨j + 1, Q, rfl, by go_num, by omega, by omega, hQ0, hQ1, Lib.hid ?_, HB1.out⟩
            rw [← HQ.out, HD.out, ← HQQ.out]
            unfold lft
            split <;> split <;> split <;> push_cast at * <;> omega
          case measure => omega
      · obtain rfl : j = L := by omega
        have e : W = q := by
          rw [← HQ.out, show vs.drop j = [] from List.drop_eq_nil_of_le (Nat.le_of_eq HL.out.symm), wgts_nil]
          unfold lft
          split <;> omega
        go_wp2_with (fail)
        go_ret
        exact ⟨by first | rfl | (rw [e]; rfl), HB.out⟩
  · have hw : lft m (wgt (.mk k n s x ks vs)) = m - 1 := by
      rw [wgt_not h4]
      unfold lft
      split <;> omega
    rw [hw]
    clear hw hin hk
    go_enter Tryz.func215, Tryz.ntmps215
    go_wp2_with (fail)
    go_ret
    exact ⟨rfl, b1 _ _⟩

def WgS (t : Tr) : Prop := ∀ (w : World) (S : Nat → Prop) (v : Value), TIn w S t v → ∀ m : Int, 0 ≤ m → m ≤ 200 → Calls Tryz.prog 92 #[v, .int .i64 m] w (LtQ w (cut m (wgt t)))

set_option maxHeartbeats 800000 in
theorem weigh_s : ∀ t, WgS t := Tr.ind fun k n s x ks vs ih w S v h m hm0 hm1 => by
  obtain ⟨A, c, rfl, hk, hin⟩ := h.out
  clear h
  obtain ⟨L, HL⟩ : ∃ L, Hid (L = vs.length) := ⟨_, Lib.hid rfl⟩
  have hm : L ≤ maxLen := by rw [HL.out]; exact hin.2.1
  unfold maxLen at hm
  rw [← HL.out]
  by_cases h4 : k = 4
  · subst h4
    obtain ⟨W, HW⟩ : ∃ W, Hid (W = cut m (wgt (.mk 4 n s x ks vs))) := ⟨_, Lib.hid rfl⟩
    have HW1 : Hid (W = cut m (1 + wgts vs)) := by
      show W = _
      rw [HW.out, wgt_four]
    rw [← HW.out]
    have HI := Lib.hid hin
    clear hin hk
    go_enter Tryz.func92, Tryz.ntmps92
    go_wp2_with (fail)
    go_loopg [5, 6] (L + 1) (fun gk a i wr => ∃ (j q : Nat), a = .int .i64 q ∧ i = .int .i64 j ∧ gk + j = L + 1 ∧ j ≤ L ∧ (q : Int) ≤ m + 1 ∧ Hid (cut m (q + wgts (vs.drop j)) = W) ∧ Hid (wr.heap[w.heap.size]? = some (.cells #[.int .i64 4, .int .i64 n, .string s, .int .i64 x, .slice A L c] IV (0, 0))) ∧ Below w.heap.size w wr)
    case atStart => exact ⟨0, 1, rfl, rfl, by omega, by omega, by omega, Lib.hid (by rw [HW1.out]; rfl), Lib.hid (heap_alloc_new w _), b1 _ _⟩
    case round =>
      obtain ⟨j, q, rfl, rfl, hgj, hjL, hq1, HQ, HE, hb⟩ := hrel
      have HB := Lib.hid hb
      clear hb
      obtain ⟨r0, -⟩ := rowc HE.out
      by_cases hlt : j < L
      · obtain ⟨a, y, k', n', s', x', ks', vs', A1, c1, rfl, hS, hky, hvs, ht, hyb, hkb, hin', hcell⟩ := (HI.out.below HB.out).item (i := j) (by rw [← HL.out]; exact hlt)
        by_cases hle : (q : Int) ≤ m
        · obtain ⟨Q, HQQ⟩ : ∃ Q : Nat, Hid (cut (m - q) (wgt (.mk k' n' s' x' ks' vs')) = Q) := by
            refine ⟨(cut (m - q) (wgt (.mk k' n' s' x' ks' vs'))).toNat, Lib.hid ?_⟩
            unfold cut
            split <;> omega
          have ihj : Calls Tryz.prog 92 #[vV k' n' s' x' A1 vs'.length c1, .int .i64 (m - q)] wr (LtQ wr Q) := HQQ.out ▸ ih _ (List.mem_of_getElem? hvs) wr S _ ht (m - q) (by omega) (by omega)
          have HD := Lib.hid (wgts_drop hvs)
          have hQ : (q : Int) + Q ≤ m + 1 := by
            rw [← HQQ.out]
            unfold cut
            split <;> omega
          clear hky hvs ht hin' hyb hkb hS
          obtain ⟨p0, p1, p2, p3, p4, p5, p6, p7⟩ := hcell
          go_wp2_with (fail)
          refine ihj.mono ?_
          rintro e w1 ⟨rfl, hb1⟩
          have HE1 := Lib.hid (carry hb1 HE.out)
          have HB1 := Lib.hid (bs HB.out hb1)
          clear hb1 r0
          obtain ⟨r1, -⟩ := rowc HE1.out
          go_wp2_with (fail)
          go_roundg (L - j)
          case rel =>
            refine ⟨j + 1, q + Q, by go_num, by go_num, by omega, by omega, by push_cast; omega, Lib.hid ?_, HE1, HB1.out⟩
            have e1 := HQQ.out
            rw [← HQ.out, HD.out]
            unfold cut at e1 ⊢
            split at e1 <;> split <;> split <;> push_cast at * <;> omega
          case measure => omega
        · have e : W = (q : Int) := by
            rw [← HQ.out]
            unfold cut
            split <;> push_cast at * <;> omega
          clear hky hvs ht hin' hyb hkb hS hcell
          go_wp2_with (fail)
          go_ret
          exact ⟨by first | rfl | (rw [e]; rfl), HB.out⟩
      · obtain rfl : j = L := by omega
        have e : W = (q : Int) := by
          rw [← HQ.out, show vs.drop j = [] from List.drop_eq_nil_of_le (Nat.le_of_eq HL.out.symm), wgts_nil]
          unfold cut
          split <;> push_cast at * <;> omega
        go_wp2_with (fail)
        go_ret
        exact ⟨by first | rfl | (rw [e]; rfl), HB.out⟩
  · have hw : cut m (wgt (.mk k n s x ks vs)) = 1 := by
      rw [wgt_not h4]
      unfold cut
      split <;> omega
    rw [hw]
    clear hw hin hk
    go_enter Tryz.func92, Tryz.ntmps92
    go_wp2_with (fail)
    go_loopg [5, 6] 1 (fun gk a i wr => a = .int .i64 1 ∧ i = .int .i64 0 ∧ gk = 1 ∧ Hid (wr.heap[w.heap.size]? = some (.cells #[.int .i64 k, .int .i64 n, .string s, .int .i64 x, .slice A L c] IV (0, 0))) ∧ Below w.heap.size w wr)
    case atStart => exact ⟨rfl, rfl, rfl, Lib.hid (heap_alloc_new w _), b1 _ _⟩
    case round =>
      obtain ⟨rfl, rfl, rfl, HE, hb⟩ := hrel
      have HB := Lib.hid hb
      clear hb
      obtain ⟨r0, -⟩ := rowc HE.out
      go_wp2_with (fail)
      go_ret
      exact ⟨rfl, HB.out⟩

def lightB (t : Tr) : Bool := decide (wgt t ≤ 200)
theorem light_i (t : Tr) (w : World) (S : Nat → Prop) (v : Value) (h : TIn w S t v) : Calls Tryz.prog 169 #[v] w (BoQ w (lightB t)) := by
  have SP : ∀ o : Obj, Calls Tryz.prog 215 #[.int .i64 200, v] (w.alloc o) (LtQ (w.alloc o) (lft 200 (wgt t))) := fun o => spare_i t _ S v (h.below' (b1 w o)) 200 (by omega) (by omega)
  obtain ⟨N, HN⟩ : ∃ N, Hid (wgt t = N) := ⟨_, Lib.hid rfl⟩
  unfold lightB
  rw [HN.out] at SP ⊢
  obtain ⟨k, n, s, x, ks, vs⟩ := t
  obtain ⟨A, c, rfl, hk, hin⟩ := h.out
  clear h hk hin
  by_cases hle : N ≤ 200
  · rw [decide_eq_true hle]
    obtain ⟨r, hr, e⟩ : ∃ r : Int, 0 ≤ r ∧ lft 200 N = r := ⟨_, by unfold lft; split <;> omega, rfl⟩
    rw [e] at SP
    clear e
    go_enter Tryz.func169, Tryz.ntmps169
    go_wp2_with (fail)
    refine (SP _).mono ?_
    rintro e w1 ⟨rfl, hb1⟩
    have HB1 := Lib.hid (bs (b1 _ _) hb1)
    clear hb1
    go_wp2_with (fail)
    go_ret
    exact ⟨rfl, HB1.out⟩
  · rw [decide_eq_false hle]
    have e : lft 200 N = -1 := by unfold lft; split <;> omega
    rw [e] at SP
    go_enter Tryz.func169, Tryz.ntmps169
    go_wp2_with (fail)
    refine (SP _).mono ?_
    rintro e w1 ⟨rfl, hb1⟩
    have HB1 := Lib.hid (bs (b1 _ _) hb1)
    clear hb1
    go_wp2_with (fail)
    go_ret
    exact ⟨rfl, HB1.out⟩

end Go.Proofs.YtbgffmiffmmohaaGreatDoor.tree

/-
  IsKey of the project and of the model.
  Conditions: the key's text has at most 2^48 bytes; the package variables of the library's reading of numbers hold what the program's text lays.
-/
namespace Go.Proofs.YtbgffmiffmmohaaGreatDoor.tree
open Go.ChangeShapes Go.WideShapes Go.ChangeAt Go.RowKit
set_option linter.unusedVariables false

def num (s : ByteArray) : Bool := (dec.pr (-1000000000) 1000000000 s.data.toList).2
def keyB (y : Ky) : Bool := if y.text then decide (y.num = 0) && decide (y.str.size ≤ 400) && !num y.str else nums.inr y.num (-1000000000) 1000000000 && decide (y.str.size = 0)

def KeyQ (w : World) (b : Bool) (e : Ending) (w' : World) : Prop := e = .returned (.bool b) ∧ Below w.heap.size w w'
theorem empty_of {s : ByteArray} (h : s.size = 0) : s = ⟨#[]⟩ := by
  obtain ⟨a⟩ := s
  have : a = #[] := Array.eq_empty_of_size_eq_zero h
  rw [this]
theorem list_of {s : ByteArray} (h : s.size ≠ 0) : ¬ s.toList = [] ∧ s.toList.isEmpty = false := by
  have h1 : ¬ s.toList = [] := fun hh => h (by
    rw [ByteArray.toList_eq] at hh
    have : s.data.toList.length = 0 := by rw [hh]; rfl
    simpa using this)
  exact ⟨h1, by cases hl : s.toList with
    | nil => exact absurd hl h1
    | cons a l => rfl⟩

set_option maxHeartbeats 800000 in
theorem isKey_i (y : Ky) (hs : y.str.size ≤ 281474976710656) (w : World) (hE : prs.Env w) : Calls Tryz.prog 72 #[kyV y] w (KeyQ w (keyB y)) := by
  obtain ⟨b, m, s⟩ := y
  replace hs : s.size ≤ 281474976710656 := hs
  have HE := Lib.hid hE
  clear hE
  cases b
  · have e : keyB ⟨false, m, s⟩ = (nums.inr m (-1000000000) 1000000000 && decide (s.size = 0)) := rfl
    rw [e]
    clear e
    unfold kyV
    obtain ⟨q, HQ⟩ : ∃ q, Hid (nums.inr m (-1000000000) 1000000000 = q) := ⟨_, Lib.hid rfl⟩
    have IR : ∀ w, Calls Tryz.prog 151 #[.int .i64 m, .int .i64 (-1000000000), .int .i64 1000000000] w fun e w' => e = .returned (.bool q) ∧ w = w' := fun w => HQ.out ▸ nums.implInRange m (-1000000000) 1000000000 w
    rw [HQ.out]
    by_cases h0 : s.size = 0
    · obtain rfl := empty_of h0
      cases q
      all_goals
        go_enter Tryz.func72, Tryz.ntmps72
        go_wp2_with (fail)
        refine (IR _).mono ?_
        rintro e w1 ⟨rfl, rfl⟩
        go_wp2_with (fail)
        go_ret
        exact ⟨rfl, b1 _ _⟩
    · obtain ⟨l1, l2⟩ := list_of h0
      rw [show decide (s.size = 0) = false from decide_eq_false h0]
      clear h0
      cases q
      all_goals
        go_enter Tryz.func72, Tryz.ntmps72
        go_wp2_with (fail)
        refine (IR _).mono ?_
        rintro e w1 ⟨rfl, rfl⟩
        go_wp2_with (fail)
        go_ret
        exact ⟨rfl, b1 _ _⟩
  · have e : keyB ⟨true, m, s⟩ = (decide (m = 0) && decide (s.size ≤ 400) && !num s) := rfl
    rw [e]
    clear e
    unfold kyV
    obtain ⟨⟨x1, x2⟩, HX⟩ : ∃ x, Hid (dec.pr (-1000000000) 1000000000 s.data.toList = x) := ⟨_, Lib.hid rfl⟩
    have hn : num s = x2 := by unfold num; rw [HX.out]
    rw [hn]
    have PS : Hid (∀ w, prs.Env w → Calls Tryz.prog 155 #[.string s] w fun e w' => e = .returned (.tuple #[.int .i64 x1, .bool x2]) ∧ Below w.heap.size w w') := Lib.hid fun w hE => by
      have := prs.implParseSigned s hs w hE
      rw [HX.out] at this
      exact this
    clear hn
    by_cases h0 : m = 0
    · subst h0
      by_cases h4 : s.size ≤ 400
      · rw [show decide (s.size ≤ 400) = true from decide_eq_true h4]
        cases x2
        all_goals
          go_enter Tryz.func72, Tryz.ntmps72
          go_wp2_with (fail)
          refine (PS.out _ (HE.out.stays (b1 _ _))).mono ?_
          rintro e w1 ⟨rfl, hb1⟩
          have HB := Lib.hid (bs (b1 w _) hb1)
          obtain ⟨r1, -⟩ := rowc (carry hb1 (heap_alloc_new w _))
          clear hb1
          go_wp2_with (fail)
          go_ret
          exact ⟨rfl, HB.out⟩
      · rw [show decide (s.size ≤ 400) = false from decide_eq_false h4]
        have h4' : 400 < s.size := by omega
        clear h4
        go_enter Tryz.func72, Tryz.ntmps72
        go_wp2_with (fail)
        refine (PS.out _ (HE.out.stays (b1 _ _))).mono ?_
        rintro e w1 ⟨rfl, hb1⟩
        have HB := Lib.hid (bs (b1 w _) hb1)
        obtain ⟨r1, -⟩ := rowc (carry hb1 (heap_alloc_new w _))
        clear hb1
        go_wp2_with (fail)
        go_ret
        exact ⟨rfl, HB.out⟩
    · rw [show decide (m = 0) = false from decide_eq_false h0]
      go_enter Tryz.func72, Tryz.ntmps72
      go_wp2_with (fail)
      refine (PS.out _ (HE.out.stays (b1 _ _))).mono ?_
      rintro e w1 ⟨rfl, hb1⟩
      have HB := Lib.hid (bs (b1 w _) hb1)
      obtain ⟨r1, -⟩ := rowc (carry hb1 (heap_alloc_new w _))
      clear hb1
      go_wp2_with (fail)
      go_ret
      exact ⟨rfl, HB.out⟩

set_option maxHeartbeats 800000 in
theorem isKey_s (y : Ky) (hs : y.str.size ≤ 281474976710656) (w : World) (hE : prs.Env w) : Calls Tryz.prog 18 #[kyV y] w (KeyQ w (keyB y)) := by
  obtain ⟨b, m, s⟩ := y
  replace hs : s.size ≤ 281474976710656 := hs
  have HE := Lib.hid hE
  clear hE
  cases b
  · have e : keyB ⟨false, m, s⟩ = (nums.inr m (-1000000000) 1000000000 && decide (s.size = 0)) := rfl
    rw [e]
    clear e
    unfold kyV
    obtain ⟨q, HQ⟩ : ∃ q, Hid (nums.inr m (-1000000000) 1000000000 = q) := ⟨_, Lib.hid rfl⟩
    have IR : ∀ w, Calls Tryz.prog 78 #[.int .i64 m, .int .i64 (-1000000000), .int .i64 1000000000] w fun e w' => e = .returned (.bool q) ∧ w = w' := fun w => HQ.out ▸ nums.l1In m (-1000000000) 1000000000 w
    rw [HQ.out]
    by_cases h0 : s.size = 0
    · obtain rfl := empty_of h0
      cases q
      all_goals
        go_enter Tryz.func18, Tryz.ntmps18
        go_wp2_with (fail)
        refine (IR _).mono ?_
        rintro e w1 ⟨rfl, rfl⟩
        go_wp2_with (fail)
        go_ret
        exact ⟨rfl, b1 _ _⟩
    · obtain ⟨l1, l2⟩ := list_of h0
      rw [show decide (s.size = 0) = false from decide_eq_false h0]
      clear h0
      cases q
      all_goals
        go_enter Tryz.func18, Tryz.ntmps18
        go_wp2_with (fail)
        refine (IR _).mono ?_
        rintro e w1 ⟨rfl, rfl⟩
        go_wp2_with (fail)
        go_ret
        exact ⟨rfl, b1 _ _⟩
  · have e : keyB ⟨true, m, s⟩ = (decide (m = 0) && decide (s.size ≤ 400) && !num s) := rfl
    rw [e]
    clear e
    unfold kyV
    obtain ⟨⟨x1, x2⟩, HX⟩ : ∃ x, Hid (dec.pr (-1000000000) 1000000000 s.data.toList = x) := ⟨_, Lib.hid rfl⟩
    have hn : num s = x2 := by unfold num; rw [HX.out]
    rw [hn]
    have PS : Hid (∀ w, prs.Env w → Calls Tryz.prog 81 #[.string s] w fun e w' => e = .returned (.tuple #[.int .i64 x1, .bool x2]) ∧ Below w.heap.size w w') := Lib.hid fun w hE => by
      have := prs.specParseSigned s hs w
      rw [HX.out] at this
      exact this
    clear hn
    by_cases h0 : m = 0
    · subst h0
      by_cases h4 : s.size ≤ 400
      · rw [show decide (s.size ≤ 400) = true from decide_eq_true h4]
        cases x2
        all_goals
          go_enter Tryz.func18, Tryz.ntmps18
          go_wp2_with (fail)
          refine (PS.out _ (HE.out.stays (b1 _ _))).mono ?_
          rintro e w1 ⟨rfl, hb1⟩
          have HB := Lib.hid (bs (b1 w _) hb1)
          obtain ⟨r1, -⟩ := rowc (carry hb1 (heap_alloc_new w _))
          clear hb1
          go_wp2_with (fail)
          go_ret
          exact ⟨rfl, HB.out⟩
      · rw [show decide (s.size ≤ 400) = false from decide_eq_false h4]
        have h4' : 400 < s.size := by omega
        clear h4
        go_enter Tryz.func18, Tryz.ntmps18
        go_wp2_with (fail)
        refine (PS.out _ (HE.out.stays (b1 _ _))).mono ?_
        rintro e w1 ⟨rfl, hb1⟩
        have HB := Lib.hid (bs (b1 w _) hb1)
        obtain ⟨r1, -⟩ := rowc (carry hb1 (heap_alloc_new w _))
        clear hb1
        go_wp2_with (fail)
        go_ret
        exact ⟨rfl, HB.out⟩
    · rw [show decide (m = 0) = false from decide_eq_false h0]
      go_enter Tryz.func18, Tryz.ntmps18
      go_wp2_with (fail)
      refine (PS.out _ (HE.out.stays (b1 _ _))).mono ?_
      rintro e w1 ⟨rfl, hb1⟩
      have HB := Lib.hid (bs (b1 w _) hb1)
      obtain ⟨r1, -⟩ := rowc (carry hb1 (heap_alloc_new w _))
      clear hb1
      go_wp2_with (fail)
      go_ret
      exact ⟨rfl, HB.out⟩

end Go.Proofs.YtbgffmiffmmohaaGreatDoor.tree

/-
  Whether a key may be one of an array, of the project.
  Conditions: those that each theorem names.
-/
namespace Go.Proofs.YtbgffmiffmmohaaGreatDoor.tree
open Go.ChangeShapes Go.WideShapes Go.ChangeAt Go.RowKit
set_option linter.unusedVariables false

def belowB (y : Ky) (x : Int) : Bool := keyB y && (y.text || decide (y.num < x))
theorem keyBelow_i (y : Ky) (hs : y.str.size ≤ 281474976710656) (x : Int) (w : World) (hE : prs.Env w) : Calls Tryz.prog 204 #[kyV y, .int .i64 x] w (BoQ w (belowB y x)) := by
  obtain ⟨q, HQ⟩ : ∃ q, Hid (keyB y = q) := ⟨_, Lib.hid rfl⟩
  have KI : ∀ o, Calls Tryz.prog 72 #[kyV y] (w.alloc o) (KeyQ (w.alloc o) q) := fun o => HQ.out ▸ isKey_i y hs _ (hE.stays (b1 w o))
  unfold belowB
  rw [HQ.out]
  obtain ⟨b, m, s⟩ := y
  unfold kyV at KI ⊢
  simp only at KI ⊢
  clear hE hs
  have key : ∀ r : Bool, decide (m < x) = r → Calls Tryz.prog 204 #[.agg #[.bool b, .int .i64 m, .string s], .int .i64 x] w (BoQ w (q && (b || r))) := fun r hr => by
    cases r with
    | true =>
      have hr := of_decide_eq_true hr
      cases q <;> cases b
      all_goals
        go_enter Tryz.func204, Tryz.ntmps204
        go_wp2_with (fail)
        refine (KI _).mono ?_
        rintro e w1 ⟨rfl, hb1⟩
        obtain ⟨r1, -⟩ := rowc (carry hb1 (heap_alloc_new w _))
        have HB := Lib.hid (bs (b1 w _) hb1)
        clear hb1
        go_wp2_with (fail)
        go_ret
        exact ⟨rfl, HB.out⟩
    | false =>
      have hr := of_decide_eq_false hr
      cases q <;> cases b
      all_goals
        go_enter Tryz.func204, Tryz.ntmps204
        go_wp2_with (fail)
        refine (KI _).mono ?_
        rintro e w1 ⟨rfl, hb1⟩
        obtain ⟨r1, -⟩ := rowc (carry hb1 (heap_alloc_new w _))
        have HB := Lib.hid (bs (b1 w _) hb1)
        clear hb1
        go_wp2_with (fail)
        go_ret
        exact ⟨rfl, HB.out⟩
  exact key _ rfl

end Go.Proofs.YtbgffmiffmmohaaGreatDoor.tree

/-
  Whether a light value is valid, of the project.
  Conditions: those that each theorem names.
-/
namespace Go.Proofs.YtbgffmiffmmohaaGreatDoor.tree
open Go.ChangeShapes Go.WideShapes Go.ChangeAt Go.RowKit
set_option linter.unusedVariables false

/-- What a value that is no array has to be. -/
def scalB (k n : Int) (s : ByteArray) : Bool := if k = 0 then decide (n = 0) else if k = 1 then nums.inr n 0 1 else if k = 2 then nums.inr n (-1000000000) 1000000000 else if k = 3 then decide (n = 0) && decide (s.size ≤ 400) else if k = 6 ∨ k = 7 ∨ k = 8 then nums.inr n 0 255 else false
def restB (k n : Int) (s : ByteArray) (x : Int) (L : Nat) : Bool := ((decide (k = 3) || decide (s.size = 0)) && (decide (x = 0) && decide (L = 0))) && scalB k n s
mutual
/-- Whether a value is valid, but for its weight. -/
def sndB : Tr → Bool
  | .mk k n s x ks vs => if k = 4 then decide (s.size = 0) && (decide (n = 0) && (nums.inr x 0 1000000001 && itemsB x [] ks vs)) else restB k n s x vs.length
def itemsB (x : Int) : List Ky → List Ky → List Tr → Bool
  | seen, y :: ks, t :: vs => (!decide (y ∈ seen) && (belowB y x && sndB t)) && itemsB x (seen ++ [y]) ks vs
  | _, _, _ => true
end
theorem snd_four (n : Int) (s : ByteArray) (x : Int) (ks : List Ky) (vs : List Tr) : sndB (.mk 4 n s x ks vs) = (decide (s.size = 0) && (decide (n = 0) && (nums.inr x 0 1000000001 && itemsB x [] ks vs))) := by rw [sndB, if_pos rfl]
theorem snd_not {k n : Int} {s : ByteArray} {x : Int} {ks : List Ky} {vs : List Tr} (h : k ≠ 4) : sndB (.mk k n s x ks vs) = restB k n s x vs.length := by rw [sndB, if_neg h]
theorem items_cons (x : Int) (seen : List Ky) (y : Ky) (ks : List Ky) (t : Tr) (vs : List Tr) : itemsB x seen (y :: ks) (t :: vs) = ((!decide (y ∈ seen) && (belowB y x && sndB t)) && itemsB x (seen ++ [y]) ks vs) := by rw [itemsB]
theorem items_nil (x : Int) (seen ks : List Ky) : itemsB x seen ks [] = true := by cases ks <;> rw [itemsB] <;> simp
theorem items_drop {x : Int} {ks : List Ky} {vs : List Tr} {j : Nat} {y : Ky} {t : Tr} (hk : ks[j]? = some y) (hv : vs[j]? = some t) :
    itemsB x (ks.take j) (ks.drop j) (vs.drop j) = ((!decide (y ∈ ks.take j) && (belowB y x && sndB t)) && itemsB x (ks.take (j + 1)) (ks.drop (j + 1)) (vs.drop (j + 1))) := by
  obtain ⟨hj, rfl⟩ := List.getElem?_eq_some_iff.1 hk
  obtain ⟨hj', rfl⟩ := List.getElem?_eq_some_iff.1 hv
  rw [List.drop_eq_getElem_cons hj, List.drop_eq_getElem_cons hj', items_cons, List.take_succ_eq_append_getElem hj]
theorem tots_item : ∀ {ks : List Ky} {vs : List Tr} {j : Nat} {y : Ky} {t : Tr}, ks[j]? = some y → vs[j]? = some t → y.str.size + tot t ≤ tots ks vs
  | [], _, _, _, _, h, _ => by simp at h
  | _ :: _, [], _, _, _, _, h => by simp at h
  | z :: ks, u :: vs, 0, y, t, h, h' => by
    simp at h h'
    subst h h'
    rw [tots_cons]
    omega
  | z :: ks, u :: vs, j + 1, y, t, h, h' => by
    have := tots_item (ks := ks) (vs := vs) (j := j) (by simpa using h) (by simpa using h')
    rw [tots_cons]
    omega

theorem rest_str {k n : Int} {s : ByteArray} {x : Int} {L : Nat} (h : ¬ k = 3) (hs : ¬ s.size = 0) : restB k n s x L = false := by
  unfold restB
  simp [h, hs]
theorem rest_next {k n : Int} {s : ByteArray} {x : Int} {L : Nat} (h : ¬ x = 0) : restB k n s x L = false := by
  unfold restB
  simp [h]
theorem rest_items {k n : Int} {s : ByteArray} {x : Int} {L : Nat} (h : ¬ L = 0) : restB k n s x L = false := by
  unfold restB
  simp [h]
theorem rest_ok {k n : Int} {s : ByteArray} (h : k = 3 ∨ s.size = 0) : restB k n s 0 0 = scalB k n s := by
  unfold restB
  rcases h with h | h <;> simp [h]
theorem ret_dec {p q : Prop} [Decidable p] [Decidable q] (h : p ↔ q) : Ending.returned (.bool (decide p)) = .returned (.bool (decide q)) := by rw [decide_eq_decide.2 h]
theorem inRange_i (n l h : Int) (q : Bool) (hq : nums.inr n l h = q) (w : World) : Calls Tryz.prog 151 #[.int .i64 n, .int .i64 l, .int .i64 h] w fun e w' => e = .returned (.bool q) ∧ w = w' := hq ▸ nums.implInRange n l h w

theorem scal_i (k n : Int) (s : ByteArray) (A : Option Addr) (c : Nat) (h4 : ¬ k = 4) (hs : k = 3 ∨ s.size = 0) (hm : s.size ≤ maxLen) (w : World) :
    Calls Tryz.prog 170 #[vV k n s 0 A 0 c] w (BoQ w (scalB k n s)) := by
  unfold maxLen at hm
  by_cases h3 : k = 3
  · subst h3
    clear h4 hs
    by_cases hn : n = 0
    · subst hn
      have e : scalB 3 0 s = decide (s.size ≤ 400) := by simp [scalB]
      rw [e]
      clear e
      go_enter Tryz.func170, Tryz.ntmps170
      go_wp2_with (fail)
      go_ret
      exact ⟨ret_dec (p := (s.size : Int) ≤ 400) (by omega), b1 _ _⟩
    · have e : scalB 3 n s = false := by simp [scalB, hn]
      rw [e]
      clear e
      go_enter Tryz.func170, Tryz.ntmps170
      go_wp2_with (fail)
      go_ret
      exact ⟨rfl, b1 _ _⟩
  · obtain rfl := empty_of (hs.resolve_left h3)
    clear hs hm
    by_cases h0 : k = 0
    · subst h0
      have e : scalB 0 n ⟨#[]⟩ = decide (n = 0) := rfl
      rw [e]
      clear e h3 h4
      go_enter Tryz.func170, Tryz.ntmps170
      go_wp2_with (fail)
      go_ret
      exact ⟨rfl, b1 _ _⟩
    by_cases h1 : k = 1
    · subst h1
      obtain ⟨q, hq⟩ : ∃ q, scalB 1 n ⟨#[]⟩ = q := ⟨_, rfl⟩
      have IR := inRange_i n 0 1 q hq
      rw [hq]
      clear hq h3 h4 h0
      go_enter Tryz.func170, Tryz.ntmps170
      go_wp2_with (fail)
      refine (IR _).mono ?_
      rintro e w1 ⟨rfl, rfl⟩
      go_wp2_with (fail)
      go_ret
      exact ⟨rfl, b1 _ _⟩
    by_cases h2 : k = 2
    · subst h2
      obtain ⟨q, hq⟩ : ∃ q, scalB 2 n ⟨#[]⟩ = q := ⟨_, rfl⟩
      have IR := inRange_i n (-1000000000) 1000000000 q hq
      rw [hq]
      clear hq h3 h4 h0 h1
      go_enter Tryz.func170, Tryz.ntmps170
      go_wp2_with (fail)
      refine (IR _).mono ?_
      rintro e w1 ⟨rfl, rfl⟩
      go_wp2_with (fail)
      go_ret
      exact ⟨rfl, b1 _ _⟩
    by_cases h678 : k = 6 ∨ k = 7 ∨ k = 8
    · obtain ⟨q, hq⟩ : ∃ q, nums.inr n 0 255 = q := ⟨_, rfl⟩
      have IR := inRange_i n 0 255 q hq
      have e : scalB k n ⟨#[]⟩ = q := by
        unfold scalB
        rw [if_neg h0, if_neg h1, if_neg h2, if_neg h3, if_pos h678, hq]
      rw [e]
      clear hq e h3 h4 h0 h1 h2
      rcases h678 with rfl | rfl | rfl
      all_goals
        go_enter Tryz.func170, Tryz.ntmps170
        go_wp2_with (fail)
        refine (IR _).mono ?_
        rintro e w1 ⟨rfl, rfl⟩
        go_wp2_with (fail)
        go_ret
        exact ⟨rfl, b1 _ _⟩
    · have e : scalB k n ⟨#[]⟩ = false := by
        unfold scalB
        rw [if_neg h0, if_neg h1, if_neg h2, if_neg h3, if_neg h678]
      rw [e]
      clear e
      have h6 : ¬ k = 6 := fun h => h678 (.inl h)
      have h7 : ¬ k = 7 := fun h => h678 (.inr (.inl h))
      have h8 : ¬ k = 8 := fun h => h678 (.inr (.inr h))
      clear h678
      go_enter Tryz.func170, Tryz.ntmps170
      go_wp2_with (fail)
      go_ret
      exact ⟨rfl, b1 _ _⟩

theorem rest_i (k n : Int) (s : ByteArray) (x : Int) (A : Option Addr) (L c : Nat) (h4 : ¬ k = 4) (hm : s.size ≤ maxLen) (hL : L ≤ maxLen) (w : World) :
    Calls Tryz.prog 170 #[vV k n s x A L c] w (BoQ w (restB k n s x L)) := by
  by_cases hs : k = 3 ∨ s.size = 0
  · by_cases hx : x = 0
    · subst hx
      by_cases h0 : L = 0
      · subst h0
        rw [rest_ok hs]
        exact scal_i k n s A c h4 hs hm w
      · rw [rest_items h0]
        unfold maxLen at hL
        have h0' : ((L : Int) != 0) = true := by simp; omega
        have h4' : (k != 4) = true := by simp [h4]
        by_cases h3 : k = 3
        · subst h3
          clear hs h4'
          go_enter Tryz.func170, Tryz.ntmps170
          go_wp2_with (fail)
          go_ret
          exact ⟨rfl, b1 _ _⟩
        · obtain rfl := empty_of (hs.resolve_left h3)
          clear hs hm
          go_enter Tryz.func170, Tryz.ntmps170
          go_wp2_with (fail)
          go_ret
          exact ⟨rfl, b1 _ _⟩
    · rw [rest_next hx]
      by_cases h3 : k = 3
      · subst h3
        clear hs
        go_enter Tryz.func170, Tryz.ntmps170
        go_wp2_with (fail)
        go_ret
        exact ⟨rfl, b1 _ _⟩
      · obtain rfl := empty_of (hs.resolve_left h3)
        clear hs hm
        go_enter Tryz.func170, Tryz.ntmps170
        go_wp2_with (fail)
        go_ret
        exact ⟨rfl, b1 _ _⟩
  · have h3 : ¬ k = 3 := fun h => hs (.inl h)
    have h0 : ¬ s.size = 0 := fun h => hs (.inr h)
    rw [rest_str h3 h0]
    obtain ⟨l1, l2⟩ := list_of h0
    clear hs
    go_enter Tryz.func170, Tryz.ntmps170
    go_wp2_with (fail)
    go_ret
    exact ⟨rfl, b1 _ _⟩

end Go.Proofs.YtbgffmiffmmohaaGreatDoor.tree

/-
  Keys of a valid array: where they stand, that none stands twice.
  Conditions: those that each theorem names.
-/
namespace Go.Proofs.YtbgffmiffmmohaaGreatDoor.tree
open Go.ChangeShapes Go.WideShapes Go.ChangeAt Go.RowKit
set_option linter.unusedVariables false

theorem items_at {x : Int} {ks : List Ky} {vs : List Tr} (hl : ks.length = vs.length) (h : itemsB x [] ks vs = true) : ∀ j, j ≤ vs.length → itemsB x (ks.take j) (ks.drop j) (vs.drop j) = true
  | 0, _ => by simpa using h
  | j + 1, hj => by
    have ih := items_at hl h j (by omega)
    rw [items_drop (List.getElem?_eq_getElem (by omega : j < ks.length)) (List.getElem?_eq_getElem (by omega : j < vs.length)), Bool.and_eq_true] at ih
    exact ih.2
theorem items_fact {x : Int} {ks : List Ky} {vs : List Tr} (hl : ks.length = vs.length) (h : itemsB x [] ks vs = true) {j : Nat} {y : Ky} {t : Tr} (hy : ks[j]? = some y) (ht : vs[j]? = some t) : y ∉ ks.take j ∧ sndB t = true := by
  have := items_at hl h j (by have := (List.getElem?_eq_some_iff.1 ht).1; omega)
  rw [items_drop hy ht, Bool.and_eq_true, Bool.and_eq_true, Bool.and_eq_true] at this
  exact ⟨by simpa using this.1.1, this.1.2.2⟩
theorem pos_neg : ∀ (ks : List Ky) (y : Ky) (i : Nat), pos ks y i = -1 ↔ y ∉ ks
  | [], y, i => by simp [pos]
  | z :: ks, y, i => by
    rw [pos]
    by_cases h : z = y
    · subst h; simp
    · rw [if_neg h, pos_neg ks y (i + 1)]; simp; exact fun _ e => h e.symm
theorem pos_get : ∀ (ks : List Ky) (y : Ky) (i p : Nat), pos ks y i = ((i + p : Nat) : Int) → ks[p]? = some y
  | [], y, i, p, h => by simp [pos] at h; omega
  | z :: ks, y, i, p, h => by
    rw [pos] at h
    by_cases e : z = y
    · subst e
      rw [if_pos rfl] at h
      obtain rfl : p = 0 := by omega
      rfl
    · rw [if_neg e] at h
      have hg := pos_ge ks y (i + 1)
      obtain ⟨q, rfl⟩ : ∃ q, p = q + 1 := ⟨p - 1, by omega⟩
      rw [List.getElem?_cons_succ]
      exact pos_get ks y (i + 1) q (by rw [h]; omega)
theorem items_key {x : Int} {ks : List Ky} {vs : List Tr} (hl : ks.length = vs.length) (h : itemsB x [] ks vs = true) {j : Nat} {y : Ky} (hy : ks[j]? = some y) : y ∉ ks.take j ∧ belowB y x = true := by
  obtain ⟨t, ht⟩ : ∃ t, vs[j]? = some t := ⟨_, List.getElem?_eq_getElem (by have := (List.getElem?_eq_some_iff.1 hy).1; omega)⟩
  have := items_at hl h j (by have := (List.getElem?_eq_some_iff.1 ht).1; omega)
  rw [items_drop hy ht, Bool.and_eq_true, Bool.and_eq_true, Bool.and_eq_true] at this
  exact ⟨by simpa using this.1.1, this.1.2.1⟩
theorem below_num {y : Ky} {x : Int} (h : belowB y x = true) (ht : y.text = false) : y.num < x := by
  unfold belowB at h
  rw [Bool.and_eq_true, ht] at h
  simpa using h.2

end Go.Proofs.YtbgffmiffmmohaaGreatDoor.tree

/-
  Whether a light value is valid, of the project: the items of an array.
  Conditions: the keys' texts have at most 2^48 bytes; the package variables of the library's reading of numbers hold what the program's text lays.
-/
namespace Go.Proofs.YtbgffmiffmmohaaGreatDoor.tree
open Go.ChangeShapes Go.WideShapes Go.ChangeAt Go.RowKit
set_option linter.unusedVariables false

theorem kzero (w : World) : (zeroValue 4).run Tryz.prog w = .ok (.bool false) w := by kernel_rfl
theorem kgot_some (z v : Value) : raw.Got false z (some v) = v := rfl
theorem kgot_none (z : Value) : raw.Got false z none = z := rfl
theorem kalH {w : World} {b : Nat} {f : Value → Option Value} (h : raw.Holds w GK b f) (o : Obj) : raw.Holds (w.alloc o) GK b f :=
  h.kept (Below.heap_alloc w o b h.lt) (fun _ hx => hx)
def SeenK (l : List Ky) (e : Value → Option Value) : Prop := ∀ y : Ky, e (kyV y) = if y ∈ l then some (.bool true) else none
theorem SeenK.push {l : List Ky} {e : Value → Option Value} (h : SeenK l e) (y : Ky) : SeenK (l ++ [y]) (raw.put e (kyV y) (.bool true)) := fun z => by
  by_cases hz : z = y
  · subst hz
    rw [raw.put_same]
    simp
  · rw [raw.put_other (fun e => hz (ky_inj e)), h z]
    simp [hz]

def SoI (t : Tr) : Prop := tot t ≤ 281474976710656 → ∀ (w : World) (S : Nat → Prop) (v : Value), prs.Env w → TIn w S t v → Calls Tryz.prog 170 #[v] w (BoQ w (sndB t))

set_option maxHeartbeats 1000000 in
theorem soundItems (n : Int) (s : ByteArray) (x : Int) (ks : List Ky) (vs : List Tr) (ih : ∀ t ∈ vs, SoI t) (A : Option Addr) (c : Nat) (w : World) (S : Nat → Prop) (hE : prs.Env w) (h : IsIn w S ks vs A) (hN : tots ks vs ≤ 281474976710656) :
    Calls Tryz.prog 216 #[vV 4 n s x A vs.length c] w (BoQ w (itemsB x [] ks vs)) := by
  obtain ⟨L, HL⟩ : ∃ L, Hid (L = vs.length) := ⟨_, Lib.hid rfl⟩
  have hm : L ≤ maxLen := by rw [HL.out]; exact h.2.1
  unfold maxLen at hm
  have HKL : Hid (ks.length = L) := Lib.hid (by rw [HL.out]; exact h.1)
  rw [← HL.out]
  have HI := Lib.hid h
  have HEN := Lib.hid hE
  clear h hE
  obtain ⟨W, HW⟩ : ∃ W, Hid (itemsB x [] ks vs = W) := ⟨_, Lib.hid rfl⟩
  rw [HW.out]
  have hmm := @run_makeMap Tryz.prog
  go_enter Tryz.func216, Tryz.ntmps216
  go_wp2_with (fail)
  clear hmm
  go_loopg [10] (L + 1) (fun gk i wr => ∃ (j : Nat) (e : Value → Option Value), i = .int .i64 j ∧ gk + j = L + 1 ∧ j ≤ L ∧ Hid (itemsB x (ks.take j) (ks.drop j) (vs.drop j) = W) ∧
    Hid (wr.heap[w.heap.size]? = some (.cells #[.int .i64 4, .int .i64 n, .string s, .int .i64 x, .slice A L c] IV (0, 0))) ∧ Hid (SeenK (ks.take j) e) ∧ raw.Holds wr GK (w.heap.size + 1) e ∧ Below w.heap.size w wr ∧ w.heap.size + 1 < wr.heap.size)
  case atStart =>
    have h1 := raw.Holds.made (w.alloc (.cells #[.int .i64 4, .int .i64 n, .string s, .int .i64 x, .slice A L c] IV)) GK
    have z1 : (w.alloc (.cells #[.int .i64 4, .int .i64 n, .string s, .int .i64 x, .slice A L c] IV)).heap.size = w.heap.size + 1 := by simp
    rw [z1] at h1
    exact ⟨0, fun _ => none, rfl, by omega, by omega, Lib.hid HW.out, Lib.hid (heap_alloc2_old w _ _), Lib.hid (fun y => by simp), h1, b2 _ _ _, h1.lt⟩
  case round =>
    obtain ⟨j, e, rfl, hgj, hjL, HQ, HE, HS, hm1, hb, hz⟩ := hrel
    have HB := Lib.hid hb
    have HZ := Lib.hid hz
    clear hb hz
    obtain ⟨r0, -⟩ := rowc HE.out
    by_cases hlt : j < L
    · obtain ⟨a, y, k', n', s', x', ks', vs', A1, c1, rfl, hS, hky, hvs, ht, hyb, hkb, hin', hcell⟩ := (HI.out.below HB.out).item (i := j) (by rw [← HL.out]; exact hlt)
      have htm := tots_item hky hvs
      have hys : y.str.size ≤ 281474976710656 := by omega
      have htt : tot (.mk k' n' s' x' ks' vs') ≤ 281474976710656 := by omega
      have HD := Lib.hid ((items_drop (x := x) hky hvs).symm.trans HQ.out)
      have HTK : Hid (ks.take (j + 1) = ks.take j ++ [y]) := Lib.hid (by
        obtain ⟨hj, rfl⟩ := List.getElem?_eq_some_iff.1 hky
        exact List.take_succ_eq_append_getElem hj)
      have hm2 := fun o => kalH hm1 o
      have hkk : ∀ w' : World, GK w' (.agg #[.bool y.text, .int .i64 y.num, .string y.str]) := fun _ => ⟨y, rfl⟩
      obtain ⟨q1, HQ1⟩ : ∃ q, Hid (belowB y x = q) := ⟨_, Lib.hid rfl⟩
      obtain ⟨q2, HQ2⟩ : ∃ q, Hid (sndB (.mk k' n' s' x' ks' vs') = q) := ⟨_, Lib.hid rfl⟩
      have KB : ∀ w' : World, Below wr.heap.size wr w' → Calls Tryz.prog 204 #[.agg #[.bool y.text, .int .i64 y.num, .string y.str], .int .i64 x] w' (BoQ w' q1) := fun w' hb' => HQ1.out ▸ keyBelow_i y hys x w' (HEN.out.stays (bs HB.out hb'))
      have ihj : ∀ w' : World, Below wr.heap.size wr w' → Calls Tryz.prog 170 #[vV k' n' s' x' A1 vs'.length c1] w' (BoQ w' q2) := fun w' hb' => HQ2.out ▸ ih _ (List.mem_of_getElem? hvs) htt w' S _ (HEN.out.stays (bs HB.out hb')) (ht.below' hb')
      rw [HQ1.out, HQ2.out] at HD
      obtain ⟨L1, HL1⟩ : ∃ L1, Hid (L1 = vs'.length) := ⟨_, Lib.hid rfl⟩
      rw [← HL1.out] at hcell ihj
      clear hky hvs ht hin' hyb hkb hS htm hys htt
      obtain ⟨p0, p1, p2, p3, p4, p5, p6, p7⟩ := hcell
      obtain ⟨NI, hNI⟩ : ∃ N, N = wr.heap.size := ⟨_, rfl⟩
      by_cases hsn : y ∈ ks.take j
      · have hek : e (.agg #[.bool y.text, .int .i64 y.num, .string y.str]) = some (.bool true) := (HS.out y).trans (if_pos hsn)
        have HEK := Lib.hid hek
        have HF : Hid (false = W) := Lib.hid (by have := HD.out; rw [decide_eq_true hsn] at this; simpa using this)
        clear hsn hek hm1
        go_wp2_with (first | (at_lookup; refine raw.wpList_lookup_to _ rfl _ _ 214 false rfl (hm2 _) good_ky Tryz.underlying214 (kzero _) rfl rfl (hkk _) HEK.out (kgot_some _ _) ?_) | fail)
        go_ret
        exact ⟨by rw [← HF.out]; rfl, bs HB.out (b1 _ _)⟩
      · have hek : e (.agg #[.bool y.text, .int .i64 y.num, .string y.str]) = none := (HS.out y).trans (if_neg hsn)
        have HEK := Lib.hid hek
        have HD2 : Hid (((q1 && q2) && itemsB x (ks.take (j + 1)) (ks.drop (j + 1)) (vs.drop (j + 1))) = W) := Lib.hid (by have := HD.out; rw [decide_eq_false hsn] at this; simpa using this)
        clear hsn hek hm1 HD
        have bx : ∀ o, (wr.alloc o).cell? ⟨w.heap.size, 3, none⟩ = some (.int .i64 x) := fun o => (rowc (keepAlloc (o' := o) HE.out)).1 3
        go_wp2_with (first | (at_lookup; refine raw.wpList_lookup_to _ rfl _ _ 214 false rfl (hm2 _) good_ky Tryz.underlying214 (kzero _) rfl rfl (hkk _) HEK.out (kgot_none _) ?_) | fail)
        refine (KB _ (b1 _ _)).mono ?_
        rintro e1 w1 ⟨rfl, hb1⟩
        have eI := carry hb1 (heap_alloc_new wr _)
        rw [← hNI] at eI ⊢
        have EI := Lib.hid eI
        obtain ⟨rI, -⟩ := rowc eI
        have hB1 := bs (b1 wr _) hb1
        have HB1 := Lib.hid hB1
        have hm3 : raw.Holds w1 GK (w.heap.size + 1) e := (hm2 _).kept (hb1.block _ (hm2 _).lt) (fun _ hx => hx)
        have hbIH := Lib.hid hb1
        clear hb1 eI hB1 hm2 r0 bx hNI
        cases q1 with
        | false =>
          have HF : Hid (false = W) := HD2
          go_wp2_with (fail)
          go_ret
          exact ⟨by rw [← HF.out]; rfl, bs HB.out HB1.out⟩
        | true =>
          go_wp2_with (fail)
          refine (ihj _ HB1.out).mono ?_
          rintro e2 w2 ⟨rfl, hb2⟩
          have eI2 := carry hb2 EI.out
          have EI2 := Lib.hid eI2
          obtain ⟨rI2, -⟩ := rowc eI2
          have hm4 : raw.Holds w2 GK (w.heap.size + 1) e := hm3.kept (hb2.block _ hm3.lt) (fun _ hx => hx)
          have HB2 := Lib.hid (bs HB1.out hb2)
          clear hb2 eI2 rI hm3
          cases q2 with
          | false =>
            have HF : Hid (false = W) := HD2
            go_wp2_with (fail)
            go_ret
            exact ⟨by rw [← HF.out]; rfl, bs HB.out HB2.out⟩
          | true =>
            have HF : Hid (itemsB x (ks.take (j + 1)) (ks.drop (j + 1)) (vs.drop (j + 1)) = W) := HD2
            go_wp2_with (first
              | (at_mapUpdate; refine raw.wpList_update _ rfl _ _ _ 214 rfl hm4 good_ky gk_stays Tryz.underlying214 rfl rfl rfl (hkk _) ?_
                 intro w4 hm14 hgr4
                 have HM14 := Lib.hid hm14
                 have HGR4 := Lib.hid hgr4
                 clear hm14 hgr4)
              | fail)
            go_roundg (L - j)
            case rel =>
              have hE2 := carry HB2.out HE.out
              have z4 := HB2.out.size
              have z5 := HZ.out
              refine ⟨j + 1, _, by go_num, by omega, by omega, HF, Lib.hid ((HGR4.out.block _ (Array.getElem?_eq_some_iff.1 hE2).1 (by intro h; injection h; omega)).trans hE2), Lib.hid (by rw [HTK.out]; exact HS.out.push y), HM14.out, ?_, HM14.out.lt⟩
              exact (bs HB.out HB2.out).grown HGR4.out (by omega) (fun k hk => by obtain rfl := Option.some.inj hk; omega)
            case measure => omega
    · obtain rfl : j = L := by omega
      have HF : Hid (true = W) := Lib.hid (by rw [← HQ.out, show vs.drop j = [] from List.drop_eq_nil_of_le (Nat.le_of_eq HL.out.symm), items_nil])
      clear hm1
      go_wp2_with (fail)
      go_ret
      exact ⟨by rw [← HF.out]; rfl, HB.out⟩

end Go.Proofs.YtbgffmiffmmohaaGreatDoor.tree

/-
  IsValue of the project.
  Conditions: the value has at most 2^48 letters and items; the package variables of the library's reading of numbers hold what the program's text lays.
-/
namespace Go.Proofs.YtbgffmiffmmohaaGreatDoor.tree
open Go.ChangeShapes Go.WideShapes Go.ChangeAt Go.RowKit
set_option linter.unusedVariables false

theorem sound_i : ∀ t, SoI t := Tr.ind fun k n s x ks vs ih hN w S v hE h => by
  obtain ⟨A, c, rfl, ⟨-, -, -, hs⟩, hin⟩ := h.out
  clear h
  rw [tot] at hN
  by_cases h4 : k = 4
  · subst h4
    have SI : ∀ o, Calls Tryz.prog 216 #[vV 4 n s x A vs.length c] (w.alloc o) (BoQ (w.alloc o) (itemsB x [] ks vs)) := fun o => soundItems n s x ks vs ih A c _ S (hE.stays (b1 w o)) (hin.below (b1 w o)) (by omega)
    rw [snd_four]
    obtain ⟨q, HQ⟩ : ∃ q, Hid (itemsB x [] ks vs = q) := ⟨_, Lib.hid rfl⟩
    obtain ⟨q1, HQ1⟩ : ∃ q, Hid (nums.inr x 0 1000000001 = q) := ⟨_, Lib.hid rfl⟩
    have IR := inRange_i x 0 1000000001 q1 HQ1.out
    rw [HQ.out] at SI ⊢
    rw [HQ1.out]
    have hm : vs.length ≤ maxLen := hin.2.1
    obtain ⟨L, HL⟩ : ∃ L, Hid (L = vs.length) := ⟨_, Lib.hid rfl⟩
    rw [← HL.out] at SI hm ⊢
    unfold maxLen at hm hs
    clear hin hE hN ih
    by_cases h0 : s.size = 0
    · obtain rfl := empty_of h0
      by_cases hn : n = 0
      · subst hn
        cases q1 with
        | false =>
          go_enter Tryz.func170, Tryz.ntmps170
          go_wp2_with (fail)
          refine (IR _).mono ?_
          rintro e w1 ⟨rfl, rfl⟩
          go_wp2_with (fail)
          go_ret
          exact ⟨rfl, b1 _ _⟩
        | true =>
          go_enter Tryz.func170, Tryz.ntmps170
          go_wp2_with (fail)
          refine (IR _).mono ?_
          rintro e w1 ⟨rfl, rfl⟩
          go_wp2_with (fail)
          refine (SI _).mono ?_
          rintro e w2 ⟨rfl, hb2⟩
          have HB := Lib.hid (bs (b1 _ _) hb2)
          clear hb2
          go_wp2_with (fail)
          go_ret
          exact ⟨rfl, HB.out⟩
      · have e : (decide ((⟨#[]⟩ : ByteArray).size = 0) && (decide (n = 0) && (q1 && q))) = false := by rw [decide_eq_false hn]; simp
        rw [e]
        clear e
        go_enter Tryz.func170, Tryz.ntmps170
        go_wp2_with (fail)
        go_ret
        exact ⟨rfl, b1 _ _⟩
    · have e : (decide (s.size = 0) && (decide (n = 0) && (q1 && q))) = false := by rw [decide_eq_false h0]; rfl
      rw [e]
      obtain ⟨l1, l2⟩ := list_of h0
      clear e
      go_enter Tryz.func170, Tryz.ntmps170
      go_wp2_with (fail)
      go_ret
      exact ⟨rfl, b1 _ _⟩
  · rw [snd_not h4]
    exact rest_i k n s x A vs.length c h4 hs hin.2.1 w

def valB (t : Tr) : Bool := lightB t && sndB t
theorem isValue_i (t : Tr) (hN : tot t ≤ 281474976710656) (w : World) (S : Nat → Prop) (v : Value) (hE : prs.Env w) (h : TIn w S t v) : Calls Tryz.prog 90 #[v] w (BoQ w (valB t)) := by
  have LI : ∀ o, Calls Tryz.prog 169 #[v] (w.alloc o) (BoQ (w.alloc o) (lightB t)) := fun o => light_i t _ S v (h.below' (b1 w o))
  have SI : ∀ w', Below w.heap.size w w' → Calls Tryz.prog 170 #[v] w' (BoQ w' (sndB t)) := fun w' hb => sound_i t hN w' S v (hE.stays hb) (h.below' hb)
  unfold valB
  obtain ⟨q1, HQ1⟩ : ∃ q, Hid (lightB t = q) := ⟨_, Lib.hid rfl⟩
  obtain ⟨q2, HQ2⟩ : ∃ q, Hid (sndB t = q) := ⟨_, Lib.hid rfl⟩
  rw [HQ1.out] at LI ⊢
  rw [HQ2.out] at SI ⊢
  obtain ⟨k, n, s, x, ks, vs⟩ := t
  obtain ⟨A, c, rfl, hk, hin⟩ := h.out
  clear h hk hin hE hN
  cases q1 with
  | false =>
    go_enter Tryz.func90, Tryz.ntmps90
    go_wp2_with (fail)
    refine (LI _).mono ?_
    rintro e w1 ⟨rfl, hb1⟩
    have HB := Lib.hid (bs (b1 _ _) hb1)
    clear hb1
    go_wp2_with (fail)
    go_ret
    exact ⟨rfl, HB.out⟩
  | true =>
    go_enter Tryz.func90, Tryz.ntmps90
    go_wp2_with (fail)
    refine (LI _).mono ?_
    rintro e w1 ⟨rfl, hb1⟩
    obtain ⟨r1, -⟩ := rowc (carry hb1 (heap_alloc_new w _))
    have HB := Lib.hid (bs (b1 _ _) hb1)
    clear hb1
    go_wp2_with (fail)
    refine (SI _ HB.out).mono ?_
    rintro e w2 ⟨rfl, hb2⟩
    have HB2 := Lib.hid (bs HB.out hb2)
    clear hb2
    go_wp2_with (fail)
    go_ret
    exact ⟨rfl, HB2.out⟩

end Go.Proofs.YtbgffmiffmmohaaGreatDoor.tree

