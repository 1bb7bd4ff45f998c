/-
  What the texts behind this one use: 7 parts of one proof.
  Conditions: those that each theorem names.
-/
import Derived.Test.YtplfekpagonbbaaGreatDoorFiSSTreeCp
import Derived.Test.YtplfekpagonbbaaGreatDoorFiSB2
import Derived.Test.YtplfekpagonbbaaGreatDoorFiSB3
/-
  What a call leaves as it was, but for some blocks.
  Conditions: none.
-/
namespace Go.Proofs.YtplfekpagonbbaaGreatDoor.tree
open Go.ChangeShapes Go.WideShapes Go.ChangeAt Go.RowKit
set_option linter.unusedVariables false

/-- Nothing but blocks of S has changed. -/
structure Fr (S : Nat → Prop) (w w' : World) : Prop where
  os : w'.os = w.os
  tape : w'.tape = w.tape
  output : w'.output = w.output
  size : w.heap.size ≤ w'.heap.size
  block : ∀ b, b < w.heap.size → ¬ S b → w'.heap[b]? = w.heap[b]?
section
variable {S S' : Nat → Prop} {w w' w2 : World}
theorem Fr.refl (S : Nat → Prop) (w : World) : Fr S w w := ⟨rfl, rfl, rfl, Nat.le_refl _, fun _ _ _ => rfl⟩
theorem Fr.of (h : Below w.heap.size w w') : Fr S w w' := ⟨h.os, h.tape, h.output, h.size, fun b hb _ => h.block b hb⟩
theorem Fr.trans (h : Fr S w w') (k : Fr S w' w2) : Fr S w w2 := ⟨k.os.trans h.os, k.tape.trans h.tape, k.output.trans h.output, Nat.le_trans h.size k.size, fun b hb hs => (k.block b (Nat.lt_of_lt_of_le hb h.size) hs).trans (h.block b hb hs)⟩
theorem Fr.mono (h : Fr S w w') (hs : ∀ b, S b → S' b) : Fr S' w w' := ⟨h.os, h.tape, h.output, h.size, fun b hb hn => h.block b hb fun hh => hn (hs b hh)⟩
theorem Fr.below (h : Fr S w w') {lo : Nat} (hl : lo ≤ w.heap.size) (hs : ∀ b, S b → lo ≤ b) : Below lo w w' := ⟨h.os, h.tape, h.output, h.size, fun b hb => h.block b (Nat.lt_of_lt_of_le hb hl) fun hh => by have := hs b hh; omega⟩
theorem Fr.set {g : Nat} (hg : S g) (j : Nat) (v : Value) : Fr S w (w.setCell ⟨g, j, none⟩ v) := ⟨rfl, rfl, rfl, by rw [set_size]; exact Nat.le_refl _, fun b _ hn => set_other (fun e => hn (e ▸ hg))⟩
end

theorem TIn.lt' {w : World} {S : Nat → Prop} {t : Tr} {v : Value} (h : TIn w S t v) : TIn w (fun b => b < w.heap.size) t v := by
  induction h with
  | mk k n s x ks vs A cap C hk hl hm hcap hc ht ih =>
    refine TIn.mk k n s x ks vs A _ C hk hl hm hcap (fun i hi => ?_) ih
    obtain ⟨a, ha, hS, hky, hs, hj⟩ := hc i hi
    refine ⟨a, ha, ?_, hky, hs, hj⟩
    have := World.block_lt_of_cell? _ _ hky.1
    rwa [mem.add_block] at this

end Go.Proofs.YtplfekpagonbbaaGreatDoor.tree

/-
  The slots among which a key is found, of the project: the chain of its bucket.
  Conditions: those that each theorem names.
-/
namespace Go.Proofs.YtplfekpagonbbaaGreatDoor.tree
open Go.ChangeShapes Go.WideShapes Go.ChangeAt Go.RowKit
set_option linter.unusedVariables false

theorem SIn.lt' {w : World} {S : Nat → Prop} {sl : List Sl} {A : Option Addr} (h : SIn w S sl A) : SIn w (fun b => b < w.heap.size) sl A := fun i t ht => by
  obtain ⟨a, k, n, s, x, ks, vs, A', c', e, hSa, hk, hl, hv, hT, hc⟩ := h i t ht
  refine ⟨a, k, n, s, x, ks, vs, A', c', e, ?_, hk, hl, hv, hT.lt', hc⟩
  have := World.block_lt_of_cell? _ _ hc.c0
  rwa [mem.add_block] at this

def ChQ (w : World) (g m : Nat) (sl : List Sl) (y : Ky) (e : Ending) (w' : World) : Prop :=
  ∃ A' L' c' r, e = .returned (.slice A' L' c') ∧ OwnC w' g (w.heap.size + 2) A' L' c' r ∧ (∀ i ∈ r, 0 ≤ i ∧ i < m) ∧ sr sl y r = fd sl y m ∧ L' ≤ 1024 ∧ w.grownBy w' (some g)

theorem three_cell (w : World) (o1 o2 : Obj) (v : Value) (t : TypeId) (N : Nat) (hN : N = w.heap.size + 2) : (((w.alloc o1).alloc o2).alloc (.cells #[v] t)).cell? ⟨N, 0, none⟩ = some v := by
  subst hN
  have h := heap_alloc_new ((w.alloc o1).alloc o2) (.cells #[v] t)
  rw [show ((w.alloc o1).alloc o2).heap.size = w.heap.size + 2 by simp] at h
  exact (rowc h).1 0

theorem one_cell (w : World) (v : Value) (t : TypeId) (N : Nat) (hN : N = w.heap.size) : (w.alloc (.cells #[v] t)).cell? ⟨N, 0, none⟩ = some v := by
  subst hN
  exact (rowc (heap_alloc_new w _)).1 0

set_option maxRecDepth 100000 in
set_option maxHeartbeats 2000000 in
theorem chain_f {l : List Int} {sl : List Sl} {A : Option Addr} {n c : Nat} {B : Option Addr} {m d : Nat} {x k : Int} (w : World) {S : Nat → Prop} (hr : TbIn w S l sl A n c B m d x k) (hok : tabOk false l sl x k) (y : Ky) (g : Nat) (cur : Array Value) (hg : w.heap[g]? = some (.cells cur T8 (0, 0))) (hcs : cur.size = 8) :
    Calls Tryz.prog 116 #[.slice (some ⟨g, 0, none⟩) 0 8, tbV false A n c B m d x k, kyV y] w (ChQ w g m sl y) := by
  have hlen := hr.len
  have hpk : ∀ (i : Nat) t, sl[i]? = some t → t.key = ixK i := fun i t h => by
    rcases (hok.2.2.2.1 i t h).1 with h | h
    · cases h
    · exact h
  have hm := hok.len.1
  have hgl : g < w.heap.size := (Array.getElem?_eq_some_iff.1 hg).1
  rw [hlen] at hm
  have HO : Hid (∀ w', Below w.heap.size w w' → OwnC w' g (w.heap.size + 2) (some ⟨g, 0, none⟩) 0 8 []) := Lib.hid (fun w' hb => OwnC.made w' _ g cur (carry hb hg) hcs)
  obtain ⟨q, HQ⟩ : ∃ q, Hid (nums.inr y.num 0 ((m : Int) - 1) = q) := ⟨_, Lib.hid rfl⟩
  have IR := fun w => HQ.out ▸ nums.implInRange y.num 0 ((m : Int) - 1) w
  cases q with
  | false =>
    have HF : Hid (sr sl y [] = fd sl y m) := Lib.hid (by
      have := fd_out (sl := sl) hpk (y := y) (by
        have h := HQ.out
        unfold nums.inr at h
        simp at h
        rw [hlen]
        omega)
      rw [hlen] at this
      rw [this]
      rfl)
    obtain ⟨yb, yn, ys⟩ := y
    unfold kyV
    simp only at IR
    clear hr hok hpk HQ hg
    go_enter Tryz.func116, Tryz.ntmps116
    go_wp2_with (fail)
    refine (IR _).mono ?_
    rintro e w1 ⟨rfl, rfl⟩
    go_wp2_with (fail)
    go_ret
    exact ⟨_, _, _, [], rfl, HO.out _ (b2 _ _ _), by simp, HF.out, by omega, gb (b2 _ _ _) _⟩
  | true =>
    obtain ⟨i, hi, him⟩ : ∃ i : Nat, y.num = i ∧ i < m := by
      have h := HQ.out
      unfold nums.inr at h
      simp at h
      exact ⟨y.num.toNat, by omega, by omega⟩
    obtain ⟨t, ht⟩ : ∃ t, sl[i]? = some t := ⟨_, List.getElem?_eq_getElem (by omega)⟩
    have HF : Hid (sr sl y [(i : Int)] = fd sl y m) := Lib.hid (by
      have := fd_at (sl := sl) hpk (y := y) ht hi
      rw [hlen] at this
      rw [this, sr_cons ht]
      rfl)
    obtain ⟨yb, yn, ys⟩ := y
    unfold kyV
    simp only at IR hi
    subst hi
    clear hr hok hpk HQ hg ht
    go_enter Tryz.func116, Tryz.ntmps116
    go_wp2_with (fail)
    refine (IR _).mono ?_
    rintro e w1 ⟨rfl, rfl⟩
    go_wp2_with (first
      | (at_builtin; go_loud (refine wpList_appendC _ rfl _ _ rfl g (w.heap.size + 2) _ _ _ [] rfl (HO.out _ (bs (b2 _ _ _) (b1 _ _))) _ (i : Int) rfl (three_cell _ _ _ _ _ _ (by omega)) (by omega) (by simp) ?_)
         intro A9 c9 w9 ho9 hg9
         have HO9 := Lib.hid ho9
         have HG9 := Lib.hid (gtrans (gb (bs (b2 w _ _) (b1 _ _)) _) hg9 (fun j e => by injection e with e; exact .inl e.symm))
         clear ho9 hg9)
      | fail)
    go_ret
    exact ⟨_, _, _, [(i : Int)], rfl, HO9.out, by simp; omega, HF.out, by omega, HG9.out⟩

set_option maxRecDepth 100000 in
set_option maxHeartbeats 4000000 in
theorem chain_t {l : List Int} {sl : List Sl} {A : Option Addr} {n c : Nat} {B : Option Addr} {m d : Nat} {x k : Int} (w : World) {S : Nat → Prop} (hr : TbIn w S l sl A n c B m d x k) (hok : tabOk true l sl x k) (y : Ky) (hys : y.str.size ≤ 140737488355328) (g : Nat) (hSg : ∀ b, S b → b ≠ g) (cur : Array Value) (hg : w.heap[g]? = some (.cells cur T8 (0, 0))) (hcs : cur.size = 8) :
    Calls Tryz.prog 116 #[.slice (some ⟨g, 0, none⟩) 0 8, tbV true A n c B m d x k, kyV y] w (ChQ w g m sl y) := by
  have hlen := hr.len
  have hln : l.length = n := hr.heads.len
  have hm := hok.len.1
  have hp : p2 n := by have := (hok.2.1.1 rfl).1; rwa [hln] at this
  have hn8 : 8 ≤ n ∧ n ≤ 1024 := by unfold p2 at hp; omega
  have hgl : g < w.heap.size := (Array.getElem?_eq_some_iff.1 hg).1
  rw [hlen] at hm
  have HO : Hid (∀ w', Below w.heap.size w w' → OwnC w' g (w.heap.size + 2) (some ⟨g, 0, none⟩) 0 8 []) := Lib.hid (fun w' hb => OwnC.made w' _ g cur (carry hb hg) hcs)
  obtain ⟨q, HQ⟩ : ∃ q : Nat, Hid (bk n y = q) := ⟨_, Lib.hid rfl⟩
  have hq : q < n := HQ.out ▸ bk_lt (by omega) y
  have hqi : (q : Int) < (n : Int) := by omega
  have BK : Hid (∀ w', Calls Tryz.prog 143 #[kyV y, .int .i64 n] w' (LtQ w' q)) := Lib.hid fun w' => HQ.out ▸ bucketOf_i n (by omega) (by omega) y hys w'
  obtain ⟨v, hv⟩ : ∃ v, l[q]? = some v := ⟨_, List.getElem?_eq_getElem (by omega)⟩
  have HV : Hid (v = last n sl q m) := Lib.hid (by
    have h1 := hok.2.2.2.2
    rw [hln, hlen] at h1
    have h2 := hs_get (n := n) (sl := sl) hq m
    rw [h1, hv] at h2
    exact Option.some.inj h2)
  have HLK : Hid (∀ (i : Nat) t, sl[i]? = some t → bk n t.key = q → t.link = last n sl q i) := Lib.hid (fun i t h hb => by
    have h1 := (hok.2.2.2.1 i t h).2
    rw [hln, lk_pos (by omega), hb] at h1
    exact h1)
  have HFD : Hid (∀ r, r = chn n sl q m → sr sl y r = fd sl y m) := Lib.hid (fun r h => by
    rw [h, ← HQ.out]
    exact chn_fd m (by omega))
  obtain ⟨a, ha, hc⟩ := hr.heads.2 (by omega)
  subst ha
  have HC : Hid (w.cell? (a.add q) = some (.int .i64 v)) := Lib.hid (hc q v hv)
  have HS := Lib.hid hr.slots
  have HLN := Lib.hid hlen
  obtain ⟨yb, yn, ys⟩ := y
  unfold kyV at BK ⊢
  simp only at BK
  clear hr hok hp hg hv hc hys hlen hln
  go_enter Tryz.func116, Tryz.ntmps116
  go_upto_region 5 with fail
  generalize hw0 : (w.alloc (.cells #[.bool true, .slice (some a) n c, .slice B m d, .int .i64 x, .int .i64 k] IT)).alloc (.cells #[.bool yb, .int .i64 yn, .string ys] 29) = w0
  have hb0 : Below w.heap.size w w0 := hw0 ▸ b2 _ _ _
  have HA : Hid (w0.heap[w.heap.size]? = some (.cells #[.bool true, .slice (some a) n c, .slice B m d, .int .i64 x, .int .i64 k] IT (0, 0))) := Lib.hid (hw0 ▸ heap_alloc2_old w _ _)
  have HY : Hid (w0.heap[w.heap.size + 1]? = some (.cells #[.bool yb, .int .i64 yn, .string ys] 29 (0, 0))) := Lib.hid (hw0 ▸ heap_alloc2_new w _ _)
  have HB := Lib.hid hb0
  have HC0 : Hid (w0.cell? (a.add q) = some (.int .i64 v)) := Lib.hid (cell_stays (fun hl => hb0.block _ hl) HC.out)
  have y1 : w0.cell? ⟨w.heap.size, 1, none⟩ = some (.slice (some a) n c) := (rowc HA.out).1 1
  have z0 : w0.cell? ⟨w.heap.size + 1, 0, none⟩ = some (.bool yb) := (rowc HY.out).1 0
  have z1 : w0.cell? ⟨w.heap.size + 1, 1, none⟩ = some (.int .i64 yn) := (rowc HY.out).1 1
  have z2 : w0.cell? ⟨w.heap.size + 1, 2, none⟩ = some (.string ys) := (rowc HY.out).1 2
  have hcc := HC0.out
  clear hw0 hb0
  go_wp2_with (fail)
  go_region_held3 (fun w' => w'.cell? ⟨w.heap.size, 1, none⟩ = some (.slice (some a) n c) ∧ w'.cell? ⟨w.heap.size + 1, 0, none⟩ = some (.bool yb) ∧ w'.cell? ⟨w.heap.size + 1, 1, none⟩ = some (.int .i64 yn) ∧ w'.cell? ⟨w.heap.size + 1, 2, none⟩ = some (.string ys) ∧ w'.cell? (a.add q) = some (.int .i64 v)) (first | go_keep | exact ⟨y1, z0, z1, z2, hcc⟩) (first
    | (go_at_call 143; refine (BK.out _).mono ?_
       rintro e w1 ⟨rfl, hb1⟩
       have hbx := bs ((Below.refl w0.heap.size w0).drew) hb1
       have HA1 := Lib.hid (carry hbx HA.out)
       have HY1 := Lib.hid (carry hbx HY.out)
       have HB1 := Lib.hid (bs HB.out hbx)
       have hcc : w1.cell? (a.add q) = some (.int .i64 v) := cell_stays (fun hl => HB1.out.block _ hl) HC.out
       have y1 : w1.cell? ⟨w.heap.size, 1, none⟩ = some (.slice (some a) n c) := (rowc HA1.out).1 1
       have z0 : w1.cell? ⟨w.heap.size + 1, 0, none⟩ = some (.bool yb) := (rowc HY1.out).1 0
       have z1 : w1.cell? ⟨w.heap.size + 1, 1, none⟩ = some (.int .i64 yn) := (rowc HY1.out).1 1
       have z2 : w1.cell? ⟨w.heap.size + 1, 2, none⟩ = some (.string ys) := (rowc HY1.out).1 2
       clear hb1 hbx))
  clear z0 z1 z2 y1 hcc
  go_wp2_with (fail)
  go_loopg [0, 7] m (fun gk s0 s7 wr => ∃ (J L1 c1 : Nat) (v : Int) (r : List Int) (A1 : Option Addr), s0 = .slice A1 L1 c1 ∧ s7 = .int .i64 v ∧ J ≤ gk ∧ J ≤ m ∧ L1 + J ≤ m ∧ Hid (v = last n sl q J) ∧ Hid (r ++ chn n sl q J = chn n sl q m) ∧
    Hid (wr.heap[w.heap.size]? = some (.cells #[.bool true, .slice (some a) n c, .slice B m d, .int .i64 x, .int .i64 k] IT (0, 0))) ∧ Hid (OwnC wr g (w.heap.size + 2) A1 L1 c1 r) ∧ Hid (w.grownBy wr (some g)) ∧ w.heap.size + 2 ≤ wr.heap.size)
  case atStart => exact ⟨m, 0, 8, v, [], _, rfl, rfl, Nat.le_refl _, Nat.le_refl _, by omega, HV, Lib.hid rfl, HA1, Lib.hid (HO.out _ HB1.out), Lib.hid (gb HB1.out _), by have := (Array.getElem?_eq_some_iff.1 HY1.out).1; omega⟩
  case round =>
    clear HA HY HB HC0 HA1 HY1 HB1
    obtain ⟨J, L1, c1, v1, r, A1, rfl, rfl, hgk, hJ, hLJ, HV1, HR, HA, HOC, HG, hz⟩ := hrel
    rcases last_chn (n := n) (sl := sl) (b := q) J (by have := HLN.out; omega) with ⟨h1, h2⟩ | ⟨i, t, hi, h1, h2, h3, h4⟩
    · have hv1 : v1 = -1 := HV1.out.trans h1
      subst hv1
      have HR2 : Hid (r = chn n sl q m) := Lib.hid (by have := HR.out; rw [h2, List.append_nil] at this; exact this)
      clear h1 h2
      go_wp2_with (fail)
      go_ret
      exact ⟨A1, L1, c1, r, rfl, HOC.out, fun i hi => by rw [HR2.out] at hi; exact chn_in m i hi, HFD.out r HR2.out, by omega, HG.out⟩
    · have hv1 : v1 = (i : Int) := HV1.out.trans h1
      subst hv1
      have HR2 : Hid (r ++ [(i : Int)] ++ chn n sl q i = chn n sl q m) := Lib.hid (by have := HR.out; rw [h4] at this; simpa using this)
      have HLI : Hid (t.link = last n sl q i) := Lib.hid (HLK.out i t h2 h3)
      obtain ⟨a2, k2, n2, s2, x2, ks2, vs2, A2, c2, ea, hSa, -, -, -, -, hcell⟩ := HS.out i t h2
      subst ea
      have hne : a2.block ≠ g := hSg _ hSa
      have hlt2 : a2.block < w.heap.size := by
        have := World.block_lt_of_cell? _ _ hcell.c0
        rwa [mem.add_block] at this
      have hil : i < m := by omega
      have hii : (i : Int) < (m : Int) := by omega
      have hi1 : ((i : Int) != -1) = true := by simp
      have HCL : Hid (∀ w', w'.heap[a2.block]? = w.heap[a2.block]? → At10 w' (a2.add (i * 10)) t.key k2 n2 s2 x2 A2 vs2.length c2 t.live t.link) := Lib.hid (fun w' h => hcell.stays (fun _ => by rw [mem.add_block]; exact h))
      obtain ⟨tl, HTL⟩ : ∃ z, Hid (t.link = z) := ⟨_, Lib.hid rfl⟩
      clear h1 h2 h3 h4 hcell hSa
      go_wp2_with (first
        | (at_builtin; go_loud ((refine wpList_appendC _ rfl _ _ rfl g (w.heap.size + 2) _ _ _ r rfl (HOC.out.below (b1 _ _)) _ (i : Int) rfl (one_cell _ _ _ _ rfl) (by omega) (by first | (simp; done) | (simp; omega)) ?_
                                 intro A9 c9 w9 ho9 hg9
                                 have HO9 := Lib.hid ho9
                                 have hob := HOC.out.block
                                 have HA9 := Lib.hid ((hg9.block _ (by first | (simp; done) | (simp; omega)) (fun e => by rcases (hob _ e.symm).1 with h | h <;> omega)).trans (keepAlloc HA.out))
                                 have HG9 := Lib.hid (gtrans (gtrans HG.out (gb (b1 _ _) none) (fun j e => by cases e)) hg9 (fun j e => by rcases (hob _ e).1 with h | h; exact .inl h; exact .inr (by omega)))
                                 have hz9 : w.heap.size + 2 ≤ w9.heap.size := Nat.le_trans (Nat.le_trans hz (by simp)) hg9.size
                                 have hcl := HCL.out w9 (HG9.out.block _ hlt2 (fun e => hne (Option.some.inj e)))
                                 rw [HTL.out] at hcl
                                 have p9 := hcl.c9
                                 have y2 : w9.cell? ⟨w.heap.size, 2, none⟩ = some (.slice (some a2) m d) := (rowc HA9.out).1 2
                                 clear ho9 hg9 hob hcl)))
        | fail)
      go_roundg i
      case rel => exact ⟨i, L1 + 1, c9, tl, r ++ [(i : Int)], A9, by go_num, rfl, Nat.le_refl _, by omega, by omega, Lib.hid (HTL.out.symm.trans HLI.out), HR2, HA9, HO9, HG9, hz9⟩
      case measure => omega

end Go.Proofs.YtplfekpagonbbaaGreatDoor.tree

/-
  FindSlot of the project.
  Conditions: those that each theorem names; the package variables of the library's reading of numbers hold what the program's text lays.
-/
namespace Go.Proofs.YtplfekpagonbbaaGreatDoor.tree
open Go.ChangeShapes Go.WideShapes Go.ChangeAt Go.RowKit
set_option linter.unusedVariables false

abbrev Z8 : Array Value := #[.int .i64 0, .int .i64 0, .int .i64 0, .int .i64 0, .int .i64 0, .int .i64 0, .int .i64 0, .int .i64 0]

set_option maxRecDepth 100000 in
set_option maxHeartbeats 4000000 in
theorem findSlot_i {l : List Int} {sl : List Sl} {b : Bool} {A : Option Addr} {n c : Nat} {B : Option Addr} {m d : Nat} {x k : Int} (w : World) {S : Nat → Prop} (hr : TbIn w S l sl A n c B m d x k) (hok : tabOk b l sl x k) (y : Ky) (hys : y.str.size ≤ 140737488355328) :
    Calls Tryz.prog 64 #[tbV b A n c B m d x k, kyV y] w (LtQ w (fd sl y m)) := by
  obtain ⟨g, HG⟩ : ∃ g, Hid (w.heap.size + 2 = g) := ⟨_, Lib.hid rfl⟩
  have hm : m ≤ 1024 := by have := hok.len.1; rw [hr.len] at this; exact this
  have CH : Hid (∀ w', w'.heap[g]? = some (.cells Z8 T8 (0, 0)) → Below w.heap.size w w' → Calls Tryz.prog 116 #[.slice (some ⟨g, 0, none⟩) 0 8, tbV b A n c B m d x k, kyV y] w' (ChQ w' g m sl y)) := Lib.hid fun w' h8 hb => by
    have hr' : TbIn w' (fun b => b < w.heap.size) l sl A n c B m d x k := ⟨hr.heads.below hb, hr.hn, hr.len, hr.cap, hr.slots.lt'.below hb, hr.next, hr.count⟩
    cases b with
    | false => exact chain_f w' hr' hok y g Z8 h8 rfl
    | true => exact chain_t w' hr' hok y hys g (fun b hb2 => by have := HG.out; omega) Z8 h8 rfl
  have HS := Lib.hid hr.slots
  have HLN := Lib.hid hr.len
  obtain ⟨W, HW⟩ : ∃ W, Hid (fd sl y m = W) := ⟨_, Lib.hid rfl⟩
  rw [HW.out]
  obtain ⟨yb, yn, ys⟩ := y
  unfold kyV at CH ⊢
  simp only at CH
  clear hr hok hys
  go_enter Tryz.func64, Tryz.ntmps64
  go_upto_region 2 with fail
  generalize hw0 : ((w.alloc (.cells #[.bool b, .slice A n c, .slice B m d, .int .i64 x, .int .i64 k] IT)).alloc (.cells #[.bool yb, .int .i64 yn, .string ys] 29)).alloc (.cells Z8 T8) = w0
  have hA : w0.heap[w.heap.size]? = some (.cells #[.bool b, .slice A n c, .slice B m d, .int .i64 x, .int .i64 k] IT (0, 0)) := hw0 ▸ keepAlloc (heap_alloc2_old w _ _)
  have hY : w0.heap[w.heap.size + 1]? = some (.cells #[.bool yb, .int .i64 yn, .string ys] 29 (0, 0)) := hw0 ▸ keepAlloc (heap_alloc2_new w _ _)
  have hZ : w0.heap[g]? = some (.cells Z8 T8 (0, 0)) := by
    rw [← hw0, ← HG.out]
    have := heap_alloc_new ((w.alloc (.cells #[.bool b, .slice A n c, .slice B m d, .int .i64 x, .int .i64 k] IT)).alloc (.cells #[.bool yb, .int .i64 yn, .string ys] 29)) (.cells Z8 T8)
    rwa [show ((w.alloc (.cells #[.bool b, .slice A n c, .slice B m d, .int .i64 x, .int .i64 k] IT)).alloc (.cells #[.bool yb, .int .i64 yn, .string ys] 29)).heap.size = w.heap.size + 2 by simp] at this
  have hb0 : Below w.heap.size w w0 := hw0 ▸ bs (b2 _ _ _) (b1 _ _)
  have HA := Lib.hid hA
  have HY := Lib.hid hY
  have HZ := Lib.hid hZ
  have HB := Lib.hid hb0
  have r0 := (rowc HA.out).1
  have y0 := r0 0; have y1 := r0 1; have y2 := r0 2; have y3 := r0 3; have y4 := r0 4
  have r1 := (rowc HY.out).1
  have z0 := r1 0; have z1 := r1 1; have z2 := r1 2
  simp at y0 y1 y2 y3 y4 z0 z1 z2
  rw [HG.out]
  clear hw0 hA hY hZ hb0 r0 r1
  go_wp2_with (fail)
  go_region_held3 (fun w' => w'.cell? ⟨w.heap.size, 0, none⟩ = some (.bool b) ∧ w'.cell? ⟨w.heap.size, 1, none⟩ = some (.slice A n c) ∧ w'.cell? ⟨w.heap.size, 2, none⟩ = some (.slice B m d) ∧ w'.cell? ⟨w.heap.size, 3, none⟩ = some (.int .i64 x) ∧ w'.cell? ⟨w.heap.size, 4, none⟩ = some (.int .i64 k) ∧ w'.cell? ⟨w.heap.size + 1, 0, none⟩ = some (.bool yb) ∧ w'.cell? ⟨w.heap.size + 1, 1, none⟩ = some (.int .i64 yn) ∧ w'.cell? ⟨w.heap.size + 1, 2, none⟩ = some (.string ys)) (first | go_keep | exact ⟨y0, y1, y2, y3, y4, z0, z1, z2⟩) (first
    | (go_at_call 116; refine (CH.out w0.drew HZ.out HB.out.drew).mono ?_
       rintro e w1 ⟨A1, L1, c1, r, rfl, hoc, hri, hsr, hL1, hg1⟩
       have hgs := HG.out
       have HA1 := Lib.hid ((hg1.block _ (Array.getElem?_eq_some_iff.1 HA.out).1 (fun e => by have := Option.some.inj e; omega)).trans HA.out)
       have HY1 := Lib.hid ((hg1.block _ (Array.getElem?_eq_some_iff.1 HY.out).1 (fun e => by have := Option.some.inj e; omega)).trans HY.out)
       have HB1 := Lib.hid (HB.out.drew.grown hg1 HB.out.drew.size (fun j e => by have := Option.some.inj e; omega))
       have HRD := Lib.hid hoc.rd
       have HRI := Lib.hid hri
       have HSR := Lib.hid (hsr.trans HW.out)
       have r0 := (rowc HA1.out).1
       have y0 := r0 0; have y1 := r0 1; have y2 := r0 2; have y3 := r0 3; have y4 := r0 4
       have r1 := (rowc HY1.out).1
       have z0 := r1 0; have z1 := r1 1; have z2 := r1 2
       simp at y0 y1 y2 y3 y4 z0 z1 z2
       clear hoc hri hsr hg1 r0 r1 hgs))
  clear y0 y1 y2 y3 y4 z0 z1 z2
  go_wp2_with (fail)
  go_loopg [13] (L1 + 1) (fun gk s wr => ∃ j : Nat, s = .int .i64 j ∧ gk + j = L1 + 1 ∧ j ≤ L1 ∧ Hid (sr sl ⟨yb, yn, ys⟩ (r.drop j) = W) ∧ Hid (Below w1.heap.size w1 wr))
  case atStart => exact ⟨0, rfl, by omega, by omega, HSR, Lib.hid (Below.refl _ _)⟩
  case round =>
    obtain ⟨j, rfl, hgj, hjL, HQ, HX⟩ := hrel
    have HAx := Lib.hid (carry HX.out HA1.out)
    have HYx := Lib.hid (carry HX.out HY1.out)
    have HBx := Lib.hid (bs HB1.out HX.out)
    by_cases hlt : j < L1
    · obtain ⟨ar, v, rfl, hv, hcv⟩ := (HRD.out.below HX.out).at_ hlt
      obtain ⟨i, rfl, him⟩ : ∃ i : Nat, v = i ∧ i < m := by
        have := HRI.out v (List.mem_of_getElem? hv)
        exact ⟨v.toNat, by omega, by omega⟩
      obtain ⟨t, ht⟩ : ∃ t, sl[i]? = some t := ⟨_, List.getElem?_eq_getElem (by have := HLN.out; omega)⟩
      have HD : Hid ((if t.live = true ∧ t.key = ⟨yb, yn, ys⟩ then (i : Int) else sr sl ⟨yb, yn, ys⟩ (r.drop (j + 1))) = W) := Lib.hid (by
        have h := HQ.out
        obtain ⟨hj, e⟩ := List.getElem?_eq_some_iff.1 hv
        rw [List.drop_eq_getElem_cons hj, e, sr_cons ht] at h
        exact h)
      obtain ⟨a2, k2, n2, s2, x2, ks2, vs2, A2, c2, ea, -, -, -, -, -, hcell⟩ := HS.out i t ht
      subst ea
      have hc10 := hcell.stays (w' := wr) (fun hl => HBx.out.block _ hl)
      obtain ⟨⟨y2b, y2n, y2s⟩, tv2, tb2, tl2⟩ := t
      have NE := fun w => ky_eql w ⟨y2b, y2n, y2s⟩ ⟨yb, yn, ys⟩
      obtain ⟨q9, HQ9⟩ : ∃ q, Hid (decide ((⟨y2b, y2n, y2s⟩ : Ky) = ⟨yb, yn, ys⟩) = q) := ⟨_, Lib.hid rfl⟩
      rw [HQ9.out] at NE
      unfold kyV at NE
      simp only at NE
      obtain ⟨p0, p1, p2, -, -, -, -, -, p8, -⟩ := hc10
      simp only at p0 p1 p2 p8
      have y2 := (rowc HAx.out).1 2
      have r1 := (rowc HYx.out).1
      have z0 := r1 0; have z1 := r1 1; have z2 := r1 2
      simp at y2 z0 z1 z2
      have him2 : (i : Int) < (m : Int) := by omega
      clear hv ht hcell r1
      cases tb2 with
      | false =>
        have HN : Hid (sr sl ⟨yb, yn, ys⟩ (r.drop (j + 1)) = W) := Lib.hid (by have := HD.out; simpa using this)
        go_wp2_with (fail)
        go_quiet ((fail))
        go_wp2_with (fail)
        go_roundg (L1 - j)
        case rel => exact ⟨j + 1, by go_num, by omega, by omega, HN, Lib.hid (bs HX.out (kbelow_drew _ _))⟩
        case measure => omega
      | true =>
        cases q9 with
        | false =>
          have HN : Hid (sr sl ⟨yb, yn, ys⟩ (r.drop (j + 1)) = W) := Lib.hid (by
            have h := HD.out
            rw [if_neg (fun h => of_decide_eq_false HQ9.out h.2)] at h
            exact h)
          go_wp2_with (fail)
          go_quiet ((fail))
          go_wp2_with (fail)
          go_roundg (L1 - j)
          case rel => exact ⟨j + 1, by go_num, by omega, by omega, HN, Lib.hid (bs HX.out (kbelow_drew _ _))⟩
          case measure => omega
        | true =>
          have HN : Hid ((i : Int) = W) := Lib.hid (by
            have h := HD.out
            rw [if_pos ⟨rfl, of_decide_eq_true HQ9.out⟩] at h
            exact h)
          go_wp2_with (fail)
          go_quiet ((fail))
          go_wp2_with (fail)
          go_ret
          exact ⟨by rw [← HN.out]; rfl, bs HBx.out (kbelow_drew _ _)⟩
    · obtain rfl : j = L1 := by omega
      have HN : Hid (-1 = W) := Lib.hid (by
        have h := HQ.out
        rw [List.drop_eq_nil_of_le (Nat.le_of_eq HRD.out.len)] at h
        exact h)
      go_wp2_with (fail)
      go_ret
      exact ⟨by rw [← HN.out]; rfl, HBx.out⟩

def FsQ (w : World) (p : Prop) (z : Int) (e : Ending) (w' : World) : Prop := ∃ v : Int, e = .returned (.int .i64 v) ∧ ((p ∧ v = z) ∨ (¬ p ∧ v = -1)) ∧ Below w.heap.size w w'
theorem findTable_i {l : List Int} {sl : List Sl} {b : Bool} {A : Option Addr} {n c : Nat} {B : Option Addr} {m d : Nat} {x k : Int} (w : World) {S : Nat → Prop} (hr : TbIn w S l sl A n c B m d x k) (hn : n ≤ 1048576) (hm : m ≤ 1048576) (hst : SlB sl) (hE : prs.Env w) (y : Ky) (hys : y.str.size ≤ 140737488355328) :
    Calls Tryz.prog 22 #[tbV b A n c B m d x k, kyV y] w (FsQ w (tabOk b l sl x k) (fd sl y m)) := by
  have TR : Hid (∀ w', Below w.heap.size w w' → TbIn w' S l sl A n c B m d x k) := Lib.hid fun w' hb => ⟨hr.heads.below hb, hr.hn, hr.len, hr.cap, hr.slots.below hb, hr.next, hr.count⟩
  have IS : Hid (∀ w', Below w.heap.size w w' → Calls Tryz.prog 48 #[tbV b A n c B m d x k] w' (BoP w' (tabOk b l sl x k))) := Lib.hid fun w' hb => isTable_i w' (TR.out w' hb) hn hm hst (hE.stays hb)
  have FI : Hid (tabOk b l sl x k → ∀ w', Below w.heap.size w w' → Calls Tryz.prog 64 #[tbV b A n c B m d x k, kyV y] w' (LtQ w' (fd sl y m))) := Lib.hid fun hok w' hb => findSlot_i w' (TR.out w' hb) hok y hys
  obtain ⟨W, HW⟩ : ∃ W, Hid (fd sl y m = W) := ⟨_, Lib.hid rfl⟩
  rw [HW.out] at FI ⊢
  obtain ⟨yb, yn, ys⟩ := y
  unfold kyV at FI ⊢
  simp only at FI
  clear hr hst hE hys TR
  go_enter Tryz.func22, Tryz.ntmps22
  go_wp2_with (fail)
  refine (IS.out _ (b2 _ _ _)).mono ?_
  rintro e w1 ⟨q, rfl, hq, hb⟩
  have HA := Lib.hid (carry hb (heap_alloc2_old w _ _))
  have HY := Lib.hid (carry hb (heap_alloc2_new w _ _))
  have HB := Lib.hid (bs (b2 _ _ _) hb)
  have HQ := Lib.hid hq
  have r0 := (rowc HA.out).1
  have y0 := r0 0; have y1 := r0 1; have y2 := r0 2; have y3 := r0 3; have y4 := r0 4
  have r1 := (rowc HY.out).1
  have z0 := r1 0; have z1 := r1 1; have z2 := r1 2
  simp at y0 y1 y2 y3 y4 z0 z1 z2
  clear hb hq r0 r1 IS
  cases q with
  | false =>
    have HF : Hid (¬ tabOk b l sl x k) := Lib.hid (fun h => by have := HQ.out.2 h; cases this)
    go_wp2_with (fail)
    go_ret
    exact ⟨-1, rfl, .inr ⟨HF.out, rfl⟩, HB.out⟩
  | true =>
    have HF : Hid (tabOk b l sl x k) := Lib.hid (HQ.out.1 rfl)
    go_wp2_with (fail)
    refine (FI.out HF.out _ HB.out).mono ?_
    rintro e w2 ⟨rfl, hb⟩
    replace HB := Lib.hid (bs HB.out hb)
    clear hb y0 y1 y2 y3 y4 z0 z1 z2
    go_wp2_with (fail)
    go_ret
    exact ⟨W, rfl, .inl ⟨HF.out, rfl⟩, HB.out⟩

end Go.Proofs.YtplfekpagonbbaaGreatDoor.tree

/-
  Whether a hashed table is sound, of the model.
  Conditions: those that each theorem names; the package variables of the library's reading of numbers hold what the program's text lays.
-/
namespace Go.Proofs.YtplfekpagonbbaaGreatDoor.tree
open Go.ChangeShapes Go.WideShapes Go.ChangeAt Go.RowKit
set_option linter.unusedVariables false

set_option maxRecDepth 100000 in
set_option maxHeartbeats 8000000 in
theorem isTable_t {l : List Int} {sl : List Sl} {A : Option Addr} {n c : Nat} {B : Option Addr} {m d : Nat} {x k : Int} (w : World) {S : Nat → Prop} (hr : TbIn w S l sl A n c B m d x k) (hp : p2 n) (hm : m ≤ n) (hx : 0 ≤ x) (hx2 : x ≤ 1000000001) (hst : SlB sl) (hE : prs.Env w) :
    Calls Tryz.prog 14 #[tbV true A n c B m d x k] w (BoP w (tabOk true l sl x k)) := by
  have HR := Lib.hid hr
  have HST := Lib.hid hst
  have HEN := Lib.hid hE
  have hlen : Hid (sl.length = m) := Lib.hid hr.len
  have hin : nums.inr x 0 1000000001 = true := by unfold nums.inr; simp; omega
  have IR := fun w => hin ▸ nums.l1In x 0 1000000001 w
  clear hin
  have hn8 : 8 ≤ n ∧ n ≤ 1024 := by unfold p2 at hp; omega
  have hin : nums.inr n 8 1024 = true := by unfold nums.inr; simp; omega
  have IR2 := fun w => hin ▸ nums.l1In n 8 1024 w
  clear hin
  have hbits := (and_p2 hn8.1 hn8.2).2 hp
  have hn1 := hn8.1
  have hn2 := hn8.2
  have hm24 : m ≤ 1024 := by omega
  have hd1 : decide (n < m) = false := decide_eq_false (by omega)
  have hd2 : decide ((1024 : Int) < (m : Int)) = false := decide_eq_false (by omega)
  clear hn8
  obtain ⟨i0, hi, hz, hss, hby⟩ := int_info
  have MK := fun (w : World) => run_make (P := Tryz.prog) w 24 3 i0 _ Tryz.underlying24 hi hz .i64 .i64 n n (by omega) (Int.le_refl _) (by rw [hby]; omega) (by omega)
  rw [hss, Nat.mul_one] at MK
  first | simp only [Int.toNat_natCast] at MK | simp only [Int.toNat_zero] at MK
  have MK2 : ∀ w : World, (Instr.makeSlice 24 (.int .i64 n) (.int .i64 n)).run Tryz.prog w = .ok (.slice (some ⟨w.heap.size, 0, none⟩) n n) (w.alloc (.cells (rwK 0 n) 3)) := fun w => by
    have := MK w
    rw [show madeCells (Value.int .i64 0).cells n = rwK 0 n by
      have := toList_madeCells_one (.int .i64 0) n
      rw [show (Value.int .i64 0).cells = #[.int .i64 0] from rfl]
      apply Array.toList_inj.1
      rw [this]
      simp [rwK]] at this
    exact this
  clear hr hst hE MK hi hz hss hby
  go_enter Tryz.func14, Tryz.ntmps14
  go_wp2_with (fail)
  refine (IR _).mono ?_
  rintro e w1 ⟨rfl, rfl⟩
  go_wp2_with (fail)
  refine (IR2 _).mono ?_
  rintro e w1 ⟨rfl, rfl⟩
  go_wp2_with (fail)
  have HLN : Hid (l.length = n) := Lib.hid HR.out.heads.len
  have HA0 : Hid (((w.alloc (.cells #[.bool true, .slice A n c, .slice B m d, .int .i64 x, .int .i64 k] IT)).alloc (.cells (rwK 0 n) 3)).heap[w.heap.size]? = some (.cells #[.bool true, .slice A n c, .slice B m d, .int .i64 x, .int .i64 k] IT (0, 0))) := Lib.hid (heap_alloc2_old w _ _)
  have HG0 : Hid (((w.alloc (.cells #[.bool true, .slice A n c, .slice B m d, .int .i64 x, .int .i64 k] IT)).alloc (.cells (rwK 0 n) 3)).heap[w.heap.size + 1]? = some (.cells (rwK 0 n) 3 (0, 0))) := Lib.hid (heap_alloc2_new w _ _)
  obtain ⟨g, HG⟩ : ∃ g, Hid (w.heap.size + 1 = g) := ⟨_, Lib.hid rfl⟩
  rw [HG.out] at HG0 ⊢
  clear MK2 IR IR2
  go_loopg [6] (n + 1) (fun gk s wr => ∃ K : Nat, s = .int .i64 K ∧ gk + K = n + 1 ∧ K ≤ n ∧ Hid (wr.heap[w.heap.size]? = some (.cells #[.bool true, .slice A n c, .slice B m d, .int .i64 x, .int .i64 k] IT (0, 0))) ∧ Hid (wr.heap[g]? = some (.cells (rwK K n) 3 (0, 0))) ∧ Hid (Below w.heap.size w wr))
  case atStart => exact ⟨0, rfl, by omega, by omega, HA0, HG0, Lib.hid (b2 _ _ _)⟩
  case round =>
    clear HA0 HG0
    obtain ⟨K, rfl, hgK, hKn, HA, HK, HB⟩ := hrel
    by_cases hK : K < n
    · have hkc : wr.cell? ⟨g, K, none⟩ = some (.int .i64 0) := by
        rw [(rowc HK.out).1 K]
        unfold rwK
        rw [List.getElem?_toArray, List.getElem?_append_right (by simp), List.getElem?_replicate, if_pos (by rw [List.length_replicate]; omega)]
      have hkf := (rowc HK.out).2 K
      have HK2 : Hid ((wr.setCell ⟨g, K, none⟩ (.int .i64 (-1))).heap[g]? = some (.cells (rwK (K + 1) n) 3 (0, 0))) := Lib.hid (by
        have := set_heap HK.out K (.int .i64 (-1))
        rw [rwK_set hK] at this
        exact this)
      have HA2 : Hid ((wr.setCell ⟨g, K, none⟩ (.int .i64 (-1))).heap[w.heap.size]? = some (.cells #[.bool true, .slice A n c, .slice B m d, .int .i64 x, .int .i64 k] IT (0, 0))) := Lib.hid ((set_other (by have := HG.out; omega)).trans HA.out)
      go_wp2_with (fail)
      go_roundg (n - K)
      case rel => exact ⟨K + 1, by go_num, by omega, by omega, HA2, HK2, Lib.hid (HB.out.setCell (show w.heap.size ≤ g by have := HG.out; omega) _)⟩
      case measure => omega
    · obtain rfl : n = K := by omega
      have HO0 : Hid (imem.OwnI wr (w.heap.size + 1) (some ⟨g, 0, none⟩) n n (hs n sl 0)) := Lib.hid (rwK_own HK.out (Nat.le_of_eq HG.out) (by omega))
      go_wp2_with (fail)
      go_loopg [4, 7] (m + 1) (fun gk s4 s7 wr => ∃ j N : Nat, s4 = .int .i64 N ∧ s7 = .int .i64 j ∧ gk + j = m + 1 ∧ j ≤ m ∧ N ≤ j ∧ Hid (∀ (i : Nat) t, i < j → sl[i]? = some t → soundS x sl i t ∧ linkS true n sl i t) ∧ Hid (N = (livK (sl.take j)).length) ∧
        Hid (wr.heap[w.heap.size]? = some (.cells #[.bool true, .slice A n c, .slice B m d, .int .i64 x, .int .i64 k] IT (0, 0))) ∧ Hid (imem.OwnI wr (w.heap.size + 1) (some ⟨g, 0, none⟩) n n (hs n sl j)) ∧ Hid (Below w.heap.size w wr))
      case atStart => exact ⟨0, 0, rfl, rfl, by omega, by omega, by omega, Lib.hid (fun i t h => absurd h (by omega)), Lib.hid (by simp [livK, liv]), HA, HO0, HB⟩
      case round =>
        clear HO0 HK HA HB hgK
        obtain ⟨j, N, rfl, rfl, hgj, hjm, hNj, HL, HN, HA, HO, HB⟩ := hrel
        by_cases hlt : j < m
        · obtain ⟨t, htj⟩ : ∃ t, sl[j]? = some t := ⟨_, List.getElem?_eq_getElem (by have := hlen.out; omega)⟩
          obtain ⟨a, k1, n1, s1, x1, ks1, vs1, A1, c1, rfl, -, hyb, hlb, hv, hT, hcell⟩ := HR.out.slots j t htj
          have hc10 := hcell.stays (w' := wr) (fun hl => HB.out.block _ hl)
          have hys := HST.out.str j t htj
          have HSU := Lib.hid (hs_succ (n := n) htj)
          have HLT := Lib.hid (livK_take htj)
          have HTJ := Lib.hid htj
          obtain ⟨⟨yb, yn, ys⟩, tv, tb, tl⟩ := t
          simp only at hyb hlb hv hT hc10 hys
          subst hv
          obtain ⟨q1, HQ1⟩ : ∃ q, Hid (keyB ⟨yb, yn, ys⟩ = q) := ⟨_, Lib.hid rfl⟩
          have KB : Hid (∀ w' : World, Below w.heap.size w w' → Calls Tryz.prog 15 #[.agg #[.bool yb, .int .i64 yn, .string ys]] w' (KeyQ w' q1)) := Lib.hid fun w' hb' => HQ1.out ▸ isKey_s ⟨yb, yn, ys⟩ (by show ys.size ≤ _; have : ys.size ≤ 140737488355328 := hys; omega) w' (HEN.out.stays hb')
          have ZE : Hid (∀ w' : World, Calls Tryz.prog 56 #[vV k1 n1 s1 x1 A1 vs1.length c1] w' (BoP w' (zeroT (.mk k1 n1 s1 x1 ks1 vs1)))) := Lib.hid fun w' => zero_s k1 n1 s1 x1 A1 vs1.length c1 w'
          obtain ⟨z, HZ⟩ : ∃ z, Hid (kh ⟨yb, yn, ys⟩ = z) := ⟨_, Lib.hid rfl⟩
          have KH : Hid (∀ w' : World, Calls Tryz.prog 55 #[.agg #[.bool yb, .int .i64 yn, .string ys]] w' (KhQ w' z)) := Lib.hid fun w' => HZ.out ▸ keyHash_s ⟨yb, yn, ys⟩ hys w'
          obtain ⟨q, HQ⟩ : ∃ q : Nat, Hid (bk n ⟨yb, yn, ys⟩ = q) := ⟨_, Lib.hid rfl⟩
          have hq : q < n := HQ.out ▸ bk_lt (by omega) _
          have hqi : (q : Int) < (n : Int) := by omega
          have hrem : z.tmod (n : Int) = (q : Int) := by
            rw [← HQ.out, ← bk_int (by omega), ← HZ.out, Int.tmod_eq_emod_of_nonneg (kh_in _).1]
          obtain ⟨v, hv⟩ : ∃ v, (hs n sl j)[q]? = some v := ⟨_, List.getElem?_eq_getElem (by rw [hs_len]; exact hq)⟩
          have HLK : Hid (lk n sl j ⟨yb, yn, ys⟩ = v) := Lib.hid (by unfold lk; rw [HQ.out, hv]; rfl)
          have HV := Lib.hid hv
          rw [show bk n (⟨yb, yn, ys⟩ : Ky) = q from HQ.out] at HSU
          clear hv
          have HLKL : Hid (lk l.length sl j ⟨yb, yn, ys⟩ = v) := Lib.hid (by rw [HLN.out]; exact HLK.out)
          obtain ⟨L1, HL1⟩ : ∃ L, Hid (vs1.length = L) := ⟨_, Lib.hid rfl⟩
          rw [HL1.out] at hc10 ZE
          unfold vV at ZE
          obtain ⟨p0, p1, p2, p3, p4, p5, p6, p7, p8, p9⟩ := hc10
          simp only at p0 p1 p2
          have y2 := (rowc HA.out).1 2
          simp at y2
          clear hyb hlb hT hcell htj hys
          go_upto_region 14 with fail
          obtain ⟨R, HRR⟩ : ∃ R, Hid (wr.heap.size = R) := ⟨_, Lib.hid rfl⟩
          rw [HRR.out]
          generalize hw1 : wr.alloc (.cells #[.bool yb, .int .i64 yn, .string ys, .int .i64 k1, .int .i64 n1, .string s1, .int .i64 x1, .slice A1 L1 c1, .bool tb, .int .i64 tl] 85) = w2
          have hb1 : Below wr.heap.size wr w2 := hw1 ▸ b1 wr _
          have H10 : Hid (w2.heap[R]? = some (.cells #[.bool yb, .int .i64 yn, .string ys, .int .i64 k1, .int .i64 n1, .string s1, .int .i64 x1, .slice A1 L1 c1, .bool tb, .int .i64 tl] 85 (0, 0))) := Lib.hid (by rw [← hw1, ← HRR.out]; exact heap_alloc_new wr _)
          have HGR : Hid (g < R) := Lib.hid (by have := (HO.out.block g rfl).2; have := HRR.out; omega)
          replace HA := Lib.hid (carry hb1 HA.out)
          replace HO := Lib.hid (HO.out.below hb1)
          replace HB := Lib.hid (bs HB.out hb1)
          have r10 := (rowc H10.out).1
          have z0 := r10 0; have z1 := r10 1; have z2 := r10 2
          simp at z0 z1 z2
          have y0 := (rowc HA.out).1 0
          simp at y0
          clear hw1 hb1 r10 p0 p1 p2 p3 p4 p5 p6 p7 p8 p9 y2
          go_wp2_with (fail)
          refine (KH.out _).mono ?_
          rintro e w3 ⟨rfl, hb1⟩
          replace HA := Lib.hid (carry hb1 HA.out)
          replace H10 := Lib.hid (carry hb1 H10.out)
          replace HO := Lib.hid (HO.out.below hb1)
          replace HB := Lib.hid (bs HB.out hb1)
          have hc : w3.cell? ⟨g, q, none⟩ = some (.int .i64 v) := by
            rw [HO.out.row.cellAt q (by omega)]
            exact imem.ics_get HV.out
          have hfz : w3.frozen? ⟨g, q, none⟩ = false := HO.out.row.frozenAt q
          obtain ⟨w4, HW4⟩ : ∃ W, Hid (w3.setCell ⟨g, q, none⟩ (.int .i64 j) = W) := ⟨_, Lib.hid rfl⟩
          obtain ⟨ho4, hg4⟩ := HO.out.set q (j : Int)
          rw [HW4.out] at ho4 hg4
          rw [← HSU.out] at ho4
          clear z0 z1 z2 y0 hb1
          go_upto_region 21 with fail
          rw [HW4.out]
          clear hc hfz
          replace HA := Lib.hid ((hg4.block _ (Array.getElem?_eq_some_iff.1 HA.out).1 (fun e => by injection e with e; have := HG.out; omega)).trans HA.out)
          replace H10 := Lib.hid ((hg4.block _ (Array.getElem?_eq_some_iff.1 H10.out).1 (fun e => by injection e with e; have := HGR.out; omega)).trans H10.out)
          replace HB := Lib.hid (HB.out.grown hg4 HB.out.size (fun b e => by injection e with e; have := HG.out; omega))
          replace HO := Lib.hid ho4
          clear ho4 hg4 HW4 HSU
          have r10 := (rowc H10.out).1
          have z0 := r10 0; have z1 := r10 1; have z2 := r10 2
          simp at z0 z1 z2
          clear r10
          have HKB : Hid (∀ p : Bool, q1 = p → keyB (⟨yb, yn, ys⟩ : Ky) = p) := Lib.hid (fun p h => HQ1.out.trans h)
          go_cut [142] (fun u wx => ∃ r : Bool, u = .bool r ∧ (r = false ↔ ((q1 && (yb || decide (yn < x))) = true ∧ tl = v ∧ (tb = false → zeroT (.mk k1 n1 s1 x1 ks1 vs1)))) ∧ Below w4.heap.size w4 wx)
          case first =>
            have W4 := Lib.hid (Below.refl w4.heap.size w4)
            go_wp2_with (fail)
            refine (KB.out _ HB.out).mono ?_
            rintro e w5 ⟨rfl, hb1⟩
            have HA5 := Lib.hid (carry hb1 HA.out)
            have H5 := Lib.hid (carry hb1 H10.out)
            have W5 := Lib.hid (bs W4.out hb1)
            clear z0 z1 z2 hb1 W4
            have r10 := (rowc H5.out).1
            have z0 := r10 0; have z1 := r10 1; have z2 := r10 2; have z3 := r10 3; have z4 := r10 4; have z5 := r10 5; have z6 := r10 6; have z7 := r10 7; have z8 := r10 8; have z9 := r10 9
            simp at z0 z1 z2 z3 z4 z5 z6 z7 z8 z9
            have y3 := (rowc HA5.out).1 3
            simp at y3
            clear r10 HA HB H10 HO HL
            cases q1 with
            | false =>
              go_wp2_with (fail)
              go_meet
              exact ⟨true, rfl, by simp, W5.out⟩
            | true =>
            by_cases htl : ¬ tl = v
            · have htl2 : (tl != v) = true := by simp [htl]
              have HF : Hid (true = false ↔ ((true && (yb || decide (yn < x))) = true ∧ tl = v ∧ (tb = false → zeroT (.mk k1 n1 s1 x1 ks1 vs1)))) := Lib.hid ⟨fun h => (by cases h), fun h => absurd h.2.1 htl⟩
              clear htl
              go_wp2_with (fail)
              go_meet
              exact ⟨true, rfl, by have := HF.out; simpa using this, W5.out⟩
            replace htl := Decidable.not_not.1 htl
            subst tl
            by_cases hyx : ¬ (yb = true ∨ yn < x)
            · obtain ⟨h1, h2⟩ : yb = false ∧ ¬ yn < x := by
                cases yb
                · exact ⟨rfl, fun h => hyx (.inr h)⟩
                · exact absurd (.inl rfl) hyx
              clear hyx
              subst h1
              have HF : Hid (true = false ↔ ((true && (false || decide (yn < x))) = true ∧ v = v ∧ (tb = false → zeroT (.mk k1 n1 s1 x1 ks1 vs1)))) := Lib.hid ⟨fun h => (by cases h), fun h => by
                rw [decide_eq_false h2] at h
                cases h.1⟩
              have h3 : decide (x ≤ yn) = true := decide_eq_true (Int.not_lt.1 h2)
              clear h2
              go_wp2_with (fail)
              go_meet
              exact ⟨true, rfl, by have := HF.out; simpa using this, W5.out⟩
            replace hyx := Decidable.not_not.1 hyx
            have HYX : Hid ((true && (yb || decide (yn < x))) = true) := Lib.hid (by
              rcases hyx with h | h
              · rw [h]; rfl
              · rw [decide_eq_true h]; simp)
            have fin : ∀ r : Bool, (r = false ↔ (tb = false → zeroT (.mk k1 n1 s1 x1 ks1 vs1))) → (r = false ↔ ((true && (yb || decide (yn < x))) = true ∧ v = v ∧ (tb = false → zeroT (.mk k1 n1 s1 x1 ks1 vs1)))) := fun r h => h.trans ⟨fun h => ⟨HYX.out, rfl, h⟩, fun h => h.2.2⟩
            have FIN := Lib.hid fin
            clear fin
            cases yb
            all_goals
              first
                | (have hyx2 : decide (x ≤ yn) = false := decide_eq_false (Int.not_le.2 (hyx.resolve_left (by decide))); clear hyx)
                | (clear hyx)
              cases tb with
              | true =>
                go_wp2_with (fail)
                go_meet
                exact ⟨false, rfl, FIN.out false (by simp), W5.out⟩
              | false =>
                go_wp2_with (fail)
                refine (ZE.out _).mono ?_
                rintro e w6 ⟨q3, rfl, h3, hb1⟩
                have HZ3 := Lib.hid h3
                have W6 := Lib.hid (bs W5.out hb1)
                clear h3 hb1 z0 z1 z2 z3 z4 z5 z6 z7 z8 z9 y3
                cases q3
                all_goals
                  go_wp2_with (fail)
                  go_meet
                  refine ⟨_, rfl, FIN.out _ ?_, W6.out⟩
                  have := HZ3.out
                  simp at this ⊢
                  exact this
          case rest =>
          obtain ⟨r, rfl, hrr, hb1⟩ := hcut
          have HRQ := Lib.hid hrr
          replace HA := Lib.hid (carry hb1 HA.out)
          replace H10 := Lib.hid (carry hb1 H10.out)
          replace HO := Lib.hid (HO.out.below hb1)
          replace HB := Lib.hid (bs HB.out hb1)
          clear z0 z1 z2 hb1 hrr KB ZE
          have z8 := (rowc H10.out).1 8
          simp at z8
          have y0 := (rowc HA.out).1 0
          simp at y0
          cases r with
          | true =>
            have HF : Hid (false = true ↔ tabOk true l sl x k) := Lib.hid ⟨fun h => (by cases h), fun h => by
              have h1 := h.2.2.1.1 j _ HTJ.out
              have h2 := (h.2.2.2.1 j _ HTJ.out).2.trans HLKL.out
              have h3 : (q1 && (yb || decide (yn < x))) = true := by
                have := h1.1
                rw [HQ1.out] at this
                exact this
              have := HRQ.out.2 ⟨h3, h2, h1.2.2⟩
              cases this⟩
            go_wp2_with (fail)
            go_ret
            exact BoP.of HF.out HB.out
          | false =>
          obtain ⟨hk1, hk2, hk3⟩ := HRQ.out.1 rfl
          subst hk2
          have HYX : Hid ((keyB (⟨yb, yn, ys⟩ : Ky) && ((⟨yb, yn, ys⟩ : Ky).text || decide ((⟨yb, yn, ys⟩ : Ky).num < x))) = true) := Lib.hid (by rw [HQ1.out]; exact hk1)
          have HZT := Lib.hid hk3
          clear hk1 hk3 HRQ
          cases tb with
          | false =>
            have HL2 : Hid (livK (sl.take (j + 1)) = livK (sl.take j)) := Lib.hid (by have := HLT.out; simpa using this)
            go_wp2_with (fail)
            go_loopg [11] 0 (fun gk s wx => s = .int .i64 0 ∧ wx = wc)
            case atStart => exact ⟨rfl, rfl⟩
            case round =>
              obtain ⟨rfl, rfl⟩ := hrel
              go_wp2_with (fail)
              go_roundg (m - j)
              case rel =>
                refine ⟨j + 1, N, rfl, by go_num, by omega, by omega, by omega, Lib.hid (fun i t hi ht => ?_), Lib.hid (by rw [HL2.out]; exact HN.out), HA, HO, HB⟩
                rcases Nat.lt_or_ge i j with h | h
                · exact HL.out i t h ht
                · obtain rfl : i = j := by omega
                  rw [HTJ.out] at ht
                  obtain rfl := Option.some.inj ht
                  exact ⟨⟨HYX.out, fun h => (by cases h), fun _ => by have := HZT.out; simpa using this⟩, ⟨.inl rfl, HLK.out.symm⟩⟩
              case measure => omega
          | true =>
            have HL2 : Hid (livK (sl.take (j + 1)) = livK (sl.take j) ++ [⟨yb, yn, ys⟩]) := Lib.hid (by have := HLT.out; simpa using this)
            go_wp2_with (fail)
            clear z8 y0
            go_loopg [11] (j + 1) (fun gk s wx => ∃ jj : Nat, s = .int .i64 jj ∧ gk + jj = j + 1 ∧ jj ≤ j ∧ Hid (∀ (i : Nat) t, i < jj → sl[i]? = some t → ¬ (t.live = true ∧ t.key = ⟨yb, yn, ys⟩)) ∧ Hid (Below wc.heap.size wc wx))
            case atStart => exact ⟨0, rfl, by omega, by omega, Lib.hid (fun i t h => absurd h (by omega)), Lib.hid (Below.refl _ _)⟩
            case round =>
              obtain ⟨jj, rfl, hgk, hjj, HC, HX⟩ := hrel
              have HAx := Lib.hid (carry HX.out HA.out)
              have H10x := Lib.hid (carry HX.out H10.out)
              have HBx := Lib.hid (bs HB.out HX.out)
              have r10 := (rowc H10x.out).1
              have z0 := r10 0; have z1 := r10 1; have z2 := r10 2; have z8 := r10 8
              simp at z0 z1 z2 z8
              have y0 := (rowc HAx.out).1 0
              have y2 := (rowc HAx.out).1 2
              simp at y0 y2
              clear r10
              by_cases hl3 : jj < j
              · obtain ⟨t2, ht2⟩ : ∃ t, sl[jj]? = some t := ⟨_, List.getElem?_eq_getElem (by have := hlen.out; omega)⟩
                obtain ⟨a9, k2, n2, s2, x2, ks2, vs2, A2, c2, ea, -, -, -, -, -, hcell2⟩ := HR.out.slots jj t2 ht2
                obtain rfl := Option.some.inj ea
                have hc2 := hcell2.stays (w' := wr) (fun hl => HBx.out.block _ hl)
                obtain ⟨p0, p1, p2, -, -, -, -, -, p8, -⟩ := hc2
                have HT2 := Lib.hid ht2
                obtain ⟨⟨y2b, y2n, y2s⟩, tv2, tb2, tl2⟩ := t2
                simp only at p0 p1 p2 p8
                have NE := fun w => ky_eql w ⟨y2b, y2n, y2s⟩ ⟨yb, yn, ys⟩
                obtain ⟨q9, HQ9⟩ : ∃ q, Hid (decide ((⟨y2b, y2n, y2s⟩ : Ky) = ⟨yb, yn, ys⟩) = q) := ⟨_, Lib.hid rfl⟩
                rw [HQ9.out] at NE
                unfold kyV at NE
                simp only at NE
                clear hcell2 ht2 ea
                have HNX : Hid ((tb2 && q9) = false → ∀ (i : Nat) t, i < jj + 1 → sl[i]? = some t → ¬ (t.live = true ∧ t.key = ⟨yb, yn, ys⟩)) := Lib.hid (fun h i t hi ht => by
                  rcases Nat.lt_or_ge i jj with h' | h'
                  · exact HC.out i t h' ht
                  · obtain rfl : i = jj := by omega
                    rw [HT2.out] at ht
                    obtain rfl := Option.some.inj ht
                    rintro ⟨h1, h2⟩
                    rw [show tb2 = true from h1, ← HQ9.out, decide_eq_true (show (⟨y2b, y2n, y2s⟩ : Ky) = _ from h2)] at h
                    cases h)
                cases tb2 with
                | false =>
                  go_wp2_with (fail)
                  go_quiet ((fail))
                  go_wp2_with (fail)
                  go_roundg (j - jj)
                  case rel => exact ⟨jj + 1, by go_num, by omega, by omega, Lib.hid (HNX.out rfl), Lib.hid (bs HX.out (kbelow_drew _ _))⟩
                  case measure => omega
                | true =>
                  cases q9 with
                  | false =>
                    go_wp2_with (fail)
                    go_quiet ((fail))
                    go_wp2_with (fail)
                    go_roundg (j - jj)
                    case rel => exact ⟨jj + 1, by go_num, by omega, by omega, Lib.hid (HNX.out rfl), Lib.hid (bs HX.out (kbelow_drew _ _))⟩
                    case measure => omega
                  | true =>
                    have HF : Hid (false = true ↔ tabOk true l sl x k) := Lib.hid ⟨fun h => (by cases h), fun h => by
                      refine absurd ?_ ((h.2.2.1.1 j _ HTJ.out).2.1 rfl)
                      exact mem_livK.2 ⟨jj, _, by rw [List.getElem?_take, if_pos hl3]; exact HT2.out, rfl, of_decide_eq_true HQ9.out⟩⟩
                    go_wp2_with (fail)
                    go_quiet ((fail))
                    go_wp2_with (fail)
                    go_ret
                    exact BoP.of HF.out (bs HBx.out (kbelow_drew _ _))
              · obtain rfl : jj = j := by omega
                have HNEW : Hid ((⟨yb, yn, ys⟩ : Ky) ∉ livK (sl.take jj)) := Lib.hid (fun hm => by
                  obtain ⟨i, t, h1, h2, h3⟩ := mem_livK.1 hm
                  have hi : i < jj := by
                    have := (List.getElem?_eq_some_iff.1 h1).1
                    rw [List.length_take] at this
                    omega
                  rw [List.getElem?_take, if_pos hi] at h1
                  exact HC.out i t hi h1 ⟨h2, h3⟩)
                have HOx := Lib.hid (HO.out.below HX.out)
                go_wp2_with (fail)
                go_roundg (m - jj)
                case rel =>
                  refine ⟨jj + 1, N + 1, by go_num, by go_num, by omega, by omega, by omega, Lib.hid (fun i t hi ht => ?_), Lib.hid (by rw [HL2.out, List.length_append, HN.out]; rfl), HAx, HOx, HBx⟩
                  rcases Nat.lt_or_ge i jj with h | h
                  · exact HL.out i t h ht
                  · obtain rfl : i = jj := by omega
                    rw [HTJ.out] at ht
                    obtain rfl := Option.some.inj ht
                    exact ⟨⟨HYX.out, fun _ => HNEW.out, fun h => (by cases h)⟩, ⟨.inl rfl, HLK.out.symm⟩⟩
                case measure => omega
        · obtain rfl : j = m := by omega
          have y2 := (rowc HA.out).1 2
          simp at y2
          have HSL : Hid (livK (sl.take j) = livK sl) := Lib.hid (by rw [← hlen.out, List.take_length])
          go_wp2_with (fail)
          clear y2
          go_loopg [12] (n + 1) (fun gk s wx => ∃ K2 : Nat, s = .int .i64 K2 ∧ gk + K2 = n + 1 ∧ K2 ≤ n ∧ Hid (∀ i, i < K2 → l[i]? = (hs n sl j)[i]?) ∧ Hid (Below wr.heap.size wr wx))
          case atStart => exact ⟨0, rfl, by omega, by omega, Lib.hid (fun i h => absurd h (by omega)), Lib.hid (Below.refl _ _)⟩
          case round =>
            obtain ⟨K2, rfl, hgk, hK2, HC, HX⟩ := hrel
            have HAx := Lib.hid (carry HX.out HA.out)
            have HOx := Lib.hid (HO.out.below HX.out)
            have HBx := Lib.hid (bs HB.out HX.out)
            by_cases hlt2 : K2 < n
            · obtain ⟨a, v, rfl, hv, hcv⟩ := (HR.out.heads.below HBx.out).at_ hlt2
              obtain ⟨u, hu⟩ : ∃ u, (hs n sl j)[K2]? = some u := ⟨_, List.getElem?_eq_getElem (by rw [hs_len]; exact hlt2)⟩
              have hcu : wr.cell? ⟨g, K2, none⟩ = some (.int .i64 u) := by
                rw [HOx.out.row.cellAt K2 (by omega)]
                exact imem.ics_get hu
              have y1 := (rowc HAx.out).1 1
              simp at y1
              have HVV := Lib.hid hv
              have HUU := Lib.hid hu
              clear hv hu
              have hki : (K2 : Int) < (n : Int) := by omega
              by_cases hvu : v = u
              · subst hvu
                go_wp2_with (fail)
                go_quiet ((fail))
                go_wp2_with (fail)
                go_roundg (n - K2)
                case rel =>
                  refine ⟨K2 + 1, by go_num, by omega, by omega, Lib.hid (fun i hi => ?_), Lib.hid (bs HX.out (kbelow_drew _ _))⟩
                  rcases Nat.lt_or_ge i K2 with h | h
                  · exact HC.out i h
                  · obtain rfl : i = K2 := by omega
                    rw [HVV.out, HUU.out]
                case measure => omega
              · have hvu2 : (v != u) = true := by simp [hvu]
                have HF : Hid (false = true ↔ tabOk true l sl x k) := Lib.hid ⟨fun h => (by cases h), fun h => by
                  have h1 := h.2.2.2.2
                  rw [HLN.out, hlen.out] at h1
                  rw [h1, HVV.out] at HUU
                  exact absurd (Option.some.inj HUU.out) hvu⟩
                clear hvu
                go_wp2_with (fail)
                go_quiet ((fail))
                go_wp2_with (fail)
                go_ret
                exact BoP.of HF.out (bs HBx.out (kbelow_drew _ _))
            · obtain rfl : n = K2 := by omega
              have HEQ : Hid (hs n sl j = l) := Lib.hid (by
                apply List.ext_getElem?
                intro i
                by_cases hi : i < n
                · exact (HC.out i hi).symm
                · rw [List.getElem?_eq_none (by rw [hs_len]; omega), List.getElem?_eq_none (by rw [HLN.out]; omega)])
              have HF : Hid ((((N : Nat) : Int) == k) = true ↔ tabOk true l sl x k) := Lib.hid (by
                rw [beq_iff_eq]
                have e1 : N = (livK sl).length := by rw [HN.out, HSL.out]
                have hall : ∀ (i : Nat) t, sl[i]? = some t → soundS x sl i t ∧ linkS true n sl i t := fun i t h => HL.out i t (by have := (List.getElem?_eq_some_iff.1 h).1; have := hlen.out; omega) h
                unfold tabOk
                rw [HLN.out, hlen.out]
                refine ⟨fun h => ⟨⟨hx, hx2⟩, ⟨fun _ => ⟨hp, hm⟩, fun h => (by cases h)⟩, ⟨fun i t h => (hall i t h).1, by rw [← h, e1]⟩, ⟨fun i t h => (hall i t h).2, HEQ.out⟩⟩, fun h => by rw [e1]; exact h.2.2.1.2⟩)
              have y4 := (rowc HAx.out).1 4
              simp at y4
              go_wp2_with (fail)
              go_ret
              exact BoP.of HF.out HBx.out

end Go.Proofs.YtplfekpagonbbaaGreatDoor.tree

/-
  Whether a table is sound, of the model.
  Conditions: those that each theorem names; the package variables of the library's reading of numbers hold what the program's text lays.
-/
namespace Go.Proofs.YtplfekpagonbbaaGreatDoor.tree
open Go.ChangeShapes Go.WideShapes Go.ChangeAt Go.RowKit
set_option linter.unusedVariables false

set_option maxRecDepth 100000 in
set_option maxHeartbeats 2000000 in
theorem isTable_s {l : List Int} {sl : List Sl} {b : Bool} {A : Option Addr} {n c : Nat} {B : Option Addr} {m d : Nat} {x k : Int} (w : World) {S : Nat → Prop} (hr : TbIn w S l sl A n c B m d x k) (hn : n ≤ 1048576) (hm : m ≤ 1048576) (hst : SlB sl) (hE : prs.Env w) :
    Calls Tryz.prog 14 #[tbV b A n c B m d x k] w (BoP w (tabOk b l sl x k)) := by
  have hln : l.length = n := hr.heads.len
  have hlm : sl.length = m := hr.len
  have BAD : Hid (¬ ((0 ≤ x ∧ x ≤ 1000000001) ∧ sizeP b n m x) → (false = true ↔ tabOk b l sl x k)) := Lib.hid (fun hb => ⟨fun h => (by cases h), fun h => absurd ⟨h.1, by have := h.2.1; rwa [hln, hlm] at this⟩ hb⟩)
  clear hln hlm
  by_cases hx : ¬ (0 ≤ x ∧ x ≤ 1000000001)
  · have HF : Hid (false = true ↔ tabOk b l sl x k) := Lib.hid (BAD.out fun h => hx h.1)
    have hin : nums.inr x 0 1000000001 = false := by unfold nums.inr; simp; omega
    have IR := fun w => hin ▸ nums.l1In x 0 1000000001 w
    clear hin BAD hr hE hst
    go_enter Tryz.func14, Tryz.ntmps14
    go_wp2_with (fail)
    refine (IR _).mono ?_
    rintro e w1 ⟨rfl, rfl⟩
    go_wp2_with (fail)
    go_ret
    exact BoP.of HF.out (b1 _ _)
  replace hx := Decidable.not_not.1 hx
  obtain ⟨hx1, hx2⟩ := hx
  have hin : nums.inr x 0 1000000001 = true := by unfold nums.inr; simp; omega
  have IR := fun w => hin ▸ nums.l1In x 0 1000000001 w
  clear hin
  by_cases hm2 : ¬ (m ≤ 1024)
  · have HF : Hid (false = true ↔ tabOk b l sl x k) := Lib.hid (BAD.out fun h => by
      have := h.2
      cases b
      · have := this.2 rfl; omega
      · have := this.1 rfl; unfold p2 at this; omega)
    have h1 : (1024 : Int) < (m : Int) := by omega
    clear BAD hr hE hst hm2
    go_enter Tryz.func14, Tryz.ntmps14
    go_wp2_with (fail)
    refine (IR _).mono ?_
    rintro e w1 ⟨rfl, rfl⟩
    go_wp2_with (fail)
    go_ret
    exact BoP.of HF.out (b1 _ _)
  replace hm2 := Decidable.not_not.1 hm2
  cases b with
  | false =>
    by_cases h0 : ¬ (n = 0)
    · have HF : Hid (false = true ↔ tabOk false l sl x k) := Lib.hid (BAD.out fun h => h0 (h.2.2 rfl).1)
      have h1 : (0 : Int) < (n : Int) := by omega
      clear BAD hr hE hst h0
      go_enter Tryz.func14, Tryz.ntmps14
      go_wp2_with (fail)
      refine (IR _).mono ?_
      rintro e w1 ⟨rfl, rfl⟩
      go_wp2_with (fail)
      go_ret
      exact BoP.of HF.out (b1 _ _)
    replace h0 := Decidable.not_not.1 h0
    subst h0
    by_cases hmx : ¬ ((m : Int) ≤ x)
    · have HF : Hid (false = true ↔ tabOk false l sl x k) := Lib.hid (BAD.out fun h => hmx (h.2.2 rfl).2.1)
      have h1 : x < (m : Int) := by omega
      clear BAD hr hE hst hmx
      go_enter Tryz.func14, Tryz.ntmps14
      go_wp2_with (fail)
      refine (IR _).mono ?_
      rintro e w1 ⟨rfl, rfl⟩
      go_wp2_with (fail)
      go_ret
      exact BoP.of HF.out (b1 _ _)
    replace hmx := Decidable.not_not.1 hmx
    exact isTable_f w hr hm2 hmx hx1 hx2 hst hE
  | true =>
    by_cases h8 : ¬ (8 ≤ n ∧ n ≤ 1024)
    · have HF : Hid (false = true ↔ tabOk true l sl x k) := Lib.hid (BAD.out fun h => h8 (by have := (h.2.1 rfl).1; unfold p2 at this; omega))
      have hin : nums.inr n 8 1024 = false := by unfold nums.inr; simp; omega
      have IR2 := fun w => hin ▸ nums.l1In n 8 1024 w
      clear BAD hr hE hst h8 hin
      go_enter Tryz.func14, Tryz.ntmps14
      go_wp2_with (fail)
      refine (IR _).mono ?_
      rintro e w1 ⟨rfl, rfl⟩
      go_wp2_with (fail)
      refine (IR2 _).mono ?_
      rintro e w1 ⟨rfl, rfl⟩
      go_wp2_with (fail)
      go_ret
      exact BoP.of HF.out (b1 _ _)
    replace h8 := Decidable.not_not.1 h8
    have hin : nums.inr n 8 1024 = true := by unfold nums.inr; simp; omega
    have IR2 := fun w => hin ▸ nums.l1In n 8 1024 w
    clear hin
    obtain ⟨z, HZ⟩ : ∃ z, bits BinOp.and IntKind.i64 (n : Int) ((n : Int) - 1) = z := ⟨_, rfl⟩
    have hp := and_p2 h8.1 h8.2
    rw [HZ] at hp
    by_cases hz : ¬ (z = 0)
    · have HF : Hid (false = true ↔ tabOk true l sl x k) := Lib.hid (BAD.out fun h => hz (hp.2 (h.2.1 rfl).1))
      have hz2 : (z != 0) = true := by simp [hz]
      have h81 := h8.1
      have h82 := h8.2
      clear BAD hr hE hst h8 hp hz
      go_enter Tryz.func14, Tryz.ntmps14
      go_wp2_with (fail)
      refine (IR _).mono ?_
      rintro e w1 ⟨rfl, rfl⟩
      go_wp2_with (fail)
      refine (IR2 _).mono ?_
      rintro e w1 ⟨rfl, rfl⟩
      go_wp2_with (fail)
      go_ret
      exact BoP.of HF.out (b1 _ _)
    replace hz := Decidable.not_not.1 hz
    subst hz
    replace hp := hp.1 rfl
    by_cases hmn : ¬ (m ≤ n)
    · have HF : Hid (false = true ↔ tabOk true l sl x k) := Lib.hid (BAD.out fun h => hmn (h.2.1 rfl).2)
      have h1 : (n : Int) < (m : Int) := by omega
      have h81 := h8.1
      have h82 := h8.2
      clear BAD hr hE hst h8 hp hmn
      go_enter Tryz.func14, Tryz.ntmps14
      go_wp2_with (fail)
      refine (IR _).mono ?_
      rintro e w1 ⟨rfl, rfl⟩
      go_wp2_with (fail)
      refine (IR2 _).mono ?_
      rintro e w1 ⟨rfl, rfl⟩
      go_wp2_with (fail)
      go_ret
      exact BoP.of HF.out (b1 _ _)
    replace hmn := Decidable.not_not.1 hmn
    exact isTable_t w hr hp hmn hx1 hx2 hst hE

end Go.Proofs.YtplfekpagonbbaaGreatDoor.tree

/-
  FindSlot of the model.
  Conditions: those that each theorem names; the package variables of the library's reading of numbers hold what the program's text lays.
-/
namespace Go.Proofs.YtplfekpagonbbaaGreatDoor.tree
open Go.ChangeShapes Go.WideShapes Go.ChangeAt Go.RowKit
set_option linter.unusedVariables false

set_option maxRecDepth 100000 in
set_option maxHeartbeats 4000000 in
theorem l7Find_f {l : List Int} {sl : List Sl} {A : Option Addr} {n c : Nat} {B : Option Addr} {m d : Nat} {x k : Int} (w : World) {S : Nat → Prop} (hr : TbIn w S l sl A n c B m d x k) (hok : tabOk false l sl x k) (y : Ky) :
    Calls Tryz.prog 72 #[tbV false A n c B m d x k, kyV y] w (LtQ w (fd sl y m)) := by
  have hlen := hr.len
  have hpk : ∀ (i : Nat) t, sl[i]? = some t → t.key = ixK i := fun i t h => by
    rcases (hok.2.2.2.1 i t h).1 with h | h
    · cases h
    · exact h
  have hm := hok.len.1
  rw [hlen] at hm
  obtain ⟨W, HW⟩ : ∃ W, Hid (fd sl y m = W) := ⟨_, Lib.hid rfl⟩
  rw [HW.out]
  obtain ⟨q, HQ⟩ : ∃ q, Hid (nums.inr y.num 0 ((m : Int) - 1) = q) := ⟨_, Lib.hid rfl⟩
  have LI : ∀ w, Calls Tryz.prog 54 #[.int .i64 y.num, .int .i64 0, .int .i64 ((m : Int) - 1)] w fun e w' => e = .returned (.bool q) ∧ w' = w := fun w => (HQ.out ▸ nums.l1In y.num 0 ((m : Int) - 1) w).mono fun e w' h => ⟨h.1, h.2.symm⟩
  by_cases hyb : y.text = true
  · have HF : Hid (-1 = W) := Lib.hid (by
      rw [← HW.out]
      rcases fd_packed hpk y m (by omega) with h | ⟨i, t, h1, h2, h3, h4, h5, h6⟩
      · exact h.symm
      · rw [h5] at hyb
        cases hyb)
    obtain ⟨yb, yn, ys⟩ := y
    simp only at hyb
    subst hyb
    unfold kyV
    clear hr hok hpk LI HQ
    go_enter Tryz.func72, Tryz.ntmps72
    go_wp2_with (fail)
    go_quiet ((fail))
    go_wp2_with (fail)
    go_ret
    exact ⟨by rw [← HF.out]; rfl, bs (b2 _ _ _) (kbelow_drew _ _)⟩
  replace hyb : y.text = false := by simpa using hyb
  cases q with
  | false =>
    have HF : Hid (-1 = W) := Lib.hid (by
      have := fd_out (sl := sl) hpk (y := y) (by
        have h := HQ.out
        unfold nums.inr at h
        simp at h
        rw [hlen]
        omega)
      rw [hlen] at this
      rw [← HW.out, this])
    obtain ⟨yb, yn, ys⟩ := y
    simp only at hyb LI
    subst hyb
    unfold kyV
    clear hr hok hpk HQ
    go_enter Tryz.func72, Tryz.ntmps72
    go_wp2_with (fail)
    go_quiet (first | (go_at_call 54; refine Calls.quiet_of_same (LI _)))
    go_wp2_with (fail)
    go_ret
    exact ⟨by rw [← HF.out]; rfl, bs (b2 _ _ _) (kbelow_drew _ _)⟩
  | true =>
    obtain ⟨i, hi, him⟩ : ∃ i : Nat, y.num = i ∧ i < m := by
      have h := HQ.out
      unfold nums.inr at h
      simp at h
      exact ⟨y.num.toNat, by omega, by omega⟩
    obtain ⟨t, ht⟩ : ∃ t, sl[i]? = some t := ⟨_, List.getElem?_eq_getElem (by omega)⟩
    have HF : Hid ((if t.live = true ∧ t.key = y then (i : Int) else -1) = W) := Lib.hid (by
      have := fd_at (sl := sl) hpk (y := y) ht hi
      rw [hlen] at this
      rw [← HW.out, this])
    obtain ⟨a2, k2, n2, s2, x2, ks2, vs2, A2, c2, ea, -, -, -, -, -, hcell⟩ := hr.slots i t ht
    subst ea
    obtain ⟨yb, yn, ys⟩ := y
    simp only at hyb hi LI
    subst hyb hi
    have hc10 := hcell.stays (w' := (w.alloc (.cells #[.bool false, .slice A n c, .slice (some a2) m d, .int .i64 x, .int .i64 k] IT)).alloc (.cells #[.bool false, .int .i64 i, .string ys] 29)) (fun hl => (b2 w _ _).block _ hl)
    obtain ⟨⟨y2b, y2n, y2s⟩, tv2, tb2, tl2⟩ := t
    have NE := fun w => ky_eql w ⟨y2b, y2n, y2s⟩ ⟨false, i, ys⟩
    obtain ⟨q9, HQ9⟩ : ∃ q, Hid (decide ((⟨y2b, y2n, y2s⟩ : Ky) = ⟨false, i, ys⟩) = q) := ⟨_, Lib.hid rfl⟩
    rw [HQ9.out] at NE
    unfold kyV at NE ⊢
    simp only at NE
    obtain ⟨p0, p1, p2, -, -, -, -, -, p8, -⟩ := hc10
    simp only at p0 p1 p2 p8
    have him2 : (i : Int) < (m : Int) := by omega
    have hii : (0 : Int) ≤ (i : Int) := by omega
    clear hr hok hpk HQ ht hcell
    cases tb2 with
    | false =>
      have HN : Hid (-1 = W) := Lib.hid (by have := HF.out; simpa using this)
      go_enter Tryz.func72, Tryz.ntmps72
      go_wp2_with (fail)
      go_quiet (first | (go_at_call 54; refine Calls.quiet_of_same (LI _)))
      go_wp2_with (fail)
      go_ret
      exact ⟨by rw [← HN.out]; rfl, bs (b2 _ _ _) (kbelow_drew _ _)⟩
    | true =>
      cases q9 with
      | false =>
        have HN : Hid (-1 = W) := Lib.hid (by
          have h := HF.out
          rw [if_neg (fun h => of_decide_eq_false HQ9.out h.2)] at h
          exact h)
        go_enter Tryz.func72, Tryz.ntmps72
        go_wp2_with (fail)
        go_quiet (first | (go_at_call 54; refine Calls.quiet_of_same (LI _)))
        go_wp2_with (fail)
        go_ret
        exact ⟨by rw [← HN.out]; rfl, bs (b2 _ _ _) (kbelow_drew _ _)⟩
      | true =>
        have HN : Hid ((i : Int) = W) := Lib.hid (by
          have h := HF.out
          rw [if_pos ⟨rfl, of_decide_eq_true HQ9.out⟩] at h
          exact h)
        go_enter Tryz.func72, Tryz.ntmps72
        go_wp2_with (fail)
        go_quiet (first | (go_at_call 54; refine Calls.quiet_of_same (LI _)))
        go_wp2_with (fail)
        go_ret
        exact ⟨by rw [← HN.out]; rfl, bs (b2 _ _ _) (kbelow_drew _ _)⟩

set_option maxRecDepth 100000 in
set_option maxHeartbeats 4000000 in
theorem l7Find_t {l : List Int} {sl : List Sl} {A : Option Addr} {n c : Nat} {B : Option Addr} {m d : Nat} {x k : Int} (w : World) {S : Nat → Prop} (hr : TbIn w S l sl A n c B m d x k) (hok : tabOk true l sl x k) (y : Ky) (hys : y.str.size ≤ 140737488355328) :
    Calls Tryz.prog 72 #[tbV true A n c B m d x k, kyV y] w (LtQ w (fd sl y m)) := by
  have hlen := hr.len
  have hln : l.length = n := hr.heads.len
  have hm := hok.len.1
  have hp : p2 n := by have := (hok.2.1.1 rfl).1; rwa [hln] at this
  have hn8 : 8 ≤ n ∧ n ≤ 1024 := by unfold p2 at hp; omega
  rw [hlen] at hm
  obtain ⟨W, HW⟩ : ∃ W, Hid (fd sl y m = W) := ⟨_, Lib.hid rfl⟩
  rw [HW.out]
  obtain ⟨q, HQ⟩ : ∃ q : Nat, Hid (bk n y = q) := ⟨_, Lib.hid rfl⟩
  obtain ⟨z, HZ⟩ : ∃ z, Hid (kh y = z) := ⟨_, Lib.hid rfl⟩
  have hq : q < n := HQ.out ▸ bk_lt (by omega) y
  have hqi : (q : Int) < (n : Int) := by omega
  have hrem : z.tmod (n : Int) = (q : Int) := by
    rw [← HQ.out, ← bk_int (by omega), ← HZ.out, Int.tmod_eq_emod_of_nonneg (kh_in _).1]
  have KH : Hid (∀ w', Calls Tryz.prog 55 #[kyV y] w' (KhQ w' z)) := Lib.hid fun w' => HZ.out ▸ keyHash_s y hys w'
  obtain ⟨v, hv⟩ : ∃ v, l[q]? = some v := ⟨_, List.getElem?_eq_getElem (by omega)⟩
  have HV : Hid (v = last n sl q m) := Lib.hid (by
    have h1 := hok.2.2.2.2
    rw [hln, hlen] at h1
    have h2 := hs_get (n := n) (sl := sl) hq m
    rw [h1, hv] at h2
    exact Option.some.inj h2)
  have HLK : Hid (∀ (i : Nat) t, sl[i]? = some t → bk n t.key = q → t.link = last n sl q i) := Lib.hid (fun i t h hb => by
    have h1 := (hok.2.2.2.1 i t h).2
    rw [hln, lk_pos (by omega), hb] at h1
    exact h1)
  obtain ⟨a, ha, hc⟩ := hr.heads.2 (by omega)
  subst ha
  have HC : Hid (w.cell? (a.add q) = some (.int .i64 v)) := Lib.hid (hc q v hv)
  have HS := Lib.hid hr.slots
  have HLN := Lib.hid hlen
  have HBQ : Hid (bk n y = q) := Lib.hid HQ.out
  obtain ⟨yb, yn, ys⟩ := y
  unfold kyV at KH ⊢
  simp only at KH
  have hn1 := hn8.1
  have hn2 := hn8.2
  have hnz : ¬ n = 0 := by omega
  clear hn8
  clear hr hok hp hv hc hys hlen hln HQ
  go_enter Tryz.func72, Tryz.ntmps72
  go_upto_region 5 with fail
  generalize hw0 : (w.alloc (.cells #[.bool true, .slice (some a) n c, .slice B m d, .int .i64 x, .int .i64 k] IT)).alloc (.cells #[.bool yb, .int .i64 yn, .string ys] 29) = w0
  have hb0 : Below w.heap.size w w0 := hw0 ▸ b2 _ _ _
  have HA : Hid (w0.heap[w.heap.size]? = some (.cells #[.bool true, .slice (some a) n c, .slice B m d, .int .i64 x, .int .i64 k] IT (0, 0))) := Lib.hid (hw0 ▸ heap_alloc2_old w _ _)
  have HY : Hid (w0.heap[w.heap.size + 1]? = some (.cells #[.bool yb, .int .i64 yn, .string ys] 29 (0, 0))) := Lib.hid (hw0 ▸ heap_alloc2_new w _ _)
  have HB := Lib.hid hb0
  have y1 : w0.cell? ⟨w.heap.size, 1, none⟩ = some (.slice (some a) n c) := (rowc HA.out).1 1
  have z0 : w0.cell? ⟨w.heap.size + 1, 0, none⟩ = some (.bool yb) := (rowc HY.out).1 0
  have z1 : w0.cell? ⟨w.heap.size + 1, 1, none⟩ = some (.int .i64 yn) := (rowc HY.out).1 1
  have z2 : w0.cell? ⟨w.heap.size + 1, 2, none⟩ = some (.string ys) := (rowc HY.out).1 2
  have hcc : w0.cell? (a.add q) = some (.int .i64 v) := cell_stays (fun hl => hb0.block _ hl) HC.out
  clear hw0 hb0
  go_wp2_with (fail)
  go_region_held3 (fun w' => w'.cell? ⟨w.heap.size, 1, none⟩ = some (.slice (some a) n c) ∧ w'.cell? ⟨w.heap.size + 1, 0, none⟩ = some (.bool yb) ∧ w'.cell? ⟨w.heap.size + 1, 1, none⟩ = some (.int .i64 yn) ∧ w'.cell? ⟨w.heap.size + 1, 2, none⟩ = some (.string ys) ∧ w'.cell? (a.add q) = some (.int .i64 v)) (first | go_keep | exact ⟨y1, z0, z1, z2, hcc⟩) (first
    | (go_at_call 55; refine (KH.out _).mono ?_
       rintro e w1 ⟨rfl, hb1⟩
       have hbx := bs ((Below.refl w0.heap.size w0).drew) hb1
       have HA1 := Lib.hid (carry hbx HA.out)
       have HY1 := Lib.hid (carry hbx HY.out)
       have HB1 := Lib.hid (bs HB.out hbx)
       have hcc : w1.cell? (a.add q) = some (.int .i64 v) := cell_stays (fun hl => HB1.out.block _ hl) HC.out
       have y1 : w1.cell? ⟨w.heap.size, 1, none⟩ = some (.slice (some a) n c) := (rowc HA1.out).1 1
       have z0 : w1.cell? ⟨w.heap.size + 1, 0, none⟩ = some (.bool yb) := (rowc HY1.out).1 0
       have z1 : w1.cell? ⟨w.heap.size + 1, 1, none⟩ = some (.int .i64 yn) := (rowc HY1.out).1 1
       have z2 : w1.cell? ⟨w.heap.size + 1, 2, none⟩ = some (.string ys) := (rowc HY1.out).1 2
       clear hb1 hbx))
  clear z0 z1 z2 y1 hcc hrem
  go_wp2_with (fail)
  go_loopg [5] m (fun gk s wr => ∃ (J : Nat) (v : Int), s = .int .i64 v ∧ J ≤ gk ∧ J ≤ m ∧ Hid (v = last n sl q J) ∧ Hid (fd sl ⟨yb, yn, ys⟩ J = W) ∧ Hid (Below w1.heap.size w1 wr))
  case atStart => exact ⟨m, v, rfl, Nat.le_refl _, Nat.le_refl _, HV, HW, Lib.hid (Below.refl _ _)⟩
  case round =>
    obtain ⟨J, v1, rfl, hgk, hJ, HV1, HFD, HX⟩ := hrel
    have HAx := Lib.hid (carry HX.out HA1.out)
    have HYx := Lib.hid (carry HX.out HY1.out)
    have HBx := Lib.hid (bs HB1.out HX.out)
    rcases last_fd (sl := sl) HBQ.out J (by have := HLN.out; omega) with ⟨h1, h2⟩ | ⟨i, t, hi, h1, h2, h3, h4⟩
    · have hv1 : v1 = -1 := HV1.out.trans h1
      subst hv1
      have HN : Hid (-1 = W) := Lib.hid (h2.symm.trans HFD.out)
      clear h1 h2
      go_wp2_with (fail)
      go_ret
      exact ⟨by rw [← HN.out]; rfl, HBx.out⟩
    · have hv1 : v1 = (i : Int) := HV1.out.trans h1
      subst hv1
      have HD : Hid ((if t.live = true ∧ t.key = ⟨yb, yn, ys⟩ then (i : Int) else fd sl ⟨yb, yn, ys⟩ i) = W) := Lib.hid (by rw [← fd_succ h2, ← h4]; exact HFD.out)
      have HLI : Hid (t.link = last n sl q i) := Lib.hid (HLK.out i t h2 h3)
      obtain ⟨a2, k2, n2, s2, x2, ks2, vs2, A2, c2, ea, -, -, -, -, -, hcell⟩ := HS.out i t h2
      subst ea
      have hc10 := hcell.stays (w' := wr) (fun hl => HBx.out.block _ hl)
      obtain ⟨⟨y2b, y2n, y2s⟩, tv2, tb2, tl2⟩ := t
      simp only at HLI
      have NE := fun w => ky_eql w ⟨y2b, y2n, y2s⟩ ⟨yb, yn, ys⟩
      obtain ⟨q9, HQ9⟩ : ∃ q, Hid (decide ((⟨y2b, y2n, y2s⟩ : Ky) = ⟨yb, yn, ys⟩) = q) := ⟨_, Lib.hid rfl⟩
      rw [HQ9.out] at NE
      unfold kyV at NE
      simp only at NE
      have HC9 := Lib.hid hc10.c9
      obtain ⟨p0, p1, p2, -, -, -, -, -, p8, p9⟩ := hc10
      simp only at p0 p1 p2 p8 p9
      have y2 := (rowc HAx.out).1 2
      have r1 := (rowc HYx.out).1
      have z0 := r1 0; have z1 := r1 1; have z2 := r1 2
      simp at y2 z0 z1 z2
      have him2 : (i : Int) < (m : Int) := by omega
      clear h1 h2 h3 h4 hcell r1
      cases tb2 with
      | false =>
        have HN : Hid (fd sl ⟨yb, yn, ys⟩ i = W) := Lib.hid (by have := HD.out; simpa using this)
        go_wp2_with (fail)
        go_quiet ((fail))
        go_wp2_with (fail)
        go_roundg i
        case rel => exact ⟨i, tl2, rfl, Nat.le_refl _, by omega, HLI, HN, Lib.hid (bs HX.out (kbelow_drew _ _))⟩
        case measure => omega
      | true =>
        cases q9 with
        | false =>
          have HN : Hid (fd sl ⟨yb, yn, ys⟩ i = W) := Lib.hid (by
            have h := HD.out
            rw [if_neg (fun h => of_decide_eq_false HQ9.out h.2)] at h
            exact h)
          go_wp2_with (fail)
          go_quiet ((fail))
          go_wp2_with (fail)
          go_roundg i
          case rel => exact ⟨i, tl2, rfl, Nat.le_refl _, by omega, HLI, HN, Lib.hid (bs HX.out (kbelow_drew _ _))⟩
          case measure => omega
        | true =>
          have HN : Hid ((i : Int) = W) := Lib.hid (by
            have h := HD.out
            rw [if_pos ⟨rfl, of_decide_eq_true HQ9.out⟩] at h
            exact h)
          go_wp2_with (fail)
          go_quiet ((fail))
          go_wp2_with (fail)
          go_ret
          exact ⟨by rw [← HN.out]; rfl, bs HBx.out (kbelow_drew _ _)⟩

theorem findTable_s {l : List Int} {sl : List Sl} {b : Bool} {A : Option Addr} {n c : Nat} {B : Option Addr} {m d : Nat} {x k : Int} (w : World) {S : Nat → Prop} (hr : TbIn w S l sl A n c B m d x k) (hn : n ≤ 1048576) (hm : m ≤ 1048576) (hst : SlB sl) (hE : prs.Env w) (y : Ky) (hys : y.str.size ≤ 140737488355328) :
    Calls Tryz.prog 28 #[tbV b A n c B m d x k, kyV y] w (FsQ w (tabOk b l sl x k) (fd sl y m)) := by
  have TR : Hid (∀ w', Below w.heap.size w w' → TbIn w' S l sl A n c B m d x k) := Lib.hid fun w' hb => ⟨hr.heads.below hb, hr.hn, hr.len, hr.cap, hr.slots.below hb, hr.next, hr.count⟩
  have IS : Hid (∀ w', Below w.heap.size w w' → Calls Tryz.prog 14 #[tbV b A n c B m d x k] w' (BoP w' (tabOk b l sl x k))) := Lib.hid fun w' hb => isTable_s w' (TR.out w' hb) hn hm hst (hE.stays hb)
  have FI : Hid (tabOk b l sl x k → ∀ w', Below w.heap.size w w' → Calls Tryz.prog 72 #[tbV b A n c B m d x k, kyV y] w' (LtQ w' (fd sl y m))) := Lib.hid fun hok w' hb => by
    cases b with
    | false => exact l7Find_f w' (TR.out w' hb) hok y
    | true => exact l7Find_t w' (TR.out w' hb) hok y hys
  obtain ⟨W, HW⟩ : ∃ W, Hid (fd sl y m = W) := ⟨_, Lib.hid rfl⟩
  rw [HW.out] at FI ⊢
  obtain ⟨yb, yn, ys⟩ := y
  unfold kyV at FI ⊢
  simp only at FI
  clear hr hst hE hys TR
  go_enter Tryz.func28, Tryz.ntmps28
  go_wp2_with (fail)
  refine (IS.out _ (b2 _ _ _)).mono ?_
  rintro e w1 ⟨q, rfl, hq, hb⟩
  have HA := Lib.hid (carry hb (heap_alloc2_old w _ _))
  have HY := Lib.hid (carry hb (heap_alloc2_new w _ _))
  have HB := Lib.hid (bs (b2 _ _ _) hb)
  have HQ := Lib.hid hq
  have r0 := (rowc HA.out).1
  have y0 := r0 0; have y1 := r0 1; have y2 := r0 2; have y3 := r0 3; have y4 := r0 4
  have r1 := (rowc HY.out).1
  have z0 := r1 0; have z1 := r1 1; have z2 := r1 2
  simp at y0 y1 y2 y3 y4 z0 z1 z2
  clear hb hq r0 r1 IS
  cases q with
  | false =>
    have HF : Hid (¬ tabOk b l sl x k) := Lib.hid (fun h => by have := HQ.out.2 h; cases this)
    go_wp2_with (fail)
    go_ret
    exact ⟨-1, rfl, .inr ⟨HF.out, rfl⟩, HB.out⟩
  | true =>
    have HF : Hid (tabOk b l sl x k) := Lib.hid (HQ.out.1 rfl)
    go_wp2_with (fail)
    refine (FI.out HF.out _ HB.out).mono ?_
    rintro e w2 ⟨rfl, hb⟩
    replace HB := Lib.hid (bs HB.out hb)
    clear hb y0 y1 y2 y3 y4 z0 z1 z2
    go_wp2_with (fail)
    go_ret
    exact ⟨W, rfl, .inl ⟨HF.out, rfl⟩, HB.out⟩

end Go.Proofs.YtplfekpagonbbaaGreatDoor.tree

/-
  The laws' copies of a slot: in new memory.
  Conditions: those that each theorem names.
-/
namespace Go.Proofs.YtplfekpagonbbaaGreatDoor.tree
open Go.ChangeShapes Go.WideShapes Go.ChangeAt Go.RowKit
set_option linter.unusedVariables false

def slV (y : Ky) (v : Value) (b : Bool) (l : Int) : Value := .agg (#[.bool y.text, .int .i64 y.num, .string y.str] ++ v.cells ++ #[.bool b, .int .i64 l])
def SlCpQ (w : World) (y : Ky) (t : Tr) (b : Bool) (l : Int) (e : Ending) (w' : World) : Prop := ∃ v, e = .returned (slV y v b l) ∧ TIn w' (Nw w.heap.size w') t v ∧ Below w.heap.size w w'

set_option maxRecDepth 100000 in
set_option maxHeartbeats 1600000 in
theorem cpSlot (y : Ky) (t : Tr) (k n : Int) (s : ByteArray) (x : Int) (A : Option Addr) (L c : Nat) (b : Bool) (l : Int) (w : World)
    (ih : ∀ w' : World, Below w.heap.size w w' → Calls Tryz.prog 34 #[vV k n s x A L c] w' (CpQ w' t)) :
    Calls Tryz.prog 121 #[sV y k n s x A L c b l] w (SlCpQ w y t b l) := by
  obtain ⟨yb, m, ys⟩ := y
  have K := toKey ⟨yb, m, ys⟩
  unfold sV
  go_enter Tryz.func121, Tryz.ntmps121
  go_wp2_with (fail)
  refine (K _).mono ?_
  rintro e w1 ⟨rfl, hb1⟩
  obtain ⟨a0, a1, a2, az, ab⟩ := al3 w _ _ _ _ _ _
  have e0 := (hb1.block _ (by rw [az]; omega)).trans a0
  have e1 := (hb1.block _ (by rw [az]; omega)).trans a1
  have e2 := (hb1.block _ (by rw [az]; omega)).trans a2
  have hz : w.heap.size + 2 < w1.heap.size := by have := hb1.size; rw [az] at this; omega
  have E0 := Lib.hid e0
  have E1 := Lib.hid e1
  have E2 := Lib.hid e2
  have HB := Lib.hid (bs ab hb1)
  obtain ⟨r0, _⟩ := rowc e0
  obtain ⟨r2, f2⟩ := rowc e2
  clear hb1 a0 a1 a2 az ab e0 e1 e2
  unfold kyV
  go_wp2_with (fail)
  refine (ih _ ?_).mono ?_
  · exact ((HB.out.setCell (by simp; omega) _).setCell (by simp; omega) _).setCell (by simp; omega) _
  rintro e w2 ⟨v, rfl, hv, hb2⟩
  obtain ⟨k', n', s', x', ks', vs'⟩ := t
  obtain ⟨A', c', rfl, -, -⟩ := hv.out
  have s0 := (hb2.block w.heap.size (by simp []; omega)).trans ((set_other (by omega)).trans ((set_other (by omega)).trans ((set_other (by omega)).trans E0.out)))
  have s1 := (hb2.block (w.heap.size + 1) (by simp []; omega)).trans ((set_other (by omega)).trans ((set_other (by omega)).trans ((set_other (by omega)).trans E1.out)))
  have s2 := (hb2.block (w.heap.size + 1 + 1) (by simp []; omega)).trans (set_heap (set_heap (set_heap E2.out 0 _) 1 _) 2 _)
  have hz2 : w.heap.size + 2 < w2.heap.size := by have := hb2.size; simp [] at this; omega
  have HB2 := Lib.hid hb2
  have HV := Lib.hid hv
  obtain ⟨q0, g0⟩ := rowc s0
  obtain ⟨r3, f3⟩ := rowc s1
  obtain ⟨r4, f4⟩ := rowc s2
  clear hb2 hv r0 r2 f2 s0 s1 s2
  go_wp2_with (fail)
  refine bodyPost_ret (v := sV ⟨yb, m, ys⟩ k' n' s' x' A' vs'.length c' b l) (by simp [results, Tryz.results121, go_sem, r3]) rfl ⟨vV k' n' s' x' A' vs'.length c', rfl, ?_, ?_⟩
  · refine HV.out.nw (by simp []; omega) fun q hq hlt => ?_
    have q1 : q ≠ w.heap.size + 1 := by simp [] at hq; omega
    have q2 : q ≠ w.heap.size + 1 + 1 := by simp [] at hq; omega
    simp only [set_other q1, set_other q2]
  · have hB := bs (((HB.out.setCell (p := ⟨w.heap.size + 1 + 1, 0, none⟩) (by simp; omega) (.bool yb)).setCell (p := ⟨w.heap.size + 1 + 1, 1, none⟩) (by simp; omega) (.int .i64 m)).setCell (p := ⟨w.heap.size + 1 + 1, 2, none⟩) (by simp; omega) (.string ys)) HB2.out
    iterate 17 refine Below.setCell ?_ (by first | (simp; done) | (simp; omega)) _
    exact hB

abbrev IS : TypeId := 85
/-- Ten cells in a row. -/
def set10 (arr : Array Value) (o : Nat) (c0 c1 c2 c3 c4 c5 c6 c7 c8 c9 : Value) : Array Value := ((set8 arr o c0 c1 c2 c3 c4 c5 c6 c7).setIfInBounds (o + 8) c8).setIfInBounds (o + 9) c9
theorem set10_size (arr : Array Value) (o : Nat) (c0 c1 c2 c3 c4 c5 c6 c7 c8 c9 : Value) : (set10 arr o c0 c1 c2 c3 c4 c5 c6 c7 c8 c9).size = arr.size := by simp [set10, set8_size]
theorem set10_out (arr : Array Value) (o : Nat) (c0 c1 c2 c3 c4 c5 c6 c7 c8 c9 : Value) (p : Nat) (h : p < o ∨ o + 10 ≤ p) : (set10 arr o c0 c1 c2 c3 c4 c5 c6 c7 c8 c9)[p]? = arr[p]? := by
  unfold set10
  rw [Array.getElem?_setIfInBounds_ne (by omega), Array.getElem?_setIfInBounds_ne (by omega), set8_out _ _ _ _ _ _ _ _ _ _ _ (by omega)]
theorem set10_in (arr : Array Value) (o : Nat) (c0 c1 c2 c3 c4 c5 c6 c7 c8 c9 : Value) (h : o + 10 ≤ arr.size) (q : Nat) (hq : q < 10) : (set10 arr o c0 c1 c2 c3 c4 c5 c6 c7 c8 c9)[o + q]? = (#[c0, c1, c2, c3, c4, c5, c6, c7, c8, c9] : Array Value)[q]? := by
  unfold set10
  by_cases h8 : q < 8
  · rw [Array.getElem?_setIfInBounds_ne (by omega), Array.getElem?_setIfInBounds_ne (by omega), set8_in _ _ _ _ _ _ _ _ _ _ (by omega) q h8]
    match q, h8 with
    | 0, _ => rfl
    | 1, _ => rfl
    | 2, _ => rfl
    | 3, _ => rfl
    | 4, _ => rfl
    | 5, _ => rfl
    | 6, _ => rfl
    | 7, _ => rfl
  · by_cases h9 : q = 8
    · subst h9
      rw [Array.getElem?_setIfInBounds_ne (by omega), Array.getElem?_setIfInBounds_self_of_lt (by rw [set8_size]; omega)]; rfl
    · obtain rfl : q = 9 := by omega
      rw [Array.getElem?_setIfInBounds_self_of_lt (by rw [Array.size_setIfInBounds, set8_size]; omega)]; rfl

/-- The first j slots of a row of L are laid. -/
def LaidS (w : World) (g L j : Nat) (sl : List Sl) : Prop :=
  ∃ arr, w.heap[g]? = some (.cells arr IS (0, 0)) ∧ arr.size = L * 10 ∧ ∀ i t, sl[i]? = some t → i < j → ∃ k n s x ks vs A c, t.val = .mk k n s x ks vs ∧ TIn w (Nw (g + 1) w) t.val (vV k n s x A vs.length c) ∧
    (I64 t.key.num ∧ t.key.str.size ≤ maxLen) ∧ I64 t.link ∧ ∀ q, q < 10 → arr[i * 10 + q]? = (#[.bool t.key.text, .int .i64 t.key.num, .string t.key.str, .int .i64 k, .int .i64 n, .string s, .int .i64 x, .slice A vs.length c, .bool t.live, .int .i64 t.link] : Array Value)[q]?

theorem LaidS.done {w : World} {g L : Nat} {sl : List Sl} (h : LaidS w g L L sl) (hL : sl.length = L) : SIn w (Nw g w) sl (some ⟨g, 0, none⟩) := fun i t ht => by
  obtain ⟨arr, hg, hs, hi'⟩ := h
  have hil := (List.getElem?_eq_some_iff.1 ht).1
  obtain ⟨k, n, s, x, ks, vs, A, c, e, hT, hk, hl, hc⟩ := hi' i t ht (by omega)
  have at_ : ∀ q, q < 10 → w.cell? ⟨g, i * 10 + q, none⟩ = _ := fun q hq => (cell_of_row w g _ arr IS _ hg).trans (hc q hq)
  refine ⟨⟨g, 0, none⟩, k, n, s, x, ks, vs, A, c, rfl, ⟨Nat.le_refl _, arr, IS, hg⟩, hk, hl, e, hT.stays (fun b hb => ⟨by have := hb.1; omega, hb.2⟩) (fun _ _ _ => rfl), ?_⟩
  rw [Addr.add_lit, Nat.zero_add]
  exact ⟨at_ 0 (by omega), at_ 1 (by omega), at_ 2 (by omega), at_ 3 (by omega), at_ 4 (by omega), at_ 5 (by omega), at_ 6 (by omega), at_ 7 (by omega), at_ 8 (by omega), at_ 9 (by omega)⟩

theorem LaidS.step {w w1 w2 : World} {g L j : Nat} {sl : List Sl} (h : LaidS w g L j sl) (hb : Below w.heap.size w w1) {y : Ky} {tv : Tr} {lb : Bool} {ll : Int} {k n x : Int} {s : ByteArray} {ks' : List Ky} {vs' : List Tr} {A : Option Addr} {c : Nat}
    (ht : sl[j]? = some ⟨y, tv, lb, ll⟩) (hv : tv = .mk k n s x ks' vs') (hti : TIn w1 (Nw w.heap.size w1) tv (vV k n s x A vs'.length c)) (hyb : I64 y.num ∧ y.str.size ≤ maxLen) (hl : I64 ll) (hj : j < L)
    (hg : ∀ arr, w1.heap[g]? = some (.cells arr IS (0, 0)) → w2.heap[g]? = some (.cells (set10 arr (j * 10) (.bool y.text) (.int .i64 y.num) (.string y.str) (.int .i64 k) (.int .i64 n) (.string s) (.int .i64 x) (.slice A vs'.length c) (.bool lb) (.int .i64 ll)) IS (0, 0)))
    (ho : ∀ b, b ≠ g → w2.heap[b]? = w1.heap[b]?) : LaidS w2 g L (j + 1) sl := by
  obtain ⟨arr, hg0, hs, h⟩ := h
  have glt : g < w.heap.size := (Array.getElem?_eq_some_iff.1 hg0).1
  have hg1 := (hb.block g glt).trans hg0
  refine ⟨_, hg arr hg1, by rw [set10_size, hs], fun i t hit hij => ?_⟩
  by_cases e : i = j
  · subst e
    rw [ht] at hit
    obtain rfl := Option.some.inj hit
    refine ⟨k, n, s, x, ks', vs', A, c, hv, hti.nw (by omega) (fun b hb1 _ => ho b (by omega)), hyb, hl, fun q hq => ?_⟩
    rw [set10_in _ _ _ _ _ _ _ _ _ _ _ _ (by omega) q hq]
  · obtain ⟨k', n', s', x', ks2, vs2, A', c', hv', hti', hyb', hl', hc'⟩ := h i t hit (by omega)
    refine ⟨k', n', s', x', ks2, vs2, A', c', hv', hti'.nw (Nat.le_refl _) (fun b hb1 hlt => (ho b (by omega)).trans (hb.block b hlt)), hyb', hl', fun q hq => ?_⟩
    rw [set10_out _ _ _ _ _ _ _ _ _ _ _ _ _ (by omega)]
    exact hc' q hq

theorem is_info : ∃ i, Tryz.prog.info? IS = some i ∧ (i.zero = some (.agg #[.bool false, .int .i64 0, .string ⟨#[]⟩, .int .i64 0, .int .i64 0, .string ⟨#[]⟩, .int .i64 0, .slice none 0 0, .bool false, .int .i64 0]) ∧ i.size = 10 ∧ i.bytes = 112) := by
  have : (Tryz.prog.info? IS).map (fun i => (i.zero, i.size, i.bytes)) = some (some (.agg #[.bool false, .int .i64 0, .string ⟨#[]⟩, .int .i64 0, .int .i64 0, .string ⟨#[]⟩, .int .i64 0, .slice none 0 0, .bool false, .int .i64 0]), 10, 112) := by kernel_rfl
  cases hq : Tryz.prog.info? IS with
  | none => rw [hq] at this; cases this
  | some i => rw [hq] at this; simp at this; exact ⟨i, rfl, this⟩
/-- Copies of slots: in a new block. -/
def SlsQ (w : World) (sl : List Sl) (e : Ending) (w' : World) : Prop := ∃ g, w.heap.size = g ∧ e = .returned (.slice (some ⟨g, 0, none⟩) sl.length sl.length) ∧ SIn w' (Nw w.heap.size w') sl (some ⟨g, 0, none⟩) ∧ Below w.heap.size w w'
theorem totS_mem : ∀ {sl : List Sl} {j : Nat} {t : Sl}, sl[j]? = some t → tot t.val ≤ totS sl
  | [], j, _, h => by simp at h
  | t0 :: sl, 0, t, h => by
    obtain rfl : t0 = t := by simpa using h
    rw [totS]; omega
  | t0 :: sl, j + 1, t, h => by
    have := totS_mem (sl := sl) (j := j) (t := t) (by simpa using h)
    rw [totS]; omega

set_option maxRecDepth 100000 in
set_option maxHeartbeats 1600000 in
theorem cpSlots (sl : List Sl) (hT : sl.length + totS sl ≤ 1048576) (A : Option Addr) (c : Nat) (w : World) (S : Nat → Prop) (h : SIn w S sl A) :
    Calls Tryz.prog 74 #[.slice A sl.length c] w (SlsQ w sl) := by
  obtain ⟨L, HL⟩ : ∃ L, Hid (L = sl.length) := ⟨_, Lib.hid rfl⟩
  have hm : L ≤ 1048576 := by rw [HL.out]; omega
  obtain ⟨i0, hi, hz⟩ := is_info
  have hmk := run_make (P := Tryz.prog) w 25 IS i0 _ Tryz.underlying25 hi hz.1 .i64 .i64 L L (by omega) (Int.le_refl _) (by rw [hz.2.2]; omega) (by omega)
  rw [hz.2.1] at hmk
  simp only [Int.toNat_natCast] at hmk
  have HA0 := Lib.hid h
  have HTT := Lib.hid hT
  clear hi hz h hT
  unfold SlsQ
  rw [← HL.out]
  obtain ⟨arr0, HA⟩ : ∃ a, Hid (a = madeCells (Value.agg #[.bool false, .int .i64 0, .string ⟨#[]⟩, .int .i64 0, .int .i64 0, .string ⟨#[]⟩, .int .i64 0, .slice none 0 0, .bool false, .int .i64 0]).cells (L * 10)) := ⟨_, Lib.hid rfl⟩
  rw [← HA.out] at hmk
  go_enter Tryz.func74, Tryz.ntmps74
  go_wp2_with (fail)
  clear hmk
  go_loopg [4] (L + 1) (fun gk i wr => ∃ j : Nat, i = .int .i64 j ∧ gk + j = L + 1 ∧ j ≤ L ∧ LaidS wr w.heap.size L j sl ∧ Below w.heap.size w wr)
  case atStart => exact ⟨0, rfl, by omega, by omega, ⟨arr0, heap_alloc_new _ _, by rw [HA.out, madeSize], fun i t _ hi => absurd hi (by omega)⟩, b1 _ _⟩
  case round =>
    obtain ⟨j, rfl, hgj, hjL, hla, hb⟩ := hrel
    have HB := Lib.hid hb
    have HLa := Lib.hid hla
    clear hb hla
    by_cases hlt : j < L
    · obtain ⟨t, ht⟩ : ∃ t, sl[j]? = some t := ⟨_, List.getElem?_eq_getElem (by rw [← HL.out]; exact hlt)⟩
      obtain ⟨a, k, n, s, x, ks', vs', A1, c1, rfl, -, hk, hl, hv, hT, hcell⟩ := HA0.out.below HB.out j t ht
      have htj := totS_mem ht
      obtain ⟨y, tv, lb, ll⟩ := t
      simp only at hk hl hv hT hcell htj
      have ihj : ∀ w', Below wr.heap.size wr w' → Calls Tryz.prog 34 #[vV k n s x A1 vs'.length c1] w' (CpQ w' tv) := fun w' hb' => cps tv (by have := HTT.out; omega) w' S _ (hT.below' hb')
      subst hv
      have HTJ := Lib.hid ht
      have HKK := Lib.hid hk
      have HLL := Lib.hid hl
      clear ht hT htj hk hl
      obtain ⟨p0, p1, p2, p3, p4, p5, p6, p7, p8, p9⟩ := hcell
      go_wp2_with (fail)
      refine (cpSlot y _ k n s x A1 vs'.length c1 lb ll _ ihj).mono ?_
      rintro e w1 ⟨v, rfl, hv, hb1⟩
      obtain ⟨A2, c2, rfl, -, -⟩ := hv.out
      have HV := Lib.hid hv
      have HB1 := Lib.hid hb1
      obtain ⟨arr, hg0, hs, -⟩ := HLa.out
      have glt : w.heap.size < wr.heap.size := (Array.getElem?_eq_some_iff.1 hg0).1
      have hg1 := (hb1.block _ glt).trans hg0
      obtain ⟨r1, f1⟩ := rowc hg1
      have z : ∀ q, q < 10 → ∃ u, w1.cell? ⟨w.heap.size, j * 10 + q, none⟩ = some u := fun q hq => ⟨_, (r1 _).trans (Array.getElem?_eq_getElem (by omega))⟩
      obtain ⟨u0, z0⟩ := z 0 (by omega)
      obtain ⟨u1, z1⟩ := z 1 (by omega)
      obtain ⟨u2, z2⟩ := z 2 (by omega)
      obtain ⟨u3, z3⟩ := z 3 (by omega)
      obtain ⟨u4, z4⟩ := z 4 (by omega)
      obtain ⟨u5, z5⟩ := z 5 (by omega)
      obtain ⟨u6, z6⟩ := z 6 (by omega)
      obtain ⟨u7, z7⟩ := z 7 (by omega)
      obtain ⟨u8, z8⟩ := z 8 (by omega)
      obtain ⟨u9, z9⟩ := z 9 (by omega)
      rw [Nat.add_zero] at z0
      clear hv hb1 hg0 hg1 hs r1 z
      have eS : slV y (vV k n s x A2 vs'.length c2) lb ll = .agg #[.bool y.text, .int .i64 y.num, .string y.str, .int .i64 k, .int .i64 n, .string s, .int .i64 x, .slice A2 vs'.length c2, .bool lb, .int .i64 ll] := rfl
      rw [eS]
      clear eS
      go_wp2_with (fail)
      go_roundg (L - j)
      case rel =>
        refine ⟨j + 1, by go_num, by omega, by omega, HLa.out.step HB1.out HTJ.out rfl HV.out HKK.out HLL.out hlt (fun arr hg => ?_) (fun b hb => ?_), ?_⟩
        · exact set_heap (set_heap (set_heap (set_heap (set_heap (set_heap (set_heap (set_heap (set_heap (set_heap hg _ _) _ _) _ _) _ _) _ _) _ _) _ _) _ _) _ _) _ _
        · simp only [set_other hb]
        · have hB := bs HB.out HB1.out
          iterate 10 refine Below.setCell ?_ (by first | (simp; done) | (simp; omega)) _
          exact hB
      case measure => omega
    · obtain rfl : j = L := by omega
      go_wp2_with (fail)
      go_ret
      exact ⟨_, rfl, rfl, HLa.out.done HL.out.symm, HB.out⟩

end Go.Proofs.YtplfekpagonbbaaGreatDoor.tree

