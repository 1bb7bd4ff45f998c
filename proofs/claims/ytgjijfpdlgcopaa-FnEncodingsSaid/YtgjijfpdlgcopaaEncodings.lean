/-
  For all bytes the law FnEncodings returns true: numbers and texts are read from their encodings, and what is behind them stays; the bytes read as before.
  Conditions: none but that the argument is of Go's type slice of bytes.
-/
import Derived.Test.YtgjijfpdlgcopaaRows
import Derived.WalkKit
import Derived.ProofKit
import Derived.OpenShut
import Derived.Test.YtgjijfpdlgcopaaRds
import Derived.Test.YtgjijfpdlgcopaaDrawBytes
import Derived.Test.YtgjijfpdlgcopaaOpen
namespace Go.Proofs.Ytgjijfpdlgcopaa.fnEncodings
open Go.ChangeShapes Go.WideShapes Go.ChangeAt Go.RowKit mem byt rdu rds
set_option linter.unusedVariables false

theorem own : ownKnob Try.prog.godebug = none := by kernel_rfl

theorem bigNo (A : Option Addr) (n c : Nat) (h : (n : Int) ≤ 1048576) (w : World) :
    Calls Try.prog 10 #[.slice A n c] w fun e w' => e = .returned (.bool false) ∧ w = w' := by
  have hd : decide ((1048576 : Int) < (n : Int)) = false := by rw [decide_eq_false_iff_not]; omega
  go_enter Try.func10, Try.ntmps10
  go_wp2
  go_ret
  exact ⟨rfl, rfl⟩

/-- What is read behind an own slice to which a number was appended. -/
theorem read_uva {l : List Int} {n m : Nat} {k x y : Int} {b : Bool} (hn : l.length = n) (hm : (l ++ enc.uva k).length = m) (h : enc.rdu (l ++ enc.uva k ++ [9]) (n : Int) = (x, y, b)) :
    (0 ≤ k ∧ k ≤ 1000000000000 ∧ x = k ∧ y = (m : Int) ∧ b = true) ∨ k < 0 ∨ (0 ≤ k ∧ 1000000000000 < k) := by
  by_cases hk : 0 ≤ k ∧ k ≤ 1000000000000
  · left
    rw [uva.uva_in hk] at h hm
    rw [← hn, enc.rdu_enc l [9] k hk.1 hk.2, hm] at h
    obtain ⟨rfl, h2⟩ := Prod.mk.inj h
    obtain ⟨rfl, rfl⟩ := Prod.mk.inj h2
    exact ⟨hk.1, hk.2, rfl, rfl, rfl⟩
  · right
    omega
theorem read_sig {l : List Int} {n m : Nat} {k x y : Int} {b : Bool} (hn : l.length = n) (hm : (l ++ enc.sig k).length = m) (h : enc.rds (l ++ enc.sig k) (n : Int) = (x, y, b)) :
    (-1000000000 ≤ k ∧ k ≤ 1000000000 ∧ x = k ∧ y = (m : Int) ∧ b = true) ∨ k < -1000000000 ∨ (-1000000000 ≤ k ∧ 1000000000 < k) := by
  by_cases hk : -1000000000 ≤ k ∧ k ≤ 1000000000
  · left
    rw [← hn, enc.rds_sig l k hk.1 hk.2, hm] at h
    obtain ⟨rfl, h2⟩ := Prod.mk.inj h
    obtain ⟨rfl, rfl⟩ := Prod.mk.inj h2
    exact ⟨hk.1, hk.2, rfl, rfl, rfl⟩
  · right
    omega
theorem read_txt {l : List Int} {n m : Nat} {s : ByteArray} (hn : l.length = n) (hs : s.size ≤ 1000) (hm : (l ++ enc.enc (s.size : Int) ++ txt s).length = m) :
    enc.rdt (l ++ enc.enc (s.size : Int) ++ txt s) (n : Int) (s.size : Int) = (txt s, (m : Int), true) ∧ enc.rdt (l ++ enc.enc (s.size : Int) ++ txt s) (n : Int) ((s.size : Int) - 1) = ([], 0, false) := by
  have ht := txt_len s
  have h := enc.rdt_text l (txt s) (by omega)
  rw [ht, hn, hm] at h
  exact ⟨by rw [h, if_pos (by omega)], by rw [h, if_neg (by omega)]⟩

set_option maxHeartbeats 8000000 in
set_option maxRecDepth 100000 in
theorem walk (A : Option Addr) (n c : Nat) (l : List Int) (w : World) (hn : n ≤ maxLen) (hA : Rd w A n l) :
    Calls Try.prog 3 #[.slice A n c] w fun e w' => e = .returned (.bool true) ∧ Below w.heap.size w w' := by
  unfold maxLen at hn
  by_cases hbig : (1048576 : Int) < (n : Int)
  · go_enter Try.func3, Try.ntmps3
    go_wp2
    go_ret
    exact ⟨rfl, Below.refl _ _⟩
  obtain ⟨i0, hi, hz0, hz1, hz2⟩ := info_parts u8row
  have HA := Lib.hid hA; clear hA
  go_enter Try.func3, Try.ntmps3
  go_wp2_with (go_at_call 10; refine (bigNo A n c (by omega) _).mono ?_; rintro e w0 ⟨rfl, rfl⟩)
  refine (draw.drawAppendUvarint A n c (by omega) _ (draw.code_of_rd HA.out)).mono ?_
  rintro e w1 ⟨AB, nb, cb, lb, k, rfl, hnb, ho, k0, k1, hb⟩
  have HB1 := Lib.hid hb; have HB := Lib.hid ho; have HL := Lib.hid ho.len; clear hb ho
  go_wp2_with (fail)
  refine (uva.implUva AB nb cb lb k (by omega) _ HB.out.rd).mono ?_
  rintro e w2 ⟨AX, nx, cx, rfl, ho, hg⟩
  have hnx : nx ≤ 8 := by
    have h1 := ho.len
    have h2 := enc.uva_len k
    rw [List.length_append, HL.out] at h1
    omega
  have HB2 := Lib.hid (below_next HB1.out hg); have HX := Lib.hid ho; clear ho hg
  go_wp2_with (at_builtin; refine append_rd rfl (.tmp 35) (.tmp 36) _ rfl i0 Try.underlying22 hi hz0 hz1 hz2 w2.heap.size _ _ _ _ rfl (own_none w2 _ (Nat.le_refl _)) AX nx cx _ rfl (HX.out.rd.alloc _) (by omega) (by simp) ?_)
  intro A3 c3 w3 ho3 hb3
  have HB3 := Lib.hid ((Joins.below_alloc1 w2 _).trans hb3); have H3 := Lib.hid ho3; clear ho3 hb3
  go_wp2_with (at_builtin; refine append_rd rfl (.tmp 37) (.tmp 38) _ rfl i0 Try.underlying22 hi hz0 hz1 hz2 w2.heap.size _ _ _ _ rfl (H3.out.alloc _) _ 1 1 [9] rfl (rd_one _ _ (by omega) (by omega) _) (by omega) (by have := HB3.out.size; simp; omega) ?_)
  intro A4 c4 w4 ho4 hb4
  have HB4 := Lib.hid (HB2.out.trans (((HB3.out.alloc HB3.out.size _).trans hb4).mono HB2.out.size)); have H4 := Lib.hid ho4; clear ho4 hb4
  have h4 : Own w4 w2.heap.size A4 (nx + 1) c4 (lb ++ enc.uva k ++ [9]) := by simpa using H4.out
  have HS4 := Lib.hid (sl_own h4); clear h4
  generalize hr : enc.rdu (lb ++ enc.uva k ++ [9]) (nb : Int) = r
  obtain ⟨x, y, ok⟩ := r
  have HR := Lib.hid hr
  have hcase := read_uva HL.out HX.out.len hr
  clear hr
  go_wp2_with (fail)
  refine (implRdu A4 (nx + 1) c4 _ (nb : Int) (by omega) _ HS4.out).mono ?_
  rintro e w5 ⟨rfl, rfl⟩
  rw [HR.out]
  unfold three
  rcases hcase with ⟨ka, kb, rfl, rfl, rfl⟩ | ka | ⟨ka, kb⟩
  all_goals
    go_wp2_with (fail)
    refine (draw.drawAppendSigned A n c (by omega) _ (draw.code_of_rd (HA.out.below HB4.out))).mono ?_
    rintro e w6 ⟨AC, nc, cc, lc, j, rfl, hnc, ho, j0, j1, hb⟩
    have HB6 := Lib.hid (HB4.out.trans (hb.mono HB4.out.size)); have HC := Lib.hid ho; have HLC := Lib.hid ho.len; clear hb ho
    go_wp2_with (fail)
    refine (uva.implSig AC nc cc lc j (by omega) _ HC.out.rd).mono ?_
    rintro e w7 ⟨AY, ny, cy, rfl, ho, hg⟩
    have hny : ny ≤ 8 := by
      have h1 := ho.len
      have h2 := enc.sig_len j
      rw [List.length_append, HLC.out] at h1
      omega
    have HB7 := Lib.hid (below_next HB6.out hg); have HY := Lib.hid (sl_own ho)
    generalize hr2 : enc.rds (lc ++ enc.sig j) (nc : Int) = r2
    obtain ⟨x2, y2, ok2⟩ := r2
    have HR2 := Lib.hid hr2
    have hcase2 := read_sig HLC.out ho.len hr2
    clear hr2 ho hg
    go_wp2_with (fail)
    refine (implRds AY ny cy _ (nc : Int) (by omega) _ HY.out).mono ?_
    rintro e w8 ⟨rfl, rfl⟩
    rw [HR2.out]
    unfold three
    rcases hcase2 with ⟨ja, jb, rfl, rfl, rfl⟩ | ja | ⟨ja, jb⟩
    all_goals
      go_wp2_with (fail)
      refine (draw.drawAppendText A n c (by omega) _ (draw.code_of_rd (HA.out.below HB7.out))).mono ?_
      rintro e w9 ⟨AD, nd, cd, ld, s, rfl, hnd, hs5, ho, hb⟩
      have HB9 := Lib.hid (HB7.out.trans (hb.mono HB7.out.size)); have HD := Lib.hid ho; have HLD := Lib.hid ho.len; clear hb ho
      go_wp2_with (fail)
      refine (uva.implTxt AD nd cd ld s (by omega) (by omega) _ HD.out.rd).mono ?_
      rintro e w10 ⟨AZ, nz, cz, rfl, ho, hg⟩
      have hnz : nz ≤ 20 := by
        have h1 := ho.len
        have h2 := (enc.enc_len (s.size : Int)).2
        have h3 := txt_len s
        rw [List.length_append, List.length_append, HLD.out, h3] at h1
        omega
      have hrd := read_txt HLD.out (by omega) ho.len
      have HRA := Lib.hid hrd.1; have HRB := Lib.hid hrd.2
      have HB10 := Lib.hid (below_next HB9.out hg); have HZ := Lib.hid (sl_own ho)
      clear hrd ho hg
      go_wp2_with (fail)
      refine (implRdt AZ nz cz _ (nd : Int) _ (by omega) _ HZ.out).mono ?_
      rintro e w11 ⟨rfl, rfl⟩
      rw [HRA.out, strOf_txt]
      go_wp2_with (fail)
      refine (implRdt AZ nz cz _ (nd : Int) _ (by omega) _ HZ.out).mono ?_
      rintro e w12 ⟨rfl, rfl⟩
      rw [HRB.out]
      go_wp2
      go_ret
      exact ⟨rfl, HB10.out⟩

set_option maxRecDepth 100000 in
theorem lifted (os : Os) (started : os.Started) (H : Type) (enc : TypeId × Value → H) :
    ReturnsInHanded {} Try.checked os 3 .any (Rows.fnEncodingsSpec.pre6 enc Try.prog Try.f3 Rows.fnEncodingsRow.domain false) (Rows.fnEncodingsSpec.post enc Try.prog Try.f3 false true false false) := by
  refine returnsInHanded_of_change (C := Try.checked) own started (by kernel_rfl) Try.func3
    (ChangeSpec.witness6 (enc := enc) (C := Try.checked) false ⟨#[], #[.slice none 0 0], []⟩ 8 (by kernel_rfl) (by kernel_rfl) (by kernel_rfl) (by kernel_rfl)) ?_
  intro W base args ds gs before hval0 hW hcnd _
  have hval : ∀ (j : Nat) t v, Try.f3.params[j]? = some t → args[j]? = some v → Value.okWide Try.prog W .any base t v := hval0
  have hW' := hW
  obtain ⟨p, q, hA0, hV, rfl, hfz, hnd⟩ := hW
  have hA : DataW.TrodAll enc Try.prog W 0 (fun _ => true) true Try.f3.params.toList args.toList ds p := hA0
  have hA2 := hA
  rw [Try.params3] at hA hval
  obtain ⟨v0, d0, rfl, rfl, h0⟩ := trodAll_one hA
  obtain ⟨rfl, rfl⟩ := trodVars_none hV
  obtain ⟨A, n, c, l, rfl, hn, hrd⟩ := opn.open_bytes Try.underlying22 Try.underlying5 (by kernel_rfl) (hval 0 22 v0 rfl rfl) h0
  clear hA0 hval0
  simp only [List.append_nil] at hW' hA2
  refine (walk A n c l W hn hrd).mono fun e W' ⟨he, hb⟩ => ?_
  subst he
  exact ⟨_, rfl, opn.post_true hW' rfl hA2 rfl rfl Try.underlying4 (by kernel_rfl) (by kernel_rfl) hb⟩

theorem over : Rows.fnEncodingsRow.holds Try.pinned (OpenSpec.ofChange Rows.fnEncodingsSpec) :=
  OpenClaim.holds_of_wide 3 Try.f3 rfl rfl rfl rfl rfl rfl rfl ⟨rfl, rfl, rfl, rfl, rfl⟩ rfl rfl rfl rfl rfl (by kernel_rfl) Try.func3 (by kernel_rfl)
    (of_decide_eq_true (by kernel_rfl)) (by unfold Func.isWrapper; first | (rw [if_pos (by decide +kernel)]; kernel_rfl) | (rw [if_neg (by decide +kernel)]; exact ⟨rfl, rfl⟩))
    (fun os started H enc _ => lifted os started H enc)

/-- The statement. -/
theorem proved : Rows.FnEncodingsSaid :=
  over
#print axioms proved
end Go.Proofs.Ytgjijfpdlgcopaa.fnEncodings
