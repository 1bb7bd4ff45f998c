/-
  For all bytes the law FnOperators returns true: quotient and remainder give the dividend back, sums are undone, and each relation is the opposite of another one; an error has a name.
  Conditions: the argument is of Go's type; the package variables that the row lists hold what the program's text lays, and the card ties that to the text.
-/
import Derived.Test.YtdglmnmalfpipaaGreatDoorRows
import Derived.Test.YtdglmnmalfpipaaGreatDoorCards
import Derived.Test.YtdglmnmalfpipaaGreatDoorTie
import Derived.LaidMore
import Derived.LaidHandle
import Derived.Stop.Joined
import Derived.SevenTiedAt
import Derived.Stop.LaidErr
import Derived.SizedLaws
import Derived.Deep.RegionWith
import Derived.Deep.RegionHeld3
import Derived.Deep.DeepCutAuto
import Derived.BigQuiet
import Derived.Deep.QuietTactic
import Derived.WalkKit
import Derived.ProofKit
import Derived.OpenShut
import Derived.Test.YtdglmnmalfpipaaGreatDoorVB3
import Derived.Test.YtdglmnmalfpipaaGreatDoorVSBinOI
import Derived.Test.YtdglmnmalfpipaaGreatDoorVB14
import Derived.Test.YtdglmnmalfpipaaGreatDoorVB19
import Derived.Test.YtdglmnmalfpipaaGreatDoorVB1
namespace Go.Proofs.YtdglmnmalfpipaaGreatDoor.fnOperators
open Go.ChangeShapes Go.WideShapes Go.ChangeAt Go.RowKit mem tree ers
open Go.ChangeMaps (open_string)
set_option linter.unusedVariables false

theorem own : ownKnob Tryz.prog.godebug = none := by kernel_rfl

theorem bigNo (A : Option Addr) (n c : Nat) (h : (n : Int) ≤ 1048576) (w : World) :
    Calls Tryz.prog 11 #[.slice A n c] w fun e w' => e = .returned (.bool false) ∧ w = w' := by
  have hd : decide ((1048576 : Int) < (n : Int)) = false := by rw [decide_eq_false_iff_not]; omega
  go_enter Tryz.func11, Tryz.ntmps11
  go_wp2
  go_ret
  exact ⟨rfl, rfl⟩
def CutY (W : World) (b : Bool) (v : Value) (wx : World) : Prop := v = .bool b ∧ Below W.heap.size W wx
def TwoQ (a b : Int) (w : World) (e : Ending) (w' : World) : Prop := e = .returned (.tuple #[.int .i64 a, .int .i64 b]) ∧ Below w.heap.size w w'
theorem two_of {op a b x y : Int} (h : ari.arT op a b = (x, y)) (w : World) : Calls Tryz.prog 35 #[.int .i64 op, .int .i64 a, .int .i64 b] w (TwoQ x y w) := by
  have := ari.arith_i op a b w
  rw [h] at this
  exact this
/-- What an operator gives in all: a value, and its code. -/
def ValQ (w : World) (e : Ending) (w' : World) : Prop := ∃ (K N : Int) (Z : ByteArray) (X : Int) (RA : Option Addr) (RL rc : Nat) (cd : Int), e = .returned (.tuple #[vV K N Z X RA RL rc, .int .i64 cd]) ∧ (cd = 0 ∨ ((cd = 1 ∨ cd = 2 ∨ cd = 3 ∨ cd = 4 ∨ cd = 9) ∧ K = 0)) ∧ Below w.heap.size w w'
theorem val_of {w w' : World} {op : Int} {t u : Tr} {e : Ending} (h : OutPC w (binT op t u) (binC op t u) e w') : ValQ w e w' := by
  obtain ⟨v, par, R, he, hp, -, hb⟩ := h
  have hc := bin_code op t u
  generalize binT op t u = r at *
  obtain ⟨k, n, s, x, ks, vs⟩ := r
  obtain ⟨A, c, rfl, -⟩ := hp.out
  refine ⟨k, n, s, x, A, vs.length, c, _, he, ?_, hb⟩
  rcases hc with h | ⟨h, _, _, _, _, _, hk⟩
  · exact .inl h
  · exact .inr ⟨h, by injection hk⟩
def NumQ (n : Int) (w : World) (e : Ending) (w' : World) : Prop := ∃ (A : Option Addr) (c : Nat) (z : Int), e = .returned (.tuple #[vV 1 n ⟨#[]⟩ 0 A 0 c, .int .i64 z]) ∧ Below w.heap.size w w'
theorem num_of {w w' : World} {op n : Int} {t u : Tr} {e : Ending} (h : OutPC w (binT op t u) (binC op t u) e w') (hn : binT op t u = .mk 1 n ⟨#[]⟩ 0 [] []) : NumQ n w e w' := by
  obtain ⟨v, par, R, he, hp, -, hb⟩ := h
  rw [hn] at hp
  obtain ⟨A, c, rfl, -⟩ := hp.out
  exact ⟨A, c, _, he, hb⟩

set_option maxHeartbeats 8000000 in
set_option maxRecDepth 100000 in
theorem walk (A0 : Option Addr) (n0 c0 : Nat) (l0 : List Int) (w : World) (hn0 : n0 ≤ maxLen) (hr0 : Rd w A0 n0 l0) (hE : OpE w ∧ errs.Tab w) :
    Calls Tryz.prog 6 #[.slice A0 n0 c0] w fun e w' => e = .returned (.bool true) ∧ Below w.heap.size w w' := by
  unfold maxLen at hn0
  by_cases hbig : (1048576 : Int) < (n0 : Int)
  · go_enter Tryz.func6, Tryz.ntmps6
    go_wp2
    go_ret
    exact ⟨rfl, Below.refl _ _⟩
  have HA := Lib.hid hr0
  have HE := Lib.hid hE
  clear hr0 hE
  go_enter Tryz.func6, Tryz.ntmps6
  go_wp2_with (go_at_call 11; refine (bigNo A0 n0 c0 (by omega) _).mono ?_; rintro e w0 ⟨rfl, rfl⟩)
  refine (draw.drawArith A0 n0 c0 (by omega) _ (draw.code_of_rd HA.out)).mono ?_
  rintro e w1 ⟨x, a, b, rfl, hb1⟩
  obtain ⟨q, cq, r, cr, e4, e5, HDM⟩ : ∃ q cq r cr : Int, ari.arT 4 a b = (q, cq) ∧ ari.arT 5 a b = (r, cr) ∧ Hid ((∃ m rr bb : Int, cq = 0 ∧ cr = 0 ∧ q * b = m ∧ m + r = a ∧ r * r = rr ∧ b * b = bb ∧ rr < bb ∧ (-1000000000 ≤ r ∧ r ≤ 1000000000) ∧ (-1000000000000000000 ≤ m ∧ m ≤ 1000000000000000000) ∧ (-1000000000000000000 ≤ rr ∧ rr ≤ 1000000000000000000) ∧ (-1000000000000000000 ≤ bb ∧ bb ≤ 1000000000000000000)) ∨ ¬ cq = 0 ∧ cr = cq) := by
    rcases div_mod a b with ⟨q, r, m, rr, bb, e4, e5, h⟩ | ⟨c, hc, e4, e5⟩
    · exact ⟨q, 0, r, 0, e4, e5, Lib.hid (.inl ⟨m, rr, bb, rfl, rfl, h⟩)⟩
    · exact ⟨0, c, 0, c, e4, e5, Lib.hid (.inr ⟨hc, rfl⟩)⟩
  obtain ⟨sm, cs, d, cd, e1, e2, has⟩ := add_sub a b
  have HAS := Lib.hid has
  have A4 := Lib.hid (two_of e4)
  have A5 := Lib.hid (two_of e5)
  have A1 := Lib.hid (two_of e1)
  have A2 := Lib.hid (two_of e2)
  have HB1 := Lib.hid hb1
  clear hb1 e4 e5 e1 e2 has
  go_wp2_with (fail)
  refine (A4.out _).mono ?_
  rintro e w2 ⟨rfl, hb2⟩
  have HB2 := Lib.hid (bs HB1.out hb2)
  clear hb2
  go_wp2_with (fail)
  refine (A5.out _).mono ?_
  rintro e w3 ⟨rfl, hb3⟩
  have HB3 := Lib.hid (bs HB2.out hb3)
  clear hb3 HB1 HB2
  go_upto_region 6 with fail
  go_cut [67] (fun v wx => CutY w3 false v wx)
  case first =>
    rcases HDM.out with ⟨m, rr, bb, rfl, rfl, hm, hmr, hrr, hbb, hlt, hr, hmb, hrb, hbb2⟩ | ⟨hc, rfl⟩
    · have hd : decide (bb ≤ rr) = false := decide_eq_false (by omega)
      go_wp2_with (fail)
      go_meet
      exact ⟨rfl, Below.refl _ _⟩
    · go_wp2_with (fail)
      go_meet
      exact ⟨rfl, Below.refl _ _⟩
  case rest =>
    obtain ⟨rfl, hbd⟩ := hcut
    have HBW := Lib.hid (bs HB3.out hbd)
    clear hbd HB3 A4 A5 HDM
    go_wp2_with (fail)
    refine (A1.out _).mono ?_
    rintro e w4 ⟨rfl, hb4⟩
    replace HBW := Lib.hid (bs HBW.out hb4)
    clear hb4
    go_wp2_with (fail)
    refine (A2.out _).mono ?_
    rintro e w5 ⟨rfl, hb5⟩
    replace HBW := Lib.hid (bs HBW.out hb5)
    clear hb5 A1 A2
    go_upto_region 10 with fail
    go_cut [90] (fun v wx => CutY w5 false v wx)
    case first =>
      by_cases hc : cs = 0
      · obtain ⟨rfl, rfl⟩ := HAS.out hc
        subst hc
        go_wp2_with (fail)
        go_meet
        exact ⟨rfl, Below.refl _ _⟩
      · go_wp2_with (fail)
        go_meet
        exact ⟨rfl, Below.refl _ _⟩
    case rest =>
      obtain ⟨rfl, hbd⟩ := hcut
      replace HBW := Lib.hid (bs HBW.out hbd)
      clear hbd HAS
      go_wp2_with (fail)
      refine (draw.drawBinary A0 n0 c0 (by omega) _ (draw.code_of_rd (HA.out.below HBW.out))).mono ?_
      rintro e w6 ⟨op, v, vu, t, u, rfl, hT, hU, ht, hu, hb6⟩
      replace HBW := Lib.hid (bs HBW.out hb6)
      have hct := cnt_tot t hT.fits
      have hcu := cnt_tot u hU.fits
      have hTN : TIn w6 (Nw 0 w6) t v := hT.stays (fun b hb => ⟨Nat.zero_le _, hb.2⟩) (fun _ _ _ => rfl)
      have hUN : TIn w6 (Nw 0 w6) u vu := hU.stays (fun b hb => ⟨Nat.zero_le _, hb.2⟩) (fun _ _ _ => rfl)
      have BI : ∀ op' w', Below w6.heap.size w6 w' → Calls Tryz.prog 37 #[.int .i64 op', v, vu] w' (OutPC w' (binT op' t u) (binC op' t u)) := fun op' w' hb => binary_i op' t u v vu w' (hTN.nwb hb) (hUN.nwb hb) (by omega) (by omega) (HE.out.1.stays (bs HBW.out hb))
      obtain ⟨n7, n8, e7, e8, hsum, hn7⟩ := eq_ne t u
      have BV : Hid (∀ w', Below w6.heap.size w6 w' → Calls Tryz.prog 37 #[.int .i64 op, v, vu] w' (ValQ w')) := Lib.hid (fun w' hb => (BI op w' hb).mono fun e w'' h => val_of h)
      have B7 : Hid (∀ w', Below w6.heap.size w6 w' → Calls Tryz.prog 37 #[.int .i64 7, v, vu] w' (NumQ n7 w')) := Lib.hid (fun w' hb => (BI 7 w' hb).mono fun e w'' h => num_of h e7)
      have B8 : Hid (∀ w', Below w6.heap.size w6 w' → Calls Tryz.prog 37 #[.int .i64 8, v, vu] w' (NumQ n8 w')) := Lib.hid (fun w' hb => (BI 8 w' hb).mono fun e w'' h => num_of h e8)
      have HSM := Lib.hid (And.intro hsum hn7)
      obtain ⟨k, n, s, x, ks, vs⟩ := t
      obtain ⟨k', n', s', x', ks', vs'⟩ := u
      obtain ⟨A, c, rfl, -, -⟩ := hTN.out
      obtain ⟨A', c', rfl, -, -⟩ := hUN.out
      obtain ⟨L, HL⟩ : ∃ L, Hid (vs.length = L) := ⟨_, Lib.hid rfl⟩
      obtain ⟨L', HL'⟩ : ∃ L, Hid (vs'.length = L) := ⟨_, Lib.hid rfl⟩
      rw [HL.out, HL'.out] at BV B7 B8 ⊢
      obtain ⟨P, HP⟩ : ∃ P, Hid (w6.heap.size = P) := ⟨_, Lib.hid rfl⟩
      clear hT hU ht hu hb6 hct hcu hTN hUN BI e7 e8 hsum hn7
      go_upto_region 13 with fail
      rw [HP.out]
      generalize hw7 : (w6.alloc (.cells #[.int .i64 k, .int .i64 n, .string s, .int .i64 x, .slice A L c] IV)).alloc (.cells #[.int .i64 k', .int .i64 n', .string s', .int .i64 x', .slice A' L' c'] IV) = w7
      have E0 : Hid (w7.heap[P]? = some (.cells #[.int .i64 k, .int .i64 n, .string s, .int .i64 x, .slice A L c] IV (0, 0))) := Lib.hid (by rw [← hw7, ← HP.out]; exact heap_alloc2_old w6 _ _)
      have E1 : Hid (w7.heap[P + 1]? = some (.cells #[.int .i64 k', .int .i64 n', .string s', .int .i64 x', .slice A' L' c'] IV (0, 0))) := Lib.hid (by rw [← hw7, ← HP.out]; exact heap_alloc2_new w6 _ _)
      have HB6 : Hid (Below w6.heap.size w6 w7) := Lib.hid (hw7 ▸ b2 w6 _ _)
      clear hw7
      obtain ⟨r0, f0⟩ := rowc E0.out
      obtain ⟨r1, f1⟩ := rowc E1.out
      go_wp2_with (fail)
      refine (BV.out _ HB6.out).mono ?_
      rintro e w8 ⟨K, N, Z, X, RA, RL, rc, cd, rfl, hcd, hb8⟩
      have HCD := Lib.hid hcd
      replace E0 := Lib.hid (carry hb8 E0.out)
      replace E1 := Lib.hid (carry hb8 E1.out)
      replace HB6 := Lib.hid (bs HB6.out hb8)
      obtain ⟨Q, HQ⟩ : ∃ Q, Hid (w8.heap.size = Q) := ⟨_, Lib.hid rfl⟩
      clear r0 f0 r1 f1 hcd hb8 BV
      go_upto_region 14 with fail
      rw [HQ.out]
      generalize hw9 : w8.alloc (.cells #[.int .i64 K, .int .i64 N, .string Z, .int .i64 X, .slice RA RL rc] IV) = w9
      have hb9 : Below w8.heap.size w8 w9 := hw9 ▸ b1 w8 _
      have E2 : Hid (w9.heap[Q]? = some (.cells #[.int .i64 K, .int .i64 N, .string Z, .int .i64 X, .slice RA RL rc] IV (0, 0))) := Lib.hid (by rw [← hw9, ← HQ.out]; exact heap_alloc_new w8 _)
      replace E0 := Lib.hid (carry hb9 E0.out)
      replace E1 := Lib.hid (carry hb9 E1.out)
      replace HB6 := Lib.hid (bs HB6.out hb9)
      clear hw9 hb9 HQ
      obtain ⟨r0, f0⟩ := rowc E0.out
      obtain ⟨r1, f1⟩ := rowc E1.out
      go_wp2_with (fail)
      refine (B7.out _ HB6.out).mono ?_
      rintro e w10 ⟨A7, c7, z7, rfl, hb10⟩
      replace E0 := Lib.hid (carry hb10 E0.out)
      replace E1 := Lib.hid (carry hb10 E1.out)
      replace E2 := Lib.hid (carry hb10 E2.out)
      replace HB6 := Lib.hid (bs HB6.out hb10)
      obtain ⟨R, HR⟩ : ∃ Q, Hid (w10.heap.size = Q) := ⟨_, Lib.hid rfl⟩
      clear r0 f0 r1 f1 hb10 B7
      go_upto_region 15 with fail
      rw [HR.out]
      generalize hw11 : w10.alloc (.cells #[.int .i64 1, .int .i64 n7, .string ⟨#[]⟩, .int .i64 0, .slice A7 0 c7] IV) = w11
      have hb11 : Below w10.heap.size w10 w11 := hw11 ▸ b1 w10 _
      have E3 : Hid (w11.heap[R]? = some (.cells #[.int .i64 1, .int .i64 n7, .string ⟨#[]⟩, .int .i64 0, .slice A7 0 c7] IV (0, 0))) := Lib.hid (by rw [← hw11, ← HR.out]; exact heap_alloc_new w10 _)
      replace E0 := Lib.hid (carry hb11 E0.out)
      replace E1 := Lib.hid (carry hb11 E1.out)
      replace E2 := Lib.hid (carry hb11 E2.out)
      replace HB6 := Lib.hid (bs HB6.out hb11)
      clear hw11 hb11 HR
      obtain ⟨r0, f0⟩ := rowc E0.out
      obtain ⟨r1, f1⟩ := rowc E1.out
      go_wp2_with (fail)
      refine (B8.out _ HB6.out).mono ?_
      rintro e w12 ⟨A8, c8, z8, rfl, hb12⟩
      replace E2 := Lib.hid (carry hb12 E2.out)
      replace E3 := Lib.hid (carry hb12 E3.out)
      replace HB6 := Lib.hid (bs HB6.out hb12)
      obtain ⟨U, HU⟩ : ∃ Q, Hid (w12.heap.size = Q) := ⟨_, Lib.hid rfl⟩
      clear r0 f0 r1 f1 hb12 B8 E0 E1
      go_upto_region 16 with fail
      rw [HU.out]
      generalize hw13 : w12.alloc (.cells #[.int .i64 1, .int .i64 n8, .string ⟨#[]⟩, .int .i64 0, .slice A8 0 c8] IV) = w13
      have hb13 : Below w12.heap.size w12 w13 := hw13 ▸ b1 w12 _
      have E4 : Hid (w13.heap[U]? = some (.cells #[.int .i64 1, .int .i64 n8, .string ⟨#[]⟩, .int .i64 0, .slice A8 0 c8] IV (0, 0))) := Lib.hid (by rw [← hw13, ← HU.out]; exact heap_alloc_new w12 _)
      replace E2 := Lib.hid (carry hb13 E2.out)
      replace E3 := Lib.hid (carry hb13 E3.out)
      replace HB6 := Lib.hid (bs HB6.out hb13)
      have ET : Hid (errs.Tab w13) := Lib.hid (HE.out.2.stays (bs HBW.out HB6.out))
      have HBF := Lib.hid (bs HBW.out HB6.out)
      clear hw13 hb13 HU HE HBW HB6
      obtain ⟨hsum, hn7⟩ := HSM.out
      rcases HCD.out with rfl | ⟨hcd, rfl⟩
      · obtain ⟨m3, -⟩ := rowc E3.out
        obtain ⟨m4, -⟩ := rowc E4.out
        go_wp2_with (fail)
        go_ret
        exact ⟨rfl, HBF.out⟩
      · obtain ⟨m2, -⟩ := rowc E2.out
        have EN : ∀ nm, errs.nameOf cd = nm → Calls Tryz.prog 38 #[.int .i64 cd] w13 fun e w' => e = .returned (.string nm) ∧ Below w13.heap.size w13 w' := fun nm h => h ▸ errs.errorName_i cd w13 ET.out
        rcases hcd with rfl | rfl | rfl | rfl | rfl
        · have EM := Lib.hid (EN ⟨#[116, 101, 120, 116]⟩ rfl)
          clear EN
          go_wp2_with (fail)
          refine EM.out.mono ?_
          rintro e w14 ⟨rfl, hb14⟩
          obtain ⟨m3, -⟩ := rowc (carry hb14 E3.out)
          obtain ⟨m4, -⟩ := rowc (carry hb14 E4.out)
          replace HBF := Lib.hid (bs HBF.out hb14)
          clear hb14 m2 EM
          go_wp2_with (fail)
          go_ret
          exact ⟨rfl, HBF.out⟩
        · have EM := Lib.hid (EN ⟨#[110, 117, 109, 98, 101, 114]⟩ rfl)
          clear EN
          go_wp2_with (fail)
          refine EM.out.mono ?_
          rintro e w14 ⟨rfl, hb14⟩
          obtain ⟨m3, -⟩ := rowc (carry hb14 E3.out)
          obtain ⟨m4, -⟩ := rowc (carry hb14 E4.out)
          replace HBF := Lib.hid (bs HBF.out hb14)
          clear hb14 m2 EM
          go_wp2_with (fail)
          go_ret
          exact ⟨rfl, HBF.out⟩
        · have EM := Lib.hid (EN ⟨#[111, 118, 101, 114, 102, 108, 111, 119]⟩ rfl)
          clear EN
          go_wp2_with (fail)
          refine EM.out.mono ?_
          rintro e w14 ⟨rfl, hb14⟩
          obtain ⟨m3, -⟩ := rowc (carry hb14 E3.out)
          obtain ⟨m4, -⟩ := rowc (carry hb14 E4.out)
          replace HBF := Lib.hid (bs HBF.out hb14)
          clear hb14 m2 EM
          go_wp2_with (fail)
          go_ret
          exact ⟨rfl, HBF.out⟩
        · have EM := Lib.hid (EN ⟨#[122, 101, 114, 111]⟩ rfl)
          clear EN
          go_wp2_with (fail)
          refine EM.out.mono ?_
          rintro e w14 ⟨rfl, hb14⟩
          obtain ⟨m3, -⟩ := rowc (carry hb14 E3.out)
          obtain ⟨m4, -⟩ := rowc (carry hb14 E4.out)
          replace HBF := Lib.hid (bs HBF.out hb14)
          clear hb14 m2 EM
          go_wp2_with (fail)
          go_ret
          exact ⟨rfl, HBF.out⟩
        · have EM := Lib.hid (EN ⟨#[109, 101, 109, 111, 114, 121]⟩ rfl)
          clear EN
          go_wp2_with (fail)
          refine EM.out.mono ?_
          rintro e w14 ⟨rfl, hb14⟩
          obtain ⟨m3, -⟩ := rowc (carry hb14 E3.out)
          obtain ⟨m4, -⟩ := rowc (carry hb14 E4.out)
          replace HBF := Lib.hid (bs HBF.out hb14)
          clear hb14 m2 EM
          go_wp2_with (fail)
          go_ret
          exact ⟨rfl, HBF.out⟩

end Go.Proofs.YtdglmnmalfpipaaGreatDoor.fnOperators

