/-
  For all bytes the law FnUnion returns true: in a union the left array keeps its items, and the right one gives those that are missing; the union is valid.
  Conditions: the argument is of Go's type; the package variables that the row lists hold what the program's text lays, and the card ties that to the text.
-/
import Derived.Test.YteoilhbidnnneaaDoorRows
import Derived.Test.YteoilhbidnnneaaDoorCards
import Derived.Test.YteoilhbidnnneaaDoorTie
import Derived.LaidMore
import Derived.LaidHandle
import Derived.Stop.Joined
import Derived.SevenTiedAt
import Derived.Stop.LaidErr
import Derived.SizedLaws
import Derived.Deep.RegionWith
import Derived.Deep.RegionHeld3
import Derived.Deep.DeepCutAuto
import Derived.BigQuiet
import Derived.Deep.QuietTactic
import Derived.WalkKit
import Derived.ProofKit
import Derived.OpenShut
import Derived.Test.YteoilhbidnnneaaDoorVB1
import Derived.Test.YteoilhbidnnneaaDoorUSUnionI
import Derived.Test.YteoilhbidnnneaaDoorUSGetK
import Derived.Test.YteoilhbidnnneaaDoorVSGetS
import Derived.Test.YteoilhbidnnneaaDoorVSValidN
import Derived.Test.YteoilhbidnnneaaDoorVSSame
import Derived.Test.YteoilhbidnnneaaDoorVSDrawUn
import Derived.Test.YteoilhbidnnneaaDoorOB1
import Derived.Test.YteoilhbidnnneaaDoorUSEnvKey
namespace Go.Proofs.YteoilhbidnnneaaDoor.fnUnion
open Go.ChangeShapes Go.WideShapes Go.ChangeAt Go.RowKit mem tree
open Go.ChangeMaps (open_string)
set_option linter.unusedVariables false

theorem own : ownKnob Tryd.prog.godebug = none := by kernel_rfl

theorem bigNo (A : Option Addr) (n c : Nat) (h : (n : Int) ≤ 1048576) (w : World) :
    Calls Tryd.prog 7 #[.slice A n c] w fun e w' => e = .returned (.bool false) ∧ w = w' := by
  have hd : decide ((1048576 : Int) < (n : Int)) = false := by rw [decide_eq_false_iff_not]; omega
  go_enter Tryd.func7, Tryd.ntmps7
  go_wp2
  go_ret
  exact ⟨rfl, rfl⟩
/-- A value of a call in a box, and a flag. -/
def CutG (w1 : World) (bb : Bool) (RT : Tr) (p f : Value) (wx : World) : Prop :=
  ∃ B K N Z X RL A c, p = .pointer (some ⟨B, 0, none⟩) ∧ f = .bool bb ∧ Below w1.heap.size w1 wx ∧ wx.heap[B]? = some (.cells #[.int .i64 K, .int .i64 N, .string Z, .int .i64 X, .slice A RL c] IV (0, 0)) ∧ TIn wx (fun _ => True) RT (vV K N Z X A RL c)
section
variable {w1 n wF : World} {bb : Bool} {K N X : Int} {Z : ByteArray} {RL c B : Nat} {RT : Tr} {A : Option Addr} {S : Nat → Prop}
theorem cutG_box (hw : Below w1.heap.size w1 n) (hv : TIn n S RT (vV K N Z X A RL c)) :
    CutG w1 bb RT (.pointer (some ⟨n.heap.size, 0, none⟩)) (.bool bb) (n.alloc (.cells #[.int .i64 K, .int .i64 N, .string Z, .int .i64 X, .slice A RL c] IV)) :=
  ⟨n.heap.size, K, N, Z, X, RL, A, c, rfl, rfl, bs hw (b1 n _), heap_alloc_new n _, (hv.below' (b1 n _)).stays (fun _ _ => trivial) (fun _ _ _ => rfl)⟩
theorem cutG_early (hw : Below w1.heap.size w1 n) (hB : w1.heap.size ≤ B) (ez : n.heap[B]? = some (.cells #[.int .i64 0, .int .i64 0, .string ⟨#[]⟩, .int .i64 0, .slice none 0 0] IV (0, 0))) (hv : TIn n S RT (vV K N Z X A RL c)) (hS : ∀ q, S q → q ≠ B)
    (hF : (((((n.setCell ⟨B, 0, none⟩ (.int .i64 K)).setCell ⟨B, 1, none⟩ (.int .i64 N)).setCell ⟨B, 2, none⟩ (.string Z)).setCell ⟨B, 3, none⟩ (.int .i64 X)).setCell ⟨B, 4, none⟩ (.slice A RL c)) = wF) :
    CutG w1 bb RT (.pointer (some ⟨B, 0, none⟩)) (.bool bb) wF := by
  obtain ⟨-, oF, bF⟩ := fill5 ez hF
  have eF : wF.heap[B]? = some (.cells #[.int .i64 K, .int .i64 N, .string Z, .int .i64 X, .slice A RL c] IV (0, 0)) := by
    rw [← hF]
    have := set_heap (set_heap (set_heap (set_heap (set_heap ez 0 (.int .i64 K)) 1 (.int .i64 N)) 2 (.string Z)) 3 (.int .i64 X)) 4 (.slice A RL c)
    simpa using this
  exact ⟨B, K, N, Z, X, RL, A, c, rfl, rfl, bF _ _ hB hw, eF, hv.stays (fun _ _ => trivial) fun b hb _ => oF b (hS b hb)⟩
end

def CutY (W : World) (b : Bool) (v : Value) (wx : World) : Prop := v = .bool b ∧ Below W.heap.size W wx

set_option maxHeartbeats 8000000 in
set_option maxRecDepth 100000 in
theorem walk (A0 : Option Addr) (n0 c0 : Nat) (l0 : List Int) (w : World) (hn0 : n0 ≤ maxLen) (hr0 : Rd w A0 n0 l0) (hE : prs.Env w) :
    Calls Tryd.prog 3 #[.slice A0 n0 c0] w fun e w' => e = .returned (.bool true) ∧ Below w.heap.size w w' := by
  unfold maxLen at hn0
  by_cases hbig : (1048576 : Int) < (n0 : Int)
  · go_enter Tryd.func3, Tryd.ntmps3
    go_wp2
    go_ret
    exact ⟨rfl, Below.refl _ _⟩
  have HA := Lib.hid hr0
  have HE := Lib.hid hE
  clear hr0 hE
  go_enter Tryd.func3, Tryd.ntmps3
  go_wp2_with (go_at_call 7; refine (bigNo A0 n0 c0 (by omega) _).mono ?_; rintro e w0 ⟨rfl, rfl⟩)
  refine (draw.drawUnion A0 n0 c0 (by omega) _ (draw.code_of_rd HA.out)).mono ?_
  rintro e w1 ⟨v, vu, t, u, rfl, hT, hU, ht, hu, hb1⟩
  have hft := hT.fits
  have hfu := hU.fits
  have hct := cnt_tot t hft
  have hcu := cnt_tot u hfu
  have hTN : TIn w1 (Nw 0 w1) t v := hT.stays (fun b hb => ⟨Nat.zero_le _, hb.2⟩) (fun _ _ _ => rfl)
  have hUN : TIn w1 (Nw 0 w1) u vu := hU.stays (fun b hb => ⟨Nat.zero_le _, hb.2⟩) (fun _ _ _ => rfl)
  have UN : Hid (∀ w', Below w1.heap.size w1 w' → Calls Tryd.prog 9 #[v, vu] w' (OutPC w' (uniR t u) (uniC t u))) := Lib.hid (fun w' hb => union_i t u v vu w' (hTN.nwb hb) (hUN.nwb hb) (by omega) (by omega) (HE.out.stays (bs hb1 hb)))
  have HTN := Lib.hid hTN
  have HUN := Lib.hid hUN
  have HB1 := Lib.hid hb1
  have HFF := Lib.hid (And.intro hft hfu)
  have HTB := Lib.hid (And.intro ht hu)
  clear hT hU hct hcu hTN hUN hb1 hft hfu ht hu HA
  obtain ⟨k, n, s, x, ks, vs⟩ := t
  obtain ⟨k', n', s', x', ks', vs'⟩ := u
  obtain ⟨A, c, rfl, -, -⟩ := HTN.out.out
  obtain ⟨A', c', rfl, -, -⟩ := HUN.out.out
  obtain ⟨L, HL⟩ : ∃ L, Hid (vs.length = L) := ⟨_, Lib.hid rfl⟩
  obtain ⟨L', HL'⟩ : ∃ L, Hid (vs'.length = L) := ⟨_, Lib.hid rfl⟩
  rw [HL.out] at HTN UN ⊢
  rw [HL'.out] at HUN UN ⊢
  obtain ⟨P, HP⟩ : ∃ P, Hid (w1.heap.size = P) := ⟨_, Lib.hid rfl⟩
  go_upto_region 4 with fail
  rw [HP.out]
  generalize hw2 : (w1.alloc (.cells #[.int .i64 k, .int .i64 n, .string s, .int .i64 x, .slice A L c] IV)).alloc (.cells #[.int .i64 k', .int .i64 n', .string s', .int .i64 x', .slice A' L' c'] IV) = w2
  have E3 : Hid (w2.heap[P]? = some (.cells #[.int .i64 k, .int .i64 n, .string s, .int .i64 x, .slice A L c] IV (0, 0))) := Lib.hid (by rw [← hw2, ← HP.out]; exact heap_alloc2_old w1 _ _)
  have E4 : Hid (w2.heap[P + 1]? = some (.cells #[.int .i64 k', .int .i64 n', .string s', .int .i64 x', .slice A' L' c'] IV (0, 0))) := Lib.hid (by rw [← hw2, ← HP.out]; exact heap_alloc2_new w1 _ _)
  have HB2 : Hid (Below w1.heap.size w1 w2) := Lib.hid (hw2 ▸ b2 w1 _ _)
  clear hw2
  obtain ⟨r3, f3⟩ := rowc E3.out
  obtain ⟨r4, f4⟩ := rowc E4.out
  go_wp2_with (fail)
  refine (UN.out _ HB2.out).mono ?_
  rintro e w3 ⟨uu, par, R, rfl, hu, hR, hb3⟩
  replace E3 := Lib.hid (carry hb3 E3.out)
  replace E4 := Lib.hid (carry hb3 E4.out)
  replace HB2 := Lib.hid (bs HB2.out hb3)
  clear r3 f3 r4 f4 hb3 hR UN
  by_cases hc : uniB (.mk k n s x ks vs) (.mk k' n' s' x' ks' vs') = true ∧ wgt (uniT (.mk k n s x ks vs) (.mk k' n' s' x' ks' vs')) ≤ 200
  case neg =>
    have hcode : ∃ cd : Int, uniC (.mk k n s x ks vs) (.mk k' n' s' x' ks' vs') = cd ∧ ¬ cd = 0 ∧ uniR (.mk k n s x ks vs) (.mk k' n' s' x' ks' vs') = nullT := by
      cases hB : uniB (.mk k n s x ks vs) (.mk k' n' s' x' ks' vs') with
      | false => exact ⟨2, (uni_not hB).1, by omega, (uni_not hB).2⟩
      | true =>
        rw [hB] at hc
        have hw : ¬ wgt (uniT (.mk k n s x ks vs) (.mk k' n' s' x' ks' vs')) ≤ 200 := fun h => hc ⟨rfl, h⟩
        exact ⟨9, (uni_big hB hw).1, by omega, (uni_big hB hw).2⟩
    obtain ⟨cd, e1, h0, e2⟩ := hcode
    rw [e2] at hu
    unfold nullT at hu
    obtain ⟨Az, cz, rfl, -⟩ := hu.out
    rw [e1]
    have HBF := Lib.hid (bs HB1.out HB2.out)
    clear hc e1 e2 hu
    go_wp2_with (fail)
    go_ret
    exact ⟨rfl, bs HBF.out (b1 _ _)⟩
  case pos =>
    obtain ⟨hB, hw⟩ := hc
    obtain ⟨e1, e2⟩ := uni_fits hB hw
    rw [e2] at hu
    rw [e1]
    have hab : (isA (.mk k n s x ks vs) = true ∧ isA (.mk k' n' s' x' ks' vs') = true) ∧ valB (.mk k n s x ks vs) = true ∧ valB (.mk k' n' s' x' ks' vs') = true := by
      unfold uniB at hB
      simpa using hB
    obtain ⟨⟨ha1, ha2⟩, hv1, hv2⟩ := hab
    obtain rfl : k = 4 := of_decide_eq_true ha1
    obtain rfl : k' = 4 := of_decide_eq_true ha2
    have hl : ks.length = vs.length := by obtain ⟨_, _, _, _, h⟩ := HTN.out.out; exact h.1
    have hl' : ks'.length = vs'.length := by obtain ⟨_, _, _, _, h⟩ := HUN.out.out; exact h.1
    have HVU := Lib.hid (uni_val hl hv1 hv2 hw)
    have UG : Hid (∀ (i : Nat) (y : Ky) (t1 : Tr), ks'[i]? = some y → vs'[i]? = some t1 → getB (uniT (.mk 4 n s x ks vs) (.mk 4 n' s' x' ks' vs')) y = true ∧ (getB (.mk 4 n s x ks vs) y = false → getR (uniT (.mk 4 n s x ks vs) (.mk 4 n' s' x' ks' vs')) y = t1)) := Lib.hid (fun i y t1 hy ht => uni_get hl hl' (val_four hv2).2.2.2 hy ht)
    have hcu := uni_cnt (.mk 4 n s x ks vs) (.mk 4 n' s' x' ks' vs')
    have htu := uni_tot (.mk 4 n s x ks vs) (.mk 4 n' s' x' ks' vs') HFF.out.1
    have hc1 := cnt_tot _ HFF.out.1
    have hc2 := cnt_tot _ HFF.out.2
    have hb := HTB.out
    have HUB : Hid (cnt (uniT (.mk 4 n s x ks vs) (.mk 4 n' s' x' ks' vs')) ≤ 10000 ∧ tot (uniT (.mk 4 n s x ks vs) (.mk 4 n' s' x' ks' vs')) ≤ 10000 ∧ cnt (.mk 4 n s x ks vs) ≤ 10000) := Lib.hid ⟨by omega, by omega, by omega⟩
    obtain ⟨X, HX⟩ : ∃ X, Hid (nums.mx x x' = X) := ⟨_, Lib.hid rfl⟩
    obtain ⟨M, HM⟩ : ∃ M, Hid ((vs ++ uv ks ks' vs').length = M) := ⟨_, Lib.hid rfl⟩
    have hLM : L ≤ M ∧ M ≤ 1000000 := by
      have h1 := HUB.out.1
      have h2 := cnts_len (vs ++ uv ks ks' vs')
      rw [uni_mk, cnt_mk'] at h1
      rw [List.length_append] at HM
      have h3 := HM.out
      have h4 := HL.out
      rw [List.length_append] at h2
      omega
    have hL1 : L' ≤ 1000000 := by
      have h2 := cnts_len vs'
      rw [cnt_mk'] at hc2
      have h4 := HL'.out
      omega
    rw [uni_mk, HX.out] at HVU UG HUB hu
    obtain ⟨Az, cz, rfl, -⟩ := hu.out
    rw [HM.out] at hu ⊢
    have HR3 := Lib.hid (hu.tin)
    clear hu hcu htu hc1 hc2 hb hB hw e1 e2 ha1 ha2 hv1 hv2 hl hl'
    go_upto_region 7 with fail
    obtain ⟨N5, HN5⟩ : ∃ N, Hid (w3.heap.size = N) := ⟨_, Lib.hid rfl⟩
    rw [HN5.out]
    generalize hw4 : w3.alloc (.cells #[.int .i64 4, .int .i64 n, .string s, .int .i64 X, .slice Az M cz] IV) = W
    have E5 : Hid (W.heap[N5]? = some (.cells #[.int .i64 4, .int .i64 n, .string s, .int .i64 X, .slice Az M cz] IV (0, 0))) := Lib.hid (by rw [← hw4, ← HN5.out]; exact heap_alloc_new w3 _)
    have hb4 : Below w3.heap.size w3 W := hw4 ▸ b1 w3 _
    replace E3 := Lib.hid (carry hb4 E3.out)
    replace E4 := Lib.hid (carry hb4 E4.out)
    replace HB2 := Lib.hid (bs HB2.out hb4)
    have HT : Hid (TIn W (Nw 0 W) (.mk 4 n s x ks vs) (vV 4 n s x A L c)) := Lib.hid (HTN.out.nwb HB2.out)
    have HU : Hid (TIn W (Nw 0 W) (.mk 4 n' s' x' ks' vs') (vV 4 n' s' x' A' L' c')) := Lib.hid (HUN.out.nwb HB2.out)
    have HR : Hid (TIn W (Nw 0 W) (.mk 4 n s X (ks ++ uk ks ks' vs') (vs ++ uv ks ks' vs')) (vV 4 n s X Az M cz)) := Lib.hid (HR3.out.nw0.nwb hb4)
    have HBW := Lib.hid (bs HB1.out HB2.out)
    have SAM : Hid (∀ t w' S S' v v', fits t → TIn w' S t v → TIn w' S' t v' → Calls Tryd.prog 10 #[v, v'] w' (GivesQ w' (.bool true))) := Lib.hid (fun t w' S S' v v' hf h h' => by rw [← sameB_same t hf]; exact same_l t t w' S S' v v' h h')
    obtain ⟨A9, c9, e9, -, hinT⟩ := HT.out.out
    obtain ⟨rfl, rfl⟩ : A = A9 ∧ c = c9 := by simpa [vV, HL.out] using e9
    obtain ⟨A9, c9, e9', -, hinU⟩ := HU.out.out
    obtain ⟨rfl, rfl⟩ : A' = A9 ∧ c' = c9 := by simpa [vV, HL'.out] using e9'
    obtain ⟨A9, c9, e9'', -, hinR⟩ := HR.out.out
    obtain ⟨rfl, rfl⟩ : Az = A9 ∧ cz = c9 := by simpa [vV, HM.out] using e9''
    have HIT := Lib.hid hinT
    have HIU := Lib.hid hinU
    have HIR := Lib.hid hinR
    clear hinT hinU hinR e9 e9' e9'' hw4 hb4 HTN HUN HR3 HB1 HB2 HN5 HP HE
    go_wp2_with (fail)
    go_loopg [7] (L + 1) (fun gk i wr => ∃ j : Nat, i = .int .i64 j ∧ gk + j = L + 1 ∧ j ≤ L ∧ Below W.heap.size W wr)
    case atStart => exact ⟨0, rfl, by omega, by omega, Below.refl _ _⟩
    case round =>
      obtain ⟨j, rfl, hgj, hjL, hb⟩ := hrel
      have HB := Lib.hid hb
      clear hb
      have e4 : wr.cell? ⟨P, 4, none⟩ = some (.slice A L c) := (rowc (carry HB.out E3.out)).1 4
      have u4 : wr.cell? ⟨N5, 4, none⟩ = some (.slice Az M cz) := (rowc (carry HB.out E5.out)).1 4
      have hwr : IntKind.i64.wrap ((j : Int) + 1) = (j : Int) + 1 := by rw [IntKind.wrap_i64]; omega
      by_cases hlt : j < L
      · obtain ⟨a, y, k2, n2, s2, x2, ks2, vs2, A2, d2, rfl, -, hky, hvs, ht2, -, -, -, p⟩ := (HIT.out.below HB.out).item (i := j) (by rw [HL.out]; exact hlt)
        obtain ⟨g, y3, k3, n3, s3, x3, ks3, vs3, A3, d3, rfl, -, hky3, hvs3, ht3, -, -, -, q⟩ := (HIR.out.below HB.out).item (i := j) (by rw [HM.out]; omega)
        have hkl : ks.length = vs.length := HIT.out.1
        rw [List.getElem?_append_left (by have := HL.out; omega), hky] at hky3
        obtain rfl := Option.some.inj hky3
        rw [List.getElem?_append_left (by have := HL.out; omega), hvs] at hvs3
        obtain ⟨rfl, rfl, rfl, rfl, rfl, rfl⟩ : k2 = k3 ∧ n2 = n3 ∧ s2 = s3 ∧ x2 = x3 ∧ ks2 = ks3 ∧ vs2 = vs3 := by simpa using hvs3
        obtain ⟨l2, HL2⟩ : ∃ l, Hid (vs2.length = l) := ⟨_, Lib.hid rfl⟩
        have hft : fits (.mk k2 n2 s2 x2 ks2 vs2) := ht2.fits
        have SB : Hid (∀ w', Below wr.heap.size wr w' → Calls Tryd.prog 10 #[vV k2 n2 s2 x2 A3 l2 d3, vV k2 n2 s2 x2 A2 l2 d2] w' (GivesQ w' (.bool true))) := Lib.hid (fun w' hb => by
          have := SAM.out _ w' _ _ _ _ hft (ht3.below' hb) (ht2.below' hb)
          rw [HL2.out] at this
          exact this)
        rw [HL2.out] at p q
        obtain ⟨yb, yn, ys⟩ := y
        obtain ⟨p0, p1, p2, p3, p4, p5, p6, p7⟩ := p
        obtain ⟨q0, q1, q2, q3, q4, q5, q6, q7⟩ := q
        simp only at p0 p1 p2 q0 q1 q2
        have NE := fun w => ky_neq w ⟨yb, yn, ys⟩ ⟨yb, yn, ys⟩
        unfold kyV at NE
        simp only [decide_true, Bool.not_true] at NE
        have hd : decide ((j : Int) ≥ (M : Int)) = false := decide_eq_false (by omega)
        have hd2 : decide ((M : Int) ≤ (j : Int)) = false := decide_eq_false (by omega)
        have hd3 : decide (M ≤ j) = false := decide_eq_false (by omega)
        have hjM : j < M := by omega
        clear hky hvs hky3 hvs3 ht2 ht3 hft hkl
        go_upto_region 10 with fail
        go_cut [73] (fun v wx => CutY wr false v wx)
        case first =>
          go_region_held3 (fun w' => w'.cell? ⟨N5, 4, none⟩ = some (.slice (some g) M cz) ∧ w'.cell? ⟨P, 4, none⟩ = some (.slice (some a) L c) ∧ w'.cell? (g.add (j * 8)) = some (.bool yb) ∧ w'.cell? ⟨(g.add (j * 8)).block, (g.add (j * 8)).off + 1, none⟩ = some (.int .i64 yn) ∧ w'.cell? ⟨(g.add (j * 8)).block, (g.add (j * 8)).off + 2, none⟩ = some (.string ys) ∧ w'.cell? ⟨(g.add (j * 8)).block, (g.add (j * 8)).off + 3, none⟩ = some (.int .i64 k2) ∧ w'.cell? ⟨(g.add (j * 8)).block, (g.add (j * 8)).off + 4, none⟩ = some (.int .i64 n2) ∧ w'.cell? ⟨(g.add (j * 8)).block, (g.add (j * 8)).off + 5, none⟩ = some (.string s2) ∧ w'.cell? ⟨(g.add (j * 8)).block, (g.add (j * 8)).off + 6, none⟩ = some (.int .i64 x2) ∧ w'.cell? ⟨(g.add (j * 8)).block, (g.add (j * 8)).off + 7, none⟩ = some (.slice A3 l2 d3) ∧ w'.cell? (a.add (j * 8)) = some (.bool yb) ∧ w'.cell? ⟨(a.add (j * 8)).block, (a.add (j * 8)).off + 1, none⟩ = some (.int .i64 yn) ∧ w'.cell? ⟨(a.add (j * 8)).block, (a.add (j * 8)).off + 2, none⟩ = some (.string ys) ∧ w'.cell? ⟨(a.add (j * 8)).block, (a.add (j * 8)).off + 3, none⟩ = some (.int .i64 k2) ∧ w'.cell? ⟨(a.add (j * 8)).block, (a.add (j * 8)).off + 4, none⟩ = some (.int .i64 n2) ∧ w'.cell? ⟨(a.add (j * 8)).block, (a.add (j * 8)).off + 5, none⟩ = some (.string s2) ∧ w'.cell? ⟨(a.add (j * 8)).block, (a.add (j * 8)).off + 6, none⟩ = some (.int .i64 x2) ∧ w'.cell? ⟨(a.add (j * 8)).block, (a.add (j * 8)).off + 7, none⟩ = some (.slice A2 l2 d2)) (go_keep) ((go_at_call 10; refine (SB.out _ ?_).mono ?_; exact ((Below.refl wr.heap.size wr).drew); rintro e w9 ⟨rfl, hb9⟩; have HBZ := Lib.hid (bs ((Below.refl wr.heap.size wr).drew) hb9); have kp : ∀ (p : Addr) (u : Value), wr.cell? p = some u → w9.cell? p = some u := fun p u h => cell_stays (fun hlt => HBZ.out.block _ hlt) h; have e4 := kp _ _ e4; have u4 := kp _ _ u4; have p0 := kp _ _ p0; have p1 := kp _ _ p1; have p2 := kp _ _ p2; have p3 := kp _ _ p3; have p4 := kp _ _ p4; have p5 := kp _ _ p5; have p6 := kp _ _ p6; have p7 := kp _ _ p7; have q0 := kp _ _ q0; have q1 := kp _ _ q1; have q2 := kp _ _ q2; have q3 := kp _ _ q3; have q4 := kp _ _ q4; have q5 := kp _ _ q5; have q6 := kp _ _ q6; have q7 := kp _ _ q7; clear hb9 kp))
          all_goals
            go_wp2_with (fail)
            go_meet
            exact ⟨rfl, HBZ.out⟩
        case rest =>
          obtain ⟨rfl, hbd⟩ := hcut
          have HBD := Lib.hid (bs HB.out hbd)
          clear hbd e4 u4 p0 p1 p2 p3 p4 p5 p6 p7 q0 q1 q2 q3 q4 q5 q6 q7 NE hd hd2 hd3 SB
          go_wp2_with (fail)
          go_roundg (L - j)
          case rel => exact ⟨j + 1, by go_num, by omega, by omega, HBD.out⟩
          case measure => omega
      · have eL : L = j := by omega
        subst eL
        have HBX := Lib.hid HB.out
        clear HIT HIR HB
        have e44 : wr.cell? ⟨P + 1, 4, none⟩ = some (.slice A' L' c') := (rowc (carry HBX.out E4.out)).1 4
        go_wp2_with (fail)
        clear e44 e4 u4
        go_loopg [8] (L' + 1) (fun gk i wr => ∃ j : Nat, i = .int .i64 j ∧ gk + j = L' + 1 ∧ j ≤ L' ∧ Below W.heap.size W wr)
        case atStart => exact ⟨0, rfl, by omega, by omega, HBX.out⟩
        case round =>
          obtain ⟨j, rfl, hgj, hjL, hb⟩ := hrel
          have HBR := Lib.hid hb
          clear hb HBX
          have z4 : wr.cell? ⟨P + 1, 4, none⟩ = some (.slice A' L' c') := (rowc (carry HBR.out E4.out)).1 4
          have hwr : IntKind.i64.wrap ((j : Int) + 1) = (j : Int) + 1 := by rw [IntKind.wrap_i64]; omega
          by_cases hlt : j < L'
          · obtain ⟨a, y, k2, n2, s2, x2, ks2, vs2, A2, d2, rfl, -, hky, hvs, ht2, hyb, -, -, pc⟩ := HIU.out.item (i := j) (by rw [HL'.out]; exact hlt)
            have hft : fits (.mk k2 n2 s2 x2 ks2 vs2) := ht2.fits
            obtain ⟨hg1, hg2⟩ := UG.out j y _ hky hvs
            obtain ⟨l2, HL2⟩ : ∃ l, Hid (vs2.length = l) := ⟨_, Lib.hid rfl⟩
            rw [HL2.out] at pc
            obtain ⟨RT, HRT⟩ : ∃ R, Hid (getR (.mk 4 n s X (ks ++ uk ks ks' vs') (vs ++ uv ks ks' vs')) y = R) := ⟨_, Lib.hid rfl⟩
            obtain ⟨RS, HRS⟩ : ∃ R, Hid (getR (.mk 4 n s x ks vs) y = R) := ⟨_, Lib.hid rfl⟩
            obtain ⟨lb, HLB⟩ : ∃ b, Hid (getB (.mk 4 n s x ks vs) y = b) := ⟨_, Lib.hid rfl⟩
            rw [HRT.out, HLB.out] at hg2
            have GK : Hid (∀ w', Below W.heap.size W w' → Calls Tryd.prog 11 #[vV 4 n s X Az M cz, kyV y] w' (OutI w' RT true)) := Lib.hid (fun w' hb => by
              have := getKey_i _ _ y w' 0 (HR.out.nwb hb) (by have := HUB.out.1; omega) (by have := HUB.out.2.1; omega)
              rw [HRT.out, hg1] at this
              exact this)
            have GS : Hid (∀ w', Below W.heap.size W w' → Calls Tryd.prog 12 #[vV 4 n s x A L c, kyV y] w' (OutS w' RS lb)) := Lib.hid (fun w' hb => by
              have h8 : cnt (.mk 4 n s x ks vs) ≤ 1000000000 := Nat.le_trans HUB.out.2.2 (by omega)
              have h9 := getKey_s (.mk 4 n s x ks vs) (vV 4 n s x A L c) y w' (Nw 0 W) (HT.out.below' hb) h8
              rw [HRS.out, HLB.out] at h9
              exact h9)
            have HG2 := Lib.hid hg2
            have HTV := Lib.hid ht2
            have HFT := Lib.hid hft
            have KC : Hid (∀ w', Below W.heap.size W w' → At8 w' (a.add (j * 8)) y k2 n2 s2 x2 A2 l2 d2) := Lib.hid (fun w' hb => by
              have st : ∀ (p : Addr) (u : Value), W.cell? p = some u → w'.cell? p = some u := fun p u h => cell_stays (fun hlt => hb.block _ hlt) h
              exact ⟨st _ _ pc.c0, st _ _ pc.c1, st _ _ pc.c2, st _ _ pc.c3, st _ _ pc.c4, st _ _ pc.c5, st _ _ pc.c6, st _ _ pc.c7⟩)
            clear hg1 hg2 hky hvs ht2 hft hyb pc
            obtain ⟨yb, yn, ys⟩ := y
            unfold kyV at GK GS
            simp only at GK GS
            obtain ⟨Kq, Nq, Zq, Xq, RKq, RVq⟩ := RT
            obtain ⟨RLq, HRLi⟩ : ∃ q, Hid (RVq.length = q) := ⟨_, Lib.hid rfl⟩
            obtain ⟨Kz, Nz, Zz, Xz, RKz, RVz⟩ := RS
            obtain ⟨RLz, HRLs⟩ : ∃ q, Hid (RVz.length = q) := ⟨_, Lib.hid rfl⟩
            obtain ⟨y0, y1, y2, y3, y4, y5, y6, y7⟩ := KC.out wr HBR.out
            simp only at y0 y1 y2
            have m0 : wr.cell? ⟨N5, 0, none⟩ = some (.int .i64 4) := (rowc (carry HBR.out E5.out)).1 0
            have m1 : wr.cell? ⟨N5, 1, none⟩ = some (.int .i64 n) := (rowc (carry HBR.out E5.out)).1 1
            have m2 : wr.cell? ⟨N5, 2, none⟩ = some (.string s) := (rowc (carry HBR.out E5.out)).1 2
            have m3 : wr.cell? ⟨N5, 3, none⟩ = some (.int .i64 X) := (rowc (carry HBR.out E5.out)).1 3
            have m4 : wr.cell? ⟨N5, 4, none⟩ = some (.slice Az M cz) := (rowc (carry HBR.out E5.out)).1 4
            go_upto_region 15 with fail
            go_cut [9, 10] (fun p f wx => CutG wr true (.mk Kq Nq Zq Xq RKq RVq) p f wx)
            case first =>
              have HW0 : Hid (Below wr.heap.size wr wr) := Lib.hid (Below.refl _ _)
              have nN : N5 ≠ wr.heap.size := by have := World.block_lt_of_cell? _ _ m0; simp at this; omega
              have nP : P + 1 ≠ wr.heap.size := by have := World.block_lt_of_cell? _ _ z4; simp at this; omega
              have nA : (a.add (j * 8)).block ≠ wr.heap.size := by have := World.block_lt_of_cell? _ _ y0; omega
              go_region_held3 (fun w' => w'.cell? ⟨N5, 0, none⟩ = some (.int .i64 4) ∧ w'.cell? ⟨N5, 1, none⟩ = some (.int .i64 n) ∧ w'.cell? ⟨N5, 2, none⟩ = some (.string s) ∧ w'.cell? ⟨N5, 3, none⟩ = some (.int .i64 X) ∧ w'.cell? ⟨N5, 4, none⟩ = some (.slice Az M cz) ∧ w'.cell? ⟨P + 1, 4, none⟩ = some (.slice (some a) L' c') ∧ w'.cell? (a.add (j * 8)) = some (.bool yb) ∧ w'.cell? ⟨(a.add (j * 8)).block, (a.add (j * 8)).off + 1, none⟩ = some (.int .i64 yn) ∧ w'.cell? ⟨(a.add (j * 8)).block, (a.add (j * 8)).off + 2, none⟩ = some (.string ys)) (first | with_reducible exact ⟨m0, m1, m2, m3, m4, z4, y0, y1, y2⟩ | with_reducible exact ⟨drc (alc m0), drc (alc m1), drc (alc m2), drc (alc m3), drc (alc m4), drc (alc z4), drc (alc y0), drc (alc y1), drc (alc y2)⟩ | with_reducible exact ⟨drc m0, drc m1, drc m2, drc m3, drc m4, drc z4, drc y0, drc y1, drc y2⟩ | with_reducible exact ⟨alc m0, alc m1, alc m2, alc m3, alc m4, alc z4, alc y0, alc y1, alc y2⟩ | with_reducible exact ⟨alc (drc m0), alc (drc m1), alc (drc m2), alc (drc m3), alc (drc m4), alc (drc z4), alc (drc y0), alc (drc y1), alc (drc y2)⟩ | exact ⟨cell_stays (fun _ => OT _ _ _ _ _ _ nN) m0, cell_stays (fun _ => OT _ _ _ _ _ _ nN) m1, cell_stays (fun _ => OT _ _ _ _ _ _ nN) m2, cell_stays (fun _ => OT _ _ _ _ _ _ nN) m3, cell_stays (fun _ => OT _ _ _ _ _ _ nN) m4, cell_stays (fun _ => OT _ _ _ _ _ _ nP) z4, cell_stays (fun _ => OT _ _ _ _ _ _ nA) y0, cell_stays (fun _ => OT _ _ _ _ _ _ nA) y1, cell_stays (fun _ => OT _ _ _ _ _ _ nA) y2⟩ | go_keep)
                (first
                | (go_at_call 11
                   refine (GK.out _ (bs HBR.out (by first | with_reducible exact Below.refl _ _ | with_reducible exact (Below.refl _ _).drew | with_reducible exact b1 _ _ | with_reducible exact bs ((Below.refl _ _).drew) (b1 _ _) | with_reducible exact bs (b1 _ _) ((Below.refl _ _).drew)))).mono ?_
                   rintro e w9 ⟨uu, par, R, rfl, hu, hR, hb⟩
                   have hu9 : TIn w9 (fun q => R < q) _ uu := hu.tin.stays (fun b hb => by have := hb.1; show R < b; simp at this; omega) (fun _ _ _ => rfl)
                   obtain ⟨Ag, cg, rfl, -⟩ := hu.out
                   rw [HRLi.out] at hu9 ⊢
                   have HUU := Lib.hid hu9
                   have hbx : Below wr.heap.size wr w9 := by first | exact hb | exact bs ((Below.refl _ _).drew) hb | exact bs (b1 _ _) hb | exact bs (bs ((Below.refl _ _).drew) (b1 _ _)) hb | exact bs (bs (b1 _ _) ((Below.refl _ _).drew)) hb
                   first | (have nzw := Lib.hid (Array.getElem?_eq_some_iff.1 (heap_alloc_new wr (.cells #[.int .i64 0, .int .i64 0, .string ⟨#[]⟩, .int .i64 0, .slice none 0 0] IV))).1; have ez := Lib.hid (carry hb (heap_alloc_new wr (.cells #[.int .i64 0, .int .i64 0, .string ⟨#[]⟩, .int .i64 0, .slice none 0 0] IV)))) | (have nzw := Lib.hid (Array.getElem?_eq_some_iff.1 (heap_alloc_new wr.drew (.cells #[.int .i64 0, .int .i64 0, .string ⟨#[]⟩, .int .i64 0, .slice none 0 0] IV))).1; have ez := Lib.hid (carry hb (heap_alloc_new wr.drew (.cells #[.int .i64 0, .int .i64 0, .string ⟨#[]⟩, .int .i64 0, .slice none 0 0] IV)))) | skip
                   have HSQ := Lib.hid hR
                   have HBZ := Lib.hid hbx
                   have kp : ∀ (p : Addr) (u : Value), wr.cell? p = some u → w9.cell? p = some u := fun p u h => cell_stays (fun hlt => hbx.block _ hlt) h
                   have m0 := kp _ _ m0
                   have m1 := kp _ _ m1
                   have m2 := kp _ _ m2
                   have m3 := kp _ _ m3
                   have m4 := kp _ _ m4
                   have z4 := kp _ _ z4
                   have y0 := kp _ _ y0
                   have y1 := kp _ _ y1
                   have y2 := kp _ _ y2
                   have OT : ∀ (b : Nat) (v0 v1 v2 v3 v4 : Value), b ≠ wr.heap.size → (((((w9.setCell ⟨wr.heap.size, 0, none⟩ v0).setCell ⟨wr.heap.size, 1, none⟩ v1).setCell ⟨wr.heap.size, 2, none⟩ v2).setCell ⟨wr.heap.size, 3, none⟩ v3).setCell ⟨wr.heap.size, 4, none⟩ v4).heap[b]? = w9.heap[b]? := fun b v0 v1 v2 v3 v4 hb => by rw [set_other hb, set_other hb, set_other hb, set_other hb, set_other hb]
                   clear hu hb hbx hu9 kp
                   first | (have zr := (rowc ez.out).1; have zf := (rowc ez.out).2) | skip))
              all_goals
                go_wp2_with (fail)
                go_meet
                first
                | with_reducible exact cutG_box HBZ.out HUU.out
                | exact cutG_early HBZ.out (by first | exact Nat.le_refl _ | assumption) ez.out HUU.out (fun q hq e => by have h1 := nzw.out; have h2 := HSQ.out; subst e; simp at h1 h2 hq; omega) rfl
            case rest =>
              obtain ⟨B9, K9, N9, Z9, X9, R9, A9, c9, rfl, rfl, hb, e9, ht9⟩ := hcut
              obtain ⟨w5, hwc⟩ : ∃ q, q = wc := ⟨wc, rfl⟩
              subst hwc
              replace HBR := Lib.hid (bs HBR.out hb)
              have HE9 := Lib.hid e9
              have HT9 := Lib.hid ht9
              clear hb e9 ht9 m0 m1 m2 m3 m4 y0 y1 y2 y3 y4 y5 y6 y7 z4 GK
              obtain ⟨y0, y1, y2, y3, y4, y5, y6, y7⟩ := KC.out w5 HBR.out
              simp only at y0 y1 y2
              have z4 : w5.cell? ⟨P + 1, 4, none⟩ = some (.slice (some a) L' c') := (rowc (carry HBR.out E4.out)).1 4
              have m0 : w5.cell? ⟨P, 0, none⟩ = some (.int .i64 4) := (rowc (carry HBR.out E3.out)).1 0
              have m1 : w5.cell? ⟨P, 1, none⟩ = some (.int .i64 n) := (rowc (carry HBR.out E3.out)).1 1
              have m2 : w5.cell? ⟨P, 2, none⟩ = some (.string s) := (rowc (carry HBR.out E3.out)).1 2
              have m3 : w5.cell? ⟨P, 3, none⟩ = some (.int .i64 x) := (rowc (carry HBR.out E3.out)).1 3
              have m4 : w5.cell? ⟨P, 4, none⟩ = some (.slice A L c) := (rowc (carry HBR.out E3.out)).1 4
              go_upto_region 16 with fail
              go_cut [11, 12] (fun p f wx => CutG w5 lb (.mk Kz Nz Zz Xz RKz RVz) p f wx)
              case first =>
                have HW0 : Hid (Below w5.heap.size w5 w5) := Lib.hid (Below.refl _ _)
                have nN : P ≠ w5.heap.size := by have := World.block_lt_of_cell? _ _ m0; simp at this; omega
                have nP : P + 1 ≠ w5.heap.size := by have := World.block_lt_of_cell? _ _ z4; simp at this; omega
                have nA : (a.add (j * 8)).block ≠ w5.heap.size := by have := World.block_lt_of_cell? _ _ y0; omega
                go_region_held3 (fun w' => w'.cell? ⟨P, 0, none⟩ = some (.int .i64 4) ∧ w'.cell? ⟨P, 1, none⟩ = some (.int .i64 n) ∧ w'.cell? ⟨P, 2, none⟩ = some (.string s) ∧ w'.cell? ⟨P, 3, none⟩ = some (.int .i64 x) ∧ w'.cell? ⟨P, 4, none⟩ = some (.slice A L c) ∧ w'.cell? ⟨P + 1, 4, none⟩ = some (.slice (some a) L' c') ∧ w'.cell? (a.add (j * 8)) = some (.bool yb) ∧ w'.cell? ⟨(a.add (j * 8)).block, (a.add (j * 8)).off + 1, none⟩ = some (.int .i64 yn) ∧ w'.cell? ⟨(a.add (j * 8)).block, (a.add (j * 8)).off + 2, none⟩ = some (.string ys)) (first | with_reducible exact ⟨m0, m1, m2, m3, m4, z4, y0, y1, y2⟩ | with_reducible exact ⟨drc (alc m0), drc (alc m1), drc (alc m2), drc (alc m3), drc (alc m4), drc (alc z4), drc (alc y0), drc (alc y1), drc (alc y2)⟩ | with_reducible exact ⟨drc m0, drc m1, drc m2, drc m3, drc m4, drc z4, drc y0, drc y1, drc y2⟩ | with_reducible exact ⟨alc m0, alc m1, alc m2, alc m3, alc m4, alc z4, alc y0, alc y1, alc y2⟩ | with_reducible exact ⟨alc (drc m0), alc (drc m1), alc (drc m2), alc (drc m3), alc (drc m4), alc (drc z4), alc (drc y0), alc (drc y1), alc (drc y2)⟩ | exact ⟨cell_stays (fun _ => OT _ _ _ _ _ _ nN) m0, cell_stays (fun _ => OT _ _ _ _ _ _ nN) m1, cell_stays (fun _ => OT _ _ _ _ _ _ nN) m2, cell_stays (fun _ => OT _ _ _ _ _ _ nN) m3, cell_stays (fun _ => OT _ _ _ _ _ _ nN) m4, cell_stays (fun _ => OT _ _ _ _ _ _ nP) z4, cell_stays (fun _ => OT _ _ _ _ _ _ nA) y0, cell_stays (fun _ => OT _ _ _ _ _ _ nA) y1, cell_stays (fun _ => OT _ _ _ _ _ _ nA) y2⟩ | go_keep)
                  (first
                  | (go_at_call 12
                     refine (GS.out _ (bs HBR.out (by first | with_reducible exact Below.refl _ _ | with_reducible exact (Below.refl _ _).drew | with_reducible exact b1 _ _ | with_reducible exact bs ((Below.refl _ _).drew) (b1 _ _) | with_reducible exact bs (b1 _ _) ((Below.refl _ _).drew)))).mono ?_
                     rintro e w9 ⟨uu, rfl, hu, hb⟩
                     have hu9 := hu
                     obtain ⟨Ag, cg, rfl, -, -⟩ := hu.out
                     rw [HRLs.out] at hu9 ⊢
                     have HUU := Lib.hid hu9
                     have hbx : Below w5.heap.size w5 w9 := by first | exact hb | exact bs ((Below.refl _ _).drew) hb | exact bs (b1 _ _) hb | exact bs (bs ((Below.refl _ _).drew) (b1 _ _)) hb | exact bs (bs (b1 _ _) ((Below.refl _ _).drew)) hb
                     first | (have nzw := Lib.hid (Array.getElem?_eq_some_iff.1 (heap_alloc_new w5 (.cells #[.int .i64 0, .int .i64 0, .string ⟨#[]⟩, .int .i64 0, .slice none 0 0] IV))).1; have ez := Lib.hid (carry hb (heap_alloc_new w5 (.cells #[.int .i64 0, .int .i64 0, .string ⟨#[]⟩, .int .i64 0, .slice none 0 0] IV)))) | (have nzw := Lib.hid (Array.getElem?_eq_some_iff.1 (heap_alloc_new w5.drew (.cells #[.int .i64 0, .int .i64 0, .string ⟨#[]⟩, .int .i64 0, .slice none 0 0] IV))).1; have ez := Lib.hid (carry hb (heap_alloc_new w5.drew (.cells #[.int .i64 0, .int .i64 0, .string ⟨#[]⟩, .int .i64 0, .slice none 0 0] IV)))) | skip
                     have HSQ := Lib.hid (Nat.le_refl w9.heap.size)
                     have HBZ := Lib.hid hbx
                     have kp : ∀ (p : Addr) (u : Value), w5.cell? p = some u → w9.cell? p = some u := fun p u h => cell_stays (fun hlt => hbx.block _ hlt) h
                     have m0 := kp _ _ m0
                     have m1 := kp _ _ m1
                     have m2 := kp _ _ m2
                     have m3 := kp _ _ m3
                     have m4 := kp _ _ m4
                     have z4 := kp _ _ z4
                     have y0 := kp _ _ y0
                     have y1 := kp _ _ y1
                     have y2 := kp _ _ y2
                     have OT : ∀ (b : Nat) (v0 v1 v2 v3 v4 : Value), b ≠ w5.heap.size → (((((w9.setCell ⟨w5.heap.size, 0, none⟩ v0).setCell ⟨w5.heap.size, 1, none⟩ v1).setCell ⟨w5.heap.size, 2, none⟩ v2).setCell ⟨w5.heap.size, 3, none⟩ v3).setCell ⟨w5.heap.size, 4, none⟩ v4).heap[b]? = w9.heap[b]? := fun b v0 v1 v2 v3 v4 hb => by rw [set_other hb, set_other hb, set_other hb, set_other hb, set_other hb]
                     clear hu hb hbx hu9 kp
                     first | (have zr := (rowc ez.out).1; have zf := (rowc ez.out).2) | skip))
                all_goals
                  go_wp2_with (fail)
                  go_meet
                  first
                  | with_reducible exact cutG_box HBZ.out HUU.out
                  | exact cutG_early HBZ.out (by first | exact Nat.le_refl _ | assumption) ez.out HUU.out (fun q hq e => by have h1 := nzw.out; have h2 := HSQ.out; subst e; simp at h1 h2 hq; omega) rfl
              case rest =>
                obtain ⟨B11, K1, N1, Z1, X1, R1, A1, c1, rfl, rfl, hb, -, -⟩ := hcut
                obtain ⟨w6, hwc⟩ : ∃ q, q = wc := ⟨wc, rfl⟩
                subst hwc
                replace HBR := Lib.hid (bs HBR.out hb)
                replace HE9 := Lib.hid (carry hb HE9.out)
                replace HT9 := Lib.hid (HT9.out.below' hb)
                clear hb m0 m1 m2 m3 m4 y0 y1 y2 y3 y4 y5 y6 y7 z4 GS
                obtain ⟨y0, y1, y2, y3, y4, y5, y6, y7⟩ := KC.out w6 HBR.out
                simp only at y0 y1 y2
                have z4 : w6.cell? ⟨P + 1, 4, none⟩ = some (.slice (some a) L' c') := (rowc (carry HBR.out E4.out)).1 4
                have m0 : w6.cell? ⟨B9, 0, none⟩ = some (.int .i64 K9) := (rowc HE9.out).1 0
                have m1 : w6.cell? ⟨B9, 1, none⟩ = some (.int .i64 N9) := (rowc HE9.out).1 1
                have m2 : w6.cell? ⟨B9, 2, none⟩ = some (.string Z9) := (rowc HE9.out).1 2
                have m3 : w6.cell? ⟨B9, 3, none⟩ = some (.int .i64 X9) := (rowc HE9.out).1 3
                have m4 : w6.cell? ⟨B9, 4, none⟩ = some (.slice A9 R9 c9) := (rowc HE9.out).1 4
                go_upto_region 17 with fail
                cases lb
                case true =>
                  go_cut [119] (fun v wx => CutY w6 false v wx)
                  case first =>
                    go_quiet ((fail))
                    all_goals
                      go_wp2_with (fail)
                      go_meet
                      exact ⟨rfl, ⟨rfl, rfl, rfl, Nat.le_refl _, fun _ _ => rfl⟩⟩
                  case rest =>
                    obtain ⟨rfl, hbd⟩ := hcut
                    have HBD := Lib.hid (bs HBR.out hbd)
                    clear hbd m0 m1 m2 m3 m4 y0 y1 y2 y3 y4 y5 y6 y7 z4
                    go_wp2_with (fail)
                    go_roundg (L' - j)
                    case rel => exact ⟨j + 1, by go_num, by omega, by omega, HBD.out⟩
                    case measure => omega
                case false =>
                  have SB : Hid (∀ w', Below w6.heap.size w6 w' → Calls Tryd.prog 10 #[vV K9 N9 Z9 X9 A9 R9 c9, vV k2 n2 s2 x2 A2 l2 d2] w' (GivesQ w' (.bool true))) := Lib.hid (fun w' hb => by
                    have h9 := HT9.out
                    rw [HG2.out rfl] at h9
                    have h8 := HTV.out.below' (bs HBR.out hb)
                    rw [HL2.out] at h8
                    exact SAM.out _ w' _ _ _ _ HFT.out (h9.below' hb) h8)
                  go_cut [119] (fun v wx => CutY w6 false v wx)
                  case first =>
                    go_region_held3 (fun w' => w'.cell? ⟨B9, 0, none⟩ = some (.int .i64 K9) ∧ w'.cell? ⟨B9, 1, none⟩ = some (.int .i64 N9) ∧ w'.cell? ⟨B9, 2, none⟩ = some (.string Z9) ∧ w'.cell? ⟨B9, 3, none⟩ = some (.int .i64 X9) ∧ w'.cell? ⟨B9, 4, none⟩ = some (.slice A9 R9 c9) ∧ w'.cell? ⟨P + 1, 4, none⟩ = some (.slice (some a) L' c') ∧ w'.cell? ⟨(a.add (j * 8)).block, (a.add (j * 8)).off + 3, none⟩ = some (.int .i64 k2) ∧ w'.cell? ⟨(a.add (j * 8)).block, (a.add (j * 8)).off + 4, none⟩ = some (.int .i64 n2) ∧ w'.cell? ⟨(a.add (j * 8)).block, (a.add (j * 8)).off + 5, none⟩ = some (.string s2) ∧ w'.cell? ⟨(a.add (j * 8)).block, (a.add (j * 8)).off + 6, none⟩ = some (.int .i64 x2) ∧ w'.cell? ⟨(a.add (j * 8)).block, (a.add (j * 8)).off + 7, none⟩ = some (.slice A2 l2 d2)) (go_keep) ((go_at_call 10; refine (SB.out _ ?_).mono ?_; exact ((Below.refl w6.heap.size w6).drew); rintro e w9 ⟨rfl, hb9⟩; have HBZ := Lib.hid (bs ((Below.refl w6.heap.size w6).drew) hb9); have kp : ∀ (p : Addr) (u : Value), w6.cell? p = some u → w9.cell? p = some u := fun p u h => cell_stays (fun hlt => HBZ.out.block _ hlt) h; have z4 := kp _ _ z4; have m0 := kp _ _ m0; have m1 := kp _ _ m1; have m2 := kp _ _ m2; have m3 := kp _ _ m3; have m4 := kp _ _ m4; have y3 := kp _ _ y3; have y4 := kp _ _ y4; have y5 := kp _ _ y5; have y6 := kp _ _ y6; have y7 := kp _ _ y7; clear hb9 kp))
                    all_goals
                      go_wp2_with (fail)
                      go_meet
                      exact ⟨rfl, HBZ.out⟩
                  case rest =>
                    obtain ⟨rfl, hbd⟩ := hcut
                    have HBD := Lib.hid (bs HBR.out hbd)
                    clear hbd m0 m1 m2 m3 m4 y0 y1 y2 y3 y4 y5 y6 y7 z4 SB
                    go_wp2_with (fail)
                    go_roundg (L' - j)
                    case rel => exact ⟨j + 1, by go_num, by omega, by omega, HBD.out⟩
                    case measure => omega
          · obtain rfl : j = L' := by omega
            have HBY := Lib.hid HBR.out
            have IV : Hid (∀ w', Below W.heap.size W w' → Calls Tryd.prog 13 #[vV 4 n s X Az M cz] w' (BoQ w' true)) := Lib.hid (fun w' hb => by
              rw [← HVU.out]
              exact isValue_n _ (by have := HUB.out.2.1; omega) w' _ _ (HR.out.below' hb))
            have m0 : wr.cell? ⟨N5, 0, none⟩ = some (.int .i64 4) := (rowc (carry HBR.out E5.out)).1 0
            have m1 : wr.cell? ⟨N5, 1, none⟩ = some (.int .i64 n) := (rowc (carry HBR.out E5.out)).1 1
            have m2 : wr.cell? ⟨N5, 2, none⟩ = some (.string s) := (rowc (carry HBR.out E5.out)).1 2
            have m3 : wr.cell? ⟨N5, 3, none⟩ = some (.int .i64 X) := (rowc (carry HBR.out E5.out)).1 3
            have m4 : wr.cell? ⟨N5, 4, none⟩ = some (.slice Az M cz) := (rowc (carry HBR.out E5.out)).1 4
            unfold vV at IV
            go_wp2_with (fail)
            refine (IV.out _ HBY.out).mono ?_
            rintro e w5 ⟨rfl, hb5⟩
            have HBF := Lib.hid (bs HBW.out (bs HBY.out hb5))
            clear hb5
            go_wp2_with (fail)
            go_ret
            exact ⟨rfl, HBF.out⟩

end Go.Proofs.YteoilhbidnnneaaDoor.fnUnion

