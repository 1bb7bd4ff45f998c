/-
  Taking the next item of the first array, and the value that the other one has for its key.
  Conditions: those that each theorem names.
-/
import Derived.Test.YtdglmnmalfpipaaGreatDoorVB16
import Derived.Test.YtdglmnmalfpipaaGreatDoorVB8
namespace Go.Proofs.YtdglmnmalfpipaaGreatDoor.tree
open Go.ChangeShapes Go.WideShapes Go.ChangeAt Go.RowKit
set_option linter.unusedVariables false

def TakeQ9 (w : World) (g m : Nat) (cur : Array Value) (F : Mt) (y : Ky) (t : Tr) (kt : List Ky) (ts : List Tr) (S S' : Nat → Prop) (e : Ending) (w' : World) : Prop :=
  ∃ R1, Tk w w' g m cur F R1 ts.length (F.c - 1) ∧ IsIn w S kt ts R1 ∧ ((getL F.ks' F.vs' y = none ∧ e = .returned (.tuple #[vV 0 0 ⟨#[]⟩ 0 none 0 0, vV 0 0 ⟨#[]⟩ 0 none 0 0, .bool false])) ∨
    ∃ u k n s x A L c k' n' s' x' A' L' c', getL F.ks' F.vs' y = some u ∧ e = .returned (.tuple #[vV k n s x A L c, vV k' n' s' x' A' L' c', .bool true]) ∧ TIn w S t (vV k n s x A L c) ∧ TIn w S' u (vV k' n' s' x' A' L' c'))

theorem getL_none {ks : List Ky} {vs : List Tr} {y : Ky} (h : pos ks y 0 = -1) : getL ks vs y = none := by unfold getL; rw [if_pos h]
theorem getL_at {ks : List Ky} {vs : List Tr} {y : Ky} (h : pos ks y 0 ≠ -1) : getL ks vs y = vs[(pos ks y 0).toNat]? := by unfold getL; rw [if_neg h]
theorem pos_rng : ∀ (ks : List Ky) (y : Ky) (i : Nat), pos ks y i ≠ -1 → ∃ j : Nat, pos ks y i = ((i + j : Nat) : Int) ∧ j < ks.length
  | [], y, i, h => by simp [pos] at h
  | z :: ks, y, i, h => by
    rw [pos] at h ⊢
    by_cases hz : z = y
    · rw [if_pos hz]
      exact ⟨0, by simp, by simp⟩
    · rw [if_neg hz] at h ⊢
      obtain ⟨j, h1, h2⟩ := pos_rng ks y (i + 1) h
      exact ⟨j + 1, by rw [h1]; congr 1; omega, by simpa using h2⟩

theorem cell_eq {w w' : World} {a : Addr} (h : w'.heap[a.block]? = w.heap[a.block]?) : w'.cell? a = w.cell? a := by unfold World.cell?; rw [h]

set_option maxHeartbeats 4000000 in
set_option maxRecDepth 100000 in
theorem takeM {w : World} {g m : Nat} {cur : Array Value} {F : Mt} {y : Ky} {kt : List Ky} {t : Tr} {ts : List Tr} {S S' : Nat → Prop} {f : Value → Option Value}
    (hg : w.heap[g]? = some (.cells cur MG (0, 0))) (hq : ∀ q, q < 4 → cur[m * 4 + q]? = F.cells[q]?) (hk0 : F.ks = y :: kt) (hv : F.vs = t :: ts)
    (hin : IsIn w S F.ks F.vs F.R) (hc : F.vs.length ≤ F.c ∧ F.c ≤ maxLen) (hin' : IsIn w S' F.ks' F.vs' F.A') (hp : F.p ≤ F.vs'.length) (hm : raw.Holds w GK F.b f) (hf : FirstK (F.ks'.take F.p) f)
    (hS : ∀ b, S b → b ≠ g ∧ b ≠ F.b) (hS' : ∀ b, S' b → b ≠ g ∧ b ≠ F.b) :
    Calls Tryz.prog 212 #[.pointer (some ⟨g, m * 4, none⟩)] w (TakeQ9 w g m cur F y t kt ts S S') := by
  obtain ⟨R, c, ks, vs, A', c', ks', vs', p, b, ks0, vs0⟩ := F
  simp only at hk0 hv hin hc hin' hp hm hf hS hS'
  subst hk0 hv
  have q0 := hq 0 (by omega)
  have q1 := hq 1 (by omega)
  have q2 := hq 2 (by omega)
  have q3 := hq 3 (by omega)
  simp only [Mt.cells, Nat.add_zero, List.getElem?_cons_zero, List.getElem?_cons_succ] at q0 q1 q2 q3
  have hgl : g < w.heap.size := (Array.getElem?_eq_some_iff.1 hg).1
  have hml : b < w.heap.size := hm.lt
  have hgm : g ≠ b := fun e => by
    obtain ⟨es, ck, hb, -⟩ := hm
    rw [← e, hg] at hb
    cases hb
  obtain ⟨a, y', k1, n1, s1, x1, ks1, vs1, A1, c1, rfl, hSa, hky, hvs, ht, hyb, hkb, hin1, hcell⟩ := hin.item (i := 0) (by simp)
  obtain rfl : y = y' := by simpa using hky
  obtain rfl : t = .mk k1 n1 s1 x1 ks1 vs1 := by simpa using hvs
  have ea : a.add (0 * 8) = a := rfl
  rw [ea] at hcell
  obtain ⟨L1, HL1⟩ : ∃ L1, Hid (vs1.length = L1) := ⟨_, Lib.hid rfl⟩
  obtain ⟨L, HL⟩ : ∃ L, Hid (ts.length = L) := ⟨_, Lib.hid rfl⟩
  obtain ⟨L', HL'⟩ : ∃ L, Hid (vs'.length = L) := ⟨_, Lib.hid rfl⟩
  have hm' : L' ≤ maxLen := by rw [← HL'.out]; exact hin'.2.1
  rw [HL1.out] at hcell ht
  simp only [List.length_cons] at q0 hc
  rw [HL.out] at q0 hc
  rw [HL'.out] at q1 hp
  obtain ⟨hc1, hc2⟩ := hc
  unfold maxLen at hc2 hm'
  have Q0 := Lib.hid q0
  obtain ⟨r0, f0⟩ := rowc hg
  have c0 := (r0 _).trans q0
  have g0 := f0 (m * 4)
  have hab : a.block < w.heap.size := World.block_lt_of_cell? _ _ hcell.c0
  obtain ⟨yb, yn, ys⟩ := y
  obtain ⟨p0, p1, p2, p3, p4, p5, p6, p7⟩ := hcell
  simp only at p0 p1 p2
  have HIN := Lib.hid hin
  have HIN' := Lib.hid hin'
  have HG := Lib.hid hg
  have HQ := Lib.hid (And.intro q1 (And.intro q2 q3))
  have HM := Lib.hid hm
  have HF := Lib.hid hf
  have HS := Lib.hid hS
  have HS' := Lib.hid hS'
  have HTT := Lib.hid ht
  have hm4 : m * 4 + 3 < cur.size := (Array.getElem?_eq_some_iff.1 q3).1
  clear hg hq hin hin' hm hf hS hS' r0 f0 q0 q1 q2 q3 hky hvs ht hyb hkb hin1 hSa ea
  obtain ⟨W3, HW3⟩ : ∃ W, Hid ((((w.alloc (.cells #[.int .i64 0, .int .i64 0, .string ⟨#[]⟩, .int .i64 0, .slice none 0 0] IV)).alloc (.cells #[.int .i64 0, .int .i64 0, .string ⟨#[]⟩, .int .i64 0, .slice none 0 0] IV)).alloc (.cells #[.bool yb, .int .i64 yn, .string ys, .int .i64 k1, .int .i64 n1, .string s1, .int .i64 x1, .slice A1 L1 c1] IE)) = W) := ⟨_, Lib.hid rfl⟩
  obtain ⟨a0, a1, a2, az, ab⟩ := al3 w #[.int .i64 0, .int .i64 0, .string ⟨#[]⟩, .int .i64 0, .slice none 0 0] #[.int .i64 0, .int .i64 0, .string ⟨#[]⟩, .int .i64 0, .slice none 0 0] #[.bool yb, .int .i64 yn, .string ys, .int .i64 k1, .int .i64 n1, .string s1, .int .i64 x1, .slice A1 L1 c1] IV IV IE
  rw [HW3.out] at a0 a1 a2 az ab
  have HA0 := Lib.hid a0
  have HA1 := Lib.hid a1
  have HA2 := Lib.hid a2
  have HB3 := Lib.hid ab
  have HG3 := Lib.hid (carry ab HG.out)
  obtain ⟨N, HN⟩ : ∃ N, Hid (w.heap.size = N) := ⟨_, Lib.hid rfl⟩
  clear a0 a1 a2 az ab
  go_enter Tryz.func212, Tryz.ntmps212
  go_upto_region 2 with fail
  rw [HW3.out, HN.out]
  rw [HN.out] at HA0 HA1 HA2
  clear p0 p1 p2 p3 p4 p5 p6 p7 c0 g0
  obtain ⟨r3, f3⟩ := rowc HG3.out
  have c0 : W3.cell? ⟨g, m * 4, none⟩ = some (.slice (some a) (L + 1) c) := (r3 _).trans Q0.out
  have g0 := f3 (m * 4)
  clear r3 f3
  go_cut [21] (fun v wx => ∃ R1, (R1 = some (a.add 8) ∨ L = 0) ∧ wx = W3.setCell ⟨g, m * 4, none⟩ (.slice R1 L (c - 1)))
  case first =>
    by_cases h1 : c = 1
    · subst h1
      obtain rfl : L = 0 := by omega
      go_wp2_with (fail)
      go_meet
      exact ⟨some a, .inr (by trivial), rfl⟩
    · go_wp2_with (fail)
      go_meet
      exact ⟨some (a.add 8), .inl rfl, by rw [add_pos a 8 (by omega)]⟩
  case rest =>
    obtain ⟨R1, hR1, hwc⟩ := hcut
    clear c0 g0
    have hlg : g < W3.heap.size := Nat.lt_of_lt_of_le hgl HB3.out.size
    have hNg : g ≠ N := by have := HN.out; omega
    have hg4 : wc.heap[g]? = some (.cells (cur.setIfInBounds (m * 4) (.slice R1 L (c - 1))) MG (0, 0)) := by rw [hwc]; exact set_heap HG3.out _ _
    have ho4 : ∀ q, q ≠ g → wc.heap[q]? = W3.heap[q]? := fun q hq => by rw [hwc]; exact set_other hq
    have hf4 : Fr (fun z => z = g ∨ z = b) w wc := by rw [hwc]; exact (Fr.of HB3.out).trans (Fr.set (.inl rfl) _ _)
    have HA0c := Lib.hid ((ho4 N (by omega)).trans HA0.out)
    have HA1c := Lib.hid ((ho4 (N + 1) (by have := HN.out; omega)).trans HA1.out)
    have HA2c := Lib.hid ((ho4 (N + 1 + 1) (by have := HN.out; omega)).trans HA2.out)
    have hm4' : raw.Holds wc GK b f := HM.out.kept ((ho4 b (by omega)).trans (HB3.out.block b hml)) (fun _ hx => hx)
    have hi4 : IsIn wc S' ks' vs' A' := HIN'.out.stays (fun _ h => h) (fun z hz hl => hf4.block z hl (fun h => h.elim (HS'.out z hz).1 (HS'.out z hz).2))
    have cu : ∀ j, j ≠ m * 4 → (cur.setIfInBounds (m * 4) (.slice R1 L (c - 1)))[j]? = cur[j]? := fun j hj => by rw [Array.getElem?_setIfInBounds_ne (by omega)]
    have FM := findM (S := S') ⟨yb, yn, ys⟩ hg4 ((cu _ (by omega)).trans HQ.out.1) ((cu _ (by omega)).trans HQ.out.2.1) ((cu _ (by omega)).trans HQ.out.2.2) hi4 HL'.out hp hm4' HF.out HS'.out
    have cz : (cur.setIfInBounds (m * 4) (.slice R1 L (c - 1)))[m * 4]? = some (.slice R1 L (c - 1)) := by rw [Array.getElem?_setIfInBounds_self_of_lt (by omega)]
    have HCU := Lib.hid (And.intro (show (cur.setIfInBounds (m * 4) (.slice R1 L (c - 1))).size = cur.size by simp) (And.intro cz cu))
    obtain ⟨cur1, HC1⟩ : ∃ c1, Hid (cur.setIfInBounds (m * 4) (.slice R1 L (c - 1)) = c1) := ⟨_, Lib.hid rfl⟩
    rw [HC1.out] at FM HCU
    have HR1 : Hid (IsIn w S kt ts R1) := Lib.hid (by
      rcases hR1 with rfl | h0
      · exact HIN.out.tail
      · have h1 := HIN.out.1
        have h2 := HL.out
        obtain rfl := List.length_eq_zero_iff.1 (h2.trans h0)
        simp at h1
        subst h1
        exact IsIn.nil _ _ _)
    have HF4 := Lib.hid hf4
    have HI4 := Lib.hid hi4
    have HFM := Lib.hid FM
    unfold kyV at HFM
    obtain ⟨rA2, -⟩ := rowc HA2c.out
    clear hg4 ho4 hf4 hm4' hi4 cu cz FM hwc hR1
    go_wp2_with (fail)
    refine HFM.out.mono ?_
    rintro e w5 ⟨i, bt, p5, arr5, f5, rfl, hT5, hN5, hp5, hMA, hm5, hf5, hfr5⟩
    have HFR : Hid (Fr (fun z => z = g ∨ z = b) w w5) := Lib.hid (HF4.out.trans hfr5)
    have hNb : ∀ z, N ≤ z → z ≠ g ∧ z ≠ b := fun z hz => by have := HN.out; omega
    have hk5 : ∀ (z : Nat) (o : Obj), N ≤ z → wc.heap[z]? = some o → w5.heap[z]? = some o := fun z o hz h => (hfr5.block z (Array.getElem?_eq_some_iff.1 h).1 (fun h => h.elim (hNb z hz).1 (hNb z hz).2)).trans h
    have HA05 := Lib.hid (hk5 N _ (by omega) HA0c.out)
    have HA15 := Lib.hid (hk5 (N + 1) _ (by omega) HA1c.out)
    have HA25 := Lib.hid (hk5 (N + 1 + 1) _ (by omega) HA2c.out)
    have HTK : Hid (∀ w6, Below w.heap.size w5 w6 → Tk w w6 g m cur ⟨some a, c, ⟨yb, yn, ys⟩ :: kt, .mk k1 n1 s1 x1 ks1 vs1 :: ts, A', c', ks', vs', p, b, ks0, vs0⟩ R1 ts.length (c - 1)) := Lib.hid (fun w6 hb6 => by
      have hk := hb6.block
      obtain ⟨z1, z2, z3⟩ := HCU.out
      have h0 := HN.out
      refine ⟨?_, p5, arr5, f5, ?_, (hk g hgl).trans hMA.blk, hMA.size.trans z1, ?_, hMA.at_, fun j h1 h2 => (hMA.other j h2).trans (z3 j h1), hm5.kept (hk b hml) (fun _ hx => hx), hf5⟩
      · have h5 := HFR.out
        exact ⟨hb6.os.trans h5.os, hb6.tape.trans h5.tape, hb6.output.trans h5.output, Nat.le_trans h5.size hb6.size, fun z hz hn => (hb6.block z hz).trans (h5.block z hz hn)⟩
      · show p5 ≤ vs'.length
        rw [← HIN'.out.1]; exact hp5
      · rw [HL.out]
        exact (hMA.other _ (by omega)).trans z2)
    have HMA := Lib.hid hMA
    have HTN := Lib.hid (And.intro hT5 hN5)
    have HI5 : Hid (IsIn w5 S' ks' vs' A') := Lib.hid (HIN'.out.stays (fun _ h => h) (fun z hz hl => HFR.out.block z hl (fun h => h.elim (HS'.out z hz).1 (HS'.out z hz).2)))
    clear hT5 hN5 hp5 hMA hm5 hf5 hfr5 hk5 rA2 HFM
    obtain ⟨rA0, fA0⟩ := rowc HA05.out
    obtain ⟨rA1, fA1⟩ := rowc HA15.out
    obtain ⟨rA2, -⟩ := rowc HA25.out
    cases bt with
    | false =>
      have hgn := getL_none (vs := vs') (HTN.out.2 rfl)
      have HGN := Lib.hid hgn
      clear hgn
      clear rA0 fA0 rA1 fA1 rA2
      go_wp2_with (fail)
      refine (nullValue_i _).mono ?_
      rintro e w6 ⟨rfl, hb6⟩
      have HB6 := Lib.hid hb6
      clear hb6
      go_wp2_with (fail)
      refine (nullValue_i _).mono ?_
      rintro e w7 ⟨rfl, hb7⟩
      have HB7 := Lib.hid (bs HB6.out hb7)
      have HX0 := Lib.hid (carry HB7.out HA05.out)
      have HX1 := Lib.hid (carry HB7.out HA15.out)
      clear hb7
      obtain ⟨rA0, fA0⟩ := rowc HX0.out
      obtain ⟨rA1, fA1⟩ := rowc HX1.out
      go_wp2_with (fail)
      clear rA0 fA0 rA1 fA1
      generalize hwE : (((((w7.setCell ⟨N, 0, none⟩ (.int .i64 0)).setCell ⟨N, 1, none⟩ (.int .i64 0)).setCell ⟨N, 2, none⟩ (.string ⟨#[]⟩)).setCell ⟨N, 3, none⟩ (.int .i64 0)).setCell ⟨N, 4, none⟩ (.slice none 0 0)) = wE
      obtain ⟨rE, oE, bE⟩ := fill5 HX0.out hwE
      generalize hwF : (((((wE.setCell ⟨N + 1, 0, none⟩ (.int .i64 0)).setCell ⟨N + 1, 1, none⟩ (.int .i64 0)).setCell ⟨N + 1, 2, none⟩ (.string ⟨#[]⟩)).setCell ⟨N + 1, 3, none⟩ (.int .i64 0)).setCell ⟨N + 1, 4, none⟩ (.slice none 0 0)) = wF
      obtain ⟨rF, oF, bF⟩ := fill5 ((oE _ (by omega)).trans HX1.out) hwF
      have rG : ∀ j, wF.cell? ⟨N, j, none⟩ = (#[.int .i64 0, .int .i64 0, .string ⟨#[]⟩, .int .i64 0, .slice none 0 0] : Array Value)[j]? := fun j => by
        rw [← rE j]
        exact cell_eq (oF N (by omega))
      refine bodyPost_ret (v := .tuple #[vV 0 0 ⟨#[]⟩ 0 none 0 0, vV 0 0 ⟨#[]⟩ 0 none 0 0, .bool false]) ?_ rfl ?_
      · simp [results, Tryz.results212, go_sem, rF, rG]
      · refine ⟨R1, HTK.out _ ?_, HR1.out, .inl ⟨HGN.out, rfl⟩⟩
        have hNw : w.heap.size ≤ N := by rw [HN.out]; exact Nat.le_refl _
        exact bF _ _ (by omega) (bE _ _ hNw (HB7.out.mono HFR.out.size))
    | true =>
      obtain ⟨h1, h2⟩ := HTN.out.1 rfl
      obtain ⟨j, e1, e2⟩ := pos_rng ks' _ 0 h2
      rw [Nat.zero_add] at e1
      obtain rfl := h1.trans e1
      have hjL : j < L' := by rw [← HL'.out, ← HIN'.out.1]; exact e2
      have hgl2 : Hid (getL ks' vs' ⟨yb, yn, ys⟩ = vs'[j]?) := Lib.hid (by rw [getL_at h2, e1]; simp)
      obtain ⟨a', y', k2, n2, s2, x2, ks2, vs2, A2, c2, rfl, hSa', hky', hvs', ht', -, -, -, hcell'⟩ := HI5.out.item (i := j) (by rw [HL'.out]; exact hjL)
      obtain ⟨L2, HL2⟩ : ∃ L2, Hid (vs2.length = L2) := ⟨_, Lib.hid rfl⟩
      have hab2 : (a'.add (j * 8)).block < w.heap.size := by
        obtain ⟨a3, _, _, _, _, _, _, _, _, _, ea3, -, -, -, -, -, -, -, hcell3⟩ := HIN'.out.item (i := j) (by rw [HL'.out]; exact hjL)
        obtain rfl := Option.some.inj ea3
        exact World.block_lt_of_cell? _ _ hcell3.c0
      have hn1 : N ≠ (a'.add (j * 8)).block := by have := HN.out; omega
      have hn2 : N + 1 ≠ (a'.add (j * 8)).block := by have := HN.out; omega
      have hn3 : N ≠ g := by have := HN.out; omega
      have hn4 : N + 1 ≠ g := by have := HN.out; omega
      have HT2 : Hid (TIn w S' (.mk k2 n2 s2 x2 ks2 vs2) (vV k2 n2 s2 x2 A2 vs2.length c2)) := Lib.hid (by
        obtain ⟨a3, y3, k3, n3, s3, x3, ks3, vs3, A3, c3, ea3, hS3, -, hv3, ht3, -, -, -, hcell3⟩ := HIN'.out.item (i := j) (by rw [HL'.out]; exact hjL)
        rw [hvs'] at hv3
        obtain ⟨rfl, rfl, rfl, rfl, rfl, rfl⟩ : k2 = k3 ∧ n2 = n3 ∧ s2 = s3 ∧ x2 = x3 ∧ ks2 = ks3 ∧ vs2 = vs3 := by simpa using hv3
        obtain rfl := Option.some.inj ea3
        have h7 := hcell3.c7
        have h7' := hcell'.c7
        have hlt7 := World.block_lt_of_cell? _ _ h7
        rw [cell_eq (HFR.out.block _ hlt7 (fun h => h.elim (HS'.out _ (by show S' (a'.add _).block; rw [mem.add_block]; exact hS3)).1 (HS'.out _ (by show S' (a'.add _).block; rw [mem.add_block]; exact hS3)).2))] at h7'
        rw [h7] at h7'
        obtain ⟨rfl, rfl⟩ : A2 = A3 ∧ c2 = c3 := by simpa [eq_comm] using h7'
        exact ht3)
      have HVG : Hid (getL ks' vs' ⟨yb, yn, ys⟩ = some (.mk k2 n2 s2 x2 ks2 vs2)) := Lib.hid (hgl2.out.trans hvs')
      rw [HL2.out] at hcell'
      obtain ⟨-, -, -, d3, d4, d5, d6, d7⟩ := hcell'
      obtain ⟨r5, -⟩ := rowc HMA.out.blk
      have c1' : w5.cell? ⟨g, m * 4 + 1, none⟩ = some (.slice (some a') L' c') := (r5 _).trans ((HMA.out.other _ (by omega)).trans ((HCU.out.2.2 _ (by omega)).trans HQ.out.1))
      clear h1 h2 e1 e2 r5 hky' hvs' ht' hSa' hgl2
      go_wp2_with (fail)
      go_region
      generalize hwE : (((((w5.setCell ⟨N, 0, none⟩ (.int .i64 k1)).setCell ⟨N, 1, none⟩ (.int .i64 n1)).setCell ⟨N, 2, none⟩ (.string s1)).setCell ⟨N, 3, none⟩ (.int .i64 x1)).setCell ⟨N, 4, none⟩ (.slice A1 L1 c1)) = wE
      clear rA0 fA0 rA1 fA1 rA2 d3 d4 d5 d6 d7 c1'
      obtain ⟨rE, oE, bE⟩ := fill5 HA05.out hwE
      generalize hwF : (((((wE.setCell ⟨N + 1, 0, none⟩ (.int .i64 k2)).setCell ⟨N + 1, 1, none⟩ (.int .i64 n2)).setCell ⟨N + 1, 2, none⟩ (.string s2)).setCell ⟨N + 1, 3, none⟩ (.int .i64 x2)).setCell ⟨N + 1, 4, none⟩ (.slice A2 L2 c2)) = wF
      obtain ⟨rF, oF, bF⟩ := fill5 ((oE _ (by omega)).trans HA15.out) hwF
      have rG : ∀ j, wF.cell? ⟨N, j, none⟩ = (#[.int .i64 k1, .int .i64 n1, .string s1, .int .i64 x1, .slice A1 L1 c1] : Array Value)[j]? := fun j => by
        rw [← rE j]
        exact cell_eq (oF N (by omega))
      go_wp2_with (fail)
      refine bodyPost_ret (v := .tuple #[vV k1 n1 s1 x1 A1 L1 c1, vV k2 n2 s2 x2 A2 L2 c2, .bool true]) ?_ rfl ?_
      · simp [results, Tryz.results212, go_sem, rF, rG]
      · refine ⟨R1, HTK.out _ ?_, HR1.out, .inr ⟨_, k1, n1, s1, x1, A1, L1, c1, k2, n2, s2, x2, A2, L2, c2, HVG.out, rfl, HTT.out, by rw [← HL2.out]; exact HT2.out⟩⟩
        have hNw : w.heap.size ≤ N := by rw [HN.out]; exact Nat.le_refl _
        exact (bF _ _ (by omega) (bE _ _ hNw ((Below.refl w5.heap.size w5).mono HFR.out.size))).drew

end Go.Proofs.YtdglmnmalfpipaaGreatDoor.tree

