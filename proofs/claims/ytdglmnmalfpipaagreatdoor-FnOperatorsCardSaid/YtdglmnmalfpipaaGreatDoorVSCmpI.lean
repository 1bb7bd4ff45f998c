/-
  How the project compares two values.
  Conditions: the values hold at most 10^9 items and letters; the table of powers of ten and the project's two errors hold what the program's text lays.
-/
import Derived.Test.YtdglmnmalfpipaaGreatDoorVB19
import Derived.Test.YtdglmnmalfpipaaGreatDoorVSCmpO
import Derived.Deep.DeepCutAuto
import Derived.Deep.RegionWith
import Derived.Maps.AppendAt
namespace Go.Proofs.YtdglmnmalfpipaaGreatDoor.tree
open Go.ChangeShapes Go.WideShapes Go.ChangeAt Go.RowKit ers
set_option linter.unusedVariables false

theorem mgRow : (Tryz.prog.info? MG).map (fun i => (i.zero, i.size, i.bytes)) = some (some (.agg #[.slice none 0 0, .slice none 0 0, .int .i64 0, .map none]), 4, 64) := by kernel_rfl
theorem mg_info : ∃ i, Tryz.prog.info? MG = some i ∧ (i.zero = some (.agg #[.slice none 0 0, .slice none 0 0, .int .i64 0, .map none]) ∧ i.size = 4 ∧ i.bytes = 64) := by
  have := mgRow
  cases hq : Tryz.prog.info? MG with
  | none => rw [hq] at this; cases this
  | some i => rw [hq] at this; simp at this; exact ⟨i, rfl, this⟩
theorem four_new9 (w : World) (a b c d : Value) (t : TypeId) : ∀ j u, [a, b, c, d][j]? = some u → (w.alloc (.cells #[a, b, c, d] t)).cell? ((⟨w.heap.size, 0, none⟩ : Addr).add j) = some u := by
  intro j u hj
  rw [Addr.add_lit, Nat.zero_add, cell_of_row _ _ j _ t _ (heap_alloc_new w _)]
  simpa using hj
theorem al29 {w : World} {B b : Nat} {f : Value → Option Value} (h : raw.Holds w (G2 B) b f) (o : Obj) : raw.Holds (w.alloc o) (G2 B) b f :=
  h.kept (Below.heap_alloc w o b h.lt) (fun x hx => hx.kp (Kp.below (b1 w o)))
theorem zeroBool9 (w : World) : (zeroValue 4).run Tryz.prog w = .ok (.bool false) w := by kernel_rfl

def CutC (w4 : World) (NA NZ : Nat) (C C' : Array Value) (pa : Option Addr) (ma : Int) (pb : Option Addr) (mb : Int) (v : Value) (wx : World) : Prop :=
  ∃ NP, v = .pointer (some ⟨NP, 0, none⟩) ∧ NZ ≤ NP ∧ wx.heap[NP]? = some (.cells #[.pointer pa, .int .i64 ma, .pointer pb, .int .i64 mb] P2 (0, 0)) ∧ Below w4.heap.size w4 wx ∧ wx.heap[NA]? = some (.cells C IV (0, 0)) ∧ wx.heap[NA + 1]? = some (.cells C' IV (0, 0))

theorem getL_totI {ks : List Ky} {vs : List Tr} {y : Ky} {u : Tr} (hl : ks.length = vs.length) (h : getL ks vs y = some u) : tot u ≤ tots ks vs := by
  unfold getL at h
  split at h
  · cases h
  · have hv := (List.getElem?_eq_some_iff.1 h).1
    exact Nat.le_trans (Nat.le_add_left _ _) (it (List.getElem?_eq_getElem (by omega : (pos ks y 0).toNat < ks.length)) h)
where
  it : ∀ {ks : List Ky} {vs : List Tr} {j : Nat} {y : Ky} {t : Tr}, ks[j]? = some y → vs[j]? = some t → y.str.size + tot t ≤ tots ks vs
  | [], _, _, _, _, h, _ => by simp at h
  | _ :: _, [], _, _, _, _, h => by simp at h
  | z :: ks, u :: vs, 0, y, t, h, h' => by
    simp at h h'
    subst h h'
    rw [tots]
    omega
  | z :: ks, u :: vs, j + 1, y, t, h, h' => by
    have := it (ks := ks) (vs := vs) (j := j) (by simpa using h) (by simpa using h')
    rw [tots]
    omega
theorem cstart {w W2 w1 : World} {ks ks' : List Ky} {vs vs' : List Tr} {A A' : Option Addr} {c c' b : Nat} {W : Int} (hlo : IsIn w (Lo w.heap.size w) ks vs A) (hlo' : IsIn w (Lo w.heap.size w) ks' vs' A') (hc : (vs.length ≤ c ∧ c ≤ maxLen) ∧ vs'.length ≤ c' ∧ c' ≤ maxLen)
    (hT : tots ks vs ≤ 1000000000 ∧ tots ks' vs' ≤ 1000000000) (hW : cmpL ks vs ks' vs' = W) (hb2 : Below w.heap.size w W2) (hz2 : W2.heap.size = w.heap.size + 1 + 1 + 1) (hm2 : raw.Holds W2 (G2 w.heap.size) (w.heap.size + 1 + 1) (fun _ => none))
    (hb1 : Below W2.heap.size W2 w1) (hbn : W2.heap.size ≤ b) (hmb : raw.Holds w1 GK b (fun _ => none)) :
    CRel W w.heap.size (w.heap.size + 1 + 1) w (1 + wks vs) (.slice (some ⟨w1.heap.size, 0, none⟩) 1 1) (w1.alloc (.cells #[.slice A vs.length c, .slice A' vs'.length c', .int .i64 0, .map (some b)] MG)) := by
  have hbf : Below w.heap.size w (w1.alloc (.cells #[.slice A vs.length c, .slice A' vs'.length c', .int .i64 0, .map (some b)] MG)) := bs (bs hb2 hb1) (b1 _ _)
  have hk : Kp w.heap.size w _ := Kp.below hbf
  have hmb' := hmb.kept (Below.heap_alloc w1 (.cells #[.slice A vs.length c, .slice A' vs'.length c', .int .i64 0, .map (some b)] MG) b hmb.lt) (fun _ hx => hx)
  have hm1 := hm2.kept (hb1.block _ hm2.lt) (fun x hx => hx.kp (Kp.below hb1))
  have hs1 := hb1.size
  refine ⟨[⟨A, c, ks, vs, A', c', ks', vs', 0, b, ks, vs⟩], fun _ => none, by simp [left9], ⟨fun X hX => ?_, ⟨(thn_zero _).symm, hW⟩, ⟨fun _ h => by simp at h, trivial⟩, fun q z hq => by cases hq⟩,
    ⟨rfl, .inr ⟨w1.heap.size, 1, _, rfl, by omega, heap_alloc_new w1 _, by simp, by simp [maxLen], rfl, rfl⟩⟩, al29 hm1 _, fun X hX => ?_, hbf, fun X hX => ?_⟩
  · obtain rfl := List.mem_singleton.1 hX
    exact ⟨hlo.kp hk, hc.1, hlo'.kp hk, hc.2, Nat.le_refl _, Nat.zero_le _, _, hmb', fun y => by simp [pos]⟩
  · obtain rfl := List.mem_singleton.1 hX
    show w.heap.size + 1 + 1 < b
    omega
  · obtain rfl := List.mem_singleton.1 hX
    exact hT

set_option maxHeartbeats 2000000 in
set_option maxRecDepth 100000 in
theorem compareItems (n : Int) (s : ByteArray) (x : Int) (ks : List Ky) (vs : List Tr) (A : Option Addr) (c : Nat) (n' : Int) (s' : ByteArray) (x' : Int) (ks' : List Ky) (vs' : List Tr) (A' : Option Addr) (c' : Nat) (w : World) (lo lo' : Nat)
    (h : TIn w (Nw lo w) (.mk 4 n s x ks vs) (vV 4 n s x A vs.length c)) (h' : TIn w (Nw lo' w) (.mk 4 n' s' x' ks' vs') (vV 4 n' s' x' A' vs'.length c')) (hN : cnts vs ≤ 1000000000) (hT : tots ks vs ≤ 1000000000) (hT' : tots ks' vs' ≤ 1000000000) (hE : CmE w) :
    Calls Tryz.prog 174 #[vV 4 n s x A vs.length c, vV 4 n' s' x' A' vs'.length c'] w (GivesQ w (.int .i64 (cmpL ks vs ks' vs'))) := by
  obtain ⟨_, _, e1, -, hin⟩ := h.out
  obtain ⟨rfl, rfl⟩ : A = _ ∧ c = _ := by simpa [vV] using e1
  obtain ⟨_, _, e2, -, hin'⟩ := h'.out
  obtain ⟨rfl, rfl⟩ : A' = _ ∧ c' = _ := by simpa [vV] using e2
  have hcap := h.cap
  have hcap' := h'.cap
  have hw0 : 1 + wks vs ≤ 4000000000 := by have := wks_cnts vs; omega
  obtain ⟨L, HL⟩ : ∃ L, Hid (vs.length = L) := ⟨_, Lib.hid rfl⟩
  obtain ⟨L', HL'⟩ : ∃ L, Hid (vs'.length = L) := ⟨_, Lib.hid rfl⟩
  have hlo : IsIn w (Lo w.heap.size w) ks vs A := hin.stays (fun b hb => ⟨hb.2.lt, hb.2⟩) (fun _ _ _ => rfl)
  have hlo' : IsIn w (Lo w.heap.size w) ks' vs' A' := hin'.stays (fun b hb => ⟨hb.2.lt, hb.2⟩) (fun _ _ _ => rfl)
  have HI := Lib.hid hlo
  have HI' := Lib.hid hlo'
  have HCA := Lib.hid (And.intro hcap hcap')
  have HTB := Lib.hid (And.intro hT hT')
  have HEN := Lib.hid hE
  obtain ⟨W, HW⟩ : ∃ W, Hid (cmpL ks vs ks' vs' = W) := ⟨_, Lib.hid rfl⟩
  rw [HL.out, HL'.out, HW.out]
  have NM := Lib.hid (fun w9 => newMatching 4 n s x A L c 4 n' s' x' A' L' c' w9)
  have hmm := @run_makeMap Tryz.prog
  clear e1 e2 h h' hin hin' hcap hcap' hT hT' hE hlo hlo' hN
  go_enter Tryz.func174, Tryz.ntmps174
  go_wp2_with (fail)
  clear hmm
  obtain ⟨W2, HW2⟩ : ∃ W, Hid (((w.alloc (.cells #[.int .i64 4, .int .i64 n, .string s, .int .i64 x, .slice A L c] IV)).alloc (.cells #[.int .i64 4, .int .i64 n', .string s', .int .i64 x', .slice A' L' c'] IV)).alloc (.map #[] 0) = W) := ⟨_, Lib.hid rfl⟩
  have hz2 : Hid (W2.heap.size = w.heap.size + 1 + 1 + 1) := Lib.hid (by rw [← HW2.out]; simp)
  have hb2 : Hid (Below w.heap.size w W2) := Lib.hid (by rw [← HW2.out]; exact bs (b2 w _ _) (b1 _ _))
  have hm2 : Hid (raw.Holds W2 (G2 w.heap.size) (w.heap.size + 1 + 1) (fun _ => none)) := Lib.hid (by
    have := raw.Holds.made ((w.alloc (.cells #[.int .i64 4, .int .i64 n, .string s, .int .i64 x, .slice A L c] IV)).alloc (.cells #[.int .i64 4, .int .i64 n', .string s', .int .i64 x', .slice A' L' c'] IV)) (G2 w.heap.size)
    rw [show ((w.alloc (.cells #[.int .i64 4, .int .i64 n, .string s, .int .i64 x, .slice A L c] IV)).alloc (.cells #[.int .i64 4, .int .i64 n', .string s', .int .i64 x', .slice A' L' c'] IV)).heap.size = w.heap.size + 1 + 1 by simp] at this
    rw [← HW2.out]
    exact this)
  rw [HW2.out]
  refine (NM.out _).mono ?_
  rintro e w1 ⟨b, rfl, hbn, hmb, hb1⟩
  have HST0 := Lib.hid (cstart HI.out HI'.out HCA.out HTB.out HW.out hb2.out hz2.out hm2.out hb1 hbn hmb)
  rw [HL.out, HL'.out] at HST0
  clear hbn hmb hb1 hz2 hb2 hm2 HW2 HI HI' HCA HTB NM
  go_wp2_with (fail)
  go_loopg [6] (1 + wks vs) (fun gk way wr => CRel W w.heap.size (w.heap.size + 1 + 1) w gk way wr ∧ gk ≤ 1 + wks vs)
  case atStart => exact ⟨HST0.out, Nat.le_refl _⟩
  case round =>
    obtain ⟨⟨G, e, hgk, hst, hrow, hm1, hE9, hb, htb⟩, hle⟩ := hrel
    clear HST0
    cases G with
    | nil =>
      obtain ⟨A0, c0, rfl⟩ := hrow.nil
      have HFI := Lib.hid hst.fine
      have HB := Lib.hid hb
      clear hgk hst hrow hm1 hE9 hb htb
      go_wp2_with (fail)
      go_ret
      exact ⟨by rw [HFI.out]; rfl, HB.out⟩
    | cons F G =>
      obtain ⟨g, cc, cur, rfl, hgB, hg, hlc, hcm, hcs, hq⟩ := hrow.top
      obtain ⟨m, HM⟩ : ∃ m, Hid (G.length = m) := ⟨_, Lib.hid rfl⟩
      have hmb : m ≤ 4000000000 := by
        have h1 := left9_len G
        have h2 := HM.out
        rw [left9] at hgk
        omega
      rw [HM.out] at hlc hq ⊢
      obtain ⟨rg, -⟩ := rowc hg
      have c0 := (rg _).trans (hq 0 (by omega))
      have hF := hst.ok _ List.mem_cons_self
      obtain ⟨R, c9, ks9, vs9, A9, c9', ks9', vs9', p9, b9, ks0, vs0⟩ := F
      simp only [Mt.cells, Nat.add_zero, List.getElem?_cons_zero] at c0
      have HG := Lib.hid hg
      have HGK := Lib.hid hgk
      have HST := Lib.hid hst
      have HROW := Lib.hid hrow
      have HM1 := Lib.hid hm1
      have HE9 := Lib.hid hE9
      have HB := Lib.hid hb
      have HTB := Lib.hid htb
      have HQ := Lib.hid hq
      have HF := Lib.hid hF
      clear hg hgk hst hrow hm1 hE9 hb htb hq hF rg
      unfold maxLen at hcm
      cases vs9 with
      | nil =>
        simp only [List.length_nil] at c0
        go_wp2_with (fail)
        go_roundg (left9 G)
        case rel =>
          have hp := HROW.out.pop
          rw [HM.out] at hp
          refine ⟨⟨G, e, rfl, HST.out.pop rfl, hp, HM1.out, fun X hX => HE9.out X (List.mem_cons_of_mem _ hX), HB.out, fun X hX => HTB.out X (List.mem_cons_of_mem _ hX)⟩, ?_⟩
          have := HGK.out
          rw [left9] at this
          omega
        case measure =>
          have := HGK.out
          rw [left9] at this
          omega
      | cons t ts =>
        cases ks9 with
        | nil => have := HF.out.isin.1; simp at this
        | cons y kt =>
          obtain ⟨f9, hmf, hff⟩ := HF.out.map
          have hEB9 : w.heap.size + 1 + 1 < b9 := HE9.out _ List.mem_cons_self
          have hSS : ∀ z, Lo w.heap.size wr z → z ≠ g ∧ z ≠ b9 := fun z hz => ⟨by have := hz.1; omega, fun e1 => hold_np hmf (e1 ▸ hz.2)⟩
          have TK := takeM (S := Lo w.heap.size wr) (S' := Lo w.heap.size wr) HG.out HQ.out rfl rfl HF.out.isin HF.out.cap HF.out.isin' HF.out.hp hmf hff hSS hSS
          have HTK0 := Lib.hid TK
          obtain ⟨Lr, HLr⟩ : ∃ L, Hid (ts.length = L) := ⟨_, Lib.hid rfl⟩
          simp only [List.length_cons] at c0
          rw [HLr.out] at c0
          clear TK hmf hff hSS hEB9
          go_wp2_with (fail)
          refine HTK0.out.mono ?_
          rintro e0 w4 ⟨R1, hTk, hR1, hres⟩
          obtain ⟨hb4, hkp4, hnone, hsome⟩ := CSt.took HST.out HROW.out HM1.out HE9.out (Nat.le_refl _) (by omega) HB.out hgB HG.out (by rw [HM.out]; exact HQ.out) rfl rfl (by rw [HM.out]; exact hTk) hR1 ⟨by have := HF.out.cap; simp at this; simp; omega, by have := HF.out.cap; simp at this; simp; omega⟩
          have HB4 := Lib.hid hb4
          have HK4 := Lib.hid hkp4
          have HNO := Lib.hid hnone
          have HSO := Lib.hid hsome
          clear hb4 hkp4 hnone hsome hTk hR1 c0 HTK0
          rcases hres with ⟨hn, rfl⟩ | ⟨u, k1, n1, s1, x1, A1, L1, c1, k2, n2, s2, x2, A2, L2, c2, hu, rfl, ht1, ht2⟩
          · have HW2 := Lib.hid (HNO.out hn)
            clear hn HNO HSO
            go_wp2_with (fail)
            go_ret
            exact ⟨by rw [HW2.out]; rfl, bs HB4.out (b2 w4 _ _)⟩
          · have hle0 := HTB.out _ List.mem_cons_self
            have htt : tot t ≤ 1000000000 := by
              have h1 : tots (y :: kt) (t :: ts) ≤ 1000000000 := hle0.1
              rw [tots_cons] at h1
              omega
            have htu : tot u ≤ 1000000000 := Nat.le_trans (getL_totI HF.out.isin'.1 hu) hle0.2
            obtain ⟨F8, hst', hrow', hm', hE', hleft, ⟨e1, e2, e3, e4⟩, hcnt⟩ := HSO.out u hu
            have htb' : ∀ X ∈ F8 :: G, TbM X := fun X hX => by
              rcases List.mem_cons.1 hX with rfl | hX
              · refine ⟨?_, by rw [e3, e4]; exact hle0.2⟩
                rw [e1, e2]
                have h1 : tots (y :: kt) (t :: ts) ≤ 1000000000 := hle0.1
                rw [tots_cons] at h1
                omega
              · exact HTB.out X (List.mem_cons_of_mem _ hX)
            have hT1 := ht1.kp HK4.out
            have hT2 := ht2.kp HK4.out
            have hleft2 : left9 (F8 :: G) + wk t = gk := hleft.trans HGK.out.symm
            clear hle0 hleft ht1 ht2 hu HNO HSO e1 e2 e3 e4 HST HROW HM1 HE9 HTB HQ HF HG HGK
            obtain ⟨_, _, _, _, ks1, vs1⟩ := t
            obtain ⟨_, _, q1, -, hin1⟩ := hT1.out
            obtain ⟨rfl, rfl, rfl, rfl, rfl, rfl, rfl⟩ : _ = _ ∧ _ = _ ∧ _ = _ ∧ _ = _ ∧ _ = _ ∧ _ = _ ∧ _ = _ := by simpa [vV] using q1
            obtain ⟨_, _, _, _, ks2, vs2⟩ := u
            obtain ⟨_, _, q2, -, hin2⟩ := hT2.out
            obtain ⟨rfl, rfl, rfl, rfl, rfl, rfl, rfl⟩ : _ = _ ∧ _ = _ ∧ _ = _ ∧ _ = _ ∧ _ = _ ∧ _ = _ ∧ _ = _ := by simpa [vV] using q2
            have hcap1 := hT1.cap
            have hcap2 := hT2.cap
            have CO : ∀ w', Below w4.heap.size w4 w' → Calls Tryz.prog 173 #[vV k1 n1 s1 x1 A1 vs1.length c1, vV k2 n2 s2 x2 A2 vs2.length c2] w' (GivesQ w' (.int .i64 (ordO (.mk k1 n1 s1 x1 ks1 vs1) (.mk k2 n2 s2 x2 ks2 vs2)))) := fun w' hb => compareOutside _ _ _ _ w' _ _ (hT1.below' hb) (hT2.below' hb) htt htu (HEN.out.stays (bs HB4.out hb))
            have hp1 : PlB w.heap.size w4 (plc A1 vs1.length) ks1 vs1 := ⟨A1, hin1, rfl⟩
            have hp2 : PlB w.heap.size w4 (plc A2 vs2.length) ks2 vs2 := ⟨A2, hin2, rfl⟩
            obtain ⟨pa, ma, hpl1⟩ := plc_form A1 vs1.length
            obtain ⟨pb, mb, hpl2⟩ := plc_form A2 vs2.length
            have some_of : ∀ {w : World} {S : Nat → Prop} {ks : List Ky} {vs : List Tr} {A : Option Addr}, IsIn w S ks vs A → 0 < vs.length → ∃ a, A = some a := fun hi h0 => by
              obtain ⟨_, _, C, hc, _⟩ := hi
              obtain ⟨a, ha, _⟩ := hc 0 h0
              exact ⟨a, ha⟩
            obtain ⟨L1, HL1⟩ : ∃ L, Hid (L = vs1.length) := ⟨_, Lib.hid rfl⟩
            obtain ⟨L2, HL2⟩ : ∃ L, Hid (L = vs2.length) := ⟨_, Lib.hid rfl⟩
            have PO1 : ∀ w, Calls Tryz.prog 92 #[.slice A1 L1 c1] w (GivesQ w (.agg #[.pointer pa, .int .i64 ma])) := fun w => by rw [HL1.out, ← hpl1]; exact placeOf A1 vs1.length c1 hin1.2.1 (some_of hin1) w
            have PO2 : ∀ w, Calls Tryz.prog 92 #[.slice A2 L2 c2] w (GivesQ w (.agg #[.pointer pb, .int .i64 mb])) := fun w => by rw [HL2.out, ← hpl2]; exact placeOf A2 vs2.length c2 hin2.2.1 (some_of hin2) w
            have hkey : G2 w.heap.size w4 (.agg #[.pointer pa, .int .i64 ma, .pointer pb, .int .i64 mb]) := by
              obtain ⟨p, n, e1, h1⟩ := hp1.gb
              obtain ⟨q, m, e2, h2⟩ := hp2.gb
              rw [hpl1] at e1
              rw [hpl2] at e2
              simp at e1 e2
              obtain ⟨rfl, rfl⟩ := e1
              obtain ⟨rfl, rfl⟩ := e2
              exact ⟨_, _, _, _, rfl, h1, h2⟩
            have hpq : pq (plc A1 vs1.length) (plc A2 vs2.length) = .agg #[.pointer pa, .int .i64 ma, .pointer pb, .int .i64 mb] := by rw [hpl1, hpl2]; rfl
            have hglt : g < w4.heap.size := (hrow'.own g rfl).2.1
            have AR := Lib.hid (fun w9 => areArrays k1 n1 s1 x1 A1 L1 c1 k2 n2 s2 x2 A2 L2 c2 w9)
            have NM2 := Lib.hid (fun w9 => newMatching k1 n1 s1 x1 A1 L1 c1 k2 n2 s2 x2 A2 L2 c2 w9)
            obtain ⟨z, HZ⟩ : ∃ z, Hid (ordO (.mk k1 n1 s1 x1 ks1 vs1) (.mk k2 n2 s2 x2 ks2 vs2) = z) := ⟨_, Lib.hid rfl⟩
            rw [← HL1.out, ← HL2.out, HZ.out] at CO
            have HTX : Hid (tots ks1 vs1 ≤ 1000000000 ∧ tots ks2 vs2 ≤ 1000000000) := Lib.hid (by rw [tot_mk] at htt htu; omega)
            have HCO := Lib.hid CO
            have HST := Lib.hid hst'
            have HROW := Lib.hid hrow'
            have HM1 := Lib.hid hm'
            have HE9 := Lib.hid hE'
            have HTB := Lib.hid htb'
            have HPQ := Lib.hid hpq
            have HP1 := Lib.hid hp1
            have HP2 := Lib.hid hp2
            have HKEY := Lib.hid hkey
            have HI1 := Lib.hid (And.intro hin1 hin2)
            have HCP := Lib.hid (And.intro hcap1 hcap2)
            have HCN := Lib.hid hcnt
            have HLF := Lib.hid hleft2
            clear CO hst' hrow' hm' hE' htb' hpq hp1 hp2 hkey hin1 hin2 hcap1 hcap2 hcnt hleft2 hT1 hT2 q1 q2 htt htu hpl1 hpl2
            rw [HM.out] at HROW
            have WB : Hid (∀ w', Below w4.heap.size w4 w' → Below w.heap.size w w') := Lib.hid (fun w' hb => bs HB4.out hb)
            have RND : Hid (cmpT (.mk k1 n1 s1 x1 ks1 vs1) (.mk k2 n2 s2 x2 ks2 vs2) = 0 → ∀ w', Below w4.heap.size w4 w' → (CRel W w.heap.size (w.heap.size + 1 + 1) w (left9 (F8 :: G)) (.slice (some ⟨g, 0, none⟩) (m + 1) cc) w' ∧ left9 (F8 :: G) ≤ 1 + wks vs) ∧ left9 (F8 :: G) < gk) := Lib.hid (fun h0 w' hb => by
              have h1 := HST.out
              rw [h0] at h1
              have h2 := HLF.out
              rw [wk_mk] at h2
              exact ⟨⟨⟨F8 :: G, e, rfl, h1.kp (Kp.below hb) (fun X hX => hb.block _ (h1.ok X hX).lt), HROW.out.below hb, HM1.out.kept (hb.block _ HM1.out.lt) (fun x hx => hx.kp (Kp.below hb)), HE9.out, bs HB4.out hb, HTB.out⟩, by omega⟩, by omega⟩)
            rw [← HL1.out, ← HL2.out]
            go_wp2_with (fail)
            refine (HCO.out _ (b2 w4 _ _)).mono ?_
            rintro e0 w5 ⟨rfl, hb5⟩
            have eA := carry hb5 (heap_alloc2_old w4 _ _)
            have eB := carry hb5 (heap_alloc2_new w4 _ _)
            have HBC := Lib.hid (bs (b2 w4 _ _) hb5)
            by_cases hz : z = 0
            · subst hz
              obtain ⟨NZ, hNZ⟩ : ∃ NZ, NZ = w5.heap.size := ⟨_, rfl⟩
              have HNZ := Lib.hid hNZ
              have HNZB : Hid (w4.heap.size ≤ NZ) := Lib.hid (by rw [hNZ]; exact HBC.out.size)
              have HNAZ : Hid (w4.heap.size < NZ) := Lib.hid (by rw [hNZ]; exact (Array.getElem?_eq_some_iff.1 eA).1)
              have HNBZ : Hid (w4.heap.size + 1 < NZ) := Lib.hid (by rw [hNZ]; exact (Array.getElem?_eq_some_iff.1 eB).1)
              clear hNZ
              obtain ⟨NA, hNA⟩ : ∃ N, N = w4.heap.size := ⟨_, rfl⟩
              rw [← hNA] at eA eB ⊢
              have HNA := Lib.hid hNA
              have HNAZ : Hid (NA < NZ) := Lib.hid (by rw [hNA]; exact HNAZ.out)
              have HNBZ : Hid (NA + 1 < NZ) := Lib.hid (by rw [hNA]; exact HNBZ.out)
              have EA := Lib.hid eA
              have EB := Lib.hid eB
              obtain ⟨rA, -⟩ := rowc eA
              obtain ⟨rB, -⟩ := rowc eB
              clear hb5 eA eB hNA
              go_wp2_with (fail)
              go_cut [12] (fun s12 wx => CutC w4 NA NZ #[.int .i64 k1, .int .i64 n1, .string s1, .int .i64 x1, .slice A1 L1 c1] #[.int .i64 k2, .int .i64 n2, .string s2, .int .i64 x2, .slice A2 L2 c2] pa ma pb mb s12 wx)
              case first =>
                have HZ : Hid (NZ ≤ w5.heap.size) := Lib.hid (Nat.le_of_eq HNZ.out)
                have lA0 : NA < w5.heap.size := (Array.getElem?_eq_some_iff.1 EA.out).1
                have lB0 : NA + 1 < w5.heap.size := (Array.getElem?_eq_some_iff.1 EB.out).1
                go_region_with (first
                  | (go_at_call_of 92 A1; refine (PO1 _).mono ?_
                     rintro e0 wz ⟨rfl, hbz⟩
                     have HBX : Hid (Below w4.heap.size w4 wz) := Lib.hid (by
                       have hs := HBC.out.size
                       first
                         | exact bs HBC.out hbz
                         | exact bs (HBC.out.drew) hbz
                         | exact bs (HBC.out.alloc hs _) hbz
                         | exact bs (HBC.out.drew.alloc hs _) hbz)
                     have EAX : Hid (wz.heap[NA]? = _) := Lib.hid (by first | exact carry hbz EA.out | exact carry hbz (keepAlloc EA.out))
                     have EBX : Hid (wz.heap[NA + 1]? = _) := Lib.hid (by first | exact carry hbz EB.out | exact carry hbz (keepAlloc EB.out))
                     have HZX : Hid (NZ ≤ wz.heap.size) := Lib.hid (Nat.le_trans HZ.out (Nat.le_trans (by simp) hbz.size))
                     try (have EPX := carry hbz EP.out
                          clear EP
                          have EP := Lib.hid EPX
                          clear EPX)
                     try (with_reducible (have EPX := carry hbz (heap_alloc_new _ (.cells #[.pointer none, .int .i64 0, .pointer none, .int .i64 0] 190)))
                          try simp only [heap_drew] at EPX
                          have EP := Lib.hid EPX
                          have HPZ := Lib.hid HZ.out
                          clear EPX)
                     clear HBC EA EB rA rB hbz HZ
                     try clear rP fP
                     have HBC := Lib.hid HBX.out
                     have EA := Lib.hid EAX.out
                     have EB := Lib.hid EBX.out
                     have HZ := Lib.hid HZX.out
                     clear HBX EAX EBX HZX
                     try (have EPY := rowc EP.out
                          obtain ⟨rP, fP⟩ := EPY)
                     have lA : NA < wz.heap.size := (Array.getElem?_eq_some_iff.1 EA.out).1
                     have lB : NA + 1 < wz.heap.size := (Array.getElem?_eq_some_iff.1 EB.out).1
                     obtain ⟨rA, -⟩ := rowc EA.out
                     obtain ⟨rB, -⟩ := rowc EB.out)
                  | (go_at_call_of 92 A2; refine (PO2 _).mono ?_
                     rintro e0 wz ⟨rfl, hbz⟩
                     have HBX : Hid (Below w4.heap.size w4 wz) := Lib.hid (by
                       have hs := HBC.out.size
                       first
                         | exact bs HBC.out hbz
                         | exact bs (HBC.out.drew) hbz
                         | exact bs (HBC.out.alloc hs _) hbz
                         | exact bs (HBC.out.drew.alloc hs _) hbz)
                     have EAX : Hid (wz.heap[NA]? = _) := Lib.hid (by first | exact carry hbz EA.out | exact carry hbz (keepAlloc EA.out))
                     have EBX : Hid (wz.heap[NA + 1]? = _) := Lib.hid (by first | exact carry hbz EB.out | exact carry hbz (keepAlloc EB.out))
                     have HZX : Hid (NZ ≤ wz.heap.size) := Lib.hid (Nat.le_trans HZ.out (Nat.le_trans (by simp) hbz.size))
                     try (have EPX := carry hbz EP.out
                          clear EP
                          have EP := Lib.hid EPX
                          clear EPX)
                     try (with_reducible (have EPX := carry hbz (heap_alloc_new _ (.cells #[.pointer none, .int .i64 0, .pointer none, .int .i64 0] 190)))
                          try simp only [heap_drew] at EPX
                          have EP := Lib.hid EPX
                          have HPZ := Lib.hid HZ.out
                          clear EPX)
                     clear HBC EA EB rA rB hbz HZ
                     try clear rP fP
                     have HBC := Lib.hid HBX.out
                     have EA := Lib.hid EAX.out
                     have EB := Lib.hid EBX.out
                     have HZ := Lib.hid HZX.out
                     clear HBX EAX EBX HZX
                     try (have EPY := rowc EP.out
                          obtain ⟨rP, fP⟩ := EPY)
                     have lA : NA < wz.heap.size := (Array.getElem?_eq_some_iff.1 EA.out).1
                     have lB : NA + 1 < wz.heap.size := (Array.getElem?_eq_some_iff.1 EB.out).1
                     obtain ⟨rA, -⟩ := rowc EA.out
                     obtain ⟨rB, -⟩ := rowc EB.out))
                all_goals
                  go_wp2_with (fail)
                  go_meet
                  first
                    | exact ⟨_, rfl, HZ.out, heap_alloc_new _ _, HBC.out.alloc HBC.out.size _, keepAlloc EA.out, keepAlloc EB.out⟩
                    | (have hne : ∀ q, q < NZ → q ≠ _ := fun q hq => Nat.ne_of_lt (Nat.lt_of_lt_of_le hq HPZ.out)
                       refine ⟨_, rfl, HPZ.out, set_heap (set_heap (set_heap (set_heap EP.out 0 _) 1 _) 2 _) 3 _, ?_, ?_, ?_⟩
                       · have hle := Nat.le_trans HNZB.out HPZ.out
                         exact (((HBC.out.setCell hle _).setCell hle _).setCell hle _).setCell hle _
                       · have hq := hne NA HNAZ.out
                         exact (set_other hq).trans ((set_other hq).trans ((set_other hq).trans ((set_other hq).trans EA.out)))
                       · have hq := hne (NA + 1) HNBZ.out
                         exact (set_other hq).trans ((set_other hq).trans ((set_other hq).trans ((set_other hq).trans EB.out))))
              case rest =>
                obtain ⟨NP, rfl, hNZP, hP, hBx, hxA, hxB⟩ := hcut
                have HBX := Lib.hid hBx
                have EP := Lib.hid hP
                have EA' := Lib.hid hxA
                have EB' := Lib.hid hxB
                obtain ⟨rA7, -⟩ := rowc hxA
                obtain ⟨rB7, -⟩ := rowc hxB
                clear hP hBx hxA hxB rA rB EA EB HBC
                by_cases h4 : k1 = 4 ∧ k2 = 4
                · obtain ⟨rfl, rfl⟩ := h4
                  have hcm : cmpT (.mk 4 n1 s1 x1 ks1 vs1) (.mk 4 n2 s2 x2 ks2 vs2) = cmpL ks1 vs1 ks2 vs2 := by rw [cmpT_mk, if_pos ⟨HZ.out, rfl, rfl⟩]
                  have h44 : (decide ((4 : Int) = 4) && decide ((4 : Int) = 4)) = true := rfl
                  have AR4 := AR
                  rw [h44] at AR4
                  have hlt1 : cnts vs1 < cnts F8.vs0 := by have := HCN.out; rw [cnt_mk] at this; omega
                  have HCM := Lib.hid hcm
                  have HLT1 := Lib.hid hlt1
                  clear hcm h44 AR hlt1
                  cases hek : e (.agg #[.pointer pa, .int .i64 ma, .pointer pb, .int .i64 mb]) with
                  | some zz =>
                    have HK0 : Hid (zz = .bool true ∧ cmpL ks1 vs1 ks2 vs2 = 0) := Lib.hid (HST.out.known HP1.out HP2.out HLT1.out (by rw [HPQ.out]; exact hek))
                    obtain rfl := HK0.out.1
                    have HEK := Lib.hid hek
                    clear hek
                    go_wp2_with (fail)
                    refine (AR4.out _).mono ?_
                    rintro e0 w7 ⟨rfl, hb7⟩
                    have HB7 := Lib.hid (bs HBX.out hb7)
                    obtain ⟨rP, -⟩ := rowc (carry hb7 EP.out)
                    have hm17 : raw.Holds w7 (G2 w.heap.size) (w.heap.size + 1 + 1) e := HM1.out.kept (HB7.out.block _ HM1.out.lt) (fun x hx => hx.kp (Kp.below HB7.out))
                    have hk7 := HKEY.out.kp (Kp.below HB7.out)
                    clear hb7 rA7 rB7
                    go_wp2_with (first | (at_lookup; refine raw.wpList_lookup_w _ (by rfl) _ _ 186 false rfl hm17 (good_g2 _) Tryz.underlying186 (zeroBool9 _) rfl rfl hk7 HEK.out (got1_some _ _) ?_) | fail)
                    go_roundg (left9 (F8 :: G))
                    case rel => exact (RND.out (HCM.out.trans HK0.out.2) _ HB7.out).1
                    case measure => exact (RND.out (HCM.out.trans HK0.out.2) _ HB7.out).2
                  | none =>
                    have HEK := Lib.hid hek
                    obtain ⟨i0, hi, hz⟩ := mg_info
                    have HII := Lib.hid hi
                    have HZZ := Lib.hid hz
                    clear hek hi hz
                    go_wp2_with (fail)
                    refine (AR4.out _).mono ?_
                    rintro e0 w7 ⟨rfl, hb7⟩
                    have HB7 := Lib.hid (bs HBX.out hb7)
                    have EA7 := Lib.hid (carry hb7 EA'.out)
                    have EB7 := Lib.hid (carry hb7 EB'.out)
                    have EP7 := Lib.hid (carry hb7 EP.out)
                    obtain ⟨rP, -⟩ := rowc EP7.out
                    have hm17 : raw.Holds w7 (G2 w.heap.size) (w.heap.size + 1 + 1) e := HM1.out.kept (HB7.out.block _ HM1.out.lt) (fun x hx => hx.kp (Kp.below HB7.out))
                    have HM17 := Lib.hid hm17
                    have hk7 := HKEY.out.kp (Kp.below HB7.out)
                    have hNE : w.heap.size + 1 + 1 < w4.heap.size := HM1.out.lt
                    clear hb7 rA7 rB7
                    go_wp2_with (first
                      | (at_lookup; refine raw.wpList_lookup_w _ (by rfl) _ _ 186 false rfl hm17 (good_g2 _) Tryz.underlying186 (zeroBool9 _) rfl rfl hk7 HEK.out (got1_none _) ?_)
                      | (at_mapUpdate; refine raw.wpList_update _ rfl _ _ _ 186 rfl hm17 (good_g2 _) (g2_stays _) Tryz.underlying186 rfl rfl rfl hk7 ?_
                         intro w8 hm18 hgr8
                         have HM18 := Lib.hid hm18
                         have HGR8 := Lib.hid hgr8
                         obtain ⟨rA8, _⟩ := rowc ((hgr8.block NA (Array.getElem?_eq_some_iff.1 EA7.out).1 (by intro h; injection h with h; have := HNA.out; omega)).trans EA7.out)
                         obtain ⟨rB8, _⟩ := rowc ((hgr8.block (NA + 1) (Array.getElem?_eq_some_iff.1 EB7.out).1 (by intro h; injection h with h; have := HNA.out; omega)).trans EB7.out)
                         clear hm18 hgr8)
                      | fail)
                    refine (NM2.out _).mono ?_
                    rintro e0 w9 ⟨bn, rfl, hbn9, hmb9, hb9⟩
                    have HR9 := Lib.hid (((HROW.out.below HB7.out).keptN HGR8.out (hold_np HM17.out)).below hb9)
                    have HBN := Lib.hid (And.intro hbn9 (And.intro hmb9 hb9))
                    have hRL : (F8 :: G).length = m + 1 := by have := HM.out; simp; omega
                    have hrw : w9.ownsRow w.heap.size MG 4 (.slice (some ⟨g, 0, none⟩) (m + 1) cc) (m + 1) ((F8 :: G).reverse.flatMap Mt.cells) := by
                      have := HR9.out
                      unfold CRow at this
                      rwa [hRL] at this
                    have HRW := Lib.hid hrw
                    have hs9 : w.heap.size ≤ w9.heap.size := by
                      have q1 := HB4.out.size
                      have q2 := HB7.out.size
                      have q3 := HGR8.out.size
                      have q4 := hb9.size
                      omega
                    clear hbn9 hmb9 hb9 rA8 rB8 rP hm17 hk7 hrw hRL
                    go_wp2_with (first
                      | (at_builtin; refine wpList_append_own _ rfl _ _ 224 rfl w.heap.size MG i0 _ 4 64 Tryz.underlying224 HII.out HZZ.out.1 HZZ.out.2.1 HZZ.out.2.2 rfl (by decide) _ (m + 1) _ rfl (HRW.out.alloc _) ⟨w9.heap.size, 0, none⟩ 1 1 [.slice A1 L1 c1, .slice A2 L2 c2, .int .i64 0, .map (some bn)] rfl rfl (four_new9 _ _ _ _ _ _) (by intro u hu; simp at hu; rcases hu with rfl | rfl | rfl | rfl <;> rfl) (by unfold maxLen; omega) (by omega) (by simp; omega) ?_
                         intro v' w10 hown' hgrow' hnil
                         have HR10 := Lib.hid hown'
                         have HG10 := Lib.hid hgrow'
                         clear hown' hgrow' hnil)
                      | fail)
                    go_roundg (1 + wks vs1 + left9 (F8 :: G))
                    case rel =>
                      have hk04 : Kp w.heap.size w4 w4 := Kp.refl _ _
                      have hst := HST.out
                      rw [HCM.out] at hst
                      have h2 := HLF.out
                      rw [wk_mk] at h2
                      have hm18 := HM18.out
                      rw [← HPQ.out] at hm18
                      obtain ⟨hb1', hb2', hb3'⟩ := HBN.out
                      have hrow10 := HR10.out
                      rw [← HM.out, HL1.out, HL2.out] at hrow10
                      refine ⟨CRel.push hst HM1.out HE9.out (Nat.le_refl _) (by omega) HB4.out HI1.out.1 HCP.out.1 HI1.out.2 HCP.out.2 HLT1.out HB7.out HM17.out hm18 HGR8.out (bs hb3' (b1 _ _)) hb1' (hb2'.kept (Below.heap_alloc w9 _ bn hb2'.lt) (fun _ hx => hx)) hrow10 HG10.out (fun k hk => ?_) HTB.out HTX.out, by omega⟩
                      obtain ⟨h5, h6, cs, tt, h7⟩ := HR9.out.own g rfl
                      obtain rfl : g = k := by injection hk
                      exact ⟨h5, cs, tt, keepAlloc h7⟩
                    case measure =>
                      have h2 := HLF.out
                      rw [wk_mk] at h2
                      omega
                · have hcm : cmpT (.mk k1 n1 s1 x1 ks1 vs1) (.mk k2 n2 s2 x2 ks2 vs2) = 0 := by rw [cmpT_mk, if_neg (fun h => h4 h.2)]; exact HZ.out
                  have h44 : (decide (k1 = 4) && decide (k2 = 4)) = false := by
                    by_cases h5 : k1 = 4
                    · rw [decide_eq_true h5, decide_eq_false (fun h6 => h4 ⟨h5, h6⟩)]; rfl
                    · rw [decide_eq_false h5]; rfl
                  have AR4 := AR
                  rw [h44] at AR4
                  have HCM := Lib.hid hcm
                  clear hcm h44 AR h4
                  go_wp2_with (fail)
                  refine (AR4.out _).mono ?_
                  rintro e0 w7 ⟨rfl, hb7⟩
                  have HB7 := Lib.hid (bs HBX.out hb7)
                  clear hb7 rA7 rB7
                  go_wp2_with (fail)
                  go_roundg (left9 (F8 :: G))
                  case rel => exact (RND.out HCM.out _ HB7.out).1
                  case measure => exact (RND.out HCM.out _ HB7.out).2
            · have hc : cmpT (.mk k1 n1 s1 x1 ks1 vs1) (.mk k2 n2 s2 x2 ks2 vs2) = z := by rw [cmpT_mk, HZ.out, if_neg (fun h => hz h.1)]
              have h1 := HST.out
              rw [hc] at h1
              have HWZ := Lib.hid (h1.stop hz)
              have HB5 := Lib.hid (WB.out _ HBC.out)
              clear hc h1 RND WB
              go_wp2_with (fail)
              go_ret
              exact ⟨by rw [HWZ.out]; rfl, HB5.out⟩

end Go.Proofs.YtdglmnmalfpipaaGreatDoor.tree

