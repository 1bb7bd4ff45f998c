/-
  IsPlain of the project and of the model.
  Conditions: those that each theorem names.
-/
import Derived.Test.YtdglmnmalfpipaaGreatDoorSAB4
namespace Go.Proofs.YtdglmnmalfpipaaGreatDoor.tree
open Go.ChangeShapes Go.WideShapes Go.ChangeAt Go.RowKit
set_option linter.unusedVariables false

def kindB (k : Int) : Bool := decide (0 ≤ k) && decide (k ≤ 4)
theorem plainKind (k : Int) (w : World) : Calls Tryz.prog 91 #[.int .i64 k] w fun e w' => e = .returned (.bool (kindB k)) ∧ w = w' := by
  unfold kindB
  by_cases h0 : k = 0
  · subst h0
    go_enter Tryz.func91, Tryz.ntmps91
    go_wp2
    go_ret
    exact ⟨rfl, rfl⟩
  by_cases h1 : k = 1
  · subst h1
    go_enter Tryz.func91, Tryz.ntmps91
    go_wp2
    go_ret
    exact ⟨rfl, rfl⟩
  by_cases h2 : k = 2
  · subst h2
    go_enter Tryz.func91, Tryz.ntmps91
    go_wp2
    go_ret
    exact ⟨rfl, rfl⟩
  by_cases h3 : k = 3
  · subst h3
    go_enter Tryz.func91, Tryz.ntmps91
    go_wp2
    go_ret
    exact ⟨rfl, rfl⟩
  by_cases h4 : k = 4
  · subst h4
    go_enter Tryz.func91, Tryz.ntmps91
    go_wp2
    go_ret
    exact ⟨rfl, rfl⟩
  · have e : (decide (0 ≤ k) && decide (k ≤ 4)) = false := by simp; omega
    rw [e]
    clear e
    go_enter Tryz.func91, Tryz.ntmps91
    go_wp2
    go_ret
    exact ⟨rfl, rfl⟩

def PRel (T : Tr) (w : World) (gk : Nat) (way : Value) (wr : World) : Prop :=
  ∃ P e, gk = lefts P ∧ PSt T (w.heap.size + 3) wr P [] e ∧ PRow wr (w.heap.size + 3) way P ∧ raw.Holds wr (GB (w.heap.size + 3)) (w.heap.size + 1) e ∧ Below w.heap.size w wr ∧ gk ≤ 1 + wks [T] ∧ w.heap.size + 4 ≤ wr.heap.size
theorem zeroBool' (w : World) : (zeroValue 4).run Tryz.prog w = .ok (.bool false) w := zeroBool w

def IRel (T : Tr) (w : World) (gk Lr : Nat) (R : Option Addr) (ks : List Ky) (vs : List Tr) (gk2 : Nat) (way i : Value) (wr : World) : Prop :=
  ∃ (j : Nat) (P : List Pend) (e : Value → Option Value), i = .int .i64 j ∧ gk2 + j = Lr + 1 ∧ j ≤ Lr ∧ IsIn wr (Lo (w.heap.size + 3) wr) ks vs R ∧ PSt T (w.heap.size + 3) wr P (vs.drop j) e ∧ PRow wr (w.heap.size + 3) way P ∧ raw.Holds wr (GB (w.heap.size + 3)) (w.heap.size + 1) e ∧ Below w.heap.size w wr ∧ lefts P + wks (vs.drop j) < gk ∧ w.heap.size + 4 ≤ wr.heap.size
theorem pstart {w : World} {lo : Nat} {T : Tr} {k n x : Int} {s : ByteArray} {A : Option Addr} {L c : Nat} (h : TIn w (Nw lo w) T (vV k n s x A L c)) (cb : Array Value) (tb ti : TypeId) :
    PRel T w (1 + wks [T]) (.slice (some ⟨w.heap.size + 1 + 1 + 1, 0, none⟩) 1 1)
      ((((w.alloc (.cells cb tb)).alloc (.map #[] 0)).alloc (.cells #[.bool false, .int .i64 0, .string ⟨#[]⟩, .int .i64 k, .int .i64 n, .string s, .int .i64 x, .slice A L c] ti)).alloc
        (.cells #[.slice (some ⟨w.heap.size + 1 + 1, 0, none⟩) 1 1] SE)) := by
  have z1 : (w.alloc (.cells cb tb)).heap.size = w.heap.size + 1 := by simp
  generalize hw1 : w.alloc (.cells cb tb) = w1 at *
  have B1 : Below w.heap.size w w1 := hw1 ▸ b1 _ _
  have h1 := raw.Holds.made w1 (GB (w.heap.size + 3))
  have z2 : (w1.alloc (.map #[] 0)).heap.size = w.heap.size + 1 + 1 := by simp [z1]
  have B2 := bs B1 (b1 w1 (.map #[] 0))
  generalize hw2 : w1.alloc (.map #[] 0) = w2 at *
  have e3 := heap_alloc_new w2 (.cells #[.bool false, .int .i64 0, .string ⟨#[]⟩, .int .i64 k, .int .i64 n, .string s, .int .i64 x, .slice A L c] ti)
  have z3 : (w2.alloc (.cells #[.bool false, .int .i64 0, .string ⟨#[]⟩, .int .i64 k, .int .i64 n, .string s, .int .i64 x, .slice A L c] ti)).heap.size = w.heap.size + 1 + 1 + 1 := by simp [z2]
  have h1' := alH h1 (.cells #[.bool false, .int .i64 0, .string ⟨#[]⟩, .int .i64 k, .int .i64 n, .string s, .int .i64 x, .slice A L c] ti)
  have B3 := bs B2 (b1 w2 (.cells #[.bool false, .int .i64 0, .string ⟨#[]⟩, .int .i64 k, .int .i64 n, .string s, .int .i64 x, .slice A L c] ti))
  generalize w2.alloc (.cells #[.bool false, .int .i64 0, .string ⟨#[]⟩, .int .i64 k, .int .i64 n, .string s, .int .i64 x, .slice A L c] ti) = w3 at *
  have e4 := heap_alloc_new w3 (.cells #[.slice (some ⟨w.heap.size + 1 + 1, 0, none⟩) 1 1] SE)
  have h1f := alH h1' (.cells #[.slice (some ⟨w.heap.size + 1 + 1, 0, none⟩) 1 1] SE)
  have B4 := bs B3 (b1 w3 (.cells #[.slice (some ⟨w.heap.size + 1 + 1, 0, none⟩) 1 1] SE))
  have e3' := carry (b1 w3 (.cells #[.slice (some ⟨w.heap.size + 1 + 1, 0, none⟩) 1 1] SE)) e3
  generalize w3.alloc (.cells #[.slice (some ⟨w.heap.size + 1 + 1, 0, none⟩) 1 1] SE) = w4 at *
  rw [z2] at e3'
  rw [z3] at e4
  rw [z1] at h1f
  have hT : TIn w4 (Lo (w.heap.size + 3) w4) T (vV k n s x A L c) := h.stays (fun b hb => ⟨by have := hb.2.lt; omega, by obtain ⟨_, cs, t, hc⟩ := hb; exact ⟨cs, t, carry B4 hc⟩⟩) (fun b hb hlt => B4.block b hlt)
  have hI := isin_one (y := ⟨false, 0, ⟨#[]⟩⟩) (S := Lo (w.heap.size + 3) w4) (g := w.heap.size + 1 + 1) ⟨by omega, _, _, e3'⟩ ⟨by show I64 0; unfold I64; omega, Nat.zero_le _⟩ e3' hT
  refine ⟨[⟨some ⟨w.heap.size + 1 + 1, 0, none⟩, 1, [⟨false, 0, ⟨#[]⟩⟩], [T]⟩], fun _ => none, rfl, ⟨fun l hl => ?_, (fun p b h => by cases h), .inl ⟨_, List.mem_singleton.2 rfl, rfl⟩, fun hT => ⟨fun l hl => ?_, by rw [plainL]⟩⟩, ⟨rfl, .inr ⟨w.heap.size + 1 + 1 + 1, 1, _, rfl, by omega, e4, by simp, by simp [maxLen], rfl, rfl⟩⟩, h1f, B4, Nat.le_refl _, by have := (Array.getElem?_eq_some_iff.1 e4).1; omega⟩
  · obtain rfl := List.mem_singleton.1 hl
    exact ⟨hI, ⟨Nat.le_refl _, by simp [maxLen]⟩⟩
  · obtain rfl := List.mem_singleton.1 hl
    rw [plainL_cons, hT, plainL]
    rfl

set_option maxHeartbeats 1000000 in
theorem isPlain_i (T : Tr) (v : Value) (w : World) (lo : Nat) (h : TIn w (Nw lo w) T v) (hN : cnt T ≤ 1099511627) : Calls Tryz.prog 33 #[v] w (GivesQ w (.bool (plainB T))) := by
  obtain ⟨L, HH⟩ : ∃ L, Hid (L = 0) := ⟨0, Lib.hid rfl⟩
  obtain ⟨k, n, s, x, A, L, c, rfl⟩ : ∃ k n s x A L c, v = vV k n s x A L c := by
    cases h with
    | mk k n s x ks vs A cap C => exact ⟨k, n, s, x, A, _, cap, rfl⟩
  have HT := Lib.hid h
  have hwk : 1 + wks [T] ≤ 1099511627776 := by have := wk_cnt T; rw [wks_cons, wks]; omega
  clear h
  have hmm := @run_makeMap Tryz.prog
  go_enter Tryz.func33, Tryz.ntmps33
  go_wp2_with (fail)
  clear hmm
  go_loopg [4] (1 + wks [T]) (fun gk way wr => PRel T w gk way wr)
  case atStart => exact pstart HT.out _ _ _
  case round =>
    obtain ⟨P, e, hgk, hst, hrow, hm1, hb, hle, hz4⟩ := hrel
    cases P with
    | nil =>
      obtain ⟨A0, c0, rfl⟩ := hrow.nil
      have HST := Lib.hid hst
      have HB := Lib.hid hb
      clear hgk hst hrow hm1 hb hle
      go_wp2_with (fail)
      go_ret
      exact ⟨by rw [HST.out.fine]; rfl, HB.out⟩
    | cons l P =>
      obtain ⟨g, cc, rfl, hgB, hlc, hcm, htop, hpop⟩ := hrow.top
      obtain ⟨m, HM⟩ : ∃ m, Hid (m = P.length) := ⟨_, Lib.hid rfl⟩
      rw [← HM.out] at htop hlc hpop ⊢
      obtain ⟨R, rc, ks, vs⟩ := l
      obtain ⟨Lr, HLr⟩ : ∃ Lr, Hid (Lr = vs.length) := ⟨_, Lib.hid rfl⟩
      have htop' : wr.cell? ⟨g, m, none⟩ = some (.slice R Lr rc) := by rw [HLr.out]; exact htop
      have hin := (hst.ok _ List.mem_cons_self).isin
      have hcap := (hst.ok _ List.mem_cons_self).cap
      have HIN : Hid (IsIn wr (Lo (w.heap.size + 3) wr) ks vs R) := Lib.hid hin
      have HP : Hid (PSt T (w.heap.size + 3) wr P vs e) := Lib.hid hst.pop
      have HROW := Lib.hid hpop
      have HROW2 : PRow wr (w.heap.size + 3) (.slice (some ⟨g, 0, none⟩) m cc) P := hpop
      have HM1 := Lib.hid hm1
      have HB := Lib.hid hb
      have HGK : Hid (gk = 1 + wks vs + lefts P) := Lib.hid hgk
      have HLE := Lib.hid hle
      have hLr : Lr ≤ maxLen := by rw [HLr.out]; exact hin.2.1
      unfold maxLen at hcm hLr
      clear hgk hst hrow hm1 hb hle htop hpop hin hcap
      go_wp2_with (fail)
      go_loopg [4, 30] (Lr + 1) (fun gk2 way i wr2 => IRel T w gk Lr R ks vs gk2 way i wr2)
      case atStart => exact ⟨0, P, e, rfl, by omega, by omega, HIN.out, HP.out, HROW2, HM1.out, HB.out, by have := HGK.out; simp; omega, hz4⟩
      case round =>
        obtain ⟨j, P2, e2, rfl, hgj, hjL, hin, hst, hrow, hm1, hb, hlt2, hz5⟩ := hrel
        by_cases hlt : j < Lr
        · obtain ⟨a, y, k', n', s', x', ks', vs', A1, c1', rfl, hS, hky, hvs, ht, hyb, hkb, hin', hcell⟩ := hin.item (i := j) (by rw [← HLr.out]; exact hlt)
          have hdrop : vs.drop j = .mk k' n' s' x' ks' vs' :: vs.drop (j + 1) := by
            obtain ⟨hj, e1⟩ := List.getElem?_eq_some_iff.1 hvs
            rw [List.drop_eq_getElem_cons hj, e1]
          rw [hdrop] at hst hlt2
          obtain ⟨L1, HL1⟩ : ∃ L1, Hid (L1 = vs'.length) := ⟨_, Lib.hid rfl⟩
          have hplb : PlB (w.heap.size + 3) wr (plc A1 vs'.length) ks' vs' := ⟨A1, hin', rfl⟩
          have hcap' := ht.cap
          obtain ⟨pp, mm, hpl⟩ : ∃ pp mm, plc A1 vs'.length = .agg #[.pointer pp, .int .i64 mm] := by
            obtain ⟨pp, mm, h, _⟩ := hplb.gb
            exact ⟨pp, mm, h⟩
          have hA1 : 0 < vs'.length → ∃ a, A1 = some a := fun h0 => by
            obtain ⟨_, _, C, hc, _⟩ := hin'
            obtain ⟨a, ha, _⟩ := hc 0 h0
            exact ⟨a, ha⟩
          have PO : ∀ w, Calls Tryz.prog 92 #[.slice A1 L1 c1'] w (GivesQ w (.agg #[.pointer pp, .int .i64 mm])) := fun w => by rw [HL1.out, ← hpl]; exact placeOf A1 vs'.length c1' hin'.2.1 hA1 w
          have HPL := Lib.hid hpl
          rw [hpl] at hplb
          have HPLB := Lib.hid hplb
          have HIN2 := Lib.hid hin
          have HIN' := Lib.hid hin'
          have HCAP' := Lib.hid hcap'
          have HST := Lib.hid hst
          have HROW := Lib.hid hrow
          have HM1 := Lib.hid hm1
          have HB := Lib.hid hb
          have HLT2 := Lib.hid hlt2
          have HDR := Lib.hid hdrop
          rw [← HL1.out] at hcell
          obtain ⟨p0, p1, p2, p3, p4, p5, p6, p7⟩ := hcell
          clear hin hst hrow hm1 hb hlt2 hS hky hvs ht hyb hkb hin' hplb hcap' hpl hA1 hdrop
          by_cases hgood : 0 ≤ k' ∧ k' ≤ 4
          · have hkb : kindB k' = true := by unfold kindB; simp; omega
            have PK : ∀ w, Calls Tryz.prog 91 #[.int .i64 k'] w fun e w' => e = .returned (.bool true) ∧ w = w' := fun w => hkb ▸ plainKind k' w
            have HGOOD := Lib.hid hgood
            clear hkb hgood
            go_wp2_with (go_at_call 91; refine (PK _).mono ?_; rintro e0 w9 ⟨rfl, rfl⟩)
            refine (PO _).mono ?_
            rintro e0 w2 ⟨rfl, hb2⟩
            have eI := carry hb2 (heap_alloc_new wr _)
            have hB2 := bs (b1 wr _) hb2
            have hB3 := bs hB2 (b1 w2 (.cells #[.pointer pp, .int .i64 mm] PL))
            obtain ⟨NI, hNI⟩ : ∃ N, N = wr.heap.size := ⟨_, rfl⟩
            rw [← hNI] at eI ⊢
            have HNI := Lib.hid hNI
            have lI : NI < w2.heap.size := (Array.getElem?_eq_some_iff.1 eI).1
            have EI := Lib.hid eI
            obtain ⟨rI, -⟩ := rowc eI
            have HB3 := Lib.hid hB3
            have hgb3 := HPLB.out.gb.kp (Kp.below hB3)
            have hm13 := alH (HM1.out.kept (hB2.block _ HM1.out.lt) (fun x hx => hx.kp (Kp.below hB2))) (.cells #[.pointer pp, .int .i64 mm] PL)
            have hBB : w.heap.size + 4 ≤ NI := by rw [HNI.out]; exact hz5
            have hz3 : w.heap.size + 4 ≤ (w2.alloc (.cells #[.pointer pp, .int .i64 mm] PL)).heap.size := Nat.le_trans hz5 HB3.out.size
            have HZ3 := Lib.hid hz3
            clear hz3
            clear hb2 eI hNI hB2 hB3
            by_cases h4 : k' = 4
            · subst h4
              cases hek : e2 (.agg #[.pointer pp, .int .i64 mm]) with
              | none =>
                obtain ⟨i0, hi, hz⟩ : ∃ i, Tryz.prog.info? SE = some i ∧ (i.zero = some (.slice none 0 0) ∧ i.size = 1 ∧ i.bytes = 24) := by
                  have := seRow
                  cases hq : Tryz.prog.info? SE with
                  | none => rw [hq] at this; cases this
                  | some i => rw [hq] at this; simp at this; exact ⟨i, rfl, this⟩
                have HII := Lib.hid hi
                have HZZ := Lib.hid hz
                have HEK := Lib.hid hek
                have EI3 : Hid ((w2.alloc (.cells #[.pointer pp, .int .i64 mm] PL)).heap[NI]? = _) := Lib.hid (keepAlloc EI.out)
                have EP3 : Hid ((w2.alloc (.cells #[.pointer pp, .int .i64 mm] PL)).heap[w2.heap.size]? = _) := Lib.hid (heap_alloc_new w2 _)
                have hP : P2.length ≤ 1099511627776 := by have h1 := lefts_len P2; have h2 := HLT2.out; have h3 := HLE.out; have h4 := hwk; omega
                obtain ⟨NP, HNP⟩ : ∃ NP, Hid (NP = P2.length) := ⟨_, Lib.hid rfl⟩
                rw [← HNP.out] at hP
                clear hek hi hz
                go_wp2_with (first
                  | (at_lookup; refine raw.wpList_lookup_w _ (by rfl) _ _ 122 false rfl hm13 (good_gb _) Tryz.underlying122 (zeroBool _) rfl rfl hgb3 HEK.out (got1_none _) ?_)
                  | (at_mapUpdate; refine raw.wpList_update _ rfl _ _ _ 122 rfl hm13 (good_gb _) (gb_stays _) Tryz.underlying122 rfl rfl rfl hgb3 ?_
                     intro w4 hm14 hgr4
                     have HM14 := Lib.hid hm14
                     have HGR4 := Lib.hid hgr4
                     obtain ⟨rI4, _⟩ := rowc ((hgr4.block NI (Array.getElem?_eq_some_iff.1 EI3.out).1 (by intro h; injection h; omega)).trans EI3.out)
                     have HR4 := Lib.hid ((HROW.out.below HB3.out).kept4 hgr4 (by omega))
                     have hNI4 : NI < w4.heap.size := Nat.lt_of_lt_of_le (Array.getElem?_eq_some_iff.1 EI3.out).1 hgr4.size
                     clear hm14 hgr4)
                  | (at_builtin; refine wpList_append_own _ rfl _ _ 123 rfl (w.heap.size + 3) SE i0 _ 1 24 Tryz.underlying123 HII.out HZZ.out.1 HZZ.out.2.1 HZZ.out.2.2 rfl (by decide) _ NP _ rfl (by rw [HNP.out]; exact HR4.out.alloc _) ⟨w4.heap.size, 0, none⟩ 1 1 [.slice A1 L1 c1'] rfl rfl (one_new _ _ _) (by intro u hu; simp at hu; subst hu; rfl) (by unfold maxLen; omega) (by omega) (by simp; omega) ?_
                     intro v' w5 hown' hgrow' hnil
                     have HR5 := Lib.hid hown'
                     have HG5 := Lib.hid hgrow'
                     clear hown' hgrow' hnil)
                  | fail)
                go_roundg (Lr - j)
                case rel =>
                  have k4 : Kp (w.heap.size + 3) (w2.alloc (.cells #[.pointer pp, .int .i64 mm] PL)) w4 := Kp.grown HGR4.out (fun k hk => .inr (fun ⟨cs, t, hc⟩ => by
                    obtain rfl := Option.some.inj hk
                    obtain ⟨es, clock, hb, _⟩ := hm13
                    rw [hb] at hc
                    cases hc))
                  have hr5 := (HROW.out).own
                  have k5 := Kp.grown (B := w.heap.size + 3) HG5.out (fun k hk => .inl (hr5 k hk))
                  have hkp : Kp (w.heap.size + 3) wr w5 := (((Kp.below HB3.out).trans k4).trans (Kp.below (b1 w4 _))).trans k5
                  have hent := HST.out.enter (l := ⟨A1, c1', ks', vs'⟩) ⟨HIN'.out, HCAP'.out⟩
                  rw [show plc (Pend.mk A1 c1' ks' vs').R (Pend.mk A1 c1' ks' vs').vs.length = _ from HPL.out] at hent
                  have s4 := HGR4.out.size
                  have s5 := HG5.out.size
                  have s3 := HZ3.out
                  have hlt4 := HM14.out.lt
                  have e5 : w5.heap[w.heap.size + 1]? = w4.heap[w.heap.size + 1]? := (HG5.out.block _ (by simp; omega) (by intro h; have := hr5 _ h.symm; omega)).trans (Below.heap_alloc _ _ _ hlt4)
                  refine ⟨j + 1, ⟨A1, c1', ks', vs'⟩ :: P2, _, by go_num, by omega, by omega, HIN2.out.kp hkp, hent.kp hkp, ?_, HM14.out.kept e5 (fun x hx => (hx.kp (Kp.below (b1 w4 _))).kp k5), ?_, ?_, ?_⟩
                  · show w5.ownsRow _ _ _ _ _ _
                    have := HR5.out
                    rw [HNP.out, HL1.out] at this
                    simpa [Pend.cell] using this
                  · exact ((((bs HB.out HB3.out).grown HGR4.out (by omega) (fun k hk => by obtain rfl := Option.some.inj hk; omega)).alloc (by omega) _).grown HG5.out (by simp; omega) (fun k hk => by have := hr5 k hk; omega))
                  · have := HLT2.out
                    rw [wks_cons, wk_mk] at this
                    rw [show lefts (Pend.mk A1 c1' ks' vs' :: P2) = 1 + wks vs' + lefts P2 from rfl]
                    omega
                  · simp at s5
                    omega
                case measure => omega
              | some b =>
                obtain rfl := (HST.out.ens _ b hek).1
                have HEK := Lib.hid hek
                clear hek
                go_wp2_with (first | (at_lookup; refine raw.wpList_lookup_w _ (by rfl) _ _ 122 false rfl hm13 (good_gb _) Tryz.underlying122 (zeroBool _) rfl rfl hgb3 HEK.out (got1_some _ _) ?_) | fail)
                go_roundg (Lr - j)
                case rel =>
                  have hseen : Seen (w.heap.size + 3) wr e2 (.mk 4 n' s' x' ks' vs') := ⟨HGOOD.out, fun _ => ⟨_, HPLB.out, by rw [HEK.out]; simp⟩⟩
                  have hkp := Kp.below (B := w.heap.size + 3) HB3.out
                  exact ⟨j + 1, P2, e2, by go_num, by omega, by omega, HIN2.out.kp hkp, (HST.out.next hseen).kp hkp, HROW.out.below HB3.out, hm13, bs HB.out HB3.out, by have := HLT2.out; rw [wks_cons] at this; omega, HZ3.out⟩
                case measure => omega
            · go_wp2_with (fail)
              go_roundg (Lr - j)
              case rel =>
                have hseen : Seen (w.heap.size + 3) wr e2 (.mk k' n' s' x' ks' vs') := ⟨HGOOD.out, fun h => absurd h h4⟩
                have hkp := Kp.below (B := w.heap.size + 3) HB3.out
                exact ⟨j + 1, P2, e2, by go_num, by omega, by omega, HIN2.out.kp hkp, (HST.out.next hseen).kp hkp, HROW.out.below HB3.out, hm13, bs HB.out HB3.out, by have := HLT2.out; rw [wks_cons] at this; omega, HZ3.out⟩
              case measure => omega
          · have hkb : kindB k' = false := by unfold kindB; simp; omega
            have PK : ∀ w, Calls Tryz.prog 91 #[.int .i64 k'] w fun e w' => e = .returned (.bool false) ∧ w = w' := fun w => hkb ▸ plainKind k' w
            have HBAD := Lib.hid (HST.out.bad hgood)
            clear hkb hgood
            go_wp2_with (fail)
            refine (PK _).mono ?_
            rintro e0 w3 ⟨rfl, rfl⟩
            go_wp2_with (fail)
            go_ret
            exact ⟨by rw [HBAD.out]; rfl, bs HB.out (b1 _ _)⟩
        · obtain rfl : j = Lr := by omega
          have hd0 : vs.drop j = [] := List.drop_eq_nil_of_le (Nat.le_of_eq HLr.out.symm)
          rw [hd0] at hst hlt2
          have HST := Lib.hid hst
          have HROW := Lib.hid hrow
          have HM1 := Lib.hid hm1
          have HB := Lib.hid hb
          have HLT2 := Lib.hid hlt2
          clear hin hst hrow hm1 hb hlt2 hd0
          go_wp2_with (fail)
          go_roundg (lefts P2)
          case rel => exact ⟨P2, e2, rfl, HST.out, HROW.out, HM1.out, HB.out, by have := HLT2.out; have := HLE.out; omega, hz5⟩
          case measure => have := HLT2.out; omega

theorem l1In03 (k : Int) (w : World) : Calls Tryz.prog 66 #[.int .i64 k, .int .i64 0, .int .i64 3] w fun e w' => e = .returned (.bool (decide (0 ≤ k) && decide (k ≤ 3))) ∧ w = w' := by
  by_cases h0 : 0 ≤ k <;> by_cases h3 : k ≤ 3
  · rw [decide_eq_true h0, decide_eq_true h3]
    go_enter Tryz.func66, Tryz.ntmps66
    go_wp2
    go_ret
    exact ⟨rfl, rfl⟩
  · rw [decide_eq_true h0, decide_eq_false h3]
    go_enter Tryz.func66, Tryz.ntmps66
    go_wp2
    go_ret
    exact ⟨rfl, rfl⟩
  · rw [decide_eq_false h0]
    go_enter Tryz.func66, Tryz.ntmps66
    go_wp2
    go_ret
    exact ⟨rfl, rfl⟩
  · rw [decide_eq_false h0]
    go_enter Tryz.func66, Tryz.ntmps66
    go_wp2
    go_ret
    exact ⟨rfl, rfl⟩

def PlS (t : Tr) : Prop := ∀ (w : World) (S : Nat → Prop) (v : Value), TIn w S t v → Calls Tryz.prog 30 #[v] w (GivesQ w (.bool (plainB t)))

theorem plainL_drop {vs : List Tr} {j : Nat} {t : Tr} (h : vs[j]? = some t) : plainL (vs.drop j) = (plainB t && plainL (vs.drop (j + 1))) := by
  obtain ⟨hj, rfl⟩ := List.getElem?_eq_some_iff.1 h
  rw [List.drop_eq_getElem_cons hj, plainL_cons]

set_option maxHeartbeats 800000 in
theorem isPlain_s : ∀ t, PlS t := Tr.ind fun k n s x ks vs ih w S v h => by
  obtain ⟨A, c, rfl, hk, hin⟩ := h.out
  clear h
  obtain ⟨L, HL⟩ : ∃ L, Hid (L = vs.length) := ⟨_, Lib.hid rfl⟩
  have hm : L ≤ maxLen := by rw [HL.out]; exact hin.2.1
  unfold maxLen at hm
  rw [← HL.out]
  by_cases h4 : k = 4
  · subst h4
    rw [plain_items]
    have HI := Lib.hid hin
    clear hin hk
    go_enter Tryz.func30, Tryz.ntmps30
    go_wp2_with (fail)
    go_loopg [3] (L + 1) (fun gk i wr => ∃ j : Nat, i = .int .i64 j ∧ gk + j = L + 1 ∧ j ≤ L ∧ Hid (plainL (vs.drop j) = plainL vs) ∧ Hid (wr.heap[w.heap.size]? = some (.cells #[.int .i64 4, .int .i64 n, .string s, .int .i64 x, .slice A L c] IV (0, 0))) ∧ Below w.heap.size w wr)
    case atStart => exact ⟨0, rfl, by omega, by omega, Lib.hid (by simp), Lib.hid (heap_alloc_new w _), b1 _ _⟩
    case round =>
      obtain ⟨j, rfl, hgj, hjL, HQ, HE, hb⟩ := hrel
      have HB := Lib.hid hb
      clear hb
      obtain ⟨r0, -⟩ := rowc HE.out
      by_cases hlt : j < L
      · obtain ⟨a, y, k', n', s', x', ks', vs', A1, c1, rfl, hS, hky, hvs, ht, hyb, hkb, hin', hcell⟩ := (HI.out.below HB.out).item (i := j) (by rw [← HL.out]; exact hlt)
        have ihj : Calls Tryz.prog 30 #[vV k' n' s' x' A1 vs'.length c1] wr (GivesQ wr (.bool (plainB (.mk k' n' s' x' ks' vs')))) := ih _ (List.mem_of_getElem? hvs) wr S _ ht
        have HD := Lib.hid ((plainL_drop hvs).symm.trans HQ.out)
        clear hky hvs ht hin' hyb hkb hS
        obtain ⟨p0, p1, p2, p3, p4, p5, p6, p7⟩ := hcell
        cases hq : plainB (.mk k' n' s' x' ks' vs') with
        | false =>
          rw [hq] at ihj
          have HD2 : Hid (false = plainL vs) := by have := HD.out; rw [hq] at this; exact this
          clear hq HD
          go_wp2_with (fail)
          refine ihj.mono ?_
          rintro e w1 ⟨rfl, hb1⟩
          have HB1 := Lib.hid (bs HB.out hb1)
          clear hb1
          go_wp2_with (fail)
          go_ret
          exact ⟨by rw [← HD2.out]; rfl, HB1.out⟩
        | true =>
          rw [hq] at ihj
          have HD2 : Hid (plainL (vs.drop (j + 1)) = plainL vs) := by have := HD.out; rw [hq, Bool.true_and] at this; exact this
          clear hq HD
          go_wp2_with (fail)
          refine ihj.mono ?_
          rintro e w1 ⟨rfl, hb1⟩
          have HE1 := Lib.hid (carry hb1 HE.out)
          have HB1 := Lib.hid (bs HB.out hb1)
          clear hb1 r0
          go_wp2_with (fail)
          go_roundg (L - j)
          case rel => exact ⟨j + 1, by go_num, by omega, by omega, HD2, HE1, HB1.out⟩
          case measure => omega
      · obtain rfl : j = L := by omega
        have := HQ.out
        rw [show vs.drop j = [] from List.drop_eq_nil_of_le (Nat.le_of_eq HL.out.symm), plainL] at this
        have HT := Lib.hid this
        clear this
        go_wp2_with (fail)
        go_ret
        exact ⟨by rw [← HT.out]; rfl, HB.out⟩
  · have hw : plainB (.mk k n s x ks vs) = (decide (0 ≤ k) && decide (k ≤ 3)) := by rw [plainB]; simp [h4]
    obtain ⟨q, HQ⟩ : ∃ q, Hid ((decide (0 ≤ k) && decide (k ≤ 3)) = q) := ⟨_, Lib.hid rfl⟩
    have LI : ∀ w, Calls Tryz.prog 66 #[.int .i64 k, .int .i64 0, .int .i64 3] w fun e w' => e = .returned (.bool q) ∧ w = w' := fun w => HQ.out ▸ l1In03 k w
    rw [hw, HQ.out]
    clear hw hin hk
    go_enter Tryz.func30, Tryz.ntmps30
    go_wp2_with (fail)
    refine (LI _).mono ?_
    rintro e w1 ⟨rfl, rfl⟩
    go_wp2_with (fail)
    go_ret
    exact ⟨rfl, b1 _ _⟩

end Go.Proofs.YtdglmnmalfpipaaGreatDoor.tree

