/-
  What goes through an array by places and counts what comes up again: it says yes where little can come up again.
  Conditions: the value holds at most 2^20 and one items.
-/
import Derived.Test.YtbgffmiffmmohaaGreatDoorSpB4
import Derived.Test.YtbgffmiffmmohaaGreatDoorSpSCopyS
namespace Go.Proofs.YtbgffmiffmmohaaGreatDoor.tree
open Go.ChangeShapes Go.WideShapes Go.ChangeAt Go.RowKit
set_option linter.unusedVariables false

/-- What the pending lists hold. -/
def pts : List Pend → Nat
  | [] => 0
  | l :: P => cnts l.vs + pts P
/-- What hangs below the items of a list. -/
def subs : List Tr → Nat
  | [] => 0
  | t :: vs => (cnt t - 1) + subs vs
theorem subs_cnts : ∀ vs, cnts vs = vs.length + subs vs
  | [] => by simp [cnts_nil, subs]
  | t :: vs => by
    have := subs_cnts vs
    obtain ⟨k, n, s, x, ks, us⟩ := t
    rw [cnts_cons', cnt_mk', subs, cnt_mk', List.length_cons]
    omega
mutual
theorem wk_cnt' : ∀ t, wk t ≤ 3 * cnt t
  | .mk _ _ _ _ _ vs => by have := wks_cnts' vs; rw [wk, cnt]; omega
theorem wks_cnts' : ∀ vs, wks vs ≤ 3 * cnts vs
  | [] => by rw [wks]; omega
  | t :: vs => by have h1 := wk_cnt' t; have h2 := wks_cnts' vs; rw [wks, cnts]; omega
end

structure RSt (T : Tr) (B : Nat) (w : World) (pr : Value) (rp fr : Nat) (P : List Pend) (e : Value → Option Value) : Prop where
  ok : ∀ l ∈ P, PendOk B w l ∧ 0 < l.vs.length
  tt : ∀ p b, e p = some b → b = .bool true
  sm : (∀ l ∈ P, cnts l.vs < cnt T) ∨ (∃ l, P = [l] ∧ cnts l.vs = cnt T ∧ plc l.R l.vs.length = pr ∧ ∀ p, e p = none)
  sum : rp + pts P + fr ≤ 1048578
  few : (rp = 0 ∧ (∀ p b, e p = some b → p = pr) ∧ (1 ≤ fr ∨ ∃ l, P = [l] ∧ cnts l.vs = cnt T)) ∨ 2 ≤ fr

structure RIn (T : Tr) (B : Nat) (w : World) (pr : Value) (rp fr : Nat) (P : List Pend) (e : Value → Option Value) (s : Nat) : Prop where
  ok : ∀ l ∈ P, PendOk B w l ∧ 0 < l.vs.length
  tt : ∀ p b, e p = some b → b = .bool true
  sm : ∀ l ∈ P, cnts l.vs < cnt T
  sum : rp + pts P + s + fr ≤ 1048578
  few : (rp = 0 ∧ (∀ p b, e p = some b → p = pr) ∧ 1 ≤ fr) ∨ 2 ≤ fr
/-- The place of the root. -/
def Root (T : Tr) (B : Nat) (w : World) (pr : Value) : Prop := ∃ ks vs, PlB B w pr ks vs ∧ cnts vs = cnt T

section
variable {T : Tr} {B : Nat} {w w' : World} {pr : Value} {rp fr s : Nat} {P : List Pend} {e : Value → Option Value}
theorem Root.kp (hk : Kp B w w') (h : Root T B w pr) : Root T B w' pr := by
  obtain ⟨ks, vs, h1, h2⟩ := h
  exact ⟨ks, vs, h1.kp hk, h2⟩
theorem RIn.kp (hk : Kp B w w') (h : RIn T B w pr rp fr P e s) : RIn T B w' pr rp fr P e s :=
  ⟨fun l hl => ⟨⟨(h.ok l hl).1.isin.kp hk, (h.ok l hl).1.cap⟩, (h.ok l hl).2⟩, h.tt, h.sm, h.sum, h.few⟩
theorem RSt.kp (hk : Kp B w w') (h : RSt T B w pr rp fr P e) : RSt T B w' pr rp fr P e :=
  ⟨fun l hl => ⟨⟨(h.ok l hl).1.isin.kp hk, (h.ok l hl).1.cap⟩, (h.ok l hl).2⟩, h.tt, h.sm, h.sum, h.few⟩
theorem tt_put {p : Value} (h : ∀ p b, e p = some b → b = .bool true) : ∀ q b, raw.put e p (.bool true) q = some b → b = .bool true := fun q b hq => by
  by_cases e1 : q = p
  · subst e1; rw [raw.put_same] at hq; exact (Option.some.inj hq).symm
  · rw [raw.put_other e1] at hq; exact h q b hq

theorem RSt.hit {l : Pend} (h : RSt T B w pr rp fr (l :: P) e) (hr : Root T B w pr) {b : Value} (hb : e (plc l.R l.vs.length) = some b) :
    RIn T B w pr (rp + l.vs.length) fr P (raw.put e (plc l.R l.vs.length) (.bool true)) (subs l.vs) ∧ rp + l.vs.length ≤ 1048576 := by
  have hall : ∀ l' ∈ l :: P, cnts l'.vs < cnt T := by
    rcases h.sm with h1 | ⟨l', -, -, -, h1⟩
    · exact h1
    · rw [h1] at hb; cases hb
  have hl := hall l List.mem_cons_self
  have hfr : 2 ≤ fr := by
    rcases h.few with ⟨-, h1, -⟩ | h1
    · exfalso
      have hp := h1 _ _ hb
      obtain ⟨ks, vs, h2, h3⟩ := hr
      have h4 : PlB B w pr l.ks l.vs := ⟨l.R, (h.ok l List.mem_cons_self).1.isin, hp.symm⟩
      obtain ⟨-, h5⟩ := h4.is.unique h2.is
      rw [h5, h3] at hl
      omega
    · exact h1
  have hs := h.sum
  have hc := subs_cnts l.vs
  rw [pts] at hs
  exact ⟨⟨fun l' hl' => h.ok l' (List.mem_cons_of_mem _ hl'), tt_put h.tt, fun l' hl' => hall l' (List.mem_cons_of_mem _ hl'), by omega, .inr hfr⟩, by omega⟩

theorem RSt.miss {l : Pend} (h : RSt T B w pr rp fr (l :: P) e) (hb : e (plc l.R l.vs.length) = none) :
    RIn T B w pr rp (fr + l.vs.length) P (raw.put e (plc l.R l.vs.length) (.bool true)) (subs l.vs) ∧ rp ≤ 1048576 := by
  have hl0 := (h.ok l List.mem_cons_self).2
  have hs := h.sum
  have hc := subs_cnts l.vs
  rw [pts] at hs
  have few : (rp = 0 ∧ (∀ p b, raw.put e (plc l.R l.vs.length) (.bool true) p = some b → p = pr) ∧ 1 ≤ fr + l.vs.length) ∨ 2 ≤ fr + l.vs.length := by
    rcases h.few with ⟨h1, h2, h3⟩ | h1
    · rcases h.sm with h4 | ⟨l', h4, h5, h6, h7⟩
      · rcases h3 with h3 | ⟨l', h3, h5⟩
        · exact .inr (by omega)
        · have := h4 l List.mem_cons_self
          injection h3 with h3 _
          subst h3
          omega
      · injection h4 with h4 _
        subst h4
        refine .inl ⟨h1, fun p b hp => ?_, by omega⟩
        by_cases e1 : p = plc l.R l.vs.length
        · rw [e1, h6]
        · rw [raw.put_other e1, h7] at hp; cases hp
    · exact .inr (by omega)
  have sm : ∀ l' ∈ P, cnts l'.vs < cnt T := by
    rcases h.sm with h4 | ⟨l', h4, -⟩
    · exact fun l' hl' => h4 l' (List.mem_cons_of_mem _ hl')
    · injection h4 with _ h4
      subst h4
      exact fun l' hl' => by cases hl'
  refine ⟨⟨fun l' hl' => h.ok l' (List.mem_cons_of_mem _ hl'), tt_put h.tt, sm, by omega, few⟩, ?_⟩
  rcases h.few with ⟨h1, -, -⟩ | h1
  · omega
  · omega

theorem RIn.push {l : Pend} (h : RIn T B w pr rp fr P e (cnts l.vs + s)) (hl : PendOk B w l) (h0 : 0 < l.vs.length) (hs : cnts l.vs < cnt T) : RIn T B w pr rp fr (l :: P) e s :=
  ⟨fun l' hl' => by
    rcases List.mem_cons.1 hl' with rfl | hl'
    · exact ⟨hl, h0⟩
    · exact h.ok l' hl', h.tt, fun l' hl' => by
    rcases List.mem_cons.1 hl' with rfl | hl'
    · exact hs
    · exact h.sm l' hl', by have := h.sum; rw [pts]; omega, h.few⟩
theorem RIn.done (h : RIn T B w pr rp fr P e 0) : RSt T B w pr rp fr P e :=
  ⟨h.ok, h.tt, .inl h.sm, by have := h.sum; omega, by
    rcases h.few with ⟨h1, h2, h3⟩ | h1
    · exact .inl ⟨h1, h2, .inl h3⟩
    · exact .inr h1⟩
end
theorem subs_drop {vs : List Tr} {j : Nat} {k n x : Int} {s : ByteArray} {ks' : List Ky} {vs' : List Tr} (h : vs[j]? = some (.mk k n s x ks' vs')) : subs (vs.drop j) = cnts vs' + subs (vs.drop (j + 1)) := by
  obtain ⟨hj, e⟩ := List.getElem?_eq_some_iff.1 h
  rw [List.drop_eq_getElem_cons hj, e, subs, cnt_mk']
  omega

def RRel (T : Tr) (pr : Value) (w : World) (gk : Nat) (rep way : Value) (wr : World) : Prop :=
  ∃ P e rp fr, gk = lefts P ∧ rep = .int .i64 ((rp : Nat) : Int) ∧ rp ≤ 1048576 ∧ Hid (RSt T w.heap.size wr pr rp fr P e) ∧ Hid (Root T w.heap.size wr pr) ∧ PRow wr (w.heap.size + 1) way P ∧ raw.Holds wr (GB w.heap.size) w.heap.size e ∧ Below w.heap.size w wr ∧ gk ≤ 4000000000 ∧ w.heap.size + 2 ≤ wr.heap.size
def RIRel (T : Tr) (pr : Value) (w : World) (gk rp fr : Nat) (e : Value → Option Value) (Lr : Nat) (R : Option Addr) (ks : List Ky) (vs : List Tr) (gk2 : Nat) (way i : Value) (wr : World) : Prop :=
  ∃ (j : Nat) (P : List Pend), i = .int .i64 j ∧ gk2 + j = Lr + 1 ∧ j ≤ Lr ∧ IsIn wr (Lo w.heap.size wr) ks vs R ∧ Hid (RIn T w.heap.size wr pr rp fr P e (subs (vs.drop j))) ∧ Hid (Root T w.heap.size wr pr) ∧ PRow wr (w.heap.size + 1) way P ∧ raw.Holds wr (GB w.heap.size) w.heap.size e ∧ Below w.heap.size w wr ∧ lefts P + wks (vs.drop j) < gk ∧ w.heap.size + 2 ≤ wr.heap.size

set_option maxHeartbeats 1600000 in
set_option maxRecDepth 100000 in
theorem repeatsFew (T : Tr) (y : Ky) (R : Option Addr) (c : Nat) (w : World) (lo : Nat) (h : IsIn w (Nw lo w) [y] [T] R) (hc : 1 ≤ c ∧ c ≤ maxLen) (hN : cnt T ≤ 1048578) :
    Calls Tryz.prog 160 #[.slice R 1 c] w (GivesQ w (.bool true)) := by
  have HI := Lib.hid h
  have hwk : lefts [⟨R, c, [y], [T]⟩] ≤ 4000000000 := by have := wk_cnt' T; rw [lefts, lefts, wks_cons, wks]; omega
  have HWK := Lib.hid hwk
  have HC := Lib.hid hc
  clear h hc hwk
  have hmm := @run_makeMap Tryz.prog
  go_enter Tryz.func160, Tryz.ntmps160
  go_wp2_with (fail)
  clear hmm
  go_loopg [4, 5] (lefts [⟨R, c, [y], [T]⟩]) (fun gk rep way wr => RRel T (plc R 1) w gk rep way wr)
  case atStart =>
    have hIn : IsIn w (Lo w.heap.size w) [y] [T] R := HI.out.stays (fun b hb => ⟨hb.2.lt, hb.2⟩) (fun _ _ _ => rfl)
    have k1 : Kp w.heap.size w ((w.alloc (.map #[] 0)).alloc (.cells #[.slice R 1 c] SE)) := Kp.below (b2 _ _ _)
    have e4 := heap_alloc2_new w (.map #[] 0) (.cells #[.slice R 1 c] SE)
    have hone : cnts [T] = cnt T := by rw [cnts_cons', cnts_nil]; rfl
    refine ⟨[⟨R, c, [y], [T]⟩], fun _ => none, 0, 0, rfl, rfl, by omega, Lib.hid ⟨fun l hl => ?_, fun p b h => (by cases h), .inr ⟨_, rfl, hone, rfl, fun _ => rfl⟩, by simp only [pts, hone]; omega, .inl ⟨rfl, fun p b h => (by cases h), .inr ⟨_, rfl, hone⟩⟩⟩, Lib.hid ⟨[y], [T], ⟨R, hIn.kp k1, rfl⟩, hone⟩, ⟨rfl, .inr ⟨w.heap.size + 1, 1, _, rfl, by omega, e4, by simp, by simp [maxLen], rfl, rfl⟩⟩, alH (raw.Holds.made w _) _, b2 _ _ _, HWK.out, by simp⟩
    obtain rfl := List.mem_singleton.1 hl
    exact ⟨⟨hIn.kp k1, HC.out⟩, by simp⟩
  case round =>
    obtain ⟨P, e, rp, fr, hgk, rfl, hrp, HST, HRT, hrow, hm1, hb, hle, hz4⟩ := hrel
    cases P with
    | nil =>
      obtain ⟨A0, c0, rfl⟩ := hrow.nil
      have HB := Lib.hid hb
      clear hgk hrow hm1 hb hle
      go_wp2_with (fail)
      go_ret
      exact ⟨rfl, HB.out⟩
    | cons l P =>
      obtain ⟨g, cc, rfl, hgB, hlc, hcm, htop, hpop⟩ := hrow.top
      obtain ⟨m, HM⟩ : ∃ m, Hid (m = P.length) := ⟨_, Lib.hid rfl⟩
      rw [← HM.out] at htop hlc hpop ⊢
      have hlok := (HST.out.ok l List.mem_cons_self).1
      obtain ⟨R1, rc, ks, vs⟩ := l
      obtain ⟨Lr, HLr⟩ : ∃ Lr, Hid (Lr = vs.length) := ⟨_, Lib.hid rfl⟩
      have htop' : wr.cell? ⟨g, m, none⟩ = some (.slice R1 Lr rc) := by rw [HLr.out]; exact htop
      have hin : IsIn wr (Lo w.heap.size wr) ks vs R1 := hlok.isin
      have HIN := Lib.hid hin
      have hA1 : 0 < vs.length → ∃ a, R1 = some a := fun h0 => by
        obtain ⟨_, _, C, hc, _⟩ := hin
        obtain ⟨a, ha, _⟩ := hc 0 h0
        exact ⟨a, ha⟩
      have hplb : PlB w.heap.size wr (plc R1 vs.length) ks vs := ⟨R1, hin, rfl⟩
      obtain ⟨pp, mm, hpl⟩ : ∃ pp mm, plc R1 vs.length = .agg #[.pointer pp, .int .i64 mm] := by
        obtain ⟨pp, mm, h, _⟩ := hplb.gb
        exact ⟨pp, mm, h⟩
      have PO : ∀ w, Calls Tryz.prog 161 #[.slice R1 Lr rc] w (GivesQ w (.agg #[.pointer pp, .int .i64 mm])) := fun w => by rw [HLr.out, ← hpl]; exact placeOf R1 vs.length rc hin.2.1 hA1 w
      have HPL := Lib.hid hpl
      rw [hpl] at hplb
      have HPLB := Lib.hid hplb
      have HROW := Lib.hid hpop
      have HROW2 : PRow wr (w.heap.size + 1) (.slice (some ⟨g, 0, none⟩) m cc) P := hpop
      have HM1 := Lib.hid hm1
      have HB := Lib.hid hb
      have HGK : Hid (gk = 1 + wks vs + lefts P) := Lib.hid hgk
      have HLE := Lib.hid hle
      have hLr : Lr ≤ maxLen := by rw [HLr.out]; exact hin.2.1
      unfold maxLen at hcm hLr
      have hcT : cnts vs ≤ cnt T := by
        rcases HST.out.sm with h1 | ⟨l', h1, h2, -⟩
        · exact Nat.le_of_lt (h1 _ List.mem_cons_self)
        · injection h1 with h1 _; subst h1; exact Nat.le_of_eq h2
      have HCT := Lib.hid hcT
      have hpt : Pend.mk R1 rc ks vs ∈ Pend.mk R1 rc ks vs :: P := List.mem_cons_self
      clear hgk hrow hm1 hb hle htop hpop hin hplb hlok hA1 hcT hpl
      go_wp2_with (fail)
      refine (PO _).mono ?_
      rintro e0 w2 ⟨rfl, hb2⟩
      have HB2 := Lib.hid hb2
      have HB3 := Lib.hid (bs hb2 (b1 w2 (.cells #[.pointer pp, .int .i64 mm] PL)))
      have hgb3 := HPLB.out.gb.kp (Kp.below HB3.out)
      have hm13 := alH (HM1.out.kept (hb2.block _ HM1.out.lt) (fun x hx => hx.kp (Kp.below hb2))) (.cells #[.pointer pp, .int .i64 mm] PL)
      clear hb2
      cases hek : e (.agg #[.pointer pp, .int .i64 mm]) with
      | none =>
        have hms := HST.out.miss (by show e (plc R1 vs.length) = none; rw [HPL.out]; exact hek)
        rw [show plc (Pend.mk R1 rc ks vs).R (Pend.mk R1 rc ks vs).vs.length = _ from HPL.out] at hms
        have HMS := Lib.hid hms.1
        have HLE5 : Hid (rp ≤ 1048576) := Lib.hid hms.2
        have HEK := Lib.hid hek
        clear hek hms
        go_wp2_with (first
          | (at_lookup; refine raw.wpList_lookup_to _ rfl _ _ 222 false rfl hm13 (good_gb _) Tryz.underlying222 (zeroBool _) rfl rfl hgb3 HEK.out (got1_none _) ?_)
          | (at_mapUpdate; refine raw.wpList_update _ rfl _ _ _ 222 rfl hm13 (good_gb _) (gb_stays _) Tryz.underlying222 rfl rfl rfl hgb3 ?_
             intro w4 hm14 hgr4
             have HM14 := Lib.hid hm14
             have k4 : Kp w.heap.size (w2.alloc (.cells #[.pointer pp, .int .i64 mm] PL)) w4 := Kp.grown hgr4 (fun k hk => .inl (by obtain rfl := Option.some.inj hk; exact Nat.le_refl _))
             have HK4 : Hid (Kp w.heap.size wr w4) := Lib.hid ((Kp.below HB3.out).trans k4)
             have HR4 := Lib.hid ((HROW.out.below HB3.out).kept4 hgr4 (by omega))
             have HB4 : Hid (Below w.heap.size w w4) := Lib.hid ((bs HB.out HB3.out).grown hgr4 (Nat.le_trans HB.out.size HB3.out.size) (fun k hk => by obtain rfl := Option.some.inj hk; exact Nat.le_refl _))
             have HZ4 : Hid (w.heap.size + 2 ≤ w4.heap.size) := Lib.hid (Nat.le_trans hz4 (Nat.le_trans HB3.out.size hgr4.size))
             clear hm14 hgr4 k4)
          | fail)
        clear hm13 hgb3
        go_loopg [5, 42] (Lr + 1) (fun gk2 way i wr => RIRel T (plc R 1) w gk rp (fr + vs.length) (raw.put e (.agg #[.pointer pp, .int .i64 mm]) (.bool true)) Lr R1 ks vs gk2 way i wr)
        case atStart => exact ⟨0, P, rfl, by omega, by omega, HIN.out.kp HK4.out, Lib.hid (HMS.out.kp HK4.out), Lib.hid (HRT.out.kp HK4.out), HR4.out, HM14.out, HB4.out, by have := HGK.out; simp; omega, HZ4.out⟩
        case round =>
          obtain ⟨j, P2, rfl, hgj, hjL, hin, HSI, HRI, hrow, hm1, hb, hlt2, hz5⟩ := hrel
          have HROW5 := Lib.hid hrow
          have HM5 := Lib.hid hm1
          have HB5 := Lib.hid hb
          have HLT2 := Lib.hid hlt2
          have HIN5 := Lib.hid hin
          clear hrow hm1 hb hlt2
          by_cases hlt : j < Lr
          · obtain ⟨a, y', k', n', s', x', ks', vs', A1, c1', rfl, hS, hky, hvs, ht, hyb, hkb, hin', hcell⟩ := hin.item (i := j) (by rw [← HLr.out]; exact hlt)
            have hdrop := subs_drop hvs
            have hwd : wks (vs.drop j) = 3 + wks vs' + wks (vs.drop (j + 1)) := by
              obtain ⟨hj, e1⟩ := List.getElem?_eq_some_iff.1 hvs
              rw [List.drop_eq_getElem_cons hj, e1, wks_cons, wk_mk]
            have hsm : cnts vs' < cnt T := by
              have h1 := cnts_lt hvs
              have h2 := HCT.out
              rw [cnt_mk'] at h1
              omega
            obtain ⟨L1, HL1⟩ : ∃ L1, Hid (L1 = vs'.length) := ⟨_, Lib.hid rfl⟩
            rw [← HL1.out] at hcell
            have HD := Lib.hid hdrop
            have HWD := Lib.hid hwd
            have HSM := Lib.hid hsm
            have HIN' := Lib.hid hin'
            have HCAP' := Lib.hid ht.cap
            have hL1m : L1 ≤ maxLen := by rw [HL1.out]; exact hin'.2.1
            unfold maxLen at hL1m
            obtain ⟨p0, p1, p2, p3, p4, p5, p6, p7⟩ := hcell
            clear hin hdrop hwd hsm hin' hky hvs ht hyb hkb hS
            by_cases h0 : L1 = 0
            · subst h0
              go_wp2_with (fail)
              go_roundg (Lr - j)
              case rel =>
                have hb6 := b1 wr (.cells #[.bool y'.text, .int .i64 y'.num, .string y'.str, .int .i64 k', .int .i64 n', .string s', .int .i64 x', .slice A1 0 c1'] IE)
                have e0 : vs' = [] := List.length_eq_zero_iff.1 HL1.out.symm
                have hsi := HSI.out
                rw [HD.out, e0, cnts_nil, Nat.zero_add] at hsi
                have k6 : Kp w.heap.size wr _ := Kp.below hb6
                exact ⟨j + 1, P2, by go_num, by omega, by omega, HIN5.out.kp k6, Lib.hid (hsi.kp k6), Lib.hid (HRI.out.kp k6), HROW5.out.below hb6, alH HM5.out _, bs HB5.out hb6, by have := HLT2.out; rw [HWD.out] at this; omega, Nat.le_trans hz5 hb6.size⟩
              case measure => omega
            · have hpos : 0 < L1 := by omega
              obtain ⟨i0, hi, hz⟩ : ∃ i, Tryz.prog.info? SE = some i ∧ (i.zero = some (.slice none 0 0) ∧ i.size = 1 ∧ i.bytes = 24) := by
                have := seRow
                cases hq : Tryz.prog.info? SE with
                | none => rw [hq] at this; cases this
                | some i => rw [hq] at this; simp at this; exact ⟨i, rfl, this⟩
              have HII := Lib.hid hi
              have HZZ := Lib.hid hz
              have hP : P2.length ≤ 1099511627776 := by have h1 := lefts_len P2; have h2 := HLT2.out; have h3 := HLE.out; omega
              obtain ⟨NP, HNP⟩ : ∃ NP, Hid (NP = P2.length) := ⟨_, Lib.hid rfl⟩
              rw [← HNP.out] at hP
              have hb6 := b1 wr (.cells #[.bool y'.text, .int .i64 y'.num, .string y'.str, .int .i64 k', .int .i64 n', .string s', .int .i64 x', .slice A1 L1 c1'] IE)
              have HB6 := Lib.hid hb6
              clear hi hz hb6 h0
              go_wp2_with (first
                | (at_builtin; refine wpList_append_own _ rfl _ _ 170 rfl (w.heap.size + 1) SE i0 _ 1 24 Tryz.underlying170 HII.out HZZ.out.1 HZZ.out.2.1 HZZ.out.2.2 rfl (by decide) _ NP _ rfl (by rw [HNP.out]; exact (HROW5.out.below HB6.out).below (b1 _ _)) ⟨wr.heap.size + 1, 0, none⟩ 1 1 [.slice A1 L1 c1'] (by first | rfl | simp) rfl (one_new' _ _ _ (by simp)) (by intro u hu; simp at hu; subst hu; rfl) (by unfold maxLen; omega) (by omega) (by simp; omega) ?_
                   intro v' w5 hown' hgrow' hnil
                   have HR5 := Lib.hid hown'
                   have HG5 := Lib.hid hgrow'
                   clear hown' hgrow' hnil)
                | fail)
              go_roundg (Lr - j)
              case rel =>
                have hr5 := (HROW5.out).own
                have k5 := Kp.grown (B := w.heap.size) HG5.out (fun k hk => .inl (by have := hr5 k hk; omega))
                have k7 := b1 (wr.alloc (.cells #[.bool y'.text, .int .i64 y'.num, .string y'.str, .int .i64 k', .int .i64 n', .string s', .int .i64 x', .slice A1 L1 c1'] IE)) (.cells #[.slice A1 L1 c1'] SE)
                have hkp : Kp w.heap.size wr w5 := ((Kp.below HB6.out).trans (Kp.below k7)).trans k5
                have hsi := HSI.out
                rw [HD.out] at hsi
                have hpush := hsi.push (l := ⟨A1, c1', ks', vs'⟩) ⟨HIN'.out, HCAP'.out⟩ (by show 0 < vs'.length; rw [← HL1.out]; exact hpos) HSM.out
                have hBB : Below w.heap.size w ((wr.alloc (.cells #[.bool y'.text, .int .i64 y'.num, .string y'.str, .int .i64 k', .int .i64 n', .string s', .int .i64 x', .slice A1 L1 c1'] IE)).alloc (.cells #[.slice A1 L1 c1'] SE)) := bs (bs HB5.out HB6.out) k7
                have e5 := HG5.out.block w.heap.size (Nat.lt_of_lt_of_le HM5.out.lt (Nat.le_trans HB6.out.size k7.size)) (by intro h; have := hr5 _ h.symm; omega)
                refine ⟨j + 1, ⟨A1, c1', ks', vs'⟩ :: P2, by go_num, by omega, by omega, HIN5.out.kp hkp, Lib.hid (hpush.kp hkp), Lib.hid (HRI.out.kp hkp), ?_, (alH (alH HM5.out _) _).kept e5 (fun x hx => hx.kp k5), hBB.grown HG5.out hBB.size (fun k hk => by have := hr5 k hk; omega), ?_, Nat.le_trans hz5 (Nat.le_trans HB6.out.size (Nat.le_trans k7.size HG5.out.size))⟩
                · show w5.ownsRow _ _ _ _ _ _
                  have := HR5.out
                  rw [HNP.out, HL1.out] at this
                  simpa [Pend.cell] using this
                · have := HLT2.out
                  rw [HWD.out] at this
                  rw [show lefts (Pend.mk A1 c1' ks' vs' :: P2) = 1 + wks vs' + lefts P2 from rfl]
                  omega
              case measure => omega
          · obtain rfl : j = Lr := by omega
            have hd0 : vs.drop j = [] := List.drop_eq_nil_of_le (Nat.le_of_eq HLr.out.symm)
            have hsi := HSI.out
            rw [hd0] at hsi
            have HSI2 := Lib.hid hsi
            have HLT3 := HLT2.out
            rw [hd0, wks] at HLT3
            have HLT4 := Lib.hid HLT3
            clear hin hd0 hsi HLT3
            go_wp2_with (fail)
            go_roundg (lefts P2)
            case rel => exact ⟨P2, _, rp, (fr + vs.length), rfl, rfl, by have := HLE5.out; omega, Lib.hid HSI2.out.done, HRI, HROW5.out, HM5.out, HB5.out, by have := HLT4.out; have := HLE.out; omega, hz5⟩
            case measure => have := HLT4.out; omega
      | some b =>
        obtain rfl := HST.out.tt _ b hek
        have hms := HST.out.hit HRT.out (b := .bool true) (by show e (plc R1 vs.length) = _; rw [HPL.out]; exact hek)
        rw [show plc (Pend.mk R1 rc ks vs).R (Pend.mk R1 rc ks vs).vs.length = _ from HPL.out] at hms
        have HMS := Lib.hid hms.1
        have HLE5 : Hid (rp + vs.length ≤ 1048576) := Lib.hid hms.2
        have hle5 : rp + Lr ≤ 1048576 := by rw [HLr.out]; exact hms.2
        have HEK := Lib.hid hek
        clear hek hms
        go_wp2_with (first
          | (at_lookup; refine raw.wpList_lookup_to _ rfl _ _ 222 false rfl hm13 (good_gb _) Tryz.underlying222 (zeroBool _) rfl rfl hgb3 HEK.out (got1_some _ _) ?_)
          | (at_mapUpdate; refine raw.wpList_update _ rfl _ _ _ 222 rfl hm13 (good_gb _) (gb_stays _) Tryz.underlying222 rfl rfl rfl hgb3 ?_
             intro w4 hm14 hgr4
             have HM14 := Lib.hid hm14
             have k4 : Kp w.heap.size (w2.alloc (.cells #[.pointer pp, .int .i64 mm] PL)) w4 := Kp.grown hgr4 (fun k hk => .inl (by obtain rfl := Option.some.inj hk; exact Nat.le_refl _))
             have HK4 : Hid (Kp w.heap.size wr w4) := Lib.hid ((Kp.below HB3.out).trans k4)
             have HR4 := Lib.hid ((HROW.out.below HB3.out).kept4 hgr4 (by omega))
             have HB4 : Hid (Below w.heap.size w w4) := Lib.hid ((bs HB.out HB3.out).grown hgr4 (Nat.le_trans HB.out.size HB3.out.size) (fun k hk => by obtain rfl := Option.some.inj hk; exact Nat.le_refl _))
             have HZ4 : Hid (w.heap.size + 2 ≤ w4.heap.size) := Lib.hid (Nat.le_trans hz4 (Nat.le_trans HB3.out.size hgr4.size))
             clear hm14 hgr4 k4)
          | fail)
        clear hm13 hgb3
        go_loopg [5, 42] (Lr + 1) (fun gk2 way i wr => RIRel T (plc R 1) w gk (rp + vs.length) fr (raw.put e (.agg #[.pointer pp, .int .i64 mm]) (.bool true)) Lr R1 ks vs gk2 way i wr)
        case atStart => exact ⟨0, P, rfl, by omega, by omega, HIN.out.kp HK4.out, Lib.hid (HMS.out.kp HK4.out), Lib.hid (HRT.out.kp HK4.out), HR4.out, HM14.out, HB4.out, by have := HGK.out; simp; omega, HZ4.out⟩
        case round =>
          obtain ⟨j, P2, rfl, hgj, hjL, hin, HSI, HRI, hrow, hm1, hb, hlt2, hz5⟩ := hrel
          have HROW5 := Lib.hid hrow
          have HM5 := Lib.hid hm1
          have HB5 := Lib.hid hb
          have HLT2 := Lib.hid hlt2
          have HIN5 := Lib.hid hin
          clear hrow hm1 hb hlt2
          by_cases hlt : j < Lr
          · obtain ⟨a, y', k', n', s', x', ks', vs', A1, c1', rfl, hS, hky, hvs, ht, hyb, hkb, hin', hcell⟩ := hin.item (i := j) (by rw [← HLr.out]; exact hlt)
            have hdrop := subs_drop hvs
            have hwd : wks (vs.drop j) = 3 + wks vs' + wks (vs.drop (j + 1)) := by
              obtain ⟨hj, e1⟩ := List.getElem?_eq_some_iff.1 hvs
              rw [List.drop_eq_getElem_cons hj, e1, wks_cons, wk_mk]
            have hsm : cnts vs' < cnt T := by
              have h1 := cnts_lt hvs
              have h2 := HCT.out
              rw [cnt_mk'] at h1
              omega
            obtain ⟨L1, HL1⟩ : ∃ L1, Hid (L1 = vs'.length) := ⟨_, Lib.hid rfl⟩
            rw [← HL1.out] at hcell
            have HD := Lib.hid hdrop
            have HWD := Lib.hid hwd
            have HSM := Lib.hid hsm
            have HIN' := Lib.hid hin'
            have HCAP' := Lib.hid ht.cap
            have hL1m : L1 ≤ maxLen := by rw [HL1.out]; exact hin'.2.1
            unfold maxLen at hL1m
            obtain ⟨p0, p1, p2, p3, p4, p5, p6, p7⟩ := hcell
            clear hin hdrop hwd hsm hin' hky hvs ht hyb hkb hS
            by_cases h0 : L1 = 0
            · subst h0
              go_wp2_with (fail)
              go_roundg (Lr - j)
              case rel =>
                have hb6 := b1 wr (.cells #[.bool y'.text, .int .i64 y'.num, .string y'.str, .int .i64 k', .int .i64 n', .string s', .int .i64 x', .slice A1 0 c1'] IE)
                have e0 : vs' = [] := List.length_eq_zero_iff.1 HL1.out.symm
                have hsi := HSI.out
                rw [HD.out, e0, cnts_nil, Nat.zero_add] at hsi
                have k6 : Kp w.heap.size wr _ := Kp.below hb6
                exact ⟨j + 1, P2, by go_num, by omega, by omega, HIN5.out.kp k6, Lib.hid (hsi.kp k6), Lib.hid (HRI.out.kp k6), HROW5.out.below hb6, alH HM5.out _, bs HB5.out hb6, by have := HLT2.out; rw [HWD.out] at this; omega, Nat.le_trans hz5 hb6.size⟩
              case measure => omega
            · have hpos : 0 < L1 := by omega
              obtain ⟨i0, hi, hz⟩ : ∃ i, Tryz.prog.info? SE = some i ∧ (i.zero = some (.slice none 0 0) ∧ i.size = 1 ∧ i.bytes = 24) := by
                have := seRow
                cases hq : Tryz.prog.info? SE with
                | none => rw [hq] at this; cases this
                | some i => rw [hq] at this; simp at this; exact ⟨i, rfl, this⟩
              have HII := Lib.hid hi
              have HZZ := Lib.hid hz
              have hP : P2.length ≤ 1099511627776 := by have h1 := lefts_len P2; have h2 := HLT2.out; have h3 := HLE.out; omega
              obtain ⟨NP, HNP⟩ : ∃ NP, Hid (NP = P2.length) := ⟨_, Lib.hid rfl⟩
              rw [← HNP.out] at hP
              have hb6 := b1 wr (.cells #[.bool y'.text, .int .i64 y'.num, .string y'.str, .int .i64 k', .int .i64 n', .string s', .int .i64 x', .slice A1 L1 c1'] IE)
              have HB6 := Lib.hid hb6
              clear hi hz hb6 h0
              go_wp2_with (first
                | (at_builtin; refine wpList_append_own _ rfl _ _ 170 rfl (w.heap.size + 1) SE i0 _ 1 24 Tryz.underlying170 HII.out HZZ.out.1 HZZ.out.2.1 HZZ.out.2.2 rfl (by decide) _ NP _ rfl (by rw [HNP.out]; exact (HROW5.out.below HB6.out).below (b1 _ _)) ⟨wr.heap.size + 1, 0, none⟩ 1 1 [.slice A1 L1 c1'] (by first | rfl | simp) rfl (one_new' _ _ _ (by simp)) (by intro u hu; simp at hu; subst hu; rfl) (by unfold maxLen; omega) (by omega) (by simp; omega) ?_
                   intro v' w5 hown' hgrow' hnil
                   have HR5 := Lib.hid hown'
                   have HG5 := Lib.hid hgrow'
                   clear hown' hgrow' hnil)
                | fail)
              go_roundg (Lr - j)
              case rel =>
                have hr5 := (HROW5.out).own
                have k5 := Kp.grown (B := w.heap.size) HG5.out (fun k hk => .inl (by have := hr5 k hk; omega))
                have k7 := b1 (wr.alloc (.cells #[.bool y'.text, .int .i64 y'.num, .string y'.str, .int .i64 k', .int .i64 n', .string s', .int .i64 x', .slice A1 L1 c1'] IE)) (.cells #[.slice A1 L1 c1'] SE)
                have hkp : Kp w.heap.size wr w5 := ((Kp.below HB6.out).trans (Kp.below k7)).trans k5
                have hsi := HSI.out
                rw [HD.out] at hsi
                have hpush := hsi.push (l := ⟨A1, c1', ks', vs'⟩) ⟨HIN'.out, HCAP'.out⟩ (by show 0 < vs'.length; rw [← HL1.out]; exact hpos) HSM.out
                have hBB : Below w.heap.size w ((wr.alloc (.cells #[.bool y'.text, .int .i64 y'.num, .string y'.str, .int .i64 k', .int .i64 n', .string s', .int .i64 x', .slice A1 L1 c1'] IE)).alloc (.cells #[.slice A1 L1 c1'] SE)) := bs (bs HB5.out HB6.out) k7
                have e5 := HG5.out.block w.heap.size (Nat.lt_of_lt_of_le HM5.out.lt (Nat.le_trans HB6.out.size k7.size)) (by intro h; have := hr5 _ h.symm; omega)
                refine ⟨j + 1, ⟨A1, c1', ks', vs'⟩ :: P2, by go_num, by omega, by omega, HIN5.out.kp hkp, Lib.hid (hpush.kp hkp), Lib.hid (HRI.out.kp hkp), ?_, (alH (alH HM5.out _) _).kept e5 (fun x hx => hx.kp k5), hBB.grown HG5.out hBB.size (fun k hk => by have := hr5 k hk; omega), ?_, Nat.le_trans hz5 (Nat.le_trans HB6.out.size (Nat.le_trans k7.size HG5.out.size))⟩
                · show w5.ownsRow _ _ _ _ _ _
                  have := HR5.out
                  rw [HNP.out, HL1.out] at this
                  simpa [Pend.cell] using this
                · have := HLT2.out
                  rw [HWD.out] at this
                  rw [show lefts (Pend.mk A1 c1' ks' vs' :: P2) = 1 + wks vs' + lefts P2 from rfl]
                  omega
              case measure => omega
          · obtain rfl : j = Lr := by omega
            have hd0 : vs.drop j = [] := List.drop_eq_nil_of_le (Nat.le_of_eq HLr.out.symm)
            have hsi := HSI.out
            rw [hd0] at hsi
            have HSI2 := Lib.hid hsi
            have HLT3 := HLT2.out
            rw [hd0, wks] at HLT3
            have HLT4 := Lib.hid HLT3
            clear hin hd0 hsi HLT3
            go_wp2_with (fail)
            go_roundg (lefts P2)
            case rel => exact ⟨P2, _, (rp + vs.length), fr, rfl, (by rw [← HLr.out]; push_cast; rfl), by have := HLE5.out; omega, Lib.hid HSI2.out.done, HRI, HROW5.out, HM5.out, HB5.out, by have := HLT4.out; have := HLE.out; omega, hz5⟩
            case measure => have := HLT4.out; omega

end Go.Proofs.YtbgffmiffmmohaaGreatDoor.tree

