/-
  TableValue answers as its model at every table, every field; it leaves its argument unmodified, and its answer owns its memory.
  Conditions: none.
-/
import Derived.Test.YtcjgcnlcijejjaaRows
import Derived.Deep.RegionHeld3
import Derived.WalkKit
import Derived.ProofKit
import Derived.OpenShut
import Derived.Test.YtcjgcnlcijejjaaTB5
import Derived.Test.YtcjgcnlcijejjaaTSMarkTb
import Derived.Test.YtcjgcnlcijejjaaTB2
import Derived.Test.YtcjgcnlcijejjaaTSLawKit
import Derived.Test.YtcjgcnlcijejjaaTSLawBox
namespace Go.Proofs.Ytcjgcnlcijejjaa.fnExactTableValue
open Go.ChangeShapes Go.WideShapes Go.ChangeAt Go.RowKit tree
open Go.ChangeMaps (open_string)
set_option linter.unusedVariables false

theorem own : ownKnob Try.prog.godebug = none := by kernel_rfl

theorem totS_mem : ∀ {sl : List Sl} {t : Sl}, t ∈ sl → t.key.str.size + tot t.val ≤ totS sl
  | u :: sl, t, h => by
    rw [totS]
    rcases List.mem_cons.1 h with rfl | h
    · omega
    · have := totS_mem h; omega
theorem cS_tot : ∀ {sl : List Sl}, (∀ t ∈ sl, fits t.val) → cS sl ≤ 9 * sl.length + 7 * totS sl
  | [], _ => by simp [cS]
  | t :: sl, h => by
    have h1 := cnt_tot t.val (h t List.mem_cons_self)
    have h2 := cS_tot (sl := sl) (fun u hu => h u (List.mem_cons_of_mem _ hu))
    rw [cS, totS, List.length_cons]
    omega
theorem liv_cons (t : Sl) (sl : List Sl) : livK (t :: sl) = (if t.live then [t.key] else []) ++ livK sl ∧ livV (t :: sl) = (if t.live then [t.val] else []) ++ livV sl := by
  unfold livK livV liv
  rw [List.filter_cons]
  cases t.live <;> simp
theorem cnts_liv : ∀ {sl : List Sl}, (∀ t ∈ sl, fits t.val) → cnts (livV sl) ≤ sl.length + totS sl
  | [], _ => by simp [livV, liv, cnts_nil]
  | t :: sl, h => by
    have h1 := cnt_tot t.val (h t List.mem_cons_self)
    have h2 := cnts_liv (sl := sl) (fun u hu => h u (List.mem_cons_of_mem _ hu))
    rw [(liv_cons t sl).2, totS, List.length_cons]
    cases t.live
    · simp; omega
    · simp [cnts]; omega
theorem tots_liv : ∀ sl : List Sl, tots (livK sl) (livV sl) ≤ totS sl
  | [] => by simp [livK, livV, liv, tots]
  | t :: sl => by
    have h2 := tots_liv sl
    rw [(liv_cons t sl).1, (liv_cons t sl).2, totS]
    cases t.live
    · simp; omega
    · simp [tots_cons]; omega
theorem sfits {w : World} {S : Nat → Prop} {sl : List Sl} {A : Option Addr} (h : SIn w S sl A) : ∀ t ∈ sl, fits t.val := fun t ht => by
  obtain ⟨i, hi, rfl⟩ := List.mem_iff_getElem.1 ht
  obtain ⟨_, _, _, _, _, _, _, _, _, _, _, _, _, _, hT, -⟩ := h i _ (List.getElem?_eq_getElem hi)
  exact hT.fits

set_option maxHeartbeats 8000000 in
set_option maxRecDepth 100000 in
theorem walk (b : Bool) (A : Option Addr) (n c : Nat) (B : Option Addr) (m d : Nat) (x k : Int) (l : List Int) (sl : List Sl) (w : World) (hr : TbIn w (fun _ => True) l sl A n c B m d x k) : Calls Try.prog 3 #[.agg #[.bool b, .slice A n c, .slice B m d, .int .i64 x, .int .i64 k]] w (TrueQ w) := by
  have SZ : Hid (∀ w', Below w.heap.size w w' → Calls Try.prog 4 #[.agg #[.bool b, .slice A n c, .slice B m d, .int .i64 x, .int .i64 k], .int .i64 1048576] w' (SzQ 1048576 (n + (m + totS sl)) w')) := Lib.hid (fun w' hb => szTable (b := b) hr 1048576 (by omega) (by omega) w' hb)
  have hm := hr.len
  have hx := hr.next
  have hk := hr.count
  have hlen : l.length = n := hr.heads.len
  have hfit := sfits hr.slots
  have hq1 := cnts_liv hfit
  have hq2 := tots_liv sl
  have hq3 := cS_tot hfit
  have hq4 : (livV sl).length ≤ sl.length := by unfold livV; rw [List.length_map]; exact liv_len sl
  obtain ⟨RT, HRT⟩ : ∃ T, Hid (tvT x sl = T) := ⟨_, Lib.hid rfl⟩
  obtain ⟨RL, HRL⟩ : ∃ L, Hid ((livV sl).length = L) := ⟨_, Lib.hid rfl⟩
  have CON : Hid (n + (m + totS sl) ≤ 1048576 → (n ≤ 1048576 ∧ m + totS sl ≤ 1048576 ∧ m ≤ 1048576) ∧ (∀ t ∈ sl, cnt t.val ≤ 1000000000) ∧ cnt RT ≤ 1048578 ∧ tot RT ≤ 1000000000 ∧ cS sl ≤ 99000000000 ∧ itm RT ≤ 1048577) := Lib.hid (fun hs => by
    have h1 : cnt RT ≤ 1048577 := by rw [← HRT.out]; unfold tvT; rw [cnt_mk']; omega
    refine ⟨⟨by omega, by omega, by omega⟩, fun t h => by have := cnt_tot t.val (hfit t h); have := totS_mem h; omega, by omega, ?_, by omega, by have := itm_cnt RT; omega⟩
    rw [← HRT.out]; unfold tvT; rw [tot_mk]; show 0 + _ ≤ _; omega)
  have TT0 : Hid (n ≤ 1048576 → m + totS sl ≤ 1048576 → ∀ w', Below w.heap.size w w' → Calls Try.prog 6 #[.agg #[.bool b, .slice A n c, .slice B m d, .int .i64 x, .int .i64 k]] w' (fun e w2 => ∃ A1 c1 g mid, e = .returned (.agg #[.bool b, .slice A1 n c1, .slice (some ⟨g, 0, none⟩) m m, .int .i64 x, .int .i64 k]) ∧ imem.OwnI w2 w'.heap.size A1 n c1 l ∧ (∀ q, (Value.slice A1 n c1).ownBlock = some q → q < mid) ∧ w'.heap.size ≤ mid ∧ mid ≤ g ∧ SIn w2 (Nw mid w2) sl (some ⟨g, 0, none⟩) ∧ Below w'.heap.size w' w2)) := Lib.hid (fun h1 h2 w' hb => toTable (b := b) (w := w') ⟨hr.heads.below hb, hr.hn, hr.len, hr.cap, hr.slots.below hb, hr.next, hr.count⟩ h1 h2)
  have LS0 : Hid ((∀ t ∈ sl, cnt t.val ≤ 1000000000) → m ≤ 1048576 → ∀ w' S A1 n1 c1 B1 d1, SIn w' S sl B1 → Calls Try.prog 5 #[.agg #[.bool b, .slice A1 n1 c1, .slice B1 m d1, .int .i64 x, .int .i64 k]] w' (fun e w2 => ∃ A2 c2, e = .returned (.agg #[.int .i64 4, .int .i64 0, .string ⟨#[]⟩, .int .i64 x, .slice A2 RL c2]) ∧ TIn w2 (fun b => w'.heap.size ≤ b) RT (.agg #[.int .i64 4, .int .i64 0, .string ⟨#[]⟩, .int .i64 x, .slice A2 RL c2]) ∧ Below w'.heap.size w' w2)) := Lib.hid (fun hc h1 w' S A1 n1 c1 B1 d1 h => by
    refine (tableValue_s (b := b) (A := A1) (n := n1) (c := c1) (d := d1) (k := k) w' h hm h1 hx hc).mono ?_
    rintro e w2 ⟨v, he, hT, hb⟩
    obtain ⟨A2, c2, e2, -⟩ := (show TIn _ _ (.mk 4 0 ⟨#[]⟩ x (livK sl) (livV sl)) v from hT).out
    subst e2
    rw [HRT.out] at hT
    rw [HRL.out] at he hT
    exact ⟨A2, c2, he, hT, hb⟩)
  have LI0 : Hid (cnt RT ≤ 1048578 → tot RT ≤ 1000000000 → m ≤ 1048576 → ∀ w' A1 n1 c1 B1 d1, SIn w' (Nw 0 w') sl B1 → Calls Try.prog 7 #[.agg #[.bool b, .slice A1 n1 c1, .slice B1 m d1, .int .i64 x, .int .i64 k]] w' (fun e w2 => ∃ A2 c2 par R, e = .returned (.agg #[.int .i64 4, .int .i64 0, .string ⟨#[]⟩, .int .i64 x, .slice A2 RL c2]) ∧ TPar w2 par (R, 0) RT (.agg #[.int .i64 4, .int .i64 0, .string ⟨#[]⟩, .int .i64 x, .slice A2 RL c2]) ∧ (∀ b, Hang par (R, 0) b → Rg (R + 1) w2.heap.size b) ∧ w'.heap.size ≤ R ∧ Below w'.heap.size w' w2)) := Lib.hid (fun hc ht h1 w' A1 n1 c1 B1 d1 h => by
    rw [← HRT.out] at hc ht
    refine (tableValue_i (b := b) (A := A1) (n := n1) (c := c1) (d := d1) (k := k) w' h hm h1 hx hc ht).mono ?_
    rintro e w2 ⟨v, par, R, he, hT, hR, hb⟩
    obtain ⟨par2, hT2, hh⟩ := hT.tight
    obtain ⟨A2, c2, e2, -⟩ := (show TPar _ _ _ (.mk 4 0 ⟨#[]⟩ x (livK sl) (livV sl)) v from hT2).out
    subst e2
    rw [HRT.out] at hT2
    rw [HRL.out] at he hT2
    exact ⟨A2, c2, par2, R, he, hT2, hh, hR, hb⟩)
  have ET0 : Hid (n ≤ 1048576 → m ≤ 1048576 → ∀ w' S S' A1 c1 lo1 g1 A2 c2 lo2 g2, imem.OwnI w' lo1 A1 n c1 l → SIn w' S sl (some ⟨g1, 0, none⟩) → imem.OwnI w' lo2 A2 n c2 l → SIn w' S' sl (some ⟨g2, 0, none⟩) → Calls Try.prog 9 #[.agg #[.bool b, .slice A1 n c1, .slice (some ⟨g1, 0, none⟩) m m, .int .i64 x, .int .i64 k], .agg #[.bool b, .slice A2 n c2, .slice (some ⟨g2, 0, none⟩) m m, .int .i64 x, .int .i64 k]] w' (TrueQ w')) := Lib.hid (fun h1 h2 w' S S' A1 c1 lo1 g1 A2 c2 lo2 g2 o1 s1 o2 s2 => eqTable (b := b) ⟨o1.rd, hr.hn, hm, ⟨Nat.le_refl _, by unfold maxLen; omega⟩, s1, hx, hk⟩ ⟨o2.rd, hr.hn, hm, ⟨Nat.le_refl _, by unfold maxLen; omega⟩, s2, hx, hk⟩ (by omega))
  have MS0 : Hid (n ≤ 1048576 → cS sl ≤ 99000000000 → ∀ w' S A1 c1 lo1 g1, imem.OwnI w' lo1 A1 n c1 l → SIn w' S sl (some ⟨g1, 0, none⟩) → (∀ q, S q → Plain w' q) → (∀ q, (Value.slice A1 n c1).ownBlock = some q → ¬ S q) → Calls Try.prog 10 #[.agg #[.bool b, .slice A1 n c1, .slice (some ⟨g1, 0, none⟩) m m, .int .i64 x, .int .i64 k], .int .i64 1] w' (fun e w2 => ∃ q, e = .returned (.int .i64 q) ∧ 1 ≤ q ∧ Fr (fun q => S q ∨ (Value.slice A1 n c1).ownBlock = some q) w' w2)) := Lib.hid (fun h1 h2 w' S A1 c1 lo1 g1 o1 s1 hp hn => markTable (b := b) w' o1 s1 hp hn hm h1 h2)
  have EQ : Hid (∀ w' S S' A1 A2 c1 c2, TIn w' S RT (.agg #[.int .i64 4, .int .i64 0, .string ⟨#[]⟩, .int .i64 x, .slice A1 RL c1]) → TIn w' S' RT (.agg #[.int .i64 4, .int .i64 0, .string ⟨#[]⟩, .int .i64 x, .slice A2 RL c2]) → Calls Try.prog 8 #[.agg #[.int .i64 4, .int .i64 0, .string ⟨#[]⟩, .int .i64 x, .slice A1 RL c1], .agg #[.int .i64 4, .int .i64 0, .string ⟨#[]⟩, .int .i64 x, .slice A2 RL c2]] w' (TrueQ w')) := Lib.hid (fun w' S S' A1 A2 c1 c2 h1 h2 => eqV RT _ _ _ _ _ h1 h2)
  obtain ⟨Q, HQ⟩ : ∃ Q : Int, Hid (1 + 7 * (itm RT : Int) = Q) := ⟨_, Lib.hid rfl⟩
  have hQ0 : 1 ≤ Q := by rw [← HQ.out]; omega
  have MV0 : Hid (itm RT ≤ 1048577 → ∀ w' par R lo hi v, TPar w' par (R, 0) RT v → (∀ b, Hang par (R, 0) b → Rg lo hi b) → Calls Try.prog 11 #[v, .int .i64 1] w' (fun e w2 => e = .returned (.int .i64 Q) ∧ TPar w2 par (R, 0) (mkI 1 RT) v ∧ Fr (Rg lo hi) w' w2)) := Lib.hid (fun hi w' par R lo hi2 v h1 h2 => by have := markSep RT v 1 (by omega) (by omega) w' par R 0 lo hi2 h1 h2; rw [HQ.out] at this; exact this)
  have HV0 : Hid (itm RT ≤ 1048577 → ∀ w' S v, TIn w' S (mkI 1 RT) v → Calls Try.prog 12 #[v, .int .i64 1] w' (GivesQ w' (.int .i64 Q))) := Lib.hid (fun hi w' S v h => by have := heldSep RT v 1 (by omega) (by omega) w' S h; rw [HQ.out] at this; exact this)
  clear hr hm hx hk hlen hfit hq1 hq2 hq3 hq4
  go_enter Try.func3, Try.ntmps3
  go_wp2_with (fail)
  refine (SZ.out _ (b1 w _)).mono ?_
  rintro e w0 ⟨r, rfl, ⟨ha, hb, hc⟩, hw0⟩
  have HB : Hid (Below w.heap.size w w0) := Lib.hid (bs (b1 w _) hw0)
  obtain ⟨tA, E0⟩ : ∃ tA, Hid (w0.heap[w.heap.size]? = some (.cells #[.bool b, .slice A n c, .slice B m d, .int .i64 x, .int .i64 k] tA (0, 0))) := ⟨_, Lib.hid (carry hw0 (heap_alloc_new w _))⟩
  clear SZ hw0
  by_cases hlt : r < 0
  · go_wp2_with (fail)
    go_ret
    exact ⟨rfl, HB.out⟩
  obtain ⟨⟨k1, k2, k3⟩, k4, k5, k6, k7, k8⟩ := CON.out (by have := hc (by omega); omega)
  have TT := Lib.hid (TT0.out k1 k2)
  have LS := Lib.hid (LS0.out k4 k3)
  have LI := Lib.hid (LI0.out k5 k6 k3)
  have ET := Lib.hid (ET0.out k1 k3)
  have MS := Lib.hid (MS0.out k1 k7)
  have MV := Lib.hid (MV0.out k8)
  have HH := Lib.hid (HV0.out k8)
  clear k1 k2 k3 k4 k5 k6 k7 k8 TT0 LS0 LI0 ET0 MS0 MV0 HV0 CON hc
  have z00 : w0.cell? ⟨w.heap.size, 0, none⟩ = some (.bool b) := (rowc E0.out).1 0
  have z01 : w0.cell? ⟨w.heap.size, 1, none⟩ = some (.slice A n c) := (rowc E0.out).1 1
  have z02 : w0.cell? ⟨w.heap.size, 2, none⟩ = some (.slice B m d) := (rowc E0.out).1 2
  have z03 : w0.cell? ⟨w.heap.size, 3, none⟩ = some (.int .i64 x) := (rowc E0.out).1 3
  have z04 : w0.cell? ⟨w.heap.size, 4, none⟩ = some (.int .i64 k) := (rowc E0.out).1 4
  go_wp2_with (fail)
  refine (TT.out _ HB.out).mono ?_
  rintro e w1 ⟨A1, c1, g1, m1, rfl, hown, hmid, hlo, hmg, hs, hb⟩
  have HX1 := Lib.hid hs
  clear hown hmid hlo hmg hs
  clear z00 z01 z02 z03 z04
  replace E0 := Lib.hid (carry hb E0.out)
  replace HB := Lib.hid (bs HB.out hb)
  clear hb
  go_wp2_with (fail)
  refine (LS.out _ _ _ _ _ _ _ HX1.out).mono ?_
  rintro e w2 ⟨A4, c4, rfl, hu, hb⟩
  have HM := Lib.hid hu
  clear hu
  replace E0 := Lib.hid (carry hb E0.out)
  replace HB := Lib.hid (bs HB.out hb)
  clear hb HX1
  have z00 : (w2.alloc (.cells #[.int .i64 4, .int .i64 0, .string ⟨#[]⟩, .int .i64 x, .slice A4 RL c4] 29)).cell? ⟨w.heap.size, 0, none⟩ = some (.bool b) := (rowc (keepAlloc E0.out)).1 0
  have z01 : (w2.alloc (.cells #[.int .i64 4, .int .i64 0, .string ⟨#[]⟩, .int .i64 x, .slice A4 RL c4] 29)).cell? ⟨w.heap.size, 1, none⟩ = some (.slice A n c) := (rowc (keepAlloc E0.out)).1 1
  have z02 : (w2.alloc (.cells #[.int .i64 4, .int .i64 0, .string ⟨#[]⟩, .int .i64 x, .slice A4 RL c4] 29)).cell? ⟨w.heap.size, 2, none⟩ = some (.slice B m d) := (rowc (keepAlloc E0.out)).1 2
  have z03 : (w2.alloc (.cells #[.int .i64 4, .int .i64 0, .string ⟨#[]⟩, .int .i64 x, .slice A4 RL c4] 29)).cell? ⟨w.heap.size, 3, none⟩ = some (.int .i64 x) := (rowc (keepAlloc E0.out)).1 3
  have z04 : (w2.alloc (.cells #[.int .i64 4, .int .i64 0, .string ⟨#[]⟩, .int .i64 x, .slice A4 RL c4] 29)).cell? ⟨w.heap.size, 4, none⟩ = some (.int .i64 k) := (rowc (keepAlloc E0.out)).1 4
  go_wp2_with (fail)
  clear z00 z01 z02 z03 z04
  obtain ⟨N4, HN4⟩ : ∃ N, Hid (w2.heap.size = N) := ⟨_, Lib.hid rfl⟩
  generalize hwn : w2.alloc (.cells #[.int .i64 4, .int .i64 0, .string ⟨#[]⟩, .int .i64 x, .slice A4 RL c4] 29) = w3
  have hbx : Below w2.heap.size w2 w3 := hwn ▸ b1 _ _
  have E4 : Hid (w3.heap[N4]? = some (.cells #[.int .i64 4, .int .i64 0, .string ⟨#[]⟩, .int .i64 x, .slice A4 RL c4] 29 (0, 0))) := Lib.hid (by rw [← hwn, ← HN4.out]; exact heap_alloc_new _ _)
  replace E0 := Lib.hid (carry hbx E0.out)
  replace HM := Lib.hid (HM.out.below' hbx)
  replace HB := Lib.hid (bs HB.out hbx)
  rw [HN4.out]
  have HN4l : Hid (N4 < w3.heap.size) := Lib.hid (Array.getElem?_eq_some_iff.1 E4.out).1
  clear hwn hbx
  obtain ⟨lo0, hlo0⟩ : ∃ N, Hid (w3.heap.size = N) := ⟨_, Lib.hid rfl⟩
  replace HM : Hid (TIn w3 (fun b => b < lo0) RT (.agg #[.int .i64 4, .int .i64 0, .string ⟨#[]⟩, .int .i64 x, .slice A4 RL c4])) := Lib.hid (by rw [← hlo0.out]; exact HM.out.lt')
  have HN0l : Hid (w.heap.size < lo0) := Lib.hid (by rw [← hlo0.out]; exact (Array.getElem?_eq_some_iff.1 E0.out).1)
  rw [hlo0.out] at HN4l
  have HLW : Hid (w.heap.size ≤ lo0) := Lib.hid (by rw [← hlo0.out]; exact HB.out.size)
  refine (TT.out _ HB.out).mono ?_
  rintro e w4 ⟨A5, c5, g5, m5, rfl, hown, hmid, hlo, hmg, hs, hb⟩
  rw [hlo0.out] at hown hlo
  obtain ⟨hi0, hhi0⟩ : ∃ N, Hid (w4.heap.size = N) := ⟨_, Lib.hid rfl⟩
  obtain ⟨S0, HS0⟩ : ∃ S : Nat → Prop, Hid (S = fun b => Rg m5 hi0 b ∧ Plain w4 b) := ⟨_, Lib.hid rfl⟩
  have HX : Hid (SIn w4 S0 sl (some ⟨g5, 0, none⟩)) := Lib.hid (by rw [HS0.out, ← hhi0.out]; exact hs.stays (fun b hb => ⟨⟨hb.1, hb.2.lt⟩, hb.2⟩) (fun _ _ _ => rfl))
  have HO : Hid (imem.OwnI w4 lo0 A5 n c5 l) := Lib.hid hown
  have HP : Hid (∀ b, S0 b → Plain w4 b) := Lib.hid (fun b hb => by rw [HS0.out] at hb; exact hb.2)
  have HSR : Hid (∀ b, S0 b ∨ (Value.slice A5 n c5).ownBlock = some b → Rg lo0 hi0 b) := Lib.hid (fun b hb => by
    rcases hb with hb | hb
    · rw [HS0.out] at hb; exact ⟨Nat.le_trans hlo hb.1.1, hb.1.2⟩
    · rw [← hhi0.out]; exact hown.block b hb)
  have HNS : Hid (∀ q, (Value.slice A5 n c5).ownBlock = some q → ¬ S0 q) := Lib.hid (fun q h1 h2 => by have := hmid q h1; rw [HS0.out] at h2; exact absurd h2.1.1 (Nat.not_le.2 this))
  have hlh : lo0 ≤ hi0 := by rw [← hhi0.out, ← hlo0.out]; exact hb.size
  clear hown hmid hlo hmg hs
  replace E0 := Lib.hid (carry hb E0.out)
  replace HM := Lib.hid (HM.out.below' hb)
  replace E4 := Lib.hid (carry hb E4.out)
  replace HB := Lib.hid (bs HB.out hb)
  clear hb
  go_wp2_with (fail)
  obtain ⟨N5, HN5⟩ : ∃ N, Hid (w4.heap.size = N) := ⟨_, Lib.hid rfl⟩
  generalize hwn : w4.alloc (.cells #[.bool b, .slice A5 n c5, .slice (some ⟨g5, 0, none⟩) m m, .int .i64 x, .int .i64 k] IT) = w5
  have hbx : Below w4.heap.size w4 w5 := hwn ▸ b1 _ _
  have E5 : Hid (w5.heap[N5]? = some (.cells #[.bool b, .slice A5 n c5, .slice (some ⟨g5, 0, none⟩) m m, .int .i64 x, .int .i64 k] IT (0, 0))) := Lib.hid (by rw [← hwn, ← HN5.out]; exact heap_alloc_new _ _)
  replace E0 := Lib.hid (carry hbx E0.out)
  replace HM := Lib.hid (HM.out.below' hbx)
  replace E4 := Lib.hid (carry hbx E4.out)
  replace HX := Lib.hid (HX.out.below hbx)
  replace HO := Lib.hid (HO.out.below hbx)
  replace HP : Hid (∀ b, S0 b → Plain w5 b) := Lib.hid (fun b h => by obtain ⟨cs, t, e⟩ := HP.out b h; exact ⟨cs, t, carry hbx e⟩)
  replace HB := Lib.hid (bs HB.out hbx)
  rw [HN5.out]
  have HN5l : Hid (N5 < w5.heap.size) := Lib.hid (Array.getElem?_eq_some_iff.1 E5.out).1
  clear hwn hbx
  refine (LI.out _ _ _ _ _ _ (HX.out.stays (fun b hb => ⟨Nat.zero_le _, HP.out b hb⟩) (fun _ _ _ => rfl))).mono ?_
  rintro e w6 ⟨A6, c6, par, R, rfl, hu, hh, hR0, hb⟩
  have HG := Lib.hid hu
  have HHG := Lib.hid hh
  have hR5 : N5 < R := Nat.lt_of_lt_of_le HN5l.out hR0
  have hR : hi0 ≤ R := by have := HN5.out; rw [hhi0.out] at this; omega
  have hz6 : R ≤ w6.heap.size ∨ True := .inr trivial
  have hz5 : hi0 ≤ w6.heap.size := by have h1 := hb.size; have h2 := HN5l.out; have h3 := HN5.out; rw [hhi0.out] at h3; omega
  clear hu hh hR0 hz6
  replace E0 := Lib.hid (carry hb E0.out)
  replace HM := Lib.hid (HM.out.below' hb)
  replace E4 := Lib.hid (carry hb E4.out)
  replace HX := Lib.hid (HX.out.below hb)
  replace HO := Lib.hid (HO.out.below hb)
  replace HP : Hid (∀ b, S0 b → Plain w6 b) := Lib.hid (fun b h => by obtain ⟨cs, t, e⟩ := HP.out b h; exact ⟨cs, t, carry hb e⟩)
  replace E5 := Lib.hid (carry hb E5.out)
  replace HB := Lib.hid (bs HB.out hb)
  clear hb
  have z40 : (w6.alloc (.cells #[.int .i64 4, .int .i64 0, .string ⟨#[]⟩, .int .i64 x, .slice A6 RL c6] 29)).cell? ⟨N4, 0, none⟩ = some (.int .i64 4) := (rowc (keepAlloc E4.out)).1 0
  have z41 : (w6.alloc (.cells #[.int .i64 4, .int .i64 0, .string ⟨#[]⟩, .int .i64 x, .slice A6 RL c6] 29)).cell? ⟨N4, 1, none⟩ = some (.int .i64 0) := (rowc (keepAlloc E4.out)).1 1
  have z42 : (w6.alloc (.cells #[.int .i64 4, .int .i64 0, .string ⟨#[]⟩, .int .i64 x, .slice A6 RL c6] 29)).cell? ⟨N4, 2, none⟩ = some (.string ⟨#[]⟩) := (rowc (keepAlloc E4.out)).1 2
  have z43 : (w6.alloc (.cells #[.int .i64 4, .int .i64 0, .string ⟨#[]⟩, .int .i64 x, .slice A6 RL c6] 29)).cell? ⟨N4, 3, none⟩ = some (.int .i64 x) := (rowc (keepAlloc E4.out)).1 3
  have z44 : (w6.alloc (.cells #[.int .i64 4, .int .i64 0, .string ⟨#[]⟩, .int .i64 x, .slice A6 RL c6] 29)).cell? ⟨N4, 4, none⟩ = some (.slice A4 RL c4) := (rowc (keepAlloc E4.out)).1 4
  go_wp2_with (fail)
  clear z40 z41 z42 z43 z44
  obtain ⟨N6, HN6⟩ : ∃ N, Hid (w6.heap.size = N) := ⟨_, Lib.hid rfl⟩
  generalize hwn : w6.alloc (.cells #[.int .i64 4, .int .i64 0, .string ⟨#[]⟩, .int .i64 x, .slice A6 RL c6] 29) = w7
  have hbx : Below w6.heap.size w6 w7 := hwn ▸ b1 _ _
  have E6 : Hid (w7.heap[N6]? = some (.cells #[.int .i64 4, .int .i64 0, .string ⟨#[]⟩, .int .i64 x, .slice A6 RL c6] 29 (0, 0))) := Lib.hid (by rw [← hwn, ← HN6.out]; exact heap_alloc_new _ _)
  replace E0 := Lib.hid (carry hbx E0.out)
  replace HM := Lib.hid (HM.out.below' hbx)
  replace E4 := Lib.hid (carry hbx E4.out)
  replace HX := Lib.hid (HX.out.below hbx)
  replace HO := Lib.hid (HO.out.below hbx)
  replace HP : Hid (∀ b, S0 b → Plain w7 b) := Lib.hid (fun b h => by obtain ⟨cs, t, e⟩ := HP.out b h; exact ⟨cs, t, carry hbx e⟩)
  replace E5 := Lib.hid (carry hbx E5.out)
  replace HG := Lib.hid (HG.out.above fun q _ hl => Below.block hbx q hl)
  replace HB := Lib.hid (bs HB.out hbx)
  rw [HN6.out]
  have HN6l : Hid (N6 < w7.heap.size) := Lib.hid (Array.getElem?_eq_some_iff.1 E6.out).1
  clear hwn hbx
  have HI6 : Hid (hi0 ≤ N6) := Lib.hid (by rw [← HN6.out]; exact hz5)
  rw [HN6.out] at HHG
  refine (EQ.out _ _ _ _ _ _ _ HG.out.tin HM.out).mono ?_
  rintro e w8 ⟨rfl, hb⟩
  skip
  replace E0 := Lib.hid (carry hb E0.out)
  replace HM := Lib.hid (HM.out.below' hb)
  replace E4 := Lib.hid (carry hb E4.out)
  replace HX := Lib.hid (HX.out.below hb)
  replace HO := Lib.hid (HO.out.below hb)
  replace HP : Hid (∀ b, S0 b → Plain w8 b) := Lib.hid (fun b h => by obtain ⟨cs, t, e⟩ := HP.out b h; exact ⟨cs, t, carry hb e⟩)
  replace E5 := Lib.hid (carry hb E5.out)
  replace HG := Lib.hid (HG.out.above fun q _ hl => Below.block hb q hl)
  replace E6 := Lib.hid (carry hb E6.out)
  replace HB := Lib.hid (bs HB.out hb)
  clear hb
  have z50 : w8.cell? ⟨N5, 0, none⟩ = some (.bool b) := (rowc E5.out).1 0
  have z51 : w8.cell? ⟨N5, 1, none⟩ = some (.slice A5 n c5) := (rowc E5.out).1 1
  have z52 : w8.cell? ⟨N5, 2, none⟩ = some (.slice (some ⟨g5, 0, none⟩) m m) := (rowc E5.out).1 2
  have z53 : w8.cell? ⟨N5, 3, none⟩ = some (.int .i64 x) := (rowc E5.out).1 3
  have z54 : w8.cell? ⟨N5, 4, none⟩ = some (.int .i64 k) := (rowc E5.out).1 4
  have z00 : w8.cell? ⟨w.heap.size, 0, none⟩ = some (.bool b) := (rowc E0.out).1 0
  have z01 : w8.cell? ⟨w.heap.size, 1, none⟩ = some (.slice A n c) := (rowc E0.out).1 1
  have z02 : w8.cell? ⟨w.heap.size, 2, none⟩ = some (.slice B m d) := (rowc E0.out).1 2
  have z03 : w8.cell? ⟨w.heap.size, 3, none⟩ = some (.int .i64 x) := (rowc E0.out).1 3
  have z04 : w8.cell? ⟨w.heap.size, 4, none⟩ = some (.int .i64 k) := (rowc E0.out).1 4
  go_wp2_with (fail)
  go_region_held3 (fun w' => w'.cell? ⟨N5, 0, none⟩ = some (.bool b) ∧ w'.cell? ⟨N5, 1, none⟩ = some (.slice A5 n c5) ∧ w'.cell? ⟨N5, 2, none⟩ = some (.slice (some ⟨g5, 0, none⟩) m m) ∧ w'.cell? ⟨N5, 3, none⟩ = some (.int .i64 x) ∧ w'.cell? ⟨N5, 4, none⟩ = some (.int .i64 k) ∧ w'.cell? ⟨w.heap.size, 0, none⟩ = some (.bool b) ∧ w'.cell? ⟨w.heap.size, 1, none⟩ = some (.slice A n c) ∧ w'.cell? ⟨w.heap.size, 2, none⟩ = some (.slice B m d) ∧ w'.cell? ⟨w.heap.size, 3, none⟩ = some (.int .i64 x) ∧ w'.cell? ⟨w.heap.size, 4, none⟩ = some (.int .i64 k)) (go_keep)
    (first
    | (go_at_call 6; refine (TT.out _ (HB.out.trans ((Below.refl _ _).drew))).mono ?_
       rintro e w9 ⟨A8, c8, g8, m8, rfl, hown, hmid, hlo, hmg, hs, hb⟩
       have hbx := (bs ((Below.refl w8.heap.size w8).drew) hb)
       have HO8 := Lib.hid hown
       have HX8 := Lib.hid hs
       clear hown hmid hlo hmg hs
       replace E0 := Lib.hid (carry hbx E0.out)
       replace HM := Lib.hid (HM.out.below' hbx)
       replace E4 := Lib.hid (carry hbx E4.out)
       replace HX := Lib.hid (HX.out.below hbx)
       replace HO := Lib.hid (HO.out.below hbx)
       replace HP : Hid (∀ b, S0 b → Plain w9 b) := Lib.hid (fun b h => by obtain ⟨cs, t, e⟩ := HP.out b h; exact ⟨cs, t, carry hbx e⟩)
       replace E5 := Lib.hid (carry hbx E5.out)
       replace HG := Lib.hid (HG.out.above fun q _ hl => Below.block hbx q hl)
       replace E6 := Lib.hid (carry hbx E6.out)
       replace HB := Lib.hid (bs HB.out hbx)
       have z50 : w9.cell? ⟨N5, 0, none⟩ = some (.bool b) := (rowc E5.out).1 0
       have z51 : w9.cell? ⟨N5, 1, none⟩ = some (.slice A5 n c5) := (rowc E5.out).1 1
       have z52 : w9.cell? ⟨N5, 2, none⟩ = some (.slice (some ⟨g5, 0, none⟩) m m) := (rowc E5.out).1 2
       have z53 : w9.cell? ⟨N5, 3, none⟩ = some (.int .i64 x) := (rowc E5.out).1 3
       have z54 : w9.cell? ⟨N5, 4, none⟩ = some (.int .i64 k) := (rowc E5.out).1 4
       have z00 : w9.cell? ⟨w.heap.size, 0, none⟩ = some (.bool b) := (rowc E0.out).1 0
       have z01 : w9.cell? ⟨w.heap.size, 1, none⟩ = some (.slice A n c) := (rowc E0.out).1 1
       have z02 : w9.cell? ⟨w.heap.size, 2, none⟩ = some (.slice B m d) := (rowc E0.out).1 2
       have z03 : w9.cell? ⟨w.heap.size, 3, none⟩ = some (.int .i64 x) := (rowc E0.out).1 3
       have z04 : w9.cell? ⟨w.heap.size, 4, none⟩ = some (.int .i64 k) := (rowc E0.out).1 4
       clear hb hbx)
    | (go_at_call 9; refine (ET.out _ _ _ _ _ _ _ _ _ _ _ HO.out HX.out HO8.out HX8.out).mono ?_
       rintro e w10 ⟨rfl, hb⟩
       have hbx := hb
       replace E0 := Lib.hid (carry hbx E0.out)
       replace HM := Lib.hid (HM.out.below' hbx)
       replace E4 := Lib.hid (carry hbx E4.out)
       replace HX := Lib.hid (HX.out.below hbx)
       replace HO := Lib.hid (HO.out.below hbx)
       replace HP : Hid (∀ b, S0 b → Plain w10 b) := Lib.hid (fun b h => by obtain ⟨cs, t, e⟩ := HP.out b h; exact ⟨cs, t, carry hbx e⟩)
       replace E5 := Lib.hid (carry hbx E5.out)
       replace HG := Lib.hid (HG.out.above fun q _ hl => Below.block hbx q hl)
       replace E6 := Lib.hid (carry hbx E6.out)
       replace HB := Lib.hid (bs HB.out hbx)
       have z50 : w10.cell? ⟨N5, 0, none⟩ = some (.bool b) := (rowc E5.out).1 0
       have z51 : w10.cell? ⟨N5, 1, none⟩ = some (.slice A5 n c5) := (rowc E5.out).1 1
       have z52 : w10.cell? ⟨N5, 2, none⟩ = some (.slice (some ⟨g5, 0, none⟩) m m) := (rowc E5.out).1 2
       have z53 : w10.cell? ⟨N5, 3, none⟩ = some (.int .i64 x) := (rowc E5.out).1 3
       have z54 : w10.cell? ⟨N5, 4, none⟩ = some (.int .i64 k) := (rowc E5.out).1 4
       have z00 : w10.cell? ⟨w.heap.size, 0, none⟩ = some (.bool b) := (rowc E0.out).1 0
       have z01 : w10.cell? ⟨w.heap.size, 1, none⟩ = some (.slice A n c) := (rowc E0.out).1 1
       have z02 : w10.cell? ⟨w.heap.size, 2, none⟩ = some (.slice B m d) := (rowc E0.out).1 2
       have z03 : w10.cell? ⟨w.heap.size, 3, none⟩ = some (.int .i64 x) := (rowc E0.out).1 3
       have z04 : w10.cell? ⟨w.heap.size, 4, none⟩ = some (.int .i64 k) := (rowc E0.out).1 4
       clear hb hbx HO8 HX8))
  clear z00 z01 z02 z03 z04
  go_wp2_with (fail)
  refine (MS.out _ _ _ _ _ _ HO.out HX.out HP.out HNS.out).mono ?_
  rintro e w11 ⟨q, rfl, hq, hf⟩
  clear HP HX HO
  replace E0 := Lib.hid ((hf.block _ (Array.getElem?_eq_some_iff.1 E0.out).1 (fun h => by have := HSR.out _ h; unfold Rg at this; have := HN0l.out; omega)).trans E0.out)
  replace E4 := Lib.hid ((hf.block _ (Array.getElem?_eq_some_iff.1 E4.out).1 (fun h => by have := HSR.out _ h; unfold Rg at this; have := HN4l.out; omega)).trans E4.out)
  replace E6 := Lib.hid ((hf.block _ (Array.getElem?_eq_some_iff.1 E6.out).1 (fun h => by have := HSR.out _ h; unfold Rg at this; have := HI6.out; omega)).trans E6.out)
  replace HM := Lib.hid (HM.out.stays (fun _ h => h) (fun b hb hl => hf.block b hl (fun h => by have := HSR.out _ h; unfold Rg at this; have hb' : b < lo0 := hb; omega)))
  replace HG := Lib.hid (HG.out.above fun b hb hl => hf.block b hl (fun h => by have := HSR.out _ h; unfold Rg at this; have hb' : R < b := hb; omega))
  replace HB := Lib.hid (Below.fr HB.out (Nat.le_refl _) hf (fun b h => by have := HSR.out _ h; unfold Rg at this; have := HLW.out; omega))
  clear hf
  clear z50 z51 z52 z53 z54
  clear E5
  have z40 : w11.cell? ⟨N4, 0, none⟩ = some (.int .i64 4) := (rowc E4.out).1 0
  have z41 : w11.cell? ⟨N4, 1, none⟩ = some (.int .i64 0) := (rowc E4.out).1 1
  have z42 : w11.cell? ⟨N4, 2, none⟩ = some (.string ⟨#[]⟩) := (rowc E4.out).1 2
  have z43 : w11.cell? ⟨N4, 3, none⟩ = some (.int .i64 x) := (rowc E4.out).1 3
  have z44 : w11.cell? ⟨N4, 4, none⟩ = some (.slice A4 RL c4) := (rowc E4.out).1 4
  have z60 : w11.cell? ⟨N6, 0, none⟩ = some (.int .i64 4) := (rowc E6.out).1 0
  have z61 : w11.cell? ⟨N6, 1, none⟩ = some (.int .i64 0) := (rowc E6.out).1 1
  have z62 : w11.cell? ⟨N6, 2, none⟩ = some (.string ⟨#[]⟩) := (rowc E6.out).1 2
  have z63 : w11.cell? ⟨N6, 3, none⟩ = some (.int .i64 x) := (rowc E6.out).1 3
  have z64 : w11.cell? ⟨N6, 4, none⟩ = some (.slice A6 RL c6) := (rowc E6.out).1 4
  go_wp2_with (fail)
  refine (EQ.out _ _ _ _ _ _ _ HG.out.tin HM.out).mono ?_
  rintro e w12 ⟨rfl, hb⟩
  skip
  replace E0 := Lib.hid (carry hb E0.out)
  replace HM := Lib.hid (HM.out.below' hb)
  replace E4 := Lib.hid (carry hb E4.out)
  replace HG := Lib.hid (HG.out.above fun q _ hl => Below.block hb q hl)
  replace E6 := Lib.hid (carry hb E6.out)
  replace HB := Lib.hid (bs HB.out hb)
  clear hb
  clear z40 z41 z42 z43 z44 z60 z61 z62 z63 z64
  have z60 : w12.cell? ⟨N6, 0, none⟩ = some (.int .i64 4) := (rowc E6.out).1 0
  have z61 : w12.cell? ⟨N6, 1, none⟩ = some (.int .i64 0) := (rowc E6.out).1 1
  have z62 : w12.cell? ⟨N6, 2, none⟩ = some (.string ⟨#[]⟩) := (rowc E6.out).1 2
  have z63 : w12.cell? ⟨N6, 3, none⟩ = some (.int .i64 x) := (rowc E6.out).1 3
  have z64 : w12.cell? ⟨N6, 4, none⟩ = some (.slice A6 RL c6) := (rowc E6.out).1 4
  go_wp2_with (fail)
  refine (MV.out _ _ _ _ _ _ HG.out HHG.out).mono ?_
  rintro e w13 ⟨rfl, hu, hf⟩
  replace E0 := Lib.hid ((hf.block _ (Array.getElem?_eq_some_iff.1 E0.out).1 (by unfold Rg; have := HN0l.out; omega)).trans E0.out)
  replace E4 := Lib.hid ((hf.block _ (Array.getElem?_eq_some_iff.1 E4.out).1 (by unfold Rg; have := HN4l.out; omega)).trans E4.out)
  replace E6 := Lib.hid ((hf.block _ (Array.getElem?_eq_some_iff.1 E6.out).1 (by unfold Rg; omega)).trans E6.out)
  replace HM := Lib.hid (HM.out.stays (fun _ h => h) (fun b hb hl => hf.block b hl (by unfold Rg; have hb' : b < lo0 := hb; omega)))
  replace HB := Lib.hid (Below.fr HB.out (Nat.le_refl _) hf (fun b hb => by unfold Rg at hb; have := HLW.out; omega))
  replace HG := Lib.hid hu
  clear hu hf
  clear z60 z61 z62 z63 z64
  have z60 : w13.cell? ⟨N6, 0, none⟩ = some (.int .i64 4) := (rowc E6.out).1 0
  have z61 : w13.cell? ⟨N6, 1, none⟩ = some (.int .i64 0) := (rowc E6.out).1 1
  have z62 : w13.cell? ⟨N6, 2, none⟩ = some (.string ⟨#[]⟩) := (rowc E6.out).1 2
  have z63 : w13.cell? ⟨N6, 3, none⟩ = some (.int .i64 x) := (rowc E6.out).1 3
  have z64 : w13.cell? ⟨N6, 4, none⟩ = some (.slice A6 RL c6) := (rowc E6.out).1 4
  go_wp2_with (fail)
  refine (HH.out _ _ _ HG.out.tin).mono ?_
  rintro e w14 ⟨rfl, hb⟩
  skip
  replace E0 := Lib.hid (carry hb E0.out)
  replace HM := Lib.hid (HM.out.below' hb)
  replace E4 := Lib.hid (carry hb E4.out)
  replace HG := Lib.hid (HG.out.above fun q _ hl => Below.block hb q hl)
  replace E6 := Lib.hid (carry hb E6.out)
  replace HB := Lib.hid (bs HB.out hb)
  clear hb
  clear z60 z61 z62 z63 z64
  have z00 : w14.cell? ⟨w.heap.size, 0, none⟩ = some (.bool b) := (rowc E0.out).1 0
  have z01 : w14.cell? ⟨w.heap.size, 1, none⟩ = some (.slice A n c) := (rowc E0.out).1 1
  have z02 : w14.cell? ⟨w.heap.size, 2, none⟩ = some (.slice B m d) := (rowc E0.out).1 2
  have z03 : w14.cell? ⟨w.heap.size, 3, none⟩ = some (.int .i64 x) := (rowc E0.out).1 3
  have z04 : w14.cell? ⟨w.heap.size, 4, none⟩ = some (.int .i64 k) := (rowc E0.out).1 4
  go_wp2_with (fail)
  refine (TT.out _ HB.out).mono ?_
  rintro e w15 ⟨A7, c7, g7, m7, rfl, hown, hmid, hlo, hmg, hs, hb⟩
  have HX9 := Lib.hid hs
  clear hown hmid hlo hmg hs
  clear z00 z01 z02 z03 z04
  replace E0 := Lib.hid (carry hb E0.out)
  replace HM := Lib.hid (HM.out.below' hb)
  replace E4 := Lib.hid (carry hb E4.out)
  replace HG := Lib.hid (HG.out.above fun q _ hl => Below.block hb q hl)
  replace E6 := Lib.hid (carry hb E6.out)
  replace HB := Lib.hid (bs HB.out hb)
  clear hb E0
  go_wp2_with (fail)
  refine (LI.out _ _ _ _ _ _ (HX9.out.stays (fun b hb => ⟨Nat.zero_le _, hb.2⟩) (fun _ _ _ => rfl))).mono ?_
  rintro e w16 ⟨A9, c9, par9, R9, rfl, hu, hh, hR9, hb⟩
  have HG2 := Lib.hid hu
  clear hu hh HX9
  replace HM := Lib.hid (HM.out.below' hb)
  replace E4 := Lib.hid (carry hb E4.out)
  replace HG := Lib.hid (HG.out.above fun q _ hl => Below.block hb q hl)
  replace E6 := Lib.hid (carry hb E6.out)
  replace HB := Lib.hid (bs HB.out hb)
  clear hb
  have z40 : (w16.alloc (.cells #[.int .i64 4, .int .i64 0, .string ⟨#[]⟩, .int .i64 x, .slice A9 RL c9] 29)).cell? ⟨N4, 0, none⟩ = some (.int .i64 4) := (rowc (keepAlloc E4.out)).1 0
  have z41 : (w16.alloc (.cells #[.int .i64 4, .int .i64 0, .string ⟨#[]⟩, .int .i64 x, .slice A9 RL c9] 29)).cell? ⟨N4, 1, none⟩ = some (.int .i64 0) := (rowc (keepAlloc E4.out)).1 1
  have z42 : (w16.alloc (.cells #[.int .i64 4, .int .i64 0, .string ⟨#[]⟩, .int .i64 x, .slice A9 RL c9] 29)).cell? ⟨N4, 2, none⟩ = some (.string ⟨#[]⟩) := (rowc (keepAlloc E4.out)).1 2
  have z43 : (w16.alloc (.cells #[.int .i64 4, .int .i64 0, .string ⟨#[]⟩, .int .i64 x, .slice A9 RL c9] 29)).cell? ⟨N4, 3, none⟩ = some (.int .i64 x) := (rowc (keepAlloc E4.out)).1 3
  have z44 : (w16.alloc (.cells #[.int .i64 4, .int .i64 0, .string ⟨#[]⟩, .int .i64 x, .slice A9 RL c9] 29)).cell? ⟨N4, 4, none⟩ = some (.slice A4 RL c4) := (rowc (keepAlloc E4.out)).1 4
  go_wp2_with (fail)
  clear z40 z41 z42 z43 z44
  obtain ⟨N9, HN9⟩ : ∃ N, Hid (w16.heap.size = N) := ⟨_, Lib.hid rfl⟩
  generalize hwn : w16.alloc (.cells #[.int .i64 4, .int .i64 0, .string ⟨#[]⟩, .int .i64 x, .slice A9 RL c9] 29) = w17
  have hbx : Below w16.heap.size w16 w17 := hwn ▸ b1 _ _
  have E9 : Hid (w17.heap[N9]? = some (.cells #[.int .i64 4, .int .i64 0, .string ⟨#[]⟩, .int .i64 x, .slice A9 RL c9] 29 (0, 0))) := Lib.hid (by rw [← hwn, ← HN9.out]; exact heap_alloc_new _ _)
  replace HM := Lib.hid (HM.out.below' hbx)
  replace E4 := Lib.hid (carry hbx E4.out)
  replace HG := Lib.hid (HG.out.above fun q _ hl => Below.block hbx q hl)
  replace E6 := Lib.hid (carry hbx E6.out)
  replace HG2 := Lib.hid (HG2.out.above fun q _ hl => Below.block hbx q hl)
  replace HB := Lib.hid (bs HB.out hbx)
  rw [HN9.out]
  have HN9l : Hid (N9 < w17.heap.size) := Lib.hid (Array.getElem?_eq_some_iff.1 E9.out).1
  clear hwn hbx
  refine (EQ.out _ _ _ _ _ _ _ HG2.out.tin HM.out).mono ?_
  rintro e w18 ⟨rfl, hb⟩
  skip
  replace HM := Lib.hid (HM.out.below' hb)
  replace E4 := Lib.hid (carry hb E4.out)
  replace HG := Lib.hid (HG.out.above fun q _ hl => Below.block hb q hl)
  replace E6 := Lib.hid (carry hb E6.out)
  replace HG2 := Lib.hid (HG2.out.above fun q _ hl => Below.block hb q hl)
  replace E9 := Lib.hid (carry hb E9.out)
  replace HB := Lib.hid (bs HB.out hb)
  clear hb
  have z60 : w18.cell? ⟨N6, 0, none⟩ = some (.int .i64 4) := (rowc E6.out).1 0
  have z61 : w18.cell? ⟨N6, 1, none⟩ = some (.int .i64 0) := (rowc E6.out).1 1
  have z62 : w18.cell? ⟨N6, 2, none⟩ = some (.string ⟨#[]⟩) := (rowc E6.out).1 2
  have z63 : w18.cell? ⟨N6, 3, none⟩ = some (.int .i64 x) := (rowc E6.out).1 3
  have z64 : w18.cell? ⟨N6, 4, none⟩ = some (.slice A6 RL c6) := (rowc E6.out).1 4
  go_wp2_with (fail)
  refine (HH.out _ _ _ HG.out.tin).mono ?_
  rintro e w19 ⟨rfl, hb⟩
  skip
  replace HM := Lib.hid (HM.out.below' hb)
  replace E4 := Lib.hid (carry hb E4.out)
  replace HG := Lib.hid (HG.out.above fun q _ hl => Below.block hb q hl)
  replace E6 := Lib.hid (carry hb E6.out)
  replace HG2 := Lib.hid (HG2.out.above fun q _ hl => Below.block hb q hl)
  replace E9 := Lib.hid (carry hb E9.out)
  replace HB := Lib.hid (bs HB.out hb)
  clear hb
  clear z60 z61 z62 z63 z64
  go_wp2_with (fail)
  go_ret
  exact ⟨rfl, HB.out⟩

set_option maxRecDepth 100000 in
theorem lifted (os : Os) (started : os.Started) (H : Type) (enc : TypeId × Value → H) :
    ReturnsInHanded {} Try.checked os 3 .any (Rows.fnExactTableValueSpec.pre6 enc Try.prog Try.f3 Rows.fnExactTableValueRow.domain false) (Rows.fnExactTableValueSpec.post enc Try.prog Try.f3 false true false false) := by
  refine returnsInHanded_of_change (C := Try.checked) own started (by kernel_rfl) Try.func3
    (ChangeSpec.witness6 (enc := enc) (C := Try.checked) false ⟨#[], #[.agg #[.bool false, .slice none 0 0, .slice none 0 0, .int .i64 0, .int .i64 0]], []⟩ 8 (by kernel_rfl) (by kernel_rfl) (by kernel_rfl) (by kernel_rfl)) ?_
  intro W base args ds gs before hval0 hW hcnd _
  have hval : ∀ (j : Nat) t v, Try.f3.params[j]? = some t → args[j]? = some v → Value.okWide Try.prog W .any base t v := hval0
  have hW' := hW
  obtain ⟨p, q, hA0, hV, rfl, hfz, hnd⟩ := hW
  have hA : DataW.TrodAll enc Try.prog W 0 (fun _ => true) true Try.f3.params.toList args.toList ds p := hA0
  have hA2 := hA
  rw [Try.params3] at hA hval
  obtain ⟨v0, d0, rfl, rfl, h0⟩ := trodAll_one hA
  obtain ⟨rfl, rfl⟩ := trodVars_none hV
  obtain ⟨b0, A0, n0, c0, B0, m0, d0, nx0, ct0, l0, sl0, rfl, hr0⟩ := open_table (hval 0 25 v0 rfl rfl) h0
  clear hA0 hval0
  simp only [List.append_nil] at hW' hA2
  refine (walk b0 A0 n0 c0 B0 m0 d0 nx0 ct0 l0 sl0 W hr0).mono fun e W' ⟨he, hb⟩ => ?_
  subst he
  exact ⟨_, rfl, opn.post_true hW' rfl hA2 rfl rfl Try.underlying4 (by kernel_rfl) (by kernel_rfl) hb⟩

theorem over : Rows.fnExactTableValueRow.holds Try.pinned (OpenSpec.ofChange Rows.fnExactTableValueSpec) :=
  OpenClaim.holds_of_wide 3 Try.f3 rfl rfl rfl rfl rfl rfl rfl ⟨rfl, rfl, rfl, rfl, rfl⟩ rfl rfl rfl rfl rfl (by kernel_rfl) Try.func3 (by kernel_rfl)
    (of_decide_eq_true (by kernel_rfl)) (by unfold Func.isWrapper; first | (rw [if_pos (by decide +kernel)]; kernel_rfl) | (rw [if_neg (by decide +kernel)]; exact ⟨rfl, rfl⟩))
    (fun os started H enc _ => lifted os started H enc)

/-- The statement. -/
theorem proved : Rows.FnExactTableValueSaid :=
  over
#print axioms proved
end Go.Proofs.Ytcjgcnlcijejjaa.fnExactTableValue

