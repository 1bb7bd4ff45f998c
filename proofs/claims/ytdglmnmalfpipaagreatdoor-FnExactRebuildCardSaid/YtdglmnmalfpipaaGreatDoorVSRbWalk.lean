/-
  Rebuild answers as its model at every table; it leaves its argument unmodified, and its answer owns its memory.
  Conditions: the package variables that the row lists hold what the program's text lays, and the card ties that to the text.
-/
import Derived.Test.YtdglmnmalfpipaaGreatDoorRows
import Derived.Test.YtdglmnmalfpipaaGreatDoorCards
import Derived.Test.YtdglmnmalfpipaaGreatDoorTie
import Derived.LaidMore
import Derived.LaidHandle
import Derived.Stop.Joined
import Derived.SevenTiedAt
import Derived.Stop.LaidErr
import Derived.SizedLaws
import Derived.Deep.RegionHeld3
import Derived.WalkKit
import Derived.ProofKit
import Derived.OpenShut
import Derived.Test.YtdglmnmalfpipaaGreatDoorVB18
import Derived.Test.YtdglmnmalfpipaaGreatDoorVB20
import Derived.Test.YtdglmnmalfpipaaGreatDoorVB9
import Derived.Test.YtdglmnmalfpipaaGreatDoorVB5
import Derived.Test.YtdglmnmalfpipaaGreatDoorVB4
import Derived.Test.YtdglmnmalfpipaaGreatDoorVSEnvKey
namespace Go.Proofs.YtdglmnmalfpipaaGreatDoor.fnExactRebuild
open Go.ChangeShapes Go.WideShapes Go.ChangeAt Go.RowKit tree
open Go.ChangeMaps (open_string)
set_option linter.unusedVariables false

theorem own : ownKnob Tryz.prog.godebug = none := by kernel_rfl

theorem totS_mem : ∀ {sl : List Sl} {t : Sl}, t ∈ sl → t.key.str.size + tot t.val ≤ totS sl
  | u :: sl, t, h => by
    rw [totS]
    rcases List.mem_cons.1 h with rfl | h
    · omega
    · have := totS_mem h; omega
theorem tot_sv (sl : List Sl) : tot (.mk 0 0 ⟨#[]⟩ 0 (skS sl) (svS sl)) = sl.length + totS sl := by
  rw [tot, tots_sv]
  have h : (svS sl).length = sl.length := by simp [svS]
  have h0 : (⟨#[]⟩ : ByteArray).size = 0 := rfl
  omega
theorem sin_nw {w w' : World} {sl : List Sl} {A : Option Addr} (h : SIn w (Nw 0 w) sl A) (hb : Below w.heap.size w w') : SIn w' (Nw 0 w') sl A := h.stays (fun q hq => ⟨Nat.zero_le _, hq.2.same (hb.block q hq.2.lt)⟩) (fun q _ hl => hb.block q hl)
theorem cS_app : ∀ (s : List Sl) (t : Sl), cS (s ++ [t]) = cS s + (2 + 7 * cnt t.val)
  | [], t => by simp [cS]
  | u :: s, t => by rw [List.cons_append, cS, cS, cS_app s t]; omega
theorem cS_rb (n : Nat) (sl : List Sl) : cS (rbS n sl) ≤ cS sl := by
  have key : ∀ (l s : List Sl), cS (l.foldl (fun s t => addS n s t.key t.val) s) = cS s + cS l := by
    intro l
    induction l with
    | nil => intro s; simp [cS]
    | cons t l ih =>
      intro s
      rw [List.foldl_cons, ih]
      unfold addS
      rw [cS_app, cS]
      show cS s + (2 + 7 * cnt t.val) + cS l = cS s + (2 + 7 * cnt t.val + cS l)
      omega
  unfold rbS
  rw [key]
  have : ∀ sl : List Sl, cS (liv sl) ≤ cS sl := by
    intro sl
    induction sl with
    | nil => simp [liv, cS]
    | cons t sl ih =>
      unfold liv at ih ⊢
      rw [List.filter_cons, cS]
      split
      · rw [cS]; omega
      · omega
  have := this sl
  simp [cS]
  omega
theorem rb_facts {b : Bool} {l : List Int} {sl : List Sl} {x k : Int} {rb : Bool} {rl : List Int} {rs : List Sl} (h : RbR b l sl x k rb rl rs) : rs.length ≤ sl.length ∧ (rl.length ≤ l.length ∨ rl.length ≤ 1024) ∧ cS rs ≤ cS sl := by
  rcases h with ⟨-, rfl, rfl, rfl⟩ | ⟨-, rfl, rfl, rfl⟩
  · refine ⟨rbS_le _ _, .inr ?_, cS_rb _ _⟩
    rw [hsA_len]
    have := room_p2 k
    unfold p2 at this
    omega
  · exact ⟨Nat.le_refl _, .inl (Nat.le_refl _), Nat.le_refl _⟩

set_option maxHeartbeats 8000000 in
set_option maxRecDepth 100000 in
theorem walk (b : Bool) (A : Option Addr) (n c : Nat) (B : Option Addr) (m d : Nat) (x k : Int) (l : List Int) (sl : List Sl) (w : World) (hr : TbIn w (fun _ => True) l sl A n c B m d x k) (hE : prs.Env w) : Calls Tryz.prog 9 #[.agg #[.bool b, .slice A n c, .slice B m d, .int .i64 x, .int .i64 k]] w (TrueQ w) := by
  have SZ : Hid (∀ w', Below w.heap.size w w' → Calls Tryz.prog 39 #[.agg #[.bool b, .slice A n c, .slice B m d, .int .i64 x, .int .i64 k], .int .i64 1048576] w' (SzQ 1048576 (n + (m + totS sl)) w')) := Lib.hid (fun w' hb => szTable (b := b) hr 1048576 (by omega) (by omega) w' hb)
  have hm := hr.len
  have hln : l.length = n := hr.heads.len
  have hx := hr.next
  have hk := hr.count
  have hfits := hr.slots.fits
  have HEN := Lib.hid hE
  obtain ⟨rb, rl, rs, hR⟩ := RbR.is b l sl x k
  obtain ⟨hf1, hf2, hf3⟩ := rb_facts hR
  have HU : Hid (∀ rb' rl' rs', RbR b l sl x k rb' rl' rs' → rb = rb' ∧ rl = rl' ∧ rs = rs') := Lib.hid (fun rb' rl' rs' h => hR.one h)
  obtain ⟨rn, HRN⟩ : ∃ q, Hid (rl.length = q) := ⟨_, Lib.hid rfl⟩
  obtain ⟨rm, HRM⟩ : ∃ q, Hid (rs.length = q) := ⟨_, Lib.hid rfl⟩
  have hcT := cS_tot sl hfits
  have hcV := cnts_sv sl hfits
  have htV := tots_sv sl
  have CON : Hid (n + (m + totS sl) ≤ 1048576 → (n ≤ 1048576 ∧ m + totS sl ≤ 1048576 ∧ m ≤ 1048576) ∧ SlB sl) := Lib.hid (fun hs => ⟨⟨by omega, by omega, by omega⟩, ⟨fun j t h => by have := totS_mem (List.mem_of_getElem? h); omega, fun j t h => by have := totS_mem (List.mem_of_getElem? h); omega⟩⟩)
  have CON2 : Hid (n ≤ 1048576 → m ≤ 1048576 → rn ≤ 1048576 ∧ rm ≤ 1048576) := Lib.hid (fun h1 h2 => by have h3 := HRN.out; have h4 := HRM.out; exact ⟨by omega, by omega⟩)
  have TT0 : Hid (n ≤ 1048576 → m + totS sl ≤ 1048576 → ∀ w', Below w.heap.size w w' → Calls Tryz.prog 43 #[.agg #[.bool b, .slice A n c, .slice B m d, .int .i64 x, .int .i64 k]] w' (fun e w2 => ∃ A1 c1 g mid, e = .returned (.agg #[.bool b, .slice A1 n c1, .slice (some ⟨g, 0, none⟩) m m, .int .i64 x, .int .i64 k]) ∧ imem.OwnI w2 w'.heap.size A1 n c1 l ∧ (∀ q, (Value.slice A1 n c1).ownBlock = some q → q < mid) ∧ w'.heap.size ≤ mid ∧ mid ≤ g ∧ SIn w2 (Nw mid w2) sl (some ⟨g, 0, none⟩) ∧ Below w'.heap.size w' w2)) := Lib.hid (fun h1 h2 w' hb => toTable (b := b) (w := w') ⟨hr.heads.below hb, hr.hn, hr.len, hr.cap, hr.slots.below hb, hr.next, hr.count⟩ h1 h2)
  have LS0 : Hid (n ≤ 1048576 → m ≤ 1048576 → m + totS sl ≤ 1048576 → SlB sl → ∀ w' S lo A1 c1 g, Below w.heap.size w w' → imem.OwnI w' lo A1 n c1 l → SIn w' S sl (some ⟨g, 0, none⟩) → Calls Tryz.prog 52 #[.agg #[.bool b, .slice A1 n c1, .slice (some ⟨g, 0, none⟩) m m, .int .i64 x, .int .i64 k]] w' (fun e w2 => ∃ A2 c2 B2 d2, e = .returned (.agg #[.bool rb, .slice A2 rn c2, .slice B2 rm d2, .int .i64 x, .int .i64 k]) ∧ KT w2 (Rg w'.heap.size w2.heap.size) rl rs A2 rn c2 B2 rm d2 ∧ Below w'.heap.size w' w2)) := Lib.hid (fun h1 h2 hmt h3 w' S lo A1 c1 g hb ho hs => (rebuild_s (b := b) w' ⟨ho.rd, hr.hn, hm, ⟨Nat.le_refl _, by unfold maxLen; omega⟩, hs, hx, hk⟩ h1 h2 (fun t ht => by have := cnt_tot t.val (hfits t ht); have := totS_mem ht; omega) h3 (HEN.out.stays hb)).mono (by
    rintro e w2 ⟨rb', rl', rs', A2, c2, B2, d2, hR', rfl, hkt, hb7⟩
    obtain ⟨rfl, rfl, rfl⟩ := HU.out _ _ _ hR'
    rw [HRN.out, HRM.out] at *
    exact ⟨A2, c2, B2, d2, rfl, hkt, hb7⟩))
  have LI0 : Hid (n ≤ 1048576 → m ≤ 1048576 → m + totS sl ≤ 1048576 → SlB sl → ∀ w' lo A1 c1 g, Below w.heap.size w w' → imem.OwnI w' lo A1 n c1 l → SIn w' (Nw 0 w') sl (some ⟨g, 0, none⟩) → Calls Tryz.prog 21 #[.agg #[.bool b, .slice A1 n c1, .slice (some ⟨g, 0, none⟩) m m, .int .i64 x, .int .i64 k]] w' (fun e w2 => ∃ A2 c2 B2 d2 G, e = .returned (.agg #[.bool rb, .slice A2 rn c2, .slice B2 rm d2, .int .i64 x, .int .i64 k]) ∧ OwnF w2 w'.heap.size rl rs A2 rn c2 B2 rm d2 G ∧ Below w'.heap.size w' w2)) := Lib.hid (fun h1 h2 hmt h3 w' lo A1 c1 g hb ho hs => (rebuild_i (b := b) w' ⟨ho.rd, hr.hn, hm, ⟨Nat.le_refl _, by unfold maxLen; omega⟩, hs, hx, hk⟩ h1 h2 (by rw [cnt_mk']; omega) (by rw [tot_sv]; omega) h3 (HEN.out.stays hb)).mono (by
    rintro e w2 ⟨rb', rl', rs', A2, c2, B2, d2, G, hR', rfl, hot, hb7⟩
    obtain ⟨rfl, rfl, rfl⟩ := HU.out _ _ _ hR'
    rw [HRN.out, HRM.out] at *
    exact ⟨A2, c2, B2, d2, G, rfl, hot, hb7⟩))
  have ET0 : Hid (n ≤ 1048576 → m ≤ 1048576 → ∀ w' S S' A1 c1 lo1 g1 A2 c2 lo2 g2, imem.OwnI w' lo1 A1 n c1 l → SIn w' S sl (some ⟨g1, 0, none⟩) → imem.OwnI w' lo2 A2 n c2 l → SIn w' S' sl (some ⟨g2, 0, none⟩) → Calls Tryz.prog 46 #[.agg #[.bool b, .slice A1 n c1, .slice (some ⟨g1, 0, none⟩) m m, .int .i64 x, .int .i64 k], .agg #[.bool b, .slice A2 n c2, .slice (some ⟨g2, 0, none⟩) m m, .int .i64 x, .int .i64 k]] w' (TrueQ w')) := Lib.hid (fun h1 h2 w' S S' A1 c1 lo1 g1 A2 c2 lo2 g2 o1 s1 o2 s2 => eqTable (b := b) ⟨o1.rd, hr.hn, hm, ⟨Nat.le_refl _, by unfold maxLen; omega⟩, s1, hx, hk⟩ ⟨o2.rd, hr.hn, hm, ⟨Nat.le_refl _, by unfold maxLen; omega⟩, s2, hx, hk⟩ (by omega))
  have ER0 : Hid (rn ≤ 1048576 → ∀ w' S lo G A1 c1 B1 d1 A2 c2 B2 d2, OwnF w' lo rl rs A1 rn c1 B1 rm d1 G → KT w' S rl rs A2 rn c2 B2 rm d2 → Calls Tryz.prog 46 #[.agg #[.bool rb, .slice A1 rn c1, .slice B1 rm d1, .int .i64 x, .int .i64 k], .agg #[.bool rb, .slice A2 rn c2, .slice B2 rm d2, .int .i64 x, .int .i64 k]] w' (TrueQ w')) := Lib.hid (fun h1 w' S lo G A1 c1 B1 d1 A2 c2 B2 d2 o t => eqTable (b := rb) (o.tbin (by unfold maxLen; omega) hx hk) (t.tbin (by unfold maxLen; omega) hx hk) (by omega))
  have MT0 : Hid (n ≤ 1048576 → m + totS sl ≤ 1048576 → ∀ w' S lo A1 c1 g, imem.OwnI w' lo A1 n c1 l → SIn w' S sl (some ⟨g, 0, none⟩) → (∀ q, S q → Plain w' q) → (∀ q, (Value.slice A1 n c1).ownBlock = some q → ¬ S q) → Calls Tryz.prog 48 #[.agg #[.bool b, .slice A1 n c1, .slice (some ⟨g, 0, none⟩) m m, .int .i64 x, .int .i64 k], .int .i64 1] w' (fun e w2 => ∃ q, e = .returned (.int .i64 q) ∧ 1 ≤ q ∧ Fr (fun q => S q ∨ (Value.slice A1 n c1).ownBlock = some q) w' w2)) := Lib.hid (fun h1 h2 w' S lo A1 c1 g o s hp hno => markTable (b := b) w' o s hp hno hm h1 (by omega))
  obtain ⟨W, HW⟩ : ∃ W : Int, Hid (1 + (rn : Int) + cS rs = W) := ⟨_, Lib.hid rfl⟩
  have hW1 : 1 ≤ W := by rw [← HW.out]; omega
  have MX0 : Hid (rn ≤ 1048576 → m + totS sl ≤ 1048576 → ∀ w' lo G A1 c1 B1 d1, OwnF w' lo rl rs A1 rn c1 B1 rm d1 G → Calls Tryz.prog 48 #[.agg #[.bool rb, .slice A1 rn c1, .slice B1 rm d1, .int .i64 x, .int .i64 k], .int .i64 1] w' (fun e w2 => e = .returned (.int .i64 W) ∧ (∃ l2, FromI 1 rn l2 ∧ OwnF w2 lo l2 (mkSls (1 + (rn : Int)) rs) A1 rn c1 B1 rm d1 G) ∧ Fr (FOwn A1 rn c1 B1 rm d1 G) w' w2)) := Lib.hid (fun h1 h2 w' lo G A1 c1 B1 d1 o => HW.out ▸ markTableF (b := rb) (x := x) (k := k) w' o h1 (by omega))
  have HD0 : Hid (rn ≤ 1048576 → rm ≤ 1048576 → m + totS sl ≤ 1048576 → ∀ w' lo G l2 A1 c1 B1 d1, FromI 1 rn l2 → OwnF w' lo l2 (mkSls (1 + (rn : Int)) rs) A1 rn c1 B1 rm d1 G → Calls Tryz.prog 50 #[.agg #[.bool rb, .slice A1 rn c1, .slice B1 rm d1, .int .i64 x, .int .i64 k], .int .i64 1] w' (GivesQ w' (.int .i64 W))) := Lib.hid (fun h1 h0 h2 w' lo G l2 A1 c1 B1 d1 hf o => HW.out ▸ heldTable (b := rb) (x := x) (k := k) w' o.heads.rd o.sin HRM.out (by unfold maxLen; omega) h1 hf (by omega))
  clear hr hm hln hx hk hE HEN hR hf1 hf2 hf3 hcT hcV htV hfits HW HU
  go_enter Tryz.func9, Tryz.ntmps9
  go_wp2_with (fail)
  refine (SZ.out _ (b1 w _)).mono ?_
  rintro e w0 ⟨r, rfl, ⟨ha, hb, hc⟩, hw0⟩
  have HB : Hid (Below w.heap.size w w0) := Lib.hid (bs (b1 w _) hw0)
  obtain ⟨tA, E0⟩ : ∃ tA, Hid (w0.heap[w.heap.size]? = some (.cells #[.bool b, .slice A n c, .slice B m d, .int .i64 x, .int .i64 k] tA (0, 0))) := ⟨_, Lib.hid (carry hw0 (heap_alloc_new w _))⟩
  clear SZ hw0
  by_cases hlt : r < 0
  · go_wp2_with (fail)
    go_ret
    exact ⟨rfl, HB.out⟩
  obtain ⟨⟨k1, k3, k4⟩, k5⟩ := CON.out (by have := hc (by omega); omega)
  obtain ⟨k6, k7⟩ := CON2.out k1 k4
  have TT := Lib.hid (TT0.out k1 k3)
  have ET := Lib.hid (ET0.out k1 k4)
  have ER := Lib.hid (ER0.out k6)
  have MT := Lib.hid (MT0.out k1 k3)
  have MX := Lib.hid (MX0.out k6 k3)
  have HD := Lib.hid (HD0.out k6 k7 k3)
  have LS := Lib.hid (LS0.out k1 k4 k3 k5)
  have LI := Lib.hid (LI0.out k1 k4 k3 k5)
  clear k1 k3 k4 k5 k6 k7 TT0 LS0 LI0 ET0 ER0 MT0 MX0 HD0 CON CON2 hc
  have z0_ : w0.cell? ⟨w.heap.size, 0, none⟩ = some (.bool b) := (rowc E0.out).1 0
  have z1_ : w0.cell? ⟨w.heap.size, 1, none⟩ = some (.slice A n c) := (rowc E0.out).1 1
  have z2_ : w0.cell? ⟨w.heap.size, 2, none⟩ = some (.slice B m d) := (rowc E0.out).1 2
  have z3_ : w0.cell? ⟨w.heap.size, 3, none⟩ = some (.int .i64 x) := (rowc E0.out).1 3
  have z4_ : w0.cell? ⟨w.heap.size, 4, none⟩ = some (.int .i64 k) := (rowc E0.out).1 4
  go_wp2_with (fail)
  refine (TT.out _ HB.out).mono ?_
  rintro e w1 ⟨A5, c5, g5, m5, rfl, hown, hmid, hlo, hmg, hs, hb⟩
  have HO5 := Lib.hid hown
  have HX5 := Lib.hid hs
  clear hown hmid hlo hmg hs
  replace E0 := Lib.hid (carry hb E0.out)
  replace HB := Lib.hid (bs HB.out hb)
  clear hb
  clear z0_ z1_ z2_ z3_ z4_
  go_wp2_with (fail)
  refine (LS.out _ _ _ _ _ _ HB.out HO5.out HX5.out).mono ?_
  rintro e w2 ⟨A6, c6, B6, d6, rfl, hkt, hb⟩
  replace E0 := Lib.hid (carry hb E0.out)
  replace HB := Lib.hid (bs HB.out hb)
  have HK6 := Lib.hid hkt
  clear hkt hb HO5 HX5
  go_upto_region 6 with fail
  obtain ⟨Q6, HQ6⟩ : ∃ N, Hid (w2.heap.size = N) := ⟨_, Lib.hid rfl⟩
  generalize hwn : w2.alloc (.cells #[.bool rb, .slice A6 rn c6, .slice B6 rm d6, .int .i64 x, .int .i64 k] IT) = w3
  have hbx : Below w2.heap.size w2 w3 := hwn ▸ b1 _ _
  have E6 : Hid (w3.heap[Q6]? = some (.cells #[.bool rb, .slice A6 rn c6, .slice B6 rm d6, .int .i64 x, .int .i64 k] IT (0, 0))) := Lib.hid (by rw [← hwn, ← HQ6.out]; exact heap_alloc_new _ _)
  rw [HQ6.out]
  replace E0 := Lib.hid (carry hbx E0.out)
  replace HB := Lib.hid (bs HB.out hbx)
  obtain ⟨lo7, HLO7⟩ : ∃ q, Hid (w3.heap.size = q) := ⟨_, Lib.hid rfl⟩
  have HT6 : Hid (KT w3 (fun q => q < lo7) rl rs A6 rn c6 B6 rm d6) := Lib.hid ((HK6.out.below hbx).mono fun q hq => by have := hq.2; have := hbx.size; rw [← HLO7.out]; omega)
  have HP7 : Hid (w.heap.size < lo7 ∧ Q6 < lo7) := Lib.hid (by rw [← HLO7.out]; exact ⟨(Array.getElem?_eq_some_iff.1 E0.out).1, (Array.getElem?_eq_some_iff.1 E6.out).1⟩)
  clear hwn hbx HK6 LS
  have z0_ : w3.cell? ⟨w.heap.size, 0, none⟩ = some (.bool b) := (rowc E0.out).1 0
  have z1_ : w3.cell? ⟨w.heap.size, 1, none⟩ = some (.slice A n c) := (rowc E0.out).1 1
  have z2_ : w3.cell? ⟨w.heap.size, 2, none⟩ = some (.slice B m d) := (rowc E0.out).1 2
  have z3_ : w3.cell? ⟨w.heap.size, 3, none⟩ = some (.int .i64 x) := (rowc E0.out).1 3
  have z4_ : w3.cell? ⟨w.heap.size, 4, none⟩ = some (.int .i64 k) := (rowc E0.out).1 4
  go_wp2_with (fail)
  refine (TT.out _ HB.out).mono ?_
  rintro e w5 ⟨A7, c7, g7, m7, rfl, hown, hmid, hlo, hmg, hs, hb⟩
  have HO := Lib.hid hown
  have HX := Lib.hid hs
  have HMD := Lib.hid (And.intro hmid hlo)
  have HSZ := Lib.hid hb.size
  replace E0 := Lib.hid (carry hb E0.out)
  replace E6 := Lib.hid (carry hb E6.out)
  replace HT6 := Lib.hid (HT6.out.below hb)
  replace HB := Lib.hid (bs HB.out hb)
  clear hown hmid hlo hmg hs hb
  clear z0_ z1_ z2_ z3_ z4_
  go_upto_region 7 with fail
  obtain ⟨N7, HN7⟩ : ∃ N, Hid (w5.heap.size = N) := ⟨_, Lib.hid rfl⟩
  have HLN : Hid (lo7 ≤ N7) := Lib.hid (by rw [← HLO7.out, ← HN7.out]; exact HSZ.out)
  rw [HLO7.out] at HO HMD
  have HOB : Hid (∀ q, (Value.slice A7 n c7).ownBlock = some q → lo7 ≤ q ∧ q < N7) := Lib.hid (fun q e => by rw [← HN7.out]; exact HO.out.block q e)
  generalize hwn : w5.alloc (.cells #[.bool b, .slice A7 n c7, .slice (some ⟨g7, 0, none⟩) m m, .int .i64 x, .int .i64 k] IT) = w6
  have hbx : Below w5.heap.size w5 w6 := hwn ▸ b1 _ _
  have E7 : Hid (w6.heap[N7]? = some (.cells #[.bool b, .slice A7 n c7, .slice (some ⟨g7, 0, none⟩) m m, .int .i64 x, .int .i64 k] IT (0, 0))) := Lib.hid (by rw [← hwn, ← HN7.out]; exact heap_alloc_new _ _)
  rw [HN7.out]
  replace E0 := Lib.hid (carry hbx E0.out)
  replace E6 := Lib.hid (carry hbx E6.out)
  replace HT6 := Lib.hid (HT6.out.below hbx)
  replace HO := Lib.hid (HO.out.below hbx)
  replace HX := Lib.hid (HX.out.below hbx)
  replace HB := Lib.hid (bs HB.out hbx)
  have HP8 : Hid (N7 < w6.heap.size) := Lib.hid (Array.getElem?_eq_some_iff.1 E7.out).1
  have HNW : Hid (∀ q, Nw m7 w5 q → lo7 ≤ q ∧ q < N7) := Lib.hid (fun q hq => ⟨Nat.le_trans HMD.out.2 hq.1, by rw [← HN7.out]; exact hq.2.lt⟩)
  have HPL : Hid (∀ q, Nw m7 w5 q → Plain w6 q) := Lib.hid (fun q hq => hq.2.same (hbx.block q hq.2.lt))
  have HXW : Hid (SIn w6 (Nw 0 w6) sl (some ⟨g7, 0, none⟩)) := Lib.hid (HX.out.stays (fun q hq => ⟨Nat.zero_le _, HPL.out q hq⟩) (fun _ _ _ => rfl))
  clear hwn hbx
  have y0_ : w6.cell? ⟨N7, 0, none⟩ = some (.bool b) := (rowc E7.out).1 0
  have y1_ : w6.cell? ⟨N7, 1, none⟩ = some (.slice A7 n c7) := (rowc E7.out).1 1
  have y2_ : w6.cell? ⟨N7, 2, none⟩ = some (.slice (some ⟨g7, 0, none⟩) m m) := (rowc E7.out).1 2
  have y3_ : w6.cell? ⟨N7, 3, none⟩ = some (.int .i64 x) := (rowc E7.out).1 3
  have y4_ : w6.cell? ⟨N7, 4, none⟩ = some (.int .i64 k) := (rowc E7.out).1 4
  go_wp2_with (fail)
  refine (LI.out _ _ _ _ _ HB.out HO.out HXW.out).mono ?_
  rintro e w7 ⟨A8, c8, B8, d8, G, rfl, hot, hb⟩
  replace HPL : Hid (∀ q, Nw m7 w5 q → Plain w7 q) := Lib.hid (fun q hq => (HPL.out q hq).same (hb.block q (HPL.out q hq).lt))
  replace E0 := Lib.hid (carry hb E0.out)
  replace E6 := Lib.hid (carry hb E6.out)
  replace E7 := Lib.hid (carry hb E7.out)
  replace HT6 := Lib.hid (HT6.out.below hb)
  replace HO := Lib.hid (HO.out.below hb)
  replace HX := Lib.hid (HX.out.below hb)
  replace HB := Lib.hid (bs HB.out hb)
  have HG8 := Lib.hid hot
  have HZ78 := Lib.hid hb.size
  clear hot hb HXW
  clear y0_ y1_ y2_ y3_ y4_
  go_upto_region 8 with fail
  obtain ⟨Q8, HQ8⟩ : ∃ N, Hid (w7.heap.size = N) := ⟨_, Lib.hid rfl⟩
  obtain ⟨lo8, HLO8⟩ : ∃ N, Hid (w6.heap.size = N) := ⟨_, Lib.hid rfl⟩
  rw [HLO8.out] at HG8 HP8
  have HRG : Hid (∀ q, FOwn A8 rn c8 B8 rm d8 G q → Rg lo8 Q8 q) := Lib.hid (fun q hq => by rw [← HQ8.out]; exact HG8.out.rg q hq)
  generalize hwn : w7.alloc (.cells #[.bool rb, .slice A8 rn c8, .slice B8 rm d8, .int .i64 x, .int .i64 k] IT) = w8
  have hbx : Below w7.heap.size w7 w8 := hwn ▸ b1 _ _
  have E8 : Hid (w8.heap[Q8]? = some (.cells #[.bool rb, .slice A8 rn c8, .slice B8 rm d8, .int .i64 x, .int .i64 k] IT (0, 0))) := Lib.hid (by rw [← hwn, ← HQ8.out]; exact heap_alloc_new _ _)
  rw [HQ8.out]
  replace HPL : Hid (∀ q, Nw m7 w5 q → Plain w8 q) := Lib.hid (fun q hq => (HPL.out q hq).same (hbx.block q (HPL.out q hq).lt))
  replace E0 := Lib.hid (carry hbx E0.out)
  replace E6 := Lib.hid (carry hbx E6.out)
  replace E7 := Lib.hid (carry hbx E7.out)
  replace HT6 := Lib.hid (HT6.out.below hbx)
  replace HO := Lib.hid (HO.out.below hbx)
  replace HX := Lib.hid (HX.out.below hbx)
  replace HG8 := Lib.hid (HG8.out.below hbx)
  replace HB := Lib.hid (bs HB.out hbx)
  have HP9 : Hid (lo8 ≤ Q8) := Lib.hid (by rw [← HQ8.out, ← HLO8.out]; exact HZ78.out)
  clear hwn hbx
  have p0_ : w8.cell? ⟨Q6, 0, none⟩ = some (.bool rb) := (rowc E6.out).1 0
  have p1_ : w8.cell? ⟨Q6, 1, none⟩ = some (.slice A6 rn c6) := (rowc E6.out).1 1
  have p2_ : w8.cell? ⟨Q6, 2, none⟩ = some (.slice B6 rm d6) := (rowc E6.out).1 2
  have p3_ : w8.cell? ⟨Q6, 3, none⟩ = some (.int .i64 x) := (rowc E6.out).1 3
  have p4_ : w8.cell? ⟨Q6, 4, none⟩ = some (.int .i64 k) := (rowc E6.out).1 4
  have s0_ : w8.cell? ⟨Q8, 0, none⟩ = some (.bool rb) := (rowc E8.out).1 0
  have s1_ : w8.cell? ⟨Q8, 1, none⟩ = some (.slice A8 rn c8) := (rowc E8.out).1 1
  have s2_ : w8.cell? ⟨Q8, 2, none⟩ = some (.slice B8 rm d8) := (rowc E8.out).1 2
  have s3_ : w8.cell? ⟨Q8, 3, none⟩ = some (.int .i64 x) := (rowc E8.out).1 3
  have s4_ : w8.cell? ⟨Q8, 4, none⟩ = some (.int .i64 k) := (rowc E8.out).1 4
  go_wp2_with (fail)
  refine (ER.out _ _ _ _ _ _ _ _ _ _ _ _ HG8.out HT6.out).mono ?_
  rintro e w9 ⟨rfl, hb⟩
  replace HPL : Hid (∀ q, Nw m7 w5 q → Plain w9 q) := Lib.hid (fun q hq => (HPL.out q hq).same (hb.block q (HPL.out q hq).lt))
  replace E0 := Lib.hid (carry hb E0.out)
  replace E6 := Lib.hid (carry hb E6.out)
  replace E7 := Lib.hid (carry hb E7.out)
  replace E8 := Lib.hid (carry hb E8.out)
  replace HT6 := Lib.hid (HT6.out.below hb)
  replace HO := Lib.hid (HO.out.below hb)
  replace HX := Lib.hid (HX.out.below hb)
  replace HG8 := Lib.hid (HG8.out.below hb)
  replace HB := Lib.hid (bs HB.out hb)
  clear hb
  clear p0_ p1_ p2_ p3_ p4_ s0_ s1_ s2_ s3_ s4_
  have z0_ : w9.cell? ⟨w.heap.size, 0, none⟩ = some (.bool b) := (rowc E0.out).1 0
  have z1_ : w9.cell? ⟨w.heap.size, 1, none⟩ = some (.slice A n c) := (rowc E0.out).1 1
  have z2_ : w9.cell? ⟨w.heap.size, 2, none⟩ = some (.slice B m d) := (rowc E0.out).1 2
  have z3_ : w9.cell? ⟨w.heap.size, 3, none⟩ = some (.int .i64 x) := (rowc E0.out).1 3
  have z4_ : w9.cell? ⟨w.heap.size, 4, none⟩ = some (.int .i64 k) := (rowc E0.out).1 4
  have y0_ : w9.cell? ⟨N7, 0, none⟩ = some (.bool b) := (rowc E7.out).1 0
  have y1_ : w9.cell? ⟨N7, 1, none⟩ = some (.slice A7 n c7) := (rowc E7.out).1 1
  have y2_ : w9.cell? ⟨N7, 2, none⟩ = some (.slice (some ⟨g7, 0, none⟩) m m) := (rowc E7.out).1 2
  have y3_ : w9.cell? ⟨N7, 3, none⟩ = some (.int .i64 x) := (rowc E7.out).1 3
  have y4_ : w9.cell? ⟨N7, 4, none⟩ = some (.int .i64 k) := (rowc E7.out).1 4
  go_wp2_with (fail)
  go_region_held3 (fun w' => w'.cell? ⟨w.heap.size, 0, none⟩ = some (.bool b) ∧ w'.cell? ⟨w.heap.size, 1, none⟩ = some (.slice A n c) ∧ w'.cell? ⟨w.heap.size, 2, none⟩ = some (.slice B m d) ∧ w'.cell? ⟨w.heap.size, 3, none⟩ = some (.int .i64 x) ∧ w'.cell? ⟨w.heap.size, 4, none⟩ = some (.int .i64 k) ∧ w'.cell? ⟨N7, 0, none⟩ = some (.bool b) ∧ w'.cell? ⟨N7, 1, none⟩ = some (.slice A7 n c7) ∧ w'.cell? ⟨N7, 2, none⟩ = some (.slice (some ⟨g7, 0, none⟩) m m) ∧ w'.cell? ⟨N7, 3, none⟩ = some (.int .i64 x) ∧ w'.cell? ⟨N7, 4, none⟩ = some (.int .i64 k)) (go_keep) (first
    | (go_at_call 43; refine (TT.out _ (by first | exact HB.out | exact HB.out.trans ((Below.refl _ _).drew))).mono ?_
       rintro e w10 ⟨A5, c5, g5, m5, rfl, hown, hmid, hlo, hmg, hs, hb⟩
       have hbx : Below w9.heap.size w9 w10 := by first | exact hb | exact bs ((Below.refl _ _).drew) hb
       replace HPL : Hid (∀ q, Nw m7 w5 q → Plain w10 q) := Lib.hid (fun q hq => (HPL.out q hq).same (hbx.block q (HPL.out q hq).lt))
       have HO5 := Lib.hid hown
       have HX5 := Lib.hid hs
       clear hown hmid hlo hmg hs
       replace E0 := Lib.hid (carry hbx E0.out)
       replace E6 := Lib.hid (carry hbx E6.out)
       replace E7 := Lib.hid (carry hbx E7.out)
       replace E8 := Lib.hid (carry hbx E8.out)
       replace HT6 := Lib.hid (HT6.out.below hbx)
       replace HO := Lib.hid (HO.out.below hbx)
       replace HX := Lib.hid (HX.out.below hbx)
       replace HG8 := Lib.hid (HG8.out.below hbx)
       replace HB := Lib.hid (bs HB.out hbx)
       have z0_ : w10.cell? ⟨w.heap.size, 0, none⟩ = some (.bool b) := (rowc E0.out).1 0
       have z1_ : w10.cell? ⟨w.heap.size, 1, none⟩ = some (.slice A n c) := (rowc E0.out).1 1
       have z2_ : w10.cell? ⟨w.heap.size, 2, none⟩ = some (.slice B m d) := (rowc E0.out).1 2
       have z3_ : w10.cell? ⟨w.heap.size, 3, none⟩ = some (.int .i64 x) := (rowc E0.out).1 3
       have z4_ : w10.cell? ⟨w.heap.size, 4, none⟩ = some (.int .i64 k) := (rowc E0.out).1 4
       have y0_ : w10.cell? ⟨N7, 0, none⟩ = some (.bool b) := (rowc E7.out).1 0
       have y1_ : w10.cell? ⟨N7, 1, none⟩ = some (.slice A7 n c7) := (rowc E7.out).1 1
       have y2_ : w10.cell? ⟨N7, 2, none⟩ = some (.slice (some ⟨g7, 0, none⟩) m m) := (rowc E7.out).1 2
       have y3_ : w10.cell? ⟨N7, 3, none⟩ = some (.int .i64 x) := (rowc E7.out).1 3
       have y4_ : w10.cell? ⟨N7, 4, none⟩ = some (.int .i64 k) := (rowc E7.out).1 4
       clear hb hbx)
    | (go_at_call 46; refine (ET.out _ _ _ _ _ _ _ _ _ _ _ (by first | exact HO.out | exact HO.out.below ((Below.refl _ _).drew)) (by first | exact HX.out | exact HX.out.below ((Below.refl _ _).drew)) (by first | exact HO5.out | exact HO5.out.below ((Below.refl _ _).drew)) (by first | exact HX5.out | exact HX5.out.below ((Below.refl _ _).drew))).mono ?_
       rintro e w11 ⟨rfl, hb⟩
       have hbx : Below w10.heap.size w10 w11 := by first | exact hb | exact bs ((Below.refl _ _).drew) hb
       replace HPL : Hid (∀ q, Nw m7 w5 q → Plain w11 q) := Lib.hid (fun q hq => (HPL.out q hq).same (hbx.block q (HPL.out q hq).lt))
       clear HO5 HX5
       replace E0 := Lib.hid (carry hbx E0.out)
       replace E6 := Lib.hid (carry hbx E6.out)
       replace E7 := Lib.hid (carry hbx E7.out)
       replace E8 := Lib.hid (carry hbx E8.out)
       replace HT6 := Lib.hid (HT6.out.below hbx)
       replace HO := Lib.hid (HO.out.below hbx)
       replace HX := Lib.hid (HX.out.below hbx)
       replace HG8 := Lib.hid (HG8.out.below hbx)
       replace HB := Lib.hid (bs HB.out hbx)
       have z0_ : w11.cell? ⟨w.heap.size, 0, none⟩ = some (.bool b) := (rowc E0.out).1 0
       have z1_ : w11.cell? ⟨w.heap.size, 1, none⟩ = some (.slice A n c) := (rowc E0.out).1 1
       have z2_ : w11.cell? ⟨w.heap.size, 2, none⟩ = some (.slice B m d) := (rowc E0.out).1 2
       have z3_ : w11.cell? ⟨w.heap.size, 3, none⟩ = some (.int .i64 x) := (rowc E0.out).1 3
       have z4_ : w11.cell? ⟨w.heap.size, 4, none⟩ = some (.int .i64 k) := (rowc E0.out).1 4
       have y0_ : w11.cell? ⟨N7, 0, none⟩ = some (.bool b) := (rowc E7.out).1 0
       have y1_ : w11.cell? ⟨N7, 1, none⟩ = some (.slice A7 n c7) := (rowc E7.out).1 1
       have y2_ : w11.cell? ⟨N7, 2, none⟩ = some (.slice (some ⟨g7, 0, none⟩) m m) := (rowc E7.out).1 2
       have y3_ : w11.cell? ⟨N7, 3, none⟩ = some (.int .i64 x) := (rowc E7.out).1 3
       have y4_ : w11.cell? ⟨N7, 4, none⟩ = some (.int .i64 k) := (rowc E7.out).1 4
       clear hb hbx))
  go_wp2_with (fail)
  have hno : ∀ q, (Value.slice A7 n c7).ownBlock = some q → ¬ Nw m7 w5 q := fun q e h => by have h1 := HMD.out.1 q e; have h2 := h.1; omega
  refine (MT.out _ _ _ _ _ _ HO.out HX.out HPL.out hno).mono ?_
  rintro e w12 ⟨q, rfl, hq1, hf⟩
  have hch : ∀ p, (p < lo7 ∨ N7 ≤ p) → p < w11.heap.size → w12.heap[p]? = w11.heap[p]? := fun p hp hl => hf.block p hl (fun h => by
    rcases h with h | h
    · have := HNW.out p h; omega
    · have := HOB.out p h; omega)
  have h7 := HP7.out
  have h8 := HP8.out
  have h9 := HP9.out
  have E0L := (Array.getElem?_eq_some_iff.1 E0.out).1
  replace HB : Hid (Below w.heap.size w w12) := Lib.hid (HB.out.trans (hf.below (lo := w.heap.size) HB.out.size (fun p hp => by
    rcases hp with h | h
    · have := HNW.out p h; omega
    · have := HOB.out p h; omega)))
  replace E0 : Hid (w12.heap[w.heap.size]? = _) := Lib.hid ((hch _ (.inl (by omega)) (Array.getElem?_eq_some_iff.1 E0.out).1).trans E0.out)
  replace E6 : Hid (w12.heap[Q6]? = _) := Lib.hid ((hch _ (.inl (by omega)) (Array.getElem?_eq_some_iff.1 E6.out).1).trans E6.out)
  replace E8 : Hid (w12.heap[Q8]? = _) := Lib.hid ((hch _ (.inr (by omega)) (Array.getElem?_eq_some_iff.1 E8.out).1).trans E8.out)
  replace HT6 := Lib.hid (HT6.out.keep (w' := w12) fun p hp hl => hch p (.inl hp) hl)
  replace HG8 := Lib.hid (HG8.out.keep (w' := w12) hf.size fun p hp hl => hch p (.inr (by have := (HRG.out p hp).1; omega)) hl)
  clear hf hch hno h7 h8 h9 E0L HO HX HPL HNW HOB HMD E7 z0_ z1_ z2_ z3_ z4_ y0_ y1_ y2_ y3_ y4_
  have p0_ : w12.cell? ⟨Q6, 0, none⟩ = some (.bool rb) := (rowc E6.out).1 0
  have p1_ : w12.cell? ⟨Q6, 1, none⟩ = some (.slice A6 rn c6) := (rowc E6.out).1 1
  have p2_ : w12.cell? ⟨Q6, 2, none⟩ = some (.slice B6 rm d6) := (rowc E6.out).1 2
  have p3_ : w12.cell? ⟨Q6, 3, none⟩ = some (.int .i64 x) := (rowc E6.out).1 3
  have p4_ : w12.cell? ⟨Q6, 4, none⟩ = some (.int .i64 k) := (rowc E6.out).1 4
  have s0_ : w12.cell? ⟨Q8, 0, none⟩ = some (.bool rb) := (rowc E8.out).1 0
  have s1_ : w12.cell? ⟨Q8, 1, none⟩ = some (.slice A8 rn c8) := (rowc E8.out).1 1
  have s2_ : w12.cell? ⟨Q8, 2, none⟩ = some (.slice B8 rm d8) := (rowc E8.out).1 2
  have s3_ : w12.cell? ⟨Q8, 3, none⟩ = some (.int .i64 x) := (rowc E8.out).1 3
  have s4_ : w12.cell? ⟨Q8, 4, none⟩ = some (.int .i64 k) := (rowc E8.out).1 4
  go_wp2_with (fail)
  refine (ER.out _ _ _ _ _ _ _ _ _ _ _ _ HG8.out HT6.out).mono ?_
  rintro e w13 ⟨rfl, hb⟩
  replace E0 := Lib.hid (carry hb E0.out)
  replace E6 := Lib.hid (carry hb E6.out)
  replace E8 := Lib.hid (carry hb E8.out)
  replace HT6 := Lib.hid (HT6.out.below hb)
  replace HG8 := Lib.hid (HG8.out.below hb)
  replace HB := Lib.hid (bs HB.out hb)
  clear hb
  clear p0_ p1_ p2_ p3_ p4_ s0_ s1_ s2_ s3_ s4_
  have s0_ : w13.cell? ⟨Q8, 0, none⟩ = some (.bool rb) := (rowc E8.out).1 0
  have s1_ : w13.cell? ⟨Q8, 1, none⟩ = some (.slice A8 rn c8) := (rowc E8.out).1 1
  have s2_ : w13.cell? ⟨Q8, 2, none⟩ = some (.slice B8 rm d8) := (rowc E8.out).1 2
  have s3_ : w13.cell? ⟨Q8, 3, none⟩ = some (.int .i64 x) := (rowc E8.out).1 3
  have s4_ : w13.cell? ⟨Q8, 4, none⟩ = some (.int .i64 k) := (rowc E8.out).1 4
  go_wp2_with (fail)
  refine (MX.out _ _ _ _ _ _ _ HG8.out).mono ?_
  rintro e w14 ⟨rfl, ⟨l2, hfi, hot⟩, hf⟩
  have hch : ∀ p, ¬ Rg lo8 Q8 p → p < w13.heap.size → w14.heap[p]? = w13.heap[p]? := fun p hp hl => hf.block p hl (fun h => hp (HRG.out p h))
  have h7 := HP7.out
  have h8 := HP8.out
  have h9 := HP9.out
  have h67 := HLN.out
  replace HB : Hid (Below w.heap.size w w14) := Lib.hid (HB.out.trans (hf.below (lo := w.heap.size) HB.out.size (fun p hp => by have := (HRG.out p hp).1; omega)))
  replace E0 : Hid (w14.heap[w.heap.size]? = _) := Lib.hid ((hch _ (fun h => by have := h.1; omega) (Array.getElem?_eq_some_iff.1 E0.out).1).trans E0.out)
  replace E6 : Hid (w14.heap[Q6]? = _) := Lib.hid ((hch _ (fun h => by have := h.1; omega) (Array.getElem?_eq_some_iff.1 E6.out).1).trans E6.out)
  replace E8 : Hid (w14.heap[Q8]? = _) := Lib.hid ((hch _ (fun h => by have := h.2; omega) (Array.getElem?_eq_some_iff.1 E8.out).1).trans E8.out)
  replace HT6 := Lib.hid (HT6.out.keep (w' := w14) fun p hp hl => hch p (fun h => by have := h.1; omega) hl)
  have HRS := Lib.hid hot
  have HFI := Lib.hid hfi
  clear hf hch h7 h8 h9 h67 hot hfi HG8
  clear s0_ s1_ s2_ s3_ s4_
  have s0_ : w14.cell? ⟨Q8, 0, none⟩ = some (.bool rb) := (rowc E8.out).1 0
  have s1_ : w14.cell? ⟨Q8, 1, none⟩ = some (.slice A8 rn c8) := (rowc E8.out).1 1
  have s2_ : w14.cell? ⟨Q8, 2, none⟩ = some (.slice B8 rm d8) := (rowc E8.out).1 2
  have s3_ : w14.cell? ⟨Q8, 3, none⟩ = some (.int .i64 x) := (rowc E8.out).1 3
  have s4_ : w14.cell? ⟨Q8, 4, none⟩ = some (.int .i64 k) := (rowc E8.out).1 4
  go_wp2_with (fail)
  refine (HD.out _ _ _ _ _ _ _ _ HFI.out HRS.out).mono ?_
  rintro e w15 ⟨rfl, hb⟩
  replace E0 := Lib.hid (carry hb E0.out)
  replace E6 := Lib.hid (carry hb E6.out)
  replace E8 := Lib.hid (carry hb E8.out)
  replace HT6 := Lib.hid (HT6.out.below hb)
  replace HRS := Lib.hid (HRS.out.below hb)
  replace HB := Lib.hid (bs HB.out hb)
  clear hb
  clear s0_ s1_ s2_ s3_ s4_
  have z0_ : w15.cell? ⟨w.heap.size, 0, none⟩ = some (.bool b) := (rowc E0.out).1 0
  have z1_ : w15.cell? ⟨w.heap.size, 1, none⟩ = some (.slice A n c) := (rowc E0.out).1 1
  have z2_ : w15.cell? ⟨w.heap.size, 2, none⟩ = some (.slice B m d) := (rowc E0.out).1 2
  have z3_ : w15.cell? ⟨w.heap.size, 3, none⟩ = some (.int .i64 x) := (rowc E0.out).1 3
  have z4_ : w15.cell? ⟨w.heap.size, 4, none⟩ = some (.int .i64 k) := (rowc E0.out).1 4
  go_wp2_with (fail)
  refine (TT.out _ HB.out).mono ?_
  rintro e w16 ⟨A5, c5, g5, m5, rfl, hown, hmid, hlo, hmg, hs, hb⟩
  have HO5 := Lib.hid hown
  have HX5 := Lib.hid (show SIn w16 (Nw 0 w16) sl (some ⟨g5, 0, none⟩) from hs.stays (fun q hq => ⟨Nat.zero_le _, hq.2⟩) (fun _ _ _ => rfl))
  replace E0 := Lib.hid (carry hb E0.out)
  replace E6 := Lib.hid (carry hb E6.out)
  replace E8 := Lib.hid (carry hb E8.out)
  replace HT6 := Lib.hid (HT6.out.below hb)
  replace HRS := Lib.hid (HRS.out.below hb)
  replace HB := Lib.hid (bs HB.out hb)
  clear hown hmid hlo hmg hs hb
  clear z0_ z1_ z2_ z3_ z4_
  go_wp2_with (fail)
  refine (LI.out _ _ _ _ _ HB.out HO5.out HX5.out).mono ?_
  rintro e w17 ⟨A12, c12, B12, d12, G2, rfl, hot, hb⟩
  replace E0 := Lib.hid (carry hb E0.out)
  replace E6 := Lib.hid (carry hb E6.out)
  replace E8 := Lib.hid (carry hb E8.out)
  replace HT6 := Lib.hid (HT6.out.below hb)
  replace HRS := Lib.hid (HRS.out.below hb)
  replace HB := Lib.hid (bs HB.out hb)
  have HG12 := Lib.hid hot
  clear hot hb HO5 HX5
  go_upto_region 25 with fail
  obtain ⟨Q12, HQ12⟩ : ∃ N, Hid (w17.heap.size = N) := ⟨_, Lib.hid rfl⟩
  generalize hwn : w17.alloc (.cells #[.bool rb, .slice A12 rn c12, .slice B12 rm d12, .int .i64 x, .int .i64 k] IT) = w18
  have hbx : Below w17.heap.size w17 w18 := hwn ▸ b1 _ _
  have E12 : Hid (w18.heap[Q12]? = some (.cells #[.bool rb, .slice A12 rn c12, .slice B12 rm d12, .int .i64 x, .int .i64 k] IT (0, 0))) := Lib.hid (by rw [← hwn, ← HQ12.out]; exact heap_alloc_new _ _)
  rw [HQ12.out]
  replace HG12 := Lib.hid (HG12.out.below hbx)
  replace E6 := Lib.hid (carry hbx E6.out)
  replace E8 := Lib.hid (carry hbx E8.out)
  replace HT6 := Lib.hid (HT6.out.below hbx)
  replace HRS := Lib.hid (HRS.out.below hbx)
  replace HB := Lib.hid (bs HB.out hbx)
  clear hwn hbx E0
  have p0_ : w18.cell? ⟨Q6, 0, none⟩ = some (.bool rb) := (rowc E6.out).1 0
  have p1_ : w18.cell? ⟨Q6, 1, none⟩ = some (.slice A6 rn c6) := (rowc E6.out).1 1
  have p2_ : w18.cell? ⟨Q6, 2, none⟩ = some (.slice B6 rm d6) := (rowc E6.out).1 2
  have p3_ : w18.cell? ⟨Q6, 3, none⟩ = some (.int .i64 x) := (rowc E6.out).1 3
  have p4_ : w18.cell? ⟨Q6, 4, none⟩ = some (.int .i64 k) := (rowc E6.out).1 4
  have h0_ : w18.cell? ⟨Q12, 0, none⟩ = some (.bool rb) := (rowc E12.out).1 0
  have h1_ : w18.cell? ⟨Q12, 1, none⟩ = some (.slice A12 rn c12) := (rowc E12.out).1 1
  have h2_ : w18.cell? ⟨Q12, 2, none⟩ = some (.slice B12 rm d12) := (rowc E12.out).1 2
  have h3_ : w18.cell? ⟨Q12, 3, none⟩ = some (.int .i64 x) := (rowc E12.out).1 3
  have h4_ : w18.cell? ⟨Q12, 4, none⟩ = some (.int .i64 k) := (rowc E12.out).1 4
  go_wp2_with (fail)
  refine (ER.out _ _ _ _ _ _ _ _ _ _ _ _ HG12.out HT6.out).mono ?_
  rintro e w19 ⟨rfl, hb⟩
  replace E6 := Lib.hid (carry hb E6.out)
  replace E8 := Lib.hid (carry hb E8.out)
  replace HT6 := Lib.hid (HT6.out.below hb)
  replace HRS := Lib.hid (HRS.out.below hb)
  replace HB := Lib.hid (bs HB.out hb)
  clear hb
  clear p0_ p1_ p2_ p3_ p4_ h0_ h1_ h2_ h3_ h4_
  have s0_ : w19.cell? ⟨Q8, 0, none⟩ = some (.bool rb) := (rowc E8.out).1 0
  have s1_ : w19.cell? ⟨Q8, 1, none⟩ = some (.slice A8 rn c8) := (rowc E8.out).1 1
  have s2_ : w19.cell? ⟨Q8, 2, none⟩ = some (.slice B8 rm d8) := (rowc E8.out).1 2
  have s3_ : w19.cell? ⟨Q8, 3, none⟩ = some (.int .i64 x) := (rowc E8.out).1 3
  have s4_ : w19.cell? ⟨Q8, 4, none⟩ = some (.int .i64 k) := (rowc E8.out).1 4
  go_wp2_with (fail)
  refine (HD.out _ _ _ _ _ _ _ _ HFI.out HRS.out).mono ?_
  rintro e w20 ⟨rfl, hb⟩
  replace HB := Lib.hid (bs HB.out hb)
  clear hb
  clear s0_ s1_ s2_ s3_ s4_
  go_wp2_with (fail)
  go_ret
  exact ⟨rfl, HB.out⟩

end Go.Proofs.YtdglmnmalfpipaaGreatDoor.fnExactRebuild

