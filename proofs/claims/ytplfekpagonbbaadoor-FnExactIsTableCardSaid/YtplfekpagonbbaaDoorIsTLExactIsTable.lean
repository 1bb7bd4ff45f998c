/-
  IsTable answers as its model at every table; it leaves its argument unmodified.
  Conditions: the package variables that the row lists hold what the program's text lays, and the card ties that to the text.
-/
import Derived.Test.YtplfekpagonbbaaDoorRows
import Derived.Test.YtplfekpagonbbaaDoorCards
import Derived.Test.YtplfekpagonbbaaDoorTie
import Derived.LaidMore
import Derived.LaidHandle
import Derived.Stop.Joined
import Derived.SevenTiedAt
import Derived.Stop.LaidErr
import Derived.SizedLaws
import Derived.Deep.RegionHeld3
import Derived.WalkKit
import Derived.ProofKit
import Derived.OpenShut
import Derived.Test.YtplfekpagonbbaaDoorIsTB3
import Derived.Test.YtplfekpagonbbaaDoorIsTB5
import Derived.Test.YtplfekpagonbbaaDoorIsTB4
import Derived.Test.YtplfekpagonbbaaDoorIsTSEnvKey
namespace Go.Proofs.YtplfekpagonbbaaDoor.fnExactIsTable
open Go.ChangeShapes Go.WideShapes Go.ChangeAt Go.RowKit tree
open Go.ChangeMaps (open_string)
set_option linter.unusedVariables false

theorem own : ownKnob Tryd.prog.godebug = none := by kernel_rfl

theorem totS_mem : ∀ {sl : List Sl} {t : Sl}, t ∈ sl → t.key.str.size + tot t.val ≤ totS sl
  | u :: sl, t, h => by
    rw [totS]
    rcases List.mem_cons.1 h with rfl | h
    · omega
    · have := totS_mem h; omega

set_option maxHeartbeats 4000000 in
set_option maxRecDepth 100000 in
theorem walk (b : Bool) (A : Option Addr) (n c : Nat) (B : Option Addr) (m d : Nat) (x k : Int) (l : List Int) (sl : List Sl) (w : World) (hr : TbIn w (fun _ => True) l sl A n c B m d x k) (hE : prs.Env w) : Calls Tryd.prog 3 #[.agg #[.bool b, .slice A n c, .slice B m d, .int .i64 x, .int .i64 k]] w (TrueQ w) := by
  have SZ : Hid (∀ w', Below w.heap.size w w' → Calls Tryd.prog 4 #[.agg #[.bool b, .slice A n c, .slice B m d, .int .i64 x, .int .i64 k], .int .i64 1048576] w' (SzQ 1048576 (n + (m + totS sl)) w')) := Lib.hid (fun w' hb => szTable (b := b) hr 1048576 (by omega) (by omega) w' hb)
  have hm := hr.len
  have hx := hr.next
  have hk := hr.count
  have HEN := Lib.hid hE
  have CON : Hid (n + (m + totS sl) ≤ 1048576 → (n ≤ 1048576 ∧ m + totS sl ≤ 1048576 ∧ m ≤ 1048576) ∧ SlB sl) := Lib.hid (fun hs => ⟨⟨by omega, by omega, by omega⟩, ⟨fun j t h => by have := totS_mem (List.mem_of_getElem? h); omega, fun j t h => by have := totS_mem (List.mem_of_getElem? h); omega⟩⟩)
  have TT0 : Hid (n ≤ 1048576 → m + totS sl ≤ 1048576 → ∀ w', Below w.heap.size w w' → Calls Tryd.prog 6 #[.agg #[.bool b, .slice A n c, .slice B m d, .int .i64 x, .int .i64 k]] w' (fun e w2 => ∃ A1 c1 g mid, e = .returned (.agg #[.bool b, .slice A1 n c1, .slice (some ⟨g, 0, none⟩) m m, .int .i64 x, .int .i64 k]) ∧ imem.OwnI w2 w'.heap.size A1 n c1 l ∧ (∀ q, (Value.slice A1 n c1).ownBlock = some q → q < mid) ∧ w'.heap.size ≤ mid ∧ mid ≤ g ∧ SIn w2 (Nw mid w2) sl (some ⟨g, 0, none⟩) ∧ Below w'.heap.size w' w2)) := Lib.hid (fun h1 h2 w' hb => toTable (b := b) (w := w') ⟨hr.heads.below hb, hr.hn, hr.len, hr.cap, hr.slots.below hb, hr.next, hr.count⟩ h1 h2)
  have LS0 : Hid (n ≤ 1048576 → m ≤ 1048576 → SlB sl → ∀ w' S lo A1 c1 g, Below w.heap.size w w' → imem.OwnI w' lo A1 n c1 l → SIn w' S sl (some ⟨g, 0, none⟩) → Calls Tryd.prog 5 #[.agg #[.bool b, .slice A1 n c1, .slice (some ⟨g, 0, none⟩) m m, .int .i64 x, .int .i64 k]] w' (BoP w' (tabOk b l sl x k))) := Lib.hid (fun h1 h2 h3 w' S lo A1 c1 g hb ho hs => isTable_s w' ⟨ho.rd, hr.hn, hm, ⟨Nat.le_refl _, by unfold maxLen; omega⟩, hs, hx, hk⟩ h1 h2 h3 (HEN.out.stays hb))
  have LI0 : Hid (n ≤ 1048576 → m ≤ 1048576 → SlB sl → ∀ w' S lo A1 c1 g, Below w.heap.size w w' → imem.OwnI w' lo A1 n c1 l → SIn w' S sl (some ⟨g, 0, none⟩) → Calls Tryd.prog 7 #[.agg #[.bool b, .slice A1 n c1, .slice (some ⟨g, 0, none⟩) m m, .int .i64 x, .int .i64 k]] w' (BoP w' (tabOk b l sl x k))) := Lib.hid (fun h1 h2 h3 w' S lo A1 c1 g hb ho hs => isTable_i w' ⟨ho.rd, hr.hn, hm, ⟨Nat.le_refl _, by unfold maxLen; omega⟩, hs, hx, hk⟩ h1 h2 h3 (HEN.out.stays hb))
  have ET0 : Hid (n ≤ 1048576 → m ≤ 1048576 → ∀ w' S S' A1 c1 lo1 g1 A2 c2 lo2 g2, imem.OwnI w' lo1 A1 n c1 l → SIn w' S sl (some ⟨g1, 0, none⟩) → imem.OwnI w' lo2 A2 n c2 l → SIn w' S' sl (some ⟨g2, 0, none⟩) → Calls Tryd.prog 8 #[.agg #[.bool b, .slice A1 n c1, .slice (some ⟨g1, 0, none⟩) m m, .int .i64 x, .int .i64 k], .agg #[.bool b, .slice A2 n c2, .slice (some ⟨g2, 0, none⟩) m m, .int .i64 x, .int .i64 k]] w' (TrueQ w')) := Lib.hid (fun h1 h2 w' S S' A1 c1 lo1 g1 A2 c2 lo2 g2 o1 s1 o2 s2 => eqTable (b := b) ⟨o1.rd, hr.hn, hm, ⟨Nat.le_refl _, by unfold maxLen; omega⟩, s1, hx, hk⟩ ⟨o2.rd, hr.hn, hm, ⟨Nat.le_refl _, by unfold maxLen; omega⟩, s2, hx, hk⟩ (by omega))
  clear hr hm hx hk hE HEN
  go_enter Tryd.func3, Tryd.ntmps3
  go_wp2_with (fail)
  refine (SZ.out _ (b1 w _)).mono ?_
  rintro e w0 ⟨r, rfl, ⟨ha, hb, hc⟩, hw0⟩
  have HB : Hid (Below w.heap.size w w0) := Lib.hid (bs (b1 w _) hw0)
  obtain ⟨tA, E0⟩ : ∃ tA, Hid (w0.heap[w.heap.size]? = some (.cells #[.bool b, .slice A n c, .slice B m d, .int .i64 x, .int .i64 k] tA (0, 0))) := ⟨_, Lib.hid (carry hw0 (heap_alloc_new w _))⟩
  clear SZ hw0
  by_cases hlt : r < 0
  · go_wp2_with (fail)
    go_ret
    exact ⟨rfl, HB.out⟩
  obtain ⟨⟨k1, k2, k3⟩, k4⟩ := CON.out (by have := hc (by omega); omega)
  have TT := Lib.hid (TT0.out k1 k2)
  have LS := Lib.hid (LS0.out k1 k3 k4)
  have LI := Lib.hid (LI0.out k1 k3 k4)
  have ET := Lib.hid (ET0.out k1 k3)
  clear k1 k2 k3 k4 TT0 LS0 LI0 ET0 CON hc
  obtain ⟨r0, -⟩ := rowc E0.out
  have z0 := r0 0; have z1 := r0 1; have z2 := r0 2; have z3 := r0 3; have z4 := r0 4
  simp at z0 z1 z2 z3 z4
  clear r0
  go_wp2_with (fail)
  refine (TT.out _ HB.out).mono ?_
  rintro e w1 ⟨A1, c1, g1, m1, rfl, hown, hmid, hlo, hmg, hs, hb⟩
  have HO1 := Lib.hid hown
  have HX1 := Lib.hid hs
  replace E0 := Lib.hid (carry hb E0.out)
  replace HB := Lib.hid (bs HB.out hb)
  clear hown hmid hlo hmg hs hb
  clear z0 z1 z2 z3 z4
  go_wp2_with (fail)
  refine (LS.out _ _ _ _ _ _ HB.out HO1.out HX1.out).mono ?_
  rintro e w2 ⟨q0, rfl, hq0, hb⟩
  have HQ0 := Lib.hid hq0
  replace E0 := Lib.hid (carry hb E0.out)
  replace HB := Lib.hid (bs HB.out hb)
  clear hq0 hb HO1 HX1
  obtain ⟨r0, -⟩ := rowc E0.out
  have z0 := r0 0; have z1 := r0 1; have z2 := r0 2; have z3 := r0 3; have z4 := r0 4
  simp at z0 z1 z2 z3 z4
  clear r0
  go_wp2_with (fail)
  refine (TT.out _ HB.out).mono ?_
  rintro e w3 ⟨A4, c4, g4, m4, rfl, hown, hmid, hlo, hmg, hs, hb⟩
  have HO := Lib.hid hown
  have HX := Lib.hid hs
  replace E0 := Lib.hid (carry hb E0.out)
  replace HB := Lib.hid (bs HB.out hb)
  clear hown hmid hlo hmg hs hb
  clear z0 z1 z2 z3 z4
  go_wp2_with (fail)
  obtain ⟨N4, HN4⟩ : ∃ N, Hid (w3.heap.size = N) := ⟨_, Lib.hid rfl⟩
  generalize hwn : w3.alloc (.cells #[.bool b, .slice A4 n c4, .slice (some ⟨g4, 0, none⟩) m m, .int .i64 x, .int .i64 k] IT) = w4
  have hbx : Below w3.heap.size w3 w4 := hwn ▸ b1 _ _
  have E4 : Hid (w4.heap[N4]? = some (.cells #[.bool b, .slice A4 n c4, .slice (some ⟨g4, 0, none⟩) m m, .int .i64 x, .int .i64 k] IT (0, 0))) := Lib.hid (by rw [← hwn, ← HN4.out]; exact heap_alloc_new _ _)
  rw [HN4.out]
  replace E0 := Lib.hid (carry hbx E0.out)
  replace HB := Lib.hid (bs HB.out hbx)
  replace HO := Lib.hid (HO.out.below hbx)
  replace HX := Lib.hid (HX.out.below hbx)
  clear hwn hbx
  refine (LI.out _ _ _ _ _ _ HB.out HO.out HX.out).mono ?_
  rintro e w5 ⟨q1, rfl, hq1, hb⟩
  obtain rfl : q1 = q0 := by have := HQ0.out; cases q1 <;> cases q0 <;> simp_all
  replace E0 := Lib.hid (carry hb E0.out)
  replace E4 := Lib.hid (carry hb E4.out)
  replace HB := Lib.hid (bs HB.out hb)
  replace HO := Lib.hid (HO.out.below hb)
  replace HX := Lib.hid (HX.out.below hb)
  clear hq1 hb HQ0 LS LI
  have z0 : w5.cell? ⟨w.heap.size, 0, none⟩ = some (.bool b) := (rowc E0.out).1 0
  have z1 : w5.cell? ⟨w.heap.size, 1, none⟩ = some (.slice A n c) := (rowc E0.out).1 1
  have z2 : w5.cell? ⟨w.heap.size, 2, none⟩ = some (.slice B m d) := (rowc E0.out).1 2
  have z3 : w5.cell? ⟨w.heap.size, 3, none⟩ = some (.int .i64 x) := (rowc E0.out).1 3
  have z4 : w5.cell? ⟨w.heap.size, 4, none⟩ = some (.int .i64 k) := (rowc E0.out).1 4
  have y0 : w5.cell? ⟨N4, 0, none⟩ = some (.bool b) := (rowc E4.out).1 0
  have y1 : w5.cell? ⟨N4, 1, none⟩ = some (.slice A4 n c4) := (rowc E4.out).1 1
  have y2 : w5.cell? ⟨N4, 2, none⟩ = some (.slice (some ⟨g4, 0, none⟩) m m) := (rowc E4.out).1 2
  have y3 : w5.cell? ⟨N4, 3, none⟩ = some (.int .i64 x) := (rowc E4.out).1 3
  have y4 : w5.cell? ⟨N4, 4, none⟩ = some (.int .i64 k) := (rowc E4.out).1 4
  cases q1
  all_goals
    go_wp2_with (fail)
    go_region_held3 (fun w' => w'.cell? ⟨N4, 0, none⟩ = some (.bool b) ∧ w'.cell? ⟨N4, 1, none⟩ = some (.slice A4 n c4) ∧ w'.cell? ⟨N4, 2, none⟩ = some (.slice (some ⟨g4, 0, none⟩) m m) ∧ w'.cell? ⟨N4, 3, none⟩ = some (.int .i64 x) ∧ w'.cell? ⟨N4, 4, none⟩ = some (.int .i64 k) ∧ w'.cell? ⟨w.heap.size, 0, none⟩ = some (.bool b) ∧ w'.cell? ⟨w.heap.size, 1, none⟩ = some (.slice A n c) ∧ w'.cell? ⟨w.heap.size, 2, none⟩ = some (.slice B m d) ∧ w'.cell? ⟨w.heap.size, 3, none⟩ = some (.int .i64 x) ∧ w'.cell? ⟨w.heap.size, 4, none⟩ = some (.int .i64 k)) (first | go_keep) (first
      | (go_at_call 6; refine (TT.out _ (HB.out.trans ((Below.refl _ _).drew))).mono ?_
         rintro e w6 ⟨A5, c5, g5, m5, rfl, hown, hmid, hlo, hmg, hs, hb⟩
         have hbx := (bs ((Below.refl w5.heap.size w5).drew) hb)
         have HO5 := Lib.hid hown
         have HX5 := Lib.hid hs
         have E06 := Lib.hid (carry hbx E0.out)
         have E46 := Lib.hid (carry hbx E4.out)
         have HB6 := Lib.hid (bs HB.out hbx)
         have HO6 := Lib.hid (HO.out.below hbx)
         have HX6 := Lib.hid (HX.out.below hbx)
         obtain ⟨r0, -⟩ := rowc E06.out
         have z0 := r0 0; have z1 := r0 1; have z2 := r0 2; have z3 := r0 3; have z4 := r0 4
         simp at z0 z1 z2 z3 z4
         obtain ⟨r4, -⟩ := rowc E46.out
         have y0 := r4 0; have y1 := r4 1; have y2 := r4 2; have y3 := r4 3; have y4 := r4 4
         simp at y0 y1 y2 y3 y4
         clear hown hmid hlo hmg hs hb hbx r0 r4)
      | (go_at_call 8; refine (ET.out _ _ _ _ _ _ _ _ _ _ _ HO6.out HX6.out HO5.out HX5.out).mono ?_
         rintro e w7 ⟨rfl, hb⟩
         have HB7 := Lib.hid (bs HB6.out hb)
         obtain ⟨r0, -⟩ := rowc (carry hb E06.out)
         have z0 := r0 0; have z1 := r0 1; have z2 := r0 2; have z3 := r0 3; have z4 := r0 4
         simp at z0 z1 z2 z3 z4
         obtain ⟨r4, -⟩ := rowc (carry hb E46.out)
         have y0 := r4 0; have y1 := r4 1; have y2 := r4 2; have y3 := r4 3; have y4 := r4 4
         simp at y0 y1 y2 y3 y4
         clear hb r0 r4))
    go_wp2_with (fail)
    go_ret
    exact ⟨rfl, HB7.out⟩

set_option maxRecDepth 100000 in
theorem lifted (os : Os) (started : os.Started) (H : Type) (enc : TypeId × Value → H) :
    ReturnsInHanded {} Tryd.checked os 3 .any (fun w args => (Rows.fnExactIsTableSpec.pre enc Tryd.prog Tryd.f3 [] false w args ∧ laidMetH Tryd.prog prs.laidOf w) ∧ sizedMet enc Tryd.prog Tryd.f3 (OpenSpec.ofChange Rows.fnExactIsTableSpec) false w args)
      (Rows.fnExactIsTableSpec.post enc Tryd.prog Tryd.f3 false true false false) := by
  refine returnsInHanded_of_change_and (C := Tryd.checked) (X := fun w _ => laidMetH Tryd.prog prs.laidOf w) (fun _ _ _ hh h => h.of_heap hh) own started (by kernel_rfl) Tryd.func3
    (ChangeSpec.witness_shaped (enc := enc) (C := Tryd.checked) (os := os) (X := fun w _ => laidMetH Tryd.prog prs.laidOf w) false (World.doorLaid Tryd.prog 400 os) #[.agg #[.bool false, .slice none 0 0, .slice none 0 0, .int .i64 0, .int .i64 0]] 8 rfl (World.shaped_of_RefB (by kernel_rfl) (by kernel_rfl)) (by kernel_rfl) (by kernel_rfl) (by kernel_rfl) (prs.door_met os _)) ?_
  intro W base args ds gs before hval0 hW _ hsz0 hL _
  have hval : ∀ (j : Nat) t v, Tryd.f3.params[j]? = some t → args[j]? = some v → Value.okWide Tryd.prog W .any base t v := hval0
  have hW' := hW
  obtain ⟨p, q, hA0, hV, rfl, hfz, hnd⟩ := hW
  have hA : DataW.TrodAll enc Tryd.prog W 0 (fun _ => true) true Tryd.f3.params.toList args.toList ds p := hA0
  have hA2 := hA
  rw [Tryd.params3] at hA hval
  obtain ⟨v0, d0, rfl, rfl, h0⟩ := trodAll_one hA
  obtain ⟨rfl, rfl⟩ := trodVars_none hV
  obtain ⟨b0, A0, n0, c0, B0, m0, d0, nx0, ct0, l0, sl0, rfl, hr0⟩ := open_table (hval 0 25 v0 rfl rfl) h0
  clear hA0 hval0
  simp only [List.append_nil] at hW' hA2
  refine (walk b0 A0 n0 c0 B0 m0 d0 nx0 ct0 l0 sl0 W hr0 (prs.env_of hL)).mono fun e W' ⟨he, hb⟩ => ?_
  subst he
  exact ⟨_, rfl, opn.post_true hW' rfl hA2 rfl rfl Tryd.underlying4 (by kernel_rfl) (by kernel_rfl) hb⟩

theorem over : Rows.FnExactIsTableSaid :=
  OpenClaim.holds_of_wide 3 Tryd.f3 rfl rfl rfl rfl rfl rfl rfl ⟨rfl, rfl, rfl, rfl, rfl⟩ rfl rfl rfl rfl rfl (by kernel_rfl) Tryd.func3 (by kernel_rfl)
    (of_decide_eq_true (by kernel_rfl)) (by unfold Func.isWrapper; first | (rw [if_pos (by decide +kernel)]; kernel_rfl) | (rw [if_neg (by decide +kernel)]; exact ⟨rfl, rfl⟩))
    (fun os started H enc _ => lifted os started H enc)

/-- The statement. -/
theorem proved : Rows.FnExactIsTableCardSaid :=
  Claim7.holds_tied_plain_at .later [] Rows.fnExactIsTableCard.laidKinds true Rows.fnExactIsTableCard.stood.harness Rows.fnExactIsTableCard.stood.looks
    over (fun _ h => by cases h) (by kernel_rfl) (fun _ h => by cases h) fnExactIsTable_row_tie rfl ⟨rfl, rfl⟩ (by kernel_rfl) rfl
    (fun f fn hf hfn => by
      obtain rfl : f = 3 := Option.some.inj ((show Tryd.prog.funcNamed "loop.example/g03011/laws.FnExactIsTable" = some 3 by kernel_rfl).symm.trans hf) |>.symm
      obtain rfl : fn = Tryd.f3 := (Option.some.inj (Tryd.func3.symm.trans hfn)).symm
      exact ⟨by kernel_rfl, fun j t ht => by
        rw [Tryd.params3] at ht
        have hm : t ∈ [25] := by simpa using Array.mem_of_getElem? ht
        have hall : ([25].all fun u => !Tryd.prog.wantsStandIn u) = true := by kernel_rfl
        exact (show Tryd.prog.wantsStandIn t = false by simpa using List.all_eq_true.1 hall t hm)⟩)
    (by kernel_rfl)
#print axioms proved
end Go.Proofs.YtplfekpagonbbaaDoor.fnExactIsTable

