/-
  FindSlot answers as its model at every table and key; it leaves its arguments unmodified.
  Conditions: the package variables that the row lists hold what the program's text lays, and the card ties that to the text.
-/
import Derived.Test.YtplfekpagonbbaaGreatDoorRows
import Derived.Test.YtplfekpagonbbaaGreatDoorCards
import Derived.Test.YtplfekpagonbbaaGreatDoorTie
import Derived.LaidMore
import Derived.LaidHandle
import Derived.Stop.Joined
import Derived.SevenTiedAt
import Derived.Stop.LaidErr
import Derived.SizedLaws
import Derived.Deep.RegionHeld3
import Derived.WalkKit
import Derived.ProofKit
import Derived.OpenShut
import Derived.Test.YtplfekpagonbbaaGreatDoorFiSB4
import Derived.Test.YtplfekpagonbbaaGreatDoorFiSB5
import Derived.Test.YtplfekpagonbbaaGreatDoorFiSB3
import Derived.Test.YtplfekpagonbbaaGreatDoorFiSSEnvKey
namespace Go.Proofs.YtplfekpagonbbaaGreatDoor.fnExactFindSlot
open Go.ChangeShapes Go.WideShapes Go.ChangeAt Go.RowKit tree
open Go.ChangeMaps (open_string)
set_option linter.unusedVariables false

theorem own : ownKnob Tryz.prog.godebug = none := by kernel_rfl

theorem totS_mem : ∀ {sl : List Sl} {t : Sl}, t ∈ sl → t.key.str.size + tot t.val ≤ totS sl
  | u :: sl, t, h => by
    rw [totS]
    rcases List.mem_cons.1 h with rfl | h
    · omega
    · have := totS_mem h; omega

set_option maxHeartbeats 4000000 in
set_option maxRecDepth 100000 in
theorem walk (b : Bool) (A : Option Addr) (n c : Nat) (B : Option Addr) (m d : Nat) (x k : Int) (l : List Int) (sl : List Sl) (y : Ky) (w : World) (hr : TbIn w (fun _ => True) l sl A n c B m d x k) (hy : I64 y.num ∧ y.str.size ≤ maxLen) (hE : prs.Env w) : Calls Tryz.prog 5 #[.agg #[.bool b, .slice A n c, .slice B m d, .int .i64 x, .int .i64 k], kyV y] w (TrueQ w) := by
  have SZ : Hid (∀ w', Below w.heap.size w w' → Calls Tryz.prog 26 #[.agg #[.bool b, .slice A n c, .slice B m d, .int .i64 x, .int .i64 k], .int .i64 1048576] w' (SzQ 1048576 (n + (m + totS sl)) w')) := Lib.hid (fun w' hb => szTable (b := b) hr 1048576 (by omega) (by omega) w' hb)
  have SK : Hid (∀ left, 0 ≤ left → left ≤ 1048576 → ∀ w', Calls Tryz.prog 27 #[kyV y, .int .i64 left] w' (SzQ left y.str.size w')) := Lib.hid (fun left h0 h1 w' => szKey y hy.2 left h0 h1 w')
  have TK : Hid (∀ w', Calls Tryz.prog 30 #[kyV y] w' fun e w2 => e = .returned (kyV y) ∧ Below w'.heap.size w' w2) := Lib.hid (toKey y)
  have hm := hr.len
  have hx := hr.next
  have hk := hr.count
  have HEN := Lib.hid hE
  obtain ⟨W, HW⟩ : ∃ W, Hid (fd sl y m = W) := ⟨_, Lib.hid rfl⟩
  have CON : Hid (n + (m + totS sl) ≤ 1048576 → (n ≤ 1048576 ∧ m + totS sl ≤ 1048576 ∧ m ≤ 1048576) ∧ SlB sl) := Lib.hid (fun hs => ⟨⟨by omega, by omega, by omega⟩, ⟨fun j t h => by have := totS_mem (List.mem_of_getElem? h); omega, fun j t h => by have := totS_mem (List.mem_of_getElem? h); omega⟩⟩)
  have TT0 : Hid (n ≤ 1048576 → m + totS sl ≤ 1048576 → ∀ w', Below w.heap.size w w' → Calls Tryz.prog 29 #[.agg #[.bool b, .slice A n c, .slice B m d, .int .i64 x, .int .i64 k]] w' (fun e w2 => ∃ A1 c1 g mid, e = .returned (.agg #[.bool b, .slice A1 n c1, .slice (some ⟨g, 0, none⟩) m m, .int .i64 x, .int .i64 k]) ∧ imem.OwnI w2 w'.heap.size A1 n c1 l ∧ (∀ q, (Value.slice A1 n c1).ownBlock = some q → q < mid) ∧ w'.heap.size ≤ mid ∧ mid ≤ g ∧ SIn w2 (Nw mid w2) sl (some ⟨g, 0, none⟩) ∧ Below w'.heap.size w' w2)) := Lib.hid (fun h1 h2 w' hb => toTable (b := b) (w := w') ⟨hr.heads.below hb, hr.hn, hr.len, hr.cap, hr.slots.below hb, hr.next, hr.count⟩ h1 h2)
  have LS0 : Hid (n ≤ 1048576 → m ≤ 1048576 → SlB sl → y.str.size ≤ 1048576 → ∀ w' S lo A1 c1 g, Below w.heap.size w w' → imem.OwnI w' lo A1 n c1 l → SIn w' S sl (some ⟨g, 0, none⟩) → Calls Tryz.prog 28 #[.agg #[.bool b, .slice A1 n c1, .slice (some ⟨g, 0, none⟩) m m, .int .i64 x, .int .i64 k], kyV y] w' (FsQ w' (tabOk b l sl x k) W)) := Lib.hid (fun h1 h2 h3 h4 w' S lo A1 c1 g hb ho hs => HW.out ▸ findTable_s w' ⟨ho.rd, hr.hn, hm, ⟨Nat.le_refl _, by unfold maxLen; omega⟩, hs, hx, hk⟩ h1 h2 h3 (HEN.out.stays hb) y (by omega))
  have LI0 : Hid (n ≤ 1048576 → m ≤ 1048576 → SlB sl → y.str.size ≤ 1048576 → ∀ w' S lo A1 c1 g, Below w.heap.size w w' → imem.OwnI w' lo A1 n c1 l → SIn w' S sl (some ⟨g, 0, none⟩) → Calls Tryz.prog 22 #[.agg #[.bool b, .slice A1 n c1, .slice (some ⟨g, 0, none⟩) m m, .int .i64 x, .int .i64 k], kyV y] w' (FsQ w' (tabOk b l sl x k) W)) := Lib.hid (fun h1 h2 h3 h4 w' S lo A1 c1 g hb ho hs => HW.out ▸ findTable_i w' ⟨ho.rd, hr.hn, hm, ⟨Nat.le_refl _, by unfold maxLen; omega⟩, hs, hx, hk⟩ h1 h2 h3 (HEN.out.stays hb) y (by omega))
  have ET0 : Hid (n ≤ 1048576 → m ≤ 1048576 → ∀ w' S S' A1 c1 lo1 g1 A2 c2 lo2 g2, imem.OwnI w' lo1 A1 n c1 l → SIn w' S sl (some ⟨g1, 0, none⟩) → imem.OwnI w' lo2 A2 n c2 l → SIn w' S' sl (some ⟨g2, 0, none⟩) → Calls Tryz.prog 31 #[.agg #[.bool b, .slice A1 n c1, .slice (some ⟨g1, 0, none⟩) m m, .int .i64 x, .int .i64 k], .agg #[.bool b, .slice A2 n c2, .slice (some ⟨g2, 0, none⟩) m m, .int .i64 x, .int .i64 k]] w' (TrueQ w')) := Lib.hid (fun h1 h2 w' S S' A1 c1 lo1 g1 A2 c2 lo2 g2 o1 s1 o2 s2 => eqTable (b := b) ⟨o1.rd, hr.hn, hm, ⟨Nat.le_refl _, by unfold maxLen; omega⟩, s1, hx, hk⟩ ⟨o2.rd, hr.hn, hm, ⟨Nat.le_refl _, by unfold maxLen; omega⟩, s2, hx, hk⟩ (by omega))
  obtain ⟨P, HP⟩ : ∃ P : Prop, Hid (tabOk b l sl x k = P) := ⟨_, Lib.hid rfl⟩
  rw [HP.out] at LS0 LI0
  obtain ⟨yb, yn, ys⟩ := y
  unfold kyV at *
  simp only at SK TK LS0 LI0 ⊢
  clear hr hm hx hk hE HEN HW hy HP
  go_enter Tryz.func5, Tryz.ntmps5
  go_wp2_with (fail)
  refine (SZ.out _ (b2 w _ _)).mono ?_
  rintro e w0 ⟨r, rfl, ⟨ha, hb, hc⟩, hw0⟩
  have HB : Hid (Below w.heap.size w w0) := Lib.hid (bs (b2 w _ _) hw0)
  obtain ⟨tA, E0⟩ : ∃ tA, Hid (w0.heap[w.heap.size]? = some (.cells #[.bool b, .slice A n c, .slice B m d, .int .i64 x, .int .i64 k] tA (0, 0))) := ⟨_, Lib.hid (carry hw0 (heap_alloc2_old w _ _))⟩
  obtain ⟨tK, EK⟩ : ∃ tA, Hid (w0.heap[w.heap.size + 1]? = some (.cells #[.bool yb, .int .i64 yn, .string ys] tA (0, 0))) := ⟨_, Lib.hid (carry hw0 (heap_alloc2_new w _ _))⟩
  clear SZ hw0
  by_cases hlt : r < 0
  · go_wp2_with (fail)
    go_ret
    exact ⟨rfl, HB.out⟩
  obtain ⟨⟨k1, k2, k3⟩, k4⟩ := CON.out (by have := hc (by omega); omega)
  have TT := Lib.hid (TT0.out k1 k2)
  have ET := Lib.hid (ET0.out k1 k3)
  have LS1 := Lib.hid (LS0.out k1 k3 k4)
  have LI1 := Lib.hid (LI0.out k1 k3 k4)
  have SK1 := Lib.hid (SK.out r (by omega) (by omega))
  clear k1 k2 k3 k4 TT0 LS0 LI0 ET0 CON hc SK
  have z0 : w0.cell? ⟨w.heap.size, 0, none⟩ = some (.bool b) := (rowc E0.out).1 0
  have z1 : w0.cell? ⟨w.heap.size, 1, none⟩ = some (.slice A n c) := (rowc E0.out).1 1
  have z2 : w0.cell? ⟨w.heap.size, 2, none⟩ = some (.slice B m d) := (rowc E0.out).1 2
  have z3 : w0.cell? ⟨w.heap.size, 3, none⟩ = some (.int .i64 x) := (rowc E0.out).1 3
  have z4 : w0.cell? ⟨w.heap.size, 4, none⟩ = some (.int .i64 k) := (rowc E0.out).1 4
  have v0 : w0.cell? ⟨w.heap.size + 1, 0, none⟩ = some (.bool yb) := (rowc EK.out).1 0
  have v1 : w0.cell? ⟨w.heap.size + 1, 1, none⟩ = some (.int .i64 yn) := (rowc EK.out).1 1
  have v2 : w0.cell? ⟨w.heap.size + 1, 2, none⟩ = some (.string ys) := (rowc EK.out).1 2
  go_wp2_with (fail)
  refine (SK1.out _).mono ?_
  rintro e w1 ⟨r1, rfl, ⟨ha1, hb1, hc1⟩, hb⟩
  replace E0 := Lib.hid (carry hb E0.out)
  replace EK := Lib.hid (carry hb EK.out)
  replace HB := Lib.hid (bs HB.out hb)
  clear hb SK1
  clear z0 z1 z2 z3 z4 v0 v1 v2
  by_cases hlt1 : r1 < 0
  · go_wp2_with (fail)
    go_ret
    exact ⟨rfl, HB.out⟩
  have hs1 : ys.size ≤ 1048576 := by have := hc1 (by omega); omega
  have LS := Lib.hid (LS1.out hs1)
  have LI := Lib.hid (LI1.out hs1)
  clear LS1 LI1 hc1 hs1
  have z0 : w1.cell? ⟨w.heap.size, 0, none⟩ = some (.bool b) := (rowc E0.out).1 0
  have z1 : w1.cell? ⟨w.heap.size, 1, none⟩ = some (.slice A n c) := (rowc E0.out).1 1
  have z2 : w1.cell? ⟨w.heap.size, 2, none⟩ = some (.slice B m d) := (rowc E0.out).1 2
  have z3 : w1.cell? ⟨w.heap.size, 3, none⟩ = some (.int .i64 x) := (rowc E0.out).1 3
  have z4 : w1.cell? ⟨w.heap.size, 4, none⟩ = some (.int .i64 k) := (rowc E0.out).1 4
  have v0 : w1.cell? ⟨w.heap.size + 1, 0, none⟩ = some (.bool yb) := (rowc EK.out).1 0
  have v1 : w1.cell? ⟨w.heap.size + 1, 1, none⟩ = some (.int .i64 yn) := (rowc EK.out).1 1
  have v2 : w1.cell? ⟨w.heap.size + 1, 2, none⟩ = some (.string ys) := (rowc EK.out).1 2
  go_wp2_with (fail)
  go_region_held3 (fun w' => w'.cell? ⟨w.heap.size, 0, none⟩ = some (.bool b) ∧ w'.cell? ⟨w.heap.size, 1, none⟩ = some (.slice A n c) ∧ w'.cell? ⟨w.heap.size, 2, none⟩ = some (.slice B m d) ∧ w'.cell? ⟨w.heap.size, 3, none⟩ = some (.int .i64 x) ∧ w'.cell? ⟨w.heap.size, 4, none⟩ = some (.int .i64 k) ∧ w'.cell? ⟨w.heap.size + 1, 0, none⟩ = some (.bool yb) ∧ w'.cell? ⟨w.heap.size + 1, 1, none⟩ = some (.int .i64 yn) ∧ w'.cell? ⟨w.heap.size + 1, 2, none⟩ = some (.string ys)) (first | go_keep) (first
    | (go_at_call 29; refine (TT.out _ (HB.out.trans ((Below.refl _ _).drew))).mono ?_
       rintro e w2 ⟨A5, c5, g5, m5, rfl, hown, hmid, hlo, hmg, hs, hb⟩
       have hbx := (bs ((Below.refl w1.heap.size w1).drew) hb)
       have HO5 := Lib.hid hown
       have HX5 := Lib.hid hs
       clear hown hmid hlo hmg hs
       replace E0 := Lib.hid (carry hbx E0.out)
       replace EK := Lib.hid (carry hbx EK.out)
       replace HB := Lib.hid (bs HB.out hbx)
       have z0 : w2.cell? ⟨w.heap.size, 0, none⟩ = some (.bool b) := (rowc E0.out).1 0
       have z1 : w2.cell? ⟨w.heap.size, 1, none⟩ = some (.slice A n c) := (rowc E0.out).1 1
       have z2 : w2.cell? ⟨w.heap.size, 2, none⟩ = some (.slice B m d) := (rowc E0.out).1 2
       have z3 : w2.cell? ⟨w.heap.size, 3, none⟩ = some (.int .i64 x) := (rowc E0.out).1 3
       have z4 : w2.cell? ⟨w.heap.size, 4, none⟩ = some (.int .i64 k) := (rowc E0.out).1 4
       have v0 : w2.cell? ⟨w.heap.size + 1, 0, none⟩ = some (.bool yb) := (rowc EK.out).1 0
       have v1 : w2.cell? ⟨w.heap.size + 1, 1, none⟩ = some (.int .i64 yn) := (rowc EK.out).1 1
       have v2 : w2.cell? ⟨w.heap.size + 1, 2, none⟩ = some (.string ys) := (rowc EK.out).1 2
       clear hb hbx)
    | (go_at_call 30; refine (TK.out _).mono ?_
       rintro e w3 ⟨rfl, hb⟩
       have hbx := hb
       replace E0 := Lib.hid (carry hbx E0.out)
       replace EK := Lib.hid (carry hbx EK.out)
       replace HO5 := Lib.hid (HO5.out.below hbx)
       replace HX5 := Lib.hid (HX5.out.below hbx)
       replace HB := Lib.hid (bs HB.out hbx)
       have z0 : w3.cell? ⟨w.heap.size, 0, none⟩ = some (.bool b) := (rowc E0.out).1 0
       have z1 : w3.cell? ⟨w.heap.size, 1, none⟩ = some (.slice A n c) := (rowc E0.out).1 1
       have z2 : w3.cell? ⟨w.heap.size, 2, none⟩ = some (.slice B m d) := (rowc E0.out).1 2
       have z3 : w3.cell? ⟨w.heap.size, 3, none⟩ = some (.int .i64 x) := (rowc E0.out).1 3
       have z4 : w3.cell? ⟨w.heap.size, 4, none⟩ = some (.int .i64 k) := (rowc E0.out).1 4
       have v0 : w3.cell? ⟨w.heap.size + 1, 0, none⟩ = some (.bool yb) := (rowc EK.out).1 0
       have v1 : w3.cell? ⟨w.heap.size + 1, 1, none⟩ = some (.int .i64 yn) := (rowc EK.out).1 1
       have v2 : w3.cell? ⟨w.heap.size + 1, 2, none⟩ = some (.string ys) := (rowc EK.out).1 2
       clear hb hbx)
    | (go_at_call 28; refine (LS.out _ _ _ _ _ _ HB.out HO5.out HX5.out).mono ?_
       rintro e w4 ⟨u0, rfl, hu0, hb⟩
       have hbx := hb
       have HU0 := Lib.hid hu0
       clear hu0 HO5 HX5
       replace E0 := Lib.hid (carry hbx E0.out)
       replace EK := Lib.hid (carry hbx EK.out)
       replace HB := Lib.hid (bs HB.out hbx)
       have z0 : w4.cell? ⟨w.heap.size, 0, none⟩ = some (.bool b) := (rowc E0.out).1 0
       have z1 : w4.cell? ⟨w.heap.size, 1, none⟩ = some (.slice A n c) := (rowc E0.out).1 1
       have z2 : w4.cell? ⟨w.heap.size, 2, none⟩ = some (.slice B m d) := (rowc E0.out).1 2
       have z3 : w4.cell? ⟨w.heap.size, 3, none⟩ = some (.int .i64 x) := (rowc E0.out).1 3
       have z4 : w4.cell? ⟨w.heap.size, 4, none⟩ = some (.int .i64 k) := (rowc E0.out).1 4
       have v0 : w4.cell? ⟨w.heap.size + 1, 0, none⟩ = some (.bool yb) := (rowc EK.out).1 0
       have v1 : w4.cell? ⟨w.heap.size + 1, 1, none⟩ = some (.int .i64 yn) := (rowc EK.out).1 1
       have v2 : w4.cell? ⟨w.heap.size + 1, 2, none⟩ = some (.string ys) := (rowc EK.out).1 2
       clear hb hbx))
  clear LS
  go_wp2_with (fail)
  refine (TT.out _ HB.out).mono ?_
  rintro e w5 ⟨A4, c4, g4, m4, rfl, hown, hmid, hlo, hmg, hs, hb⟩
  have HO := Lib.hid hown
  have HX := Lib.hid hs
  replace E0 := Lib.hid (carry hb E0.out)
  replace EK := Lib.hid (carry hb EK.out)
  replace HB := Lib.hid (bs HB.out hb)
  clear hown hmid hlo hmg hs hb
  clear z0 z1 z2 z3 z4 v0 v1 v2
  go_wp2_with (fail)
  obtain ⟨N4, HN4⟩ : ∃ N, Hid (w5.heap.size = N) := ⟨_, Lib.hid rfl⟩
  generalize hwn : w5.alloc (.cells #[.bool b, .slice A4 n c4, .slice (some ⟨g4, 0, none⟩) m m, .int .i64 x, .int .i64 k] IT) = w6
  have hbx : Below w5.heap.size w5 w6 := hwn ▸ b1 _ _
  have E4 : Hid (w6.heap[N4]? = some (.cells #[.bool b, .slice A4 n c4, .slice (some ⟨g4, 0, none⟩) m m, .int .i64 x, .int .i64 k] IT (0, 0))) := Lib.hid (by rw [← hwn, ← HN4.out]; exact heap_alloc_new _ _)
  rw [HN4.out]
  replace E0 := Lib.hid (carry hbx E0.out)
  replace EK := Lib.hid (carry hbx EK.out)
  replace HO := Lib.hid (HO.out.below hbx)
  replace HX := Lib.hid (HX.out.below hbx)
  replace HB := Lib.hid (bs HB.out hbx)
  clear hwn hbx
  have z0 : w6.cell? ⟨w.heap.size, 0, none⟩ = some (.bool b) := (rowc E0.out).1 0
  have z1 : w6.cell? ⟨w.heap.size, 1, none⟩ = some (.slice A n c) := (rowc E0.out).1 1
  have z2 : w6.cell? ⟨w.heap.size, 2, none⟩ = some (.slice B m d) := (rowc E0.out).1 2
  have z3 : w6.cell? ⟨w.heap.size, 3, none⟩ = some (.int .i64 x) := (rowc E0.out).1 3
  have z4 : w6.cell? ⟨w.heap.size, 4, none⟩ = some (.int .i64 k) := (rowc E0.out).1 4
  have v0 : w6.cell? ⟨w.heap.size + 1, 0, none⟩ = some (.bool yb) := (rowc EK.out).1 0
  have v1 : w6.cell? ⟨w.heap.size + 1, 1, none⟩ = some (.int .i64 yn) := (rowc EK.out).1 1
  have v2 : w6.cell? ⟨w.heap.size + 1, 2, none⟩ = some (.string ys) := (rowc EK.out).1 2
  have y0 : w6.cell? ⟨N4, 0, none⟩ = some (.bool b) := (rowc E4.out).1 0
  have y1 : w6.cell? ⟨N4, 1, none⟩ = some (.slice A4 n c4) := (rowc E4.out).1 1
  have y2 : w6.cell? ⟨N4, 2, none⟩ = some (.slice (some ⟨g4, 0, none⟩) m m) := (rowc E4.out).1 2
  have y3 : w6.cell? ⟨N4, 3, none⟩ = some (.int .i64 x) := (rowc E4.out).1 3
  have y4 : w6.cell? ⟨N4, 4, none⟩ = some (.int .i64 k) := (rowc E4.out).1 4
  go_wp2_with (fail)
  go_region_held3 (fun w' => w'.cell? ⟨N4, 0, none⟩ = some (.bool b) ∧ w'.cell? ⟨N4, 1, none⟩ = some (.slice A4 n c4) ∧ w'.cell? ⟨N4, 2, none⟩ = some (.slice (some ⟨g4, 0, none⟩) m m) ∧ w'.cell? ⟨N4, 3, none⟩ = some (.int .i64 x) ∧ w'.cell? ⟨N4, 4, none⟩ = some (.int .i64 k) ∧ w'.cell? ⟨w.heap.size + 1, 0, none⟩ = some (.bool yb) ∧ w'.cell? ⟨w.heap.size + 1, 1, none⟩ = some (.int .i64 yn) ∧ w'.cell? ⟨w.heap.size + 1, 2, none⟩ = some (.string ys) ∧ w'.cell? ⟨w.heap.size, 0, none⟩ = some (.bool b) ∧ w'.cell? ⟨w.heap.size, 1, none⟩ = some (.slice A n c) ∧ w'.cell? ⟨w.heap.size, 2, none⟩ = some (.slice B m d) ∧ w'.cell? ⟨w.heap.size, 3, none⟩ = some (.int .i64 x) ∧ w'.cell? ⟨w.heap.size, 4, none⟩ = some (.int .i64 k)) (first | go_keep) (first
    | (go_at_call 30; refine (TK.out _).mono ?_
       rintro e w7 ⟨rfl, hb⟩
       have hbx := (bs ((Below.refl w6.heap.size w6).drew) hb)
       replace E0 := Lib.hid (carry hbx E0.out)
       replace EK := Lib.hid (carry hbx EK.out)
       replace E4 := Lib.hid (carry hbx E4.out)
       replace HO := Lib.hid (HO.out.below hbx)
       replace HX := Lib.hid (HX.out.below hbx)
       replace HB := Lib.hid (bs HB.out hbx)
       have z0 : w7.cell? ⟨w.heap.size, 0, none⟩ = some (.bool b) := (rowc E0.out).1 0
       have z1 : w7.cell? ⟨w.heap.size, 1, none⟩ = some (.slice A n c) := (rowc E0.out).1 1
       have z2 : w7.cell? ⟨w.heap.size, 2, none⟩ = some (.slice B m d) := (rowc E0.out).1 2
       have z3 : w7.cell? ⟨w.heap.size, 3, none⟩ = some (.int .i64 x) := (rowc E0.out).1 3
       have z4 : w7.cell? ⟨w.heap.size, 4, none⟩ = some (.int .i64 k) := (rowc E0.out).1 4
       have v0 : w7.cell? ⟨w.heap.size + 1, 0, none⟩ = some (.bool yb) := (rowc EK.out).1 0
       have v1 : w7.cell? ⟨w.heap.size + 1, 1, none⟩ = some (.int .i64 yn) := (rowc EK.out).1 1
       have v2 : w7.cell? ⟨w.heap.size + 1, 2, none⟩ = some (.string ys) := (rowc EK.out).1 2
       have y0 : w7.cell? ⟨N4, 0, none⟩ = some (.bool b) := (rowc E4.out).1 0
       have y1 : w7.cell? ⟨N4, 1, none⟩ = some (.slice A4 n c4) := (rowc E4.out).1 1
       have y2 : w7.cell? ⟨N4, 2, none⟩ = some (.slice (some ⟨g4, 0, none⟩) m m) := (rowc E4.out).1 2
       have y3 : w7.cell? ⟨N4, 3, none⟩ = some (.int .i64 x) := (rowc E4.out).1 3
       have y4 : w7.cell? ⟨N4, 4, none⟩ = some (.int .i64 k) := (rowc E4.out).1 4
       clear hb hbx)
    | (go_at_call 22; refine (LI.out _ _ _ _ _ _ HB.out HO.out HX.out).mono ?_
       rintro e w8 ⟨u1, rfl, hu1, hb⟩
       have hbx := hb
       have HU1 := Lib.hid hu1
       clear hu1
       replace E0 := Lib.hid (carry hbx E0.out)
       replace EK := Lib.hid (carry hbx EK.out)
       replace E4 := Lib.hid (carry hbx E4.out)
       replace HO := Lib.hid (HO.out.below hbx)
       replace HX := Lib.hid (HX.out.below hbx)
       replace HB := Lib.hid (bs HB.out hbx)
       have z0 : w8.cell? ⟨w.heap.size, 0, none⟩ = some (.bool b) := (rowc E0.out).1 0
       have z1 : w8.cell? ⟨w.heap.size, 1, none⟩ = some (.slice A n c) := (rowc E0.out).1 1
       have z2 : w8.cell? ⟨w.heap.size, 2, none⟩ = some (.slice B m d) := (rowc E0.out).1 2
       have z3 : w8.cell? ⟨w.heap.size, 3, none⟩ = some (.int .i64 x) := (rowc E0.out).1 3
       have z4 : w8.cell? ⟨w.heap.size, 4, none⟩ = some (.int .i64 k) := (rowc E0.out).1 4
       have v0 : w8.cell? ⟨w.heap.size + 1, 0, none⟩ = some (.bool yb) := (rowc EK.out).1 0
       have v1 : w8.cell? ⟨w.heap.size + 1, 1, none⟩ = some (.int .i64 yn) := (rowc EK.out).1 1
       have v2 : w8.cell? ⟨w.heap.size + 1, 2, none⟩ = some (.string ys) := (rowc EK.out).1 2
       have y0 : w8.cell? ⟨N4, 0, none⟩ = some (.bool b) := (rowc E4.out).1 0
       have y1 : w8.cell? ⟨N4, 1, none⟩ = some (.slice A4 n c4) := (rowc E4.out).1 1
       have y2 : w8.cell? ⟨N4, 2, none⟩ = some (.slice (some ⟨g4, 0, none⟩) m m) := (rowc E4.out).1 2
       have y3 : w8.cell? ⟨N4, 3, none⟩ = some (.int .i64 x) := (rowc E4.out).1 3
       have y4 : w8.cell? ⟨N4, 4, none⟩ = some (.int .i64 k) := (rowc E4.out).1 4
       clear hb hbx))
  obtain rfl : u1 = u0 := by rcases HU1.out with ⟨h1, h2⟩ | ⟨h1, h2⟩ <;> rcases HU0.out with ⟨h3, h4⟩ | ⟨h3, h4⟩ <;> first | exact h2.trans h4.symm | exact absurd h1 h3 | exact absurd h3 h1
  clear HU0 HU1 LI
  go_wp2_with (fail)
  go_region_held3 (fun w' => w'.cell? ⟨N4, 0, none⟩ = some (.bool b) ∧ w'.cell? ⟨N4, 1, none⟩ = some (.slice A4 n c4) ∧ w'.cell? ⟨N4, 2, none⟩ = some (.slice (some ⟨g4, 0, none⟩) m m) ∧ w'.cell? ⟨N4, 3, none⟩ = some (.int .i64 x) ∧ w'.cell? ⟨N4, 4, none⟩ = some (.int .i64 k) ∧ w'.cell? ⟨w.heap.size, 0, none⟩ = some (.bool b) ∧ w'.cell? ⟨w.heap.size, 1, none⟩ = some (.slice A n c) ∧ w'.cell? ⟨w.heap.size, 2, none⟩ = some (.slice B m d) ∧ w'.cell? ⟨w.heap.size, 3, none⟩ = some (.int .i64 x) ∧ w'.cell? ⟨w.heap.size, 4, none⟩ = some (.int .i64 k)) (first | go_keep) (first
    | (go_at_call 29; refine (TT.out _ (HB.out.trans ((Below.refl _ _).drew))).mono ?_
       rintro e w9 ⟨A5, c5, g5, m5, rfl, hown, hmid, hlo, hmg, hs, hb⟩
       have hbx := (bs ((Below.refl w8.heap.size w8).drew) hb)
       have HO5 := Lib.hid hown
       have HX5 := Lib.hid hs
       clear hown hmid hlo hmg hs
       replace E0 := Lib.hid (carry hbx E0.out)
       replace EK := Lib.hid (carry hbx EK.out)
       replace E4 := Lib.hid (carry hbx E4.out)
       replace HO := Lib.hid (HO.out.below hbx)
       replace HX := Lib.hid (HX.out.below hbx)
       replace HB := Lib.hid (bs HB.out hbx)
       have z0 : w9.cell? ⟨w.heap.size, 0, none⟩ = some (.bool b) := (rowc E0.out).1 0
       have z1 : w9.cell? ⟨w.heap.size, 1, none⟩ = some (.slice A n c) := (rowc E0.out).1 1
       have z2 : w9.cell? ⟨w.heap.size, 2, none⟩ = some (.slice B m d) := (rowc E0.out).1 2
       have z3 : w9.cell? ⟨w.heap.size, 3, none⟩ = some (.int .i64 x) := (rowc E0.out).1 3
       have z4 : w9.cell? ⟨w.heap.size, 4, none⟩ = some (.int .i64 k) := (rowc E0.out).1 4
       have y0 : w9.cell? ⟨N4, 0, none⟩ = some (.bool b) := (rowc E4.out).1 0
       have y1 : w9.cell? ⟨N4, 1, none⟩ = some (.slice A4 n c4) := (rowc E4.out).1 1
       have y2 : w9.cell? ⟨N4, 2, none⟩ = some (.slice (some ⟨g4, 0, none⟩) m m) := (rowc E4.out).1 2
       have y3 : w9.cell? ⟨N4, 3, none⟩ = some (.int .i64 x) := (rowc E4.out).1 3
       have y4 : w9.cell? ⟨N4, 4, none⟩ = some (.int .i64 k) := (rowc E4.out).1 4
       clear hb hbx)
    | (go_at_call 31; refine (ET.out _ _ _ _ _ _ _ _ _ _ _ HO.out HX.out HO5.out HX5.out).mono ?_
       rintro e w10 ⟨rfl, hb⟩
       have hbx := hb
       replace E0 := Lib.hid (carry hbx E0.out)
       replace EK := Lib.hid (carry hbx EK.out)
       replace E4 := Lib.hid (carry hbx E4.out)
       replace HO := Lib.hid (HO.out.below hbx)
       replace HX := Lib.hid (HX.out.below hbx)
       replace HB := Lib.hid (bs HB.out hbx)
       have z0 : w10.cell? ⟨w.heap.size, 0, none⟩ = some (.bool b) := (rowc E0.out).1 0
       have z1 : w10.cell? ⟨w.heap.size, 1, none⟩ = some (.slice A n c) := (rowc E0.out).1 1
       have z2 : w10.cell? ⟨w.heap.size, 2, none⟩ = some (.slice B m d) := (rowc E0.out).1 2
       have z3 : w10.cell? ⟨w.heap.size, 3, none⟩ = some (.int .i64 x) := (rowc E0.out).1 3
       have z4 : w10.cell? ⟨w.heap.size, 4, none⟩ = some (.int .i64 k) := (rowc E0.out).1 4
       have y0 : w10.cell? ⟨N4, 0, none⟩ = some (.bool b) := (rowc E4.out).1 0
       have y1 : w10.cell? ⟨N4, 1, none⟩ = some (.slice A4 n c4) := (rowc E4.out).1 1
       have y2 : w10.cell? ⟨N4, 2, none⟩ = some (.slice (some ⟨g4, 0, none⟩) m m) := (rowc E4.out).1 2
       have y3 : w10.cell? ⟨N4, 3, none⟩ = some (.int .i64 x) := (rowc E4.out).1 3
       have y4 : w10.cell? ⟨N4, 4, none⟩ = some (.int .i64 k) := (rowc E4.out).1 4
       clear hb hbx))
  go_wp2_with (fail)
  go_ret
  exact ⟨rfl, HB.out⟩

set_option maxRecDepth 100000 in
theorem lifted (os : Os) (started : os.Started) (H : Type) (enc : TypeId × Value → H) :
    ReturnsInHanded {} Tryz.checked os 5 .any (fun w args => (Rows.fnExactFindSlotSpec.pre enc Tryz.prog Tryz.f5 [] false w args ∧ laidMetH Tryz.prog prs.laidOf w) ∧ sizedMet enc Tryz.prog Tryz.f5 (OpenSpec.ofChange Rows.fnExactFindSlotSpec) false w args)
      (Rows.fnExactFindSlotSpec.post enc Tryz.prog Tryz.f5 false true false false) := by
  refine returnsInHanded_of_change_and (C := Tryz.checked) (X := fun w _ => laidMetH Tryz.prog prs.laidOf w) (fun _ _ _ hh h => h.of_heap hh) own started (by kernel_rfl) Tryz.func5
    (ChangeSpec.witness_shaped (enc := enc) (C := Tryz.checked) (os := os) (X := fun w _ => laidMetH Tryz.prog prs.laidOf w) false (World.doorLaid Tryz.prog 400 os) #[.agg #[.bool false, .slice none 0 0, .slice none 0 0, .int .i64 0, .int .i64 0], .agg #[.bool false, .int .i64 0, .string ⟨#[]⟩]] 8 rfl (World.shaped_of_RefB (by kernel_rfl) (by kernel_rfl)) (by kernel_rfl) (by kernel_rfl) (by kernel_rfl) (prs.door_met os _)) ?_
  intro W base args ds gs before hval0 hW _ hsz0 hL _
  have hval : ∀ (j : Nat) t v, Tryz.f5.params[j]? = some t → args[j]? = some v → Value.okWide Tryz.prog W .any base t v := hval0
  have hW' := hW
  obtain ⟨p, q, hA0, hV, rfl, hfz, hnd⟩ := hW
  have hA : DataW.TrodAll enc Tryz.prog W 0 (fun _ => true) true Tryz.f5.params.toList args.toList ds p := hA0
  have hA2 := hA
  rw [Tryz.params5] at hA hval
  obtain ⟨v0, vs0, d0, ds0, p0, q0, hargs, rfl, rfl, h0, r0⟩ := trodAll_cons hA
  obtain ⟨v1, vs1, d1, ds1, p1, q1, rfl, rfl, rfl, h1, r1⟩ := trodAll_cons r0
  obtain ⟨rfl, rfl, rfl⟩ := trodAll_nil r1
  obtain rfl : args = #[v0, v1] := by cases args; simp_all
  obtain ⟨rfl, rfl⟩ := trodVars_none hV
  obtain ⟨b0, A0, n0, c0, B0, m0, d0, nx0, ct0, l0, sl0, rfl, hr0⟩ := open_table (hval 0 55 v0 rfl rfl) h0
  obtain ⟨y1, rfl, hy1⟩ := opt.open_key (hval 1 56 v1 rfl rfl) h1
  clear hA0 hval0
  simp only [List.append_nil] at hW' hA2
  refine (walk b0 A0 n0 c0 B0 m0 d0 nx0 ct0 l0 sl0 y1 W hr0 hy1 (prs.env_of hL)).mono fun e W' ⟨he, hb⟩ => ?_
  subst he
  exact ⟨_, rfl, opn.post_true hW' rfl hA2 rfl rfl Tryz.underlying4 (by kernel_rfl) (by kernel_rfl) hb⟩

theorem over : Rows.FnExactFindSlotSaid :=
  OpenClaim.holds_of_wide 5 Tryz.f5 rfl rfl rfl rfl rfl rfl rfl ⟨rfl, rfl, rfl, rfl, rfl⟩ rfl rfl rfl rfl rfl (by kernel_rfl) Tryz.func5 (by kernel_rfl)
    (of_decide_eq_true (by kernel_rfl)) (by unfold Func.isWrapper; first | (rw [if_pos (by decide +kernel)]; kernel_rfl) | (rw [if_neg (by decide +kernel)]; exact ⟨rfl, rfl⟩))
    (fun os started H enc _ => lifted os started H enc)

/-- The statement. -/
theorem proved : Rows.FnExactFindSlotCardSaid :=
  Claim7.holds_tied_plain_at .later [] Rows.fnExactFindSlotCard.laidKinds true Rows.fnExactFindSlotCard.stood.harness Rows.fnExactFindSlotCard.stood.looks
    over (fun _ h => by cases h) (by kernel_rfl) (fun _ h => by cases h) fnExactFindSlot_row_tie rfl ⟨rfl, rfl⟩ (by kernel_rfl) rfl
    (fun f fn hf hfn => by
      obtain rfl : f = 5 := Option.some.inj ((show Tryz.prog.funcNamed "loop.example/g03011/laws.FnExactFindSlot" = some 5 by kernel_rfl).symm.trans hf) |>.symm
      obtain rfl : fn = Tryz.f5 := (Option.some.inj (Tryz.func5.symm.trans hfn)).symm
      exact ⟨by kernel_rfl, fun j t ht => by
        rw [Tryz.params5] at ht
        have hm : t ∈ [55, 56] := by simpa using Array.mem_of_getElem? ht
        have hall : ([55, 56].all fun u => !Tryz.prog.wantsStandIn u) = true := by kernel_rfl
        exact (show Tryz.prog.wantsStandIn t = false by simpa using List.all_eq_true.1 hall t hm)⟩)
    (by kernel_rfl)
#print axioms proved
end Go.Proofs.YtplfekpagonbbaaGreatDoor.fnExactFindSlot

