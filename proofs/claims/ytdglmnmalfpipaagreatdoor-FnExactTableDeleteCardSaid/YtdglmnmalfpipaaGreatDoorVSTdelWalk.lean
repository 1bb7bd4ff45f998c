/-
  TableDelete answers as its model at every table and key; it leaves its arguments unmodified, and its answer owns its memory.
  Conditions: the package variables that the row lists hold what the program's text lays, and the card ties that to the text.
-/
import Derived.Test.YtdglmnmalfpipaaGreatDoorRows
import Derived.Test.YtdglmnmalfpipaaGreatDoorCards
import Derived.Test.YtdglmnmalfpipaaGreatDoorTie
import Derived.LaidMore
import Derived.LaidHandle
import Derived.Stop.Joined
import Derived.SevenTiedAt
import Derived.Stop.LaidErr
import Derived.SizedLaws
import Derived.Deep.RegionHeld3
import Derived.WalkKit
import Derived.ProofKit
import Derived.OpenShut
import Derived.Test.YtdglmnmalfpipaaGreatDoorVB17
import Derived.Test.YtdglmnmalfpipaaGreatDoorVB9
import Derived.Test.YtdglmnmalfpipaaGreatDoorVB5
import Derived.Test.YtdglmnmalfpipaaGreatDoorVB4
import Derived.Test.YtdglmnmalfpipaaGreatDoorVSEnvKey
namespace Go.Proofs.YtdglmnmalfpipaaGreatDoor.fnExactTableDelete
open Go.ChangeShapes Go.WideShapes Go.ChangeAt Go.RowKit tree
open Go.ChangeMaps (open_string)
set_option linter.unusedVariables false

theorem own : ownKnob Tryz.prog.godebug = none := by kernel_rfl

theorem totS_mem : ∀ {sl : List Sl} {t : Sl}, t ∈ sl → t.key.str.size + tot t.val ≤ totS sl
  | u :: sl, t, h => by
    rw [totS]
    rcases List.mem_cons.1 h with rfl | h
    · omega
    · have := totS_mem h; omega
theorem tot_sv (sl : List Sl) : tot (.mk 0 0 ⟨#[]⟩ 0 (skS sl) (svS sl)) = sl.length + totS sl := by
  rw [tot, tots_sv]
  have h : (svS sl).length = sl.length := by simp [svS]
  have h0 : (⟨#[]⟩ : ByteArray).size = 0 := rfl
  omega
theorem kt_of {w w' : World} {b : Bool} {l : List Int} {sl : List Sl} {n m : Nat} {x k : Int} {u : Value} (h : OwnR7 w b l sl n m x k u w') (hl : sl.length = m) (hm : m ≤ 1048576) : ∃ A c B d, u = .agg #[.bool b, .slice A n c, .slice B m d, .int .i64 x, .int .i64 k] ∧ KT w' (Rg w.heap.size w'.heap.size) l sl A n c B m d := by
  obtain ⟨A1, c1, g, d1, M, N, rfl, hM, hMN, ho, hlt, hsr⟩ := h
  obtain ⟨A', c', e, hcap, hs⟩ := hsr.sin (by unfold maxLen; omega)
  obtain ⟨rfl, -, rfl⟩ : some ⟨g, 0, none⟩ = A' ∧ m = sl.length ∧ d1 = c' := by simpa using e
  exact ⟨A1, c1, _, d1, rfl, ⟨M, ho⟩, fun q e => by have := ho.block q e; exact ⟨by omega, by omega⟩, hs.both.stays (fun q hq => ⟨by have := hq.1; omega, hq.2⟩) (fun _ _ _ => rfl), hl, by rw [← hl]; exact hcap⟩

theorem sin_nw {w w' : World} {sl : List Sl} {A : Option Addr} (h : SIn w (Nw 0 w) sl A) (hb : Below w.heap.size w w') : SIn w' (Nw 0 w') sl A := h.stays (fun q hq => ⟨Nat.zero_le _, hq.2.same (hb.block q hq.2.lt)⟩) (fun q _ hl => hb.block q hl)

set_option maxHeartbeats 8000000 in
set_option maxRecDepth 100000 in
theorem walk (b : Bool) (A : Option Addr) (n c : Nat) (B : Option Addr) (m d : Nat) (x k : Int) (l : List Int) (sl : List Sl) (y : Ky) (w : World) (hr : TbIn w (fun _ => True) l sl A n c B m d x k) (hy : I64 y.num ∧ y.str.size ≤ maxLen) (hE : prs.Env w) : Calls Tryz.prog 8 #[.agg #[.bool b, .slice A n c, .slice B m d, .int .i64 x, .int .i64 k], kyV y] w (TrueQ w) := by
  have SZ : Hid (∀ w', Below w.heap.size w w' → Calls Tryz.prog 39 #[.agg #[.bool b, .slice A n c, .slice B m d, .int .i64 x, .int .i64 k], .int .i64 1048576] w' (SzQ 1048576 (n + (m + totS sl)) w')) := Lib.hid (fun w' hb => szTable (b := b) hr 1048576 (by omega) (by omega) w' hb)
  have SK : Hid (∀ left, 0 ≤ left → left ≤ 1048576 → ∀ w', Calls Tryz.prog 40 #[kyV y, .int .i64 left] w' (SzQ left y.str.size w')) := Lib.hid (fun left h0 h1 w' => szKey y hy.2 left h0 h1 w')
  have TK : Hid (∀ w', Calls Tryz.prog 44 #[kyV y] w' fun e w2 => e = .returned (kyV y) ∧ Below w'.heap.size w' w2) := Lib.hid (toKey y)
  have hm := hr.len
  have hx := hr.next
  have hk := hr.count
  have hfits := hr.slots.fits
  have HEN := Lib.hid hE
  obtain ⟨v0, hv0⟩ : ∃ v : Int, (tabOk b l sl x k ∧ v = fd sl y m) ∨ (¬ tabOk b l sl x k ∧ v = -1) := by
    by_cases h : tabOk b l sl x k
    · exact ⟨_, .inl ⟨h, rfl⟩⟩
    · exact ⟨_, .inr ⟨h, rfl⟩⟩
  have huv : ∀ v : Int, ((tabOk b l sl x k ∧ v = fd sl y m) ∨ (¬ tabOk b l sl x k ∧ v = -1)) → v = v0 := fun v h => by
    rcases h with ⟨h1, h2⟩ | ⟨h1, h2⟩ <;> rcases hv0 with ⟨h3, h4⟩ | ⟨h3, h4⟩ <;> first | exact h2.trans h4.symm | exact absurd h1 h3 | exact absurd h3 h1
  obtain ⟨s2, hs2⟩ : ∃ s, tdSl sl v0 = s := ⟨_, rfl⟩
  obtain ⟨k2, hk2⟩ : ∃ k', tdCt k v0 = k' := ⟨_, rfl⟩
  have hlen2 : s2.length = m := by
    rw [← hs2]
    unfold tdSl
    split
    · exact hm
    · rw [dropS_len]; exact hm
  have hi2 : I64 k2 := by rw [← hk2]; exact td_i64 hv0 hk
  have hcS : cS s2 ≤ cS sl := by rw [← hs2]; exact cS_drop sl v0
  have hcT := cS_tot sl hfits
  have hcV := cnts_sv sl hfits
  have htV := tots_sv sl
  have CON : Hid (n + (m + totS sl) ≤ 1048576 → (n ≤ 1048576 ∧ m + totS sl ≤ 1048576 ∧ m ≤ 1048576) ∧ SlB sl) := Lib.hid (fun hs => ⟨⟨by omega, by omega, by omega⟩, ⟨fun j t h => by have := totS_mem (List.mem_of_getElem? h); omega, fun j t h => by have := totS_mem (List.mem_of_getElem? h); omega⟩⟩)
  have TT0 : Hid (n ≤ 1048576 → m + totS sl ≤ 1048576 → ∀ w', Below w.heap.size w w' → Calls Tryz.prog 43 #[.agg #[.bool b, .slice A n c, .slice B m d, .int .i64 x, .int .i64 k]] w' (fun e w2 => ∃ A1 c1 g mid, e = .returned (.agg #[.bool b, .slice A1 n c1, .slice (some ⟨g, 0, none⟩) m m, .int .i64 x, .int .i64 k]) ∧ imem.OwnI w2 w'.heap.size A1 n c1 l ∧ (∀ q, (Value.slice A1 n c1).ownBlock = some q → q < mid) ∧ w'.heap.size ≤ mid ∧ mid ≤ g ∧ SIn w2 (Nw mid w2) sl (some ⟨g, 0, none⟩) ∧ Below w'.heap.size w' w2)) := Lib.hid (fun h1 h2 w' hb => toTable (b := b) (w := w') ⟨hr.heads.below hb, hr.hn, hr.len, hr.cap, hr.slots.below hb, hr.next, hr.count⟩ h1 h2)
  have LS0 : Hid (n ≤ 1048576 → m ≤ 1048576 → m + totS sl ≤ 1048576 → SlB sl → y.str.size ≤ 1048576 → ∀ w' S lo A1 c1 g, Below w.heap.size w w' → imem.OwnI w' lo A1 n c1 l → SIn w' S sl (some ⟨g, 0, none⟩) → Calls Tryz.prog 51 #[.agg #[.bool b, .slice A1 n c1, .slice (some ⟨g, 0, none⟩) m m, .int .i64 x, .int .i64 k], kyV y] w' (fun e w2 => ∃ A2 c2 B2 d2, e = .returned (.agg #[.bool b, .slice A2 n c2, .slice B2 m d2, .int .i64 x, .int .i64 k2]) ∧ KT w2 (Rg w'.heap.size w2.heap.size) l s2 A2 n c2 B2 m d2 ∧ Below w'.heap.size w' w2)) := Lib.hid (fun h1 h2 hmt h3 h4 w' S lo A1 c1 g hb ho hs => (tableDelete_s w' ⟨ho.rd, hr.hn, hm, ⟨Nat.le_refl _, by unfold maxLen; omega⟩, hs, hx, hk⟩ h1 h2 (fun t ht => by have := cnt_tot t.val (hfits t ht); have := totS_mem ht; omega) h3 (HEN.out.stays hb) y (by omega)).mono (by
    rintro e w2 ⟨v, u, hv, rfl, ho7, hb7⟩
    obtain rfl := huv v hv
    rw [hs2, hk2] at ho7
    obtain ⟨A2, c2, B2, d2, rfl, hkt⟩ := kt_of ho7 hlen2 h2
    exact ⟨A2, c2, B2, d2, rfl, hkt, hb7⟩))
  have LI0 : Hid (n ≤ 1048576 → m ≤ 1048576 → m + totS sl ≤ 1048576 → SlB sl → y.str.size ≤ 1048576 → ∀ w' lo A1 c1 g, Below w.heap.size w w' → imem.OwnI w' lo A1 n c1 l → SIn w' (Nw 0 w') sl (some ⟨g, 0, none⟩) → Calls Tryz.prog 20 #[.agg #[.bool b, .slice A1 n c1, .slice (some ⟨g, 0, none⟩) m m, .int .i64 x, .int .i64 k], kyV y] w' (fun e w2 => ∃ A2 c2 B2 d2 par R, e = .returned (.agg #[.bool b, .slice A2 n c2, .slice B2 m d2, .int .i64 x, .int .i64 k2]) ∧ OwnT w2 par R w'.heap.size l s2 A2 n c2 B2 m d2 ∧ Below w'.heap.size w' w2)) := Lib.hid (fun h1 h2 hmt h3 h4 w' lo A1 c1 g hb ho hs => (tableDelete_i w' ⟨ho.rd, hr.hn, hm, ⟨Nat.le_refl _, by unfold maxLen; omega⟩, hs, hx, hk⟩ h1 h2 (by rw [cnt_mk']; omega) (by rw [tot_sv]; omega) h3 (HEN.out.stays hb) y (by omega)).mono (by
    rintro e w2 ⟨v, A2, c2, B2, d2, par, R, hv, rfl, hot, hb7⟩
    obtain rfl := huv v hv
    rw [hs2] at hot
    rw [hk2]
    exact ⟨A2, c2, B2, d2, par, R, rfl, hot, hb7⟩))
  have ET0 : Hid (n ≤ 1048576 → m ≤ 1048576 → ∀ w' S S' A1 c1 lo1 g1 A2 c2 lo2 g2, imem.OwnI w' lo1 A1 n c1 l → SIn w' S sl (some ⟨g1, 0, none⟩) → imem.OwnI w' lo2 A2 n c2 l → SIn w' S' sl (some ⟨g2, 0, none⟩) → Calls Tryz.prog 46 #[.agg #[.bool b, .slice A1 n c1, .slice (some ⟨g1, 0, none⟩) m m, .int .i64 x, .int .i64 k], .agg #[.bool b, .slice A2 n c2, .slice (some ⟨g2, 0, none⟩) m m, .int .i64 x, .int .i64 k]] w' (TrueQ w')) := Lib.hid (fun h1 h2 w' S S' A1 c1 lo1 g1 A2 c2 lo2 g2 o1 s1 o2 s2 => eqTable (b := b) ⟨o1.rd, hr.hn, hm, ⟨Nat.le_refl _, by unfold maxLen; omega⟩, s1, hx, hk⟩ ⟨o2.rd, hr.hn, hm, ⟨Nat.le_refl _, by unfold maxLen; omega⟩, s2, hx, hk⟩ (by omega))
  have ER0 : Hid (n ≤ 1048576 → ∀ w' S par R lo A1 c1 B1 d1 A2 c2 B2 d2, OwnT w' par R lo l s2 A1 n c1 B1 m d1 → KT w' S l s2 A2 n c2 B2 m d2 → Calls Tryz.prog 46 #[.agg #[.bool b, .slice A1 n c1, .slice B1 m d1, .int .i64 x, .int .i64 k2], .agg #[.bool b, .slice A2 n c2, .slice B2 m d2, .int .i64 x, .int .i64 k2]] w' (TrueQ w')) := Lib.hid (fun h1 w' S par R lo A1 c1 B1 d1 A2 c2 B2 d2 o t => eqTable (b := b) (o.tbin hr.hn hx hi2) (t.tbin hr.hn hx hi2) (by omega))
  have MT0 : Hid (n ≤ 1048576 → m + totS sl ≤ 1048576 → ∀ w' S lo A1 c1 g, imem.OwnI w' lo A1 n c1 l → SIn w' S sl (some ⟨g, 0, none⟩) → (∀ q, S q → Plain w' q) → (∀ q, (Value.slice A1 n c1).ownBlock = some q → ¬ S q) → Calls Tryz.prog 48 #[.agg #[.bool b, .slice A1 n c1, .slice (some ⟨g, 0, none⟩) m m, .int .i64 x, .int .i64 k], .int .i64 1] w' (fun e w2 => ∃ q, e = .returned (.int .i64 q) ∧ 1 ≤ q ∧ Fr (fun q => S q ∨ (Value.slice A1 n c1).ownBlock = some q) w' w2)) := Lib.hid (fun h1 h2 w' S lo A1 c1 g o s hp hno => markTable (b := b) w' o s hp hno hm h1 (by omega))
  obtain ⟨W, HW⟩ : ∃ W : Int, Hid (1 + (n : Int) + cS s2 = W) := ⟨_, Lib.hid rfl⟩
  have hW1 : 1 ≤ W := by rw [← HW.out]; omega
  have MX0 : Hid (n ≤ 1048576 → m + totS sl ≤ 1048576 → ∀ w' par R lo A1 c1 B1 d1, OwnT w' par R lo l s2 A1 n c1 B1 m d1 → Calls Tryz.prog 48 #[.agg #[.bool b, .slice A1 n c1, .slice B1 m d1, .int .i64 x, .int .i64 k2], .int .i64 1] w' (fun e w2 => e = .returned (.int .i64 W) ∧ (∃ l2, FromI 1 n l2 ∧ OwnT w2 par R lo l2 (mkSls (1 + (n : Int)) s2) A1 n c1 B1 m d1) ∧ Fr (TbF par R A1 B1) w' w2)) := Lib.hid (fun h1 h2 w' par R lo A1 c1 B1 d1 o => HW.out ▸ markTableX (b := b) (x := x) (k := k2) w' o h1 (by omega))
  have HD0 : Hid (n ≤ 1048576 → m + totS sl ≤ 1048576 → ∀ w' par R lo l2 A1 c1 B1 d1, FromI 1 n l2 → OwnT w' par R lo l2 (mkSls (1 + (n : Int)) s2) A1 n c1 B1 m d1 → Calls Tryz.prog 50 #[.agg #[.bool b, .slice A1 n c1, .slice B1 m d1, .int .i64 x, .int .i64 k2], .int .i64 1] w' (GivesQ w' (.int .i64 W))) := Lib.hid (fun h1 h2 w' par R lo l2 A1 c1 B1 d1 hf o => HW.out ▸ heldTable (b := b) (x := x) (k := k2) w' o.heads.rd (o.tbin hr.hn hx hi2).slots hlen2 (by unfold maxLen; omega) h1 hf (by omega))
  obtain ⟨yb, yn, ys⟩ := y
  unfold kyV at *
  simp only at SK TK LS0 LI0 ⊢
  clear hr hm hx hk hE HEN hy hv0 huv hs2 hk2 hlen2 hi2 hcS hcT hcV htV hfits HW
  go_enter Tryz.func8, Tryz.ntmps8
  go_wp2_with (fail)
  refine (SZ.out _ (b2 w _ _)).mono ?_
  rintro e w0 ⟨r, rfl, ⟨ha, hb, hc⟩, hw0⟩
  have HB : Hid (Below w.heap.size w w0) := Lib.hid (bs (b2 w _ _) hw0)
  obtain ⟨tA, E0⟩ : ∃ tA, Hid (w0.heap[w.heap.size]? = some (.cells #[.bool b, .slice A n c, .slice B m d, .int .i64 x, .int .i64 k] tA (0, 0))) := ⟨_, Lib.hid (carry hw0 (heap_alloc2_old w _ _))⟩
  obtain ⟨tK, EK⟩ : ∃ tA, Hid (w0.heap[w.heap.size + 1]? = some (.cells #[.bool yb, .int .i64 yn, .string ys] tA (0, 0))) := ⟨_, Lib.hid (carry hw0 (heap_alloc2_new w _ _))⟩
  clear SZ hw0
  by_cases hlt : r < 0
  · go_wp2_with (fail)
    go_ret
    exact ⟨rfl, HB.out⟩
  obtain ⟨⟨k1, k3, k4⟩, k5⟩ := CON.out (by have := hc (by omega); omega)
  have TT := Lib.hid (TT0.out k1 k3)
  have ET := Lib.hid (ET0.out k1 k4)
  have ER := Lib.hid (ER0.out k1)
  have MT := Lib.hid (MT0.out k1 k3)
  have MX := Lib.hid (MX0.out k1 k3)
  have HD := Lib.hid (HD0.out k1 k3)
  have LS1 := Lib.hid (LS0.out k1 k4 k3 k5)
  have LI1 := Lib.hid (LI0.out k1 k4 k3 k5)
  have SK1 := Lib.hid (SK.out r (by omega) (by omega))
  clear k1 k3 k4 k5 TT0 LS0 LI0 ET0 ER0 MT0 MX0 HD0 CON hc SK
  have z0_ : w0.cell? ⟨w.heap.size, 0, none⟩ = some (.bool b) := (rowc E0.out).1 0
  have z1_ : w0.cell? ⟨w.heap.size, 1, none⟩ = some (.slice A n c) := (rowc E0.out).1 1
  have z2_ : w0.cell? ⟨w.heap.size, 2, none⟩ = some (.slice B m d) := (rowc E0.out).1 2
  have z3_ : w0.cell? ⟨w.heap.size, 3, none⟩ = some (.int .i64 x) := (rowc E0.out).1 3
  have z4_ : w0.cell? ⟨w.heap.size, 4, none⟩ = some (.int .i64 k) := (rowc E0.out).1 4
  have v0_ : w0.cell? ⟨w.heap.size + 1, 0, none⟩ = some (.bool yb) := (rowc EK.out).1 0
  have v1_ : w0.cell? ⟨w.heap.size + 1, 1, none⟩ = some (.int .i64 yn) := (rowc EK.out).1 1
  have v2_ : w0.cell? ⟨w.heap.size + 1, 2, none⟩ = some (.string ys) := (rowc EK.out).1 2
  go_wp2_with (fail)
  refine (SK1.out _).mono ?_
  rintro e w1 ⟨r1, rfl, ⟨ha1, hb1, hc1⟩, hb⟩
  replace E0 := Lib.hid (carry hb E0.out)
  replace EK := Lib.hid (carry hb EK.out)
  replace HB := Lib.hid (bs HB.out hb)
  clear hb SK1
  clear z0_ z1_ z2_ z3_ z4_ v0_ v1_ v2_
  by_cases hlt1 : r1 < 0
  · go_wp2_with (fail)
    go_ret
    exact ⟨rfl, HB.out⟩
  have hs1 : ys.size ≤ 1048576 := by have := hc1 (by omega); omega
  have LS := Lib.hid (LS1.out hs1)
  have LI := Lib.hid (LI1.out hs1)
  clear LS1 LI1 hc1 hs1
  go_wp2_with (fail)
  go_cut [6] (fun p wx => CutT w1 b n m x k2 (PrM l s2 n m) p wx)
  case first =>
    have HW : Hid (Below w1.heap.size w1 w1) := Lib.hid (Below.refl _ _)
    have hzw_ : w1.heap.size ≤ w1.heap.size := Nat.le_refl _
    have nzz_ : w1.heap.size ≠ w.heap.size := by have := (Array.getElem?_eq_some_iff.1 E0.out).1; omega
    have nzv_ : w1.heap.size ≠ w.heap.size + 1 := by have := (Array.getElem?_eq_some_iff.1 EK.out).1; omega
    have z0_ : w1.cell? ⟨w.heap.size, 0, none⟩ = some (.bool b) := (rowc E0.out).1 0
    have z1_ : w1.cell? ⟨w.heap.size, 1, none⟩ = some (.slice A n c) := (rowc E0.out).1 1
    have z2_ : w1.cell? ⟨w.heap.size, 2, none⟩ = some (.slice B m d) := (rowc E0.out).1 2
    have z3_ : w1.cell? ⟨w.heap.size, 3, none⟩ = some (.int .i64 x) := (rowc E0.out).1 3
    have z4_ : w1.cell? ⟨w.heap.size, 4, none⟩ = some (.int .i64 k) := (rowc E0.out).1 4
    have v0_ : w1.cell? ⟨w.heap.size + 1, 0, none⟩ = some (.bool yb) := (rowc EK.out).1 0
    have v1_ : w1.cell? ⟨w.heap.size + 1, 1, none⟩ = some (.int .i64 yn) := (rowc EK.out).1 1
    have v2_ : w1.cell? ⟨w.heap.size + 1, 2, none⟩ = some (.string ys) := (rowc EK.out).1 2
    go_region_held3 (fun w' => w'.cell? ⟨w.heap.size, 0, none⟩ = some (.bool b) ∧ w'.cell? ⟨w.heap.size, 1, none⟩ = some (.slice A n c) ∧ w'.cell? ⟨w.heap.size, 2, none⟩ = some (.slice B m d) ∧ w'.cell? ⟨w.heap.size, 3, none⟩ = some (.int .i64 x) ∧ w'.cell? ⟨w.heap.size, 4, none⟩ = some (.int .i64 k) ∧ w'.cell? ⟨w.heap.size + 1, 0, none⟩ = some (.bool yb) ∧ w'.cell? ⟨w.heap.size + 1, 1, none⟩ = some (.int .i64 yn) ∧ w'.cell? ⟨w.heap.size + 1, 2, none⟩ = some (.string ys)) (go_keep) (first
      | (go_at_call 43; refine (TT.out _ (by first | exact HB.out | exact HB.out.trans ((Below.refl _ _).drew) | exact HB.out.alloc HB.out.size _ | exact (HB.out.trans ((Below.refl _ _).drew)).alloc HB.out.size _)).mono ?_
         rintro e w2 ⟨A5, c5, g5, m5, rfl, hown, hmid, hlo, hmg, hs, hb⟩
         have hbx : Below w1.heap.size w1 w2 := by first | exact hb | exact bs ((Below.refl _ _).drew) hb | exact bs (b1 _ _) hb | exact bs (bs ((Below.refl _ _).drew) (b1 _ _)) hb
         first | (have ez := Lib.hid (carry hb (heap_alloc_new w1 (.cells #[.bool false, .slice none 0 0, .slice none 0 0, .int .i64 0, .int .i64 0] IT)))) | (have ez := Lib.hid (carry hb (heap_alloc_new w1.drew (.cells #[.bool false, .slice none 0 0, .slice none 0 0, .int .i64 0, .int .i64 0] IT)))) | (replace ez := Lib.hid (carry hbx ez.out)) | skip
         have HO5 := Lib.hid hown
         have HX5 := Lib.hid hs
         clear hown hmid hlo hmg hs
         replace E0 := Lib.hid (carry hbx E0.out)
         replace EK := Lib.hid (carry hbx EK.out)
         replace HB := Lib.hid (bs HB.out hbx)
         replace HW := Lib.hid (bs HW.out hbx)
         have hzw_ : w1.heap.size ≤ w2.heap.size := HW.out.size
         have z0_ : w2.cell? ⟨w.heap.size, 0, none⟩ = some (.bool b) := (rowc E0.out).1 0
         have z1_ : w2.cell? ⟨w.heap.size, 1, none⟩ = some (.slice A n c) := (rowc E0.out).1 1
         have z2_ : w2.cell? ⟨w.heap.size, 2, none⟩ = some (.slice B m d) := (rowc E0.out).1 2
         have z3_ : w2.cell? ⟨w.heap.size, 3, none⟩ = some (.int .i64 x) := (rowc E0.out).1 3
         have z4_ : w2.cell? ⟨w.heap.size, 4, none⟩ = some (.int .i64 k) := (rowc E0.out).1 4
         have v0_ : w2.cell? ⟨w.heap.size + 1, 0, none⟩ = some (.bool yb) := (rowc EK.out).1 0
         have v1_ : w2.cell? ⟨w.heap.size + 1, 1, none⟩ = some (.int .i64 yn) := (rowc EK.out).1 1
         have v2_ : w2.cell? ⟨w.heap.size + 1, 2, none⟩ = some (.string ys) := (rowc EK.out).1 2
         have nzz_ : w2.heap.size ≠ w.heap.size := by have := (Array.getElem?_eq_some_iff.1 E0.out).1; omega
         have nzv_ : w2.heap.size ≠ w.heap.size + 1 := by have := (Array.getElem?_eq_some_iff.1 EK.out).1; omega
         clear hb hbx)
      | (go_at_call 44; refine (TK.out _).mono ?_
         rintro e w3 ⟨rfl, hb⟩
         have hbx : Below w2.heap.size w2 w3 := by first | exact hb | exact bs ((Below.refl _ _).drew) hb | exact bs (b1 _ _) hb | exact bs (bs ((Below.refl _ _).drew) (b1 _ _)) hb
         first | (have ez := Lib.hid (carry hb (heap_alloc_new w2 (.cells #[.bool false, .slice none 0 0, .slice none 0 0, .int .i64 0, .int .i64 0] IT)))) | (have ez := Lib.hid (carry hb (heap_alloc_new w2.drew (.cells #[.bool false, .slice none 0 0, .slice none 0 0, .int .i64 0, .int .i64 0] IT)))) | (replace ez := Lib.hid (carry hbx ez.out)) | skip
         replace E0 := Lib.hid (carry hbx E0.out)
         replace EK := Lib.hid (carry hbx EK.out)
         replace HO5 := Lib.hid (HO5.out.below hbx)
         replace HX5 := Lib.hid (HX5.out.below hbx)
         replace HB := Lib.hid (bs HB.out hbx)
         replace HW := Lib.hid (bs HW.out hbx)
         have hzw_ : w1.heap.size ≤ w3.heap.size := HW.out.size
         have z0_ : w3.cell? ⟨w.heap.size, 0, none⟩ = some (.bool b) := (rowc E0.out).1 0
         have z1_ : w3.cell? ⟨w.heap.size, 1, none⟩ = some (.slice A n c) := (rowc E0.out).1 1
         have z2_ : w3.cell? ⟨w.heap.size, 2, none⟩ = some (.slice B m d) := (rowc E0.out).1 2
         have z3_ : w3.cell? ⟨w.heap.size, 3, none⟩ = some (.int .i64 x) := (rowc E0.out).1 3
         have z4_ : w3.cell? ⟨w.heap.size, 4, none⟩ = some (.int .i64 k) := (rowc E0.out).1 4
         have v0_ : w3.cell? ⟨w.heap.size + 1, 0, none⟩ = some (.bool yb) := (rowc EK.out).1 0
         have v1_ : w3.cell? ⟨w.heap.size + 1, 1, none⟩ = some (.int .i64 yn) := (rowc EK.out).1 1
         have v2_ : w3.cell? ⟨w.heap.size + 1, 2, none⟩ = some (.string ys) := (rowc EK.out).1 2
         have nzz_ : w3.heap.size ≠ w.heap.size := by have := (Array.getElem?_eq_some_iff.1 E0.out).1; omega
         have nzv_ : w3.heap.size ≠ w.heap.size + 1 := by have := (Array.getElem?_eq_some_iff.1 EK.out).1; omega
         clear hb hbx)
      | (go_at_call 51; refine (LS.out _ _ _ _ _ _ (by first | exact HB.out | exact HB.out.trans ((Below.refl _ _).drew) | exact HB.out.alloc HB.out.size _ | exact (HB.out.trans ((Below.refl _ _).drew)).alloc HB.out.size _) (by first | exact HO5.out | exact HO5.out.below ((Below.refl _ _).drew) | exact HO5.out.below (b1 _ _) | exact HO5.out.below (bs ((Below.refl _ _).drew) (b1 _ _))) (by first | exact HX5.out | exact HX5.out.below ((Below.refl _ _).drew) | exact HX5.out.below (b1 _ _) | exact HX5.out.below (bs ((Below.refl _ _).drew) (b1 _ _)))).mono ?_
         rintro e w4x ⟨A6, c6, B6, d6, rfl, hkt, hb⟩
         have hbx : Below w3.heap.size w3 w4x := by first | exact hb | exact bs ((Below.refl _ _).drew) hb | exact bs (b1 _ _) hb | exact bs (bs ((Below.refl _ _).drew) (b1 _ _)) hb
         first | (have nzw := Lib.hid (Array.getElem?_eq_some_iff.1 ez.out).1; replace ez := Lib.hid (carry hbx ez.out)) | (have ez := Lib.hid (carry hb (heap_alloc_new w3 (.cells #[.bool false, .slice none 0 0, .slice none 0 0, .int .i64 0, .int .i64 0] IT))); have nzw := Lib.hid (Array.getElem?_eq_some_iff.1 (heap_alloc_new w3 (.cells #[.bool false, .slice none 0 0, .slice none 0 0, .int .i64 0, .int .i64 0] IT))).1) | (have ez := Lib.hid (carry hb (heap_alloc_new w3.drew (.cells #[.bool false, .slice none 0 0, .slice none 0 0, .int .i64 0, .int .i64 0] IT))); have nzw := Lib.hid (Array.getElem?_eq_some_iff.1 (heap_alloc_new w3.drew (.cells #[.bool false, .slice none 0 0, .slice none 0 0, .int .i64 0, .int .i64 0] IT))).1) | skip
         have HKT := Lib.hid hkt
         clear hkt HO5 HX5
         replace E0 := Lib.hid (carry hbx E0.out)
         replace EK := Lib.hid (carry hbx EK.out)
         replace HB := Lib.hid (bs HB.out hbx)
         replace HW := Lib.hid (bs HW.out hbx)
         have hzw_ : w1.heap.size ≤ w4x.heap.size := HW.out.size
         have z0_ : w4x.cell? ⟨w.heap.size, 0, none⟩ = some (.bool b) := (rowc E0.out).1 0
         have z1_ : w4x.cell? ⟨w.heap.size, 1, none⟩ = some (.slice A n c) := (rowc E0.out).1 1
         have z2_ : w4x.cell? ⟨w.heap.size, 2, none⟩ = some (.slice B m d) := (rowc E0.out).1 2
         have z3_ : w4x.cell? ⟨w.heap.size, 3, none⟩ = some (.int .i64 x) := (rowc E0.out).1 3
         have z4_ : w4x.cell? ⟨w.heap.size, 4, none⟩ = some (.int .i64 k) := (rowc E0.out).1 4
         have v0_ : w4x.cell? ⟨w.heap.size + 1, 0, none⟩ = some (.bool yb) := (rowc EK.out).1 0
         have v1_ : w4x.cell? ⟨w.heap.size + 1, 1, none⟩ = some (.int .i64 yn) := (rowc EK.out).1 1
         have v2_ : w4x.cell? ⟨w.heap.size + 1, 2, none⟩ = some (.string ys) := (rowc EK.out).1 2
         have nzz_ : w4x.heap.size ≠ w.heap.size := by have := (Array.getElem?_eq_some_iff.1 E0.out).1; omega
         have nzv_ : w4x.heap.size ≠ w.heap.size + 1 := by have := (Array.getElem?_eq_some_iff.1 EK.out).1; omega
         clear hb hbx
         first | (have zr := (rowc ez.out).1; have zf := (rowc ez.out).2) | skip))
    all_goals
      go_wp2_with (fail)
      go_meet
      first
      | with_reducible exact cutT_boxM HW.out HKT.out
      | exact cutT_earlyM HW.out (by first | exact Nat.le_refl _ | assumption) ez.out HKT.out nzw.out rfl
  case rest =>
    obtain ⟨Q6, A6, c6, B6, d6, hp, hbx, hQ6, e6, hk6⟩ := hcut
    subst hp
    obtain ⟨w4, hwc⟩ : ∃ q, q = wc := ⟨wc, rfl⟩
    subst hwc
    have E6 := Lib.hid e6
    have HT6 := Lib.hid (show KT w4 (fun q => q < w4.heap.size) l s2 A6 n c6 B6 m d6 from hk6.both.mono fun q hq => hq.2)
    replace E0 := Lib.hid (carry hbx E0.out)
    replace EK := Lib.hid (carry hbx EK.out)
    replace HB := Lib.hid (bs HB.out hbx)
    obtain ⟨lo7, HLO7⟩ : ∃ q, Hid (w4.heap.size = q) := ⟨_, Lib.hid rfl⟩
    rw [HLO7.out] at HT6
    have HP7 : Hid (w.heap.size + 1 < lo7 ∧ Q6 < lo7) := Lib.hid (by rw [← HLO7.out]; exact ⟨(Array.getElem?_eq_some_iff.1 EK.out).1, (Array.getElem?_eq_some_iff.1 E6.out).1⟩)
    clear e6 hk6 hbx hQ6 LS
    have z0_ : w4.cell? ⟨w.heap.size, 0, none⟩ = some (.bool b) := (rowc E0.out).1 0
    have z1_ : w4.cell? ⟨w.heap.size, 1, none⟩ = some (.slice A n c) := (rowc E0.out).1 1
    have z2_ : w4.cell? ⟨w.heap.size, 2, none⟩ = some (.slice B m d) := (rowc E0.out).1 2
    have z3_ : w4.cell? ⟨w.heap.size, 3, none⟩ = some (.int .i64 x) := (rowc E0.out).1 3
    have z4_ : w4.cell? ⟨w.heap.size, 4, none⟩ = some (.int .i64 k) := (rowc E0.out).1 4
    go_wp2_with (fail)
    refine (TT.out _ HB.out).mono ?_
    rintro e w5 ⟨A7, c7, g7, m7, rfl, hown, hmid, hlo, hmg, hs, hb⟩
    have HO := Lib.hid hown
    have HX := Lib.hid hs
    have HMD := Lib.hid (And.intro hmid hlo)
    have HSZ := Lib.hid hb.size
    replace E0 := Lib.hid (carry hb E0.out)
    replace EK := Lib.hid (carry hb EK.out)
    replace E6 := Lib.hid (carry hb E6.out)
    replace HT6 := Lib.hid (HT6.out.below hb)
    replace HB := Lib.hid (bs HB.out hb)
    clear hown hmid hlo hmg hs hb
    clear z0_ z1_ z2_ z3_ z4_
    go_wp2_with (fail)
    obtain ⟨N7, HN7⟩ : ∃ N, Hid (w5.heap.size = N) := ⟨_, Lib.hid rfl⟩
    have HLN : Hid (lo7 ≤ N7) := Lib.hid (by rw [← HLO7.out, ← HN7.out]; exact HSZ.out)
    rw [HLO7.out] at HO HMD
    have HOB : Hid (∀ q, (Value.slice A7 n c7).ownBlock = some q → lo7 ≤ q ∧ q < N7) := Lib.hid (fun q e => by rw [← HN7.out]; exact HO.out.block q e)
    generalize hwn : w5.alloc (.cells #[.bool b, .slice A7 n c7, .slice (some ⟨g7, 0, none⟩) m m, .int .i64 x, .int .i64 k] IT) = w6
    have hbx : Below w5.heap.size w5 w6 := hwn ▸ b1 _ _
    have E7 : Hid (w6.heap[N7]? = some (.cells #[.bool b, .slice A7 n c7, .slice (some ⟨g7, 0, none⟩) m m, .int .i64 x, .int .i64 k] IT (0, 0))) := Lib.hid (by rw [← hwn, ← HN7.out]; exact heap_alloc_new _ _)
    rw [HN7.out]
    replace E0 := Lib.hid (carry hbx E0.out)
    replace EK := Lib.hid (carry hbx EK.out)
    replace E6 := Lib.hid (carry hbx E6.out)
    replace HT6 := Lib.hid (HT6.out.below hbx)
    replace HO := Lib.hid (HO.out.below hbx)
    replace HX := Lib.hid (HX.out.below hbx)
    replace HB := Lib.hid (bs HB.out hbx)
    have HP8 : Hid (N7 < w6.heap.size) := Lib.hid (Array.getElem?_eq_some_iff.1 E7.out).1
    have HZ67 : Hid (lo7 ≤ w6.heap.size) := Lib.hid (by have := HP8.out; have := HMD.out.2; have := HLN.out; omega)
    have HNW : Hid (∀ q, Nw m7 w5 q → lo7 ≤ q ∧ q < N7) := Lib.hid (fun q hq => ⟨Nat.le_trans HMD.out.2 hq.1, by rw [← HN7.out]; exact hq.2.lt⟩)
    have HPL : Hid (∀ q, Nw m7 w5 q → Plain w6 q) := Lib.hid (fun q hq => hq.2.same (hbx.block q hq.2.lt))
    clear hwn hbx
    have HXW : Hid (∀ w', Below w6.heap.size w6 w' → SIn w' (Nw 0 w') sl (some ⟨g7, 0, none⟩)) := Lib.hid (fun w' hb => HX.out.stays (fun q hq => ⟨Nat.zero_le _, (HPL.out q hq).same (hb.block q (HPL.out q hq).lt)⟩) (fun q hq hl => hb.block q hl))
    go_wp2_with (fail)
    go_cut [8] (fun p wx => CutT w6 b n m x k2 (PrP w6.heap.size l s2 n m) p wx)
    case first =>
      have HW : Hid (Below w6.heap.size w6 w6) := Lib.hid (Below.refl _ _)
      have hzw_ : w6.heap.size ≤ w6.heap.size := Nat.le_refl _
      have nzz_ : w6.heap.size ≠ w.heap.size := by have := (Array.getElem?_eq_some_iff.1 E0.out).1; omega
      have nzv_ : w6.heap.size ≠ w.heap.size + 1 := by have := (Array.getElem?_eq_some_iff.1 EK.out).1; omega
      have nzy_ : w6.heap.size ≠ N7 := by have := (Array.getElem?_eq_some_iff.1 E7.out).1; omega
      have z0_ : w6.cell? ⟨w.heap.size, 0, none⟩ = some (.bool b) := (rowc E0.out).1 0
      have z1_ : w6.cell? ⟨w.heap.size, 1, none⟩ = some (.slice A n c) := (rowc E0.out).1 1
      have z2_ : w6.cell? ⟨w.heap.size, 2, none⟩ = some (.slice B m d) := (rowc E0.out).1 2
      have z3_ : w6.cell? ⟨w.heap.size, 3, none⟩ = some (.int .i64 x) := (rowc E0.out).1 3
      have z4_ : w6.cell? ⟨w.heap.size, 4, none⟩ = some (.int .i64 k) := (rowc E0.out).1 4
      have v0_ : w6.cell? ⟨w.heap.size + 1, 0, none⟩ = some (.bool yb) := (rowc EK.out).1 0
      have v1_ : w6.cell? ⟨w.heap.size + 1, 1, none⟩ = some (.int .i64 yn) := (rowc EK.out).1 1
      have v2_ : w6.cell? ⟨w.heap.size + 1, 2, none⟩ = some (.string ys) := (rowc EK.out).1 2
      have y0_ : w6.cell? ⟨N7, 0, none⟩ = some (.bool b) := (rowc E7.out).1 0
      have y1_ : w6.cell? ⟨N7, 1, none⟩ = some (.slice A7 n c7) := (rowc E7.out).1 1
      have y2_ : w6.cell? ⟨N7, 2, none⟩ = some (.slice (some ⟨g7, 0, none⟩) m m) := (rowc E7.out).1 2
      have y3_ : w6.cell? ⟨N7, 3, none⟩ = some (.int .i64 x) := (rowc E7.out).1 3
      have y4_ : w6.cell? ⟨N7, 4, none⟩ = some (.int .i64 k) := (rowc E7.out).1 4
      go_region_held3 (fun w' => w'.cell? ⟨w.heap.size, 0, none⟩ = some (.bool b) ∧ w'.cell? ⟨w.heap.size, 1, none⟩ = some (.slice A n c) ∧ w'.cell? ⟨w.heap.size, 2, none⟩ = some (.slice B m d) ∧ w'.cell? ⟨w.heap.size, 3, none⟩ = some (.int .i64 x) ∧ w'.cell? ⟨w.heap.size, 4, none⟩ = some (.int .i64 k) ∧ w'.cell? ⟨w.heap.size + 1, 0, none⟩ = some (.bool yb) ∧ w'.cell? ⟨w.heap.size + 1, 1, none⟩ = some (.int .i64 yn) ∧ w'.cell? ⟨w.heap.size + 1, 2, none⟩ = some (.string ys) ∧ w'.cell? ⟨N7, 0, none⟩ = some (.bool b) ∧ w'.cell? ⟨N7, 1, none⟩ = some (.slice A7 n c7) ∧ w'.cell? ⟨N7, 2, none⟩ = some (.slice (some ⟨g7, 0, none⟩) m m) ∧ w'.cell? ⟨N7, 3, none⟩ = some (.int .i64 x) ∧ w'.cell? ⟨N7, 4, none⟩ = some (.int .i64 k)) (go_keep) (first
        | (go_at_call 44; refine (TK.out _).mono ?_
           rintro e w7 ⟨rfl, hb⟩
           have hbx : Below w6.heap.size w6 w7 := by first | exact hb | exact bs ((Below.refl _ _).drew) hb | exact bs (b1 _ _) hb | exact bs (bs ((Below.refl _ _).drew) (b1 _ _)) hb
           first | (have ez := Lib.hid (carry hb (heap_alloc_new w6 (.cells #[.bool false, .slice none 0 0, .slice none 0 0, .int .i64 0, .int .i64 0] IT)))) | (have ez := Lib.hid (carry hb (heap_alloc_new w6.drew (.cells #[.bool false, .slice none 0 0, .slice none 0 0, .int .i64 0, .int .i64 0] IT)))) | (replace ez := Lib.hid (carry hbx ez.out)) | skip
           replace E0 := Lib.hid (carry hbx E0.out)
           replace EK := Lib.hid (carry hbx EK.out)
           replace E6 := Lib.hid (carry hbx E6.out)
           replace E7 := Lib.hid (carry hbx E7.out)
           replace HT6 := Lib.hid (HT6.out.below hbx)
           replace HO := Lib.hid (HO.out.below hbx)
           replace HX := Lib.hid (HX.out.below hbx)
           replace HB := Lib.hid (bs HB.out hbx)
           replace HW := Lib.hid (bs HW.out hbx)
           have hzw_ : w6.heap.size ≤ w7.heap.size := HW.out.size
           have z0_ : w7.cell? ⟨w.heap.size, 0, none⟩ = some (.bool b) := (rowc E0.out).1 0
           have z1_ : w7.cell? ⟨w.heap.size, 1, none⟩ = some (.slice A n c) := (rowc E0.out).1 1
           have z2_ : w7.cell? ⟨w.heap.size, 2, none⟩ = some (.slice B m d) := (rowc E0.out).1 2
           have z3_ : w7.cell? ⟨w.heap.size, 3, none⟩ = some (.int .i64 x) := (rowc E0.out).1 3
           have z4_ : w7.cell? ⟨w.heap.size, 4, none⟩ = some (.int .i64 k) := (rowc E0.out).1 4
           have v0_ : w7.cell? ⟨w.heap.size + 1, 0, none⟩ = some (.bool yb) := (rowc EK.out).1 0
           have v1_ : w7.cell? ⟨w.heap.size + 1, 1, none⟩ = some (.int .i64 yn) := (rowc EK.out).1 1
           have v2_ : w7.cell? ⟨w.heap.size + 1, 2, none⟩ = some (.string ys) := (rowc EK.out).1 2
           have y0_ : w7.cell? ⟨N7, 0, none⟩ = some (.bool b) := (rowc E7.out).1 0
           have y1_ : w7.cell? ⟨N7, 1, none⟩ = some (.slice A7 n c7) := (rowc E7.out).1 1
           have y2_ : w7.cell? ⟨N7, 2, none⟩ = some (.slice (some ⟨g7, 0, none⟩) m m) := (rowc E7.out).1 2
           have y3_ : w7.cell? ⟨N7, 3, none⟩ = some (.int .i64 x) := (rowc E7.out).1 3
           have y4_ : w7.cell? ⟨N7, 4, none⟩ = some (.int .i64 k) := (rowc E7.out).1 4
           have nzz_ : w7.heap.size ≠ w.heap.size := by have := (Array.getElem?_eq_some_iff.1 E0.out).1; omega
           have nzv_ : w7.heap.size ≠ w.heap.size + 1 := by have := (Array.getElem?_eq_some_iff.1 EK.out).1; omega
           have nzy_ : w7.heap.size ≠ N7 := by have := (Array.getElem?_eq_some_iff.1 E7.out).1; omega
           clear hb hbx)
        | (go_at_call 20; refine (LI.out _ _ _ _ _ (by first | exact HB.out | exact HB.out.trans ((Below.refl _ _).drew) | exact HB.out.alloc HB.out.size _ | exact (HB.out.trans ((Below.refl _ _).drew)).alloc HB.out.size _) (by first | exact HO.out | exact HO.out.below ((Below.refl _ _).drew) | exact HO.out.below (b1 _ _) | exact HO.out.below (bs ((Below.refl _ _).drew) (b1 _ _))) (by first | exact HXW.out _ HW.out | exact HXW.out _ (bs HW.out ((Below.refl _ _).drew)) | exact HXW.out _ (bs HW.out (b1 _ _)) | exact HXW.out _ (bs HW.out (bs ((Below.refl _ _).drew) (b1 _ _))))).mono ?_
           rintro e w8x ⟨A8, c8, B8, d8, par, R, rfl, hot, hb⟩
           have hbx : Below w7.heap.size w7 w8x := by first | exact hb | exact bs ((Below.refl _ _).drew) hb | exact bs (b1 _ _) hb | exact bs (bs ((Below.refl _ _).drew) (b1 _ _)) hb
           first | (have nzw := Lib.hid (Array.getElem?_eq_some_iff.1 ez.out).1; replace ez := Lib.hid (carry hbx ez.out)) | (have ez := Lib.hid (carry hb (heap_alloc_new w7 (.cells #[.bool false, .slice none 0 0, .slice none 0 0, .int .i64 0, .int .i64 0] IT))); have nzw := Lib.hid (Array.getElem?_eq_some_iff.1 (heap_alloc_new w7 (.cells #[.bool false, .slice none 0 0, .slice none 0 0, .int .i64 0, .int .i64 0] IT))).1) | (have ez := Lib.hid (carry hb (heap_alloc_new w7.drew (.cells #[.bool false, .slice none 0 0, .slice none 0 0, .int .i64 0, .int .i64 0] IT))); have nzw := Lib.hid (Array.getElem?_eq_some_iff.1 (heap_alloc_new w7.drew (.cells #[.bool false, .slice none 0 0, .slice none 0 0, .int .i64 0, .int .i64 0] IT))).1) | skip
           have HOT := Lib.hid hot
           have hzl_ : w6.heap.size ≤ w7.heap.size := hzw_
           clear hot
           replace E0 := Lib.hid (carry hbx E0.out)
           replace EK := Lib.hid (carry hbx EK.out)
           replace E6 := Lib.hid (carry hbx E6.out)
           replace E7 := Lib.hid (carry hbx E7.out)
           replace HT6 := Lib.hid (HT6.out.below hbx)
           replace HO := Lib.hid (HO.out.below hbx)
           replace HX := Lib.hid (HX.out.below hbx)
           replace HB := Lib.hid (bs HB.out hbx)
           replace HW := Lib.hid (bs HW.out hbx)
           have hzw_ : w6.heap.size ≤ w8x.heap.size := HW.out.size
           have z0_ : w8x.cell? ⟨w.heap.size, 0, none⟩ = some (.bool b) := (rowc E0.out).1 0
           have z1_ : w8x.cell? ⟨w.heap.size, 1, none⟩ = some (.slice A n c) := (rowc E0.out).1 1
           have z2_ : w8x.cell? ⟨w.heap.size, 2, none⟩ = some (.slice B m d) := (rowc E0.out).1 2
           have z3_ : w8x.cell? ⟨w.heap.size, 3, none⟩ = some (.int .i64 x) := (rowc E0.out).1 3
           have z4_ : w8x.cell? ⟨w.heap.size, 4, none⟩ = some (.int .i64 k) := (rowc E0.out).1 4
           have v0_ : w8x.cell? ⟨w.heap.size + 1, 0, none⟩ = some (.bool yb) := (rowc EK.out).1 0
           have v1_ : w8x.cell? ⟨w.heap.size + 1, 1, none⟩ = some (.int .i64 yn) := (rowc EK.out).1 1
           have v2_ : w8x.cell? ⟨w.heap.size + 1, 2, none⟩ = some (.string ys) := (rowc EK.out).1 2
           have y0_ : w8x.cell? ⟨N7, 0, none⟩ = some (.bool b) := (rowc E7.out).1 0
           have y1_ : w8x.cell? ⟨N7, 1, none⟩ = some (.slice A7 n c7) := (rowc E7.out).1 1
           have y2_ : w8x.cell? ⟨N7, 2, none⟩ = some (.slice (some ⟨g7, 0, none⟩) m m) := (rowc E7.out).1 2
           have y3_ : w8x.cell? ⟨N7, 3, none⟩ = some (.int .i64 x) := (rowc E7.out).1 3
           have y4_ : w8x.cell? ⟨N7, 4, none⟩ = some (.int .i64 k) := (rowc E7.out).1 4
           have nzz_ : w8x.heap.size ≠ w.heap.size := by have := (Array.getElem?_eq_some_iff.1 E0.out).1; omega
           have nzv_ : w8x.heap.size ≠ w.heap.size + 1 := by have := (Array.getElem?_eq_some_iff.1 EK.out).1; omega
           have nzy_ : w8x.heap.size ≠ N7 := by have := (Array.getElem?_eq_some_iff.1 E7.out).1; omega
           clear hb hbx
           first | (have zr := (rowc ez.out).1; have zf := (rowc ez.out).2) | skip))
      all_goals
        go_wp2_with (fail)
        go_meet
        first
        | with_reducible exact cutT_boxP HW.out HOT.out (by first | exact hzl_ | exact Nat.le_trans hzl_ (by simp))
        | exact cutT_earlyP HW.out (by first | exact Nat.le_refl _ | assumption) ez.out HOT.out nzw.out rfl
    case rest =>
      obtain ⟨Q8, A8, c8, B8, d8, hp, hbx, hQ8, e8, par, R, lo, hi, hot, hrg, hlo, hhi, hnq⟩ := hcut
      subst hp
      obtain ⟨w8, hwc⟩ : ∃ q, q = wc := ⟨wc, rfl⟩
      subst hwc
      have E8 := Lib.hid e8
      have HG8 := Lib.hid hot
      have HRG := Lib.hid hrg
      have HNQ := Lib.hid hnq
      have HP9 := Lib.hid (And.intro hQ8 (And.intro hlo hhi))
      replace E0 := Lib.hid (carry hbx E0.out)
      replace EK := Lib.hid (carry hbx EK.out)
      replace E6 := Lib.hid (carry hbx E6.out)
      replace E7 := Lib.hid (carry hbx E7.out)
      replace HT6 := Lib.hid (HT6.out.below hbx)
      replace HO := Lib.hid (HO.out.below hbx)
      replace HX := Lib.hid (HX.out.below hbx)
      replace HPL : Hid (∀ q, Nw m7 w5 q → Plain w8 q) := Lib.hid (fun q hq => (HPL.out q hq).same (hbx.block q (HPL.out q hq).lt))
      replace HB := Lib.hid (bs HB.out hbx)
      clear e8 hot hrg hnq hQ8 hlo hhi hbx HXW
      have p0_ : w8.cell? ⟨Q6, 0, none⟩ = some (.bool b) := (rowc E6.out).1 0
      have p1_ : w8.cell? ⟨Q6, 1, none⟩ = some (.slice A6 n c6) := (rowc E6.out).1 1
      have p2_ : w8.cell? ⟨Q6, 2, none⟩ = some (.slice B6 m d6) := (rowc E6.out).1 2
      have p3_ : w8.cell? ⟨Q6, 3, none⟩ = some (.int .i64 x) := (rowc E6.out).1 3
      have p4_ : w8.cell? ⟨Q6, 4, none⟩ = some (.int .i64 k2) := (rowc E6.out).1 4
      have s0_ : w8.cell? ⟨Q8, 0, none⟩ = some (.bool b) := (rowc E8.out).1 0
      have s1_ : w8.cell? ⟨Q8, 1, none⟩ = some (.slice A8 n c8) := (rowc E8.out).1 1
      have s2_ : w8.cell? ⟨Q8, 2, none⟩ = some (.slice B8 m d8) := (rowc E8.out).1 2
      have s3_ : w8.cell? ⟨Q8, 3, none⟩ = some (.int .i64 x) := (rowc E8.out).1 3
      have s4_ : w8.cell? ⟨Q8, 4, none⟩ = some (.int .i64 k2) := (rowc E8.out).1 4
      go_wp2_with (fail)
      refine (ER.out _ _ _ _ _ _ _ _ _ _ _ _ _ HG8.out HT6.out).mono ?_
      rintro e w9 ⟨rfl, hb⟩
      replace HPL : Hid (∀ q, Nw m7 w5 q → Plain w9 q) := Lib.hid (fun q hq => (HPL.out q hq).same (hb.block q (HPL.out q hq).lt))
      replace E0 := Lib.hid (carry hb E0.out)
      replace EK := Lib.hid (carry hb EK.out)
      replace E6 := Lib.hid (carry hb E6.out)
      replace E7 := Lib.hid (carry hb E7.out)
      replace E8 := Lib.hid (carry hb E8.out)
      replace HT6 := Lib.hid (HT6.out.below hb)
      replace HO := Lib.hid (HO.out.below hb)
      replace HX := Lib.hid (HX.out.below hb)
      replace HG8 := Lib.hid (HG8.out.below hb)
      replace HB := Lib.hid (bs HB.out hb)
      clear hb
      clear p0_ p1_ p2_ p3_ p4_ s0_ s1_ s2_ s3_ s4_
      have z0_ : w9.cell? ⟨w.heap.size, 0, none⟩ = some (.bool b) := (rowc E0.out).1 0
      have z1_ : w9.cell? ⟨w.heap.size, 1, none⟩ = some (.slice A n c) := (rowc E0.out).1 1
      have z2_ : w9.cell? ⟨w.heap.size, 2, none⟩ = some (.slice B m d) := (rowc E0.out).1 2
      have z3_ : w9.cell? ⟨w.heap.size, 3, none⟩ = some (.int .i64 x) := (rowc E0.out).1 3
      have z4_ : w9.cell? ⟨w.heap.size, 4, none⟩ = some (.int .i64 k) := (rowc E0.out).1 4
      have y0_ : w9.cell? ⟨N7, 0, none⟩ = some (.bool b) := (rowc E7.out).1 0
      have y1_ : w9.cell? ⟨N7, 1, none⟩ = some (.slice A7 n c7) := (rowc E7.out).1 1
      have y2_ : w9.cell? ⟨N7, 2, none⟩ = some (.slice (some ⟨g7, 0, none⟩) m m) := (rowc E7.out).1 2
      have y3_ : w9.cell? ⟨N7, 3, none⟩ = some (.int .i64 x) := (rowc E7.out).1 3
      have y4_ : w9.cell? ⟨N7, 4, none⟩ = some (.int .i64 k) := (rowc E7.out).1 4
      go_wp2_with (fail)
      go_region_held3 (fun w' => w'.cell? ⟨w.heap.size, 0, none⟩ = some (.bool b) ∧ w'.cell? ⟨w.heap.size, 1, none⟩ = some (.slice A n c) ∧ w'.cell? ⟨w.heap.size, 2, none⟩ = some (.slice B m d) ∧ w'.cell? ⟨w.heap.size, 3, none⟩ = some (.int .i64 x) ∧ w'.cell? ⟨w.heap.size, 4, none⟩ = some (.int .i64 k) ∧ w'.cell? ⟨N7, 0, none⟩ = some (.bool b) ∧ w'.cell? ⟨N7, 1, none⟩ = some (.slice A7 n c7) ∧ w'.cell? ⟨N7, 2, none⟩ = some (.slice (some ⟨g7, 0, none⟩) m m) ∧ w'.cell? ⟨N7, 3, none⟩ = some (.int .i64 x) ∧ w'.cell? ⟨N7, 4, none⟩ = some (.int .i64 k)) (go_keep) (first
        | (go_at_call 43; refine (TT.out _ (by first | exact HB.out | exact HB.out.trans ((Below.refl _ _).drew) | exact HB.out.alloc HB.out.size _ | exact (HB.out.trans ((Below.refl _ _).drew)).alloc HB.out.size _)).mono ?_
           rintro e w10 ⟨A5, c5, g5, m5, rfl, hown, hmid, hlo, hmg, hs, hb⟩
           have hbx : Below w9.heap.size w9 w10 := by first | exact hb | exact bs ((Below.refl _ _).drew) hb | exact bs (b1 _ _) hb | exact bs (bs ((Below.refl _ _).drew) (b1 _ _)) hb
           replace HPL : Hid (∀ q, Nw m7 w5 q → Plain w10 q) := Lib.hid (fun q hq => (HPL.out q hq).same (hbx.block q (HPL.out q hq).lt))
           have HO5 := Lib.hid hown
           have HX5 := Lib.hid hs
           clear hown hmid hlo hmg hs
           replace E0 := Lib.hid (carry hbx E0.out)
           replace EK := Lib.hid (carry hbx EK.out)
           replace E6 := Lib.hid (carry hbx E6.out)
           replace E7 := Lib.hid (carry hbx E7.out)
           replace E8 := Lib.hid (carry hbx E8.out)
           replace HT6 := Lib.hid (HT6.out.below hbx)
           replace HO := Lib.hid (HO.out.below hbx)
           replace HX := Lib.hid (HX.out.below hbx)
           replace HG8 := Lib.hid (HG8.out.below hbx)
           replace HB := Lib.hid (bs HB.out hbx)
           have z0_ : w10.cell? ⟨w.heap.size, 0, none⟩ = some (.bool b) := (rowc E0.out).1 0
           have z1_ : w10.cell? ⟨w.heap.size, 1, none⟩ = some (.slice A n c) := (rowc E0.out).1 1
           have z2_ : w10.cell? ⟨w.heap.size, 2, none⟩ = some (.slice B m d) := (rowc E0.out).1 2
           have z3_ : w10.cell? ⟨w.heap.size, 3, none⟩ = some (.int .i64 x) := (rowc E0.out).1 3
           have z4_ : w10.cell? ⟨w.heap.size, 4, none⟩ = some (.int .i64 k) := (rowc E0.out).1 4
           have y0_ : w10.cell? ⟨N7, 0, none⟩ = some (.bool b) := (rowc E7.out).1 0
           have y1_ : w10.cell? ⟨N7, 1, none⟩ = some (.slice A7 n c7) := (rowc E7.out).1 1
           have y2_ : w10.cell? ⟨N7, 2, none⟩ = some (.slice (some ⟨g7, 0, none⟩) m m) := (rowc E7.out).1 2
           have y3_ : w10.cell? ⟨N7, 3, none⟩ = some (.int .i64 x) := (rowc E7.out).1 3
           have y4_ : w10.cell? ⟨N7, 4, none⟩ = some (.int .i64 k) := (rowc E7.out).1 4
           clear hb hbx)
        | (go_at_call 46; refine (ET.out _ _ _ _ _ _ _ _ _ _ _ (by first | exact HO.out | exact HO.out.below ((Below.refl _ _).drew)) (by first | exact HX.out | exact HX.out.below ((Below.refl _ _).drew)) (by first | exact HO5.out | exact HO5.out.below ((Below.refl _ _).drew)) (by first | exact HX5.out | exact HX5.out.below ((Below.refl _ _).drew))).mono ?_
           rintro e w11 ⟨rfl, hb⟩
           have hbx : Below w10.heap.size w10 w11 := by first | exact hb | exact bs ((Below.refl _ _).drew) hb | exact bs (b1 _ _) hb | exact bs (bs ((Below.refl _ _).drew) (b1 _ _)) hb
           replace HPL : Hid (∀ q, Nw m7 w5 q → Plain w11 q) := Lib.hid (fun q hq => (HPL.out q hq).same (hbx.block q (HPL.out q hq).lt))
           clear HO5 HX5
           replace E0 := Lib.hid (carry hbx E0.out)
           replace EK := Lib.hid (carry hbx EK.out)
           replace E6 := Lib.hid (carry hbx E6.out)
           replace E7 := Lib.hid (carry hbx E7.out)
           replace E8 := Lib.hid (carry hbx E8.out)
           replace HT6 := Lib.hid (HT6.out.below hbx)
           replace HO := Lib.hid (HO.out.below hbx)
           replace HX := Lib.hid (HX.out.below hbx)
           replace HG8 := Lib.hid (HG8.out.below hbx)
           replace HB := Lib.hid (bs HB.out hbx)
           have z0_ : w11.cell? ⟨w.heap.size, 0, none⟩ = some (.bool b) := (rowc E0.out).1 0
           have z1_ : w11.cell? ⟨w.heap.size, 1, none⟩ = some (.slice A n c) := (rowc E0.out).1 1
           have z2_ : w11.cell? ⟨w.heap.size, 2, none⟩ = some (.slice B m d) := (rowc E0.out).1 2
           have z3_ : w11.cell? ⟨w.heap.size, 3, none⟩ = some (.int .i64 x) := (rowc E0.out).1 3
           have z4_ : w11.cell? ⟨w.heap.size, 4, none⟩ = some (.int .i64 k) := (rowc E0.out).1 4
           have y0_ : w11.cell? ⟨N7, 0, none⟩ = some (.bool b) := (rowc E7.out).1 0
           have y1_ : w11.cell? ⟨N7, 1, none⟩ = some (.slice A7 n c7) := (rowc E7.out).1 1
           have y2_ : w11.cell? ⟨N7, 2, none⟩ = some (.slice (some ⟨g7, 0, none⟩) m m) := (rowc E7.out).1 2
           have y3_ : w11.cell? ⟨N7, 3, none⟩ = some (.int .i64 x) := (rowc E7.out).1 3
           have y4_ : w11.cell? ⟨N7, 4, none⟩ = some (.int .i64 k) := (rowc E7.out).1 4
           clear hb hbx))
      go_wp2_with (fail)
      have hno : ∀ q, (Value.slice A7 n c7).ownBlock = some q → ¬ Nw m7 w5 q := fun q e h => by have h1 := HMD.out.1 q e; have h2 := h.1; omega
      refine (MT.out _ _ _ _ _ _ HO.out HX.out HPL.out hno).mono ?_
      rintro e w12 ⟨q, rfl, hq1, hf⟩
      have hch : ∀ p, (p < lo7 ∨ N7 ≤ p) → p < w11.heap.size → w12.heap[p]? = w11.heap[p]? := fun p hp hl => hf.block p hl (fun h => by
        rcases h with h | h
        · have := HNW.out p h; omega
        · have := HOB.out p h; omega)
      have h7 := HP7.out
      have h8 := HP8.out
      have h9 := HP9.out
      have E0L := (Array.getElem?_eq_some_iff.1 E0.out).1
      replace HB : Hid (Below w.heap.size w w12) := Lib.hid (HB.out.trans (hf.below (lo := w.heap.size) HB.out.size (fun p hp => by
        rcases hp with h | h
        · have := HNW.out p h; omega
        · have := HOB.out p h; omega)))
      replace E0 : Hid (w12.heap[w.heap.size]? = _) := Lib.hid ((hch _ (.inl (by omega)) (Array.getElem?_eq_some_iff.1 E0.out).1).trans E0.out)
      replace EK : Hid (w12.heap[w.heap.size + 1]? = _) := Lib.hid ((hch _ (.inl (by omega)) (Array.getElem?_eq_some_iff.1 EK.out).1).trans EK.out)
      replace E6 : Hid (w12.heap[Q6]? = _) := Lib.hid ((hch _ (.inl (by omega)) (Array.getElem?_eq_some_iff.1 E6.out).1).trans E6.out)
      replace E8 : Hid (w12.heap[Q8]? = _) := Lib.hid ((hch _ (.inr (by omega)) (Array.getElem?_eq_some_iff.1 E8.out).1).trans E8.out)
      replace HT6 := Lib.hid (HT6.out.keep (w' := w12) fun p hp hl => hch p (.inl hp) hl)
      replace HG8 := Lib.hid (HG8.out.keep (w' := w12) fun p hp hl => hch p (.inr (by have := (HRG.out p hp).1; omega)) hl)
      clear hf hch hno h7 h8 h9 E0L HO HX HPL HNW HOB HMD E7 z0_ z1_ z2_ z3_ z4_ y0_ y1_ y2_ y3_ y4_
      have p0_ : w12.cell? ⟨Q6, 0, none⟩ = some (.bool b) := (rowc E6.out).1 0
      have p1_ : w12.cell? ⟨Q6, 1, none⟩ = some (.slice A6 n c6) := (rowc E6.out).1 1
      have p2_ : w12.cell? ⟨Q6, 2, none⟩ = some (.slice B6 m d6) := (rowc E6.out).1 2
      have p3_ : w12.cell? ⟨Q6, 3, none⟩ = some (.int .i64 x) := (rowc E6.out).1 3
      have p4_ : w12.cell? ⟨Q6, 4, none⟩ = some (.int .i64 k2) := (rowc E6.out).1 4
      have s0_ : w12.cell? ⟨Q8, 0, none⟩ = some (.bool b) := (rowc E8.out).1 0
      have s1_ : w12.cell? ⟨Q8, 1, none⟩ = some (.slice A8 n c8) := (rowc E8.out).1 1
      have s2_ : w12.cell? ⟨Q8, 2, none⟩ = some (.slice B8 m d8) := (rowc E8.out).1 2
      have s3_ : w12.cell? ⟨Q8, 3, none⟩ = some (.int .i64 x) := (rowc E8.out).1 3
      have s4_ : w12.cell? ⟨Q8, 4, none⟩ = some (.int .i64 k2) := (rowc E8.out).1 4
      go_wp2_with (fail)
      refine (ER.out _ _ _ _ _ _ _ _ _ _ _ _ _ HG8.out HT6.out).mono ?_
      rintro e w13 ⟨rfl, hb⟩
      replace E0 := Lib.hid (carry hb E0.out)
      replace EK := Lib.hid (carry hb EK.out)
      replace E6 := Lib.hid (carry hb E6.out)
      replace E8 := Lib.hid (carry hb E8.out)
      replace HT6 := Lib.hid (HT6.out.below hb)
      replace HG8 := Lib.hid (HG8.out.below hb)
      replace HB := Lib.hid (bs HB.out hb)
      clear hb
      clear p0_ p1_ p2_ p3_ p4_ s0_ s1_ s2_ s3_ s4_
      have s0_ : w13.cell? ⟨Q8, 0, none⟩ = some (.bool b) := (rowc E8.out).1 0
      have s1_ : w13.cell? ⟨Q8, 1, none⟩ = some (.slice A8 n c8) := (rowc E8.out).1 1
      have s2_ : w13.cell? ⟨Q8, 2, none⟩ = some (.slice B8 m d8) := (rowc E8.out).1 2
      have s3_ : w13.cell? ⟨Q8, 3, none⟩ = some (.int .i64 x) := (rowc E8.out).1 3
      have s4_ : w13.cell? ⟨Q8, 4, none⟩ = some (.int .i64 k2) := (rowc E8.out).1 4
      go_wp2_with (fail)
      refine (MX.out _ _ _ _ _ _ _ _ HG8.out).mono ?_
      rintro e w14 ⟨rfl, ⟨l2, hfi, hot⟩, hf⟩
      have hch : ∀ p, ¬ Rg lo hi p → p < w13.heap.size → w14.heap[p]? = w13.heap[p]? := fun p hp hl => hf.block p hl (fun h => hp (HRG.out p h))
      have h7 := HP7.out
      have h8 := HP8.out
      have h9 := HP9.out
      have h67 : lo7 ≤ w6.heap.size := HZ67.out
      replace HB : Hid (Below w.heap.size w w14) := Lib.hid (HB.out.trans (hf.below (lo := w.heap.size) HB.out.size (fun p hp => by have := (HRG.out p hp).1; omega)))
      replace E0 : Hid (w14.heap[w.heap.size]? = _) := Lib.hid ((hch _ (fun h => by have := h.1; omega) (Array.getElem?_eq_some_iff.1 E0.out).1).trans E0.out)
      replace EK : Hid (w14.heap[w.heap.size + 1]? = _) := Lib.hid ((hch _ (fun h => by have := h.1; omega) (Array.getElem?_eq_some_iff.1 EK.out).1).trans EK.out)
      replace E6 : Hid (w14.heap[Q6]? = _) := Lib.hid ((hch _ (fun h => by have := h.1; omega) (Array.getElem?_eq_some_iff.1 E6.out).1).trans E6.out)
      replace E8 : Hid (w14.heap[Q8]? = _) := Lib.hid ((hch _ HNQ.out (Array.getElem?_eq_some_iff.1 E8.out).1).trans E8.out)
      replace HT6 := Lib.hid (HT6.out.keep (w' := w14) fun p hp hl => hch p (fun h => by have := h.1; omega) hl)
      have HRS := Lib.hid hot
      have HFI := Lib.hid hfi
      clear hf hch h7 h8 h9 h67 hot hfi HG8
      clear s0_ s1_ s2_ s3_ s4_
      have s0_ : w14.cell? ⟨Q8, 0, none⟩ = some (.bool b) := (rowc E8.out).1 0
      have s1_ : w14.cell? ⟨Q8, 1, none⟩ = some (.slice A8 n c8) := (rowc E8.out).1 1
      have s2_ : w14.cell? ⟨Q8, 2, none⟩ = some (.slice B8 m d8) := (rowc E8.out).1 2
      have s3_ : w14.cell? ⟨Q8, 3, none⟩ = some (.int .i64 x) := (rowc E8.out).1 3
      have s4_ : w14.cell? ⟨Q8, 4, none⟩ = some (.int .i64 k2) := (rowc E8.out).1 4
      go_wp2_with (fail)
      refine (HD.out _ _ _ _ _ _ _ _ _ HFI.out HRS.out).mono ?_
      rintro e w15 ⟨rfl, hb⟩
      replace E0 := Lib.hid (carry hb E0.out)
      replace EK := Lib.hid (carry hb EK.out)
      replace E6 := Lib.hid (carry hb E6.out)
      replace E8 := Lib.hid (carry hb E8.out)
      replace HT6 := Lib.hid (HT6.out.below hb)
      replace HRS := Lib.hid (HRS.out.below hb)
      replace HB := Lib.hid (bs HB.out hb)
      clear hb
      clear s0_ s1_ s2_ s3_ s4_
      have z0_ : w15.cell? ⟨w.heap.size, 0, none⟩ = some (.bool b) := (rowc E0.out).1 0
      have z1_ : w15.cell? ⟨w.heap.size, 1, none⟩ = some (.slice A n c) := (rowc E0.out).1 1
      have z2_ : w15.cell? ⟨w.heap.size, 2, none⟩ = some (.slice B m d) := (rowc E0.out).1 2
      have z3_ : w15.cell? ⟨w.heap.size, 3, none⟩ = some (.int .i64 x) := (rowc E0.out).1 3
      have z4_ : w15.cell? ⟨w.heap.size, 4, none⟩ = some (.int .i64 k) := (rowc E0.out).1 4
      have v0_ : w15.cell? ⟨w.heap.size + 1, 0, none⟩ = some (.bool yb) := (rowc EK.out).1 0
      have v1_ : w15.cell? ⟨w.heap.size + 1, 1, none⟩ = some (.int .i64 yn) := (rowc EK.out).1 1
      have v2_ : w15.cell? ⟨w.heap.size + 1, 2, none⟩ = some (.string ys) := (rowc EK.out).1 2
      go_wp2_with (fail)
      go_cut [12] (fun p wx => CutT w15 b n m x k2 (PrP w15.heap.size l s2 n m) p wx)
      case first =>
        have HW : Hid (Below w15.heap.size w15 w15) := Lib.hid (Below.refl _ _)
        have hzw_ : w15.heap.size ≤ w15.heap.size := Nat.le_refl _
        have nzz_ : w15.heap.size ≠ w.heap.size := by have := (Array.getElem?_eq_some_iff.1 E0.out).1; omega
        have nzv_ : w15.heap.size ≠ w.heap.size + 1 := by have := (Array.getElem?_eq_some_iff.1 EK.out).1; omega
        have z0_ : w15.cell? ⟨w.heap.size, 0, none⟩ = some (.bool b) := (rowc E0.out).1 0
        have z1_ : w15.cell? ⟨w.heap.size, 1, none⟩ = some (.slice A n c) := (rowc E0.out).1 1
        have z2_ : w15.cell? ⟨w.heap.size, 2, none⟩ = some (.slice B m d) := (rowc E0.out).1 2
        have z3_ : w15.cell? ⟨w.heap.size, 3, none⟩ = some (.int .i64 x) := (rowc E0.out).1 3
        have z4_ : w15.cell? ⟨w.heap.size, 4, none⟩ = some (.int .i64 k) := (rowc E0.out).1 4
        have v0_ : w15.cell? ⟨w.heap.size + 1, 0, none⟩ = some (.bool yb) := (rowc EK.out).1 0
        have v1_ : w15.cell? ⟨w.heap.size + 1, 1, none⟩ = some (.int .i64 yn) := (rowc EK.out).1 1
        have v2_ : w15.cell? ⟨w.heap.size + 1, 2, none⟩ = some (.string ys) := (rowc EK.out).1 2
        go_region_held3 (fun w' => w'.cell? ⟨w.heap.size, 0, none⟩ = some (.bool b) ∧ w'.cell? ⟨w.heap.size, 1, none⟩ = some (.slice A n c) ∧ w'.cell? ⟨w.heap.size, 2, none⟩ = some (.slice B m d) ∧ w'.cell? ⟨w.heap.size, 3, none⟩ = some (.int .i64 x) ∧ w'.cell? ⟨w.heap.size, 4, none⟩ = some (.int .i64 k) ∧ w'.cell? ⟨w.heap.size + 1, 0, none⟩ = some (.bool yb) ∧ w'.cell? ⟨w.heap.size + 1, 1, none⟩ = some (.int .i64 yn) ∧ w'.cell? ⟨w.heap.size + 1, 2, none⟩ = some (.string ys)) (go_keep) (first
          | (go_at_call 43; refine (TT.out _ (by first | exact HB.out | exact HB.out.trans ((Below.refl _ _).drew) | exact HB.out.alloc HB.out.size _ | exact (HB.out.trans ((Below.refl _ _).drew)).alloc HB.out.size _)).mono ?_
             rintro e w16 ⟨A5, c5, g5, m5, rfl, hown, hmid, hlo, hmg, hs, hb⟩
             have hbx : Below w15.heap.size w15 w16 := by first | exact hb | exact bs ((Below.refl _ _).drew) hb | exact bs (b1 _ _) hb | exact bs (bs ((Below.refl _ _).drew) (b1 _ _)) hb
             first | (have ez := Lib.hid (carry hb (heap_alloc_new w15 (.cells #[.bool false, .slice none 0 0, .slice none 0 0, .int .i64 0, .int .i64 0] IT)))) | (have ez := Lib.hid (carry hb (heap_alloc_new w15.drew (.cells #[.bool false, .slice none 0 0, .slice none 0 0, .int .i64 0, .int .i64 0] IT)))) | (replace ez := Lib.hid (carry hbx ez.out)) | skip
             have HO5 := Lib.hid hown
             have HX5 := Lib.hid (show SIn w16 (Nw 0 w16) sl (some ⟨g5, 0, none⟩) from hs.stays (fun q hq => ⟨Nat.zero_le _, hq.2⟩) (fun _ _ _ => rfl))
             clear hown hmid hlo hmg hs
             replace E0 := Lib.hid (carry hbx E0.out)
             replace EK := Lib.hid (carry hbx EK.out)
             replace E6 := Lib.hid (carry hbx E6.out)
             replace E8 := Lib.hid (carry hbx E8.out)
             replace HT6 := Lib.hid (HT6.out.below hbx)
             replace HRS := Lib.hid (HRS.out.below hbx)
             replace HB := Lib.hid (bs HB.out hbx)
             replace HW := Lib.hid (bs HW.out hbx)
             have hzw_ : w15.heap.size ≤ w16.heap.size := HW.out.size
             have z0_ : w16.cell? ⟨w.heap.size, 0, none⟩ = some (.bool b) := (rowc E0.out).1 0
             have z1_ : w16.cell? ⟨w.heap.size, 1, none⟩ = some (.slice A n c) := (rowc E0.out).1 1
             have z2_ : w16.cell? ⟨w.heap.size, 2, none⟩ = some (.slice B m d) := (rowc E0.out).1 2
             have z3_ : w16.cell? ⟨w.heap.size, 3, none⟩ = some (.int .i64 x) := (rowc E0.out).1 3
             have z4_ : w16.cell? ⟨w.heap.size, 4, none⟩ = some (.int .i64 k) := (rowc E0.out).1 4
             have v0_ : w16.cell? ⟨w.heap.size + 1, 0, none⟩ = some (.bool yb) := (rowc EK.out).1 0
             have v1_ : w16.cell? ⟨w.heap.size + 1, 1, none⟩ = some (.int .i64 yn) := (rowc EK.out).1 1
             have v2_ : w16.cell? ⟨w.heap.size + 1, 2, none⟩ = some (.string ys) := (rowc EK.out).1 2
             have nzz_ : w16.heap.size ≠ w.heap.size := by have := (Array.getElem?_eq_some_iff.1 E0.out).1; omega
             have nzv_ : w16.heap.size ≠ w.heap.size + 1 := by have := (Array.getElem?_eq_some_iff.1 EK.out).1; omega
             clear hb hbx)
          | (go_at_call 44; refine (TK.out _).mono ?_
             rintro e w17 ⟨rfl, hb⟩
             have hbx : Below w16.heap.size w16 w17 := by first | exact hb | exact bs ((Below.refl _ _).drew) hb | exact bs (b1 _ _) hb | exact bs (bs ((Below.refl _ _).drew) (b1 _ _)) hb
             first | (have ez := Lib.hid (carry hb (heap_alloc_new w16 (.cells #[.bool false, .slice none 0 0, .slice none 0 0, .int .i64 0, .int .i64 0] IT)))) | (have ez := Lib.hid (carry hb (heap_alloc_new w16.drew (.cells #[.bool false, .slice none 0 0, .slice none 0 0, .int .i64 0, .int .i64 0] IT)))) | (replace ez := Lib.hid (carry hbx ez.out)) | skip
             replace HX5 : Hid (SIn w17 (Nw 0 w17) sl (some ⟨g5, 0, none⟩)) := Lib.hid (HX5.out.stays (fun q hq => ⟨Nat.zero_le _, hq.2.same (hbx.block q hq.2.lt)⟩) (fun q _ hl => hbx.block q hl))
             replace E0 := Lib.hid (carry hbx E0.out)
             replace EK := Lib.hid (carry hbx EK.out)
             replace E6 := Lib.hid (carry hbx E6.out)
             replace E8 := Lib.hid (carry hbx E8.out)
             replace HT6 := Lib.hid (HT6.out.below hbx)
             replace HRS := Lib.hid (HRS.out.below hbx)
             replace HO5 := Lib.hid (HO5.out.below hbx)
             replace HB := Lib.hid (bs HB.out hbx)
             replace HW := Lib.hid (bs HW.out hbx)
             have hzw_ : w15.heap.size ≤ w17.heap.size := HW.out.size
             have z0_ : w17.cell? ⟨w.heap.size, 0, none⟩ = some (.bool b) := (rowc E0.out).1 0
             have z1_ : w17.cell? ⟨w.heap.size, 1, none⟩ = some (.slice A n c) := (rowc E0.out).1 1
             have z2_ : w17.cell? ⟨w.heap.size, 2, none⟩ = some (.slice B m d) := (rowc E0.out).1 2
             have z3_ : w17.cell? ⟨w.heap.size, 3, none⟩ = some (.int .i64 x) := (rowc E0.out).1 3
             have z4_ : w17.cell? ⟨w.heap.size, 4, none⟩ = some (.int .i64 k) := (rowc E0.out).1 4
             have v0_ : w17.cell? ⟨w.heap.size + 1, 0, none⟩ = some (.bool yb) := (rowc EK.out).1 0
             have v1_ : w17.cell? ⟨w.heap.size + 1, 1, none⟩ = some (.int .i64 yn) := (rowc EK.out).1 1
             have v2_ : w17.cell? ⟨w.heap.size + 1, 2, none⟩ = some (.string ys) := (rowc EK.out).1 2
             have nzz_ : w17.heap.size ≠ w.heap.size := by have := (Array.getElem?_eq_some_iff.1 E0.out).1; omega
             have nzv_ : w17.heap.size ≠ w.heap.size + 1 := by have := (Array.getElem?_eq_some_iff.1 EK.out).1; omega
             clear hb hbx)
          | (go_at_call 20; refine (LI.out _ _ _ _ _ (by first | exact HB.out | exact HB.out.trans ((Below.refl _ _).drew) | exact HB.out.alloc HB.out.size _ | exact (HB.out.trans ((Below.refl _ _).drew)).alloc HB.out.size _) (by first | exact HO5.out | exact HO5.out.below ((Below.refl _ _).drew) | exact HO5.out.below (b1 _ _) | exact HO5.out.below (bs ((Below.refl _ _).drew) (b1 _ _))) (by first | exact HX5.out | exact sin_nw HX5.out ((Below.refl _ _).drew) | exact sin_nw HX5.out (b1 _ _) | exact sin_nw HX5.out (bs ((Below.refl _ _).drew) (b1 _ _)))).mono ?_
             rintro e w18x ⟨A12, c12, B12, d12, par2, R2, rfl, hot, hb⟩
             have hbx : Below w17.heap.size w17 w18x := by first | exact hb | exact bs ((Below.refl _ _).drew) hb | exact bs (b1 _ _) hb | exact bs (bs ((Below.refl _ _).drew) (b1 _ _)) hb
             first | (have nzw := Lib.hid (Array.getElem?_eq_some_iff.1 ez.out).1; replace ez := Lib.hid (carry hbx ez.out)) | (have ez := Lib.hid (carry hb (heap_alloc_new w17 (.cells #[.bool false, .slice none 0 0, .slice none 0 0, .int .i64 0, .int .i64 0] IT))); have nzw := Lib.hid (Array.getElem?_eq_some_iff.1 (heap_alloc_new w17 (.cells #[.bool false, .slice none 0 0, .slice none 0 0, .int .i64 0, .int .i64 0] IT))).1) | (have ez := Lib.hid (carry hb (heap_alloc_new w17.drew (.cells #[.bool false, .slice none 0 0, .slice none 0 0, .int .i64 0, .int .i64 0] IT))); have nzw := Lib.hid (Array.getElem?_eq_some_iff.1 (heap_alloc_new w17.drew (.cells #[.bool false, .slice none 0 0, .slice none 0 0, .int .i64 0, .int .i64 0] IT))).1) | skip
             have HOT := Lib.hid hot
             have hzl_ : w15.heap.size ≤ w17.heap.size := hzw_
             clear hot
             clear HO5 HX5
             replace E0 := Lib.hid (carry hbx E0.out)
             replace EK := Lib.hid (carry hbx EK.out)
             replace E6 := Lib.hid (carry hbx E6.out)
             replace E8 := Lib.hid (carry hbx E8.out)
             replace HT6 := Lib.hid (HT6.out.below hbx)
             replace HRS := Lib.hid (HRS.out.below hbx)
             replace HB := Lib.hid (bs HB.out hbx)
             replace HW := Lib.hid (bs HW.out hbx)
             have hzw_ : w15.heap.size ≤ w18x.heap.size := HW.out.size
             have z0_ : w18x.cell? ⟨w.heap.size, 0, none⟩ = some (.bool b) := (rowc E0.out).1 0
             have z1_ : w18x.cell? ⟨w.heap.size, 1, none⟩ = some (.slice A n c) := (rowc E0.out).1 1
             have z2_ : w18x.cell? ⟨w.heap.size, 2, none⟩ = some (.slice B m d) := (rowc E0.out).1 2
             have z3_ : w18x.cell? ⟨w.heap.size, 3, none⟩ = some (.int .i64 x) := (rowc E0.out).1 3
             have z4_ : w18x.cell? ⟨w.heap.size, 4, none⟩ = some (.int .i64 k) := (rowc E0.out).1 4
             have v0_ : w18x.cell? ⟨w.heap.size + 1, 0, none⟩ = some (.bool yb) := (rowc EK.out).1 0
             have v1_ : w18x.cell? ⟨w.heap.size + 1, 1, none⟩ = some (.int .i64 yn) := (rowc EK.out).1 1
             have v2_ : w18x.cell? ⟨w.heap.size + 1, 2, none⟩ = some (.string ys) := (rowc EK.out).1 2
             have nzz_ : w18x.heap.size ≠ w.heap.size := by have := (Array.getElem?_eq_some_iff.1 E0.out).1; omega
             have nzv_ : w18x.heap.size ≠ w.heap.size + 1 := by have := (Array.getElem?_eq_some_iff.1 EK.out).1; omega
             clear hb hbx
             first | (have zr := (rowc ez.out).1; have zf := (rowc ez.out).2) | skip))
        all_goals
          go_wp2_with (fail)
          go_meet
          first
          | with_reducible exact cutT_boxP HW.out HOT.out (by first | exact hzl_ | exact Nat.le_trans hzl_ (by simp))
          | exact cutT_earlyP HW.out (by first | exact Nat.le_refl _ | assumption) ez.out HOT.out nzw.out rfl
      case rest =>
        obtain ⟨Q12, A12, c12, B12, d12, hp, hbx, hQ12, e12, par2, R2, lo2, hi2, hot, -, -, -, -⟩ := hcut
        subst hp
        obtain ⟨w18, hwc⟩ : ∃ q, q = wc := ⟨wc, rfl⟩
        subst hwc
        have E12 := Lib.hid e12
        have HG12 := Lib.hid hot
        replace E6 := Lib.hid (carry hbx E6.out)
        replace E8 := Lib.hid (carry hbx E8.out)
        replace HT6 := Lib.hid (HT6.out.below hbx)
        replace HRS := Lib.hid (HRS.out.below hbx)
        replace HB := Lib.hid (bs HB.out hbx)
        clear e12 hot hQ12 hbx
        clear z0_ z1_ z2_ z3_ z4_ v0_ v1_ v2_
        have p0_ : w18.cell? ⟨Q6, 0, none⟩ = some (.bool b) := (rowc E6.out).1 0
        have p1_ : w18.cell? ⟨Q6, 1, none⟩ = some (.slice A6 n c6) := (rowc E6.out).1 1
        have p2_ : w18.cell? ⟨Q6, 2, none⟩ = some (.slice B6 m d6) := (rowc E6.out).1 2
        have p3_ : w18.cell? ⟨Q6, 3, none⟩ = some (.int .i64 x) := (rowc E6.out).1 3
        have p4_ : w18.cell? ⟨Q6, 4, none⟩ = some (.int .i64 k2) := (rowc E6.out).1 4
        have h0_ : w18.cell? ⟨Q12, 0, none⟩ = some (.bool b) := (rowc E12.out).1 0
        have h1_ : w18.cell? ⟨Q12, 1, none⟩ = some (.slice A12 n c12) := (rowc E12.out).1 1
        have h2_ : w18.cell? ⟨Q12, 2, none⟩ = some (.slice B12 m d12) := (rowc E12.out).1 2
        have h3_ : w18.cell? ⟨Q12, 3, none⟩ = some (.int .i64 x) := (rowc E12.out).1 3
        have h4_ : w18.cell? ⟨Q12, 4, none⟩ = some (.int .i64 k2) := (rowc E12.out).1 4
        go_wp2_with (fail)
        refine (ER.out _ _ _ _ _ _ _ _ _ _ _ _ _ HG12.out HT6.out).mono ?_
        rintro e w19 ⟨rfl, hb⟩
        replace E6 := Lib.hid (carry hb E6.out)
        replace E8 := Lib.hid (carry hb E8.out)
        replace HT6 := Lib.hid (HT6.out.below hb)
        replace HRS := Lib.hid (HRS.out.below hb)
        replace HB := Lib.hid (bs HB.out hb)
        clear hb
        clear p0_ p1_ p2_ p3_ p4_ h0_ h1_ h2_ h3_ h4_
        have s0_ : w19.cell? ⟨Q8, 0, none⟩ = some (.bool b) := (rowc E8.out).1 0
        have s1_ : w19.cell? ⟨Q8, 1, none⟩ = some (.slice A8 n c8) := (rowc E8.out).1 1
        have s2_ : w19.cell? ⟨Q8, 2, none⟩ = some (.slice B8 m d8) := (rowc E8.out).1 2
        have s3_ : w19.cell? ⟨Q8, 3, none⟩ = some (.int .i64 x) := (rowc E8.out).1 3
        have s4_ : w19.cell? ⟨Q8, 4, none⟩ = some (.int .i64 k2) := (rowc E8.out).1 4
        go_wp2_with (fail)
        refine (HD.out _ _ _ _ _ _ _ _ _ HFI.out HRS.out).mono ?_
        rintro e w20 ⟨rfl, hb⟩
        replace HB := Lib.hid (bs HB.out hb)
        clear hb
        clear s0_ s1_ s2_ s3_ s4_
        go_wp2_with (fail)
        go_ret
        exact ⟨rfl, HB.out⟩

end Go.Proofs.YtdglmnmalfpipaaGreatDoor.fnExactTableDelete

