/-
  A slot added to a table of the call's own that lies in a box, of the project.
  Conditions: those that each theorem names.
-/
import Derived.Test.YtdgfpfkhcojgaaaGreatDoorTBB7
import Derived.Test.YtdgfpfkhcojgaaaGreatDoorTBB2
import Derived.Test.YtdgfpfkhcojgaaaGreatDoorTBB5
import Derived.Deep.RegionHeld3
import Derived.Deep.RegionWith
import Derived.Deep.RegionLaw
import Derived.Maps.AppendAt
namespace Go.Proofs.YtdgfpfkhcojgaaaGreatDoor.tree
open Go.ChangeShapes Go.WideShapes Go.ChangeAt Go.RowKit
set_option linter.unusedVariables false

/-- append to a row of the call's own, as one step of a region that draws. -/
theorem step_append_tab {P : Program} {ops : Array Oper} {o : Oper} {a : Act} {w : World} {K : Act → World → Prop} {Q : Exit → Act → World → Prop} {E : Prop}
    (hg : o.guard = none) (s x : Operand) (t : TypeId) (hop : o.op = Op.call { callee := Callee.builtin Builtin.append, args := #[s, x], argTypes := #[t, t] })
    (base : Nat) (e : TypeId) (i : TypeInfo) (z : Value) (size bytes : Nat) (ht : P.underlying t = some (.slice e)) (hi : P.info? e = some i) (hz : i.zero = some z)
    (hsize : i.size = size) (hby : i.bytes = bytes) (hzs : z.cells.size = size) (hsz : 0 < size)
    (v : Value) (n : Nat) (xs : List Value) (hown : w.ownsRow base e size v n xs)
    (ad : Addr) (m c : Nat) (news : List Value) (hs : a.eval s = v) (hx : a.eval x = .slice (some ad) m c) (hl : news.length = m * size) (hnews : ∀ j u, news[j]? = some u → w.cell? (ad.add j) = some u) (h1 : ∀ u ∈ news, u.oneCell' = true)
    (h63 : n + m ≤ maxLen) (hbytes : (n + m) * bytes ≤ 140737488355328) (hbase : base ≤ w.heap.size)
    (hK : ∀ v' w', w'.ownsRow base e size v' (n + m) (xs ++ news) → w.grownBy w' v.ownBlock → (v' = .slice none 0 0 ↔ v = .slice none 0 0 ∧ m = 0) → (v'.ownBlock = v.ownBlock ∨ v'.ownBlock = some w.heap.size) → K (a.put o.dst v') w') :
    if Region.wanted o (yielded ops a.tmps) = true then Oper.wp P o a w K Q else E := by
  have hw : Region.wanted o (yielded ops a.tmps) = true := by simp [Region.wanted, hg]
  rw [if_pos hw]
  obtain ⟨v', w', hr, h2, h3, h4, h5⟩ := run_append_own_at (P := P) w base t o.type e i z size bytes ht hi hz hsize hby hzs hsz v n xs hown ad m c news hl hnews h1 h63 hbytes hbase
  unfold Oper.wp
  simp [execOp, hop, resolve, invoke, builtin, hs, hx, hr, Result.andThen]
  exact hK v' w' h2 h3 h4 h5
def AdQ (w : World) (Q lo : Nat) (b : Bool) (l : List Int) (sl : List Sl) (A : Option Addr) (n c : Nat) (B : Option Addr) (m d : Nat) (x k : Int) (G : Nat → Nat → Prop) (y : Ky) (v : Tr) (F : Nat → Prop) (e : Ending) (w' : World) : Prop :=
  e = .returned (.tuple #[]) ∧ ∃ B' d', BxT w' Q lo b (psH n l m y) (sl ++ [psS n l y v]) A n c B' (m + 1) d' (psX x y) (k + 1) (fun i => if i = m then F else G i) ∧ Fr (BxF Q A n c B m d) w w' ∧ ((Value.slice B' (m + 1) d').ownBlock = (Value.slice B m d).ownBlock ∨ ∃ g, (Value.slice B' (m + 1) d').ownBlock = some g ∧ w.heap.size ≤ g)

/-- What lies there behind the append and the store of the new slots. -/
def AdC (w w1 : World) (Q lo : Nat) (b : Bool) (A : Option Addr) (n c : Nat) (B : Option Addr) (m d : Nat) (x k : Int) (xs news : List Value) (o : Obj) (wx : World) : Prop :=
  ∃ g3 c3 w2, w2.ownsRow lo IS 10 (.slice (some ⟨g3, 0, none⟩) (m + 1) c3) (m + 1) (xs ++ news) ∧ w1.grownBy w2 (Value.slice B m d).ownBlock ∧ (w1.alloc o).grownBy w2 (Value.slice B m d).ownBlock ∧
    ((Value.slice (some ⟨g3, 0, none⟩) (m + 1) c3).ownBlock = (Value.slice B m d).ownBlock ∨ (Value.slice (some ⟨g3, 0, none⟩) (m + 1) c3).ownBlock = some (w1.heap.size + 1)) ∧
    wx.heap[Q]? = some (.cells #[.bool b, .slice A n c, .slice (some ⟨g3, 0, none⟩) (m + 1) c3, .int .i64 x, .int .i64 k] IT (0, 0)) ∧ (∀ q, q ≠ Q → wx.heap[q]? = w2.heap[q]?) ∧ wx.heap.size = w2.heap.size ∧ Fr (BxF Q A n c B m d) w wx

set_option maxHeartbeats 8000000 in
set_option maxRecDepth 100000 in
theorem addSlot_i {Q lo : Nat} {b : Bool} {l : List Int} {sl : List Sl} {A : Option Addr} {n c : Nat} {B : Option Addr} {m d : Nat} {x k : Int} {G : Nat → Nat → Prop} (w : World) (h : BxT w Q lo b l sl A n c B m d x k G) (hlo : lo ≤ w.heap.size) (hn : n ≤ 1048576) (hm : m ≤ 1000000)
    (hx : -1000000000000 ≤ x ∧ x ≤ 1000000000000) (hk : -1000000000000 ≤ k ∧ k ≤ 1000000000000) (hli : ∀ v ∈ l, -1 ≤ v ∧ v ≤ 1000000000) (y : Ky) (hy : -1000000000 ≤ y.num ∧ y.num ≤ 1000000000) (hys : y.str.size ≤ 140737488355328)
    {F : Nat → Prop} {k1 n1 x1 : Int} {s1 : ByteArray} {ks1 : List Ky} {vs1 : List Tr} {A1 : Option Addr} {c1 : Nat} (hF : FIn w F (.mk k1 n1 s1 x1 ks1 vs1) (vV k1 n1 s1 x1 A1 vs1.length c1))
    (hFd : ∀ q, F q → q < w.heap.size ∧ (Value.slice B m d).ownBlock ≠ some q ∧ (Value.slice A n c).ownBlock ≠ some q ∧ q ≠ Q ∧ ∀ i, i < sl.length → ¬ G i q) :
    Calls Tryz.prog 113 #[.pointer (some ⟨Q, 0, none⟩), kyV y, vV k1 n1 s1 x1 A1 vs1.length c1] w (AdQ w Q lo b l sl A n c B m d x k G y (.mk k1 n1 s1 x1 ks1 vs1) F) := by
  obtain ⟨hbox, hheads, ⟨xs, hslots⟩, hhq, hbq, hgq, hlen⟩ := h
  obtain ⟨lk, HLK⟩ : ∃ q, Hid ((l[bk n y]?).getD (-1) = q) := ⟨_, Lib.hid rfl⟩
  have hlk : -1 ≤ lk ∧ lk ≤ 1000000000 := by rw [← HLK.out]; exact psS_bd (n := n) (y := y) (v := .mk k1 n1 s1 x1 ks1 vs1) hli
  have LK : Hid (∀ w', imem.OwnI w' lo A n c l → Calls Tryz.prog 148 #[.slice A n c, kyV y, .int .i64 m] w' (LkQ w' lo A n c lk (psH n l m y))) := Lib.hid (fun w' ho => HLK.out ▸ linkSlot_i n c hn A l lo y hys m w' ho)
  obtain ⟨i0, hi, hzz⟩ := is_info
  have HII := Lib.hid hi
  have HZZ := Lib.hid hzz
  obtain ⟨L1, HL1⟩ : ∃ L, Hid (vs1.length = L) := ⟨_, Lib.hid rfl⟩
  have HQL : Q < w.heap.size := (Array.getElem?_eq_some_iff.1 hbox).1
  have HFI := Lib.hid hF
  have HFD := Lib.hid hFd
  have HHQ := Lib.hid hhq
  have HBQ := Lib.hid hbq
  have HGQ := Lib.hid hgq
  have HLEN := Lib.hid hlen
  have HLO := Lib.hid hlo
  have HLI := Lib.hid hli
  rw [HL1.out]
  obtain ⟨yb, yn, ys⟩ := y
  unfold kyV at LK ⊢
  simp only at LK hy hys ⊢
  have HYB : Hid (I64 yn ∧ ys.size ≤ maxLen) := Lib.hid ⟨by unfold I64; omega, by unfold maxLen; omega⟩
  obtain ⟨P, HP⟩ : ∃ P, Hid (w.heap.size = P) := ⟨_, Lib.hid rfl⟩
  have hHA : ∀ q, (Value.slice A n c).ownBlock = some q → q < P := fun q e => by rw [← HP.out]; exact (hheads.block q e).2
  have hBA : ∀ q, (Value.slice B m d).ownBlock = some q → lo ≤ q ∧ q < P := fun q e => by rw [← HP.out]; exact hslots.block q e
  have HHA := Lib.hid hHA
  have HBA := Lib.hid hBA
  rw [HP.out] at HQL
  have HH := Lib.hid hheads
  have HS := Lib.hid hslots
  have HBX := Lib.hid hbox
  clear hheads hslots hhq hbq hgq hF hFd hbox hlen hlo hi hzz hHA hBA hli
  go_enter Tryz.func113, Tryz.ntmps113
  go_upto_region 1 with fail
  rw [HP.out]
  generalize hw0 : (w.alloc (.cells #[.bool yb, .int .i64 yn, .string ys] IK)).alloc (.cells #[.int .i64 k1, .int .i64 n1, .string s1, .int .i64 x1, .slice A1 L1 c1] IV) = w0
  have hb0 : Below w.heap.size w w0 := hw0 ▸ b2 w _ _
  have E0 : Hid (w0.heap[P]? = some (.cells #[.bool yb, .int .i64 yn, .string ys] IK (0, 0))) := Lib.hid (by rw [← hw0, ← HP.out]; exact heap_alloc2_old w _ _)
  have E1 : Hid (w0.heap[P + 1]? = some (.cells #[.int .i64 k1, .int .i64 n1, .string s1, .int .i64 x1, .slice A1 L1 c1] IV (0, 0))) := Lib.hid (by rw [← hw0, ← HP.out]; exact heap_alloc2_new w _ _)
  have HZ0 : Hid (w0.heap.size = P + 2) := Lib.hid (by rw [← hw0, ← HP.out]; simp)
  replace HBX := Lib.hid (carry hb0 HBX.out)
  replace HH := Lib.hid (HH.out.below hb0)
  have HB0 := Lib.hid hb0
  clear hw0 hb0
  go_cut [6] (fun v wx => v = .int .i64 lk ∧ imem.OwnI wx lo A n c (psH n l m ⟨yb, yn, ys⟩) ∧ w0.grownBy wx (Value.slice A n c).ownBlock)
  case first =>
    have y1 : w0.cell? ⟨Q, 1, none⟩ = some (.slice A n c) := (rowc HBX.out).1 1
    have y2 : w0.cell? ⟨Q, 2, none⟩ = some (.slice B m d) := (rowc HBX.out).1 2
    have z0 : w0.cell? ⟨P, 0, none⟩ = some (.bool yb) := (rowc E0.out).1 0
    have z1 : w0.cell? ⟨P, 1, none⟩ = some (.int .i64 yn) := (rowc E0.out).1 1
    have z2 : w0.cell? ⟨P, 2, none⟩ = some (.string ys) := (rowc E0.out).1 2
    go_region_held3 (fun w' => w'.cell? ⟨Q, 1, none⟩ = some (.slice A n c) ∧ w'.cell? ⟨Q, 2, none⟩ = some (.slice B m d) ∧ w'.cell? ⟨P, 0, none⟩ = some (.bool yb) ∧ w'.cell? ⟨P, 1, none⟩ = some (.int .i64 yn) ∧ w'.cell? ⟨P, 2, none⟩ = some (.string ys)) (go_keep)
      ((go_at_call 148; refine (LK.out _ ?_).mono ?_; (first | exact HH.out | exact HH.out.below ((Below.refl _ _).drew)); rintro e w1 ⟨rfl, ho1, hg1⟩; have HO1 := Lib.hid ho1; have HG1 : Hid (w0.grownBy w1 (Value.slice A n c).ownBlock) := Lib.hid (by first | exact hg1 | exact ⟨hg1.os, hg1.tape, hg1.output, hg1.size, hg1.block⟩); have hbk : ∀ q, q < w0.heap.size → (Value.slice A n c).ownBlock ≠ some q → w1.heap[q]? = w0.heap[q]? := fun q hq hne => HG1.out.block q hq (fun e => hne e.symm); have hx0 : w1.heap[Q]? = w0.heap[Q]? := hbk Q (by rw [HZ0.out]; omega) (fun e => (HHQ.out Q e).1 rfl); have hx1 : w1.heap[P]? = w0.heap[P]? := hbk P (by rw [HZ0.out]; omega) (fun e => by have := HHA.out P e; omega); have y1 : w1.cell? ⟨Q, 1, none⟩ = some (.slice A n c) := (rowc (hx0.trans HBX.out)).1 1; have y2 : w1.cell? ⟨Q, 2, none⟩ = some (.slice B m d) := (rowc (hx0.trans HBX.out)).1 2; have z0 : w1.cell? ⟨P, 0, none⟩ = some (.bool yb) := (rowc (hx1.trans E0.out)).1 0; have z1 : w1.cell? ⟨P, 1, none⟩ = some (.int .i64 yn) := (rowc (hx1.trans E0.out)).1 1; have z2 : w1.cell? ⟨P, 2, none⟩ = some (.string ys) := (rowc (hx1.trans E0.out)).1 2; clear ho1 hg1 hbk hx0 hx1))
    all_goals
      go_wp2_with (fail)
      go_meet
      exact ⟨rfl, HO1.out, HG1.out⟩
  case rest =>
    obtain ⟨rfl, ho1, hg1⟩ := hcut
    obtain ⟨w1, hwc⟩ : ∃ q, q = wc := ⟨wc, rfl⟩
    subst hwc
    have hbk : ∀ q, q < w0.heap.size → (Value.slice A n c).ownBlock ≠ some q → w1.heap[q]? = w0.heap[q]? := fun q hq hne => hg1.block q hq (fun e => hne e.symm)
    have hx0 : w1.heap[Q]? = w0.heap[Q]? := hbk Q (by rw [HZ0.out]; omega) (fun e => (HHQ.out Q e).1 rfl)
    have hx1 : w1.heap[P]? = w0.heap[P]? := hbk P (by rw [HZ0.out]; omega) (fun e => by have := HHA.out P e; omega)
    have hx2 : w1.heap[P + 1]? = w0.heap[P + 1]? := hbk (P + 1) (by rw [HZ0.out]; omega) (fun e => by have := HHA.out _ e; omega)
    have HBX1 := Lib.hid (hx0.trans HBX.out)
    have E01 := Lib.hid (hx1.trans E0.out)
    have E11 := Lib.hid (hx2.trans E1.out)
    have HO1 := Lib.hid ho1
    have HZ1 : Hid (P + 2 ≤ w1.heap.size) := Lib.hid (by rw [← HZ0.out]; exact hg1.size)
    have HS1 : Hid (SFw w1 lo (.slice B m d) xs sl G) := Lib.hid ((HS.out.below HB0.out).keep hg1.size fun q hq hl => hbk q hl (fun e => by
      rcases hq with hq | ⟨i, hi, hq⟩
      · exact (HHQ.out q e).2.1 hq
      · exact (HHQ.out q e).2.2 i hi hq))
    have HFI1 : Hid (FIn w1 F (.mk k1 n1 s1 x1 ks1 vs1) (vV k1 n1 s1 x1 A1 L1 c1)) := Lib.hid (by
      have := (HFI.out.below HB0.out).keep (w' := w1) fun q hq hl => hbk q hl (fun e => (HFD.out q hq).2.2.1 e)
      rwa [HL1.out] at this)
    have HFR1 : Hid (Fr (BxF Q A n c B m d) w w1) := Lib.hid ((Fr.of HB0.out).trans ⟨hg1.os, hg1.tape, hg1.output, hg1.size, fun q hl hn => hg1.block q hl (fun e => hn (.inr (.inl e.symm)))⟩)
    have HOW : Hid (∀ o, (w1.alloc o).ownsRow lo IS 10 (.slice B m d) m xs) := Lib.hid (fun o => by
      have := World.ownsRow.alloc HS1.out.1 o
      rwa [HLEN.out] at this)
    have HOWd : Hid (∀ o, (w1.drew.alloc o).ownsRow lo IS 10 (.slice B m d) m xs) := Lib.hid (fun o => by
      have := World.ownsRow.alloc (w := w1.drew) HS1.out.1 o
      rwa [HLEN.out] at this)
    have hlo1 : lo ≤ w1.heap.size := by have h1 := HLO.out; have h2 := HZ1.out; have h3 := HP.out; omega
    have y2 : w1.cell? ⟨Q, 2, none⟩ = some (.slice B m d) := (rowc HBX1.out).1 2
    have f2 := (rowc HBX1.out).2
    have y2a : ∀ o, (w1.alloc o).cell? ⟨Q, 2, none⟩ = some (.slice B m d) := fun o => (rowc (keepAlloc HBX1.out)).1 2
    have z0a : ∀ o, (w1.alloc o).cell? ⟨P, 0, none⟩ = some (.bool yb) := fun o => (rowc (keepAlloc E01.out)).1 0
    have z0 : w1.cell? ⟨P, 0, none⟩ = some (.bool yb) := (rowc E01.out).1 0
    have z1 : w1.cell? ⟨P, 1, none⟩ = some (.int .i64 yn) := (rowc E01.out).1 1
    have z2 : w1.cell? ⟨P, 2, none⟩ = some (.string ys) := (rowc E01.out).1 2
    have v0 : w1.cell? ⟨P + 1, 0, none⟩ = some (.int .i64 k1) := (rowc E11.out).1 0
    have v1 : w1.cell? ⟨P + 1, 1, none⟩ = some (.int .i64 n1) := (rowc E11.out).1 1
    have v2 : w1.cell? ⟨P + 1, 2, none⟩ = some (.string s1) := (rowc E11.out).1 2
    have v3 : w1.cell? ⟨P + 1, 3, none⟩ = some (.int .i64 x1) := (rowc E11.out).1 3
    have v4 : w1.cell? ⟨P + 1, 4, none⟩ = some (.slice A1 L1 c1) := (rowc E11.out).1 4
    clear ho1 hg1 hbk hx0 hx1 hx2 HB0 HBX HH HS HFI LK
    go_wp2_with (fail)
    go_cut [] (fun wx => AdC w w1 Q lo b A n c B m d x k xs [.bool yb, .int .i64 yn, .string ys, .int .i64 k1, .int .i64 n1, .string s1, .int .i64 x1, .slice A1 L1 c1, .bool true, .int .i64 lk] (.cells #[.bool yb, .int .i64 yn, .string ys, .int .i64 k1, .int .i64 n1, .string s1, .int .i64 x1, .slice A1 L1 c1, .bool true, .int .i64 lk] IS) wx)
    case first =>
      go_region_law (first
        | (refine step_append_tab (by rfl) _ _ 25 (by rfl) lo IS i0 _ 10 112 Tryz.underlying25 HII.out HZZ.out.1 HZZ.out.2.1 HZZ.out.2.2 rfl (by decide) (.slice B m d) m xs (by first | exact HOW.out _ | exact HOWd.out _) ⟨w1.heap.size, 0, none⟩ 1 1 [.bool yb, .int .i64 yn, .string ys, .int .i64 k1, .int .i64 n1, .string s1, .int .i64 x1, .slice A1 L1 c1, .bool true, .int .i64 lk] (by rfl) (by rfl) rfl (by first | exact ten_new w1 _ _ _ _ _ _ _ _ _ _ _ | exact ten_new w1.drew _ _ _ _ _ _ _ _ _ _ _) (ten_one _ _ _ _ _ _ _ _ _ _ _ _) (by unfold maxLen; omega) (by omega) (by simp; omega) ?_
           intro v' w2 hown hgrow hnil hat
           have hgx : w1.grownBy w2 (Value.slice B m d).ownBlock := by first | exact mem.grown_trans (World.grownBy_alloc w1 _ _) hgrow | exact mem.grown_trans (World.grownBy_alloc w1 (.cells #[.bool yb, .int .i64 yn, .string ys, .int .i64 k1, .int .i64 n1, .string s1, .int .i64 x1, .slice A1 L1 c1, .bool true, .int .i64 lk] IS) _) ⟨hgrow.os, hgrow.tape, hgrow.output, hgrow.size, hgrow.block⟩
           have hsz : w1.heap.size ≤ w2.heap.size := hgx.size
           have HOX := Lib.hid hown
           have HGX := Lib.hid hgx
           have HAT : Hid (v'.ownBlock = (Value.slice B m d).ownBlock ∨ v'.ownBlock = some (w1.heap.size + 1)) := Lib.hid (by simpa using hat)
           have HGY : Hid ((w1.alloc (.cells #[.bool yb, .int .i64 yn, .string ys, .int .i64 k1, .int .i64 n1, .string s1, .int .i64 x1, .slice A1 L1 c1, .bool true, .int .i64 lk] IS)).grownBy w2 (Value.slice B m d).ownBlock) := Lib.hid (by first | exact hgrow | exact ⟨hgrow.os, hgrow.tape, hgrow.output, hgrow.size, hgrow.block⟩)
           have HBX2 : Hid (w2.heap[Q]? = some (.cells #[.bool b, .slice A n c, .slice B m d, .int .i64 x, .int .i64 k] IT (0, 0))) := Lib.hid ((hgx.block Q (Array.getElem?_eq_some_iff.1 HBX1.out).1 (fun e => HBQ.out e.symm)).trans HBX1.out)
           have E02 := Lib.hid ((hgx.block P (Array.getElem?_eq_some_iff.1 E01.out).1 (fun e => by have := (HBA.out P e.symm).2; omega)).trans E01.out)
           obtain ⟨g3, c3, rfl⟩ : ∃ g3 c3, v' = .slice (some ⟨g3, 0, none⟩) (m + 1) c3 := by
             rcases hown.2 with ⟨-, h⟩ | ⟨g, cap, cur, h, -⟩
             · omega
             · exact ⟨g, cap, h⟩
           obtain ⟨r2, f2⟩ := rowc HBX2.out
           clear hown hgrow hnil hat hgx)
        | fail)
      all_goals
        go_wp2_with (fail)
        go_meet
        have h3 := set_heap HBX2.out 2 (.slice (some ⟨g3, 0, none⟩) (m + 1) c3)
        exact ⟨g3, c3, w2, HOX.out, HGX.out, HGY.out, HAT.out, by simpa using h3, fun q h => set_other h, set_size, (HFR1.out.trans ⟨HGX.out.os, HGX.out.tape, HGX.out.output, HGX.out.size, fun q hl hn => HGX.out.block q hl (fun e => hn (.inr (.inr e.symm)))⟩).trans (Fr.set (.inl rfl) _ _)⟩
    case rest =>
      obtain ⟨g3, c3, w2, hox, hgx, hgy, hat, h3, ho3, hs3, hf3⟩ := hcut
      obtain ⟨w3, hwc⟩ : ∃ q, q = wc := ⟨wc, rfl⟩
      subst hwc
      have HOX := Lib.hid hox
      have HGX := Lib.hid hgx
      have HGY := Lib.hid hgy
      have HAT := Lib.hid hat
      have HBX3 := Lib.hid h3
      have HO3 := Lib.hid ho3
      have HS3 := Lib.hid hs3
      have HFR3 := Lib.hid hf3
      have hsz : w1.heap.size ≤ w2.heap.size := hgx.size
      have E03 := Lib.hid ((ho3 P (by omega)).trans ((hgx.block P (Array.getElem?_eq_some_iff.1 E01.out).1 (fun e => by have := (HBA.out P e.symm).2; omega)).trans E01.out))
      clear hox hgx hgy hat h3 ho3 hs3 hf3 f2 y2 y2a z0a z0 z1 z2 v0 v1 v2 v3 v4
      have q4 : w3.cell? ⟨Q, 4, none⟩ = some (.int .i64 k) := (rowc HBX3.out).1 4
      have f3 := (rowc HBX3.out).2
      have z0 : w3.cell? ⟨P, 0, none⟩ = some (.bool yb) := (rowc E03.out).1 0
      go_upto_region 4 with fail
      generalize hw4 : World.setCell w3 _ _ = w4
      have h4 : w4.heap[Q]? = some (.cells #[.bool b, .slice A n c, .slice (some ⟨g3, 0, none⟩) (m + 1) c3, .int .i64 x, .int .i64 (k + 1)] IT (0, 0)) := by
        rw [← hw4]
        have := set_heap HBX3.out 4 (.int .i64 (k + 1))
        simpa using this
      have ho4 : ∀ q, q ≠ Q → w4.heap[q]? = w3.heap[q]? := fun q h => by rw [← hw4, set_other h]
      have hs4 : w4.heap.size = w3.heap.size := by rw [← hw4, set_size]
      have HBX4 := Lib.hid h4
      have HO4 : Hid (∀ q, q ≠ Q → w4.heap[q]? = w2.heap[q]?) := Lib.hid (fun q h => (ho4 q h).trans (HO3.out q h))
      have HS4 : Hid (w4.heap.size = w2.heap.size) := Lib.hid (hs4.trans HS3.out)
      have E04 := Lib.hid ((ho4 P (by omega)).trans E03.out)
      have HFR4 : Hid (Fr (BxF Q A n c B m d) w w4) := Lib.hid (by
        rw [← hw4]
        exact HFR3.out.trans (Fr.set (.inl rfl) _ _))
      clear hw4 h4 ho4 hs4 q4 f3 z0
      have FIN : Hid (∀ (w5 : World) (x5 : Int), w5.heap[Q]? = some (.cells #[.bool b, .slice A n c, .slice (some ⟨g3, 0, none⟩) (m + 1) c3, .int .i64 x5, .int .i64 (k + 1)] IT (0, 0)) → (∀ q, q ≠ Q → w5.heap[q]? = w2.heap[q]?) → w5.heap.size = w2.heap.size → psX x ⟨yb, yn, ys⟩ = x5 → Fr (BxF Q A n c B m d) w w5 → AdQ w Q lo b l sl A n c B m d x k G ⟨yb, yn, ys⟩ (.mk k1 n1 s1 x1 ks1 vs1) F (.returned (.tuple #[])) w5) := Lib.hid (fun w5 x5 h5 ho5 hs5 hx5 hf5 => by
        have hsl := HLEN.out
        have hz1 := HZ1.out
        have hpp := HP.out
        have hl1 := HL1.out
        have hB := (HS1.out.below (b1 w1 (Obj.cells #[.bool yb, .int .i64 yn, .string ys, .int .i64 k1, .int .i64 n1, .string s1, .int .i64 x1, .slice A1 L1 c1, .bool true, .int .i64 lk] IS))).more (F := F) (t := psS n l ⟨yb, yn, ys⟩ (.mk k1 n1 s1 x1 ks1 vs1)) (v' := .slice (some ⟨g3, 0, none⟩) (m + 1) c3) (w' := w2) rfl HYB.out (by have h1 := psS_bd (n := n) (y := ⟨yb, yn, ys⟩) (v := .mk k1 n1 s1 x1 ks1 vs1) HLI.out; unfold I64; omega) (by rw [hl1]; exact HFI1.out.below (b1 w1 (Obj.cells #[.bool yb, .int .i64 yn, .string ys, .int .i64 k1, .int .i64 n1, .string s1, .int .i64 x1, .slice A1 L1 c1, .bool true, .int .i64 lk] IS)))
          (fun q hq => ⟨⟨by have := (HFD.out q hq).1; simp; omega, (HFD.out q hq).2.1⟩, fun j hj => (HFD.out q hq).2.2.2.2 j hj⟩) (by rw [hsl, hl1]; have h9 := HOX.out; rw [← HLK.out] at h9; exact h9) HGY.out (by simpa using HAT.out)
        have hnb : ∀ q, (Value.slice (some ⟨g3, 0, none⟩) (m + 1) c3).ownBlock = some q → (Value.slice B m d).ownBlock = some q ∨ (P ≤ q ∧ q = w1.heap.size + 1) := fun q hq => by
          rcases HAT.out with h | h
          · exact .inl (h ▸ hq)
          · rw [h] at hq; injection hq with hq; exact .inr ⟨by omega, hq.symm⟩
        have hQb : (Value.slice (some ⟨g3, 0, none⟩) (m + 1) c3).ownBlock ≠ some Q := fun e => by
          rcases hnb Q e with h | ⟨h, -⟩
          · exact HBQ.out h
          · omega
        have hkeep : ∀ q, q ≠ Q → w5.heap[q]? = w2.heap[q]? := ho5
        refine ⟨rfl, some ⟨g3, 0, none⟩, c3, ⟨by rw [hx5]; exact h5, ?_, ?_, fun q hq => ⟨(HHQ.out q hq).1, fun e => ?_, fun i hi hg => ?_⟩, hQb, fun i hi hg => ?_, ?_⟩, hf5, ?_⟩
        · refine owni_blk HO1.out fun q hq => ?_
          have hqP := HHA.out q hq
          exact (ho5 q (HHQ.out q hq).1).trans (HGX.out.block q (by omega) (fun e => (HHQ.out q hq).2.1 e.symm))
        · have h9 := hB.keep (w' := w5) (by rw [hs5]; exact Nat.le_refl _) (fun q hq _ => ho5 q (fun e => by
            subst e
            rcases hq with hq | ⟨i, hi, hq⟩
            · exact hQb hq
            · try dsimp only at hq
              split at hq
              · exact (HFD.out q hq).2.2.2.1 rfl
              · rw [List.length_append, List.length_singleton] at hi
                exact HGQ.out i (by omega) hq))
          rw [hsl] at h9
          exact ⟨_, h9⟩
        · have := HHA.out q hq
          rcases hnb q e with h | ⟨h, -⟩
          · exact (HHQ.out q hq).2.1 h
          · omega
        · try dsimp only at hg
          rw [List.length_append, List.length_singleton] at hi
          split at hg
          · exact (HFD.out q hg).2.2.1 hq
          · exact (HHQ.out q hq).2.2 i (by omega) hg
        · try dsimp only at hg
          rw [List.length_append, List.length_singleton] at hi
          split at hg
          · exact (HFD.out Q hg).2.2.2.1 rfl
          · exact HGQ.out i (by omega) hg
        · rw [List.length_append, List.length_singleton, hsl]
        · rcases HAT.out with h | h
          · exact .inl h
          · exact .inr ⟨_, h, by omega⟩)
      clear HOX HGX HGY HAT HFR1 HFR3 HBX1 HBX3 HO3 HS3 E01 E03 E11 HS1 HFI1 HO1 HOW HOWd
      have q3 : w4.cell? ⟨Q, 3, none⟩ = some (.int .i64 x) := (rowc HBX4.out).1 3
      have f4 := (rowc HBX4.out).2
      have z0 : w4.cell? ⟨P, 0, none⟩ = some (.bool yb) := (rowc E04.out).1 0
      have z1 : w4.cell? ⟨P, 1, none⟩ = some (.int .i64 yn) := (rowc E04.out).1 1
      cases yb with
      | true =>
        go_wp2_with (fail)
        go_end0
        exact FIN.out _ _ HBX4.out HO4.out HS4.out rfl HFR4.out
      | false =>
        have MX := nums.implMax x (yn + 1)
        have hmx : -1000000000000 ≤ nums.mx x (yn + 1) ∧ nums.mx x (yn + 1) ≤ 1000000000000 := by unfold nums.mx; split <;> omega
        obtain ⟨X, HX⟩ : ∃ q, Hid (nums.mx x (yn + 1) = q) := ⟨_, Lib.hid rfl⟩
        rw [HX.out] at MX hmx
        have hwy : IntKind.i64.wrap (yn + 1) = yn + 1 := by rw [IntKind.wrap_i64]; omega
        have MX2 : Hid (∀ w', Calls Tryz.prog 151 #[.int .i64 x, .int .i64 (IntKind.i64.wrap (yn + 1))] w' fun e w2 => e = .returned (.int .i64 X) ∧ w' = w2) := Lib.hid (by rw [hwy]; exact MX)
        clear hwy MX
        go_wp2_with (fail)
        go_region_with ((go_at_call 151; refine (MX2.out _).mono ?_; rintro e w5 ⟨rfl, hw5⟩; subst hw5))
        all_goals
          go_wp2_with (fail)
          go_end0
          generalize hw6 : World.setCell _ _ _ = w6
          have hF6 : Fr (BxF Q A n c B m d) w w6.drew := by
            rw [← hw6]
            exact (HFR4.out.trans (Fr.set (S := BxF Q A n c B m d) (Or.inl rfl) _ _)).trans (Fr.of ((Below.refl _ _).drew))
          exact FIN.out w6.drew X (by rw [drew_heap]; rw [← hw6]; have := set_heap HBX4.out 3 (.int .i64 X); simpa using this) (fun q hq => by rw [drew_heap, ← hw6, set_other hq]; exact HO4.out q hq) (by rw [drew_heap, ← hw6, set_size]; exact HS4.out) (by unfold psX; rw [if_neg (by simp)]; exact HX.out) hF6

end Go.Proofs.YtdgfpfkhcojgaaaGreatDoor.tree

