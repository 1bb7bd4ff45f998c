/-
  The project's reading of a mark: its table of marks, and readMark.
  Conditions: the table holds what the program's text lays.
-/
import Derived.Test.YtakdbfifbkngnaaGreatDoorLaB1
import Derived.Laws.Rows
import Derived.Lib.LaidU8
import Derived.Lib.SmallJoins
import Derived.Deep.Cut
namespace Go.Proofs.YtakdbfifbkngnaaGreatDoor.lex
open Go.ChangeShapes Go.WideShapes Go.ChangeAt Go.RowKit
set_option linter.unusedVariables false

def mcells : Array Value := (marks.map fun m => Value.string (tx m)).toArray
def MTab (w : World) : Prop := w.var? Tryz.prog "loop.example/g03011/impl.marks" = some mcells
theorem gMarks : Tryz.prog.globalNamed "loop.example/g03011/impl.marks" = some 0 := by kernel_rfl
theorem tMarks : (Tryz.prog.globals[0]?).map (·.type) = some 193 := by kernel_rfl
theorem MTab.stays {w w' : World} (h : MTab w) (hb : Below w.heap.size w w') : MTab w' := Joins.var_stays gMarks h hb (Nat.le_refl _)
theorem MTab.load {w : World} (h : MTab w) : (loadVar 193 ⟨0, 0, none⟩).run Tryz.prog w = .ok (.agg mcells) w := by
  unfold MTab World.var? at h
  rw [gMarks] at h
  simp only [Option.bind_some] at h
  split at h
  · rename_i c t fr hb
    cases h
    exact run_loadVar_row w _ t _ mcells fr _ hb Tryz.underlying193 rfl (by kernel_rfl)
  · cases h
theorem cStr : Tryz.prog.cellsOf 9 = 1 := by kernel_rfl
theorem cMarks : Tryz.prog.cellsOf 193 = 34 := by kernel_rfl
/-- The table as the row lists it. -/
def mdata : DataW Unit := .agg (marks.map fun m => .lit (.string m))
theorem one_str {enc : TypeId × Value → Unit} {w : World} {base : Nat} {sp : Nat → Bool} {held : Bool} {fuel : Nat} {c : Value} {d : DataW Unit} {p : List MemPlace} (bs : List UInt8) (hd : d = .lit (.string bs))
    (h : DataW.trod enc Tryz.prog w base sp held fuel 9 [c] = some (d, p)) : c = .string ⟨bs.toArray⟩ := by
  subst hd
  obtain ⟨s, hs, hv, _⟩ := DataW.trod_string Tryz.underlying9 h
  simp at hs hv
  obtain ⟨hv, -⟩ := hv
  rw [hs, hv, Joins.bytes_eta]
theorem marks_len : marks.length = 34 := by decide
theorem mtab_of_reads {w : World} (h : Lib.VarReads Tryz.prog w "loop.example/g03011/impl.marks" mdata) : MTab w := by
  obtain ⟨g, t, cs, fuel, p, hg, ht, hv, hd⟩ := h
  obtain rfl := Option.some.inj (gMarks.symm.trans hg)
  obtain rfl := Option.some.inj (tMarks.symm.trans ht)
  unfold MTab
  rw [hv]
  congr 1
  apply Array.toList_inj.1
  obtain ⟨xs, m, rfl, hx, hl, hxl, hall⟩ := DataW.trod_array Tryz.underlying193 hd
  rw [cMarks] at hl
  have hxs := congrArg Prod.fst hx
  have hxs' : xs.map (·.1) = marks.map fun m => (.lit (.string m) : DataW Unit) := by
    have := hxs
    unfold mdata at this
    simp only [DataW.agg.injEq] at this
    exact this.symm
  have hml : xs.length = 34 := by have := congrArg List.length hxs'; simpa [marks_len] using this
  refine List.ext_getElem (by rw [hl]; unfold mcells; simp [marks_len]) fun i h1 h2 => ?_
  have hi : i < 34 := by rw [hl] at h1; exact h1
  have hd := hall i (by omega)
  rw [cStr, Nat.mul_one, List.drop_eq_getElem_cons h1] at hd
  rw [show (cs.toList[i] :: List.drop (i + 1) cs.toList).take 1 = [cs.toList[i]] from rfl, List.getElem?_eq_getElem (by omega)] at hd
  have hxi : (xs[i]'(by omega)).1 = .lit (.string (marks[i]'(by rw [marks_len]; exact hi))) := by
    have := congrArg (fun l : List (DataW Unit) => l[i]?) hxs'
    simp only [List.getElem?_map] at this
    rw [List.getElem?_eq_getElem (by omega), List.getElem?_eq_getElem (by rw [marks_len]; exact hi)] at this
    simpa using this
  have := one_str (c := cs.toList[i]) (p := (xs[i]'(by omega)).2) _ hxi (by simpa using hd)
  rw [this]
  have : mcells.toList[i]? = some (.string (tx (marks[i]'(by rw [marks_len]; exact hi)))) := by
    unfold mcells
    show (marks.map fun m => Value.string (tx m))[i]? = _
    rw [List.getElem?_map, List.getElem?_eq_getElem (by rw [marks_len]; exact hi)]
    rfl
  rw [List.getElem?_eq_getElem h2] at this
  exact (Option.some.inj this).symm

/-- The mark at an index of the table. -/
def mkAt (i : Nat) : ByteArray := tx ((marks[i]?.getD []))
theorem mkAt_size (i : Nat) : 1 ≤ (mkAt i).size ∨ 34 ≤ i := by
  by_cases h : i < 34
  · have : ∀ i, i < 34 → 1 ≤ (mkAt i).size := by decide
    exact .inl (this i h)
  · exact .inr (by omega)
theorem mkAt_size3 (i : Nat) : (mkAt i).size ≤ 3 := by
  by_cases h : i < 34
  · have : ∀ i, i < 34 → (mkAt i).size ≤ 3 := by decide
    exact this i h
  · unfold mkAt
    rw [List.getElem?_eq_none (by rw [marks_len]; omega)]
    decide
set_option maxRecDepth 100000 in
theorem run_mark (m : Nat → ByteArray) : ∀ (i : Nat) (hi : i < 34) (W : World), (Instr.index 193 (.agg #[.string (m 0), .string (m 1), .string (m 2), .string (m 3), .string (m 4), .string (m 5), .string (m 6), .string (m 7), .string (m 8), .string (m 9), .string (m 10), .string (m 11), .string (m 12), .string (m 13), .string (m 14), .string (m 15), .string (m 16), .string (m 17), .string (m 18), .string (m 19), .string (m 20), .string (m 21), .string (m 22), .string (m 23), .string (m 24), .string (m 25), .string (m 26), .string (m 27), .string (m 28), .string (m 29), .string (m 30), .string (m 31), .string (m 32), .string (m 33)]) (.int .i64 (i : Int))).run Tryz.prog W = .ok (.string (m i)) W
  | 0, _, W => by kernel_rfl
  | 1, _, W => by kernel_rfl
  | 2, _, W => by kernel_rfl
  | 3, _, W => by kernel_rfl
  | 4, _, W => by kernel_rfl
  | 5, _, W => by kernel_rfl
  | 6, _, W => by kernel_rfl
  | 7, _, W => by kernel_rfl
  | 8, _, W => by kernel_rfl
  | 9, _, W => by kernel_rfl
  | 10, _, W => by kernel_rfl
  | 11, _, W => by kernel_rfl
  | 12, _, W => by kernel_rfl
  | 13, _, W => by kernel_rfl
  | 14, _, W => by kernel_rfl
  | 15, _, W => by kernel_rfl
  | 16, _, W => by kernel_rfl
  | 17, _, W => by kernel_rfl
  | 18, _, W => by kernel_rfl
  | 19, _, W => by kernel_rfl
  | 20, _, W => by kernel_rfl
  | 21, _, W => by kernel_rfl
  | 22, _, W => by kernel_rfl
  | 23, _, W => by kernel_rfl
  | 24, _, W => by kernel_rfl
  | 25, _, W => by kernel_rfl
  | 26, _, W => by kernel_rfl
  | 27, _, W => by kernel_rfl
  | 28, _, W => by kernel_rfl
  | 29, _, W => by kernel_rfl
  | 30, _, W => by kernel_rfl
  | 31, _, W => by kernel_rfl
  | 32, _, W => by kernel_rfl
  | 33, _, W => by kernel_rfl
  | n + 34, h, _ => absurd h (by omega)
theorem mcells_fn : mcells = #[.string (mkAt 0), .string (mkAt 1), .string (mkAt 2), .string (mkAt 3), .string (mkAt 4), .string (mkAt 5), .string (mkAt 6), .string (mkAt 7), .string (mkAt 8), .string (mkAt 9), .string (mkAt 10), .string (mkAt 11), .string (mkAt 12), .string (mkAt 13), .string (mkAt 14), .string (mkAt 15), .string (mkAt 16), .string (mkAt 17), .string (mkAt 18), .string (mkAt 19), .string (mkAt 20), .string (mkAt 21), .string (mkAt 22), .string (mkAt 23), .string (mkAt 24), .string (mkAt 25), .string (mkAt 26), .string (mkAt 27), .string (mkAt 28), .string (mkAt 29), .string (mkAt 30), .string (mkAt 31), .string (mkAt 32), .string (mkAt 33)] := by
  unfold mcells mkAt
  rfl
theorem run_mark' (i : Nat) (hi : i < 34) (W : World) : (Instr.index 193 (.agg mcells) (.int .i64 (i : Int))).run Tryz.prog W = .ok (.string (mkAt i)) W := by
  rw [mcells_fn]
  exact run_mark mkAt i hi W
theorem mcell_at {w : World} (h : MTab w) (j : Nat) (hj : j < 34) : w.cell? ⟨0, j, none⟩ = some (.string (mkAt j)) := by
  rw [World.var?_cell gMarks h j]
  unfold mcells mkAt
  rw [List.getElem?_toArray, List.getElem?_map, List.getElem?_eq_getElem (by rw [marks_len]; exact hj)]
  rfl

/-- What is still to be tried of the table gives the mark. -/
def MkI (l : List UInt8) (i : Nat) : Prop := mark l = (((marks.drop i).find? fun m => m.isPrefixOf l).getD [])
theorem MkI.start (l : List UInt8) : MkI l 0 := rfl
theorem marks_at {i : Nat} (h : i < 34) : marks.drop i = (marks[i]?.getD []) :: marks.drop (i + 1) := by
  rw [List.drop_eq_getElem_cons (by rw [marks_len]; exact h), List.getElem?_eq_getElem (by rw [marks_len]; exact h)]; rfl
theorem MkI.yes {l : List UInt8} {i : Nat} (h : MkI l i) (hi : i < 34) (hp : Lib.hasPrefix l (mkAt i).data.toList = true) : mark l = (marks[i]?.getD []) := by
  unfold MkI at h
  unfold mkAt Lib.hasPrefix at hp
  rw [tx_list] at hp
  rw [h, marks_at hi]
  simp only [List.find?_cons, hp, Option.getD_some]
theorem MkI.no {l : List UInt8} {i : Nat} (h : MkI l i) (hi : i < 34) (hp : Lib.hasPrefix l (mkAt i).data.toList = false) : MkI l (i + 1) := by
  unfold MkI at h ⊢
  unfold mkAt Lib.hasPrefix at hp
  rw [tx_list] at hp
  rw [h, marks_at hi]
  simp only [List.find?_cons, hp]
theorem MkI.fin {l : List UInt8} (h : MkI l 34) : mark l = [] := by
  unfold MkI at h
  rw [h, List.drop_eq_nil_of_le (by rw [marks_len]; exact Nat.le_refl _)]
  rfl

theorem wpList_load {P : Program} {w : World} {ops : Array Oper} {rest : List Oper} {o : Oper} {a : Act} {Q : Exit → Act → World → Prop} (hg : o.guard = none) (t : TypeId) (x : Operand) (hop : o.op = Op.load t x) (v : Value)
    (hrun : (Instr.loadAt t (a.eval x)).run P w = .ok v w) (hK : wpList P ops Q rest (a.put o.dst v) w) : wpList P ops Q (o :: rest) a w := by
  refine wpList_plain hg fun K hK' => ?_
  unfold Oper.wp
  simp [execOp, hop, hrun, Result.andThen]
  exact hK' _ _ hK

/-- readMark. -/
def markR (l : List UInt8) : TR := if mark l = [] then .bad 2 else .good 6 0 (mark l) (mark l).length
set_option maxHeartbeats 1000000 in
set_option maxRecDepth 100000 in
theorem readMark (s : ByteArray) (w : World) (hM : MTab w) : Calls Tryz.prog 116 #[.string s] w (RdQ w (markR s.data.toList)) := by
  obtain ⟨V, HV⟩ : ∃ V, Hid (markR s.data.toList = V) := ⟨_, Lib.hid rfl⟩
  rw [HV.out]
  have A0 := new4 w
  have hbA := Lib.hid (b1 w (.cells #[.int .i64 0, .int .i64 0, .string ⟨#[]⟩, .int .i64 0] IT))
  have hM2 := hM.stays (b1 w (.cells #[.int .i64 0, .int .i64 0, .string ⟨#[]⟩, .int .i64 0] IT))
  obtain ⟨mc, HMC⟩ : ∃ mc, Hid (mcells = mc) := ⟨_, Lib.hid rfl⟩
  have hld : (Instr.loadAt 193 (.pointer (some ⟨0, 0, none⟩))).run Tryz.prog (w.alloc (.cells #[.int .i64 0, .int .i64 0, .string ⟨#[]⟩, .int .i64 0] IT)) = .ok (.agg mc) (w.alloc (.cells #[.int .i64 0, .int .i64 0, .string ⟨#[]⟩, .int .i64 0] IT)) := by
    rw [← HMC.out]
    exact hM2.load
  have HIX : Hid (∀ i : Nat, i < 34 → ∀ W, (Instr.index 193 (.agg mc) (.int .i64 (i : Int))).run Tryz.prog W = .ok (.string (mkAt i)) W) := Lib.hid fun i hi W => by rw [← HMC.out]; exact run_mark' i hi W
  clear hM hM2
  go_enter Tryz.func116, Tryz.ntmps116
  go_upto_region 1 with fail
  refine wp_region_lit ?_
  refine wpList_load rfl 193 (Operand.global 0) rfl (.agg mc) hld ?_
  clear hld
  go_wp2_with (fail)
  go_loopg [8] 34 (fun gk v wr => ∃ i : Nat, v = .int .i64 i ∧ gk + i = 34 ∧ i ≤ 34 ∧ Hid (MkI s.data.toList i) ∧ wr = (w.alloc (.cells #[.int .i64 0, .int .i64 0, .string ⟨#[]⟩, .int .i64 0] IT)))
  case atStart => exact ⟨0, rfl, by omega, by omega, Lib.hid (MkI.start _), rfl⟩
  case round =>
    obtain ⟨i, rfl, hgk, hi, HI, rfl⟩ := hrel
    by_cases hlt : i < 34
    · have hix := HIX.out i hlt
      obtain ⟨m, HMm⟩ : ∃ q, Hid (mkAt i = q) := ⟨_, Lib.hid rfl⟩
      rw [HMm.out] at hix
      have hm3 : m.size ≤ 3 := by rw [← HMm.out]; exact mkAt_size3 i
      obtain ⟨p, HP⟩ : ∃ p, Hid (Lib.hasPrefix s.data.toList m.data.toList = p) := ⟨_, Lib.hid rfl⟩
      cases p
      · have HI2 := Lib.hid (HI.out.no hlt (by rw [HMm.out]; exact HP.out))
        go_wp2_with (go_at_call 65; refine (Tryz.strings_HasPrefix s m _).mono ?_; rintro e w1 ⟨he, rfl⟩; obtain rfl : e = .returned (.bool _) := he.trans (congrArg (fun b => Ending.returned (.bool b)) HP.out); clear he)
        go_roundg (34 - (i + 1))
        case rel => exact ⟨i + 1, by go_num, by omega, by omega, HI2, rfl⟩
        case measure => omega
      · have hmk := HI.out.yes hlt (by rw [HMm.out]; exact HP.out)
        have hm1 : 1 ≤ m.size := by rw [← HMm.out]; exact (mkAt_size i).resolve_right (by omega)
        have HX : Hid (RdE V = .returned (.tuple #[.agg #[.int .i64 6, .int .i64 0, .string m, .int .i64 0], .int .i64 (m.size : Int), .int .i64 0])) := Lib.hid (by
          have hne : mark s.data.toList ≠ [] := by
            intro e
            have : (mkAt i).size = 0 := by unfold mkAt; rw [← hmk, e]; rfl
            rw [HMm.out] at this
            omega
          have hmm : tx (mark s.data.toList) = m := by rw [hmk]; exact HMm.out
          rw [← HV.out]
          unfold markR
          rw [if_neg hne]
          show Ending.returned (.tuple #[.agg #[_, _, .string (tx (mark s.data.toList)), _], .int .i64 ((mark s.data.toList).length : Int), _]) = _
          rw [← tx_size, hmm]
          rfl)
        clear hmk
        obtain ⟨r, f⟩ := rowc A0.out
        go_wp2_with (go_at_call 65; refine (Tryz.strings_HasPrefix s m _).mono ?_; rintro e w1 ⟨he, rfl⟩; obtain rfl : e = .returned (.bool _) := he.trans (congrArg (fun b => Ending.returned (.bool b)) HP.out); clear he)
        refine bodyPost_ret (v := .tuple #[.agg #[.int .i64 6, .int .i64 0, .string m, .int .i64 0], .int .i64 (m.size : Int), .int .i64 0]) ?_ rfl ?_
        · simp [results, Tryz.results116, go_sem]
        · exact ⟨HX.out.symm, b1 _ _⟩
    · obtain rfl : i = 34 := by omega
      have HX : Hid (V = .bad 2) := Lib.hid (by rw [← HV.out]; unfold markR; rw [if_pos HI.out.fin])
      obtain ⟨r, f⟩ := rowc A0.out
      go_wp2_with (fail)
      refine bodyPost_ret (v := .tuple #[.agg #[.int .i64 0, .int .i64 0, .string ⟨#[]⟩, .int .i64 0], .int .i64 0, .int .i64 2]) ?_ rfl ?_
      · simp [results, Tryz.results116, go_sem]
      · exact ⟨by rw [HX.out]; rfl, b1 _ _⟩

end Go.Proofs.YtakdbfifbkngnaaGreatDoor.lex

