/-
  slices.Insert of one value into a row of values that has room.
  Conditions: the row lies in a block of its own, the new value in another one; there is room for one more.
-/
import Derived.Test.YtlbkbcafkjgckaaDoorCmB3
import Derived.Test.YtlbkbcafkjgckaaDoorCmB7
import Derived.Lib.Overlaps
import Derived.Laws.IdiomCopy
import Derived.Laws.Externs
namespace Go.Proofs.YtlbkbcafkjgckaaDoor.tree
open Go.ChangeShapes Go.WideShapes Go.ChangeAt Go.RowKit
set_option linter.unusedVariables false

theorem run_copy_5 {P : Program} (w : World) (dT sT ty elem : TypeId) (g o dLen dCap : Nat) (a : Addr) (sLen sCap : Nat) (cur : Array Value) (t : TypeId) (cs : List Value) (n : Nat)
    (hu : P.underlying dT = some (.slice elem)) (hs : (P.info? elem).map (·.size) = some 5) (hg : w.heap[g]? = some (.cells cur t (0, 0))) (hn : n = Nat.min sLen dLen) (hl : cs.length = n * 5)
    (hsrc : ∀ j v, cs[j]? = some v → w.cell? (a.add j) = some v) (ho : o + cs.length ≤ cur.size) (h1 : ∀ v ∈ cs, v.oneCell' = true) :
    (Builtin.copy_ #[dT, sT] ty #[.slice (some ⟨g, o, none⟩) dLen dCap, .slice (some a) sLen sCap]).run P w = .ok (goInt n) (w.setRow g (cur.toList.take o ++ cs ++ cur.toList.drop (o + cs.length)).toArray) := by
  have hld := run_loadCells_list (P := P) w a cs hsrc
  have hst := run_storeCells_at (P := P) g o t cs 0 cur w hg (by simpa using ho) h1
  cases hq : P.info? elem with
  | none => simp [hq] at hs
  | some i =>
    have hi : i.size = 5 := by simpa [hq] using hs
    rw [hl] at hld
    simp only [Nat.add_zero] at hst
    simp [Builtin.copy_, run_underlying hu, Builtin.lenOf, Builtin.firstCells, sizeOf, typeInfo, hq, hi, ← hn, hld, hst]

theorem wpList_append_eqI {P : Program} {ops : Array Oper} {rest : List Oper} {o : Oper} {a : Act} {Q : Exit → Act → World → Prop} {w w' : World} (hgd : o.guard = none) (s x : Operand) (t : TypeId)
    (ho : o.op = .call { callee := .builtin .append, args := #[s, x], argTypes := #[t, t] }) {u v r : Value} (hrun : (Builtin.append_ #[t, t] o.type #[u, v]).run P w = .ok r w') (hs : a.eval s = u) (hx : a.eval x = v)
    (h : wpList P ops Q rest (a.put o.dst r) w') : wpList P ops Q (o :: rest) a w := by
  refine wpList_plain hgd fun K hK => ?_
  unfold Oper.wp execOp
  simp only [ho, resolve, invoke, builtin, Sem.run_bind, Sem.run_pure, Result.andThen_ok, List.map_toArray, List.map_cons, List.map_nil, hs, hx, hrun]
  exact hK _ _ h

/-- The row has n values now. -/
def InsQ (w : World) (g n C : Nat) (xs : List Value) (e : Ending) (w' : World) : Prop :=
  e = .returned (.slice (some ⟨g, 0, none⟩) n C) ∧ (∃ cur' : Array Value, w'.heap[g]? = some (.cells cur' IV (0, 0)) ∧ cur'.size = C * 5 ∧ cur'.toList.take (n * 5) = xs) ∧ Fr (fun b => b = g) w w'
theorem shape_of {w : World} {b : Nat} {cs : Array Value} {t : TypeId} (h : w.heap[b]? = some (.cells cs t (0, 0))) : w.shape? b = some (t, cs.size) := by
  unfold World.shape?
  rw [h]
theorem size_of {e : TypeId} {n : Nat} (h : (Tryd.prog.info? e).map (·.size) = some n) : ∀ w, (Go.sizeOf e).run Tryd.prog w = .ok n w := fun w => by
  cases hq : Tryd.prog.info? e with
  | none => simp [hq] at h
  | some i => simp [hq] at h; simp [sizeOf, typeInfo, hq, h]
theorem fr_row (w : World) (g : Nat) (cur : Array Value) : Fr (fun b => b = g) w (w.setRow g cur) :=
  ⟨rfl, rfl, rfl, by unfold World.setRow; simp, fun b _ hb => by unfold World.setRow; simp only [Array.getElem?_modify]; rw [if_neg (fun e => hb e.symm)]⟩

set_option maxRecDepth 100000 in
set_option maxHeartbeats 1000000 in
theorem insert_end {w : World} {g n C vb : Nat} {cur : Array Value} {xs five : List Value} (hg : w.heap[g]? = some (.cells cur IV (0, 0))) (hsz : cur.size = C * 5) (htk : cur.toList.take (n * 5) = xs) (hn : n + 1 ≤ C) (hC : C ≤ 1000000000)
    (h5 : five.length = 5) (hv : ∀ j u, five[j]? = some u → w.cell? ((⟨vb, 0, none⟩ : Addr).add j) = some u) (h1 : ∀ u ∈ five, u.oneCell' = true) :
    Calls Tryd.prog 120 #[.slice (some ⟨g, 0, none⟩) n C, .int .i64 n, .slice (some ⟨vb, 0, none⟩) 1 1] w (InsQ w g (n + 1) C (xs ++ five)) := by
  obtain ⟨i0, hi, hz⟩ := iv_info'
  have hr := fun ty => run_append_room (P := Tryd.prog) (w := w) 43 ty IV i0 Tryd.underlying43 hi g n C cur hg ⟨vb, 0, none⟩ 1 1 five (by rw [h5, hz.2.1]) hv h1 hn (by rw [hz.2.1, h5]; omega)
  have HG := Lib.hid hg
  have HTK := Lib.hid htk
  have HSZ := Lib.hid hsz
  have H5 := Lib.hid h5
  have HZ := Lib.hid hz
  clear hg htk hsz hi hv h1 h5 hz
  go_enter Tryd.func120, Tryd.ntmps120
  go_wp2_with (at_builtin; refine wpList_append_eqI rfl _ _ 43 rfl (hr _) rfl rfl ?_; clear hr)
  go_ret
  refine ⟨rfl, ⟨_, setRow_heap _ _ _ _ _ _ HG.out, ?_, ?_⟩, fr_row _ _ _⟩
  · have := HSZ.out; have := H5.out; rw [HZ.out.2.1]; simp; omega
  · have h1 := HSZ.out
    have h2 := H5.out
    rw [HZ.out.2.1, ← HTK.out]
    simp only []
    rw [← List.append_assoc, List.take_append_of_le_length (by simp; omega), List.take_of_length_le (by simp; omega)]

set_option maxRecDepth 100000 in
set_option maxHeartbeats 1000000 in
theorem insert_mid {w : World} {g n C vb i : Nat} {cur cv : Array Value} {tv : TypeId} {xs five : List Value} (hg : w.heap[g]? = some (.cells cur IV (0, 0))) (hsz : cur.size = C * 5) (htk : cur.toList.take (n * 5) = xs) (hn : n + 1 ≤ C) (hC : C ≤ 1000000000) (hin : i < n)
    (h5 : five.length = 5) (hvb : vb ≠ g) (hvc : w.heap[vb]? = some (.cells cv tv (0, 0))) (hv : ∀ j u, five[j]? = some u → w.cell? ((⟨vb, 0, none⟩ : Addr).add j) = some u) (h1 : ∀ u ∈ five, u.oneCell' = true) (hx1 : ∀ u ∈ xs, u.oneCell' = true) :
    Calls Tryd.prog 120 #[.slice (some ⟨g, 0, none⟩) n C, .int .i64 i, .slice (some ⟨vb, 0, none⟩) 1 1] w (InsQ w g (n + 1) C (xs.take (i * 5) ++ five ++ xs.drop (i * 5))) := by
  obtain ⟨i0, hi, hz⟩ := iv_info'
  have hs5 : (Tryd.prog.info? IV).map (·.size) = some 5 := by rw [hi]; exact congrArg some hz.2.1
  have hov : (callFunc 142 #[.slice (some ⟨vb, 0, none⟩) 1 1, .slice (some ⟨g, (i + 1) * 5, none⟩) (n - i) (C - (i + 1))]).run Tryd.prog w = .ok (.value (.bool false)) w := by
    obtain ⟨nv, hnv⟩ : ∃ nv, w.shape? vb = some (tv, nv) := ⟨_, shape_of hvc⟩
    rw [run_callFunc_extern Tryd.func142 (by kernel_rfl) (by kernel_rfl) (by kernel_rfl) (e := Extern.SlicesOverlaps.overlaps #[43, 43] #[4]) (by kernel_rfl),
      Lib.run_overlaps_apart w 43 4 IV Tryd.underlying43 5 (size_of hs5) ⟨vb, 0, none⟩ ⟨g, (i + 1) * 5, none⟩ 1 1 _ _ hvb tv IV nv (C * 5) hnv (by rw [shape_of hg, hsz]) (by omega) ((rowc hvc).2 _) ((rowc hvc).2 _)]
    rfl
  have hxl : xs.length = n * 5 := by rw [← htk, List.length_take, Array.length_toList]; omega
  have hdl : (xs.drop (i * 5)).length = (n - i) * 5 := by rw [List.length_drop]; omega
  have hxc : ∀ j u, xs[j]? = some u → cur.toList[j]? = some u := fun j u hj => by
    rw [← htk] at hj
    rw [List.getElem?_take] at hj
    split at hj
    · exact hj
    · cases hj
  have hcp1 : ∀ ty, (Builtin.copy_ #[43, 43] ty #[.slice (some ⟨g, (i + 1) * 5, none⟩) (n - i) (C - (i + 1)), .slice (some ⟨g, i * 5, none⟩) (n + 1 - i) (C - i)]).run Tryd.prog w.drew = .ok (goInt ((n - i : Nat) : Int)) (w.drew.setRow g (cur.toList.take ((i + 1) * 5) ++ xs.drop (i * 5) ++ cur.toList.drop ((i + 1) * 5 + (xs.drop (i * 5)).length)).toArray) := fun ty =>
    run_copy_5 w.drew _ _ ty IV g ((i + 1) * 5) (n - i) (C - (i + 1)) ⟨g, i * 5, none⟩ (n + 1 - i) (C - i) cur IV (xs.drop (i * 5)) (n - i) Tryd.underlying43 hs5 hg (by simp only [Nat.min_def]; split <;> omega) hdl
      (fun j u hj => by
        rw [List.getElem?_drop] at hj
        rw [Addr.add_lit]
        refine ((rowc hg).1 _).trans ?_
        rw [← Array.getElem?_toList]
        exact hxc _ _ hj) (by rw [hdl]; omega) (fun u hu => hx1 u (List.mem_of_mem_drop hu))
  obtain ⟨row1, hrow1⟩ : ∃ r, r = (cur.toList.take ((i + 1) * 5) ++ xs.drop (i * 5) ++ cur.toList.drop ((i + 1) * 5 + (xs.drop (i * 5)).length)).toArray := ⟨_, rfl⟩
  rw [← hrow1] at hcp1
  have hr1s : row1.size = C * 5 := by rw [hrow1]; simp; omega
  obtain ⟨W1, hW1⟩ : ∃ W, W = w.drew.setRow g row1 := ⟨_, rfl⟩
  rw [← hW1] at hcp1
  have hg1 : W1.heap[g]? = some (.cells row1 IV (0, 0)) := by rw [hW1]; exact setRow_heap _ _ _ _ _ _ hg
  have hcp2 : ∀ ty, (Builtin.copy_ #[43, 43] ty #[.slice (some ⟨g, i * 5, none⟩) (n + 1 - i) (C - i), .slice (some ⟨vb, 0, none⟩) 1 1]).run Tryd.prog W1 = .ok (goInt 1) (W1.setRow g (row1.toList.take (i * 5) ++ five ++ row1.toList.drop (i * 5 + five.length)).toArray) := fun ty =>
    run_copy_5 W1 _ _ ty IV g (i * 5) (n + 1 - i) (C - i) ⟨vb, 0, none⟩ 1 1 row1 IV five 1 Tryd.underlying43 hs5 hg1 (by simp only [Nat.min_def]; split <;> omega) (by omega)
      (fun j u hj => by
        have h := hv j u hj
        rw [Addr.add_lit] at h ⊢
        have : W1.heap[vb]? = w.heap[vb]? := by rw [hW1]; exact (fr_row w.drew g row1).block vb (Array.getElem?_eq_some_iff.1 hvc).1 hvb
        exact cell_stays (fun _ => this) h) (by rw [hr1s, h5]; omega) h1
  obtain ⟨row2, hrow2⟩ : ∃ r, r = (row1.toList.take (i * 5) ++ five ++ row1.toList.drop (i * 5 + five.length)).toArray := ⟨_, rfl⟩
  rw [← hrow2] at hcp2
  have HQ : Hid (InsQ w g (n + 1) C (xs.take (i * 5) ++ five ++ xs.drop (i * 5)) (.returned (.slice (some ⟨g, 0, none⟩) (n + 1) C)) (W1.setRow g row2)) := Lib.hid (by
    refine ⟨rfl, ⟨row2, setRow_heap _ _ _ _ _ _ hg1, ?_, ?_⟩, ?_⟩
    · rw [hrow2]; simp; omega
    · have hct : cur.toList.take (i * 5) = xs.take (i * 5) := by rw [← htk, List.take_take, Nat.min_eq_left (by omega)]
      have hlt : (xs.take (i * 5)).length = i * 5 := by rw [List.length_take]; omega
      have hlt1 : (cur.toList.take ((i + 1) * 5)).length = (i + 1) * 5 := by rw [List.length_take, Array.length_toList]; omega
      have e1 : row1.toList.take (i * 5) = xs.take (i * 5) := by
        rw [hrow1]
        show List.take _ (_ ++ _ ++ _) = _
        rw [List.append_assoc, List.take_append_of_le_length (by omega), List.take_take, Nat.min_eq_left (by omega), hct]
      have e2 : row1.toList.drop (i * 5 + five.length) = xs.drop (i * 5) ++ cur.toList.drop ((i + 1) * 5 + (xs.drop (i * 5)).length) := by
        rw [hrow1]
        show List.drop _ (_ ++ _ ++ _) = _
        rw [List.append_assoc, List.drop_append_of_le_length (by omega), List.drop_of_length_le (by omega), List.nil_append]
      rw [hrow2, e1, e2]
      show List.take _ (_ ++ _ ++ (_ ++ _)) = _
      rw [← List.append_assoc, List.take_append_of_le_length (by simp only [List.length_append]; omega), List.take_of_length_le (by simp only [List.length_append]; omega)]
    · rw [hW1]
      exact ((Fr.of ((Below.refl w.heap.size w).drew)).trans (fr_row w.drew g row1)).trans (fr_row _ g row2))
  subst hW1
  clear hg hvc hv h1 hx1 htk hsz hrow1 hrow2 hr1s hg1 hxc hdl hxl hs5 hi hz h5
  go_enter Tryd.func120, Tryd.ntmps120
  go_wp2_with (simp only [hov])
  go_region
  clear hov hcp1
  go_wp2_with (fail)
  go_ret
  exact HQ.out

end Go.Proofs.YtlbkbcafkjgckaaDoor.tree

