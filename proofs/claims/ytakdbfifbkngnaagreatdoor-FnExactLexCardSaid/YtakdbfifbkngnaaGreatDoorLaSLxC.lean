/-
  The project's lexer: spaces, comments, tags and inline text.
  Conditions: those that each theorem names.
-/
import Derived.Test.YtakdbfifbkngnaaGreatDoorLaB2
import Derived.Test.YtakdbfifbkngnaaGreatDoorLaSLxT
import Derived.Test.YtakdbfifbkngnaaGreatDoorLaB1
namespace Go.Proofs.YtakdbfifbkngnaaGreatDoor.lex
open Go.ChangeShapes Go.WideShapes Go.ChangeAt Go.RowKit
set_option linter.unusedVariables false

/-- The library's variable of the greatest length to search holds some number. -/
def MaxL (w : World) : Prop := ∃ m, w.cell? ⟨1, 0, none⟩ = some (.int .i64 m)
theorem MaxL.stays {w w' : World} (h : MaxL w) (hb : Below w.heap.size w w') : MaxL w' := by
  obtain ⟨m, hm⟩ := h
  exact ⟨m, cell_stays (fun hl => hb.block _ hl) hm⟩
theorem cut_i (a : UInt8) (p : List UInt8) (s : ByteArray) (hs : s.size ≤ 1000000) (w : World) (hM : MaxL w) :
    Calls Tryz.prog 62 #[.string s, .string (tx (a :: p))] w fun e w' => (∃ r, e = .returned (.tuple #[.string (tx (s.data.toList.take (upto (a :: p) s.data.toList))), .string r, .bool (decide (upto (a :: p) s.data.toList < s.data.toList.length))])) ∧ Below w.heap.size w w' := by
  obtain ⟨m, hm⟩ := hM
  refine (Tryz.strings_Cut s (tx (a :: p)) m w (by omega) hm).mono ?_
  rintro e w' ⟨rfl, n, rfl⟩
  rw [tx_list]
  obtain ⟨h1, h2⟩ := cut_upto a p s.data.toList
  rw [h1, h2]
  exact ⟨⟨_, rfl⟩, below_drewNg _ _⟩

theorem zSet : (Tryz.prog.info? 185).map (fun i => (i.zero, i.size)) = some (some (.agg (Array.replicate 256 (.bool false))), 256) := by kernel_rfl
theorem trim_i (s : ByteArray) (hs : s.size ≤ 1000000) (w : World) : Calls Tryz.prog 108 #[.string s, .string ⟨#[32, 9, 10, 13]⟩] w (TxQ w (tx (s.data.toList.drop (spc s.data.toList)))) := by
  by_cases h0 : s.size = 0
  · refine (Any.strings_TrimLeft_empty Tryz.lays161 s ⟨#[32, 9, 10, 13]⟩ w (.inl h0)).mono ?_
    rintro e w' ⟨rfl, rfl⟩
    have : s = ⟨#[]⟩ := empty_is h0
    subst this
    exact ⟨rfl, Below.refl _ _⟩
  · obtain ⟨i, hi, hz⟩ := Option.map_eq_some_iff.1 zSet
    have hz1 : i.zero = some (.agg (Array.replicate 256 (.bool false))) := congrArg Prod.fst hz
    have hz2 : i.size = 256 := congrArg Prod.snd hz
    refine (Any.strings_TrimLeft_set Tryz.lays161 (fun w => ?_) ?_ s ⟨#[32, 9, 10, 13]⟩ w (by decide) (by omega) (by decide) ?_).mono ?_
    · show (zeroValue 185).run Tryz.prog w = _
      simp [zeroValue, typeInfo, hi, hz1]
    · show (Tryz.prog.info? 185).map (·.size) = some 256
      rw [hi, Option.map_some, hz2]
    · intro j b hb
      have : b ∈ [(32 : UInt8), 9, 10, 13] := List.mem_of_getElem? hb
      simp at this
      rcases this with rfl | rfl | rfl | rfl <;> decide
    · rintro e w' ⟨rfl, rfl⟩
      refine ⟨?_, b2 _ _ _⟩
      rw [show (⟨#[32, 9, 10, 13]⟩ : ByteArray).data.toList = [32, 9, 10, 13] from rfl, spc_trim]

theorem leadingSpace (s : ByteArray) (hs : s.size ≤ 1000000) (w : World) : Calls Tryz.prog 66 #[.string s] w fun e w' => e = .returned (.int .i64 ((spc s.data.toList : Nat) : Int)) ∧ Below w.heap.size w w' := by
  have TI := trim_i s hs
  have hle := spc_le s.data.toList
  rw [lead.size_eq] at hle
  obtain ⟨T, HT⟩ : ∃ T, Hid (tx (s.data.toList.drop (spc s.data.toList)) = T) := ⟨_, Lib.hid rfl⟩
  have hz : T.size = s.size - spc s.data.toList := by rw [← HT.out, tx_size, List.length_drop, lead.size_eq]
  rw [HT.out] at TI
  obtain ⟨n, hn⟩ : ∃ n, spc s.data.toList = n := ⟨_, rfl⟩
  rw [hn] at hz hle ⊢
  have en : (s.size : Int) - (T.size : Int) = (n : Int) := by omega
  have HTI := Lib.hid TI
  clear TI hn HT hz
  go_enter Tryz.func66, Tryz.ntmps66
  go_wp2_with (fail)
  refine (HTI.out _).mono ?_
  rintro e w1 ⟨rfl, hb⟩
  have HB := Lib.hid hb
  clear hb
  go_wp2_with (fail)
  go_ret
  exact ⟨rfl, HB.out⟩

theorem leadingComment (s : ByteArray) (hs : s.size ≤ 1000000) (w : World) (hM : MaxL w) : Calls Tryz.prog 68 #[.string s] w fun e w' => e = .returned (.int .i64 ((cmt s.data.toList : Nat) : Int)) ∧ Below w.heap.size w w' := by
  have hu := upto_le [10] s.data.toList
  rw [lead.size_eq] at hu
  obtain ⟨N, HN⟩ : ∃ N, Hid (tx (s.data.toList.take (upto [10] s.data.toList)) = N) := ⟨_, Lib.hid rfl⟩
  have hN : N.size ≤ 1000000 := by rw [← HN.out, tx_size, List.length_take, lead.size_eq]; omega
  have hNl : N.data.toList = s.data.toList.take (upto [10] s.data.toList) := by rw [← HN.out, tx_list]
  have C1 := cut_i 10 [] s hs
  have C2 := cut_i 63 [62] N hN
  rw [HN.out] at C1
  rw [hNl, cmt_eq] at C2
  obtain ⟨Cm, HC⟩ : ∃ Cm, Hid (tx ((s.data.toList.take (upto [10] s.data.toList)).take (cmt s.data.toList)) = Cm) := ⟨_, Lib.hid rfl⟩
  have hcm := upto_le [63, 62] (s.data.toList.take (upto [10] s.data.toList))
  rw [cmt_eq] at hcm
  have hz : Cm.size = cmt s.data.toList := by rw [← HC.out, tx_size, List.length_take]; omega
  rw [HC.out] at C2
  obtain ⟨d1, HD1⟩ : ∃ d, Hid (decide (upto [10] s.data.toList < s.data.toList.length) = d) := ⟨_, Lib.hid rfl⟩
  obtain ⟨d2, HD2⟩ : ∃ d, Hid (decide (cmt s.data.toList < (s.data.toList.take (upto [10] s.data.toList)).length) = d) := ⟨_, Lib.hid rfl⟩
  rw [HD1.out] at C1
  rw [HD2.out] at C2
  rw [← hz]
  have HC1 := Lib.hid C1; have HC2 := Lib.hid C2; have HM := Lib.hid hM
  have hCm : Cm.size ≤ 1000000 := by rw [hz]; rw [List.length_take, lead.size_eq] at hcm; omega
  clear C1 C2 hM HN HC HD1 HD2 hz hcm hNl hu
  go_enter Tryz.func68, Tryz.ntmps68
  go_wp2_with (fail)
  refine (HC1.out _ HM.out).mono ?_
  rintro e w1 ⟨⟨r, rfl⟩, hb⟩
  have HB := Lib.hid hb
  clear hb
  go_wp2_with (fail)
  refine (HC2.out _ (HM.out.stays HB.out)).mono ?_
  rintro e w2 ⟨⟨r2, rfl⟩, hb⟩
  have HB2 := Lib.hid (bs HB.out hb)
  clear hb
  go_wp2_with (fail)
  go_ret
  exact ⟨rfl, HB2.out⟩

/-- readClosingTag. -/
theorem readClosingTag (B : Nat) (s : ByteArray) (p : Nat) (out : List Tk) (hs : s.size ≤ 4000) (hp : p + 2 ≤ s.size) (ho : out.length ≤ p) (w : World) (h : St B s p out w) :
    Calls Tryz.prog 67 #[.pointer (some ⟨B, 0, none⟩)] w fun e w' => e = .returned (.tuple #[]) ∧ St B s (p + 2 + if [10].isPrefixOf (s.data.toList.drop (p + 2)) then 1 else 0) (out ++ [⟨6, 0, tx [59], p⟩]) w' ∧ Below B w w' := by
  have H := Lib.hid h
  have HBW := Lib.hid h.lt
  obtain ⟨x, hx⟩ : ∃ x, s.extract (p + 2) s.size = x := ⟨_, rfl⟩
  have HX := Lib.hid hx
  obtain ⟨b, HBb⟩ : ∃ b, Hid (Lib.hasPrefix x.data.toList [10] = b) := ⟨_, Lib.hid rfl⟩
  have HBB : Hid ([10].isPrefixOf (s.data.toList.drop (p + 2)) = b) := Lib.hid (by rw [← HBb.out, ← hx, tail_list]; rfl)
  rw [HBB.out]
  clear h hx
  cases b
  · go_enter Tryz.func67, Tryz.ntmps67
    go_wp2_with (fail)
    refine (add B s p out 6 0 ⟨#[59]⟩ 0 2 (by omega) (by omega) (by omega) (by decide) _ H.out).mono ?_
    rintro e w1 ⟨rfl, hst, hb⟩
    have H1 := Lib.hid hst
    have HB1 := Lib.hid hb
    clear hst hb
    go_wp2_with (fail)
    refine (rest B s (p + 2) _ hp (by omega) _ H1.out).mono ?_
    rintro e w2 ⟨he, hb⟩
    rw [HX.out] at he
    subst he
    have H2 := Lib.hid (H1.out.below hb)
    have HB2 := Lib.hid (HB1.out.trans (hb.mono (by have := HB1.out.size; have := HBW.out; omega)))
    clear hb
    go_wp2_with (go_at_call 65; refine (Tryz.strings_HasPrefix x ⟨#[10]⟩ _).mono ?_; rintro e w3 ⟨he, rfl⟩; obtain rfl : e = .returned (.bool _) := he.trans (congrArg (fun b => Ending.returned (.bool b)) HBb.out); clear he)
    go_end0
    exact ⟨rfl, H2.out, HB2.out⟩
  · go_enter Tryz.func67, Tryz.ntmps67
    go_wp2_with (fail)
    refine (add B s p out 6 0 ⟨#[59]⟩ 0 2 (by omega) (by omega) (by omega) (by decide) _ H.out).mono ?_
    rintro e w1 ⟨rfl, hst, hb⟩
    have H1 := Lib.hid hst
    have HB1 := Lib.hid hb
    clear hst hb
    go_wp2_with (fail)
    refine (rest B s (p + 2) _ hp (by omega) _ H1.out).mono ?_
    rintro e w2 ⟨he, hb⟩
    rw [HX.out] at he
    subst he
    have hst2 := H1.out.below hb
    have H2 := Lib.hid hst2
    have HB2 := Lib.hid (HB1.out.trans (hb.mono (by have := HB1.out.size; have := HBW.out; omega)))
    obtain ⟨v, hv, -⟩ := hst2
    obtain ⟨r, f⟩ := rowc hv
    have c1 := r 1
    have f1 := f 1
    simp only [List.getElem?_toArray, List.getElem?_cons_zero, List.getElem?_cons_succ] at c1
    clear hb hv r f
    go_wp2_with (go_at_call 65; refine (Tryz.strings_HasPrefix x ⟨#[10]⟩ _).mono ?_; rintro e w3 ⟨he, rfl⟩; obtain rfl : e = .returned (.bool _) := he.trans (congrArg (fun b => Ending.returned (.bool b)) HBb.out); clear he)
    go_end0
    refine ⟨rfl, ?_, HB2.out.setCell (p := ⟨B, 1, none⟩) (Nat.le_refl _) _⟩
    have := H2.out.move (p + 2 + 1)
    simpa using this

end Go.Proofs.YtakdbfifbkngnaaGreatDoor.lex

