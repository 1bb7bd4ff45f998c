/-
  Lex of the project.
  Conditions: the variables that are listed hold what the program's text lays; the text has at most 2^40 bytes.
-/
import Derived.Test.YtakdbfifbkngnaaGreatDoorLaSLxD
import Derived.Test.YtakdbfifbkngnaaGreatDoorLaSLxE
namespace Go.Proofs.YtakdbfifbkngnaaGreatDoor.lex
open Go.ChangeShapes Go.WideShapes Go.ChangeAt Go.RowKit
set_option linter.unusedVariables false

def LexQ (w : World) (s : ByteArray) (e : Ending) (w' : World) : Prop :=
  ∃ (v : Value) (out : List Tk) (c p : Nat), e = .returned (.tuple #[v, .int .i64 (c : Int), .int .i64 (p : Int)]) ∧ TRow w' w.heap.size v out ∧ Below w.heap.size w w' ∧ LexR s.data.toList out c p

set_option maxHeartbeats 4000000 in
set_option maxRecDepth 100000 in
theorem lex_i (s : ByteArray) (hs : s.size ≤ 1099511627776) (w : World) (hV : Vars w) (hM : MaxL w) : Calls Tryz.prog 8 #[.string s] w (LexQ w s) := by
  have hlen : s.data.toList.length = s.size := lead.size_eq s
  by_cases hbig : 4000 < s.size
  · have hb' : (4000 : Int) < (s.size : Int) := by omega
    go_enter Tryz.func8, Tryz.ntmps8
    go_wp2
    go_ret3
    exact ⟨_, [], 1, 0, rfl, TRow.made w, b1 _ _, by simp, .inl ⟨by omega, rfl, rfl, rfl⟩⟩
  · have hb' : ¬ (4000 : Int) < (s.size : Int) := by omega
    have hs4 : s.size ≤ 4000 := by omega
    obtain ⟨L, HL⟩ : ∃ L, Hid (s.data.toList = L) := ⟨_, Lib.hid rfl⟩
    rw [HL.out] at hlen
    have HLE := Lib.hid hlen
    have HVV := Lib.hid hV
    have HM := Lib.hid hM
    have HS0 : Hid (St w.heap.size s 0 [] (w.alloc (.cells #[.string s, .int .i64 0, .slice none 0 0] TL))) := Lib.hid ⟨_, heap_alloc_new w _, TRow.nil _ _⟩
    clear hlen hV hM
    go_enter Tryz.func8, Tryz.ntmps8
    go_wp2_with (fail)
    go_loopg [] s.size (fun gk wr => ∃ (p : Nat) (out : List Tk), gk + p = s.size ∧ p ≤ s.size ∧ Hid (St w.heap.size s p out wr) ∧ Hid (Mid L false p out) ∧ Hid (Below w.heap.size w wr))
    case atStart => exact ⟨0, [], by omega, by omega, HS0, Lib.hid (Mid.of (Sofar.start L) (Nat.zero_le _)), Lib.hid (b1 _ _)⟩
    case round =>
      obtain ⟨p, out, hgk, hps, HS, HMi, HB⟩ := hrel
      have hstq := HS.out
      obtain ⟨v, hv, htr⟩ := hstq
      have HTR := Lib.hid htr
      obtain ⟨rr, ff⟩ := rowc hv
      have c1 := rr 1
      have c2 := rr 2
      simp only [List.getElem?_toArray, List.getElem?_cons_zero, List.getElem?_cons_succ] at c1 c2
      clear hv rr ff htr
      by_cases hlt : p < s.size
      · have RI := readInline w HM.out s p out hs4 hlt wr HB.out HS.out (by rw [HL.out]; exact HMi.out)
        have HRI := Lib.hid RI
        clear RI c2
        go_wp2_with (fail)
        refine HRI.out.mono ?_
        rintro e w1 ⟨p1, out1, rfl, hst1, hm1, hpp, hb1⟩
        have hp1 : p1 ≤ s.size := by have := hm1.1; rwa [lead.size_eq] at this
        have RC := readCode w HVV.out HM.out s p1 out1 hs4 w1 hb1 hst1 hm1
        have HRC := Lib.hid RC
        clear RC hst1 hm1 hb1 HRI c1
        go_wp2_with (fail)
        refine HRC.out.mono ?_
        rintro e w2 ⟨p2, c, out2, rfl, hst2, hp12, hp2, hc4, hb2, hcase⟩
        have HS2 := Lib.hid hst2
        have HB2 := Lib.hid hb2
        obtain ⟨v2, hv2, htr2⟩ := hst2
        obtain ⟨rr, ff⟩ := rowc hv2
        have d1 := rr 1
        simp only [List.getElem?_toArray, List.getElem?_cons_zero, List.getElem?_cons_succ] at d1
        clear hv2 rr ff htr2 hb2 HRC
        rcases hcase with ⟨rfl, hmid⟩ | ⟨hc, hbad⟩
        · have HMid := Lib.hid hmid
          clear hmid
          go_wp2_with (fail)
          go_roundg (s.size - p2)
          case rel => exact ⟨p2, out2, by omega, hp2, HS2, Lib.hid (by have := HMid.out; rwa [HL.out] at this), HB2⟩
          case measure => omega
        · have HBAD := Lib.hid hbad
          have hc0 : ((c : Int) == 0) = false := beq_eq_false_iff_ne.2 (by omega)
          have d1a : ∀ o, (w2.alloc o).cell? ⟨w.heap.size, 1, none⟩ = some (.int .i64 (p2 : Int)) := fun o => cell_stays (fun hl => (b1 w2 o).block _ hl) d1
          clear hbad
          go_wp2_with (fail)
          go_region
          all_goals
            go_wp2_with (fail)
            go_ret3
            refine ⟨_, [], c, p2, rfl, ?_, ?_, by simp, .inr ⟨by rw [HL.out, HLE.out]; omega, .inr ⟨hc, rfl, HBAD.out⟩⟩⟩
            · first | exact (TRow.made w2).lo HB2.out.size | exact (TRow.made w2.drew).lo HB2.out.size
            · first | exact HB2.out.alloc HB2.out.size _ | exact (HB2.out.alloc HB2.out.size _).drew | exact HB2.out.drew.alloc HB2.out.size _
      · have HFin := Lib.hid (HMi.out.fin (by rw [HLE.out]; omega))
        have hol := HMi.out.2.1
        go_wp2_with (fail)
        go_ret3
        exact ⟨_, out, 0, 0, rfl, HTR.out.lo (Nat.le_succ _), HB.out, by omega, .inr ⟨by rw [HL.out, HLE.out]; omega, .inl ⟨rfl, rfl, by rw [HL.out]; exact HFin.out⟩⟩⟩

end Go.Proofs.YtakdbfifbkngnaaGreatDoor.lex

