/-
  What the project's ParseInt and ParseSigned return: the number whose decimal numeral the text is, if there is one in range, and else 0 and false.
  Conditions: the text has at most 2^48 bytes; the library's table of powers of ten and its two errors hold what its text lays.
-/
import Derived.Test.YtlbkbcafkjgckaaDoorFormat
import Derived.Test.YtlbkbcafkjgckaaDoorSmall
namespace Go.Proofs.YtlbkbcafkjgckaaDoor.prs
open Go.ChangeShapes Go.WideShapes Go.ChangeAt Go.RowKit Go.Sort Go.Lib
set_option linter.unusedVariables false

/-- What the library's reading wants of the world. -/
def Env (w : World) : Prop := fmt.Tab w ∧ (∃ tp p, w.var? Tryd.prog "strconv.ErrSyntax" = some #[.iface tp p]) ∧ (∃ tp p, w.var? Tryd.prog "strconv.ErrRange" = some #[.iface tp p])
theorem gES : Tryd.prog.globalNamed "strconv.ErrSyntax" = some 3 := by kernel_rfl
theorem gER : Tryd.prog.globalNamed "strconv.ErrRange" = some 4 := by kernel_rfl
theorem Env.stays {w w' : World} (h : Env w) (hb : RowKit.Below w.heap.size w w') : Env w' := by
  obtain ⟨h1, ⟨t2, p2, h2⟩, ⟨t3, p3, h3⟩⟩ := h
  exact ⟨h1.stays hb, ⟨t2, p2, Joins.var_stays gES h2 hb (Nat.le_refl _)⟩, ⟨t3, p3, Joins.var_stays gER h3 hb (Nat.le_refl _)⟩⟩

def two (x : Int × Bool) : Value := .tuple #[.int .i64 x.1, .bool x.2]

theorem libAtoi_ok (s : ByteArray) (hl : s.size ≤ 281474976710656) (v : Int) (h : Lib.atoiAll s.data.toList = .ok v) (w : World) :
    Calls Tryd.prog 151 #[.string s] w fun e w' => e = .returned (.tuple #[.int .i64 v, .nilIface]) ∧ RowKit.Below w.heap.size w w' :=
  (Tryd.strconv_Atoi_ok s (by omega) v h w).mono fun e w' ⟨he, hw⟩ => ⟨he, by
    rcases hw with rfl | ⟨t, rfl⟩
    · exact RowKit.Below.refl _ _
    · exact Lib.bytesWorld_below _ _ _⟩

theorem libAtoi_bad (s : ByteArray) (hl : s.size ≤ 281474976710656) (h : ∀ v, Lib.atoiAll s.data.toList ≠ .ok v) (w : World) (hE : Env w) :
    Calls Tryd.prog 151 #[.string s] w fun e w' => ∃ (n : Int) (N : Nat), e = .returned (.tuple #[.int .i64 n, .iface 185 (.pointer (some ⟨N, 0, none⟩))]) ∧ RowKit.Below w.heap.size w w' := by
  obtain ⟨_, ⟨t2, p2, h2⟩, ⟨t3, p3, h3⟩⟩ := hE
  by_cases hr : Lib.atoiAll s.data.toList = .range
  · exact (Tryd.strconv_Atoi_range_var s hl hr t3 p3 w h3).mono fun e w' ⟨N, he, _, _, hb⟩ => ⟨_, N, he, hb⟩
  · exact (Tryd.strconv_Atoi_syntax_var s hl (fun e he => ⟨fun hh => hr (he.trans hh), fun v hh => h v (he.trans hh)⟩) t2 p2 w h2).mono fun e w' ⟨N, he, _, _, hb⟩ => ⟨_, N, he, hb⟩

theorem within (s : ByteArray) (low high : Int) (hl : s.size ≤ 281474976710656) (w : World) (hE : Env w) :
    Calls Tryd.prog 137 #[.string s, .int .i64 low, .int .i64 high] w fun e w' => e = .returned (two (dec.pr low high s.data.toList)) ∧ RowKit.Below w.heap.size w w' := by
  have HE := Lib.hid hE; clear hE
  by_cases hv : ∃ v, Lib.atoiAll s.data.toList = .ok v
  · obtain ⟨v, hv⟩ := hv
    obtain ⟨v0, v1⟩ := Lib.atoiAll_bounds hv
    have hpr : dec.pr low high s.data.toList = if Lib.itoa v = s.data.toList ∧ low ≤ v ∧ v ≤ high then (v, true) else (0, false) := by unfold dec.pr; rw [hv]
    have HV := Lib.hid hv; clear hv
    by_cases hs : Lib.itoa v = s.data.toList
    · have hn : fmt.num v = .string s := by unfold fmt.num; rw [hs, Joins.bytes_eta]
      by_cases hr : nums.inr v low high = true
      · have hp : dec.pr low high s.data.toList = (v, true) := by rw [hpr, if_pos]; unfold nums.inr at hr; simp at hr; exact ⟨hs, hr.1, hr.2⟩
        have HP := Lib.hid hp; have HN := Lib.hid hn; have HR := Lib.hid hr; clear hp hn hr hpr hs
        go_enter Tryd.func137, Tryd.ntmps137
        go_wp2_with (first | (go_at_call 151; refine (libAtoi_ok s hl v HV.out _).mono ?_; rintro e w1 ⟨rfl, hb1⟩) | (go_at_call 123; refine (fmt.implFormat v v0 v1 _ (HE.out.stays hb1).1).mono ?_; rintro e w2 ⟨rfl, hb2⟩; rw [HN.out]) | (go_at_call 86; refine (nums.implInRange _ _ _ _).mono ?_; rintro e w3 ⟨rfl, rfl⟩; rw [HR.out]))
        go_ret2
        exact ⟨by rw [HP.out]; rfl, hb1.trans (hb2.mono hb1.size)⟩
      · have hr' : nums.inr v low high = false := by simpa using hr
        have hp : dec.pr low high s.data.toList = (0, false) := by rw [hpr, if_neg]; unfold nums.inr at hr; simp at hr; intro hh; have := hr hh.2.1; omega
        have HP := Lib.hid hp; have HN := Lib.hid hn; have HR := Lib.hid hr'; clear hp hn hr hr' hpr hs
        go_enter Tryd.func137, Tryd.ntmps137
        go_wp2_with (first | (go_at_call 151; refine (libAtoi_ok s hl v HV.out _).mono ?_; rintro e w1 ⟨rfl, hb1⟩) | (go_at_call 123; refine (fmt.implFormat v v0 v1 _ (HE.out.stays hb1).1).mono ?_; rintro e w2 ⟨rfl, hb2⟩; rw [HN.out]) | (go_at_call 86; refine (nums.implInRange _ _ _ _).mono ?_; rintro e w3 ⟨rfl, rfl⟩; rw [HR.out]))
        go_ret2
        exact ⟨by rw [HP.out]; rfl, hb1.trans (hb2.mono hb1.size)⟩
    · have hp : dec.pr low high s.data.toList = (0, false) := by rw [hpr, if_neg]; exact fun hh => hs hh.1
      obtain ⟨b, hn, hbs⟩ : ∃ b, fmt.num v = .string b ∧ b ≠ s := ⟨_, rfl, fun hh => hs (by rw [← hh])⟩
      have hbs1 : ¬ b.toList = s.toList := fun hh => hbs (by rw [ByteArray.toList_eq, ByteArray.toList_eq] at hh; exact Go.WideShapes.bytes_inj hh)
      have HP := Lib.hid hp; have HN := Lib.hid hn; clear hp hn hpr hs hbs
      go_enter Tryd.func137, Tryd.ntmps137
      go_wp2_with (first | (go_at_call 151; refine (libAtoi_ok s hl v HV.out _).mono ?_; rintro e w1 ⟨rfl, hb1⟩) | (go_at_call 123; refine (fmt.implFormat v v0 v1 _ (HE.out.stays hb1).1).mono ?_; rintro e w2 ⟨rfl, hb2⟩; rw [HN.out]))
      go_ret2
      exact ⟨by rw [HP.out]; rfl, hb1.trans (hb2.mono hb1.size)⟩
  · have hp : dec.pr low high s.data.toList = (0, false) := by
      unfold dec.pr
      split
      · rename_i n hn
        exact absurd ⟨n, hn⟩ hv
      · rfl
    have hv' : ∀ v, Lib.atoiAll s.data.toList ≠ .ok v := fun v hh => hv ⟨v, hh⟩
    have HP := Lib.hid hp; have HV := Lib.hid hv'; clear hp hv hv'
    go_enter Tryd.func137, Tryd.ntmps137
    go_wp2_with (first | (go_at_call 151; refine (libAtoi_bad s hl HV.out _ HE.out).mono ?_; rintro e w1 ⟨n, N, rfl, hb1⟩))
    go_ret2
    exact ⟨by rw [HP.out]; rfl, hb1⟩

end Go.Proofs.YtlbkbcafkjgckaaDoor.prs
