/-
  What the texts behind this one use: 11 parts of one proof.
  Conditions: those that each theorem names.
-/
import Derived.Test.YtlbkbcafkjgckaaDoorCmB2
import Derived.Test.YtlbkbcafkjgckaaDoorCmB1
import Derived.Lib.IndexBytes
import Derived.Test.YtlbkbcafkjgckaaDoorCmSTreeEq
import Derived.Test.YtlbkbcafkjgckaaDoorSoB2
import Derived.Test.YtlbkbcafkjgckaaDoorCmB4
import Derived.Deep.RegionHeld3
import Derived.Deep.CutBlock
import Derived.Deep.DeepCutAuto
import Derived.Deep.LoopGhost
import Derived.BigQuiet
import Derived.Deep.QuietTactic
import Derived.Test.YtlbkbcafkjgckaaDoorCmB5
import Derived.Test.YtlbkbcafkjgckaaDoorCmSMarks
/-
  What the project's ParseInt and ParseSigned return: the number whose decimal numeral the text is, if there is one in range, and else 0 and false.
  Conditions: the text has at most 2^48 bytes; the library's table of powers of ten and its two errors hold what its text lays.
-/
namespace Go.Proofs.YtlbkbcafkjgckaaDoor.prs
open Go.ChangeShapes Go.WideShapes Go.ChangeAt Go.RowKit Go.Sort Go.Lib
set_option linter.unusedVariables false

/-- What the library's reading wants of the world. -/
def Env (w : World) : Prop := fmt.Tab w ∧ (∃ tp p, w.var? Tryd.prog "strconv.ErrSyntax" = some #[.iface tp p]) ∧ (∃ tp p, w.var? Tryd.prog "strconv.ErrRange" = some #[.iface tp p])
theorem gES : Tryd.prog.globalNamed "strconv.ErrSyntax" = some 3 := by kernel_rfl
theorem gER : Tryd.prog.globalNamed "strconv.ErrRange" = some 4 := by kernel_rfl
theorem Env.stays {w w' : World} (h : Env w) (hb : RowKit.Below w.heap.size w w') : Env w' := by
  obtain ⟨h1, ⟨t2, p2, h2⟩, ⟨t3, p3, h3⟩⟩ := h
  exact ⟨h1.stays hb, ⟨t2, p2, Joins.var_stays gES h2 hb (Nat.le_refl _)⟩, ⟨t3, p3, Joins.var_stays gER h3 hb (Nat.le_refl _)⟩⟩

def two (x : Int × Bool) : Value := .tuple #[.int .i64 x.1, .bool x.2]

theorem libAtoi_ok (s : ByteArray) (hl : s.size ≤ 281474976710656) (v : Int) (h : Lib.atoiAll s.data.toList = .ok v) (w : World) :
    Calls Tryd.prog 151 #[.string s] w fun e w' => e = .returned (.tuple #[.int .i64 v, .nilIface]) ∧ RowKit.Below w.heap.size w w' :=
  (Tryd.strconv_Atoi_ok s (by omega) v h w).mono fun e w' ⟨he, hw⟩ => ⟨he, by
    rcases hw with rfl | ⟨t, rfl⟩
    · exact RowKit.Below.refl _ _
    · exact Lib.bytesWorld_below _ _ _⟩

theorem libAtoi_bad (s : ByteArray) (hl : s.size ≤ 281474976710656) (h : ∀ v, Lib.atoiAll s.data.toList ≠ .ok v) (w : World) (hE : Env w) :
    Calls Tryd.prog 151 #[.string s] w fun e w' => ∃ (n : Int) (N : Nat), e = .returned (.tuple #[.int .i64 n, .iface 185 (.pointer (some ⟨N, 0, none⟩))]) ∧ RowKit.Below w.heap.size w w' := by
  obtain ⟨_, ⟨t2, p2, h2⟩, ⟨t3, p3, h3⟩⟩ := hE
  by_cases hr : Lib.atoiAll s.data.toList = .range
  · exact (Tryd.strconv_Atoi_range_var s hl hr t3 p3 w h3).mono fun e w' ⟨N, he, _, _, hb⟩ => ⟨_, N, he, hb⟩
  · exact (Tryd.strconv_Atoi_syntax_var s hl (fun e he => ⟨fun hh => hr (he.trans hh), fun v hh => h v (he.trans hh)⟩) t2 p2 w h2).mono fun e w' ⟨N, he, _, _, hb⟩ => ⟨_, N, he, hb⟩

theorem within (s : ByteArray) (low high : Int) (hl : s.size ≤ 281474976710656) (w : World) (hE : Env w) :
    Calls Tryd.prog 137 #[.string s, .int .i64 low, .int .i64 high] w fun e w' => e = .returned (two (dec.pr low high s.data.toList)) ∧ RowKit.Below w.heap.size w w' := by
  have HE := Lib.hid hE; clear hE
  by_cases hv : ∃ v, Lib.atoiAll s.data.toList = .ok v
  · obtain ⟨v, hv⟩ := hv
    obtain ⟨v0, v1⟩ := Lib.atoiAll_bounds hv
    have hpr : dec.pr low high s.data.toList = if Lib.itoa v = s.data.toList ∧ low ≤ v ∧ v ≤ high then (v, true) else (0, false) := by unfold dec.pr; rw [hv]
    have HV := Lib.hid hv; clear hv
    by_cases hs : Lib.itoa v = s.data.toList
    · have hn : fmt.num v = .string s := by unfold fmt.num; rw [hs, Joins.bytes_eta]
      by_cases hr : nums.inr v low high = true
      · have hp : dec.pr low high s.data.toList = (v, true) := by rw [hpr, if_pos]; unfold nums.inr at hr; simp at hr; exact ⟨hs, hr.1, hr.2⟩
        have HP := Lib.hid hp; have HN := Lib.hid hn; have HR := Lib.hid hr; clear hp hn hr hpr hs
        go_enter Tryd.func137, Tryd.ntmps137
        go_wp2_with (first | (go_at_call 151; refine (libAtoi_ok s hl v HV.out _).mono ?_; rintro e w1 ⟨rfl, hb1⟩) | (go_at_call 123; refine (fmt.implFormat v v0 v1 _ (HE.out.stays hb1).1).mono ?_; rintro e w2 ⟨rfl, hb2⟩; rw [HN.out]) | (go_at_call 86; refine (nums.implInRange _ _ _ _).mono ?_; rintro e w3 ⟨rfl, rfl⟩; rw [HR.out]))
        go_ret2
        exact ⟨by rw [HP.out]; rfl, hb1.trans (hb2.mono hb1.size)⟩
      · have hr' : nums.inr v low high = false := by simpa using hr
        have hp : dec.pr low high s.data.toList = (0, false) := by rw [hpr, if_neg]; unfold nums.inr at hr; simp at hr; intro hh; have := hr hh.2.1; omega
        have HP := Lib.hid hp; have HN := Lib.hid hn; have HR := Lib.hid hr'; clear hp hn hr hr' hpr hs
        go_enter Tryd.func137, Tryd.ntmps137
        go_wp2_with (first | (go_at_call 151; refine (libAtoi_ok s hl v HV.out _).mono ?_; rintro e w1 ⟨rfl, hb1⟩) | (go_at_call 123; refine (fmt.implFormat v v0 v1 _ (HE.out.stays hb1).1).mono ?_; rintro e w2 ⟨rfl, hb2⟩; rw [HN.out]) | (go_at_call 86; refine (nums.implInRange _ _ _ _).mono ?_; rintro e w3 ⟨rfl, rfl⟩; rw [HR.out]))
        go_ret2
        exact ⟨by rw [HP.out]; rfl, hb1.trans (hb2.mono hb1.size)⟩
    · have hp : dec.pr low high s.data.toList = (0, false) := by rw [hpr, if_neg]; exact fun hh => hs hh.1
      obtain ⟨b, hn, hbs⟩ : ∃ b, fmt.num v = .string b ∧ b ≠ s := ⟨_, rfl, fun hh => hs (by rw [← hh])⟩
      have hbs1 : ¬ b.toList = s.toList := fun hh => hbs (by rw [ByteArray.toList_eq, ByteArray.toList_eq] at hh; exact Go.WideShapes.bytes_inj hh)
      have HP := Lib.hid hp; have HN := Lib.hid hn; clear hp hn hpr hs hbs
      go_enter Tryd.func137, Tryd.ntmps137
      go_wp2_with (first | (go_at_call 151; refine (libAtoi_ok s hl v HV.out _).mono ?_; rintro e w1 ⟨rfl, hb1⟩) | (go_at_call 123; refine (fmt.implFormat v v0 v1 _ (HE.out.stays hb1).1).mono ?_; rintro e w2 ⟨rfl, hb2⟩; rw [HN.out]))
      go_ret2
      exact ⟨by rw [HP.out]; rfl, hb1.trans (hb2.mono hb1.size)⟩
  · have hp : dec.pr low high s.data.toList = (0, false) := by
      unfold dec.pr
      split
      · rename_i n hn
        exact absurd ⟨n, hn⟩ hv
      · rfl
    have hv' : ∀ v, Lib.atoiAll s.data.toList ≠ .ok v := fun v hh => hv ⟨v, hh⟩
    have HP := Lib.hid hp; have HV := Lib.hid hv'; clear hp hv hv'
    go_enter Tryd.func137, Tryd.ntmps137
    go_wp2_with (first | (go_at_call 151; refine (libAtoi_bad s hl HV.out _ HE.out).mono ?_; rintro e w1 ⟨n, N, rfl, hb1⟩))
    go_ret2
    exact ⟨by rw [HP.out]; rfl, hb1⟩

end Go.Proofs.YtlbkbcafkjgckaaDoor.prs

/-
  What the model's ParseInt and ParseSigned return: the same numbers as the project's.
  Conditions: the text has at most 2^48 bytes.
-/
namespace Go.Proofs.YtlbkbcafkjgckaaDoor.prs
open Go.ChangeShapes Go.WideShapes Go.ChangeAt Go.RowKit Go.Sort Go.Lib
set_option linter.unusedVariables false


theorem implParseSigned (s : ByteArray) (hl : s.size ≤ 281474976710656) (w : World) (hE : Env w) :
    Calls Tryd.prog 105 #[.string s] w fun e w' => e = .returned (two (dec.pr (-1000000000) 1000000000 s.data.toList)) ∧ RowKit.Below w.heap.size w w' := by
  have HE := Lib.hid hE; clear hE
  generalize hp : dec.pr (-1000000000) 1000000000 s.data.toList = x
  have HP := Lib.hid hp; clear hp
  obtain ⟨x1, x2⟩ := x
  go_enter Tryd.func105, Tryd.ntmps105
  go_wp2_with (go_at_call 137; refine (within s (-1000000000) 1000000000 hl _ HE.out).mono ?_; rintro e w1 ⟨rfl, hb1⟩; rw [HP.out]; unfold two)
  go_ret2
  exact ⟨rfl, hb1⟩

theorem val_lt : ∀ (l : List UInt8) (a : Nat), (∀ b ∈ l, dec.isDig b) → dec.valFrom a l < (a + 1) * 10 ^ l.length
  | [], a, _ => by rw [dec.valFrom_nil]; simp
  | b :: l, a, h => by
    have hb : dec.isDig b := h b List.mem_cons_self
    unfold dec.isDig at hb
    have ih := val_lt l (10 * a + (b.toNat - 48)) (fun x hx => h x (List.mem_cons_of_mem _ hx))
    rw [dec.valFrom_cons]
    have e : (10 * a + (b.toNat - 48) + 1) * 10 ^ l.length ≤ (10 * (a + 1)) * 10 ^ l.length := Nat.mul_le_mul_right _ (by omega)
    have e2 : (10 * (a + 1)) * 10 ^ l.length = (a + 1) * 10 ^ (l.length + 1) := by rw [Nat.pow_succ, Nat.mul_comm 10 (a + 1), Nat.mul_assoc, Nat.mul_comm 10]
    rw [List.length_cons]
    omega

theorem val_small {l : List UInt8} (h : ∀ b ∈ l, dec.isDig b) (hl : l.length ≤ 13) : dec.val l < 10000000000000 := by
  have h1 := val_lt l 0 h
  have h2 : 10 ^ l.length ≤ 10 ^ 13 := Nat.pow_le_pow_right (by omega) hl
  have h3 : (10 : Nat) ^ 13 = 10000000000000 := by decide
  unfold dec.val
  omega

/-- After k bytes, all of them digits, the number is u. -/
def Sofar (l : List UInt8) (k u : Nat) : Prop := (∀ b ∈ l.take k, dec.isDig b) ∧ u = dec.val (l.take k)
theorem Sofar.start (l : List UInt8) : Sofar l 0 0 := ⟨by simp, by simp [dec.val, dec.valFrom_nil]⟩
theorem size_eq (s : ByteArray) : s.data.toList.length = s.size := Array.length_toList
theorem Sofar.step {s : ByteArray} {k u : Nat} (h : Sofar s.data.toList k u) (hk : k < s.size) (hd : dec.isDig s[k]) : Sofar s.data.toList (k + 1) (10 * u + (s[k].toNat - 48)) := by
  have e : s.data.toList.take (k + 1) = s.data.toList.take k ++ [s[k]] := by
    rw [List.take_succ_eq_append_getElem (by rw [size_eq]; exact hk)]; rfl
  unfold Sofar
  rw [e]
  refine ⟨fun b hb => ?_, by rw [dec.val_snoc, h.2]⟩
  rcases List.mem_append.1 hb with hb | hb
  · exact h.1 b hb
  · simp only [List.mem_singleton] at hb
    rw [hb]
    exact hd
theorem mem_at {s : ByteArray} {k : Nat} (hk : k < s.size) : s[k] ∈ s.data.toList := by
  have h : s.data.toList[k]'(by rw [size_eq]; exact hk) ∈ s.data.toList := List.getElem_mem _
  exact h
theorem Sofar.all {s : ByteArray} {u : Nat} (h : Sofar s.data.toList s.size u) : (∀ b ∈ s.data.toList, dec.isDig b) ∧ u = dec.val s.data.toList := by
  unfold Sofar at h
  rw [List.take_of_length_le (by rw [size_eq]; omega)] at h
  exact h
theorem Sofar.small {l : List UInt8} {k u : Nat} (h : Sofar l k u) (hk : k ≤ 13) : u < 10000000000000 := by
  rw [h.2]
  exact val_small h.1 (by rw [List.length_take]; omega)

theorem specParse (s : ByteArray) (hl : s.size ≤ 281474976710656) (w : World) :
    Calls Tryd.prog 104 #[.string s] w fun e w' => e = .returned (two (dec.pr 0 1000000000000 s.data.toList)) ∧ RowKit.Below w.heap.size w w' := by
  rw [← dec.sp_eq]
  have hsz : s.data.toList.length = s.size := Array.length_toList
  by_cases hr : nums.inr (s.size : Int) 1 13 = true
  · have hr1 : 1 ≤ s.size ∧ s.size ≤ 13 := by unfold nums.inr at hr; simp at hr; omega
    have HR := Lib.hid hr; clear hr
    have HZ := Lib.hid hsz; clear hsz
    obtain ⟨hr1, hr2⟩ := hr1
    go_enter Tryd.func104, Tryd.ntmps104
    go_wp2_with (go_at_call 61; refine (nums.l1In _ _ _ _).mono ?_; rintro e w1 ⟨rfl, rfl⟩; rw [HR.out])
    go_loop [4, 5] (fun n i => ∃ (k u : Nat) (x : Int), k ≤ s.size ∧ i = .int .i64 k ∧ Sofar s.data.toList k u ∧ 0 ≤ x ∧ x < 10000000000000 ∧ Hid (x = (u : Int)) ∧ n = .int .i64 x) (fun _ i => s.size - (RowKit.intOf i).toNat)
    case atStart => exact ⟨0, 0, 0, by omega, rfl, Sofar.start _, by omega, by omega, rfl, rfl⟩
    case round =>
      obtain ⟨k, u, x, hk, rfl, hS, hx0, hx1, HX, rfl⟩ := hrel
      by_cases hlt : k < s.size
      · have hb0 : (0 : Int) ≤ (s[k].toNat : Int) := by omega
        have hb9 : (s[k].toNat : Int) ≤ 255 := by have := s[k].toNat_lt; omega
        by_cases hd : dec.isDig s[k]
        · have hd' := hd
          unfold dec.isDig at hd'
          obtain ⟨d1, d2⟩ := hd'
          have D1 : (48 : Int) ≤ (s[k].toNat : Int) := by omega
          have D2 : (s[k].toNat : Int) ≤ 57 := by omega
          have hin : nums.inr (s[k].toNat : Int) 48 57 = true := by unfold nums.inr; simp; omega
          have hS' := hS.step hlt hd
          have hu' := hS'.small (by omega)
          have HS := Lib.hid hS'; have HIN := Lib.hid hin; clear hS hS' hin hd
          go_wp2_with (go_at_call 61; refine (nums.l1In _ _ _ _).mono ?_; rintro e w1 ⟨rfl, rfl⟩; rw [HIN.out])
          exact ⟨⟨k + 1, 10 * u + (s[k].toNat - 48), 10 * x + ((s[k].toNat : Int) - 48), by omega, by go_num, HS.out, by omega, by have := HX.out; omega, by have := HX.out; show _ = _; omega, rfl⟩, by simp only [RowKit.intOf]; omega⟩
        · have hin : nums.inr (s[k].toNat : Int) 48 57 = false := by unfold dec.isDig at hd; unfold nums.inr; simp; omega
          have hsp : dec.sp s.data.toList = (0, false) := by
            unfold dec.sp
            rw [if_neg]
            exact fun hh => hd (hh.2.2.1 _ (mem_at hlt))
          have HSP := Lib.hid hsp; have HIN := Lib.hid hin; clear hS hin hd hsp
          go_wp2_with (go_at_call 61; refine (nums.l1In _ _ _ _).mono ?_; rintro e w1 ⟨rfl, rfl⟩; rw [HIN.out])
          go_ret2
          exact ⟨by rw [HSP.out]; rfl, RowKit.Below.refl _ _⟩
      · obtain rfl : k = s.size := by omega
        obtain ⟨ha, hv⟩ := hS.all
        have hz := HZ.out
        have hx := HX.out
        by_cases hm : 1000000000000 < x
        · have hsp : dec.sp s.data.toList = (0, false) := by
            unfold dec.sp
            rw [if_neg]
            exact fun hh => by have := hh.2.2.2.1; omega
          have HSP := Lib.hid hsp; clear hsp ha hv hz hS hx
          go_wp2
          go_ret2
          exact ⟨by rw [HSP.out]; rfl, RowKit.Below.refl _ _⟩
        · by_cases hi : Lib.itoa (u : Int) = s.data.toList
          · have hn : fmt.num x = .string s := by unfold fmt.num; rw [hx, hi, Joins.bytes_eta]
            have hsp : dec.sp s.data.toList = (x, true) := by
              unfold dec.sp
              rw [if_pos, hx, hv]
              exact ⟨by omega, by omega, ha, by omega, by rw [← hv]; exact hi⟩
            have HSP := Lib.hid hsp; have HN := Lib.hid hn; clear hsp ha hv hz hS hi hn hx
            go_wp2_with (go_at_call 32; refine (fmt.specFormat _ (by omega) (by omega) _).mono ?_; rintro e w2 ⟨rfl, hb2⟩; rw [HN.out])
            go_ret2
            exact ⟨by rw [HSP.out]; rfl, hb2⟩
          · have hsp : dec.sp s.data.toList = (0, false) := by
              unfold dec.sp
              rw [if_neg]
              exact fun hh => hi (by rw [hv]; exact hh.2.2.2.2)
            obtain ⟨b, hn, hbs⟩ : ∃ b, fmt.num x = .string b ∧ b ≠ s := ⟨_, rfl, fun hh => hi (by rw [← hh, hx])⟩
            have hbs1 : ¬ b.toList = s.toList := fun hh => hbs (by rw [ByteArray.toList_eq, ByteArray.toList_eq] at hh; exact Go.WideShapes.bytes_inj hh)
            have hbs2 : (b.toList == s.toList) = false := by rw [beq_eq_false_iff_ne]; exact hbs1
            have HSP := Lib.hid hsp; have HN := Lib.hid hn; clear hsp ha hv hz hS hi hn hbs hx
            go_wp2_with (go_at_call 32; refine (fmt.specFormat _ (by omega) (by omega) _).mono ?_; rintro e w2 ⟨rfl, hb2⟩; rw [HN.out])
            go_ret2
            exact ⟨by rw [HSP.out]; rfl, hb2⟩
  · have hr' : nums.inr (s.size : Int) 1 13 = false := by simpa using hr
    have hsp : dec.sp s.data.toList = (0, false) := by
      unfold dec.sp
      rw [if_neg]
      intro hh
      apply hr
      unfold nums.inr
      simp
      omega
    have HSP := Lib.hid hsp; have HR := Lib.hid hr'; clear hr hr' hsp
    go_enter Tryd.func104, Tryd.ntmps104
    go_wp2_with (go_at_call 61; refine (nums.l1In _ _ _ _).mono ?_; rintro e w1 ⟨rfl, rfl⟩; rw [HR.out])
    go_ret2
    exact ⟨by rw [HSP.out]; rfl, RowKit.Below.refl _ _⟩

theorem tail_eq (s : ByteArray) : (s.extract 1 s.size).data.toList = s.data.toList.tail := by
  rw [Lib.extract_to_end]
  exact List.drop_one

theorem specParseSigned (s : ByteArray) (hl : s.size ≤ 281474976710656) (w : World) :
    Calls Tryd.prog 62 #[.string s] w fun e w' => e = .returned (two (dec.pr (-1000000000) 1000000000 s.data.toList)) ∧ RowKit.Below w.heap.size w w' := by
  rw [← dec.sps_eq]
  have hsz := size_eq s
  by_cases hneg : s.data.toList.head? = some 45
  · have h0 : 0 < s.size := by
      rcases Nat.eq_zero_or_pos s.size with h | h
      · have : s.data.toList = [] := List.eq_nil_of_length_eq_zero (by omega)
        rw [this] at hneg
        cases hneg
      · exact h
    have h45 : s[0] = 45 := by
      have : s.data.toList.head? = some s[0] := by
        rw [List.head?_eq_getElem?, List.getElem?_eq_getElem (by omega)]
        rfl
      rw [this] at hneg
      injection hneg
    have hps : dec.sps s.data.toList = if (dec.sp s.data.toList.tail).2 = true ∧ (dec.sp s.data.toList.tail).1 ≤ 1000000000 ∧ (dec.sp s.data.toList.tail).1 ≠ 0 then (-(dec.sp s.data.toList.tail).1, true) else (0, false) := by
      unfold dec.sps
      rw [if_pos hneg]
    have hb := dec.pr_true (low := 0) (high := 1000000000000) (l := s.data.toList.tail)
    rw [dec.sp_eq] at hps
    rw [← tail_eq] at hps hb
    have hes : (s.extract 1 s.size).size ≤ 281474976710656 := by rw [ByteArray.size_extract]; omega
    generalize hx : dec.pr 0 1000000000000 (s.extract 1 s.size).data.toList = x at hps hb
    obtain ⟨n, ok⟩ := x
    have HX := Lib.hid hx; have HES := Lib.hid hes; clear hx hes hneg hsz
    cases ok
    · rw [if_neg (fun hh => by cases hh.1)] at hps
      have HP := Lib.hid hps; clear hps hb
      go_enter Tryd.func62, Tryd.ntmps62
      go_wp2_with (go_at_call 104; refine (specParse _ HES.out _).mono ?_; rintro e w1 ⟨rfl, hb1⟩; rw [HX.out]; unfold two)
      go_ret2
      exact ⟨by rw [HP.out]; rfl, hb1⟩
    · obtain ⟨_, b1, b2⟩ := hb rfl
      simp only at b1 b2
      by_cases hm : n ≤ 1000000000
      · by_cases hz : n = 0
        · subst hz
          rw [if_neg (fun hh => hh.2.2 rfl)] at hps
          have HP := Lib.hid hps; clear hps hb
          go_enter Tryd.func62, Tryd.ntmps62
          go_wp2_with (go_at_call 104; refine (specParse _ HES.out _).mono ?_; rintro e w1 ⟨rfl, hb1⟩; rw [HX.out]; unfold two)
          go_ret2
          exact ⟨by rw [HP.out]; rfl, hb1⟩
        · rw [if_pos ⟨rfl, hm, hz⟩] at hps
          have hz1 : (n == 0) = false := by rw [beq_eq_false_iff_ne]; exact hz
          have HP := Lib.hid hps; clear hps hb
          go_enter Tryd.func62, Tryd.ntmps62
          go_wp2_with (go_at_call 104; refine (specParse _ HES.out _).mono ?_; rintro e w1 ⟨rfl, hb1⟩; rw [HX.out]; unfold two)
          go_ret2
          exact ⟨by rw [HP.out]; rfl, hb1⟩
      · rw [if_neg (fun hh => hm hh.2.1)] at hps
        have HP := Lib.hid hps; clear hps hb
        go_enter Tryd.func62, Tryd.ntmps62
        go_wp2_with (go_at_call 104; refine (specParse _ HES.out _).mono ?_; rintro e w1 ⟨rfl, hb1⟩; rw [HX.out]; unfold two)
        go_ret2
        exact ⟨by rw [HP.out]; rfl, hb1⟩
  · have hps : dec.sps s.data.toList = if (dec.sp s.data.toList).2 = true ∧ (dec.sp s.data.toList).1 ≤ 1000000000 then ((dec.sp s.data.toList).1, true) else (0, false) := by
      unfold dec.sps
      rw [if_neg hneg]
    have hb := dec.pr_true (low := 0) (high := 1000000000000) (l := s.data.toList)
    rw [dec.sp_eq] at hps
    generalize hx : dec.pr 0 1000000000000 s.data.toList = x at hps hb
    obtain ⟨n, ok⟩ := x
    have HX := Lib.hid hx; clear hx
    by_cases h0 : 0 < s.size
    · have h45 : s[0] ≠ 45 := by
        intro h
        apply hneg
        rw [List.head?_eq_getElem?, List.getElem?_eq_getElem (by omega)]
        exact congrArg some h
      have h46 : ((s[0].toNat : Int) == 45) = false := by
        rw [beq_eq_false_iff_ne]
        intro h
        apply h45
        apply UInt8.toNat_inj.1
        have : (45 : UInt8).toNat = 45 := rfl
        omega
      clear hneg hsz h45
      cases ok
      · rw [if_neg (fun hh => by cases hh.1)] at hps
        have HP := Lib.hid hps; clear hps hb
        go_enter Tryd.func62, Tryd.ntmps62
        go_wp2_with (go_at_call 104; refine (specParse _ hl _).mono ?_; rintro e w1 ⟨rfl, hb1⟩; rw [HX.out]; unfold two)
        go_ret2
        exact ⟨by rw [HP.out]; rfl, hb1⟩
      · obtain ⟨_, b1, b2⟩ := hb rfl
        simp only at b1 b2
        by_cases hm : n ≤ 1000000000
        · rw [if_pos ⟨rfl, hm⟩] at hps
          have HP := Lib.hid hps; clear hps hb
          go_enter Tryd.func62, Tryd.ntmps62
          go_wp2_with (go_at_call 104; refine (specParse _ hl _).mono ?_; rintro e w1 ⟨rfl, hb1⟩; rw [HX.out]; unfold two)
          go_ret2
          exact ⟨by rw [HP.out]; rfl, hb1⟩
        · rw [if_neg (fun hh => hm hh.2)] at hps
          have HP := Lib.hid hps; clear hps hb
          go_enter Tryd.func62, Tryd.ntmps62
          go_wp2_with (go_at_call 104; refine (specParse _ hl _).mono ?_; rintro e w1 ⟨rfl, hb1⟩; rw [HX.out]; unfold two)
          go_ret2
          exact ⟨by rw [HP.out]; rfl, hb1⟩
    · have hsz0 : (s.size : Int) ≤ 0 := by omega
      clear hneg hsz
      cases ok
      · rw [if_neg (fun hh => by cases hh.1)] at hps
        have HP := Lib.hid hps; clear hps hb
        go_enter Tryd.func62, Tryd.ntmps62
        go_wp2_with (go_at_call 104; refine (specParse _ hl _).mono ?_; rintro e w1 ⟨rfl, hb1⟩; rw [HX.out]; unfold two)
        go_ret2
        exact ⟨by rw [HP.out]; rfl, hb1⟩
      · obtain ⟨_, b1, b2⟩ := hb rfl
        simp only at b1 b2
        by_cases hm : n ≤ 1000000000
        · rw [if_pos ⟨rfl, hm⟩] at hps
          have HP := Lib.hid hps; clear hps hb
          go_enter Tryd.func62, Tryd.ntmps62
          go_wp2_with (go_at_call 104; refine (specParse _ hl _).mono ?_; rintro e w1 ⟨rfl, hb1⟩; rw [HX.out]; unfold two)
          go_ret2
          exact ⟨by rw [HP.out]; rfl, hb1⟩
        · rw [if_neg (fun hh => hm hh.2)] at hps
          have HP := Lib.hid hps; clear hps hb
          go_enter Tryd.func62, Tryd.ntmps62
          go_wp2_with (go_at_call 104; refine (specParse _ hl _).mono ?_; rintro e w1 ⟨rfl, hb1⟩; rw [HX.out]; unfold two)
          go_ret2
          exact ⟨by rw [HP.out]; rfl, hb1⟩

end Go.Proofs.YtlbkbcafkjgckaaDoor.prs

/-
  IsKey of the project and of the model.
  Conditions: the key's text has at most 2^48 bytes; the package variables of the library's reading of numbers hold what the program's text lays.
-/
namespace Go.Proofs.YtlbkbcafkjgckaaDoor.tree
open Go.ChangeShapes Go.WideShapes Go.ChangeAt Go.RowKit
set_option linter.unusedVariables false

def num (s : ByteArray) : Bool := (dec.pr (-1000000000) 1000000000 s.data.toList).2
def keyB (y : Ky) : Bool := if y.text then decide (y.num = 0) && decide (y.str.size ≤ 400) && !num y.str else nums.inr y.num (-1000000000) 1000000000 && decide (y.str.size = 0)

def KeyQ (w : World) (b : Bool) (e : Ending) (w' : World) : Prop := e = .returned (.bool b) ∧ Below w.heap.size w w'
theorem empty_of {s : ByteArray} (h : s.size = 0) : s = ⟨#[]⟩ := by
  obtain ⟨a⟩ := s
  have : a = #[] := Array.eq_empty_of_size_eq_zero h
  rw [this]
theorem list_of {s : ByteArray} (h : s.size ≠ 0) : ¬ s.toList = [] ∧ s.toList.isEmpty = false := by
  have h1 : ¬ s.toList = [] := fun hh => h (by
    rw [ByteArray.toList_eq] at hh
    have : s.data.toList.length = 0 := by rw [hh]; rfl
    simpa using this)
  exact ⟨h1, by cases hl : s.toList with
    | nil => exact absurd hl h1
    | cons a l => rfl⟩

set_option maxHeartbeats 800000 in
theorem isKey_i (y : Ky) (hs : y.str.size ≤ 281474976710656) (w : World) (hE : prs.Env w) : Calls Tryd.prog 63 #[kyV y] w (KeyQ w (keyB y)) := by
  obtain ⟨b, m, s⟩ := y
  replace hs : s.size ≤ 281474976710656 := hs
  have HE := Lib.hid hE
  clear hE
  cases b
  · have e : keyB ⟨false, m, s⟩ = (nums.inr m (-1000000000) 1000000000 && decide (s.size = 0)) := rfl
    rw [e]
    clear e
    unfold kyV
    obtain ⟨q, HQ⟩ : ∃ q, Hid (nums.inr m (-1000000000) 1000000000 = q) := ⟨_, Lib.hid rfl⟩
    have IR : ∀ w, Calls Tryd.prog 86 #[.int .i64 m, .int .i64 (-1000000000), .int .i64 1000000000] w fun e w' => e = .returned (.bool q) ∧ w = w' := fun w => HQ.out ▸ nums.implInRange m (-1000000000) 1000000000 w
    rw [HQ.out]
    by_cases h0 : s.size = 0
    · obtain rfl := empty_of h0
      cases q
      all_goals
        go_enter Tryd.func63, Tryd.ntmps63
        go_wp2_with (fail)
        refine (IR _).mono ?_
        rintro e w1 ⟨rfl, rfl⟩
        go_wp2_with (fail)
        go_ret
        exact ⟨rfl, b1 _ _⟩
    · obtain ⟨l1, l2⟩ := list_of h0
      rw [show decide (s.size = 0) = false from decide_eq_false h0]
      clear h0
      cases q
      all_goals
        go_enter Tryd.func63, Tryd.ntmps63
        go_wp2_with (fail)
        refine (IR _).mono ?_
        rintro e w1 ⟨rfl, rfl⟩
        go_wp2_with (fail)
        go_ret
        exact ⟨rfl, b1 _ _⟩
  · have e : keyB ⟨true, m, s⟩ = (decide (m = 0) && decide (s.size ≤ 400) && !num s) := rfl
    rw [e]
    clear e
    unfold kyV
    obtain ⟨⟨x1, x2⟩, HX⟩ : ∃ x, Hid (dec.pr (-1000000000) 1000000000 s.data.toList = x) := ⟨_, Lib.hid rfl⟩
    have hn : num s = x2 := by unfold num; rw [HX.out]
    rw [hn]
    have PS : Hid (∀ w, prs.Env w → Calls Tryd.prog 105 #[.string s] w fun e w' => e = .returned (.tuple #[.int .i64 x1, .bool x2]) ∧ Below w.heap.size w w') := Lib.hid fun w hE => by
      have := prs.implParseSigned s hs w hE
      rw [HX.out] at this
      exact this
    clear hn
    by_cases h0 : m = 0
    · subst h0
      by_cases h4 : s.size ≤ 400
      · rw [show decide (s.size ≤ 400) = true from decide_eq_true h4]
        cases x2
        all_goals
          go_enter Tryd.func63, Tryd.ntmps63
          go_wp2_with (fail)
          refine (PS.out _ (HE.out.stays (b1 _ _))).mono ?_
          rintro e w1 ⟨rfl, hb1⟩
          have HB := Lib.hid (bs (b1 w _) hb1)
          obtain ⟨r1, -⟩ := rowc (carry hb1 (heap_alloc_new w _))
          clear hb1
          go_wp2_with (fail)
          go_ret
          exact ⟨rfl, HB.out⟩
      · rw [show decide (s.size ≤ 400) = false from decide_eq_false h4]
        have h4' : 400 < s.size := by omega
        clear h4
        go_enter Tryd.func63, Tryd.ntmps63
        go_wp2_with (fail)
        refine (PS.out _ (HE.out.stays (b1 _ _))).mono ?_
        rintro e w1 ⟨rfl, hb1⟩
        have HB := Lib.hid (bs (b1 w _) hb1)
        obtain ⟨r1, -⟩ := rowc (carry hb1 (heap_alloc_new w _))
        clear hb1
        go_wp2_with (fail)
        go_ret
        exact ⟨rfl, HB.out⟩
    · rw [show decide (m = 0) = false from decide_eq_false h0]
      go_enter Tryd.func63, Tryd.ntmps63
      go_wp2_with (fail)
      refine (PS.out _ (HE.out.stays (b1 _ _))).mono ?_
      rintro e w1 ⟨rfl, hb1⟩
      have HB := Lib.hid (bs (b1 w _) hb1)
      obtain ⟨r1, -⟩ := rowc (carry hb1 (heap_alloc_new w _))
      clear hb1
      go_wp2_with (fail)
      go_ret
      exact ⟨rfl, HB.out⟩

set_option maxHeartbeats 800000 in
theorem isKey_s (y : Ky) (hs : y.str.size ≤ 281474976710656) (w : World) (hE : prs.Env w) : Calls Tryd.prog 15 #[kyV y] w (KeyQ w (keyB y)) := by
  obtain ⟨b, m, s⟩ := y
  replace hs : s.size ≤ 281474976710656 := hs
  have HE := Lib.hid hE
  clear hE
  cases b
  · have e : keyB ⟨false, m, s⟩ = (nums.inr m (-1000000000) 1000000000 && decide (s.size = 0)) := rfl
    rw [e]
    clear e
    unfold kyV
    obtain ⟨q, HQ⟩ : ∃ q, Hid (nums.inr m (-1000000000) 1000000000 = q) := ⟨_, Lib.hid rfl⟩
    have IR : ∀ w, Calls Tryd.prog 61 #[.int .i64 m, .int .i64 (-1000000000), .int .i64 1000000000] w fun e w' => e = .returned (.bool q) ∧ w = w' := fun w => HQ.out ▸ nums.l1In m (-1000000000) 1000000000 w
    rw [HQ.out]
    by_cases h0 : s.size = 0
    · obtain rfl := empty_of h0
      cases q
      all_goals
        go_enter Tryd.func15, Tryd.ntmps15
        go_wp2_with (fail)
        refine (IR _).mono ?_
        rintro e w1 ⟨rfl, rfl⟩
        go_wp2_with (fail)
        go_ret
        exact ⟨rfl, b1 _ _⟩
    · obtain ⟨l1, l2⟩ := list_of h0
      rw [show decide (s.size = 0) = false from decide_eq_false h0]
      clear h0
      cases q
      all_goals
        go_enter Tryd.func15, Tryd.ntmps15
        go_wp2_with (fail)
        refine (IR _).mono ?_
        rintro e w1 ⟨rfl, rfl⟩
        go_wp2_with (fail)
        go_ret
        exact ⟨rfl, b1 _ _⟩
  · have e : keyB ⟨true, m, s⟩ = (decide (m = 0) && decide (s.size ≤ 400) && !num s) := rfl
    rw [e]
    clear e
    unfold kyV
    obtain ⟨⟨x1, x2⟩, HX⟩ : ∃ x, Hid (dec.pr (-1000000000) 1000000000 s.data.toList = x) := ⟨_, Lib.hid rfl⟩
    have hn : num s = x2 := by unfold num; rw [HX.out]
    rw [hn]
    have PS : Hid (∀ w, prs.Env w → Calls Tryd.prog 62 #[.string s] w fun e w' => e = .returned (.tuple #[.int .i64 x1, .bool x2]) ∧ Below w.heap.size w w') := Lib.hid fun w hE => by
      have := prs.specParseSigned s hs w
      rw [HX.out] at this
      exact this
    clear hn
    by_cases h0 : m = 0
    · subst h0
      by_cases h4 : s.size ≤ 400
      · rw [show decide (s.size ≤ 400) = true from decide_eq_true h4]
        cases x2
        all_goals
          go_enter Tryd.func15, Tryd.ntmps15
          go_wp2_with (fail)
          refine (PS.out _ (HE.out.stays (b1 _ _))).mono ?_
          rintro e w1 ⟨rfl, hb1⟩
          have HB := Lib.hid (bs (b1 w _) hb1)
          obtain ⟨r1, -⟩ := rowc (carry hb1 (heap_alloc_new w _))
          clear hb1
          go_wp2_with (fail)
          go_ret
          exact ⟨rfl, HB.out⟩
      · rw [show decide (s.size ≤ 400) = false from decide_eq_false h4]
        have h4' : 400 < s.size := by omega
        clear h4
        go_enter Tryd.func15, Tryd.ntmps15
        go_wp2_with (fail)
        refine (PS.out _ (HE.out.stays (b1 _ _))).mono ?_
        rintro e w1 ⟨rfl, hb1⟩
        have HB := Lib.hid (bs (b1 w _) hb1)
        obtain ⟨r1, -⟩ := rowc (carry hb1 (heap_alloc_new w _))
        clear hb1
        go_wp2_with (fail)
        go_ret
        exact ⟨rfl, HB.out⟩
    · rw [show decide (m = 0) = false from decide_eq_false h0]
      go_enter Tryd.func15, Tryd.ntmps15
      go_wp2_with (fail)
      refine (PS.out _ (HE.out.stays (b1 _ _))).mono ?_
      rintro e w1 ⟨rfl, hb1⟩
      have HB := Lib.hid (bs (b1 w _) hb1)
      obtain ⟨r1, -⟩ := rowc (carry hb1 (heap_alloc_new w _))
      clear hb1
      go_wp2_with (fail)
      go_ret
      exact ⟨rfl, HB.out⟩

end Go.Proofs.YtlbkbcafkjgckaaDoor.tree

/-
  A value with the value of a key; items of a block of which one has a new value.
  Conditions: those that each theorem names.
-/
namespace Go.Proofs.YtlbkbcafkjgckaaDoor.tree
open Go.ChangeShapes Go.WideShapes Go.ChangeAt Go.RowKit
set_option linter.unusedVariables false

/-- The next free index behind a key. -/
def nxt (x : Int) (y : Ky) : Int := if y.text then x else if x < y.num + 1 then y.num + 1 else x
/-- A value with the value u at a key. -/
def setT : Tr → Ky → Tr → Tr
  | .mk k n s x ks vs, y, u => if posV (.mk k n s x ks vs) y = -1 then .mk k n s (nxt x y) (ks ++ [y]) (vs ++ [u]) else .mk k n s x ks (vs.set (posV (.mk k n s x ks vs) y).toNat u)
theorem setT_none {k n x : Int} {s : ByteArray} {ks : List Ky} {vs : List Tr} {y : Ky} {u : Tr} (h : posV (.mk k n s x ks vs) y = -1) : setT (.mk k n s x ks vs) y u = .mk k n s (nxt x y) (ks ++ [y]) (vs ++ [u]) := by rw [setT, if_pos h]
theorem setT_some {k n x : Int} {s : ByteArray} {ks : List Ky} {vs : List Tr} {y : Ky} {u : Tr} {i : Nat} (h : posV (.mk k n s x ks vs) y = i) : setT (.mk k n s x ks vs) y u = .mk k n s x ks (vs.set i u) := by
  rw [setT, if_neg (by omega), h, Int.toNat_natCast]
def setB : Tr → Ky → Bool
  | .mk k _ _ _ _ _, y => decide (k = 4) && keyB y
theorem setB_mk (k n x : Int) (s : ByteArray) (ks : List Ky) (vs : List Tr) (y : Ky) : setB (.mk k n s x ks vs) y = (decide (k = 4) && keyB y) := rfl
def setR (t : Tr) (y : Ky) (u : Tr) : Tr := if setB t y then setT t y u else t

theorem cnts_append : ∀ (a b : List Tr), cnts (a ++ b) = cnts a + cnts b
  | [], b => by rw [List.nil_append, cnts]; omega
  | t :: a, b => by rw [List.cons_append, cnts_cons', cnts_cons', cnts_append a b]; omega
theorem cnts_set : ∀ (vs : List Tr) (i : Nat) (u : Tr), cnts (vs.set i u) ≤ cnts vs + cnt u
  | [], i, u => by rw [List.set_nil]; omega
  | t :: vs, 0, u => by rw [List.set_cons_zero, cnts_cons', cnts_cons']; omega
  | t :: vs, i + 1, u => by
    have := cnts_set vs i u
    rw [List.set_cons_succ, cnts_cons', cnts_cons']
    omega
theorem tots_append : ∀ (ks : List Ky) (vs : List Tr) (y : Ky) (u : Tr), ks.length = vs.length → tots (ks ++ [y]) (vs ++ [u]) = tots ks vs + (y.str.size + tot u)
  | [], [], y, u, _ => by rw [List.nil_append, List.nil_append, tots_cons]; omega
  | y0 :: ks, t :: vs, y, u, h => by
    have := tots_append ks vs y u (by simpa using h)
    rw [List.cons_append, List.cons_append, tots_cons, tots_cons, this]
    omega
theorem tots_set : ∀ (ks : List Ky) (vs : List Tr) (i : Nat) (u : Tr), tots ks (vs.set i u) ≤ tots ks vs + tot u
  | _, [], i, u => by rw [List.set_nil]; omega
  | [], t :: vs, i, u => by cases i <;> simp [List.set, tots]
  | y :: ks, t :: vs, 0, u => by rw [List.set_cons_zero, tots_cons, tots_cons]; omega
  | y :: ks, t :: vs, i + 1, u => by
    have := tots_set ks vs i u
    rw [List.set_cons_succ, tots_cons, tots_cons]
    omega
theorem setT_cnt (t : Tr) (y : Ky) (u : Tr) : cnt (setT t y u) ≤ cnt t + cnt u := by
  obtain ⟨k, n, s, x, ks, vs⟩ := t
  rcases posV_cases k n s x ks vs y with hp | ⟨i, hp, hi, rfl⟩
  · rw [setT_none hp, cnt_mk', cnt_mk', cnts_append, cnts_cons', cnts]; omega
  · have := cnts_set vs i u
    rw [setT_some hp, cnt_mk', cnt_mk']
    omega
theorem setT_tot (t : Tr) (y : Ky) (u : Tr) (hf : fits t) : tot (setT t y u) ≤ tot t + y.str.size + tot u + 1 := by
  obtain ⟨k, n, s, x, ks, vs⟩ := t
  rw [fits] at hf
  rcases posV_cases k n s x ks vs y with hp | ⟨i, hp, hi, rfl⟩
  · have := tots_append ks vs y u hf.1
    rw [setT_none hp, tot_mk, tot_mk, this, List.length_append]
    simp only [List.length_cons, List.length_nil]
    omega
  · have := tots_set ks vs i u
    rw [setT_some hp, tot_mk, tot_mk, List.length_set]
    omega
theorem setR_cnt (t : Tr) (y : Ky) (u : Tr) : cnt (setR t y u) ≤ cnt t + cnt u := by
  have := setT_cnt t y u
  unfold setR
  split <;> omega
theorem setR_tot (t : Tr) (y : Ky) (u : Tr) (hf : fits t) : tot (setR t y u) ≤ tot t + y.str.size + tot u + 1 := by
  have := setT_tot t y u hf
  unfold setR
  split <;> omega

/-- Five cells in a row. -/
def put5c (arr : Array Value) (o : Nat) (c0 c1 c2 c3 c4 : Value) : Array Value := ((((arr.setIfInBounds o c0).setIfInBounds (o + 1) c1).setIfInBounds (o + 2) c2).setIfInBounds (o + 3) c3).setIfInBounds (o + 4) c4
theorem put5c_out (arr : Array Value) (o : Nat) (c0 c1 c2 c3 c4 : Value) (p : Nat) (h : p < o ∨ o + 5 ≤ p) : (put5c arr o c0 c1 c2 c3 c4)[p]? = arr[p]? := by
  unfold put5c
  iterate 5 rw [Array.getElem?_setIfInBounds_ne (by omega)]
theorem put5c_in (arr : Array Value) (o : Nat) (c0 c1 c2 c3 c4 : Value) (h : o + 5 ≤ arr.size) (q : Nat) (hq : q < 5) : (put5c arr o c0 c1 c2 c3 c4)[o + q]? = (#[c0, c1, c2, c3, c4] : Array Value)[q]? := by
  unfold put5c
  match q, hq with
  | 0, _ => iterate 4 rw [Array.getElem?_setIfInBounds_ne (by omega)]
            rw [Nat.add_zero, Array.getElem?_setIfInBounds_self_of_lt (by omega)]; rfl
  | 1, _ => iterate 3 rw [Array.getElem?_setIfInBounds_ne (by omega)]
            rw [Array.getElem?_setIfInBounds_self_of_lt (by simp; omega)]; rfl
  | 2, _ => iterate 2 rw [Array.getElem?_setIfInBounds_ne (by omega)]
            rw [Array.getElem?_setIfInBounds_self_of_lt (by simp; omega)]; rfl
  | 3, _ => rw [Array.getElem?_setIfInBounds_ne (by omega), Array.getElem?_setIfInBounds_self_of_lt (by simp; omega)]; rfl
  | 4, _ => rw [Array.getElem?_setIfInBounds_self_of_lt (by simp; omega)]; rfl

/-- An item as it lies in a row. -/
def ItAt (w : World) (S : Nat → Prop) (arr : Array Value) (ks : List Ky) (vs : List Tr) (j : Nat) : Prop :=
  ∃ y k n s x ks' vs' A c, ks[j]? = some y ∧ vs[j]? = some (.mk k n s x ks' vs') ∧ (I64 y.num ∧ y.str.size ≤ maxLen) ∧ At8r arr j y k n s x A vs'.length c ∧ TIn w S (.mk k n s x ks' vs') (vV k n s x A vs'.length c)

/-- A row of items, one of which has a new value. -/
theorem isin_put {w : World} {S : Nat → Prop} {g i : Nat} {arr : Array Value} {ks : List Ky} {vs : List Tr} {y : Ky} {k n x : Int} {s : ByteArray} {ks' : List Ky} {vs' : List Tr} {A : Option Addr} {c : Nat}
    (hg : w.heap[g]? = some (.cells (put5c arr (i * 8 + 3) (.int .i64 k) (.int .i64 n) (.string s) (.int .i64 x) (.slice A vs'.length c)) IE (0, 0))) (hS : S g) (hl : ks.length = vs.length) (hm : vs.length ≤ maxLen) (hsz : vs.length * 8 ≤ arr.size) (hi : i < vs.length)
    (hky : ks[i]? = some y) (hvs : vs[i]? = some (.mk k n s x ks' vs')) (hyb : I64 y.num ∧ y.str.size ≤ maxLen) (h0 : arr[i * 8]? = some (.bool y.text)) (h1 : arr[i * 8 + 1]? = some (.int .i64 y.num)) (h2 : arr[i * 8 + 2]? = some (.string y.str))
    (hT : TIn w S (.mk k n s x ks' vs') (vV k n s x A vs'.length c)) (ho : ∀ j, j < vs.length → j ≠ i → ItAt w S arr ks vs j) : IsIn w S ks vs (some ⟨g, 0, none⟩) := by
  refine isin_row hg hS hl hm fun j hj => ?_
  by_cases e : j = i
  · subst e
    refine ⟨y, k, n, s, x, ks', vs', A, c, hky, hvs, hyb, fun q hq => ?_, hT⟩
    by_cases hq3 : q < 3
    · rw [put5c_out _ _ _ _ _ _ _ _ (.inl (by omega))]
      match q, hq3 with
      | 0, _ => exact h0
      | 1, _ => exact h1
      | 2, _ => exact h2
    · obtain ⟨r, rfl⟩ : ∃ r, q = 3 + r := ⟨q - 3, by omega⟩
      rw [← Nat.add_assoc, put5c_in _ _ _ _ _ _ _ (by omega) r (by omega)]
      have hr : r < 5 := by omega
      match r, hr with
      | 0, _ => rfl
      | 1, _ => rfl
      | 2, _ => rfl
      | 3, _ => rfl
      | 4, _ => rfl
  · obtain ⟨y, k, n, s, x, ks', vs', A, c, a1, a2, a3, a4, a5⟩ := ho j hj e
    refine ⟨y, k, n, s, x, ks', vs', A, c, a1, a2, a3, fun q hq => ?_, a5⟩
    rw [put5c_out _ _ _ _ _ _ _ _ (by omega)]
    exact a4 q hq

/-- append at an operation of the walk, by what it runs to. -/
theorem wpList_append_eq {P : Program} {ops : Array Oper} {rest : List Oper} {o : Oper} {a : Act} {Q : Exit → Act → World → Prop} {w w' : World} (hgd : o.guard = none) (s x : Operand) (t : TypeId)
    (ho : o.op = .call { callee := .builtin .append, args := #[s, x], argTypes := #[t, t] }) {u v r : Value} (hrun : (Builtin.append_ #[t, t] o.type #[u, v]).run P w = .ok r w') (hs : a.eval s = u) (hx : a.eval x = v)
    (h : wpList P ops Q rest (a.put o.dst r) w') : wpList P ops Q (o :: rest) a w := by
  refine wpList_plain hgd fun K hK => ?_
  unfold Oper.wp execOp
  simp only [ho, resolve, invoke, builtin, Sem.run_bind, Sem.run_pure, Result.andThen_ok, List.map_toArray, List.map_cons, List.map_nil, hs, hx, hrun]
  exact hK _ _ h

theorem alc {w : World} {o : Obj} {p : Addr} {u : Value} (h : w.cell? p = some u) : (w.alloc o).cell? p = some u := cell_stays (fun hlt => (b1 w o).block _ hlt) h
theorem drc {w : World} {p : Addr} {u : Value} (h : w.cell? p = some u) : w.drew.cell? p = some u := h
theorem st5 {w : World} {b j B : Nat} {u c0 c1 c2 c3 c4 : Value} (h : w.cell? ⟨b, j, none⟩ = some u) (hne : B ≠ b) : (((((w.setCell ⟨B, 0, none⟩ c0).setCell ⟨B, 1, none⟩ c1).setCell ⟨B, 2, none⟩ c2).setCell ⟨B, 3, none⟩ c3).setCell ⟨B, 4, none⟩ c4).cell? ⟨b, j, none⟩ = some u :=
  cell_stays (fun _ => by
    have hn : b ≠ B := fun e => hne e.symm
    simp only []
    rw [set_other hn, set_other hn, set_other hn, set_other hn, set_other hn]) h
/-- Five cells of a block, written. -/
theorem put5_heap {w wF : World} {g o : Nat} {arr : Array Value} {t : TypeId} {c0 c1 c2 c3 c4 : Value} (h : w.heap[g]? = some (.cells arr t (0, 0)))
    (hF : (((((w.setCell ⟨g, o, none⟩ c0).setCell ⟨g, o + 1, none⟩ c1).setCell ⟨g, o + 2, none⟩ c2).setCell ⟨g, o + 3, none⟩ c3).setCell ⟨g, o + 4, none⟩ c4) = wF) :
    wF.heap[g]? = some (.cells (put5c arr o c0 c1 c2 c3 c4) t (0, 0)) ∧ (∀ q, q ≠ g → wF.heap[q]? = w.heap[q]?) ∧ ∀ (B : Nat) (w0 : World), B ≤ g → Below B w0 w → Below B w0 wF := by
  subst hF
  refine ⟨set_heap (set_heap (set_heap (set_heap (set_heap h _ _) _ _) _ _) _ _) _ _, fun q hq => ?_, fun B w0 hB hb => ?_⟩
  · rw [set_other hq, set_other hq, set_other hq, set_other hq, set_other hq]
  · exact ((((hb.setCell hB _).setCell hB _).setCell hB _).setCell hB _).setCell hB _

end Go.Proofs.YtlbkbcafkjgckaaDoor.tree

/-
  Whether a value is light, of the project and of the model: what its weight leaves of a limit.
  Conditions: those that each theorem names.
-/
namespace Go.Proofs.YtlbkbcafkjgckaaDoor.tree
open Go.ChangeShapes Go.WideShapes Go.ChangeAt Go.RowKit
set_option linter.unusedVariables false

mutual
/-- The weight of a value. -/
def wgt : Tr → Nat
  | .mk k _ _ _ _ vs => if k = 4 then 1 + wgts vs else 1
def wgts : List Tr → Nat
  | [] => 0
  | t :: vs => wgt t + wgts vs
end
theorem wgt_four (n : Int) (s : ByteArray) (x : Int) (ks : List Ky) (vs : List Tr) : wgt (.mk 4 n s x ks vs) = 1 + wgts vs := by rw [wgt, if_pos rfl]
theorem wgt_not {k n : Int} {s : ByteArray} {x : Int} {ks : List Ky} {vs : List Tr} (h : k ≠ 4) : wgt (.mk k n s x ks vs) = 1 := by rw [wgt, if_neg h]
theorem wgts_nil : wgts [] = 0 := by rw [wgts]
theorem wgts_cons (t : Tr) (vs : List Tr) : wgts (t :: vs) = wgt t + wgts vs := by rw [wgts]
theorem wgts_drop {vs : List Tr} {j : Nat} {t : Tr} (h : vs[j]? = some t) : wgts (vs.drop j) = wgt t + wgts (vs.drop (j + 1)) := by
  obtain ⟨hj, rfl⟩ := List.getElem?_eq_some_iff.1 h
  rw [List.drop_eq_getElem_cons hj, wgts_cons]
theorem wgt_pos : ∀ t, 1 ≤ wgt t
  | .mk k _ _ _ _ vs => by rw [wgt]; split <;> omega

/-- What a weight leaves of a limit, -1 if it is more. -/
def lft (m : Int) (n : Nat) : Int := if m < n then -1 else m - n
/-- A weight up to one more than a limit. -/
def cut (m : Int) (n : Nat) : Int := if m < n then m + 1 else n



def WgS (t : Tr) : Prop := ∀ (w : World) (S : Nat → Prop) (v : Value), TIn w S t v → ∀ m : Int, 0 ≤ m → m ≤ 200 → Calls Tryd.prog 59 #[v, .int .i64 m] w (LtQ w (cut m (wgt t)))

set_option maxHeartbeats 800000 in
theorem weigh_s : ∀ t, WgS t := Tr.ind fun k n s x ks vs ih w S v h m hm0 hm1 => by
  obtain ⟨A, c, rfl, hk, hin⟩ := h.out
  clear h
  obtain ⟨L, HL⟩ : ∃ L, Hid (L = vs.length) := ⟨_, Lib.hid rfl⟩
  have hm : L ≤ maxLen := by rw [HL.out]; exact hin.2.1
  unfold maxLen at hm
  rw [← HL.out]
  by_cases h4 : k = 4
  · subst h4
    obtain ⟨W, HW⟩ : ∃ W, Hid (W = cut m (wgt (.mk 4 n s x ks vs))) := ⟨_, Lib.hid rfl⟩
    have HW1 : Hid (W = cut m (1 + wgts vs)) := by
      show W = _
      rw [HW.out, wgt_four]
    rw [← HW.out]
    have HI := Lib.hid hin
    clear hin hk
    go_enter Tryd.func59, Tryd.ntmps59
    go_wp2_with (fail)
    go_loopg [5, 6] (L + 1) (fun gk a i wr => ∃ (j q : Nat), a = .int .i64 q ∧ i = .int .i64 j ∧ gk + j = L + 1 ∧ j ≤ L ∧ (q : Int) ≤ m + 1 ∧ Hid (cut m (q + wgts (vs.drop j)) = W) ∧ Hid (wr.heap[w.heap.size]? = some (.cells #[.int .i64 4, .int .i64 n, .string s, .int .i64 x, .slice A L c] IV (0, 0))) ∧ Below w.heap.size w wr)
    case atStart => exact ⟨0, 1, rfl, rfl, by omega, by omega, by omega, Lib.hid (by rw [HW1.out]; rfl), Lib.hid (heap_alloc_new w _), b1 _ _⟩
    case round =>
      obtain ⟨j, q, rfl, rfl, hgj, hjL, hq1, HQ, HE, hb⟩ := hrel
      have HB := Lib.hid hb
      clear hb
      obtain ⟨r0, -⟩ := rowc HE.out
      by_cases hlt : j < L
      · obtain ⟨a, y, k', n', s', x', ks', vs', A1, c1, rfl, hS, hky, hvs, ht, hyb, hkb, hin', hcell⟩ := (HI.out.below HB.out).item (i := j) (by rw [← HL.out]; exact hlt)
        by_cases hle : (q : Int) ≤ m
        · obtain ⟨Q, HQQ⟩ : ∃ Q : Nat, Hid (cut (m - q) (wgt (.mk k' n' s' x' ks' vs')) = Q) := by
            refine ⟨(cut (m - q) (wgt (.mk k' n' s' x' ks' vs'))).toNat, Lib.hid ?_⟩
            unfold cut
            split <;> omega
          have ihj : Calls Tryd.prog 59 #[vV k' n' s' x' A1 vs'.length c1, .int .i64 (m - q)] wr (LtQ wr Q) := HQQ.out ▸ ih _ (List.mem_of_getElem? hvs) wr S _ ht (m - q) (by omega) (by omega)
          have HD := Lib.hid (wgts_drop hvs)
          have hQ : (q : Int) + Q ≤ m + 1 := by
            rw [← HQQ.out]
            unfold cut
            split <;> omega
          clear hky hvs ht hin' hyb hkb hS
          obtain ⟨p0, p1, p2, p3, p4, p5, p6, p7⟩ := hcell
          go_wp2_with (fail)
          refine ihj.mono ?_
          rintro e w1 ⟨rfl, hb1⟩
          have HE1 := Lib.hid (carry hb1 HE.out)
          have HB1 := Lib.hid (bs HB.out hb1)
          clear hb1 r0
          obtain ⟨r1, -⟩ := rowc HE1.out
          go_wp2_with (fail)
          go_roundg (L - j)
          case rel =>
            refine ⟨j + 1, q + Q, by go_num, by go_num, by omega, by omega, by push_cast; omega, Lib.hid ?_, HE1, HB1.out⟩
            have e1 := HQQ.out
            rw [← HQ.out, HD.out]
            unfold cut at e1 ⊢
            split at e1 <;> split <;> split <;> push_cast at * <;> omega
          case measure => omega
        · have e : W = (q : Int) := by
            rw [← HQ.out]
            unfold cut
            split <;> push_cast at * <;> omega
          clear hky hvs ht hin' hyb hkb hS hcell
          go_wp2_with (fail)
          go_ret
          exact ⟨by first | rfl | (rw [e]; rfl), HB.out⟩
      · obtain rfl : j = L := by omega
        have e : W = (q : Int) := by
          rw [← HQ.out, show vs.drop j = [] from List.drop_eq_nil_of_le (Nat.le_of_eq HL.out.symm), wgts_nil]
          unfold cut
          split <;> push_cast at * <;> omega
        go_wp2_with (fail)
        go_ret
        exact ⟨by first | rfl | (rw [e]; rfl), HB.out⟩
  · have hw : cut m (wgt (.mk k n s x ks vs)) = 1 := by
      rw [wgt_not h4]
      unfold cut
      split <;> omega
    rw [hw]
    clear hw hin hk
    go_enter Tryd.func59, Tryd.ntmps59
    go_wp2_with (fail)
    go_loopg [5, 6] 1 (fun gk a i wr => a = .int .i64 1 ∧ i = .int .i64 0 ∧ gk = 1 ∧ Hid (wr.heap[w.heap.size]? = some (.cells #[.int .i64 k, .int .i64 n, .string s, .int .i64 x, .slice A L c] IV (0, 0))) ∧ Below w.heap.size w wr)
    case atStart => exact ⟨rfl, rfl, rfl, Lib.hid (heap_alloc_new w _), b1 _ _⟩
    case round =>
      obtain ⟨rfl, rfl, rfl, HE, hb⟩ := hrel
      have HB := Lib.hid hb
      clear hb
      obtain ⟨r0, -⟩ := rowc HE.out
      go_wp2_with (fail)
      go_ret
      exact ⟨rfl, HB.out⟩

def lightB (t : Tr) : Bool := decide (wgt t ≤ 200)

end Go.Proofs.YtlbkbcafkjgckaaDoor.tree

/-
  Whether a key may be one of an array, of the project.
  Conditions: those that each theorem names.
-/
namespace Go.Proofs.YtlbkbcafkjgckaaDoor.tree
open Go.ChangeShapes Go.WideShapes Go.ChangeAt Go.RowKit
set_option linter.unusedVariables false

def belowB (y : Ky) (x : Int) : Bool := keyB y && (y.text || decide (y.num < x))

end Go.Proofs.YtlbkbcafkjgckaaDoor.tree

/-
  Whether a light value is valid, of the project.
  Conditions: those that each theorem names.
-/
namespace Go.Proofs.YtlbkbcafkjgckaaDoor.tree
open Go.ChangeShapes Go.WideShapes Go.ChangeAt Go.RowKit
set_option linter.unusedVariables false

/-- What a value that is no array has to be. -/
def scalB (k n : Int) (s : ByteArray) : Bool := if k = 0 then decide (n = 0) else if k = 1 then nums.inr n 0 1 else if k = 2 then nums.inr n (-1000000000) 1000000000 else if k = 3 then decide (n = 0) && decide (s.size ≤ 400) else if k = 6 ∨ k = 7 ∨ k = 8 then nums.inr n 0 255 else false
def restB (k n : Int) (s : ByteArray) (x : Int) (L : Nat) : Bool := ((decide (k = 3) || decide (s.size = 0)) && (decide (x = 0) && decide (L = 0))) && scalB k n s
mutual
/-- Whether a value is valid, but for its weight. -/
def sndB : Tr → Bool
  | .mk k n s x ks vs => if k = 4 then decide (s.size = 0) && (decide (n = 0) && (nums.inr x 0 1000000001 && itemsB x [] ks vs)) else restB k n s x vs.length
def itemsB (x : Int) : List Ky → List Ky → List Tr → Bool
  | seen, y :: ks, t :: vs => (!decide (y ∈ seen) && (belowB y x && sndB t)) && itemsB x (seen ++ [y]) ks vs
  | _, _, _ => true
end
theorem snd_four (n : Int) (s : ByteArray) (x : Int) (ks : List Ky) (vs : List Tr) : sndB (.mk 4 n s x ks vs) = (decide (s.size = 0) && (decide (n = 0) && (nums.inr x 0 1000000001 && itemsB x [] ks vs))) := by rw [sndB, if_pos rfl]
theorem snd_not {k n : Int} {s : ByteArray} {x : Int} {ks : List Ky} {vs : List Tr} (h : k ≠ 4) : sndB (.mk k n s x ks vs) = restB k n s x vs.length := by rw [sndB, if_neg h]
theorem items_cons (x : Int) (seen : List Ky) (y : Ky) (ks : List Ky) (t : Tr) (vs : List Tr) : itemsB x seen (y :: ks) (t :: vs) = ((!decide (y ∈ seen) && (belowB y x && sndB t)) && itemsB x (seen ++ [y]) ks vs) := by rw [itemsB]
theorem items_nil (x : Int) (seen ks : List Ky) : itemsB x seen ks [] = true := by cases ks <;> rw [itemsB] <;> simp
theorem items_drop {x : Int} {ks : List Ky} {vs : List Tr} {j : Nat} {y : Ky} {t : Tr} (hk : ks[j]? = some y) (hv : vs[j]? = some t) :
    itemsB x (ks.take j) (ks.drop j) (vs.drop j) = ((!decide (y ∈ ks.take j) && (belowB y x && sndB t)) && itemsB x (ks.take (j + 1)) (ks.drop (j + 1)) (vs.drop (j + 1))) := by
  obtain ⟨hj, rfl⟩ := List.getElem?_eq_some_iff.1 hk
  obtain ⟨hj', rfl⟩ := List.getElem?_eq_some_iff.1 hv
  rw [List.drop_eq_getElem_cons hj, List.drop_eq_getElem_cons hj', items_cons, List.take_succ_eq_append_getElem hj]
theorem tots_item : ∀ {ks : List Ky} {vs : List Tr} {j : Nat} {y : Ky} {t : Tr}, ks[j]? = some y → vs[j]? = some t → y.str.size + tot t ≤ tots ks vs
  | [], _, _, _, _, h, _ => by simp at h
  | _ :: _, [], _, _, _, _, h => by simp at h
  | z :: ks, u :: vs, 0, y, t, h, h' => by
    simp at h h'
    subst h h'
    rw [tots_cons]
    omega
  | z :: ks, u :: vs, j + 1, y, t, h, h' => by
    have := tots_item (ks := ks) (vs := vs) (j := j) (by simpa using h) (by simpa using h')
    rw [tots_cons]
    omega

theorem rest_str {k n : Int} {s : ByteArray} {x : Int} {L : Nat} (h : ¬ k = 3) (hs : ¬ s.size = 0) : restB k n s x L = false := by
  unfold restB
  simp [h, hs]
theorem rest_next {k n : Int} {s : ByteArray} {x : Int} {L : Nat} (h : ¬ x = 0) : restB k n s x L = false := by
  unfold restB
  simp [h]
theorem rest_items {k n : Int} {s : ByteArray} {x : Int} {L : Nat} (h : ¬ L = 0) : restB k n s x L = false := by
  unfold restB
  simp [h]
theorem rest_ok {k n : Int} {s : ByteArray} (h : k = 3 ∨ s.size = 0) : restB k n s 0 0 = scalB k n s := by
  unfold restB
  rcases h with h | h <;> simp [h]
theorem ret_dec {p q : Prop} [Decidable p] [Decidable q] (h : p ↔ q) : Ending.returned (.bool (decide p)) = .returned (.bool (decide q)) := by rw [decide_eq_decide.2 h]
theorem inRange_i (n l h : Int) (q : Bool) (hq : nums.inr n l h = q) (w : World) : Calls Tryd.prog 86 #[.int .i64 n, .int .i64 l, .int .i64 h] w fun e w' => e = .returned (.bool q) ∧ w = w' := hq ▸ nums.implInRange n l h w



end Go.Proofs.YtlbkbcafkjgckaaDoor.tree

/-
  Comparing two scalars the other way round gives the opposite order; a valid value is equal to what is identical with it.
  Conditions: those that each theorem names.
-/
namespace Go.Proofs.YtlbkbcafkjgckaaDoor.tree
open Go.ChangeShapes Go.WideShapes Go.ChangeAt Go.RowKit
set_option linter.unusedVariables false

theorem ci_opp (a b : Int) : Lib.compareInt a b = - Lib.compareInt b a ∧ Lib.compareInt a b ≠ 2 := by
  unfold Lib.compareInt
  constructor <;> repeat' split
  all_goals omega
theorem ci_same (a : Int) : Lib.compareInt a a = 0 := by unfold Lib.compareInt; rw [if_neg (by omega), if_neg (by omega)]
theorem cb_opp : ∀ (a b : List UInt8), Lib.compareBytes a b = - Lib.compareBytes b a ∧ Lib.compareBytes a b ≠ 2
  | [], [] => by simp [Lib.compareBytes]
  | [], _ :: _ => by simp [Lib.compareBytes]
  | _ :: _, [] => by simp [Lib.compareBytes]
  | a :: r, b :: r' => by
    have ih := cb_opp r r'
    simp only [Lib.compareBytes]
    by_cases h1 : a < b
    · have h2 : ¬ b < a := fun h => UInt8.lt_irrefl _ (UInt8.lt_trans h h1)
      simp [h1, h2]
    · by_cases h2 : b < a
      · simp [h1, h2]
      · simp only [h1, h2, if_false]
        exact ih
theorem cb_same : ∀ a : List UInt8, Lib.compareBytes a a = 0
  | [] => rfl
  | a :: r => by
    have h : ¬ a < a := UInt8.lt_irrefl a
    simp only [Lib.compareBytes, h, if_false]
    exact cb_same r
theorem bys_opp (a b : ByteArray) : bys a b = - bys b a ∧ bys a b ≠ 2 := cb_opp _ _
theorem bys_same (a : ByteArray) : bys a a = 0 := cb_same _

/-- Two scalars. -/
theorem ord_opp {k n x k' n' x' : Int} {s s' : ByteArray} {ks ks' : List Ky} {vs vs' : List Tr} (h : 0 ≤ k ∧ k ≤ 3) (h' : 0 ≤ k' ∧ k' ≤ 3) :
    ordO (.mk k n s x ks vs) (.mk k' n' s' x' ks' vs') = - ordO (.mk k' n' s' x' ks' vs') (.mk k n s x ks vs) ∧ ordO (.mk k n s x ks vs) (.mk k' n' s' x' ks' vs') ≠ 2 := by
  rw [ordO_mk, ordO_mk]
  by_cases h1 : (k = 0 ∧ k' = 3) ∨ (k' = 0 ∧ k = 3)
  · rw [if_pos h1, if_pos h1.symm]; exact bys_opp _ _
  have h1' : ¬ ((k' = 0 ∧ k = 3) ∨ (k = 0 ∧ k' = 3)) := fun h => h1 h.symm
  rw [if_neg h1, if_neg h1']
  by_cases h2 : (k = 0 ∨ k = 1) ∨ (k' = 0 ∨ k' = 1)
  · rw [if_pos h2, if_pos h2.symm]; exact ci_opp _ _
  have h2' : ¬ ((k' = 0 ∨ k' = 1) ∨ (k = 0 ∨ k = 1)) := fun h => h2 h.symm
  rw [if_neg h2, if_neg h2']
  by_cases h3 : (ers.nn (.mk k n s x ks vs)).2 = true ∧ (ers.nn (.mk k' n' s' x' ks' vs')).2 = true
  · rw [if_pos h3, if_pos h3.symm]; exact ci_opp _ _
  have h3' : ¬ ((ers.nn (.mk k' n' s' x' ks' vs')).2 = true ∧ (ers.nn (.mk k n s x ks vs)).2 = true) := fun h => h3 h.symm
  rw [if_neg h3, if_neg h3']
  rw [if_pos (by omega), if_pos (by omega)]
  exact bys_opp _ _
theorem cmp_opp {k n x k' n' x' : Int} {s s' : ByteArray} {ks ks' : List Ky} {vs vs' : List Tr} (h : 0 ≤ k ∧ k ≤ 3) (h' : 0 ≤ k' ∧ k' ≤ 3) :
    cmpT (.mk k n s x ks vs) (.mk k' n' s' x' ks' vs') = - cmpT (.mk k' n' s' x' ks' vs') (.mk k n s x ks vs) ∧ cmpT (.mk k n s x ks vs) (.mk k' n' s' x' ks' vs') ≠ 2 := by
  rw [cmpT_mk, cmpT_mk, if_neg (by omega), if_neg (by omega)]
  exact ord_opp h h'

/-- What is alike is equal outside. -/
theorem ord_alike (k n : Int) (s : ByteArray) (x : Int) (ks : List Ky) (vs : List Tr) (x' : Int) (ks' : List Ky) (vs' : List Tr) (hl : vs.length = vs'.length) : ordO (.mk k n s x ks vs) (.mk k n s x' ks' vs') = 0 := by
  have e1 : ers.tt (.mk k n s x ks vs) = ers.tt (.mk k n s x' ks' vs') := rfl
  have e2 : tb (.mk k n s x ks vs) = tb (.mk k n s x' ks' vs') := by unfold tb; simp only [hl]
  have e3 : tr01 (.mk k n s x ks vs) = tr01 (.mk k n s x' ks' vs') := by unfold tr01; rw [e2]
  have e4 : ti (.mk k n s x ks vs) = ti (.mk k n s x' ks' vs') := by rw [ti_mk, ti_mk, e2]
  have e5 : ers.nn (.mk k n s x ks vs) = ers.nn (.mk k n s x' ks' vs') := by rw [ers.nn_mk, ers.nn_mk, e4]
  rw [ordO_mk]
  rw [e1, e3, e5, hl]
  split
  · exact bys_same _
  · split
    · exact ci_same _
    · split
      · exact ci_same _
      · split
        · exact bys_same _
        · split
          · exact ci_same _
          · by_cases h4 : k = 4
            · simp_all
            · simp [h4]

theorem identL_each : ∀ {ks : List Ky} {vs : List Tr} {ks' : List Ky} {vs' : List Tr}, ks.length = vs.length → ks'.length = vs'.length → vs.length = vs'.length → identL ks vs ks' vs' = true →
    ks = ks' ∧ ∀ (j : Nat) (t : Tr), vs[j]? = some t → ∃ u, vs'[j]? = some u ∧ identB t u = true
  | [], [], [], [], _, _, _, _ => ⟨rfl, fun j t h => by simp at h⟩
  | y :: ks, t :: vs, y' :: ks', t' :: vs', h1, h2, h3, h => by
    rw [identL, Bool.and_eq_true, Bool.and_eq_true, decide_eq_true_eq] at h
    obtain ⟨⟨rfl, h4⟩, h5⟩ := h
    obtain ⟨rfl, h6⟩ := identL_each (by simpa using h1) (by simpa using h2) (by simpa using h3) h5
    refine ⟨rfl, fun j u hu => ?_⟩
    match j, hu with
    | 0, hu =>
      obtain rfl : t = u := by simpa using hu
      exact ⟨t', rfl, h4⟩
    | j + 1, hu => exact h6 j u (by simpa using hu)
  | [], [], [], _ :: _, _, _, h, _ => by simp at h
  | [], [], _ :: _, [], _, h, _, _ => by simp at h
  | [], [], _ :: _, _ :: _, _, _, h, _ => by simp at h
  | [], _ :: _, _, _, h, _, _, _ => by simp at h
  | _ :: _, [], _, _, h, _, _, _ => by simp at h
  | _ :: _, _ :: _, [], [], _, _, h, _ => by simp at h
  | _ :: _, _ :: _, [], _ :: _, _, h, _, _ => by simp at h
  | _ :: _, _ :: _, _ :: _, [], _, h, _, _ => by simp at h
theorem cmpL_zero : ∀ {ks : List Ky} {vs : List Tr} {ks' : List Ky} {vs' : List Tr}, (∀ (j : Nat) (y : Ky) (t : Tr), ks[j]? = some y → vs[j]? = some t → ∃ u, getL ks' vs' y = some u ∧ cmpT t u = 0) → cmpL ks vs ks' vs' = 0
  | [], vs, ks', vs', _ => by cases vs <;> rw [cmpL] <;> simp
  | y :: ks, [], ks', vs', _ => cmpL_nil _ _ _
  | y :: ks, t :: vs, ks', vs', h => by
    obtain ⟨u, hu, hc⟩ := h 0 y t rfl rfl
    rw [cmpL_cons, hu]
    show thn (cmpT t u) _ = 0
    rw [hc, thn_zero]
    exact cmpL_zero fun j y' t' hy ht => h (j + 1) y' t' (by simpa using hy) (by simpa using ht)
theorem items_at {x : Int} {ks : List Ky} {vs : List Tr} (hl : ks.length = vs.length) (h : itemsB x [] ks vs = true) : ∀ j, j ≤ vs.length → itemsB x (ks.take j) (ks.drop j) (vs.drop j) = true
  | 0, _ => by simpa using h
  | j + 1, hj => by
    have ih := items_at hl h j (by omega)
    rw [items_drop (List.getElem?_eq_getElem (by omega : j < ks.length)) (List.getElem?_eq_getElem (by omega : j < vs.length)), Bool.and_eq_true] at ih
    exact ih.2
theorem items_fact {x : Int} {ks : List Ky} {vs : List Tr} (hl : ks.length = vs.length) (h : itemsB x [] ks vs = true) {j : Nat} {y : Ky} {t : Tr} (hy : ks[j]? = some y) (ht : vs[j]? = some t) : y ∉ ks.take j ∧ sndB t = true := by
  have := items_at hl h j (by have := (List.getElem?_eq_some_iff.1 ht).1; omega)
  rw [items_drop hy ht, Bool.and_eq_true, Bool.and_eq_true, Bool.and_eq_true] at this
  exact ⟨by simpa using this.1.1, this.1.2.2⟩

/-- A valid value is equal to what is identical with it. -/
theorem cmp_ident : ∀ t, fits t → sndB t = true → ∀ u, fits u → identB t u = true → cmpT t u = 0 := Tr.ind fun k n s x ks vs ih hf hs u hfu hi => by
  obtain ⟨k', n', s', x', ks', vs'⟩ := u
  rw [identB_mk, Bool.and_eq_true] at hi
  obtain ⟨ha, hl⟩ := hi
  unfold alikeB at ha
  simp only [Bool.and_eq_true, decide_eq_true_eq] at ha
  obtain ⟨rfl, rfl, hs', hlen⟩ := ha
  obtain rfl := bytes_same hs'
  rw [cmpT_mk]
  rw [ord_alike k n s x ks vs x' ks' vs' hlen]
  by_cases h4 : k = 4
  · subst h4
    rw [if_pos ⟨rfl, rfl, rfl⟩]
    rw [fits] at hf hfu
    rw [snd_four, Bool.and_eq_true, Bool.and_eq_true, Bool.and_eq_true] at hs
    obtain ⟨rfl, he⟩ := identL_each hf.1 hfu.1 hlen hl
    refine cmpL_zero fun j y t hy ht => ?_
    obtain ⟨hn, hst⟩ := items_fact hf.1 hs.2.2.2 hy ht
    obtain ⟨u, hu, hiu⟩ := he j t ht
    have hp := (pos_first ks y 0 j hy).2 hn
    refine ⟨u, ?_, ih t (List.mem_of_getElem? ht) (fits_mem hf.2 ht) hst u (fits_mem hfu.2 hu) hiu⟩
    unfold getL
    rw [hp, if_neg (by omega)]
    rw [show ((0 : Nat) : Int) + (j : Int) = (j : Int) by omega, Int.toNat_natCast]
    exact hu
  · rw [if_neg (by omega)]
where
  fits_mem : ∀ {vs : List Tr} {j : Nat} {t : Tr}, fitss vs → vs[j]? = some t → fits t
  | [], j, t, _, h => by simp at h
  | u :: vs, 0, t, hf, h => by
    obtain rfl : u = t := by simpa using h
    rw [fitss] at hf
    exact hf.1
  | u :: vs, j + 1, t, hf, h => by
    rw [fitss] at hf
    exact fits_mem hf.2 (by simpa using h)
theorem identB_same : ∀ t, fits t → identB t t = true := Tr.ind fun k n s x ks vs ih hf => by
  rw [identB_mk, Bool.and_eq_true]
  refine ⟨by unfold alikeB; simp, ?_⟩
  rw [fits] at hf
  obtain ⟨h1, h2⟩ := hf
  clear n s x k
  induction ks generalizing vs with
  | nil => cases vs <;> rw [identL] <;> simp
  | cons y ks ihk =>
    cases vs with
    | nil => rw [identL]; simp
    | cons t vs =>
      rw [fitss] at h2
      rw [identL, ih t List.mem_cons_self h2.1, ihk vs (fun u hu => ih u (List.mem_cons_of_mem _ hu)) (by simpa using h1) h2.2]
      simp
theorem cmp_same (t : Tr) (hf : fits t) (hs : sndB t = true) : cmpT t t = 0 := cmp_ident t hf hs t hf (identB_same t hf)

end Go.Proofs.YtlbkbcafkjgckaaDoor.tree

/-
  Keys in a row that a call has made.
  Conditions: those that each theorem names.
-/
namespace Go.Proofs.YtlbkbcafkjgckaaDoor.tree
open Go.ChangeShapes Go.WideShapes Go.ChangeAt Go.RowKit
set_option linter.unusedVariables false

/-- The cells of keys. -/
def kcs : List Ky → List Value
  | [] => []
  | y :: ks => .bool y.text :: .int .i64 y.num :: .string y.str :: kcs ks
theorem kcs_len : ∀ ks, (kcs ks).length = ks.length * 3
  | [] => rfl
  | y :: ks => by rw [kcs]; simp only [List.length_cons, kcs_len ks]; omega
theorem kcs_get : ∀ (ks : List Ky) (i : Nat) (y : Ky), ks[i]? = some y → ∀ q, q < 3 → (kcs ks)[i * 3 + q]? = (#[.bool y.text, .int .i64 y.num, .string y.str] : Array Value)[q]?
  | [], i, y, h, _, _ => by simp at h
  | y0 :: ks, 0, y, h, q, hq => by
    obtain rfl : y0 = y := by simpa using h
    rw [kcs]
    match q, hq with
    | 0, _ => rfl
    | 1, _ => rfl
    | 2, _ => rfl
  | y0 :: ks, i + 1, y, h, q, hq => by
    have := kcs_get ks i y (by simpa using h) q hq
    rw [kcs, show (i + 1) * 3 + q = (i * 3 + q) + 1 + 1 + 1 by omega, List.getElem?_cons_succ, List.getElem?_cons_succ, List.getElem?_cons_succ]
    exact this
theorem kcs_append : ∀ a b, kcs (a ++ b) = kcs a ++ kcs b
  | [], b => rfl
  | y :: a, b => by rw [List.cons_append, kcs, kcs, kcs_append a b]; rfl
/-- Keys of Go's type. -/
def okK (ks : List Ky) : Prop := ∀ y ∈ ks, I64 y.num ∧ y.str.size ≤ maxLen

/-- A row of the call's own holds the keys. -/
def KRow (w : World) (lo : Nat) (v : Value) (ks : List Ky) : Prop := w.ownsRow lo IK 3 v ks.length (kcs ks)
theorem KRow.below {w w' : World} {lo : Nat} {v : Value} {ks : List Ky} (h : KRow w lo v ks) (hb : Below w.heap.size w w') : KRow w' lo v ks := World.ownsRow.kept h (mem.none_of_below hb) ownBlock_keep
theorem KRow.lo {w : World} {lo lo' : Nat} {v : Value} {ks : List Ky} (h : KRow w lo v ks) (hl : lo' ≤ lo) : KRow w lo' v ks := by
  obtain ⟨h1, h2⟩ := h
  refine ⟨h1, ?_⟩
  rcases h2 with h | ⟨g, cap, cur, e, hg, hr⟩
  · exact .inl h
  · exact .inr ⟨g, cap, cur, e, by omega, hr⟩
theorem KRow.blk {w w' : World} {lo : Nat} {v : Value} {ks : List Ky} (h : KRow w lo v ks) (hs : ∀ b, v.ownBlock = some b → lo ≤ b → b < w.heap.size → w'.heap[b]? = w.heap[b]?) : KRow w' lo v ks := by
  obtain ⟨h1, h2⟩ := h
  refine ⟨h1, ?_⟩
  rcases h2 with h | ⟨g, cap, cur, rfl, hlo, hg, hr⟩
  · exact .inl h
  · exact .inr ⟨g, cap, cur, rfl, hlo, (hs g rfl hlo (Array.getElem?_eq_some_iff.1 hg).1).trans hg, hr⟩
theorem KRow.own {w : World} {lo : Nat} {v : Value} {ks : List Ky} (h : KRow w lo v ks) : ∀ b, v.ownBlock = some b → lo ≤ b ∧ b < w.heap.size := World.ownsRow.lt h
/-- A row of keys as a slice: its cells. -/
theorem KRow.out {w : World} {lo : Nat} {v : Value} {ks : List Ky} (h : KRow w lo v ks) : ∃ A c, v = .slice A ks.length c ∧ (ks.length ≤ c ∧ c ≤ maxLen) ∧ ∀ i y, ks[i]? = some y → ∃ g cur, A = some ⟨g, 0, none⟩ ∧ lo ≤ g ∧ w.heap[g]? = some (.cells cur IK (0, 0)) ∧ cur.size = c * 3 ∧
    ∀ q, q < 3 → cur[i * 3 + q]? = (#[.bool y.text, .int .i64 y.num, .string y.str] : Array Value)[q]? := by
  obtain ⟨h1, h2⟩ := h
  rcases h2 with ⟨rfl, h0⟩ | ⟨g, cap, cur, rfl, hlo, hg, hnc, hcm, hsz, htk⟩
  · rw [h0]
    exact ⟨none, 0, rfl, ⟨Nat.le_refl _, Nat.zero_le _⟩, fun i y hy => by
      have := (List.getElem?_eq_some_iff.1 hy).1
      omega⟩
  · refine ⟨some ⟨g, 0, none⟩, cap, rfl, ⟨hnc, hcm⟩, fun i y hy => ⟨g, cur, rfl, hlo, hg, hsz, fun q hq => ?_⟩⟩
    have hi := (List.getElem?_eq_some_iff.1 hy).1
    rw [← kcs_get ks i y hy q hq, ← htk, List.getElem?_take_of_lt (by omega), Array.getElem?_toList]

theorem ik_info : ∃ i, Tryd.prog.info? IK = some i ∧ (i.zero = some (.agg #[.bool false, .int .i64 0, .string ⟨#[]⟩]) ∧ i.size = 3 ∧ i.bytes = 32) := by
  have : (Tryd.prog.info? IK).map (fun i => (i.zero, i.size, i.bytes)) = some (some (.agg #[.bool false, .int .i64 0, .string ⟨#[]⟩]), 3, 32) := by kernel_rfl
  cases hq : Tryd.prog.info? IK with
  | none => rw [hq] at this; cases this
  | some i => rw [hq] at this; simp at this; exact ⟨i, rfl, this⟩
theorem three_one (b : Bool) (n : Int) (s : ByteArray) : ∀ u ∈ [Value.bool b, .int .i64 n, .string s], u.oneCell' = true := by simp [Value.oneCell']
theorem three_new (w : World) (c0 c1 c2 : Value) (t : TypeId) : ∀ j u, [c0, c1, c2][j]? = some u → (w.alloc (.cells #[c0, c1, c2] t)).cell? ((⟨w.heap.size, 0, none⟩ : Addr).add j) = some u := by
  intro j u hj
  rw [Addr.add_lit, Nat.zero_add, cell_of_row _ _ j _ t _ (heap_alloc_new w _)]
  simpa using hj

/-- The keys of a value. -/
def keysT : Tr → List Ky
  | .mk k _ _ _ ks _ => if k = 4 then ks else []
def KsQ (w : World) (ks : List Ky) (e : Ending) (w' : World) : Prop := ∃ v, e = .returned v ∧ KRow w' w.heap.size v ks ∧ Below w.heap.size w w'

end Go.Proofs.YtlbkbcafkjgckaaDoor.tree

/-
  KeysOf of the project and of the model.
  Conditions: the value holds at most 10^9 items and letters.
-/
namespace Go.Proofs.YtlbkbcafkjgckaaDoor.tree
open Go.ChangeShapes Go.WideShapes Go.ChangeAt Go.RowKit
set_option linter.unusedVariables false

set_option maxRecDepth 100000 in
set_option maxHeartbeats 1600000 in
theorem keysOf_i (t : Tr) (v : Value) (w : World) (S : Nat → Prop) (h : TIn w S t v) (hT : tot t ≤ 1000000000) : Calls Tryd.prog 21 #[v] w (KsQ w (keysT t)) := by
  obtain ⟨k, n, s, x, ks, vs⟩ := t
  obtain ⟨A, c, rfl, -, hin⟩ := h.out
  rw [tot_mk] at hT
  obtain ⟨L, HL⟩ : ∃ L, Hid (L = vs.length) := ⟨_, Lib.hid rfl⟩
  have hm : L ≤ 1000000000 := by rw [HL.out]; omega
  have hkl : Hid (ks.length = L) := Lib.hid (by rw [HL.out]; exact hin.1)
  have HTT := Lib.hid (show tots ks vs ≤ 1000000000 by omega)
  have HI := Lib.hid hin
  rw [← HL.out]
  clear h hT hin
  show Calls _ _ _ _ (KsQ w (if k = 4 then ks else []))
  by_cases h4 : k = 4
  · subst h4
    rw [if_pos rfl]
    obtain ⟨i0, hi, hz⟩ := ik_info
    have HII := Lib.hid hi
    have HZZ := Lib.hid hz
    clear hi hz
    go_enter Tryd.func21, Tryd.ntmps21
    go_wp2_with (fail)
    go_loopg [3, 15] (L + 1) (fun gk r i wr => ∃ j : Nat, i = .int .i64 j ∧ gk + j = L + 1 ∧ j ≤ L ∧ Hid (KRow wr w.heap.size r (ks.take j)) ∧ Below w.heap.size w wr)
    case atStart =>
      refine ⟨0, rfl, by omega, by omega, Lib.hid ?_, b2 _ _ _⟩
      have := (World.ownsRow_made (base := w.heap.size) (e := IK) (size := 3) (w.alloc (.cells #[.int .i64 4, .int .i64 n, .string s, .int .i64 x, .slice A L c] IV)) #[] 0 (by simp) (Nat.zero_le _) rfl)
      rwa [show (w.alloc (.cells #[.int .i64 4, .int .i64 n, .string s, .int .i64 x, .slice A L c] IV)).heap.size = w.heap.size + 1 by simp] at this
    case round =>
      obtain ⟨j, rfl, hgj, hjL, HR, hb⟩ := hrel
      have HB := Lib.hid hb
      clear hb
      by_cases hlt : j < L
      · obtain ⟨a, y, k1, n1, s1, x1, ks1, vs1, A1, c1, rfl, hS, hky, hvs, ht, hyb, hkb, hin1, hcell⟩ := (HI.out.below HB.out).item (i := j) (by rw [← HL.out]; exact hlt)
        have hys : y.str.size ≤ 1000000000 := by have := tots_key hky hvs; have := HTT.out; omega
        have HKY := Lib.hid hky
        obtain ⟨L1, HL1⟩ : ∃ L1, Hid (L1 = vs1.length) := ⟨_, Lib.hid rfl⟩
        rw [← HL1.out] at hcell
        obtain ⟨p0, p1, p2, p3, p4, p5, p6, p7⟩ := hcell
        clear hvs ht hin1 hkb hS hky
        obtain ⟨yb, yn, ys⟩ := y
        simp only at p0 p1 p2 hys
        go_wp2_with (fail)
        refine (implClone' ys (by omega) _).mono ?_
        rintro e w1 ⟨rfl, hb1⟩
        have EK := Lib.hid (carry hb1 (heap_alloc2_new wr _ _))
        have HB1 := Lib.hid (bs HB.out (bs (b2 wr _ _) hb1))
        have HR1 := Lib.hid (HR.out.below (bs (b2 wr _ _) hb1))
        obtain ⟨r1, f1⟩ := rowc EK.out
        obtain ⟨W2, HW2⟩ : ∃ W, Hid (W = w1.setCell ⟨wr.heap.size + 1, 2, none⟩ (.string ys)) := ⟨_, Lib.hid rfl⟩
        have hz2 : W2.heap.size = w1.heap.size := by rw [HW2.out]; exact set_size
        have hwb : wr.heap.size + 2 ≤ w1.heap.size := by have := hb1.size; simp at this; omega
        have HZ2 := Lib.hid hz2
        have HR2 : Hid (KRow W2 w.heap.size u3 (ks.take j)) := Lib.hid (HR1.out.blk fun b hb _ _ => by
          have := HR.out.own b hb
          rw [HW2.out]
          exact set_other (by omega))
        have HB2 : Hid (Below w.heap.size w W2) := Lib.hid (by rw [HW2.out]; exact HB1.out.setCell (by have := HB.out.size; simp; omega) _)
        have HNW : Hid (∀ q u, [Value.bool yb, .int .i64 yn, .string ys][q]? = some u → (W2.alloc (.cells #[.bool yb, .int .i64 yn, .string ys] IK)).cell? ((⟨w1.heap.size, 0, none⟩ : Addr).add q) = some u) := Lib.hid (by rw [← hz2]; exact three_new _ _ _ _ _)
        have HLJ : Hid ((ks.take j).length = j) := Lib.hid (by rw [List.length_take, hkl.out]; omega)
        clear hb1 p0 p1 p2 p3 p4 p5 p6 p7 hz2 hwb
        go_wp2_with (first
          | (at_builtin; rw [← HW2.out]; refine wpList_append_own _ rfl _ _ 41 rfl w.heap.size IK i0 _ 3 32 Tryd.underlying41 HII.out HZZ.out.1 HZZ.out.2.1 HZZ.out.2.2 rfl (by decide) _ (ks.take j).length _ rfl (HR2.out.below (b1 _ _)) ⟨w1.heap.size, 0, none⟩ 1 1 [.bool yb, .int .i64 yn, .string ys] rfl rfl HNW.out (three_one _ _ _) (by rw [HLJ.out]; unfold maxLen; omega) (by rw [HLJ.out]; omega) (by have := HB2.out.size; simp; omega) ?_
             intro v' w5 hown' hgrow' hnil
             have HR5 := Lib.hid hown'
             have HG5 := Lib.hid hgrow'
             clear hown' hgrow' hnil)
          | fail)
        go_roundg (L - j)
        case rel =>
          refine ⟨j + 1, by go_num, by omega, by omega, Lib.hid ?_, ?_⟩
          · have e : ks.take (j + 1) = ks.take j ++ [⟨yb, yn, ys⟩] := by rw [List.take_add_one, HKY.out]; rfl
            have := HR5.out
            rw [e]
            unfold KRow
            rw [kcs_append, List.length_append]
            exact this
          · exact grown_below' (HB2.out.alloc HB2.out.size _) HG5.out (by have := HB2.out.size; simp; omega) (fun b hb => (HR2.out.own b hb).1)
        case measure => omega
      · obtain rfl : j = L := by omega
        have e : ks.take j = ks := by rw [← hkl.out, List.take_length]
        have HR3 := Lib.hid (e ▸ HR.out)
        clear e HR
        go_wp2_with (fail)
        go_ret
        exact ⟨_, rfl, HR3.out, HB.out⟩
  · rw [if_neg h4]
    go_enter Tryd.func21, Tryd.ntmps21
    go_wp2_with (fail)
    go_ret
    refine ⟨_, rfl, ?_, b2 _ _ _⟩
    have := (World.ownsRow_made (base := w.heap.size) (e := IK) (size := 3) (w.alloc (.cells #[.int .i64 k, .int .i64 n, .string s, .int .i64 x, .slice A L c] IV)) #[] 0 (by simp) (Nat.zero_le _) rfl)
    rwa [show (w.alloc (.cells #[.int .i64 k, .int .i64 n, .string s, .int .i64 x, .slice A L c] IV)).heap.size = w.heap.size + 1 by simp] at this


end Go.Proofs.YtlbkbcafkjgckaaDoor.tree

/-
  The model's IsKey, whatever the package variables hold.
  Conditions: those that each theorem names.
-/
namespace Go.Proofs.YtlbkbcafkjgckaaDoor.tree
open Go.ChangeShapes Go.WideShapes Go.ChangeAt Go.RowKit
set_option linter.unusedVariables false

set_option maxHeartbeats 800000 in
theorem isKey_n (y : Ky) (hs : y.str.size ≤ 281474976710656) (w : World) : Calls Tryd.prog 15 #[kyV y] w (KeyQ w (keyB y)) := by
  obtain ⟨b, m, s⟩ := y
  replace hs : s.size ≤ 281474976710656 := hs
  cases b
  · have e : keyB ⟨false, m, s⟩ = (nums.inr m (-1000000000) 1000000000 && decide (s.size = 0)) := rfl
    rw [e]
    clear e
    unfold kyV
    obtain ⟨q, HQ⟩ : ∃ q, Hid (nums.inr m (-1000000000) 1000000000 = q) := ⟨_, Lib.hid rfl⟩
    have IR : ∀ w, Calls Tryd.prog 61 #[.int .i64 m, .int .i64 (-1000000000), .int .i64 1000000000] w fun e w' => e = .returned (.bool q) ∧ w = w' := fun w => HQ.out ▸ nums.l1In m (-1000000000) 1000000000 w
    rw [HQ.out]
    by_cases h0 : s.size = 0
    · obtain rfl := empty_of h0
      cases q
      all_goals
        go_enter Tryd.func15, Tryd.ntmps15
        go_wp2_with (fail)
        refine (IR _).mono ?_
        rintro e w1 ⟨rfl, rfl⟩
        go_wp2_with (fail)
        go_ret
        exact ⟨rfl, b1 _ _⟩
    · obtain ⟨l1, l2⟩ := list_of h0
      rw [show decide (s.size = 0) = false from decide_eq_false h0]
      clear h0
      cases q
      all_goals
        go_enter Tryd.func15, Tryd.ntmps15
        go_wp2_with (fail)
        refine (IR _).mono ?_
        rintro e w1 ⟨rfl, rfl⟩
        go_wp2_with (fail)
        go_ret
        exact ⟨rfl, b1 _ _⟩
  · have e : keyB ⟨true, m, s⟩ = (decide (m = 0) && decide (s.size ≤ 400) && !num s) := rfl
    rw [e]
    clear e
    unfold kyV
    obtain ⟨⟨x1, x2⟩, HX⟩ : ∃ x, Hid (dec.pr (-1000000000) 1000000000 s.data.toList = x) := ⟨_, Lib.hid rfl⟩
    have hn : num s = x2 := by unfold num; rw [HX.out]
    rw [hn]
    have PS : Hid (∀ w, Calls Tryd.prog 62 #[.string s] w fun e w' => e = .returned (.tuple #[.int .i64 x1, .bool x2]) ∧ Below w.heap.size w w') := Lib.hid fun w => by
      have := prs.specParseSigned s hs w
      rw [HX.out] at this
      exact this
    clear hn
    by_cases h0 : m = 0
    · subst h0
      by_cases h4 : s.size ≤ 400
      · rw [show decide (s.size ≤ 400) = true from decide_eq_true h4]
        cases x2
        all_goals
          go_enter Tryd.func15, Tryd.ntmps15
          go_wp2_with (fail)
          refine (PS.out _).mono ?_
          rintro e w1 ⟨rfl, hb1⟩
          have HB := Lib.hid (bs (b1 w _) hb1)
          obtain ⟨r1, -⟩ := rowc (carry hb1 (heap_alloc_new w _))
          clear hb1
          go_wp2_with (fail)
          go_ret
          exact ⟨rfl, HB.out⟩
      · rw [show decide (s.size ≤ 400) = false from decide_eq_false h4]
        have h4' : 400 < s.size := by omega
        clear h4
        go_enter Tryd.func15, Tryd.ntmps15
        go_wp2_with (fail)
        refine (PS.out _).mono ?_
        rintro e w1 ⟨rfl, hb1⟩
        have HB := Lib.hid (bs (b1 w _) hb1)
        obtain ⟨r1, -⟩ := rowc (carry hb1 (heap_alloc_new w _))
        clear hb1
        go_wp2_with (fail)
        go_ret
        exact ⟨rfl, HB.out⟩
    · rw [show decide (m = 0) = false from decide_eq_false h0]
      go_enter Tryd.func15, Tryd.ntmps15
      go_wp2_with (fail)
      refine (PS.out _).mono ?_
      rintro e w1 ⟨rfl, hb1⟩
      have HB := Lib.hid (bs (b1 w _) hb1)
      obtain ⟨r1, -⟩ := rowc (carry hb1 (heap_alloc_new w _))
      clear hb1
      go_wp2_with (fail)
      go_ret
      exact ⟨rfl, HB.out⟩

end Go.Proofs.YtlbkbcafkjgckaaDoor.tree

