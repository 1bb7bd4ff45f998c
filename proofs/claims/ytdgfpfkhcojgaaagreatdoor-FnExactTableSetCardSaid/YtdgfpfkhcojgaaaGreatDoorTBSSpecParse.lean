/-
  What the model's ParseInt and ParseSigned return: the same numbers as the project's.
  Conditions: the text has at most 2^48 bytes.
-/
import Derived.Test.YtdgfpfkhcojgaaaGreatDoorTBB1
import Derived.Lib.IndexBytes
namespace Go.Proofs.YtdgfpfkhcojgaaaGreatDoor.prs
open Go.ChangeShapes Go.WideShapes Go.ChangeAt Go.RowKit Go.Sort Go.Lib
set_option linter.unusedVariables false


theorem implParseSigned (s : ByteArray) (hl : s.size ≤ 281474976710656) (w : World) (hE : Env w) :
    Calls Tryz.prog 108 #[.string s] w fun e w' => e = .returned (two (dec.pr (-1000000000) 1000000000 s.data.toList)) ∧ RowKit.Below w.heap.size w w' := by
  have HE := Lib.hid hE; clear hE
  generalize hp : dec.pr (-1000000000) 1000000000 s.data.toList = x
  have HP := Lib.hid hp; clear hp
  obtain ⟨x1, x2⟩ := x
  go_enter Tryz.func108, Tryz.ntmps108
  go_wp2_with (go_at_call 150; refine (within s (-1000000000) 1000000000 hl _ HE.out).mono ?_; rintro e w1 ⟨rfl, hb1⟩; rw [HP.out]; unfold two)
  go_ret2
  exact ⟨rfl, hb1⟩

theorem val_lt : ∀ (l : List UInt8) (a : Nat), (∀ b ∈ l, dec.isDig b) → dec.valFrom a l < (a + 1) * 10 ^ l.length
  | [], a, _ => by rw [dec.valFrom_nil]; simp
  | b :: l, a, h => by
    have hb : dec.isDig b := h b List.mem_cons_self
    unfold dec.isDig at hb
    have ih := val_lt l (10 * a + (b.toNat - 48)) (fun x hx => h x (List.mem_cons_of_mem _ hx))
    rw [dec.valFrom_cons]
    have e : (10 * a + (b.toNat - 48) + 1) * 10 ^ l.length ≤ (10 * (a + 1)) * 10 ^ l.length := Nat.mul_le_mul_right _ (by omega)
    have e2 : (10 * (a + 1)) * 10 ^ l.length = (a + 1) * 10 ^ (l.length + 1) := by rw [Nat.pow_succ, Nat.mul_comm 10 (a + 1), Nat.mul_assoc, Nat.mul_comm 10]
    rw [List.length_cons]
    omega

theorem val_small {l : List UInt8} (h : ∀ b ∈ l, dec.isDig b) (hl : l.length ≤ 13) : dec.val l < 10000000000000 := by
  have h1 := val_lt l 0 h
  have h2 : 10 ^ l.length ≤ 10 ^ 13 := Nat.pow_le_pow_right (by omega) hl
  have h3 : (10 : Nat) ^ 13 = 10000000000000 := by decide
  unfold dec.val
  omega

/-- After k bytes, all of them digits, the number is u. -/
def Sofar (l : List UInt8) (k u : Nat) : Prop := (∀ b ∈ l.take k, dec.isDig b) ∧ u = dec.val (l.take k)
theorem Sofar.start (l : List UInt8) : Sofar l 0 0 := ⟨by simp, by simp [dec.val, dec.valFrom_nil]⟩
theorem size_eq (s : ByteArray) : s.data.toList.length = s.size := Array.length_toList
theorem Sofar.step {s : ByteArray} {k u : Nat} (h : Sofar s.data.toList k u) (hk : k < s.size) (hd : dec.isDig s[k]) : Sofar s.data.toList (k + 1) (10 * u + (s[k].toNat - 48)) := by
  have e : s.data.toList.take (k + 1) = s.data.toList.take k ++ [s[k]] := by
    rw [List.take_succ_eq_append_getElem (by rw [size_eq]; exact hk)]; rfl
  unfold Sofar
  rw [e]
  refine ⟨fun b hb => ?_, by rw [dec.val_snoc, h.2]⟩
  rcases List.mem_append.1 hb with hb | hb
  · exact h.1 b hb
  · simp only [List.mem_singleton] at hb
    rw [hb]
    exact hd
theorem mem_at {s : ByteArray} {k : Nat} (hk : k < s.size) : s[k] ∈ s.data.toList := by
  have h : s.data.toList[k]'(by rw [size_eq]; exact hk) ∈ s.data.toList := List.getElem_mem _
  exact h
theorem Sofar.all {s : ByteArray} {u : Nat} (h : Sofar s.data.toList s.size u) : (∀ b ∈ s.data.toList, dec.isDig b) ∧ u = dec.val s.data.toList := by
  unfold Sofar at h
  rw [List.take_of_length_le (by rw [size_eq]; omega)] at h
  exact h
theorem Sofar.small {l : List UInt8} {k u : Nat} (h : Sofar l k u) (hk : k ≤ 13) : u < 10000000000000 := by
  rw [h.2]
  exact val_small h.1 (by rw [List.length_take]; omega)

theorem specParse (s : ByteArray) (hl : s.size ≤ 281474976710656) (w : World) :
    Calls Tryz.prog 119 #[.string s] w fun e w' => e = .returned (two (dec.pr 0 1000000000000 s.data.toList)) ∧ RowKit.Below w.heap.size w w' := by
  rw [← dec.sp_eq]
  have hsz : s.data.toList.length = s.size := Array.length_toList
  by_cases hr : nums.inr (s.size : Int) 1 13 = true
  · have hr1 : 1 ≤ s.size ∧ s.size ≤ 13 := by unfold nums.inr at hr; simp at hr; omega
    have HR := Lib.hid hr; clear hr
    have HZ := Lib.hid hsz; clear hsz
    obtain ⟨hr1, hr2⟩ := hr1
    go_enter Tryz.func119, Tryz.ntmps119
    go_wp2_with (go_at_call 56; refine (nums.l1In _ _ _ _).mono ?_; rintro e w1 ⟨rfl, rfl⟩; rw [HR.out])
    go_loop [4, 5] (fun n i => ∃ (k u : Nat) (x : Int), k ≤ s.size ∧ i = .int .i64 k ∧ Sofar s.data.toList k u ∧ 0 ≤ x ∧ x < 10000000000000 ∧ Hid (x = (u : Int)) ∧ n = .int .i64 x) (fun _ i => s.size - (RowKit.intOf i).toNat)
    case atStart => exact ⟨0, 0, 0, by omega, rfl, Sofar.start _, by omega, by omega, rfl, rfl⟩
    case round =>
      obtain ⟨k, u, x, hk, rfl, hS, hx0, hx1, HX, rfl⟩ := hrel
      by_cases hlt : k < s.size
      · have hb0 : (0 : Int) ≤ (s[k].toNat : Int) := by omega
        have hb9 : (s[k].toNat : Int) ≤ 255 := by have := s[k].toNat_lt; omega
        by_cases hd : dec.isDig s[k]
        · have hd' := hd
          unfold dec.isDig at hd'
          obtain ⟨d1, d2⟩ := hd'
          have D1 : (48 : Int) ≤ (s[k].toNat : Int) := by omega
          have D2 : (s[k].toNat : Int) ≤ 57 := by omega
          have hin : nums.inr (s[k].toNat : Int) 48 57 = true := by unfold nums.inr; simp; omega
          have hS' := hS.step hlt hd
          have hu' := hS'.small (by omega)
          have HS := Lib.hid hS'; have HIN := Lib.hid hin; clear hS hS' hin hd
          go_wp2_with (go_at_call 56; refine (nums.l1In _ _ _ _).mono ?_; rintro e w1 ⟨rfl, rfl⟩; rw [HIN.out])
          exact ⟨⟨k + 1, 10 * u + (s[k].toNat - 48), 10 * x + ((s[k].toNat : Int) - 48), by omega, by go_num, HS.out, by omega, by have := HX.out; omega, by have := HX.out; show _ = _; omega, rfl⟩, by simp only [RowKit.intOf]; omega⟩
        · have hin : nums.inr (s[k].toNat : Int) 48 57 = false := by unfold dec.isDig at hd; unfold nums.inr; simp; omega
          have hsp : dec.sp s.data.toList = (0, false) := by
            unfold dec.sp
            rw [if_neg]
            exact fun hh => hd (hh.2.2.1 _ (mem_at hlt))
          have HSP := Lib.hid hsp; have HIN := Lib.hid hin; clear hS hin hd hsp
          go_wp2_with (go_at_call 56; refine (nums.l1In _ _ _ _).mono ?_; rintro e w1 ⟨rfl, rfl⟩; rw [HIN.out])
          go_ret2
          exact ⟨by rw [HSP.out]; rfl, RowKit.Below.refl _ _⟩
      · obtain rfl : k = s.size := by omega
        obtain ⟨ha, hv⟩ := hS.all
        have hz := HZ.out
        have hx := HX.out
        by_cases hm : 1000000000000 < x
        · have hsp : dec.sp s.data.toList = (0, false) := by
            unfold dec.sp
            rw [if_neg]
            exact fun hh => by have := hh.2.2.2.1; omega
          have HSP := Lib.hid hsp; clear hsp ha hv hz hS hx
          go_wp2
          go_ret2
          exact ⟨by rw [HSP.out]; rfl, RowKit.Below.refl _ _⟩
        · by_cases hi : Lib.itoa (u : Int) = s.data.toList
          · have hn : fmt.num x = .string s := by unfold fmt.num; rw [hx, hi, Joins.bytes_eta]
            have hsp : dec.sp s.data.toList = (x, true) := by
              unfold dec.sp
              rw [if_pos, hx, hv]
              exact ⟨by omega, by omega, ha, by omega, by rw [← hv]; exact hi⟩
            have HSP := Lib.hid hsp; have HN := Lib.hid hn; clear hsp ha hv hz hS hi hn hx
            go_wp2_with (go_at_call 152; refine (fmt.specFormat _ (by omega) (by omega) _).mono ?_; rintro e w2 ⟨rfl, hb2⟩; rw [HN.out])
            go_ret2
            exact ⟨by rw [HSP.out]; rfl, hb2⟩
          · have hsp : dec.sp s.data.toList = (0, false) := by
              unfold dec.sp
              rw [if_neg]
              exact fun hh => hi (by rw [hv]; exact hh.2.2.2.2)
            obtain ⟨b, hn, hbs⟩ : ∃ b, fmt.num x = .string b ∧ b ≠ s := ⟨_, rfl, fun hh => hi (by rw [← hh, hx])⟩
            have hbs1 : ¬ b.toList = s.toList := fun hh => hbs (by rw [ByteArray.toList_eq, ByteArray.toList_eq] at hh; exact Go.WideShapes.bytes_inj hh)
            have hbs2 : (b.toList == s.toList) = false := by rw [beq_eq_false_iff_ne]; exact hbs1
            have HSP := Lib.hid hsp; have HN := Lib.hid hn; clear hsp ha hv hz hS hi hn hbs hx
            go_wp2_with (go_at_call 152; refine (fmt.specFormat _ (by omega) (by omega) _).mono ?_; rintro e w2 ⟨rfl, hb2⟩; rw [HN.out])
            go_ret2
            exact ⟨by rw [HSP.out]; rfl, hb2⟩
  · have hr' : nums.inr (s.size : Int) 1 13 = false := by simpa using hr
    have hsp : dec.sp s.data.toList = (0, false) := by
      unfold dec.sp
      rw [if_neg]
      intro hh
      apply hr
      unfold nums.inr
      simp
      omega
    have HSP := Lib.hid hsp; have HR := Lib.hid hr'; clear hr hr' hsp
    go_enter Tryz.func119, Tryz.ntmps119
    go_wp2_with (go_at_call 56; refine (nums.l1In _ _ _ _).mono ?_; rintro e w1 ⟨rfl, rfl⟩; rw [HR.out])
    go_ret2
    exact ⟨by rw [HSP.out]; rfl, RowKit.Below.refl _ _⟩

theorem tail_eq (s : ByteArray) : (s.extract 1 s.size).data.toList = s.data.toList.tail := by
  rw [Lib.extract_to_end]
  exact List.drop_one

theorem specParseSigned (s : ByteArray) (hl : s.size ≤ 281474976710656) (w : World) :
    Calls Tryz.prog 59 #[.string s] w fun e w' => e = .returned (two (dec.pr (-1000000000) 1000000000 s.data.toList)) ∧ RowKit.Below w.heap.size w w' := by
  rw [← dec.sps_eq]
  have hsz := size_eq s
  by_cases hneg : s.data.toList.head? = some 45
  · have h0 : 0 < s.size := by
      rcases Nat.eq_zero_or_pos s.size with h | h
      · have : s.data.toList = [] := List.eq_nil_of_length_eq_zero (by omega)
        rw [this] at hneg
        cases hneg
      · exact h
    have h45 : s[0] = 45 := by
      have : s.data.toList.head? = some s[0] := by
        rw [List.head?_eq_getElem?, List.getElem?_eq_getElem (by omega)]
        rfl
      rw [this] at hneg
      injection hneg
    have hps : dec.sps s.data.toList = if (dec.sp s.data.toList.tail).2 = true ∧ (dec.sp s.data.toList.tail).1 ≤ 1000000000 ∧ (dec.sp s.data.toList.tail).1 ≠ 0 then (-(dec.sp s.data.toList.tail).1, true) else (0, false) := by
      unfold dec.sps
      rw [if_pos hneg]
    have hb := dec.pr_true (low := 0) (high := 1000000000000) (l := s.data.toList.tail)
    rw [dec.sp_eq] at hps
    rw [← tail_eq] at hps hb
    have hes : (s.extract 1 s.size).size ≤ 281474976710656 := by rw [ByteArray.size_extract]; omega
    generalize hx : dec.pr 0 1000000000000 (s.extract 1 s.size).data.toList = x at hps hb
    obtain ⟨n, ok⟩ := x
    have HX := Lib.hid hx; have HES := Lib.hid hes; clear hx hes hneg hsz
    cases ok
    · rw [if_neg (fun hh => by cases hh.1)] at hps
      have HP := Lib.hid hps; clear hps hb
      go_enter Tryz.func59, Tryz.ntmps59
      go_wp2_with (go_at_call 119; refine (specParse _ HES.out _).mono ?_; rintro e w1 ⟨rfl, hb1⟩; rw [HX.out]; unfold two)
      go_ret2
      exact ⟨by rw [HP.out]; rfl, hb1⟩
    · obtain ⟨_, b1, b2⟩ := hb rfl
      simp only at b1 b2
      by_cases hm : n ≤ 1000000000
      · by_cases hz : n = 0
        · subst hz
          rw [if_neg (fun hh => hh.2.2 rfl)] at hps
          have HP := Lib.hid hps; clear hps hb
          go_enter Tryz.func59, Tryz.ntmps59
          go_wp2_with (go_at_call 119; refine (specParse _ HES.out _).mono ?_; rintro e w1 ⟨rfl, hb1⟩; rw [HX.out]; unfold two)
          go_ret2
          exact ⟨by rw [HP.out]; rfl, hb1⟩
        · rw [if_pos ⟨rfl, hm, hz⟩] at hps
          have hz1 : (n == 0) = false := by rw [beq_eq_false_iff_ne]; exact hz
          have HP := Lib.hid hps; clear hps hb
          go_enter Tryz.func59, Tryz.ntmps59
          go_wp2_with (go_at_call 119; refine (specParse _ HES.out _).mono ?_; rintro e w1 ⟨rfl, hb1⟩; rw [HX.out]; unfold two)
          go_ret2
          exact ⟨by rw [HP.out]; rfl, hb1⟩
      · rw [if_neg (fun hh => hm hh.2.1)] at hps
        have HP := Lib.hid hps; clear hps hb
        go_enter Tryz.func59, Tryz.ntmps59
        go_wp2_with (go_at_call 119; refine (specParse _ HES.out _).mono ?_; rintro e w1 ⟨rfl, hb1⟩; rw [HX.out]; unfold two)
        go_ret2
        exact ⟨by rw [HP.out]; rfl, hb1⟩
  · have hps : dec.sps s.data.toList = if (dec.sp s.data.toList).2 = true ∧ (dec.sp s.data.toList).1 ≤ 1000000000 then ((dec.sp s.data.toList).1, true) else (0, false) := by
      unfold dec.sps
      rw [if_neg hneg]
    have hb := dec.pr_true (low := 0) (high := 1000000000000) (l := s.data.toList)
    rw [dec.sp_eq] at hps
    generalize hx : dec.pr 0 1000000000000 s.data.toList = x at hps hb
    obtain ⟨n, ok⟩ := x
    have HX := Lib.hid hx; clear hx
    by_cases h0 : 0 < s.size
    · have h45 : s[0] ≠ 45 := by
        intro h
        apply hneg
        rw [List.head?_eq_getElem?, List.getElem?_eq_getElem (by omega)]
        exact congrArg some h
      have h46 : ((s[0].toNat : Int) == 45) = false := by
        rw [beq_eq_false_iff_ne]
        intro h
        apply h45
        apply UInt8.toNat_inj.1
        have : (45 : UInt8).toNat = 45 := rfl
        omega
      clear hneg hsz h45
      cases ok
      · rw [if_neg (fun hh => by cases hh.1)] at hps
        have HP := Lib.hid hps; clear hps hb
        go_enter Tryz.func59, Tryz.ntmps59
        go_wp2_with (go_at_call 119; refine (specParse _ hl _).mono ?_; rintro e w1 ⟨rfl, hb1⟩; rw [HX.out]; unfold two)
        go_ret2
        exact ⟨by rw [HP.out]; rfl, hb1⟩
      · obtain ⟨_, b1, b2⟩ := hb rfl
        simp only at b1 b2
        by_cases hm : n ≤ 1000000000
        · rw [if_pos ⟨rfl, hm⟩] at hps
          have HP := Lib.hid hps; clear hps hb
          go_enter Tryz.func59, Tryz.ntmps59
          go_wp2_with (go_at_call 119; refine (specParse _ hl _).mono ?_; rintro e w1 ⟨rfl, hb1⟩; rw [HX.out]; unfold two)
          go_ret2
          exact ⟨by rw [HP.out]; rfl, hb1⟩
        · rw [if_neg (fun hh => hm hh.2)] at hps
          have HP := Lib.hid hps; clear hps hb
          go_enter Tryz.func59, Tryz.ntmps59
          go_wp2_with (go_at_call 119; refine (specParse _ hl _).mono ?_; rintro e w1 ⟨rfl, hb1⟩; rw [HX.out]; unfold two)
          go_ret2
          exact ⟨by rw [HP.out]; rfl, hb1⟩
    · have hsz0 : (s.size : Int) ≤ 0 := by omega
      clear hneg hsz
      cases ok
      · rw [if_neg (fun hh => by cases hh.1)] at hps
        have HP := Lib.hid hps; clear hps hb
        go_enter Tryz.func59, Tryz.ntmps59
        go_wp2_with (go_at_call 119; refine (specParse _ hl _).mono ?_; rintro e w1 ⟨rfl, hb1⟩; rw [HX.out]; unfold two)
        go_ret2
        exact ⟨by rw [HP.out]; rfl, hb1⟩
      · obtain ⟨_, b1, b2⟩ := hb rfl
        simp only at b1 b2
        by_cases hm : n ≤ 1000000000
        · rw [if_pos ⟨rfl, hm⟩] at hps
          have HP := Lib.hid hps; clear hps hb
          go_enter Tryz.func59, Tryz.ntmps59
          go_wp2_with (go_at_call 119; refine (specParse _ hl _).mono ?_; rintro e w1 ⟨rfl, hb1⟩; rw [HX.out]; unfold two)
          go_ret2
          exact ⟨by rw [HP.out]; rfl, hb1⟩
        · rw [if_neg (fun hh => hm hh.2)] at hps
          have HP := Lib.hid hps; clear hps hb
          go_enter Tryz.func59, Tryz.ntmps59
          go_wp2_with (go_at_call 119; refine (specParse _ hl _).mono ?_; rintro e w1 ⟨rfl, hb1⟩; rw [HX.out]; unfold two)
          go_ret2
          exact ⟨by rw [HP.out]; rfl, hb1⟩

end Go.Proofs.YtdgfpfkhcojgaaaGreatDoor.prs

