/-
  The model's draws of FnSerial: a value; a text, mostly one that is a value's, with a byte changed, cut, or with one more behind.
  Conditions: the bytes of the draw are at most 1048576.
-/
import Derived.Test.YtdglmnmalfpipaaGreatDoorSASDrawA
import Derived.Test.YtdglmnmalfpipaaGreatDoorSAB1
import Derived.Test.YtdglmnmalfpipaaGreatDoorSAB3
import Derived.Test.YtdglmnmalfpipaaGreatDoorSAB5
import Derived.Lib.ConvBytes
namespace Go.Proofs.YtdglmnmalfpipaaGreatDoor.draw
open Go.ChangeShapes Go.WideShapes Go.ChangeAt Go.RowKit tree mem
set_option linter.unusedVariables false

def DSe (w : World) (e : Ending) (w' : World) : Prop := ∃ (v : Value) (t : Tr), e = .returned v ∧ TIn w' (Nw w.heap.size w') t v ∧ tot t ≤ 1000 ∧ Below w.heap.size w w'
set_option maxRecDepth 100000 in
theorem drawSerialize (A : Option Addr) (n c : Nat) (hn : n ≤ 1048576) (w : World) (hA : Code w w.heap.size A n) :
    Calls Tryz.prog 27 #[.slice A n c] w (DSe w) := by
  have HA := Lib.hid hA
  clear hA
  go_enter Tryz.func27, Tryz.ntmps27
  go_wp2_with (fail)
  have hcode : Code (w.alloc (.cells #[.int .i64 0, .int .i64 0, .string ⟨#[]⟩, .int .i64 0, .slice none 0 0] IV)) (w.alloc (.cells #[.int .i64 0, .int .i64 0, .string ⟨#[]⟩, .int .i64 0, .slice none 0 0] IV)).heap.size A n := HA.out.later (b1 w _)
  refine (new A n c hn _ hcode).mono ?_
  rintro e w1 ⟨N, rfl, hN, hC1, hb1⟩
  have hN' : w.heap.size < N := by have : w.heap.size + 1 ≤ N := by simpa using hN
                                   omega
  have HC1 := Lib.hid hC1
  have HB1 := Lib.hid (bs (b1 w _) hb1)
  have HER1 := Lib.hid (carry hb1 (heap_alloc_new w (.cells #[.int .i64 0, .int .i64 0, .string ⟨#[]⟩, .int .i64 0, .slice none 0 0] IV)))
  clear hC1 hb1 hN hcode
  go_wp2_with (fail)
  refine (drawA N _ HC1.out).mono ?_
  rintro e w2 ⟨k, m, s, x, ks, vs, xs, A2, L, c2, rfl, hbd, hL, h5, hO, hB, hC2, hg2⟩
  have hlt : w.heap.size < w1.heap.size := (Array.getElem?_eq_some_iff.1 HER1.out).1
  have HI := Lib.hid hbd
  have HO := Lib.hid hO
  have HT := Lib.hid hB
  have HL := Lib.hid hL
  have HB2 := Lib.hid (below_of HB1.out hg2 (by omega) HB1.out.size)
  have HER2 : Hid (w2.heap[w.heap.size]? = some (.cells #[.int .i64 0, .int .i64 0, .string ⟨#[]⟩, .int .i64 0, .slice none 0 0] IV (0, 0))) := Lib.hid ((hg2.block _ (Array.getElem?_eq_some_iff.1 HER1.out).1 (by intro h; injection h; omega)).trans HER1.out)
  obtain ⟨r2, f2⟩ := rowc HER2.out
  clear hbd hL hO hB hC2 hg2 HER1
  go_wp2_with (fail)
  obtain ⟨eF, oF, gF⟩ := put5 (.int .i64 k) (.int .i64 m) (.string s) (.int .i64 x) (.slice A2 L c2) HER2.out
  have hBF : Below w.heap.size w (((((w2.setCell ⟨w.heap.size, 0, none⟩ (.int .i64 k)).setCell ⟨w.heap.size, 1, none⟩ (.int .i64 m)).setCell ⟨w.heap.size, 2, none⟩ (.string s)).setCell ⟨w.heap.size, 3, none⟩ (.int .i64 x)).setCell ⟨w.heap.size, 4, none⟩ (.slice A2 L c2)) := (((((HB2.out.setCell (Nat.le_refl _) _).setCell (Nat.le_refl _) _).setCell (Nat.le_refl _) _).setCell (Nat.le_refl _) _).setCell (Nat.le_refl _) _)
  obtain ⟨rF, -⟩ := rowc eF
  clear r2 f2 eF gF
  generalize (((((w2.setCell ⟨w.heap.size, 0, none⟩ (.int .i64 k)).setCell ⟨w.heap.size, 1, none⟩ (.int .i64 m)).setCell ⟨w.heap.size, 2, none⟩ (.string s)).setCell ⟨w.heap.size, 3, none⟩ (.int .i64 x)).setCell ⟨w.heap.size, 4, none⟩ (.slice A2 L c2)) = wF at *
  refine bodyPost_ret (v := .agg #[.int .i64 k, .int .i64 m, .string s, .int .i64 x, .slice A2 L c2]) ?_ rfl ?_
  · simp [results, Tryz.results27, go_sem, rF]
  · have hO2 : OwP wF w1.heap.size (.slice A2 L c2) xs ks vs := (HO.out.keep fun b hb _ => oF b (by have := hb.1; omega)).mono (fun b hb => ⟨hb.1, hb.2.same (oF b (by have := hb.1; omega))⟩)
    obtain ⟨A', c', e, hcap, hin⟩ := hO2.isin (by unfold maxLen; omega)
    have hL := HL.out
    subst hL
    obtain ⟨rfl, rfl⟩ : A2 = A' ∧ c2 = c' := by simpa using e
    have hI := HI.out
    have ht := TIn.of (k := k) (n := m) (x := x) (s := s) c2 ⟨⟨by omega, by omega⟩, hI.2.2.1, hI.2.2.2.1, by unfold maxLen; omega⟩ hin hcap
    exact ⟨_, _, rfl, ht.stays (fun b hb => ⟨by have := hb.1; omega, hb.2⟩) (fun _ _ _ => rfl), by rw [tot]; exact HT.out, hBF⟩

theorem Own.caps {w : World} {lo : Nat} {A : Option Addr} {n c : Nat} {l : List Int} (h : mem.Own w lo A n c l) : n ≤ c ∧ c ≤ maxLen := by
  rcases h.2.2.2 with ⟨e, h0⟩ | ⟨g, cap, cur, e, -, -, h1, h2, -⟩
  · injection e with e1 e2 e3
    omega
  · injection e with e1 e2 e3
    omega
theorem Rd.first {w : World} {A : Option Addr} {n k : Nat} {l : List Int} (h : mem.Rd w A n l) (hk : k ≤ n) : mem.Rd w A k (l.take k) := by
  refine ⟨by rw [List.length_take, h.1]; omega, h.bd.take k, fun h0 => ?_⟩
  obtain ⟨a, rfl, hcell⟩ := h.2.2 (by omega)
  refine ⟨a, rfl, fun j v hv => hcell j v ?_⟩
  rw [List.getElem?_take] at hv
  split at hv
  · exact hv
  · cases hv

def BentQ (N n : Nat) (w : World) (e : Ending) (w' : World) : Prop := ∃ A m c l, e = .returned (.slice A m c) ∧ mem.Rd w' A m l ∧ m ≤ n + 1 ∧ Cur w' N ∧ w.grownBy w' (some N)
set_option maxRecDepth 100000 in
set_option maxHeartbeats 4000000 in
theorem bent (N : Nat) (A : Option Addr) (n c : Nat) (l : List Int) (hn : n ≤ 1000000) (w : World) (hC : Cur w N) (hr : mem.Rd w A n l) :
    Calls Tryz.prog 88 #[.pointer (some ⟨N, 0, none⟩), .slice A n c] w (BentQ N n w) := by
  obtain ⟨i0, hi, hz0, hz1, hz2⟩ := info_parts u8row
  have hN := hC.lt
  have HC := Lib.hid hC
  have HR := Lib.hid hr
  clear hC hr
  go_enter Tryz.func88, Tryz.ntmps88
  go_wp2_with (at_builtin; refine append_rd rfl (.tmp 6) (.tmp 7) _ rfl i0 Tryz.underlying22 hi hz0 hz1 hz2 w.heap.size _ _ _ _ rfl (own_none w _ (Nat.le_refl _)) A n c l rfl (HR.out.alloc _) (by omega) (by simp) ?_)
  intro A1 c1 w1 ho1 hb1
  have HC1 := Lib.hid ((HC.out.new _).far hb1 hN)
  have HG1 := Lib.hid (only_far (World.grownBy_alloc w _ (some N)) hb1)
  have HO1 := Lib.hid ho1
  clear ho1 hb1 HC HR
  go_wp2_with (fail)
  refine (below N 6 (by omega) _ HC1.out).mono ?_
  rintro e w2 ⟨q, rfl, q0, q1, hC2, hg2⟩
  have HO2 := Lib.hid (HO1.out.keep hg2 (fun b hb e => by injection e with e; have := (HO1.out.block b hb).1; omega))
  have HC2 := Lib.hid hC2
  have HG2 := Lib.hid (only_trans HG1.out hg2)
  have hsz2 := HG2.out.size
  have hcp := Own.caps HO2.out
  clear hC2 hg2 HC1 HG1 HO1
  have hq : q ≤ 5 := by omega
  clear q1
  by_cases e0 : q = 0
  · subst e0
    by_cases hn0 : n = 0
    · subst hn0
      go_wp2_with (fail)
      go_ret
      exact ⟨_, _, _, _, rfl, HO2.out.rd, by omega, HC2.out, HG2.out⟩
    · obtain ⟨g, rfl, g0, g1, hob⟩ := HO2.out.head (by omega)
      go_wp2_with (fail)
      refine (below N (n : Int) (by omega) _ HC2.out).mono ?_
      rintro e w3 ⟨y, rfl, y0, y1, hC3, hg3⟩
      have HO3 := Lib.hid (HO2.out.keep hg3 (fun b hb e => by injection e with e; have := (HO2.out.block b hb).1; omega))
      have HC3 := Lib.hid hC3
      have HG3 := Lib.hid (only_trans HG2.out hg3)
      obtain ⟨j, rfl⟩ := Int.eq_ofNat_of_zero_le y0
      have hj : j < n := by omega
      clear hC3 hg3 HO2 HC2 HG2 y1 y0
      go_wp2_with (fail)
      refine (below N 256 (by omega) _ HC3.out).mono ?_
      rintro e w4 ⟨z, rfl, z0, z1, hC4, hg4⟩
      have HO4 := Lib.hid (HO3.out.keep hg4 (fun b hb e => by injection e with e; have := (HO3.out.block b hb).1; omega))
      have HC4 := Lib.hid hC4
      have HG4 := Lib.hid (only_trans HG3.out hg4)
      have hz : z ≤ 255 := by omega
      obtain ⟨⟨u, hcell⟩, hfz⟩ := HO4.out.cellk hj
      clear hC4 hg4 HO3 HC3 HG3 z1
      go_wp2_with (fail)
      obtain ⟨hs, hsg⟩ := HO4.out.set j z0 hz
      have hgN : g ≠ N := by omega
      have HOF := Lib.hid hs
      have HCF := Lib.hid (HC4.out.far (B := w.heap.size) ((Below.refl w.heap.size w4).grown hsg (by have := HG4.out.size; omega) (fun k e => by injection e with e; omega)) hN)
      have HGF := Lib.hid (only_far HG4.out ((Below.refl w.heap.size w4).grown hsg (by have := HG4.out.size; omega) (fun k e => by injection e with e; omega)))
      clear hs hsg
      go_ret
      exact ⟨_, _, _, _, rfl, HOF.out.rd, by omega, HCF.out, HGF.out⟩
  by_cases e1 : q = 1
  · subst e1
    go_wp2_with (fail)
    refine (below N ((n : Int) + 1) (by omega) _ HC2.out).mono ?_
    rintro e w3 ⟨y, rfl, y0, y1, hC3, hg3⟩
    have HO3 := Lib.hid (HO2.out.keep hg3 (fun b hb e => by injection e with e; have := (HO2.out.block b hb).1; omega))
    have HC3 := Lib.hid hC3
    have HG3 := Lib.hid (only_trans HG2.out hg3)
    obtain ⟨j, rfl⟩ := Int.eq_ofNat_of_zero_le y0
    have hj : j ≤ n := by omega
    have HRj := Lib.hid (Rd.first HO3.out.rd hj)
    have hjc : j ≤ c1 := by omega
    have hform := HO3.out.form
    clear hC3 hg3 HO2 HC2 HG2 y1 y0
    rcases hform with ⟨rfl, rfl⟩ | ⟨g, rfl, -, -⟩
    · obtain rfl : j = 0 := by omega
      go_wp2_with (fail)
      go_ret
      exact ⟨_, _, _, _, rfl, HRj.out, by omega, HC3.out, HG3.out⟩
    · go_wp2_with (fail)
      go_ret
      exact ⟨_, _, _, _, rfl, HRj.out, by omega, HC3.out, HG3.out⟩
  by_cases e2 : q = 2
  · subst e2
    have HI := Lib.hid (ints_new 0 255 w2 3 [0, 1, 128, 255] (by decide) N (by omega))
    go_wp2_with (fail)
    refine (pickInt 0 255 N w2.heap.size 4 4 (by omega) (by omega) _ (HC2.out.new _) HI.out).mono ?_
    rintro e w3 ⟨z, rfl, z0, z1, hC3, hg3⟩
    have HO3 := Lib.hid ((HO2.out.alloc _).keep hg3 (fun b hb e => by injection e with e; have := (HO2.out.block b hb).1; omega))
    have HC3 := Lib.hid hC3
    have HG3 := Lib.hid (only_trans HG2.out (only_trans (World.grownBy_alloc w2 _ (some N)) hg3))
    have hsz := HG3.out.size
    clear hC3 hg3 HO2 HC2 HG2
    go_wp2_with (at_builtin; refine append_rd rfl (.tmp 36) (.tmp 41) _ rfl i0 Tryz.underlying22 hi hz0 hz1 hz2 w.heap.size _ _ _ _ rfl (HO3.out.alloc _) _ 1 1 [z] rfl (rd_one _ _ (by omega) (by omega) _) (by omega) (by simp; omega) ?_)
    intro A4 c4 w4 ho4 hb4
    have HO4 := Lib.hid ho4
    have HC4 := Lib.hid ((HC3.out.new _).far hb4 hN)
    have HG4 := Lib.hid (only_far (only_new HG3.out _) hb4)
    clear ho4 hb4
    go_wp2_with (fail)
    go_ret
    exact ⟨_, _, _, _, rfl, HO4.out.rd, by omega, HC4.out, HG4.out⟩
  · go_wp2_with (fail)
    go_ret
    exact ⟨_, _, _, _, rfl, HO2.out.rd, by omega, HC2.out, HG2.out⟩

def DSt (w : World) (e : Ending) (w' : World) : Prop := ∃ s : ByteArray, e = .returned (.string s) ∧ s.size ≤ 100000 ∧ Below w.heap.size w w'
theorem bytes_rd (w : World) (s : ByteArray) : mem.Rd (Lib.bytesWorld w 5 s) (some ⟨w.heap.size, 0, none⟩) s.size (txt s) := by
  refine ⟨txt_len s, txt_bd s, fun _ => ⟨_, rfl, fun j v hv => ?_⟩⟩
  have hj : j < s.size := by
    have := (List.getElem?_eq_some_iff.1 hv).1
    rwa [txt_len] at this
  rw [add_zero_lit, Lib.bytesWorld_cell w 5 s j hj]
  unfold txt at hv
  rw [List.getElem?_map] at hv
  cases hb : s.data.toList[j]? with
  | none => rw [hb] at hv; cases hv
  | some b =>
    rw [hb] at hv
    rw [List.getD_eq_getElem?_getD, hb]
    simp only [Option.map_some, Option.getD_some] at hv ⊢
    injection hv with hv
    rw [← hv]

set_option maxRecDepth 100000 in
set_option maxHeartbeats 4000000 in
theorem drawUnserialize (A0 : Option Addr) (n0 c0 : Nat) (hn : n0 ≤ 1048576) (w : World) (hA : Code w w.heap.size A0 n0) : Calls Tryz.prog 31 #[.slice A0 n0 c0] w (DSt w) := by
  have HA := Lib.hid hA
  clear hA
  go_enter Tryz.func31, Tryz.ntmps31
  go_wp2_with (fail)
  refine (new A0 n0 c0 hn _ HA.out).mono ?_
  rintro e w1 ⟨N, rfl, hN, hC1, hb1⟩
  have HC1 := Lib.hid hC1
  have HB1 := Lib.hid hb1
  clear hC1 hb1
  go_wp2_with (fail)
  refine (once N 4 (by omega) _ HC1.out).mono ?_
  rintro e w2 ⟨b, rfl, hC2, hg2⟩
  have hN2 := hC2.lt
  have HC2 := Lib.hid hC2
  have HB2 := Lib.hid (below_of HB1.out hg2 hN HB1.out.size)
  have hs2 := HB2.out.size
  clear hC2 hg2 HC1 HB1
  cases b with
  | true =>
    have HI := Lib.hid (strs_new' 20 w2 9 [⟨#[]⟩, ⟨#[78]⟩, ⟨#[78, 59]⟩, ⟨#[78, 59, 78, 59]⟩, ⟨#[98, 58, 50, 59]⟩, ⟨#[105, 58, 48, 53, 59]⟩, ⟨#[115, 58, 51, 58, 97, 98, 59]⟩, ⟨#[115, 58, 50, 58, 97, 98, 59]⟩, ⟨#[97, 58, 48, 58, 48, 123, 125]⟩, ⟨#[97, 58, 49, 58, 48, 123, 105, 58, 48, 59, 78, 59, 125]⟩, ⟨#[97, 58, 49, 58, 49, 123, 115, 58, 49, 58, 48, 59, 78, 59, 125]⟩, ⟨#[97, 58, 50, 58, 50, 123, 105, 58, 49, 59, 78, 59, 105, 58, 49, 59, 78, 59, 125]⟩, ⟨#[105, 58, 49, 48, 48, 48, 48, 48, 48, 48, 48, 49, 59]⟩, ⟨#[97, 58, 48, 58, 49, 48, 48, 48, 48, 48, 48, 48, 48, 49, 123, 125]⟩, ⟨#[115, 58, 45, 49, 58, 59]⟩] (by decide) N hN2)
    go_wp2_with (fail)
    refine (pickStr 20 N w2.heap.size 15 15 (by omega) (by omega) _ (HC2.out.new _) HI.out).mono ?_
    rintro e w3 ⟨s, rfl, hs, hC3, hg3⟩
    have HB3 := Lib.hid (below_of HB2.out (only_trans (World.grownBy_alloc w2 _ (some N)) hg3) hN HB2.out.size)
    clear hC3 hg3
    go_wp2_with (fail)
    go_ret
    exact ⟨_, rfl, by omega, HB3.out⟩
  | false =>
    go_wp2_with (fail)
    refine (drawT N 3 3 rfl (by omega) _ HC2.out).mono ?_
    rintro e w3 ⟨k, n, s, x, ks, vs, A, L, c, rfl, hbd, hL, h4, hO, hB, hC3, hg3⟩
    have hC3' := HC2.out
    have HC3 := Lib.hid hC3
    have HB3 := Lib.hid (below_of HB2.out hg3 hN HB2.out.size)
    subst hL
    obtain ⟨A', c', e, hcap, hin⟩ := hO.isin (by unfold maxLen; omega)
    obtain ⟨rfl, rfl⟩ : A = A' ∧ c = c' := by simpa using e
    have ht := TIn.of (k := k) (n := n) (x := x) (s := s) c ⟨⟨by omega, by omega⟩, ⟨by omega, by omega⟩, ⟨by omega, by omega⟩, by unfold maxLen; omega⟩ hin hcap
    have htot : tot (.mk k n s x ks vs) ≤ 892 := by rw [tot]; exact hB
    have hlen := ser_len ht.wd
    have HT := Lib.hid ht
    obtain ⟨l, HL⟩ : ∃ l, Hid (ser (.mk k n s x ks vs) = l) := ⟨_, Lib.hid rfl⟩
    have hll : l.length ≤ 80000 := by rw [← HL.out]; omega
    have TX := Lib.hid (text_s (.mk k n s x ks vs) (by omega) w3 _ _ ht)
    rw [HL.out] at TX
    clear hbd h4 hO hB hC3 hg3 hC3' hin hcap e ht htot hlen
    go_wp2_with (fail)
    refine TX.out.mono ?_
    rintro e w4 ⟨rfl, hb4⟩
    have HC4 := Lib.hid (HC3.out.below hb4)
    have HB4 := Lib.hid (bs HB3.out hb4)
    have hs4 := HB4.out.size
    have hcv := Lib.run_convert_string_bytes (P := Tryz.prog) w4 9 22 5 (bz l) (u := .string) Tryz.underlying9 Tryz.underlying22 Tryz.underlying5
    have hrd := bytes_rd w4 (bz l)
    have hbel := Lib.bytesWorld_below w4 5 (bz l)
    obtain ⟨w5, hW5⟩ : ∃ W, W = Lib.bytesWorld w4 5 (bz l) := ⟨_, rfl⟩
    obtain ⟨cp, hcp⟩ : ∃ cp, cp = grownCap w4 (bz l).size 0 5 := ⟨_, rfl⟩
    rw [← hW5] at hcv hrd hbel
    rw [← hcp] at hcv
    have hsz : (bz l).size = l.length := rfl
    rw [hsz] at hcv hrd
    have HRD := Lib.hid hrd
    have HC5 := Lib.hid (HC4.out.below hbel)
    have HB5 := Lib.hid (bs HB4.out hbel)
    clear hb4 hW5 hcp hrd hbel hsz HC4 HC3 TX
    go_wp2_with (fail)
    refine (bent N _ l.length cp _ (by omega) _ HC5.out HRD.out).mono ?_
    rintro e w6 ⟨A6, m6, c6, l6, rfl, hr6, hm6, hC6, hg6⟩
    have HB6 := Lib.hid (below_of HB5.out hg6 hN HB5.out.size)
    have hk := conv_rd (P := Tryz.prog) w6 22 9 5 Tryz.underlying22 Tryz.underlying5 Tryz.underlying9 hr6 c6
    have hlen : (strOfNums l6).size ≤ 100000 := by
      have := hr6.len
      have : (strOfNums l6).size = l6.length := by unfold strOfNums; simp [ByteArray.size]
      omega
    clear hr6 hC6 hg6 hcv
    go_wp2_with (fail)
    go_ret
    exact ⟨_, rfl, hlen, HB6.out⟩

end Go.Proofs.YtdglmnmalfpipaaGreatDoor.draw

