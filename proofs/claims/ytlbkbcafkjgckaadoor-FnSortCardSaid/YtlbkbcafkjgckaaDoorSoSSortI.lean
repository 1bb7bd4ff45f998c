/-
  Sorting by insertion, of the project.
  Conditions: at most 2^20 and two values of at most 10^9 letters each.
-/
import Derived.Test.YtlbkbcafkjgckaaDoorSoB1
import Derived.Test.YtlbkbcafkjgckaaDoorSoSInsert
import Derived.Test.YtlbkbcafkjgckaaDoorCmSCmpJ
import Derived.Deep.RegionWith
namespace Go.Proofs.YtlbkbcafkjgckaaDoor.tree
open Go.ChangeShapes Go.WideShapes Go.ChangeAt Go.RowKit ers
set_option linter.unusedVariables false

theorem insert_at {w : World} {g n C vb i : Nat} {cur cv : Array Value} {tv : TypeId} {xs five : List Value} (hg : w.heap[g]? = some (.cells cur IV (0, 0))) (hsz : cur.size = C * 5) (htk : cur.toList.take (n * 5) = xs) (hn : n + 1 ≤ C) (hC : C ≤ 1000000000) (hin : i ≤ n)
    (h5 : five.length = 5) (hvb : vb ≠ g) (hvc : w.heap[vb]? = some (.cells cv tv (0, 0))) (hv : ∀ j u, five[j]? = some u → w.cell? ((⟨vb, 0, none⟩ : Addr).add j) = some u) (h1 : ∀ u ∈ five, u.oneCell' = true) (hx1 : ∀ u ∈ xs, u.oneCell' = true) :
    Calls Tryd.prog 120 #[.slice (some ⟨g, 0, none⟩) n C, .int .i64 i, .slice (some ⟨vb, 0, none⟩) 1 1] w (InsQ w g (n + 1) C (xs.take (i * 5) ++ five ++ xs.drop (i * 5))) := by
  rcases Nat.lt_or_ge i n with hlt | hge
  · exact insert_mid hg hsz htk hn hC hlt h5 hvb hvc hv h1 hx1
  · obtain rfl : i = n := by omega
    have hxl : xs.length = i * 5 := by rw [← htk, List.length_take, Array.length_toList]; omega
    rw [List.take_of_length_le (by omega), List.drop_of_length_le (by omega), List.append_nil]
    exact insert_end hg hsz htk hn hC h5 hv h1

theorem five_mem (k m : Int) (z : ByteArray) (x : Int) (A : Option Addr) (L c : Nat) : ∀ u ∈ [Value.int .i64 k, .int .i64 m, .string z, .int .i64 x, .slice A L c], u.oneCell' = true := by simp [Value.oneCell']
theorem five_at (w : World) (c0 c1 c2 c3 c4 : Value) (t : TypeId) : ∀ j u, [c0, c1, c2, c3, c4][j]? = some u → (w.alloc (.cells #[c0, c1, c2, c3, c4] t)).cell? ((⟨w.heap.size, 0, none⟩ : Addr).add j) = some u := by
  intro j u hj
  rw [Addr.add_lit, Nat.zero_add, cell_of_row _ _ j _ t _ (heap_alloc_new w _)]
  simpa using hj
def SiQ (w : World) (vs : List Tr) (e : Ending) (w' : World) : Prop := ∃ g c', e = .returned (.slice (some ⟨g, 0, none⟩) vs.length c') ∧ VIn w' (Nw 0 w') (isort vs) (some ⟨g, 0, none⟩) ∧ Below w.heap.size w w'

set_option maxRecDepth 100000 in
set_option maxHeartbeats 4000000 in
theorem insertionSort_i (vs : List Tr) (A : Option Addr) (c : Nat) (w : World) (h : VIn w (Nw 0 w) vs A) (hm : vs.length ≤ 1048578) (hE : CmE w) (hT : ∀ t ∈ vs, tot t ≤ 1000000000) :
    Calls Tryd.prog 75 #[.slice A vs.length c, .func (.func 24) #[] #[]] w (SiQ w vs) := by
  have CV : Hid (∀ w' t t' v v', CmE w' → t ∈ vs → t' ∈ vs → TIn w' (Nw 0 w') t v → TIn w' (Nw 0 w') t' v' → Calls Tryd.prog 24 #[v, v'] w' (GivesQ w' (.int .i64 (cmpT t t')))) := Lib.hid (fun w' t t' v v' hE ht ht' h h' => compare_i t t' (hT t ht) (hT t' ht') w' 0 0 v v' hE h h')
  obtain ⟨L, HL⟩ : ∃ L, Hid (vs.length = L) := ⟨_, Lib.hid rfl⟩
  unfold SiQ
  rw [HL.out] at hm ⊢
  obtain ⟨i0, hi, hz⟩ := iv_info'
  have hmk := run_make (P := Tryd.prog) w 43 IV i0 _ Tryd.underlying43 hi hz.1 .i64 .i64 0 L (by omega) (by omega) (by rw [hz.2.2]; omega) (by omega)
  rw [hz.2.1] at hmk
  simp only [Int.toNat_natCast] at hmk
  obtain ⟨arr0, HA⟩ : ∃ a, Hid (a = madeCells (Value.agg #[.int .i64 0, .int .i64 0, .string ⟨#[]⟩, .int .i64 0, .slice none 0 0]).cells (L * 5)) := ⟨_, Lib.hid rfl⟩
  rw [← HA.out] at hmk
  have HSZ0 : Hid (arr0.size = L * 5) := Lib.hid (by rw [HA.out, madeSize])
  have HV := Lib.hid h
  have HEN := Lib.hid hE
  clear h hT hi hz hE
  go_enter Tryd.func75, Tryd.ntmps75
  go_wp2_with (fail)
  obtain ⟨N, HN⟩ : ∃ N, Hid (w.heap.size = N) := ⟨_, Lib.hid rfl⟩
  rw [HN.out]
  go_loopg [5, 14] (L + 1) (fun gk r i wr => ∃ (j : Nat) (cur : Array Value), r = .slice (some ⟨N, 0, none⟩) j L ∧ i = .int .i64 j ∧ gk + j = L + 1 ∧ j ≤ L ∧ Hid (wr.heap[N]? = some (.cells cur IV (0, 0))) ∧ Hid (cur.size = L * 5) ∧ Hid (XV wr (Nw 0 w) (isort (vs.take j)) (cur.toList.take (j * 5))) ∧ Hid (Below N w wr))
  case atStart => exact ⟨0, arr0, rfl, rfl, by omega, by omega, Lib.hid (by rw [← HN.out]; exact heap_alloc_new w _), HSZ0, Lib.hid (by rw [Nat.zero_mul, List.take_zero]; exact XV.nil _ _), Lib.hid (HN.out ▸ b1 w _)⟩
  case round =>
    obtain ⟨j, cur, rfl, rfl, hgj, hjL, HG, HSZ, HX, HB⟩ := hrel
    by_cases hlt : j < L
    · obtain ⟨t, ht⟩ : ∃ t, vs[j]? = some t := ⟨_, List.getElem?_eq_getElem (by rw [HL.out]; exact hlt)⟩
      obtain ⟨a, k, n, s, x, ks', vs', A1, c1, rfl, -, rfl, hT, hcell⟩ := (HV.out.below (HN.out ▸ HB.out)) j t ht
      have HIS := Lib.hid (isort_take vs ht)
      obtain ⟨sv, HSV⟩ : ∃ sv, Hid (isort (vs.take j) = sv) := ⟨_, Lib.hid rfl⟩
      rw [HSV.out] at HX HIS
      have HSL : Hid (sv.length = j) := Lib.hid (by rw [← HSV.out, isort_len, List.length_take, HL.out]; omega)
      have HSM : Hid (∀ u ∈ sv, u ∈ vs) := Lib.hid (fun u hu => List.mem_of_mem_take ((isort_perm (vs.take j)).mem_iff.1 (HSV.out ▸ hu)))
      have HTM := Lib.hid (List.mem_of_getElem? ht)
      obtain ⟨t, HTT⟩ : ∃ t, Hid (Tr.mk k n s x ks' vs' = t) := ⟨_, Lib.hid rfl⟩
      obtain ⟨L1, HL1⟩ : ∃ L1, Hid (vs'.length = L1) := ⟨_, Lib.hid rfl⟩
      rw [HTT.out] at hT HIS HTM
      rw [HL1.out] at hcell hT
      have HT := Lib.hid hT
      obtain ⟨q, HQ⟩ : ∃ q, Hid (insP sv t sv.length = q) := ⟨_, Lib.hid rfl⟩
      obtain ⟨p0, p1, p2, p3, p4⟩ := hcell
      clear hT ht
      go_wp2_with (fail)
      obtain ⟨P1, HP1⟩ : ∃ P, Hid (wr.heap.size = P) := ⟨_, Lib.hid rfl⟩
      obtain ⟨W0, HW0⟩ : ∃ W, Hid (wr = W) := ⟨_, Lib.hid rfl⟩
      have HWP : Hid (W0.heap.size = P1) := Lib.hid (by rw [← HW0.out]; exact HP1.out)
      have hNP : N < P1 := by rw [← HP1.out]; exact (Array.getElem?_eq_some_iff.1 HG.out).1
      rw [HP1.out]
      clear p0 p1 p2 p3 p4
      go_loopg [8] (j + 1) (fun gk2 p wr2 => ∃ pp : Nat, p = .int .i64 pp ∧ gk2 = pp + 1 ∧ pp ≤ j ∧ Hid (insP sv t pp = q) ∧ Hid (wr2.heap[P1]? = some (.cells #[.int .i64 k, .int .i64 n, .string s, .int .i64 x, .slice A1 L1 c1] IV (0, 0))) ∧ Hid (Below P1 W0 wr2))
      case atStart => exact ⟨j, rfl, rfl, Nat.le_refl _, Lib.hid (HSL.out ▸ HQ.out), Lib.hid (HP1.out ▸ heap_alloc_new _ _), Lib.hid (by rw [← HW0.out, ← HP1.out]; exact b1 _ _)⟩
      case round =>
        obtain ⟨pp, rfl, hgp, hpj, HI, HVC, HB2⟩ := hrel
        have HG2 : Hid (wr.heap[N]? = some (.cells cur IV (0, 0))) := Lib.hid ((HB2.out.block N hNP).trans (HW0.out ▸ HG.out))
        have HBN : Hid (Below N w wr) := Lib.hid ((HW0.out ▸ HB.out).trans (HB2.out.mono (Nat.le_of_lt hNP)))
        have HX2 : Hid (XV wr (Nw 0 w) sv (cur.toList.take (j * 5))) := Lib.hid ((HW0.out ▸ HX.out).stays (fun _ h => h) (fun b hb hl => HB2.out.block b (by have := hb.2.lt; have := HN.out; omega)))
        have HT2 : Hid (TIn wr (Nw 0 w) t (vV k n s x A1 L1 c1)) := Lib.hid ((HW0.out ▸ HT.out).stays (fun _ h => h) (fun b hb hl => HB2.out.block b (by have := hb.2.lt; have := HN.out; omega)))
        obtain ⟨rv, fv⟩ := rowc HVC.out
        have v0 : wr.cell? ⟨P1, 0, none⟩ = some (.int .i64 k) := rv 0
        have v1 : wr.cell? ⟨P1, 1, none⟩ = some (.int .i64 n) := rv 1
        have v2 : wr.cell? ⟨P1, 2, none⟩ = some (.string s) := rv 2
        have v3 : wr.cell? ⟨P1, 3, none⟩ = some (.int .i64 x) := rv 3
        have v4 : wr.cell? ⟨P1, 4, none⟩ = some (.slice A1 L1 c1) := rv 4
        clear rv fv
        rcases Nat.eq_zero_or_pos pp with hp0 | hp0
        · subst hp0
          have HQ0 : Hid (q = 0) := Lib.hid (by rw [← HI.out]; rfl)
          go_upto_region 6 with fail
          go_quiet ((fail))
          have hb1 : Below wr.heap.size wr (wr.drewN nq) := ⟨rfl, rfl, rfl, Nat.le_refl _, fun _ _ => rfl⟩
          generalize wr.drewN nq = w1 at *
          have HB1 := Lib.hid hb1
          clear hb1
          try clear v0 v1 v2 v3 v4
          obtain ⟨rz, fz⟩ := rowc (carry HB1.out HVC.out)
          have z0 : w1.cell? ⟨P1, 0, none⟩ = some (.int .i64 k) := rz 0
          have z1 : w1.cell? ⟨P1, 1, none⟩ = some (.int .i64 n) := rz 1
          have z2 : w1.cell? ⟨P1, 2, none⟩ = some (.string s) := rz 2
          have z3 : w1.cell? ⟨P1, 3, none⟩ = some (.int .i64 x) := rz 3
          have z4 : w1.cell? ⟨P1, 4, none⟩ = some (.slice A1 L1 c1) := rz 4
          clear rz fz
          go_wp2_with (fail)
          obtain ⟨P2, HP2⟩ : ∃ P, Hid (w1.heap.size = P) := ⟨_, Lib.hid rfl⟩
          refine (insert_at (i := 0) (five := [.int .i64 k, .int .i64 n, .string s, .int .i64 x, .slice A1 L1 c1]) (keepAlloc (carry HB1.out HG2.out)) HSZ.out rfl (by omega) (by omega) (by omega) rfl (by have := (Array.getElem?_eq_some_iff.1 (carry HB1.out HG2.out)).1; omega) (heap_alloc_new w1 _) (five_at w1 _ _ _ _ _ IV) (five_mem _ _ _ _ _ _ _) HX2.out.one).mono ?_
          rintro e w5 ⟨rfl, ⟨cur', hg5, hs5, ht5⟩, hf5⟩
          have HG5 := Lib.hid hg5
          have HS5 := Lib.hid hs5
          have HT5 := Lib.hid ht5
          have HF5 : Hid (Fr (fun b => b = N) wr w5) := Lib.hid ((Fr.of (bs HB1.out (b1 w1 _))).trans hf5)
          clear hg5 hs5 ht5 hf5
          go_wp2_with (fail)
          go_roundg (L - j)
          case rel =>
            have hst : ∀ b, Nw 0 w b → b < wr.heap.size → w5.heap[b]? = wr.heap[b]? := fun b hb hl => HF5.out.block b hl (by have := hb.2.lt; have := HN.out; omega)
            refine ⟨j + 1, cur', by rfl, by go_num, by omega, by omega, HG5, HS5, Lib.hid ?_, Lib.hid (HBN.out.trans ?_)⟩
            · have hx := HX2.out.ins (p := 0) (by rw [HSL.out]; omega) (by rw [HTT.out, HL1.out]; exact HT2.out)
              rw [HTT.out, HL1.out] at hx
              rw [HIS.out, HT5.out]
              have he : ins sv t = sv.take 0 ++ t :: sv.drop 0 := by unfold ins; rw [HQ.out, HQ0.out]
              rw [he]
              exact hx.stays (fun _ h => h) hst
            · exact HF5.out.below (show N ≤ wr.heap.size by have := HBN.out.size; have := HN.out; omega) (fun b e => by omega)
          case measure => omega
        · obtain ⟨m, HM⟩ : ∃ m, Hid (pp = m + 1) := ⟨pp - 1, Lib.hid (by omega)⟩
          have i1 : m < j := by have := HM.out; omega
          have i2 : (pp : Int) - 1 = (m : Int) := by have := HM.out; omega
          have i3 : IntKind.i64.wrap (m : Int) = (m : Int) := by rw [IntKind.wrap_i64]; omega
          have hNw : N ≤ wr.heap.size := Nat.le_of_lt (Array.getElem?_eq_some_iff.1 HG2.out).1
          obtain ⟨u, hu⟩ : ∃ u, sv[m]? = some u := ⟨_, List.getElem?_eq_getElem (by rw [HSL.out]; omega)⟩
          obtain ⟨uk, un, us, ux, uks, uvs, uA, uc, rfl, hut, huc⟩ := HX2.out.at_ hu
          obtain ⟨LU, HLU⟩ : ∃ LU, Hid (uvs.length = LU) := ⟨_, Lib.hid rfl⟩
          have HUM := Lib.hid (HSM.out _ (List.mem_of_getElem? hu))
          obtain ⟨z, HZ⟩ : ∃ z, Hid (cmpT (.mk uk un us ux uks uvs) t = z) := ⟨_, Lib.hid rfl⟩
          have CVU : Hid (∀ w', Below wr.heap.size wr w' → Calls Tryd.prog 24 #[vV uk un us ux uA LU uc, vV k n s x A1 L1 c1] w' (GivesQ w' (.int .i64 z))) := Lib.hid (fun w' hb => by
            rw [← HZ.out, ← HLU.out]
            have up : ∀ {t : Tr} {v : Value}, TIn wr (Nw 0 w) t v → TIn w' (Nw 0 w') t v := fun h => (h.below' hb).stays (fun b hb2 => ⟨hb2.1, Plain.same hb2.2 ((HBN.out.trans (hb.mono hNw)).block b (by have := hb2.2.lt; have := HN.out; omega))⟩) (fun _ _ _ => rfl)
            exact CV.out w' _ _ _ _ (HEN.out.stays (by rw [HN.out]; exact HBN.out.trans (hb.mono hNw))) HUM.out HTM.out (up hut) (up HT2.out))
          rw [HLU.out] at huc
          have hsz := HSZ.out
          have uc_ : ∀ qq uu, qq < 5 → (#[.int .i64 uk, .int .i64 un, .string us, .int .i64 ux, .slice uA LU uc] : Array Value)[qq]? = some uu → wr.cell? ⟨N, m * 5 + qq, none⟩ = some uu := fun qq uu hqq he => by
            have h := (huc qq hqq).trans he
            rw [List.getElem?_take_of_lt (by omega), Array.getElem?_toList] at h
            exact ((rowc HG2.out).1 _).trans h
          have u0 := uc_ 0 _ (by omega) rfl
          have u1 := uc_ 1 _ (by omega) rfl
          have u2 := uc_ 2 _ (by omega) rfl
          have u3 := uc_ 3 _ (by omega) rfl
          have u4 := uc_ 4 _ (by omega) rfl
          rw [Nat.add_zero] at u0
          clear uc_ huc hut
          by_cases hz1 : z = 1
          · subst hz1
            have HI2 : Hid (insP sv t m = q) := Lib.hid (by rw [← insP_step hu HZ.out, ← HM.out]; exact HI.out)
            clear hu
            go_upto_region 6 with fail
            go_region_with ((go_at_call 24; refine (CVU.out _ ?_).mono ?_; exact ((Below.refl wr.heap.size wr).drew); rintro e w1 ⟨rfl, hb1⟩; have HB1 := Lib.hid (bs ((Below.refl wr.heap.size wr).drew) hb1); clear hb1))
            all_goals
              go_wp2_with (fail)
              go_roundg (m + 1)
              case rel => exact ⟨m, by go_num, rfl, by omega, HI2, Lib.hid (carry HB1.out HVC.out), Lib.hid (HB2.out.trans (HB1.out.mono (HWP.out ▸ HB2.out.size)))⟩
              case measure => have := HM.out; omega
          · have HQ0 : Hid (q = pp) := Lib.hid (by rw [← HI.out, HM.out]; exact insP_stop hu (by rw [HZ.out]; exact hz1))
            clear hu
            go_upto_region 6 with fail
            go_region_with ((go_at_call 24; refine (CVU.out _ ?_).mono ?_; exact ((Below.refl wr.heap.size wr).drew); rintro e w1 ⟨rfl, hb1⟩; have HB1 := Lib.hid (bs ((Below.refl wr.heap.size wr).drew) hb1); clear hb1))
            all_goals
              try clear v0 v1 v2 v3 v4
              obtain ⟨rz, fz⟩ := rowc (carry HB1.out HVC.out)
              have z0 : w1.cell? ⟨P1, 0, none⟩ = some (.int .i64 k) := rz 0
              have z1 : w1.cell? ⟨P1, 1, none⟩ = some (.int .i64 n) := rz 1
              have z2 : w1.cell? ⟨P1, 2, none⟩ = some (.string s) := rz 2
              have z3 : w1.cell? ⟨P1, 3, none⟩ = some (.int .i64 x) := rz 3
              have z4 : w1.cell? ⟨P1, 4, none⟩ = some (.slice A1 L1 c1) := rz 4
              clear rz fz
              go_wp2_with (fail)
              obtain ⟨P2, HP2⟩ : ∃ P, Hid (w1.heap.size = P) := ⟨_, Lib.hid rfl⟩
              refine (insert_at (i := pp) (five := [.int .i64 k, .int .i64 n, .string s, .int .i64 x, .slice A1 L1 c1]) (keepAlloc (carry HB1.out HG2.out)) HSZ.out rfl (by omega) (by omega) (by omega) rfl (by have := (Array.getElem?_eq_some_iff.1 (carry HB1.out HG2.out)).1; omega) (heap_alloc_new w1 _) (five_at w1 _ _ _ _ _ IV) (five_mem _ _ _ _ _ _ _) HX2.out.one).mono ?_
              rintro e w5 ⟨rfl, ⟨cur', hg5, hs5, ht5⟩, hf5⟩
              have HG5 := Lib.hid hg5
              have HS5 := Lib.hid hs5
              have HT5 := Lib.hid ht5
              have HF5 : Hid (Fr (fun b => b = N) wr w5) := Lib.hid ((Fr.of (bs HB1.out (b1 w1 _))).trans hf5)
              clear hg5 hs5 ht5 hf5
              go_wp2_with (fail)
              go_roundg (L - j)
              case rel =>
                have hst : ∀ b, Nw 0 w b → b < wr.heap.size → w5.heap[b]? = wr.heap[b]? := fun b hb hl => HF5.out.block b hl (by have := hb.2.lt; have := HN.out; omega)
                refine ⟨j + 1, cur', by rfl, by go_num, by omega, by omega, HG5, HS5, Lib.hid ?_, Lib.hid (HBN.out.trans ?_)⟩
                · have hx := HX2.out.ins (p := pp) (by rw [HSL.out]; omega) (by rw [HTT.out, HL1.out]; exact HT2.out)
                  rw [HTT.out, HL1.out] at hx
                  rw [HIS.out, HT5.out]
                  have he : ins sv t = sv.take pp ++ t :: sv.drop pp := by unfold ins; rw [HQ.out, HQ0.out]
                  rw [he]
                  exact hx.stays (fun _ h => h) hst
                · exact HF5.out.below (show N ≤ wr.heap.size by have := HBN.out.size; have := HN.out; omega) (fun b e => by omega)
              case measure => omega
    · obtain rfl : j = L := by omega
      have HVQ : Hid (VIn wr (Nw 0 wr) (isort vs) (some ⟨N, 0, none⟩)) := Lib.hid (by
        have hx := HX.out
        rw [show vs.take j = vs by rw [← HL.out]; exact List.take_length] at hx
        have hx2 : XV wr (Nw 0 wr) (isort vs) (cur.toList.take (j * 5)) := hx.stays (fun b hb => ⟨hb.1, Plain.same hb.2 (HB.out.block b (by have := hb.2.lt; have := HN.out; omega))⟩) (fun _ _ _ => rfl)
        refine hx2.vin ⟨Nat.zero_le _, _, _, HG.out⟩ (fun i u hiu => ?_)
        rw [Addr.add_lit, Nat.zero_add]
        refine ((rowc HG.out).1 _).trans ?_
        rw [List.getElem?_take] at hiu
        split at hiu
        · rw [← Array.getElem?_toList]; exact hiu
        · cases hiu)
      clear HX
      go_wp2_with (fail)
      go_ret
      exact ⟨N, _, rfl, HVQ.out, HN.out ▸ HB.out⟩

end Go.Proofs.YtlbkbcafkjgckaaDoor.tree

