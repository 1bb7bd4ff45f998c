/-
  Numerals read by their leading digits.
  Conditions: those that each theorem names.
-/
import Derived.Test.YtlbkbcafkjgckaaDoorLeadI
import Derived.Test.YtlbkbcafkjgckaaDoorDecimal
import Derived.Test.YtlbkbcafkjgckaaDoorTextK
import Derived.Test.YtlbkbcafkjgckaaDoorConvI
namespace Go.Proofs.YtlbkbcafkjgckaaDoor.lead
open Go.Lib Go.RowKit
set_option linter.unusedVariables false

theorem dec_dg {u : Nat} {b : UInt8} (h : b ∈ decDigits u) : dg b = true := dg_iff.2 (dec.decDigits_dig u b h)
theorem mg_val : ∀ (l : List UInt8) (a : Nat), a ≤ 1000000001 → mg a l = min (dec.valFrom a l) 1000000001
  | [], a, h => by rw [mg_nil, dec.valFrom_nil]; omega
  | b :: l, a, h => by
    rw [mg_cons, dec.valFrom_cons, mg_val l _ (Nat.min_le_right _ _)]
    by_cases hx : 10 * a + (b.toNat - 48) ≤ 1000000001
    · rw [Nat.min_eq_left hx]
    · have h1 := dec.valFrom_ge l (10 * a + (b.toNat - 48))
      have h2 := dec.valFrom_ge l (min (10 * a + (b.toNat - 48)) 1000000001)
      omega
theorem mg_dec (u : Nat) : mg 0 (decDigits u) = min u 1000000001 := by
  rw [mg_val _ _ (by omega)]
  have := dec.val_decDigits u
  unfold dec.val at this
  rw [this]
theorem ld_app : ∀ (l r : List UInt8), (∀ b ∈ l, dg b = true) → ld (l ++ r) = l ++ ld r
  | [], r, _ => rfl
  | b :: l, r, h => by
    rw [List.cons_append, ld_yes (h b List.mem_cons_self), ld_app l r fun c hc => h c (List.mem_cons_of_mem _ hc)]
    rfl
theorem ld_dec (u : Nat) (r : List UInt8) (hr : ld r = []) : ld (decDigits u ++ r) = decDigits u := by rw [ld_app _ _ fun b hb => dec_dg hb, hr, List.append_nil]
theorem neg_tx (l : List UInt8) : neg (tx l) = (l.head? == some 45) := by unfold neg; rw [tx_list]
theorem head_app {l r : List UInt8} (h : l ≠ []) : (l ++ r).head? = l.head? := by
  cases l with
  | nil => exact absurd rfl h
  | cons b l => rfl

theorem li_itoa (n : Int) (r : List UInt8) (hr : ld r = []) : li (tx (itoa n ++ r)) = max (-1000000000) (min 1000000000 n) := by
  by_cases hn : n < 0
  · have e : itoa n ++ r = 45 :: (decDigits n.natAbs ++ r) := by rw [dec.itoa_neg' hn]; rfl
    have hneg : neg (tx (itoa n ++ r)) = true := by rw [neg_tx, e]; rfl
    have hm : mag (tx (itoa n ++ r)) = min n.natAbs 1000000001 := by
      unfold mag digs off
      rw [if_pos hneg, tx_list, e, List.drop_succ_cons, List.drop_zero, ld_dec _ _ hr, mg_dec]
    unfold li
    rw [if_pos hneg, hm]
    omega
  · have e : itoa n ++ r = decDigits n.toNat ++ r := by rw [dec.itoa_pos' hn]
    have hneg : neg (tx (itoa n ++ r)) = false := by
      rw [neg_tx, e, head_app (dec.decDigits_ne _), beq_eq_false_iff_ne]
      exact dec.dig_head
    have hm : mag (tx (itoa n ++ r)) = min n.toNat 1000000001 := by
      unfold mag digs off
      rw [if_neg (by rw [hneg]; simp), tx_list, e, List.drop_zero, ld_dec _ _ hr, mg_dec]
    unfold li
    rw [if_neg (by rw [hneg]; simp), hm]
    omega

theorem isn_itoa (n : Int) (h0 : -1000000000 ≤ n) (h1 : n ≤ 1000000000) : isn (tx (itoa n)) = true := by
  have hld : ∀ u, ld (decDigits u) = decDigits u := fun u => ld_all _ fun b hb => dec_dg hb
  have hlen : ∀ u, u ≤ 1000000000 → 1 ≤ (decDigits u).length ∧ (decDigits u).length ≤ 10 := fun u hu => by
    rw [decDigits_length]
    have p : (10 : Nat) ^ 10 = 10000000000 := by decide
    exact ⟨nDigits_pos u, dec.nDigits_le 10 u (by omega) (by omega)⟩
  by_cases hn : n < 0
  · have e := dec.itoa_neg' hn
    have hneg : neg (tx (itoa n)) = true := by rw [neg_tx, e]; rfl
    have hd : digs (tx (itoa n)) = decDigits n.natAbs := by
      unfold digs off
      rw [if_pos hneg, tx_list, e, List.drop_succ_cons, List.drop_zero, hld]
    have hl := hlen n.natAbs (by omega)
    have hs : (tx (itoa n)).size - off (tx (itoa n)) = (decDigits n.natAbs).length := by
      unfold off
      rw [if_pos hneg, tx_size, e, List.length_cons]
      omega
    have hm : mag (tx (itoa n)) ≤ 1000000000 := by unfold mag; rw [hd, mg_dec]; omega
    unfold isn
    rw [hs, hd]
    simp [hl.1, hl.2, hm]
  · have e := dec.itoa_pos' hn
    have hneg : neg (tx (itoa n)) = false := by
      rw [neg_tx, e, beq_eq_false_iff_ne]
      exact dec.dig_head
    have hd : digs (tx (itoa n)) = decDigits n.toNat := by
      unfold digs off
      rw [if_neg (by rw [hneg]; simp), tx_list, e, List.drop_zero, hld]
    have hl := hlen n.toNat (by omega)
    have hs : (tx (itoa n)).size - off (tx (itoa n)) = (decDigits n.toNat).length := by
      unfold off
      rw [if_neg (by rw [hneg]; simp), tx_size, e]
      omega
    have hm : mag (tx (itoa n)) ≤ 1000000000 := by unfold mag; rw [hd, mg_dec]; omega
    unfold isn
    rw [hs, hd]
    simp [hl.1, hl.2, hm]

theorem itoa_ne (n : Int) : itoa n ≠ [] := by
  by_cases hn : n < 0
  · rw [dec.itoa_neg' hn]; simp
  · rw [dec.itoa_pos' hn]; exact dec.decDigits_ne _
theorem txB_itoa (n : Int) (h0 : -1000000000 ≤ n) (h1 : n ≤ 1000000000) : tree.txB (tx (itoa n)) = (n != 0) := by
  have e : (tx (itoa n)).toList = itoa n := by rw [ByteArray.toList_eq, tx_list]
  unfold tree.txB
  rw [e]
  have a : (itoa n == []) = false := by rw [beq_eq_false_iff_ne]; exact itoa_ne n
  have z : itoa 0 = [48] := by rw [dec.itoa_pos' (by omega)]; show decDigits 0 = [48]; rw [decDigits_one (by omega)]; rfl
  have b : (itoa n == [48]) = (n == 0) := by
    by_cases hn : n = 0
    · subst hn; rw [z]; rfl
    · have : (n == 0) = false := by rw [beq_eq_false_iff_ne]; exact hn
      rw [this, beq_eq_false_iff_ne, ← z]
      exact fun h => hn (dec.itoa_inj (by omega) (by omega) (by omega) (by omega) h)
  rw [a, b]
  rfl
theorem tkY_itoa (n : Int) (h0 : -1000000000 ≤ n) (h1 : n ≤ 1000000000) : tree.tkY (tx (itoa n)) = ⟨false, n, ⟨#[]⟩⟩ := by
  have e : dec.pr (-1000000000) 1000000000 (tx (itoa n)).data.toList = (n, true) := by rw [tx_list]; exact dec.pr_yes rfl (by omega) (by omega) h0 h1
  unfold tree.tkY
  rw [e]
  rfl
theorem tx_x (l : List UInt8) : tx l ++ (⟨#[120]⟩ : ByteArray) = tx (l ++ [120]) := by
  apply ByteArray.ext
  apply Array.toList_inj.1
  rw [Joins.data_append]
  simp [tx]
theorem itoa_size (n : Int) (h0 : tree.I64 n) : (tx (itoa n)).size ≤ 100 := by
  have hlen : ∀ u : Nat, u < 10 ^ 20 → (decDigits u).length ≤ 20 := fun u hu => by rw [decDigits_length]; exact dec.nDigits_le 20 u (by omega) hu
  have p : (10 : Nat) ^ 20 = 100000000000000000000 := by decide
  rw [tx_size]
  obtain ⟨a, b⟩ := h0
  by_cases hn : n < 0
  · rw [dec.itoa_neg' hn, List.length_cons]; have := hlen n.natAbs (by omega); omega
  · rw [dec.itoa_pos' hn]; have := hlen n.toNat (by omega); omega

end Go.Proofs.YtlbkbcafkjgckaaDoor.lead
