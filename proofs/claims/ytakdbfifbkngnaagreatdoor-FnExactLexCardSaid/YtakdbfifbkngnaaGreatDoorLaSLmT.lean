/-
  The model's reading of a token: l14Token.
  Conditions: the text has at most 10^6 bytes.
-/
import Derived.Test.YtakdbfifbkngnaaGreatDoorLaSLmT1
import Derived.Test.YtakdbfifbkngnaaGreatDoorLaSLmT2
import Derived.Test.YtakdbfifbkngnaaGreatDoorLaSLmT3
import Derived.Test.YtakdbfifbkngnaaGreatDoorLaSLmT4
import Derived.Test.YtakdbfifbkngnaaGreatDoorLaSLmT5
namespace Go.Proofs.YtakdbfifbkngnaaGreatDoor.lex
open Go.ChangeShapes Go.WideShapes Go.ChangeAt Go.RowKit mem
set_option linter.unusedVariables false

theorem token_s (s : ByteArray) (hs : s.size ≤ 1000000) (k : Nat) (hk : k < s.size) (w : World) : TkC s k w (tokR (s.data.toList.drop k)) := by
  have hh := drop_at hk
  have htok : tokR (s.data.toList.drop k) = if s[k] = 36 then varR (s.data.toList.drop (k + 1)) else if isLn s[k].toNat then .good 3 0 ((s.data.toList.drop k).take (nameLen (s.data.toList.drop k))) (nameLen (s.data.toList.drop k))
      else if isDn s[k].toNat then intR (s.data.toList.drop k) else if s[k] = 39 then strR (s.data.toList.drop (k + 1)) else markR (s.data.toList.drop k) := by
    rw [hh]
    rfl
  rw [htok]
  by_cases h36 : s[k] = 36
  · rw [if_pos h36]
    exact token_v s hs k hk (by rw [h36]; rfl) w
  · rw [if_neg h36]
    have n36 : ¬ (s[k].toNat : Int) = 36 := fun e => h36 ((seq.byte_eq (n := 36) (by omega)).2 (by omega))
    cases hl : isLn s[k].toNat with
    | true => rw [if_pos rfl]; exact token_n s hs k hk n36 (Lib.hid hl) w
    | false =>
      rw [if_neg (by simp)]
      cases hd : isDn s[k].toNat with
      | true => rw [if_pos rfl]; exact token_i s hs k hk n36 (Lib.hid hl) (Lib.hid hd) w
      | false =>
        rw [if_neg (by simp)]
        by_cases h39 : s[k] = 39
        · rw [if_pos h39]
          exact token_t s hs k hk (by rw [h39]; rfl) w
        · rw [if_neg h39]
          exact token_m s hs k hk n36 (Lib.hid hl) (Lib.hid hd) (fun e => h39 (is39 e)) w

end Go.Proofs.YtakdbfifbkngnaaGreatDoor.lex

