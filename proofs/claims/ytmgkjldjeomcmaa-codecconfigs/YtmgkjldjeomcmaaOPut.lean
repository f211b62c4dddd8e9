/- Layer octet: PutLittle at each type; the statements' lent, still, same. -/
import Derived.Test.YtmgkjldjeomcmaaOMake
namespace Go.Proofs.Ytmgkjldjeomcmaa
open Go.RowKit
set_option linter.unusedVariables false
set_option linter.unusedSimpArgs false

theorem app_getD (xs ys : List Int) (n k : Nat) (hl : xs.length = n) : (xs ++ ys).getD (n + k) 0 = ys.getD k 0 := by
  subst hl
  simp [List.getD, List.getElem?_append_right]
theorem app_take (xs ys : List Int) (n : Nat) (hl : xs.length = n) : ((xs ++ ys).map (Value.int .u8)).take n = xs.map (Value.int .u8) := by
  rw [List.map_append, List.take_append_of_le_length (by simp; omega), List.take_of_length_le (by simp; omega)]
theorem app_all (xs ys : List Int) (n k : Nat) (hl : xs.length = n) (hk : ys.length = k) : ((xs ++ ys).map (Value.int .u8)).take (n + k) = (xs ++ ys).map (Value.int .u8) :=
  List.take_of_length_le (by simp; omega)

end Go.Proofs.Ytmgkjldjeomcmaa
