/-
  Books handed over: sizes.
-/
import Derived.Test.YtmjhgniilhbgeaaGreatDoorW70
import Derived.Test.YtmjhgniilhbgeaaGreatDoorW23
namespace Go.Proofs.YtmjhgniilhbgeaaGreatDoor
open Go.RowKit
set_option linter.unusedVariables false
theorem szA_le (a : Aff) (left : Int) (h : 0 ≤ left) : szA a left ≤ left := by
  unfold szA
  split
  · omega
  · split
    · omega
    · split
      · omega
      · split <;> omega
end Go.Proofs.YtmjhgniilhbgeaaGreatDoor
