/-
  Books handed over: sizes.
-/
import Derived.Test.YthikcililececaaW70
import Derived.Test.YthikcililececaaW23
namespace Go.Proofs.Ythikcililececaa
open Go.RowKit
set_option linter.unusedVariables false
theorem szA_le (a : Aff) (left : Int) (h : 0 ≤ left) : szA a left ≤ left := by
  unfold szA
  split
  · omega
  · split
    · omega
    · split
      · omega
      · split <;> omega
end Go.Proofs.Ythikcililececaa
