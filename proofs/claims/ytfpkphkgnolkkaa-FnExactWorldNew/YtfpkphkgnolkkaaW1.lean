/-
  What the two loops over the letters of a text tell: whether each lies between two bounds.
-/
import Derived.Test.YtfpkphkgnolkkaaProg
import Derived.Test.YtfpkphkgnolkkaaM1
import Derived.WalkKit
import Derived.WalkSpells
import Derived.WalkLawsBesides
namespace Go.Proofs.Ytfpkphkgnolkkaa
open Go.RowKit
set_option linter.unusedVariables false
theorem ret_bool {a b : Bool} (h : a = b) : Ending.returned (.bool a) = .returned (.bool b) := by rw [h]
end Go.Proofs.Ytfpkphkgnolkkaa
