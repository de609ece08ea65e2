/-
  Contracts of copies, marks and what holds them, in one form.
-/
import Derived.Test.YtmjhgniilhbgeaaGreatDoorW140
namespace Go.Proofs.YtmjhgniilhbgeaaGreatDoor
open Go.RowKit
set_option linter.unusedVariables false
end Go.Proofs.YtmjhgniilhbgeaaGreatDoor
