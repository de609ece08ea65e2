/-
  The law FnExactBookOk.
-/
import Derived.Test.YtaejkhhkippmpaaW78
import Derived.Test.YtaejkhhkippmpaaW71
namespace Go.Proofs.Ytaejkhhkippmpaa
open Go.RowKit
set_option linter.unusedVariables false
end Go.Proofs.Ytaejkhhkippmpaa
