/-
  The law FnExactMachineOk.
-/
import Derived.Test.YtpjkgpglbbppjaaW49
import Derived.Test.YtpjkgpglbbppjaaW44
import Derived.Test.YtpjkgpglbbppjaaW41
namespace Go.Proofs.Ytpjkgpglbbppjaa
open Go.RowKit
set_option linter.unusedVariables false
end Go.Proofs.Ytpjkgpglbbppjaa
