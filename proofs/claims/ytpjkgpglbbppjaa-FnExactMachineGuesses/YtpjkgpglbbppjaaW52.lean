/-
  spec.l3Counts.
-/
import Derived.Test.YtpjkgpglbbppjaaW51
import Derived.Deep.RegionWith
namespace Go.Proofs.Ytpjkgpglbbppjaa
open Go.RowKit
set_option linter.unusedVariables false
end Go.Proofs.Ytpjkgpglbbppjaa
