/-
  An affix at its side: what sideOf, has and swap do; impl.AffixOk.
-/
import Derived.Test.YtfpkphkgnolkkaaW21
import Derived.Deep.RegionWith
namespace Go.Proofs.Ytfpkphkgnolkkaa
open Go.RowKit
set_option linter.unusedVariables false
end Go.Proofs.Ytfpkphkgnolkkaa
