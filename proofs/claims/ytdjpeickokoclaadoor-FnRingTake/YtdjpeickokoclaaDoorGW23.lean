/-
  An affix at its side: what sideOf, has and swap do; impl.AffixOk.
-/
import Derived.Test.YtdjpeickokoclaaDoorGW69
import Derived.Deep.RegionWith
namespace Go.Proofs.YtdjpeickokoclaaDoor
open Go.RowKit
set_option linter.unusedVariables false
end Go.Proofs.YtdjpeickokoclaaDoor
/-
  An affix handed over: szAffix, toAffix; the law FnExactAffixOk.
-/
namespace Go.Proofs.YtdjpeickokoclaaDoor
open Go.RowKit
set_option linter.unusedVariables false
end Go.Proofs.YtdjpeickokoclaaDoor
