/-
  An affix at its side: what sideOf, has and swap do; impl.AffixOk.
-/
import Derived.Test.YtmphcglglnlplaaDoorGW69
import Derived.Deep.RegionWith
namespace Go.Proofs.YtmphcglglnlplaaDoor
open Go.RowKit
set_option linter.unusedVariables false
end Go.Proofs.YtmphcglglnlplaaDoor
/-
  An affix handed over: szAffix, toAffix; the law FnExactAffixOk.
-/
namespace Go.Proofs.YtmphcglglnlplaaDoor
open Go.RowKit
set_option linter.unusedVariables false
/-- How much of a bound is left behind an affix's texts; -1 where they are more. -/
def szA (a : Aff) (left : Int) : Int :=
  if left - a.flag.size < 0 then -1 else if left - a.flag.size - a.strip.size < 0 then -1 else if left - a.flag.size - a.strip.size - a.add.size < 0 then -1
  else if left - a.flag.size - a.strip.size - a.add.size - a.wh.size < 0 then -1 else left - a.flag.size - a.strip.size - a.add.size - a.wh.size
end Go.Proofs.YtmphcglglnlplaaDoor
