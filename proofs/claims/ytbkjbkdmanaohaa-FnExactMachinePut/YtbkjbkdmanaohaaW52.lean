/-
  spec.l3Counts.
-/
import Derived.Test.YtbkjbkdmanaohaaGW54
import Derived.Deep.RegionWith
namespace Go.Proofs.Ytbkjbkdmanaohaa
open Go.RowKit
set_option linter.unusedVariables false
end Go.Proofs.Ytbkjbkdmanaohaa
