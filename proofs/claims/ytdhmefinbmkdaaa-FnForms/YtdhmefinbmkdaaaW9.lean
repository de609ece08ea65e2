/-
  What spec.l1Far tells: how far two texts are.
-/
import Derived.Test.YtdhmefinbmkdaaaW8
import Derived.Deep.WholeRow
namespace Go.Proofs.Ytdhmefinbmkdaaa
open Go.RowKit
set_option linter.unusedVariables false
end Go.Proofs.Ytdhmefinbmkdaaa
