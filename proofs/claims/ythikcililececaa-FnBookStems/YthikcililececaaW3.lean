/-
  What the functions Beginning do: of two texts they hand back the beginning of the first that is as long as their common beginning.
-/
import Derived.Test.YthikcililececaaProg
import Derived.Test.YthikcililececaaM2
import Derived.WalkKit
import Derived.WalkSpells
import Derived.WalkLawsBesides
import Derived.Deep.QuietTactic
import Derived.BigQuiet
namespace Go.Proofs.Ythikcililececaa
open Go.RowKit
set_option linter.unusedVariables false
end Go.Proofs.Ythikcililececaa
