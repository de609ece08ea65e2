/-
  The end of a sum: sizes, bytes of words.
-/
import Derived.Test.YtdjpeickokoclaaGW438
import Derived.Test.YtdjpeickokoclaaW212
import Derived.Test.YtdjpeickokoclaaW80
import Derived.Test.YtdjpeickokoclaaW343
namespace Go.Proofs.Ytdjpeickokoclaa
open Go.RowKit
set_option linter.unusedVariables false
def wbL (a : Wd) : List UInt8 := (wb a).data.toList
theorem wbL_len (a : Wd) : (wbL a).length = 4 := rfl
/-- The bytes of words, one behind the other. -/
def digestT (L : List Wd) : List UInt8 := L.flatMap wbL
end Go.Proofs.Ytdjpeickokoclaa
/-
  The end of a sum, its walk: (*impl.sum).end.
-/
namespace Go.Proofs.Ytdjpeickokoclaa
open Go.RowKit
set_option linter.unusedVariables false
end Go.Proofs.Ytdjpeickokoclaa
/-
  The sum of pieces: impl.sumOf.
-/
namespace Go.Proofs.Ytdjpeickokoclaa
open Go.RowKit
set_option linter.unusedVariables false
end Go.Proofs.Ytdjpeickokoclaa
