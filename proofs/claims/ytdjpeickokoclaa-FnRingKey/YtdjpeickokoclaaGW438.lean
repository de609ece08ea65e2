/-
  Bytes put behind a sum: (*impl.sum).write. What is pushed, piece by piece; a copy of the beginning of a text.
-/
import Derived.Test.YtdjpeickokoclaaGW436
import Derived.Test.YtdjpeickokoclaaGW2
import Derived.Lib.BufferWrite
namespace Go.Proofs.Ytdjpeickokoclaa
open Go.RowKit
set_option linter.unusedVariables false
end Go.Proofs.Ytdjpeickokoclaa
/-
  Bytes put behind a sum: (*impl.sum).write, its walk.
-/
namespace Go.Proofs.Ytdjpeickokoclaa
open Go.RowKit
set_option linter.unusedVariables false
theorem Try.info_u8b : (Try.prog.info? 5).map (fun i => (i.zero, i.size, i.bytes)) = some (some (.int .u8 0), 1, 1) := by kernel_rfl
end Go.Proofs.Ytdjpeickokoclaa
