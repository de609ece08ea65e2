/-
  The words of a block: impl.spread.
-/
import Derived.Test.YtdjpeickokoclaaGW434
import Derived.Laws.CopyOwn
namespace Go.Proofs.Ytdjpeickokoclaa
open Go.RowKit
set_option linter.unusedVariables false
theorem cell_set431 {w : World} {B b : Nat} (i j : Nat) (v : Value) (hne : B ≠ b) : (w.setCell ⟨b, i, none⟩ v).cell? ⟨B, j, none⟩ = w.cell? ⟨B, j, none⟩ := World.cell?_of_block (w := w) (Below.heap_setCell _ _ _ B (by simpa using hne))
end Go.Proofs.Ytdjpeickokoclaa
