/-
  Affixes and entries that are one's own memory: copied so, and marked.
-/
import Derived.Test.YtmphcglglnlplaaDoorW119
import Derived.Test.YtmphcglglnlplaaDoorGW74
import Derived.Test.YtmphcglglnlplaaDoorGW92
namespace Go.Proofs.YtmphcglglnlplaaDoor
open Go.RowKit
set_option linter.unusedVariables false
theorem markT_fit (n : Nat) : (markT n).size ≤ maxLen := by have := markT_size n; unfold maxLen; omega
theorem markText_int (x : Int) (N : Nat) (hx : x = N) (hN : N < 9000000000000000000) (w : World) :
    Calls Tryd.prog 58 #[.int .i64 x] w fun e w' => e = .returned (.string (markT N)) ∧ Below w.heap.size w w' := by
  subst hx
  exact markText_any N hN w
end Go.Proofs.YtmphcglglnlplaaDoor
