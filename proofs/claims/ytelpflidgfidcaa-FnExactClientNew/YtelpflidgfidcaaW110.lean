/-
  Texts that a law is given: opened, their size, a copy of them.
-/
import Derived.Test.YtelpflidgfidcaaW71
import Derived.Test.YtelpflidgfidcaaW73
import Derived.Test.YtelpflidgfidcaaW90
namespace Go.Proofs.Ytelpflidgfidcaa
open Go.ChangeShapes Go.WideShapes Go.ChangeAt Go.RowKit
set_option linter.unusedVariables false
theorem TextsAt.fit {w : World} {v : Value} {xs : List ByteArray} (h : TextsAt w v xs) : ∀ (i : Nat) (x : ByteArray), xs[i]? = some x → x.size ≤ maxLen := by
  obtain ⟨a, cap, hv, hc, hm, hf, hh⟩ := h
  exact hf
end Go.Proofs.Ytelpflidgfidcaa
