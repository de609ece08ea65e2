/-
  Plain mathematics: texts in order, each once.
-/
import Derived.WalkKit
namespace Go.Proofs.YtdjpeickokoclaaDoor
set_option linter.unusedVariables false
/-- One text comes ahead of another one. -/
def tlt (a b : ByteArray) : Bool := Op.bytesLess a.toList b.toList
/-- A text among others, in order, once. -/
def put : List ByteArray → ByteArray → List ByteArray
  | [], s => [s]
  | x :: xs, s => if tlt x s then x :: put xs s else if x = s then x :: xs else s :: x :: xs
end Go.Proofs.YtdjpeickokoclaaDoor
