/-
  What Far and Within tell, of the program and of its model; the laws FnExactFar and FnExactWithin.
-/
import Derived.Test.YtcmajekdalcjeaaGreatW7
import Derived.Test.YtcmajekdalcjeaaGreatGW9
namespace Go.Proofs.YtcmajekdalcjeaaGreat
open Go.RowKit
set_option linter.unusedVariables false
theorem ret_int {k : IntKind} {a b : Int} (h : a = b) : Ending.returned (.int k a) = .returned (.int k b) := by rw [h]
/-- Whether two texts are words that are at most so far from each other. -/
def within (a b : ByteArray) (n : Int) : Bool := wok a && (wok b && decide (far a b ≤ n))
end Go.Proofs.YtcmajekdalcjeaaGreat
