/-
  What the method next does: the row of a beginning that is one letter longer.
-/
import Derived.Test.YtcmajekdalcjeaaGreatW5
import Derived.Laws.CopyOwn
namespace Go.Proofs.YtcmajekdalcjeaaGreat
open Go.RowKit
set_option linter.unusedVariables false
theorem built_row (n : Nat) : (#[.int .i64 (n : Int), .int .i64 0, .int .i64 0, .int .i64 0, .int .i64 0, .int .i64 0, .int .i64 0, .int .i64 0, .int .i64 0, .int .i64 0, .int .i64 0, .int .i64 0, .int .i64 0] : Array Value) = rowC (upd (fun _ => 0) 0 n) := by
  simp [rowC, upd]
theorem rowC_one (g : Nat → Int) : (rowC g).all (·.oneCell') = true := by simp [rowC, Value.oneCell']
theorem zero_row : (#[.int .i64 0, .int .i64 0, .int .i64 0, .int .i64 0, .int .i64 0, .int .i64 0, .int .i64 0, .int .i64 0, .int .i64 0, .int .i64 0, .int .i64 0, .int .i64 0, .int .i64 0] : Array Value) = rowC (fun _ => 0) := rfl
end Go.Proofs.YtcmajekdalcjeaaGreat
