/-
  impl.counts.
-/
import Derived.Test.YtpjkgpglbbppjaaW46
namespace Go.Proofs.Ytpjkgpglbbppjaa
open Go.RowKit
set_option linter.unusedVariables false
theorem run_mnc (ts : Array TypeId) (t : TypeId) (x y : Int) (w : World) : (Builtin.min_ ts t #[.int .i64 x, .int .i64 y]).run Try.prog w = .ok (.int .i64 (mnc x y)) w := run_min_int2 _ _ _ _ _ _ _
end Go.Proofs.Ytpjkgpglbbppjaa
