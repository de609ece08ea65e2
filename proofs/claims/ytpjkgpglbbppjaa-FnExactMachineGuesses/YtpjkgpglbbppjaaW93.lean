/-
  The law FnExactNear out of contracts of both answers.
-/
import Derived.Test.YtpjkgpglbbppjaaW92
namespace Go.Proofs.Ytpjkgpglbbppjaa
open Go.RowKit
set_option linter.unusedVariables false
