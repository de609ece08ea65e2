/-
  The bytes of a word.
-/
import Derived.Test.YtdjpeickokoclaaGM30
import Derived.Laws.BytesArg
namespace Go.Proofs.Ytdjpeickokoclaa
open Go.RowKit
set_option linter.unusedVariables false
theorem wn_shr8 (a : Wd) : wn a / (256 : Int) = wn (a >>> 8) := wn_shr a 8
theorem wn_shr16 (a : Wd) : wn a / (65536 : Int) = wn (a >>> 16) := wn_shr a 16
theorem wn_shr24 (a : Wd) : wn a / (16777216 : Int) = wn (a >>> 24) := wn_shr a 24
/-- A word's four bytes, the highest first, as numbers. -/
def nums4 (a : Wd) : List Int := [wn (a >>> 24) % 256, wn (a >>> 16) % 256, wn (a >>> 8) % 256, wn a % 256]
def wb (a : Wd) : ByteArray := strOfNums (nums4 a)
end Go.Proofs.Ytdjpeickokoclaa
