/-
  What the functions WordOk and l1Word tell of a text: whether it is a word.
-/
import Derived.Test.YtfpkphkgnolkkaaW1
namespace Go.Proofs.Ytfpkphkgnolkkaa
open Go.RowKit
set_option linter.unusedVariables false
/-- A word: 1 to 12 letters. -/
def wok (s : ByteArray) : Bool := decide (0 < s.size) && (inr 97 122 s.data.toList && decide ((s.size : Int) ≤ 12))
theorem toList_nil (s : ByteArray) : s.toList = [] ↔ s.size = 0 := by
  rw [ByteArray.toList_eq]
  have : s.size = s.data.toList.length := rfl
  rw [this, List.length_eq_zero_iff]
end Go.Proofs.Ytfpkphkgnolkkaa
