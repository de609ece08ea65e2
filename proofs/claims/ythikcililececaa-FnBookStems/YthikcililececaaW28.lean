/-
  AffixBack of the model; the laws FnExactAffixDo and FnExactAffixBack.
-/
import Derived.Test.YthikcililececaaW27
import Derived.Test.YthikcililececaaW24
namespace Go.Proofs.Ythikcililececaa
open Go.RowKit
set_option linter.unusedVariables false
/-- A stem that an affix leads back to makes the word again, if it is one that the affix may be put to. -/
theorem back_makes {a : Aff} {s : ByteArray} (h : hasT a.front s a.add = true) : swT a.front (swT a.front s a.add a.strip) a.strip a.add = s :=
  (swT_back (q := a.strip) h).1
theorem beq_self_toList (s : ByteArray) : (s.toList == s.toList) = true := by simp
end Go.Proofs.Ythikcililececaa
