/-
  An affix that a law is given, opened: five cells, four of them strings that fit.
-/
import Derived.Test.YthikcililececaaGW27
import Derived.WalkKit
import Derived.ProofKit
import Derived.OpenShut
import Derived.ShutString
import Derived.ChangeOld
import Derived.ChangeArms
import Derived.Below
import Derived.Lib.SmallJoins
namespace Go.Proofs.Ythikcililececaa
open Go.ChangeShapes Go.WideShapes Go.ChangeAt Go.RowKit
set_option linter.unusedVariables false
theorem array5 {α : Type} {cs : Array α} (h : cs.size = 5) : ∃ a b c d e, cs = #[a, b, c, d, e] := by
  obtain ⟨l⟩ := cs
  match l, h with
  | [a, b, c, d, e], _ => exact ⟨a, b, c, d, e, rfl⟩
end Go.Proofs.Ythikcililececaa
/-
  AffixBack of the model; the laws FnExactAffixDo and FnExactAffixBack.
-/
namespace Go.Proofs.Ythikcililececaa
open Go.RowKit
set_option linter.unusedVariables false
/-- A stem that an affix leads back to makes the word again, if it is one that the affix may be put to. -/
theorem back_makes {a : Aff} {s : ByteArray} (h : hasT a.front s a.add = true) : swT a.front (swT a.front s a.add a.strip) a.strip a.add = s :=
  (swT_back (q := a.strip) h).1
theorem beq_self_toList (s : ByteArray) : (s.toList == s.toList) = true := by simp
end Go.Proofs.Ythikcililececaa
