/-
  MachineCount: both sides, and the law FnExactMachineCount.
-/
import Derived.Test.YtbkjbkdmanaohaaW52
import Derived.Test.YtbkjbkdmanaohaaGW54
import Derived.Test.YtbkjbkdmanaohaaW44
import Derived.Test.YtbkjbkdmanaohaaW41
namespace Go.Proofs.Ytbkjbkdmanaohaa
open Go.RowKit
set_option linter.unusedVariables false
theorem machT_parts {ss : List Sta} (h : machT ss = true) : stasOk ss = true ∧ 1 ≤ ss.length ∧ ss.length ≤ 400 := by
  simp only [machT, Bool.and_eq_true, decide_eq_true_eq] at h
  exact ⟨h.1.2, h.1.1.1, h.1.1.2⟩
/-- How many texts a machine knows. -/
def cntT (ss : List Sta) : Int := if machT ss then tab cntF cntZ ss ss.length 0 else 0
end Go.Proofs.Ytbkjbkdmanaohaa
