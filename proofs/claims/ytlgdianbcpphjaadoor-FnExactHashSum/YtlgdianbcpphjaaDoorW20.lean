/-
  What small functions on texts tell: whether one begins or ends with another one, is a flag, is a part of an affix.
-/
import Derived.Test.YtlgdianbcpphjaaDoorGW2
import Derived.Deep.QuietTactic
import Derived.BigQuiet
namespace Go.Proofs.YtlgdianbcpphjaaDoor
open Go.RowKit
set_option linter.unusedVariables false
/-- A text begins, or ends, with another one. -/
def begT (s p : ByteArray) : Bool := decide (p.size ≤ s.size) && ((s.extract 0 p.size).toList == p.toList)
def endT (s p : ByteArray) : Bool := decide (p.size ≤ s.size) && ((s.extract (s.size - p.size) s.size).toList == p.toList)
/-- A flag: a capital letter. -/
def flagT (s : ByteArray) : Bool := decide ((s.size : Int) = 1) && inr 65 90 s.data.toList
/-- Letters, at most four. -/
def partT (s : ByteArray) : Bool := inr 97 122 s.data.toList && decide ((s.size : Int) ≤ 4)
end Go.Proofs.YtlgdianbcpphjaaDoor
