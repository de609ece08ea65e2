/-
  What AffixOk tells, of the program and of its model.
-/
import Derived.Test.YtdjpeickokoclaaDoorGW4
import Derived.Deep.RegionHeld3
import Derived.Lib.SmallJoins
import Derived.Deep.WholeRow
namespace Go.Proofs.YtdjpeickokoclaaDoor
open Go.RowKit
set_option linter.unusedVariables false
/-- An affix: its flag, its side, what is taken away, what is put there, and when. -/
structure Aff where
  flag : ByteArray
  front : Bool
  strip : ByteArray
  add : ByteArray
  wh : ByteArray
/-- As a value, and as cells. -/
def Aff.cells (a : Aff) : Array Value := #[.string a.flag, .bool a.front, .string a.strip, .string a.add, .string a.wh]
/-- Each text has a size that a machine can hold. -/
def Aff.fits (a : Aff) : Prop := a.flag.size ≤ maxLen ∧ a.strip.size ≤ maxLen ∧ a.add.size ≤ maxLen ∧ a.wh.size ≤ maxLen
end Go.Proofs.YtdjpeickokoclaaDoor
/-
  Affixes held against each other.
-/
namespace Go.Proofs.YtdjpeickokoclaaDoor
open Go.RowKit
set_option linter.unusedVariables false
end Go.Proofs.YtdjpeickokoclaaDoor
