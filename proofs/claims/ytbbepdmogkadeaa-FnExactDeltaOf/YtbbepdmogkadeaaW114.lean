/-
  impl.DeltaOk.
-/
import Derived.Test.YtbbepdmogkadeaaW113
import Derived.Test.YtbbepdmogkadeaaW75
namespace Go.Proofs.Ytbbepdmogkadeaa
open Go.RowKit
set_option linter.unusedVariables false
/-- A change is ok. -/
def deltaT (gs : List ByteArray) (es : List (ByteArray × ByteArray)) (af : Bool) (xs : List Aff) : Bool :=
  goesT gs && (entsT es && (!anyT gs es && (affsT xs && (af || decide (xs.length = 0)))))
/-- A change in a box. -/
def DRow (w : World) (b : Nat) (v0 v1 : Value) (af : Bool) (v3 : Value) : Prop := w.rowIs b 31 4 (fun i => #[v0, v1, Value.bool af, v3][i]?.getD .nilFunc)
theorem DRow.new (w : World) (v0 v1 : Value) (af : Bool) (v3 : Value) : DRow (w.alloc (.cells #[v0, v1, .bool af, v3] 31)) w.heap.size v0 v1 af v3 := rowIs_new _ _
theorem DRow.below {w w' : World} {b : Nat} {v0 v1 v3 : Value} {af : Bool} (h : DRow w b v0 v1 af v3) (hb : Below w.heap.size w w') : DRow w' b v0 v1 af v3 := rowIs_below7 h hb
theorem DRow.c0 {w : World} {b : Nat} {v0 v1 v3 : Value} {af : Bool} (h : DRow w b v0 v1 af v3) : w.cell? ⟨b, 0, none⟩ = some v0 := World.rowIs.cell h (by decide)
theorem DRow.c1 {w : World} {b : Nat} {v0 v1 v3 : Value} {af : Bool} (h : DRow w b v0 v1 af v3) : w.cell? ⟨b, 1, none⟩ = some v1 := World.rowIs.cell h (by decide)
theorem DRow.c2 {w : World} {b : Nat} {v0 v1 v3 : Value} {af : Bool} (h : DRow w b v0 v1 af v3) : w.cell? ⟨b, 2, none⟩ = some (.bool af) := World.rowIs.cell h (by decide)
theorem DRow.c3 {w : World} {b : Nat} {v0 v1 v3 : Value} {af : Bool} (h : DRow w b v0 v1 af v3) : w.cell? ⟨b, 3, none⟩ = some v3 := World.rowIs.cell h (by decide)
end Go.Proofs.Ytbbepdmogkadeaa
