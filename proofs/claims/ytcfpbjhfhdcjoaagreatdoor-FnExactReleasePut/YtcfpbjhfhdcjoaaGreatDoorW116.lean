/-
  The law FnExactDeltaOk.
-/
import Derived.Test.YtcfpbjhfhdcjoaaGreatDoorW115
namespace Go.Proofs.YtcfpbjhfhdcjoaaGreatDoor
open Go.RowKit
set_option linter.unusedVariables false
/-- A change that a law is given, in a box. -/
def LRow (w : World) (b : Nat) (v0 v1 : Value) (af : Bool) (v3 : Value) : Prop := w.rowIs b 26 4 (fun i => #[v0, v1, Value.bool af, v3][i]?.getD .nilFunc)
theorem LRow.new (w : World) (v0 v1 : Value) (af : Bool) (v3 : Value) : LRow (w.alloc (.cells #[v0, v1, .bool af, v3] 26)) w.heap.size v0 v1 af v3 := rowIs_new _ _
theorem LRow.below {w w' : World} {b : Nat} {v0 v1 v3 : Value} {af : Bool} (h : LRow w b v0 v1 af v3) (hb : Below w.heap.size w w') : LRow w' b v0 v1 af v3 := rowIs_below7 h hb
theorem LRow.cs {w : World} {b : Nat} {v0 v1 v3 : Value} {af : Bool} (h : LRow w b v0 v1 af v3) : w.cell? ⟨b, 0, none⟩ = some v0 ∧ w.cell? ⟨b, 1, none⟩ = some v1 ∧ w.cell? ⟨b, 2, none⟩ = some (.bool af) ∧ w.cell? ⟨b, 3, none⟩ = some v3 :=
  ⟨World.rowIs.cell h (by decide), World.rowIs.cell h (by decide), World.rowIs.cell h (by decide), World.rowIs.cell h (by decide)⟩
theorem DRow.cs {w : World} {b : Nat} {v0 v1 v3 : Value} {af : Bool} (h : DRow w b v0 v1 af v3) : w.cell? ⟨b, 0, none⟩ = some v0 ∧ w.cell? ⟨b, 1, none⟩ = some v1 ∧ w.cell? ⟨b, 2, none⟩ = some (.bool af) ∧ w.cell? ⟨b, 3, none⟩ = some v3 := ⟨h.c0, h.c1, h.c2, h.c3⟩
/-- The three lists of a change. -/
def DAt (w : World) (vg vc vl : Value) (gs : List ByteArray) (es : List (ByteArray × ByteArray)) (xs : List Aff) : Prop := TextsAt w vg gs ∧ EntsAt w vc es ∧ AffsAt w vl xs
theorem DAt.below {w w' : World} {vg vc vl : Value} {gs : List ByteArray} {es : List (ByteArray × ByteArray)} {xs : List Aff} (h : DAt w vg vc vl gs es xs) (hb : Below w.heap.size w w') : DAt w' vg vc vl gs es xs := ⟨h.1.below hb, h.2.1.below hb, h.2.2.below hb⟩
end Go.Proofs.YtcfpbjhfhdcjoaaGreatDoor
