/-
  Affixes held against each other.
-/
import Derived.Test.YtmjhgniilhbgeaaGreatDoorW21
namespace Go.Proofs.YtmjhgniilhbgeaaGreatDoor
open Go.RowKit
set_option linter.unusedVariables false
/-- Two affixes are the same. -/
def affEq (x y : Aff) : Bool := decide (x.flag.toList = y.flag.toList ∧ x.front = y.front ∧ x.strip.toList = y.strip.toList ∧ x.add.toList = y.add.toList ∧ x.wh.toList = y.wh.toList)
set_option maxRecDepth 100000 in
theorem run_affEq (x y : Aff) (w : World) : (binOp .eql 46 (.agg x.cells) (.agg y.cells)).run Tryz.prog w = .ok (.bool (affEq x y)) w := by
  obtain ⟨f, fr, st, ad, wh⟩ := x
  obtain ⟨f', fr', st', ad', wh'⟩ := y
  have hp : Tryz.prog.stoodInHeld 46 = false := by kernel_rfl
  have ht : Tryz.prog.underlying 46 = some (.struct (Tryz.prog.fieldsOf 46)) := by kernel_rfl
  unfold Aff.cells
  rw [run_eql_struct, run_equalIn_struct w 9999 46 _ _ ht hp]
  simp [Program.fieldsOf, Op.eqFields, Tryz.underlying46, go_sem]
  unfold affEq
  by_cases h1 : f.toList = f'.toList <;> by_cases h2 : fr = fr' <;> by_cases h3 : st.toList = st'.toList <;> by_cases h4 : ad.toList = ad'.toList <;> by_cases h5 : wh.toList = wh'.toList <;> simp [h1, h2, h3, h4, h5]
theorem run_affEq5 (f st ad wh f' st' ad' wh' : ByteArray) (fr fr' : Bool) (w : World) : (binOp .eql 46 (.agg #[.string f, .bool fr, .string st, .string ad, .string wh]) (.agg #[.string f', .bool fr', .string st', .string ad', .string wh'])).run Tryz.prog w = .ok (.bool (affEq ⟨f, fr, st, ad, wh⟩ ⟨f', fr', st', ad', wh'⟩)) w :=
  run_affEq ⟨f, fr, st, ad, wh⟩ ⟨f', fr', st', ad', wh'⟩ w
theorem run_affGuard (op : BinOp) (x y : Operand) (xs ys : Array Value) (w : World) : (eqGuard op 46 x y (.agg xs) (.agg ys)).run Tryz.prog w = .ok () w := run_eqGuard_agg w op _ x y xs ys (by kernel_rfl)
end Go.Proofs.YtmjhgniilhbgeaaGreatDoor
