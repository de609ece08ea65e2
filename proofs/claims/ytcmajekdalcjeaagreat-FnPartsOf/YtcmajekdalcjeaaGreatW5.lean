/-
  What firstRow and the method next do: the row of the next beginning out of the rows of the two ahead of it.
-/
import Derived.Test.YtcmajekdalcjeaaGreatGW4
import Derived.BigRegion
import Derived.Lib.SmallJoins
import Derived.Deep.WholeRow
namespace Go.Proofs.YtcmajekdalcjeaaGreat
open Go.RowKit
set_option linter.unusedVariables false
/-- Thirteen numbers as cells. -/
def rowC (r : Nat → Int) : Array Value := #[.int .i64 (r 0), .int .i64 (r 1), .int .i64 (r 2), .int .i64 (r 3), .int .i64 (r 4), .int .i64 (r 5), .int .i64 (r 6), .int .i64 (r 7), .int .i64 (r 8), .int .i64 (r 9), .int .i64 (r 10), .int .i64 (r 11), .int .i64 (r 12)]
theorem rowC_size (r : Nat → Int) : (rowC r).size = 13 := rfl
theorem rowC_get (r : Nat → Int) (j : Nat) (h : j < 13) : (rowC r)[j]? = some (.int .i64 (r j)) := by
  match j, h with
  | 0, _ => rfl
  | 1, _ => rfl
  | 2, _ => rfl
  | 3, _ => rfl
  | 4, _ => rfl
  | 5, _ => rfl
  | 6, _ => rfl
  | 7, _ => rfl
  | 8, _ => rfl
  | 9, _ => rfl
  | 10, _ => rfl
  | 11, _ => rfl
  | 12, _ => rfl
/-- One number of a row is another one. -/
def upd (r : Nat → Int) (k : Nat) (v : Int) (j : Nat) : Int := if j = k then v else r j
theorem rowC_set (r : Nat → Int) (k : Nat) (v : Int) (h : k < 13) : (rowC r).setIfInBounds k (.int .i64 v) = rowC (upd r k v) := by
  apply Array.ext_getElem?
  intro j
  by_cases hj : j < 13
  · rw [rowC_get _ j hj, Array.getElem?_setIfInBounds]
    unfold upd
    by_cases e : k = j
    · subst e; simp [rowC_size, h]
    · rw [if_neg e, rowC_get _ j hj, if_neg (fun x => e x.symm)]
  · rw [Array.getElem?_eq_none (by simp [rowC_size]; omega), Array.getElem?_eq_none (by simp [rowC_size]; omega)]
/-- The least of two, not to be parted on. -/
def mn (x y : Int) : Int := if y < x then y else x
theorem mn_le (x y : Int) : mn x y ≤ x ∧ mn x y ≤ y ∧ (mn x y = x ∨ mn x y = y) := by unfold mn; split <;> omega
theorem run_mn2 (ts : Array TypeId) (t : TypeId) (x y : Int) (w : World) : (Builtin.min_ ts t #[.int .i64 x, .int .i64 y]).run Tryz.prog w = .ok (.int .i64 (mn x y)) w := run_min_int2 _ _ _ _ _ _ _
theorem run_mn3 (ts : Array TypeId) (t : TypeId) (x y z : Int) (w : World) : (Builtin.min_ ts t #[.int .i64 x, .int .i64 y, .int .i64 z]).run Tryz.prog w = .ok (.int .i64 (mn (mn x y) z)) w := run_min_int3 _ _ _ _ _ _ _ _ _
end Go.Proofs.YtcmajekdalcjeaaGreat
