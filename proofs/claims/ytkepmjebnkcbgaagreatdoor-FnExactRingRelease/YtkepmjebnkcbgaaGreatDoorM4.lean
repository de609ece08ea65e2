/-
  Plain mathematics: texts in order, each once.
-/
import Derived.WalkKit
namespace Go.Proofs.YtkepmjebnkcbgaaGreatDoor
set_option linter.unusedVariables false
/-- One text comes ahead of another one. -/
def tlt (a b : ByteArray) : Bool := Op.bytesLess a.toList b.toList
theorem bytesLess_lt : ∀ (x y : List UInt8), Op.bytesLess x y = decide (x < y)
  | [], [] => by simp [Op.bytesLess]
  | _ :: _, [] => by simp [Op.bytesLess]
  | [], _ :: _ => by simp [Op.bytesLess]
  | a :: x, b :: y => by
    have ih := bytesLess_lt x y
    rw [Op.bytesLess, ih, Bool.eq_iff_iff]
    simp [List.cons_lt_cons_iff]
theorem data_inj {a b : ByteArray} (h : a.data.toList = b.data.toList) : a = b := by
  cases a; cases b
  simp only at h
  congr
  exact Array.toList_inj.1 h
theorem toList_inj' {a b : ByteArray} (h : a.toList = b.toList) : a = b := by
  rw [ByteArray.toList_eq, ByteArray.toList_eq] at h
  exact data_inj h
/-- A text among others, in order, once. -/
def put : List ByteArray → ByteArray → List ByteArray
  | [], s => [s]
  | x :: xs, s => if tlt x s then x :: put xs s else if x = s then x :: xs else s :: x :: xs
end Go.Proofs.YtkepmjebnkcbgaaGreatDoor
