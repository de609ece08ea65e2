/-
  What spec.l1Far tells: how far two texts are.
-/
import Derived.Test.YtponfgjhpdgjoaaDoorW8
import Derived.Deep.WholeRow
namespace Go.Proofs.YtponfgjhpdgjoaaDoor
open Go.RowKit
set_option linter.unusedVariables false
theorem Tryd.info_int : (Tryd.prog.info? 3).map (fun i => (i.zero, i.size, i.bytes)) = some (some (.int .i64 0), 1, 8) := by kernel_rfl
theorem Tryd.info_ints : (Tryd.prog.info? 37).map (fun i => (i.zero, i.size, i.bytes)) = some (some (.slice none 0 0), 1, 24) := by kernel_rfl
theorem one_cell_int (x : Int) : ∀ u ∈ [Value.int .i64 x], u.oneCell' = true := by intro u hu; simp at hu; subst hu; rfl
theorem one_cell_slice (a : Option Addr) (n c : Nat) : ∀ u ∈ [Value.slice a n c], u.oneCell' = true := by intro u hu; simp at hu; subst hu; rfl
theorem lt_of_cell' {w : World} {p : Addr} {v : Value} (h : w.cell? p = some v) : p.block < w.heap.size := by
  rcases Nat.lt_or_ge p.block w.heap.size with hlt | hge
  · exact hlt
  · unfold World.cell? at h
    rw [Array.getElem?_eq_none hge] at h
    simp at h
/-- What is reckoned in one round is how far the beginnings are. -/
theorem D_round2 (x y : Nat → UInt8) (i k : Nat) (n1 : Int) (h1 : n1 = D x y i k + cost x y i k) :
    (tr x y i k = false → ls n1 (ls (D x y i (k + 1) + 1) (D x y (i + 1) k + 1)) = D x y (i + 1) (k + 1)) ∧
    (tr x y i k = true → ls (ls n1 (ls (D x y i (k + 1) + 1) (D x y (i + 1) k + 1))) (D x y (i - 1) (k - 1) + 1) = D x y (i + 1) (k + 1)) := by
  rw [D_succ, h1]
  generalize D x y i k + cost x y i k = a
  generalize D x y i (k + 1) = b
  generalize D x y (i + 1) k = c
  generalize D x y (i - 1) (k - 1) = d
  refine ⟨?_, ?_⟩
  · intro e2
    rw [e2, if_neg Bool.false_ne_true]
    unfold ls
    repeat' split
    all_goals omega
  · intro e2
    rw [e2, if_pos rfl]
    unfold ls
    repeat' split
    all_goals omega
end Go.Proofs.YtponfgjhpdgjoaaDoor
