/-
  What impl.Far tells: how far two words are; -1 of others.
-/
import Derived.Test.YtbebikodkfmehaaDoorGM6
import Derived.Test.YtbebikodkfmehaaDoorW6
import Derived.Deep.RegionWith
namespace Go.Proofs.YtbebikodkfmehaaDoor
open Go.RowKit
set_option linter.unusedVariables false
theorem row_cells {w : World} {L : Nat} {g : Nat → Int} (h : w.heap[L]? = some (.cells (rowC g) 38 (0, 0))) : ∀ j, j < 13 → w.cell? ⟨L, j, none⟩ = some (.int .i64 (g j)) :=
  fun j hj => (cell_of_row w L j _ _ _ h).trans (rowC_get g j hj)
theorem row_fold (g : Nat → Int) : (#[.int .i64 (g 0), .int .i64 (g 1), .int .i64 (g 2), .int .i64 (g 3), .int .i64 (g 4), .int .i64 (g 5), .int .i64 (g 6), .int .i64 (g 7), .int .i64 (g 8), .int .i64 (g 9), .int .i64 (g 10), .int .i64 (g 11), .int .i64 (g 12)] : Array Value) = rowC g := rfl
theorem storeRow (L : Nat) (g : Nat → Int) (wx : World) (v : Nat → Int) (h : wx.heap[L]? = some (.cells (rowC g) 38 (0, 0))) :
    Sem.run Tryd.prog (storeCells ⟨L, 0, none⟩ (rowC v).toList) wx = .ok () (wx.setRow L (rowC v)) := by
  have := run_storeCells_from (P := Tryd.prog) L 38 (rowC v).toList 0 (rowC g) wx h (by simp [rowC]) (fun u hu => (Array.all_eq_true_iff_forall_mem.1 (rowC_one v)) u (by simpa using hu))
  simpa using this
/-- How far two words are; -1 of others. -/
def farW (a b : ByteArray) : Int := if wok a = true ∧ wok b = true then far a b else -1
theorem wok_size {a : ByteArray} (h : wok a = true) : 1 ≤ a.size ∧ a.size ≤ 12 := by
  unfold wok at h
  simp only [Bool.and_eq_true, decide_eq_true_eq] at h
  omega
end Go.Proofs.YtbebikodkfmehaaDoor
