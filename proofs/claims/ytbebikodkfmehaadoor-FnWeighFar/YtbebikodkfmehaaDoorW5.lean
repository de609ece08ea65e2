/-
  What firstRow and the method next do: the row of the next beginning out of the rows of the two ahead of it.
-/
import Derived.Test.YtbebikodkfmehaaDoorGW4
import Derived.BigRegion
import Derived.Lib.SmallJoins
import Derived.Deep.WholeRow
namespace Go.Proofs.YtbebikodkfmehaaDoor
open Go.RowKit
set_option linter.unusedVariables false
/-- Thirteen numbers as cells. -/
def rowC (r : Nat → Int) : Array Value := #[.int .i64 (r 0), .int .i64 (r 1), .int .i64 (r 2), .int .i64 (r 3), .int .i64 (r 4), .int .i64 (r 5), .int .i64 (r 6), .int .i64 (r 7), .int .i64 (r 8), .int .i64 (r 9), .int .i64 (r 10), .int .i64 (r 11), .int .i64 (r 12)]
theorem rowC_size (r : Nat → Int) : (rowC r).size = 13 := rfl
theorem rowC_get (r : Nat → Int) (j : Nat) (h : j < 13) : (rowC r)[j]? = some (.int .i64 (r j)) := by
  match j, h with
  | 0, _ => rfl
  | 1, _ => rfl
  | 2, _ => rfl
  | 3, _ => rfl
  | 4, _ => rfl
  | 5, _ => rfl
  | 6, _ => rfl
  | 7, _ => rfl
  | 8, _ => rfl
  | 9, _ => rfl
  | 10, _ => rfl
  | 11, _ => rfl
  | 12, _ => rfl
/-- One number of a row is another one. -/
def upd (r : Nat → Int) (k : Nat) (v : Int) (j : Nat) : Int := if j = k then v else r j
theorem rowC_set (r : Nat → Int) (k : Nat) (v : Int) (h : k < 13) : (rowC r).setIfInBounds k (.int .i64 v) = rowC (upd r k v) := by
  apply Array.ext_getElem?
  intro j
  by_cases hj : j < 13
  · rw [rowC_get _ j hj, Array.getElem?_setIfInBounds]
    unfold upd
    by_cases e : k = j
    · subst e; simp [rowC_size, h]
    · rw [if_neg e, rowC_get _ j hj, if_neg (fun x => e x.symm)]
  · rw [Array.getElem?_eq_none (by simp [rowC_size]; omega), Array.getElem?_eq_none (by simp [rowC_size]; omega)]
/-- The least of two, not to be parted on. -/
def mn (x y : Int) : Int := if y < x then y else x
theorem mn_le (x y : Int) : mn x y ≤ x ∧ mn x y ≤ y ∧ (mn x y = x ∨ mn x y = y) := by unfold mn; split <;> omega
theorem run_mn2 (ts : Array TypeId) (t : TypeId) (x y : Int) (w : World) : (Builtin.min_ ts t #[.int .i64 x, .int .i64 y]).run Tryd.prog w = .ok (.int .i64 (mn x y)) w := run_min_int2 _ _ _ _ _ _ _
theorem run_mn3 (ts : Array TypeId) (t : TypeId) (x y z : Int) (w : World) : (Builtin.min_ ts t #[.int .i64 x, .int .i64 y, .int .i64 z]).run Tryd.prog w = .ok (.int .i64 (mn (mn x y) z)) w := run_min_int3 _ _ _ _ _ _ _ _ _
set_option maxHeartbeats 4000000 in
theorem firstRow_any (w : World) :
    Calls Tryd.prog 20 #[] w fun e w' => e = .returned (.agg (rowC fun j => j)) ∧ Below w.heap.size w w' := by
  go_enter Tryd.func20, Tryd.ntmps20
  go_wp2
  refine wp_loop_rounds 14 ?_
  iterate 14
    rw [rounds_succ]
    go_wp2
  refine bodyPost_ret (v := .agg (rowC fun j => j)) (by simp [results, Tryd.results20, go_sem, rowC]) rfl ⟨rfl, ?_⟩
  exact ((Below.refl _ _).alloc (Nat.le_refl _) _).alloc (by simp) _
/-- What holds of memory between two rounds: the rows that came in, the result's place, the row that is made. -/
def NextInv (w : World) (r o g : Nat → Int) (wr : World) : Prop :=
  wr.heap[w.heap.size]? = some (.cells (rowC r) 38 (0, 0)) ∧ wr.heap[w.heap.size + 1]? = some (.cells (rowC o) 38 (0, 0)) ∧
  wr.heap[w.heap.size + 2]? = some (.cells (rowC fun _ => 0) 38 (0, 0)) ∧ wr.heap[w.heap.size + 3]? = some (.cells (rowC g) 38 (0, 0)) ∧
  (∀ j, j < 13 → 0 ≤ g j ∧ g j ≤ 1000) ∧ Below w.heap.size w wr ∧ w.heap.size + 4 = wr.heap.size
theorem NextInv.drewN {w wr : World} {r o g : Nat → Int} (h : NextInv w r o g wr) (n : Nat) : NextInv w r o g (wr.drewN n) :=
  ⟨h.1, h.2.1, h.2.2.1, h.2.2.2.1, h.2.2.2.2.1, below_drewN h.2.2.2.2.2.1 n, h.2.2.2.2.2.2⟩
theorem NextInv.drew {w wr : World} {r o g : Nat → Int} (h : NextInv w r o g wr) : NextInv w r o g wr.drew := h.drewN 1
theorem NextInv.set {w wr : World} {r o g : Nat → Int} (h : NextInv w r o g wr) (k : Nat) (v : Int) (hk : k < 13) (hv : 0 ≤ v ∧ v ≤ 1000) :
    NextInv w r o (upd g k v) (wr.setCell ⟨w.heap.size + 3, k, none⟩ (.int .i64 v)) := by
  obtain ⟨h1, h2, h3, h4, h5, h6, h7⟩ := h
  refine ⟨?_, ?_, ?_, ?_, ?_, ?_, ?_⟩
  · rw [heap_setCell_other _ _ _ _ (by simp)]; exact h1
  · rw [heap_setCell_other _ _ _ _ (by simp)]; exact h2
  · rw [heap_setCell_other _ _ _ _ (by simp)]; exact h3
  · rw [Go.Joins.block_setCell h4, rowC_set _ _ _ hk]
  · intro j hj
    unfold upd
    split
    · exact hv
    · exact h5 j hj
  · exact h6.setCell (by simp) _
  · rw [h7]; simp
theorem NextInv.start (w : World) (r o : Nat → Int) (n : Nat) (hn : n ≤ 12) :
    NextInv w r o (upd (fun _ => 0) 0 n) ((((w.alloc (.cells (rowC r) 38)).alloc (.cells (rowC o) 38)).alloc (.cells (rowC fun _ => 0) 38)).alloc (.cells (rowC (upd (fun _ => 0) 0 n)) 38)) := by
  refine ⟨?_, ?_, ?_, ?_, ?_, ?_, ?_⟩
  · rw [Below.heap_alloc _ _ _ (by simp <;> omega), Below.heap_alloc _ _ _ (by simp <;> omega), Below.heap_alloc _ _ _ (by simp <;> omega), heap_alloc_last]
  · rw [Below.heap_alloc _ _ _ (by simp <;> omega), Below.heap_alloc _ _ _ (by simp <;> omega)]
    have := heap_alloc_last (w.alloc (.cells (rowC r) 38)) (.cells (rowC o) 38)
    simpa using this
  · rw [Below.heap_alloc _ _ _ (by simp <;> omega)]
    have := heap_alloc_last ((w.alloc (.cells (rowC r) 38)).alloc (.cells (rowC o) 38)) (.cells (rowC fun _ => 0) 38)
    simpa using this
  · have := heap_alloc_last (((w.alloc (.cells (rowC r) 38)).alloc (.cells (rowC o) 38)).alloc (.cells (rowC fun _ => 0) 38)) (.cells (rowC (upd (fun _ => 0) 0 n)) 38)
    simpa using this
  · intro j hj; unfold upd; split <;> simp <;> omega
  · exact ((((Below.refl _ _).alloc (Nat.le_refl _) _).alloc (by simp <;> omega) _).alloc (by simp <;> omega) _).alloc (by simp <;> omega) _
  · simp
theorem extract_size (b : ByteArray) (k : Nat) (h : k < b.size) : (b.extract 0 (k + 1)).size = k + 1 := by
  simp; omega
theorem turned_pre (a b : ByteArray) (i k : Nat) (ha : a.size = i + 1) (hk : k < b.size) : turnedEnds a (b.extract 0 (k + 1)) = tr (lt a) (lt b) i k := by
  rw [turnedEnds_eq a _ i k ha (extract_size b k hk)]
  unfold tr
  rw [lt_extract b (k + 1) k (by omega), lt_extract b (k + 1) (k - 1) (by omega)]
/-- What is reckoned in one round is how far the beginnings are. -/
theorem D_round (x y : Nat → UInt8) (i k : Nat) (r o : Nat → Int) (gk : Int) (h1 : r (k + 1) = D x y i (k + 1)) (h0 : r k = D x y i k) (hg : gk = D x y (i + 1) k) :
    (cost x y i k = 0 → tr x y i k = false → mn (mn (mn (r (k + 1)) gk) (r k) + 1) (r k) = D x y (i + 1) (k + 1)) ∧
    (cost x y i k = 1 → tr x y i k = false → mn (mn (r (k + 1)) gk) (r k) + 1 = D x y (i + 1) (k + 1)) ∧
    (cost x y i k = 0 → tr x y i k = true → o (k - 1) = D x y (i - 1) (k - 1) → mn (mn (mn (mn (r (k + 1)) gk) (r k) + 1) (r k)) (o (k - 1) + 1) = D x y (i + 1) (k + 1)) ∧
    (cost x y i k = 1 → tr x y i k = true → o (k - 1) = D x y (i - 1) (k - 1) → mn (mn (mn (r (k + 1)) gk) (r k) + 1) (o (k - 1) + 1) = D x y (i + 1) (k + 1)) := by
  rw [D_succ, h1, h0, hg]
  have hd := D_pos x y i k
  generalize D x y i k = a
  generalize D x y i (k + 1) = b
  generalize D x y (i + 1) k = c
  generalize D x y (i - 1) (k - 1) = d
  refine ⟨?_, ?_, ?_, ?_⟩
  · intro e1 e2
    rw [e1, e2, if_neg Bool.false_ne_true]
    unfold mn
    repeat' split
    all_goals omega
  · intro e1 e2
    rw [e1, e2, if_neg Bool.false_ne_true]
    unfold mn
    repeat' split
    all_goals omega
  · intro e1 e2 e3
    rw [e1, e2, if_pos rfl, e3]
    unfold mn
    repeat' split
    all_goals omega
  · intro e1 e2 e3
    rw [e1, e2, if_pos rfl, e3]
    unfold mn
    repeat' split
    all_goals omega
end Go.Proofs.YtbebikodkfmehaaDoor
