/-
  Slices of texts marked and held: markStringS, heldStringS.
-/
import Derived.Test.YtmjhgniilhbgeaaGreatDoorW91
namespace Go.Proofs.YtmjhgniilhbgeaaGreatDoor
open Go.RowKit
set_option linter.unusedVariables false
/-- A slice of texts that may be written, from block lo on. -/
def TextsOwn (lo : Nat) (w : World) (v : Value) (xs : List ByteArray) : Prop :=
  ∃ a cap, v = .slice a xs.length cap ∧ xs.length ≤ cap ∧ cap ≤ maxLen ∧ (∀ (i : Nat) (x : ByteArray), xs[i]? = some x → x.size ≤ maxLen) ∧
    (xs ≠ [] → ∃ g n f, a = some ⟨g, 0, none⟩ ∧ lo ≤ g ∧ xs.length ≤ n ∧ w.rowIs g 9 n f ∧ ∀ (i : Nat) (x : ByteArray), xs[i]? = some x → f i = .string x)
theorem TextsOwn.at {lo : Nat} {w : World} {v : Value} {xs : List ByteArray} (h : TextsOwn lo w v xs) : TextsAt w v xs := by
  obtain ⟨a, cap, hv, hc, hm, hf, hh⟩ := h
  refine ⟨a, cap, hv, hc, Nat.le_trans hc hm, hf, fun hn => ?_⟩
  obtain ⟨g, n, f, ha, _, hle, hr, hx⟩ := hh hn
  refine ⟨g, 0, ha, hr.lt, fun i x hi => ?_⟩
  have hlt : i < xs.length := (List.getElem?_eq_some_iff.1 hi).1
  rw [Nat.zero_add, hr.cell (by omega), hx i x hi]
theorem TextsOwn.below {lo : Nat} {w w' : World} {v : Value} {xs : List ByteArray} (h : TextsOwn lo w v xs) (hb : Below w.heap.size w w') : TextsOwn lo w' v xs := by
  obtain ⟨a, cap, hv, hc, hm, hf, hh⟩ := h
  refine ⟨a, cap, hv, hc, hm, hf, fun hn => ?_⟩
  obtain ⟨g, n, f, ha, hlo, hle, hr, hx⟩ := hh hn
  exact ⟨g, n, f, ha, hlo, hle, hr.of_block (hb.block g hr.lt), hx⟩
/-- So many marks. -/
def marks (k n : Nat) : List ByteArray := (List.range n).map fun i => markT (k + i)
theorem marks_length (k n : Nat) : (marks k n).length = n := by simp [marks]
theorem marks_at {k n i : Nat} (h : i < n) : (marks k n)[i]? = some (markT (k + i)) := by simp [marks, h]
theorem markT_size (n : Nat) : (markT n).size ≤ 21 := by
  unfold markT
  split
  · decide
  · rw [size_toArr, List.length_cons]
    have := digT_length 20 n []
    simp at this
    omega
