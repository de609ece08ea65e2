/-
  The least of two numbers; rows of numbers in memory, one behind the other: what spec.l1Far keeps between its rounds.
-/
import Derived.Test.YtdjpeickokoclaaDoorGW4
import Derived.Lib.SmallJoins
import Derived.Deep.AppendLies
namespace Go.Proofs.YtdjpeickokoclaaDoor
open Go.RowKit
set_option linter.unusedVariables false
/-- The first n numbers of a function, as cells. -/
def ints (f : Nat → Int) (n : Nat) : List Value := (List.range n).map fun j => .int .i64 (f j)
/-- What is owned stays owned where its block stays. -/
theorem ownsRow_below {B H : Nat} {e : TypeId} {v : Value} {n : Nat} {xs : List Value} {w w' : World} (h : w.ownsRow B e 1 v n xs) (hb : Below H w w') (hH : w.heap.size ≤ H) : w'.ownsRow B e 1 v n xs := by
  obtain ⟨h1, h2⟩ := h
  refine ⟨h1, ?_⟩
  rcases h2 with h2 | ⟨g, cap, cur, hv, hB, hg, h3⟩
  · exact .inl h2
  · have hlt : g < w.heap.size := by
      rcases Nat.lt_or_ge g w.heap.size with hlt | hge
      · exact hlt
      · rw [Array.getElem?_eq_none hge] at hg; cases hg
    exact .inr ⟨g, cap, cur, hv, hB, (hb.block g (by omega)).trans hg, h3⟩
/-- The rows of lengths 0 to i, as spec.l1Far keeps them. -/
def FarRows (x y : Nat → UInt8) (m B : Nat) (v : Value) (i : Nat) (w : World) : Prop :=
  ∃ vs : List Value, w.ownsRow B 24 1 v i vs ∧ ∀ n, n < i → ∃ u, vs[n]? = some u ∧ w.ownsRow B 3 1 u (m + 1) (ints (D x y n) (m + 1))
theorem FarRows.below {x y : Nat → UInt8} {m B H i : Nat} {v : Value} {w w' : World} (h : FarRows x y m B v i w) (hb : Below H w w') (hH : w.heap.size ≤ H) : FarRows x y m B v i w' := by
  obtain ⟨vs, h1, h2⟩ := h
  refine ⟨vs, ownsRow_below h1 hb hH, fun n hn => ?_⟩
  obtain ⟨u, hu, ho⟩ := h2 n hn
  exact ⟨u, hu, ownsRow_below ho hb hH⟩
theorem FarRows.alloc {x y : Nat → UInt8} {m B i : Nat} {v : Value} {w : World} (h : FarRows x y m B v i w) (o : Obj) : FarRows x y m B v i (w.alloc o) := by
  obtain ⟨vs, h1, h2⟩ := h
  refine ⟨vs, h1.alloc o, fun n hn => ?_⟩
  obtain ⟨u, hu, ho⟩ := h2 n hn
  exact ⟨u, hu, ho.alloc o⟩
end Go.Proofs.YtdjpeickokoclaaDoor
