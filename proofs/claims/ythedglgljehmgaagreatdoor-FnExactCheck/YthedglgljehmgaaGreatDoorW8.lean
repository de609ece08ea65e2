/-
  The least of two numbers; rows of numbers in memory, one behind the other: what spec.l1Far keeps between its rounds.
-/
import Derived.Test.YthedglgljehmgaaGreatDoorGW4
import Derived.Lib.SmallJoins
import Derived.Deep.AppendLies
namespace Go.Proofs.YthedglgljehmgaaGreatDoor
open Go.RowKit
set_option linter.unusedVariables false
/-- The lesser of two, not to be parted on. -/
def ls (x y : Int) : Int := if x < y then x else y
theorem ls_le (x y : Int) : ls x y ≤ x ∧ ls x y ≤ y ∧ (ls x y = x ∨ ls x y = y) := by unfold ls; split <;> omega
set_option maxHeartbeats 400000 in
theorem least_any (x y : Int) (w : World) : Calls Tryz.prog 46 #[.int .i64 x, .int .i64 y] w fun e w' => e = .returned (.int .i64 (ls x y)) ∧ w' = w := by
  by_cases h : x < y
  · have HL : Hid (ls x y = x) := if_pos h
    go_enter Tryz.func46, Tryz.ntmps46
    go_wp2
    go_ret
    rw [HL.out]
    exact ⟨rfl, rfl⟩
  · have HL : Hid (ls x y = y) := if_neg h
    go_enter Tryz.func46, Tryz.ntmps46
    go_wp2
    go_ret
    rw [HL.out]
    exact ⟨rfl, rfl⟩
/-- The first n numbers of a function, as cells. -/
def ints (f : Nat → Int) (n : Nat) : List Value := (List.range n).map fun j => .int .i64 (f j)
theorem ints_succ (f : Nat → Int) (n : Nat) : ints f (n + 1) = ints f n ++ [.int .i64 (f n)] := by
  simp [ints, List.range_succ]
theorem ints_get (f : Nat → Int) (n j : Nat) (h : j < n) : (ints f n)[j]? = some (.int .i64 (f j)) := by
  simp [ints, h]
theorem ints_length (f : Nat → Int) (n : Nat) : (ints f n).length = n := by simp [ints]
/-- What is owned stays owned where its block stays. -/
theorem ownsRow_below {B H : Nat} {e : TypeId} {v : Value} {n : Nat} {xs : List Value} {w w' : World} (h : w.ownsRow B e 1 v n xs) (hb : Below H w w') (hH : w.heap.size ≤ H) : w'.ownsRow B e 1 v n xs := by
  obtain ⟨h1, h2⟩ := h
  refine ⟨h1, ?_⟩
  rcases h2 with h2 | ⟨g, cap, cur, hv, hB, hg, h3⟩
  · exact .inl h2
  · have hlt : g < w.heap.size := by
      rcases Nat.lt_or_ge g w.heap.size with hlt | hge
      · exact hlt
      · rw [Array.getElem?_eq_none hge] at hg; cases hg
    exact .inr ⟨g, cap, cur, hv, hB, (hb.block g (by omega)).trans hg, h3⟩
theorem ownsRow_wider {B B' : Nat} {e : TypeId} {v : Value} {n : Nat} {xs : List Value} {w : World} (h : w.ownsRow B e 1 v n xs) (hB : B' ≤ B) : w.ownsRow B' e 1 v n xs := by
  obtain ⟨h1, h2⟩ := h
  refine ⟨h1, ?_⟩
  rcases h2 with h2 | ⟨g, cap, cur, hv, hBg, h3⟩
  · exact .inl h2
  · exact .inr ⟨g, cap, cur, hv, by omega, h3⟩
/-- Rows of two element types lie in two blocks. -/
theorem ownsRow_apart {B B' : Nat} {e e' : TypeId} {v v' : Value} {n n' : Nat} {xs xs' : List Value} {w : World} (h : w.ownsRow B e 1 v n xs) (h' : w.ownsRow B' e' 1 v' n' xs') (he : e ≠ e') : v.ownBlock = none ∨ v.ownBlock ≠ v'.ownBlock := by
  rcases h.2 with ⟨rfl, _⟩ | ⟨g, cap, cur, rfl, _, hg, _⟩
  · exact .inl rfl
  · rcases h'.2 with ⟨rfl, _⟩ | ⟨g', cap', cur', rfl, _, hg', _⟩
    · exact .inr (by simp [Value.ownBlock])
    · refine .inr ?_
      simp only [Value.ownBlock, ne_eq, Option.some.injEq]
      intro e1
      rw [e1] at hg
      rw [hg] at hg'
      simp at hg'
      exact he hg'.2
/-- A cell of a row that is owned. -/
theorem ownsRow_cell {B : Nat} {e : TypeId} {g n cap : Nat} {xs : List Value} {w : World} (h : w.ownsRow B e 1 (.slice (some ⟨g, 0, none⟩) n cap) n xs) (j : Nat) (u : Value) (hj : xs[j]? = some u) : w.cell? ⟨g, j, none⟩ = some u := by
  have := h.cells (g := g) rfl j u hj
  have hadd : (⟨g, 0, none⟩ : Addr).add j = ⟨g, j, none⟩ := by unfold Addr.add; split <;> simp_all
  rwa [hadd] at this
/-- What lies below a row's own base stays behind an append to it. -/
theorem below_grown {B H : Nat} {a w w' : World} {v : Value} {e : TypeId} {n : Nat} {xs : List Value} (h : Below H a w) (hg : w.grownBy w' v.ownBlock) (ho : w.ownsRow B e 1 v n xs) (hH : H ≤ B) (hs : H ≤ w.heap.size) : Below H a w' :=
  h.grown hg hs (fun k hk => by have := (ho.lt k hk).1; omega)
/-- The rows of lengths 0 to i, as spec.l1Far keeps them. -/
def FarRows (x y : Nat → UInt8) (m B : Nat) (v : Value) (i : Nat) (w : World) : Prop :=
  ∃ vs : List Value, w.ownsRow B 60 1 v i vs ∧ ∀ n, n < i → ∃ u, vs[n]? = some u ∧ w.ownsRow B 3 1 u (m + 1) (ints (D x y n) (m + 1))
theorem FarRows.below {x y : Nat → UInt8} {m B H i : Nat} {v : Value} {w w' : World} (h : FarRows x y m B v i w) (hb : Below H w w') (hH : w.heap.size ≤ H) : FarRows x y m B v i w' := by
  obtain ⟨vs, h1, h2⟩ := h
  refine ⟨vs, ownsRow_below h1 hb hH, fun n hn => ?_⟩
  obtain ⟨u, hu, ho⟩ := h2 n hn
  exact ⟨u, hu, ownsRow_below ho hb hH⟩
theorem FarRows.alloc {x y : Nat → UInt8} {m B i : Nat} {v : Value} {w : World} (h : FarRows x y m B v i w) (o : Obj) : FarRows x y m B v i (w.alloc o) := by
  obtain ⟨vs, h1, h2⟩ := h
  refine ⟨vs, h1.alloc o, fun n hn => ?_⟩
  obtain ⟨u, hu, ho⟩ := h2 n hn
  exact ⟨u, hu, ho.alloc o⟩
/-- A row read: where it lies, and what it holds. -/
theorem FarRows.look {x y : Nat → UInt8} {m B i : Nat} {g cap : Nat} {w : World} (h : FarRows x y m B (.slice (some ⟨g, 0, none⟩) i cap) i w) (n : Nat) (hn : n < i) :
    ∃ g' cap', w.cell? ⟨g, n, none⟩ = some (.slice (some ⟨g', 0, none⟩) (m + 1) cap') ∧ ∀ k, k < m + 1 → w.cell? ⟨g', k, none⟩ = some (.int .i64 (D x y n k)) := by
  obtain ⟨vs, h1, h2⟩ := h
  obtain ⟨u, hu, ho⟩ := h2 n hn
  obtain ⟨g', cap', rfl, _, _⟩ := ho.form (by omega)
  exact ⟨g', cap', ownsRow_cell h1 n _ hu, fun k hk => ownsRow_cell ho k _ (ints_get _ _ _ hk)⟩
/-- One row more. -/
theorem FarRows.push {x y : Nat → UInt8} {m B i : Nat} {v v' u : Value} {w w' : World} {vs : List Value} (hv : w.ownsRow B 60 1 v i vs) (h2 : ∀ n, n < i → ∃ u, vs[n]? = some u ∧ w.ownsRow B 3 1 u (m + 1) (ints (D x y n) (m + 1)))
    (hu : w.ownsRow B 3 1 u (m + 1) (ints (D x y i) (m + 1))) (hown : w'.ownsRow B 60 1 v' (i + 1) (vs ++ [u])) (hg : w.grownBy w' v.ownBlock) : FarRows x y m B v' (i + 1) w' := by
  refine ⟨vs ++ [u], hown, fun n hn => ?_⟩
  have hl : vs.length = i := by have := hv.1; omega
  by_cases e : n < i
  · obtain ⟨u', hu', ho⟩ := h2 n e
    refine ⟨u', ?_, ho.kept hg (ownsRow_apart ho hv (by decide))⟩
    rw [List.getElem?_append_left (by omega)]; exact hu'
  · have : n = i := by omega
    subst this
    refine ⟨u, ?_, hu.kept hg (ownsRow_apart hu hv (by decide))⟩
    rw [List.getElem?_append_right (by omega)]; simp [hl]
end Go.Proofs.YthedglgljehmgaaGreatDoor
