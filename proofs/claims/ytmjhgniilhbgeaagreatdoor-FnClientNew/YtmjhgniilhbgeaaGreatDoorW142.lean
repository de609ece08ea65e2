/-
  Small words for the walks of exact laws.
-/
import Derived.Test.YtmjhgniilhbgeaaGreatDoorW141
namespace Go.Proofs.YtmjhgniilhbgeaaGreatDoor
open Go.RowKit
set_option linter.unusedVariables false
/-- A number that is called by a letter. -/
theorem cK {P : Program} {f : FuncId} {args : Array Value} {w : World} {n K : Nat} {Q : World → Prop} (h : Calls P f args w fun e w' => e = .returned (.int .i64 (n : Int)) ∧ Q w') (hn : n = K) : Calls P f args w fun e w' => e = .returned (.int .i64 (K : Int)) ∧ Q w' := by
  subst hn
  exact h
theorem wr_cell {lo hi : Nat} {w w' : World} (h : Wr lo hi w w') {b : Nat} (i : Nat) (hp : b < lo ∨ hi ≤ b) (hlt : b < w.heap.size) : w'.cell? ⟨b, i, none⟩ = w.cell? ⟨b, i, none⟩ := by
  refine World.cell?_of_block (a := ⟨b, i, none⟩) ?_
  rcases hp with hp | hp
  · exact h.1.block b hp
  · exact h.2.2.1 b hp hlt
theorem BookAt.form2 {w : World} {v : Value} {x : List Aff × List (ByteArray × ByteArray)} (h : BookAt w v x) : ∃ a n c a' n' c', v = .agg #[.slice a n c, .slice a' n' c'] := by
  obtain ⟨va, ve, rfl, h1, h2⟩ := h
  obtain ⟨a, c, rfl, _⟩ := h1.form
  obtain ⟨a', c', rfl, _⟩ := h2.form
  exact ⟨_, _, _, _, _, _, rfl⟩
end Go.Proofs.YtmjhgniilhbgeaaGreatDoor
