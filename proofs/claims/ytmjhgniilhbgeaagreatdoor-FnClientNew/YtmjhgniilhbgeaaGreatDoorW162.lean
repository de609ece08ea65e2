/-
  spec.l1In by itself.
-/
import Derived.Test.YtmjhgniilhbgeaaGreatDoorProg
import Derived.WalkKit
import Derived.WalkSpells
import Derived.WalkLawsBesides
namespace Go.Proofs.YtmjhgniilhbgeaaGreatDoor
open Go.RowKit
set_option linter.unusedVariables false
/-- A number lies between two. -/
def inU (n lo hi : Int) : Bool := decide (lo ≤ n) && decide (n ≤ hi)
set_option maxHeartbeats 1000000 in
theorem l1InU_any (n lo hi : Int) (w : World) : Calls Tryz.prog 18 #[.int .i64 n, .int .i64 lo, .int .i64 hi] w fun e w' => e = .returned (.bool (inU n lo hi)) ∧ w' = w := by
  by_cases h1 : lo ≤ n
  · have HI : Hid (inU n lo hi = decide (n ≤ hi)) := show inU n lo hi = decide (n ≤ hi) by simp [inU, h1]
    have h1' : n ≥ lo := h1
    go_enter Tryz.func18, Tryz.ntmps18
    go_wp2
    go_ret
    rw [HI.out]
    exact ⟨rfl, rfl⟩
  · have HI : Hid (inU n lo hi = false) := show inU n lo hi = false by simp [inU, h1]
    go_enter Tryz.func18, Tryz.ntmps18
    go_wp2
    go_ret
    rw [HI.out]
    exact ⟨rfl, rfl⟩
theorem l1InU_is {n lo hi : Int} {b : Bool} (h : inU n lo hi = b) (w : World) : Calls Tryz.prog 18 #[.int .i64 n, .int .i64 lo, .int .i64 hi] w fun e w' => e = .returned (.bool b) ∧ w' = w := by
  rw [← h]; exact l1InU_any n lo hi w
end Go.Proofs.YtmjhgniilhbgeaaGreatDoor
