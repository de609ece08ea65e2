/-
  What the functions WordOk and l1Word tell of a text: whether it is a word.
-/
import Derived.Test.YtmjhgniilhbgeaaGreatDoorW1
namespace Go.Proofs.YtmjhgniilhbgeaaGreatDoor
open Go.RowKit
set_option linter.unusedVariables false
/-- A word: 1 to 12 letters. -/
def wok (s : ByteArray) : Bool := decide (0 < s.size) && (inr 97 122 s.data.toList && decide ((s.size : Int) ≤ 12))
theorem toList_nil (s : ByteArray) : s.toList = [] ↔ s.size = 0 := by
  rw [ByteArray.toList_eq]
  have : s.size = s.data.toList.length := rfl
  rw [this, List.length_eq_zero_iff]
set_option maxHeartbeats 400000 in
theorem wordOk_any (s : ByteArray) (w : World) (hs : s.size ≤ maxLen) :
    Calls Tryz.prog 107 #[.string s] w fun e w' => e = .returned (.bool (wok s)) ∧ w' = w := by
  unfold maxLen at hs
  by_cases h0 : s.toList = []
  · have h1 := (toList_nil s).1 h0
    go_enter Tryz.func107, Tryz.ntmps107
    go_wp2_with (go_at_call 104; refine (between_any _ _ _ _ hs).mono ?_; rintro e w' ⟨rfl, rfl⟩)
    go_ret
    exact ⟨ret_bool (by simp [wok, h1]), rfl⟩
  · have h1 : 0 < s.size := by have := mt (toList_nil s).2 h0; omega
    by_cases h2 : (s.size : Int) ≤ 12
    all_goals
      go_enter Tryz.func107, Tryz.ntmps107
      go_wp2_with (go_at_call 104; refine (between_any _ _ _ _ hs).mono ?_; rintro e w' ⟨rfl, rfl⟩)
      go_ret
      exact ⟨ret_bool (by simp [wok, h0, h1, h2]), rfl⟩
end Go.Proofs.YtmjhgniilhbgeaaGreatDoor
