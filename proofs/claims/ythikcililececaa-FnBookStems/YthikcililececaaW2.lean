/-
  What the functions WordOk and l1Word tell of a text: whether it is a word.
-/
import Derived.Test.YthikcililececaaW1
namespace Go.Proofs.Ythikcililececaa
open Go.RowKit
set_option linter.unusedVariables false
/-- A word: 1 to 12 letters. -/
def wok (s : ByteArray) : Bool := decide (0 < s.size) && (inr 97 122 s.data.toList && decide ((s.size : Int) ≤ 12))
theorem toList_nil (s : ByteArray) : s.toList = [] ↔ s.size = 0 := by
  rw [ByteArray.toList_eq]
  have : s.size = s.data.toList.length := rfl
  rw [this, List.length_eq_zero_iff]
set_option maxHeartbeats 400000 in
theorem l1Word_any (s : ByteArray) (w : World) (hs : s.size ≤ maxLen) :
    Calls Try.prog 55 #[.string s] w fun e w' => e = .returned (.bool (wok s)) ∧ w' = w := by
  by_cases h0 : 0 < s.size
  all_goals
    go_enter Try.func55, Try.ntmps55
    go_wp2_with (go_at_call 69; refine (letters_any _ _ _ hs).mono ?_; rintro e w' ⟨rfl, rfl⟩)
    go_ret
    exact ⟨ret_bool (by simp [wok, h0]), rfl⟩
set_option maxHeartbeats 400000 in
theorem wordOk_any (s : ByteArray) (w : World) (hs : s.size ≤ maxLen) :
    Calls Try.prog 13 #[.string s] w fun e w' => e = .returned (.bool (wok s)) ∧ w' = w := by
  unfold maxLen at hs
  by_cases h0 : s.toList = []
  · have h1 := (toList_nil s).1 h0
    go_enter Try.func13, Try.ntmps13
    go_wp2_with (go_at_call 37; refine (between_any _ _ _ _ hs).mono ?_; rintro e w' ⟨rfl, rfl⟩)
    go_ret
    exact ⟨ret_bool (by simp [wok, h1]), rfl⟩
  · have h1 : 0 < s.size := by have := mt (toList_nil s).2 h0; omega
    by_cases h2 : (s.size : Int) ≤ 12
    all_goals
      go_enter Try.func13, Try.ntmps13
      go_wp2_with (go_at_call 37; refine (between_any _ _ _ _ hs).mono ?_; rintro e w' ⟨rfl, rfl⟩)
      go_ret
      exact ⟨ret_bool (by simp [wok, h0, h1, h2]), rfl⟩
end Go.Proofs.Ythikcililececaa
