/-
  What small functions on texts tell: whether one begins or ends with another one, is a flag, is a part of an affix.
-/
import Derived.Test.YtmjhgniilhbgeaaGreatDoorW2
import Derived.Deep.QuietTactic
import Derived.BigQuiet
namespace Go.Proofs.YtmjhgniilhbgeaaGreatDoor
open Go.RowKit
set_option linter.unusedVariables false
/-- A text begins, or ends, with another one. -/
def begT (s p : ByteArray) : Bool := decide (p.size ≤ s.size) && ((s.extract 0 p.size).toList == p.toList)
def endT (s p : ByteArray) : Bool := decide (p.size ≤ s.size) && ((s.extract (s.size - p.size) s.size).toList == p.toList)
/-- A flag: a capital letter. -/
def flagT (s : ByteArray) : Bool := decide ((s.size : Int) = 1) && inr 65 90 s.data.toList
/-- Letters, at most four. -/
def partT (s : ByteArray) : Bool := inr 97 122 s.data.toList && decide ((s.size : Int) ≤ 4)
set_option maxHeartbeats 400000 in
theorem slHasPrefix_any (s p : ByteArray) (w : World) (hs : s.size ≤ maxLen) (hp : p.size ≤ maxLen) :
    Calls Tryz.prog 37 #[.string s, .string p] w fun e w' => e = .returned (.bool (begT s p)) ∧ w' = w := by
  unfold maxLen at hs hp
  by_cases h : (p.size : Int) ≤ (s.size : Int)
  · have HB : Hid (begT s p = ((s.extract 0 p.size).toList == p.toList)) := by
      have : begT s p = ((s.extract 0 p.size).toList == p.toList) := by unfold begT; simp; omega
      exact this
    go_enter Tryz.func37, Tryz.ntmps37
    go_wp2
    go_ret
    rw [HB.out]
    exact ⟨rfl, rfl⟩
  · have HB : Hid (begT s p = false) := by
      have : begT s p = false := by unfold begT; simp; omega
      exact this
    go_enter Tryz.func37, Tryz.ntmps37
    go_wp2
    go_ret
    rw [HB.out]
    exact ⟨rfl, rfl⟩
set_option maxHeartbeats 400000 in
theorem slHasSuffix_any (s p : ByteArray) (w : World) (hs : s.size ≤ maxLen) (hp : p.size ≤ maxLen) :
    Calls Tryz.prog 187 #[.string s, .string p] w fun e w' => e = .returned (.bool (endT s p)) ∧ w' = w := by
  unfold maxLen at hs hp
  by_cases h : (p.size : Int) ≤ (s.size : Int)
  · have HB : Hid (endT s p = ((s.extract (s.size - p.size) s.size).toList == p.toList)) := by
      have : endT s p = ((s.extract (s.size - p.size) s.size).toList == p.toList) := by unfold endT; simp; omega
      exact this
    go_enter Tryz.func187, Tryz.ntmps187
    go_wp2
    go_ret
    rw [HB.out]
    exact ⟨rfl, rfl⟩
  · have HB : Hid (endT s p = false) := by
      have : endT s p = false := by unfold endT; simp; omega
      exact this
    go_enter Tryz.func187, Tryz.ntmps187
    go_wp2
    go_ret
    rw [HB.out]
    exact ⟨rfl, rfl⟩
set_option maxHeartbeats 400000 in
theorem hasPrefix_any (s p : ByteArray) (w : World) (hs : s.size ≤ maxLen) (hp : p.size ≤ maxLen) :
    Calls Tryz.prog 27 #[.string s, .string p] w fun e w' => e = .returned (.bool (begT s p)) ∧ w' = w := by
  go_enter Tryz.func27, Tryz.ntmps27
  go_wp2_with (go_at_call 37; refine (slHasPrefix_any _ _ _ hs hp).mono ?_; rintro e w' ⟨rfl, rfl⟩)
  go_ret
  exact ⟨rfl, rfl⟩
set_option maxHeartbeats 400000 in
theorem hasSuffix_any (s p : ByteArray) (w : World) (hs : s.size ≤ maxLen) (hp : p.size ≤ maxLen) :
    Calls Tryz.prog 186 #[.string s, .string p] w fun e w' => e = .returned (.bool (endT s p)) ∧ w' = w := by
  go_enter Tryz.func186, Tryz.ntmps186
  go_wp2_with (go_at_call 187; refine (slHasSuffix_any _ _ _ hs hp).mono ?_; rintro e w' ⟨rfl, rfl⟩)
  go_ret
  exact ⟨rfl, rfl⟩
set_option maxHeartbeats 400000 in
theorem partOk_any (s : ByteArray) (w : World) (hs : s.size ≤ maxLen) :
    Calls Tryz.prog 105 #[.string s] w fun e w' => e = .returned (.bool (partT s)) ∧ w' = w := by
  by_cases h : (s.size : Int) ≤ 4
  all_goals
    go_enter Tryz.func105, Tryz.ntmps105
    go_wp2_with (go_at_call 104; refine (between_any _ _ _ _ hs).mono ?_; rintro e w' ⟨rfl, rfl⟩)
    go_ret
    exact ⟨ret_bool (by simp [partT, h]), rfl⟩
end Go.Proofs.YtmjhgniilhbgeaaGreatDoor
