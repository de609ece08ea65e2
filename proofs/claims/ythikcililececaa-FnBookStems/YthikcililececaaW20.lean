/-
  What small functions on texts tell: whether one begins or ends with another one, is a flag, is a part of an affix.
-/
import Derived.Test.YthikcililececaaW2
import Derived.Deep.QuietTactic
import Derived.BigQuiet
namespace Go.Proofs.Ythikcililececaa
open Go.RowKit
set_option linter.unusedVariables false
/-- A text begins, or ends, with another one. -/
def begT (s p : ByteArray) : Bool := decide (p.size ≤ s.size) && ((s.extract 0 p.size).toList == p.toList)
def endT (s p : ByteArray) : Bool := decide (p.size ≤ s.size) && ((s.extract (s.size - p.size) s.size).toList == p.toList)
/-- A flag: a capital letter. -/
def flagT (s : ByteArray) : Bool := decide ((s.size : Int) = 1) && inr 65 90 s.data.toList
/-- Letters, at most four. -/
def partT (s : ByteArray) : Bool := inr 97 122 s.data.toList && decide ((s.size : Int) ≤ 4)
set_option maxHeartbeats 400000 in
theorem l2Begins_any (s p : ByteArray) (w : World) (hs : s.size ≤ maxLen) (hp : p.size ≤ maxLen) :
    Calls Try.prog 70 #[.string s, .string p] w fun e w' => e = .returned (.bool (begT s p)) ∧ w' = w := by
  unfold maxLen at hs hp
  by_cases h : (p.size : Int) ≤ (s.size : Int)
  · have HB : Hid (begT s p = ((s.extract 0 p.size).toList == p.toList)) := by
      have : begT s p = ((s.extract 0 p.size).toList == p.toList) := by unfold begT; simp; omega
      exact this
    go_enter Try.func70, Try.ntmps70
    go_wp2
    go_ret
    rw [HB.out]
    exact ⟨rfl, rfl⟩
  · have HB : Hid (begT s p = false) := by
      have : begT s p = false := by unfold begT; simp; omega
      exact this
    go_enter Try.func70, Try.ntmps70
    go_wp2
    go_ret
    rw [HB.out]
    exact ⟨rfl, rfl⟩
set_option maxHeartbeats 400000 in
theorem l2Ends_any (s p : ByteArray) (w : World) (hs : s.size ≤ maxLen) (hp : p.size ≤ maxLen) :
    Calls Try.prog 71 #[.string s, .string p] w fun e w' => e = .returned (.bool (endT s p)) ∧ w' = w := by
  unfold maxLen at hs hp
  by_cases h : (p.size : Int) ≤ (s.size : Int)
  · have HB : Hid (endT s p = ((s.extract (s.size - p.size) s.size).toList == p.toList)) := by
      have : endT s p = ((s.extract (s.size - p.size) s.size).toList == p.toList) := by unfold endT; simp; omega
      exact this
    go_enter Try.func71, Try.ntmps71
    go_wp2
    go_ret
    rw [HB.out]
    exact ⟨rfl, rfl⟩
  · have HB : Hid (endT s p = false) := by
      have : endT s p = false := by unfold endT; simp; omega
      exact this
    go_enter Try.func71, Try.ntmps71
    go_wp2
    go_ret
    rw [HB.out]
    exact ⟨rfl, rfl⟩
set_option maxHeartbeats 400000 in
theorem slHasPrefix_any (s p : ByteArray) (w : World) (hs : s.size ≤ maxLen) (hp : p.size ≤ maxLen) :
    Calls Try.prog 122 #[.string s, .string p] w fun e w' => e = .returned (.bool (begT s p)) ∧ w' = w := by
  unfold maxLen at hs hp
  by_cases h : (p.size : Int) ≤ (s.size : Int)
  · have HB : Hid (begT s p = ((s.extract 0 p.size).toList == p.toList)) := by
      have : begT s p = ((s.extract 0 p.size).toList == p.toList) := by unfold begT; simp; omega
      exact this
    go_enter Try.func122, Try.ntmps122
    go_wp2
    go_ret
    rw [HB.out]
    exact ⟨rfl, rfl⟩
  · have HB : Hid (begT s p = false) := by
      have : begT s p = false := by unfold begT; simp; omega
      exact this
    go_enter Try.func122, Try.ntmps122
    go_wp2
    go_ret
    rw [HB.out]
    exact ⟨rfl, rfl⟩
set_option maxHeartbeats 400000 in
theorem slHasSuffix_any (s p : ByteArray) (w : World) (hs : s.size ≤ maxLen) (hp : p.size ≤ maxLen) :
    Calls Try.prog 118 #[.string s, .string p] w fun e w' => e = .returned (.bool (endT s p)) ∧ w' = w := by
  unfold maxLen at hs hp
  by_cases h : (p.size : Int) ≤ (s.size : Int)
  · have HB : Hid (endT s p = ((s.extract (s.size - p.size) s.size).toList == p.toList)) := by
      have : endT s p = ((s.extract (s.size - p.size) s.size).toList == p.toList) := by unfold endT; simp; omega
      exact this
    go_enter Try.func118, Try.ntmps118
    go_wp2
    go_ret
    rw [HB.out]
    exact ⟨rfl, rfl⟩
  · have HB : Hid (endT s p = false) := by
      have : endT s p = false := by unfold endT; simp; omega
      exact this
    go_enter Try.func118, Try.ntmps118
    go_wp2
    go_ret
    rw [HB.out]
    exact ⟨rfl, rfl⟩
set_option maxHeartbeats 400000 in
theorem hasPrefix_any (s p : ByteArray) (w : World) (hs : s.size ≤ maxLen) (hp : p.size ≤ maxLen) :
    Calls Try.prog 121 #[.string s, .string p] w fun e w' => e = .returned (.bool (begT s p)) ∧ w' = w := by
  go_enter Try.func121, Try.ntmps121
  go_wp2_with (go_at_call 122; refine (slHasPrefix_any _ _ _ hs hp).mono ?_; rintro e w' ⟨rfl, rfl⟩)
  go_ret
  exact ⟨rfl, rfl⟩
set_option maxHeartbeats 400000 in
theorem hasSuffix_any (s p : ByteArray) (w : World) (hs : s.size ≤ maxLen) (hp : p.size ≤ maxLen) :
    Calls Try.prog 117 #[.string s, .string p] w fun e w' => e = .returned (.bool (endT s p)) ∧ w' = w := by
  go_enter Try.func117, Try.ntmps117
  go_wp2_with (go_at_call 118; refine (slHasSuffix_any _ _ _ hs hp).mono ?_; rintro e w' ⟨rfl, rfl⟩)
  go_ret
  exact ⟨rfl, rfl⟩
set_option maxHeartbeats 400000 in
theorem l2Flag_any (s : ByteArray) (w : World) (hs : s.size ≤ maxLen) :
    Calls Try.prog 54 #[.string s] w fun e w' => e = .returned (.bool (flagT s)) ∧ w' = w := by
  unfold maxLen at hs
  by_cases h : s.size = 1
  · have h0 : ((s.size : Int) == 1) = true := by rw [beq_iff_eq]; omega
    have l0 : (0 : Int) < (s.size : Int) := by omega
    have l0' : 0 < s.size := by omega
    have HB : Hid (flagT s = (decide (65 ≤ ((s[0]'l0').toNat : Int)) && decide (((s[0]'l0').toNat : Int) ≤ 90))) := by
      have : flagT s = (decide (65 ≤ ((s[0]'l0').toNat : Int)) && decide (((s[0]'l0').toNat : Int) ≤ 90)) := by
        unfold flagT
        have e := inr_take_succ 65 90 s 0 l0'
        rw [inr_all 65 90 s 1 (by omega)] at e
        rw [e]
        simp [inr]; omega
      exact this
    clear h
    go_enter Try.func54, Try.ntmps54
    go_wp2
    · have h65 : (65 : Int) ≤ ((s[0]'l0').toNat : Int) := by assumption
      go_ret
      rw [HB.out]
      exact ⟨ret_bool (by simp; omega), rfl⟩
    · have h65 : ((s[0]'l0').toNat : Int) < 65 := by assumption
      go_ret
      rw [HB.out]
      exact ⟨ret_bool (by simp; omega), rfl⟩
  · have h0 : ((s.size : Int) == 1) = false := by rw [beq_eq_false_iff_ne]; omega
    have HB : Hid (flagT s = false) := by
      have : flagT s = false := by unfold flagT; simp; omega
      exact this
    clear h
    go_enter Try.func54, Try.ntmps54
    go_wp2
    go_ret
    rw [HB.out]
    exact ⟨rfl, rfl⟩
set_option maxHeartbeats 400000 in
theorem partOk_any (s : ByteArray) (w : World) (hs : s.size ≤ maxLen) :
    Calls Try.prog 57 #[.string s] w fun e w' => e = .returned (.bool (partT s)) ∧ w' = w := by
  by_cases h : (s.size : Int) ≤ 4
  all_goals
    go_enter Try.func57, Try.ntmps57
    go_wp2_with (go_at_call 37; refine (between_any _ _ _ _ hs).mono ?_; rintro e w' ⟨rfl, rfl⟩)
    go_ret
    exact ⟨ret_bool (by simp [partT, h]), rfl⟩
end Go.Proofs.Ythikcililececaa
