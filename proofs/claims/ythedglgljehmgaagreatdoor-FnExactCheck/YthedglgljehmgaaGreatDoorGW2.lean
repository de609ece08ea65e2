/-
  What the two loops over the letters of a text tell: whether each lies between two bounds.
-/
import Derived.Test.YthedglgljehmgaaGreatDoorProg
import Derived.Test.YthedglgljehmgaaGreatDoorGM40
import Derived.WalkKit
import Derived.WalkSpells
import Derived.WalkLawsBesides
namespace Go.Proofs.YthedglgljehmgaaGreatDoor
open Go.RowKit
set_option linter.unusedVariables false
theorem ret_bool {a b : Bool} (h : a = b) : Ending.returned (.bool a) = .returned (.bool b) := by rw [h]
set_option maxHeartbeats 400000 in
theorem letters_any (s : ByteArray) (most : Int) (w : World) (hs : s.size ≤ maxLen) :
    Calls Tryz.prog 100 #[.string s, .int .i64 most] w fun e w' => e = .returned (.bool (inr 97 122 s.data.toList && decide ((s.size : Int) ≤ most))) ∧ w' = w := by
  unfold maxLen at hs
  go_enter Tryz.func100, Tryz.ntmps100
  go_wp2
  go_loop [5] (fun i => ∃ k : Nat, k ≤ s.size ∧ i = .int .i64 k ∧ inr 97 122 (s.data.toList.take k) = true) (fun i => s.size - (intOf i).toNat)
  case atStart => exact ⟨0, Nat.zero_le _, rfl, rfl⟩
  case round =>
    obtain ⟨k, hk, rfl, hr⟩ := hrel
    have HR : Hid (inr 97 122 (s.data.toList.take k) = true) := hr
    clear hr
    by_cases hlt : k < s.size
    · go_wp2
      · go_ret
        exact ⟨ret_bool (by rw [inr_bad 97 122 s k hlt (by omega)]; rfl), rfl⟩
      · go_round
        case rel => exact ⟨k + 1, by omega, by go_num, by rw [inr_take_succ 97 122 s k hlt, HR.out]; simp; omega⟩
        case measure => simp [intOf]; omega
      · go_ret
        exact ⟨ret_bool (by rw [inr_bad 97 122 s k hlt (by omega)]; rfl), rfl⟩
    · go_wp2
      go_ret
      exact ⟨ret_bool (by rw [← inr_all 97 122 s k (by omega), HR.out]; rfl), rfl⟩
set_option maxHeartbeats 400000 in
theorem between_any (s : ByteArray) (lo hi : Int) (w : World) (hs : s.size ≤ maxLen) :
    Calls Tryz.prog 50 #[.string s, .int .u8 lo, .int .u8 hi] w fun e w' => e = .returned (.bool (inr lo hi s.data.toList)) ∧ w' = w := by
  unfold maxLen at hs
  go_enter Tryz.func50, Tryz.ntmps50
  go_wp2
  go_loop [10] (fun i => ∃ k : Nat, k ≤ s.size ∧ i = .int .i64 k ∧ inr lo hi (s.data.toList.take k) = true) (fun i => s.size - (intOf i).toNat)
  case atStart => exact ⟨0, Nat.zero_le _, rfl, rfl⟩
  case round =>
    obtain ⟨k, hk, rfl, hr⟩ := hrel
    have HR : Hid (inr lo hi (s.data.toList.take k) = true) := hr
    clear hr
    by_cases hlt : k < s.size
    · go_wp2
      · go_ret
        exact ⟨ret_bool (by rw [inr_bad lo hi s k hlt (by omega)]), rfl⟩
      · go_round
        case rel => exact ⟨k + 1, by omega, by go_num, by rw [inr_take_succ lo hi s k hlt, HR.out]; simp; omega⟩
        case measure => simp [intOf]; omega
      · go_ret
        exact ⟨ret_bool (by rw [inr_bad lo hi s k hlt (by omega)]), rfl⟩
    · go_wp2
      go_ret
      exact ⟨ret_bool (by rw [← inr_all lo hi s k (by omega), HR.out]), rfl⟩
end Go.Proofs.YthedglgljehmgaaGreatDoor
/-
  What the functions WordOk and l1Word tell of a text: whether it is a word.
-/
namespace Go.Proofs.YthedglgljehmgaaGreatDoor
open Go.RowKit
set_option linter.unusedVariables false
/-- A word: 1 to 12 letters. -/
def wok (s : ByteArray) : Bool := decide (0 < s.size) && (inr 97 122 s.data.toList && decide ((s.size : Int) ≤ 12))
theorem toList_nil (s : ByteArray) : s.toList = [] ↔ s.size = 0 := by
  rw [ByteArray.toList_eq]
  have : s.size = s.data.toList.length := rfl
  rw [this, List.length_eq_zero_iff]
set_option maxHeartbeats 400000 in
theorem l1Word_any (s : ByteArray) (w : World) (hs : s.size ≤ maxLen) :
    Calls Tryz.prog 84 #[.string s] w fun e w' => e = .returned (.bool (wok s)) ∧ w' = w := by
  by_cases h0 : 0 < s.size
  all_goals
    go_enter Tryz.func84, Tryz.ntmps84
    go_wp2_with (go_at_call 100; refine (letters_any _ _ _ hs).mono ?_; rintro e w' ⟨rfl, rfl⟩)
    go_ret
    exact ⟨ret_bool (by simp [wok, h0]), rfl⟩
set_option maxHeartbeats 400000 in
theorem wordOk_any (s : ByteArray) (w : World) (hs : s.size ≤ maxLen) :
    Calls Tryz.prog 90 #[.string s] w fun e w' => e = .returned (.bool (wok s)) ∧ w' = w := by
  unfold maxLen at hs
  by_cases h0 : s.toList = []
  · have h1 := (toList_nil s).1 h0
    go_enter Tryz.func90, Tryz.ntmps90
    go_wp2_with (go_at_call 50; refine (between_any _ _ _ _ hs).mono ?_; rintro e w' ⟨rfl, rfl⟩)
    go_ret
    exact ⟨ret_bool (by simp [wok, h1]), rfl⟩
  · have h1 : 0 < s.size := by have := mt (toList_nil s).2 h0; omega
    by_cases h2 : (s.size : Int) ≤ 12
    all_goals
      go_enter Tryz.func90, Tryz.ntmps90
      go_wp2_with (go_at_call 50; refine (between_any _ _ _ _ hs).mono ?_; rintro e w' ⟨rfl, rfl⟩)
      go_ret
      exact ⟨ret_bool (by simp [wok, h0, h1, h2]), rfl⟩
end Go.Proofs.YthedglgljehmgaaGreatDoor
