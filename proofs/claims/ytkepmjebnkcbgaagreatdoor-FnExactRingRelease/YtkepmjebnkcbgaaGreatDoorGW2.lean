/-
  What the two loops over the letters of a text tell: whether each lies between two bounds.
-/
import Derived.Test.YtkepmjebnkcbgaaGreatDoorProg
import Derived.Test.YtkepmjebnkcbgaaGreatDoorM1
import Derived.WalkKit
import Derived.WalkSpells
import Derived.WalkLawsBesides
namespace Go.Proofs.YtkepmjebnkcbgaaGreatDoor
open Go.RowKit
set_option linter.unusedVariables false
theorem ret_bool {a b : Bool} (h : a = b) : Ending.returned (.bool a) = .returned (.bool b) := by rw [h]
set_option maxHeartbeats 400000 in
theorem letters_any (s : ByteArray) (most : Int) (w : World) (hs : s.size ≤ maxLen) :
    Calls Tryz.prog 126 #[.string s, .int .i64 most] w fun e w' => e = .returned (.bool (inr 97 122 s.data.toList && decide ((s.size : Int) ≤ most))) ∧ w' = w := by
  unfold maxLen at hs
  go_enter Tryz.func126, Tryz.ntmps126
  go_wp2
  go_loop [5] (fun i => ∃ k : Nat, k ≤ s.size ∧ i = .int .i64 k ∧ inr 97 122 (s.data.toList.take k) = true) (fun i => s.size - (intOf i).toNat)
  case atStart => exact ⟨0, Nat.zero_le _, rfl, rfl⟩
  case round =>
    obtain ⟨k, hk, rfl, hr⟩ := hrel
    have HR : Hid (inr 97 122 (s.data.toList.take k) = true) := hr
    clear hr
    by_cases hlt : k < s.size
    · go_wp2
      · go_ret
        exact ⟨ret_bool (by rw [inr_bad 97 122 s k hlt (by omega)]; rfl), rfl⟩
      · go_round
        case rel => exact ⟨k + 1, by omega, by go_num, by rw [inr_take_succ 97 122 s k hlt, HR.out]; simp; omega⟩
        case measure => simp [intOf]; omega
      · go_ret
        exact ⟨ret_bool (by rw [inr_bad 97 122 s k hlt (by omega)]; rfl), rfl⟩
    · go_wp2
      go_ret
      exact ⟨ret_bool (by rw [← inr_all 97 122 s k (by omega), HR.out]; rfl), rfl⟩
set_option maxHeartbeats 400000 in
theorem between_any (s : ByteArray) (lo hi : Int) (w : World) (hs : s.size ≤ maxLen) :
    Calls Tryz.prog 132 #[.string s, .int .u8 lo, .int .u8 hi] w fun e w' => e = .returned (.bool (inr lo hi s.data.toList)) ∧ w' = w := by
  unfold maxLen at hs
  go_enter Tryz.func132, Tryz.ntmps132
  go_wp2
  go_loop [10] (fun i => ∃ k : Nat, k ≤ s.size ∧ i = .int .i64 k ∧ inr lo hi (s.data.toList.take k) = true) (fun i => s.size - (intOf i).toNat)
  case atStart => exact ⟨0, Nat.zero_le _, rfl, rfl⟩
  case round =>
    obtain ⟨k, hk, rfl, hr⟩ := hrel
    have HR : Hid (inr lo hi (s.data.toList.take k) = true) := hr
    clear hr
    by_cases hlt : k < s.size
    · go_wp2
      · go_ret
        exact ⟨ret_bool (by rw [inr_bad lo hi s k hlt (by omega)]), rfl⟩
      · go_round
        case rel => exact ⟨k + 1, by omega, by go_num, by rw [inr_take_succ lo hi s k hlt, HR.out]; simp; omega⟩
        case measure => simp [intOf]; omega
      · go_ret
        exact ⟨ret_bool (by rw [inr_bad lo hi s k hlt (by omega)]), rfl⟩
    · go_wp2
      go_ret
      exact ⟨ret_bool (by rw [← inr_all lo hi s k (by omega), HR.out]), rfl⟩
end Go.Proofs.YtkepmjebnkcbgaaGreatDoor
/-
  spec.l1In by itself.
-/
namespace Go.Proofs.YtkepmjebnkcbgaaGreatDoor
open Go.RowKit
set_option linter.unusedVariables false
/-- A number lies between two. -/
def inU (n lo hi : Int) : Bool := decide (lo ≤ n) && decide (n ≤ hi)
set_option maxHeartbeats 1000000 in
theorem l1InU_any (n lo hi : Int) (w : World) : Calls Tryz.prog 43 #[.int .i64 n, .int .i64 lo, .int .i64 hi] w fun e w' => e = .returned (.bool (inU n lo hi)) ∧ w' = w := by
  by_cases h1 : lo ≤ n
  · have HI : Hid (inU n lo hi = decide (n ≤ hi)) := show inU n lo hi = decide (n ≤ hi) by simp [inU, h1]
    have h1' : n ≥ lo := h1
    go_enter Tryz.func43, Tryz.ntmps43
    go_wp2
    go_ret
    rw [HI.out]
    exact ⟨rfl, rfl⟩
  · have HI : Hid (inU n lo hi = false) := show inU n lo hi = false by simp [inU, h1]
    go_enter Tryz.func43, Tryz.ntmps43
    go_wp2
    go_ret
    rw [HI.out]
    exact ⟨rfl, rfl⟩
theorem l1InU_is {n lo hi : Int} {b : Bool} (h : inU n lo hi = b) (w : World) : Calls Tryz.prog 43 #[.int .i64 n, .int .i64 lo, .int .i64 hi] w fun e w' => e = .returned (.bool b) ∧ w' = w := by
  rw [← h]; exact l1InU_any n lo hi w
end Go.Proofs.YtkepmjebnkcbgaaGreatDoor
/-
  Keys.
-/
namespace Go.Proofs.YtkepmjebnkcbgaaGreatDoor
open Go.RowKit
set_option linter.unusedVariables false
/-- A key. -/
def keyT (s : ByteArray) : Bool := if h : 1 ≤ s.size then decide (s.size ≤ 64) && ((s[s.size - 1].toNat : Int) != 0) else false
theorem keyT_none {s : ByteArray} (h : ¬ 1 ≤ s.size) : keyT s = false := dif_neg h
theorem keyT_long {s : ByteArray} (h : 64 < s.size) : keyT s = false := by
  have h1 : 1 ≤ s.size := by omega
  have h2 : ¬ s.size ≤ 64 := by omega
  simp [keyT, h1, h2]
theorem keyT_in {s : ByteArray} (h : 1 ≤ s.size) (h2 : s.size ≤ 64) (hh : s.size - 1 < s.size) : keyT s = ((s[s.size - 1].toNat : Int) != 0) := by
  simp [keyT, h, h2]
theorem listNil {s : ByteArray} (h : ¬ 1 ≤ s.size) : s.toList = [] := by
  rw [ByteArray.toList_eq]
  have : s.data.toList.length = s.size := rfl
  exact List.length_eq_zero_iff.1 (by omega)
theorem listSome {s : ByteArray} (h : 1 ≤ s.size) : ¬ s.toList = [] := by
  rw [ByteArray.toList_eq]
  intro e
  have h1 : s.data.toList.length = s.size := rfl
  rw [e] at h1
  simp at h1
  omega
set_option maxHeartbeats 400000 in
theorem keyOk_any (s : ByteArray) (w : World) (hs : s.size ≤ maxLen) : Calls Tryz.prog 51 #[.string s] w fun e w' => e = .returned (.bool (keyT s)) ∧ w' = w := by
  unfold maxLen at hs
  by_cases h1 : 1 ≤ s.size
  · have hne := listSome h1
    have hi : 1 ≤ (s.size : Int) ∧ (s.size : Int) - 1 < s.size := by omega
    by_cases h2 : s.size ≤ 64
    · have h2' : (s.size : Int) ≤ 64 := by omega
      have HK : Hid (∀ (hh : s.size - 1 < s.size), keyT s = ((s[s.size - 1].toNat : Int) != 0)) := keyT_in h1 h2
      clear h1 h2
      go_enter Tryz.func51, Tryz.ntmps51
      go_wp2
      go_ret
      rw [HK.out (by omega)]
      exact ⟨by simp [hne], rfl⟩
    · have h2' : 64 < (s.size : Int) := by omega
      have HK : Hid (keyT s = false) := keyT_long (by omega)
      clear h1 h2
      go_enter Tryz.func51, Tryz.ntmps51
      go_wp2
      go_ret
      rw [HK.out]
      exact ⟨rfl, rfl⟩
  · have hne := listNil h1
    have HK : Hid (keyT s = false) := keyT_none h1
    clear h1
    go_enter Tryz.func51, Tryz.ntmps51
    go_wp2
    go_ret
    rw [HK.out]
    exact ⟨by simp, rfl⟩
set_option maxHeartbeats 400000 in
theorem l6Key_any (s : ByteArray) (w : World) (hs : s.size ≤ maxLen) : Calls Tryz.prog 42 #[.string s] w fun e w' => e = .returned (.bool (keyT s)) ∧ w' = w := by
  unfold maxLen at hs
  cases hin : inU s.size 1 64 with
  | false =>
    have HK : Hid (keyT s = false) := by
      by_cases h1 : 1 ≤ s.size
      · refine keyT_long ?_
        simp [inU] at hin
        have := hin (by omega)
        omega
      · exact keyT_none h1
    go_enter Tryz.func42, Tryz.ntmps42
    go_wp2_with fail
    refine (l1InU_is hin _).mono ?_
    rintro e w1 ⟨rfl, rfl⟩
    go_wp2
    go_ret
    rw [HK.out]
    exact ⟨rfl, rfl⟩
  | true =>
    have h1 : 1 ≤ s.size ∧ s.size ≤ 64 := by simp [inU] at hin; omega
    have HK : Hid (∀ (hh : s.size - 1 < s.size), keyT s = ((s[s.size - 1].toNat : Int) != 0)) := keyT_in h1.1 h1.2
    have hi : 1 ≤ (s.size : Int) ∧ (s.size : Int) - 1 < s.size := by omega
    clear h1
    go_enter Tryz.func42, Tryz.ntmps42
    go_wp2_with fail
    refine (l1InU_is hin _).mono ?_
    rintro e w1 ⟨rfl, rfl⟩
    go_wp2
    go_ret
    rw [HK.out (by omega)]
    exact ⟨rfl, rfl⟩
end Go.Proofs.YtkepmjebnkcbgaaGreatDoor
/-
  What the functions WordOk and l1Word tell of a text: whether it is a word.
-/
namespace Go.Proofs.YtkepmjebnkcbgaaGreatDoor
open Go.RowKit
set_option linter.unusedVariables false
/-- A word: 1 to 12 letters. -/
def wok (s : ByteArray) : Bool := decide (0 < s.size) && (inr 97 122 s.data.toList && decide ((s.size : Int) ≤ 12))
theorem toList_nil (s : ByteArray) : s.toList = [] ↔ s.size = 0 := by
  rw [ByteArray.toList_eq]
  have : s.size = s.data.toList.length := rfl
  rw [this, List.length_eq_zero_iff]
set_option maxHeartbeats 400000 in
theorem l1Word_any (s : ByteArray) (w : World) (hs : s.size ≤ maxLen) :
    Calls Tryz.prog 103 #[.string s] w fun e w' => e = .returned (.bool (wok s)) ∧ w' = w := by
  by_cases h0 : 0 < s.size
  all_goals
    go_enter Tryz.func103, Tryz.ntmps103
    go_wp2_with (go_at_call 126; refine (letters_any _ _ _ hs).mono ?_; rintro e w' ⟨rfl, rfl⟩)
    go_ret
    exact ⟨ret_bool (by simp [wok, h0]), rfl⟩
set_option maxHeartbeats 400000 in
theorem wordOk_any (s : ByteArray) (w : World) (hs : s.size ≤ maxLen) :
    Calls Tryz.prog 135 #[.string s] w fun e w' => e = .returned (.bool (wok s)) ∧ w' = w := by
  unfold maxLen at hs
  by_cases h0 : s.toList = []
  · have h1 := (toList_nil s).1 h0
    go_enter Tryz.func135, Tryz.ntmps135
    go_wp2_with (go_at_call 132; refine (between_any _ _ _ _ hs).mono ?_; rintro e w' ⟨rfl, rfl⟩)
    go_ret
    exact ⟨ret_bool (by simp [wok, h1]), rfl⟩
  · have h1 : 0 < s.size := by have := mt (toList_nil s).2 h0; omega
    by_cases h2 : (s.size : Int) ≤ 12
    all_goals
      go_enter Tryz.func135, Tryz.ntmps135
      go_wp2_with (go_at_call 132; refine (between_any _ _ _ _ hs).mono ?_; rintro e w' ⟨rfl, rfl⟩)
      go_ret
      exact ⟨ret_bool (by simp [wok, h0, h1, h2]), rfl⟩
end Go.Proofs.YtkepmjebnkcbgaaGreatDoor
