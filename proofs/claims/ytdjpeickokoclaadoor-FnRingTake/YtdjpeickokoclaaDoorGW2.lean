/-
  What the two loops over the letters of a text tell: whether each lies between two bounds.
-/
import Derived.Test.YtdjpeickokoclaaDoorProg
import Derived.Test.YtdjpeickokoclaaDoorGM3
import Derived.WalkKit
import Derived.WalkSpells
import Derived.WalkLawsBesides
namespace Go.Proofs.YtdjpeickokoclaaDoor
open Go.RowKit
set_option linter.unusedVariables false
theorem ret_bool {a b : Bool} (h : a = b) : Ending.returned (.bool a) = .returned (.bool b) := by rw [h]
end Go.Proofs.YtdjpeickokoclaaDoor
/-
  spec.l1In by itself.
-/
namespace Go.Proofs.YtdjpeickokoclaaDoor
open Go.RowKit
set_option linter.unusedVariables false
/-- A number lies between two. -/
def inU (n lo hi : Int) : Bool := decide (lo ≤ n) && decide (n ≤ hi)
set_option maxHeartbeats 1000000 in
theorem l1InU_any (n lo hi : Int) (w : World) : Calls Tryd.prog 28 #[.int .i64 n, .int .i64 lo, .int .i64 hi] w fun e w' => e = .returned (.bool (inU n lo hi)) ∧ w' = w := by
  by_cases h1 : lo ≤ n
  · have HI : Hid (inU n lo hi = decide (n ≤ hi)) := show inU n lo hi = decide (n ≤ hi) by simp [inU, h1]
    have h1' : n ≥ lo := h1
    go_enter Tryd.func28, Tryd.ntmps28
    go_wp2
    go_ret
    rw [HI.out]
    exact ⟨rfl, rfl⟩
  · have HI : Hid (inU n lo hi = false) := show inU n lo hi = false by simp [inU, h1]
    go_enter Tryd.func28, Tryd.ntmps28
    go_wp2
    go_ret
    rw [HI.out]
    exact ⟨rfl, rfl⟩
theorem l1InU_is {n lo hi : Int} {b : Bool} (h : inU n lo hi = b) (w : World) : Calls Tryd.prog 28 #[.int .i64 n, .int .i64 lo, .int .i64 hi] w fun e w' => e = .returned (.bool b) ∧ w' = w := by
  rw [← h]; exact l1InU_any n lo hi w
end Go.Proofs.YtdjpeickokoclaaDoor
/-
  Keys.
-/
namespace Go.Proofs.YtdjpeickokoclaaDoor
open Go.RowKit
set_option linter.unusedVariables false
/-- A key. -/
def keyT (s : ByteArray) : Bool := if h : 1 ≤ s.size then decide (s.size ≤ 64) && ((s[s.size - 1].toNat : Int) != 0) else false
theorem keyT_none {s : ByteArray} (h : ¬ 1 ≤ s.size) : keyT s = false := dif_neg h
theorem keyT_long {s : ByteArray} (h : 64 < s.size) : keyT s = false := by
  have h1 : 1 ≤ s.size := by omega
  have h2 : ¬ s.size ≤ 64 := by omega
  simp [keyT, h1, h2]
theorem keyT_in {s : ByteArray} (h : 1 ≤ s.size) (h2 : s.size ≤ 64) (hh : s.size - 1 < s.size) : keyT s = ((s[s.size - 1].toNat : Int) != 0) := by
  simp [keyT, h, h2]
theorem listNil {s : ByteArray} (h : ¬ 1 ≤ s.size) : s.toList = [] := by
  rw [ByteArray.toList_eq]
  have : s.data.toList.length = s.size := rfl
  exact List.length_eq_zero_iff.1 (by omega)
theorem listSome {s : ByteArray} (h : 1 ≤ s.size) : ¬ s.toList = [] := by
  rw [ByteArray.toList_eq]
  intro e
  have h1 : s.data.toList.length = s.size := rfl
  rw [e] at h1
  simp at h1
  omega
set_option maxHeartbeats 400000 in
theorem keyOk_any (s : ByteArray) (w : World) (hs : s.size ≤ maxLen) : Calls Tryd.prog 29 #[.string s] w fun e w' => e = .returned (.bool (keyT s)) ∧ w' = w := by
  unfold maxLen at hs
  by_cases h1 : 1 ≤ s.size
  · have hne := listSome h1
    have hi : 1 ≤ (s.size : Int) ∧ (s.size : Int) - 1 < s.size := by omega
    by_cases h2 : s.size ≤ 64
    · have h2' : (s.size : Int) ≤ 64 := by omega
      have HK : Hid (∀ (hh : s.size - 1 < s.size), keyT s = ((s[s.size - 1].toNat : Int) != 0)) := keyT_in h1 h2
      clear h1 h2
      go_enter Tryd.func29, Tryd.ntmps29
      go_wp2
      go_ret
      rw [HK.out (by omega)]
      exact ⟨by simp [hne], rfl⟩
    · have h2' : 64 < (s.size : Int) := by omega
      have HK : Hid (keyT s = false) := keyT_long (by omega)
      clear h1 h2
      go_enter Tryd.func29, Tryd.ntmps29
      go_wp2
      go_ret
      rw [HK.out]
      exact ⟨rfl, rfl⟩
  · have hne := listNil h1
    have HK : Hid (keyT s = false) := keyT_none h1
    clear h1
    go_enter Tryd.func29, Tryd.ntmps29
    go_wp2
    go_ret
    rw [HK.out]
    exact ⟨by simp, rfl⟩
set_option maxHeartbeats 400000 in
theorem l6Key_any (s : ByteArray) (w : World) (hs : s.size ≤ maxLen) : Calls Tryd.prog 27 #[.string s] w fun e w' => e = .returned (.bool (keyT s)) ∧ w' = w := by
  unfold maxLen at hs
  cases hin : inU s.size 1 64 with
  | false =>
    have HK : Hid (keyT s = false) := by
      by_cases h1 : 1 ≤ s.size
      · refine keyT_long ?_
        simp [inU] at hin
        have := hin (by omega)
        omega
      · exact keyT_none h1
    go_enter Tryd.func27, Tryd.ntmps27
    go_wp2_with fail
    refine (l1InU_is hin _).mono ?_
    rintro e w1 ⟨rfl, rfl⟩
    go_wp2
    go_ret
    rw [HK.out]
    exact ⟨rfl, rfl⟩
  | true =>
    have h1 : 1 ≤ s.size ∧ s.size ≤ 64 := by simp [inU] at hin; omega
    have HK : Hid (∀ (hh : s.size - 1 < s.size), keyT s = ((s[s.size - 1].toNat : Int) != 0)) := keyT_in h1.1 h1.2
    have hi : 1 ≤ (s.size : Int) ∧ (s.size : Int) - 1 < s.size := by omega
    clear h1
    go_enter Tryd.func27, Tryd.ntmps27
    go_wp2_with fail
    refine (l1InU_is hin _).mono ?_
    rintro e w1 ⟨rfl, rfl⟩
    go_wp2
    go_ret
    rw [HK.out (by omega)]
    exact ⟨rfl, rfl⟩
end Go.Proofs.YtdjpeickokoclaaDoor
/-
  What the functions WordOk and l1Word tell of a text: whether it is a word.
-/
namespace Go.Proofs.YtdjpeickokoclaaDoor
open Go.RowKit
set_option linter.unusedVariables false
end Go.Proofs.YtdjpeickokoclaaDoor
