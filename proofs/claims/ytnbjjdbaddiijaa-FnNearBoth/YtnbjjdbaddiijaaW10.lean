/-
  What Far and Within tell, of the program and of its model; the laws FnExactFar and FnExactWithin.
-/
import Derived.Test.YtnbjjdbaddiijaaW7
import Derived.Test.YtnbjjdbaddiijaaW9
namespace Go.Proofs.Ytnbjjdbaddiijaa
open Go.RowKit
set_option linter.unusedVariables false
theorem ret_int {k : IntKind} {a b : Int} (h : a = b) : Ending.returned (.int k a) = .returned (.int k b) := by rw [h]
set_option maxHeartbeats 400000 in
theorem specFar_any (a b : ByteArray) (w : World) (ma : a.size ≤ maxLen) (mb : b.size ≤ maxLen) :
    Calls Try.prog 11 #[.string a, .string b] w fun e w' => e = .returned (.int .i64 (farW a b)) ∧ Below w.heap.size w w' := by
  cases h1 : wok a with
  | false =>
    have HF : Hid (farW a b = -1) := if_neg (by simp [h1])
    go_enter Try.func11, Try.ntmps11
    go_wp2_with (go_at_call 19; refine (l1Word_any _ _ (by assumption)).mono ?_; rintro e w' ⟨rfl, rfl⟩)
    go_ret
    rw [HF.out]
    exact ⟨rfl, Below.refl _ _⟩
  | true =>
    cases h2 : wok b with
    | false =>
      have HF : Hid (farW a b = -1) := if_neg (by simp [h2])
      go_enter Try.func11, Try.ntmps11
      go_wp2_with (go_at_call 19; refine (l1Word_any _ _ (by assumption)).mono ?_; rintro e w' ⟨rfl, rfl⟩)
      go_ret
      rw [HF.out]
      exact ⟨rfl, Below.refl _ _⟩
    | true =>
      have HF : Hid (farW a b = far a b) := if_pos ⟨h1, h2⟩
      have sa := (wok_size h1).2
      have sb := (wok_size h2).2
      go_enter Try.func11, Try.ntmps11
      go_wp2_with (first | (go_at_call 19; refine (l1Word_any _ _ (by assumption)).mono ?_; rintro e w' ⟨rfl, rfl⟩) | (go_at_call 23; refine (l1Far_any _ _ _ sa sb).mono ?_; rintro e w1 ⟨rfl, hb1⟩))
      go_ret
      rw [HF.out]
      exact ⟨rfl, hb1⟩
/-- Whether two texts are words that are at most so far from each other. -/
def within (a b : ByteArray) (n : Int) : Bool := wok a && (wok b && decide (far a b ≤ n))
set_option maxHeartbeats 400000 in
theorem implWithin_any (a b : ByteArray) (n : Int) (w : World) (ma : a.size ≤ maxLen) (mb : b.size ≤ maxLen) :
    Calls Try.prog 12 #[.string a, .string b, .int .i64 n] w fun e w' => e = .returned (.bool (within a b n)) ∧ Below w.heap.size w w' := by
  cases h1 : wok a with
  | false =>
    have HF : Hid (within a b n = false) := by simp [within, h1]; exact trivial
    go_enter Try.func12, Try.ntmps12
    go_wp2_with (go_at_call 16; refine (wordOk_any _ _ (by assumption)).mono ?_; rintro e w' ⟨rfl, rfl⟩)
    go_ret
    rw [HF.out]
    exact ⟨rfl, Below.refl _ _⟩
  | true =>
    cases h2 : wok b with
    | false =>
      have HF : Hid (within a b n = false) := by simp [within, h2]; exact trivial
      go_enter Try.func12, Try.ntmps12
      go_wp2_with (go_at_call 16; refine (wordOk_any _ _ (by assumption)).mono ?_; rintro e w' ⟨rfl, rfl⟩)
      go_ret
      rw [HF.out]
      exact ⟨rfl, Below.refl _ _⟩
    | true =>
      have HF : Hid (within a b n = decide (far a b ≤ n)) := by simp [within, h1, h2]; exact trivial
      have HG : Hid (farW a b = far a b) := if_pos ⟨h1, h2⟩
      go_enter Try.func12, Try.ntmps12
      go_wp2_with (first | (go_at_call 16; refine (wordOk_any _ _ (by assumption)).mono ?_; rintro e w' ⟨rfl, rfl⟩) | (go_at_call 9; refine (implFar_any _ _ _ ma mb).mono ?_; rintro e w1 ⟨rfl, hb1⟩; rw [HG.out]))
      go_ret
      rw [HF.out]
      exact ⟨rfl, hb1⟩
end Go.Proofs.Ytnbjjdbaddiijaa
