/-
  What Far and Within tell, of the program and of its model; the laws FnExactFar and FnExactWithin.
-/
import Derived.Test.YtaldbaapfdpbgaaW7
import Derived.Test.YtaldbaapfdpbgaaW9
namespace Go.Proofs.Ytaldbaapfdpbgaa
open Go.RowKit
set_option linter.unusedVariables false
theorem ret_int {k : IntKind} {a b : Int} (h : a = b) : Ending.returned (.int k a) = .returned (.int k b) := by rw [h]
set_option maxHeartbeats 400000 in
theorem specFar_any (a b : ByteArray) (w : World) (ma : a.size ≤ maxLen) (mb : b.size ≤ maxLen) :
    Calls Try.prog 21 #[.string a, .string b] w fun e w' => e = .returned (.int .i64 (farW a b)) ∧ Below w.heap.size w w' := by
  cases h1 : wok a with
  | false =>
    have HF : Hid (farW a b = -1) := if_neg (by simp [h1])
    go_enter Try.func21, Try.ntmps21
    go_wp2_with (go_at_call 57; refine (l1Word_any _ _ (by assumption)).mono ?_; rintro e w' ⟨rfl, rfl⟩)
    go_ret
    rw [HF.out]
    exact ⟨rfl, Below.refl _ _⟩
  | true =>
    cases h2 : wok b with
    | false =>
      have HF : Hid (farW a b = -1) := if_neg (by simp [h2])
      go_enter Try.func21, Try.ntmps21
      go_wp2_with (go_at_call 57; refine (l1Word_any _ _ (by assumption)).mono ?_; rintro e w' ⟨rfl, rfl⟩)
      go_ret
      rw [HF.out]
      exact ⟨rfl, Below.refl _ _⟩
    | true =>
      have HF : Hid (farW a b = far a b) := if_pos ⟨h1, h2⟩
      have sa := (wok_size h1).2
      have sb := (wok_size h2).2
      go_enter Try.func21, Try.ntmps21
      go_wp2_with (first | (go_at_call 57; refine (l1Word_any _ _ (by assumption)).mono ?_; rintro e w' ⟨rfl, rfl⟩) | (go_at_call 61; refine (l1Far_any _ _ _ sa sb).mono ?_; rintro e w1 ⟨rfl, hb1⟩))
      go_ret
      rw [HF.out]
      exact ⟨rfl, hb1⟩
/-- Whether two texts are words that are at most so far from each other. -/
def within (a b : ByteArray) (n : Int) : Bool := wok a && (wok b && decide (far a b ≤ n))
set_option maxHeartbeats 400000 in
theorem specWithin_any (a b : ByteArray) (n : Int) (w : World) (ma : a.size ≤ maxLen) (mb : b.size ≤ maxLen) :
    Calls Try.prog 31 #[.string a, .string b, .int .i64 n] w fun e w' => e = .returned (.bool (within a b n)) ∧ Below w.heap.size w w' := by
  cases h1 : wok a with
  | false =>
    have HF : Hid (within a b n = false) := by simp [within, h1]; exact trivial
    go_enter Try.func31, Try.ntmps31
    go_wp2_with (go_at_call 57; refine (l1Word_any _ _ (by assumption)).mono ?_; rintro e w' ⟨rfl, rfl⟩)
    go_ret
    rw [HF.out]
    exact ⟨rfl, Below.refl _ _⟩
  | true =>
    cases h2 : wok b with
    | false =>
      have HF : Hid (within a b n = false) := by simp [within, h2]; exact trivial
      go_enter Try.func31, Try.ntmps31
      go_wp2_with (go_at_call 57; refine (l1Word_any _ _ (by assumption)).mono ?_; rintro e w' ⟨rfl, rfl⟩)
      go_ret
      rw [HF.out]
      exact ⟨rfl, Below.refl _ _⟩
    | true =>
      have HF : Hid (within a b n = decide (far a b ≤ n)) := by simp [within, h1, h2]; exact trivial
      have sa := (wok_size h1).2
      have sb := (wok_size h2).2
      go_enter Try.func31, Try.ntmps31
      go_wp2_with (first | (go_at_call 57; refine (l1Word_any _ _ (by assumption)).mono ?_; rintro e w' ⟨rfl, rfl⟩) | (go_at_call 61; refine (l1Far_any _ _ _ sa sb).mono ?_; rintro e w1 ⟨rfl, hb1⟩))
      go_ret
      rw [HF.out]
      exact ⟨rfl, hb1⟩
set_option maxHeartbeats 400000 in
theorem implWithin_any (a b : ByteArray) (n : Int) (w : World) (ma : a.size ≤ maxLen) (mb : b.size ≤ maxLen) :
    Calls Try.prog 30 #[.string a, .string b, .int .i64 n] w fun e w' => e = .returned (.bool (within a b n)) ∧ Below w.heap.size w w' := by
  cases h1 : wok a with
  | false =>
    have HF : Hid (within a b n = false) := by simp [within, h1]; exact trivial
    go_enter Try.func30, Try.ntmps30
    go_wp2_with (go_at_call 17; refine (wordOk_any _ _ (by assumption)).mono ?_; rintro e w' ⟨rfl, rfl⟩)
    go_ret
    rw [HF.out]
    exact ⟨rfl, Below.refl _ _⟩
  | true =>
    cases h2 : wok b with
    | false =>
      have HF : Hid (within a b n = false) := by simp [within, h2]; exact trivial
      go_enter Try.func30, Try.ntmps30
      go_wp2_with (go_at_call 17; refine (wordOk_any _ _ (by assumption)).mono ?_; rintro e w' ⟨rfl, rfl⟩)
      go_ret
      rw [HF.out]
      exact ⟨rfl, Below.refl _ _⟩
    | true =>
      have HF : Hid (within a b n = decide (far a b ≤ n)) := by simp [within, h1, h2]; exact trivial
      have HG : Hid (farW a b = far a b) := if_pos ⟨h1, h2⟩
      go_enter Try.func30, Try.ntmps30
      go_wp2_with (first | (go_at_call 17; refine (wordOk_any _ _ (by assumption)).mono ?_; rintro e w' ⟨rfl, rfl⟩) | (go_at_call 20; refine (implFar_any _ _ _ ma mb).mono ?_; rintro e w1 ⟨rfl, hb1⟩; rw [HG.out]))
      go_ret
      rw [HF.out]
      exact ⟨rfl, hb1⟩
end Go.Proofs.Ytaldbaapfdpbgaa
