/-
  The laws FnFar, FnBeginning and FnWithin return true.
-/
import Derived.Test.YthikcililececaaM7
import Derived.Test.YthikcililececaaW15
namespace Go.Proofs.Ythikcililececaa
open Go.RowKit
set_option linter.unusedVariables false
theorem farW_neg (a b : ByteArray) (h : farW a b < 0) : ¬ (wok a = true ∧ wok b = true) := by
  intro hw
  unfold farW at h
  rw [if_pos hw] at h
  have := D_pos (lt a) (lt b) a.size b.size
  unfold far at h
  omega
theorem farW_word (a b : ByteArray) (h : ¬ farW a b < 0) : farW a b = far a b := by
  unfold farW at *
  split
  · rfl
  · next hn => rw [if_neg hn] at h; omega
theorem far_bounds (a b : ByteArray) : far a b ≤ max (a.size : Int) b.size ∧ (a.size : Int) - b.size ≤ far a b ∧ (b.size : Int) - a.size ≤ far a b ∧ 0 ≤ far a b := by
  have h1 := D_max (lt a) (lt b) _ a.size b.size (Nat.le_refl _)
  have h2 := D_ge (lt a) (lt b) _ a.size b.size (Nat.le_refl _)
  have h3 := D_pos (lt a) (lt b) a.size b.size
  unfold far
  exact ⟨h1, h2.1, h2.2, h3⟩
theorem far_same (a b : ByteArray) : (far a b == 0) = (a.toList == b.toList) := by
  rw [Bool.eq_iff_iff]
  simp only [beq_iff_eq]
  rw [far_eq_zero]
  exact ⟨fun h => by rw [h], toList_inj'⟩
theorem within_more (a b : ByteArray) (n : Int) (h : within a b n = true) : within a b (n + 1) = true := by
  unfold within at *
  simp only [Bool.and_eq_true, decide_eq_true_eq] at *
  exact ⟨h.1, h.2.1, by omega⟩
theorem within_self (a : ByteArray) (h : wok a = true) : within a a 0 = true := by
  unfold within
  have := (far_eq_zero a a).2 rfl
  simp [h, this]
end Go.Proofs.Ythikcililececaa
