/-
  What impl.Far tells: how far two words are; -1 of others.
-/
import Derived.Test.YtcmajekdalcjeaaGreatGM6
import Derived.Test.YtcmajekdalcjeaaGreatW6
import Derived.Deep.RegionWith
namespace Go.Proofs.YtcmajekdalcjeaaGreat
open Go.RowKit
set_option linter.unusedVariables false
/-- How far two words are; -1 of others. -/
def farW (a b : ByteArray) : Int := if wok a = true ∧ wok b = true then far a b else -1
theorem wok_size {a : ByteArray} (h : wok a = true) : 1 ≤ a.size ∧ a.size ≤ 12 := by
  unfold wok at h
  simp only [Bool.and_eq_true, decide_eq_true_eq] at h
  omega
end Go.Proofs.YtcmajekdalcjeaaGreat
