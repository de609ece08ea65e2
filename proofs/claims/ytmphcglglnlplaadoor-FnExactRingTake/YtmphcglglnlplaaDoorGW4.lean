/-
  What small functions on texts tell: whether one begins or ends with another one, is a flag, is a part of an affix.
-/
import Derived.Test.YtmphcglglnlplaaDoorProg
import Derived.Test.YtmphcglglnlplaaDoorGW2
import Derived.Test.YtmphcglglnlplaaDoorGM3
import Derived.Deep.QuietTactic
import Derived.BigQuiet
import Derived.WalkKit
import Derived.WalkSpells
import Derived.WalkLawsBesides
namespace Go.Proofs.YtmphcglglnlplaaDoor
open Go.RowKit
set_option linter.unusedVariables false
/-- A text begins, or ends, with another one. -/
def begT (s p : ByteArray) : Bool := decide (p.size ≤ s.size) && ((s.extract 0 p.size).toList == p.toList)
def endT (s p : ByteArray) : Bool := decide (p.size ≤ s.size) && ((s.extract (s.size - p.size) s.size).toList == p.toList)
/-- A flag: a capital letter. -/
def flagT (s : ByteArray) : Bool := decide ((s.size : Int) = 1) && inr 65 90 s.data.toList
/-- Letters, at most four. -/
def partT (s : ByteArray) : Bool := inr 97 122 s.data.toList && decide ((s.size : Int) ≤ 4)
end Go.Proofs.YtmphcglglnlplaaDoor
/-
  What endTurned tells: whether the last two letters of two texts are each other's turned.
-/
namespace Go.Proofs.YtmphcglglnlplaaDoor
open Go.RowKit
set_option linter.unusedVariables false
theorem u8_int (a b : UInt8) : (((a.toNat : Int) == (b.toNat : Int)) = (a == b)) := by
  rw [Bool.eq_iff_iff]
  simp only [beq_iff_eq]
  constructor
  · intro h; exact UInt8.toNat_inj.1 (by omega)
  · rintro rfl; rfl
theorem tr_eq (a b : ByteArray) (i k : Nat) (ha : i < a.size) (hb : k < b.size) (hi : 0 < i) (hk : 0 < k) :
    tr (lt a) (lt b) i k = ((a[i] == b[k - 1]) && (a[i - 1] == b[k])) := by
  unfold tr
  rw [lt_get a i ha, lt_get b k hb, lt_get a (i - 1) (by omega), lt_get b (k - 1) (by omega)]
  simp [hi, hk]
theorem tr_first (a b : ByteArray) (k : Nat) : tr (lt a) (lt b) 0 k = false := by simp [tr]
theorem tr_first' (a b : ByteArray) (i : Nat) : tr (lt a) (lt b) i 0 = false := by simp [tr]
/-- The last two letters, by the texts' own lengths. -/
def turnedEnds (a b : ByteArray) : Bool :=
  if h : 1 < a.size ∧ 1 < b.size then (a[a.size - 1]'(by omega) == b[b.size - 2]'(by omega)) && (a[a.size - 2]'(by omega) == b[b.size - 1]'(by omega)) else false
theorem turnedEnds_eq (a b : ByteArray) (i k : Nat) (ha : a.size = i + 1) (hb : b.size = k + 1) : turnedEnds a b = tr (lt a) (lt b) i k := by
  unfold turnedEnds
  split
  · next h =>
    rw [tr_eq a b i k (by omega) (by omega) (by omega) (by omega)]
    have e1 : a.size - 1 = i := by omega
    have e2 : b.size - 2 = k - 1 := by omega
    have e3 : a.size - 2 = i - 1 := by omega
    have e4 : b.size - 1 = k := by omega
    simp only [e1, e2, e3, e4]
  · next h =>
    have : i = 0 ∨ k = 0 := by omega
    rcases this with rfl | rfl
    · rw [tr_first]
    · rw [tr_first']
end Go.Proofs.YtmphcglglnlplaaDoor
