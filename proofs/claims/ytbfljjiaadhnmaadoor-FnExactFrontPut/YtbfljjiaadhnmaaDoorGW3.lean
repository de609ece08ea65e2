/-
  What small functions on texts tell: whether one begins or ends with another one, is a flag, is a part of an affix.
-/
import Derived.Test.YtbfljjiaadhnmaaDoorProg
import Derived.Test.YtbfljjiaadhnmaaDoorGW2
import Derived.Test.YtbfljjiaadhnmaaDoorGM2
import Derived.Deep.QuietTactic
import Derived.BigQuiet
import Derived.WalkKit
import Derived.WalkSpells
import Derived.WalkLawsBesides
namespace Go.Proofs.YtbfljjiaadhnmaaDoor
open Go.RowKit
set_option linter.unusedVariables false
/-- A text begins, or ends, with another one. -/
def begT (s p : ByteArray) : Bool := decide (p.size ≤ s.size) && ((s.extract 0 p.size).toList == p.toList)
def endT (s p : ByteArray) : Bool := decide (p.size ≤ s.size) && ((s.extract (s.size - p.size) s.size).toList == p.toList)
/-- A flag: a capital letter. -/
def flagT (s : ByteArray) : Bool := decide ((s.size : Int) = 1) && inr 65 90 s.data.toList
/-- Letters, at most four. -/
def partT (s : ByteArray) : Bool := inr 97 122 s.data.toList && decide ((s.size : Int) ≤ 4)
end Go.Proofs.YtbfljjiaadhnmaaDoor
/-
  What the functions Beginning do: of two texts they hand back the beginning of the first that is as long as their common beginning.
-/
namespace Go.Proofs.YtbfljjiaadhnmaaDoor
open Go.RowKit
set_option linter.unusedVariables false
set_option maxHeartbeats 400000 in
theorem beginning_any (a b : ByteArray) (w : World) (ha : a.size ≤ maxLen) (hb : b.size ≤ maxLen) :
    Calls Tryd.prog 13 #[.string a, .string b] w fun e w' => e = .returned (.string (a.extract 0 (cpl a.data.toList b.data.toList))) ∧ Below w.heap.size w w' := by
  unfold maxLen at ha hb
  go_enter Tryd.func13, Tryd.ntmps13
  go_wp2
  go_loopw [5] (fun i wr => ∃ k : Nat, k ≤ a.size ∧ k ≤ b.size ∧ i = .int .i64 k ∧ a.data.toList.take k = b.data.toList.take k ∧ Below w.heap.size w wr) (fun i _ => a.size - (intOf i).toNat)
  case atStart => exact ⟨0, Nat.zero_le _, Nat.zero_le _, rfl, rfl, Below.refl _ _⟩
  case round =>
    obtain ⟨k, hka, hkb, rfl, ht, hbel⟩ := hrel
    have HT : Hid (a.data.toList.take k = b.data.toList.take k) := ht
    clear ht
    by_cases h1 : (k : Int) < (a.size : Int)
    · by_cases h2 : (k : Int) < (b.size : Int)
      · by_cases h3 : (a[k]'(by omega)) = (b[k]'(by omega))
        · have HN : Hid (a.data.toList.take (k + 1) = b.data.toList.take (k + 1)) := by
            rw [take_snoc a k (by omega), take_snoc b k (by omega), HT.out, h3]; exact rfl
          go_wp2
          go_quiet (fail)
          go_wp2
          go_roundw
          case rel => exact ⟨k + 1, by omega, by omega, by go_num, HN.out, below_drewN hbel _⟩
          case measure => simp [intOf]; omega
        · have HC : Hid (cpl a.data.toList b.data.toList = k) := cpl_eq k _ _ hka hkb HT.out (.inr (.inr (by rw [getElem?_data a k (by omega), getElem?_data b k (by omega)]; simpa using h3)))
          have h4 : (((a[k]'(by omega)).toNat : Int) == ((b[k]'(by omega)).toNat : Int)) = false := by
            rw [beq_eq_false_iff_ne]; intro e; exact h3 (UInt8.toNat_inj.1 (by omega))
          clear h3
          go_wp2
          go_quiet (fail)
          go_wp2
          go_ret
          rw [HC.out]
          exact ⟨rfl, below_drewN hbel _⟩
      · have HC : Hid (cpl a.data.toList b.data.toList = k) := cpl_eq k _ _ hka hkb HT.out (.inr (.inl (by rw [data_length]; omega)))
        have h2' : decide (k < b.size) = false := by simpa using h2
        clear h2
        go_wp2
        go_quiet (fail)
        go_wp2
        go_ret
        rw [HC.out]
        exact ⟨rfl, below_drewN hbel _⟩
    · have HC : Hid (cpl a.data.toList b.data.toList = k) := cpl_eq k _ _ hka hkb HT.out (.inl (by rw [data_length]; omega))
      have h1' : decide (k < a.size) = false := by simpa using h1
      clear h1
      go_wp2
      go_quiet (fail)
      go_wp2
      go_ret
      rw [HC.out]
      exact ⟨rfl, below_drewN hbel _⟩
set_option maxHeartbeats 400000 in
theorem specBeginning_any (a b : ByteArray) (w : World) (ha : a.size ≤ maxLen) (hb : b.size ≤ maxLen) :
    Calls Tryd.prog 10 #[.string a, .string b] w fun e w' => e = .returned (.string (a.extract 0 (cpl a.data.toList b.data.toList))) ∧ Below w.heap.size w w' := by
  unfold maxLen at ha hb
  go_enter Tryd.func10, Tryd.ntmps10
  go_wp2
  go_loopw [5] (fun i wr => ∃ k : Nat, k ≤ a.size ∧ k ≤ b.size ∧ i = .int .i64 k ∧ a.data.toList.take k = b.data.toList.take k ∧ Below w.heap.size w wr) (fun i _ => a.size - (intOf i).toNat)
  case atStart => exact ⟨0, Nat.zero_le _, Nat.zero_le _, rfl, rfl, Below.refl _ _⟩
  case round =>
    obtain ⟨k, hka, hkb, rfl, ht, hbel⟩ := hrel
    have HT : Hid (a.data.toList.take k = b.data.toList.take k) := ht
    clear ht
    by_cases h1 : (k : Int) < (a.size : Int)
    · by_cases h2 : (k : Int) < (b.size : Int)
      · by_cases h3 : (a[k]'(by omega)) = (b[k]'(by omega))
        · have HN : Hid (a.data.toList.take (k + 1) = b.data.toList.take (k + 1)) := by
            rw [take_snoc a k (by omega), take_snoc b k (by omega), HT.out, h3]; exact rfl
          go_wp2
          go_quiet (fail)
          go_wp2
          go_roundw
          case rel => exact ⟨k + 1, by omega, by omega, by go_num, HN.out, below_drewN hbel _⟩
          case measure => simp [intOf]; omega
        · have HC : Hid (cpl a.data.toList b.data.toList = k) := cpl_eq k _ _ hka hkb HT.out (.inr (.inr (by rw [getElem?_data a k (by omega), getElem?_data b k (by omega)]; simpa using h3)))
          have h4 : (((a[k]'(by omega)).toNat : Int) == ((b[k]'(by omega)).toNat : Int)) = false := by
            rw [beq_eq_false_iff_ne]; intro e; exact h3 (UInt8.toNat_inj.1 (by omega))
          clear h3
          go_wp2
          go_quiet (fail)
          go_wp2
          go_ret
          rw [HC.out]
          exact ⟨rfl, below_drewN hbel _⟩
      · have HC : Hid (cpl a.data.toList b.data.toList = k) := cpl_eq k _ _ hka hkb HT.out (.inr (.inl (by rw [data_length]; omega)))
        have h2' : decide (k < b.size) = false := by simpa using h2
        clear h2
        go_wp2
        go_quiet (fail)
        go_wp2
        go_ret
        rw [HC.out]
        exact ⟨rfl, below_drewN hbel _⟩
    · have HC : Hid (cpl a.data.toList b.data.toList = k) := cpl_eq k _ _ hka hkb HT.out (.inl (by rw [data_length]; omega))
      have h1' : decide (k < a.size) = false := by simpa using h1
      clear h1
      go_wp2
      go_quiet (fail)
      go_wp2
      go_ret
      rw [HC.out]
      exact ⟨rfl, below_drewN hbel _⟩
end Go.Proofs.YtbfljjiaadhnmaaDoor
