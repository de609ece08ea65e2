/-
  What the functions Beginning do: of two texts they hand back the beginning of the first that is as long as their common beginning.
-/
import Derived.Test.YtaldbaapfdpbgaaProg
import Derived.Test.YtaldbaapfdpbgaaM2
import Derived.WalkKit
import Derived.WalkSpells
import Derived.WalkLawsBesides
import Derived.Deep.QuietTactic
import Derived.BigQuiet
namespace Go.Proofs.Ytaldbaapfdpbgaa
open Go.RowKit
set_option linter.unusedVariables false
set_option maxHeartbeats 400000 in
theorem beginning_any (a b : ByteArray) (w : World) (ha : a.size ≤ maxLen) (hb : b.size ≤ maxLen) :
    Calls Try.prog 27 #[.string a, .string b] w fun e w' => e = .returned (.string (a.extract 0 (cpl a.data.toList b.data.toList))) ∧ Below w.heap.size w w' := by
  unfold maxLen at ha hb
  go_enter Try.func27, Try.ntmps27
  go_wp2
  go_loopw [5] (fun i wr => ∃ k : Nat, k ≤ a.size ∧ k ≤ b.size ∧ i = .int .i64 k ∧ a.data.toList.take k = b.data.toList.take k ∧ Below w.heap.size w wr) (fun i _ => a.size - (intOf i).toNat)
  case atStart => exact ⟨0, Nat.zero_le _, Nat.zero_le _, rfl, rfl, Below.refl _ _⟩
  case round =>
    obtain ⟨k, hka, hkb, rfl, ht, hbel⟩ := hrel
    have HT : Hid (a.data.toList.take k = b.data.toList.take k) := ht
    clear ht
    by_cases h1 : (k : Int) < (a.size : Int)
    · by_cases h2 : (k : Int) < (b.size : Int)
      · by_cases h3 : (a[k]'(by omega)) = (b[k]'(by omega))
        · have HN : Hid (a.data.toList.take (k + 1) = b.data.toList.take (k + 1)) := by
            rw [take_snoc a k (by omega), take_snoc b k (by omega), HT.out, h3]; exact rfl
          go_wp2
          go_quiet (fail)
          go_wp2
          go_roundw
          case rel => exact ⟨k + 1, by omega, by omega, by go_num, HN.out, below_drewN hbel _⟩
          case measure => simp [intOf]; omega
        · have HC : Hid (cpl a.data.toList b.data.toList = k) := cpl_eq k _ _ hka hkb HT.out (.inr (.inr (by rw [getElem?_data a k (by omega), getElem?_data b k (by omega)]; simpa using h3)))
          have h4 : (((a[k]'(by omega)).toNat : Int) == ((b[k]'(by omega)).toNat : Int)) = false := by
            rw [beq_eq_false_iff_ne]; intro e; exact h3 (UInt8.toNat_inj.1 (by omega))
          clear h3
          go_wp2
          go_quiet (fail)
          go_wp2
          go_ret
          rw [HC.out]
          exact ⟨rfl, below_drewN hbel _⟩
      · have HC : Hid (cpl a.data.toList b.data.toList = k) := cpl_eq k _ _ hka hkb HT.out (.inr (.inl (by rw [data_length]; omega)))
        have h2' : decide (k < b.size) = false := by simpa using h2
        clear h2
        go_wp2
        go_quiet (fail)
        go_wp2
        go_ret
        rw [HC.out]
        exact ⟨rfl, below_drewN hbel _⟩
    · have HC : Hid (cpl a.data.toList b.data.toList = k) := cpl_eq k _ _ hka hkb HT.out (.inl (by rw [data_length]; omega))
      have h1' : decide (k < a.size) = false := by simpa using h1
      clear h1
      go_wp2
      go_quiet (fail)
      go_wp2
      go_ret
      rw [HC.out]
      exact ⟨rfl, below_drewN hbel _⟩
set_option maxHeartbeats 400000 in
theorem specBeginning_any (a b : ByteArray) (w : World) (ha : a.size ≤ maxLen) (hb : b.size ≤ maxLen) :
    Calls Try.prog 28 #[.string a, .string b] w fun e w' => e = .returned (.string (a.extract 0 (cpl a.data.toList b.data.toList))) ∧ Below w.heap.size w w' := by
  unfold maxLen at ha hb
  go_enter Try.func28, Try.ntmps28
  go_wp2
  go_loopw [5] (fun i wr => ∃ k : Nat, k ≤ a.size ∧ k ≤ b.size ∧ i = .int .i64 k ∧ a.data.toList.take k = b.data.toList.take k ∧ Below w.heap.size w wr) (fun i _ => a.size - (intOf i).toNat)
  case atStart => exact ⟨0, Nat.zero_le _, Nat.zero_le _, rfl, rfl, Below.refl _ _⟩
  case round =>
    obtain ⟨k, hka, hkb, rfl, ht, hbel⟩ := hrel
    have HT : Hid (a.data.toList.take k = b.data.toList.take k) := ht
    clear ht
    by_cases h1 : (k : Int) < (a.size : Int)
    · by_cases h2 : (k : Int) < (b.size : Int)
      · by_cases h3 : (a[k]'(by omega)) = (b[k]'(by omega))
        · have HN : Hid (a.data.toList.take (k + 1) = b.data.toList.take (k + 1)) := by
            rw [take_snoc a k (by omega), take_snoc b k (by omega), HT.out, h3]; exact rfl
          go_wp2
          go_quiet (fail)
          go_wp2
          go_roundw
          case rel => exact ⟨k + 1, by omega, by omega, by go_num, HN.out, below_drewN hbel _⟩
          case measure => simp [intOf]; omega
        · have HC : Hid (cpl a.data.toList b.data.toList = k) := cpl_eq k _ _ hka hkb HT.out (.inr (.inr (by rw [getElem?_data a k (by omega), getElem?_data b k (by omega)]; simpa using h3)))
          have h4 : (((a[k]'(by omega)).toNat : Int) == ((b[k]'(by omega)).toNat : Int)) = false := by
            rw [beq_eq_false_iff_ne]; intro e; exact h3 (UInt8.toNat_inj.1 (by omega))
          clear h3
          go_wp2
          go_quiet (fail)
          go_wp2
          go_ret
          rw [HC.out]
          exact ⟨rfl, below_drewN hbel _⟩
      · have HC : Hid (cpl a.data.toList b.data.toList = k) := cpl_eq k _ _ hka hkb HT.out (.inr (.inl (by rw [data_length]; omega)))
        have h2' : decide (k < b.size) = false := by simpa using h2
        clear h2
        go_wp2
        go_quiet (fail)
        go_wp2
        go_ret
        rw [HC.out]
        exact ⟨rfl, below_drewN hbel _⟩
    · have HC : Hid (cpl a.data.toList b.data.toList = k) := cpl_eq k _ _ hka hkb HT.out (.inl (by rw [data_length]; omega))
      have h1' : decide (k < a.size) = false := by simpa using h1
      clear h1
      go_wp2
      go_quiet (fail)
      go_wp2
      go_ret
      rw [HC.out]
      exact ⟨rfl, below_drewN hbel _⟩
end Go.Proofs.Ytaldbaapfdpbgaa
