/-
  What AffixOk tells, of the program and of its model.
-/
import Derived.Test.YthedglgljehmgaaGreatDoorGW4
import Derived.Deep.RegionHeld3
import Derived.Lib.SmallJoins
import Derived.Deep.WholeRow
namespace Go.Proofs.YthedglgljehmgaaGreatDoor
open Go.RowKit
set_option linter.unusedVariables false
/-- An affix: its flag, its side, what is taken away, what is put there, and when. -/
structure Aff where
  flag : ByteArray
  front : Bool
  strip : ByteArray
  add : ByteArray
  wh : ByteArray
/-- As a value, and as cells. -/
def Aff.cells (a : Aff) : Array Value := #[.string a.flag, .bool a.front, .string a.strip, .string a.add, .string a.wh]
/-- Each text has a size that a machine can hold. -/
def Aff.fits (a : Aff) : Prop := a.flag.size ≤ maxLen ∧ a.strip.size ≤ maxLen ∧ a.add.size ≤ maxLen ∧ a.wh.size ≤ maxLen
def affOk (a : Aff) : Bool := flagT a.flag && (partT a.strip && (partT a.add && (partT a.wh && (if a.front then begT a.wh a.strip else endT a.wh a.strip))))
theorem letters4_any (s : ByteArray) (w : World) (hs : s.size ≤ maxLen) :
    Calls Tryz.prog 100 #[.string s, .int .i64 4] w fun e w' => e = .returned (.bool (partT s)) ∧ w' = w := letters_any s 4 w hs
set_option maxHeartbeats 1000000 in
theorem specAffixOk_any (a : Aff) (w : World) (h : a.fits) :
    Calls Tryz.prog 85 #[.agg a.cells] w fun e w' => e = .returned (.bool (affOk a)) ∧ Below w.heap.size w w' := by
  obtain ⟨f, fr, st, ad, wh⟩ := a
  obtain ⟨hf, hst, had, hwh⟩ := h
  simp only at hf hst had hwh
  unfold Aff.cells
  cases h1 : flagT f with
  | false =>
    have HA : Hid (affOk ⟨f, fr, st, ad, wh⟩ = false) := show affOk ⟨f, fr, st, ad, wh⟩ = false by simp [affOk, h1]
    go_enter Tryz.func85, Tryz.ntmps85
    go_wp2_with (first | (go_at_call 83; refine (l2Flag_any _ _ hf).mono ?_; rintro e w' ⟨rfl, rfl⟩) | (go_at_call 100; refine (letters4_any _ _ (by assumption)).mono ?_; rintro e w' ⟨rfl, rfl⟩) | (go_at_call 101; refine (l2Begins_any _ _ _ (by assumption) (by assumption)).mono ?_; rintro e w' ⟨rfl, rfl⟩) | (go_at_call 102; refine (l2Ends_any _ _ _ (by assumption) (by assumption)).mono ?_; rintro e w' ⟨rfl, rfl⟩))
    go_ret
    rw [HA.out]
    exact ⟨rfl, (Below.refl _ _).alloc (Nat.le_refl _) _⟩
  | true =>
    cases h2 : partT st with
    | false =>
      have HA : Hid (affOk ⟨f, fr, st, ad, wh⟩ = false) := show affOk ⟨f, fr, st, ad, wh⟩ = false by simp [affOk, h1, h2]
      go_enter Tryz.func85, Tryz.ntmps85
      go_wp2_with (first | (go_at_call 83; refine (l2Flag_any _ _ hf).mono ?_; rintro e w' ⟨rfl, rfl⟩) | (go_at_call 100; refine (letters4_any _ _ (by assumption)).mono ?_; rintro e w' ⟨rfl, rfl⟩) | (go_at_call 101; refine (l2Begins_any _ _ _ (by assumption) (by assumption)).mono ?_; rintro e w' ⟨rfl, rfl⟩) | (go_at_call 102; refine (l2Ends_any _ _ _ (by assumption) (by assumption)).mono ?_; rintro e w' ⟨rfl, rfl⟩))
      go_ret
      rw [HA.out]
      exact ⟨rfl, (Below.refl _ _).alloc (Nat.le_refl _) _⟩
    | true =>
      cases h3 : partT ad with
      | false =>
        have HA : Hid (affOk ⟨f, fr, st, ad, wh⟩ = false) := show affOk ⟨f, fr, st, ad, wh⟩ = false by simp [affOk, h1, h2, h3]
        go_enter Tryz.func85, Tryz.ntmps85
        go_wp2_with (first | (go_at_call 83; refine (l2Flag_any _ _ hf).mono ?_; rintro e w' ⟨rfl, rfl⟩) | (go_at_call 100; refine (letters4_any _ _ (by assumption)).mono ?_; rintro e w' ⟨rfl, rfl⟩) | (go_at_call 101; refine (l2Begins_any _ _ _ (by assumption) (by assumption)).mono ?_; rintro e w' ⟨rfl, rfl⟩) | (go_at_call 102; refine (l2Ends_any _ _ _ (by assumption) (by assumption)).mono ?_; rintro e w' ⟨rfl, rfl⟩))
        go_ret
        rw [HA.out]
        exact ⟨rfl, (Below.refl _ _).alloc (Nat.le_refl _) _⟩
      | true =>
        cases h4 : partT wh with
        | false =>
          have HA : Hid (affOk ⟨f, fr, st, ad, wh⟩ = false) := show affOk ⟨f, fr, st, ad, wh⟩ = false by simp [affOk, h1, h2, h3, h4]
          go_enter Tryz.func85, Tryz.ntmps85
          go_wp2_with (first | (go_at_call 83; refine (l2Flag_any _ _ hf).mono ?_; rintro e w' ⟨rfl, rfl⟩) | (go_at_call 100; refine (letters4_any _ _ (by assumption)).mono ?_; rintro e w' ⟨rfl, rfl⟩) | (go_at_call 101; refine (l2Begins_any _ _ _ (by assumption) (by assumption)).mono ?_; rintro e w' ⟨rfl, rfl⟩) | (go_at_call 102; refine (l2Ends_any _ _ _ (by assumption) (by assumption)).mono ?_; rintro e w' ⟨rfl, rfl⟩))
          go_ret
          rw [HA.out]
          exact ⟨rfl, (Below.refl _ _).alloc (Nat.le_refl _) _⟩
        | true =>
          cases h5 : fr with
          | true =>
            subst h5
            have HA : Hid (affOk ⟨f, true, st, ad, wh⟩ = begT wh st) := show affOk ⟨f, true, st, ad, wh⟩ = begT wh st by simp [affOk, h1, h2, h3, h4]
            go_enter Tryz.func85, Tryz.ntmps85
            go_wp2_with (first | (go_at_call 83; refine (l2Flag_any _ _ hf).mono ?_; rintro e w' ⟨rfl, rfl⟩) | (go_at_call 100; refine (letters4_any _ _ (by assumption)).mono ?_; rintro e w' ⟨rfl, rfl⟩) | (go_at_call 101; refine (l2Begins_any _ _ _ (by assumption) (by assumption)).mono ?_; rintro e w' ⟨rfl, rfl⟩) | (go_at_call 102; refine (l2Ends_any _ _ _ (by assumption) (by assumption)).mono ?_; rintro e w' ⟨rfl, rfl⟩))
            go_ret
            rw [HA.out]
            exact ⟨rfl, (Below.refl _ _).alloc (Nat.le_refl _) _⟩
          | false =>
            subst h5
            have HA : Hid (affOk ⟨f, false, st, ad, wh⟩ = endT wh st) := show affOk ⟨f, false, st, ad, wh⟩ = endT wh st by simp [affOk, h1, h2, h3, h4]
            go_enter Tryz.func85, Tryz.ntmps85
            go_wp2_with (first | (go_at_call 83; refine (l2Flag_any _ _ hf).mono ?_; rintro e w' ⟨rfl, rfl⟩) | (go_at_call 100; refine (letters4_any _ _ (by assumption)).mono ?_; rintro e w' ⟨rfl, rfl⟩) | (go_at_call 101; refine (l2Begins_any _ _ _ (by assumption) (by assumption)).mono ?_; rintro e w' ⟨rfl, rfl⟩) | (go_at_call 102; refine (l2Ends_any _ _ _ (by assumption) (by assumption)).mono ?_; rintro e w' ⟨rfl, rfl⟩))
            go_ret
            rw [HA.out]
            exact ⟨rfl, (Below.refl _ _).alloc (Nat.le_refl _) _⟩
end Go.Proofs.YthedglgljehmgaaGreatDoor
/-
  Affixes held against each other.
-/
namespace Go.Proofs.YthedglgljehmgaaGreatDoor
open Go.RowKit
set_option linter.unusedVariables false
/-- Two affixes are the same. -/
def affEq (x y : Aff) : Bool := decide (x.flag.toList = y.flag.toList ∧ x.front = y.front ∧ x.strip.toList = y.strip.toList ∧ x.add.toList = y.add.toList ∧ x.wh.toList = y.wh.toList)
set_option maxRecDepth 100000 in
theorem run_affEq (x y : Aff) (w : World) : (binOp .eql 77 (.agg x.cells) (.agg y.cells)).run Tryz.prog w = .ok (.bool (affEq x y)) w := by
  obtain ⟨f, fr, st, ad, wh⟩ := x
  obtain ⟨f', fr', st', ad', wh'⟩ := y
  have hp : Tryz.prog.stoodInHeld 77 = false := by kernel_rfl
  have ht : Tryz.prog.underlying 77 = some (.struct (Tryz.prog.fieldsOf 77)) := by kernel_rfl
  unfold Aff.cells
  rw [run_eql_struct, run_equalIn_struct w 9999 77 _ _ ht hp]
  simp [Program.fieldsOf, Op.eqFields, Tryz.underlying77, go_sem]
  unfold affEq
  by_cases h1 : f.toList = f'.toList <;> by_cases h2 : fr = fr' <;> by_cases h3 : st.toList = st'.toList <;> by_cases h4 : ad.toList = ad'.toList <;> by_cases h5 : wh.toList = wh'.toList <;> simp [h1, h2, h3, h4, h5]
theorem run_affEq5 (f st ad wh f' st' ad' wh' : ByteArray) (fr fr' : Bool) (w : World) : (binOp .eql 77 (.agg #[.string f, .bool fr, .string st, .string ad, .string wh]) (.agg #[.string f', .bool fr', .string st', .string ad', .string wh'])).run Tryz.prog w = .ok (.bool (affEq ⟨f, fr, st, ad, wh⟩ ⟨f', fr', st', ad', wh'⟩)) w :=
  run_affEq ⟨f, fr, st, ad, wh⟩ ⟨f', fr', st', ad', wh'⟩ w
theorem run_affGuard (op : BinOp) (x y : Operand) (xs ys : Array Value) (w : World) : (eqGuard op 77 x y (.agg xs) (.agg ys)).run Tryz.prog w = .ok () w := run_eqGuard_agg w op _ x y xs ys (by kernel_rfl)
end Go.Proofs.YthedglgljehmgaaGreatDoor
