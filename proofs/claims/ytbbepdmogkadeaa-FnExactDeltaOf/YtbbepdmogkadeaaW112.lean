/-
  What goes in a change: impl.listOk, impl.goesOk.
-/
import Derived.Test.YtbbepdmogkadeaaW111
import Derived.Test.YtbbepdmogkadeaaW2
namespace Go.Proofs.Ytbbepdmogkadeaa
open Go.RowKit
set_option linter.unusedVariables false
/-- The text at a place is a word, and comes behind the one ahead. -/
def goAt (gs : List ByteArray) (i : Nat) : Bool :=
  match gs[i]? with
  | none => true
  | some g => wok g && (match i with | 0 => true | j + 1 => match gs[j]? with | none => true | some p => Op.bytesLess p.toList g.toList)
def goesAll (gs : List ByteArray) : Bool := (List.range gs.length).all (goAt gs)
def goesT (gs : List ByteArray) : Bool := decide (gs.length ≤ 24) && goesAll gs
theorem goesAll_bad {gs : List ByteArray} (i : Nat) (hi : i < gs.length) (h : goAt gs i = false) : goesAll gs = false := by
  cases e : goesAll gs with
  | false => rfl
  | true =>
    unfold goesAll at e
    rw [List.all_eq_true] at e
    rw [e i (List.mem_range.2 hi)] at h
    cases h
theorem goesAll_good {gs : List ByteArray} (h : ∀ i, i < gs.length → goAt gs i = true) : goesAll gs = true := by
  unfold goesAll
  rw [List.all_eq_true]
  exact fun i hi => h i (List.mem_range.1 hi)
theorem goAt_no {gs : List ByteArray} {i : Nat} {g : ByteArray} (hg : gs[i]? = some g) (h : wok g = false) : goAt gs i = false := by simp [goAt, hg, h]
theorem goAt_zero {gs : List ByteArray} {g : ByteArray} (hg : gs[0]? = some g) : goAt gs 0 = wok g := by simp [goAt, hg]
theorem goAt_succ {gs : List ByteArray} {j : Nat} {p g : ByteArray} (hp : gs[j]? = some p) (hg : gs[j + 1]? = some g) : goAt gs (j + 1) = (wok g && Op.bytesLess p.toList g.toList) := by simp [goAt, hp, hg]
end Go.Proofs.Ytbbepdmogkadeaa
