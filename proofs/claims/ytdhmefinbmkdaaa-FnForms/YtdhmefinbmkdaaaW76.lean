/-
  impl.entriesOk, impl.BookOk.
-/
import Derived.Test.YtdhmefinbmkdaaaW75
import Derived.Test.YtdhmefinbmkdaaaW35
namespace Go.Proofs.Ytdhmefinbmkdaaa
open Go.RowKit
set_option linter.unusedVariables false
/-- The entry at a place is ok, and behind the one ahead. -/
def entAt (es : List (ByteArray × ByteArray)) (i : Nat) : Bool :=
  match es[i]? with
  | none => true
  | some e => entT e.1 e.2 && (match i with | 0 => true | j + 1 => match es[j]? with | none => true | some p => Op.bytesLess p.1.toList e.1.toList)
def entsT (es : List (ByteArray × ByteArray)) : Bool := decide (es.length ≤ 24) && (List.range es.length).all (entAt es)
theorem entsT_long {es : List (ByteArray × ByteArray)} (h : ¬ es.length ≤ 24) : entsT es = false := by simp [entsT, h]
theorem entsT_bad {es : List (ByteArray × ByteArray)} (i : Nat) (hi : i < es.length) (h : entAt es i = false) : entsT es = false := by
  have : (List.range es.length).all (entAt es) = false := by
    simp only [List.all_eq_false, List.mem_range]
    exact ⟨i, hi, by rw [h]; decide⟩
  simp [entsT, this]
theorem entsT_good {es : List (ByteArray × ByteArray)} (h : ∀ i, i < es.length → entAt es i = true) : entsT es = decide (es.length ≤ 24) := by
  have : (List.range es.length).all (entAt es) = true := by
    simp only [List.all_eq_true, List.mem_range]
    exact h
  simp [entsT, this]
theorem entAt_no {es : List (ByteArray × ByteArray)} {i : Nat} {e : ByteArray × ByteArray} (he : es[i]? = some e) (h : entT e.1 e.2 = false) : entAt es i = false := by simp [entAt, he, h]
theorem entAt_zero {es : List (ByteArray × ByteArray)} {e : ByteArray × ByteArray} (he : es[0]? = some e) : entAt es 0 = entT e.1 e.2 := by simp [entAt, he]
theorem entAt_succ {es : List (ByteArray × ByteArray)} {j : Nat} {p e : ByteArray × ByteArray} (hp : es[j]? = some p) (he : es[j + 1]? = some e) : entAt es (j + 1) = (entT e.1 e.2 && Op.bytesLess p.1.toList e.1.toList) := by simp [entAt, hp, he]
/-- A book is ok. -/
def bookT (xs : List Aff) (es : List (ByteArray × ByteArray)) : Bool := affsT xs && entsT es
end Go.Proofs.Ytdhmefinbmkdaaa
