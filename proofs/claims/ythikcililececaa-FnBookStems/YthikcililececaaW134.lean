/-
  Affixes and entries that are one's own memory: copied so, and marked.
-/
import Derived.Test.YthikcililececaaW119
import Derived.Test.YthikcililececaaGW78
import Derived.Test.YthikcililececaaGW92
namespace Go.Proofs.Ythikcililececaa
open Go.RowKit
set_option linter.unusedVariables false
/-- Affixes in a row of their own. -/
def AffsOwn (lo hi : Nat) (w : World) (v : Value) (xs : List Aff) : Prop :=
  RowOwn 34 5 lo hi w v xs.length (AffsTo xs.length xs) ∧ ∀ (i : Nat) (x : Aff), xs[i]? = some x → x.fits
/-- Entries in a row of their own. -/
def EntsOwn (lo hi : Nat) (w : World) (v : Value) (es : List (ByteArray × ByteArray)) : Prop :=
  RowOwn 25 2 lo hi w v es.length (EntsTo es.length es) ∧ ∀ (i : Nat) (x : ByteArray × ByteArray), es[i]? = some x → x.1.size ≤ maxLen ∧ x.2.size ≤ maxLen
theorem AffsOwn.at {lo hi : Nat} {w : World} {v : Value} {xs : List Aff} (h : AffsOwn lo hi w v xs) : AffsAt w v xs := by
  obtain ⟨⟨a, cap, hv, hc, hm, hh⟩, hf⟩ := h
  refine ⟨a, cap, hv, hc, hm, hf, fun hn => ?_⟩
  obtain ⟨g, m, f, ha, _, _, hle, hr, hx⟩ := hh (fun e => hn (List.length_eq_zero_iff.1 e))
  refine ⟨g, 0, ha, hr.lt, fun i x hi => ?_⟩
  have hlt : i < xs.length := (List.getElem?_eq_some_iff.1 hi).1
  obtain ⟨h0, h1, h2, h3, h4⟩ := hx i x hlt hi
  rw [Nat.zero_add]
  exact ⟨(hr.cell (by omega)).trans (by rw [h0]), (hr.cell (by omega)).trans (by rw [h1]), (hr.cell (by omega)).trans (by rw [h2]), (hr.cell (by omega)).trans (by rw [h3]), (hr.cell (by omega)).trans (by rw [h4])⟩
theorem EntsOwn.at {lo hi : Nat} {w : World} {v : Value} {es : List (ByteArray × ByteArray)} (h : EntsOwn lo hi w v es) : EntsAt w v es := by
  obtain ⟨⟨a, cap, hv, hc, hm, hh⟩, hf⟩ := h
  refine ⟨a, cap, hv, hc, hm, hf, fun hn => ?_⟩
  obtain ⟨g, m, f, ha, _, _, hle, hr, hx⟩ := hh (fun e => hn (List.length_eq_zero_iff.1 e))
  refine ⟨g, 0, ha, hr.lt, fun i x hi => ?_⟩
  have hlt : i < es.length := (List.getElem?_eq_some_iff.1 hi).1
  obtain ⟨h0, h1⟩ := hx i x hlt hi
  rw [Nat.zero_add]
  exact ⟨(hr.cell (by omega)).trans (by rw [h0]), (hr.cell (by omega)).trans (by rw [h1])⟩
theorem AffsOwn.below {lo hi : Nat} {w w' : World} {v : Value} {xs : List Aff} (h : AffsOwn lo hi w v xs) (hb : Below w.heap.size w w') : AffsOwn lo hi w' v xs := ⟨h.1.below hb, h.2⟩
theorem EntsOwn.below {lo hi : Nat} {w w' : World} {v : Value} {es : List (ByteArray × ByteArray)} (h : EntsOwn lo hi w v es) (hb : Below w.heap.size w w') : EntsOwn lo hi w' v es := ⟨h.1.below hb, h.2⟩
theorem AffsOwn.wr {lo hi l h' : Nat} {w w' : World} {v : Value} {xs : List Aff} (h : AffsOwn lo hi w v xs) (hw : Wr l h' w w') (hl : h' ≤ lo) : AffsOwn lo hi w' v xs := ⟨h.1.wr hw hl, h.2⟩
theorem EntsOwn.wr {lo hi l h' : Nat} {w w' : World} {v : Value} {es : List (ByteArray × ByteArray)} (h : EntsOwn lo hi w v es) (hw : Wr l h' w w') (hl : h' ≤ lo) : EntsOwn lo hi w' v es := ⟨h.1.wr hw hl, h.2⟩
/-- Marks of affixes and entries. -/
def markA (k : Nat) : Aff := ⟨markT k, decide (((k : Int) + 1) % 3 = 0), markT (k + 2), markT (k + 3), markT (k + 4)⟩
def marksA (k n : Nat) : List Aff := (List.range n).map fun i => markA (k + i * 5)
def marksE (k n : Nat) : List (ByteArray × ByteArray) := (List.range n).map fun i => (markT (k + i * 2), markT (k + i * 2 + 1))
theorem marksA_length (k n : Nat) : (marksA k n).length = n := by simp [marksA]
theorem marksE_length (k n : Nat) : (marksE k n).length = n := by simp [marksE]
theorem marksA_at {k n i : Nat} (h : i < n) : (marksA k n)[i]? = some (markA (k + i * 5)) := by simp [marksA, h]
theorem marksE_at {k n i : Nat} (h : i < n) : (marksE k n)[i]? = some (markT (k + i * 2), markT (k + i * 2 + 1)) := by simp [marksE, h]
theorem markT_fit (n : Nat) : (markT n).size ≤ maxLen := by have := markT_size n; unfold maxLen; omega
theorem marksA_fit (k n : Nat) : ∀ (i : Nat) (x : Aff), (marksA k n)[i]? = some x → x.fits := fun i x hx => by
  have hi : i < n := by have := (List.getElem?_eq_some_iff.1 hx).1; rwa [marksA_length] at this
  rw [marksA_at hi] at hx
  cases hx
  exact ⟨markT_fit (k + i * 5), markT_fit (k + i * 5 + 2), markT_fit (k + i * 5 + 3), markT_fit (k + i * 5 + 4)⟩
theorem marksE_fit (k n : Nat) : ∀ (i : Nat) (x : ByteArray × ByteArray), (marksE k n)[i]? = some x → x.1.size ≤ maxLen ∧ x.2.size ≤ maxLen := fun i x hx => by
  have hi : i < n := by have := (List.getElem?_eq_some_iff.1 hx).1; rwa [marksE_length] at this
  rw [marksE_at hi] at hx
  cases hx
  exact ⟨markT_fit (k + i * 2), markT_fit (k + i * 2 + 1)⟩
end Go.Proofs.Ythikcililececaa
