/-
  Affixes and entries in memory.
-/
import Derived.Test.YtdjpeickokoclaaDoorProg
import Derived.Test.YtdjpeickokoclaaDoorGW69
import Derived.Deep.QuietTactic
import Derived.BigQuiet
import Derived.WalkKit
import Derived.WalkSpells
import Derived.WalkLawsBesides
import Derived.Lib.SmallJoins
import Derived.Deep.WholeRow
import Derived.Deep.OwnRows
namespace Go.Proofs.YtdjpeickokoclaaDoor
open Go.RowKit
set_option linter.unusedVariables false
theorem below_drewN70 {B : Nat} {a w : World} (h : Below B a w) (n : Nat) : Below B a (w.drewN n) := by
  induction n with
  | zero => exact h
  | succ n ih => exact ih.drew
/-- An affix lies at a place. -/
def AffCell (w : World) (b o : Nat) (x : Aff) : Prop :=
  w.cell? ⟨b, o, none⟩ = some (.string x.flag) ∧ w.cell? ⟨b, o + 1, none⟩ = some (.bool x.front) ∧ w.cell? ⟨b, o + 2, none⟩ = some (.string x.strip) ∧ w.cell? ⟨b, o + 3, none⟩ = some (.string x.add) ∧ w.cell? ⟨b, o + 4, none⟩ = some (.string x.wh)
/-- A slice of affixes. -/
def AffsAt (w : World) (v : Value) (xs : List Aff) : Prop :=
  ∃ a cap, v = .slice a xs.length cap ∧ xs.length ≤ cap ∧ cap ≤ maxLen ∧ (∀ (i : Nat) (x : Aff), xs[i]? = some x → x.fits) ∧
    (xs ≠ [] → ∃ b off, a = some ⟨b, off, none⟩ ∧ b < w.heap.size ∧ ∀ (i : Nat) (x : Aff), xs[i]? = some x → AffCell w b (off + i * 5) x)
/-- A slice of entries. -/
def EntsAt (w : World) (v : Value) (es : List (ByteArray × ByteArray)) : Prop :=
  ∃ a cap, v = .slice a es.length cap ∧ es.length ≤ cap ∧ cap ≤ maxLen ∧ (∀ (i : Nat) (x : ByteArray × ByteArray), es[i]? = some x → x.1.size ≤ maxLen ∧ x.2.size ≤ maxLen) ∧
    (es ≠ [] → ∃ b off, a = some ⟨b, off, none⟩ ∧ b < w.heap.size ∧ ∀ (i : Nat) (x : ByteArray × ByteArray), es[i]? = some x → w.cell? ⟨b, off + i * 2, none⟩ = some (.string x.1) ∧ w.cell? ⟨b, off + i * 2 + 1, none⟩ = some (.string x.2))
theorem AffCell.below {w w' : World} {b o : Nat} {x : Aff} (h : AffCell w b o x) (hb : Below w.heap.size w w') (hlt : b < w.heap.size) : AffCell w' b o x := by
  obtain ⟨h0, h1, h2, h3, h4⟩ := h
  exact ⟨(hb.cell (p := ⟨b, o, none⟩) hlt).trans h0, (hb.cell (p := ⟨b, o + 1, none⟩) hlt).trans h1, (hb.cell (p := ⟨b, o + 2, none⟩) hlt).trans h2, (hb.cell (p := ⟨b, o + 3, none⟩) hlt).trans h3, (hb.cell (p := ⟨b, o + 4, none⟩) hlt).trans h4⟩
theorem AffsAt.below {w w' : World} {v : Value} {xs : List Aff} (h : AffsAt w v xs) (hb : Below w.heap.size w w') : AffsAt w' v xs := by
  obtain ⟨a, cap, hv, hc, hm, hf, hh⟩ := h
  refine ⟨a, cap, hv, hc, hm, hf, fun hn => ?_⟩
  obtain ⟨b, off, ha, h2, h3⟩ := hh hn
  exact ⟨b, off, ha, Nat.lt_of_lt_of_le h2 hb.size, fun i x hx => (h3 i x hx).below hb h2⟩
theorem EntsAt.below {w w' : World} {v : Value} {es : List (ByteArray × ByteArray)} (h : EntsAt w v es) (hb : Below w.heap.size w w') : EntsAt w' v es := by
  obtain ⟨a, cap, hv, hc, hm, hf, hh⟩ := h
  refine ⟨a, cap, hv, hc, hm, hf, fun hn => ?_⟩
  obtain ⟨b, off, ha, h2, h3⟩ := hh hn
  refine ⟨b, off, ha, Nat.lt_of_lt_of_le h2 hb.size, fun i x hx => ?_⟩
  obtain ⟨c1, c2⟩ := h3 i x hx
  exact ⟨(hb.cell (p := ⟨b, off + i * 2, none⟩) h2).trans c1, (hb.cell (p := ⟨b, off + i * 2 + 1, none⟩) h2).trans c2⟩
theorem AffsAt.form {w : World} {v : Value} {xs : List Aff} (h : AffsAt w v xs) : ∃ a cap, v = .slice a xs.length cap ∧ xs.length ≤ cap ∧ cap ≤ maxLen := by
  obtain ⟨a, cap, hv, hc, hm, hf, hh⟩ := h
  exact ⟨a, cap, hv, hc, hm⟩
theorem EntsAt.form {w : World} {v : Value} {es : List (ByteArray × ByteArray)} (h : EntsAt w v es) : ∃ a cap, v = .slice a es.length cap ∧ es.length ≤ cap ∧ cap ≤ maxLen := by
  obtain ⟨a, cap, hv, hc, hm, hf, hh⟩ := h
  exact ⟨a, cap, hv, hc, hm⟩
theorem not_nil70 {α : Type} {l : List α} {i : Nat} {x : α} (h : l[i]? = some x) : l ≠ [] := by rintro rfl; simp at h
theorem AffsAt.at {w : World} {v : Value} {xs : List Aff} (h : AffsAt w v xs) {k : Nat} (hk : k < xs.length) :
    ∃ b off cap x, v = .slice (some ⟨b, off, none⟩) xs.length cap ∧ b < w.heap.size ∧ xs[k]? = some x ∧ x.fits ∧ AffCell w b (off + k * 5) x := by
  obtain ⟨a, cap, hv, hc, hm, hf, hh⟩ := h
  have he := List.getElem?_eq_getElem hk
  obtain ⟨b, off, rfl, h2, h3⟩ := hh (not_nil70 he)
  exact ⟨b, off, cap, _, hv, h2, he, hf k _ he, h3 k _ he⟩
theorem EntsAt.at {w : World} {v : Value} {es : List (ByteArray × ByteArray)} (h : EntsAt w v es) {k : Nat} (hk : k < es.length) :
    ∃ b off cap x, v = .slice (some ⟨b, off, none⟩) es.length cap ∧ b < w.heap.size ∧ es[k]? = some x ∧ (x.1.size ≤ maxLen ∧ x.2.size ≤ maxLen) ∧ w.cell? ⟨b, off + k * 2, none⟩ = some (.string x.1) ∧ w.cell? ⟨b, off + k * 2 + 1, none⟩ = some (.string x.2) := by
  obtain ⟨a, cap, hv, hc, hm, hf, hh⟩ := h
  have he := List.getElem?_eq_getElem hk
  obtain ⟨b, off, rfl, h2, h3⟩ := hh (not_nil70 he)
  exact ⟨b, off, cap, _, hv, h2, he, hf k _ he, h3 k _ he⟩
/-- The first so many of them. -/
theorem AffsAt.take {w : World} {b off cap : Nat} {xs : List Aff} (h : AffsAt w (.slice (some ⟨b, off, none⟩) xs.length cap) xs) {k : Nat} (hk : k ≤ xs.length) : AffsAt w (.slice (some ⟨b, off, none⟩) k cap) (xs.take k) := by
  obtain ⟨a, cap', hv, hc, hm, hf, hh⟩ := h
  cases hv
  refine ⟨_, cap, by rw [List.length_take, Nat.min_eq_left hk], by rw [List.length_take]; omega, hm, fun i x hx => ?_, fun hn => ?_⟩
  · rw [List.getElem?_take] at hx
    split at hx
    · exact hf i x hx
    · cases hx
  · have hne : xs ≠ [] := by rintro rfl; simp at hn
    obtain ⟨b', off', ha, h2, h3⟩ := hh hne
    cases ha
    refine ⟨b, off, rfl, h2, fun i x hx => ?_⟩
    rw [List.getElem?_take] at hx
    split at hx
    · exact h3 i x hx
    · cases hx
end Go.Proofs.YtdjpeickokoclaaDoor
