/-
  Books handed over: sizes.
-/
import Derived.Test.YtdjpeickokoclaaDoorW70
import Derived.Test.YtdjpeickokoclaaDoorGW23
import Derived.Deep.RegionWith
namespace Go.Proofs.YtdjpeickokoclaaDoor
open Go.RowKit
set_option linter.unusedVariables false
end Go.Proofs.YtdjpeickokoclaaDoor
/-
  Books handed over: copies.
-/
namespace Go.Proofs.YtdjpeickokoclaaDoor
open Go.RowKit
set_option linter.unusedVariables false
/-- Affixes so far. -/
def AffsTo (k : Nat) (xs : List Aff) (f : Nat → Value) : Prop :=
  ∀ (j : Nat) (x : Aff), j < k → xs[j]? = some x → f (j * 5) = .string x.flag ∧ f (j * 5 + 1) = .bool x.front ∧ f (j * 5 + 2) = .string x.strip ∧ f (j * 5 + 3) = .string x.add ∧ f (j * 5 + 4) = .string x.wh
theorem AffsTo.next {k : Nat} {xs : List Aff} {f : Nat → Value} (h : AffsTo k xs f) {x : Aff} (hx : xs[k]? = some x) :
    AffsTo (k + 1) xs (fun j => if j = k * 5 + 4 then .string x.wh else if j = k * 5 + 3 then .string x.add else if j = k * 5 + 2 then .string x.strip else if j = k * 5 + 1 then .bool x.front else if j = k * 5 then .string x.flag else f j) := by
  intro j y hj hy
  by_cases e : j = k
  · subst e
    rw [hx] at hy
    cases hy
    refine ⟨?_, ?_, ?_, ?_, ?_⟩
    · show (if j * 5 = j * 5 + 4 then _ else if j * 5 = j * 5 + 3 then _ else if j * 5 = j * 5 + 2 then _ else if j * 5 = j * 5 + 1 then _ else if j * 5 = j * 5 then _ else _) = _
      rw [if_neg (by omega), if_neg (by omega), if_neg (by omega), if_neg (by omega), if_pos rfl]
    · show (if j * 5 + 1 = j * 5 + 4 then _ else if j * 5 + 1 = j * 5 + 3 then _ else if j * 5 + 1 = j * 5 + 2 then _ else if j * 5 + 1 = j * 5 + 1 then _ else _) = _
      rw [if_neg (by omega), if_neg (by omega), if_neg (by omega), if_pos rfl]
    · show (if j * 5 + 2 = j * 5 + 4 then _ else if j * 5 + 2 = j * 5 + 3 then _ else if j * 5 + 2 = j * 5 + 2 then _ else _) = _
      rw [if_neg (by omega), if_neg (by omega), if_pos rfl]
    · show (if j * 5 + 3 = j * 5 + 4 then _ else if j * 5 + 3 = j * 5 + 3 then _ else _) = _
      rw [if_neg (by omega), if_pos rfl]
    · show (if j * 5 + 4 = j * 5 + 4 then _ else _) = _
      rw [if_pos rfl]
  · have key : ∀ i, i < 5 → (fun j => if j = k * 5 + 4 then Value.string x.wh else if j = k * 5 + 3 then .string x.add else if j = k * 5 + 2 then .string x.strip else if j = k * 5 + 1 then .bool x.front else if j = k * 5 then .string x.flag else f j) (j * 5 + i) = f (j * 5 + i) := by
      intro i hi
      show (if j * 5 + i = k * 5 + 4 then Value.string x.wh else if j * 5 + i = k * 5 + 3 then .string x.add else if j * 5 + i = k * 5 + 2 then .string x.strip else if j * 5 + i = k * 5 + 1 then .bool x.front else if j * 5 + i = k * 5 then .string x.flag else f (j * 5 + i)) = _
      rw [if_neg (by omega), if_neg (by omega), if_neg (by omega), if_neg (by omega), if_neg (by omega)]
    obtain ⟨h0, h1, h2, h3, h4⟩ := h j y (by omega) hy
    exact ⟨(key 0 (by omega)).trans h0, (key 1 (by omega)).trans h1, (key 2 (by omega)).trans h2, (key 3 (by omega)).trans h3, (key 4 (by omega)).trans h4⟩
theorem AffsAt.fit {w : World} {v : Value} {xs : List Aff} (h : AffsAt w v xs) : ∀ (i : Nat) (x : Aff), xs[i]? = some x → x.fits := by
  obtain ⟨a, cap, hv, hc, hm, hf, hh⟩ := h
  exact hf
theorem EntsAt.fit {w : World} {v : Value} {es : List (ByteArray × ByteArray)} (h : EntsAt w v es) : ∀ (i : Nat) (x : ByteArray × ByteArray), es[i]? = some x → x.1.size ≤ maxLen ∧ x.2.size ≤ maxLen := by
  obtain ⟨a, cap, hv, hc, hm, hf, hh⟩ := h
  exact hf
theorem AffsAt.set {w : World} {b off n cap : Nat} {xs : List Aff} (h : AffsAt w (.slice (some ⟨b, off, none⟩) n cap) xs) {p : Addr} (hp : b ≠ p.block) (u : Value) : AffsAt (w.setCell p u) (.slice (some ⟨b, off, none⟩) n cap) xs := by
  obtain ⟨a, cap', hv, hc, hm, hf, hh⟩ := h
  cases hv
  refine ⟨_, cap, rfl, hc, hm, hf, fun hn => ?_⟩
  obtain ⟨b', off', ha, h2, h3⟩ := hh hn
  cases ha
  have e1 := Below.heap_setCell w p u b hp
  refine ⟨b, off, rfl, by simpa [World.setCell] using h2, fun i x hx => ?_⟩
  obtain ⟨c0, c1, c2, c3, c4⟩ := h3 i x hx
  exact ⟨(World.cell?_of_block (w := w) (a := ⟨b, _, none⟩) e1).trans c0, (World.cell?_of_block (w := w) (a := ⟨b, _, none⟩) e1).trans c1, (World.cell?_of_block (w := w) (a := ⟨b, _, none⟩) e1).trans c2, (World.cell?_of_block (w := w) (a := ⟨b, _, none⟩) e1).trans c3, (World.cell?_of_block (w := w) (a := ⟨b, _, none⟩) e1).trans c4⟩
theorem EntsAt.set {w : World} {b off n cap : Nat} {es : List (ByteArray × ByteArray)} (h : EntsAt w (.slice (some ⟨b, off, none⟩) n cap) es) {p : Addr} (hp : b ≠ p.block) (u : Value) : EntsAt (w.setCell p u) (.slice (some ⟨b, off, none⟩) n cap) es := by
  obtain ⟨a, cap', hv, hc, hm, hf, hh⟩ := h
  cases hv
  refine ⟨_, cap, rfl, hc, hm, hf, fun hn => ?_⟩
  obtain ⟨b', off', ha, h2, h3⟩ := hh hn
  cases ha
  have e1 := Below.heap_setCell w p u b hp
  refine ⟨b, off, rfl, by simpa [World.setCell] using h2, fun i x hx => ?_⟩
  obtain ⟨c0, c1⟩ := h3 i x hx
  exact ⟨(World.cell?_of_block (w := w) (a := ⟨b, _, none⟩) e1).trans c0, (World.cell?_of_block (w := w) (a := ⟨b, _, none⟩) e1).trans c1⟩
/-- Entries so far. -/
def EntsTo (k : Nat) (es : List (ByteArray × ByteArray)) (f : Nat → Value) : Prop :=
  ∀ (j : Nat) (x : ByteArray × ByteArray), j < k → es[j]? = some x → f (j * 2) = .string x.1 ∧ f (j * 2 + 1) = .string x.2
theorem EntsTo.next {k : Nat} {es : List (ByteArray × ByteArray)} {f : Nat → Value} (h : EntsTo k es f) {x : ByteArray × ByteArray} (hx : es[k]? = some x) :
    EntsTo (k + 1) es (fun j => if j = k * 2 + 1 then .string x.2 else if j = k * 2 then .string x.1 else f j) := by
  intro j y hj hy
  show (if j * 2 = k * 2 + 1 then Value.string x.2 else if j * 2 = k * 2 then .string x.1 else f (j * 2)) = _ ∧ (if j * 2 + 1 = k * 2 + 1 then Value.string x.2 else if j * 2 + 1 = k * 2 then .string x.1 else f (j * 2 + 1)) = _
  by_cases e : j = k
  · subst e
    rw [hx] at hy
    cases hy
    rw [if_neg (by omega), if_pos rfl, if_pos rfl]
    exact ⟨rfl, rfl⟩
  · rw [if_neg (by omega), if_neg (by omega), if_neg (by omega), if_neg (by omega)]
    exact h j y (by omega) hy
end Go.Proofs.YtdjpeickokoclaaDoor
/-
  Books: toBook; eqBook where both are the same.
-/
namespace Go.Proofs.YtdjpeickokoclaaDoor
open Go.RowKit
set_option linter.unusedVariables false
end Go.Proofs.YtdjpeickokoclaaDoor
