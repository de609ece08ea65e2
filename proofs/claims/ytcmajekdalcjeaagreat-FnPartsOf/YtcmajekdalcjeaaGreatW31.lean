/-
  An affix and a stem, or a word, as they are drawn.
-/
import Derived.Test.YtcmajekdalcjeaaGreatGW30
import Derived.Test.YtcmajekdalcjeaaGreatGW28
namespace Go.Proofs.YtcmajekdalcjeaaGreat
open Go.RowKit
set_option linter.unusedVariables false
theorem cell_lt {w : World} {p : Addr} {v : Value} (h : w.cell? p = some v) : p.block < w.heap.size := by
  rcases Nat.lt_or_ge p.block w.heap.size with hlt | hge
  · exact hlt
  · unfold World.cell? at h
    rw [Array.getElem?_eq_none hge] at h
    simp at h
theorem all7 {p : Value → Bool} {a b c d e f g : Value} (h1 : #[a, b, c, d, e, f].all p = true) (h2 : p g = true) : #[a, b, c, d, e, f, g].all p = true := by
  simp only [List.all_toArray, List.all_cons, List.all_nil, Bool.and_eq_true, Bool.and_true] at h1 ⊢
  exact ⟨h1.1, h1.2.1, h1.2.2.1, h1.2.2.2.1, h1.2.2.2.2.1, h1.2.2.2.2.2, h2⟩
theorem IsRow.keep {k : IntKind} {w w' : World} {a : Option Addr} {len cap : Nat} {zs : List Int} (h : IsRow k w a len cap zs) (hb : Below w.heap.size w w') : IsRow k w' a len cap zs := by
  rcases h with h | ⟨x, h1, h2, h3, h4, h5, h6⟩
  · exact .inl h
  · exact .inr ⟨x, h1, h2, h3, h4, fun i hi => (hb.cell (cell_lt (h5 i hi))).trans (h5 i hi), h6⟩
end Go.Proofs.YtcmajekdalcjeaaGreat
