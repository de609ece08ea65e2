/-
  Texts that a law is given: opened, their size, a copy of them.
-/
import Derived.Test.YtcmajekdalcjeaaGreatW71
import Derived.Test.YtcmajekdalcjeaaGreatGW78
import Derived.Test.YtcmajekdalcjeaaGreatGW92
namespace Go.Proofs.YtcmajekdalcjeaaGreat
open Go.ChangeShapes Go.WideShapes Go.ChangeAt Go.RowKit
set_option linter.unusedVariables false
theorem TextsAt.fit {w : World} {v : Value} {xs : List ByteArray} (h : TextsAt w v xs) : ∀ (i : Nat) (x : ByteArray), xs[i]? = some x → x.size ≤ maxLen := by
  obtain ⟨a, cap, hv, hc, hm, hf, hh⟩ := h
  exact hf
set_option maxRecDepth 100000 in
theorem open_texts {H : Type} {enc : TypeId × Value → H} {w : World} {base : Nat} {spare : Nat → Bool} {held : Bool} {fuel : Nat} {v : Value} {x : DataW H × List MemPlace}
    (h : DataW.trod enc Tryz.prog w base spare held fuel 29 [v] = some x) : ∃ xs, TextsAt w v xs := by
  rcases Go.Deep.open_slice1 Tryz.underlying29 (by kernel_rfl) h with ⟨h0, _⟩ | ⟨a, len, cap, m, n, V, D, Pl, hcs, hb, hl, hm, hmm, _, hall⟩
  · simp at h0; subst h0
    exact ⟨[], none, 0, rfl, Nat.le_refl _, Nat.zero_le _, fun i x hx => by simp at hx, fun hn => absurd rfl hn⟩
  · simp at hcs; subst hcs
    have hlm : len ≤ m := by rw [hmm]; split <;> omega
    obtain ⟨q, hq⟩ := Go.Deep.choose_lt (α := ByteArray) (n := len) (p := fun i e => w.cell? (a.add i) = some (.string e) ∧ e.size ≤ maxLen) (fun i hi => by
      obtain ⟨c0, t0⟩ := hall i (by omega)
      obtain ⟨z0, e0, -, l0⟩ := DataW.trod_string Tryz.underlying9 t0
      simp only [List.cons.injEq, and_true] at e0
      exact ⟨z0, by rw [c0, e0], l0⟩)
    refine ⟨(List.range len).map q, some a, cap, by simp, by simpa using hl, by simpa using Nat.le_trans hl hm, fun i x hx => ?_, fun hn => ?_⟩
    · obtain ⟨hi, rfl⟩ := range_map_at71 hx
      exact (hq i hi).2
    have hpos : 0 < len := by
      rcases Nat.eq_zero_or_pos len with h0 | h0
      · subst h0; simp at hn
      · exact h0
    have c0 := (hq 0 hpos).1
    have ha : a.add 0 = a := by simp [Addr.add]
    rw [ha] at c0
    obtain ⟨hlt, hs⟩ := cell_lt71 c0
    obtain ⟨b, off, sp⟩ := a
    simp only at hs hlt
    subst hs
    refine ⟨b, off, rfl, hlt, fun i e he => ?_⟩
    obtain ⟨hi, rfl⟩ := range_map_at71 he
    have := (hq i hi).1
    rwa [add_at71] at this
end Go.Proofs.YtcmajekdalcjeaaGreat
