/-
  Memory that is one's own, by types, in one form: texts, affixes, entries, books.
-/
import Derived.Test.YtlmkilfffpdpfaaW134
import Derived.Test.YtlmkilfffpdpfaaGW74
import Derived.Test.YtlmkilfffpdpfaaW110
namespace Go.Proofs.Ytlmkilfffpdpfaa
open Go.RowKit
set_option linter.unusedVariables false
/-- Texts so far. -/
def TxTo (k : Nat) (xs : List ByteArray) (f : Nat → Value) : Prop := ∀ (j : Nat) (x : ByteArray), j < k → xs[j]? = some x → f j = .string x
/-- Texts in a row of their own. -/
def TextsRow (lo hi : Nat) (w : World) (v : Value) (xs : List ByteArray) : Prop :=
  RowOwn 9 1 lo hi w v xs.length (TxTo xs.length xs) ∧ ∀ (i : Nat) (x : ByteArray), xs[i]? = some x → x.size ≤ maxLen
theorem TextsRow.at {lo hi : Nat} {w : World} {v : Value} {xs : List ByteArray} (h : TextsRow lo hi w v xs) : TextsAt w v xs := by
  obtain ⟨⟨a, cap, hv, hc, hm, hh⟩, hf⟩ := h
  refine ⟨a, cap, hv, hc, Nat.le_trans hc hm, hf, fun hn => ?_⟩
  obtain ⟨g, m, f, ha, _, _, hle, hr, hx⟩ := hh (fun e => hn (List.length_eq_zero_iff.1 e))
  refine ⟨g, 0, ha, hr.lt, fun i x hi => ?_⟩
  have hlt : i < xs.length := (List.getElem?_eq_some_iff.1 hi).1
  rw [Nat.zero_add]
  exact (hr.cell (by omega)).trans (by rw [hx i x hlt hi])
theorem TextsRow.below {lo hi : Nat} {w w' : World} {v : Value} {xs : List ByteArray} (h : TextsRow lo hi w v xs) (hb : Below w.heap.size w w') : TextsRow lo hi w' v xs := ⟨h.1.below hb, h.2⟩
theorem TextsRow.wr {lo hi l h' : Nat} {w w' : World} {v : Value} {xs : List ByteArray} (h : TextsRow lo hi w v xs) (hw : Wr l h' w w') (hl : h' ≤ lo) : TextsRow lo hi w' v xs := ⟨h.1.wr hw hl, h.2⟩
theorem TextsRow.weak {lo hi lo' hi' : Nat} {w : World} {v : Value} {xs : List ByteArray} (h : TextsRow lo hi w v xs) (h1 : lo' ≤ lo) (h2 : hi ≤ hi') : TextsRow lo' hi' w v xs := ⟨h.1.weak h1 h2, h.2⟩
theorem RowOwn.set {t : TypeId} {size lo hi G : Nat} {w : World} {n n' c : Nat} {C : (Nat → Value) → Prop} (h : RowOwn t size lo hi w (.slice (some ⟨G, 0, none⟩) n c) n' C) {p : Addr} (hp : G ≠ p.block) (u : Value) : RowOwn t size lo hi (w.setCell p u) (.slice (some ⟨G, 0, none⟩) n c) n' C :=
  h.block fun g _ _ hg _ _ => by
    have e : g = G := by simp [Value.ownBlock] at hg; exact hg.symm
    subst e
    exact Below.heap_setCell _ _ _ g hp
theorem TextsRow.set {lo hi G : Nat} {w : World} {n c : Nat} {xs : List ByteArray} (h : TextsRow lo hi w (.slice (some ⟨G, 0, none⟩) n c) xs) {p : Addr} (hp : G ≠ p.block) (u : Value) : TextsRow lo hi (w.setCell p u) (.slice (some ⟨G, 0, none⟩) n c) xs := ⟨h.1.set hp u, h.2⟩
/-- What was made by itself. -/
theorem TextsRow.of_own {lo : Nat} {w : World} {v : Value} {xs : List ByteArray} (h : TextsOwn lo w v xs) : TextsRow lo w.heap.size w v xs := by
  obtain ⟨a, cap, hv, hc, hm, hf, hh⟩ := h
  refine ⟨⟨a, cap, hv, hc, hm, fun hn => ?_⟩, hf⟩
  obtain ⟨g, n, f, ha, hlo, hle, hr, hx⟩ := hh (fun e => hn (by rw [e]; rfl))
  exact ⟨g, n, f, ha, hlo, hr.lt, by omega, hr, fun j x _ hj => hx j x hj⟩
end Go.Proofs.Ytlmkilfffpdpfaa
