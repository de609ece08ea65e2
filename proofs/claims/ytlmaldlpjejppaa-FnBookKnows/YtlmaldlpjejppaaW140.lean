/-
  Memory that is one's own, by types, in one form: texts, affixes, entries, books.
-/
import Derived.Test.YtlmaldlpjejppaaW134
import Derived.Test.YtlmaldlpjejppaaGW78
import Derived.Test.YtlmaldlpjejppaaW110
namespace Go.Proofs.Ytlmaldlpjejppaa
open Go.RowKit
set_option linter.unusedVariables false
/-- Texts so far. -/
def TxTo (k : Nat) (xs : List ByteArray) (f : Nat → Value) : Prop := ∀ (j : Nat) (x : ByteArray), j < k → xs[j]? = some x → f j = .string x
/-- Texts in a row of their own. -/
def TextsRow (lo hi : Nat) (w : World) (v : Value) (xs : List ByteArray) : Prop :=
  RowOwn 9 1 lo hi w v xs.length (TxTo xs.length xs) ∧ ∀ (i : Nat) (x : ByteArray), xs[i]? = some x → x.size ≤ maxLen
theorem TextsRow.at {lo hi : Nat} {w : World} {v : Value} {xs : List ByteArray} (h : TextsRow lo hi w v xs) : TextsAt w v xs := by
  obtain ⟨⟨a, cap, hv, hc, hm, hh⟩, hf⟩ := h
  refine ⟨a, cap, hv, hc, Nat.le_trans hc hm, hf, fun hn => ?_⟩
  obtain ⟨g, m, f, ha, _, _, hle, hr, hx⟩ := hh (fun e => hn (List.length_eq_zero_iff.1 e))
  refine ⟨g, 0, ha, hr.lt, fun i x hi => ?_⟩
  have hlt : i < xs.length := (List.getElem?_eq_some_iff.1 hi).1
  rw [Nat.zero_add]
  exact (hr.cell (by omega)).trans (by rw [hx i x hlt hi])
theorem TextsRow.below {lo hi : Nat} {w w' : World} {v : Value} {xs : List ByteArray} (h : TextsRow lo hi w v xs) (hb : Below w.heap.size w w') : TextsRow lo hi w' v xs := ⟨h.1.below hb, h.2⟩
theorem TextsRow.wr {lo hi l h' : Nat} {w w' : World} {v : Value} {xs : List ByteArray} (h : TextsRow lo hi w v xs) (hw : Wr l h' w w') (hl : h' ≤ lo) : TextsRow lo hi w' v xs := ⟨h.1.wr hw hl, h.2⟩
theorem TextsRow.weak {lo hi lo' hi' : Nat} {w : World} {v : Value} {xs : List ByteArray} (h : TextsRow lo hi w v xs) (h1 : lo' ≤ lo) (h2 : hi ≤ hi') : TextsRow lo' hi' w v xs := ⟨h.1.weak h1 h2, h.2⟩
theorem AffsOwn.weak {lo hi lo' hi' : Nat} {w : World} {v : Value} {xs : List Aff} (h : AffsOwn lo hi w v xs) (h1 : lo' ≤ lo) (h2 : hi ≤ hi') : AffsOwn lo' hi' w v xs := ⟨h.1.weak h1 h2, h.2⟩
theorem EntsOwn.weak {lo hi lo' hi' : Nat} {w : World} {v : Value} {xs : List (ByteArray × ByteArray)} (h : EntsOwn lo hi w v xs) (h1 : lo' ≤ lo) (h2 : hi ≤ hi') : EntsOwn lo' hi' w v xs := ⟨h.1.weak h1 h2, h.2⟩
theorem RowOwn.set {t : TypeId} {size lo hi G : Nat} {w : World} {n n' c : Nat} {C : (Nat → Value) → Prop} (h : RowOwn t size lo hi w (.slice (some ⟨G, 0, none⟩) n c) n' C) {p : Addr} (hp : G ≠ p.block) (u : Value) : RowOwn t size lo hi (w.setCell p u) (.slice (some ⟨G, 0, none⟩) n c) n' C :=
  h.block fun g _ _ hg _ _ => by
    have e : g = G := by simp [Value.ownBlock] at hg; exact hg.symm
    subst e
    exact Below.heap_setCell _ _ _ g hp
theorem AffsOwn.set {lo hi G : Nat} {w : World} {n c : Nat} {xs : List Aff} (h : AffsOwn lo hi w (.slice (some ⟨G, 0, none⟩) n c) xs) {p : Addr} (hp : G ≠ p.block) (u : Value) : AffsOwn lo hi (w.setCell p u) (.slice (some ⟨G, 0, none⟩) n c) xs := ⟨h.1.set hp u, h.2⟩
theorem EntsOwn.set {lo hi G : Nat} {w : World} {n c : Nat} {xs : List (ByteArray × ByteArray)} (h : EntsOwn lo hi w (.slice (some ⟨G, 0, none⟩) n c) xs) {p : Addr} (hp : G ≠ p.block) (u : Value) : EntsOwn lo hi (w.setCell p u) (.slice (some ⟨G, 0, none⟩) n c) xs := ⟨h.1.set hp u, h.2⟩
theorem TextsRow.set {lo hi G : Nat} {w : World} {n c : Nat} {xs : List ByteArray} (h : TextsRow lo hi w (.slice (some ⟨G, 0, none⟩) n c) xs) {p : Addr} (hp : G ≠ p.block) (u : Value) : TextsRow lo hi (w.setCell p u) (.slice (some ⟨G, 0, none⟩) n c) xs := ⟨h.1.set hp u, h.2⟩
/-- What was made by itself. -/
theorem TextsRow.of_own {lo : Nat} {w : World} {v : Value} {xs : List ByteArray} (h : TextsOwn lo w v xs) : TextsRow lo w.heap.size w v xs := by
  obtain ⟨a, cap, hv, hc, hm, hf, hh⟩ := h
  refine ⟨⟨a, cap, hv, hc, hm, fun hn => ?_⟩, hf⟩
  obtain ⟨g, n, f, ha, hlo, hle, hr, hx⟩ := hh (fun e => hn (by rw [e]; rfl))
  exact ⟨g, n, f, ha, hlo, hr.lt, by omega, hr, fun j x _ hj => hx j x hj⟩
/-- Books. -/
def BookAt (w : World) (v : Value) (x : List Aff × List (ByteArray × ByteArray)) : Prop := ∃ va ve, v = .agg #[va, ve] ∧ AffsAt w va x.1 ∧ EntsAt w ve x.2
def BookOwn (lo hi : Nat) (w : World) (v : Value) (x : List Aff × List (ByteArray × ByteArray)) : Prop := ∃ va ve, v = .agg #[va, ve] ∧ AffsOwn lo hi w va x.1 ∧ EntsOwn lo hi w ve x.2
def BookSm (x : List Aff × List (ByteArray × ByteArray)) : Prop := x.1.length ≤ 1048576 ∧ x.2.length ≤ 1048576
def bookCnt (x : List Aff × List (ByteArray × ByteArray)) : Nat := x.1.length * 5 + x.2.length * 2
def bookMk (k : Nat) (x : List Aff × List (ByteArray × ByteArray)) : List Aff × List (ByteArray × ByteArray) := (marksA k x.1.length, marksE (k + x.1.length * 5) x.2.length)
theorem BookAt.form {w : World} {v : Value} {x : List Aff × List (ByteArray × ByteArray)} (h : BookAt w v x) : ∃ va ve, v = .agg #[va, ve] := by obtain ⟨va, ve, hv, _⟩ := h; exact ⟨va, ve, hv⟩
theorem BookAt.below {w w' : World} {v : Value} {x : List Aff × List (ByteArray × ByteArray)} (h : BookAt w v x) (hb : Below w.heap.size w w') : BookAt w' v x := by
  obtain ⟨va, ve, hv, h1, h2⟩ := h
  exact ⟨va, ve, hv, h1.below hb, h2.below hb⟩
theorem BookOwn.at {lo hi : Nat} {w : World} {v : Value} {x : List Aff × List (ByteArray × ByteArray)} (h : BookOwn lo hi w v x) : BookAt w v x := by
  obtain ⟨va, ve, hv, h1, h2⟩ := h
  exact ⟨va, ve, hv, h1.at, h2.at⟩
theorem BookOwn.below {lo hi : Nat} {w w' : World} {v : Value} {x : List Aff × List (ByteArray × ByteArray)} (h : BookOwn lo hi w v x) (hb : Below w.heap.size w w') : BookOwn lo hi w' v x := by
  obtain ⟨va, ve, hv, h1, h2⟩ := h
  exact ⟨va, ve, hv, h1.below hb, h2.below hb⟩
theorem BookOwn.wr {lo hi l h' : Nat} {w w' : World} {v : Value} {x : List Aff × List (ByteArray × ByteArray)} (h : BookOwn lo hi w v x) (hw : Wr l h' w w') (hl : h' ≤ lo) : BookOwn lo hi w' v x := by
  obtain ⟨va, ve, hv, h1, h2⟩ := h
  exact ⟨va, ve, hv, h1.wr hw hl, h2.wr hw hl⟩
end Go.Proofs.Ytlmaldlpjejppaa
