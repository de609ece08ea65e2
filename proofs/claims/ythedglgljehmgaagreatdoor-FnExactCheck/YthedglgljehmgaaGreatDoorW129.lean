/-
  Rows that the call makes by append: texts, affixes, entries.
-/
import Derived.Test.YthedglgljehmgaaGreatDoorW13
import Derived.Test.YthedglgljehmgaaGreatDoorW70
import Derived.Test.YthedglgljehmgaaGreatDoorGW78
import Derived.Test.YthedglgljehmgaaGreatDoorW119
import Derived.Test.YthedglgljehmgaaGreatDoorGW92
namespace Go.Proofs.YthedglgljehmgaaGreatDoor
open Go.RowKit
set_option linter.unusedVariables false
/-- Affixes as cells. -/
def affCells (ys : List Aff) : List Value := ys.flatMap fun a => a.cells.toList
theorem affCells_append (a b : List Aff) : affCells (a ++ b) = affCells a ++ affCells b := by simp [affCells]
theorem affCells_one (a : Aff) : affCells [a] = [.string a.flag, .bool a.front, .string a.strip, .string a.add, .string a.wh] := by simp [affCells, Aff.cells]
theorem affCells_length (ys : List Aff) : (affCells ys).length = ys.length * 5 := by
  induction ys with
  | nil => rfl
  | cons y ys ih =>
    have : affCells (y :: ys) = y.cells.toList ++ affCells ys := rfl
    rw [this, List.length_append, ih, List.length_cons]
    simp [Aff.cells]
    omega
theorem affCells_at : ∀ (ys : List Aff) (i j : Nat) (y : Aff), ys[i]? = some y → j < 5 → (affCells ys)[i * 5 + j]? = y.cells[j]?
  | [], i, j, y, h, _ => by simp at h
  | x :: xs, 0, j, y, h, hj => by
    have : affCells (x :: xs) = x.cells.toList ++ affCells xs := rfl
    simp only [List.getElem?_cons_zero, Option.some.injEq] at h
    subst h
    rw [this, List.getElem?_append_left (by simp [Aff.cells]; omega)]
    simp
  | x :: xs, i + 1, j, y, h, hj => by
    have : affCells (x :: xs) = x.cells.toList ++ affCells xs := rfl
    have hl : x.cells.toList.length = 5 := by simp [Aff.cells]
    rw [this, List.getElem?_append_right (by omega), hl, show (i + 1) * 5 + j - 5 = i * 5 + j by omega]
    exact affCells_at xs i j y (by simpa using h) hj
theorem affsAt_of_owns {w : World} {lo : Nat} {e : TypeId} {v : Value} {ys : List Aff} (h : w.ownsRow lo e 5 v ys.length (affCells ys)) (hf : ∀ (i : Nat) (x : Aff), ys[i]? = some x → x.fits) : AffsAt w v ys := by
  rcases h.2 with ⟨rfl, h0⟩ | ⟨g, cap, cur, rfl, hbase, hb, h1, h2, h3, h4⟩
  · have hz : ys = [] := List.length_eq_zero_iff.1 h0
    subst hz
    exact ⟨none, 0, rfl, Nat.le_refl _, Nat.zero_le _, hf, fun hn => absurd rfl hn⟩
  · have hg : g < w.heap.size := (Array.getElem?_eq_some_iff.1 hb).1
    refine ⟨some ⟨g, 0, none⟩, cap, rfl, h1, h2, hf, fun _ => ⟨g, 0, rfl, hg, fun i x hx => ?_⟩⟩
    have hi : i < ys.length := (List.getElem?_eq_some_iff.1 hx).1
    have key : ∀ j, j < 5 → w.cell? ⟨g, 0 + i * 5 + j, none⟩ = x.cells[j]? := fun j hj => by
      rw [cell_of_row w g _ cur _ _ hb]
      have e1 : (cur.toList.take (ys.length * 5))[i * 5 + j]? = (affCells ys)[i * 5 + j]? := by rw [h4]
      rw [List.getElem?_take_of_lt (by omega), affCells_at ys i j x hx hj, Array.getElem?_toList] at e1
      rw [Nat.zero_add]
      exact e1
    exact ⟨key 0 (by omega), key 1 (by omega), key 2 (by omega), key 3 (by omega), key 4 (by omega)⟩
/-- Two rows of other types are two blocks. -/
theorem rows_apart {w : World} {lo lo' : Nat} {e e' : TypeId} {s s' n n' : Nat} {v v' : Value} {xs xs' : List Value} (h : w.ownsRow lo e s v n xs) (h' : w.ownsRow lo' e' s' v' n' xs') (hne : e ≠ e') : v.ownBlock = none ∨ v.ownBlock ≠ v'.ownBlock := by
  rcases h.2 with ⟨rfl, _⟩ | ⟨g, cap, cur, rfl, _, hb, _⟩
  · exact .inl rfl
  · right
    rcases h'.2 with ⟨rfl, _⟩ | ⟨g', cap', cur', rfl, _, hb', _⟩
    · simp [Value.ownBlock]
    · intro e1
      have : g = g' := by simpa [Value.ownBlock] using e1
      subst this
      rw [hb] at hb'
      cases hb'
      exact hne rfl
theorem own_block_ge {w : World} {lo : Nat} {e : TypeId} {s n : Nat} {v : Value} {xs : List Value} (h : w.ownsRow lo e s v n xs) : ∀ k, v.ownBlock = some k → lo ≤ k := by
  intro k hk
  exact (World.ownsRow.lt h k hk).1
theorem owns_form {w : World} {lo : Nat} {e : TypeId} {s n : Nat} {v : Value} {xs : List Value} (h : w.ownsRow lo e s v n xs) : ∃ a cap, v = .slice a n cap := by
  rcases h.2 with ⟨rfl, rfl⟩ | ⟨g, cap, cur, rfl, _⟩
  · exact ⟨none, 0, rfl⟩
  · exact ⟨_, cap, rfl⟩
theorem owns_below {lo : Nat} {w w' : World} {e : TypeId} {size k : Nat} {v : Value} {xs : List Value} (h : w.ownsRow lo e size v k xs) (hb : Below w.heap.size w w') : w'.ownsRow lo e size v k xs := by
  refine ⟨h.1, ?_⟩
  rcases h.2 with h | ⟨g, cap, cur, hv, h1, h2, r⟩
  · exact .inl h
  · exact .inr ⟨g, cap, cur, hv, h1, (hb.block g (Array.getElem?_eq_some_iff.1 h2).1).trans h2, r⟩
theorem news_cells {W : World} {B : Nat} {cs : Array Value} {t : TypeId} (h : W.heap[B]? = some (.cells cs t (0, 0))) : ∀ j u, cs.toList[j]? = some u → W.cell? ((⟨B, 0, none⟩ : Addr).add j) = some u := by
  intro j u hu
  rw [add_zero_at, Nat.zero_add, cell_of_row W B j _ _ _ h]
  simpa using hu
theorem texts_length (xs : List ByteArray) : (texts xs).length = xs.length := by simp [texts]
theorem owns_lower {W : World} {n₁ lo : Nat} {e : TypeId} {size k : Nat} {v : Value} {xs : List Value} (h : W.ownsRow n₁ e size v k xs) (hle : lo ≤ n₁) : W.ownsRow lo e size v k xs := by
  refine ⟨h.1, ?_⟩
  rcases h.2 with h | ⟨g, cap, cur, hv, hb, r⟩
  · exact .inl h
  · exact .inr ⟨g, cap, cur, hv, Nat.le_trans hle hb, r⟩
/-- A row of texts that is not empty: its cells. -/
theorem owns_texts_at {W : World} {lo : Nat} {e : TypeId} {v : Value} {ys : List ByteArray} (h : W.ownsRow lo e 1 v ys.length (texts ys)) (hn : ys ≠ []) : ∃ g cap, v = .slice (some ⟨g, 0, none⟩) ys.length cap ∧ ∀ i s, ys[i]? = some s → W.cell? ⟨g, i, none⟩ = some (.string s) := by
  rcases h.2 with ⟨_, h0⟩ | ⟨g, cap, cur, hv, _, hb, _, _, _, h4⟩
  · exact absurd (List.length_eq_zero_iff.1 h0) hn
  · refine ⟨g, cap, hv, fun i s hs => ?_⟩
    have hi : i < ys.length := (List.getElem?_eq_some_iff.1 hs).1
    rw [cell_of_row W g i cur _ _ hb]
    have : (cur.toList.take (ys.length * 1))[i]? = some (Value.string s) := by rw [h4]; simp [texts, hs]
    rw [List.getElem?_take_of_lt (by omega)] at this
    simpa using this
theorem row_ne_block {w : World} {lo B : Nat} {e e' : TypeId} {s n : Nat} {v : Value} {xs : List Value} {cs : Array Value} {z : Nat × Nat} (h : w.ownsRow lo e s v n xs) (hB : w.heap[B]? = some (.cells cs e' z)) (hne : e ≠ e') : some B ≠ v.ownBlock := by
  rcases h.2 with ⟨rfl, _⟩ | ⟨g, cap, cur, rfl, _, hb, _⟩
  · simp [Value.ownBlock]
  · intro e1
    have : B = g := by simpa [Value.ownBlock] using e1
    subst this
    rw [hb] at hB
    cases hB
    exact hne rfl
/-- Entries as cells. -/
def entCells (ys : List (ByteArray × ByteArray)) : List Value := ys.flatMap fun a => [.string a.1, .string a.2]
theorem entCells_append (a b : List (ByteArray × ByteArray)) : entCells (a ++ b) = entCells a ++ entCells b := by simp [entCells]
theorem entCells_length (ys : List (ByteArray × ByteArray)) : (entCells ys).length = ys.length * 2 := by
  induction ys with
  | nil => rfl
  | cons y ys ih =>
    have : entCells (y :: ys) = .string y.1 :: .string y.2 :: entCells ys := rfl
    rw [this, List.length_cons, List.length_cons, ih, List.length_cons]
    omega
theorem entCells_at : ∀ (ys : List (ByteArray × ByteArray)) (i : Nat) (y : ByteArray × ByteArray), ys[i]? = some y → (entCells ys)[i * 2]? = some (.string y.1) ∧ (entCells ys)[i * 2 + 1]? = some (.string y.2)
  | [], i, y, h => by simp at h
  | x :: xs, 0, y, h => by
    simp only [List.getElem?_cons_zero, Option.some.injEq] at h
    subst h
    exact ⟨rfl, rfl⟩
  | x :: xs, i + 1, y, h => by
    have : entCells (x :: xs) = .string x.1 :: .string x.2 :: entCells xs := rfl
    rw [this, show (i + 1) * 2 = i * 2 + 1 + 1 by omega]
    simp only [List.getElem?_cons_succ]
    exact entCells_at xs i y (by simpa using h)
/-- What is owned, as a row of one's own. -/
theorem rowOwn_of_owns {w : World} {lo : Nat} {e : TypeId} {size : Nat} {v : Value} {n : Nat} {xs : List Value} {C : (Nat → Value) → Prop} (h : w.ownsRow lo e size v n xs) (hC : ∀ f : Nat → Value, (∀ i u, xs[i]? = some u → f i = u) → C f) : RowOwn e size lo w.heap.size w v n C := by
  rcases h.2 with ⟨rfl, rfl⟩ | ⟨g, cap, cur, rfl, hbase, hb, h1, h2, h3, h4⟩
  · exact ⟨none, 0, rfl, Nat.le_refl _, Nat.zero_le _, fun hn => absurd rfl hn⟩
  · have hg : g < w.heap.size := (Array.getElem?_eq_some_iff.1 hb).1
    refine ⟨some ⟨g, 0, none⟩, cap, rfl, h1, h2, fun _ => ⟨g, cur.size, fun i => cur[i]?.getD (.bool false), rfl, hbase, hg, by rw [h3]; exact Nat.mul_le_mul_right _ h1, ⟨cur, hb, rfl, fun i hi => by simp [hi]⟩, hC _ fun i u hu => ?_⟩⟩
    have hi : i < n * size := by have := (List.getElem?_eq_some_iff.1 hu).1; rw [h.1] at this; exact this
    have e1 : (cur.toList.take (n * size))[i]? = some u := by rw [h4]; exact hu
    rw [List.getElem?_take_of_lt hi, Array.getElem?_toList] at e1
    show cur[i]?.getD (.bool false) = u
    rw [e1]
    rfl
theorem owns_alone {W : World} {B base : Nat} {e : TypeId} {size : Nat} (h : W.heap[B]? = some (.cells #[] e (0, 0))) (hb : base ≤ B) : W.ownsRow base e size (.slice (some ⟨B, 0, none⟩) 0 0) 0 [] :=
  ⟨by simp, .inr ⟨B, 0, #[], rfl, hb, h, Nat.le_refl _, Nat.zero_le _, by simp, by simp⟩⟩
theorem owns_set {w : World} {lo : Nat} {e : TypeId} {s n : Nat} {v : Value} {xs : List Value} (h : w.ownsRow lo e s v n xs) (b o : Nat) (u : Value) (hb : b < lo) : (w.setCell ⟨b, o, none⟩ u).ownsRow lo e s v n xs :=
  h.kept (grown_set w b o u) (by
    rcases h.2 with ⟨rfl, _⟩ | ⟨g, cap, cur, rfl, hg, _⟩
    · exact .inl rfl
    · right
      simp only [Value.ownBlock]
      intro e1
      have : g = b := by simpa using e1
      omega)
theorem owns_ne {w : World} {lo B : Nat} {e : TypeId} {s n : Nat} {v : Value} {xs : List Value} (h : w.ownsRow lo e s v n xs) (hB : B < lo) : some B ≠ v.ownBlock := by
  rcases h.2 with ⟨rfl, _⟩ | ⟨g, cap, cur, rfl, hg, _⟩
  · simp [Value.ownBlock]
  · intro e1
    have : B = g := by simpa [Value.ownBlock] using e1
    omega
end Go.Proofs.YthedglgljehmgaaGreatDoor
