/-
  Books and texts drawn for the laws.
-/
import Derived.Test.YtdhmefinbmkdaaaW174
import Derived.Test.YtdhmefinbmkdaaaW154
import Derived.Test.YtdhmefinbmkdaaaW31
namespace Go.Proofs.Ytdhmefinbmkdaaa
open Go.RowKit
set_option linter.unusedVariables false
theorem entsAt_of_owns {w : World} {lo : Nat} {e : TypeId} {v : Value} {ys : List (ByteArray × ByteArray)} (h : w.ownsRow lo e 2 v ys.length (entCells ys)) (hf : ∀ e ∈ ys, e.1.size ≤ 20 ∧ e.2.size ≤ 20) : EntsAt w v ys := by
  have hm : ∀ (i : Nat) (x : ByteArray × ByteArray), ys[i]? = some x → x.1.size ≤ maxLen ∧ x.2.size ≤ maxLen := fun i x hx => by
    have := hf x (List.mem_of_getElem? hx)
    unfold maxLen
    omega
  rcases h.2 with ⟨rfl, h0⟩ | ⟨g, cap, cur, rfl, hbase, hb, h1, h2, h3, h4⟩
  · have hz : ys = [] := List.length_eq_zero_iff.1 h0
    subst hz
    exact ⟨none, 0, rfl, Nat.le_refl _, Nat.zero_le _, hm, fun hn => absurd rfl hn⟩
  · have hg : g < w.heap.size := (Array.getElem?_eq_some_iff.1 hb).1
    refine ⟨some ⟨g, 0, none⟩, cap, rfl, h1, h2, hm, fun _ => ⟨g, 0, rfl, hg, fun i x hx => ?_⟩⟩
    have hi : i < ys.length := (List.getElem?_eq_some_iff.1 hx).1
    obtain ⟨e0, e1⟩ := entCells_at ys i x hx
    have key : ∀ j u, j < 2 → (entCells ys)[i * 2 + j]? = some u → w.cell? ⟨g, 0 + i * 2 + j, none⟩ = some u := fun j u hj hu => by
      rw [cell_of_row w g _ cur _ _ hb]
      have e1 : (cur.toList.take (ys.length * 2))[i * 2 + j]? = some u := by rw [h4]; exact hu
      rw [List.getElem?_take_of_lt (by omega), Array.getElem?_toList] at e1
      rw [Nat.zero_add]
      exact e1
    exact ⟨key 0 _ (by omega) e0, key 1 _ (by omega) e1⟩
theorem affsAt_of_small {w : World} {lo : Nat} {e : TypeId} {v : Value} {ys : List Aff} (h : w.ownsRow lo e 5 v ys.length (affCells ys)) (hf : ∀ a ∈ ys, a.small) : AffsAt w v ys :=
  affsAt_of_owns h (fun i x hx => (hf x (List.mem_of_getElem? hx)).fits)
end Go.Proofs.Ytdhmefinbmkdaaa
