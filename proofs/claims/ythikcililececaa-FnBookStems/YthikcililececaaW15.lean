/-
  Drawn pairs of words; the laws FnFar, FnBeginning and FnWithin.
-/
import Derived.Test.YthikcililececaaM6
import Derived.Test.YthikcililececaaW3
import Derived.Test.YthikcililececaaW10
import Derived.Test.YthikcililececaaW12
import Derived.Test.YthikcililececaaW14
namespace Go.Proofs.Ythikcililececaa
open Go.RowKit
set_option linter.unusedVariables false
theorem TextRow.kept {w w' : World} {v : Value} {ss : List ByteArray} {blk p : Nat} (h : TextRow w v ss) (hr : RdAt w blk p) (hk : Kept blk w w') : TextRow w' v ss := by
  obtain ⟨g, cap, hv, hc, hcell, cur, hcur⟩ := h
  obtain ⟨a, len, cp, h1, _⟩ := hr
  have hne : g ≠ blk := by
    rintro rfl
    rw [h1] at hcur
    simp at hcur
  have hlt := lt_of_block hcur
  exact ⟨g, cap, hv, hc, fun i s hs => (hk.cell (p := ⟨g, i, none⟩) hlt hne).trans (hcell i s hs), cur, (hk.block g hlt hne).trans hcur⟩
/-- One of the texts, by a number. -/
theorem TextRow.look {w : World} {v : Value} {ss : List ByteArray} (h : TextRow w v ss) (hne : ss ≠ []) (x : Int) (hx : 0 ≤ x) :
    ∃ g cap i : Nat, ∃ s, v = .slice (some ⟨g, 0, none⟩) ss.length cap ∧ x.tmod (ss.length : Int) = (i : Int) ∧ x % (ss.length : Int) = (i : Int) ∧ i < ss.length ∧ w.cell? ⟨g, i, none⟩ = some (.string s) ∧ s ∈ ss := by
  obtain ⟨g, cap, hv, hc, hcell, _⟩ := h
  obtain ⟨n, rfl⟩ := Int.eq_ofNat_of_zero_le hx
  have hl : 0 < ss.length := by cases ss with | nil => exact absurd rfl hne | cons => simp
  have hi : n % ss.length < ss.length := Nat.mod_lt _ hl
  exact ⟨g, cap, n % ss.length, ss[n % ss.length], hv, rfl, rfl, hi, hcell _ _ (List.getElem?_eq_getElem hi), List.getElem_mem hi⟩
theorem farW_comm (a b : ByteArray) : farW a b = farW b a := by
  unfold farW
  by_cases h : wok a = true ∧ wok b = true
  · rw [if_pos h, if_pos h.symm]
    exact D_comm _ _ _ _ _ (Nat.le_refl _)
  · rw [if_neg h, if_neg fun x => h x.symm]
theorem cpl_extract (a b : ByteArray) : a.extract 0 (cpl a.data.toList b.data.toList) = b.extract 0 (cpl b.data.toList a.data.toList) := by
  apply data_inj
  rw [data_extract, data_extract, cpl_comm b.data.toList]
  simp only [List.drop_zero]
  exact cpl_take a.data.toList b.data.toList
end Go.Proofs.Ythikcililececaa
