/-
  spec.Near.
-/
import Derived.Test.YtbkjbkdmanaohaaW14
import Derived.Test.YtbkjbkdmanaohaaGW93
namespace Go.Proofs.Ytbkjbkdmanaohaa
open Go.RowKit
set_option linter.unusedVariables false
/-- What Near answers. -/
def nearL (s : ByteArray) : List ByteArray := if wok s then near s else []
theorem wok_le12 {s : ByteArray} (h : wok s = true) : s.size ≤ 12 := by
  simp only [wok, Bool.and_eq_true, decide_eq_true_eq] at h
  omega
theorem nearL_length (s : ByteArray) : (nearL s).length ≤ 1000 := by
  unfold nearL
  split
  · rename_i h
    have h1 := wok_le12 h
    have h2 := nearTo_length s (s.size + 1)
    unfold near
    omega
  · simp
theorem TextRow.at {w : World} {v : Value} {ss : List ByteArray} (h : TextRow w v ss) (hl : ss.length ≤ 1000) (hs : ∀ x ∈ ss, x.size ≤ 12) : TextsAt w v ss := by
  obtain ⟨g, cap, hv, hc, hcell, cur, hcur⟩ := h
  refine ⟨_, cap, hv, hc, by unfold maxLen; omega, fun i x hx => ?_, fun _ => ⟨g, 0, rfl, lt_of_block hcur, fun i x hx => ?_⟩⟩
  · have := hs x (List.mem_of_getElem? hx)
    unfold maxLen
    omega
  · rw [Nat.zero_add]
    exact hcell i x hx
end Go.Proofs.Ytbkjbkdmanaohaa
