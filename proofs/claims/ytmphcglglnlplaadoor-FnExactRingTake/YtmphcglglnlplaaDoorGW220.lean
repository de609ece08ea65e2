/-
  Drawn words: a reader over a code; what l13Word and l13AnyWord draw; the law FnWordOk.
-/
import Derived.Test.YtmphcglglnlplaaDoorGW2
import Derived.Test.YtmphcglglnlplaaDoorW8
import Derived.Test.YtmphcglglnlplaaDoorW11
namespace Go.Proofs.YtmphcglglnlplaaDoor
open Go.RowKit
set_option linter.unusedVariables false
/-- What the walk is told of a slice of integers that came in. -/
def IsRow (k : IntKind) (w : World) (a : Option Addr) (len cap : Nat) (zs : List Int) : Prop :=
  (a = none ∧ len = 0 ∧ cap = 0 ∧ zs = []) ∨
  ∃ x, a = some x ∧ len ≤ cap ∧ cap ≤ maxLen ∧ zs.length = cap ∧ (∀ i, i < zs.length → w.cell? (x.add i) = some (.int k (zs.getD i 0))) ∧ ∀ n ∈ zs, (Lit.int k n).wf = true
theorem add_at (b o j : Nat) : (⟨b, o, none⟩ : Addr).add j = ⟨b, o + j, none⟩ := by unfold Addr.add; split <;> simp_all
theorem wf_u8_bounds {n : Int} (h : (Lit.int .u8 n).wf = true) : 0 ≤ n ∧ n ≤ 255 := by
  simpa [Lit.wf, IntKind.min, IntKind.max, IntKind.signed, IntKind.bits] using h
theorem wok_letter (s : ByteArray) (i : Nat) (hi : i < s.size) (h : wok s = true) : wok (s.extract i (i + 1)) = true := by
  unfold wok at h ⊢
  simp only [Bool.and_eq_true, decide_eq_true_eq] at h ⊢
  have hsz : (s.extract i (i + 1)).size = 1 := by simp; omega
  refine ⟨by omega, ?_, by omega⟩
  have e : (s.extract i (i + 1)).data.toList = (s.data.toList.drop i).take 1 := by
    simp
  rw [e]
  have ha := h.2.1
  unfold inr at ha ⊢
  rw [List.all_eq_true] at ha ⊢
  intro c hc
  exact ha c (List.mem_of_mem_drop (List.mem_of_mem_take hc))
theorem wok_empty : wok ⟨#[]⟩ = false := by decide
end Go.Proofs.YtmphcglglnlplaaDoor
/-
  A client that begins is ok.
-/
namespace Go.Proofs.YtmphcglglnlplaaDoor
open Go.RowKit
set_option linter.unusedVariables false
end Go.Proofs.YtmphcglglnlplaaDoor
