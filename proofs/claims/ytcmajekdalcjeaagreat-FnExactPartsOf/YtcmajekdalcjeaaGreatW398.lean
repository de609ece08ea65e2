/-
  Copies of rows of texts.
-/
import Derived.Test.YtcmajekdalcjeaaGreatW129
import Derived.Test.YtcmajekdalcjeaaGreatGW143
namespace Go.Proofs.YtcmajekdalcjeaaGreat
open Go.RowKit
set_option linter.unusedVariables false
theorem add_plain398 (b o j : Nat) : (⟨b, o, none⟩ : Addr).add j = ⟨b, o + j, none⟩ := by unfold Addr.add; split <;> simp_all
theorem texts_one405 (xs : List ByteArray) : ∀ u ∈ texts xs, u.oneCell' = true := by
  intro u hu
  simp only [texts, List.mem_map] at hu
  obtain ⟨a, _, rfl⟩ := hu
  rfl
theorem news_texts {W : World} {xs : List ByteArray} {b off n cap : Nat} (h : TextsAt W (.slice (some ⟨b, off, none⟩) n cap) xs) : ∀ j u, (texts xs)[j]? = some u → W.cell? ((⟨b, off, none⟩ : Addr).add j) = some u := by
  intro j u hu
  have hj : j < xs.length := by have := (List.getElem?_eq_some_iff.1 hu).1; simpa [texts] using this
  obtain ⟨b', off', cap', x, hv, _, hx, _, h0⟩ := h.at hj
  cases hv
  rw [add_plain398, h0]
  simp [texts, hx] at hu
  rw [hu]
theorem textsRow_of_owns {lo : Nat} {w : World} {v : Value} {xs : List ByteArray} {n : Nat} (h : w.ownsRow lo 9 1 v n (texts xs)) (hn : n = xs.length) (hf : ∀ (i : Nat) (x : ByteArray), xs[i]? = some x → x.size ≤ maxLen) : TextsRow lo w.heap.size w v xs := by
  subst hn
  exact ⟨rowOwn_of_owns h fun f hf j x hj hx => hf j _ (by simp [texts, hx]), hf⟩
theorem Tryz.info_str405 : (Tryz.prog.info? 9).map (fun i => (i.zero, i.size, i.bytes)) = some (some (.string ⟨#[]⟩), 1, 16) := by kernel_rfl
end Go.Proofs.YtcmajekdalcjeaaGreat
