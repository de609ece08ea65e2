/-
  Copies of rows of texts.
-/
import Derived.Test.YtdjpeickokoclaaGW213
import Derived.Test.YtdjpeickokoclaaGW404
import Derived.Test.YtdjpeickokoclaaW189
import Derived.Test.YtdjpeickokoclaaGW220
import Derived.Test.YtdjpeickokoclaaGW92
import Derived.Deep.RegionHeld3
namespace Go.Proofs.Ytdjpeickokoclaa
open Go.RowKit
set_option linter.unusedVariables false
theorem add_plain398 (b o j : Nat) : (⟨b, o, none⟩ : Addr).add j = ⟨b, o + j, none⟩ := by unfold Addr.add; split <;> simp_all
theorem texts_one405 (xs : List ByteArray) : ∀ u ∈ texts xs, u.oneCell' = true := by
  intro u hu
  simp only [texts, List.mem_map] at hu
  obtain ⟨a, _, rfl⟩ := hu
  rfl
theorem news_texts {W : World} {xs : List ByteArray} {b off n cap : Nat} (h : TextsAt W (.slice (some ⟨b, off, none⟩) n cap) xs) : ∀ j u, (texts xs)[j]? = some u → W.cell? ((⟨b, off, none⟩ : Addr).add j) = some u := by
  intro j u hu
  have hj : j < xs.length := by have := (List.getElem?_eq_some_iff.1 hu).1; simpa [texts] using this
  obtain ⟨b', off', cap', x, hv, _, hx, _, h0⟩ := h.at hj
  cases hv
  rw [add_plain398, h0]
  simp [texts, hx] at hu
  rw [hu]
theorem textsRow_of_owns {lo : Nat} {w : World} {v : Value} {xs : List ByteArray} {n : Nat} (h : w.ownsRow lo 9 1 v n (texts xs)) (hn : n = xs.length) (hf : ∀ (i : Nat) (x : ByteArray), xs[i]? = some x → x.size ≤ maxLen) : TextsRow lo w.heap.size w v xs := by
  subst hn
  exact ⟨rowOwn_of_owns h fun f hf j x hj hx => hf j _ (by simp [texts, hx]), hf⟩
theorem Try.info_str405 : (Try.prog.info? 9).map (fun i => (i.zero, i.size, i.bytes)) = some (some (.string ⟨#[]⟩), 1, 16) := by kernel_rfl
end Go.Proofs.Ytdjpeickokoclaa
/-
  A ring with a key more.
-/
namespace Go.Proofs.Ytdjpeickokoclaa
open Go.RowKit
set_option linter.unusedVariables false
def intsV (ns : List Int) : List Value := ns.map fun n => .int .i64 n
theorem one_int (n : Int) : ∀ u ∈ [Value.int .i64 n], u.oneCell' = true := by intro u hu; simp at hu; subst hu; rfl
theorem intsV_one (xs : List Int) : ∀ u ∈ intsV xs, u.oneCell' = true := by
  intro u hu
  simp only [intsV, List.mem_map] at hu
  obtain ⟨a, _, rfl⟩ := hu
  rfl
/-- Another row, of another type, was written behind its end. -/
theorem owns_grown {w w' : World} {lo lo' : Nat} {e e' : TypeId} {s s' n n' : Nat} {v v' : Value} {xs xs' : List Value} (h : w.ownsRow lo e s v n xs) (h' : w.ownsRow lo' e' s' v' n' xs') (hne : e ≠ e') (hg : w.grownBy w' v'.ownBlock) : w'.ownsRow lo e s v n xs := by
  have hap := rows_apart h h' hne
  refine ⟨h.1, ?_⟩
  rcases h.2 with h1 | ⟨g, cap, cur, hv, h2, h3, h4⟩
  · exact .inl h1
  · refine .inr ⟨g, cap, cur, hv, h2, ?_, h4⟩
    have hlt : g < w.heap.size := (Array.getElem?_eq_some_iff.1 h3).1
    rw [hg.block g hlt ?_]
    · exact h3
    · intro e0
      rcases hap with hap | hap
      · rw [hv] at hap; cases hap
      · exact hap (by rw [hv]; exact e0)
theorem news_ints {W : World} {xs : List Int} {b off n cap : Nat} (h : IntsAt W (.slice (some ⟨b, off, none⟩) n cap) xs) : ∀ j u, (intsV xs)[j]? = some u → W.cell? ((⟨b, off, none⟩ : Addr).add j) = some u := by
  intro j u hu
  have hj : j < xs.length := by have := (List.getElem?_eq_some_iff.1 hu).1; simpa [intsV] using this
  obtain ⟨b', off', cap', x, hv, _, hx, h0⟩ := h.at hj
  cases hv
  rw [add_plainI, h0]
  simp [intsV, hx] at hu
  rw [hu]
theorem intsRow_of_owns {lo : Nat} {w : World} {v : Value} {xs : List Int} {n : Nat} (h : w.ownsRow lo 3 1 v n (intsV xs)) (hn : n = xs.length) : IntsRow lo w.heap.size w v xs := by
  subst hn
  exact rowOwn_of_owns h fun f hf j x hj hx => hf j _ (by simp [intsV, hx])
theorem Try.info_int405 : (Try.prog.info? 3).map (fun i => (i.zero, i.size, i.bytes)) = some (some (.int .i64 0), 1, 8) := by kernel_rfl
theorem lt_of_block405 {w : World} {b : Nat} {o : Obj} (h : w.heap[b]? = some o) : b < w.heap.size := (Array.getElem?_eq_some_iff.1 h).1
theorem heap_oth405 (w : World) {B g o : Nat} (u : Value) (h : B ≠ g) : (w.setCell ⟨g, o, none⟩ u).heap[B]? = w.heap[B]? := Below.heap_setCell _ _ _ _ h
end Go.Proofs.Ytdjpeickokoclaa
/-
  RingNew of both.
-/
namespace Go.Proofs.Ytdjpeickokoclaa
open Go.RowKit
set_option linter.unusedVariables false
theorem nilRing {lo hi : Nat} (w : World) : RingOwn lo hi w (.agg #[.slice none 0 0, .slice none 0 0]) ([], []) :=
  ⟨_, _, rfl, ⟨⟨none, 0, rfl, Nat.le_refl _, Nat.zero_le _, fun hn => absurd rfl hn⟩, fun i x hx => by simp at hx⟩, ⟨none, 0, rfl, Nat.le_refl _, Nat.zero_le _, fun hn => absurd rfl hn⟩⟩
end Go.Proofs.Ytdjpeickokoclaa
/-
  The law FnRingNew.
-/
namespace Go.Proofs.Ytdjpeickokoclaa
open Go.RowKit
set_option linter.unusedVariables false
end Go.Proofs.Ytdjpeickokoclaa
