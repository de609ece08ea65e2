/-
  Copies of rows of texts.
-/
import Derived.Test.YtnhbgfgbeehipaaW129
import Derived.Test.YtnhbgfgbeehipaaGW143
namespace Go.Proofs.Ytnhbgfgbeehipaa
open Go.RowKit
set_option linter.unusedVariables false
theorem add_plain398 (b o j : Nat) : (⟨b, o, none⟩ : Addr).add j = ⟨b, o + j, none⟩ := by unfold Addr.add; split <;> simp_all
theorem texts_one405 (xs : List ByteArray) : ∀ u ∈ texts xs, u.oneCell' = true := by
  intro u hu
  simp only [texts, List.mem_map] at hu
  obtain ⟨a, _, rfl⟩ := hu
  rfl
theorem news_texts {W : World} {xs : List ByteArray} {b off n cap : Nat} (h : TextsAt W (.slice (some ⟨b, off, none⟩) n cap) xs) : ∀ j u, (texts xs)[j]? = some u → W.cell? ((⟨b, off, none⟩ : Addr).add j) = some u := by
  intro j u hu
  have hj : j < xs.length := by have := (List.getElem?_eq_some_iff.1 hu).1; simpa [texts] using this
  obtain ⟨b', off', cap', x, hv, _, hx, _, h0⟩ := h.at hj
  cases hv
  rw [add_plain398, h0]
  simp [texts, hx] at hu
  rw [hu]
theorem textsRow_of_owns {lo : Nat} {w : World} {v : Value} {xs : List ByteArray} {n : Nat} (h : w.ownsRow lo 9 1 v n (texts xs)) (hn : n = xs.length) (hf : ∀ (i : Nat) (x : ByteArray), xs[i]? = some x → x.size ≤ maxLen) : TextsRow lo w.heap.size w v xs := by
  subst hn
  exact ⟨rowOwn_of_owns h fun f hf j x hj hx => hf j _ (by simp [texts, hx]), hf⟩
theorem Try.info_str405 : (Try.prog.info? 9).map (fun i => (i.zero, i.size, i.bytes)) = some (some (.string ⟨#[]⟩), 1, 16) := by kernel_rfl
set_option maxHeartbeats 1000000 in
theorem copyOfT_any (w : World) (v : Value) (xs : List ByteArray) (h : TextsAt w v xs) (hn : xs.length ≤ 1000) :
    Calls Try.prog 18 #[v] w fun e w' => ∃ v', e = .returned v' ∧ w'.ownsRow w.heap.size 9 1 v' xs.length (texts xs) ∧ Below w.heap.size w w' := by
  obtain ⟨a, cap, rfl, hc, hm⟩ := h.form
  have HS : Hid (TextsAt w (.slice a xs.length cap) xs) := h
  clear h
  unfold maxLen at hm
  obtain ⟨i3, hi3, hz3, hs3, hb3⟩ := info_parts Try.info_str405
  by_cases h0 : xs = []
  · subst h0
    have hl : ([] : List ByteArray).length = 0 := rfl
    rw [hl]
    cases a with
    | none =>
      go_enter Try.func18, Try.ntmps18
      go_wp2
      go_ret
      exact ⟨_, rfl, World.ownsRow_nil _ _ _ _, Below.refl _ _⟩
    | some ad =>
      go_enter Try.func18, Try.ntmps18
      go_wp2
      go_ret
      exact ⟨_, rfl, World.ownsRow_nil _ _ _ _, Below.refl _ _⟩
  · obtain ⟨b, off, cap1, x, hv, hbl, hx, _, _⟩ := HS.out.at (k := 0) (by cases xs with | nil => exact absurd rfl h0 | cons _ _ => simp)
    cases hv
    clear hx
    go_enter Try.func18, Try.ntmps18
    go_wp2_with (at_builtin; refine wpList_append_own _ rfl _ _ 22 rfl w.heap.size 9 i3 (.string ⟨#[]⟩) 1 16 Try.underlying22 hi3 hz3 hs3 hb3 rfl (by decide) (.slice none 0 0) 0 [] rfl (World.ownsRow_nil _ _ _ _) ⟨b, off, none⟩ xs.length cap (texts xs) rfl (by simp [texts]) (news_texts HS.out) (texts_one405 xs) (by unfold maxLen; omega) (by omega) (Nat.le_refl _) ?_; intro v1 w1 hown hgrow hnil; have HB1 : Hid (Below w.heap.size w w1) := below_of_grown hgrow (fun k hk => by cases hk) (Nat.le_refl _); have HO : Hid (w1.ownsRow w.heap.size 9 1 v1 xs.length (texts xs)) := (by rw [Nat.zero_add, List.nil_append] at hown; exact hown); clear hown hgrow hnil)
    go_ret
    exact ⟨_, rfl, HO.out, HB1.out⟩
end Go.Proofs.Ytnhbgfgbeehipaa
