/-
  Plain mathematics: letters with points at the ends alone.
-/
import Derived.Test.YtehpdlokacdifaaGM46
import Derived.Lib.Strings
namespace Go.Proofs.Ytehpdlokacdifaa
set_option linter.unusedVariables false
def isLoP (c : UInt8) : Prop := 97 ≤ (c.toNat : Int) ∧ (c.toNat : Int) ≤ 122
/-- Each byte is a letter, or a point at an end. -/
def LOk (l : List UInt8) : Prop := ∀ (i : Nat) (c : UInt8), l[i]? = some c → (c = 46 ∧ (i = 0 ∨ i + 1 = l.length)) ∨ isLoP c
def LEnd (l : List UInt8) : Prop := ∀ (i : Nat) (c : UInt8), l[i]? = some c → (c = 46 ∧ i + 1 = l.length) ∨ isLoP c
theorem inr_iff (l : List UInt8) : inr 97 122 l = true ↔ ∀ (i : Nat) (c : UInt8), l[i]? = some c → isLoP c := by
  unfold inr isLoP
  rw [List.all_eq_true]
  constructor
  · intro h i c hc
    have := h c (List.mem_of_getElem? hc)
    simpa using this
  · intro h c hc
    obtain ⟨i, hi, he⟩ := List.getElem_of_mem hc
    have := h i c (by rw [← he]; exact List.getElem?_eq_getElem hi)
    simpa using this
theorem suffix_point (t : List UInt8) (z : UInt8) : Go.Lib.hasSuffix (t ++ [z]) [46] = (z == 46) := by
  unfold Go.Lib.hasSuffix
  rw [Bool.eq_iff_iff, List.isSuffixOf_iff_suffix, beq_iff_eq]
  constructor
  · rintro ⟨p, hp⟩
    have := List.append_inj' hp rfl
    have h2 := this.2
    simp at h2
    exact h2.symm
  · rintro rfl; exact ⟨t, rfl⟩
theorem trimS_iff (t : List UInt8) : inr 97 122 (Go.Lib.trimSuffix t [46]) = true ↔ LEnd t := by
  rcases List.eq_nil_or_concat t with rfl | ⟨t', z, rfl⟩
  · constructor
    · intro _ i c hc; simp at hc
    · intro _; rfl
  · unfold Go.Lib.trimSuffix
    rw [List.concat_eq_append, suffix_point]
    by_cases hz : z = 46
    · subst hz
      rw [if_pos (by simp)]
      have e : (t' ++ [46]).take ((t' ++ [(46 : UInt8)]).length - [(46 : UInt8)].length) = t' := by simp
      rw [e, inr_iff]
      constructor
      · intro h i c hc
        rcases Nat.lt_trichotomy i t'.length with hlt | heq | hgt
        · rw [List.getElem?_append_left hlt] at hc; exact .inr (h i c hc)
        · subst heq
          rw [List.getElem?_append_right (Nat.le_refl _)] at hc
          simp at hc
          exact .inl ⟨hc.symm, by simp⟩
        · rw [List.getElem?_eq_none (by simp; omega)] at hc; cases hc
      · intro h i c hc
        have hlt : i < t'.length := (List.getElem?_eq_some_iff.1 hc).1
        rcases h i c (by rw [List.getElem?_append_left hlt]; exact hc) with ⟨_, h2⟩ | h2
        · simp at h2; omega
        · exact h2
    · rw [if_neg (by simpa using hz), inr_iff]
      constructor
      · intro h i c hc; exact .inr (h i c hc)
      · intro h i c hc
        rcases h i c hc with ⟨h1, h2⟩ | h2
        · have hi : i = t'.length := by simp at h2; omega
          subst hi
          rw [List.getElem?_append_right (Nat.le_refl _)] at hc
          simp at hc
          exact absurd (hc.trans h1) hz
        · exact h2
theorem trimP_cons (a : UInt8) (m : List UInt8) : Go.Lib.trimPrefix (a :: m) [46] = if a = 46 then m else a :: m := by
  unfold Go.Lib.trimPrefix Go.Lib.hasPrefix
  by_cases h : a = 46
  · subst h; simp
  · rw [if_neg h, if_neg]
    simp
    intro e; exact h e.symm
theorem trims_iff (l : List UInt8) : inr 97 122 (Go.Lib.trimSuffix (Go.Lib.trimPrefix l [46]) [46]) = true ↔ LOk l := by
  rw [trimS_iff]
  cases l with
  | nil =>
    constructor
    · intro _ i c hc; simp at hc
    · intro _ i c hc
      have : Go.Lib.trimPrefix ([] : List UInt8) [46] = [] := rfl
      rw [this] at hc; simp at hc
  | cons a m =>
    rw [trimP_cons]
    by_cases h : a = 46
    · rw [if_pos h]
      constructor
      · intro hm i c hc
        cases i with
        | zero => simp at hc; exact .inl ⟨by rw [← hc, h], .inl rfl⟩
        | succ i =>
          simp at hc
          rcases hm i c hc with ⟨h1, h2⟩ | h2
          · exact .inl ⟨h1, .inr (by simp; omega)⟩
          · exact .inr h2
      · intro hl i c hc
        rcases hl (i + 1) c (by simpa using hc) with ⟨h1, h2⟩ | h2
        · exact .inl ⟨h1, by simp at h2; omega⟩
        · exact .inr h2
    · rw [if_neg h]
      constructor
      · intro hm i c hc
        rcases hm i c hc with ⟨h1, h2⟩ | h2
        · exact .inl ⟨h1, .inr h2⟩
        · exact .inr h2
      · intro hl i c hc
        rcases hl i c hc with ⟨h1, h2 | h2⟩ | h2
        · subst h2; simp at hc; exact absurd (hc.trans h1) h
        · exact .inl ⟨h1, h2⟩
        · exact .inr h2
end Go.Proofs.Ytehpdlokacdifaa
