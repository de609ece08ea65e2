/-
  Plain mathematics: all strokes of a text left out.
-/
import Derived.Lib.Replace
import Derived.Lib.IndexMore
import Derived.Lib.IndexBytes
import Derived.Lib.IndexLaws
namespace Go.Proofs.YtpebhenkdglohaaDoor
set_option linter.unusedVariables false
/-- Without strokes. -/
def noS (l : List UInt8) : List UInt8 := l.filter fun c => c != 45
theorem split_at (l : List UInt8) (o : Nat) (h : Go.Lib.indexByte l 45 = o) : l = l.take o ++ 45 :: l.drop (o + 1) ∧ (∀ c ∈ l.take o, c ≠ 45) := by
  have hs := Go.Lib.indexByte_some h
  obtain ⟨hlt, he⟩ := List.getElem?_eq_some_iff.1 hs.1
  constructor
  · rw [← he, ← List.drop_eq_getElem_cons hlt, List.take_append_drop]
  · intro c hc hcc
    obtain ⟨j, hj, hje⟩ := List.getElem_of_mem hc
    have hjo : j < o := by have := List.length_take_le o l; omega
    have : l[j]? = some c := by
      rw [List.getElem_take] at hje
      rw [← hje]; exact List.getElem?_eq_getElem _
    exact hs.2 j hjo (by rw [this, hcc])
theorem noS_none (l : List UInt8) (h : ∀ c ∈ l, c ≠ 45) : noS l = l := by
  unfold noS
  rw [List.filter_eq_self]
  intro c hc
  simpa using h c hc
theorem none_mem (l : List UInt8) (h : Go.Lib.indexByte l 45 = -1) : ∀ c ∈ l, c ≠ 45 := by
  intro c hc hcc
  obtain ⟨j, hj, hje⟩ := List.getElem_of_mem hc
  exact Go.Lib.indexByte_none h j (by rw [List.getElem?_eq_getElem hj, hje, hcc])
theorem index_cases (l : List UInt8) : Go.Lib.indexByte l 45 = -1 ∨ ∃ o : Nat, Go.Lib.indexByte l 45 = o := by
  have hge := Go.Lib.indexByte_ge l 45
  rcases Int.lt_or_le (Go.Lib.indexByte l 45) 0 with h | h
  · exact .inl (by omega)
  · exact .inr ⟨(Go.Lib.indexByte l 45).toNat, by omega⟩
theorem count_at (l : List UInt8) (o : Nat) (h : Go.Lib.indexByte l 45 = o) : l.count 45 = (l.drop (o + 1)).count 45 + 1 ∧ (l.drop (o + 1)).length < l.length := by
  obtain ⟨e, hn⟩ := split_at l o h
  have hlt := (List.getElem?_eq_some_iff.1 (Go.Lib.indexByte_some h).1).1
  constructor
  · have h0 : (l.take o).count 45 = 0 := List.count_eq_zero.2 (fun hm => hn _ hm rfl)
    calc l.count 45 = (l.take o ++ 45 :: l.drop (o + 1)).count 45 := by rw [← e]
      _ = _ := by rw [List.count_append, h0, List.count_cons_self]; omega
  · simp; omega
theorem countFrom_eq : ∀ (fuel : Nat) (l : List UInt8), l.length < fuel → Go.Lib.countFrom [45] fuel l = l.count 45
  | 0, l, h => by omega
  | fuel + 1, l, h => by
    rw [Go.Lib.countFrom, Go.Lib.index_one]
    rcases index_cases l with h1 | ⟨o, h1⟩
    · rw [h1, if_pos (by decide)]
      exact (List.count_eq_zero.2 (fun hm => none_mem l h1 _ hm rfl)).symm
    · have hc := count_at l o h1
      rw [h1, if_neg (by simp)]
      have : ((o : Int).toNat + [(45 : UInt8)].length) = o + 1 := by simp
      rw [this, countFrom_eq fuel (l.drop (o + 1)) (by omega)]; omega
theorem replaceK_eq : ∀ (n : Nat) (l : List UInt8) (k : Nat), l.length ≤ n → l.count 45 ≤ k → Go.Lib.replaceK [45] [] k l = noS l := by
  intro n
  induction n with
  | zero =>
    intro l k h _
    have : l = [] := List.length_eq_zero_iff.1 (by omega)
    subst this
    cases k with
    | zero => rfl
    | succ k => rw [Go.Lib.replaceK]; rfl
  | succ n ih =>
    intro l k h hk
    rcases index_cases l with h1 | ⟨o, h1⟩
    · have hn := noS_none l (none_mem l h1)
      cases k with
      | zero => rw [Go.Lib.replaceK, hn]
      | succ k => rw [Go.Lib.replaceK, Go.Lib.index_one, h1, if_pos (by decide), hn]
    · have hc := count_at l o h1
      obtain ⟨e, hn⟩ := split_at l o h1
      cases k with
      | zero => omega
      | succ k =>
        have e1 : ((o : Int).toNat + [(45 : UInt8)].length) = o + 1 := by simp
        have e2 : noS l = l.take o ++ noS (l.drop (o + 1)) := by
          calc noS l = noS (l.take o ++ 45 :: l.drop (o + 1)) := by rw [← e]
            _ = _ := by
              unfold noS
              rw [List.filter_append]
              have := noS_none (l.take o) hn
              unfold noS at this
              rw [this]
              rfl
        rw [Go.Lib.replaceK, Go.Lib.index_one, h1, if_neg (by simp), e1, ih _ k (by omega) (by omega), e2]
        simp
theorem replaceAll_eq (l : List UInt8) : Go.Lib.replaceAll l [45] [] = noS l := by
  unfold Go.Lib.replaceAll Go.Lib.replace
  rw [if_neg (by decide)]
  have : Go.Lib.replaceNum l [45] (-1) = l.count 45 := by
    unfold Go.Lib.replaceNum Go.Lib.count
    rw [if_pos (.inl (by decide))]
    exact countFrom_eq _ l (by omega)
  rw [this]
  exact replaceK_eq _ l _ (Nat.le_refl _) (Nat.le_refl _)
end Go.Proofs.YtpebhenkdglohaaDoor
