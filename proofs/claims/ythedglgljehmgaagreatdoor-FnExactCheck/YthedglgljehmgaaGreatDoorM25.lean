/-
  Plain mathematics: what is sorted and compacted is in order, each once, and holds the same texts.
-/
import Derived.Test.YthedglgljehmgaaGreatDoorM4
import Derived.Lib.SlicesCompact
namespace Go.Proofs.YthedglgljehmgaaGreatDoor
set_option linter.unusedVariables false
theorem mem_upTo (d : Array (List UInt8)) (x : List UInt8) : ∀ m, x ∈ Lib.compactUpTo d m ↔ ∃ j, j < m ∧ d[j]! = x
  | 0 => by simp [Lib.compactUpTo]
  | m + 1 => by
    rw [Lib.compactUpTo_succ, List.mem_append, mem_upTo d x m]
    constructor
    · rintro (⟨j, hj, e⟩ | h)
      · exact ⟨j, by omega, e⟩
      · split at h
        · rw [List.mem_singleton] at h
          exact ⟨m, by omega, h.symm⟩
        · cases h
    · rintro ⟨j, hj, e⟩
      by_cases hjm : j = m
      · subst hjm
        by_cases hk : Lib.keeps d j = true
        · right
          rw [if_pos hk, e]
          exact List.mem_singleton.2 rfl
        · left
          have hk' : ¬ (j = 0 ∨ d[j]! ≠ d[j - 1]!) := by simpa only [Lib.keeps, decide_eq_true_eq] using hk
          have h0 : j ≠ 0 := fun e => hk' (.inl e)
          have h1 : d[j]! = d[j - 1]! := Classical.byContradiction fun e => hk' (.inr e)
          exact ⟨j - 1, by omega, h1 ▸ e⟩
      · exact .inl ⟨j, by omega, e⟩
theorem asc_upTo (d : Array (List UInt8)) (hd : ∀ i j, i < j → j < d.size → d[i]! ≤ d[j]!) : ∀ m, m ≤ d.size → (Lib.compactUpTo d m).Pairwise (fun a b => a < b)
  | 0, _ => by simp [Lib.compactUpTo]
  | m + 1, hm => by
    rw [Lib.compactUpTo_succ, List.pairwise_append]
    refine ⟨asc_upTo d hd m (by omega), by split <;> simp, fun x hx y hy => ?_⟩
    obtain ⟨j, hj, rfl⟩ := (mem_upTo d x m).1 hx
    split at hy
    · rename_i hk
      rw [List.mem_singleton] at hy
      subst hy
      have hk' : m = 0 ∨ d[m]! ≠ d[m - 1]! := by simpa only [Lib.keeps, decide_eq_true_eq] using hk
      have hne : d[m]! ≠ d[m - 1]! := by rcases hk' with e | e; omega; exact e
      have h1 : d[m - 1]! ≤ d[m]! := hd (m - 1) m (by omega) (by omega)
      have h2 : d[m - 1]! < d[m]! := by
        rcases List.le_iff_lt_or_eq.1 h1 with h | h
        · exact h
        · exact absurd h.symm hne
      by_cases e : j = m - 1
      · rw [e]; exact h2
      · have h3 : d[j]! ≤ d[m - 1]! := hd j (m - 1) (by omega) (by omega)
        exact List.lt_of_le_of_lt h3 h2
    · cases hy
/-- In order, each once. -/
def onceS (zs : List (List UInt8)) : List (List UInt8) := Lib.compact (zs.mergeSort fun x y => decide (x ≤ y))
theorem onceS_nil : onceS [] = [] := by simp [onceS, Lib.compact, Lib.compactUpTo]
theorem mem_onceS (zs : List (List UInt8)) (x : List UInt8) : x ∈ onceS zs ↔ x ∈ zs := by
  unfold onceS Lib.compact
  rw [mem_upTo, ← List.mem_mergeSort (le := fun x y => decide (x ≤ y)) (l := zs)]
  generalize (zs.mergeSort fun x y => decide (x ≤ y)) = qs
  rw [List.mem_iff_getElem]
  constructor
  · rintro ⟨j, hj, e⟩
    exact ⟨j, hj, by simpa [getElem!_pos, hj] using e⟩
  · rintro ⟨j, hj, e⟩
    exact ⟨j, hj, by simpa [getElem!_pos, hj] using e⟩
theorem onceS_asc (zs : List (List UInt8)) : (onceS zs).Pairwise (fun a b => a < b) := by
  unfold onceS Lib.compact
  have hs : (zs.mergeSort fun x y => decide (x ≤ y)).Pairwise (fun a b => decide (a ≤ b) = true) := List.pairwise_mergeSort (le := fun x y => decide (x ≤ y)) (fun a b c h1 h2 => decide_eq_true (List.le_trans (of_decide_eq_true h1) (of_decide_eq_true h2))) (fun a b => by
    rcases List.le_total a b with h | h <;> simp [h]) zs
  generalize (zs.mergeSort fun x y => decide (x ≤ y)) = qs at hs
  refine asc_upTo _ (fun i j hij hj => ?_) _ (by simp)
  have hj' : j < qs.length := by simpa using hj
  have := List.pairwise_iff_getElem.1 hs i j (by omega) hj' hij
  simpa [getElem!_pos, hj', show i < qs.length by omega] using this
/-- As texts. -/
def onceT (zs : List (List UInt8)) : List ByteArray := (onceS zs).map fun x => ⟨x.toArray⟩
theorem onceT_asc (zs : List (List UInt8)) : Asc (onceT zs) := by
  unfold onceT Asc
  rw [List.pairwise_map]
  refine (onceS_asc zs).imp fun {a b} h => ?_
  rw [tlt_eq]
  simpa using h
theorem mem_onceT (ys : List ByteArray) (x : ByteArray) : x ∈ onceT (ys.map fun y => y.data.toList) ↔ x ∈ ys := by
  unfold onceT
  rw [List.mem_map]
  constructor
  · rintro ⟨z, hz, rfl⟩
    rw [mem_onceS, List.mem_map] at hz
    obtain ⟨y, hy, rfl⟩ := hz
    simpa using hy
  · intro hx
    exact ⟨x.data.toList, (mem_onceS _ _).2 (List.mem_map.2 ⟨x, hx, rfl⟩), by simp⟩
/-- A list in order, each once, of the texts of another list. -/
theorem once_eq (ys l : List ByteArray) (hl : Asc l) (h : ∀ x, x ∈ l ↔ x ∈ ys) : onceT (ys.map fun y => y.data.toList) = l :=
  asc_unique _ _ (onceT_asc _) hl fun x => (mem_onceT ys x).trans (h x).symm
end Go.Proofs.YthedglgljehmgaaGreatDoor
