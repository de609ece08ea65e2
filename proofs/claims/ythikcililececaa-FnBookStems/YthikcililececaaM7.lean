/-
  Plain mathematics: how far two texts are at least and at most; no way just to itself.
-/
import Derived.Test.YthikcililececaaM3
namespace Go.Proofs.Ythikcililececaa
set_option linter.unusedVariables false
theorem D_ge (x y : Nat → UInt8) : ∀ (n i k : Nat), i + k ≤ n → (i : Int) - k ≤ D x y i k ∧ (k : Int) - i ≤ D x y i k := by
  intro n
  induction n with
  | zero => intro i k h; have : i = 0 := by omega
            subst this; rw [D_zero]; omega
  | succ n ih =>
    intro i k h
    cases i with
    | zero => rw [D_zero]; omega
    | succ i =>
      cases k with
      | zero => rw [D_left]; omega
      | succ k =>
        have h1 := ih i k (by omega)
        have h2 := ih i (k + 1) (by omega)
        have h3 := ih (i + 1) k (by omega)
        have h4 := ih (i - 1) (k - 1) (by omega)
        have hc := cost_bd x y i k
        rw [D_succ]
        split
        · next ht =>
          have : 0 < i ∧ 0 < k := by
            unfold tr at ht
            simp only [Bool.and_eq_true, decide_eq_true_eq] at ht
            exact ⟨ht.1, ht.2.1⟩
          omega
        · omega
theorem D_max (x y : Nat → UInt8) : ∀ (n i k : Nat), i + k ≤ n → D x y i k ≤ max (i : Int) k := by
  intro n
  induction n with
  | zero => intro i k h; have : i = 0 := by omega
            subst this; rw [D_zero]; omega
  | succ n ih =>
    intro i k h
    cases i with
    | zero => rw [D_zero]; omega
    | succ i =>
      cases k with
      | zero => rw [D_left]; omega
      | succ k =>
        have h1 := ih i k (by omega)
        have hc := cost_bd x y i k
        rw [D_succ]
        split <;> omega
theorem D_none (x y : Nat → UInt8) : ∀ (n i k : Nat), i + k ≤ n → D x y i k = 0 → i = k ∧ ∀ j, j < i → x j = y j := by
  intro n
  induction n with
  | zero => intro i k h h0; exact ⟨by omega, fun j hj => absurd hj (by omega)⟩
  | succ n ih =>
    intro i k h h0
    cases i with
    | zero => rw [D_zero] at h0; exact ⟨by omega, fun j hj => absurd hj (by omega)⟩
    | succ i =>
      cases k with
      | zero => rw [D_left] at h0; omega
      | succ k =>
        have h2 := D_pos x y i (k + 1)
        have h3 := D_pos x y (i + 1) k
        have h4 := D_pos x y (i - 1) (k - 1)
        have h5 := D_pos x y i k
        have hc := cost_bd x y i k
        have h6 : D x y i k + cost x y i k = 0 := by
          rw [D_succ] at h0
          split at h0 <;> omega
        obtain ⟨e, hl⟩ := ih i k (by omega) (by omega)
        have hci : cost x y i k = 0 := by omega
        refine ⟨by omega, fun j hj => ?_⟩
        by_cases ej : j = i
        · subst ej
          unfold cost at hci
          split at hci
          · next he => rw [he, e]
          · omega
        · exact hl j (by omega)
theorem D_self (x y : Nat → UInt8) : ∀ i : Nat, (∀ j, j < i → x j = y j) → D x y i i = 0 := by
  intro i
  induction i with
  | zero => intro _; rw [D_zero]; rfl
  | succ i ih =>
    intro h
    have h1 := ih (fun j hj => h j (by omega))
    have hc : cost x y i i = 0 := by unfold cost; rw [if_pos (h i (by omega))]
    have h2 := D_pos x y (i + 1) (i + 1)
    have h3 : D x y (i + 1) (i + 1) ≤ D x y i i + cost x y i i := by
      rw [D_succ]; split <;> omega
    omega
theorem far_eq_zero (a b : ByteArray) : far a b = 0 ↔ a = b := by
  unfold far
  constructor
  · intro h
    obtain ⟨e, hl⟩ := D_none _ _ _ _ _ (Nat.le_refl _) h
    cases a with | mk a =>
    cases b with | mk b =>
    have hs : a.size = b.size := e
    congr
    apply Array.ext hs
    intro i h1 h2
    have := hl i h1
    rw [lt_get _ i h1, lt_get _ i h2] at this
    exact this
  · rintro rfl
    exact D_self _ _ _ fun _ _ => rfl
end Go.Proofs.Ythikcililececaa
