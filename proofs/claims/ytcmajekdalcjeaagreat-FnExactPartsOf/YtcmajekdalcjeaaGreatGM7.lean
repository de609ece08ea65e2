/-
  Plain mathematics: texts of bytes in a range.
-/
namespace Go.Proofs.YtcmajekdalcjeaaGreat
/-- Each byte of a text lies between two bounds. -/
def inr (lo hi : Int) (l : List UInt8) : Bool := l.all fun c => decide (lo ≤ (c.toNat : Int)) && decide ((c.toNat : Int) ≤ hi)
theorem inr_take_succ (lo hi : Int) (s : ByteArray) (k : Nat) (h : k < s.size) :
    inr lo hi (s.data.toList.take (k + 1)) = (inr lo hi (s.data.toList.take k) && (decide (lo ≤ (s[k].toNat : Int)) && decide ((s[k].toNat : Int) ≤ hi))) := by
  have e : s.data.toList.take (k + 1) = s.data.toList.take k ++ [s[k]] := by
    rw [List.take_succ_eq_append_getElem (by simpa using h)]; rfl
  rw [e]; simp [inr, List.all_append]
theorem inr_all (lo hi : Int) (s : ByteArray) (k : Nat) (h : s.size ≤ k) : inr lo hi (s.data.toList.take k) = inr lo hi s.data.toList := by
  rw [List.take_of_length_le (by simpa using h)]
theorem inr_bad (lo hi : Int) (s : ByteArray) (k : Nat) (h : k < s.size) (hb : (s[k].toNat : Int) < lo ∨ hi < (s[k].toNat : Int)) : inr lo hi s.data.toList = false := by
  have hm : s[k] ∈ s.data.toList := by
    have : s[k] = s.data[k] := rfl
    rw [this]; simp
  unfold inr
  rw [List.all_eq_false]
  refine ⟨s[k], hm, ?_⟩
  rcases hb with hb | hb <;> simp <;> omega
end Go.Proofs.YtcmajekdalcjeaaGreat
/-
  Plain mathematics: how long the common beginning of two texts is.
-/
namespace Go.Proofs.YtcmajekdalcjeaaGreat
def cpl : List UInt8 → List UInt8 → Nat
  | x :: xs, y :: ys => if x = y then cpl xs ys + 1 else 0
  | _, _ => 0
theorem cpl_eq (k : Nat) : ∀ (a b : List UInt8), k ≤ a.length → k ≤ b.length → a.take k = b.take k → (k = a.length ∨ k = b.length ∨ a[k]? ≠ b[k]?) → cpl a b = k := by
  induction k with
  | zero =>
    intro a b _ _ _ h
    cases a with
    | nil => rfl
    | cons x xs =>
      cases b with
      | nil => rfl
      | cons y ys =>
        have hne : x ≠ y := by simpa using h
        simp [cpl, hne]
  | succ k ih =>
    intro a b ha hb ht h
    cases a with
    | nil => simp at ha
    | cons x xs =>
      cases b with
      | nil => simp at hb
      | cons y ys =>
        simp only [List.take_succ_cons, List.cons.injEq] at ht
        simp only [List.length_cons, Nat.add_right_cancel_iff, List.getElem?_cons_succ] at h
        have := ih xs ys (by simpa using ha) (by simpa using hb) ht.2 h
        simp [cpl, ht.1, this]
theorem cpl_le_left : ∀ (a b : List UInt8), cpl a b ≤ a.length
  | [], _ => by simp [cpl]
  | x :: xs, [] => by simp [cpl]
  | x :: xs, y :: ys => by
    have := cpl_le_left xs ys
    by_cases h : x = y <;> simp [cpl, h] <;> omega
theorem cpl_comm : ∀ (a b : List UInt8), cpl a b = cpl b a
  | [], [] => rfl
  | [], _ :: _ => by simp [cpl]
  | _ :: _, [] => by simp [cpl]
  | x :: xs, y :: ys => by
    have := cpl_comm xs ys
    by_cases h : x = y
    · simp [cpl, h, this]
    · have h' : ¬ y = x := fun e => h e.symm
      simp [cpl, h, h']
theorem cpl_take : ∀ (a b : List UInt8), a.take (cpl a b) = b.take (cpl a b)
  | [], [] => rfl
  | [], _ :: _ => by simp [cpl]
  | _ :: _, [] => by simp [cpl]
  | x :: xs, y :: ys => by
    have ih := cpl_take xs ys
    by_cases h : x = y
    · simp [cpl, h, ih]
    · simp [cpl, h]
/-- Behind the common beginning the texts differ, or one ends. -/
theorem cpl_end : ∀ (a b : List UInt8), cpl a b = a.length ∨ cpl a b = b.length ∨ a[cpl a b]? ≠ b[cpl a b]?
  | [], _ => .inl (by simp [cpl])
  | _ :: _, [] => .inr (.inl (by simp [cpl]))
  | x :: xs, y :: ys => by
    have ih := cpl_end xs ys
    by_cases h : x = y
    · rcases ih with ih | ih | ih
      · left; simp [cpl, h, ih]
      · right; left; simp [cpl, h, ih]
      · right; right; simpa [cpl, h] using ih
    · right; right; simp [cpl, h]
/-- One letter more. -/
theorem take_snoc (s : ByteArray) (k : Nat) (h : k < s.size) : s.data.toList.take (k + 1) = s.data.toList.take k ++ [s[k]] := by
  rw [List.take_succ_eq_append_getElem (by simpa using h)]; rfl
theorem getElem?_data (s : ByteArray) (k : Nat) (h : k < s.size) : s.data.toList[k]? = some s[k] := by
  rw [List.getElem?_eq_getElem (by simpa using h)]; rfl
theorem data_length (s : ByteArray) : s.data.toList.length = s.size := rfl
end Go.Proofs.YtcmajekdalcjeaaGreat
/-
  Plain mathematics: how far two texts are, letter by letter.
-/
namespace Go.Proofs.YtcmajekdalcjeaaGreat
/-- What it costs to change one letter into another one. -/
def cost (x y : Nat → UInt8) (i k : Nat) : Int := if x i = y k then 0 else 1
/-- The last two letters of both are each other's turned. -/
def tr (x y : Nat → UInt8) (i k : Nat) : Bool := decide (0 < i) && (decide (0 < k) && ((x i == y (k - 1)) && (x (i - 1) == y k)))
/-- How far the beginnings of lengths i and k are. -/
def D (x y : Nat → UInt8) : Nat → Nat → Int
  | 0, k => k
  | i + 1, 0 => i + 1
  | i + 1, k + 1 =>
    if tr x y i k then min (min (D x y i k + cost x y i k) (min (D x y i (k + 1) + 1) (D x y (i + 1) k + 1))) (D x y (i - 1) (k - 1) + 1)
    else min (D x y i k + cost x y i k) (min (D x y i (k + 1) + 1) (D x y (i + 1) k + 1))
theorem D_zero (x y : Nat → UInt8) (k : Nat) : D x y 0 k = k := by rw [D]
theorem D_left (x y : Nat → UInt8) (i : Nat) : D x y i 0 = i := by
  cases i with
  | zero => rw [D]
  | succ i => rw [D]; rfl
theorem D_succ (x y : Nat → UInt8) (i k : Nat) : D x y (i + 1) (k + 1) =
    if tr x y i k then min (min (D x y i k + cost x y i k) (min (D x y i (k + 1) + 1) (D x y (i + 1) k + 1))) (D x y (i - 1) (k - 1) + 1)
    else min (D x y i k + cost x y i k) (min (D x y i (k + 1) + 1) (D x y (i + 1) k + 1)) := by rw [D]
theorem cost_bd (x y : Nat → UInt8) (i k : Nat) : 0 ≤ cost x y i k ∧ cost x y i k ≤ 1 := by unfold cost; split <;> omega
theorem D_bd (x y : Nat → UInt8) : ∀ (n i k : Nat), i + k ≤ n → 0 ≤ D x y i k ∧ D x y i k ≤ (i : Int) + k := by
  intro n
  induction n with
  | zero => intro i k h; have : i = 0 := by omega
            subst this; rw [D_zero]; omega
  | succ n ih =>
    intro i k h
    cases i with
    | zero => rw [D_zero]; omega
    | succ i =>
      cases k with
      | zero => rw [D_left]; omega
      | succ k =>
        have h1 := ih i k (by omega)
        have h2 := ih i (k + 1) (by omega)
        have h3 := ih (i + 1) k (by omega)
        have h4 := ih (i - 1) (k - 1) (by omega)
        have hc := cost_bd x y i k
        rw [D_succ]
        split <;> omega
theorem D_pos (x y : Nat → UInt8) (i k : Nat) : 0 ≤ D x y i k := (D_bd x y _ i k (Nat.le_refl _)).1
theorem D_le (x y : Nat → UInt8) (i k : Nat) : D x y i k ≤ (i : Int) + k := (D_bd x y _ i k (Nat.le_refl _)).2
/-- Only the letters of the two beginnings count. -/
theorem D_congr (x x' y y' : Nat → UInt8) : ∀ (n i k : Nat), i + k ≤ n → (∀ j, j < i → x j = x' j) → (∀ j, j < k → y j = y' j) → D x y i k = D x' y' i k := by
  intro n
  induction n with
  | zero => intro i k h _ _; have : i = 0 := by omega
            subst this; rw [D_zero, D_zero]
  | succ n ih =>
    intro i k h hx hy
    cases i with
    | zero => rw [D_zero, D_zero]
    | succ i =>
      cases k with
      | zero => rw [D_left, D_left]
      | succ k =>
        have h1 := ih i k (by omega) (fun j hj => hx j (by omega)) (fun j hj => hy j (by omega))
        have h2 := ih i (k + 1) (by omega) (fun j hj => hx j (by omega)) (fun j hj => hy j (by omega))
        have h3 := ih (i + 1) k (by omega) (fun j hj => hx j (by omega)) (fun j hj => hy j (by omega))
        have h4 := ih (i - 1) (k - 1) (by omega) (fun j hj => hx j (by omega)) (fun j hj => hy j (by omega))
        have hc : cost x y i k = cost x' y' i k := by unfold cost; rw [hx i (by omega), hy k (by omega)]
        have ht : tr x y i k = tr x' y' i k := by unfold tr; rw [hx i (by omega), hy k (by omega), hx (i - 1) (by omega), hy (k - 1) (by omega)]
        rw [D_succ, D_succ, h1, h2, h3, h4, hc, ht]
/-- The letters of a text by their places. -/
def lt (s : ByteArray) (j : Nat) : UInt8 := s.data.toList.getD j 0
theorem lt_get (s : ByteArray) (j : Nat) (h : j < s.size) : lt s j = s[j] := by
  unfold lt
  rw [List.getD_eq_getElem?_getD, List.getElem?_eq_getElem (by simpa using h)]; rfl
theorem lt_extract (s : ByteArray) (n j : Nat) (h : j < n) : lt (s.extract 0 n) j = lt s j := by
  unfold lt
  have : (s.extract 0 n).data.toList = s.data.toList.take n := by
    simp
  rw [this]
  simp [List.getD_eq_getElem?_getD, h]
/-- How far two texts are. -/
def far (a b : ByteArray) : Int := D (lt a) (lt b) a.size b.size
/-- It is as far one way as back. -/
theorem cost_comm (x y : Nat → UInt8) (i k : Nat) : cost x y i k = cost y x k i := by
  unfold cost
  by_cases h : x i = y k
  · rw [if_pos h, if_pos h.symm]
  · rw [if_neg h, if_neg fun e => h e.symm]
theorem tr_comm (x y : Nat → UInt8) (i k : Nat) : tr x y i k = tr y x k i := by
  unfold tr
  rw [Bool.eq_iff_iff]
  simp only [Bool.and_eq_true, decide_eq_true_eq, beq_iff_eq]
  constructor
  · rintro ⟨a, b, c, d⟩; exact ⟨b, a, d.symm, c.symm⟩
  · rintro ⟨a, b, c, d⟩; exact ⟨b, a, d.symm, c.symm⟩
theorem D_comm (x y : Nat → UInt8) : ∀ (n i k : Nat), i + k ≤ n → D x y i k = D y x k i := by
  intro n
  induction n with
  | zero => intro i k h; have : i = 0 := by omega
            subst this; rw [D_zero, D_left]
  | succ n ih =>
    intro i k h
    cases i with
    | zero => rw [D_zero, D_left]
    | succ i =>
      cases k with
      | zero => rw [D_left, D_zero]
      | succ k =>
        have h1 := ih i k (by omega)
        have h2 := ih i (k + 1) (by omega)
        have h3 := ih (i + 1) k (by omega)
        have h4 := ih (i - 1) (k - 1) (by omega)
        rw [D_succ, D_succ, h1, h2, h3, h4, cost_comm x y, tr_comm x y]
        split <;> omega
end Go.Proofs.YtcmajekdalcjeaaGreat
/-
  Plain mathematics: how far two texts are at least and at most; no way just to itself.
-/
namespace Go.Proofs.YtcmajekdalcjeaaGreat
set_option linter.unusedVariables false
theorem D_ge (x y : Nat → UInt8) : ∀ (n i k : Nat), i + k ≤ n → (i : Int) - k ≤ D x y i k ∧ (k : Int) - i ≤ D x y i k := by
  intro n
  induction n with
  | zero => intro i k h; have : i = 0 := by omega
            subst this; rw [D_zero]; omega
  | succ n ih =>
    intro i k h
    cases i with
    | zero => rw [D_zero]; omega
    | succ i =>
      cases k with
      | zero => rw [D_left]; omega
      | succ k =>
        have h1 := ih i k (by omega)
        have h2 := ih i (k + 1) (by omega)
        have h3 := ih (i + 1) k (by omega)
        have h4 := ih (i - 1) (k - 1) (by omega)
        have hc := cost_bd x y i k
        rw [D_succ]
        split
        · next ht =>
          have : 0 < i ∧ 0 < k := by
            unfold tr at ht
            simp only [Bool.and_eq_true, decide_eq_true_eq] at ht
            exact ⟨ht.1, ht.2.1⟩
          omega
        · omega
theorem D_max (x y : Nat → UInt8) : ∀ (n i k : Nat), i + k ≤ n → D x y i k ≤ max (i : Int) k := by
  intro n
  induction n with
  | zero => intro i k h; have : i = 0 := by omega
            subst this; rw [D_zero]; omega
  | succ n ih =>
    intro i k h
    cases i with
    | zero => rw [D_zero]; omega
    | succ i =>
      cases k with
      | zero => rw [D_left]; omega
      | succ k =>
        have h1 := ih i k (by omega)
        have hc := cost_bd x y i k
        rw [D_succ]
        split <;> omega
theorem D_none (x y : Nat → UInt8) : ∀ (n i k : Nat), i + k ≤ n → D x y i k = 0 → i = k ∧ ∀ j, j < i → x j = y j := by
  intro n
  induction n with
  | zero => intro i k h h0; exact ⟨by omega, fun j hj => absurd hj (by omega)⟩
  | succ n ih =>
    intro i k h h0
    cases i with
    | zero => rw [D_zero] at h0; exact ⟨by omega, fun j hj => absurd hj (by omega)⟩
    | succ i =>
      cases k with
      | zero => rw [D_left] at h0; omega
      | succ k =>
        have h2 := D_pos x y i (k + 1)
        have h3 := D_pos x y (i + 1) k
        have h4 := D_pos x y (i - 1) (k - 1)
        have h5 := D_pos x y i k
        have hc := cost_bd x y i k
        have h6 : D x y i k + cost x y i k = 0 := by
          rw [D_succ] at h0
          split at h0 <;> omega
        obtain ⟨e, hl⟩ := ih i k (by omega) (by omega)
        have hci : cost x y i k = 0 := by omega
        refine ⟨by omega, fun j hj => ?_⟩
        by_cases ej : j = i
        · subst ej
          unfold cost at hci
          split at hci
          · next he => rw [he, e]
          · omega
        · exact hl j (by omega)
theorem D_self (x y : Nat → UInt8) : ∀ i : Nat, (∀ j, j < i → x j = y j) → D x y i i = 0 := by
  intro i
  induction i with
  | zero => intro _; rw [D_zero]; rfl
  | succ i ih =>
    intro h
    have h1 := ih (fun j hj => h j (by omega))
    have hc : cost x y i i = 0 := by unfold cost; rw [if_pos (h i (by omega))]
    have h2 := D_pos x y (i + 1) (i + 1)
    have h3 : D x y (i + 1) (i + 1) ≤ D x y i i + cost x y i i := by
      rw [D_succ]; split <;> omega
    omega
theorem far_eq_zero (a b : ByteArray) : far a b = 0 ↔ a = b := by
  unfold far
  constructor
  · intro h
    obtain ⟨e, hl⟩ := D_none _ _ _ _ _ (Nat.le_refl _) h
    cases a with | mk a =>
    cases b with | mk b =>
    have hs : a.size = b.size := e
    congr
    apply Array.ext hs
    intro i h1 h2
    have := hl i h1
    rw [lt_get _ i h1, lt_get _ i h2] at this
    exact this
  · rintro rfl
    exact D_self _ _ _ fun _ _ => rfl
end Go.Proofs.YtcmajekdalcjeaaGreat
