/-
  Plain mathematics: how long the common beginning of two texts is.
-/
namespace Go.Proofs.Ythikcililececaa
def cpl : List UInt8 → List UInt8 → Nat
  | x :: xs, y :: ys => if x = y then cpl xs ys + 1 else 0
  | _, _ => 0
theorem cpl_eq (k : Nat) : ∀ (a b : List UInt8), k ≤ a.length → k ≤ b.length → a.take k = b.take k → (k = a.length ∨ k = b.length ∨ a[k]? ≠ b[k]?) → cpl a b = k := by
  induction k with
  | zero =>
    intro a b _ _ _ h
    cases a with
    | nil => rfl
    | cons x xs =>
      cases b with
      | nil => rfl
      | cons y ys =>
        have hne : x ≠ y := by simpa using h
        simp [cpl, hne]
  | succ k ih =>
    intro a b ha hb ht h
    cases a with
    | nil => simp at ha
    | cons x xs =>
      cases b with
      | nil => simp at hb
      | cons y ys =>
        simp only [List.take_succ_cons, List.cons.injEq] at ht
        simp only [List.length_cons, Nat.add_right_cancel_iff, List.getElem?_cons_succ] at h
        have := ih xs ys (by simpa using ha) (by simpa using hb) ht.2 h
        simp [cpl, ht.1, this]
theorem cpl_le_left : ∀ (a b : List UInt8), cpl a b ≤ a.length
  | [], _ => by simp [cpl]
  | x :: xs, [] => by simp [cpl]
  | x :: xs, y :: ys => by
    have := cpl_le_left xs ys
    by_cases h : x = y <;> simp [cpl, h] <;> omega
theorem cpl_comm : ∀ (a b : List UInt8), cpl a b = cpl b a
  | [], [] => rfl
  | [], _ :: _ => by simp [cpl]
  | _ :: _, [] => by simp [cpl]
  | x :: xs, y :: ys => by
    have := cpl_comm xs ys
    by_cases h : x = y
    · simp [cpl, h, this]
    · have h' : ¬ y = x := fun e => h e.symm
      simp [cpl, h, h']
theorem cpl_take : ∀ (a b : List UInt8), a.take (cpl a b) = b.take (cpl a b)
  | [], [] => rfl
  | [], _ :: _ => by simp [cpl]
  | _ :: _, [] => by simp [cpl]
  | x :: xs, y :: ys => by
    have ih := cpl_take xs ys
    by_cases h : x = y
    · simp [cpl, h, ih]
    · simp [cpl, h]
/-- Behind the common beginning the texts differ, or one ends. -/
theorem cpl_end : ∀ (a b : List UInt8), cpl a b = a.length ∨ cpl a b = b.length ∨ a[cpl a b]? ≠ b[cpl a b]?
  | [], _ => .inl (by simp [cpl])
  | _ :: _, [] => .inr (.inl (by simp [cpl]))
  | x :: xs, y :: ys => by
    have ih := cpl_end xs ys
    by_cases h : x = y
    · rcases ih with ih | ih | ih
      · left; simp [cpl, h, ih]
      · right; left; simp [cpl, h, ih]
      · right; right; simpa [cpl, h] using ih
    · right; right; simp [cpl, h]
/-- One letter more. -/
theorem take_snoc (s : ByteArray) (k : Nat) (h : k < s.size) : s.data.toList.take (k + 1) = s.data.toList.take k ++ [s[k]] := by
  rw [List.take_succ_eq_append_getElem (by simpa using h)]; rfl
theorem getElem?_data (s : ByteArray) (k : Nat) (h : k < s.size) : s.data.toList[k]? = some s[k] := by
  rw [List.getElem?_eq_getElem (by simpa using h)]; rfl
theorem data_length (s : ByteArray) : s.data.toList.length = s.size := rfl
end Go.Proofs.Ythikcililececaa
