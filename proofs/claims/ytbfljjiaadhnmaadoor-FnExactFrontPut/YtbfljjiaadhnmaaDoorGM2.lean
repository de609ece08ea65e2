/-
  Plain mathematics: texts of bytes in a range.
-/
namespace Go.Proofs.YtbfljjiaadhnmaaDoor
/-- Each byte of a text lies between two bounds. -/
def inr (lo hi : Int) (l : List UInt8) : Bool := l.all fun c => decide (lo ≤ (c.toNat : Int)) && decide ((c.toNat : Int) ≤ hi)
theorem inr_take_succ (lo hi : Int) (s : ByteArray) (k : Nat) (h : k < s.size) :
    inr lo hi (s.data.toList.take (k + 1)) = (inr lo hi (s.data.toList.take k) && (decide (lo ≤ (s[k].toNat : Int)) && decide ((s[k].toNat : Int) ≤ hi))) := by
  have e : s.data.toList.take (k + 1) = s.data.toList.take k ++ [s[k]] := by
    rw [List.take_succ_eq_append_getElem (by simpa using h)]; rfl
  rw [e]; simp [inr, List.all_append]
theorem inr_all (lo hi : Int) (s : ByteArray) (k : Nat) (h : s.size ≤ k) : inr lo hi (s.data.toList.take k) = inr lo hi s.data.toList := by
  rw [List.take_of_length_le (by simpa using h)]
theorem inr_bad (lo hi : Int) (s : ByteArray) (k : Nat) (h : k < s.size) (hb : (s[k].toNat : Int) < lo ∨ hi < (s[k].toNat : Int)) : inr lo hi s.data.toList = false := by
  have hm : s[k] ∈ s.data.toList := by
    have : s[k] = s.data[k] := rfl
    rw [this]; simp
  unfold inr
  rw [List.all_eq_false]
  refine ⟨s[k], hm, ?_⟩
  rcases hb with hb | hb <;> simp <;> omega
end Go.Proofs.YtbfljjiaadhnmaaDoor
/-
  Plain mathematics: how long the common beginning of two texts is.
-/
namespace Go.Proofs.YtbfljjiaadhnmaaDoor
def cpl : List UInt8 → List UInt8 → Nat
  | x :: xs, y :: ys => if x = y then cpl xs ys + 1 else 0
  | _, _ => 0
theorem cpl_eq (k : Nat) : ∀ (a b : List UInt8), k ≤ a.length → k ≤ b.length → a.take k = b.take k → (k = a.length ∨ k = b.length ∨ a[k]? ≠ b[k]?) → cpl a b = k := by
  induction k with
  | zero =>
    intro a b _ _ _ h
    cases a with
    | nil => rfl
    | cons x xs =>
      cases b with
      | nil => rfl
      | cons y ys =>
        have hne : x ≠ y := by simpa using h
        simp [cpl, hne]
  | succ k ih =>
    intro a b ha hb ht h
    cases a with
    | nil => simp at ha
    | cons x xs =>
      cases b with
      | nil => simp at hb
      | cons y ys =>
        simp only [List.take_succ_cons, List.cons.injEq] at ht
        simp only [List.length_cons, Nat.add_right_cancel_iff, List.getElem?_cons_succ] at h
        have := ih xs ys (by simpa using ha) (by simpa using hb) ht.2 h
        simp [cpl, ht.1, this]
theorem cpl_le_left : ∀ (a b : List UInt8), cpl a b ≤ a.length
  | [], _ => by simp [cpl]
  | x :: xs, [] => by simp [cpl]
  | x :: xs, y :: ys => by
    have := cpl_le_left xs ys
    by_cases h : x = y <;> simp [cpl, h] <;> omega
theorem cpl_comm : ∀ (a b : List UInt8), cpl a b = cpl b a
  | [], [] => rfl
  | [], _ :: _ => by simp [cpl]
  | _ :: _, [] => by simp [cpl]
  | x :: xs, y :: ys => by
    have := cpl_comm xs ys
    by_cases h : x = y
    · simp [cpl, h, this]
    · have h' : ¬ y = x := fun e => h e.symm
      simp [cpl, h, h']
theorem cpl_take : ∀ (a b : List UInt8), a.take (cpl a b) = b.take (cpl a b)
  | [], [] => rfl
  | [], _ :: _ => by simp [cpl]
  | _ :: _, [] => by simp [cpl]
  | x :: xs, y :: ys => by
    have ih := cpl_take xs ys
    by_cases h : x = y
    · simp [cpl, h, ih]
    · simp [cpl, h]
/-- Behind the common beginning the texts differ, or one ends. -/
theorem cpl_end : ∀ (a b : List UInt8), cpl a b = a.length ∨ cpl a b = b.length ∨ a[cpl a b]? ≠ b[cpl a b]?
  | [], _ => .inl (by simp [cpl])
  | _ :: _, [] => .inr (.inl (by simp [cpl]))
  | x :: xs, y :: ys => by
    have ih := cpl_end xs ys
    by_cases h : x = y
    · rcases ih with ih | ih | ih
      · left; simp [cpl, h, ih]
      · right; left; simp [cpl, h, ih]
      · right; right; simpa [cpl, h] using ih
    · right; right; simp [cpl, h]
/-- One letter more. -/
theorem take_snoc (s : ByteArray) (k : Nat) (h : k < s.size) : s.data.toList.take (k + 1) = s.data.toList.take k ++ [s[k]] := by
  rw [List.take_succ_eq_append_getElem (by simpa using h)]; rfl
theorem getElem?_data (s : ByteArray) (k : Nat) (h : k < s.size) : s.data.toList[k]? = some s[k] := by
  rw [List.getElem?_eq_getElem (by simpa using h)]; rfl
theorem data_length (s : ByteArray) : s.data.toList.length = s.size := rfl
end Go.Proofs.YtbfljjiaadhnmaaDoor
