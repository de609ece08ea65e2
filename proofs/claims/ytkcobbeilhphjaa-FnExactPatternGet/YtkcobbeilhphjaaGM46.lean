/-
  Plain mathematics: texts of bytes in a range.
-/
namespace Go.Proofs.Ytkcobbeilhphjaa
/-- Each byte of a text lies between two bounds. -/
def inr (lo hi : Int) (l : List UInt8) : Bool := l.all fun c => decide (lo ≤ (c.toNat : Int)) && decide ((c.toNat : Int) ≤ hi)
theorem inr_take_succ (lo hi : Int) (s : ByteArray) (k : Nat) (h : k < s.size) :
    inr lo hi (s.data.toList.take (k + 1)) = (inr lo hi (s.data.toList.take k) && (decide (lo ≤ (s[k].toNat : Int)) && decide ((s[k].toNat : Int) ≤ hi))) := by
  have e : s.data.toList.take (k + 1) = s.data.toList.take k ++ [s[k]] := by
    rw [List.take_succ_eq_append_getElem (by simpa using h)]; rfl
  rw [e]; simp [inr, List.all_append]
theorem inr_all (lo hi : Int) (s : ByteArray) (k : Nat) (h : s.size ≤ k) : inr lo hi (s.data.toList.take k) = inr lo hi s.data.toList := by
  rw [List.take_of_length_le (by simpa using h)]
theorem inr_bad (lo hi : Int) (s : ByteArray) (k : Nat) (h : k < s.size) (hb : (s[k].toNat : Int) < lo ∨ hi < (s[k].toNat : Int)) : inr lo hi s.data.toList = false := by
  have hm : s[k] ∈ s.data.toList := by
    have : s[k] = s.data[k] := rfl
    rw [this]; simp
  unfold inr
  rw [List.all_eq_false]
  refine ⟨s[k], hm, ?_⟩
  rcases hb with hb | hb <;> simp <;> omega
end Go.Proofs.Ytkcobbeilhphjaa
/-
  Plain mathematics: a pattern read letter by letter.
-/
namespace Go.Proofs.Ytkcobbeilhphjaa
set_option linter.unusedVariables false
def digB (c : UInt8) : Bool := decide (48 ≤ (c.toNat : Int)) && decide ((c.toNat : Int) ≤ 57)
/-- The letters, and the numbers, of the first k bytes. -/
def rdL (l : List UInt8) : Nat → List UInt8
  | 0 => []
  | k + 1 => match l[k]? with
    | some c => if digB c then rdL l k else rdL l k ++ [c]
    | none => rdL l k
def rdN (l : List UInt8) : Nat → List Int
  | 0 => [0]
  | k + 1 => match l[k]? with
    | some c => if digB c then (rdN l k).set ((rdN l k).length - 1) ((c.toNat : Int) - 48) else rdN l k ++ [0]
    | none => rdN l k
theorem rdN_len (l : List UInt8) : ∀ k, (rdN l k).length = (rdL l k).length + 1
  | 0 => rfl
  | k + 1 => by
    have h := rdN_len l k
    unfold rdN rdL
    cases l[k]? with
    | none => exact h
    | some c =>
      simp only
      split
      · rw [List.length_set]; exact h
      · simp [h]
theorem rdL_len (l : List UInt8) : ∀ k, (rdL l k).length ≤ k
  | 0 => Nat.le_refl _
  | k + 1 => by
    have h := rdL_len l k
    unfold rdL
    cases l[k]? with
    | none => simp only; omega
    | some c =>
      simp only
      split
      · omega
      · simp; omega
theorem rd_dig {l : List UInt8} {k : Nat} {c : UInt8} (h : l[k]? = some c) (hd : digB c = true) : rdL l (k + 1) = rdL l k ∧ rdN l (k + 1) = (rdN l k).set ((rdN l k).length - 1) ((c.toNat : Int) - 48) := by
  constructor
  · rw [rdL, h]; simp [hd]
  · rw [rdN, h]; simp [hd]
theorem rd_let {l : List UInt8} {k : Nat} {c : UInt8} (h : l[k]? = some c) (hd : digB c = false) : rdL l (k + 1) = rdL l k ++ [c] ∧ rdN l (k + 1) = rdN l k ++ [0] := by
  constructor
  · rw [rdL, h]; simp [hd]
  · rw [rdN, h]; simp [hd]
end Go.Proofs.Ytkcobbeilhphjaa
