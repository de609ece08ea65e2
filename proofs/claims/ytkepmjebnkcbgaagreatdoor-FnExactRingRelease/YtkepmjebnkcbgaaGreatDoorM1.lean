/-
  Plain mathematics: texts of bytes in a range.
-/
namespace Go.Proofs.YtkepmjebnkcbgaaGreatDoor
/-- Each byte of a text lies between two bounds. -/
def inr (lo hi : Int) (l : List UInt8) : Bool := l.all fun c => decide (lo ≤ (c.toNat : Int)) && decide ((c.toNat : Int) ≤ hi)
theorem inr_take_succ (lo hi : Int) (s : ByteArray) (k : Nat) (h : k < s.size) :
    inr lo hi (s.data.toList.take (k + 1)) = (inr lo hi (s.data.toList.take k) && (decide (lo ≤ (s[k].toNat : Int)) && decide ((s[k].toNat : Int) ≤ hi))) := by
  have e : s.data.toList.take (k + 1) = s.data.toList.take k ++ [s[k]] := by
    rw [List.take_succ_eq_append_getElem (by simpa using h)]; rfl
  rw [e]; simp [inr, List.all_append]
theorem inr_all (lo hi : Int) (s : ByteArray) (k : Nat) (h : s.size ≤ k) : inr lo hi (s.data.toList.take k) = inr lo hi s.data.toList := by
  rw [List.take_of_length_le (by simpa using h)]
theorem inr_bad (lo hi : Int) (s : ByteArray) (k : Nat) (h : k < s.size) (hb : (s[k].toNat : Int) < lo ∨ hi < (s[k].toNat : Int)) : inr lo hi s.data.toList = false := by
  have hm : s[k] ∈ s.data.toList := by
    have : s[k] = s.data[k] := rfl
    rw [this]; simp
  unfold inr
  rw [List.all_eq_false]
  refine ⟨s[k], hm, ?_⟩
  rcases hb with hb | hb <;> simp <;> omega
end Go.Proofs.YtkepmjebnkcbgaaGreatDoor
