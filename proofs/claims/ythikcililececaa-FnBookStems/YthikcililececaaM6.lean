/-
  Plain mathematics: a word has words of one step; these are words.
-/
import Derived.Test.YthikcililececaaM5
import Derived.Test.YthikcililececaaM3
namespace Go.Proofs.Ythikcililececaa
set_option linter.unusedVariables false
theorem near_wok (s y : ByteArray) (h : y ∈ near s) : wok y = true := ((nearTo_mem s y _).1 h).2.2
theorem inr_append (lo hi : Int) (a b : List UInt8) : inr lo hi (a ++ b) = (inr lo hi a && inr lo hi b) := by simp [inr, List.all_append]
theorem inr_sub (lo hi : Int) (a b : List UInt8) (h : ∀ x ∈ a, x ∈ b) (hb : inr lo hi b = true) : inr lo hi a = true := by
  unfold inr at *
  rw [List.all_eq_true] at *
  exact fun x hx => hb x (h x hx)
theorem data_append (a b : ByteArray) : (a ++ b).data.toList = a.data.toList ++ b.data.toList := by simp
theorem data_extract (s : ByteArray) (i j : Nat) : (s.extract i j).data.toList = (s.data.toList.take j).drop i := by
  simp [List.drop_take]
theorem chr_data (c : Nat) : (chr c).data.toList = [UInt8.ofNat c] := rfl
/-- One letter changed: as long, and a word. -/
theorem chg_wok (s : ByteArray) (c : Nat) (hs : wok s = true) (hc : 97 ≤ c ∧ c ≤ 122) : wok (chgT s 0 c) = true := by
  unfold wok at hs ⊢
  simp only [Bool.and_eq_true, decide_eq_true_eq] at hs ⊢
  have hsz : (chgT s 0 c).size = s.size := by
    unfold chgT
    rw [ByteArray.size_append, ByteArray.size_append]
    have : (chr c).size = 1 := rfl
    rw [this]; simp; omega
  refine ⟨by omega, ?_, by omega⟩
  unfold chgT
  rw [data_append, data_append, chr_data, inr_append, inr_append]
  simp only [Bool.and_eq_true]
  refine ⟨⟨?_, ?_⟩, ?_⟩
  · rw [data_extract]; simp [inr]
  · have : (UInt8.ofNat c).toNat = c := by simp; omega
    simp only [inr, List.all_cons, List.all_nil, Bool.and_true, Bool.and_eq_true, decide_eq_true_eq, this]
    omega
  · rw [data_extract]
    exact inr_sub _ _ _ _ (fun x hx => List.mem_of_mem_take (List.mem_of_mem_drop hx)) hs.2.1
theorem chg_first (s : ByteArray) (c : Nat) (hs : 0 < s.size) : (chgT s 0 c).data.toList.head? = some (UInt8.ofNat c) := by
  unfold chgT
  rw [data_append, data_append, chr_data, data_extract]
  simp
theorem near_ne (s : ByteArray) (hs : wok s = true) : near s ≠ [] := by
  have hs0 : 0 < s.size := by
    unfold wok at hs
    simp only [Bool.and_eq_true, decide_eq_true_eq] at hs
    exact hs.1
  have key : ∀ c, c < 26 → chgT s 0 (97 + c) ≠ s → near s ≠ [] := by
    intro c hc hne h0
    have hm : chgT s 0 (97 + c) ∈ near s := by
      unfold near
      rw [nearTo_mem]
      refine ⟨⟨0, by omega, .inl ⟨c, hc, ?_⟩⟩, hne, chg_wok s _ hs (by omega)⟩
      unfold candsC
      rw [if_pos hs0]; simp
    rw [h0] at hm
    cases hm
  by_cases h : chgT s 0 97 = s
  · refine key 1 (by omega) fun h2 => ?_
    have h1 := chg_first s 97 hs0
    have h3 := chg_first s 98 hs0
    rw [h] at h1
    rw [show 97 + 1 = 98 from rfl] at h2
    rw [h2, h1] at h3
    revert h3
    decide
  · exact key 0 (by omega) h
end Go.Proofs.Ythikcililececaa
