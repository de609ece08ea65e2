/-
  The law FnExactNear.
-/
import Derived.Test.YtpjkgpglbbppjaaW98
namespace Go.Proofs.Ytpjkgpglbbppjaa
open Go.RowKit Go.Shelf Go.Sort
set_option linter.unusedVariables false
theorem rest_size (s : ByteArray) (i : Nat) : (s.extract i s.size).size = s.size - i := by simp
theorem rest_ext (s : ByteArray) (i a b : Nat) (h : i + b ≤ s.size) : (s.extract i s.size).extract a b = s.extract (i + a) (i + b) := by
  rw [ByteArray.extract_extract, Nat.min_eq_left h]
theorem rest_all (s : ByteArray) (i a : Nat) (h : i ≤ s.size) : (s.extract i s.size).extract a (s.extract i s.size).size = s.extract (i + a) s.size := by
  rw [rest_size, ByteArray.extract_extract]
  congr 1
  omega
theorem atC_eq (s : ByteArray) (i j : Nat) (hi : i ≤ s.size) (hj : j < 26) : atC (s.extract 0 i) (s.extract i s.size) j = candsC s i j := by
  unfold atC candsC insT chgT
  rw [rest_all s i 1 hi, rest_size, abc_chr j hj]
  by_cases h : i < s.size
  · rw [if_neg (by omega), if_pos h]
  · rw [if_pos (by omega), if_neg h]
theorem atE_eq (s : ByteArray) (i : Nat) (hi : i ≤ s.size) : atE (s.extract 0 i) (s.extract i s.size) = candsE s i := by
  unfold atE candsE delT swpT
  rw [rest_all s i 1 hi, rest_all s i 2 hi, rest_size]
  by_cases h : i < s.size
  · rw [if_neg (by omega), if_pos h]
    by_cases h2 : i + 1 < s.size
    · rw [if_neg (by omega), if_pos h2, rest_ext s i 1 2 (by omega), rest_ext s i 0 1 (by omega)]
      rfl
    · rw [if_pos (by omega), if_neg h2]
  · rw [if_pos (by omega), if_neg h, if_pos (by omega), if_neg (by omega)]
theorem mem_stepsL (s y : ByteArray) : y ∈ stepsL s ↔ Cand s y (s.size + 1) := by
  unfold stepsL stepsTo Cand atAll atTo
  rw [List.mem_flatMap]
  constructor
  · rintro ⟨i, hi, h⟩
    rw [List.mem_range] at hi
    refine ⟨i, hi, ?_⟩
    rw [List.mem_append, List.mem_flatMap] at h
    rcases h with ⟨j, hj, h⟩ | h
    · rw [List.mem_range] at hj
      rw [atC_eq s i j (by omega) hj] at h
      exact .inl ⟨j, hj, h⟩
    · rw [atE_eq s i (by omega)] at h
      exact .inr h
  · rintro ⟨i, hi, h⟩
    refine ⟨i, List.mem_range.2 hi, ?_⟩
    rw [List.mem_append, List.mem_flatMap]
    rcases h with ⟨j, hj, h⟩ | h
    · exact .inl ⟨j, List.mem_range.2 hj, by rw [atC_eq s i j (by omega) hj]; exact h⟩
    · exact .inr (by rw [atE_eq s i (by omega)]; exact h)
theorem mem_keepN (s y : ByteArray) (ys : List Short) (h : ys.map Subtype.val = stepsL s) : y ∈ near s ↔ y ∈ keepN s ys := by
  unfold near keepN
  rw [nearTo_mem, h, List.mem_filter, mem_stepsL]
  have e : (!(y.toList == s.toList)) = true ↔ y ≠ s := by
    rw [Bool.not_eq_true', beq_eq_false_iff_ne]
    exact ⟨fun h e => h (by rw [e]), fun h e => h (toList_inj' e)⟩
  rw [Bool.and_eq_true, e]
theorem once_near (s : ByteArray) (ys : List Short) (h : ys.map Subtype.val = stepsL s) : (onceS ((keepN s ys).map fun x => x.data.toList)).map (fun x => (⟨x.toArray⟩ : ByteArray)) = near s :=
  once_eq (keepN s ys) (near s) (nearTo_asc s _) fun x => mem_keepN s x ys h
set_option maxHeartbeats 1000000 in
theorem near_any (s : ByteArray) (w : World) (hs : s.size ≤ 1048576) :
    Calls Try.prog 20 #[.string s] w fun e w' => ∃ v, e = .returned v ∧ TextsOwn w.heap.size w' v (nearL s) ∧ Below w.heap.size w w' := by
  have hm : s.size ≤ maxLen := by unfold maxLen; omega
  cases hw : wok s with
  | false =>
    have HL : Hid (nearL s = []) := if_neg (by rw [hw]; simp)
    go_enter Try.func20, Try.ntmps20
    go_wp2_with fail
    refine (wordOk_any s _ hm).mono ?_
    rintro e w' ⟨rfl, rfl⟩
    rw [hw]
    go_wp2
    go_ret
    rw [HL.out]
    exact ⟨_, rfl, ⟨none, 0, rfl, Nat.le_refl _, Nat.zero_le _, fun i x hx => by simp at hx, fun hn => absurd rfl hn⟩, (Below.refl _ _).alloc (Nat.le_refl _) _⟩
  | true =>
    have h12 := wok_le12 hw
    refine (callsIn_wide.1 (near_row s w h12 hw)).mono ?_
    rintro e w' ⟨v, ys, rfl, hys, hr, hb⟩
    have hL : nearL s = near s := if_pos hw
    have h := TextsOwn.of_owns hr (fun x hx => by
      have h1 : (⟨x.toArray⟩ : ByteArray) ∈ near s := by rw [← once_near s ys hys]; exact List.mem_map.2 ⟨x, hx, rfl⟩
      have h2 := wok_le12 ((nearTo_mem s _ _).1 h1).2.2
      have h3 : (⟨x.toArray⟩ : ByteArray).size = x.length := size_toArr x
      unfold maxLen
      omega)
    rw [once_near s ys hys, ← hL] at h
    exact ⟨v, rfl, h, hb⟩
