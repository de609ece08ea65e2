/-
  How a text is written: lettersAhead, CaseOf of both, l10Upper.
-/
import Derived.Test.YthedglgljehmgaaGreatDoorGW2
import Derived.Test.YthedglgljehmgaaGreatDoorGM40
import Derived.Laws.BytesArg
import Derived.Lib.ConvBytes
namespace Go.Proofs.YthedglgljehmgaaGreatDoor
open Go.RowKit
set_option linter.unusedVariables false
theorem ret_i64 {a b : Int} (h : a = b) : Ending.returned (.int .i64 a) = .returned (.int .i64 b) := by rw [h]
theorem ext_one (s : ByteArray) (k : Nat) (h : k < s.size) : (s.extract k (k + 1)).data.toList = [s[k]] := by
  have e : s[k] = s.data.toList[k]'(by simpa using h) := rfl
  rw [e]
  simp only [ByteArray.data_extract, Array.toList_extract]
  rw [List.extract_eq_take_drop, show k + 1 - k = 1 by omega, List.drop_eq_getElem_cons (by simpa using h)]
  rfl
theorem inr_one (lo hi : Int) (s : ByteArray) (k : Nat) (h : k < s.size) : inr lo hi (s.extract k (k + 1)).data.toList = (decide (lo ≤ (s[k].toNat : Int)) && decide ((s[k].toNat : Int) ≤ hi)) := by
  rw [ext_one s k h]; simp [inr]
theorem takeWhile_all {α : Type} (f : α → Bool) : ∀ l : List α, l.all f = true → l.takeWhile f = l
  | [], _ => rfl
  | a :: l, h => by
    simp only [List.all_cons, Bool.and_eq_true] at h
    rw [List.takeWhile_cons, if_pos h.1, takeWhile_all f l h.2]
theorem ahN_stop (s : ByteArray) (k : Nat) (h : k < s.size) (ha : (s.data.toList.take k).all isLet = true) (hn : isLet s[k] = false) : ahN s.data.toList = k := by
  have e : s.data.toList = s.data.toList.take k ++ s[k] :: s.data.toList.drop (k + 1) := by
    have e2 : s[k] = s.data.toList[k]'(by simpa using h) := rfl
    rw [e2, ← List.drop_eq_getElem_cons (by simpa using h), List.take_append_drop]
  unfold ahN
  rw [e, List.takeWhile_append]
  rw [takeWhile_all isLet _ ha, if_pos rfl, List.takeWhile_cons, if_neg (by rw [hn]; decide)]
  simp; omega
theorem ahN_end (s : ByteArray) (ha : s.data.toList.all isLet = true) : ahN s.data.toList = s.size := by
  unfold ahN; rw [takeWhile_all isLet _ ha]; rfl
theorem ahN_size (s : ByteArray) : ahN s.data.toList ≤ s.size := ahN_le _
theorem ahN_lt (s : ByteArray) : ahN s.data.toList < s.size ↔ s.data.toList.all isLet = false := ahN_all _
theorem take_size (s : ByteArray) : s.data.toList.take s.size = s.data.toList := List.take_of_length_le (Nat.le_refl _)
theorem between_eq (s : ByteArray) (lo hi : Int) (b : Bool) (w : World) (hs : s.size ≤ maxLen) (h : inr lo hi s.data.toList = b) :
    Calls Tryz.prog 50 #[.string s, .int .u8 lo, .int .u8 hi] w fun e w' => e = .returned (.bool b) ∧ w' = w := by
  rw [← h]; exact between_any s lo hi w hs
set_option maxHeartbeats 400000 in
theorem lettersAhead_any (s : ByteArray) (w : World) (hs : s.size ≤ maxLen) :
    Calls Tryz.prog 26 #[.string s] w fun e w' => e = .returned (.int .i64 (ahN s.data.toList)) ∧ w' = w := by
  unfold maxLen at hs
  go_enter Tryz.func26, Tryz.ntmps26
  go_wp2
  go_loop [3] (fun i => ∃ k : Nat, k ≤ s.size ∧ i = .int .i64 k ∧ (s.data.toList.take k).all isLet = true) (fun i => s.size - (intOf i).toNat)
  case atStart => exact ⟨0, Nat.zero_le _, rfl, rfl⟩
  case round =>
    obtain ⟨k, hk, rfl, hr⟩ := hrel
    have HR : Hid ((s.data.toList.take k).all isLet = true) := hr
    clear hr
    by_cases hlt : k < s.size
    · have h1 := inr_one 97 122 s k hlt
      have h2 := inr_one 65 90 s k hlt
      have HT : Hid ((s.data.toList.take (k + 1)).all isLet = isLet s[k]) := by
        show List.all _ _ = _
        rw [all_take_snoc s k hlt, HR.out, Bool.true_and]
      have HS : Hid (isLet s[k] = (inr 97 122 (s.extract k (k + 1)).data.toList || inr 65 90 (s.extract k (k + 1)).data.toList)) := by
        show isLet _ = _
        rw [h1, h2]; rfl
      have HN : Hid (isLet s[k] = false → ahN s.data.toList = k) := fun hn => ahN_stop s k hlt HR.out hn
      have hse : (s.extract k (k + 1)).size ≤ maxLen := by unfold maxLen; rw [ByteArray.size_extract]; omega
      clear h1 h2
      cases ha : inr 97 122 (s.extract k (k + 1)).data.toList <;> cases hb : inr 65 90 (s.extract k (k + 1)).data.toList
      all_goals
        have HA : Hid _ := ha
        have HB : Hid _ := hb
        have HQ : Hid _ := HS.out
        rw [ha, hb] at HQ
        clear ha hb HS
        have HM : Hid True := trivial
        go_wp2_with (first | (go_at_call 50; have q := HM; clear q HM; refine (between_eq _ 97 122 _ _ hse HA.out).mono ?_; rintro e w' ⟨rfl, rfl⟩) | (go_at_call 50; refine (between_eq _ 65 90 _ _ hse HB.out).mono ?_; rintro e w' ⟨rfl, rfl⟩))
        first
          | (go_ret; exact ⟨ret_i64 (by rw [HN.out (by rw [HQ.out]; rfl)]), rfl⟩)
          | (go_round
             case rel => exact ⟨k + 1, by omega, by go_num, by rw [HT.out, HQ.out]; rfl⟩
             case measure => simp [intOf]; omega)
    · have HE : Hid (ahN s.data.toList = k) := by
        show ahN _ = k
        have : k = s.size := by omega
        subst this
        have h := HR.out
        rw [take_size] at h
        exact ahN_end s h
      go_wp2
      go_ret
      exact ⟨ret_i64 (by rw [HE.out]), rfl⟩
end Go.Proofs.YthedglgljehmgaaGreatDoor
