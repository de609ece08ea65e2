/-
  How a text is written: lettersAhead, CaseOf of both, l10Upper.
-/
import Derived.Test.YtelogmffgepfdaaDoorGW2
import Derived.Test.YtelogmffgepfdaaDoorGM40
import Derived.Laws.BytesArg
import Derived.Lib.ConvBytes
namespace Go.Proofs.YtelogmffgepfdaaDoor
open Go.RowKit
set_option linter.unusedVariables false
theorem ret_i64 {a b : Int} (h : a = b) : Ending.returned (.int .i64 a) = .returned (.int .i64 b) := by rw [h]
theorem ext_one (s : ByteArray) (k : Nat) (h : k < s.size) : (s.extract k (k + 1)).data.toList = [s[k]] := by
  have e : s[k] = s.data.toList[k]'(by simpa using h) := rfl
  rw [e]
  simp only [ByteArray.data_extract, Array.toList_extract]
  rw [List.extract_eq_take_drop, show k + 1 - k = 1 by omega, List.drop_eq_getElem_cons (by simpa using h)]
  rfl
theorem inr_one (lo hi : Int) (s : ByteArray) (k : Nat) (h : k < s.size) : inr lo hi (s.extract k (k + 1)).data.toList = (decide (lo ≤ (s[k].toNat : Int)) && decide ((s[k].toNat : Int) ≤ hi)) := by
  rw [ext_one s k h]; simp [inr]
theorem takeWhile_all {α : Type} (f : α → Bool) : ∀ l : List α, l.all f = true → l.takeWhile f = l
  | [], _ => rfl
  | a :: l, h => by
    simp only [List.all_cons, Bool.and_eq_true] at h
    rw [List.takeWhile_cons, if_pos h.1, takeWhile_all f l h.2]
theorem ahN_stop (s : ByteArray) (k : Nat) (h : k < s.size) (ha : (s.data.toList.take k).all isLet = true) (hn : isLet s[k] = false) : ahN s.data.toList = k := by
  have e : s.data.toList = s.data.toList.take k ++ s[k] :: s.data.toList.drop (k + 1) := by
    have e2 : s[k] = s.data.toList[k]'(by simpa using h) := rfl
    rw [e2, ← List.drop_eq_getElem_cons (by simpa using h), List.take_append_drop]
  unfold ahN
  rw [e, List.takeWhile_append]
  rw [takeWhile_all isLet _ ha, if_pos rfl, List.takeWhile_cons, if_neg (by rw [hn]; decide)]
  simp; omega
theorem ahN_end (s : ByteArray) (ha : s.data.toList.all isLet = true) : ahN s.data.toList = s.size := by
  unfold ahN; rw [takeWhile_all isLet _ ha]; rfl
theorem ahN_size (s : ByteArray) : ahN s.data.toList ≤ s.size := ahN_le _
theorem ahN_lt (s : ByteArray) : ahN s.data.toList < s.size ↔ s.data.toList.all isLet = false := ahN_all _
theorem take_size (s : ByteArray) : s.data.toList.take s.size = s.data.toList := List.take_of_length_le (Nat.le_refl _)
theorem between_eq (s : ByteArray) (lo hi : Int) (b : Bool) (w : World) (hs : s.size ≤ maxLen) (h : inr lo hi s.data.toList = b) :
    Calls Tryd.prog 15 #[.string s, .int .u8 lo, .int .u8 hi] w fun e w' => e = .returned (.bool b) ∧ w' = w := by
  rw [← h]; exact between_any s lo hi w hs
set_option maxHeartbeats 400000 in
theorem lettersAhead_any (s : ByteArray) (w : World) (hs : s.size ≤ maxLen) :
    Calls Tryd.prog 14 #[.string s] w fun e w' => e = .returned (.int .i64 (ahN s.data.toList)) ∧ w' = w := by
  unfold maxLen at hs
  go_enter Tryd.func14, Tryd.ntmps14
  go_wp2
  go_loop [3] (fun i => ∃ k : Nat, k ≤ s.size ∧ i = .int .i64 k ∧ (s.data.toList.take k).all isLet = true) (fun i => s.size - (intOf i).toNat)
  case atStart => exact ⟨0, Nat.zero_le _, rfl, rfl⟩
  case round =>
    obtain ⟨k, hk, rfl, hr⟩ := hrel
    have HR : Hid ((s.data.toList.take k).all isLet = true) := hr
    clear hr
    by_cases hlt : k < s.size
    · have h1 := inr_one 97 122 s k hlt
      have h2 := inr_one 65 90 s k hlt
      have HT : Hid ((s.data.toList.take (k + 1)).all isLet = isLet s[k]) := by
        show List.all _ _ = _
        rw [all_take_snoc s k hlt, HR.out, Bool.true_and]
      have HS : Hid (isLet s[k] = (inr 97 122 (s.extract k (k + 1)).data.toList || inr 65 90 (s.extract k (k + 1)).data.toList)) := by
        show isLet _ = _
        rw [h1, h2]; rfl
      have HN : Hid (isLet s[k] = false → ahN s.data.toList = k) := fun hn => ahN_stop s k hlt HR.out hn
      have hse : (s.extract k (k + 1)).size ≤ maxLen := by unfold maxLen; rw [ByteArray.size_extract]; omega
      clear h1 h2
      cases ha : inr 97 122 (s.extract k (k + 1)).data.toList <;> cases hb : inr 65 90 (s.extract k (k + 1)).data.toList
      all_goals
        have HA : Hid _ := ha
        have HB : Hid _ := hb
        have HQ : Hid _ := HS.out
        rw [ha, hb] at HQ
        clear ha hb HS
        have HM : Hid True := trivial
        go_wp2_with (first | (go_at_call 15; have q := HM; clear q HM; refine (between_eq _ 97 122 _ _ hse HA.out).mono ?_; rintro e w' ⟨rfl, rfl⟩) | (go_at_call 15; refine (between_eq _ 65 90 _ _ hse HB.out).mono ?_; rintro e w' ⟨rfl, rfl⟩))
        first
          | (go_ret; exact ⟨ret_i64 (by rw [HN.out (by rw [HQ.out]; rfl)]), rfl⟩)
          | (go_round
             case rel => exact ⟨k + 1, by omega, by go_num, by rw [HT.out, HQ.out]; rfl⟩
             case measure => simp [intOf]; omega)
    · have HE : Hid (ahN s.data.toList = k) := by
        show ahN _ = k
        have : k = s.size := by omega
        subst this
        have h := HR.out
        rw [take_size] at h
        exact ahN_end s h
      go_wp2
      go_ret
      exact ⟨ret_i64 (by rw [HE.out]), rfl⟩
set_option maxHeartbeats 1000000 in
theorem specCaseOf_any (s : ByteArray) (w : World) (hs : s.size ≤ maxLen) :
    Calls Tryd.prog 8 #[.string s] w fun e w' => e = .returned (.int .i64 (caseT s)) ∧ w' = w := by
  unfold maxLen at hs
  go_enter Tryd.func8, Tryd.ntmps8
  go_wp2
  go_loop [3, 4, 5] (fun a b i => ∃ k : Nat, k ≤ s.size ∧ i = .int .i64 k ∧ a = .int .i64 (loN (s.data.toList.take k)) ∧ b = .int .i64 (upN (s.data.toList.take k)) ∧ (s.data.toList.take k).all isLet = true) (fun _ _ i => s.size - (intOf i).toNat)
  case atStart => exact ⟨0, Nat.zero_le _, rfl, rfl, rfl, rfl⟩
  case round =>
    obtain ⟨k, hk, rfl, rfl, rfl, hr⟩ := hrel
    have HR : Hid ((s.data.toList.take k).all isLet = true) := hr
    clear hr
    by_cases hlt : k < s.size
    · have HT : Hid ((s.data.toList.take (k + 1)).all isLet = isLet s[k]) := by
        show List.all _ _ = _
        rw [all_take_snoc s k hlt, HR.out, Bool.true_and]
      have HU : Hid (upN (s.data.toList.take (k + 1)) = upN (s.data.toList.take k) + if 65 ≤ (s[k].toNat : Int) ∧ (s[k].toNat : Int) ≤ 90 then 1 else 0) := by
        show upN _ = _
        rw [take_snoc s k hlt, upN_snoc]
      have HL : Hid (loN (s.data.toList.take (k + 1)) = loN (s.data.toList.take k) + if 97 ≤ (s[k].toNat : Int) ∧ (s[k].toNat : Int) ≤ 122 then 1 else 0) := by
        show loN _ = _
        rw [take_snoc s k hlt, loN_snoc]
      have hu := upN_le (s.data.toList.take k)
      have hl := loN_le (s.data.toList.take k)
      have hlen : (s.data.toList.take k).length ≤ k := List.length_take_le _ _
      have HN : Hid (isLet s[k] = false → caseT s = 0) := by
        intro hn
        refine caseL_bad _ ?_
        exact (ahN_all s.data.toList).1 (by rw [ahN_stop s k hlt HR.out hn]; exact hlt)
      go_wp2
      all_goals first
        | (go_ret; exact ⟨ret_i64 (by rw [HN.out (by unfold isLet; simp; omega)]), rfl⟩)
        | (go_round
           case rel => exact ⟨k + 1, by omega, by go_num, by rw [HL.out]; first | (rw [if_pos (by omega)]; go_num) | (rw [if_neg (by omega)]; go_num), by rw [HU.out]; first | (rw [if_pos (by omega)]; go_num) | (rw [if_neg (by omega)]; go_num), by rw [HT.out]; unfold isLet; simp; omega⟩
           case measure => simp [intOf]; omega)
    · have hk2 : k = s.size := by omega
      subst hk2
      rw [take_size] at HR ⊢
      by_cases h0 : s.size = 0
      · have HC : Hid (caseT s = 0) := by
          have : s.data.toList = [] := List.length_eq_zero_iff.1 h0
          unfold caseT caseL
          rw [this]; rfl
        go_wp2
        go_ret
        exact ⟨ret_i64 (by rw [HC.out]), rfl⟩
      · have hp : 0 < s.size := by omega
        have HC : Hid (caseT s = if upN s.data.toList = 0 then 1 else if upN s.data.toList = 1 ∧ (s[0].toNat : Int) ≤ 90 then 2 else if loN s.data.toList = 0 then 3 else 4) := by
          have e : s.data.toList = s[0] :: s.data.toList.drop 1 := by
            have e2 : s[0] = s.data.toList[0]'(by simpa using hp) := rfl
            rw [e2, ← List.drop_eq_getElem_cons (by simpa using hp)]; rfl
          have h := HR.out
          show caseT s = _
          unfold caseT
          rw [e] at h ⊢
          exact caseL_counts _ _ h
        have hu := upN_le s.data.toList
        have hl := loN_le s.data.toList
        generalize hU : upN s.data.toList = U at HC hu ⊢
        generalize hL : loN s.data.toList = L at HC hl ⊢
        have hlen : s.data.toList.length = s.size := rfl
        clear hU hL
        go_wp2
        all_goals (go_ret; refine ⟨ret_i64 ?_, rfl⟩; rw [HC.out]; simp only [beq_iff_eq, beq_eq_false_iff_ne, ne_eq] at *; (repeat' split) <;> omega)
theorem ext_all (s : ByteArray) : s.data.toList.drop 1 = (s.extract 1 s.size).data.toList := by
  simp only [ByteArray.data_extract, Array.toList_extract]
  rw [List.extract_eq_take_drop, List.take_of_length_le (by simp)]
set_option maxHeartbeats 1000000 in
theorem caseOf_any (s : ByteArray) (w : World) (hs : s.size ≤ maxLen) :
    Calls Tryd.prog 6 #[.string s] w fun e w' => e = .returned (.int .i64 (caseT s)) ∧ w' = w := by
  have hs' := hs
  unfold maxLen at hs
  by_cases h0 : s.toList = []
  · have HC : Hid (caseT s = 0) := by
      have : s.data.toList = [] := by rw [← ByteArray.toList_eq]; exact h0
      unfold caseT caseL
      rw [this]; rfl
    go_enter Tryd.func6, Tryd.ntmps6
    go_wp2
    go_ret
    exact ⟨ret_i64 (by rw [HC.out]), rfl⟩
  · have hp : 0 < s.size := by have := mt (toList_nil s).2 h0; omega
    by_cases hn : (ahN s.data.toList : Int) < (s.size : Int)
    · have HC : Hid (caseT s = 0) := caseL_bad _ ((ahN_lt s).1 (by omega))
      go_enter Tryd.func6, Tryd.ntmps6
      go_wp2_with (go_at_call 14; refine (lettersAhead_any _ _ hs').mono ?_; rintro e w' ⟨rfl, rfl⟩)
      go_ret
      exact ⟨ret_i64 (by rw [HC.out]), rfl⟩
    · have hse : (s.extract 1 s.size).size ≤ maxLen := by unfold maxLen; rw [ByteArray.size_extract]; omega
      have HC : Hid (caseT s = if inr 97 122 s.data.toList then 1 else if inr 97 122 (s.extract 1 s.size).data.toList then 2 else if inr 65 90 s.data.toList then 3 else 4) := by
        show caseT s = _
        rw [← ext_all s]
        have h1 : s.data.toList ≠ [] := by intro h; rw [← ByteArray.toList_eq] at h; exact h0 h
        have h2 : s.data.toList.all isLet = true := by
          rcases hb : s.data.toList.all isLet with _ | _
          · have := (ahN_lt s).2 hb; omega
          · rfl
        unfold caseT caseL
        rw [if_neg (by rintro (h | h); exact h1 h; rw [h2] at h; cases h)]
      cases c1 : inr 97 122 s.data.toList <;> cases c2 : inr 97 122 (s.extract 1 s.size).data.toList <;> cases c3 : inr 65 90 s.data.toList
      all_goals
        have H1 : Hid _ := c1
        have H2 : Hid _ := c2
        have H3 : Hid _ := c3
        have HD : Hid _ := HC.out
        rw [c1, c2, c3] at HD
        clear c1 c2 c3 HC
        have he : s.toList.isEmpty = false := by simpa using h0
        have hn2 : ¬ ahN s.data.toList < s.size := by omega
        have HM1 : Hid True := trivial
        have HM2 : Hid True := trivial
        go_enter Tryd.func6, Tryd.ntmps6
        go_wp2_with (first | (go_at_call 14; refine (lettersAhead_any _ _ hs').mono ?_; rintro e w' ⟨rfl, rfl⟩) | (go_at_call 15; have q := HM1; clear q HM1; refine (between_eq s 97 122 _ _ hs' H1.out).mono ?_; rintro e w' ⟨rfl, rfl⟩) | (go_at_call 15; have q := HM2; clear q HM2; refine (between_eq (s.extract 1 s.size) 97 122 _ _ hse H2.out).mono ?_; rintro e w' ⟨rfl, rfl⟩) | (go_at_call 15; refine (between_eq s 65 90 _ _ hs' H3.out).mono ?_; rintro e w' ⟨rfl, rfl⟩))
        go_ret
        exact ⟨ret_i64 (by rw [HD.out]; rfl), rfl⟩
end Go.Proofs.YtelogmffgepfdaaDoor
