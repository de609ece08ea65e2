/-
  A word written as a text is: CaseLike of both; the law FnExactCaseLike.
-/
import Derived.Test.YtecblffkngdnnaaDoorW301
import Derived.Test.YtecblffkngdnnaaDoorShelf
import Derived.Lib.Case
namespace Go.Proofs.YtecblffkngdnnaaDoor
open Go.RowKit
set_option linter.unusedVariables false
theorem upperB_eq (c : UInt8) (h : 97 ≤ c.toNat ∧ c.toNat ≤ 122) : Lib.upperB c = upB c := by
  have hall : ∀ n : Fin 26, Lib.upperB (UInt8.ofNat (97 + n.val)) = upB (UInt8.ofNat (97 + n.val)) := by decide +kernel
  have e1 : UInt8.ofNat (97 + (c.toNat - 97)) = c := by rw [show 97 + (c.toNat - 97) = c.toNat by omega]; simp
  have := hall ⟨c.toNat - 97, by omega⟩
  simp only at this
  rw [e1] at this
  exact this
theorem toUpper_eq (l : List UInt8) (h : inr 97 122 l = true) : Lib.toUpperA l = upL l := by
  induction l with
  | nil => rfl
  | cons a l ih =>
    rw [inr_cons] at h; simp only [Bool.and_eq_true, decide_eq_true_eq] at h
    show Lib.upperB a :: Lib.toUpperA l = upB a :: upL l
    rw [ih h.2, upperB_eq a (by omega)]
theorem inr_small (l : List UInt8) (h : inr 97 122 l = true) : ∀ (j : Nat) (b : UInt8), l[j]? = some b → b.toNat < 128 := by
  intro j b hb
  have := List.all_eq_true.1 h b (List.mem_of_getElem? hb)
  simp only [Bool.and_eq_true, decide_eq_true_eq] at this
  omega
theorem toUpper_word (s : ByteArray) (w : World) (hs : s.size ≤ 1000) (h : inr 97 122 s.data.toList = true) :
    Calls Tryd.prog 11 #[.string s] w fun e w' => e = .returned (.string (upS s)) ∧ Below w.heap.size w w' := by
  have := Tryd.strings_ToUpper_ascii s w (by omega) (inr_small _ h)
  rw [toUpper_eq _ h] at this
  exact this
theorem wok_inr {s : ByteArray} (h : wok s = true) : inr 97 122 s.data.toList = true ∧ 1 ≤ s.size ∧ s.size ≤ 12 := by
  unfold wok at h
  simp only [Bool.and_eq_true, decide_eq_true_eq] at h
  exact ⟨h.2.1, by omega, by omega⟩
theorem inr_take (lo hi : Int) (s : ByteArray) (n : Nat) (h : inr lo hi s.data.toList = true) : inr lo hi (s.extract 0 n).data.toList = true := by
  have e : (s.extract 0 n).data.toList = s.data.toList.take n := by simp
  rw [e]
  unfold inr at *
  rw [List.all_eq_true] at *
  exact fun x hx => h x (List.mem_of_mem_take hx)
/-- A word written as a text is. -/
def clT (word like : ByteArray) : ByteArray := if wok word then (if caseT like = 2 then upS (word.extract 0 1) ++ word.extract 1 word.size else if caseT like = 3 then upS word else word) else ⟨#[]⟩
theorem first_size (s : ByteArray) (h : 1 ≤ s.size) : (upS (s.extract 0 1) ++ s.extract 1 s.size).size = s.size := by
  rw [ByteArray.size_append, upS_size]; simp; omega
set_option maxHeartbeats 1000000 in
theorem implCaseLike_any (s t : ByteArray) (w : World) (hs : s.size ≤ maxLen) (ht : t.size ≤ maxLen) :
    Calls Tryd.prog 5 #[.string s, .string t] w fun e w' => e = .returned (.string (clT s t)) ∧ Below w.heap.size w w' := by
  have HS : Hid (s.size ≤ maxLen) := hs
  have HT : Hid (t.size ≤ maxLen) := ht
  unfold maxLen at hs ht
  cases hw : wok s with
  | false =>
    have HF : Hid (clT s t = ⟨#[]⟩) := by show _ = _; simp [clT, hw]
    go_enter Tryd.func5, Tryd.ntmps5
    go_wp2_with (go_at_call 9; refine (wordOk_any _ _ HS.out).mono ?_; rintro e w' ⟨rfl, rfl⟩)
    go_ret
    exact ⟨ret_str (by rw [HF.out]), Below.refl _ _⟩
  | true =>
    obtain ⟨hin, h1, h12⟩ := wok_inr hw
    have HI : Hid (inr 97 122 s.data.toList = true) := hin
    have HF : Hid (clT s t = if caseT t = 2 then upS (s.extract 0 1) ++ s.extract 1 s.size else if caseT t = 3 then upS s else s) := by show _ = _; simp [clT, hw]
    obtain ⟨c, hc⟩ : ∃ c, caseT t = c := ⟨_, rfl⟩
    rw [hc] at HF
    have HC : Hid (caseT t = c) := hc
    clear hin hc
    by_cases c2 : c = 2
    · subst c2
      obtain ⟨RT, hRT⟩ : ∃ RT, upS (s.extract 0 1) ++ s.extract 1 s.size = RT := ⟨_, rfl⟩
      have hx1 : (upS (s.extract 0 1)).size = 1 := by rw [upS_size]; simp; omega
      have hx2 : (s.extract 1 s.size).size = s.size - 1 := by simp
      have r1 : ∀ w : World, (Op.stringOp .add (upS (s.extract 0 1)) (s.extract 1 s.size)).run Tryd.prog w = .ok (.string RT) w := fun w => by rw [run_string_add_sum w _ _ (by rw [hx1, hx2]; omega), hRT]
      have HG : Hid (clT s t = RT) := by show _ = _; rw [HF.out, if_pos rfl, hRT]
      have hs1i : (1 : Int) ≤ (s.size : Int) := by omega
      clear hRT hx1 hx2
      go_enter Tryd.func5, Tryd.ntmps5
      go_wp2_with (first | (go_at_call 9; refine (wordOk_any _ _ HS.out).mono ?_; rintro e w' ⟨rfl, hw⟩; have hw2 := hw.symm; clear hw; subst hw2) | (go_at_call 10; refine (caseOf_any _ _ HT.out).mono ?_; rintro e w' ⟨he, hw⟩; have hw2 := hw.symm; clear hw; subst hw2; rw [HC.out] at he; subst he))
      go_region_held3 (fun w' => True) (trivial) (first | (go_at_call 11; refine (toUpper_word (s.extract 0 1) _ (by simp; omega) (inr_take _ _ _ _ HI.out)).mono ?_; rintro e w3 ⟨rfl, hb3⟩))
      all_goals
        go_wp2_with fail
        go_ret
        exact ⟨ret_str (by rw [HG.out]), (Below.refl _ _).drew.trans hb3⟩
    by_cases c3 : c = 3
    · subst c3
      go_enter Tryd.func5, Tryd.ntmps5
      go_wp2_with (first | (go_at_call 9; refine (wordOk_any _ _ HS.out).mono ?_; rintro e w' ⟨rfl, hw⟩; have hw2 := hw.symm; clear hw; subst hw2) | (go_at_call 10; refine (caseOf_any _ _ HT.out).mono ?_; rintro e w' ⟨he, hw⟩; have hw2 := hw.symm; clear hw; subst hw2; rw [HC.out] at he; subst he) | (go_at_call 11; refine (toUpper_word s _ (by omega) HI.out).mono ?_; rintro e w3 ⟨rfl, hb3⟩))
      go_ret
      exact ⟨ret_str (by rw [HF.out]; rfl), hb3⟩
    · have HG : Hid (clT s t = s) := by show _ = _; rw [HF.out, if_neg c2, if_neg c3]
      go_enter Tryd.func5, Tryd.ntmps5
      go_wp2_with (first | (go_at_call 9; refine (wordOk_any _ _ HS.out).mono ?_; rintro e w' ⟨rfl, hw⟩; have hw2 := hw.symm; clear hw; subst hw2) | (go_at_call 10; refine (caseOf_any _ _ HT.out).mono ?_; rintro e w' ⟨he, hw⟩; have hw2 := hw.symm; clear hw; subst hw2; rw [HC.out] at he; subst he))
      go_ret
      exact ⟨ret_str (by rw [HG.out]), Below.refl _ _⟩
set_option maxHeartbeats 1000000 in
theorem specCaseLike_any (s t : ByteArray) (w : World) (hs : s.size ≤ maxLen) (ht : t.size ≤ maxLen) :
    Calls Tryd.prog 4 #[.string s, .string t] w fun e w' => e = .returned (.string (clT s t)) ∧ Below w.heap.size w w' := by
  have HS : Hid (s.size ≤ maxLen) := hs
  have HT : Hid (t.size ≤ maxLen) := ht
  unfold maxLen at hs ht
  cases hw : wok s with
  | false =>
    have HF : Hid (clT s t = ⟨#[]⟩) := by show _ = _; simp [clT, hw]
    go_enter Tryd.func4, Tryd.ntmps4
    go_wp2_with (go_at_call 6; refine (l1Word_any _ _ HS.out).mono ?_; rintro e w' ⟨rfl, rfl⟩)
    go_ret
    exact ⟨ret_str (by rw [HF.out]), Below.refl _ _⟩
  | true =>
    obtain ⟨hin, h1, h12⟩ := wok_inr hw
    have HF : Hid (clT s t = if caseT t = 2 then upS (s.extract 0 1) ++ s.extract 1 s.size else if caseT t = 3 then upS s else s) := by show _ = _; simp [clT, hw]
    obtain ⟨c, hc⟩ : ∃ c, caseT t = c := ⟨_, rfl⟩
    rw [hc] at HF
    have HC : Hid (caseT t = c) := hc
    have HX : Hid ((s.extract 0 1).size ≤ maxLen) := by show _ ≤ _; unfold maxLen; simp; omega
    clear hin hc
    by_cases c2 : c = 2
    · subst c2
      obtain ⟨RT, hRT⟩ : ∃ RT, upS (s.extract 0 1) ++ s.extract 1 s.size = RT := ⟨_, rfl⟩
      have hx1 : (upS (s.extract 0 1)).size = 1 := by rw [upS_size]; simp; omega
      have hx2 : (s.extract 1 s.size).size = s.size - 1 := by simp
      have r1 : ∀ w : World, (Op.stringOp .add (upS (s.extract 0 1)) (s.extract 1 s.size)).run Tryd.prog w = .ok (.string RT) w := fun w => by rw [run_string_add_sum w _ _ (by rw [hx1, hx2]; omega), hRT]
      have HG : Hid (clT s t = RT) := by show _ = _; rw [HF.out, if_pos rfl, hRT]
      have hs1i : (1 : Int) ≤ (s.size : Int) := by omega
      clear hRT hx1 hx2
      go_enter Tryd.func4, Tryd.ntmps4
      go_wp2_with (first | (go_at_call 6; refine (l1Word_any _ _ HS.out).mono ?_; rintro e w' ⟨rfl, hw⟩; have hw2 := hw.symm; clear hw; subst hw2) | (go_at_call 7; refine (specCaseOf_any _ _ HT.out).mono ?_; rintro e w' ⟨he, hw⟩; have hw2 := hw.symm; clear hw; subst hw2; rw [HC.out] at he; subst he))
      go_region_held3 (fun w' => True) (trivial) (first | (go_at_call 8; refine (l10Upper_any (s.extract 0 1) _ HX.out).mono ?_; rintro e w3 ⟨rfl, hb3⟩))
      all_goals
        go_wp2_with fail
        go_ret
        exact ⟨ret_str (by rw [HG.out]), (Below.refl _ _).drew.trans hb3⟩
    by_cases c3 : c = 3
    · subst c3
      go_enter Tryd.func4, Tryd.ntmps4
      go_wp2_with (first | (go_at_call 6; refine (l1Word_any _ _ HS.out).mono ?_; rintro e w' ⟨rfl, hw⟩; have hw2 := hw.symm; clear hw; subst hw2) | (go_at_call 7; refine (specCaseOf_any _ _ HT.out).mono ?_; rintro e w' ⟨he, hw⟩; have hw2 := hw.symm; clear hw; subst hw2; rw [HC.out] at he; subst he) | (go_at_call 8; refine (l10Upper_any s _ HS.out).mono ?_; rintro e w3 ⟨rfl, hb3⟩))
      go_ret
      exact ⟨ret_str (by rw [HF.out]; rfl), hb3⟩
    · have HG : Hid (clT s t = s) := by show _ = _; rw [HF.out, if_neg c2, if_neg c3]
      go_enter Tryd.func4, Tryd.ntmps4
      go_wp2_with (first | (go_at_call 6; refine (l1Word_any _ _ HS.out).mono ?_; rintro e w' ⟨rfl, hw⟩; have hw2 := hw.symm; clear hw; subst hw2) | (go_at_call 7; refine (specCaseOf_any _ _ HT.out).mono ?_; rintro e w' ⟨he, hw⟩; have hw2 := hw.symm; clear hw; subst hw2; rw [HC.out] at he; subst he))
      go_ret
      exact ⟨ret_str (by rw [HG.out]), Below.refl _ _⟩
set_option maxHeartbeats 1000000 in
theorem fnExactCaseLike_walk (a b : ByteArray) (w : World) (ha : a.size ≤ maxLen) (hb : b.size ≤ maxLen) :
    Calls Tryd.prog 3 #[.string a, .string b] w fun e w' => e = .returned (.bool true) ∧ Below w.heap.size w w' := by
  have HA : Hid (a.size ≤ maxLen) := ha
  have HB : Hid (b.size ≤ maxLen) := hb
  unfold maxLen at ha hb
  by_cases g1 : (1048576 : Int) < (a.size : Int)
  · go_enter Tryd.func3, Tryd.ntmps3
    go_wp2_with fail
    go_ret
    exact ⟨rfl, Below.refl _ _⟩
  by_cases g2 : (1048576 : Int) < (b.size : Int)
  · go_enter Tryd.func3, Tryd.ntmps3
    go_wp2_with fail
    go_ret
    exact ⟨rfl, Below.refl _ _⟩
  go_enter Tryd.func3, Tryd.ntmps3
  go_wp2_with fail
  refine (specCaseLike_any a b _ HA.out HB.out).mono ?_
  rintro e w1 ⟨rfl, hb1⟩
  go_wp2_with fail
  refine (implCaseLike_any a b _ HA.out HB.out).mono ?_
  rintro e w2 ⟨rfl, hb2⟩
  have HB2 : Hid (Below w.heap.size w w2) := hb1.trans (hb2.mono hb1.size)
  go_wp2_with fail
  go_ret
  exact ⟨rfl, HB2.out⟩
end Go.Proofs.YtecblffkngdnnaaDoor
