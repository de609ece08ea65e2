/-
  A word written as a text is: CaseLike of both; the law FnExactCaseLike.
-/
import Derived.Test.YtelogmffgepfdaaDoorW301
import Derived.Test.YtelogmffgepfdaaDoorShelf
import Derived.Lib.Case
namespace Go.Proofs.YtelogmffgepfdaaDoor
open Go.RowKit
set_option linter.unusedVariables false
theorem upperB_eq (c : UInt8) (h : 97 ≤ c.toNat ∧ c.toNat ≤ 122) : Lib.upperB c = upB c := by
  have hall : ∀ n : Fin 26, Lib.upperB (UInt8.ofNat (97 + n.val)) = upB (UInt8.ofNat (97 + n.val)) := by decide +kernel
  have e1 : UInt8.ofNat (97 + (c.toNat - 97)) = c := by rw [show 97 + (c.toNat - 97) = c.toNat by omega]; simp
  have := hall ⟨c.toNat - 97, by omega⟩
  simp only at this
  rw [e1] at this
  exact this
theorem toUpper_eq (l : List UInt8) (h : inr 97 122 l = true) : Lib.toUpperA l = upL l := by
  induction l with
  | nil => rfl
  | cons a l ih =>
    rw [inr_cons] at h; simp only [Bool.and_eq_true, decide_eq_true_eq] at h
    show Lib.upperB a :: Lib.toUpperA l = upB a :: upL l
    rw [ih h.2, upperB_eq a (by omega)]
theorem inr_small (l : List UInt8) (h : inr 97 122 l = true) : ∀ (j : Nat) (b : UInt8), l[j]? = some b → b.toNat < 128 := by
  intro j b hb
  have := List.all_eq_true.1 h b (List.mem_of_getElem? hb)
  simp only [Bool.and_eq_true, decide_eq_true_eq] at this
  omega
theorem toUpper_word (s : ByteArray) (w : World) (hs : s.size ≤ 1000) (h : inr 97 122 s.data.toList = true) :
    Calls Tryd.prog 13 #[.string s] w fun e w' => e = .returned (.string (upS s)) ∧ Below w.heap.size w w' := by
  have := Tryd.strings_ToUpper_ascii s w (by omega) (inr_small _ h)
  rw [toUpper_eq _ h] at this
  exact this
theorem wok_inr {s : ByteArray} (h : wok s = true) : inr 97 122 s.data.toList = true ∧ 1 ≤ s.size ∧ s.size ≤ 12 := by
  unfold wok at h
  simp only [Bool.and_eq_true, decide_eq_true_eq] at h
  exact ⟨h.2.1, by omega, by omega⟩
theorem inr_take (lo hi : Int) (s : ByteArray) (n : Nat) (h : inr lo hi s.data.toList = true) : inr lo hi (s.extract 0 n).data.toList = true := by
  have e : (s.extract 0 n).data.toList = s.data.toList.take n := by simp
  rw [e]
  unfold inr at *
  rw [List.all_eq_true] at *
  exact fun x hx => h x (List.mem_of_mem_take hx)
/-- A word written as a text is. -/
def clT (word like : ByteArray) : ByteArray := if wok word then (if caseT like = 2 then upS (word.extract 0 1) ++ word.extract 1 word.size else if caseT like = 3 then upS word else word) else ⟨#[]⟩
theorem first_size (s : ByteArray) (h : 1 ≤ s.size) : (upS (s.extract 0 1) ++ s.extract 1 s.size).size = s.size := by
  rw [ByteArray.size_append, upS_size]; simp; omega
set_option maxHeartbeats 1000000 in
theorem implCaseLike_any (s t : ByteArray) (w : World) (hs : s.size ≤ maxLen) (ht : t.size ≤ maxLen) :
    Calls Tryd.prog 5 #[.string s, .string t] w fun e w' => e = .returned (.string (clT s t)) ∧ Below w.heap.size w w' := by
  have HS : Hid (s.size ≤ maxLen) := hs
  have HT : Hid (t.size ≤ maxLen) := ht
  unfold maxLen at hs ht
  cases hw : wok s with
  | false =>
    have HF : Hid (clT s t = ⟨#[]⟩) := by show _ = _; simp [clT, hw]
    go_enter Tryd.func5, Tryd.ntmps5
    go_wp2_with (go_at_call 12; refine (wordOk_any _ _ HS.out).mono ?_; rintro e w' ⟨rfl, rfl⟩)
    go_ret
    exact ⟨ret_str (by rw [HF.out]), Below.refl _ _⟩
  | true =>
    obtain ⟨hin, h1, h12⟩ := wok_inr hw
    have HI : Hid (inr 97 122 s.data.toList = true) := hin
    have HF : Hid (clT s t = if caseT t = 2 then upS (s.extract 0 1) ++ s.extract 1 s.size else if caseT t = 3 then upS s else s) := by show _ = _; simp [clT, hw]
    obtain ⟨c, hc⟩ : ∃ c, caseT t = c := ⟨_, rfl⟩
    rw [hc] at HF
    have HC : Hid (caseT t = c) := hc
    clear hin hc
    by_cases c2 : c = 2
    · subst c2
      obtain ⟨RT, hRT⟩ : ∃ RT, upS (s.extract 0 1) ++ s.extract 1 s.size = RT := ⟨_, rfl⟩
      have hx1 : (upS (s.extract 0 1)).size = 1 := by rw [upS_size]; simp; omega
      have hx2 : (s.extract 1 s.size).size = s.size - 1 := by simp
      have r1 : ∀ w : World, (Op.stringOp .add (upS (s.extract 0 1)) (s.extract 1 s.size)).run Tryd.prog w = .ok (.string RT) w := fun w => by rw [run_string_add_sum w _ _ (by rw [hx1, hx2]; omega), hRT]
      have HG : Hid (clT s t = RT) := by show _ = _; rw [HF.out, if_pos rfl, hRT]
      have hs1i : (1 : Int) ≤ (s.size : Int) := by omega
      clear hRT hx1 hx2
      go_enter Tryd.func5, Tryd.ntmps5
      go_wp2_with (first | (go_at_call 12; refine (wordOk_any _ _ HS.out).mono ?_; rintro e w' ⟨rfl, hw⟩; have hw2 := hw.symm; clear hw; subst hw2) | (go_at_call 6; refine (caseOf_any _ _ HT.out).mono ?_; rintro e w' ⟨he, hw⟩; have hw2 := hw.symm; clear hw; subst hw2; rw [HC.out] at he; subst he))
      go_region_held3 (fun w' => True) (trivial) (first | (go_at_call 13; refine (toUpper_word (s.extract 0 1) _ (by simp; omega) (inr_take _ _ _ _ HI.out)).mono ?_; rintro e w3 ⟨rfl, hb3⟩))
      all_goals
        go_wp2_with fail
        go_ret
        exact ⟨ret_str (by rw [HG.out]), (Below.refl _ _).drew.trans hb3⟩
    by_cases c3 : c = 3
    · subst c3
      go_enter Tryd.func5, Tryd.ntmps5
      go_wp2_with (first | (go_at_call 12; refine (wordOk_any _ _ HS.out).mono ?_; rintro e w' ⟨rfl, hw⟩; have hw2 := hw.symm; clear hw; subst hw2) | (go_at_call 6; refine (caseOf_any _ _ HT.out).mono ?_; rintro e w' ⟨he, hw⟩; have hw2 := hw.symm; clear hw; subst hw2; rw [HC.out] at he; subst he) | (go_at_call 13; refine (toUpper_word s _ (by omega) HI.out).mono ?_; rintro e w3 ⟨rfl, hb3⟩))
      go_ret
      exact ⟨ret_str (by rw [HF.out]; rfl), hb3⟩
    · have HG : Hid (clT s t = s) := by show _ = _; rw [HF.out, if_neg c2, if_neg c3]
      go_enter Tryd.func5, Tryd.ntmps5
      go_wp2_with (first | (go_at_call 12; refine (wordOk_any _ _ HS.out).mono ?_; rintro e w' ⟨rfl, hw⟩; have hw2 := hw.symm; clear hw; subst hw2) | (go_at_call 6; refine (caseOf_any _ _ HT.out).mono ?_; rintro e w' ⟨he, hw⟩; have hw2 := hw.symm; clear hw; subst hw2; rw [HC.out] at he; subst he))
      go_ret
      exact ⟨ret_str (by rw [HG.out]), Below.refl _ _⟩
set_option maxHeartbeats 1000000 in
theorem specCaseLike_any (s t : ByteArray) (w : World) (hs : s.size ≤ maxLen) (ht : t.size ≤ maxLen) :
    Calls Tryd.prog 7 #[.string s, .string t] w fun e w' => e = .returned (.string (clT s t)) ∧ Below w.heap.size w w' := by
  have HS : Hid (s.size ≤ maxLen) := hs
  have HT : Hid (t.size ≤ maxLen) := ht
  unfold maxLen at hs ht
  cases hw : wok s with
  | false =>
    have HF : Hid (clT s t = ⟨#[]⟩) := by show _ = _; simp [clT, hw]
    go_enter Tryd.func7, Tryd.ntmps7
    go_wp2_with (go_at_call 16; refine (l1Word_any _ _ HS.out).mono ?_; rintro e w' ⟨rfl, rfl⟩)
    go_ret
    exact ⟨ret_str (by rw [HF.out]), Below.refl _ _⟩
  | true =>
    obtain ⟨hin, h1, h12⟩ := wok_inr hw
    have HF : Hid (clT s t = if caseT t = 2 then upS (s.extract 0 1) ++ s.extract 1 s.size else if caseT t = 3 then upS s else s) := by show _ = _; simp [clT, hw]
    obtain ⟨c, hc⟩ : ∃ c, caseT t = c := ⟨_, rfl⟩
    rw [hc] at HF
    have HC : Hid (caseT t = c) := hc
    have HX : Hid ((s.extract 0 1).size ≤ maxLen) := by show _ ≤ _; unfold maxLen; simp; omega
    clear hin hc
    by_cases c2 : c = 2
    · subst c2
      obtain ⟨RT, hRT⟩ : ∃ RT, upS (s.extract 0 1) ++ s.extract 1 s.size = RT := ⟨_, rfl⟩
      have hx1 : (upS (s.extract 0 1)).size = 1 := by rw [upS_size]; simp; omega
      have hx2 : (s.extract 1 s.size).size = s.size - 1 := by simp
      have r1 : ∀ w : World, (Op.stringOp .add (upS (s.extract 0 1)) (s.extract 1 s.size)).run Tryd.prog w = .ok (.string RT) w := fun w => by rw [run_string_add_sum w _ _ (by rw [hx1, hx2]; omega), hRT]
      have HG : Hid (clT s t = RT) := by show _ = _; rw [HF.out, if_pos rfl, hRT]
      have hs1i : (1 : Int) ≤ (s.size : Int) := by omega
      clear hRT hx1 hx2
      go_enter Tryd.func7, Tryd.ntmps7
      go_wp2_with (first | (go_at_call 16; refine (l1Word_any _ _ HS.out).mono ?_; rintro e w' ⟨rfl, hw⟩; have hw2 := hw.symm; clear hw; subst hw2) | (go_at_call 8; refine (specCaseOf_any _ _ HT.out).mono ?_; rintro e w' ⟨he, hw⟩; have hw2 := hw.symm; clear hw; subst hw2; rw [HC.out] at he; subst he))
      go_region_held3 (fun w' => True) (trivial) (first | (go_at_call 17; refine (l10Upper_any (s.extract 0 1) _ HX.out).mono ?_; rintro e w3 ⟨rfl, hb3⟩))
      all_goals
        go_wp2_with fail
        go_ret
        exact ⟨ret_str (by rw [HG.out]), (Below.refl _ _).drew.trans hb3⟩
    by_cases c3 : c = 3
    · subst c3
      go_enter Tryd.func7, Tryd.ntmps7
      go_wp2_with (first | (go_at_call 16; refine (l1Word_any _ _ HS.out).mono ?_; rintro e w' ⟨rfl, hw⟩; have hw2 := hw.symm; clear hw; subst hw2) | (go_at_call 8; refine (specCaseOf_any _ _ HT.out).mono ?_; rintro e w' ⟨he, hw⟩; have hw2 := hw.symm; clear hw; subst hw2; rw [HC.out] at he; subst he) | (go_at_call 17; refine (l10Upper_any s _ HS.out).mono ?_; rintro e w3 ⟨rfl, hb3⟩))
      go_ret
      exact ⟨ret_str (by rw [HF.out]; rfl), hb3⟩
    · have HG : Hid (clT s t = s) := by show _ = _; rw [HF.out, if_neg c2, if_neg c3]
      go_enter Tryd.func7, Tryd.ntmps7
      go_wp2_with (first | (go_at_call 16; refine (l1Word_any _ _ HS.out).mono ?_; rintro e w' ⟨rfl, hw⟩; have hw2 := hw.symm; clear hw; subst hw2) | (go_at_call 8; refine (specCaseOf_any _ _ HT.out).mono ?_; rintro e w' ⟨he, hw⟩; have hw2 := hw.symm; clear hw; subst hw2; rw [HC.out] at he; subst he))
      go_ret
      exact ⟨ret_str (by rw [HG.out]), Below.refl _ _⟩
end Go.Proofs.YtelogmffgepfdaaDoor
/-
  A drawn word and a text in some case; the law FnCase.
-/
namespace Go.Proofs.YtelogmffgepfdaaDoor
open Go.RowKit
set_option linter.unusedVariables false
set_option maxHeartbeats 1000000 in
theorem drawCaseLike_any (w : World) (a : Option Addr) (len cap : Nat) (zs : List Int) (h : IsRow .u8 w a len cap zs) :
    Calls Tryd.prog 4 #[.slice a len cap] w fun e w' => ∃ s t, e = .returned (.tuple #[.string s, .string t]) ∧ s.size ≤ 20 ∧ t.size ≤ 21 ∧ Below w.heap.size w w' := by
  go_enter Tryd.func4, Tryd.ntmps4
  go_wp2_with fail
  refine (open_any w a len cap zs h).mono ?_
  rintro e w1 ⟨rfl, hr1, hb1⟩
  have HR1 : Hid (RdAt w1 w.heap.size 0) := hr1
  clear hr1
  go_wp2_with fail
  refine (l13AnyWord_any _ _ 0 HR1.out (by omega)).mono ?_
  rintro e w2 ⟨s, rfl, hs, ⟨q, hr2, hq⟩, hk2⟩
  unfold Drawn at hs
  have HR2 : Hid (RdAt w2 w.heap.size q) := hr2
  clear hr2
  go_wp2_with fail
  refine (l13Case_any _ _ q HR2.out (by omega)).mono ?_
  rintro e w3 ⟨t, rfl, ht, hk3⟩
  have HB3 : Hid (Below w.heap.size w w3) := (hk2.trans hk3).below hb1 (Nat.le_refl _)
  clear hk2 hk3
  go_wp2_with fail
  refine bodyPost_ret (v := .tuple #[.string s, .string t]) (by simp [results, Tryd.results4, go_sem]) rfl ⟨s, t, rfl, hs, ht, HB3.out⟩
theorem two_letters (s : ByteArray) (h : 2 ≤ s.size) : ∃ a b l, s.data.toList = a :: b :: l := by
  have hl : s.data.toList.length = s.size := rfl
  match hd : s.data.toList with
  | [] => rw [hd] at hl; simp at hl; omega
  | [a] => rw [hd] at hl; simp at hl; omega
  | a :: b :: l => exact ⟨a, b, l, rfl⟩
theorem case_facts (s t : ByteArray) (hw : wok s = true) (h2 : 2 ≤ s.size) :
    (caseT t = 0 ∨ caseT t = 4 → clT s t = s ∧ caseT (clT s t) = 1) ∧ (¬ caseT t = 0 → ¬ caseT t = 4 → caseT (clT s t) = caseT t ∧ (clT s t).size = s.size ∧ clT s (clT s t) = clT s t) := by
  obtain ⟨hin, h1, h12⟩ := wok_inr hw
  obtain ⟨a, b, l, hl⟩ := two_letters s h2
  have hin2 : inr 97 122 (a :: b :: l) = true := by rw [← hl]; exact hin
  have e1 : caseT s = 1 := by unfold caseT; rw [hl]; exact caseL_lower _ (by simp) hin2
  have e2 : caseT (upS (s.extract 0 1) ++ s.extract 1 s.size) = 2 := by
    have hd : (upS (s.extract 0 1) ++ s.extract 1 s.size).data.toList = upB a :: b :: l := by
      have h3 : (upS (s.extract 0 1)).data.toList = [upB a] := by
        rw [upS_list]
        have : (s.extract 0 1).data.toList = [a] := by
          have : (s.extract 0 1).data.toList = s.data.toList.take 1 := by simp
          rw [this, hl]; rfl
        rw [this]; rfl
      have h4 : (s.extract 1 s.size).data.toList = b :: l := by
        rw [← ext_all s, hl]; rfl
      rw [ByteArray.data_append, Array.toList_append, h3, h4]; rfl
    unfold caseT; rw [hd]; exact caseL_first a b l hin2
  have e3 : caseT (upS s) = 3 := by
    unfold caseT; rw [upS_list, hl]; exact caseL_upper a b l hin2
  have hb : 0 ≤ caseT t ∧ caseT t ≤ 4 := caseL_bounds _
  have hF : clT s t = if caseT t = 2 then upS (s.extract 0 1) ++ s.extract 1 s.size else if caseT t = 3 then upS s else s := by simp [clT, hw]
  constructor
  · intro h
    have : clT s t = s := by rw [hF, if_neg (by omega), if_neg (by omega)]
    rw [this]; exact ⟨rfl, e1⟩
  · intro h0 h4
    rcases (show caseT t = 1 ∨ caseT t = 2 ∨ caseT t = 3 by omega) with h | h | h
    · have hs : clT s t = s := by rw [hF, if_neg (by omega), if_neg (by omega)]
      rw [hs, h]
      exact ⟨e1, rfl, by unfold clT; rw [if_pos hw, if_neg (by omega), if_neg (by omega)]⟩
    · have hs : clT s t = upS (s.extract 0 1) ++ s.extract 1 s.size := by rw [hF, if_pos h]
      rw [hs, h]
      exact ⟨e2, first_size s h1, by unfold clT; rw [if_pos hw, if_pos e2]⟩
    · have hs : clT s t = upS s := by rw [hF, if_neg (by omega), if_pos h]
      rw [hs, h]
      exact ⟨e3, upS_size s, by unfold clT; rw [if_pos hw, if_neg (by omega), if_pos e3]⟩
theorem clT_empty (s t : ByteArray) (hw : wok s = false) : clT s t = ⟨#[]⟩ := by unfold clT; rw [hw]; rfl
theorem clT_size (s t : ByteArray) (hs : s.size ≤ 20) : (clT s t).size ≤ 20 := by
  unfold clT
  split
  · next hw =>
    have h1 := (wok_inr hw).2.1
    split
    · rw [first_size s h1]; exact hs
    · split
      · rw [upS_size]; exact hs
      · exact hs
  · exact Nat.zero_le _
theorem same_text {a b : ByteArray} (h : a = b) : (a.toList == b.toList) = true := by rw [h]; simp
set_option maxHeartbeats 4000000 in
theorem fnCase_walk (a : Option Addr) (len cap : Nat) (zs : List Int) (w : World) (h : IsRow .u8 w a len cap zs) :
    Calls Tryd.prog 3 #[.slice a len cap] w fun e w' => e = .returned (.bool true) ∧ Below w.heap.size w w' := by
  by_cases h1 : (1048576 : Int) < (len : Int)
  · clear h
    go_enter Tryd.func3, Tryd.ntmps3
    go_wp2
    go_ret
    exact ⟨rfl, Below.refl _ _⟩
  have HI : Hid (IsRow .u8 w a len cap zs) := h
  clear h
  go_enter Tryd.func3, Tryd.ntmps3
  go_wp2_with fail
  refine (drawCaseLike_any w a len cap zs HI.out).mono ?_
  rintro e w1 ⟨s, t, rfl, hs, ht, hb1⟩
  have HS : Hid (s.size ≤ maxLen) := by show _ ≤ _; unfold maxLen; omega
  have HT : Hid (t.size ≤ maxLen) := by show _ ≤ _; unfold maxLen; omega
  have HB1 : Hid (Below w.heap.size w w1) := hb1
  have hS20 := clT_size s t hs
  have HF : Hid (2 ≤ (clT s t).size → (caseT t = 0 ∨ caseT t = 4 → clT s t = s ∧ caseT (clT s t) = 1) ∧ (¬ caseT t = 0 → ¬ caseT t = 4 → caseT (clT s t) = caseT t ∧ (clT s t).size = s.size ∧ clT s (clT s t) = clT s t)) := by
    intro h2
    cases hw : wok s with
    | false => rw [clT_empty s t hw] at h2; exact absurd h2 (by decide)
    | true =>
      have h3 : 2 ≤ s.size := by
        unfold clT at h2
        rw [if_pos hw] at h2
        have h1 := (wok_inr hw).2.1
        split at h2
        · rw [first_size s h1] at h2; exact h2
        · split at h2
          · rw [upS_size] at h2; exact h2
          · exact h2
      exact case_facts s t hw h3
  obtain ⟨S, hS⟩ : ∃ S, clT s t = S := ⟨_, rfl⟩
  obtain ⟨k, hk⟩ : ∃ k, caseT t = k := ⟨_, rfl⟩
  rw [hS] at HF hS20
  rw [hk] at HF
  have HCS : Hid (clT s t = S) := hS
  have HCK : Hid (caseT t = k) := hk
  have HSM : Hid (S.size ≤ maxLen) := by show _ ≤ _; unfold maxLen; omega
  clear hS hk hb1
  go_wp2_with fail
  refine (implCaseLike_any s t _ HS.out HT.out).mono ?_
  rintro e w2 ⟨he, hb2⟩
  rw [HCS.out] at he
  subst he
  have HB2 : Hid (Below w.heap.size w w2) := HB1.out.trans (hb2.mono HB1.out.size)
  clear hb2
  go_wp2_with fail
  refine (caseOf_any t _ HT.out).mono ?_
  rintro e w2' ⟨he, hw2⟩
  rw [HCK.out] at he
  subst he
  subst hw2
  go_wp2_with fail
  refine (specCaseLike_any s t _ HS.out HT.out).mono ?_
  rintro e w3 ⟨he, hb3⟩
  rw [HCS.out] at he
  subst he
  have HB3 : Hid (Below w.heap.size w w3) := HB2.out.trans (hb3.mono HB2.out.size)
  clear hb3
  by_cases h2 : (S.size : Int) < 2
  · go_wp2_with fail
    refine (specCaseOf_any t _ HT.out).mono ?_
    rintro e w3' ⟨he, hw3⟩
    rw [HCK.out] at he
    subst he
    subst hw3
    go_wp2_with fail
    refine (specCaseLike_any s t _ HS.out HT.out).mono ?_
    rintro e w4 ⟨he, hb4⟩
    rw [HCS.out] at he
    subst he
    have HB4 : Hid (Below w.heap.size w w4) := HB3.out.trans (hb4.mono HB3.out.size)
    clear hb4
    go_wp2_with fail
    refine (specCaseOf_any t _ HT.out).mono ?_
    rintro e w4' ⟨he, hw4⟩
    rw [HCK.out] at he
    subst he
    subst hw4
    go_wp2_with fail
    go_ret
    exact ⟨rfl, HB4.out⟩
  · obtain ⟨f1, f2⟩ := HF.out (by omega)
    by_cases hk : k = 0 ∨ k = 4
    · obtain ⟨g1, g2⟩ := f1 hk
      subst g1
      have HO : Hid (caseT S = 1) := g2
      clear f1 f2 HF g2
      rcases hk with rfl | rfl
      all_goals
        go_wp2_with fail
        refine (specCaseOf_any t _ HT.out).mono ?_
        rintro e w3' ⟨he, hw3⟩
        rw [HCK.out] at he
        subst he
        subst hw3
        go_wp2_with fail
        refine (caseOf_any S _ HSM.out).mono ?_
        rintro e w4' ⟨he, hw4⟩
        rw [HO.out] at he
        subst he
        subst hw4
        go_wp2_with fail
        go_ret
        exact ⟨rfl, HB3.out⟩
    · have k0 : ¬ k = 0 := fun h => hk (.inl h)
      have k4 : ¬ k = 4 := fun h => hk (.inr h)
      obtain ⟨g1, g2, g3⟩ := f2 k0 k4
      have k0b : (k == 0) = false := by simpa using k0
      have k4b : (k == 4) = false := by simpa using k4
      have HO : Hid (caseT S = k) := g1
      have HZ : (S.size : Int) = (s.size : Int) := by omega
      have HU : Hid (clT s S = S) := g3
      clear f1 f2 HF g1 g2 g3 hk
      go_wp2_with fail
      refine (specCaseOf_any t _ HT.out).mono ?_
      rintro e w3' ⟨he, hw3⟩
      rw [HCK.out] at he
      subst he
      subst hw3
      go_wp2_with fail
      refine (caseOf_any S _ HSM.out).mono ?_
      rintro e w4' ⟨he, hw4⟩
      rw [HO.out] at he
      subst he
      subst hw4
      go_wp2_with fail
      refine (implCaseLike_any s S _ HS.out HSM.out).mono ?_
      rintro e w5 ⟨he, hb5⟩
      rw [HU.out] at he
      subst he
      have HB5 : Hid (Below w.heap.size w w5) := HB3.out.trans (hb5.mono HB3.out.size)
      clear hb5
      go_wp2_with fail
      go_ret
      exact ⟨rfl, HB5.out⟩
end Go.Proofs.YtelogmffgepfdaaDoor
