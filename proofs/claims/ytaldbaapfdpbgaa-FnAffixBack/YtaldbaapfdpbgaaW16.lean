/-
  The laws FnFar, FnBeginning and FnWithin return true.
-/
import Derived.Test.YtaldbaapfdpbgaaM7
import Derived.Test.YtaldbaapfdpbgaaW15
namespace Go.Proofs.Ytaldbaapfdpbgaa
open Go.RowKit
set_option linter.unusedVariables false
theorem farW_neg (a b : ByteArray) (h : farW a b < 0) : ¬ (wok a = true ∧ wok b = true) := by
  intro hw
  unfold farW at h
  rw [if_pos hw] at h
  have := D_pos (lt a) (lt b) a.size b.size
  unfold far at h
  omega
theorem farW_word (a b : ByteArray) (h : ¬ farW a b < 0) : farW a b = far a b := by
  unfold farW at *
  split
  · rfl
  · next hn => rw [if_neg hn] at h; omega
theorem far_bounds (a b : ByteArray) : far a b ≤ max (a.size : Int) b.size ∧ (a.size : Int) - b.size ≤ far a b ∧ (b.size : Int) - a.size ≤ far a b ∧ 0 ≤ far a b := by
  have h1 := D_max (lt a) (lt b) _ a.size b.size (Nat.le_refl _)
  have h2 := D_ge (lt a) (lt b) _ a.size b.size (Nat.le_refl _)
  have h3 := D_pos (lt a) (lt b) a.size b.size
  unfold far
  exact ⟨h1, h2.1, h2.2, h3⟩
theorem far_same (a b : ByteArray) : (far a b == 0) = (a.toList == b.toList) := by
  rw [Bool.eq_iff_iff]
  simp only [beq_iff_eq]
  rw [far_eq_zero]
  exact ⟨fun h => by rw [h], toList_inj'⟩
set_option maxHeartbeats 1000000 in
theorem fnFar_walk (a : Option Addr) (len cap : Nat) (zs : List Int) (w : World) (h : IsRow .u8 w a len cap zs) :
    Calls Try.prog 4 #[.slice a len cap] w fun e w' => e = .returned (.bool true) ∧ Below w.heap.size w w' := by
  by_cases h1 : (1048576 : Int) < (len : Int)
  · clear h
    go_enter Try.func4, Try.ntmps4
    go_wp2
    go_ret
    exact ⟨rfl, Below.refl _ _⟩
  have HI : Hid (IsRow .u8 w a len cap zs) := h
  clear h
  go_enter Try.func4, Try.ntmps4
  go_wp2_with fail
  refine (drawFar_any w a len cap zs HI.out).mono ?_
  rintro e w1 ⟨s, t, rfl, hs, ht, hb1⟩
  have HMS : Hid (s.size ≤ maxLen) := show s.size ≤ maxLen by unfold maxLen; omega
  have HMT : Hid (t.size ≤ maxLen) := show t.size ≤ maxLen by unfold maxLen; omega
  have HC : Hid (farW t s = farW s t) := farW_comm t s
  go_wp2_with fail
  refine (implFar_any s t _ HMS.out HMT.out).mono ?_
  rintro e w2 ⟨rfl, hb2⟩
  have hb2' : Below w.heap.size w w2 := hb1.trans (hb2.mono hb1.size)
  clear hb2
  go_wp2_with fail
  refine (specFar_any s t _ HMS.out HMT.out).mono ?_
  rintro e w3 ⟨rfl, hb3⟩
  have hb3' : Below w.heap.size w w3 := hb2'.trans (hb3.mono hb2'.size)
  clear hb3
  go_wp2_with fail
  refine (implFar_any t s _ HMT.out HMS.out).mono ?_
  rintro e w4 ⟨rfl, hb4⟩
  rw [HC.out]
  have hb4' : Below w.heap.size w w4 := hb3'.trans (hb4.mono hb3'.size)
  clear hb4
  by_cases hneg : farW s t < 0
  · go_wp2_with fail
    refine (specFar_any s t _ HMS.out HMT.out).mono ?_
    rintro e w5 ⟨rfl, hb5⟩
    have hb5' : Below w.heap.size w w5 := hb4'.trans (hb5.mono hb4'.size)
    clear hb5
    go_wp2_with fail
    refine (implFar_any t s _ HMT.out HMS.out).mono ?_
    rintro e w6 ⟨rfl, hb6⟩
    rw [HC.out]
    have hb6' : Below w.heap.size w w6 := hb5'.trans (hb6.mono hb5'.size)
    clear hb6
    go_wp2_with fail
    go_ret
    exact ⟨rfl, hb6'⟩
  · have hF := farW_word s t hneg
    have hbd := far_bounds s t
    have hsm := far_same s t
    rw [← hF] at hbd hsm
    clear hF
    by_cases hlen : (s.size : Int) < (t.size : Int)
    all_goals
      go_wp2
      all_goals go_ret
      all_goals first | exact ⟨rfl, hb4'⟩ | exact ⟨ret_bool (by simp), hb4'⟩ | exact ⟨ret_bool (by simp; omega), hb4'⟩
theorem within_more (a b : ByteArray) (n : Int) (h : within a b n = true) : within a b (n + 1) = true := by
  unfold within at *
  simp only [Bool.and_eq_true, decide_eq_true_eq] at *
  exact ⟨h.1, h.2.1, by omega⟩
theorem within_self (a : ByteArray) (h : wok a = true) : within a a 0 = true := by
  unfold within
  have := (far_eq_zero a a).2 rfl
  simp [h, this]
set_option maxHeartbeats 1000000 in
theorem fnWithin_walk (a : Option Addr) (len cap : Nat) (zs : List Int) (w : World) (h : IsRow .u8 w a len cap zs) :
    Calls Try.prog 7 #[.slice a len cap] w fun e w' => e = .returned (.bool true) ∧ Below w.heap.size w w' := by
  by_cases h1 : (1048576 : Int) < (len : Int)
  · clear h
    go_enter Try.func7, Try.ntmps7
    go_wp2
    go_ret
    exact ⟨rfl, Below.refl _ _⟩
  have HI : Hid (IsRow .u8 w a len cap zs) := h
  clear h
  go_enter Try.func7, Try.ntmps7
  go_wp2_with fail
  refine (drawWithin_any w a len cap zs HI.out).mono ?_
  rintro e w1 ⟨s, t, n, rfl, hs, ht, hn1, hn2, hb1⟩
  have HMS : Hid (s.size ≤ maxLen) := show s.size ≤ maxLen by unfold maxLen; omega
  have HMT : Hid (t.size ≤ maxLen) := show t.size ≤ maxLen by unfold maxLen; omega
  go_wp2_with fail
  refine (implWithin_any s t n _ HMS.out HMT.out).mono ?_
  rintro e w2 ⟨rfl, hb2⟩
  have hb2' : Below w.heap.size w w2 := hb1.trans (hb2.mono hb1.size)
  clear hb2
  go_wp2_with fail
  refine (specWithin_any s t n _ HMS.out HMT.out).mono ?_
  rintro e w3 ⟨rfl, hb3⟩
  have hb3' : Below w.heap.size w w3 := hb2'.trans (hb3.mono hb2'.size)
  clear hb3
  go_wp2_with fail
  refine (specWordOk_any s _ HMS.out).mono ?_
  rintro e w4 ⟨rfl, rfl⟩
  cases hws : wok s with
  | false =>
    go_wp2_with fail
    refine (specWithin_any s t n _ HMS.out HMT.out).mono ?_
    rintro e w5 ⟨rfl, hb5⟩
    go_wp2_with fail
    go_ret
    exact ⟨ret_bool (by simp), hb3'.trans (hb5.mono hb3'.size)⟩
  | true =>
    go_wp2_with fail
    refine (specWordOk_any t _ HMT.out).mono ?_
    rintro e w5 ⟨rfl, rfl⟩
    cases hwt : wok t with
    | false =>
      go_wp2_with fail
      refine (specWithin_any s t n _ HMS.out HMT.out).mono ?_
      rintro e w6 ⟨rfl, hb6⟩
      go_wp2_with fail
      go_ret
      exact ⟨ret_bool (by simp), hb3'.trans (hb6.mono hb3'.size)⟩
    | true =>
      have HF : Hid (farW s t = far s t) := if_pos ⟨hws, hwt⟩
      have hin : within s t n = decide (far s t ≤ n) := by simp [within, hws, hwt]
      have HSELF : Hid (within s s 0 = true) := within_self s hws
      have HMORE : Hid (within s t n = true → within s t (n + 1) = true) := within_more s t n
      go_wp2_with fail
      refine (implFar_any s t _ HMS.out HMT.out).mono ?_
      rintro e w6 ⟨rfl, hb6⟩
      rw [HF.out]
      have hb6' : Below w.heap.size w w6 := hb3'.trans (hb6.mono hb3'.size)
      clear hb6
      by_cases hd : far s t ≤ n
      · have HM : Hid (within s t (n + 1) = true) := HMORE.out (by rw [hin]; simpa using hd)
        go_wp2_with fail
        refine (implWithin_any s t (n + 1) _ HMS.out HMT.out).mono ?_
        rintro e w7 ⟨rfl, hb7⟩
        rw [HM.out]
        have hb7' : Below w.heap.size w w7 := hb6'.trans (hb7.mono hb6'.size)
        clear hb7
        go_wp2_with fail
        refine (implWithin_any s s 0 _ HMS.out HMS.out).mono ?_
        rintro e w8 ⟨rfl, hb8⟩
        rw [HSELF.out]
        go_wp2_with fail
        go_ret
        exact ⟨rfl, hb7'.trans (hb8.mono hb7'.size)⟩
      · go_wp2_with fail
        refine (implWithin_any s s 0 _ HMS.out HMS.out).mono ?_
        rintro e w8 ⟨rfl, hb8⟩
        rw [HSELF.out]
        go_wp2_with fail
        go_ret
        exact ⟨rfl, hb6'.trans (hb8.mono hb6'.size)⟩
set_option maxHeartbeats 1000000 in
theorem fnBeginning_walk (a : Option Addr) (len cap : Nat) (zs : List Int) (w : World) (h : IsRow .u8 w a len cap zs) :
    Calls Try.prog 6 #[.slice a len cap] w fun e w' => e = .returned (.bool true) ∧ Below w.heap.size w w' := by
  by_cases h1 : (1048576 : Int) < (len : Int)
  · clear h
    go_enter Try.func6, Try.ntmps6
    go_wp2
    go_ret
    exact ⟨rfl, Below.refl _ _⟩
  have HI : Hid (IsRow .u8 w a len cap zs) := h
  clear h
  go_enter Try.func6, Try.ntmps6
  go_wp2_with fail
  refine (drawBeginning_any w a len cap zs HI.out).mono ?_
  rintro e w1 ⟨s, t, rfl, hs, ht, hb1⟩
  have HMS : Hid (s.size ≤ maxLen) := show s.size ≤ maxLen by unfold maxLen; omega
  have HMT : Hid (t.size ≤ maxLen) := show t.size ≤ maxLen by unfold maxLen; omega
  obtain ⟨S, hS⟩ : ∃ S, S = s.extract 0 (cpl s.data.toList t.data.toList) := ⟨_, rfl⟩
  have hc1 := cpl_le_left s.data.toList t.data.toList
  have hc2 := cpl_le_left t.data.toList s.data.toList
  rw [data_length] at hc1 hc2
  rw [cpl_comm] at hc2
  have hsz : S.size = cpl s.data.toList t.data.toList := by rw [hS]; simp; omega
  have q1 : (S.size : Int) ≤ (s.size : Int) := by omega
  have q2 : (S.size : Int) ≤ (t.size : Int) := by omega
  have r1 : s.extract 0 S.size = S := by rw [hsz, ← hS]
  have r2 : t.extract 0 S.size = S := by
    rw [hsz, hS, cpl_extract s t, cpl_comm t.data.toList]
  have HE := cpl_end s.data.toList t.data.toList
  rw [← hsz, data_length, data_length] at HE
  have HEND : Hid (S.size = s.size ∨ S.size = t.size ∨ s.data.toList[S.size]? ≠ t.data.toList[S.size]?) := HE
  have HS1 : Hid (s.extract 0 (cpl s.data.toList t.data.toList) = S) := hS.symm
  have HS2 : Hid (t.extract 0 (cpl t.data.toList s.data.toList) = S) := by
    have : t.extract 0 (cpl t.data.toList s.data.toList) = S := by rw [hS, cpl_extract s t]
    exact this
  clear hS hc1 hc2 hsz HE
  go_wp2_with fail
  refine (beginning_any s t _ HMS.out HMT.out).mono ?_
  rintro e w2 ⟨rfl, hb2⟩
  rw [HS1.out]
  have hb2' : Below w.heap.size w w2 := hb1.trans (hb2.mono hb1.size)
  clear hb2
  go_wp2_with fail
  refine (specBeginning_any s t _ HMS.out HMT.out).mono ?_
  rintro e w3 ⟨rfl, hb3⟩
  rw [HS1.out]
  have hb3' : Below w.heap.size w w3 := hb2'.trans (hb3.mono hb2'.size)
  clear hb3
  go_wp2_with fail
  refine (beginning_any t s _ HMT.out HMS.out).mono ?_
  rintro e w4 ⟨rfl, hb4⟩
  rw [HS2.out]
  have hb4' : Below w.heap.size w w4 := hb3'.trans (hb4.mono hb3'.size)
  clear hb4
  by_cases k1 : S.size = s.size
  · have j1 : ((S.size : Int) == (s.size : Int)) = true := by rw [beq_iff_eq]; omega
    clear k1
    go_wp2_with fail
    go_quiet (fail)
    go_wp2
    go_ret
    exact ⟨rfl, below_drewN hb4' _⟩
  · have j1 : ((S.size : Int) == (s.size : Int)) = false := by rw [beq_eq_false_iff_ne]; omega
    by_cases k2 : S.size = t.size
    · have j2 : ((S.size : Int) == (t.size : Int)) = true := by rw [beq_iff_eq]; omega
      clear k1 k2
      go_wp2_with fail
      go_quiet (fail)
      go_wp2
      go_ret
      exact ⟨rfl, below_drewN hb4' _⟩
    · have j2 : ((S.size : Int) == (t.size : Int)) = false := by rw [beq_eq_false_iff_ne]; omega
      have l1 : (S.size : Int) < (s.size : Int) := by omega
      have l2 : (S.size : Int) < (t.size : Int) := by omega
      have j3 : (((s[S.size]'(by omega)).toNat : Int) == ((t[S.size]'(by omega)).toNat : Int)) = false := by
        rw [u8_int, beq_eq_false_iff_ne]
        rcases HEND.out with e | e | e
        · exact absurd e k1
        · exact absurd e k2
        · rw [getElem?_data s _ (by omega), getElem?_data t _ (by omega)] at e
          simpa using e
      clear k1 k2
      go_wp2_with fail
      go_quiet (fail)
      go_wp2
      go_ret
      exact ⟨ret_bool (by simp only [bne, j3, Bool.not_false]), below_drewN hb4' _⟩
end Go.Proofs.Ytaldbaapfdpbgaa
