/-
  The laws FnNear and FnNearBoth.
-/
import Derived.Test.YtnbjjdbaddiijaaM26
import Derived.Test.YtnbjjdbaddiijaaW99
import Derived.Test.YtnbjjdbaddiijaaW100
import Derived.Test.YtnbjjdbaddiijaaW16
namespace Go.Proofs.Ytnbjjdbaddiijaa
open Go.RowKit
set_option linter.unusedVariables false
theorem TextsAt.drew {w : World} {v : Value} {xs : List ByteArray} (h : TextsAt w v xs) : TextsAt w.drew v xs := h.below (Below.refl _ _).drew
theorem nearL_asc (s : ByteArray) : Asc (nearL s) := by
  unfold nearL
  split
  · exact nearTo_asc s _
  · exact List.Pairwise.nil
theorem nearL_wok {s : ByteArray} (h : (nearL s).length ≠ 0) : wok s = true := by
  cases e : wok s with
  | true => rfl
  | false => exact absurd (by unfold nearL; rw [if_neg (by rw [e]; simp)]; rfl) h
theorem nearL_far {s x : ByteArray} (h : x ∈ nearL s) : farW s x = 1 := by
  have hs : wok s = true := nearL_wok (by
    intro e
    rw [List.length_eq_zero_iff.1 e] at h
    cases h)
  unfold nearL at h
  rw [if_pos hs] at h
  have hx := near_wok s x h
  unfold farW
  rw [if_pos ⟨hs, hx⟩]
  exact (near_far s x hx).1 h
theorem nearL_has (s t : ByteArray) : hasT (nearL s) t = (farW s t == 1) := by
  by_cases h : t ∈ nearL s
  · rw [hasT_true h, nearL_far h]
    rfl
  · rw [hasT_false h]
    symm
    rw [beq_eq_false_iff_ne]
    intro e
    unfold farW at e
    split at e
    · next hw =>
      apply h
      unfold nearL
      rw [if_pos hw.1]
      exact (near_far s t hw.2).2 e
    · omega
theorem nearL_both (s t : ByteArray) : hasT (nearL s) t = hasT (nearL t) s := by
  rw [nearL_has, nearL_has, farW_comm]
theorem nearL_step {s x y : ByteArray} {k : Nat} (hx : (nearL s)[k]? = some x) (hy : (nearL s)[k + 1]? = some y) : Op.bytesLess x.toList y.toList = true := by
  obtain ⟨h1, e1⟩ := List.getElem?_eq_some_iff.1 hx
  obtain ⟨h2, e2⟩ := List.getElem?_eq_some_iff.1 hy
  have := List.pairwise_iff_getElem.1 (nearL_asc s) k (k + 1) h1 h2 (by omega)
  rw [e1, e2] at this
  exact this
set_option maxHeartbeats 2000000 in
theorem fnNear_walk (a : Option Addr) (len cap : Nat) (zs : List Int) (w : World) (h : IsRow .u8 w a len cap zs) :
    Calls Try.prog 3 #[.slice a len cap] w fun e w' => e = .returned (.bool true) ∧ Below w.heap.size w w' := by
  by_cases h1 : (1048576 : Int) < (len : Int)
  · clear h
    go_enter Try.func3, Try.ntmps3
    go_wp2
    go_ret
    exact ⟨rfl, Below.refl _ _⟩
  have HI : Hid (IsRow .u8 w a len cap zs) := h
  clear h
  go_enter Try.func3, Try.ntmps3
  go_wp2_with fail
  refine (drawFar_any w a len cap zs HI.out).mono ?_
  rintro e w1 ⟨s, t, rfl, hs, ht, hb1⟩
  have HMS : Hid (s.size ≤ maxLen) := show s.size ≤ maxLen by unfold maxLen; omega
  have HMT : Hid (t.size ≤ maxLen) := show t.size ≤ maxLen by unfold maxLen; omega
  have HB1 : Hid (Below w.heap.size w w1) := hb1
  clear hb1
  go_wp2_with fail
  refine (near_any s _ (by omega)).mono ?_
  rintro e w2 ⟨v, rfl, h2, hb2⟩
  have ht2 := h2.at
  obtain ⟨a1, cap1, rfl, hc1, hm1⟩ := ht2.form
  unfold maxLen at hm1
  have HB2 : Hid (Below w.heap.size w w2) := HB1.out.trans (hb2.mono HB1.out.size)
  have HT2 : Hid (TextsAt w2 (.slice a1 (nearL s).length cap1) (nearL s)) := ht2
  clear hb2 h2 ht2
  go_wp2_with fail
  refine (specNear_any s _ (by omega)).mono ?_
  rintro e w3 ⟨u, rfl, h3, hb3⟩
  obtain ⟨a3, cap3, rfl, _, _⟩ := h3.form
  have HB3 : Hid (Below w.heap.size w w3) := HB2.out.trans (hb3.mono HB2.out.size)
  have HT3 : Hid (TextsAt w3 (.slice a1 (nearL s).length cap1) (nearL s)) := HT2.out.below hb3
  have H3 : Hid (TextsAt w3 (.slice a3 (nearL s).length cap3) (nearL s)) := h3
  clear hb3 h3
  go_wp2_with fail
  refine (mdTexts_same _ _ _ (nearL s) HT3.out H3.out).mono ?_
  rintro e w4 ⟨rfl, hb4⟩
  have HB4 : Hid (Below w.heap.size w w4) := HB3.out.trans (hb4.mono HB3.out.size)
  have HT4 : Hid (TextsAt w4 (.slice a1 (nearL s).length cap1) (nearL s)) := HT3.out.below hb4
  clear hb4
  by_cases hz : (nearL s).length = 0
  · go_wp2_with fail
    refine (specNear_any s _ (by omega)).mono ?_
    rintro e w5 ⟨u, rfl, h5, hb5⟩
    obtain ⟨a5, cap5, rfl, _, _⟩ := h5.form
    have HB5 : Hid (Below w.heap.size w w5) := HB4.out.trans (hb5.mono HB4.out.size)
    have HT5 : Hid (TextsAt w5 (.slice a1 0 cap1) (nearL s)) := by
      have h6 := HT4.out.below hb5
      rw [hz] at h6
      exact h6
    have H5 : Hid (TextsAt w5 (.slice a5 0 cap5) (nearL s)) := by
      have h6 := h5
      rw [hz] at h6
      exact h6
    clear hb5 h5
    go_wp2_with fail
    refine (mdTexts_same _ _ _ (nearL s) HT5.out H5.out).mono ?_
    rintro e w6 ⟨rfl, hb6⟩
    have HB6 : Hid (Below w.heap.size w w6) := HB5.out.trans (hb6.mono HB5.out.size)
    clear hb6
    go_wp2
    go_ret
    exact ⟨rfl, HB6.out⟩
  · go_wp2
    go_loopw [6] (fun i wr => ∃ k : Nat, 1 ≤ k ∧ k ≤ (nearL s).length ∧ i = .int .i64 k ∧ TextsAt wr (.slice a1 (nearL s).length cap1) (nearL s) ∧ Below w.heap.size w wr) (fun i _ => (nearL s).length - (intOf i).toNat)
    case atStart => exact ⟨1, by omega, by omega, rfl, HT4.out, HB4.out⟩
    case round =>
      obtain ⟨k, hk0, hk, rfl, hT, hB⟩ := hrel
      have HB : Hid (Below w.heap.size w wr) := hB
      have HT : Hid (TextsAt wr (.slice a1 (nearL s).length cap1) (nearL s)) := hT
      clear hB hT
      by_cases hlt : k < (nearL s).length
      · obtain ⟨m, rfl⟩ : ∃ m, k = m + 1 := ⟨k - 1, by omega⟩
        obtain ⟨b, off, cap2, x, hv, _, hx, _, c1⟩ := HT.out.at (k := m) (by omega)
        cases hv
        obtain ⟨b', off', cap3, y, hv', _, hy, _, c2⟩ := HT.out.at hlt
        cases hv'
        have hxy := nearL_step hx hy
        clear hx hy
        go_wp2_with fail
        go_region
        all_goals
          go_wp2
          go_roundw
          case rel => exact ⟨m + 1 + 1, by omega, by omega, by go_num, HT.out.drew, HB.out.drew⟩
          case measure => simp [intOf]; omega
      · have hke : k = (nearL s).length := by omega
        obtain ⟨q, hq⟩ : ∃ q : Nat, q = len % (nearL s).length := ⟨_, rfl⟩
        have hql : q < (nearL s).length := by rw [hq]; exact Nat.mod_lt _ (by omega)
        obtain ⟨b, off, cap2, x, hv, _, hx, hxm, c1⟩ := HT.out.at hql
        cases hv
        have HF : Hid (farW s x = 1) := nearL_far (List.mem_of_getElem? hx)
        have HXM : Hid (x.size ≤ maxLen) := hxm
        have HH : Hid (hasT (nearL s) t = (farW s t == 1)) := nearL_has s t
        clear hx hxm
        have hqi : (len : Int).tmod ((nearL s).length : Int) = (q : Int) := by rw [hq]; rfl
        have hqj : (len : Int) % ((nearL s).length : Int) = (q : Int) := by rw [hq]; rfl
        subst hke
        clear hq hlt hk hk0
        go_wp2_with fail
        refine (implFar_any s x _ HMS.out HXM.out).mono ?_
        rw [HF.out]
        rintro e w7 ⟨rfl, hb7⟩
        have HB7 : Hid (Below w.heap.size w w7) := HB.out.trans (hb7.mono HB.out.size)
        have HT7 : Hid (TextsAt w7 (.slice (some ⟨b, off, none⟩) (nearL s).length cap1) (nearL s)) := HT.out.below hb7
        clear hb7 c1
        go_wp2_with fail
        refine (implFar_any s t _ HMS.out HMT.out).mono ?_
        rintro e w8 ⟨rfl, hb8⟩
        have HB8 : Hid (Below w.heap.size w w8) := HB7.out.trans (hb8.mono HB7.out.size)
        have HT8 : Hid (TextsAt w8 (.slice (some ⟨b, off, none⟩) (nearL s).length cap1) (nearL s)) := HT7.out.below hb8
        clear hb8
        go_wp2_with fail
        refine (mdHas_any _ _ (nearL s) t HT8.out).mono ?_
        rintro e w9 ⟨rfl, hb9⟩
        have HB9 : Hid (Below w.heap.size w w9) := HB8.out.trans (hb9.mono HB8.out.size)
        clear hb9
        rw [HH.out]
        go_wp2
        go_ret
        exact ⟨by simp, HB9.out⟩
set_option maxHeartbeats 2000000 in
theorem fnNearBoth_walk (a : Option Addr) (len cap : Nat) (zs : List Int) (w : World) (h : IsRow .u8 w a len cap zs) :
    Calls Try.prog 4 #[.slice a len cap] w fun e w' => e = .returned (.bool true) ∧ Below w.heap.size w w' := by
  by_cases h1 : (1048576 : Int) < (len : Int)
  · clear h
    go_enter Try.func4, Try.ntmps4
    go_wp2
    go_ret
    exact ⟨rfl, Below.refl _ _⟩
  have HI : Hid (IsRow .u8 w a len cap zs) := h
  clear h
  go_enter Try.func4, Try.ntmps4
  go_wp2_with fail
  refine (drawFar_any w a len cap zs HI.out).mono ?_
  rintro e w1 ⟨s, t, rfl, hs, ht, hb1⟩
  have HMS : Hid (s.size ≤ maxLen) := show s.size ≤ maxLen by unfold maxLen; omega
  have HMT : Hid (t.size ≤ maxLen) := show t.size ≤ maxLen by unfold maxLen; omega
  have HH : Hid (hasT (nearL t) s = hasT (nearL s) t) := (nearL_both s t).symm
  have HB1 : Hid (Below w.heap.size w w1) := hb1
  clear hb1
  go_wp2_with fail
  refine (implFar_any s t _ HMS.out HMT.out).mono ?_
  rintro e w2 ⟨rfl, hb2⟩
  have HB2 : Hid (Below w.heap.size w w2) := HB1.out.trans (hb2.mono HB1.out.size)
  clear hb2
  go_wp2_with fail
  refine (specFar_any s t _ HMS.out HMT.out).mono ?_
  rintro e w3 ⟨rfl, hb3⟩
  have HB3 : Hid (Below w.heap.size w w3) := HB2.out.trans (hb3.mono HB2.out.size)
  clear hb3
  by_cases hn : farW s t < 0
  · go_wp2_with fail
    refine (specFar_any s t _ HMS.out HMT.out).mono ?_
    rintro e w4 ⟨rfl, hb4⟩
    have HB4 : Hid (Below w.heap.size w w4) := HB3.out.trans (hb4.mono HB3.out.size)
    clear hb4
    go_wp2
    go_ret
    exact ⟨by simp, HB4.out⟩
  · have hw : wok s = true ∧ wok t = true := Classical.byContradiction fun hw => hn (by unfold farW; rw [if_neg hw]; omega)
    have hfw := farW_word s t hn
    have hbd := far_bounds s t
    have hfb : farW s t ≤ 40 := by rw [hfw]; omega
    have HW1 : Hid (within s t (farW s t) = true) := show within s t (farW s t) = true by simp [within, hw.1, hw.2, hfw]
    have HW2 : Hid (within s t (farW s t - 1) = false) := show within s t (farW s t - 1) = false by
      simp only [within, hw.1, hw.2, hfw, Bool.true_and, decide_eq_false_iff_not]
      omega
    clear hw hfw hbd
    go_wp2_with fail
    refine (near_any s _ (by omega)).mono ?_
    rintro e w4 ⟨v4, rfl, h4, hb4⟩
    have HT4 : Hid (TextsAt w4 v4 (nearL s)) := h4.at
    have HB4 : Hid (Below w.heap.size w w4) := HB3.out.trans (hb4.mono HB3.out.size)
    clear hb4 h4
    go_wp2_with fail
    refine (mdHas_any _ _ (nearL s) t HT4.out).mono ?_
    rintro e w5 ⟨rfl, hb5⟩
    have HB5 : Hid (Below w.heap.size w w5) := HB4.out.trans (hb5.mono HB4.out.size)
    clear hb5
    go_wp2_with fail
    refine (near_any t _ (by omega)).mono ?_
    rintro e w6 ⟨v6, rfl, h6, hb6⟩
    have HT6 : Hid (TextsAt w6 v6 (nearL t)) := h6.at
    have HB6 : Hid (Below w.heap.size w w6) := HB5.out.trans (hb6.mono HB5.out.size)
    clear hb6 h6
    go_wp2_with fail
    refine (mdHas_any _ _ (nearL t) s HT6.out).mono ?_
    rw [HH.out]
    rintro e w7 ⟨rfl, hb7⟩
    have HB7 : Hid (Below w.heap.size w w7) := HB6.out.trans (hb7.mono HB6.out.size)
    clear hb7
    go_wp2_with fail
    refine (implWithin_any s t _ _ HMS.out HMT.out).mono ?_
    rw [HW1.out]
    rintro e w8 ⟨rfl, hb8⟩
    have HB8 : Hid (Below w.heap.size w w8) := HB7.out.trans (hb8.mono HB7.out.size)
    clear hb8
    go_wp2_with fail
    refine (implWithin_any s t _ _ HMS.out HMT.out).mono ?_
    rw [HW2.out]
    rintro e w9 ⟨rfl, hb9⟩
    have HB9 : Hid (Below w.heap.size w w9) := HB8.out.trans (hb9.mono HB8.out.size)
    clear hb9
    go_wp2
    go_ret
    exact ⟨by simp, HB9.out⟩
