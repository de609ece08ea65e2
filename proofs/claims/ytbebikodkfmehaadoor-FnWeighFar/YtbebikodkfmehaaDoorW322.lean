/-
  The law FnWeighFar.
-/
import Derived.Test.YtbebikodkfmehaaDoorGW321
import Derived.Test.YtbebikodkfmehaaDoorW312
import Derived.Test.YtbebikodkfmehaaDoorW15
namespace Go.Proofs.YtbebikodkfmehaaDoor
open Go.RowKit
set_option linter.unusedVariables false
theorem kc_comm (c d : UInt8) : kc c d = kc d c := kfB_comm _ _
theorem weigh_comm (a b : ByteArray) : weigh a b = weigh b a := Wc_comm kc (lt a) (lt b) kc_comm _ _ _ (Nat.le_refl _)
theorem weighW_comm (a b : ByteArray) : weighW a b = weighW b a := by
  unfold weighW
  by_cases h : wok a = true ∧ wok b = true
  · rw [if_pos h, if_pos h.symm, weigh_comm]
  · rw [if_neg h, if_neg (fun g => h g.symm)]
theorem weighW_word (a b : ByteArray) (h : ¬ weighW a b < 0) : (wok a = true ∧ wok b = true) ∧ weighW a b = weigh a b := by
  unfold weighW at *
  split
  · next hw => exact ⟨hw, rfl⟩
  · next hn => rw [if_neg hn] at h; omega
theorem kc_zero (c d : UInt8) (hc : 0 ≤ (kpB c).1) (hd : 0 ≤ (kpB d).1) : kc c d = 0 ↔ c = d := by
  unfold kc
  rw [kfB_zero]
  exact ⟨kp_inj c d hc hd, fun h => by rw [h]⟩
theorem bytes_ext {a b : ByteArray} (h : a.size = b.size) (hj : ∀ j, j < a.size → lt a j = lt b j) : a.toList = b.toList := by
  rw [ByteArray.toList_eq, ByteArray.toList_eq]
  have hl : a.data.toList.length = b.data.toList.length := h
  apply List.ext_getElem hl
  intro j h1 h2
  have := hj j h1
  rw [lt_get a j h1, lt_get b j h2] at this
  exact this
theorem weigh_zero (a b : ByteArray) (ha : wok a = true) (hb : wok b = true) : (weigh a b == 0) = (a.toList == b.toList) := by
  rw [Bool.eq_iff_iff]
  simp only [beq_iff_eq]
  have hge := Wc_ge kc (lt a) (lt b) kc_bd _ a.size b.size (Nat.le_refl _)
  have hnil := Wc_nil kc (lt a) (lt b) (min a.size b.size) kc_bd (fun i k hi hk => by
    have h1 := word_keys a ha i (by omega)
    have h2 := word_keys b hb k (by omega)
    rw [lt_get a i (by omega), lt_get b k (by omega)]
    exact kc_zero _ _ h1 h2)
  constructor
  · intro h
    unfold weigh at h
    have hs : a.size = b.size := by omega
    have hn := hnil a.size (by omega)
    rw [← hs] at h
    exact bytes_ext hs (hn.1 h)
  · intro h
    have he : a = b := by
      rw [ByteArray.toList_eq, ByteArray.toList_eq] at h
      obtain ⟨⟨l⟩⟩ := a
      obtain ⟨⟨l'⟩⟩ := b
      simp at h
      rw [h]
    subst he
    exact (hnil a.size (by omega)).2 (fun j _ => rfl)
theorem weigh_max (a b : ByteArray) : weigh a b ≤ 4 * (a.size : Int) ∨ weigh a b ≤ 4 * (b.size : Int) := Wc_le kc (lt a) (lt b) kc_bd _ _ _ (Nat.le_refl _)
theorem weigh_max2 (a b : ByteArray) : 0 ≤ weigh a b := (Wk_bd _ _ _ _).1
theorem drawWeighFar_any (w : World) (a : Option Addr) (len cap : Nat) (zs : List Int) (h : IsRow .u8 w a len cap zs) :
    Calls Tryd.prog 8 #[.slice a len cap] w fun e w' => ∃ s t, e = .returned (.tuple #[.string s, .string t]) ∧ s.size ≤ 20 ∧ t.size ≤ 20 ∧ Below w.heap.size w w' := by
  have HI : Hid (IsRow .u8 w a len cap zs) := h
  clear h
  go_enter Tryd.func8, Tryd.ntmps8
  go_wp2_with fail
  refine (drawFar_any w a len cap zs HI.out).mono ?_
  rintro e w1 ⟨s, t, rfl, hs, ht, hb1⟩
  go_wp2_with fail
  refine bodyPost_ret (v := .tuple #[.string s, .string t]) (by simp [results, Tryd.results8, go_sem]) rfl ⟨s, t, rfl, hs, ht, hb1⟩
set_option maxHeartbeats 2000000 in
theorem fnWeighFar_walk (a : Option Addr) (len cap : Nat) (zs : List Int) (w : World) (h : IsRow .u8 w a len cap zs) (ht : keyTab w) :
    Calls Tryd.prog 4 #[.slice a len cap] w fun e w' => e = .returned (.bool true) ∧ Below w.heap.size w w' := by
  by_cases h1 : (1048576 : Int) < (len : Int)
  · clear h ht
    go_enter Tryd.func4, Tryd.ntmps4
    go_wp2
    go_ret
    exact ⟨rfl, Below.refl _ _⟩
  have HI : Hid (IsRow .u8 w a len cap zs) := h
  have HT : Hid (keyTab w) := ht
  clear h ht
  go_enter Tryd.func4, Tryd.ntmps4
  go_wp2_with fail
  refine (drawWeighFar_any w a len cap zs HI.out).mono ?_
  rintro e w1 ⟨s, t, rfl, hs, ht, hb1⟩
  have HS : Hid (s.size ≤ maxLen) := by show _ ≤ _; unfold maxLen; omega
  have HU : Hid (t.size ≤ maxLen) := by show _ ≤ _; unfold maxLen; omega
  have HB1 : Hid (Below w.heap.size w w1) := hb1
  have HQ : Hid (weighW t s = weighW s t) := weighW_comm t s
  have HZ : Hid (¬ weighW s t < 0 → (weighW s t == 0) = (s.toList == t.toList) ∧ (weighW s t ≤ 4 * (s.size : Int) ∨ weighW s t ≤ 4 * (t.size : Int))) := by
    intro hn
    have hw := weighW_word s t hn
    rw [hw.2]
    exact ⟨weigh_zero s t hw.1.1 hw.1.2, weigh_max s t⟩
  obtain ⟨n, hn⟩ : ∃ n, weighW s t = n := ⟨_, rfl⟩
  rw [hn] at HQ HZ
  have HN : Hid (weighW s t = n) := hn
  clear hn hb1
  go_wp2_with fail
  refine (implWeighFar_any s t _ HS.out HU.out (HT.out.below HB1.out)).mono ?_
  rintro e w2 ⟨he, hb2⟩
  rw [HN.out] at he
  subst he
  have HB2 : Hid (Below w.heap.size w w2) := HB1.out.trans (hb2.mono HB1.out.size)
  clear hb2
  go_wp2_with fail
  refine (specWeighFar_any s t _ HS.out HU.out).mono ?_
  rintro e w3 ⟨he, hb3⟩
  rw [HN.out] at he
  subst he
  have HB3 : Hid (Below w.heap.size w w3) := HB2.out.trans (hb3.mono HB2.out.size)
  clear hb3
  by_cases hneg : n < 0
  · go_wp2_with fail
    refine (specWeighFar_any s t _ HS.out HU.out).mono ?_
    rintro e w4 ⟨he, hb4⟩
    rw [HN.out] at he
    subst he
    have HB4 : Hid (Below w.heap.size w w4) := HB3.out.trans (hb4.mono HB3.out.size)
    clear hb4
    go_wp2_with fail
    go_ret
    exact ⟨rfl, HB4.out⟩
  · obtain ⟨z1, z2⟩ := HZ.out (by omega)
    have HZ1 : Hid _ := z1
    have HZ2 : Hid _ := z2
    clear z1 z2 HZ
    by_cases hlen : (s.size : Int) < (t.size : Int)
    all_goals
      cases hst : (s.toList == t.toList)
      all_goals
        have hz : (n == 0) = _ := HZ1.out.trans hst
        go_wp2_with fail
        refine (implWeighFar_any t s _ HU.out HS.out (HT.out.below HB3.out)).mono ?_
        rintro e w4 ⟨he, hb4⟩
        rw [HQ.out] at he
        subst he
        have HB4 : Hid (Below w.heap.size w w4) := HB3.out.trans (hb4.mono HB3.out.size)
        clear hb4
        go_wp2_with fail
        go_ret
        have z2 := HZ2.out
        exact ⟨ret_bool (by simp <;> omega), HB4.out⟩
end Go.Proofs.YtbebikodkfmehaaDoor
