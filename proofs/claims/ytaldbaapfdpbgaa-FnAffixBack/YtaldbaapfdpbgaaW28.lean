/-
  AffixBack of the model; the laws FnExactAffixDo and FnExactAffixBack.
-/
import Derived.Test.YtaldbaapfdpbgaaW27
import Derived.Test.YtaldbaapfdpbgaaW24
namespace Go.Proofs.Ytaldbaapfdpbgaa
open Go.RowKit
set_option linter.unusedVariables false
/-- A stem that an affix leads back to makes the word again, if it is one that the affix may be put to. -/
theorem back_makes {a : Aff} {s : ByteArray} (h : hasT a.front s a.add = true) : swT a.front (swT a.front s a.add a.strip) a.strip a.add = s :=
  (swT_back (q := a.strip) h).1
theorem beq_self_toList (s : ByteArray) : (s.toList == s.toList) = true := by simp
set_option maxHeartbeats 2000000 in
theorem specAffixBack_any (a : Aff) (s : ByteArray) (w : World) (h : a.fits) (hs : s.size ≤ maxLen) :
    Calls Try.prog 39 #[.agg a.cells, .string s] w fun e w' => e = .returned (.tuple #[.string (backT a s).1, .bool (backT a s).2]) ∧ Below w.heap.size w w' := by
  obtain ⟨f, fr, st, ad, wh⟩ := a
  have HF : Hid (Aff.fits ⟨f, fr, st, ad, wh⟩) := h
  unfold Aff.cells
  clear h
  go_enter Try.func39, Try.ntmps39
  go_wp2_with fail
  refine (specAffixOk_any ⟨f, fr, st, ad, wh⟩ _ HF.out).mono ?_
  rintro e w1 ⟨rfl, hb1⟩
  have hb1' : Below w.heap.size w w1 := ((Below.refl _ _).alloc (Nat.le_refl _) _).trans (hb1.mono (by simp))
  have hc1 := bcell hb1
  have hz1 : w.heap.size < w1.heap.size := by have := hb1.size; simp at this; omega
  clear hb1
  cases hA : affOk ⟨f, fr, st, ad, wh⟩ with
  | false =>
    have HD : Hid (backT ⟨f, fr, st, ad, wh⟩ s = (ByteArray.empty, false)) := backT_no (by simp [hA])
    go_wp2
    go_ret2
    rw [HD.out]
    exact ⟨rfl, hb1'⟩
  | true =>
    have HA : Hid (affOk ⟨f, fr, st, ad, wh⟩ = true) := hA
    obtain ⟨p1, p2, p3, p4⟩ := affOk_parts hA
    dsimp only at p1 p2 p3 p4
    clear hA p4
    go_wp2_with fail
    refine (l1Word_any s _ hs).mono ?_
    rintro e w1' ⟨rfl, rfl⟩
    cases hW : wok s with
    | false =>
      have HD : Hid (backT ⟨f, fr, st, ad, wh⟩ s = (ByteArray.empty, false)) := backT_no (by simp [hW])
      go_wp2
      go_ret2
      rw [HD.out]
      exact ⟨rfl, hb1'⟩
    | true =>
      have HW : Hid (wok s = true) := hW
      obtain ⟨s0, s1⟩ := wok_sz hW
      clear hW
      cases fr with
      | true =>
        cases hH : hasT true s ad with
        | false =>
          have HD : Hid (backT ⟨f, true, st, ad, wh⟩ s = (ByteArray.empty, false)) := backT_no (by simp [hH])
          have hb : begT s ad = false := by simpa [hasT] using hH
          go_wp2_with (go_at_call 73; refine (l2Begins_any _ _ _ hs HF.out.2.2.1).mono ?_; rintro e w' ⟨rfl, rfl⟩; rw [hb])
          go_ret2
          rw [HD.out]
          exact ⟨rfl, hb1'⟩
        | true =>
          have HH : Hid (hasT true s ad = true) := hH
          have hb : begT s ad = true := by simpa [hasT] using hH
          have hz := hasT_size hH
          have hzz := (swT_back (q := st) hH).2.2
          have hmm : (swT true s ad st).size ≤ maxLen := by unfold maxLen; omega
          have HX : Hid (∀ wx : World, Calls Try.prog 57 #[.string (st ++ s.extract ad.size s.size)] wx fun e w' => e = .returned (.bool (wok (swT true s ad st))) ∧ w' = wx) := by
            have : ∀ wx : World, Calls Try.prog 57 #[.string (st ++ s.extract ad.size s.size)] wx fun e w' => e = .returned (.bool (wok (swT true s ad st))) ∧ w' = wx := fun wx => by simpa [swT] using l1Word_any (swT true s ad st) wx hmm
            exact this
          clear hH hzz hmm
          go_wp2_with (go_at_call 73; refine (l2Begins_any _ _ _ hs HF.out.2.2.1).mono ?_; rintro e w' ⟨rfl, rfl⟩; rw [hb])
          go_quiet (fail)
          have hb2' := below_drewN hb1' nq
          clear hb1'
          go_wp2_with fail
          refine (HX.out _).mono ?_
          rintro e w2' ⟨rfl, rfl⟩
          cases hM : wok (swT true s ad st) with
          | false =>
            have HD : Hid (backT ⟨f, true, st, ad, wh⟩ s = (ByteArray.empty, false)) := backT_no (by simp [hM])
            go_wp2
            go_ret2
            rw [HD.out]
            exact ⟨rfl, hb2'⟩
          | true =>
            have HM : Hid (wok (swT true s ad st) = true) := hM
            clear hM
            have HE : Hid (st ++ s.extract ad.size s.size = swT true s ad st) := by
              have : st ++ s.extract ad.size s.size = swT true s ad st := by simp [swT]
              exact this
            go_wp2_with fail
            rw [HE.out]
            refine (l2Do_any ⟨f, true, st, ad, wh⟩ (swT true s ad st) _ HF.out HA.out HM.out).mono ?_
            rintro e w3 ⟨rfl, hb3⟩
            have hb3' : Below w.heap.size w w3 := hb2'.trans (hb3.mono hb2'.size)
            clear hb3
            dsimp only
            rw [back_makes (a := ⟨f, true, st, ad, wh⟩) HH.out, HW.out]
            cases hJ : hasT true (swT true s ad st) wh with
            | false =>
              have HD : Hid (backT ⟨f, true, st, ad, wh⟩ s = (ByteArray.empty, false)) := backT_no (by simp [hJ])
              simp only [Bool.false_eq_true, if_false]
              go_wp2
              go_ret2
              rw [HD.out]
              exact ⟨rfl, hb3'⟩
            | true =>
              have HD : Hid (backT ⟨f, true, st, ad, wh⟩ s = (swT true s ad st, true)) := backT_yes (by simp [hJ, HM.out, HH.out, HA.out, HW.out])
              simp only [if_true]
              go_wp2
              go_ret2
              rw [HD.out]
              exact ⟨rfl, hb3'⟩
      | false =>
        cases hH : hasT false s ad with
        | false =>
          have HD : Hid (backT ⟨f, false, st, ad, wh⟩ s = (ByteArray.empty, false)) := backT_no (by simp [hH])
          have hb : endT s ad = false := by simpa [hasT] using hH
          go_wp2_with (go_at_call 74; refine (l2Ends_any _ _ _ hs HF.out.2.2.1).mono ?_; rintro e w' ⟨rfl, rfl⟩; rw [hb])
          go_ret2
          rw [HD.out]
          exact ⟨rfl, hb1'⟩
        | true =>
          have HH : Hid (hasT false s ad = true) := hH
          have hb : endT s ad = true := by simpa [hasT] using hH
          have hz := hasT_size hH
          have hzz := (swT_back (q := st) hH).2.2
          have hmm : (swT false s ad st).size ≤ maxLen := by unfold maxLen; omega
          have HX : Hid (∀ wx : World, Calls Try.prog 57 #[.string (s.extract 0 (s.size - ad.size) ++ st)] wx fun e w' => e = .returned (.bool (wok (swT false s ad st))) ∧ w' = wx) := by
            have : ∀ wx : World, Calls Try.prog 57 #[.string (s.extract 0 (s.size - ad.size) ++ st)] wx fun e w' => e = .returned (.bool (wok (swT false s ad st))) ∧ w' = wx := fun wx => by simpa [swT] using l1Word_any (swT false s ad st) wx hmm
            exact this
          clear hH hzz hmm
          go_wp2_with (go_at_call 74; refine (l2Ends_any _ _ _ hs HF.out.2.2.1).mono ?_; rintro e w' ⟨rfl, rfl⟩; rw [hb])
          go_quiet (fail)
          have hb2' := below_drewN hb1' nq
          clear hb1'
          go_wp2_with fail
          refine (HX.out _).mono ?_
          rintro e w2' ⟨rfl, rfl⟩
          cases hM : wok (swT false s ad st) with
          | false =>
            have HD : Hid (backT ⟨f, false, st, ad, wh⟩ s = (ByteArray.empty, false)) := backT_no (by simp [hM])
            go_wp2
            go_ret2
            rw [HD.out]
            exact ⟨rfl, hb2'⟩
          | true =>
            have HM : Hid (wok (swT false s ad st) = true) := hM
            clear hM
            have HE : Hid (s.extract 0 (s.size - ad.size) ++ st = swT false s ad st) := by
              have : s.extract 0 (s.size - ad.size) ++ st = swT false s ad st := by simp [swT]
              exact this
            go_wp2_with fail
            rw [HE.out]
            refine (l2Do_any ⟨f, false, st, ad, wh⟩ (swT false s ad st) _ HF.out HA.out HM.out).mono ?_
            rintro e w3 ⟨rfl, hb3⟩
            have hb3' : Below w.heap.size w w3 := hb2'.trans (hb3.mono hb2'.size)
            clear hb3
            dsimp only
            rw [back_makes (a := ⟨f, false, st, ad, wh⟩) HH.out, HW.out]
            cases hJ : hasT false (swT false s ad st) wh with
            | false =>
              have HD : Hid (backT ⟨f, false, st, ad, wh⟩ s = (ByteArray.empty, false)) := backT_no (by simp [hJ])
              simp only [Bool.false_eq_true, if_false]
              go_wp2
              go_ret2
              rw [HD.out]
              exact ⟨rfl, hb3'⟩
            | true =>
              have HD : Hid (backT ⟨f, false, st, ad, wh⟩ s = (swT false s ad st, true)) := backT_yes (by simp [hJ, HM.out, HH.out, HA.out, HW.out])
              simp only [if_true]
              go_wp2
              go_ret2
              rw [HD.out]
              exact ⟨rfl, hb3'⟩
end Go.Proofs.Ytaldbaapfdpbgaa
