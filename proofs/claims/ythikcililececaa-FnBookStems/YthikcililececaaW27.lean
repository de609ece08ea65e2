/-
  AffixDo and AffixBack, of the program.
-/
import Derived.Test.YthikcililececaaW26
namespace Go.Proofs.Ythikcililececaa
open Go.RowKit
set_option linter.unusedVariables false
/-- Which method swap leads to. -/
theorem methBegSwap (v : Value) (wx : World) : (method 237 63 v "loop.example/medlar/impl.swap").run Try.prog wx = .ok (120, v) wx := by kernel_rfl
theorem methEndSwap (v : Value) (wx : World) : (method 237 62 v "loop.example/medlar/impl.swap").run Try.prog wx = .ok (116, v) wx := by kernel_rfl
theorem hasBeg (s p : ByteArray) : begT s p = hasT true s p := rfl
theorem hasEnd (s p : ByteArray) : endT s p = hasT false s p := rfl
set_option maxRecDepth 100000 in
set_option maxHeartbeats 2000000 in
theorem implAffixDo_any (a : Aff) (s : ByteArray) (w : World) (h : a.fits) (hs : s.size ≤ maxLen) :
    Calls Try.prog 11 #[.agg a.cells, .string s] w fun e w' => e = .returned (.tuple #[.string (doT a s).1, .bool (doT a s).2]) ∧ Below w.heap.size w w' := by
  obtain ⟨f, fr, st, ad, wh⟩ := a
  have HF : Hid (Aff.fits ⟨f, fr, st, ad, wh⟩) := h
  unfold Aff.cells
  clear h
  cases fr with
  | true =>
    have hmb := methBegHas
    have hms := methBegSwap
    go_enter Try.func11, Try.ntmps11
    go_wp2_with fail
    refine (sideBeg_any f st ad wh _).mono ?_
    rintro e w1 ⟨rfl, hb1⟩
    have hb1' : Below w.heap.size w w1 := ((Below.refl _ _).alloc (Nat.le_refl _) _).trans (hb1.mono (by simp))
    have hc1 := bcell hb1
    have hz1 : w.heap.size < w1.heap.size := by have := hb1.size; simp at this; omega
    clear hb1
    go_wp2_with fail
    refine (implAffixOk_any ⟨f, true, st, ad, wh⟩ _ HF.out).mono ?_
    rintro e w2 ⟨rfl, hb2⟩
    have hb2' : Below w.heap.size w w2 := hb1'.trans (hb2.mono hb1'.size)
    have hc2 := bcell hb2
    have hz2 : w.heap.size < w2.heap.size := by have := hb2.size; omega
    clear hb2
    cases hA : affOk ⟨f, true, st, ad, wh⟩ with
    | false =>
      have HD : Hid (doT ⟨f, true, st, ad, wh⟩ s = (ByteArray.empty, false)) := doT_no (by simp [hA])
      go_wp2
      go_ret2
      rw [HD.out]
      exact ⟨rfl, hb2'⟩
    | true =>
      have HA : Hid (affOk ⟨f, true, st, ad, wh⟩ = true) := hA
      obtain ⟨p1, p2, p3, p4⟩ := affOk_parts hA
      dsimp only at p1 p2 p3 p4
      clear hA
      have HP : Hid (hasT true wh st = true) := p4
      clear p4
      go_wp2_with fail
      refine (wordOk_any s _ hs).mono ?_
      rintro e w2' ⟨rfl, rfl⟩
      cases hW : wok s with
      | false =>
        have HD : Hid (doT ⟨f, true, st, ad, wh⟩ s = (ByteArray.empty, false)) := doT_no (by simp [hW])
        go_wp2
        go_ret2
        rw [HD.out]
        exact ⟨rfl, hb2'⟩
      | true =>
        have HW : Hid (wok s = true) := hW
        obtain ⟨s0, s1⟩ := wok_sz hW
        clear hW
        go_wp2_with fail
        refine (begHas_any ⟨f, true, st, ad, wh⟩ s wh _ hs HF.out.2.2.2).mono ?_
        rintro e w3 ⟨rfl, hb3⟩
        have hb3' : Below w.heap.size w w3 := hb2'.trans (hb3.mono hb2'.size)
        have hc3 := bcell hb3
        have hz3 : w.heap.size < w3.heap.size := by have := hb3.size; omega
        clear hb3
        rw [hasBeg]
        cases hH : hasT true s wh with
        | false =>
          have HD : Hid (doT ⟨f, true, st, ad, wh⟩ s = (ByteArray.empty, false)) := doT_no (by simp [hH])
          go_wp2
          go_ret2
          rw [HD.out]
          exact ⟨rfl, hb3'⟩
        | true =>
          have HH : Hid (hasT true s wh = true) := hH
          clear hH
          go_wp2_with fail
          refine (begSwap_any ⟨f, true, st, ad, wh⟩ s st ad _ s1 (hasT_size (hasT_trans HH.out HP.out)) p2).mono ?_
          rintro e w4 ⟨rfl, hb4⟩
          have hb4' : Below w.heap.size w w4 := hb3'.trans (hb4.mono hb3'.size)
          have hc4 := bcell hb4
          have hz4 : w.heap.size < w4.heap.size := by have := hb4.size; omega
          clear hb4
          have HS : Hid ((swT true s st ad).size ≤ maxLen) := by
            have : (swT true s st ad).size ≤ maxLen := by have := (swT_back (q := ad) (hasT_trans HH.out HP.out)).2.2; unfold maxLen; omega
            exact this
          go_wp2_with fail
          refine (wordOk_any (swT true s st ad) _ HS.out).mono ?_
          rintro e w4' ⟨rfl, rfl⟩
          cases hM : wok (swT true s st ad) with
          | false =>
            have HD : Hid (doT ⟨f, true, st, ad, wh⟩ s = (ByteArray.empty, false)) := doT_no (by simp [hM])
            go_wp2
            go_ret2
            rw [HD.out]
            exact ⟨rfl, hb4'⟩
          | true =>
            have HD : Hid (doT ⟨f, true, st, ad, wh⟩ s = (swT true s st ad, true)) := doT_yes (by simp [hM, HH.out, HA.out, HW.out])
            go_wp2
            go_ret2
            rw [HD.out]
            exact ⟨rfl, hb4'⟩
  | false =>
    have hmb := methEndHas
    have hms := methEndSwap
    go_enter Try.func11, Try.ntmps11
    go_wp2_with fail
    refine (sideEnd_any f st ad wh _).mono ?_
    rintro e w1 ⟨rfl, hb1⟩
    have hb1' : Below w.heap.size w w1 := ((Below.refl _ _).alloc (Nat.le_refl _) _).trans (hb1.mono (by simp))
    have hc1 := bcell hb1
    have hz1 : w.heap.size < w1.heap.size := by have := hb1.size; simp at this; omega
    clear hb1
    go_wp2_with fail
    refine (implAffixOk_any ⟨f, false, st, ad, wh⟩ _ HF.out).mono ?_
    rintro e w2 ⟨rfl, hb2⟩
    have hb2' : Below w.heap.size w w2 := hb1'.trans (hb2.mono hb1'.size)
    have hc2 := bcell hb2
    have hz2 : w.heap.size < w2.heap.size := by have := hb2.size; omega
    clear hb2
    cases hA : affOk ⟨f, false, st, ad, wh⟩ with
    | false =>
      have HD : Hid (doT ⟨f, false, st, ad, wh⟩ s = (ByteArray.empty, false)) := doT_no (by simp [hA])
      go_wp2
      go_ret2
      rw [HD.out]
      exact ⟨rfl, hb2'⟩
    | true =>
      have HA : Hid (affOk ⟨f, false, st, ad, wh⟩ = true) := hA
      obtain ⟨p1, p2, p3, p4⟩ := affOk_parts hA
      dsimp only at p1 p2 p3 p4
      clear hA
      have HP : Hid (hasT false wh st = true) := p4
      clear p4
      go_wp2_with fail
      refine (wordOk_any s _ hs).mono ?_
      rintro e w2' ⟨rfl, rfl⟩
      cases hW : wok s with
      | false =>
        have HD : Hid (doT ⟨f, false, st, ad, wh⟩ s = (ByteArray.empty, false)) := doT_no (by simp [hW])
        go_wp2
        go_ret2
        rw [HD.out]
        exact ⟨rfl, hb2'⟩
      | true =>
        have HW : Hid (wok s = true) := hW
        obtain ⟨s0, s1⟩ := wok_sz hW
        clear hW
        go_wp2_with fail
        refine (endHas_any ⟨f, false, st, ad, wh⟩ s wh _ hs HF.out.2.2.2).mono ?_
        rintro e w3 ⟨rfl, hb3⟩
        have hb3' : Below w.heap.size w w3 := hb2'.trans (hb3.mono hb2'.size)
        have hc3 := bcell hb3
        have hz3 : w.heap.size < w3.heap.size := by have := hb3.size; omega
        clear hb3
        rw [hasEnd]
        cases hH : hasT false s wh with
        | false =>
          have HD : Hid (doT ⟨f, false, st, ad, wh⟩ s = (ByteArray.empty, false)) := doT_no (by simp [hH])
          go_wp2
          go_ret2
          rw [HD.out]
          exact ⟨rfl, hb3'⟩
        | true =>
          have HH : Hid (hasT false s wh = true) := hH
          clear hH
          go_wp2_with fail
          refine (endSwap_any ⟨f, false, st, ad, wh⟩ s st ad _ s1 (hasT_size (hasT_trans HH.out HP.out)) p2).mono ?_
          rintro e w4 ⟨rfl, hb4⟩
          have hb4' : Below w.heap.size w w4 := hb3'.trans (hb4.mono hb3'.size)
          have hc4 := bcell hb4
          have hz4 : w.heap.size < w4.heap.size := by have := hb4.size; omega
          clear hb4
          have HS : Hid ((swT false s st ad).size ≤ maxLen) := by
            have : (swT false s st ad).size ≤ maxLen := by have := (swT_back (q := ad) (hasT_trans HH.out HP.out)).2.2; unfold maxLen; omega
            exact this
          go_wp2_with fail
          refine (wordOk_any (swT false s st ad) _ HS.out).mono ?_
          rintro e w4' ⟨rfl, rfl⟩
          cases hM : wok (swT false s st ad) with
          | false =>
            have HD : Hid (doT ⟨f, false, st, ad, wh⟩ s = (ByteArray.empty, false)) := doT_no (by simp [hM])
            go_wp2
            go_ret2
            rw [HD.out]
            exact ⟨rfl, hb4'⟩
          | true =>
            have HD : Hid (doT ⟨f, false, st, ad, wh⟩ s = (swT false s st ad, true)) := doT_yes (by simp [hM, HH.out, HA.out, HW.out])
            go_wp2
            go_ret2
            rw [HD.out]
            exact ⟨rfl, hb4'⟩
end Go.Proofs.Ythikcililececaa
