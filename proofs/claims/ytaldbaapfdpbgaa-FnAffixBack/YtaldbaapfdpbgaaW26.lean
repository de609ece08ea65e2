/-
  AffixDo and AffixBack, of the model.
-/
import Derived.Test.YtaldbaapfdpbgaaW25
import Derived.Test.YtaldbaapfdpbgaaW23
namespace Go.Proofs.Ytaldbaapfdpbgaa
open Go.RowKit
set_option linter.unusedVariables false
theorem doT_no {a : Aff} {s : ByteArray} (h : (affOk a && (wok s && (hasT a.front s a.wh && wok (swT a.front s a.strip a.add)))) = false) : doT a s = (ByteArray.empty, false) := by
  unfold doT; rw [h]; rfl
theorem doT_yes {a : Aff} {s : ByteArray} (h : (affOk a && (wok s && (hasT a.front s a.wh && wok (swT a.front s a.strip a.add)))) = true) : doT a s = (swT a.front s a.strip a.add, true) := by
  unfold doT; rw [h]; rfl
theorem backT_no {a : Aff} {s : ByteArray} (h : (affOk a && (wok s && (hasT a.front s a.add && (wok (swT a.front s a.add a.strip) && hasT a.front (swT a.front s a.add a.strip) a.wh)))) = false) : backT a s = (ByteArray.empty, false) := by
  unfold backT; rw [h]; rfl
theorem backT_yes {a : Aff} {s : ByteArray} (h : (affOk a && (wok s && (hasT a.front s a.add && (wok (swT a.front s a.add a.strip) && hasT a.front (swT a.front s a.add a.strip) a.wh)))) = true) : backT a s = (swT a.front s a.add a.strip, true) := by
  unfold backT; rw [h]; rfl
set_option maxHeartbeats 1000000 in
theorem specAffixDo_any (a : Aff) (s : ByteArray) (w : World) (h : a.fits) (hs : s.size ≤ maxLen) :
    Calls Try.prog 34 #[.agg a.cells, .string s] w fun e w' => e = .returned (.tuple #[.string (doT a s).1, .bool (doT a s).2]) ∧ Below w.heap.size w w' := by
  obtain ⟨f, fr, st, ad, wh⟩ := a
  have HF : Hid (Aff.fits ⟨f, fr, st, ad, wh⟩) := h
  unfold Aff.cells
  clear h
  go_enter Try.func34, Try.ntmps34
  go_wp2_with fail
  refine (specAffixOk_any ⟨f, fr, st, ad, wh⟩ _ HF.out).mono ?_
  rintro e w1 ⟨rfl, hb1⟩
  have hb1' : Below w.heap.size w w1 := ((Below.refl _ _).alloc (Nat.le_refl _) _).trans (hb1.mono (by simp))
  have hc1 := bcell hb1
  have hz1 : w.heap.size < w1.heap.size := by have := hb1.size; simp at this; omega
  clear hb1
  cases hA : affOk ⟨f, fr, st, ad, wh⟩ with
  | false =>
    have HD : Hid (doT ⟨f, fr, st, ad, wh⟩ s = (ByteArray.empty, false)) := doT_no (by simp [hA])
    go_wp2
    go_ret2
    rw [HD.out]
    exact ⟨rfl, hb1'⟩
  | true =>
    have HA : Hid (affOk ⟨f, fr, st, ad, wh⟩ = true) := hA
    clear hA
    go_wp2_with fail
    refine (l1Word_any s _ hs).mono ?_
    rintro e w1' ⟨rfl, rfl⟩
    cases hW : wok s with
    | false =>
      have HD : Hid (doT ⟨f, fr, st, ad, wh⟩ s = (ByteArray.empty, false)) := doT_no (by simp [hW])
      go_wp2
      go_ret2
      rw [HD.out]
      exact ⟨rfl, hb1'⟩
    | true =>
      have HW : Hid (wok s = true) := hW
      clear hW
      go_wp2_with fail
      refine (l2Do_any ⟨f, fr, st, ad, wh⟩ s _ HF.out HA.out HW.out).mono ?_
      rintro e w2 ⟨rfl, hb2⟩
      have hb2' : Below w.heap.size w w2 := hb1'.trans (hb2.mono hb1'.size)
      clear hb2
      dsimp only
      cases hH : hasT fr s wh with
      | false =>
        have HD : Hid (doT ⟨f, fr, st, ad, wh⟩ s = (ByteArray.empty, false)) := doT_no (by simp [hH])
        simp only [Bool.false_eq_true, if_false]
        go_wp2
        go_ret2
        rw [HD.out]
        exact ⟨rfl, hb2'⟩
      | true =>
        simp only [if_true]
        cases hM : wok (swT fr s st ad) with
        | false =>
          have HD : Hid (doT ⟨f, fr, st, ad, wh⟩ s = (ByteArray.empty, false)) := doT_no (by simp [hM])
          go_wp2
          go_ret2
          rw [HD.out]
          exact ⟨rfl, hb2'⟩
        | true =>
          have HD : Hid (doT ⟨f, fr, st, ad, wh⟩ s = (swT fr s st ad, true)) := doT_yes (by simp [hM, hH, HA.out, HW.out])
          go_wp2
          go_ret2
          rw [HD.out]
          exact ⟨rfl, hb2'⟩
end Go.Proofs.Ytaldbaapfdpbgaa
