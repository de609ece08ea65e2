/-
  One part of a text put in another one's place: swap, and l2Do.
-/
import Derived.Test.YthikcililececaaM8
namespace Go.Proofs.Ythikcililececaa
open Go.RowKit
set_option linter.unusedVariables false
set_option maxHeartbeats 1000000 in
theorem begSwap_any (a : Aff) (s p q : ByteArray) (w : World) (hs : s.size ≤ 12) (hp : p.size ≤ s.size) (hq : q.size ≤ 4) :
    Calls Try.prog 120 #[.agg a.cells, .string s, .string p, .string q] w fun e w' => e = .returned (.string (swT true s p q)) ∧ Below w.heap.size w w' := by
  obtain ⟨f, fr, st, ad, wh⟩ := a
  unfold Aff.cells
  go_enter Try.func120, Try.ntmps120
  go_wp2
  go_ret
  exact ⟨rfl, (Below.refl _ _).alloc (Nat.le_refl _) _⟩
set_option maxHeartbeats 1000000 in
theorem endSwap_any (a : Aff) (s p q : ByteArray) (w : World) (hs : s.size ≤ 12) (hp : p.size ≤ s.size) (hq : q.size ≤ 4) :
    Calls Try.prog 116 #[.agg a.cells, .string s, .string p, .string q] w fun e w' => e = .returned (.string (swT false s p q)) ∧ Below w.heap.size w w' := by
  obtain ⟨f, fr, st, ad, wh⟩ := a
  unfold Aff.cells
  go_enter Try.func116, Try.ntmps116
  go_wp2
  go_ret
  exact ⟨rfl, (Below.refl _ _).alloc (Nat.le_refl _) _⟩
set_option maxHeartbeats 1000000 in
theorem l2Do_any (a : Aff) (s : ByteArray) (w : World) (h : a.fits) (ha : affOk a = true) (hs : wok s = true) :
    Calls Try.prog 73 #[.agg a.cells, .string s] w fun e w' => e = .returned (if hasT a.front s a.wh then .tuple #[.string (swT a.front s a.strip a.add), .bool (wok (swT a.front s a.strip a.add))] else .tuple #[.string ByteArray.empty, .bool false]) ∧ Below w.heap.size w w' := by
  obtain ⟨f, fr, st, ad, wh⟩ := a
  obtain ⟨p1, p2, p3, p4⟩ := affOk_parts ha
  obtain ⟨s0, s1⟩ := wok_sz hs
  obtain ⟨hf, hst, had, hwh⟩ := h
  simp only at hf hst had hwh p1 p2 p3 p4
  have hsm : s.size ≤ maxLen := by unfold maxLen; omega
  clear ha hs
  unfold Aff.cells
  dsimp only
  cases hh : hasT fr s wh with
  | false =>
    cases fr with
    | true =>
      have hb : begT s wh = false := by simpa [hasT] using hh
      clear hh p4
      go_enter Try.func73, Try.ntmps73
      go_wp2_with (first | (go_at_call 70; refine (l2Begins_any _ _ _ hsm hwh).mono ?_; rintro e w' ⟨rfl, rfl⟩; rw [hb]))
      go_ret2
      exact ⟨rfl, (Below.refl _ _).alloc (Nat.le_refl _) _⟩
    | false =>
      have hb : endT s wh = false := by simpa [hasT] using hh
      clear hh p4
      go_enter Try.func73, Try.ntmps73
      go_wp2_with (first | (go_at_call 71; refine (l2Ends_any _ _ _ hsm hwh).mono ?_; rintro e w' ⟨rfl, rfl⟩; rw [hb]))
      go_ret2
      exact ⟨rfl, (Below.refl _ _).alloc (Nat.le_refl _) _⟩
  | true =>
    have hz := hasT_size (hasT_trans hh p4)
    have hzz := (swT_back (q := ad) (hasT_trans hh p4)).2.2
    have hmm : (swT fr s st ad).size ≤ maxLen := by unfold maxLen; omega
    cases fr with
    | true =>
      have hb : begT s wh = true := by simpa [hasT] using hh
      have HW : Hid (∀ wx : World, Calls Try.prog 55 #[.string (ad ++ s.extract st.size s.size)] wx fun e w' => e = .returned (.bool (wok (swT true s st ad))) ∧ w' = wx) := by
        have : ∀ wx : World, Calls Try.prog 55 #[.string (ad ++ s.extract st.size s.size)] wx fun e w' => e = .returned (.bool (wok (swT true s st ad))) ∧ w' = wx := fun wx => by simpa [swT] using l1Word_any (swT true s st ad) wx hmm
        exact this
      clear hh p4 hzz hmm
      go_enter Try.func73, Try.ntmps73
      go_wp2_with (first | (go_at_call 70; refine (l2Begins_any _ _ _ hsm hwh).mono ?_; rintro e w' ⟨rfl, rfl⟩; rw [hb]))
      go_quiet (fail)
      go_wp2_with (go_at_call 55; refine (HW.out _).mono ?_; rintro e w' ⟨rfl, rfl⟩)
      go_ret2
      exact ⟨rfl, below_drewN ((Below.refl _ _).alloc (Nat.le_refl _) _) _⟩
    | false =>
      have hb : endT s wh = true := by simpa [hasT] using hh
      have HW : Hid (∀ wx : World, Calls Try.prog 55 #[.string (s.extract 0 (s.size - st.size) ++ ad)] wx fun e w' => e = .returned (.bool (wok (swT false s st ad))) ∧ w' = wx) := by
        have : ∀ wx : World, Calls Try.prog 55 #[.string (s.extract 0 (s.size - st.size) ++ ad)] wx fun e w' => e = .returned (.bool (wok (swT false s st ad))) ∧ w' = wx := fun wx => by simpa [swT] using l1Word_any (swT false s st ad) wx hmm
        exact this
      clear hh p4 hzz hmm
      go_enter Try.func73, Try.ntmps73
      go_wp2_with (first | (go_at_call 71; refine (l2Ends_any _ _ _ hsm hwh).mono ?_; rintro e w' ⟨rfl, rfl⟩; rw [hb]))
      go_quiet (fail)
      go_wp2_with (go_at_call 55; refine (HW.out _).mono ?_; rintro e w' ⟨rfl, rfl⟩)
      go_ret2
      exact ⟨rfl, below_drewN ((Below.refl _ _).alloc (Nat.le_refl _) _) _⟩
end Go.Proofs.Ythikcililececaa
