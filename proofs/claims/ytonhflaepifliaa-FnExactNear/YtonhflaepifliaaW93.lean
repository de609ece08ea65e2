/-
  The law FnExactNear out of contracts of both answers.
-/
import Derived.Test.YtonhflaepifliaaW92
namespace Go.Proofs.Ytonhflaepifliaa
open Go.RowKit
set_option linter.unusedVariables false
set_option maxHeartbeats 2000000 in
theorem fnExactNear_of (L : ByteArray → List ByteArray) (hlen : ∀ s, (L s).length ≤ 2000000000)
    (hspec : ∀ (s : ByteArray) (w : World), s.size ≤ 1048576 → Calls Try.prog 4 #[.string s] w fun e w' => ∃ v, e = .returned v ∧ TextsAt w' v (L s) ∧ Below w.heap.size w w')
    (himpl : ∀ (s : ByteArray) (w : World), s.size ≤ 1048576 → Calls Try.prog 5 #[.string s] w fun e w' => ∃ v, e = .returned v ∧ TextsOwn w.heap.size w' v (L s) ∧ Below w.heap.size w w')
    (s : ByteArray) (w : World) (hm : s.size ≤ maxLen) :
    Calls Try.prog 3 #[.string s] w fun e w' => e = .returned (.bool true) ∧ Below w.heap.size w w' := by
  have HSP : Hid (∀ (s : ByteArray) (w : World), s.size ≤ 1048576 → Calls Try.prog 4 #[.string s] w fun e w' => ∃ v, e = .returned v ∧ TextsAt w' v (L s) ∧ Below w.heap.size w w') := hspec
  have HIM : Hid (∀ (s : ByteArray) (w : World), s.size ≤ 1048576 → Calls Try.prog 5 #[.string s] w fun e w' => ∃ v, e = .returned v ∧ TextsOwn w.heap.size w' v (L s) ∧ Below w.heap.size w w') := himpl
  have hln := hlen s
  clear hspec himpl hlen
  unfold maxLen at hm
  by_cases hs : 1048576 < s.size
  · go_enter Try.func3, Try.ntmps3
    go_wp2
    go_ret
    exact ⟨rfl, Below.refl _ _⟩
  · go_enter Try.func3, Try.ntmps3
    go_wp2_with fail
    refine (HSP.out s _ (by omega)).mono ?_
    rintro e w1 ⟨v1, rfl, h1, hb1⟩
    obtain ⟨a1, cap1, rfl, _, _⟩ := h1.form
    have HB1 : Hid (Below w.heap.size w w1) := hb1
    have H1 : Hid (TextsAt w1 (.slice a1 (L s).length cap1) (L s)) := h1
    clear hb1 h1
    go_wp2_with fail
    refine (HIM.out s _ (by omega)).mono ?_
    rintro e w2 ⟨v2, rfl, h2, hb2⟩
    obtain ⟨a2, cap2, rfl, _, _⟩ := h2.at.form
    have HB2 : Hid (Below w.heap.size w w2) := HB1.out.trans (hb2.mono HB1.out.size)
    have HB12 : Hid (Below w1.heap.size w1 w2) := hb2
    have H2 : Hid (TextsOwn w1.heap.size w2 (.slice a2 (L s).length cap2) (L s)) := h2
    clear hb2 h2
    go_wp2_with fail
    refine (eqStringS_same _ _ _ (L s) H2.out.at (H1.out.below HB12.out)).mono ?_
    rintro e w3 ⟨rfl, hb3⟩
    have HB3 : Hid (Below w.heap.size w w3) := HB2.out.trans (hb3.mono HB2.out.size)
    have HB13 : Hid (Below w1.heap.size w1 w3) := HB12.out.trans (hb3.mono HB12.out.size)
    have H3 : Hid (TextsOwn w1.heap.size w3 (.slice a2 (L s).length cap2) (L s)) := H2.out.below hb3
    clear hb3
    go_wp2_with fail
    refine (markStringS_any w1.heap.size 1 _ _ (L s) H3.out (by omega) hln HB13.out.size).mono ?_
    rintro e w4 ⟨rfl, h4, hb4⟩
    have HB4 : Hid (Below w.heap.size w w4) := HB3.out.trans (hb4.mono HB1.out.size)
    have HB14 : Hid (Below w1.heap.size w1 w4) := HB13.out.trans hb4
    have H4 : Hid (TextsOwn w1.heap.size w4 (.slice a2 (L s).length cap2) (marks 1 (L s).length)) := h4
    clear hb4 h4
    go_wp2_with fail
    refine (heldStringS_any 1 (L s).length _ _ H4.out.at (by omega) hln).mono ?_
    rintro e w5 ⟨rfl, hb5⟩
    have HB5 : Hid (Below w.heap.size w w5) := HB4.out.trans (hb5.mono HB4.out.size)
    have HB15 : Hid (Below w1.heap.size w1 w5) := HB14.out.trans (hb5.mono HB14.out.size)
    have H5 : Hid (TextsOwn w1.heap.size w5 (.slice a2 (L s).length cap2) (marks 1 (L s).length)) := H4.out.below hb5
    clear hb5
    go_wp2_with fail
    refine (HIM.out s _ (by omega)).mono ?_
    rintro e w6 ⟨v6, rfl, h6, hb6⟩
    obtain ⟨a6, cap6, rfl, _, _⟩ := h6.at.form
    have HB6 : Hid (Below w.heap.size w w6) := HB5.out.trans (hb6.mono HB5.out.size)
    have HB16 : Hid (Below w1.heap.size w1 w6) := HB15.out.trans (hb6.mono HB15.out.size)
    have H6 : Hid (TextsOwn w5.heap.size w6 (.slice a6 (L s).length cap6) (L s)) := h6
    have H6' : Hid (TextsOwn w1.heap.size w6 (.slice a2 (L s).length cap2) (marks 1 (L s).length)) := H5.out.below hb6
    clear hb6 h6
    go_wp2_with fail
    refine (eqStringS_same _ _ _ (L s) H6.out.at (H1.out.below HB16.out)).mono ?_
    rintro e w7 ⟨rfl, hb7⟩
    have HB7 : Hid (Below w.heap.size w w7) := HB6.out.trans (hb7.mono HB6.out.size)
    have H7 : Hid (TextsOwn w1.heap.size w7 (.slice a2 (L s).length cap2) (marks 1 (L s).length)) := H6'.out.below hb7
    clear hb7
    go_wp2_with fail
    refine (heldStringS_any 1 (L s).length _ _ H7.out.at (by omega) hln).mono ?_
    rintro e w8 ⟨rfl, hb8⟩
    have HB8 : Hid (Below w.heap.size w w8) := HB7.out.trans (hb8.mono HB7.out.size)
    clear hb8
    go_wp2
    go_ret
    exact ⟨rfl, HB8.out⟩
