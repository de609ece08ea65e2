/-
  The law FnExactBookOk.
-/
import Derived.Test.YtiapikobnddaiaaW78
import Derived.Test.YtiapikobnddaiaaW71
namespace Go.Proofs.Ytiapikobnddaiaa
open Go.RowKit
set_option linter.unusedVariables false
set_option maxHeartbeats 1000000 in
theorem fnExactBookOk_walk (va ve : Value) (xs : List Aff) (es : List (ByteArray × ByteArray)) (w : World) (h : AffsAt w va xs) (h' : EntsAt w ve es) :
    Calls Try.prog 3 #[.agg #[va, ve]] w fun e w' => e = .returned (.bool true) ∧ Below w.heap.size w w' := by
  obtain ⟨a, cap, rfl, hc, hm⟩ := h.form
  obtain ⟨a', cap', rfl, hc', hm'⟩ := h'.form
  have HA : Hid (AffsAt w (.slice a xs.length cap) xs) := h
  have HE : Hid (EntsAt w (.slice a' es.length cap') es) := h'
  clear h h'
  go_enter Try.func3, Try.ntmps3
  go_wp2_with fail
  have HB0 : Hid (Below w.heap.size w (w.alloc (.cells #[.slice a xs.length cap, .slice a' es.length cap'] 25))) := (Below.refl _ _).alloc (Nat.le_refl _) _
  refine (szBook_any _ _ _ xs es _ (HA.out.below HB0.out) (HE.out.below HB0.out) (by omega) (by omega)).mono ?_
  rintro e w1 ⟨⟨r, rfl, hr⟩, hb1⟩
  have HB1 : Hid (Below w.heap.size w w1) := HB0.out.trans (hb1.mono (by simp <;> omega))
  have HR : Hid (0 ≤ r → xs.length ≤ 1048576 ∧ es.length ≤ 1048576) := hr
  have c10 : w1.cell? ⟨w.heap.size, 0, none⟩ = some (.slice a xs.length cap) := (hb1.cell (p := ⟨w.heap.size, 0, none⟩) (by simp)).trans (by simp [go_sem])
  have c11 : w1.cell? ⟨w.heap.size, 1, none⟩ = some (.slice a' es.length cap') := (hb1.cell (p := ⟨w.heap.size, 1, none⟩) (by simp)).trans (by simp [go_sem])
  have hz1 : w.heap.size < w1.heap.size := by have := hb1.size; simp at this; omega
  clear hb1 hr
  by_cases hr : r < 0
  · go_wp2
    go_ret
    exact ⟨rfl, HB1.out⟩
  · obtain ⟨hn1, hn2⟩ := HR.out (by omega)
    go_wp2_with fail
    refine (toBook_any _ _ _ xs es (HA.out.below HB1.out) (HE.out.below HB1.out) hn1 hn2).mono ?_
    rintro e w2 ⟨v2, u2, rfl, h2, h2', hb2⟩
    have HB2 : Hid (Below w.heap.size w w2) := HB1.out.trans (hb2.mono HB1.out.size)
    obtain ⟨p2, q2, rfl, _, _⟩ := h2.form
    obtain ⟨p2', q2', rfl, _, _⟩ := h2'.form
    have H2 : Hid (AffsAt w2 (.slice p2 xs.length q2) xs) := h2
    have H2' : Hid (EntsAt w2 (.slice p2' es.length q2') es) := h2'
    have c20 := (hb2.cell (p := ⟨w.heap.size, 0, none⟩) hz1).trans c10
    have c21 := (hb2.cell (p := ⟨w.heap.size, 1, none⟩) hz1).trans c11
    have hz2 : w.heap.size < w2.heap.size := Nat.lt_of_lt_of_le hz1 hb2.size
    clear hb2 h2 h2' c10 c11
    go_wp2_with fail
    refine (specBookOk_any _ _ _ xs es H2.out H2'.out).mono ?_
    rintro e w3 ⟨rfl, hb3⟩
    have HB3 : Hid (Below w.heap.size w w3) := HB2.out.trans (hb3.mono HB2.out.size)
    have c30 := (hb3.cell (p := ⟨w.heap.size, 0, none⟩) hz2).trans c20
    have c31 := (hb3.cell (p := ⟨w.heap.size, 1, none⟩) hz2).trans c21
    have hz3 : w.heap.size < w3.heap.size := Nat.lt_of_lt_of_le hz2 hb3.size
    clear hb3 c20 c21
    go_wp2_with fail
    refine (toBook_any _ _ _ xs es (HA.out.below HB3.out) (HE.out.below HB3.out) hn1 hn2).mono ?_
    rintro e w4 ⟨v4, u4, rfl, h4, h4', hb4⟩
    have HB4 : Hid (Below w.heap.size w w4) := HB3.out.trans (hb4.mono HB3.out.size)
    obtain ⟨p4, q4, rfl, _, _⟩ := h4.form
    obtain ⟨p4', q4', rfl, _, _⟩ := h4'.form
    have H4 : Hid (AffsAt w4 (.slice p4 xs.length q4) xs) := h4
    have H4' : Hid (EntsAt w4 (.slice p4' es.length q4') es) := h4'
    have c40 := (hb4.cell (p := ⟨w.heap.size, 0, none⟩) hz3).trans c30
    have c41 := (hb4.cell (p := ⟨w.heap.size, 1, none⟩) hz3).trans c31
    have hz4 : w.heap.size < w4.heap.size := Nat.lt_of_lt_of_le hz3 hb4.size
    clear hb4 h4 h4' c30 c31
    go_wp2_with fail
    have HBx : Hid (Below w4.heap.size w4 (w4.alloc (.cells #[.slice p4 xs.length q4, .slice p4' es.length q4'] 31))) := (Below.refl _ _).alloc (Nat.le_refl _) _
    refine (implBookOk_any _ _ _ xs es (H4.out.below HBx.out) (H4'.out.below HBx.out)).mono ?_
    rintro e w5 ⟨rfl, hb5⟩
    have hb45 : Below w4.heap.size w4 w5 := HBx.out.trans (hb5.mono (by simp <;> omega))
    have HB5 : Hid (Below w.heap.size w w5) := HB4.out.trans (hb45.mono HB4.out.size)
    have H5 : Hid (AffsAt w5 (.slice p4 xs.length q4) xs) := H4.out.below hb45
    have H5' : Hid (EntsAt w5 (.slice p4' es.length q4') es) := H4'.out.below hb45
    have c50 := (hb45.cell (p := ⟨w.heap.size, 0, none⟩) hz4).trans c40
    have c51 := (hb45.cell (p := ⟨w.heap.size, 1, none⟩) hz4).trans c41
    have x50 : w5.cell? ⟨w4.heap.size, 0, none⟩ = some (.slice p4 xs.length q4) := (hb5.cell (p := ⟨w4.heap.size, 0, none⟩) (by simp)).trans (by simp [go_sem])
    have x51 : w5.cell? ⟨w4.heap.size, 1, none⟩ = some (.slice p4' es.length q4') := (hb5.cell (p := ⟨w4.heap.size, 1, none⟩) (by simp)).trans (by simp [go_sem])
    have hz5 : w4.heap.size < w5.heap.size := by have := hb5.size; simp at this; omega
    clear hb5 hb45 c40 c41
    go_wp2_with fail
    go_region_with (first
      | (go_at_call 7; refine (toBook_any _ _ _ xs es (HA.out.below HB5.out.drew) (HE.out.below HB5.out.drew) hn1 hn2).mono ?_; rintro e w6 ⟨v6, u6, rfl, h6, h6', hb6⟩; have hb56 : Below w5.heap.size w5 w6 := (Below.refl _ _).drew.trans hb6; have HB6 : Hid (Below w.heap.size w w6) := HB5.out.trans (hb56.mono HB5.out.size); obtain ⟨p6, q6, rfl, _, _⟩ := h6.form; obtain ⟨p6', q6', rfl, _, _⟩ := h6'.form; have H6 : Hid (AffsAt w6 (.slice p6 xs.length q6) xs) := h6; have H6' : Hid (EntsAt w6 (.slice p6' es.length q6') es) := h6'; have G6 : Hid (AffsAt w6 (.slice p4 xs.length q4) xs) := H5.out.below hb56; have G6' : Hid (EntsAt w6 (.slice p4' es.length q4') es) := H5'.out.below hb56; have x60 := (hb56.cell (p := ⟨w4.heap.size, 0, none⟩) hz5).trans x50; have x61 := (hb56.cell (p := ⟨w4.heap.size, 1, none⟩) hz5).trans x51; clear hb6 hb56 h6 h6')
      | (go_at_call 9; refine (eqBook_same _ _ _ _ _ xs es G6.out G6'.out H6.out H6'.out).mono ?_; rintro e w7 ⟨rfl, hb7⟩; have HB7 : Hid (Below w.heap.size w w7) := HB6.out.trans (hb7.mono HB6.out.size); clear hb7))
    all_goals
      go_wp2_with fail
      go_ret
      exact ⟨rfl, HB7.out⟩
end Go.Proofs.Ytiapikobnddaiaa
