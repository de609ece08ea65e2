/-
  The law FnExactDeltaOk.
-/
import Derived.Test.YtaejkhhkippmpaaW115
namespace Go.Proofs.Ytaejkhhkippmpaa
open Go.RowKit
set_option linter.unusedVariables false
/-- A change that a law is given, in a box. -/
def LRow (w : World) (b : Nat) (v0 v1 : Value) (af : Bool) (v3 : Value) : Prop := w.rowIs b 26 4 (fun i => #[v0, v1, Value.bool af, v3][i]?.getD .nilFunc)
theorem LRow.new (w : World) (v0 v1 : Value) (af : Bool) (v3 : Value) : LRow (w.alloc (.cells #[v0, v1, .bool af, v3] 26)) w.heap.size v0 v1 af v3 := rowIs_new _ _
theorem LRow.below {w w' : World} {b : Nat} {v0 v1 v3 : Value} {af : Bool} (h : LRow w b v0 v1 af v3) (hb : Below w.heap.size w w') : LRow w' b v0 v1 af v3 := rowIs_below7 h hb
theorem LRow.cs {w : World} {b : Nat} {v0 v1 v3 : Value} {af : Bool} (h : LRow w b v0 v1 af v3) : w.cell? ⟨b, 0, none⟩ = some v0 ∧ w.cell? ⟨b, 1, none⟩ = some v1 ∧ w.cell? ⟨b, 2, none⟩ = some (.bool af) ∧ w.cell? ⟨b, 3, none⟩ = some v3 :=
  ⟨World.rowIs.cell h (by decide), World.rowIs.cell h (by decide), World.rowIs.cell h (by decide), World.rowIs.cell h (by decide)⟩
theorem DRow.cs {w : World} {b : Nat} {v0 v1 v3 : Value} {af : Bool} (h : DRow w b v0 v1 af v3) : w.cell? ⟨b, 0, none⟩ = some v0 ∧ w.cell? ⟨b, 1, none⟩ = some v1 ∧ w.cell? ⟨b, 2, none⟩ = some (.bool af) ∧ w.cell? ⟨b, 3, none⟩ = some v3 := ⟨h.c0, h.c1, h.c2, h.c3⟩
/-- The three lists of a change. -/
def DAt (w : World) (vg vc vl : Value) (gs : List ByteArray) (es : List (ByteArray × ByteArray)) (xs : List Aff) : Prop := TextsAt w vg gs ∧ EntsAt w vc es ∧ AffsAt w vl xs
theorem DAt.below {w w' : World} {vg vc vl : Value} {gs : List ByteArray} {es : List (ByteArray × ByteArray)} {xs : List Aff} (h : DAt w vg vc vl gs es xs) (hb : Below w.heap.size w w') : DAt w' vg vc vl gs es xs := ⟨h.1.below hb, h.2.1.below hb, h.2.2.below hb⟩
set_option maxHeartbeats 2000000 in
theorem fnExactDeltaOk_walk (vg vc : Value) (af : Bool) (vl : Value) (gs : List ByteArray) (es : List (ByteArray × ByteArray)) (xs : List Aff) (w : World) (hg : TextsAt w vg gs) (he : EntsAt w vc es) (ha : AffsAt w vl xs) :
    Calls Try.prog 3 #[.agg #[vg, vc, .bool af, vl]] w fun e w' => e = .returned (.bool true) ∧ Below w.heap.size w w' := by
  have HD : Hid (DAt w vg vc vl gs es xs) := ⟨hg, he, ha⟩
  obtain ⟨a, cap, rfl, _, _⟩ := hg.form
  obtain ⟨a', cap', rfl, _, _⟩ := he.form
  obtain ⟨a2, cap2, rfl, _, _⟩ := ha.form
  clear hg he ha
  obtain ⟨W0, hW0⟩ : ∃ W0, w.alloc (.cells #[.slice a gs.length cap, .slice a' es.length cap', .bool af, .slice a2 xs.length cap2] 26) = W0 := ⟨_, rfl⟩
  have B0 : Hid (Below w.heap.size w W0) := by rw [← hW0]; exact (Below.refl _ _).alloc (Nat.le_refl _) _
  have L0 : Hid (LRow W0 w.heap.size (.slice a gs.length cap) (.slice a' es.length cap') af (.slice a2 xs.length cap2)) := by rw [← hW0]; exact LRow.new _ _ _ _ _
  have D0 : Hid (DAt W0 (.slice a gs.length cap) (.slice a' es.length cap') (.slice a2 xs.length cap2) gs es xs) := HD.out.below B0.out
  obtain ⟨c0, c1, c2, c3⟩ := L0.out.cs
  go_enter Try.func3, Try.ntmps3
  go_wp2_with fail
  clear hW0
  refine (szDelta_any _ _ _ _ af gs es xs _ D0.out.1 D0.out.2.1 D0.out.2.2 (by omega) (by omega)).mono ?_
  rintro e w1 ⟨⟨r, rfl, hr⟩, hb1⟩
  have B1 : Hid (Below w.heap.size w w1) := B0.out.trans (hb1.mono B0.out.size)
  have L1 : Hid (LRow w1 w.heap.size (.slice a gs.length cap) (.slice a' es.length cap') af (.slice a2 xs.length cap2)) := L0.out.below hb1
  have D1 : Hid (DAt w1 (.slice a gs.length cap) (.slice a' es.length cap') (.slice a2 xs.length cap2) gs es xs) := D0.out.below hb1
  have HR : Hid (0 ≤ r → gs.length ≤ 1048576 ∧ es.length ≤ 1048576 ∧ xs.length ≤ 1048576) := hr
  clear hb1 hr c0 c1 c2 c3
  by_cases hr : r < 0
  · go_wp2
    go_ret
    exact ⟨rfl, B1.out⟩
  · obtain ⟨n1, n2, n3⟩ := HR.out (by omega)
    obtain ⟨c0, c1, c2, c3⟩ := L1.out.cs
    go_wp2_with fail
    refine (toDelta_any _ _ _ _ af gs es xs D1.out.1 D1.out.2.1 D1.out.2.2 n1 n2 n3).mono ?_
    rintro e w2 ⟨ug, uc, ul, rfl, t2, e2, a22, hb2⟩
    have B2 : Hid (Below w.heap.size w w2) := B1.out.trans (hb2.mono B1.out.size)
    have L2 : Hid (LRow w2 w.heap.size (.slice a gs.length cap) (.slice a' es.length cap') af (.slice a2 xs.length cap2)) := L1.out.below hb2
    have D2 : Hid (DAt w2 (.slice a gs.length cap) (.slice a' es.length cap') (.slice a2 xs.length cap2) gs es xs) := D1.out.below hb2
    have E2 : Hid (DAt w2 ug uc ul gs es xs) := ⟨t2, e2, a22⟩
    clear hb2 t2 e2 a22 c0 c1 c2 c3
    go_wp2_with fail
    refine (specDeltaOk_any _ _ _ _ af gs es xs E2.out.1 E2.out.2.1 E2.out.2.2).mono ?_
    rintro e w3 ⟨rfl, hb3⟩
    have B3 : Hid (Below w.heap.size w w3) := B2.out.trans (hb3.mono B2.out.size)
    have L3 : Hid (LRow w3 w.heap.size (.slice a gs.length cap) (.slice a' es.length cap') af (.slice a2 xs.length cap2)) := L2.out.below hb3
    have D3 : Hid (DAt w3 (.slice a gs.length cap) (.slice a' es.length cap') (.slice a2 xs.length cap2) gs es xs) := D2.out.below hb3
    clear hb3
    obtain ⟨c0, c1, c2, c3⟩ := L3.out.cs
    go_wp2_with fail
    refine (toDelta_any _ _ _ _ af gs es xs D3.out.1 D3.out.2.1 D3.out.2.2 n1 n2 n3).mono ?_
    rintro e w4 ⟨vg4, vc4, vl4, rfl, t4, e4, a4, hb4⟩
    obtain ⟨p4, q4, rfl, _, _⟩ := t4.form
    obtain ⟨p4', q4', rfl, _, _⟩ := e4.form
    obtain ⟨p4x, q4x, rfl, _, _⟩ := a4.form
    have B4 : Hid (Below w.heap.size w w4) := B3.out.trans (hb4.mono B3.out.size)
    obtain ⟨W5, hW5⟩ : ∃ W5, w4.alloc (.cells #[.slice p4 gs.length q4, .slice p4' es.length q4', .bool af, .slice p4x xs.length q4x] 32) = W5 := ⟨_, rfl⟩
    have b45 : Below w4.heap.size w4 W5 := by rw [← hW5]; exact (Below.refl _ _).alloc (Nat.le_refl _) _
    have B5 : Hid (Below w.heap.size w W5) := B4.out.trans (b45.mono B4.out.size)
    have L5 : Hid (LRow W5 w.heap.size (.slice a gs.length cap) (.slice a' es.length cap') af (.slice a2 xs.length cap2)) := (L3.out.below hb4).below b45
    have D5 : Hid (DAt W5 (.slice a gs.length cap) (.slice a' es.length cap') (.slice a2 xs.length cap2) gs es xs) := (D3.out.below hb4).below b45
    have E5 : Hid (DAt W5 (.slice p4 gs.length q4) (.slice p4' es.length q4') (.slice p4x xs.length q4x) gs es xs) := DAt.below ⟨t4, e4, a4⟩ b45
    have X5 : Hid (DRow W5 w4.heap.size (.slice p4 gs.length q4) (.slice p4' es.length q4') af (.slice p4x xs.length q4x)) := by rw [← hW5]; exact DRow.new _ _ _ _ _
    obtain ⟨x0, x1, x2, x3⟩ := X5.out.cs
    clear hb4 t4 e4 a4 b45 c0 c1 c2 c3
    go_wp2_with fail
    clear hW5
    refine (implDeltaOk_any _ _ _ _ af gs es xs E5.out.1 E5.out.2.1 E5.out.2.2).mono ?_
    rintro e w6 ⟨rfl, hb6⟩
    have B6 : Hid (Below w.heap.size w w6) := B5.out.trans (hb6.mono B5.out.size)
    have L6 : Hid (LRow w6 w.heap.size (.slice a gs.length cap) (.slice a' es.length cap') af (.slice a2 xs.length cap2)) := L5.out.below hb6
    have D6 : Hid (DAt w6 (.slice a gs.length cap) (.slice a' es.length cap') (.slice a2 xs.length cap2) gs es xs) := D5.out.below hb6
    have E6 : Hid (DAt w6 (.slice p4 gs.length q4) (.slice p4' es.length q4') (.slice p4x xs.length q4x) gs es xs) := E5.out.below hb6
    have X6 : Hid (DRow w6 w4.heap.size (.slice p4 gs.length q4) (.slice p4' es.length q4') af (.slice p4x xs.length q4x)) := X5.out.below hb6
    clear hb6 x0 x1 x2 x3
    obtain ⟨c0, c1, c2, c3⟩ := L6.out.cs
    obtain ⟨x0, x1, x2, x3⟩ := X6.out.cs
    go_wp2_with fail
    go_region_with (first
      | (go_at_call 7; refine (toDelta_any _ _ _ _ af gs es xs (D6.out.below (Below.refl _ _).drew).1 (D6.out.below (Below.refl _ _).drew).2.1 (D6.out.below (Below.refl _ _).drew).2.2 n1 n2 n3).mono ?_; rintro e w7 ⟨vg7, vc7, vl7, rfl, t7, e7, a7, hb7⟩; have hb67 : Below w6.heap.size w6 w7 := (Below.refl _ _).drew.trans hb7; have B7 : Hid (Below w.heap.size w w7) := B6.out.trans (hb67.mono B6.out.size); have E7 : Hid (DAt w7 vg7 vc7 vl7 gs es xs) := ⟨t7, e7, a7⟩; have G7 : Hid (DAt w7 (.slice p4 gs.length q4) (.slice p4' es.length q4') (.slice p4x xs.length q4x) gs es xs) := E6.out.below hb67; obtain ⟨y0, y1, y2, y3⟩ := (X6.out.below hb67).cs; clear hb7 hb67 t7 e7 a7)
      | (go_at_call 9; refine (eqDelta_same _ _ _ _ _ _ _ af gs es xs G7.out.1 G7.out.2.1 G7.out.2.2 E7.out.1 E7.out.2.1 E7.out.2.2).mono ?_; rintro e w8 ⟨rfl, hb8⟩; have B8 : Hid (Below w.heap.size w w8) := B7.out.trans (hb8.mono B7.out.size); clear hb8))
    all_goals
      go_wp2_with fail
      go_ret
      exact ⟨rfl, B8.out⟩
end Go.Proofs.Ytaejkhhkippmpaa
