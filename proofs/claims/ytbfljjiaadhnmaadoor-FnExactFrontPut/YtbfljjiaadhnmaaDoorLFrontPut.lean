/-
  The law FnExactFrontPut.
-/
import Derived.Test.YtbfljjiaadhnmaaDoorGW143
import Derived.Test.YtbfljjiaadhnmaaDoorW440
import Derived.Deep.DeepCutAuto
import Derived.Deep.RegionHeld3
namespace Go.Proofs.YtbfljjiaadhnmaaDoor
open Go.RowKit
set_option linter.unusedVariables false
set_option maxRecDepth 100000 in
set_option maxHeartbeats 4000000 in
theorem fnExactFrontPut_walk (v0 : Value) (x0 : List ByteArray) (w : World) (h0 : TextsAt w v0 x0) :
    Calls Tryd.prog 3 #[v0] w fun e w' => e = .returned (.bool true) ∧ Below w.heap.size w w' := by
  have HA0 : Hid (TextsAt w (v0) x0) := h0
  clear h0
  obtain ⟨L0, hL0⟩ : ∃ L, fputT x0 = L := ⟨_, rfl⟩
  have HSP : Hid (∀ (w : World) (u0 : Value), TextsAt w u0 x0 → Calls Tryd.prog 5 #[u0] w fun e w' => e = .returned (.string L0) ∧ Below w.heap.size w w') := fun w u0 g0 => by
    rw [← hL0]
    exact specFrontPut_any w u0 x0 g0
  have HIM : Hid (∀ (w : World) (u0 : Value), TextsAt w u0 x0 → Calls Tryd.prog 7 #[u0] w fun e w' => e = .returned (.string L0) ∧ Below w.heap.size w w') := fun w u0 g0 => by
    rw [← hL0]
    exact implFrontPut_any w u0 x0 g0
  clear hL0
  go_enter Tryd.func3, Tryd.ntmps3
  go_wp2_with fail
  refine (szStringS_any _ _ x0 _ HA0.out (by omega) (by omega)).mono ?_
  rintro e w1 ⟨⟨r0, rfl, hr0, hq0⟩, hb1⟩
  have HR0 : Hid (0 ≤ r0 → (x0).length ≤ 1048576) := hq0
  clear hq0
  have hh1 : Below w.heap.size w w1 := hb1
  have HB1 : Hid (Below w.heap.size w w1) := hh1
  have HZ1 : Hid (w.heap.size ≤ w1.heap.size) := hh1.size
  clear hb1 hh1
  by_cases hn0 : r0 < 0
  · go_wp2
    go_ret
    exact ⟨rfl, HB1.out⟩
  have HN0 : Hid ((x0).length ≤ 1048576) := HR0.out (by omega)
  go_wp2_with fail
  refine (toStringS_x _ _ x0 (HA0.out.below HB1.out) HN0.out).mono ?_
  rintro e w2 ⟨ua0, rfl, hu2, hb2⟩
  have hh2 : Below w1.heap.size w1 w2 := hb2
  have HB2 : Hid (Below w.heap.size w w2) := HB1.out.trans (hh2.mono HB1.out.size)
  have HZ2 : Hid (w1.heap.size ≤ w2.heap.size) := hh2.size
  clear hb2 hh2
  have Ua0_2 : Hid (TextsAt w2 (ua0) x0) := hu2.at
  clear hu2
  go_wp2_with fail
  refine (HSP.out _ _ Ua0_2.out).mono ?_
  rintro e w3 ⟨rfl, hb3⟩
  have hh3 : Below w2.heap.size w2 w3 := hb3
  have HB3 : Hid (Below w.heap.size w w3) := HB2.out.trans (hh3.mono HB2.out.size)
  have Ua0_3 : Hid (TextsAt w3 (ua0) x0) := Ua0_2.out.below hh3
  have HZ3 : Hid (w2.heap.size ≤ w3.heap.size) := hh3.size
  clear Ua0_2 hb3 hh3
  go_wp2_with fail
  refine (toStringS_x _ _ x0 (HA0.out.below HB3.out) HN0.out).mono ?_
  rintro e w4 ⟨y0, rfl, hu4, hb4⟩
  have hh4 : Below w3.heap.size w3 w4 := hb4
  have HB4 : Hid (Below w.heap.size w w4) := HB3.out.trans (hh4.mono HB3.out.size)
  have BC4 : Hid (Below w3.heap.size w3 w4) := hh4
  have HZ4 : Hid (w3.heap.size ≤ w4.heap.size) := hh4.size
  clear hb4 hh4
  have X0_4 : Hid (TextsRow (w3.heap.size) w4.heap.size w4 (y0) x0) := hu4
  clear hu4
  go_wp2_with fail
  refine (HIM.out _ _ (X0_4.out).at).mono ?_
  rintro e w5 ⟨rfl, hb5⟩
  have hh5 : Below w4.heap.size w4 w5 := hb5
  have HB5 : Hid (Below w.heap.size w w5) := HB4.out.trans (hh5.mono HB4.out.size)
  have BC5 : Hid (Below w3.heap.size w3 w5) := BC4.out.trans (hh5.mono BC4.out.size)
  have X0_5 : Hid (TextsRow (w3.heap.size) w4.heap.size w5 (y0) x0) := X0_4.out.below hh5
  have HZ5 : Hid (w4.heap.size ≤ w5.heap.size) := hh5.size
  clear X0_4 hb5 hh5
  go_wp2_with fail
  refine (toStringS_x _ _ x0 (HA0.out.below HB5.out) HN0.out).mono ?_
  rintro e w6 ⟨ub0, rfl, hu6, hb6⟩
  have hh6 : Below w5.heap.size w5 w6 := hb6
  have HB6 : Hid (Below w.heap.size w w6) := HB5.out.trans (hh6.mono HB5.out.size)
  have BC6 : Hid (Below w3.heap.size w3 w6) := BC5.out.trans (hh6.mono BC5.out.size)
  have X0_6 : Hid (TextsRow (w3.heap.size) w4.heap.size w6 (y0) x0) := X0_5.out.below hh6
  have HZ6 : Hid (w5.heap.size ≤ w6.heap.size) := hh6.size
  clear X0_5 hb6 hh6
  have Ub0_6 : Hid (TextsAt w6 (ub0) x0) := hu6.at
  clear hu6
  go_wp2_with fail
  refine (eqStringS_same _ _ _ x0 (X0_6.out).at Ub0_6.out).mono ?_
  rintro e w7 ⟨rfl, hb7⟩
  have hh7 : Below w6.heap.size w6 w7 := hb7
  have HB7 : Hid (Below w.heap.size w w7) := HB6.out.trans (hh7.mono HB6.out.size)
  have BC7 : Hid (Below w3.heap.size w3 w7) := BC6.out.trans (hh7.mono BC6.out.size)
  have X0_7 : Hid (TextsRow (w3.heap.size) w4.heap.size w7 (y0) x0) := X0_6.out.below hh7
  have Ub0_7 : Hid (TextsAt w7 (ub0) x0) := Ub0_6.out.below hh7
  have HZ7 : Hid (w6.heap.size ≤ w7.heap.size) := hh7.size
  clear X0_6 Ub0_6 hb7 hh7
  go_wp2
  go_ret
  exact ⟨rfl, HB7.out⟩
end Go.Proofs.YtbfljjiaadhnmaaDoor
