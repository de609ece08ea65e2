/-
  The law FnExactUserAdd.
-/
import Derived.Test.YtnhbgfgbeehipaaGW143
import Derived.Test.YtnhbgfgbeehipaaW452
import Derived.Deep.DeepCutAuto
import Derived.Deep.RegionHeld3
namespace Go.Proofs.Ytnhbgfgbeehipaa
open Go.RowKit
set_option linter.unusedVariables false
set_option maxRecDepth 100000 in
set_option maxHeartbeats 4000000 in
theorem fnExactUserAdd_walk (v0 : Value) (x0 : List ByteArray) (s1 : ByteArray) (w : World) (h0 : TextsAt w v0 x0) (h1 : s1.size ≤ maxLen) :
    Calls Try.prog 3 #[v0, .string s1] w fun e w' => e = .returned (.bool true) ∧ Below w.heap.size w w' := by
  have HA0 : Hid (TextsAt w (v0) x0) := h0
  clear h0
  by_cases hg1 : (s1.size : Int) > 1048576
  · unfold maxLen at h1
    go_enter Try.func3, Try.ntmps3
    go_wp2
    go_ret
    exact ⟨rfl, (Below.refl _ _)⟩
  have hg1x : ¬ (1048576 : Int) < s1.size := by omega
  have hl1 : s1.size ≤ 1048576 := by omega
  obtain ⟨L0, hL0⟩ : ∃ L, addT x0 s1 = L := ⟨_, rfl⟩
  obtain ⟨L1, hL1⟩ : ∃ L, addB x0 s1 = L := ⟨_, rfl⟩
  have HSM : Hid ((L0).length ≤ 1048576) := by rw [← hL0]; exact addT_small x0 s1
  have HSP : Hid (∀ (w : World) (u0 : Value), TextsAt w u0 x0 → Calls Try.prog 6 #[u0, .string s1] w fun e w' => ∃ v0', e = .returned (.tuple #[v0', .bool L1]) ∧ TextsAt w' v0' L0 ∧ Below w.heap.size w w') := fun w u0 g0 => by
    rw [← hL0, ← hL1]
    exact specUserAdd_any w u0 x0 s1 g0 hl1
  have HIM : Hid (∀ (w : World) (u0 : Value), TextsAt w u0 x0 → Calls Try.prog 8 #[u0, .string s1] w fun e w' => ∃ v0', e = .returned (.tuple #[v0', .bool L1]) ∧ TextsRow w.heap.size w'.heap.size w' v0' L0 ∧ Below w.heap.size w w') := fun w u0 g0 => by
    rw [← hL0, ← hL1]
    exact implUserAdd_any w u0 x0 s1 g0 hl1
  clear hL0 hL1
  go_enter Try.func3, Try.ntmps3
  go_wp2_with fail
  refine (szStringS_any _ _ x0 _ HA0.out (by omega) (by omega)).mono ?_
  rintro e w1 ⟨⟨r0, rfl, hr0, hq0⟩, hb1⟩
  have HR0 : Hid (0 ≤ r0 → (x0).length ≤ 1048576) := hq0
  clear hq0
  have hh1 : Below w.heap.size w w1 := hb1
  have HB1 : Hid (Below w.heap.size w w1) := hh1
  have HZ1 : Hid (w.heap.size ≤ w1.heap.size) := hh1.size
  clear hb1 hh1
  by_cases hn0 : r0 < 0
  · go_wp2
    go_ret
    exact ⟨rfl, HB1.out⟩
  have HN0 : Hid ((x0).length ≤ 1048576) := HR0.out (by omega)
  go_wp2_with fail
  refine (toStringS_x _ _ x0 (HA0.out.below HB1.out) HN0.out).mono ?_
  rintro e w2 ⟨ua0, rfl, hu2, hb2⟩
  have hh2 : Below w1.heap.size w1 w2 := hb2
  have HB2 : Hid (Below w.heap.size w w2) := HB1.out.trans (hh2.mono HB1.out.size)
  have HZ2 : Hid (w1.heap.size ≤ w2.heap.size) := hh2.size
  clear hb2 hh2
  have Ua0_2 : Hid (TextsAt w2 (ua0) x0) := hu2.at
  clear hu2
  go_wp2_with fail
  refine (HSP.out _ _ Ua0_2.out).mono ?_
  rintro e w3 ⟨p0, rfl, hu3, hb3⟩
  have hh3 : Below w2.heap.size w2 w3 := hb3
  have HB3 : Hid (Below w.heap.size w w3) := HB2.out.trans (hh3.mono HB2.out.size)
  have Ua0_3 : Hid (TextsAt w3 (ua0) x0) := Ua0_2.out.below hh3
  have HZ3 : Hid (w2.heap.size ≤ w3.heap.size) := hh3.size
  clear Ua0_2 hb3 hh3
  have HU : Hid (TextsAt w3 (p0) L0) := hu3
  clear hu3
  go_wp2_with fail
  refine (toStringS_x _ _ x0 (HA0.out.below HB3.out) HN0.out).mono ?_
  rintro e w4 ⟨y0, rfl, hu4, hb4⟩
  have hh4 : Below w3.heap.size w3 w4 := hb4
  have HB4 : Hid (Below w.heap.size w w4) := HB3.out.trans (hh4.mono HB3.out.size)
  have BC4 : Hid (Below w3.heap.size w3 w4) := hh4
  have HZ4 : Hid (w3.heap.size ≤ w4.heap.size) := hh4.size
  clear hb4 hh4
  have X0_4 : Hid (TextsRow (w3.heap.size) w4.heap.size w4 (y0) x0) := hu4
  clear hu4
  go_wp2_with fail
  refine (HIM.out _ _ (X0_4.out).at).mono ?_
  rintro e w5 ⟨g0, rfl, hu5, hb5⟩
  have hh5 : Below w4.heap.size w4 w5 := hb5
  have HB5 : Hid (Below w.heap.size w w5) := HB4.out.trans (hh5.mono HB4.out.size)
  have BC5 : Hid (Below w3.heap.size w3 w5) := BC4.out.trans (hh5.mono BC4.out.size)
  have X0_5 : Hid (TextsRow (w3.heap.size) w4.heap.size w5 (y0) x0) := X0_4.out.below hh5
  have HZ5 : Hid (w4.heap.size ≤ w5.heap.size) := hh5.size
  clear X0_4 hb5 hh5
  have G_5 : Hid (TextsRow (w4.heap.size) w5.heap.size w5 (g0) L0) := hu5
  clear hu5
  go_wp2_with fail
  refine (eqStringS_same _ _ _ L0 (G_5.out).at (HU.out.below BC5.out)).mono ?_
  rintro e w6 ⟨rfl, hb6⟩
  have hh6 : Below w5.heap.size w5 w6 := hb6
  have HB6 : Hid (Below w.heap.size w w6) := HB5.out.trans (hh6.mono HB5.out.size)
  have BC6 : Hid (Below w3.heap.size w3 w6) := BC5.out.trans (hh6.mono BC5.out.size)
  have X0_6 : Hid (TextsRow (w3.heap.size) w4.heap.size w6 (y0) x0) := X0_5.out.below hh6
  have G_6 : Hid (TextsRow (w4.heap.size) w5.heap.size w6 (g0) L0) := G_5.out.below hh6
  have HZ6 : Hid (w5.heap.size ≤ w6.heap.size) := hh6.size
  clear X0_5 G_5 hb6 hh6
  go_wp2_with fail
  refine (toStringS_x _ _ x0 (HA0.out.below HB6.out) HN0.out).mono ?_
  rintro e w7 ⟨ub0, rfl, hu7, hb7⟩
  have hh7 : Below w6.heap.size w6 w7 := hb7
  have HB7 : Hid (Below w.heap.size w w7) := HB6.out.trans (hh7.mono HB6.out.size)
  have BC7 : Hid (Below w3.heap.size w3 w7) := BC6.out.trans (hh7.mono BC6.out.size)
  have X0_7 : Hid (TextsRow (w3.heap.size) w4.heap.size w7 (y0) x0) := X0_6.out.below hh7
  have G_7 : Hid (TextsRow (w4.heap.size) w5.heap.size w7 (g0) L0) := G_6.out.below hh7
  have HZ7 : Hid (w6.heap.size ≤ w7.heap.size) := hh7.size
  clear X0_6 G_6 hb7 hh7
  have Ub0_7 : Hid (TextsAt w7 (ub0) x0) := hu7.at
  clear hu7
  go_wp2_with fail
  refine (eqStringS_same _ _ _ x0 (X0_7.out).at Ub0_7.out).mono ?_
  rintro e w8 ⟨rfl, hb8⟩
  have hh8 : Below w7.heap.size w7 w8 := hb8
  have HB8 : Hid (Below w.heap.size w w8) := HB7.out.trans (hh8.mono HB7.out.size)
  have BC8 : Hid (Below w3.heap.size w3 w8) := BC7.out.trans (hh8.mono BC7.out.size)
  have X0_8 : Hid (TextsRow (w3.heap.size) w4.heap.size w8 (y0) x0) := X0_7.out.below hh8
  have G_8 : Hid (TextsRow (w4.heap.size) w5.heap.size w8 (g0) L0) := G_7.out.below hh8
  have Ub0_8 : Hid (TextsAt w8 (ub0) x0) := Ub0_7.out.below hh8
  have HZ8 : Hid (w7.heap.size ≤ w8.heap.size) := hh8.size
  clear X0_7 G_7 Ub0_7 hb8 hh8
  go_wp2_with fail
  have hk0 : (1 : Nat) ≤ 1 := Nat.le_refl _
  obtain ⟨k0, hk0⟩ : ∃ K : Nat, 1 + (x0).length = K := ⟨_, rfl⟩
  have sm0 := HN0.out
  have hc0 : (x0).length ≤ 40000000 := by omega
  clear sm0
  refine (cK (markStringS_x (w3.heap.size) w4.heap.size 1 _ _ x0 X0_8.out HN0.out (by omega) (by have z1 := HZ1.out; have z2 := HZ2.out; have z3 := HZ3.out; have z4 := HZ4.out; have z5 := HZ5.out; have z6 := HZ6.out; have z7 := HZ7.out; have z8 := HZ8.out; omega) (by have z1 := HZ1.out; have z2 := HZ2.out; have z3 := HZ3.out; have z4 := HZ4.out; have z5 := HZ5.out; have z6 := HZ6.out; have z7 := HZ7.out; have z8 := HZ8.out; omega)) hk0).mono ?_
  rintro e w9 ⟨rfl, _, hw9⟩
  have HB9 : Hid (Below w.heap.size w w9) := HB8.out.trans (hw9.1.mono (show w.heap.size ≤ (w3.heap.size) from (by have z1 := HZ1.out; have z2 := HZ2.out; have z3 := HZ3.out; have z4 := HZ4.out; have z5 := HZ5.out; have z6 := HZ6.out; have z7 := HZ7.out; have z8 := HZ8.out; omega)))
  have BC9 : Hid (Below w3.heap.size w3 w9) := BC8.out.trans (hw9.1.mono (show w3.heap.size ≤ (w3.heap.size) from (by have z1 := HZ1.out; have z2 := HZ2.out; have z3 := HZ3.out; have z4 := HZ4.out; have z5 := HZ5.out; have z6 := HZ6.out; have z7 := HZ7.out; have z8 := HZ8.out; omega)))
  have G_9 : Hid (TextsRow (w4.heap.size) w5.heap.size w9 (g0) L0) := G_8.out.wr hw9 (by have z1 := HZ1.out; have z2 := HZ2.out; have z3 := HZ3.out; have z4 := HZ4.out; have z5 := HZ5.out; have z6 := HZ6.out; have z7 := HZ7.out; have z8 := HZ8.out; omega)
  have HZ9 : Hid (w8.heap.size ≤ w9.heap.size) := hw9.sz
  clear G_8 hw9
  have hkn0 : ¬ ((k0 : Int) < 0) := by omega
  have hkb0 : k0 ≤ 40000001 := by omega
  clear hk0
  go_wp2_with fail
  refine (eqStringS_same _ _ _ L0 (G_9.out).at (HU.out.below BC9.out)).mono ?_
  rintro e w10 ⟨rfl, hb10⟩
  have hh10 : Below w9.heap.size w9 w10 := hb10
  have HB10 : Hid (Below w.heap.size w w10) := HB9.out.trans (hh10.mono HB9.out.size)
  have BC10 : Hid (Below w3.heap.size w3 w10) := BC9.out.trans (hh10.mono BC9.out.size)
  have G_10 : Hid (TextsRow (w4.heap.size) w5.heap.size w10 (g0) L0) := G_9.out.below hh10
  have HZ10 : Hid (w9.heap.size ≤ w10.heap.size) := hh10.size
  clear G_9 hb10 hh10
  go_wp2_with fail
  obtain ⟨km, hkm⟩ : ∃ K : Nat, 1 + (L0).length = K := ⟨_, rfl⟩
  have smr := HSM.out
  have hcr : (L0).length ≤ 40000000 := by omega
  clear smr
  have HKM : Hid (_ = km) := hkm
  refine (cK (markStringS_x (w4.heap.size) w5.heap.size 1 _ _ L0 G_10.out HSM.out (by omega) (by have z1 := HZ1.out; have z2 := HZ2.out; have z3 := HZ3.out; have z4 := HZ4.out; have z5 := HZ5.out; have z6 := HZ6.out; have z7 := HZ7.out; have z8 := HZ8.out; have z9 := HZ9.out; have z10 := HZ10.out; omega) (by have z1 := HZ1.out; have z2 := HZ2.out; have z3 := HZ3.out; have z4 := HZ4.out; have z5 := HZ5.out; have z6 := HZ6.out; have z7 := HZ7.out; have z8 := HZ8.out; have z9 := HZ9.out; have z10 := HZ10.out; omega)) HKM.out).mono ?_
  rintro e w11 ⟨rfl, hu11, hw11⟩
  have HB11 : Hid (Below w.heap.size w w11) := HB10.out.trans (hw11.1.mono (show w.heap.size ≤ (w4.heap.size) from (by have z1 := HZ1.out; have z2 := HZ2.out; have z3 := HZ3.out; have z4 := HZ4.out; have z5 := HZ5.out; have z6 := HZ6.out; have z7 := HZ7.out; have z8 := HZ8.out; have z9 := HZ9.out; have z10 := HZ10.out; omega)))
  have BC11 : Hid (Below w3.heap.size w3 w11) := BC10.out.trans (hw11.1.mono (show w3.heap.size ≤ (w4.heap.size) from (by have z1 := HZ1.out; have z2 := HZ2.out; have z3 := HZ3.out; have z4 := HZ4.out; have z5 := HZ5.out; have z6 := HZ6.out; have z7 := HZ7.out; have z8 := HZ8.out; have z9 := HZ9.out; have z10 := HZ10.out; omega)))
  have HZ11 : Hid (w10.heap.size ≤ w11.heap.size) := hw11.sz
  clear hw11
  have Q_11 : Hid (TextsRow (w4.heap.size) w5.heap.size w11 (g0) (marks 1 (L0).length)) := hu11
  clear hu11
  have hkmn : ¬ ((km : Int) < 0) := by omega
  clear hkm
  go_wp2_with fail
  refine (cK (heldStringS_x _ _ 1 L0 (Q_11.out).at HSM.out (by omega)) HKM.out).mono ?_
  rintro e w12 ⟨rfl, hb12⟩
  have hh12 : Below w11.heap.size w11 w12 := hb12
  have HB12 : Hid (Below w.heap.size w w12) := HB11.out.trans (hh12.mono HB11.out.size)
  have BC12 : Hid (Below w3.heap.size w3 w12) := BC11.out.trans (hh12.mono BC11.out.size)
  have Q_12 : Hid (TextsRow (w4.heap.size) w5.heap.size w12 (g0) (marks 1 (L0).length)) := Q_11.out.below hh12
  have HZ12 : Hid (w11.heap.size ≤ w12.heap.size) := hh12.size
  clear Q_11 hb12 hh12
  go_wp2_with fail
  refine (toStringS_x _ _ x0 (HA0.out.below HB12.out) HN0.out).mono ?_
  rintro e w13 ⟨uc0, rfl, hu13, hb13⟩
  have hh13 : Below w12.heap.size w12 w13 := hb13
  have HB13 : Hid (Below w.heap.size w w13) := HB12.out.trans (hh13.mono HB12.out.size)
  have BC13 : Hid (Below w3.heap.size w3 w13) := BC12.out.trans (hh13.mono BC12.out.size)
  have Q_13 : Hid (TextsRow (w4.heap.size) w5.heap.size w13 (g0) (marks 1 (L0).length)) := Q_12.out.below hh13
  have HZ13 : Hid (w12.heap.size ≤ w13.heap.size) := hh13.size
  clear Q_12 hb13 hh13
  have Uc0_13 : Hid (TextsAt w13 (uc0) x0) := hu13.at
  clear hu13
  go_wp2_with fail
  refine (HIM.out _ _ Uc0_13.out).mono ?_
  rintro e w14 ⟨e0, rfl, hu14, hb14⟩
  have hh14 : Below w13.heap.size w13 w14 := hb14
  have HB14 : Hid (Below w.heap.size w w14) := HB13.out.trans (hh14.mono HB13.out.size)
  have BC14 : Hid (Below w3.heap.size w3 w14) := BC13.out.trans (hh14.mono BC13.out.size)
  have Q_14 : Hid (TextsRow (w4.heap.size) w5.heap.size w14 (g0) (marks 1 (L0).length)) := Q_13.out.below hh14
  have Uc0_14 : Hid (TextsAt w14 (uc0) x0) := Uc0_13.out.below hh14
  have HZ14 : Hid (w13.heap.size ≤ w14.heap.size) := hh14.size
  clear Q_13 Uc0_13 hb14 hh14
  have HW_14 : Hid (TextsAt w14 (e0) L0) := hu14.at
  clear hu14
  go_wp2_with fail
  refine (eqStringS_same _ _ _ L0 HW_14.out (HU.out.below BC14.out)).mono ?_
  rintro e w15 ⟨rfl, hb15⟩
  have hh15 : Below w14.heap.size w14 w15 := hb15
  have HB15 : Hid (Below w.heap.size w w15) := HB14.out.trans (hh15.mono HB14.out.size)
  have BC15 : Hid (Below w3.heap.size w3 w15) := BC14.out.trans (hh15.mono BC14.out.size)
  have Q_15 : Hid (TextsRow (w4.heap.size) w5.heap.size w15 (g0) (marks 1 (L0).length)) := Q_14.out.below hh15
  have HW_15 : Hid (TextsAt w15 (e0) L0) := HW_14.out.below hh15
  have HZ15 : Hid (w14.heap.size ≤ w15.heap.size) := hh15.size
  clear Q_14 HW_14 hb15 hh15
  go_wp2_with fail
  refine (cK (heldStringS_x _ _ 1 L0 (Q_15.out).at HSM.out (by omega)) HKM.out).mono ?_
  rintro e w16 ⟨rfl, hb16⟩
  have hh16 : Below w15.heap.size w15 w16 := hb16
  have HB16 : Hid (Below w.heap.size w w16) := HB15.out.trans (hh16.mono HB15.out.size)
  have BC16 : Hid (Below w3.heap.size w3 w16) := BC15.out.trans (hh16.mono BC15.out.size)
  have Q_16 : Hid (TextsRow (w4.heap.size) w5.heap.size w16 (g0) (marks 1 (L0).length)) := Q_15.out.below hh16
  have HW_16 : Hid (TextsAt w16 (e0) L0) := HW_15.out.below hh16
  have HZ16 : Hid (w15.heap.size ≤ w16.heap.size) := hh16.size
  clear Q_15 HW_15 hb16 hh16
  go_wp2
  go_ret
  exact ⟨rfl, HB16.out⟩
end Go.Proofs.Ytnhbgfgbeehipaa
