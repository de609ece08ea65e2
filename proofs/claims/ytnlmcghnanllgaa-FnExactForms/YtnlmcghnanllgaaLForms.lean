/-
  The law FnExactForms.
-/
import Derived.Test.YtnlmcghnanllgaaW142
import Derived.Test.YtnlmcghnanllgaaW143
import Derived.Test.YtnlmcghnanllgaaW131
import Derived.Test.YtnlmcghnanllgaaW133
namespace Go.Proofs.Ytnlmcghnanllgaa
open Go.RowKit
set_option linter.unusedVariables false
set_option maxRecDepth 100000 in
set_option maxHeartbeats 4000000 in
theorem fnExactForms_walk (v0 : Value) (x0 : List Aff) (st1 fl1 : ByteArray) (w : World) (h0 : AffsAt w v0 x0) (h1 : st1.size ≤ maxLen) (h1x : fl1.size ≤ maxLen) :
    Calls Try.prog 3 #[v0, .agg #[.string st1, .string fl1]] w fun e w' => e = .returned (.bool true) ∧ Below w.heap.size w w' := by
  have HA0 : Hid (AffsAt w (v0) x0) := h0
  clear h0
  have HE1 : Hid (st1.size ≤ maxLen ∧ fl1.size ≤ maxLen) := ⟨h1, h1x⟩
  obtain ⟨L0, hL0⟩ : ∃ L, formsT x0 st1 fl1 = L := ⟨_, rfl⟩
  have HSM : Hid ((L0).length ≤ 1048576) := by rw [← hL0]; exact Nat.le_trans (formsT_small x0 st1 fl1).1 (by decide)
  have HSP : Hid (∀ (w : World) (u0 : Value), AffsAt w u0 x0 → Calls Try.prog 9 #[u0, .agg #[.string st1, .string fl1]] w fun e w' => ∃ v0', e = .returned (v0') ∧ TextsAt w' v0' L0 ∧ Below w.heap.size w w') := fun w u0 g0 => by
    rw [← hL0]
    exact specForms_any w u0 x0 st1 fl1 g0 HE1.out.1 HE1.out.2
  have HIM : Hid (∀ (w : World) (u0 : Value), AffsAt w u0 x0 → Calls Try.prog 12 #[u0, .agg #[.string st1, .string fl1]] w fun e w' => ∃ v0', e = .returned (v0') ∧ TextsRow w.heap.size w'.heap.size w' v0' L0 ∧ Below w.heap.size w w') := fun w u0 g0 => by
    rw [← hL0]
    exact (implForms_any w u0 x0 st1 fl1 g0 HE1.out.1 HE1.out.2).mono fun e w' ⟨v, h1, h2, h3⟩ => ⟨v, h1, TextsRow.of_own h2, h3⟩
  clear hL0
  go_enter Try.func3, Try.ntmps3
  go_wp2_with fail
  have HX0 : Hid (Below w.heap.size w (w.alloc (.cells #[.string st1, .string fl1] 24))) := ((Below.refl _ _).alloc (Nat.le_refl _) _)
  refine (szAffixS_any _ _ x0 _ (HA0.out.below HX0.out) (by omega) (by omega)).mono ?_
  rintro e w1 ⟨⟨r0, rfl, hr0, hq0⟩, hb1⟩
  have HR0 : Hid (0 ≤ r0 → (x0).length ≤ 1048576) := hq0
  clear hq0
  have hh1 : Below w.heap.size w w1 := Below.trans HX0.out (Below.mono hb1 (Below.size HX0.out))
  have HB1 : Hid (Below w.heap.size w w1) := hh1
  have c1_0_0 : w1.cell? ⟨(w.heap.size), 0, none⟩ = some (.string st1) := (hb1.cell (p := ⟨(w.heap.size), 0, none⟩) (by simp <;> omega)).trans (by simp [go_sem])
  have c1_0_1 : w1.cell? ⟨(w.heap.size), 1, none⟩ = some (.string fl1) := (hb1.cell (p := ⟨(w.heap.size), 1, none⟩) (by simp <;> omega)).trans (by simp [go_sem])
  have hz1_0 : (w.heap.size) < w1.heap.size := by have := hb1.size; simp at this; omega
  have HZ1 : Hid (w.heap.size + 1 ≤ w1.heap.size) := by have := hb1.size; simp at this; show _ ≤ _; omega
  clear hb1 hh1
  by_cases hn0 : r0 < 0
  · go_wp2
    go_ret
    exact ⟨rfl, HB1.out⟩
  have HN0 : Hid ((x0).length ≤ 1048576) := HR0.out (by omega)
  go_wp2_with fail
  refine (szEntry_any st1 fl1 _ _ HE1.out.1 HE1.out.2 (by omega) (by omega)).mono ?_
  rintro e w2 ⟨⟨r1, rfl, hr1⟩, hb2⟩
  have hh2 : Below w1.heap.size w1 w2 := hb2
  have HB2 : Hid (Below w.heap.size w w2) := HB1.out.trans (hh2.mono HB1.out.size)
  have c2_0_0 := (hh2.cell (p := ⟨(w.heap.size), 0, none⟩) hz1_0).trans c1_0_0
  have c2_0_1 := (hh2.cell (p := ⟨(w.heap.size), 1, none⟩) hz1_0).trans c1_0_1
  have hz2_0 : (w.heap.size) < w2.heap.size := Nat.lt_of_lt_of_le hz1_0 hh2.size
  have HZ2 : Hid (w1.heap.size ≤ w2.heap.size) := hh2.size
  clear c1_0_0 c1_0_1 hz1_0 hb2 hh2
  have HR1 : Hid (True) := trivial
  by_cases hn1 : r1 < 0
  · go_wp2
    go_ret
    exact ⟨rfl, HB2.out⟩
  go_wp2_with fail
  go_region_held3 (fun w' => w'.cell? ⟨(w.heap.size), 0, none⟩ = some (.string st1) ∧ w'.cell? ⟨(w.heap.size), 1, none⟩ = some (.string fl1)) (go_keep)
    (first
      | (have qm := HB4; clear qm; go_at_call 9; refine (HSP.out _ _ Ua0_4.out).mono ?_; rintro e w5 ⟨p0, rfl, hu5, hb5⟩; have hh5 : Below w4.heap.size w4 w5 := hb5; have HB5 : Hid (Below w.heap.size w w5) := HB4.out.trans (hh5.mono HB4.out.size); have c5_0_0 := (hh5.cell (p := ⟨(w.heap.size), 0, none⟩) hz4_0).trans c4_0_0; have c5_0_1 := (hh5.cell (p := ⟨(w.heap.size), 1, none⟩) hz4_0).trans c4_0_1; have hz5_0 : (w.heap.size) < w5.heap.size := Nat.lt_of_lt_of_le hz4_0 hh5.size; have Ua0_5 : Hid (AffsAt w5 (ua0) x0) := Ua0_4.out.below hh5; have HZ5 : Hid (w4.heap.size ≤ w5.heap.size) := hh5.size; clear c4_0_0 c4_0_1 hz4_0 Ua0_4 hb5 hh5; have HU : Hid (TextsAt w5 (p0) L0) := hu5; clear hu5)
      | (have qm := HB3; clear qm; go_at_call 11; refine (toEntry_any st1 fl1 _).mono ?_; rintro e w4 ⟨rfl, hb4⟩; have hh4 : Below w3.heap.size w3 w4 := hb4; have HB4 : Hid (Below w.heap.size w w4) := HB3.out.trans (hh4.mono HB3.out.size); have c4_0_0 := (hh4.cell (p := ⟨(w.heap.size), 0, none⟩) hz3_0).trans c3_0_0; have c4_0_1 := (hh4.cell (p := ⟨(w.heap.size), 1, none⟩) hz3_0).trans c3_0_1; have hz4_0 : (w.heap.size) < w4.heap.size := Nat.lt_of_lt_of_le hz3_0 hh4.size; have Ua0_4 : Hid (AffsAt w4 (ua0) x0) := Ua0_3.out.below hh4; have HZ4 : Hid (w3.heap.size ≤ w4.heap.size) := hh4.size; clear c3_0_0 c3_0_1 hz3_0 Ua0_3 hb4 hh4)
      | (go_at_call 10; refine (toAffixS_x _ _ x0 (HA0.out.below (HB2.out.trans (Below.mono (Below.drew (Below.refl w2.heap.size w2)) HB2.out.size))) HN0.out).mono ?_; rintro e w3 ⟨ua0, rfl, hu3, hb3⟩; have hh3 : Below w2.heap.size w2 w3 := Below.trans (Below.drew (Below.refl w2.heap.size w2)) (Below.mono hb3 (Below.size (Below.drew (Below.refl w2.heap.size w2)))); have HB3 : Hid (Below w.heap.size w w3) := HB2.out.trans (hh3.mono HB2.out.size); have c3_0_0 := (hh3.cell (p := ⟨(w.heap.size), 0, none⟩) hz2_0).trans c2_0_0; have c3_0_1 := (hh3.cell (p := ⟨(w.heap.size), 1, none⟩) hz2_0).trans c2_0_1; have hz3_0 : (w.heap.size) < w3.heap.size := Nat.lt_of_lt_of_le hz2_0 hh3.size; have HZ3 : Hid (w2.heap.size ≤ w3.heap.size) := hh3.size; clear c2_0_0 c2_0_1 hz2_0 hb3 hh3; have Ua0_3 : Hid (AffsAt w3 (ua0) x0) := hu3.at; clear hu3))
  go_wp2_with fail
  refine (toAffixS_x _ _ x0 (HA0.out.below HB5.out) HN0.out).mono ?_
  rintro e w6 ⟨y0, rfl, hu6, hb6⟩
  have hh6 : Below w5.heap.size w5 w6 := hb6
  have HB6 : Hid (Below w.heap.size w w6) := HB5.out.trans (hh6.mono HB5.out.size)
  have BC6 : Hid (Below w5.heap.size w5 w6) := hh6
  have c6_0_0 := (hh6.cell (p := ⟨(w.heap.size), 0, none⟩) hz5_0).trans c5_0_0
  have c6_0_1 := (hh6.cell (p := ⟨(w.heap.size), 1, none⟩) hz5_0).trans c5_0_1
  have hz6_0 : (w.heap.size) < w6.heap.size := Nat.lt_of_lt_of_le hz5_0 hh6.size
  have HZ6 : Hid (w5.heap.size ≤ w6.heap.size) := hh6.size
  clear c5_0_0 c5_0_1 hz5_0 hb6 hh6
  have X0_6 : Hid (AffsOwn (w5.heap.size) w6.heap.size w6 (y0) x0) := hu6
  clear hu6
  go_wp2_with fail
  refine (toEntry_any st1 fl1 _).mono ?_
  rintro e w7 ⟨rfl, hb7⟩
  have hh7 : Below w6.heap.size w6 w7 := hb7
  have HB7 : Hid (Below w.heap.size w w7) := HB6.out.trans (hh7.mono HB6.out.size)
  have BC7 : Hid (Below w5.heap.size w5 w7) := BC6.out.trans (hh7.mono BC6.out.size)
  have c7_0_0 := (hh7.cell (p := ⟨(w.heap.size), 0, none⟩) hz6_0).trans c6_0_0
  have c7_0_1 := (hh7.cell (p := ⟨(w.heap.size), 1, none⟩) hz6_0).trans c6_0_1
  have hz7_0 : (w.heap.size) < w7.heap.size := Nat.lt_of_lt_of_le hz6_0 hh7.size
  have X0_7 : Hid (AffsOwn (w5.heap.size) w6.heap.size w7 (y0) x0) := X0_6.out.below hh7
  have HZ7 : Hid (w6.heap.size ≤ w7.heap.size) := hh7.size
  clear c6_0_0 c6_0_1 hz6_0 X0_6 hb7 hh7
  go_wp2_with fail
  refine (HIM.out _ _ (X0_7.out).at).mono ?_
  rintro e w8 ⟨g0, rfl, hu8, hb8⟩
  have hh8 : Below w7.heap.size w7 w8 := hb8
  have HB8 : Hid (Below w.heap.size w w8) := HB7.out.trans (hh8.mono HB7.out.size)
  have BC8 : Hid (Below w5.heap.size w5 w8) := BC7.out.trans (hh8.mono BC7.out.size)
  have c8_0_0 := (hh8.cell (p := ⟨(w.heap.size), 0, none⟩) hz7_0).trans c7_0_0
  have c8_0_1 := (hh8.cell (p := ⟨(w.heap.size), 1, none⟩) hz7_0).trans c7_0_1
  have hz8_0 : (w.heap.size) < w8.heap.size := Nat.lt_of_lt_of_le hz7_0 hh8.size
  have X0_8 : Hid (AffsOwn (w5.heap.size) w6.heap.size w8 (y0) x0) := X0_7.out.below hh8
  have HZ8 : Hid (w7.heap.size ≤ w8.heap.size) := hh8.size
  clear c7_0_0 c7_0_1 hz7_0 X0_7 hb8 hh8
  have G_8 : Hid (TextsRow (w7.heap.size) w8.heap.size w8 (g0) L0) := hu8
  clear hu8
  go_wp2_with fail
  refine (eqStringS_same _ _ _ L0 (G_8.out).at (HU.out.below BC8.out)).mono ?_
  rintro e w9 ⟨rfl, hb9⟩
  have hh9 : Below w8.heap.size w8 w9 := hb9
  have HB9 : Hid (Below w.heap.size w w9) := HB8.out.trans (hh9.mono HB8.out.size)
  have BC9 : Hid (Below w5.heap.size w5 w9) := BC8.out.trans (hh9.mono BC8.out.size)
  have c9_0_0 := (hh9.cell (p := ⟨(w.heap.size), 0, none⟩) hz8_0).trans c8_0_0
  have c9_0_1 := (hh9.cell (p := ⟨(w.heap.size), 1, none⟩) hz8_0).trans c8_0_1
  have hz9_0 : (w.heap.size) < w9.heap.size := Nat.lt_of_lt_of_le hz8_0 hh9.size
  have X0_9 : Hid (AffsOwn (w5.heap.size) w6.heap.size w9 (y0) x0) := X0_8.out.below hh9
  have G_9 : Hid (TextsRow (w7.heap.size) w8.heap.size w9 (g0) L0) := G_8.out.below hh9
  have HZ9 : Hid (w8.heap.size ≤ w9.heap.size) := hh9.size
  clear c8_0_0 c8_0_1 hz8_0 X0_8 G_8 hb9 hh9
  go_wp2_with fail
  refine (toAffixS_x _ _ x0 (HA0.out.below HB9.out) HN0.out).mono ?_
  rintro e w10 ⟨ub0, rfl, hu10, hb10⟩
  have hh10 : Below w9.heap.size w9 w10 := hb10
  have HB10 : Hid (Below w.heap.size w w10) := HB9.out.trans (hh10.mono HB9.out.size)
  have BC10 : Hid (Below w5.heap.size w5 w10) := BC9.out.trans (hh10.mono BC9.out.size)
  have c10_0_0 := (hh10.cell (p := ⟨(w.heap.size), 0, none⟩) hz9_0).trans c9_0_0
  have c10_0_1 := (hh10.cell (p := ⟨(w.heap.size), 1, none⟩) hz9_0).trans c9_0_1
  have hz10_0 : (w.heap.size) < w10.heap.size := Nat.lt_of_lt_of_le hz9_0 hh10.size
  have X0_10 : Hid (AffsOwn (w5.heap.size) w6.heap.size w10 (y0) x0) := X0_9.out.below hh10
  have G_10 : Hid (TextsRow (w7.heap.size) w8.heap.size w10 (g0) L0) := G_9.out.below hh10
  have HZ10 : Hid (w9.heap.size ≤ w10.heap.size) := hh10.size
  clear c9_0_0 c9_0_1 hz9_0 X0_9 G_9 hb10 hh10
  have Ub0_10 : Hid (AffsAt w10 (ub0) x0) := hu10.at
  clear hu10
  go_wp2_with fail
  refine (eqAffixS_same _ _ _ x0 (X0_10.out).at Ub0_10.out).mono ?_
  rintro e w11 ⟨rfl, hb11⟩
  have hh11 : Below w10.heap.size w10 w11 := hb11
  have HB11 : Hid (Below w.heap.size w w11) := HB10.out.trans (hh11.mono HB10.out.size)
  have BC11 : Hid (Below w5.heap.size w5 w11) := BC10.out.trans (hh11.mono BC10.out.size)
  have c11_0_0 := (hh11.cell (p := ⟨(w.heap.size), 0, none⟩) hz10_0).trans c10_0_0
  have c11_0_1 := (hh11.cell (p := ⟨(w.heap.size), 1, none⟩) hz10_0).trans c10_0_1
  have hz11_0 : (w.heap.size) < w11.heap.size := Nat.lt_of_lt_of_le hz10_0 hh11.size
  have X0_11 : Hid (AffsOwn (w5.heap.size) w6.heap.size w11 (y0) x0) := X0_10.out.below hh11
  have G_11 : Hid (TextsRow (w7.heap.size) w8.heap.size w11 (g0) L0) := G_10.out.below hh11
  have Ub0_11 : Hid (AffsAt w11 (ub0) x0) := Ub0_10.out.below hh11
  have HZ11 : Hid (w10.heap.size ≤ w11.heap.size) := hh11.size
  clear c10_0_0 c10_0_1 hz10_0 X0_10 G_10 Ub0_10 hb11 hh11
  go_wp2_with fail
  have hk0 : (1 : Nat) ≤ 1 := Nat.le_refl _
  obtain ⟨k0, hk0⟩ : ∃ K : Nat, 1 + (x0).length * 5 = K := ⟨_, rfl⟩
  have sm0 := HN0.out
  have hc0 : (x0).length * 5 ≤ 40000000 := by omega
  clear sm0
  refine (cK (markAffixS_x (w5.heap.size) w6.heap.size 1 _ _ x0 X0_11.out HN0.out (by omega) (by have z1 := HZ1.out; have z2 := HZ2.out; have z3 := HZ3.out; have z4 := HZ4.out; have z5 := HZ5.out; have z6 := HZ6.out; have z7 := HZ7.out; have z8 := HZ8.out; have z9 := HZ9.out; have z10 := HZ10.out; have z11 := HZ11.out; omega) (by have z1 := HZ1.out; have z2 := HZ2.out; have z3 := HZ3.out; have z4 := HZ4.out; have z5 := HZ5.out; have z6 := HZ6.out; have z7 := HZ7.out; have z8 := HZ8.out; have z9 := HZ9.out; have z10 := HZ10.out; have z11 := HZ11.out; omega)) hk0).mono ?_
  rintro e w12 ⟨rfl, _, hw12⟩
  have HB12 : Hid (Below w.heap.size w w12) := HB11.out.trans (hw12.1.mono (show w.heap.size ≤ (w5.heap.size) from (by have z1 := HZ1.out; have z2 := HZ2.out; have z3 := HZ3.out; have z4 := HZ4.out; have z5 := HZ5.out; have z6 := HZ6.out; have z7 := HZ7.out; have z8 := HZ8.out; have z9 := HZ9.out; have z10 := HZ10.out; have z11 := HZ11.out; omega)))
  have BC12 : Hid (Below w5.heap.size w5 w12) := BC11.out.trans (hw12.1.mono (show w5.heap.size ≤ (w5.heap.size) from (by have z1 := HZ1.out; have z2 := HZ2.out; have z3 := HZ3.out; have z4 := HZ4.out; have z5 := HZ5.out; have z6 := HZ6.out; have z7 := HZ7.out; have z8 := HZ8.out; have z9 := HZ9.out; have z10 := HZ10.out; have z11 := HZ11.out; omega)))
  have c12_0_0 := (wr_cell hw12 (b := (w.heap.size)) 0 (by have z1 := HZ1.out; have z2 := HZ2.out; have z3 := HZ3.out; have z4 := HZ4.out; have z5 := HZ5.out; have z6 := HZ6.out; have z7 := HZ7.out; have z8 := HZ8.out; have z9 := HZ9.out; have z10 := HZ10.out; have z11 := HZ11.out; omega) hz11_0).trans c11_0_0
  have c12_0_1 := (wr_cell hw12 (b := (w.heap.size)) 1 (by have z1 := HZ1.out; have z2 := HZ2.out; have z3 := HZ3.out; have z4 := HZ4.out; have z5 := HZ5.out; have z6 := HZ6.out; have z7 := HZ7.out; have z8 := HZ8.out; have z9 := HZ9.out; have z10 := HZ10.out; have z11 := HZ11.out; omega) hz11_0).trans c11_0_1
  have hz12_0 : (w.heap.size) < w12.heap.size := Nat.lt_of_lt_of_le hz11_0 hw12.sz
  have G_12 : Hid (TextsRow (w7.heap.size) w8.heap.size w12 (g0) L0) := G_11.out.wr hw12 (by have z1 := HZ1.out; have z2 := HZ2.out; have z3 := HZ3.out; have z4 := HZ4.out; have z5 := HZ5.out; have z6 := HZ6.out; have z7 := HZ7.out; have z8 := HZ8.out; have z9 := HZ9.out; have z10 := HZ10.out; have z11 := HZ11.out; omega)
  have HZ12 : Hid (w11.heap.size ≤ w12.heap.size) := hw12.sz
  clear c11_0_0 c11_0_1 hz11_0 G_11 hw12
  have hkn0 : ¬ ((k0 : Int) < 0) := by omega
  have hkb0 : k0 ≤ 1000000000 := by omega
  clear hk0
  go_wp2_with fail
  refine (eqStringS_same _ _ _ L0 (G_12.out).at (HU.out.below BC12.out)).mono ?_
  rintro e w13 ⟨rfl, hb13⟩
  have hh13 : Below w12.heap.size w12 w13 := hb13
  have HB13 : Hid (Below w.heap.size w w13) := HB12.out.trans (hh13.mono HB12.out.size)
  have BC13 : Hid (Below w5.heap.size w5 w13) := BC12.out.trans (hh13.mono BC12.out.size)
  have c13_0_0 := (hh13.cell (p := ⟨(w.heap.size), 0, none⟩) hz12_0).trans c12_0_0
  have c13_0_1 := (hh13.cell (p := ⟨(w.heap.size), 1, none⟩) hz12_0).trans c12_0_1
  have hz13_0 : (w.heap.size) < w13.heap.size := Nat.lt_of_lt_of_le hz12_0 hh13.size
  have G_13 : Hid (TextsRow (w7.heap.size) w8.heap.size w13 (g0) L0) := G_12.out.below hh13
  have HZ13 : Hid (w12.heap.size ≤ w13.heap.size) := hh13.size
  clear c12_0_0 c12_0_1 hz12_0 G_12 hb13 hh13
  go_wp2_with fail
  obtain ⟨km, hkm⟩ : ∃ K : Nat, 1 + (L0).length = K := ⟨_, rfl⟩
  have smr := HSM.out
  have hcr : (L0).length ≤ 40000000 := by omega
  clear smr
  have HKM : Hid (_ = km) := hkm
  refine (cK (markStringS_x (w7.heap.size) w8.heap.size 1 _ _ L0 G_13.out HSM.out (by omega) (by have z1 := HZ1.out; have z2 := HZ2.out; have z3 := HZ3.out; have z4 := HZ4.out; have z5 := HZ5.out; have z6 := HZ6.out; have z7 := HZ7.out; have z8 := HZ8.out; have z9 := HZ9.out; have z10 := HZ10.out; have z11 := HZ11.out; have z12 := HZ12.out; have z13 := HZ13.out; omega) (by have z1 := HZ1.out; have z2 := HZ2.out; have z3 := HZ3.out; have z4 := HZ4.out; have z5 := HZ5.out; have z6 := HZ6.out; have z7 := HZ7.out; have z8 := HZ8.out; have z9 := HZ9.out; have z10 := HZ10.out; have z11 := HZ11.out; have z12 := HZ12.out; have z13 := HZ13.out; omega)) HKM.out).mono ?_
  rintro e w14 ⟨rfl, hu14, hw14⟩
  have HB14 : Hid (Below w.heap.size w w14) := HB13.out.trans (hw14.1.mono (show w.heap.size ≤ (w7.heap.size) from (by have z1 := HZ1.out; have z2 := HZ2.out; have z3 := HZ3.out; have z4 := HZ4.out; have z5 := HZ5.out; have z6 := HZ6.out; have z7 := HZ7.out; have z8 := HZ8.out; have z9 := HZ9.out; have z10 := HZ10.out; have z11 := HZ11.out; have z12 := HZ12.out; have z13 := HZ13.out; omega)))
  have BC14 : Hid (Below w5.heap.size w5 w14) := BC13.out.trans (hw14.1.mono (show w5.heap.size ≤ (w7.heap.size) from (by have z1 := HZ1.out; have z2 := HZ2.out; have z3 := HZ3.out; have z4 := HZ4.out; have z5 := HZ5.out; have z6 := HZ6.out; have z7 := HZ7.out; have z8 := HZ8.out; have z9 := HZ9.out; have z10 := HZ10.out; have z11 := HZ11.out; have z12 := HZ12.out; have z13 := HZ13.out; omega)))
  have c14_0_0 := (wr_cell hw14 (b := (w.heap.size)) 0 (by have z1 := HZ1.out; have z2 := HZ2.out; have z3 := HZ3.out; have z4 := HZ4.out; have z5 := HZ5.out; have z6 := HZ6.out; have z7 := HZ7.out; have z8 := HZ8.out; have z9 := HZ9.out; have z10 := HZ10.out; have z11 := HZ11.out; have z12 := HZ12.out; have z13 := HZ13.out; omega) hz13_0).trans c13_0_0
  have c14_0_1 := (wr_cell hw14 (b := (w.heap.size)) 1 (by have z1 := HZ1.out; have z2 := HZ2.out; have z3 := HZ3.out; have z4 := HZ4.out; have z5 := HZ5.out; have z6 := HZ6.out; have z7 := HZ7.out; have z8 := HZ8.out; have z9 := HZ9.out; have z10 := HZ10.out; have z11 := HZ11.out; have z12 := HZ12.out; have z13 := HZ13.out; omega) hz13_0).trans c13_0_1
  have hz14_0 : (w.heap.size) < w14.heap.size := Nat.lt_of_lt_of_le hz13_0 hw14.sz
  have HZ14 : Hid (w13.heap.size ≤ w14.heap.size) := hw14.sz
  clear c13_0_0 c13_0_1 hz13_0 hw14
  have Q_14 : Hid (TextsRow (w7.heap.size) w8.heap.size w14 (g0) (marks 1 (L0).length)) := hu14
  clear hu14
  have hkmn : ¬ ((km : Int) < 0) := by omega
  clear hkm
  go_wp2_with fail
  refine (cK (heldStringS_x _ _ 1 L0 (Q_14.out).at HSM.out (by omega)) HKM.out).mono ?_
  rintro e w15 ⟨rfl, hb15⟩
  have hh15 : Below w14.heap.size w14 w15 := hb15
  have HB15 : Hid (Below w.heap.size w w15) := HB14.out.trans (hh15.mono HB14.out.size)
  have BC15 : Hid (Below w5.heap.size w5 w15) := BC14.out.trans (hh15.mono BC14.out.size)
  have c15_0_0 := (hh15.cell (p := ⟨(w.heap.size), 0, none⟩) hz14_0).trans c14_0_0
  have c15_0_1 := (hh15.cell (p := ⟨(w.heap.size), 1, none⟩) hz14_0).trans c14_0_1
  have hz15_0 : (w.heap.size) < w15.heap.size := Nat.lt_of_lt_of_le hz14_0 hh15.size
  have Q_15 : Hid (TextsRow (w7.heap.size) w8.heap.size w15 (g0) (marks 1 (L0).length)) := Q_14.out.below hh15
  have HZ15 : Hid (w14.heap.size ≤ w15.heap.size) := hh15.size
  clear c14_0_0 c14_0_1 hz14_0 Q_14 hb15 hh15
  go_wp2_with fail
  go_region_held3 (fun w' => w'.cell? ⟨(w.heap.size), 0, none⟩ = some (.string st1) ∧ w'.cell? ⟨(w.heap.size), 1, none⟩ = some (.string fl1)) (go_keep)
    (first
      | (have qm := HB17; clear qm; go_at_call 12; refine (HIM.out _ _ Uc0_17.out).mono ?_; rintro e w18 ⟨e0, rfl, hu18, hb18⟩; have hh18 : Below w17.heap.size w17 w18 := hb18; have HB18 : Hid (Below w.heap.size w w18) := HB17.out.trans (hh18.mono HB17.out.size); have BC18 : Hid (Below w5.heap.size w5 w18) := BC17.out.trans (hh18.mono BC17.out.size); have c18_0_0 := (hh18.cell (p := ⟨(w.heap.size), 0, none⟩) hz17_0).trans c17_0_0; have c18_0_1 := (hh18.cell (p := ⟨(w.heap.size), 1, none⟩) hz17_0).trans c17_0_1; have hz18_0 : (w.heap.size) < w18.heap.size := Nat.lt_of_lt_of_le hz17_0 hh18.size; have Q_18 : Hid (TextsRow (w7.heap.size) w8.heap.size w18 (g0) (marks 1 (L0).length)) := Q_17.out.below hh18; have Uc0_18 : Hid (AffsAt w18 (uc0) x0) := Uc0_17.out.below hh18; have HZ18 : Hid (w17.heap.size ≤ w18.heap.size) := hh18.size; clear c17_0_0 c17_0_1 hz17_0 Q_17 Uc0_17 hb18 hh18; have HW_18 : Hid (TextsAt w18 (e0) L0) := hu18.at; clear hu18)
      | (have qm := HB16; clear qm; go_at_call 11; refine (toEntry_any st1 fl1 _).mono ?_; rintro e w17 ⟨rfl, hb17⟩; have hh17 : Below w16.heap.size w16 w17 := hb17; have HB17 : Hid (Below w.heap.size w w17) := HB16.out.trans (hh17.mono HB16.out.size); have BC17 : Hid (Below w5.heap.size w5 w17) := BC16.out.trans (hh17.mono BC16.out.size); have c17_0_0 := (hh17.cell (p := ⟨(w.heap.size), 0, none⟩) hz16_0).trans c16_0_0; have c17_0_1 := (hh17.cell (p := ⟨(w.heap.size), 1, none⟩) hz16_0).trans c16_0_1; have hz17_0 : (w.heap.size) < w17.heap.size := Nat.lt_of_lt_of_le hz16_0 hh17.size; have Q_17 : Hid (TextsRow (w7.heap.size) w8.heap.size w17 (g0) (marks 1 (L0).length)) := Q_16.out.below hh17; have Uc0_17 : Hid (AffsAt w17 (uc0) x0) := Uc0_16.out.below hh17; have HZ17 : Hid (w16.heap.size ≤ w17.heap.size) := hh17.size; clear c16_0_0 c16_0_1 hz16_0 Q_16 Uc0_16 hb17 hh17)
      | (go_at_call 10; refine (toAffixS_x _ _ x0 (HA0.out.below (HB15.out.trans (Below.mono (Below.drew (Below.refl w15.heap.size w15)) HB15.out.size))) HN0.out).mono ?_; rintro e w16 ⟨uc0, rfl, hu16, hb16⟩; have hh16 : Below w15.heap.size w15 w16 := Below.trans (Below.drew (Below.refl w15.heap.size w15)) (Below.mono hb16 (Below.size (Below.drew (Below.refl w15.heap.size w15)))); have HB16 : Hid (Below w.heap.size w w16) := HB15.out.trans (hh16.mono HB15.out.size); have BC16 : Hid (Below w5.heap.size w5 w16) := BC15.out.trans (hh16.mono BC15.out.size); have c16_0_0 := (hh16.cell (p := ⟨(w.heap.size), 0, none⟩) hz15_0).trans c15_0_0; have c16_0_1 := (hh16.cell (p := ⟨(w.heap.size), 1, none⟩) hz15_0).trans c15_0_1; have hz16_0 : (w.heap.size) < w16.heap.size := Nat.lt_of_lt_of_le hz15_0 hh16.size; have Q_16 : Hid (TextsRow (w7.heap.size) w8.heap.size w16 (g0) (marks 1 (L0).length)) := Q_15.out.below hh16; have HZ16 : Hid (w15.heap.size ≤ w16.heap.size) := hh16.size; clear c15_0_0 c15_0_1 hz15_0 Q_15 hb16 hh16; have Uc0_16 : Hid (AffsAt w16 (uc0) x0) := hu16.at; clear hu16))
  go_wp2_with fail
  refine (eqStringS_same _ _ _ L0 HW_18.out (HU.out.below BC18.out)).mono ?_
  rintro e w19 ⟨rfl, hb19⟩
  have hh19 : Below w18.heap.size w18 w19 := hb19
  have HB19 : Hid (Below w.heap.size w w19) := HB18.out.trans (hh19.mono HB18.out.size)
  have BC19 : Hid (Below w5.heap.size w5 w19) := BC18.out.trans (hh19.mono BC18.out.size)
  have c19_0_0 := (hh19.cell (p := ⟨(w.heap.size), 0, none⟩) hz18_0).trans c18_0_0
  have c19_0_1 := (hh19.cell (p := ⟨(w.heap.size), 1, none⟩) hz18_0).trans c18_0_1
  have hz19_0 : (w.heap.size) < w19.heap.size := Nat.lt_of_lt_of_le hz18_0 hh19.size
  have Q_19 : Hid (TextsRow (w7.heap.size) w8.heap.size w19 (g0) (marks 1 (L0).length)) := Q_18.out.below hh19
  have HW_19 : Hid (TextsAt w19 (e0) L0) := HW_18.out.below hh19
  have HZ19 : Hid (w18.heap.size ≤ w19.heap.size) := hh19.size
  clear c18_0_0 c18_0_1 hz18_0 Q_18 HW_18 hb19 hh19
  go_wp2_with fail
  refine (cK (heldStringS_x _ _ 1 L0 (Q_19.out).at HSM.out (by omega)) HKM.out).mono ?_
  rintro e w20 ⟨rfl, hb20⟩
  have hh20 : Below w19.heap.size w19 w20 := hb20
  have HB20 : Hid (Below w.heap.size w w20) := HB19.out.trans (hh20.mono HB19.out.size)
  have BC20 : Hid (Below w5.heap.size w5 w20) := BC19.out.trans (hh20.mono BC19.out.size)
  have c20_0_0 := (hh20.cell (p := ⟨(w.heap.size), 0, none⟩) hz19_0).trans c19_0_0
  have c20_0_1 := (hh20.cell (p := ⟨(w.heap.size), 1, none⟩) hz19_0).trans c19_0_1
  have hz20_0 : (w.heap.size) < w20.heap.size := Nat.lt_of_lt_of_le hz19_0 hh20.size
  have Q_20 : Hid (TextsRow (w7.heap.size) w8.heap.size w20 (g0) (marks 1 (L0).length)) := Q_19.out.below hh20
  have HW_20 : Hid (TextsAt w20 (e0) L0) := HW_19.out.below hh20
  have HZ20 : Hid (w19.heap.size ≤ w20.heap.size) := hh20.size
  clear c19_0_0 c19_0_1 hz19_0 Q_19 HW_19 hb20 hh20
  go_wp2
  go_ret
  exact ⟨rfl, HB20.out⟩
end Go.Proofs.Ytnlmcghnanllgaa
