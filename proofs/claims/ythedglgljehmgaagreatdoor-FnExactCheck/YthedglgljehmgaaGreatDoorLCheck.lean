/-
  The law FnExactCheck.
-/
import Derived.Test.YthedglgljehmgaaGreatDoorGW144
import Derived.Test.YthedglgljehmgaaGreatDoorGW515
import Derived.Deep.DeepCutAuto
import Derived.Deep.RegionHeld3
namespace Go.Proofs.YthedglgljehmgaaGreatDoor
open Go.RowKit
set_option linter.unusedVariables false
set_option maxRecDepth 100000 in
set_option maxHeartbeats 4000000 in
theorem fnExactCheck_walk (va0 ve0 : Value) (xs0 : List Aff) (es0 : List (ByteArray × ByteArray)) (s1 : ByteArray) (w : World) (h0 : AffsAt w va0 xs0) (h0x : EntsAt w ve0 es0) (h1 : s1.size ≤ maxLen) :
    Calls Tryz.prog 4 #[.agg #[va0, ve0], .string s1] w fun e w' => e = .returned (.bool true) ∧ Below w.heap.size w w' := by
  have HA0 : Hid (BookAt w (.agg #[va0, ve0]) (xs0, es0)) := ⟨va0, ve0, rfl, h0, h0x⟩
  clear h0 h0x
  by_cases hg1 : (s1.size : Int) > 1048576
  · unfold maxLen at h1
    go_enter Tryz.func4, Tryz.ntmps4
    go_wp2
    go_ret
    exact ⟨rfl, ((Below.refl _ _).alloc (Nat.le_refl _) _)⟩
  have hg1x : ¬ (1048576 : Int) < s1.size := by omega
  have hl1 : s1.size ≤ 1048576 := by omega
  obtain ⟨L0, hL0⟩ : ∃ L, chkR xs0 es0 s1 = L := ⟨_, rfl⟩
  have HSM : Hid ((L0).length ≤ 1048576) := by rw [← hL0]; exact chkR_small xs0 es0 s1
  have HSP : Hid (∀ (w : World) (u0 : Value), BookAt w u0 (xs0, es0) → Calls Tryz.prog 8 #[u0, .string s1] w fun e w' => ∃ v0', e = .returned (v0') ∧ GuessAt w' v0' L0 ∧ Below w.heap.size w w') := fun w u0 g0 => by
    rw [← hL0]
    exact by obtain ⟨va, ve, rfl, p1, p2⟩ := g0; exact specCheckAt_any w va ve xs0 es0 s1 p1 p2 h1
  have HIM : Hid (∀ (w : World) (u0 : Value), BookAt w u0 (xs0, es0) → Calls Tryz.prog 6 #[u0, .string s1] w fun e w' => ∃ v0', e = .returned (v0') ∧ GuessOwn w.heap.size w'.heap.size w' v0' L0 ∧ Below w.heap.size w w') := fun w u0 g0 => by
    rw [← hL0]
    exact by obtain ⟨va, ve, rfl, p1, p2⟩ := g0; exact implCheck_any w va ve xs0 es0 s1 p1 p2 h1
  clear hL0
  go_enter Tryz.func4, Tryz.ntmps4
  go_wp2_with fail
  have HX0 : Hid (Below w.heap.size w (w.alloc (.cells #[va0, ve0] 39))) := ((Below.refl _ _).alloc (Nat.le_refl _) _)
  refine (szBook_u _ _ (xs0, es0) _ (HA0.out.below HX0.out) (by omega) (by omega)).mono ?_
  rintro e w1 ⟨⟨r0, rfl, hr0, hq0⟩, hb1⟩
  have HR0 : Hid (0 ≤ r0 → BookSm (xs0, es0)) := hq0
  clear hq0
  have hh1 : Below w.heap.size w w1 := Below.trans HX0.out (Below.mono hb1 (Below.size HX0.out))
  have HB1 : Hid (Below w.heap.size w w1) := hh1
  have c1_0_0 : w1.cell? ⟨(w.heap.size), 0, none⟩ = some (va0) := (hb1.cell (p := ⟨(w.heap.size), 0, none⟩) (by simp <;> omega)).trans (by simp [go_sem])
  have c1_0_1 : w1.cell? ⟨(w.heap.size), 1, none⟩ = some (ve0) := (hb1.cell (p := ⟨(w.heap.size), 1, none⟩) (by simp <;> omega)).trans (by simp [go_sem])
  have hz1_0 : (w.heap.size) < w1.heap.size := by have := hb1.size; simp at this; omega
  have HZ1 : Hid (w.heap.size + 1 ≤ w1.heap.size) := by have := hb1.size; simp at this; show _ ≤ _; omega
  clear hb1 hh1
  by_cases hn0 : r0 < 0
  · go_wp2
    go_ret
    exact ⟨rfl, HB1.out⟩
  have HN0 : Hid (BookSm (xs0, es0)) := HR0.out (by omega)
  go_wp2_with fail
  refine (toBook_u _ _ (xs0, es0) (HA0.out.below HB1.out) HN0.out).mono ?_
  rintro e w2 ⟨ua0, rfl, hu2, hb2⟩
  have hh2 : Below w1.heap.size w1 w2 := hb2
  have HB2 : Hid (Below w.heap.size w w2) := HB1.out.trans (hh2.mono HB1.out.size)
  have c2_0_0 := cl hh2 hz1_0 c1_0_0
  have c2_0_1 := cl hh2 hz1_0 c1_0_1
  have hz2_0 : (w.heap.size) < w2.heap.size := Nat.lt_of_lt_of_le hz1_0 hh2.size
  have HZ2 : Hid (w1.heap.size ≤ w2.heap.size) := hh2.size
  clear c1_0_0 c1_0_1 hz1_0 hb2 hh2
  have Ua0_2 : Hid (BookAt w2 (ua0) (xs0, es0)) := hu2.at
  clear hu2
  go_wp2_with fail
  refine (HSP.out _ _ Ua0_2.out).mono ?_
  rintro e w3 ⟨p0, rfl, hu3, hb3⟩
  have hh3 : Below w2.heap.size w2 w3 := hb3
  have HB3 : Hid (Below w.heap.size w w3) := HB2.out.trans (hh3.mono HB2.out.size)
  have c3_0_0 := cl hh3 hz2_0 c2_0_0
  have c3_0_1 := cl hh3 hz2_0 c2_0_1
  have hz3_0 : (w.heap.size) < w3.heap.size := Nat.lt_of_lt_of_le hz2_0 hh3.size
  have Ua0_3 : Hid (BookAt w3 (ua0) (xs0, es0)) := Ua0_2.out.below hh3
  have HZ3 : Hid (w2.heap.size ≤ w3.heap.size) := hh3.size
  clear c2_0_0 c2_0_1 hz2_0 Ua0_2 hb3 hh3
  have HU : Hid (GuessAt w3 (p0) L0) := hu3
  clear hu3
  go_wp2_with fail
  refine (toBook_u _ _ (xs0, es0) (HA0.out.below HB3.out) HN0.out).mono ?_
  rintro e w4 ⟨y0, rfl, hu4, hb4⟩
  obtain ⟨y0a0, y0n0, y0c0, y0a1, y0n1, y0c1, rfl⟩ := BookAt.form2 hu4.at
  have hh4 : Below w3.heap.size w3 w4 := hb4
  have HB4 : Hid (Below w.heap.size w w4) := HB3.out.trans (hh4.mono HB3.out.size)
  have BC4 : Hid (Below w3.heap.size w3 w4) := hh4
  have c4_0_0 := cl hh4 hz3_0 c3_0_0
  have c4_0_1 := cl hh4 hz3_0 c3_0_1
  have hz4_0 : (w.heap.size) < w4.heap.size := Nat.lt_of_lt_of_le hz3_0 hh4.size
  have HZ4 : Hid (w3.heap.size ≤ w4.heap.size) := hh4.size
  clear c3_0_0 c3_0_1 hz3_0 hb4 hh4
  have X0_4 : Hid (BookOwn (w3.heap.size) w4.heap.size w4 (.agg #[.slice y0a0 y0n0 y0c0, .slice y0a1 y0n1 y0c1]) (xs0, es0)) := hu4
  clear hu4
  go_wp2_with fail
  have HX4 : Hid (Below w4.heap.size w4 (w4.alloc (.cells #[.slice y0a0 y0n0 y0c0, .slice y0a1 y0n1 y0c1] 26))) := ((Below.refl _ _).alloc (Nat.le_refl _) _)
  refine (HIM.out _ _ ((X0_4.out.below HX4.out)).at).mono ?_
  rintro e w5 ⟨g0, rfl, hu5, hb5⟩
  simp only [World.size_alloc] at hu5
  have hh5 : Below w4.heap.size w4 w5 := Below.trans HX4.out (Below.mono hb5 (Below.size HX4.out))
  have HB5 : Hid (Below w.heap.size w w5) := HB4.out.trans (hh5.mono HB4.out.size)
  have BC5 : Hid (Below w3.heap.size w3 w5) := BC4.out.trans (hh5.mono BC4.out.size)
  have c5_0_0 := cl hh5 hz4_0 c4_0_0
  have c5_0_1 := cl hh5 hz4_0 c4_0_1
  have hz5_0 : (w.heap.size) < w5.heap.size := Nat.lt_of_lt_of_le hz4_0 hh5.size
  have X0_5 : Hid (BookOwn (w3.heap.size) w4.heap.size w5 (.agg #[.slice y0a0 y0n0 y0c0, .slice y0a1 y0n1 y0c1]) (xs0, es0)) := X0_4.out.below hh5
  have c5_1_0 : w5.cell? ⟨(w4.heap.size), 0, none⟩ = some (.slice y0a0 y0n0 y0c0) := (hb5.cell (p := ⟨(w4.heap.size), 0, none⟩) (by simp <;> omega)).trans (by simp [go_sem])
  have c5_1_1 : w5.cell? ⟨(w4.heap.size), 1, none⟩ = some (.slice y0a1 y0n1 y0c1) := (hb5.cell (p := ⟨(w4.heap.size), 1, none⟩) (by simp <;> omega)).trans (by simp [go_sem])
  have hz5_1 : (w4.heap.size) < w5.heap.size := by have := hb5.size; simp at this; omega
  have HZ5 : Hid (w4.heap.size + 1 ≤ w5.heap.size) := by have := hb5.size; simp at this; show _ ≤ _; omega
  clear c4_0_0 c4_0_1 hz4_0 X0_4 hb5 hh5
  have G_5 : Hid (GuessOwn (w4.heap.size + 1) w5.heap.size w5 (g0) L0) := hu5
  clear hu5
  go_wp2_with fail
  refine (eqGuessS_same _ _ _ L0 (G_5.out).at (HU.out.below BC5.out)).mono ?_
  rintro e w6 ⟨rfl, hb6⟩
  have hh6 : Below w5.heap.size w5 w6 := hb6
  have HB6 : Hid (Below w.heap.size w w6) := HB5.out.trans (hh6.mono HB5.out.size)
  have BC6 : Hid (Below w3.heap.size w3 w6) := BC5.out.trans (hh6.mono BC5.out.size)
  have c6_0_0 := cl hh6 hz5_0 c5_0_0
  have c6_0_1 := cl hh6 hz5_0 c5_0_1
  have hz6_0 : (w.heap.size) < w6.heap.size := Nat.lt_of_lt_of_le hz5_0 hh6.size
  have c6_1_0 := cl hh6 hz5_1 c5_1_0
  have c6_1_1 := cl hh6 hz5_1 c5_1_1
  have hz6_1 : (w4.heap.size) < w6.heap.size := Nat.lt_of_lt_of_le hz5_1 hh6.size
  have X0_6 : Hid (BookOwn (w3.heap.size) w4.heap.size w6 (.agg #[.slice y0a0 y0n0 y0c0, .slice y0a1 y0n1 y0c1]) (xs0, es0)) := X0_5.out.below hh6
  have G_6 : Hid (GuessOwn (w4.heap.size + 1) w5.heap.size w6 (g0) L0) := G_5.out.below hh6
  have HZ6 : Hid (w5.heap.size ≤ w6.heap.size) := hh6.size
  clear c5_0_0 c5_0_1 hz5_0 c5_1_0 c5_1_1 hz5_1 X0_5 G_5 hb6 hh6
  go_wp2_with fail
  go_region_held3 (fun w' => w'.cell? ⟨(w.heap.size), 0, none⟩ = some (va0) ∧ w'.cell? ⟨(w.heap.size), 1, none⟩ = some (ve0) ∧ w'.cell? ⟨(w4.heap.size), 0, none⟩ = some (.slice y0a0 y0n0 y0c0) ∧ w'.cell? ⟨(w4.heap.size), 1, none⟩ = some (.slice y0a1 y0n1 y0c1)) (go_keep)
    (first
      | (have qm := HB7; clear qm; go_at_call 13; refine (eqBook_u _ _ _ (xs0, es0) (X0_7.out).at Ub0_7.out).mono ?_; rintro e w8 ⟨rfl, hb8⟩; have hh8 : Below w7.heap.size w7 w8 := hb8; have HB8 : Hid (Below w.heap.size w w8) := HB7.out.trans (hh8.mono HB7.out.size); have BC8 : Hid (Below w3.heap.size w3 w8) := BC7.out.trans (hh8.mono BC7.out.size); have c8_0_0 := cl hh8 hz7_0 c7_0_0; have c8_0_1 := cl hh8 hz7_0 c7_0_1; have hz8_0 : (w.heap.size) < w8.heap.size := Nat.lt_of_lt_of_le hz7_0 hh8.size; have c8_1_0 := cl hh8 hz7_1 c7_1_0; have c8_1_1 := cl hh8 hz7_1 c7_1_1; have hz8_1 : (w4.heap.size) < w8.heap.size := Nat.lt_of_lt_of_le hz7_1 hh8.size; have X0_8 : Hid (BookOwn (w3.heap.size) w4.heap.size w8 (.agg #[.slice y0a0 y0n0 y0c0, .slice y0a1 y0n1 y0c1]) (xs0, es0)) := X0_7.out.below hh8; have G_8 : Hid (GuessOwn (w4.heap.size + 1) w5.heap.size w8 (g0) L0) := G_7.out.below hh8; have Ub0_8 : Hid (BookAt w8 (ub0) (xs0, es0)) := Ub0_7.out.below hh8; have HZ8 : Hid (w7.heap.size ≤ w8.heap.size) := hh8.size; clear c7_0_0 c7_0_1 hz7_0 c7_1_0 c7_1_1 hz7_1 X0_7 G_7 Ub0_7 hb8 hh8)
      | (go_at_call 11; refine (toBook_u _ _ (xs0, es0) (HA0.out.below (HB6.out.trans (Below.mono (Below.drew (Below.refl w6.heap.size w6)) HB6.out.size))) HN0.out).mono ?_; rintro e w7 ⟨ub0, rfl, hu7, hb7⟩; have hh7 : Below w6.heap.size w6 w7 := Below.trans (Below.drew (Below.refl w6.heap.size w6)) (Below.mono hb7 (Below.size (Below.drew (Below.refl w6.heap.size w6)))); have HB7 : Hid (Below w.heap.size w w7) := HB6.out.trans (hh7.mono HB6.out.size); have BC7 : Hid (Below w3.heap.size w3 w7) := BC6.out.trans (hh7.mono BC6.out.size); have c7_0_0 := cl hh7 hz6_0 c6_0_0; have c7_0_1 := cl hh7 hz6_0 c6_0_1; have hz7_0 : (w.heap.size) < w7.heap.size := Nat.lt_of_lt_of_le hz6_0 hh7.size; have c7_1_0 := cl hh7 hz6_1 c6_1_0; have c7_1_1 := cl hh7 hz6_1 c6_1_1; have hz7_1 : (w4.heap.size) < w7.heap.size := Nat.lt_of_lt_of_le hz6_1 hh7.size; have X0_7 : Hid (BookOwn (w3.heap.size) w4.heap.size w7 (.agg #[.slice y0a0 y0n0 y0c0, .slice y0a1 y0n1 y0c1]) (xs0, es0)) := X0_6.out.below hh7; have G_7 : Hid (GuessOwn (w4.heap.size + 1) w5.heap.size w7 (g0) L0) := G_6.out.below hh7; have HZ7 : Hid (w6.heap.size ≤ w7.heap.size) := hh7.size; clear c6_0_0 c6_0_1 hz6_0 c6_1_0 c6_1_1 hz6_1 X0_6 G_6 hb7 hh7; have Ub0_7 : Hid (BookAt w7 (ub0) (xs0, es0)) := hu7.at; clear hu7))
  go_wp2_with fail
  have hk0 : (1 : Nat) ≤ 1 := Nat.le_refl _
  obtain ⟨k0, hk0⟩ : ∃ K : Nat, 1 + bookCnt (xs0, es0) = K := ⟨_, rfl⟩
  have sm0 := HN0.out
  have hc0 : bookCnt (xs0, es0) ≤ 40000000 := by unfold BookSm at sm0; unfold bookCnt; omega
  clear sm0
  refine (cK (markBook_u (w3.heap.size) w4.heap.size 1 _ _ (xs0, es0) X0_8.out HN0.out (by omega) (by have z1 := HZ1.out; have z2 := HZ2.out; have z3 := HZ3.out; have z4 := HZ4.out; have z5 := HZ5.out; have z6 := HZ6.out; have z7 := HZ7.out; have z8 := HZ8.out; omega) (by have z1 := HZ1.out; have z2 := HZ2.out; have z3 := HZ3.out; have z4 := HZ4.out; have z5 := HZ5.out; have z6 := HZ6.out; have z7 := HZ7.out; have z8 := HZ8.out; omega)) hk0).mono ?_
  rintro e w9 ⟨rfl, _, hw9⟩
  have z1 := HZ1.out
  have z2 := HZ2.out
  have z3 := HZ3.out
  have z4 := HZ4.out
  have z5 := HZ5.out
  have z6 := HZ6.out
  have z7 := HZ7.out
  have z8 := HZ8.out
  have HB9 : Hid (Below w.heap.size w w9) := HB8.out.trans (hw9.1.mono (show w.heap.size ≤ (w3.heap.size) from (by have z1 := HZ1.out; have z2 := HZ2.out; have z3 := HZ3.out; have z4 := HZ4.out; have z5 := HZ5.out; have z6 := HZ6.out; have z7 := HZ7.out; have z8 := HZ8.out; omega)))
  have BC9 : Hid (Below w3.heap.size w3 w9) := BC8.out.trans (hw9.1.mono (show w3.heap.size ≤ (w3.heap.size) from (by have z1 := HZ1.out; have z2 := HZ2.out; have z3 := HZ3.out; have z4 := HZ4.out; have z5 := HZ5.out; have z6 := HZ6.out; have z7 := HZ7.out; have z8 := HZ8.out; omega)))
  have c9_0_0 := clw hw9 (by omega) hz8_0 c8_0_0
  have c9_0_1 := clw hw9 (by omega) hz8_0 c8_0_1
  have hz9_0 : (w.heap.size) < w9.heap.size := Nat.lt_of_lt_of_le hz8_0 hw9.sz
  have c9_1_0 := clw hw9 (by omega) hz8_1 c8_1_0
  have c9_1_1 := clw hw9 (by omega) hz8_1 c8_1_1
  have hz9_1 : (w4.heap.size) < w9.heap.size := Nat.lt_of_lt_of_le hz8_1 hw9.sz
  have G_9 : Hid (GuessOwn (w4.heap.size + 1) w5.heap.size w9 (g0) L0) := G_8.out.wr hw9 (by have z1 := HZ1.out; have z2 := HZ2.out; have z3 := HZ3.out; have z4 := HZ4.out; have z5 := HZ5.out; have z6 := HZ6.out; have z7 := HZ7.out; have z8 := HZ8.out; omega)
  have HZ9 : Hid (w8.heap.size ≤ w9.heap.size) := hw9.sz
  clear c8_0_0 c8_0_1 hz8_0 c8_1_0 c8_1_1 hz8_1 G_8 z1 z2 z3 z4 z5 z6 z7 z8 hw9
  have hkn0 : ¬ ((k0 : Int) < 0) := by omega
  have hkb0 : k0 ≤ 40000001 := by omega
  clear hk0
  go_wp2_with fail
  refine (eqGuessS_same _ _ _ L0 (G_9.out).at (HU.out.below BC9.out)).mono ?_
  rintro e w10 ⟨rfl, hb10⟩
  have hh10 : Below w9.heap.size w9 w10 := hb10
  have HB10 : Hid (Below w.heap.size w w10) := HB9.out.trans (hh10.mono HB9.out.size)
  have BC10 : Hid (Below w3.heap.size w3 w10) := BC9.out.trans (hh10.mono BC9.out.size)
  have c10_0_0 := cl hh10 hz9_0 c9_0_0
  have c10_0_1 := cl hh10 hz9_0 c9_0_1
  have hz10_0 : (w.heap.size) < w10.heap.size := Nat.lt_of_lt_of_le hz9_0 hh10.size
  have c10_1_0 := cl hh10 hz9_1 c9_1_0
  have c10_1_1 := cl hh10 hz9_1 c9_1_1
  have hz10_1 : (w4.heap.size) < w10.heap.size := Nat.lt_of_lt_of_le hz9_1 hh10.size
  have G_10 : Hid (GuessOwn (w4.heap.size + 1) w5.heap.size w10 (g0) L0) := G_9.out.below hh10
  have HZ10 : Hid (w9.heap.size ≤ w10.heap.size) := hh10.size
  clear c9_0_0 c9_0_1 hz9_0 c9_1_0 c9_1_1 hz9_1 G_9 hb10 hh10
  go_wp2_with fail
  obtain ⟨km, hkm⟩ : ∃ K : Nat, 1 + (L0).length * 2 = K := ⟨_, rfl⟩
  have smr := HSM.out
  have hcr : (L0).length * 2 ≤ 40000000 := by omega
  clear smr
  have HKM : Hid (_ = km) := hkm
  refine (cK (markGuessS_x (w4.heap.size + 1) w5.heap.size 1 _ _ L0 G_10.out HSM.out (by omega) (by have z1 := HZ1.out; have z2 := HZ2.out; have z3 := HZ3.out; have z4 := HZ4.out; have z5 := HZ5.out; have z6 := HZ6.out; have z7 := HZ7.out; have z8 := HZ8.out; have z9 := HZ9.out; have z10 := HZ10.out; omega) (by have z1 := HZ1.out; have z2 := HZ2.out; have z3 := HZ3.out; have z4 := HZ4.out; have z5 := HZ5.out; have z6 := HZ6.out; have z7 := HZ7.out; have z8 := HZ8.out; have z9 := HZ9.out; have z10 := HZ10.out; omega)) HKM.out).mono ?_
  rintro e w11 ⟨rfl, hu11, hw11⟩
  have z1 := HZ1.out
  have z2 := HZ2.out
  have z3 := HZ3.out
  have z4 := HZ4.out
  have z5 := HZ5.out
  have z6 := HZ6.out
  have z7 := HZ7.out
  have z8 := HZ8.out
  have z9 := HZ9.out
  have z10 := HZ10.out
  have HB11 : Hid (Below w.heap.size w w11) := HB10.out.trans (hw11.1.mono (show w.heap.size ≤ (w4.heap.size + 1) from (by have z1 := HZ1.out; have z2 := HZ2.out; have z3 := HZ3.out; have z4 := HZ4.out; have z5 := HZ5.out; have z6 := HZ6.out; have z7 := HZ7.out; have z8 := HZ8.out; have z9 := HZ9.out; have z10 := HZ10.out; omega)))
  have BC11 : Hid (Below w3.heap.size w3 w11) := BC10.out.trans (hw11.1.mono (show w3.heap.size ≤ (w4.heap.size + 1) from (by have z1 := HZ1.out; have z2 := HZ2.out; have z3 := HZ3.out; have z4 := HZ4.out; have z5 := HZ5.out; have z6 := HZ6.out; have z7 := HZ7.out; have z8 := HZ8.out; have z9 := HZ9.out; have z10 := HZ10.out; omega)))
  have c11_0_0 := clw hw11 (by omega) hz10_0 c10_0_0
  have c11_0_1 := clw hw11 (by omega) hz10_0 c10_0_1
  have hz11_0 : (w.heap.size) < w11.heap.size := Nat.lt_of_lt_of_le hz10_0 hw11.sz
  have c11_1_0 := clw hw11 (by omega) hz10_1 c10_1_0
  have c11_1_1 := clw hw11 (by omega) hz10_1 c10_1_1
  have hz11_1 : (w4.heap.size) < w11.heap.size := Nat.lt_of_lt_of_le hz10_1 hw11.sz
  have HZ11 : Hid (w10.heap.size ≤ w11.heap.size) := hw11.sz
  clear c10_0_0 c10_0_1 hz10_0 c10_1_0 c10_1_1 hz10_1 z1 z2 z3 z4 z5 z6 z7 z8 z9 z10 hw11
  have Q_11 : Hid (GuessOwn (w4.heap.size + 1) w5.heap.size w11 (g0) (marksG 1 (L0).length)) := hu11
  clear hu11
  have hkmn : ¬ ((km : Int) < 0) := by omega
  clear hkm
  go_wp2_with fail
  refine (cK (heldGuessS_x _ _ 1 L0 (Q_11.out).at HSM.out (by omega)) HKM.out).mono ?_
  rintro e w12 ⟨rfl, hb12⟩
  have hh12 : Below w11.heap.size w11 w12 := hb12
  have HB12 : Hid (Below w.heap.size w w12) := HB11.out.trans (hh12.mono HB11.out.size)
  have BC12 : Hid (Below w3.heap.size w3 w12) := BC11.out.trans (hh12.mono BC11.out.size)
  have c12_0_0 := cl hh12 hz11_0 c11_0_0
  have c12_0_1 := cl hh12 hz11_0 c11_0_1
  have hz12_0 : (w.heap.size) < w12.heap.size := Nat.lt_of_lt_of_le hz11_0 hh12.size
  have c12_1_0 := cl hh12 hz11_1 c11_1_0
  have c12_1_1 := cl hh12 hz11_1 c11_1_1
  have hz12_1 : (w4.heap.size) < w12.heap.size := Nat.lt_of_lt_of_le hz11_1 hh12.size
  have Q_12 : Hid (GuessOwn (w4.heap.size + 1) w5.heap.size w12 (g0) (marksG 1 (L0).length)) := Q_11.out.below hh12
  have HZ12 : Hid (w11.heap.size ≤ w12.heap.size) := hh12.size
  clear c11_0_0 c11_0_1 hz11_0 c11_1_0 c11_1_1 hz11_1 Q_11 hb12 hh12
  go_wp2_with fail
  refine (toBook_u _ _ (xs0, es0) (HA0.out.below HB12.out) HN0.out).mono ?_
  rintro e w13 ⟨uc0, rfl, hu13, hb13⟩
  have hh13 : Below w12.heap.size w12 w13 := hb13
  have HB13 : Hid (Below w.heap.size w w13) := HB12.out.trans (hh13.mono HB12.out.size)
  have BC13 : Hid (Below w3.heap.size w3 w13) := BC12.out.trans (hh13.mono BC12.out.size)
  have c13_0_0 := cl hh13 hz12_0 c12_0_0
  have c13_0_1 := cl hh13 hz12_0 c12_0_1
  have hz13_0 : (w.heap.size) < w13.heap.size := Nat.lt_of_lt_of_le hz12_0 hh13.size
  have c13_1_0 := cl hh13 hz12_1 c12_1_0
  have c13_1_1 := cl hh13 hz12_1 c12_1_1
  have hz13_1 : (w4.heap.size) < w13.heap.size := Nat.lt_of_lt_of_le hz12_1 hh13.size
  have Q_13 : Hid (GuessOwn (w4.heap.size + 1) w5.heap.size w13 (g0) (marksG 1 (L0).length)) := Q_12.out.below hh13
  have HZ13 : Hid (w12.heap.size ≤ w13.heap.size) := hh13.size
  clear c12_0_0 c12_0_1 hz12_0 c12_1_0 c12_1_1 hz12_1 Q_12 hb13 hh13
  have Uc0_13 : Hid (BookAt w13 (uc0) (xs0, es0)) := hu13.at
  clear hu13
  go_wp2_with fail
  refine (HIM.out _ _ Uc0_13.out).mono ?_
  rintro e w14 ⟨e0, rfl, hu14, hb14⟩
  have hh14 : Below w13.heap.size w13 w14 := hb14
  have HB14 : Hid (Below w.heap.size w w14) := HB13.out.trans (hh14.mono HB13.out.size)
  have BC14 : Hid (Below w3.heap.size w3 w14) := BC13.out.trans (hh14.mono BC13.out.size)
  have c14_0_0 := cl hh14 hz13_0 c13_0_0
  have c14_0_1 := cl hh14 hz13_0 c13_0_1
  have hz14_0 : (w.heap.size) < w14.heap.size := Nat.lt_of_lt_of_le hz13_0 hh14.size
  have c14_1_0 := cl hh14 hz13_1 c13_1_0
  have c14_1_1 := cl hh14 hz13_1 c13_1_1
  have hz14_1 : (w4.heap.size) < w14.heap.size := Nat.lt_of_lt_of_le hz13_1 hh14.size
  have Q_14 : Hid (GuessOwn (w4.heap.size + 1) w5.heap.size w14 (g0) (marksG 1 (L0).length)) := Q_13.out.below hh14
  have Uc0_14 : Hid (BookAt w14 (uc0) (xs0, es0)) := Uc0_13.out.below hh14
  have HZ14 : Hid (w13.heap.size ≤ w14.heap.size) := hh14.size
  clear c13_0_0 c13_0_1 hz13_0 c13_1_0 c13_1_1 hz13_1 Q_13 Uc0_13 hb14 hh14
  have HW_14 : Hid (GuessAt w14 (e0) L0) := hu14.at
  clear hu14
  go_wp2_with fail
  refine (eqGuessS_same _ _ _ L0 HW_14.out (HU.out.below BC14.out)).mono ?_
  rintro e w15 ⟨rfl, hb15⟩
  have hh15 : Below w14.heap.size w14 w15 := hb15
  have HB15 : Hid (Below w.heap.size w w15) := HB14.out.trans (hh15.mono HB14.out.size)
  have BC15 : Hid (Below w3.heap.size w3 w15) := BC14.out.trans (hh15.mono BC14.out.size)
  have c15_0_0 := cl hh15 hz14_0 c14_0_0
  have c15_0_1 := cl hh15 hz14_0 c14_0_1
  have hz15_0 : (w.heap.size) < w15.heap.size := Nat.lt_of_lt_of_le hz14_0 hh15.size
  have c15_1_0 := cl hh15 hz14_1 c14_1_0
  have c15_1_1 := cl hh15 hz14_1 c14_1_1
  have hz15_1 : (w4.heap.size) < w15.heap.size := Nat.lt_of_lt_of_le hz14_1 hh15.size
  have Q_15 : Hid (GuessOwn (w4.heap.size + 1) w5.heap.size w15 (g0) (marksG 1 (L0).length)) := Q_14.out.below hh15
  have HW_15 : Hid (GuessAt w15 (e0) L0) := HW_14.out.below hh15
  have HZ15 : Hid (w14.heap.size ≤ w15.heap.size) := hh15.size
  clear c14_0_0 c14_0_1 hz14_0 c14_1_0 c14_1_1 hz14_1 Q_14 HW_14 hb15 hh15
  go_wp2_with fail
  refine (cK (heldGuessS_x _ _ 1 L0 (Q_15.out).at HSM.out (by omega)) HKM.out).mono ?_
  rintro e w16 ⟨rfl, hb16⟩
  have hh16 : Below w15.heap.size w15 w16 := hb16
  have HB16 : Hid (Below w.heap.size w w16) := HB15.out.trans (hh16.mono HB15.out.size)
  have BC16 : Hid (Below w3.heap.size w3 w16) := BC15.out.trans (hh16.mono BC15.out.size)
  have c16_0_0 := cl hh16 hz15_0 c15_0_0
  have c16_0_1 := cl hh16 hz15_0 c15_0_1
  have hz16_0 : (w.heap.size) < w16.heap.size := Nat.lt_of_lt_of_le hz15_0 hh16.size
  have c16_1_0 := cl hh16 hz15_1 c15_1_0
  have c16_1_1 := cl hh16 hz15_1 c15_1_1
  have hz16_1 : (w4.heap.size) < w16.heap.size := Nat.lt_of_lt_of_le hz15_1 hh16.size
  have Q_16 : Hid (GuessOwn (w4.heap.size + 1) w5.heap.size w16 (g0) (marksG 1 (L0).length)) := Q_15.out.below hh16
  have HW_16 : Hid (GuessAt w16 (e0) L0) := HW_15.out.below hh16
  have HZ16 : Hid (w15.heap.size ≤ w16.heap.size) := hh16.size
  clear c15_0_0 c15_0_1 hz15_0 c15_1_0 c15_1_1 hz15_1 Q_15 HW_15 hb16 hh16
  go_wp2
  go_ret
  exact ⟨rfl, HB16.out⟩
end Go.Proofs.YthedglgljehmgaaGreatDoor
