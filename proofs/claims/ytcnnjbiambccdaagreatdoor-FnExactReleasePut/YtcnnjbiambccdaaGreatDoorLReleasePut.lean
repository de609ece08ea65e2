/-
  The law FnExactReleasePut.
-/
import Derived.Test.YtcnnjbiambccdaaGreatDoorGW144
import Derived.Test.YtcnnjbiambccdaaGreatDoorGW187
import Derived.Test.YtcnnjbiambccdaaGreatDoorGW186
import Derived.Deep.DeepCutAuto
import Derived.Deep.RegionHeld3
namespace Go.Proofs.YtcnnjbiambccdaaGreatDoor
open Go.RowKit
set_option linter.unusedVariables false
set_option maxRecDepth 100000 in
set_option maxHeartbeats 4000000 in
theorem fnExactReleasePut_walk (nn0 : Int) (vg0 vc0 : Value) (af0 : Bool) (vl0 : Value) (gs0 : List ByteArray) (es0 : List (ByteArray × ByteArray)) (xs0 : List Aff) (su0 se0 : ByteArray) (w : World) (h0 : ReleaseAt w (.agg #[.int .i64 nn0, vg0, vc0, .bool af0, vl0, .string su0, .string se0]) (nn0, (gs0, es0, af0, xs0), su0, se0)) :
    Calls Tryz.prog 3 #[.agg #[.int .i64 nn0, vg0, vc0, .bool af0, vl0, .string su0, .string se0]] w fun e w' => e = .returned (.bool true) ∧ Below w.heap.size w w' := by
  have HA0 : Hid (ReleaseAt w (.agg #[.int .i64 nn0, vg0, vc0, .bool af0, vl0, .string su0, .string se0]) (nn0, (gs0, es0, af0, xs0), su0, se0)) := h0
  clear h0
  obtain ⟨L0, hL0⟩ : ∃ L, rputT (nn0, (gs0, es0, af0, xs0), su0, se0) = L := ⟨_, rfl⟩
  have HSP : Hid (∀ (w : World) (u0 : Value), ReleaseAt w u0 (nn0, (gs0, es0, af0, xs0), su0, se0) → Calls Tryz.prog 5 #[u0] w fun e w' => e = .returned (.string L0) ∧ Below w.heap.size w w') := fun w u0 g0 => by
    rw [← hL0]
    exact specReleasePut_any w u0 (nn0, (gs0, es0, af0, xs0), su0, se0) g0
  have HIM : Hid (∀ (w : World) (u0 : Value), ReleaseAt w u0 (nn0, (gs0, es0, af0, xs0), su0, se0) → Calls Tryz.prog 7 #[u0] w fun e w' => e = .returned (.string L0) ∧ Below w.heap.size w w') := fun w u0 g0 => by
    rw [← hL0]
    exact implReleasePut_any w u0 (nn0, (gs0, es0, af0, xs0), su0, se0) g0
  clear hL0
  go_enter Tryz.func3, Tryz.ntmps3
  go_wp2_with fail
  have HX0 : Hid (Below w.heap.size w (w.alloc (.cells #[.int .i64 nn0, vg0, vc0, .bool af0, vl0, .string su0, .string se0] 28))) := ((Below.refl _ _).alloc (Nat.le_refl _) _)
  refine (szRelease_u _ _ (nn0, (gs0, es0, af0, xs0), su0, se0) _ (HA0.out.below HX0.out) (by omega) (by omega)).mono ?_
  rintro e w1 ⟨⟨r0, rfl, hr0, hq0⟩, hb1⟩
  have HR0 : Hid (0 ≤ r0 → ReleaseSm (nn0, (gs0, es0, af0, xs0), su0, se0)) := hq0
  clear hq0
  have hh1 : Below w.heap.size w w1 := Below.trans HX0.out (Below.mono hb1 (Below.size HX0.out))
  have HB1 : Hid (Below w.heap.size w w1) := hh1
  have c1_0_0 : w1.cell? ⟨(w.heap.size), 0, none⟩ = some (.int .i64 nn0) := (hb1.cell (p := ⟨(w.heap.size), 0, none⟩) (by simp <;> omega)).trans (by simp [go_sem])
  have c1_0_1 : w1.cell? ⟨(w.heap.size), 1, none⟩ = some (vg0) := (hb1.cell (p := ⟨(w.heap.size), 1, none⟩) (by simp <;> omega)).trans (by simp [go_sem])
  have c1_0_2 : w1.cell? ⟨(w.heap.size), 2, none⟩ = some (vc0) := (hb1.cell (p := ⟨(w.heap.size), 2, none⟩) (by simp <;> omega)).trans (by simp [go_sem])
  have c1_0_3 : w1.cell? ⟨(w.heap.size), 3, none⟩ = some (.bool af0) := (hb1.cell (p := ⟨(w.heap.size), 3, none⟩) (by simp <;> omega)).trans (by simp [go_sem])
  have c1_0_4 : w1.cell? ⟨(w.heap.size), 4, none⟩ = some (vl0) := (hb1.cell (p := ⟨(w.heap.size), 4, none⟩) (by simp <;> omega)).trans (by simp [go_sem])
  have c1_0_5 : w1.cell? ⟨(w.heap.size), 5, none⟩ = some (.string su0) := (hb1.cell (p := ⟨(w.heap.size), 5, none⟩) (by simp <;> omega)).trans (by simp [go_sem])
  have c1_0_6 : w1.cell? ⟨(w.heap.size), 6, none⟩ = some (.string se0) := (hb1.cell (p := ⟨(w.heap.size), 6, none⟩) (by simp <;> omega)).trans (by simp [go_sem])
  have hz1_0 : (w.heap.size) < w1.heap.size := by have := hb1.size; simp at this; omega
  have HZ1 : Hid (w.heap.size + 1 ≤ w1.heap.size) := by have := hb1.size; simp at this; show _ ≤ _; omega
  clear hb1 hh1
  by_cases hn0 : r0 < 0
  · go_wp2
    go_ret
    exact ⟨rfl, HB1.out⟩
  have HN0 : Hid (ReleaseSm (nn0, (gs0, es0, af0, xs0), su0, se0)) := HR0.out (by omega)
  go_wp2_with fail
  refine (toRelease_u _ _ (nn0, (gs0, es0, af0, xs0), su0, se0) (HA0.out.below HB1.out) HN0.out).mono ?_
  rintro e w2 ⟨ua0, rfl, hu2, hb2⟩
  have hh2 : Below w1.heap.size w1 w2 := hb2
  have HB2 : Hid (Below w.heap.size w w2) := HB1.out.trans (hh2.mono HB1.out.size)
  have c2_0_0 := (hh2.cell (p := ⟨(w.heap.size), 0, none⟩) hz1_0).trans c1_0_0
  have c2_0_1 := (hh2.cell (p := ⟨(w.heap.size), 1, none⟩) hz1_0).trans c1_0_1
  have c2_0_2 := (hh2.cell (p := ⟨(w.heap.size), 2, none⟩) hz1_0).trans c1_0_2
  have c2_0_3 := (hh2.cell (p := ⟨(w.heap.size), 3, none⟩) hz1_0).trans c1_0_3
  have c2_0_4 := (hh2.cell (p := ⟨(w.heap.size), 4, none⟩) hz1_0).trans c1_0_4
  have c2_0_5 := (hh2.cell (p := ⟨(w.heap.size), 5, none⟩) hz1_0).trans c1_0_5
  have c2_0_6 := (hh2.cell (p := ⟨(w.heap.size), 6, none⟩) hz1_0).trans c1_0_6
  have hz2_0 : (w.heap.size) < w2.heap.size := Nat.lt_of_lt_of_le hz1_0 hh2.size
  have HZ2 : Hid (w1.heap.size ≤ w2.heap.size) := hh2.size
  clear c1_0_0 c1_0_1 c1_0_2 c1_0_3 c1_0_4 c1_0_5 c1_0_6 hz1_0 hb2 hh2
  have Ua0_2 : Hid (ReleaseAt w2 (ua0) (nn0, (gs0, es0, af0, xs0), su0, se0)) := hu2.at
  clear hu2
  go_wp2_with fail
  refine (HSP.out _ _ Ua0_2.out).mono ?_
  rintro e w3 ⟨rfl, hb3⟩
  have hh3 : Below w2.heap.size w2 w3 := hb3
  have HB3 : Hid (Below w.heap.size w w3) := HB2.out.trans (hh3.mono HB2.out.size)
  have c3_0_0 := (hh3.cell (p := ⟨(w.heap.size), 0, none⟩) hz2_0).trans c2_0_0
  have c3_0_1 := (hh3.cell (p := ⟨(w.heap.size), 1, none⟩) hz2_0).trans c2_0_1
  have c3_0_2 := (hh3.cell (p := ⟨(w.heap.size), 2, none⟩) hz2_0).trans c2_0_2
  have c3_0_3 := (hh3.cell (p := ⟨(w.heap.size), 3, none⟩) hz2_0).trans c2_0_3
  have c3_0_4 := (hh3.cell (p := ⟨(w.heap.size), 4, none⟩) hz2_0).trans c2_0_4
  have c3_0_5 := (hh3.cell (p := ⟨(w.heap.size), 5, none⟩) hz2_0).trans c2_0_5
  have c3_0_6 := (hh3.cell (p := ⟨(w.heap.size), 6, none⟩) hz2_0).trans c2_0_6
  have hz3_0 : (w.heap.size) < w3.heap.size := Nat.lt_of_lt_of_le hz2_0 hh3.size
  have Ua0_3 : Hid (ReleaseAt w3 (ua0) (nn0, (gs0, es0, af0, xs0), su0, se0)) := Ua0_2.out.below hh3
  have HZ3 : Hid (w2.heap.size ≤ w3.heap.size) := hh3.size
  clear c2_0_0 c2_0_1 c2_0_2 c2_0_3 c2_0_4 c2_0_5 c2_0_6 hz2_0 Ua0_2 hb3 hh3
  go_wp2_with fail
  refine (toRelease_u _ _ (nn0, (gs0, es0, af0, xs0), su0, se0) (HA0.out.below HB3.out) HN0.out).mono ?_
  rintro e w4 ⟨y0, rfl, hu4, hb4⟩
  obtain ⟨y0b0, y0a1, y0n1, y0c1, y0a2, y0n2, y0c2, y0b3, y0a4, y0n4, y0c4, y0b5, y0b6, rfl⟩ := ReleaseAt.form2 hu4.at
  have hh4 : Below w3.heap.size w3 w4 := hb4
  have HB4 : Hid (Below w.heap.size w w4) := HB3.out.trans (hh4.mono HB3.out.size)
  have BC4 : Hid (Below w3.heap.size w3 w4) := hh4
  have c4_0_0 := (hh4.cell (p := ⟨(w.heap.size), 0, none⟩) hz3_0).trans c3_0_0
  have c4_0_1 := (hh4.cell (p := ⟨(w.heap.size), 1, none⟩) hz3_0).trans c3_0_1
  have c4_0_2 := (hh4.cell (p := ⟨(w.heap.size), 2, none⟩) hz3_0).trans c3_0_2
  have c4_0_3 := (hh4.cell (p := ⟨(w.heap.size), 3, none⟩) hz3_0).trans c3_0_3
  have c4_0_4 := (hh4.cell (p := ⟨(w.heap.size), 4, none⟩) hz3_0).trans c3_0_4
  have c4_0_5 := (hh4.cell (p := ⟨(w.heap.size), 5, none⟩) hz3_0).trans c3_0_5
  have c4_0_6 := (hh4.cell (p := ⟨(w.heap.size), 6, none⟩) hz3_0).trans c3_0_6
  have hz4_0 : (w.heap.size) < w4.heap.size := Nat.lt_of_lt_of_le hz3_0 hh4.size
  have HZ4 : Hid (w3.heap.size ≤ w4.heap.size) := hh4.size
  clear c3_0_0 c3_0_1 c3_0_2 c3_0_3 c3_0_4 c3_0_5 c3_0_6 hz3_0 hb4 hh4
  have X0_4 : Hid (ReleaseOwn (w3.heap.size) w4.heap.size w4 (.agg #[.int .i64 y0b0, .slice y0a1 y0n1 y0c1, .slice y0a2 y0n2 y0c2, .bool y0b3, .slice y0a4 y0n4 y0c4, .string y0b5, .string y0b6]) (nn0, (gs0, es0, af0, xs0), su0, se0)) := hu4
  clear hu4
  go_wp2_with fail
  have HX4 : Hid (Below w4.heap.size w4 (w4.alloc (.cells #[.int .i64 y0b0, .slice y0a1 y0n1 y0c1, .slice y0a2 y0n2 y0c2, .bool y0b3, .slice y0a4 y0n4 y0c4, .string y0b5, .string y0b6] 36))) := ((Below.refl _ _).alloc (Nat.le_refl _) _)
  refine (HIM.out _ _ ((X0_4.out.below HX4.out)).at).mono ?_
  rintro e w5 ⟨rfl, hb5⟩
  have hh5 : Below w4.heap.size w4 w5 := Below.trans HX4.out (Below.mono hb5 (Below.size HX4.out))
  have HB5 : Hid (Below w.heap.size w w5) := HB4.out.trans (hh5.mono HB4.out.size)
  have BC5 : Hid (Below w3.heap.size w3 w5) := BC4.out.trans (hh5.mono BC4.out.size)
  have c5_0_0 := (hh5.cell (p := ⟨(w.heap.size), 0, none⟩) hz4_0).trans c4_0_0
  have c5_0_1 := (hh5.cell (p := ⟨(w.heap.size), 1, none⟩) hz4_0).trans c4_0_1
  have c5_0_2 := (hh5.cell (p := ⟨(w.heap.size), 2, none⟩) hz4_0).trans c4_0_2
  have c5_0_3 := (hh5.cell (p := ⟨(w.heap.size), 3, none⟩) hz4_0).trans c4_0_3
  have c5_0_4 := (hh5.cell (p := ⟨(w.heap.size), 4, none⟩) hz4_0).trans c4_0_4
  have c5_0_5 := (hh5.cell (p := ⟨(w.heap.size), 5, none⟩) hz4_0).trans c4_0_5
  have c5_0_6 := (hh5.cell (p := ⟨(w.heap.size), 6, none⟩) hz4_0).trans c4_0_6
  have hz5_0 : (w.heap.size) < w5.heap.size := Nat.lt_of_lt_of_le hz4_0 hh5.size
  have X0_5 : Hid (ReleaseOwn (w3.heap.size) w4.heap.size w5 (.agg #[.int .i64 y0b0, .slice y0a1 y0n1 y0c1, .slice y0a2 y0n2 y0c2, .bool y0b3, .slice y0a4 y0n4 y0c4, .string y0b5, .string y0b6]) (nn0, (gs0, es0, af0, xs0), su0, se0)) := X0_4.out.below hh5
  have c5_1_0 : w5.cell? ⟨(w4.heap.size), 0, none⟩ = some (.int .i64 y0b0) := (hb5.cell (p := ⟨(w4.heap.size), 0, none⟩) (by simp <;> omega)).trans (by simp [go_sem])
  have c5_1_1 : w5.cell? ⟨(w4.heap.size), 1, none⟩ = some (.slice y0a1 y0n1 y0c1) := (hb5.cell (p := ⟨(w4.heap.size), 1, none⟩) (by simp <;> omega)).trans (by simp [go_sem])
  have c5_1_2 : w5.cell? ⟨(w4.heap.size), 2, none⟩ = some (.slice y0a2 y0n2 y0c2) := (hb5.cell (p := ⟨(w4.heap.size), 2, none⟩) (by simp <;> omega)).trans (by simp [go_sem])
  have c5_1_3 : w5.cell? ⟨(w4.heap.size), 3, none⟩ = some (.bool y0b3) := (hb5.cell (p := ⟨(w4.heap.size), 3, none⟩) (by simp <;> omega)).trans (by simp [go_sem])
  have c5_1_4 : w5.cell? ⟨(w4.heap.size), 4, none⟩ = some (.slice y0a4 y0n4 y0c4) := (hb5.cell (p := ⟨(w4.heap.size), 4, none⟩) (by simp <;> omega)).trans (by simp [go_sem])
  have c5_1_5 : w5.cell? ⟨(w4.heap.size), 5, none⟩ = some (.string y0b5) := (hb5.cell (p := ⟨(w4.heap.size), 5, none⟩) (by simp <;> omega)).trans (by simp [go_sem])
  have c5_1_6 : w5.cell? ⟨(w4.heap.size), 6, none⟩ = some (.string y0b6) := (hb5.cell (p := ⟨(w4.heap.size), 6, none⟩) (by simp <;> omega)).trans (by simp [go_sem])
  have hz5_1 : (w4.heap.size) < w5.heap.size := by have := hb5.size; simp at this; omega
  have HZ5 : Hid (w4.heap.size + 1 ≤ w5.heap.size) := by have := hb5.size; simp at this; show _ ≤ _; omega
  clear c4_0_0 c4_0_1 c4_0_2 c4_0_3 c4_0_4 c4_0_5 c4_0_6 hz4_0 X0_4 hb5 hh5
  go_wp2_with fail
  go_region_held3 (fun w' => w'.cell? ⟨(w.heap.size), 0, none⟩ = some (.int .i64 nn0) ∧ w'.cell? ⟨(w.heap.size), 1, none⟩ = some (vg0) ∧ w'.cell? ⟨(w.heap.size), 2, none⟩ = some (vc0) ∧ w'.cell? ⟨(w.heap.size), 3, none⟩ = some (.bool af0) ∧ w'.cell? ⟨(w.heap.size), 4, none⟩ = some (vl0) ∧ w'.cell? ⟨(w.heap.size), 5, none⟩ = some (.string su0) ∧ w'.cell? ⟨(w.heap.size), 6, none⟩ = some (.string se0) ∧ w'.cell? ⟨(w4.heap.size), 0, none⟩ = some (.int .i64 y0b0) ∧ w'.cell? ⟨(w4.heap.size), 1, none⟩ = some (.slice y0a1 y0n1 y0c1) ∧ w'.cell? ⟨(w4.heap.size), 2, none⟩ = some (.slice y0a2 y0n2 y0c2) ∧ w'.cell? ⟨(w4.heap.size), 3, none⟩ = some (.bool y0b3) ∧ w'.cell? ⟨(w4.heap.size), 4, none⟩ = some (.slice y0a4 y0n4 y0c4) ∧ w'.cell? ⟨(w4.heap.size), 5, none⟩ = some (.string y0b5) ∧ w'.cell? ⟨(w4.heap.size), 6, none⟩ = some (.string y0b6)) (go_keep)
    (first
      | (have qm := HB6; clear qm; go_at_call 8; refine (eqRelease_u _ _ _ (nn0, (gs0, es0, af0, xs0), su0, se0) (X0_6.out).at Ub0_6.out).mono ?_; rintro e w7 ⟨rfl, hb7⟩; have hh7 : Below w6.heap.size w6 w7 := hb7; have HB7 : Hid (Below w.heap.size w w7) := HB6.out.trans (hh7.mono HB6.out.size); have BC7 : Hid (Below w3.heap.size w3 w7) := BC6.out.trans (hh7.mono BC6.out.size); have c7_0_0 := (hh7.cell (p := ⟨(w.heap.size), 0, none⟩) hz6_0).trans c6_0_0; have c7_0_1 := (hh7.cell (p := ⟨(w.heap.size), 1, none⟩) hz6_0).trans c6_0_1; have c7_0_2 := (hh7.cell (p := ⟨(w.heap.size), 2, none⟩) hz6_0).trans c6_0_2; have c7_0_3 := (hh7.cell (p := ⟨(w.heap.size), 3, none⟩) hz6_0).trans c6_0_3; have c7_0_4 := (hh7.cell (p := ⟨(w.heap.size), 4, none⟩) hz6_0).trans c6_0_4; have c7_0_5 := (hh7.cell (p := ⟨(w.heap.size), 5, none⟩) hz6_0).trans c6_0_5; have c7_0_6 := (hh7.cell (p := ⟨(w.heap.size), 6, none⟩) hz6_0).trans c6_0_6; have hz7_0 : (w.heap.size) < w7.heap.size := Nat.lt_of_lt_of_le hz6_0 hh7.size; have c7_1_0 := (hh7.cell (p := ⟨(w4.heap.size), 0, none⟩) hz6_1).trans c6_1_0; have c7_1_1 := (hh7.cell (p := ⟨(w4.heap.size), 1, none⟩) hz6_1).trans c6_1_1; have c7_1_2 := (hh7.cell (p := ⟨(w4.heap.size), 2, none⟩) hz6_1).trans c6_1_2; have c7_1_3 := (hh7.cell (p := ⟨(w4.heap.size), 3, none⟩) hz6_1).trans c6_1_3; have c7_1_4 := (hh7.cell (p := ⟨(w4.heap.size), 4, none⟩) hz6_1).trans c6_1_4; have c7_1_5 := (hh7.cell (p := ⟨(w4.heap.size), 5, none⟩) hz6_1).trans c6_1_5; have c7_1_6 := (hh7.cell (p := ⟨(w4.heap.size), 6, none⟩) hz6_1).trans c6_1_6; have hz7_1 : (w4.heap.size) < w7.heap.size := Nat.lt_of_lt_of_le hz6_1 hh7.size; have X0_7 : Hid (ReleaseOwn (w3.heap.size) w4.heap.size w7 (.agg #[.int .i64 y0b0, .slice y0a1 y0n1 y0c1, .slice y0a2 y0n2 y0c2, .bool y0b3, .slice y0a4 y0n4 y0c4, .string y0b5, .string y0b6]) (nn0, (gs0, es0, af0, xs0), su0, se0)) := X0_6.out.below hh7; have Ub0_7 : Hid (ReleaseAt w7 (ub0) (nn0, (gs0, es0, af0, xs0), su0, se0)) := Ub0_6.out.below hh7; have HZ7 : Hid (w6.heap.size ≤ w7.heap.size) := hh7.size; clear c6_0_0 c6_0_1 c6_0_2 c6_0_3 c6_0_4 c6_0_5 c6_0_6 hz6_0 c6_1_0 c6_1_1 c6_1_2 c6_1_3 c6_1_4 c6_1_5 c6_1_6 hz6_1 X0_6 Ub0_6 hb7 hh7)
      | (go_at_call 6; refine (toRelease_u _ _ (nn0, (gs0, es0, af0, xs0), su0, se0) (HA0.out.below (HB5.out.trans (Below.mono (Below.drew (Below.refl w5.heap.size w5)) HB5.out.size))) HN0.out).mono ?_; rintro e w6 ⟨ub0, rfl, hu6, hb6⟩; have hh6 : Below w5.heap.size w5 w6 := Below.trans (Below.drew (Below.refl w5.heap.size w5)) (Below.mono hb6 (Below.size (Below.drew (Below.refl w5.heap.size w5)))); have HB6 : Hid (Below w.heap.size w w6) := HB5.out.trans (hh6.mono HB5.out.size); have BC6 : Hid (Below w3.heap.size w3 w6) := BC5.out.trans (hh6.mono BC5.out.size); have c6_0_0 := (hh6.cell (p := ⟨(w.heap.size), 0, none⟩) hz5_0).trans c5_0_0; have c6_0_1 := (hh6.cell (p := ⟨(w.heap.size), 1, none⟩) hz5_0).trans c5_0_1; have c6_0_2 := (hh6.cell (p := ⟨(w.heap.size), 2, none⟩) hz5_0).trans c5_0_2; have c6_0_3 := (hh6.cell (p := ⟨(w.heap.size), 3, none⟩) hz5_0).trans c5_0_3; have c6_0_4 := (hh6.cell (p := ⟨(w.heap.size), 4, none⟩) hz5_0).trans c5_0_4; have c6_0_5 := (hh6.cell (p := ⟨(w.heap.size), 5, none⟩) hz5_0).trans c5_0_5; have c6_0_6 := (hh6.cell (p := ⟨(w.heap.size), 6, none⟩) hz5_0).trans c5_0_6; have hz6_0 : (w.heap.size) < w6.heap.size := Nat.lt_of_lt_of_le hz5_0 hh6.size; have c6_1_0 := (hh6.cell (p := ⟨(w4.heap.size), 0, none⟩) hz5_1).trans c5_1_0; have c6_1_1 := (hh6.cell (p := ⟨(w4.heap.size), 1, none⟩) hz5_1).trans c5_1_1; have c6_1_2 := (hh6.cell (p := ⟨(w4.heap.size), 2, none⟩) hz5_1).trans c5_1_2; have c6_1_3 := (hh6.cell (p := ⟨(w4.heap.size), 3, none⟩) hz5_1).trans c5_1_3; have c6_1_4 := (hh6.cell (p := ⟨(w4.heap.size), 4, none⟩) hz5_1).trans c5_1_4; have c6_1_5 := (hh6.cell (p := ⟨(w4.heap.size), 5, none⟩) hz5_1).trans c5_1_5; have c6_1_6 := (hh6.cell (p := ⟨(w4.heap.size), 6, none⟩) hz5_1).trans c5_1_6; have hz6_1 : (w4.heap.size) < w6.heap.size := Nat.lt_of_lt_of_le hz5_1 hh6.size; have X0_6 : Hid (ReleaseOwn (w3.heap.size) w4.heap.size w6 (.agg #[.int .i64 y0b0, .slice y0a1 y0n1 y0c1, .slice y0a2 y0n2 y0c2, .bool y0b3, .slice y0a4 y0n4 y0c4, .string y0b5, .string y0b6]) (nn0, (gs0, es0, af0, xs0), su0, se0)) := X0_5.out.below hh6; have HZ6 : Hid (w5.heap.size ≤ w6.heap.size) := hh6.size; clear c5_0_0 c5_0_1 c5_0_2 c5_0_3 c5_0_4 c5_0_5 c5_0_6 hz5_0 c5_1_0 c5_1_1 c5_1_2 c5_1_3 c5_1_4 c5_1_5 c5_1_6 hz5_1 X0_5 hb6 hh6; have Ub0_6 : Hid (ReleaseAt w6 (ub0) (nn0, (gs0, es0, af0, xs0), su0, se0)) := hu6.at; clear hu6))
  go_wp2
  go_ret
  exact ⟨rfl, HB7.out⟩
end Go.Proofs.YtcnnjbiambccdaaGreatDoor
