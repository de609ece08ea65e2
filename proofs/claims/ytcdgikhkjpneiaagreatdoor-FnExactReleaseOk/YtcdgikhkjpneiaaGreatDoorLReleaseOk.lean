/-
  The law FnExactReleaseOk.
-/
import Derived.Test.YtcdgikhkjpneiaaGreatDoorGW144
import Derived.Test.YtcdgikhkjpneiaaGreatDoorGW187
import Derived.Test.YtcdgikhkjpneiaaGreatDoorW471
import Derived.Deep.DeepCutAuto
import Derived.Deep.RegionHeld3
namespace Go.Proofs.YtcdgikhkjpneiaaGreatDoor
open Go.RowKit
set_option linter.unusedVariables false
set_option maxRecDepth 100000 in
set_option maxHeartbeats 4000000 in
theorem fnExactReleaseOk_walk (s0 : ByteArray) (nn1 : Int) (vg1 vc1 : Value) (af1 : Bool) (vl1 : Value) (gs1 : List ByteArray) (es1 : List (ByteArray × ByteArray)) (xs1 : List Aff) (su1 se1 : ByteArray) (w : World) (h0 : s0.size ≤ maxLen) (h1 : ReleaseAt w (.agg #[.int .i64 nn1, vg1, vc1, .bool af1, vl1, .string su1, .string se1]) (nn1, (gs1, es1, af1, xs1), su1, se1)) (ht0 : roundTab w) (ht1 : firstTab w) :
    Calls Tryz.prog 4 #[.string s0, .agg #[.int .i64 nn1, vg1, vc1, .bool af1, vl1, .string su1, .string se1]] w fun e w' => e = .returned (.bool true) ∧ Below w.heap.size w w' := by
  have HA1 : Hid (ReleaseAt w (.agg #[.int .i64 nn1, vg1, vc1, .bool af1, vl1, .string su1, .string se1]) (nn1, (gs1, es1, af1, xs1), su1, se1)) := h1
  clear h1
  by_cases hg0 : (s0.size : Int) > 1048576
  · unfold maxLen at h0
    go_enter Tryz.func4, Tryz.ntmps4
    go_wp2
    go_ret
    exact ⟨rfl, ((Below.refl _ _).alloc (Nat.le_refl _) _)⟩
  have hg0x : ¬ (1048576 : Int) < s0.size := by omega
  have hl0 : s0.size ≤ 1048576 := by omega
  have HLK : Hid (s0.size ≤ maxLen) := by show _ ≤ _; unfold maxLen; omega
  have TB0_0 : Hid (roundTab w) := ht0
  clear ht0
  have TB1_0 : Hid (firstTab w) := ht1
  clear ht1
  obtain ⟨L0, hL0⟩ : ∃ L, rokT s0 (nn1, (gs1, es1, af1, xs1), su1, se1) = L := ⟨_, rfl⟩
  have HSP : Hid (∀ (w : World) (u1 : Value), ReleaseAt w u1 (nn1, (gs1, es1, af1, xs1), su1, se1) → Calls Tryz.prog 15 #[.string s0, u1] w fun e w' => e = .returned (.bool L0) ∧ Below w.heap.size w w') := fun w u1 g1 => by
    rw [← hL0]
    exact specReleaseOk_any w s0 u1 (nn1, (gs1, es1, af1, xs1), su1, se1) g1 HLK.out
  have HIM : Hid (∀ (w : World) (u1 : Value), ReleaseAt w u1 (nn1, (gs1, es1, af1, xs1), su1, se1) → roundTab w → firstTab w → Calls Tryz.prog 17 #[.string s0, u1] w fun e w' => e = .returned (.bool L0) ∧ Below w.heap.size w w') := fun w u1 g1 t0 t1 => by
    rw [← hL0]
    exact implReleaseOk_any w s0 u1 (nn1, (gs1, es1, af1, xs1), su1, se1) g1 HLK.out t0 t1
  clear hL0
  go_enter Tryz.func4, Tryz.ntmps4
  go_wp2_with fail
  have HX0 : Hid (Below w.heap.size w (w.alloc (.cells #[.int .i64 nn1, vg1, vc1, .bool af1, vl1, .string su1, .string se1] 47))) := ((Below.refl _ _).alloc (Nat.le_refl _) _)
  refine (szRelease_u _ _ (nn1, (gs1, es1, af1, xs1), su1, se1) _ (HA1.out.below HX0.out) (by omega) (by omega)).mono ?_
  rintro e w1 ⟨⟨r1, rfl, hr1, hq1⟩, hb1⟩
  have HR1 : Hid (0 ≤ r1 → ReleaseSm (nn1, (gs1, es1, af1, xs1), su1, se1)) := hq1
  clear hq1
  have hh1 : Below w.heap.size w w1 := Below.trans HX0.out (Below.mono hb1 (Below.size HX0.out))
  have HB1 : Hid (Below w.heap.size w w1) := hh1
  have TB0_1 : Hid (roundTab w1) := TB0_0.out.below hh1
  have TB1_1 : Hid (firstTab w1) := TB1_0.out.below hh1
  have c1_0_0 : w1.cell? ⟨(w.heap.size), 0, none⟩ = some (.int .i64 nn1) := (hb1.cell (p := ⟨(w.heap.size), 0, none⟩) (by simp <;> omega)).trans (by simp [go_sem])
  have c1_0_1 : w1.cell? ⟨(w.heap.size), 1, none⟩ = some (vg1) := (hb1.cell (p := ⟨(w.heap.size), 1, none⟩) (by simp <;> omega)).trans (by simp [go_sem])
  have c1_0_2 : w1.cell? ⟨(w.heap.size), 2, none⟩ = some (vc1) := (hb1.cell (p := ⟨(w.heap.size), 2, none⟩) (by simp <;> omega)).trans (by simp [go_sem])
  have c1_0_3 : w1.cell? ⟨(w.heap.size), 3, none⟩ = some (.bool af1) := (hb1.cell (p := ⟨(w.heap.size), 3, none⟩) (by simp <;> omega)).trans (by simp [go_sem])
  have c1_0_4 : w1.cell? ⟨(w.heap.size), 4, none⟩ = some (vl1) := (hb1.cell (p := ⟨(w.heap.size), 4, none⟩) (by simp <;> omega)).trans (by simp [go_sem])
  have c1_0_5 : w1.cell? ⟨(w.heap.size), 5, none⟩ = some (.string su1) := (hb1.cell (p := ⟨(w.heap.size), 5, none⟩) (by simp <;> omega)).trans (by simp [go_sem])
  have c1_0_6 : w1.cell? ⟨(w.heap.size), 6, none⟩ = some (.string se1) := (hb1.cell (p := ⟨(w.heap.size), 6, none⟩) (by simp <;> omega)).trans (by simp [go_sem])
  have hz1_0 : (w.heap.size) < w1.heap.size := by have := hb1.size; simp at this; omega
  have HZ1 : Hid (w.heap.size + 1 ≤ w1.heap.size) := by have := hb1.size; simp at this; show _ ≤ _; omega
  clear TB0_0 TB1_0 hb1 hh1
  by_cases hn1 : r1 < 0
  · go_wp2
    go_ret
    exact ⟨rfl, HB1.out⟩
  have HN1 : Hid (ReleaseSm (nn1, (gs1, es1, af1, xs1), su1, se1)) := HR1.out (by omega)
  go_wp2_with fail
  refine (toRelease_u _ _ (nn1, (gs1, es1, af1, xs1), su1, se1) (HA1.out.below HB1.out) HN1.out).mono ?_
  rintro e w2 ⟨ua1, rfl, hu2, hb2⟩
  have hh2 : Below w1.heap.size w1 w2 := hb2
  have HB2 : Hid (Below w.heap.size w w2) := HB1.out.trans (hh2.mono HB1.out.size)
  have c2_0_0 := (hh2.cell (p := ⟨(w.heap.size), 0, none⟩) hz1_0).trans c1_0_0
  have c2_0_1 := (hh2.cell (p := ⟨(w.heap.size), 1, none⟩) hz1_0).trans c1_0_1
  have c2_0_2 := (hh2.cell (p := ⟨(w.heap.size), 2, none⟩) hz1_0).trans c1_0_2
  have c2_0_3 := (hh2.cell (p := ⟨(w.heap.size), 3, none⟩) hz1_0).trans c1_0_3
  have c2_0_4 := (hh2.cell (p := ⟨(w.heap.size), 4, none⟩) hz1_0).trans c1_0_4
  have c2_0_5 := (hh2.cell (p := ⟨(w.heap.size), 5, none⟩) hz1_0).trans c1_0_5
  have c2_0_6 := (hh2.cell (p := ⟨(w.heap.size), 6, none⟩) hz1_0).trans c1_0_6
  have hz2_0 : (w.heap.size) < w2.heap.size := Nat.lt_of_lt_of_le hz1_0 hh2.size
  have TB0_2 : Hid (roundTab w2) := TB0_1.out.below hh2
  have TB1_2 : Hid (firstTab w2) := TB1_1.out.below hh2
  have HZ2 : Hid (w1.heap.size ≤ w2.heap.size) := hh2.size
  clear c1_0_0 c1_0_1 c1_0_2 c1_0_3 c1_0_4 c1_0_5 c1_0_6 hz1_0 TB0_1 TB1_1 hb2 hh2
  have Ua1_2 : Hid (ReleaseAt w2 (ua1) (nn1, (gs1, es1, af1, xs1), su1, se1)) := hu2.at
  clear hu2
  go_wp2_with fail
  refine (HSP.out _ _ Ua1_2.out).mono ?_
  rintro e w3 ⟨rfl, hb3⟩
  have hh3 : Below w2.heap.size w2 w3 := hb3
  have HB3 : Hid (Below w.heap.size w w3) := HB2.out.trans (hh3.mono HB2.out.size)
  have c3_0_0 := (hh3.cell (p := ⟨(w.heap.size), 0, none⟩) hz2_0).trans c2_0_0
  have c3_0_1 := (hh3.cell (p := ⟨(w.heap.size), 1, none⟩) hz2_0).trans c2_0_1
  have c3_0_2 := (hh3.cell (p := ⟨(w.heap.size), 2, none⟩) hz2_0).trans c2_0_2
  have c3_0_3 := (hh3.cell (p := ⟨(w.heap.size), 3, none⟩) hz2_0).trans c2_0_3
  have c3_0_4 := (hh3.cell (p := ⟨(w.heap.size), 4, none⟩) hz2_0).trans c2_0_4
  have c3_0_5 := (hh3.cell (p := ⟨(w.heap.size), 5, none⟩) hz2_0).trans c2_0_5
  have c3_0_6 := (hh3.cell (p := ⟨(w.heap.size), 6, none⟩) hz2_0).trans c2_0_6
  have hz3_0 : (w.heap.size) < w3.heap.size := Nat.lt_of_lt_of_le hz2_0 hh3.size
  have TB0_3 : Hid (roundTab w3) := TB0_2.out.below hh3
  have TB1_3 : Hid (firstTab w3) := TB1_2.out.below hh3
  have Ua1_3 : Hid (ReleaseAt w3 (ua1) (nn1, (gs1, es1, af1, xs1), su1, se1)) := Ua1_2.out.below hh3
  have HZ3 : Hid (w2.heap.size ≤ w3.heap.size) := hh3.size
  clear c2_0_0 c2_0_1 c2_0_2 c2_0_3 c2_0_4 c2_0_5 c2_0_6 hz2_0 TB0_2 TB1_2 Ua1_2 hb3 hh3
  go_wp2_with fail
  refine (toRelease_u _ _ (nn1, (gs1, es1, af1, xs1), su1, se1) (HA1.out.below HB3.out) HN1.out).mono ?_
  rintro e w4 ⟨y1, rfl, hu4, hb4⟩
  obtain ⟨y1b0, y1a1, y1n1, y1c1, y1a2, y1n2, y1c2, y1b3, y1a4, y1n4, y1c4, y1b5, y1b6, rfl⟩ := ReleaseAt.form2 hu4.at
  have hh4 : Below w3.heap.size w3 w4 := hb4
  have HB4 : Hid (Below w.heap.size w w4) := HB3.out.trans (hh4.mono HB3.out.size)
  have BC4 : Hid (Below w3.heap.size w3 w4) := hh4
  have c4_0_0 := (hh4.cell (p := ⟨(w.heap.size), 0, none⟩) hz3_0).trans c3_0_0
  have c4_0_1 := (hh4.cell (p := ⟨(w.heap.size), 1, none⟩) hz3_0).trans c3_0_1
  have c4_0_2 := (hh4.cell (p := ⟨(w.heap.size), 2, none⟩) hz3_0).trans c3_0_2
  have c4_0_3 := (hh4.cell (p := ⟨(w.heap.size), 3, none⟩) hz3_0).trans c3_0_3
  have c4_0_4 := (hh4.cell (p := ⟨(w.heap.size), 4, none⟩) hz3_0).trans c3_0_4
  have c4_0_5 := (hh4.cell (p := ⟨(w.heap.size), 5, none⟩) hz3_0).trans c3_0_5
  have c4_0_6 := (hh4.cell (p := ⟨(w.heap.size), 6, none⟩) hz3_0).trans c3_0_6
  have hz4_0 : (w.heap.size) < w4.heap.size := Nat.lt_of_lt_of_le hz3_0 hh4.size
  have TB0_4 : Hid (roundTab w4) := TB0_3.out.below hh4
  have TB1_4 : Hid (firstTab w4) := TB1_3.out.below hh4
  have HZ4 : Hid (w3.heap.size ≤ w4.heap.size) := hh4.size
  clear c3_0_0 c3_0_1 c3_0_2 c3_0_3 c3_0_4 c3_0_5 c3_0_6 hz3_0 TB0_3 TB1_3 hb4 hh4
  have X1_4 : Hid (ReleaseOwn (w3.heap.size) w4.heap.size w4 (.agg #[.int .i64 y1b0, .slice y1a1 y1n1 y1c1, .slice y1a2 y1n2 y1c2, .bool y1b3, .slice y1a4 y1n4 y1c4, .string y1b5, .string y1b6]) (nn1, (gs1, es1, af1, xs1), su1, se1)) := hu4
  clear hu4
  go_wp2_with fail
  have HX4 : Hid (Below w4.heap.size w4 (w4.alloc (.cells #[.int .i64 y1b0, .slice y1a1 y1n1 y1c1, .slice y1a2 y1n2 y1c2, .bool y1b3, .slice y1a4 y1n4 y1c4, .string y1b5, .string y1b6] 33))) := ((Below.refl _ _).alloc (Nat.le_refl _) _)
  refine (HIM.out _ _ ((X1_4.out.below HX4.out)).at (TB0_4.out.below HX4.out) (TB1_4.out.below HX4.out)).mono ?_
  rintro e w5 ⟨rfl, hb5⟩
  have hh5 : Below w4.heap.size w4 w5 := Below.trans HX4.out (Below.mono hb5 (Below.size HX4.out))
  have HB5 : Hid (Below w.heap.size w w5) := HB4.out.trans (hh5.mono HB4.out.size)
  have BC5 : Hid (Below w3.heap.size w3 w5) := BC4.out.trans (hh5.mono BC4.out.size)
  have c5_0_0 := (hh5.cell (p := ⟨(w.heap.size), 0, none⟩) hz4_0).trans c4_0_0
  have c5_0_1 := (hh5.cell (p := ⟨(w.heap.size), 1, none⟩) hz4_0).trans c4_0_1
  have c5_0_2 := (hh5.cell (p := ⟨(w.heap.size), 2, none⟩) hz4_0).trans c4_0_2
  have c5_0_3 := (hh5.cell (p := ⟨(w.heap.size), 3, none⟩) hz4_0).trans c4_0_3
  have c5_0_4 := (hh5.cell (p := ⟨(w.heap.size), 4, none⟩) hz4_0).trans c4_0_4
  have c5_0_5 := (hh5.cell (p := ⟨(w.heap.size), 5, none⟩) hz4_0).trans c4_0_5
  have c5_0_6 := (hh5.cell (p := ⟨(w.heap.size), 6, none⟩) hz4_0).trans c4_0_6
  have hz5_0 : (w.heap.size) < w5.heap.size := Nat.lt_of_lt_of_le hz4_0 hh5.size
  have TB0_5 : Hid (roundTab w5) := TB0_4.out.below hh5
  have TB1_5 : Hid (firstTab w5) := TB1_4.out.below hh5
  have X1_5 : Hid (ReleaseOwn (w3.heap.size) w4.heap.size w5 (.agg #[.int .i64 y1b0, .slice y1a1 y1n1 y1c1, .slice y1a2 y1n2 y1c2, .bool y1b3, .slice y1a4 y1n4 y1c4, .string y1b5, .string y1b6]) (nn1, (gs1, es1, af1, xs1), su1, se1)) := X1_4.out.below hh5
  have c5_1_0 : w5.cell? ⟨(w4.heap.size), 0, none⟩ = some (.int .i64 y1b0) := (hb5.cell (p := ⟨(w4.heap.size), 0, none⟩) (by simp <;> omega)).trans (by simp [go_sem])
  have c5_1_1 : w5.cell? ⟨(w4.heap.size), 1, none⟩ = some (.slice y1a1 y1n1 y1c1) := (hb5.cell (p := ⟨(w4.heap.size), 1, none⟩) (by simp <;> omega)).trans (by simp [go_sem])
  have c5_1_2 : w5.cell? ⟨(w4.heap.size), 2, none⟩ = some (.slice y1a2 y1n2 y1c2) := (hb5.cell (p := ⟨(w4.heap.size), 2, none⟩) (by simp <;> omega)).trans (by simp [go_sem])
  have c5_1_3 : w5.cell? ⟨(w4.heap.size), 3, none⟩ = some (.bool y1b3) := (hb5.cell (p := ⟨(w4.heap.size), 3, none⟩) (by simp <;> omega)).trans (by simp [go_sem])
  have c5_1_4 : w5.cell? ⟨(w4.heap.size), 4, none⟩ = some (.slice y1a4 y1n4 y1c4) := (hb5.cell (p := ⟨(w4.heap.size), 4, none⟩) (by simp <;> omega)).trans (by simp [go_sem])
  have c5_1_5 : w5.cell? ⟨(w4.heap.size), 5, none⟩ = some (.string y1b5) := (hb5.cell (p := ⟨(w4.heap.size), 5, none⟩) (by simp <;> omega)).trans (by simp [go_sem])
  have c5_1_6 : w5.cell? ⟨(w4.heap.size), 6, none⟩ = some (.string y1b6) := (hb5.cell (p := ⟨(w4.heap.size), 6, none⟩) (by simp <;> omega)).trans (by simp [go_sem])
  have hz5_1 : (w4.heap.size) < w5.heap.size := by have := hb5.size; simp at this; omega
  have HZ5 : Hid (w4.heap.size + 1 ≤ w5.heap.size) := by have := hb5.size; simp at this; show _ ≤ _; omega
  clear c4_0_0 c4_0_1 c4_0_2 c4_0_3 c4_0_4 c4_0_5 c4_0_6 hz4_0 TB0_4 TB1_4 X1_4 hb5 hh5
  go_wp2_with fail
  go_region_held3 (fun w' => w'.cell? ⟨(w.heap.size), 0, none⟩ = some (.int .i64 nn1) ∧ w'.cell? ⟨(w.heap.size), 1, none⟩ = some (vg1) ∧ w'.cell? ⟨(w.heap.size), 2, none⟩ = some (vc1) ∧ w'.cell? ⟨(w.heap.size), 3, none⟩ = some (.bool af1) ∧ w'.cell? ⟨(w.heap.size), 4, none⟩ = some (vl1) ∧ w'.cell? ⟨(w.heap.size), 5, none⟩ = some (.string su1) ∧ w'.cell? ⟨(w.heap.size), 6, none⟩ = some (.string se1) ∧ w'.cell? ⟨(w4.heap.size), 0, none⟩ = some (.int .i64 y1b0) ∧ w'.cell? ⟨(w4.heap.size), 1, none⟩ = some (.slice y1a1 y1n1 y1c1) ∧ w'.cell? ⟨(w4.heap.size), 2, none⟩ = some (.slice y1a2 y1n2 y1c2) ∧ w'.cell? ⟨(w4.heap.size), 3, none⟩ = some (.bool y1b3) ∧ w'.cell? ⟨(w4.heap.size), 4, none⟩ = some (.slice y1a4 y1n4 y1c4) ∧ w'.cell? ⟨(w4.heap.size), 5, none⟩ = some (.string y1b5) ∧ w'.cell? ⟨(w4.heap.size), 6, none⟩ = some (.string y1b6)) (go_keep)
    (first
      | (have qm := HB6; clear qm; go_at_call 9; refine (eqRelease_u _ _ _ (nn1, (gs1, es1, af1, xs1), su1, se1) (X1_6.out).at Ub1_6.out).mono ?_; rintro e w7 ⟨rfl, hb7⟩; have hh7 : Below w6.heap.size w6 w7 := hb7; have HB7 : Hid (Below w.heap.size w w7) := HB6.out.trans (hh7.mono HB6.out.size); have BC7 : Hid (Below w3.heap.size w3 w7) := BC6.out.trans (hh7.mono BC6.out.size); have c7_0_0 := (hh7.cell (p := ⟨(w.heap.size), 0, none⟩) hz6_0).trans c6_0_0; have c7_0_1 := (hh7.cell (p := ⟨(w.heap.size), 1, none⟩) hz6_0).trans c6_0_1; have c7_0_2 := (hh7.cell (p := ⟨(w.heap.size), 2, none⟩) hz6_0).trans c6_0_2; have c7_0_3 := (hh7.cell (p := ⟨(w.heap.size), 3, none⟩) hz6_0).trans c6_0_3; have c7_0_4 := (hh7.cell (p := ⟨(w.heap.size), 4, none⟩) hz6_0).trans c6_0_4; have c7_0_5 := (hh7.cell (p := ⟨(w.heap.size), 5, none⟩) hz6_0).trans c6_0_5; have c7_0_6 := (hh7.cell (p := ⟨(w.heap.size), 6, none⟩) hz6_0).trans c6_0_6; have hz7_0 : (w.heap.size) < w7.heap.size := Nat.lt_of_lt_of_le hz6_0 hh7.size; have c7_1_0 := (hh7.cell (p := ⟨(w4.heap.size), 0, none⟩) hz6_1).trans c6_1_0; have c7_1_1 := (hh7.cell (p := ⟨(w4.heap.size), 1, none⟩) hz6_1).trans c6_1_1; have c7_1_2 := (hh7.cell (p := ⟨(w4.heap.size), 2, none⟩) hz6_1).trans c6_1_2; have c7_1_3 := (hh7.cell (p := ⟨(w4.heap.size), 3, none⟩) hz6_1).trans c6_1_3; have c7_1_4 := (hh7.cell (p := ⟨(w4.heap.size), 4, none⟩) hz6_1).trans c6_1_4; have c7_1_5 := (hh7.cell (p := ⟨(w4.heap.size), 5, none⟩) hz6_1).trans c6_1_5; have c7_1_6 := (hh7.cell (p := ⟨(w4.heap.size), 6, none⟩) hz6_1).trans c6_1_6; have hz7_1 : (w4.heap.size) < w7.heap.size := Nat.lt_of_lt_of_le hz6_1 hh7.size; have TB0_7 : Hid (roundTab w7) := TB0_6.out.below hh7; have TB1_7 : Hid (firstTab w7) := TB1_6.out.below hh7; have X1_7 : Hid (ReleaseOwn (w3.heap.size) w4.heap.size w7 (.agg #[.int .i64 y1b0, .slice y1a1 y1n1 y1c1, .slice y1a2 y1n2 y1c2, .bool y1b3, .slice y1a4 y1n4 y1c4, .string y1b5, .string y1b6]) (nn1, (gs1, es1, af1, xs1), su1, se1)) := X1_6.out.below hh7; have Ub1_7 : Hid (ReleaseAt w7 (ub1) (nn1, (gs1, es1, af1, xs1), su1, se1)) := Ub1_6.out.below hh7; have HZ7 : Hid (w6.heap.size ≤ w7.heap.size) := hh7.size; clear c6_0_0 c6_0_1 c6_0_2 c6_0_3 c6_0_4 c6_0_5 c6_0_6 hz6_0 c6_1_0 c6_1_1 c6_1_2 c6_1_3 c6_1_4 c6_1_5 c6_1_6 hz6_1 TB0_6 TB1_6 X1_6 Ub1_6 hb7 hh7)
      | (go_at_call 16; refine (toRelease_u _ _ (nn1, (gs1, es1, af1, xs1), su1, se1) (HA1.out.below (HB5.out.trans (Below.mono (Below.drew (Below.refl w5.heap.size w5)) HB5.out.size))) HN1.out).mono ?_; rintro e w6 ⟨ub1, rfl, hu6, hb6⟩; have hh6 : Below w5.heap.size w5 w6 := Below.trans (Below.drew (Below.refl w5.heap.size w5)) (Below.mono hb6 (Below.size (Below.drew (Below.refl w5.heap.size w5)))); have HB6 : Hid (Below w.heap.size w w6) := HB5.out.trans (hh6.mono HB5.out.size); have BC6 : Hid (Below w3.heap.size w3 w6) := BC5.out.trans (hh6.mono BC5.out.size); have c6_0_0 := (hh6.cell (p := ⟨(w.heap.size), 0, none⟩) hz5_0).trans c5_0_0; have c6_0_1 := (hh6.cell (p := ⟨(w.heap.size), 1, none⟩) hz5_0).trans c5_0_1; have c6_0_2 := (hh6.cell (p := ⟨(w.heap.size), 2, none⟩) hz5_0).trans c5_0_2; have c6_0_3 := (hh6.cell (p := ⟨(w.heap.size), 3, none⟩) hz5_0).trans c5_0_3; have c6_0_4 := (hh6.cell (p := ⟨(w.heap.size), 4, none⟩) hz5_0).trans c5_0_4; have c6_0_5 := (hh6.cell (p := ⟨(w.heap.size), 5, none⟩) hz5_0).trans c5_0_5; have c6_0_6 := (hh6.cell (p := ⟨(w.heap.size), 6, none⟩) hz5_0).trans c5_0_6; have hz6_0 : (w.heap.size) < w6.heap.size := Nat.lt_of_lt_of_le hz5_0 hh6.size; have c6_1_0 := (hh6.cell (p := ⟨(w4.heap.size), 0, none⟩) hz5_1).trans c5_1_0; have c6_1_1 := (hh6.cell (p := ⟨(w4.heap.size), 1, none⟩) hz5_1).trans c5_1_1; have c6_1_2 := (hh6.cell (p := ⟨(w4.heap.size), 2, none⟩) hz5_1).trans c5_1_2; have c6_1_3 := (hh6.cell (p := ⟨(w4.heap.size), 3, none⟩) hz5_1).trans c5_1_3; have c6_1_4 := (hh6.cell (p := ⟨(w4.heap.size), 4, none⟩) hz5_1).trans c5_1_4; have c6_1_5 := (hh6.cell (p := ⟨(w4.heap.size), 5, none⟩) hz5_1).trans c5_1_5; have c6_1_6 := (hh6.cell (p := ⟨(w4.heap.size), 6, none⟩) hz5_1).trans c5_1_6; have hz6_1 : (w4.heap.size) < w6.heap.size := Nat.lt_of_lt_of_le hz5_1 hh6.size; have TB0_6 : Hid (roundTab w6) := TB0_5.out.below hh6; have TB1_6 : Hid (firstTab w6) := TB1_5.out.below hh6; have X1_6 : Hid (ReleaseOwn (w3.heap.size) w4.heap.size w6 (.agg #[.int .i64 y1b0, .slice y1a1 y1n1 y1c1, .slice y1a2 y1n2 y1c2, .bool y1b3, .slice y1a4 y1n4 y1c4, .string y1b5, .string y1b6]) (nn1, (gs1, es1, af1, xs1), su1, se1)) := X1_5.out.below hh6; have HZ6 : Hid (w5.heap.size ≤ w6.heap.size) := hh6.size; clear c5_0_0 c5_0_1 c5_0_2 c5_0_3 c5_0_4 c5_0_5 c5_0_6 hz5_0 c5_1_0 c5_1_1 c5_1_2 c5_1_3 c5_1_4 c5_1_5 c5_1_6 hz5_1 TB0_5 TB1_5 X1_5 hb6 hh6; have Ub1_6 : Hid (ReleaseAt w6 (ub1) (nn1, (gs1, es1, af1, xs1), su1, se1)) := hu6.at; clear hu6))
  go_wp2
  go_ret
  exact ⟨rfl, HB7.out⟩
end Go.Proofs.YtcdgikhkjpneiaaGreatDoor
