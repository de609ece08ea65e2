/-
  The law FnExactRingPut.
-/
import Derived.Test.YtmphcglglnlplaaDoorGW477
import Derived.Deep.DeepCutAuto
import Derived.Deep.RegionHeld3
namespace Go.Proofs.YtmphcglglnlplaaDoor
open Go.RowKit
set_option linter.unusedVariables false
set_option maxRecDepth 100000 in
set_option maxHeartbeats 4000000 in
theorem fnExactRingPut_walk (va0 vn0 : Value) (ks0 : List ByteArray) (ns0 : List Int) (w : World) (h0 : RingAt w (.agg #[va0, vn0]) (ks0, ns0)) (ht0 : powTab w) (ht1 : roundTab w) (ht2 : firstTab w) :
    Calls Tryd.prog 5 #[.agg #[va0, vn0]] w fun e w' => e = .returned (.bool true) ∧ Below w.heap.size w w' := by
  have HA0 : Hid (RingAt w (.agg #[va0, vn0]) (ks0, ns0)) := h0
  clear h0
  have TB0_0 : Hid (powTab w) := ht0
  clear ht0
  have TB1_0 : Hid (roundTab w) := ht1
  clear ht1
  have TB2_0 : Hid (firstTab w) := ht2
  clear ht2
  obtain ⟨L0, hL0⟩ : ∃ L, rgpT (ks0, ns0) = L := ⟨_, rfl⟩
  have HSP : Hid (∀ (w : World) (u0 : Value), RingAt w u0 (ks0, ns0) → Calls Tryd.prog 18 #[u0] w fun e w' => e = .returned (.string L0) ∧ Below w.heap.size w w') := fun w u0 g0 => by
    rw [← hL0]
    exact specRingPut_any w u0 (ks0, ns0) g0
  have HIM : Hid (∀ (w : World) (u0 : Value), RingAt w u0 (ks0, ns0) → powTab w → roundTab w → firstTab w → Calls Tryd.prog 19 #[u0] w fun e w' => e = .returned (.string L0) ∧ Below w.heap.size w w') := fun w u0 g0 t0 t1 t2 => by
    rw [← hL0]
    exact implRingPut_any w u0 (ks0, ns0) g0 t0 t1 t2
  clear hL0
  go_enter Tryd.func5, Tryd.ntmps5
  go_wp2_with fail
  have HX0 : Hid (Below w.heap.size w (w.alloc (.cells #[va0, vn0] 25))) := ((Below.refl _ _).alloc (Nat.le_refl _) _)
  refine (szRing_u _ _ (ks0, ns0) _ (HA0.out.below HX0.out) (by omega) (by omega)).mono ?_
  rintro e w1 ⟨⟨r0, rfl, hr0, hq0⟩, hb1⟩
  have HR0 : Hid (0 ≤ r0 → RingSm (ks0, ns0)) := hq0
  clear hq0
  have hh1 : Below w.heap.size w w1 := Below.trans HX0.out (Below.mono hb1 (Below.size HX0.out))
  have HB1 : Hid (Below w.heap.size w w1) := hh1
  have TB0_1 : Hid (powTab w1) := TB0_0.out.below hh1
  have TB1_1 : Hid (roundTab w1) := TB1_0.out.below hh1
  have TB2_1 : Hid (firstTab w1) := TB2_0.out.below hh1
  have c1_0_0 : w1.cell? ⟨(w.heap.size), 0, none⟩ = some (va0) := (hb1.cell (p := ⟨(w.heap.size), 0, none⟩) (by simp <;> omega)).trans (by simp [go_sem])
  have c1_0_1 : w1.cell? ⟨(w.heap.size), 1, none⟩ = some (vn0) := (hb1.cell (p := ⟨(w.heap.size), 1, none⟩) (by simp <;> omega)).trans (by simp [go_sem])
  have hz1_0 : (w.heap.size) < w1.heap.size := by have := hb1.size; simp at this; omega
  have HZ1 : Hid (w.heap.size + 1 ≤ w1.heap.size) := by have := hb1.size; simp at this; show _ ≤ _; omega
  clear TB0_0 TB1_0 TB2_0 hb1 hh1
  by_cases hn0 : r0 < 0
  · go_wp2
    go_ret
    exact ⟨rfl, HB1.out⟩
  have HN0 : Hid (RingSm (ks0, ns0)) := HR0.out (by omega)
  go_wp2_with fail
  refine (toRing_u _ _ (ks0, ns0) (HA0.out.below HB1.out) HN0.out).mono ?_
  rintro e w2 ⟨ua0, rfl, hu2, hb2⟩
  have hh2 : Below w1.heap.size w1 w2 := hb2
  have HB2 : Hid (Below w.heap.size w w2) := HB1.out.trans (hh2.mono HB1.out.size)
  have c2_0_0 := (hh2.cell (p := ⟨(w.heap.size), 0, none⟩) hz1_0).trans c1_0_0
  have c2_0_1 := (hh2.cell (p := ⟨(w.heap.size), 1, none⟩) hz1_0).trans c1_0_1
  have hz2_0 : (w.heap.size) < w2.heap.size := Nat.lt_of_lt_of_le hz1_0 hh2.size
  have TB0_2 : Hid (powTab w2) := TB0_1.out.below hh2
  have TB1_2 : Hid (roundTab w2) := TB1_1.out.below hh2
  have TB2_2 : Hid (firstTab w2) := TB2_1.out.below hh2
  have HZ2 : Hid (w1.heap.size ≤ w2.heap.size) := hh2.size
  clear c1_0_0 c1_0_1 hz1_0 TB0_1 TB1_1 TB2_1 hb2 hh2
  have Ua0_2 : Hid (RingAt w2 (ua0) (ks0, ns0)) := hu2.at
  clear hu2
  go_wp2_with fail
  refine (HSP.out _ _ Ua0_2.out).mono ?_
  rintro e w3 ⟨rfl, hb3⟩
  have hh3 : Below w2.heap.size w2 w3 := hb3
  have HB3 : Hid (Below w.heap.size w w3) := HB2.out.trans (hh3.mono HB2.out.size)
  have c3_0_0 := (hh3.cell (p := ⟨(w.heap.size), 0, none⟩) hz2_0).trans c2_0_0
  have c3_0_1 := (hh3.cell (p := ⟨(w.heap.size), 1, none⟩) hz2_0).trans c2_0_1
  have hz3_0 : (w.heap.size) < w3.heap.size := Nat.lt_of_lt_of_le hz2_0 hh3.size
  have TB0_3 : Hid (powTab w3) := TB0_2.out.below hh3
  have TB1_3 : Hid (roundTab w3) := TB1_2.out.below hh3
  have TB2_3 : Hid (firstTab w3) := TB2_2.out.below hh3
  have Ua0_3 : Hid (RingAt w3 (ua0) (ks0, ns0)) := Ua0_2.out.below hh3
  have HZ3 : Hid (w2.heap.size ≤ w3.heap.size) := hh3.size
  clear c2_0_0 c2_0_1 hz2_0 TB0_2 TB1_2 TB2_2 Ua0_2 hb3 hh3
  go_wp2_with fail
  refine (toRing_u _ _ (ks0, ns0) (HA0.out.below HB3.out) HN0.out).mono ?_
  rintro e w4 ⟨y0, rfl, hu4, hb4⟩
  obtain ⟨y0a0, y0n0, y0c0, y0a1, y0n1, y0c1, rfl⟩ := RingAt.form2 hu4.at
  have hh4 : Below w3.heap.size w3 w4 := hb4
  have HB4 : Hid (Below w.heap.size w w4) := HB3.out.trans (hh4.mono HB3.out.size)
  have BC4 : Hid (Below w3.heap.size w3 w4) := hh4
  have c4_0_0 := (hh4.cell (p := ⟨(w.heap.size), 0, none⟩) hz3_0).trans c3_0_0
  have c4_0_1 := (hh4.cell (p := ⟨(w.heap.size), 1, none⟩) hz3_0).trans c3_0_1
  have hz4_0 : (w.heap.size) < w4.heap.size := Nat.lt_of_lt_of_le hz3_0 hh4.size
  have TB0_4 : Hid (powTab w4) := TB0_3.out.below hh4
  have TB1_4 : Hid (roundTab w4) := TB1_3.out.below hh4
  have TB2_4 : Hid (firstTab w4) := TB2_3.out.below hh4
  have HZ4 : Hid (w3.heap.size ≤ w4.heap.size) := hh4.size
  clear c3_0_0 c3_0_1 hz3_0 TB0_3 TB1_3 TB2_3 hb4 hh4
  have X0_4 : Hid (RingOwn (w3.heap.size) w4.heap.size w4 (.agg #[.slice y0a0 y0n0 y0c0, .slice y0a1 y0n1 y0c1]) (ks0, ns0)) := hu4
  clear hu4
  go_wp2_with fail
  have HX4 : Hid (Below w4.heap.size w4 (w4.alloc (.cells #[.slice y0a0 y0n0 y0c0, .slice y0a1 y0n1 y0c1] 31))) := ((Below.refl _ _).alloc (Nat.le_refl _) _)
  refine (HIM.out _ _ ((X0_4.out.below HX4.out)).at (TB0_4.out.below HX4.out) (TB1_4.out.below HX4.out) (TB2_4.out.below HX4.out)).mono ?_
  rintro e w5 ⟨rfl, hb5⟩
  have hh5 : Below w4.heap.size w4 w5 := Below.trans HX4.out (Below.mono hb5 (Below.size HX4.out))
  have HB5 : Hid (Below w.heap.size w w5) := HB4.out.trans (hh5.mono HB4.out.size)
  have BC5 : Hid (Below w3.heap.size w3 w5) := BC4.out.trans (hh5.mono BC4.out.size)
  have c5_0_0 := (hh5.cell (p := ⟨(w.heap.size), 0, none⟩) hz4_0).trans c4_0_0
  have c5_0_1 := (hh5.cell (p := ⟨(w.heap.size), 1, none⟩) hz4_0).trans c4_0_1
  have hz5_0 : (w.heap.size) < w5.heap.size := Nat.lt_of_lt_of_le hz4_0 hh5.size
  have TB0_5 : Hid (powTab w5) := TB0_4.out.below hh5
  have TB1_5 : Hid (roundTab w5) := TB1_4.out.below hh5
  have TB2_5 : Hid (firstTab w5) := TB2_4.out.below hh5
  have X0_5 : Hid (RingOwn (w3.heap.size) w4.heap.size w5 (.agg #[.slice y0a0 y0n0 y0c0, .slice y0a1 y0n1 y0c1]) (ks0, ns0)) := X0_4.out.below hh5
  have c5_1_0 : w5.cell? ⟨(w4.heap.size), 0, none⟩ = some (.slice y0a0 y0n0 y0c0) := (hb5.cell (p := ⟨(w4.heap.size), 0, none⟩) (by simp <;> omega)).trans (by simp [go_sem])
  have c5_1_1 : w5.cell? ⟨(w4.heap.size), 1, none⟩ = some (.slice y0a1 y0n1 y0c1) := (hb5.cell (p := ⟨(w4.heap.size), 1, none⟩) (by simp <;> omega)).trans (by simp [go_sem])
  have hz5_1 : (w4.heap.size) < w5.heap.size := by have := hb5.size; simp at this; omega
  have HZ5 : Hid (w4.heap.size + 1 ≤ w5.heap.size) := by have := hb5.size; simp at this; show _ ≤ _; omega
  clear c4_0_0 c4_0_1 hz4_0 TB0_4 TB1_4 TB2_4 X0_4 hb5 hh5
  go_wp2_with fail
  go_region_held3 (fun w' => w'.cell? ⟨(w.heap.size), 0, none⟩ = some (va0) ∧ w'.cell? ⟨(w.heap.size), 1, none⟩ = some (vn0) ∧ w'.cell? ⟨(w4.heap.size), 0, none⟩ = some (.slice y0a0 y0n0 y0c0) ∧ w'.cell? ⟨(w4.heap.size), 1, none⟩ = some (.slice y0a1 y0n1 y0c1)) (go_keep)
    (first
      | (have qm := HB6; clear qm; go_at_call 11; refine (eqRing_u _ _ _ (ks0, ns0) (X0_6.out).at Ub0_6.out).mono ?_; rintro e w7 ⟨rfl, hb7⟩; have hh7 : Below w6.heap.size w6 w7 := hb7; have HB7 : Hid (Below w.heap.size w w7) := HB6.out.trans (hh7.mono HB6.out.size); have BC7 : Hid (Below w3.heap.size w3 w7) := BC6.out.trans (hh7.mono BC6.out.size); have c7_0_0 := (hh7.cell (p := ⟨(w.heap.size), 0, none⟩) hz6_0).trans c6_0_0; have c7_0_1 := (hh7.cell (p := ⟨(w.heap.size), 1, none⟩) hz6_0).trans c6_0_1; have hz7_0 : (w.heap.size) < w7.heap.size := Nat.lt_of_lt_of_le hz6_0 hh7.size; have c7_1_0 := (hh7.cell (p := ⟨(w4.heap.size), 0, none⟩) hz6_1).trans c6_1_0; have c7_1_1 := (hh7.cell (p := ⟨(w4.heap.size), 1, none⟩) hz6_1).trans c6_1_1; have hz7_1 : (w4.heap.size) < w7.heap.size := Nat.lt_of_lt_of_le hz6_1 hh7.size; have TB0_7 : Hid (powTab w7) := TB0_6.out.below hh7; have TB1_7 : Hid (roundTab w7) := TB1_6.out.below hh7; have TB2_7 : Hid (firstTab w7) := TB2_6.out.below hh7; have X0_7 : Hid (RingOwn (w3.heap.size) w4.heap.size w7 (.agg #[.slice y0a0 y0n0 y0c0, .slice y0a1 y0n1 y0c1]) (ks0, ns0)) := X0_6.out.below hh7; have Ub0_7 : Hid (RingAt w7 (ub0) (ks0, ns0)) := Ub0_6.out.below hh7; have HZ7 : Hid (w6.heap.size ≤ w7.heap.size) := hh7.size; clear c6_0_0 c6_0_1 hz6_0 c6_1_0 c6_1_1 hz6_1 TB0_6 TB1_6 TB2_6 X0_6 Ub0_6 hb7 hh7)
      | (go_at_call 8; refine (toRing_u _ _ (ks0, ns0) (HA0.out.below (HB5.out.trans (Below.mono (Below.drew (Below.refl w5.heap.size w5)) HB5.out.size))) HN0.out).mono ?_; rintro e w6 ⟨ub0, rfl, hu6, hb6⟩; have hh6 : Below w5.heap.size w5 w6 := Below.trans (Below.drew (Below.refl w5.heap.size w5)) (Below.mono hb6 (Below.size (Below.drew (Below.refl w5.heap.size w5)))); have HB6 : Hid (Below w.heap.size w w6) := HB5.out.trans (hh6.mono HB5.out.size); have BC6 : Hid (Below w3.heap.size w3 w6) := BC5.out.trans (hh6.mono BC5.out.size); have c6_0_0 := (hh6.cell (p := ⟨(w.heap.size), 0, none⟩) hz5_0).trans c5_0_0; have c6_0_1 := (hh6.cell (p := ⟨(w.heap.size), 1, none⟩) hz5_0).trans c5_0_1; have hz6_0 : (w.heap.size) < w6.heap.size := Nat.lt_of_lt_of_le hz5_0 hh6.size; have c6_1_0 := (hh6.cell (p := ⟨(w4.heap.size), 0, none⟩) hz5_1).trans c5_1_0; have c6_1_1 := (hh6.cell (p := ⟨(w4.heap.size), 1, none⟩) hz5_1).trans c5_1_1; have hz6_1 : (w4.heap.size) < w6.heap.size := Nat.lt_of_lt_of_le hz5_1 hh6.size; have TB0_6 : Hid (powTab w6) := TB0_5.out.below hh6; have TB1_6 : Hid (roundTab w6) := TB1_5.out.below hh6; have TB2_6 : Hid (firstTab w6) := TB2_5.out.below hh6; have X0_6 : Hid (RingOwn (w3.heap.size) w4.heap.size w6 (.agg #[.slice y0a0 y0n0 y0c0, .slice y0a1 y0n1 y0c1]) (ks0, ns0)) := X0_5.out.below hh6; have HZ6 : Hid (w5.heap.size ≤ w6.heap.size) := hh6.size; clear c5_0_0 c5_0_1 hz5_0 c5_1_0 c5_1_1 hz5_1 TB0_5 TB1_5 TB2_5 X0_5 hb6 hh6; have Ub0_6 : Hid (RingAt w6 (ub0) (ks0, ns0)) := hu6.at; clear hu6))
  go_wp2
  go_ret
  exact ⟨rfl, HB7.out⟩
end Go.Proofs.YtmphcglglnlplaaDoor
