/-
  The law FnExactRingKey.
-/
import Derived.Test.YtdjdlbkaganocaaGW404
import Derived.Deep.DeepCutAuto
import Derived.Deep.RegionHeld3
namespace Go.Proofs.Ytdjdlbkaganocaa
open Go.RowKit
set_option linter.unusedVariables false
set_option maxRecDepth 100000 in
set_option maxHeartbeats 4000000 in
theorem fnExactRingKey_walk (va0 vn0 : Value) (ks0 : List ByteArray) (ns0 : List Int) (n1 : Int) (w : World) (h0 : RingAt w (.agg #[va0, vn0]) (ks0, ns0)) (h1 : (Lit.int .i64 n1).wf = true) :
    Calls Try.prog 5 #[.agg #[va0, vn0], .int .i64 n1] w fun e w' => e = .returned (.bool true) ∧ Below w.heap.size w w' := by
  have HA0 : Hid (RingAt w (.agg #[va0, vn0]) (ks0, ns0)) := h0
  clear h0
  obtain ⟨L0, hL0⟩ : ∃ L, rkT (ks0, ns0) n1 = L := ⟨_, rfl⟩
  have HSP : Hid (∀ (w : World) (u0 : Value), RingAt w u0 (ks0, ns0) → Calls Try.prog 15 #[u0, .int .i64 n1] w fun e w' => e = .returned (.string L0) ∧ Below w.heap.size w w') := fun w u0 g0 => by
    rw [← hL0]
    exact specRingKey_any w u0 (ks0, ns0) n1 g0
  have HIM : Hid (∀ (w : World) (u0 : Value), RingAt w u0 (ks0, ns0) → Calls Try.prog 16 #[u0, .int .i64 n1] w fun e w' => e = .returned (.string L0) ∧ Below w.heap.size w w') := fun w u0 g0 => by
    rw [← hL0]
    exact implRingKey_any w u0 (ks0, ns0) n1 g0
  clear hL0
  go_enter Try.func5, Try.ntmps5
  go_wp2_with fail
  have HX0 : Hid (Below w.heap.size w (w.alloc (.cells #[va0, vn0] 25))) := ((Below.refl _ _).alloc (Nat.le_refl _) _)
  refine (szRing_u _ _ (ks0, ns0) _ (HA0.out.below HX0.out) (by omega) (by omega)).mono ?_
  rintro e w1 ⟨⟨r0, rfl, hr0, hq0⟩, hb1⟩
  have HR0 : Hid (0 ≤ r0 → RingSm (ks0, ns0)) := hq0
  clear hq0
  have hh1 : Below w.heap.size w w1 := Below.trans HX0.out (Below.mono hb1 (Below.size HX0.out))
  have HB1 : Hid (Below w.heap.size w w1) := hh1
  have c1_0_0 : w1.cell? ⟨(w.heap.size), 0, none⟩ = some (va0) := (hb1.cell (p := ⟨(w.heap.size), 0, none⟩) (by simp <;> omega)).trans (by simp [go_sem])
  have c1_0_1 : w1.cell? ⟨(w.heap.size), 1, none⟩ = some (vn0) := (hb1.cell (p := ⟨(w.heap.size), 1, none⟩) (by simp <;> omega)).trans (by simp [go_sem])
  have hz1_0 : (w.heap.size) < w1.heap.size := by have := hb1.size; simp at this; omega
  have HZ1 : Hid (w.heap.size + 1 ≤ w1.heap.size) := by have := hb1.size; simp at this; show _ ≤ _; omega
  clear hb1 hh1
  by_cases hn0 : r0 < 0
  · go_wp2
    go_ret
    exact ⟨rfl, HB1.out⟩
  have HN0 : Hid (RingSm (ks0, ns0)) := HR0.out (by omega)
  go_wp2_with fail
  refine (toRing_u _ _ (ks0, ns0) (HA0.out.below HB1.out) HN0.out).mono ?_
  rintro e w2 ⟨ua0, rfl, hu2, hb2⟩
  have hh2 : Below w1.heap.size w1 w2 := hb2
  have HB2 : Hid (Below w.heap.size w w2) := HB1.out.trans (hh2.mono HB1.out.size)
  have c2_0_0 := (hh2.cell (p := ⟨(w.heap.size), 0, none⟩) hz1_0).trans c1_0_0
  have c2_0_1 := (hh2.cell (p := ⟨(w.heap.size), 1, none⟩) hz1_0).trans c1_0_1
  have hz2_0 : (w.heap.size) < w2.heap.size := Nat.lt_of_lt_of_le hz1_0 hh2.size
  have HZ2 : Hid (w1.heap.size ≤ w2.heap.size) := hh2.size
  clear c1_0_0 c1_0_1 hz1_0 hb2 hh2
  have Ua0_2 : Hid (RingAt w2 (ua0) (ks0, ns0)) := hu2.at
  clear hu2
  go_wp2_with fail
  refine (HSP.out _ _ Ua0_2.out).mono ?_
  rintro e w3 ⟨rfl, hb3⟩
  have hh3 : Below w2.heap.size w2 w3 := hb3
  have HB3 : Hid (Below w.heap.size w w3) := HB2.out.trans (hh3.mono HB2.out.size)
  have c3_0_0 := (hh3.cell (p := ⟨(w.heap.size), 0, none⟩) hz2_0).trans c2_0_0
  have c3_0_1 := (hh3.cell (p := ⟨(w.heap.size), 1, none⟩) hz2_0).trans c2_0_1
  have hz3_0 : (w.heap.size) < w3.heap.size := Nat.lt_of_lt_of_le hz2_0 hh3.size
  have Ua0_3 : Hid (RingAt w3 (ua0) (ks0, ns0)) := Ua0_2.out.below hh3
  have HZ3 : Hid (w2.heap.size ≤ w3.heap.size) := hh3.size
  clear c2_0_0 c2_0_1 hz2_0 Ua0_2 hb3 hh3
  go_wp2_with fail
  refine (toRing_u _ _ (ks0, ns0) (HA0.out.below HB3.out) HN0.out).mono ?_
  rintro e w4 ⟨y0, rfl, hu4, hb4⟩
  obtain ⟨y0a0, y0n0, y0c0, y0a1, y0n1, y0c1, rfl⟩ := RingAt.form2 hu4.at
  have hh4 : Below w3.heap.size w3 w4 := hb4
  have HB4 : Hid (Below w.heap.size w w4) := HB3.out.trans (hh4.mono HB3.out.size)
  have BC4 : Hid (Below w3.heap.size w3 w4) := hh4
  have c4_0_0 := (hh4.cell (p := ⟨(w.heap.size), 0, none⟩) hz3_0).trans c3_0_0
  have c4_0_1 := (hh4.cell (p := ⟨(w.heap.size), 1, none⟩) hz3_0).trans c3_0_1
  have hz4_0 : (w.heap.size) < w4.heap.size := Nat.lt_of_lt_of_le hz3_0 hh4.size
  have HZ4 : Hid (w3.heap.size ≤ w4.heap.size) := hh4.size
  clear c3_0_0 c3_0_1 hz3_0 hb4 hh4
  have X0_4 : Hid (RingOwn (w3.heap.size) w4.heap.size w4 (.agg #[.slice y0a0 y0n0 y0c0, .slice y0a1 y0n1 y0c1]) (ks0, ns0)) := hu4
  clear hu4
  go_wp2_with fail
  have HX4 : Hid (Below w4.heap.size w4 (w4.alloc (.cells #[.slice y0a0 y0n0 y0c0, .slice y0a1 y0n1 y0c1] 28))) := ((Below.refl _ _).alloc (Nat.le_refl _) _)
  refine (HIM.out _ _ ((X0_4.out.below HX4.out)).at).mono ?_
  rintro e w5 ⟨rfl, hb5⟩
  have hh5 : Below w4.heap.size w4 w5 := Below.trans HX4.out (Below.mono hb5 (Below.size HX4.out))
  have HB5 : Hid (Below w.heap.size w w5) := HB4.out.trans (hh5.mono HB4.out.size)
  have BC5 : Hid (Below w3.heap.size w3 w5) := BC4.out.trans (hh5.mono BC4.out.size)
  have c5_0_0 := (hh5.cell (p := ⟨(w.heap.size), 0, none⟩) hz4_0).trans c4_0_0
  have c5_0_1 := (hh5.cell (p := ⟨(w.heap.size), 1, none⟩) hz4_0).trans c4_0_1
  have hz5_0 : (w.heap.size) < w5.heap.size := Nat.lt_of_lt_of_le hz4_0 hh5.size
  have X0_5 : Hid (RingOwn (w3.heap.size) w4.heap.size w5 (.agg #[.slice y0a0 y0n0 y0c0, .slice y0a1 y0n1 y0c1]) (ks0, ns0)) := X0_4.out.below hh5
  have c5_1_0 : w5.cell? ⟨(w4.heap.size), 0, none⟩ = some (.slice y0a0 y0n0 y0c0) := (hb5.cell (p := ⟨(w4.heap.size), 0, none⟩) (by simp <;> omega)).trans (by simp [go_sem])
  have c5_1_1 : w5.cell? ⟨(w4.heap.size), 1, none⟩ = some (.slice y0a1 y0n1 y0c1) := (hb5.cell (p := ⟨(w4.heap.size), 1, none⟩) (by simp <;> omega)).trans (by simp [go_sem])
  have hz5_1 : (w4.heap.size) < w5.heap.size := by have := hb5.size; simp at this; omega
  have HZ5 : Hid (w4.heap.size + 1 ≤ w5.heap.size) := by have := hb5.size; simp at this; show _ ≤ _; omega
  clear c4_0_0 c4_0_1 hz4_0 X0_4 hb5 hh5
  go_wp2_with fail
  go_region_held3 (fun w' => w'.cell? ⟨(w.heap.size), 0, none⟩ = some (va0) ∧ w'.cell? ⟨(w.heap.size), 1, none⟩ = some (vn0) ∧ w'.cell? ⟨(w4.heap.size), 0, none⟩ = some (.slice y0a0 y0n0 y0c0) ∧ w'.cell? ⟨(w4.heap.size), 1, none⟩ = some (.slice y0a1 y0n1 y0c1)) (go_keep)
    (first
      | (have qm := HB6; clear qm; go_at_call 10; refine (eqRing_u _ _ _ (ks0, ns0) (X0_6.out).at Ub0_6.out).mono ?_; rintro e w7 ⟨rfl, hb7⟩; have hh7 : Below w6.heap.size w6 w7 := hb7; have HB7 : Hid (Below w.heap.size w w7) := HB6.out.trans (hh7.mono HB6.out.size); have BC7 : Hid (Below w3.heap.size w3 w7) := BC6.out.trans (hh7.mono BC6.out.size); have c7_0_0 := (hh7.cell (p := ⟨(w.heap.size), 0, none⟩) hz6_0).trans c6_0_0; have c7_0_1 := (hh7.cell (p := ⟨(w.heap.size), 1, none⟩) hz6_0).trans c6_0_1; have hz7_0 : (w.heap.size) < w7.heap.size := Nat.lt_of_lt_of_le hz6_0 hh7.size; have c7_1_0 := (hh7.cell (p := ⟨(w4.heap.size), 0, none⟩) hz6_1).trans c6_1_0; have c7_1_1 := (hh7.cell (p := ⟨(w4.heap.size), 1, none⟩) hz6_1).trans c6_1_1; have hz7_1 : (w4.heap.size) < w7.heap.size := Nat.lt_of_lt_of_le hz6_1 hh7.size; have X0_7 : Hid (RingOwn (w3.heap.size) w4.heap.size w7 (.agg #[.slice y0a0 y0n0 y0c0, .slice y0a1 y0n1 y0c1]) (ks0, ns0)) := X0_6.out.below hh7; have Ub0_7 : Hid (RingAt w7 (ub0) (ks0, ns0)) := Ub0_6.out.below hh7; have HZ7 : Hid (w6.heap.size ≤ w7.heap.size) := hh7.size; clear c6_0_0 c6_0_1 hz6_0 c6_1_0 c6_1_1 hz6_1 X0_6 Ub0_6 hb7 hh7)
      | (go_at_call 8; refine (toRing_u _ _ (ks0, ns0) (HA0.out.below (HB5.out.trans (Below.mono (Below.drew (Below.refl w5.heap.size w5)) HB5.out.size))) HN0.out).mono ?_; rintro e w6 ⟨ub0, rfl, hu6, hb6⟩; have hh6 : Below w5.heap.size w5 w6 := Below.trans (Below.drew (Below.refl w5.heap.size w5)) (Below.mono hb6 (Below.size (Below.drew (Below.refl w5.heap.size w5)))); have HB6 : Hid (Below w.heap.size w w6) := HB5.out.trans (hh6.mono HB5.out.size); have BC6 : Hid (Below w3.heap.size w3 w6) := BC5.out.trans (hh6.mono BC5.out.size); have c6_0_0 := (hh6.cell (p := ⟨(w.heap.size), 0, none⟩) hz5_0).trans c5_0_0; have c6_0_1 := (hh6.cell (p := ⟨(w.heap.size), 1, none⟩) hz5_0).trans c5_0_1; have hz6_0 : (w.heap.size) < w6.heap.size := Nat.lt_of_lt_of_le hz5_0 hh6.size; have c6_1_0 := (hh6.cell (p := ⟨(w4.heap.size), 0, none⟩) hz5_1).trans c5_1_0; have c6_1_1 := (hh6.cell (p := ⟨(w4.heap.size), 1, none⟩) hz5_1).trans c5_1_1; have hz6_1 : (w4.heap.size) < w6.heap.size := Nat.lt_of_lt_of_le hz5_1 hh6.size; have X0_6 : Hid (RingOwn (w3.heap.size) w4.heap.size w6 (.agg #[.slice y0a0 y0n0 y0c0, .slice y0a1 y0n1 y0c1]) (ks0, ns0)) := X0_5.out.below hh6; have HZ6 : Hid (w5.heap.size ≤ w6.heap.size) := hh6.size; clear c5_0_0 c5_0_1 hz5_0 c5_1_0 c5_1_1 hz5_1 X0_5 hb6 hh6; have Ub0_6 : Hid (RingAt w6 (ub0) (ks0, ns0)) := hu6.at; clear hu6))
  go_wp2
  go_ret
  exact ⟨rfl, HB7.out⟩
end Go.Proofs.Ytdjdlbkaganocaa
/-
  The law FnExactRingOk.
-/
namespace Go.Proofs.Ytdjdlbkaganocaa
open Go.RowKit
set_option linter.unusedVariables false
set_option maxRecDepth 100000 in
set_option maxHeartbeats 4000000 in
theorem fnExactRingOk_walk (va0 vn0 : Value) (ks0 : List ByteArray) (ns0 : List Int) (w : World) (h0 : RingAt w (.agg #[va0, vn0]) (ks0, ns0)) :
    Calls Try.prog 3 #[.agg #[va0, vn0]] w fun e w' => e = .returned (.bool true) ∧ Below w.heap.size w w' := by
  have HA0 : Hid (RingAt w (.agg #[va0, vn0]) (ks0, ns0)) := h0
  clear h0
  obtain ⟨L0, hL0⟩ : ∃ L, ringOk (ks0, ns0) = L := ⟨_, rfl⟩
  have HSP : Hid (∀ (w : World) (u0 : Value), RingAt w u0 (ks0, ns0) → Calls Try.prog 7 #[u0] w fun e w' => e = .returned (.bool L0) ∧ Below w.heap.size w w') := fun w u0 g0 => by
    rw [← hL0]
    exact specRingOk_any w u0 (ks0, ns0) g0
  have HIM : Hid (∀ (w : World) (u0 : Value), RingAt w u0 (ks0, ns0) → Calls Try.prog 9 #[u0] w fun e w' => e = .returned (.bool L0) ∧ Below w.heap.size w w') := fun w u0 g0 => by
    rw [← hL0]
    exact implRingOk_any w u0 (ks0, ns0) g0
  clear hL0
  go_enter Try.func3, Try.ntmps3
  go_wp2_with fail
  have HX0 : Hid (Below w.heap.size w (w.alloc (.cells #[va0, vn0] 25))) := ((Below.refl _ _).alloc (Nat.le_refl _) _)
  refine (szRing_u _ _ (ks0, ns0) _ (HA0.out.below HX0.out) (by omega) (by omega)).mono ?_
  rintro e w1 ⟨⟨r0, rfl, hr0, hq0⟩, hb1⟩
  have HR0 : Hid (0 ≤ r0 → RingSm (ks0, ns0)) := hq0
  clear hq0
  have hh1 : Below w.heap.size w w1 := Below.trans HX0.out (Below.mono hb1 (Below.size HX0.out))
  have HB1 : Hid (Below w.heap.size w w1) := hh1
  have c1_0_0 : w1.cell? ⟨(w.heap.size), 0, none⟩ = some (va0) := (hb1.cell (p := ⟨(w.heap.size), 0, none⟩) (by simp <;> omega)).trans (by simp [go_sem])
  have c1_0_1 : w1.cell? ⟨(w.heap.size), 1, none⟩ = some (vn0) := (hb1.cell (p := ⟨(w.heap.size), 1, none⟩) (by simp <;> omega)).trans (by simp [go_sem])
  have hz1_0 : (w.heap.size) < w1.heap.size := by have := hb1.size; simp at this; omega
  have HZ1 : Hid (w.heap.size + 1 ≤ w1.heap.size) := by have := hb1.size; simp at this; show _ ≤ _; omega
  clear hb1 hh1
  by_cases hn0 : r0 < 0
  · go_wp2
    go_ret
    exact ⟨rfl, HB1.out⟩
  have HN0 : Hid (RingSm (ks0, ns0)) := HR0.out (by omega)
  go_wp2_with fail
  refine (toRing_u _ _ (ks0, ns0) (HA0.out.below HB1.out) HN0.out).mono ?_
  rintro e w2 ⟨ua0, rfl, hu2, hb2⟩
  have hh2 : Below w1.heap.size w1 w2 := hb2
  have HB2 : Hid (Below w.heap.size w w2) := HB1.out.trans (hh2.mono HB1.out.size)
  have c2_0_0 := (hh2.cell (p := ⟨(w.heap.size), 0, none⟩) hz1_0).trans c1_0_0
  have c2_0_1 := (hh2.cell (p := ⟨(w.heap.size), 1, none⟩) hz1_0).trans c1_0_1
  have hz2_0 : (w.heap.size) < w2.heap.size := Nat.lt_of_lt_of_le hz1_0 hh2.size
  have HZ2 : Hid (w1.heap.size ≤ w2.heap.size) := hh2.size
  clear c1_0_0 c1_0_1 hz1_0 hb2 hh2
  have Ua0_2 : Hid (RingAt w2 (ua0) (ks0, ns0)) := hu2.at
  clear hu2
  go_wp2_with fail
  refine (HSP.out _ _ Ua0_2.out).mono ?_
  rintro e w3 ⟨rfl, hb3⟩
  have hh3 : Below w2.heap.size w2 w3 := hb3
  have HB3 : Hid (Below w.heap.size w w3) := HB2.out.trans (hh3.mono HB2.out.size)
  have c3_0_0 := (hh3.cell (p := ⟨(w.heap.size), 0, none⟩) hz2_0).trans c2_0_0
  have c3_0_1 := (hh3.cell (p := ⟨(w.heap.size), 1, none⟩) hz2_0).trans c2_0_1
  have hz3_0 : (w.heap.size) < w3.heap.size := Nat.lt_of_lt_of_le hz2_0 hh3.size
  have Ua0_3 : Hid (RingAt w3 (ua0) (ks0, ns0)) := Ua0_2.out.below hh3
  have HZ3 : Hid (w2.heap.size ≤ w3.heap.size) := hh3.size
  clear c2_0_0 c2_0_1 hz2_0 Ua0_2 hb3 hh3
  go_wp2_with fail
  refine (toRing_u _ _ (ks0, ns0) (HA0.out.below HB3.out) HN0.out).mono ?_
  rintro e w4 ⟨y0, rfl, hu4, hb4⟩
  obtain ⟨y0a0, y0n0, y0c0, y0a1, y0n1, y0c1, rfl⟩ := RingAt.form2 hu4.at
  have hh4 : Below w3.heap.size w3 w4 := hb4
  have HB4 : Hid (Below w.heap.size w w4) := HB3.out.trans (hh4.mono HB3.out.size)
  have BC4 : Hid (Below w3.heap.size w3 w4) := hh4
  have c4_0_0 := (hh4.cell (p := ⟨(w.heap.size), 0, none⟩) hz3_0).trans c3_0_0
  have c4_0_1 := (hh4.cell (p := ⟨(w.heap.size), 1, none⟩) hz3_0).trans c3_0_1
  have hz4_0 : (w.heap.size) < w4.heap.size := Nat.lt_of_lt_of_le hz3_0 hh4.size
  have HZ4 : Hid (w3.heap.size ≤ w4.heap.size) := hh4.size
  clear c3_0_0 c3_0_1 hz3_0 hb4 hh4
  have X0_4 : Hid (RingOwn (w3.heap.size) w4.heap.size w4 (.agg #[.slice y0a0 y0n0 y0c0, .slice y0a1 y0n1 y0c1]) (ks0, ns0)) := hu4
  clear hu4
  go_wp2_with fail
  have HX4 : Hid (Below w4.heap.size w4 (w4.alloc (.cells #[.slice y0a0 y0n0 y0c0, .slice y0a1 y0n1 y0c1] 28))) := ((Below.refl _ _).alloc (Nat.le_refl _) _)
  refine (HIM.out _ _ ((X0_4.out.below HX4.out)).at).mono ?_
  rintro e w5 ⟨rfl, hb5⟩
  have hh5 : Below w4.heap.size w4 w5 := Below.trans HX4.out (Below.mono hb5 (Below.size HX4.out))
  have HB5 : Hid (Below w.heap.size w w5) := HB4.out.trans (hh5.mono HB4.out.size)
  have BC5 : Hid (Below w3.heap.size w3 w5) := BC4.out.trans (hh5.mono BC4.out.size)
  have c5_0_0 := (hh5.cell (p := ⟨(w.heap.size), 0, none⟩) hz4_0).trans c4_0_0
  have c5_0_1 := (hh5.cell (p := ⟨(w.heap.size), 1, none⟩) hz4_0).trans c4_0_1
  have hz5_0 : (w.heap.size) < w5.heap.size := Nat.lt_of_lt_of_le hz4_0 hh5.size
  have X0_5 : Hid (RingOwn (w3.heap.size) w4.heap.size w5 (.agg #[.slice y0a0 y0n0 y0c0, .slice y0a1 y0n1 y0c1]) (ks0, ns0)) := X0_4.out.below hh5
  have c5_1_0 : w5.cell? ⟨(w4.heap.size), 0, none⟩ = some (.slice y0a0 y0n0 y0c0) := (hb5.cell (p := ⟨(w4.heap.size), 0, none⟩) (by simp <;> omega)).trans (by simp [go_sem])
  have c5_1_1 : w5.cell? ⟨(w4.heap.size), 1, none⟩ = some (.slice y0a1 y0n1 y0c1) := (hb5.cell (p := ⟨(w4.heap.size), 1, none⟩) (by simp <;> omega)).trans (by simp [go_sem])
  have hz5_1 : (w4.heap.size) < w5.heap.size := by have := hb5.size; simp at this; omega
  have HZ5 : Hid (w4.heap.size + 1 ≤ w5.heap.size) := by have := hb5.size; simp at this; show _ ≤ _; omega
  clear c4_0_0 c4_0_1 hz4_0 X0_4 hb5 hh5
  go_wp2_with fail
  go_region_held3 (fun w' => w'.cell? ⟨(w.heap.size), 0, none⟩ = some (va0) ∧ w'.cell? ⟨(w.heap.size), 1, none⟩ = some (vn0) ∧ w'.cell? ⟨(w4.heap.size), 0, none⟩ = some (.slice y0a0 y0n0 y0c0) ∧ w'.cell? ⟨(w4.heap.size), 1, none⟩ = some (.slice y0a1 y0n1 y0c1)) (go_keep)
    (first
      | (have qm := HB6; clear qm; go_at_call 10; refine (eqRing_u _ _ _ (ks0, ns0) (X0_6.out).at Ub0_6.out).mono ?_; rintro e w7 ⟨rfl, hb7⟩; have hh7 : Below w6.heap.size w6 w7 := hb7; have HB7 : Hid (Below w.heap.size w w7) := HB6.out.trans (hh7.mono HB6.out.size); have BC7 : Hid (Below w3.heap.size w3 w7) := BC6.out.trans (hh7.mono BC6.out.size); have c7_0_0 := (hh7.cell (p := ⟨(w.heap.size), 0, none⟩) hz6_0).trans c6_0_0; have c7_0_1 := (hh7.cell (p := ⟨(w.heap.size), 1, none⟩) hz6_0).trans c6_0_1; have hz7_0 : (w.heap.size) < w7.heap.size := Nat.lt_of_lt_of_le hz6_0 hh7.size; have c7_1_0 := (hh7.cell (p := ⟨(w4.heap.size), 0, none⟩) hz6_1).trans c6_1_0; have c7_1_1 := (hh7.cell (p := ⟨(w4.heap.size), 1, none⟩) hz6_1).trans c6_1_1; have hz7_1 : (w4.heap.size) < w7.heap.size := Nat.lt_of_lt_of_le hz6_1 hh7.size; have X0_7 : Hid (RingOwn (w3.heap.size) w4.heap.size w7 (.agg #[.slice y0a0 y0n0 y0c0, .slice y0a1 y0n1 y0c1]) (ks0, ns0)) := X0_6.out.below hh7; have Ub0_7 : Hid (RingAt w7 (ub0) (ks0, ns0)) := Ub0_6.out.below hh7; have HZ7 : Hid (w6.heap.size ≤ w7.heap.size) := hh7.size; clear c6_0_0 c6_0_1 hz6_0 c6_1_0 c6_1_1 hz6_1 X0_6 Ub0_6 hb7 hh7)
      | (go_at_call 8; refine (toRing_u _ _ (ks0, ns0) (HA0.out.below (HB5.out.trans (Below.mono (Below.drew (Below.refl w5.heap.size w5)) HB5.out.size))) HN0.out).mono ?_; rintro e w6 ⟨ub0, rfl, hu6, hb6⟩; have hh6 : Below w5.heap.size w5 w6 := Below.trans (Below.drew (Below.refl w5.heap.size w5)) (Below.mono hb6 (Below.size (Below.drew (Below.refl w5.heap.size w5)))); have HB6 : Hid (Below w.heap.size w w6) := HB5.out.trans (hh6.mono HB5.out.size); have BC6 : Hid (Below w3.heap.size w3 w6) := BC5.out.trans (hh6.mono BC5.out.size); have c6_0_0 := (hh6.cell (p := ⟨(w.heap.size), 0, none⟩) hz5_0).trans c5_0_0; have c6_0_1 := (hh6.cell (p := ⟨(w.heap.size), 1, none⟩) hz5_0).trans c5_0_1; have hz6_0 : (w.heap.size) < w6.heap.size := Nat.lt_of_lt_of_le hz5_0 hh6.size; have c6_1_0 := (hh6.cell (p := ⟨(w4.heap.size), 0, none⟩) hz5_1).trans c5_1_0; have c6_1_1 := (hh6.cell (p := ⟨(w4.heap.size), 1, none⟩) hz5_1).trans c5_1_1; have hz6_1 : (w4.heap.size) < w6.heap.size := Nat.lt_of_lt_of_le hz5_1 hh6.size; have X0_6 : Hid (RingOwn (w3.heap.size) w4.heap.size w6 (.agg #[.slice y0a0 y0n0 y0c0, .slice y0a1 y0n1 y0c1]) (ks0, ns0)) := X0_5.out.below hh6; have HZ6 : Hid (w5.heap.size ≤ w6.heap.size) := hh6.size; clear c5_0_0 c5_0_1 hz5_0 c5_1_0 c5_1_1 hz5_1 X0_5 hb6 hh6; have Ub0_6 : Hid (RingAt w6 (ub0) (ks0, ns0)) := hu6.at; clear hu6))
  go_wp2
  go_ret
  exact ⟨rfl, HB7.out⟩
end Go.Proofs.Ytdjdlbkaganocaa
