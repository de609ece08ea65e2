/-
  The law FnExactRingNew.
-/
import Derived.Test.YtdjdlbkaganocaaGW406
import Derived.Deep.DeepCutAuto
import Derived.Deep.RegionHeld3
namespace Go.Proofs.Ytdjdlbkaganocaa
open Go.RowKit
set_option linter.unusedVariables false
set_option maxRecDepth 100000 in
set_option maxHeartbeats 4000000 in
theorem fnExactRingNew_walk (s0 : ByteArray) (w : World) (h0 : s0.size ≤ maxLen) :
    Calls Try.prog 4 #[.string s0] w fun e w' => e = .returned (.bool true) ∧ Below w.heap.size w w' := by
  by_cases hg0 : (s0.size : Int) > 1048576
  · unfold maxLen at h0
    go_enter Try.func4, Try.ntmps4
    go_wp2
    go_ret
    exact ⟨rfl, (Below.refl _ _)⟩
  have hg0x : ¬ (1048576 : Int) < s0.size := by omega
  have hl0 : s0.size ≤ 1048576 := by omega
  obtain ⟨L0, hL0⟩ : ∃ L, rnewT s0 = L := ⟨_, rfl⟩
  obtain ⟨L1, hL1⟩ : ∃ L, keyT s0 = L := ⟨_, rfl⟩
  have HSM : Hid (RingSm L0) := by rw [← hL0]; exact rnewT_small s0
  have HSP : Hid (∀ (w : World), Calls Try.prog 11 #[.string s0] w fun e w' => ∃ (qa0 : Option Addr) (qn0 qc0 : Nat) (qa1 : Option Addr) (qn1 qc1 : Nat), e = .returned (.tuple #[.agg #[.slice qa0 qn0 qc0, .slice qa1 qn1 qc1], .bool L1]) ∧ RingAt w' (.agg #[.slice qa0 qn0 qc0, .slice qa1 qn1 qc1]) L0 ∧ Below w.heap.size w w') := fun w => by
    rw [← hL0, ← hL1]
    refine Calls.mono (specRingNew_any w s0 h0) ?_
    rintro e w' ⟨v, rfl, h1, h2⟩
    obtain ⟨_, _, _, _, _, _, rfl⟩ := RingAt.form2 h1
    exact ⟨_, _, _, _, _, _, rfl, h1, h2⟩
  have HIM : Hid (∀ (w : World), Calls Try.prog 12 #[.string s0] w fun e w' => ∃ (qa0 : Option Addr) (qn0 qc0 : Nat) (qa1 : Option Addr) (qn1 qc1 : Nat), e = .returned (.tuple #[.agg #[.slice qa0 qn0 qc0, .slice qa1 qn1 qc1], .bool L1]) ∧ RingOwn w.heap.size w'.heap.size w' (.agg #[.slice qa0 qn0 qc0, .slice qa1 qn1 qc1]) L0 ∧ Below w.heap.size w w') := fun w => by
    rw [← hL0, ← hL1]
    refine Calls.mono (implRingNew_any w s0 h0) ?_
    rintro e w' ⟨v, rfl, h1, h2⟩
    obtain ⟨_, _, _, _, _, _, rfl⟩ := RingAt.form2 h1.at
    exact ⟨_, _, _, _, _, _, rfl, h1, h2⟩
  clear hL0 hL1
  go_enter Try.func4, Try.ntmps4
  go_wp2_with fail
  refine (HSP.out _ ).mono ?_
  rintro e w1 ⟨p0a0, p0n0, p0c0, p0a1, p0n1, p0c1, rfl, hu1, hb1⟩
  have hh1 : Below w.heap.size w w1 := hb1
  have HB1 : Hid (Below w.heap.size w w1) := hh1
  have HZ1 : Hid (w.heap.size ≤ w1.heap.size) := hh1.size
  clear hb1 hh1
  have HU : Hid (RingAt w1 (.agg #[.slice p0a0 p0n0 p0c0, .slice p0a1 p0n1 p0c1]) L0) := hu1
  clear hu1
  go_wp2_with fail
  have HX1 : Hid (Below w1.heap.size w1 (w1.alloc (.cells #[.slice p0a0 p0n0 p0c0, .slice p0a1 p0n1 p0c1] 28))) := ((Below.refl _ _).alloc (Nat.le_refl _) _)
  refine (HIM.out _ ).mono ?_
  rintro e w2 ⟨g0a0, g0n0, g0c0, g0a1, g0n1, g0c1, rfl, hu2, hb2⟩
  simp only [World.size_alloc] at hu2
  have hh2 : Below w1.heap.size w1 w2 := Below.trans HX1.out (Below.mono hb2 (Below.size HX1.out))
  have HB2 : Hid (Below w.heap.size w w2) := HB1.out.trans (hh2.mono HB1.out.size)
  have BC2 : Hid (Below w1.heap.size w1 w2) := hh2
  have c2_0_0 : w2.cell? ⟨(w1.heap.size), 0, none⟩ = some (.slice p0a0 p0n0 p0c0) := (hb2.cell (p := ⟨(w1.heap.size), 0, none⟩) (by simp <;> omega)).trans (by simp [go_sem])
  have c2_0_1 : w2.cell? ⟨(w1.heap.size), 1, none⟩ = some (.slice p0a1 p0n1 p0c1) := (hb2.cell (p := ⟨(w1.heap.size), 1, none⟩) (by simp <;> omega)).trans (by simp [go_sem])
  have hz2_0 : (w1.heap.size) < w2.heap.size := by have := hb2.size; simp at this; omega
  have HZ2 : Hid (w1.heap.size + 1 ≤ w2.heap.size) := by have := hb2.size; simp at this; show _ ≤ _; omega
  clear hb2 hh2
  have G_2 : Hid (RingOwn (w1.heap.size + 1) w2.heap.size w2 (.agg #[.slice g0a0 g0n0 g0c0, .slice g0a1 g0n1 g0c1]) L0) := hu2
  clear hu2
  go_wp2_with fail
  have HX2 : Hid (Below w2.heap.size w2 (w2.alloc (.cells #[.slice g0a0 g0n0 g0c0, .slice g0a1 g0n1 g0c1] 28))) := ((Below.refl _ _).alloc (Nat.le_refl _) _)
  refine (eqRing_u _ _ _ L0 ((G_2.out.below HX2.out)).at (HU.out.below (BC2.out.trans (Below.mono HX2.out BC2.out.size)))).mono ?_
  rintro e w3 ⟨rfl, hb3⟩
  have hh3 : Below w2.heap.size w2 w3 := Below.trans HX2.out (Below.mono hb3 (Below.size HX2.out))
  have HB3 : Hid (Below w.heap.size w w3) := HB2.out.trans (hh3.mono HB2.out.size)
  have BC3 : Hid (Below w1.heap.size w1 w3) := BC2.out.trans (hh3.mono BC2.out.size)
  have c3_0_0 := (hh3.cell (p := ⟨(w1.heap.size), 0, none⟩) hz2_0).trans c2_0_0
  have c3_0_1 := (hh3.cell (p := ⟨(w1.heap.size), 1, none⟩) hz2_0).trans c2_0_1
  have hz3_0 : (w1.heap.size) < w3.heap.size := Nat.lt_of_lt_of_le hz2_0 hh3.size
  have G_3 : Hid (RingOwn (w1.heap.size + 1) w2.heap.size w3 (.agg #[.slice g0a0 g0n0 g0c0, .slice g0a1 g0n1 g0c1]) L0) := G_2.out.below hh3
  have c3_1_0 : w3.cell? ⟨(w2.heap.size), 0, none⟩ = some (.slice g0a0 g0n0 g0c0) := (hb3.cell (p := ⟨(w2.heap.size), 0, none⟩) (by simp <;> omega)).trans (by simp [go_sem])
  have c3_1_1 : w3.cell? ⟨(w2.heap.size), 1, none⟩ = some (.slice g0a1 g0n1 g0c1) := (hb3.cell (p := ⟨(w2.heap.size), 1, none⟩) (by simp <;> omega)).trans (by simp [go_sem])
  have hz3_1 : (w2.heap.size) < w3.heap.size := by have := hb3.size; simp at this; omega
  have HZ3 : Hid (w2.heap.size + 1 ≤ w3.heap.size) := by have := hb3.size; simp at this; show _ ≤ _; omega
  clear c2_0_0 c2_0_1 hz2_0 G_2 hb3 hh3
  go_wp2_with fail
  obtain ⟨km, hkm⟩ : ∃ K : Nat, 1 + ringCnt L0 = K := ⟨_, rfl⟩
  have smr := HSM.out
  have hcr : ringCnt L0 ≤ 40000000 := by unfold RingSm at smr; unfold ringCnt; omega
  clear smr
  have HKM : Hid (_ = km) := hkm
  refine (cK (markRing_u (w1.heap.size + 1) w2.heap.size 1 _ _ L0 G_3.out HSM.out (by omega) (by have z1 := HZ1.out; have z2 := HZ2.out; have z3 := HZ3.out; omega) (by have z1 := HZ1.out; have z2 := HZ2.out; have z3 := HZ3.out; omega)) HKM.out).mono ?_
  rintro e w4 ⟨rfl, hu4, hw4⟩
  have HB4 : Hid (Below w.heap.size w w4) := HB3.out.trans (hw4.1.mono (show w.heap.size ≤ (w1.heap.size + 1) from (by have z1 := HZ1.out; have z2 := HZ2.out; have z3 := HZ3.out; omega)))
  have BC4 : Hid (Below w1.heap.size w1 w4) := BC3.out.trans (hw4.1.mono (show w1.heap.size ≤ (w1.heap.size + 1) from (by have z1 := HZ1.out; have z2 := HZ2.out; have z3 := HZ3.out; omega)))
  have c4_0_0 := (wr_cell hw4 (b := (w1.heap.size)) 0 (by have z1 := HZ1.out; have z2 := HZ2.out; have z3 := HZ3.out; omega) hz3_0).trans c3_0_0
  have c4_0_1 := (wr_cell hw4 (b := (w1.heap.size)) 1 (by have z1 := HZ1.out; have z2 := HZ2.out; have z3 := HZ3.out; omega) hz3_0).trans c3_0_1
  have hz4_0 : (w1.heap.size) < w4.heap.size := Nat.lt_of_lt_of_le hz3_0 hw4.sz
  have c4_1_0 := (wr_cell hw4 (b := (w2.heap.size)) 0 (by have z1 := HZ1.out; have z2 := HZ2.out; have z3 := HZ3.out; omega) hz3_1).trans c3_1_0
  have c4_1_1 := (wr_cell hw4 (b := (w2.heap.size)) 1 (by have z1 := HZ1.out; have z2 := HZ2.out; have z3 := HZ3.out; omega) hz3_1).trans c3_1_1
  have hz4_1 : (w2.heap.size) < w4.heap.size := Nat.lt_of_lt_of_le hz3_1 hw4.sz
  have HZ4 : Hid (w3.heap.size ≤ w4.heap.size) := hw4.sz
  clear c3_0_0 c3_0_1 hz3_0 c3_1_0 c3_1_1 hz3_1 hw4
  have Q_4 : Hid (RingOwn (w1.heap.size + 1) w2.heap.size w4 (.agg #[.slice g0a0 g0n0 g0c0, .slice g0a1 g0n1 g0c1]) (ringMk 1 L0)) := hu4
  clear hu4
  have hkmn : ¬ ((km : Int) < 0) := by omega
  clear hkm
  go_wp2_with fail
  refine (cK (heldRing_u _ _ 1 L0 (Q_4.out).at HSM.out (by omega)) HKM.out).mono ?_
  rintro e w5 ⟨rfl, hb5⟩
  have hh5 : Below w4.heap.size w4 w5 := hb5
  have HB5 : Hid (Below w.heap.size w w5) := HB4.out.trans (hh5.mono HB4.out.size)
  have BC5 : Hid (Below w1.heap.size w1 w5) := BC4.out.trans (hh5.mono BC4.out.size)
  have c5_0_0 := (hh5.cell (p := ⟨(w1.heap.size), 0, none⟩) hz4_0).trans c4_0_0
  have c5_0_1 := (hh5.cell (p := ⟨(w1.heap.size), 1, none⟩) hz4_0).trans c4_0_1
  have hz5_0 : (w1.heap.size) < w5.heap.size := Nat.lt_of_lt_of_le hz4_0 hh5.size
  have c5_1_0 := (hh5.cell (p := ⟨(w2.heap.size), 0, none⟩) hz4_1).trans c4_1_0
  have c5_1_1 := (hh5.cell (p := ⟨(w2.heap.size), 1, none⟩) hz4_1).trans c4_1_1
  have hz5_1 : (w2.heap.size) < w5.heap.size := Nat.lt_of_lt_of_le hz4_1 hh5.size
  have Q_5 : Hid (RingOwn (w1.heap.size + 1) w2.heap.size w5 (.agg #[.slice g0a0 g0n0 g0c0, .slice g0a1 g0n1 g0c1]) (ringMk 1 L0)) := Q_4.out.below hh5
  have HZ5 : Hid (w4.heap.size ≤ w5.heap.size) := hh5.size
  clear c4_0_0 c4_0_1 hz4_0 c4_1_0 c4_1_1 hz4_1 Q_4 hb5 hh5
  go_wp2_with fail
  refine (HIM.out _ ).mono ?_
  rintro e w6 ⟨e0a0, e0n0, e0c0, e0a1, e0n1, e0c1, rfl, hu6, hb6⟩
  have hh6 : Below w5.heap.size w5 w6 := hb6
  have HB6 : Hid (Below w.heap.size w w6) := HB5.out.trans (hh6.mono HB5.out.size)
  have BC6 : Hid (Below w1.heap.size w1 w6) := BC5.out.trans (hh6.mono BC5.out.size)
  have c6_0_0 := (hh6.cell (p := ⟨(w1.heap.size), 0, none⟩) hz5_0).trans c5_0_0
  have c6_0_1 := (hh6.cell (p := ⟨(w1.heap.size), 1, none⟩) hz5_0).trans c5_0_1
  have hz6_0 : (w1.heap.size) < w6.heap.size := Nat.lt_of_lt_of_le hz5_0 hh6.size
  have c6_1_0 := (hh6.cell (p := ⟨(w2.heap.size), 0, none⟩) hz5_1).trans c5_1_0
  have c6_1_1 := (hh6.cell (p := ⟨(w2.heap.size), 1, none⟩) hz5_1).trans c5_1_1
  have hz6_1 : (w2.heap.size) < w6.heap.size := Nat.lt_of_lt_of_le hz5_1 hh6.size
  have Q_6 : Hid (RingOwn (w1.heap.size + 1) w2.heap.size w6 (.agg #[.slice g0a0 g0n0 g0c0, .slice g0a1 g0n1 g0c1]) (ringMk 1 L0)) := Q_5.out.below hh6
  have HZ6 : Hid (w5.heap.size ≤ w6.heap.size) := hh6.size
  clear c5_0_0 c5_0_1 hz5_0 c5_1_0 c5_1_1 hz5_1 Q_5 hb6 hh6
  have HW_6 : Hid (RingAt w6 (.agg #[.slice e0a0 e0n0 e0c0, .slice e0a1 e0n1 e0c1]) L0) := hu6.at
  clear hu6
  go_wp2_with fail
  have HX6 : Hid (Below w6.heap.size w6 (w6.alloc (.cells #[.slice e0a0 e0n0 e0c0, .slice e0a1 e0n1 e0c1] 28))) := ((Below.refl _ _).alloc (Nat.le_refl _) _)
  refine (eqRing_u _ _ _ L0 (HW_6.out.below HX6.out) (HU.out.below (BC6.out.trans (Below.mono HX6.out BC6.out.size)))).mono ?_
  rintro e w7 ⟨rfl, hb7⟩
  have hh7 : Below w6.heap.size w6 w7 := Below.trans HX6.out (Below.mono hb7 (Below.size HX6.out))
  have HB7 : Hid (Below w.heap.size w w7) := HB6.out.trans (hh7.mono HB6.out.size)
  have BC7 : Hid (Below w1.heap.size w1 w7) := BC6.out.trans (hh7.mono BC6.out.size)
  have c7_0_0 := (hh7.cell (p := ⟨(w1.heap.size), 0, none⟩) hz6_0).trans c6_0_0
  have c7_0_1 := (hh7.cell (p := ⟨(w1.heap.size), 1, none⟩) hz6_0).trans c6_0_1
  have hz7_0 : (w1.heap.size) < w7.heap.size := Nat.lt_of_lt_of_le hz6_0 hh7.size
  have c7_1_0 := (hh7.cell (p := ⟨(w2.heap.size), 0, none⟩) hz6_1).trans c6_1_0
  have c7_1_1 := (hh7.cell (p := ⟨(w2.heap.size), 1, none⟩) hz6_1).trans c6_1_1
  have hz7_1 : (w2.heap.size) < w7.heap.size := Nat.lt_of_lt_of_le hz6_1 hh7.size
  have Q_7 : Hid (RingOwn (w1.heap.size + 1) w2.heap.size w7 (.agg #[.slice g0a0 g0n0 g0c0, .slice g0a1 g0n1 g0c1]) (ringMk 1 L0)) := Q_6.out.below hh7
  have HW_7 : Hid (RingAt w7 (.agg #[.slice e0a0 e0n0 e0c0, .slice e0a1 e0n1 e0c1]) L0) := HW_6.out.below hh7
  have c7_2_0 : w7.cell? ⟨(w6.heap.size), 0, none⟩ = some (.slice e0a0 e0n0 e0c0) := (hb7.cell (p := ⟨(w6.heap.size), 0, none⟩) (by simp <;> omega)).trans (by simp [go_sem])
  have c7_2_1 : w7.cell? ⟨(w6.heap.size), 1, none⟩ = some (.slice e0a1 e0n1 e0c1) := (hb7.cell (p := ⟨(w6.heap.size), 1, none⟩) (by simp <;> omega)).trans (by simp [go_sem])
  have hz7_2 : (w6.heap.size) < w7.heap.size := by have := hb7.size; simp at this; omega
  have HZ7 : Hid (w6.heap.size + 1 ≤ w7.heap.size) := by have := hb7.size; simp at this; show _ ≤ _; omega
  clear c6_0_0 c6_0_1 hz6_0 c6_1_0 c6_1_1 hz6_1 Q_6 HW_6 hb7 hh7
  go_wp2_with fail
  refine (cK (heldRing_u _ _ 1 L0 (Q_7.out).at HSM.out (by omega)) HKM.out).mono ?_
  rintro e w8 ⟨rfl, hb8⟩
  have hh8 : Below w7.heap.size w7 w8 := hb8
  have HB8 : Hid (Below w.heap.size w w8) := HB7.out.trans (hh8.mono HB7.out.size)
  have BC8 : Hid (Below w1.heap.size w1 w8) := BC7.out.trans (hh8.mono BC7.out.size)
  have c8_0_0 := (hh8.cell (p := ⟨(w1.heap.size), 0, none⟩) hz7_0).trans c7_0_0
  have c8_0_1 := (hh8.cell (p := ⟨(w1.heap.size), 1, none⟩) hz7_0).trans c7_0_1
  have hz8_0 : (w1.heap.size) < w8.heap.size := Nat.lt_of_lt_of_le hz7_0 hh8.size
  have c8_1_0 := (hh8.cell (p := ⟨(w2.heap.size), 0, none⟩) hz7_1).trans c7_1_0
  have c8_1_1 := (hh8.cell (p := ⟨(w2.heap.size), 1, none⟩) hz7_1).trans c7_1_1
  have hz8_1 : (w2.heap.size) < w8.heap.size := Nat.lt_of_lt_of_le hz7_1 hh8.size
  have c8_2_0 := (hh8.cell (p := ⟨(w6.heap.size), 0, none⟩) hz7_2).trans c7_2_0
  have c8_2_1 := (hh8.cell (p := ⟨(w6.heap.size), 1, none⟩) hz7_2).trans c7_2_1
  have hz8_2 : (w6.heap.size) < w8.heap.size := Nat.lt_of_lt_of_le hz7_2 hh8.size
  have Q_8 : Hid (RingOwn (w1.heap.size + 1) w2.heap.size w8 (.agg #[.slice g0a0 g0n0 g0c0, .slice g0a1 g0n1 g0c1]) (ringMk 1 L0)) := Q_7.out.below hh8
  have HW_8 : Hid (RingAt w8 (.agg #[.slice e0a0 e0n0 e0c0, .slice e0a1 e0n1 e0c1]) L0) := HW_7.out.below hh8
  have HZ8 : Hid (w7.heap.size ≤ w8.heap.size) := hh8.size
  clear c7_0_0 c7_0_1 hz7_0 c7_1_0 c7_1_1 hz7_1 c7_2_0 c7_2_1 hz7_2 Q_7 HW_7 hb8 hh8
  go_wp2
  go_ret
  exact ⟨rfl, HB8.out⟩
end Go.Proofs.Ytdjdlbkaganocaa
