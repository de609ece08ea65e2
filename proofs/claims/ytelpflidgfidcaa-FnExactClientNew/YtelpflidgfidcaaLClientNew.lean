/-
  The law FnExactClientNew.
-/
import Derived.Test.YtelpflidgfidcaaW142
import Derived.Test.YtelpflidgfidcaaW143
import Derived.Test.YtelpflidgfidcaaW144
import Derived.Test.YtelpflidgfidcaaW161
import Derived.Deep.DeepCutAuto
import Derived.Deep.RegionHeld3
namespace Go.Proofs.Ytelpflidgfidcaa
open Go.RowKit
set_option linter.unusedVariables false
set_option maxRecDepth 100000 in
set_option maxHeartbeats 4000000 in
theorem fnExactClientNew_walk (s0 : ByteArray) (w : World) (h0 : s0.size ≤ maxLen) :
    Calls Try.prog 3 #[.string s0] w fun e w' => e = .returned (.bool true) ∧ Below w.heap.size w w' := by
  by_cases hg0 : (s0.size : Int) > 1048576
  · unfold maxLen at h0
    go_enter Try.func3, Try.ntmps3
    go_wp2
    go_ret
    exact ⟨rfl, (Below.refl _ _)⟩
  have hg0x : ¬ (1048576 : Int) < s0.size := by omega
  have hl0 : s0.size ≤ 1048576 := by omega
  obtain ⟨L0, hL0⟩ : ∃ L, newT s0 = L := ⟨_, rfl⟩
  have HSM : Hid (ClientSm L0) := by rw [← hL0]; exact newT_small s0
  have HSP : Hid (∀ (w : World), Calls Try.prog 4 #[.string s0] w fun e w' => ∃ (qb0 : ByteArray) (qb1 : Bool) (qb2 : Int) (qa3 : Option Addr) (qn3 qc3 : Nat) (qa4 : Option Addr) (qn4 qc4 : Nat) (qb5 : ByteArray), e = .returned (.agg #[.string qb0, .bool qb1, .int .i64 qb2, .slice qa3 qn3 qc3, .slice qa4 qn4 qc4, .string qb5]) ∧ ClientAt w' (.agg #[.string qb0, .bool qb1, .int .i64 qb2, .slice qa3 qn3 qc3, .slice qa4 qn4 qc4, .string qb5]) L0 ∧ Below w.heap.size w w') := fun w => by
    rw [← hL0]
    refine Calls.mono (specClientNew_any w s0 h0) ?_
    rintro e w' ⟨v, rfl, h1, h2⟩
    obtain ⟨_, _, _, _, _, _, _, _, _, _, rfl⟩ := ClientAt.form2 h1
    exact ⟨_, _, _, _, _, _, _, _, _, _, rfl, h1, h2⟩
  have HIM : Hid (∀ (w : World), Calls Try.prog 5 #[.string s0] w fun e w' => ∃ (qb0 : ByteArray) (qb1 : Bool) (qb2 : Int) (qa3 : Option Addr) (qn3 qc3 : Nat) (qa4 : Option Addr) (qn4 qc4 : Nat) (qb5 : ByteArray), e = .returned (.agg #[.string qb0, .bool qb1, .int .i64 qb2, .slice qa3 qn3 qc3, .slice qa4 qn4 qc4, .string qb5]) ∧ ClientOwn w.heap.size w'.heap.size w' (.agg #[.string qb0, .bool qb1, .int .i64 qb2, .slice qa3 qn3 qc3, .slice qa4 qn4 qc4, .string qb5]) L0 ∧ Below w.heap.size w w') := fun w => by
    rw [← hL0]
    refine Calls.mono (implClientNew_any w s0 h0) ?_
    rintro e w' ⟨v, rfl, h1, h2⟩
    obtain ⟨_, _, _, _, _, _, _, _, _, _, rfl⟩ := ClientAt.form2 h1.at
    exact ⟨_, _, _, _, _, _, _, _, _, _, rfl, h1, h2⟩
  clear hL0
  go_enter Try.func3, Try.ntmps3
  go_wp2_with fail
  refine (HSP.out _ ).mono ?_
  rintro e w1 ⟨p0b0, p0b1, p0b2, p0a3, p0n3, p0c3, p0a4, p0n4, p0c4, p0b5, rfl, hu1, hb1⟩
  have hh1 : Below w.heap.size w w1 := hb1
  have HB1 : Hid (Below w.heap.size w w1) := hh1
  have HZ1 : Hid (w.heap.size ≤ w1.heap.size) := hh1.size
  clear hb1 hh1
  have HU : Hid (ClientAt w1 (.agg #[.string p0b0, .bool p0b1, .int .i64 p0b2, .slice p0a3 p0n3 p0c3, .slice p0a4 p0n4 p0c4, .string p0b5]) L0) := hu1
  clear hu1
  go_wp2_with fail
  have HX1 : Hid (Below w1.heap.size w1 (w1.alloc (.cells #[.string p0b0, .bool p0b1, .int .i64 p0b2, .slice p0a3 p0n3 p0c3, .slice p0a4 p0n4 p0c4, .string p0b5] 27))) := ((Below.refl _ _).alloc (Nat.le_refl _) _)
  refine (HIM.out _ ).mono ?_
  rintro e w2 ⟨g0b0, g0b1, g0b2, g0a3, g0n3, g0c3, g0a4, g0n4, g0c4, g0b5, rfl, hu2, hb2⟩
  simp only [World.size_alloc] at hu2
  have hh2 : Below w1.heap.size w1 w2 := Below.trans HX1.out (Below.mono hb2 (Below.size HX1.out))
  have HB2 : Hid (Below w.heap.size w w2) := HB1.out.trans (hh2.mono HB1.out.size)
  have BC2 : Hid (Below w1.heap.size w1 w2) := hh2
  have c2_0_0 : w2.cell? ⟨(w1.heap.size), 0, none⟩ = some (.string p0b0) := (hb2.cell (p := ⟨(w1.heap.size), 0, none⟩) (by simp <;> omega)).trans (by simp [go_sem])
  have c2_0_1 : w2.cell? ⟨(w1.heap.size), 1, none⟩ = some (.bool p0b1) := (hb2.cell (p := ⟨(w1.heap.size), 1, none⟩) (by simp <;> omega)).trans (by simp [go_sem])
  have c2_0_2 : w2.cell? ⟨(w1.heap.size), 2, none⟩ = some (.int .i64 p0b2) := (hb2.cell (p := ⟨(w1.heap.size), 2, none⟩) (by simp <;> omega)).trans (by simp [go_sem])
  have c2_0_3 : w2.cell? ⟨(w1.heap.size), 3, none⟩ = some (.slice p0a3 p0n3 p0c3) := (hb2.cell (p := ⟨(w1.heap.size), 3, none⟩) (by simp <;> omega)).trans (by simp [go_sem])
  have c2_0_4 : w2.cell? ⟨(w1.heap.size), 4, none⟩ = some (.slice p0a4 p0n4 p0c4) := (hb2.cell (p := ⟨(w1.heap.size), 4, none⟩) (by simp <;> omega)).trans (by simp [go_sem])
  have c2_0_5 : w2.cell? ⟨(w1.heap.size), 5, none⟩ = some (.string p0b5) := (hb2.cell (p := ⟨(w1.heap.size), 5, none⟩) (by simp <;> omega)).trans (by simp [go_sem])
  have hz2_0 : (w1.heap.size) < w2.heap.size := by have := hb2.size; simp at this; omega
  have HZ2 : Hid (w1.heap.size + 1 ≤ w2.heap.size) := by have := hb2.size; simp at this; show _ ≤ _; omega
  clear hb2 hh2
  have G_2 : Hid (ClientOwn (w1.heap.size + 1) w2.heap.size w2 (.agg #[.string g0b0, .bool g0b1, .int .i64 g0b2, .slice g0a3 g0n3 g0c3, .slice g0a4 g0n4 g0c4, .string g0b5]) L0) := hu2
  clear hu2
  go_wp2_with fail
  have HX2 : Hid (Below w2.heap.size w2 (w2.alloc (.cells #[.string g0b0, .bool g0b1, .int .i64 g0b2, .slice g0a3 g0n3 g0c3, .slice g0a4 g0n4 g0c4, .string g0b5] 27))) := ((Below.refl _ _).alloc (Nat.le_refl _) _)
  refine (eqClient_u _ _ _ L0 ((G_2.out.below HX2.out)).at (HU.out.below (BC2.out.trans (Below.mono HX2.out BC2.out.size)))).mono ?_
  rintro e w3 ⟨rfl, hb3⟩
  have hh3 : Below w2.heap.size w2 w3 := Below.trans HX2.out (Below.mono hb3 (Below.size HX2.out))
  have HB3 : Hid (Below w.heap.size w w3) := HB2.out.trans (hh3.mono HB2.out.size)
  have BC3 : Hid (Below w1.heap.size w1 w3) := BC2.out.trans (hh3.mono BC2.out.size)
  have c3_0_0 := (hh3.cell (p := ⟨(w1.heap.size), 0, none⟩) hz2_0).trans c2_0_0
  have c3_0_1 := (hh3.cell (p := ⟨(w1.heap.size), 1, none⟩) hz2_0).trans c2_0_1
  have c3_0_2 := (hh3.cell (p := ⟨(w1.heap.size), 2, none⟩) hz2_0).trans c2_0_2
  have c3_0_3 := (hh3.cell (p := ⟨(w1.heap.size), 3, none⟩) hz2_0).trans c2_0_3
  have c3_0_4 := (hh3.cell (p := ⟨(w1.heap.size), 4, none⟩) hz2_0).trans c2_0_4
  have c3_0_5 := (hh3.cell (p := ⟨(w1.heap.size), 5, none⟩) hz2_0).trans c2_0_5
  have hz3_0 : (w1.heap.size) < w3.heap.size := Nat.lt_of_lt_of_le hz2_0 hh3.size
  have G_3 : Hid (ClientOwn (w1.heap.size + 1) w2.heap.size w3 (.agg #[.string g0b0, .bool g0b1, .int .i64 g0b2, .slice g0a3 g0n3 g0c3, .slice g0a4 g0n4 g0c4, .string g0b5]) L0) := G_2.out.below hh3
  have c3_1_0 : w3.cell? ⟨(w2.heap.size), 0, none⟩ = some (.string g0b0) := (hb3.cell (p := ⟨(w2.heap.size), 0, none⟩) (by simp <;> omega)).trans (by simp [go_sem])
  have c3_1_1 : w3.cell? ⟨(w2.heap.size), 1, none⟩ = some (.bool g0b1) := (hb3.cell (p := ⟨(w2.heap.size), 1, none⟩) (by simp <;> omega)).trans (by simp [go_sem])
  have c3_1_2 : w3.cell? ⟨(w2.heap.size), 2, none⟩ = some (.int .i64 g0b2) := (hb3.cell (p := ⟨(w2.heap.size), 2, none⟩) (by simp <;> omega)).trans (by simp [go_sem])
  have c3_1_3 : w3.cell? ⟨(w2.heap.size), 3, none⟩ = some (.slice g0a3 g0n3 g0c3) := (hb3.cell (p := ⟨(w2.heap.size), 3, none⟩) (by simp <;> omega)).trans (by simp [go_sem])
  have c3_1_4 : w3.cell? ⟨(w2.heap.size), 4, none⟩ = some (.slice g0a4 g0n4 g0c4) := (hb3.cell (p := ⟨(w2.heap.size), 4, none⟩) (by simp <;> omega)).trans (by simp [go_sem])
  have c3_1_5 : w3.cell? ⟨(w2.heap.size), 5, none⟩ = some (.string g0b5) := (hb3.cell (p := ⟨(w2.heap.size), 5, none⟩) (by simp <;> omega)).trans (by simp [go_sem])
  have hz3_1 : (w2.heap.size) < w3.heap.size := by have := hb3.size; simp at this; omega
  have HZ3 : Hid (w2.heap.size + 1 ≤ w3.heap.size) := by have := hb3.size; simp at this; show _ ≤ _; omega
  clear c2_0_0 c2_0_1 c2_0_2 c2_0_3 c2_0_4 c2_0_5 hz2_0 G_2 hb3 hh3
  go_wp2_with fail
  obtain ⟨km, hkm⟩ : ∃ K : Nat, 1 + clientCnt L0 = K := ⟨_, rfl⟩
  have smr := HSM.out
  have hcr : clientCnt L0 ≤ 40000000 := by unfold ClientSm BookSm at smr; unfold clientCnt bookCnt; omega
  clear smr
  have HKM : Hid (_ = km) := hkm
  refine (cK (markClient_u (w1.heap.size + 1) w2.heap.size 1 _ _ L0 G_3.out HSM.out (by omega) (by have z1 := HZ1.out; have z2 := HZ2.out; have z3 := HZ3.out; omega) (by have z1 := HZ1.out; have z2 := HZ2.out; have z3 := HZ3.out; omega)) HKM.out).mono ?_
  rintro e w4 ⟨rfl, hu4, hw4⟩
  have HB4 : Hid (Below w.heap.size w w4) := HB3.out.trans (hw4.1.mono (show w.heap.size ≤ (w1.heap.size + 1) from (by have z1 := HZ1.out; have z2 := HZ2.out; have z3 := HZ3.out; omega)))
  have BC4 : Hid (Below w1.heap.size w1 w4) := BC3.out.trans (hw4.1.mono (show w1.heap.size ≤ (w1.heap.size + 1) from (by have z1 := HZ1.out; have z2 := HZ2.out; have z3 := HZ3.out; omega)))
  have c4_0_0 := (wr_cell hw4 (b := (w1.heap.size)) 0 (by have z1 := HZ1.out; have z2 := HZ2.out; have z3 := HZ3.out; omega) hz3_0).trans c3_0_0
  have c4_0_1 := (wr_cell hw4 (b := (w1.heap.size)) 1 (by have z1 := HZ1.out; have z2 := HZ2.out; have z3 := HZ3.out; omega) hz3_0).trans c3_0_1
  have c4_0_2 := (wr_cell hw4 (b := (w1.heap.size)) 2 (by have z1 := HZ1.out; have z2 := HZ2.out; have z3 := HZ3.out; omega) hz3_0).trans c3_0_2
  have c4_0_3 := (wr_cell hw4 (b := (w1.heap.size)) 3 (by have z1 := HZ1.out; have z2 := HZ2.out; have z3 := HZ3.out; omega) hz3_0).trans c3_0_3
  have c4_0_4 := (wr_cell hw4 (b := (w1.heap.size)) 4 (by have z1 := HZ1.out; have z2 := HZ2.out; have z3 := HZ3.out; omega) hz3_0).trans c3_0_4
  have c4_0_5 := (wr_cell hw4 (b := (w1.heap.size)) 5 (by have z1 := HZ1.out; have z2 := HZ2.out; have z3 := HZ3.out; omega) hz3_0).trans c3_0_5
  have hz4_0 : (w1.heap.size) < w4.heap.size := Nat.lt_of_lt_of_le hz3_0 hw4.sz
  have c4_1_0 := (wr_cell hw4 (b := (w2.heap.size)) 0 (by have z1 := HZ1.out; have z2 := HZ2.out; have z3 := HZ3.out; omega) hz3_1).trans c3_1_0
  have c4_1_1 := (wr_cell hw4 (b := (w2.heap.size)) 1 (by have z1 := HZ1.out; have z2 := HZ2.out; have z3 := HZ3.out; omega) hz3_1).trans c3_1_1
  have c4_1_2 := (wr_cell hw4 (b := (w2.heap.size)) 2 (by have z1 := HZ1.out; have z2 := HZ2.out; have z3 := HZ3.out; omega) hz3_1).trans c3_1_2
  have c4_1_3 := (wr_cell hw4 (b := (w2.heap.size)) 3 (by have z1 := HZ1.out; have z2 := HZ2.out; have z3 := HZ3.out; omega) hz3_1).trans c3_1_3
  have c4_1_4 := (wr_cell hw4 (b := (w2.heap.size)) 4 (by have z1 := HZ1.out; have z2 := HZ2.out; have z3 := HZ3.out; omega) hz3_1).trans c3_1_4
  have c4_1_5 := (wr_cell hw4 (b := (w2.heap.size)) 5 (by have z1 := HZ1.out; have z2 := HZ2.out; have z3 := HZ3.out; omega) hz3_1).trans c3_1_5
  have hz4_1 : (w2.heap.size) < w4.heap.size := Nat.lt_of_lt_of_le hz3_1 hw4.sz
  have HZ4 : Hid (w3.heap.size ≤ w4.heap.size) := hw4.sz
  clear c3_0_0 c3_0_1 c3_0_2 c3_0_3 c3_0_4 c3_0_5 hz3_0 c3_1_0 c3_1_1 c3_1_2 c3_1_3 c3_1_4 c3_1_5 hz3_1 hw4
  have Q_4 : Hid (ClientOwn (w1.heap.size + 1) w2.heap.size w4 (.agg #[.string g0b0, .bool g0b1, .int .i64 g0b2, .slice g0a3 g0n3 g0c3, .slice g0a4 g0n4 g0c4, .string g0b5]) (clientMk 1 L0)) := hu4
  clear hu4
  have hkmn : ¬ ((km : Int) < 0) := by omega
  clear hkm
  go_wp2_with fail
  refine (cK (heldClient_u _ _ 1 L0 (Q_4.out).at HSM.out (by omega)) HKM.out).mono ?_
  rintro e w5 ⟨rfl, hb5⟩
  have hh5 : Below w4.heap.size w4 w5 := hb5
  have HB5 : Hid (Below w.heap.size w w5) := HB4.out.trans (hh5.mono HB4.out.size)
  have BC5 : Hid (Below w1.heap.size w1 w5) := BC4.out.trans (hh5.mono BC4.out.size)
  have c5_0_0 := (hh5.cell (p := ⟨(w1.heap.size), 0, none⟩) hz4_0).trans c4_0_0
  have c5_0_1 := (hh5.cell (p := ⟨(w1.heap.size), 1, none⟩) hz4_0).trans c4_0_1
  have c5_0_2 := (hh5.cell (p := ⟨(w1.heap.size), 2, none⟩) hz4_0).trans c4_0_2
  have c5_0_3 := (hh5.cell (p := ⟨(w1.heap.size), 3, none⟩) hz4_0).trans c4_0_3
  have c5_0_4 := (hh5.cell (p := ⟨(w1.heap.size), 4, none⟩) hz4_0).trans c4_0_4
  have c5_0_5 := (hh5.cell (p := ⟨(w1.heap.size), 5, none⟩) hz4_0).trans c4_0_5
  have hz5_0 : (w1.heap.size) < w5.heap.size := Nat.lt_of_lt_of_le hz4_0 hh5.size
  have c5_1_0 := (hh5.cell (p := ⟨(w2.heap.size), 0, none⟩) hz4_1).trans c4_1_0
  have c5_1_1 := (hh5.cell (p := ⟨(w2.heap.size), 1, none⟩) hz4_1).trans c4_1_1
  have c5_1_2 := (hh5.cell (p := ⟨(w2.heap.size), 2, none⟩) hz4_1).trans c4_1_2
  have c5_1_3 := (hh5.cell (p := ⟨(w2.heap.size), 3, none⟩) hz4_1).trans c4_1_3
  have c5_1_4 := (hh5.cell (p := ⟨(w2.heap.size), 4, none⟩) hz4_1).trans c4_1_4
  have c5_1_5 := (hh5.cell (p := ⟨(w2.heap.size), 5, none⟩) hz4_1).trans c4_1_5
  have hz5_1 : (w2.heap.size) < w5.heap.size := Nat.lt_of_lt_of_le hz4_1 hh5.size
  have Q_5 : Hid (ClientOwn (w1.heap.size + 1) w2.heap.size w5 (.agg #[.string g0b0, .bool g0b1, .int .i64 g0b2, .slice g0a3 g0n3 g0c3, .slice g0a4 g0n4 g0c4, .string g0b5]) (clientMk 1 L0)) := Q_4.out.below hh5
  have HZ5 : Hid (w4.heap.size ≤ w5.heap.size) := hh5.size
  clear c4_0_0 c4_0_1 c4_0_2 c4_0_3 c4_0_4 c4_0_5 hz4_0 c4_1_0 c4_1_1 c4_1_2 c4_1_3 c4_1_4 c4_1_5 hz4_1 Q_4 hb5 hh5
  go_wp2_with fail
  refine (HIM.out _ ).mono ?_
  rintro e w6 ⟨e0b0, e0b1, e0b2, e0a3, e0n3, e0c3, e0a4, e0n4, e0c4, e0b5, rfl, hu6, hb6⟩
  have hh6 : Below w5.heap.size w5 w6 := hb6
  have HB6 : Hid (Below w.heap.size w w6) := HB5.out.trans (hh6.mono HB5.out.size)
  have BC6 : Hid (Below w1.heap.size w1 w6) := BC5.out.trans (hh6.mono BC5.out.size)
  have c6_0_0 := (hh6.cell (p := ⟨(w1.heap.size), 0, none⟩) hz5_0).trans c5_0_0
  have c6_0_1 := (hh6.cell (p := ⟨(w1.heap.size), 1, none⟩) hz5_0).trans c5_0_1
  have c6_0_2 := (hh6.cell (p := ⟨(w1.heap.size), 2, none⟩) hz5_0).trans c5_0_2
  have c6_0_3 := (hh6.cell (p := ⟨(w1.heap.size), 3, none⟩) hz5_0).trans c5_0_3
  have c6_0_4 := (hh6.cell (p := ⟨(w1.heap.size), 4, none⟩) hz5_0).trans c5_0_4
  have c6_0_5 := (hh6.cell (p := ⟨(w1.heap.size), 5, none⟩) hz5_0).trans c5_0_5
  have hz6_0 : (w1.heap.size) < w6.heap.size := Nat.lt_of_lt_of_le hz5_0 hh6.size
  have c6_1_0 := (hh6.cell (p := ⟨(w2.heap.size), 0, none⟩) hz5_1).trans c5_1_0
  have c6_1_1 := (hh6.cell (p := ⟨(w2.heap.size), 1, none⟩) hz5_1).trans c5_1_1
  have c6_1_2 := (hh6.cell (p := ⟨(w2.heap.size), 2, none⟩) hz5_1).trans c5_1_2
  have c6_1_3 := (hh6.cell (p := ⟨(w2.heap.size), 3, none⟩) hz5_1).trans c5_1_3
  have c6_1_4 := (hh6.cell (p := ⟨(w2.heap.size), 4, none⟩) hz5_1).trans c5_1_4
  have c6_1_5 := (hh6.cell (p := ⟨(w2.heap.size), 5, none⟩) hz5_1).trans c5_1_5
  have hz6_1 : (w2.heap.size) < w6.heap.size := Nat.lt_of_lt_of_le hz5_1 hh6.size
  have Q_6 : Hid (ClientOwn (w1.heap.size + 1) w2.heap.size w6 (.agg #[.string g0b0, .bool g0b1, .int .i64 g0b2, .slice g0a3 g0n3 g0c3, .slice g0a4 g0n4 g0c4, .string g0b5]) (clientMk 1 L0)) := Q_5.out.below hh6
  have HZ6 : Hid (w5.heap.size ≤ w6.heap.size) := hh6.size
  clear c5_0_0 c5_0_1 c5_0_2 c5_0_3 c5_0_4 c5_0_5 hz5_0 c5_1_0 c5_1_1 c5_1_2 c5_1_3 c5_1_4 c5_1_5 hz5_1 Q_5 hb6 hh6
  have HW_6 : Hid (ClientAt w6 (.agg #[.string e0b0, .bool e0b1, .int .i64 e0b2, .slice e0a3 e0n3 e0c3, .slice e0a4 e0n4 e0c4, .string e0b5]) L0) := hu6.at
  clear hu6
  go_wp2_with fail
  have HX6 : Hid (Below w6.heap.size w6 (w6.alloc (.cells #[.string e0b0, .bool e0b1, .int .i64 e0b2, .slice e0a3 e0n3 e0c3, .slice e0a4 e0n4 e0c4, .string e0b5] 27))) := ((Below.refl _ _).alloc (Nat.le_refl _) _)
  refine (eqClient_u _ _ _ L0 (HW_6.out.below HX6.out) (HU.out.below (BC6.out.trans (Below.mono HX6.out BC6.out.size)))).mono ?_
  rintro e w7 ⟨rfl, hb7⟩
  have hh7 : Below w6.heap.size w6 w7 := Below.trans HX6.out (Below.mono hb7 (Below.size HX6.out))
  have HB7 : Hid (Below w.heap.size w w7) := HB6.out.trans (hh7.mono HB6.out.size)
  have BC7 : Hid (Below w1.heap.size w1 w7) := BC6.out.trans (hh7.mono BC6.out.size)
  have c7_0_0 := (hh7.cell (p := ⟨(w1.heap.size), 0, none⟩) hz6_0).trans c6_0_0
  have c7_0_1 := (hh7.cell (p := ⟨(w1.heap.size), 1, none⟩) hz6_0).trans c6_0_1
  have c7_0_2 := (hh7.cell (p := ⟨(w1.heap.size), 2, none⟩) hz6_0).trans c6_0_2
  have c7_0_3 := (hh7.cell (p := ⟨(w1.heap.size), 3, none⟩) hz6_0).trans c6_0_3
  have c7_0_4 := (hh7.cell (p := ⟨(w1.heap.size), 4, none⟩) hz6_0).trans c6_0_4
  have c7_0_5 := (hh7.cell (p := ⟨(w1.heap.size), 5, none⟩) hz6_0).trans c6_0_5
  have hz7_0 : (w1.heap.size) < w7.heap.size := Nat.lt_of_lt_of_le hz6_0 hh7.size
  have c7_1_0 := (hh7.cell (p := ⟨(w2.heap.size), 0, none⟩) hz6_1).trans c6_1_0
  have c7_1_1 := (hh7.cell (p := ⟨(w2.heap.size), 1, none⟩) hz6_1).trans c6_1_1
  have c7_1_2 := (hh7.cell (p := ⟨(w2.heap.size), 2, none⟩) hz6_1).trans c6_1_2
  have c7_1_3 := (hh7.cell (p := ⟨(w2.heap.size), 3, none⟩) hz6_1).trans c6_1_3
  have c7_1_4 := (hh7.cell (p := ⟨(w2.heap.size), 4, none⟩) hz6_1).trans c6_1_4
  have c7_1_5 := (hh7.cell (p := ⟨(w2.heap.size), 5, none⟩) hz6_1).trans c6_1_5
  have hz7_1 : (w2.heap.size) < w7.heap.size := Nat.lt_of_lt_of_le hz6_1 hh7.size
  have Q_7 : Hid (ClientOwn (w1.heap.size + 1) w2.heap.size w7 (.agg #[.string g0b0, .bool g0b1, .int .i64 g0b2, .slice g0a3 g0n3 g0c3, .slice g0a4 g0n4 g0c4, .string g0b5]) (clientMk 1 L0)) := Q_6.out.below hh7
  have HW_7 : Hid (ClientAt w7 (.agg #[.string e0b0, .bool e0b1, .int .i64 e0b2, .slice e0a3 e0n3 e0c3, .slice e0a4 e0n4 e0c4, .string e0b5]) L0) := HW_6.out.below hh7
  have c7_2_0 : w7.cell? ⟨(w6.heap.size), 0, none⟩ = some (.string e0b0) := (hb7.cell (p := ⟨(w6.heap.size), 0, none⟩) (by simp <;> omega)).trans (by simp [go_sem])
  have c7_2_1 : w7.cell? ⟨(w6.heap.size), 1, none⟩ = some (.bool e0b1) := (hb7.cell (p := ⟨(w6.heap.size), 1, none⟩) (by simp <;> omega)).trans (by simp [go_sem])
  have c7_2_2 : w7.cell? ⟨(w6.heap.size), 2, none⟩ = some (.int .i64 e0b2) := (hb7.cell (p := ⟨(w6.heap.size), 2, none⟩) (by simp <;> omega)).trans (by simp [go_sem])
  have c7_2_3 : w7.cell? ⟨(w6.heap.size), 3, none⟩ = some (.slice e0a3 e0n3 e0c3) := (hb7.cell (p := ⟨(w6.heap.size), 3, none⟩) (by simp <;> omega)).trans (by simp [go_sem])
  have c7_2_4 : w7.cell? ⟨(w6.heap.size), 4, none⟩ = some (.slice e0a4 e0n4 e0c4) := (hb7.cell (p := ⟨(w6.heap.size), 4, none⟩) (by simp <;> omega)).trans (by simp [go_sem])
  have c7_2_5 : w7.cell? ⟨(w6.heap.size), 5, none⟩ = some (.string e0b5) := (hb7.cell (p := ⟨(w6.heap.size), 5, none⟩) (by simp <;> omega)).trans (by simp [go_sem])
  have hz7_2 : (w6.heap.size) < w7.heap.size := by have := hb7.size; simp at this; omega
  have HZ7 : Hid (w6.heap.size + 1 ≤ w7.heap.size) := by have := hb7.size; simp at this; show _ ≤ _; omega
  clear c6_0_0 c6_0_1 c6_0_2 c6_0_3 c6_0_4 c6_0_5 hz6_0 c6_1_0 c6_1_1 c6_1_2 c6_1_3 c6_1_4 c6_1_5 hz6_1 Q_6 HW_6 hb7 hh7
  go_wp2_with fail
  refine (cK (heldClient_u _ _ 1 L0 (Q_7.out).at HSM.out (by omega)) HKM.out).mono ?_
  rintro e w8 ⟨rfl, hb8⟩
  have hh8 : Below w7.heap.size w7 w8 := hb8
  have HB8 : Hid (Below w.heap.size w w8) := HB7.out.trans (hh8.mono HB7.out.size)
  have BC8 : Hid (Below w1.heap.size w1 w8) := BC7.out.trans (hh8.mono BC7.out.size)
  have c8_0_0 := (hh8.cell (p := ⟨(w1.heap.size), 0, none⟩) hz7_0).trans c7_0_0
  have c8_0_1 := (hh8.cell (p := ⟨(w1.heap.size), 1, none⟩) hz7_0).trans c7_0_1
  have c8_0_2 := (hh8.cell (p := ⟨(w1.heap.size), 2, none⟩) hz7_0).trans c7_0_2
  have c8_0_3 := (hh8.cell (p := ⟨(w1.heap.size), 3, none⟩) hz7_0).trans c7_0_3
  have c8_0_4 := (hh8.cell (p := ⟨(w1.heap.size), 4, none⟩) hz7_0).trans c7_0_4
  have c8_0_5 := (hh8.cell (p := ⟨(w1.heap.size), 5, none⟩) hz7_0).trans c7_0_5
  have hz8_0 : (w1.heap.size) < w8.heap.size := Nat.lt_of_lt_of_le hz7_0 hh8.size
  have c8_1_0 := (hh8.cell (p := ⟨(w2.heap.size), 0, none⟩) hz7_1).trans c7_1_0
  have c8_1_1 := (hh8.cell (p := ⟨(w2.heap.size), 1, none⟩) hz7_1).trans c7_1_1
  have c8_1_2 := (hh8.cell (p := ⟨(w2.heap.size), 2, none⟩) hz7_1).trans c7_1_2
  have c8_1_3 := (hh8.cell (p := ⟨(w2.heap.size), 3, none⟩) hz7_1).trans c7_1_3
  have c8_1_4 := (hh8.cell (p := ⟨(w2.heap.size), 4, none⟩) hz7_1).trans c7_1_4
  have c8_1_5 := (hh8.cell (p := ⟨(w2.heap.size), 5, none⟩) hz7_1).trans c7_1_5
  have hz8_1 : (w2.heap.size) < w8.heap.size := Nat.lt_of_lt_of_le hz7_1 hh8.size
  have c8_2_0 := (hh8.cell (p := ⟨(w6.heap.size), 0, none⟩) hz7_2).trans c7_2_0
  have c8_2_1 := (hh8.cell (p := ⟨(w6.heap.size), 1, none⟩) hz7_2).trans c7_2_1
  have c8_2_2 := (hh8.cell (p := ⟨(w6.heap.size), 2, none⟩) hz7_2).trans c7_2_2
  have c8_2_3 := (hh8.cell (p := ⟨(w6.heap.size), 3, none⟩) hz7_2).trans c7_2_3
  have c8_2_4 := (hh8.cell (p := ⟨(w6.heap.size), 4, none⟩) hz7_2).trans c7_2_4
  have c8_2_5 := (hh8.cell (p := ⟨(w6.heap.size), 5, none⟩) hz7_2).trans c7_2_5
  have hz8_2 : (w6.heap.size) < w8.heap.size := Nat.lt_of_lt_of_le hz7_2 hh8.size
  have Q_8 : Hid (ClientOwn (w1.heap.size + 1) w2.heap.size w8 (.agg #[.string g0b0, .bool g0b1, .int .i64 g0b2, .slice g0a3 g0n3 g0c3, .slice g0a4 g0n4 g0c4, .string g0b5]) (clientMk 1 L0)) := Q_7.out.below hh8
  have HW_8 : Hid (ClientAt w8 (.agg #[.string e0b0, .bool e0b1, .int .i64 e0b2, .slice e0a3 e0n3 e0c3, .slice e0a4 e0n4 e0c4, .string e0b5]) L0) := HW_7.out.below hh8
  have HZ8 : Hid (w7.heap.size ≤ w8.heap.size) := hh8.size
  clear c7_0_0 c7_0_1 c7_0_2 c7_0_3 c7_0_4 c7_0_5 hz7_0 c7_1_0 c7_1_1 c7_1_2 c7_1_3 c7_1_4 c7_1_5 hz7_1 c7_2_0 c7_2_1 c7_2_2 c7_2_3 c7_2_4 c7_2_5 hz7_2 Q_7 HW_7 hb8 hh8
  go_wp2
  go_ret
  exact ⟨rfl, HB8.out⟩
end Go.Proofs.Ytelpflidgfidcaa
