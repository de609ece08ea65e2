/-
  The law FnExactDeltaOf.
-/
import Derived.Test.YtbbepdmogkadeaaW142
import Derived.Test.YtbbepdmogkadeaaW143
import Derived.Test.YtbbepdmogkadeaaW144
import Derived.Test.YtbbepdmogkadeaaW149
import Derived.Test.YtbbepdmogkadeaaW147
import Derived.Test.YtbbepdmogkadeaaW148
import Derived.Deep.DeepCutAuto
import Derived.Deep.RegionHeld3
namespace Go.Proofs.Ytbbepdmogkadeaa
open Go.RowKit
set_option linter.unusedVariables false
set_option maxRecDepth 100000 in
set_option maxHeartbeats 20000000 in
theorem fnExactDeltaOf_walk (va0 ve0 : Value) (xs0 : List Aff) (es0 : List (ByteArray × ByteArray)) (va1 ve1 : Value) (xs1 : List Aff) (es1 : List (ByteArray × ByteArray)) (w : World) (h0 : AffsAt w va0 xs0) (h0x : EntsAt w ve0 es0) (h1 : AffsAt w va1 xs1) (h1x : EntsAt w ve1 es1) :
    Calls Try.prog 3 #[.agg #[va0, ve0], .agg #[va1, ve1]] w fun e w' => e = .returned (.bool true) ∧ Below w.heap.size w w' := by
  have HA0 : Hid (BookAt w (.agg #[va0, ve0]) (xs0, es0)) := ⟨va0, ve0, rfl, h0, h0x⟩
  clear h0 h0x
  have HA1 : Hid (BookAt w (.agg #[va1, ve1]) (xs1, es1)) := ⟨va1, ve1, rfl, h1, h1x⟩
  clear h1 h1x
  obtain ⟨L0, hL0⟩ : ∃ L, dofT xs0 es0 xs1 es1 = L := ⟨_, rfl⟩
  have HSM : Hid (DeltaSm L0) := by rw [← hL0]; exact dofT_small xs0 es0 xs1 es1
  have HSP : Hid (∀ (w : World) (u0 : Value) (u1 : Value), BookAt w u0 (xs0, es0) → BookAt w u1 (xs1, es1) → Calls Try.prog 5 #[u0, u1] w fun e w' => ∃ (qa0 : Option Addr) (qn0 qc0 : Nat) (qa1 : Option Addr) (qn1 qc1 : Nat) (qb2 : Bool) (qa3 : Option Addr) (qn3 qc3 : Nat), e = .returned (.agg #[.slice qa0 qn0 qc0, .slice qa1 qn1 qc1, .bool qb2, .slice qa3 qn3 qc3]) ∧ DeltaAt w' (.agg #[.slice qa0 qn0 qc0, .slice qa1 qn1 qc1, .bool qb2, .slice qa3 qn3 qc3]) L0 ∧ Below w.heap.size w w') := fun w u0 u1 g0 g1 => by
    rw [← hL0]
    refine Calls.mono (by obtain ⟨va, ve, rfl, h1, h2⟩ := g0; obtain ⟨ua, ue, rfl, h3, h4⟩ := g1; exact specDeltaOf_any w va ve ua ue xs0 es0 xs1 es1 h1 h2 h3 h4) ?_
    rintro e w' ⟨v, rfl, h1, h2⟩
    obtain ⟨_, _, _, _, _, _, _, _, _, _, rfl⟩ := DeltaAt.form2 h1
    exact ⟨_, _, _, _, _, _, _, _, _, _, rfl, h1, h2⟩
  have HIM : Hid (∀ (w : World) (u0 : Value) (u1 : Value), BookAt w u0 (xs0, es0) → BookAt w u1 (xs1, es1) → Calls Try.prog 7 #[u0, u1] w fun e w' => ∃ (qa0 : Option Addr) (qn0 qc0 : Nat) (qa1 : Option Addr) (qn1 qc1 : Nat) (qb2 : Bool) (qa3 : Option Addr) (qn3 qc3 : Nat), e = .returned (.agg #[.slice qa0 qn0 qc0, .slice qa1 qn1 qc1, .bool qb2, .slice qa3 qn3 qc3]) ∧ DeltaOwn w.heap.size w'.heap.size w' (.agg #[.slice qa0 qn0 qc0, .slice qa1 qn1 qc1, .bool qb2, .slice qa3 qn3 qc3]) L0 ∧ Below w.heap.size w w') := fun w u0 u1 g0 g1 => by
    rw [← hL0]
    refine Calls.mono (by obtain ⟨va, ve, rfl, h1, h2⟩ := g0; obtain ⟨ua, ue, rfl, h3, h4⟩ := g1; exact implDeltaOf_any w va ve ua ue xs0 es0 xs1 es1 h1 h2 h3 h4) ?_
    rintro e w' ⟨v, rfl, h1, h2⟩
    obtain ⟨_, _, _, _, _, _, _, _, _, _, rfl⟩ := DeltaAt.form2 h1.at
    exact ⟨_, _, _, _, _, _, _, _, _, _, rfl, h1, h2⟩
  clear hL0
  go_enter Try.func3, Try.ntmps3
  go_wp2_with fail
  have HX0 : Hid (Below w.heap.size w ((w.alloc (.cells #[va0, ve0] 25)).alloc (.cells #[va1, ve1] 25))) := (((Below.refl _ _).alloc (Nat.le_refl _) _).alloc (by simp <;> omega) _)
  refine (szBook_u _ _ (xs0, es0) _ (HA0.out.below HX0.out) (by omega) (by omega)).mono ?_
  rintro e w1 ⟨⟨r0, rfl, hr0, hq0⟩, hb1⟩
  have HR0 : Hid (0 ≤ r0 → BookSm (xs0, es0)) := hq0
  clear hq0
  have hh1 : Below w.heap.size w w1 := Below.trans HX0.out (Below.mono hb1 (Below.size HX0.out))
  have HB1 : Hid (Below w.heap.size w w1) := hh1
  have c1_0_0 : w1.cell? ⟨(w.heap.size), 0, none⟩ = some (va0) := (hb1.cell (p := ⟨(w.heap.size), 0, none⟩) (by simp <;> omega)).trans (by simp [go_sem])
  have c1_0_1 : w1.cell? ⟨(w.heap.size), 1, none⟩ = some (ve0) := (hb1.cell (p := ⟨(w.heap.size), 1, none⟩) (by simp <;> omega)).trans (by simp [go_sem])
  have hz1_0 : (w.heap.size) < w1.heap.size := by have := hb1.size; simp at this; omega
  have c1_1_0 : w1.cell? ⟨(w.heap.size + 1), 0, none⟩ = some (va1) := (hb1.cell (p := ⟨(w.heap.size + 1), 0, none⟩) (by simp <;> omega)).trans (by simp [go_sem])
  have c1_1_1 : w1.cell? ⟨(w.heap.size + 1), 1, none⟩ = some (ve1) := (hb1.cell (p := ⟨(w.heap.size + 1), 1, none⟩) (by simp <;> omega)).trans (by simp [go_sem])
  have hz1_1 : (w.heap.size + 1) < w1.heap.size := by have := hb1.size; simp at this; omega
  have HZ1 : Hid (w.heap.size + 2 ≤ w1.heap.size) := by have := hb1.size; simp at this; show _ ≤ _; omega
  clear hb1 hh1
  by_cases hn0 : r0 < 0
  · go_wp2
    go_ret
    exact ⟨rfl, HB1.out⟩
  have HN0 : Hid (BookSm (xs0, es0)) := HR0.out (by omega)
  go_wp2_with fail
  refine (szBook_u _ _ (xs1, es1) _ (HA1.out.below HB1.out) (by omega) (by omega)).mono ?_
  rintro e w2 ⟨⟨r1, rfl, hr1, hq1⟩, hb2⟩
  have HR1 : Hid (0 ≤ r1 → BookSm (xs1, es1)) := hq1
  clear hq1
  have hh2 : Below w1.heap.size w1 w2 := hb2
  have HB2 : Hid (Below w.heap.size w w2) := HB1.out.trans (hh2.mono HB1.out.size)
  have c2_0_0 := (hh2.cell (p := ⟨(w.heap.size), 0, none⟩) hz1_0).trans c1_0_0
  have c2_0_1 := (hh2.cell (p := ⟨(w.heap.size), 1, none⟩) hz1_0).trans c1_0_1
  have hz2_0 : (w.heap.size) < w2.heap.size := Nat.lt_of_lt_of_le hz1_0 hh2.size
  have c2_1_0 := (hh2.cell (p := ⟨(w.heap.size + 1), 0, none⟩) hz1_1).trans c1_1_0
  have c2_1_1 := (hh2.cell (p := ⟨(w.heap.size + 1), 1, none⟩) hz1_1).trans c1_1_1
  have hz2_1 : (w.heap.size + 1) < w2.heap.size := Nat.lt_of_lt_of_le hz1_1 hh2.size
  have HZ2 : Hid (w1.heap.size ≤ w2.heap.size) := hh2.size
  clear c1_0_0 c1_0_1 hz1_0 c1_1_0 c1_1_1 hz1_1 hb2 hh2
  by_cases hn1 : r1 < 0
  · go_wp2
    go_ret
    exact ⟨rfl, HB2.out⟩
  have HN1 : Hid (BookSm (xs1, es1)) := HR1.out (by omega)
  go_wp2_with fail
  go_cut [6] (fun u wx => ∃ (B : Nat) (p0a0 : Option Addr) (p0n0 p0c0 : Nat) (p0a1 : Option Addr) (p0n1 p0c1 : Nat) (p0b2 : Bool) (p0a3 : Option Addr) (p0n3 p0c3 : Nat), u = .pointer (some ⟨B, 0, none⟩) ∧ DRow wx B (.slice p0a0 p0n0 p0c0) (.slice p0a1 p0n1 p0c1) p0b2 (.slice p0a3 p0n3 p0c3) ∧ DeltaAt wx (.agg #[.slice p0a0 p0n0 p0c0, .slice p0a1 p0n1 p0c1, .bool p0b2, .slice p0a3 p0n3 p0c3]) L0 ∧ Below w2.heap.size w2 wx ∧ w2.heap.size ≤ B)
  case first =>
    go_region_held3 (fun w' => w'.cell? ⟨(w.heap.size), 0, none⟩ = some (va0) ∧ w'.cell? ⟨(w.heap.size), 1, none⟩ = some (ve0) ∧ w'.cell? ⟨(w.heap.size + 1), 0, none⟩ = some (va1) ∧ w'.cell? ⟨(w.heap.size + 1), 1, none⟩ = some (ve1)) (first | go_keep | (refine ⟨?_, ?_, ?_, ?_⟩ <;> first | go_keep | (refine cell_set4 ?_ ?_ <;> first | assumption | omega)))
      (first
        | (have qm := HB4; clear qm; go_at_call 5; refine (HSP.out _ _ _ (Ua0_4.out.below (by first | exact Below.refl _ _ | exact (Below.refl _ _).drew | exact (Below.refl _ _).alloc (Nat.le_refl _) _ | exact ((Below.refl _ _).alloc (Nat.le_refl _) _).drew)) (Ua1_4.out.below (by first | exact Below.refl _ _ | exact (Below.refl _ _).drew | exact (Below.refl _ _).alloc (Nat.le_refl _) _ | exact ((Below.refl _ _).alloc (Nat.le_refl _) _).drew))).mono ?_; rintro e w5 ⟨p0a0, p0n0, p0c0, p0a1, p0n1, p0c1, p0b2, p0a3, p0n3, p0c3, rfl, hu5, hb5⟩; have hh5 : Below w4.heap.size w4 w5 := below_via hb5 (by first | exact Below.refl _ _ | exact (Below.refl _ _).drew | exact (Below.refl _ _).alloc (Nat.le_refl _) _ | exact ((Below.refl _ _).alloc (Nat.le_refl _) _).drew); (first | have hbx5 := DRow.below hbx4 hh5 | have hbx5 := DRow.below (DRow.new w4 (.slice none 0 0) (.slice none 0 0) false (.slice none 0 0)) hb5 | have hbx5 := DRow.below (DRow.drew (DRow.new w4 (.slice none 0 0) (.slice none 0 0) false (.slice none 0 0))) hb5 | skip); have HB5 : Hid (Below w.heap.size w w5) := HB4.out.trans (hh5.mono HB4.out.size); have HCB : Hid (Below w2.heap.size w2 w5) := HCB.out.trans (hh5.mono HCB.out.size); have c5_0_0 := (hh5.cell (p := ⟨(w.heap.size), 0, none⟩) hz4_0).trans c4_0_0; have c5_0_1 := (hh5.cell (p := ⟨(w.heap.size), 1, none⟩) hz4_0).trans c4_0_1; have hz5_0 : (w.heap.size) < w5.heap.size := Nat.lt_of_lt_of_le hz4_0 hh5.size; have c5_1_0 := (hh5.cell (p := ⟨(w.heap.size + 1), 0, none⟩) hz4_1).trans c4_1_0; have c5_1_1 := (hh5.cell (p := ⟨(w.heap.size + 1), 1, none⟩) hz4_1).trans c4_1_1; have hz5_1 : (w.heap.size + 1) < w5.heap.size := Nat.lt_of_lt_of_le hz4_1 hh5.size; have Ua0_5 : Hid (BookAt w5 (ua0) (xs0, es0)) := Ua0_4.out.below hh5; have Ua1_5 : Hid (BookAt w5 (ua1) (xs1, es1)) := Ua1_4.out.below hh5; have HZ5 : Hid (w4.heap.size ≤ w5.heap.size) := hh5.size; clear c4_0_0 c4_0_1 c4_1_0 c4_1_1 Ua0_4 Ua1_4 hb5 hh5; have HU : Hid (DeltaAt w5 (.agg #[.slice p0a0 p0n0 p0c0, .slice p0a1 p0n1 p0c1, .bool p0b2, .slice p0a3 p0n3 p0c3]) L0) := hu5; clear hu5; (first | (have zc0 := hbx5.c0; have zc1 := hbx5.c1; have zc2 := hbx5.c2; have zc3 := hbx5.c3; have zf0 := hbx5.fz 0; have zf1 := hbx5.fz 1; have zf2 := hbx5.fz 2; have zf3 := hbx5.fz 3) | skip))
        | (have qm := HB3; clear qm; go_at_call 6; refine (toBook_u _ _ (xs1, es1) (HA1.out.below (HB3.out.trans (Below.mono (by first | exact Below.refl _ _ | exact (Below.refl _ _).drew | exact (Below.refl _ _).alloc (Nat.le_refl _) _ | exact ((Below.refl _ _).alloc (Nat.le_refl _) _).drew) HB3.out.size))) HN1.out).mono ?_; rintro e w4 ⟨ua1, rfl, hu4, hb4⟩; have hh4 : Below w3.heap.size w3 w4 := below_via hb4 (by first | exact Below.refl _ _ | exact (Below.refl _ _).drew | exact (Below.refl _ _).alloc (Nat.le_refl _) _ | exact ((Below.refl _ _).alloc (Nat.le_refl _) _).drew); (first | have hbx4 := DRow.below hbx3 hh4 | have hbx4 := DRow.below (DRow.new w3 (.slice none 0 0) (.slice none 0 0) false (.slice none 0 0)) hb4 | have hbx4 := DRow.below (DRow.drew (DRow.new w3 (.slice none 0 0) (.slice none 0 0) false (.slice none 0 0))) hb4 | skip); have HB4 : Hid (Below w.heap.size w w4) := HB3.out.trans (hh4.mono HB3.out.size); have HCB : Hid (Below w2.heap.size w2 w4) := HCB.out.trans (hh4.mono HCB.out.size); have c4_0_0 := (hh4.cell (p := ⟨(w.heap.size), 0, none⟩) hz3_0).trans c3_0_0; have c4_0_1 := (hh4.cell (p := ⟨(w.heap.size), 1, none⟩) hz3_0).trans c3_0_1; have hz4_0 : (w.heap.size) < w4.heap.size := Nat.lt_of_lt_of_le hz3_0 hh4.size; have c4_1_0 := (hh4.cell (p := ⟨(w.heap.size + 1), 0, none⟩) hz3_1).trans c3_1_0; have c4_1_1 := (hh4.cell (p := ⟨(w.heap.size + 1), 1, none⟩) hz3_1).trans c3_1_1; have hz4_1 : (w.heap.size + 1) < w4.heap.size := Nat.lt_of_lt_of_le hz3_1 hh4.size; have Ua0_4 : Hid (BookAt w4 (ua0) (xs0, es0)) := Ua0_3.out.below hh4; have HZ4 : Hid (w3.heap.size ≤ w4.heap.size) := hh4.size; clear c3_0_0 c3_0_1 c3_1_0 c3_1_1 Ua0_3 hb4 hh4; have Ua1_4 : Hid (BookAt w4 (ua1) (xs1, es1)) := hu4.at; clear hu4)
        | (go_at_call 6; refine (toBook_u _ _ (xs0, es0) (HA0.out.below (HB2.out.trans (Below.mono (by first | exact Below.refl _ _ | exact (Below.refl _ _).drew | exact (Below.refl _ _).alloc (Nat.le_refl _) _ | exact ((Below.refl _ _).alloc (Nat.le_refl _) _).drew) HB2.out.size))) HN0.out).mono ?_; rintro e w3 ⟨ua0, rfl, hu3, hb3⟩; have hh3 : Below w2.heap.size w2 w3 := below_via hb3 (by first | exact Below.refl _ _ | exact (Below.refl _ _).drew | exact (Below.refl _ _).alloc (Nat.le_refl _) _ | exact ((Below.refl _ _).alloc (Nat.le_refl _) _).drew); (first | have hbx3 := DRow.below hbx2 hh3 | have hbx3 := DRow.below (DRow.new w2 (.slice none 0 0) (.slice none 0 0) false (.slice none 0 0)) hb3 | have hbx3 := DRow.below (DRow.drew (DRow.new w2 (.slice none 0 0) (.slice none 0 0) false (.slice none 0 0))) hb3 | skip); have HB3 : Hid (Below w.heap.size w w3) := HB2.out.trans (hh3.mono HB2.out.size); have HCB : Hid (Below w2.heap.size w2 w3) := hh3; have c3_0_0 := (hh3.cell (p := ⟨(w.heap.size), 0, none⟩) hz2_0).trans c2_0_0; have c3_0_1 := (hh3.cell (p := ⟨(w.heap.size), 1, none⟩) hz2_0).trans c2_0_1; have hz3_0 : (w.heap.size) < w3.heap.size := Nat.lt_of_lt_of_le hz2_0 hh3.size; have c3_1_0 := (hh3.cell (p := ⟨(w.heap.size + 1), 0, none⟩) hz2_1).trans c2_1_0; have c3_1_1 := (hh3.cell (p := ⟨(w.heap.size + 1), 1, none⟩) hz2_1).trans c2_1_1; have hz3_1 : (w.heap.size + 1) < w3.heap.size := Nat.lt_of_lt_of_le hz2_1 hh3.size; have HZ3 : Hid (w2.heap.size ≤ w3.heap.size) := hh3.size; clear c2_0_0 c2_0_1 c2_1_0 c2_1_1 hb3 hh3; have Ua0_3 : Hid (BookAt w3 (ua0) (xs0, es0)) := hu3.at; clear hu3))
    all_goals
      go_wp2
      go_meet
      case rel =>
        have hcb : Below w2.heap.size w2 w5 := HCB.out
        first
          | (have qn := hbx5; clear qn; exact ⟨_, _, _, _, _, _, _, _, _, _, _, rfl, DRow.set3 (DRow.set2 (DRow.set1 (DRow.set0 hbx5 _) _) _) _, drow_at HU.out hbx5 _ _ _ _, (((hcb.setCell (by (try dsimp only); have z3 := HZ3.out; have z4 := HZ4.out; have z5 := HZ5.out; omega) _).setCell (by (try dsimp only); have z3 := HZ3.out; have z4 := HZ4.out; have z5 := HZ5.out; omega) _).setCell (by (try dsimp only); have z3 := HZ3.out; have z4 := HZ4.out; have z5 := HZ5.out; omega) _).setCell (by (try dsimp only); have z3 := HZ3.out; have z4 := HZ4.out; have z5 := HZ5.out; omega) _, by (try dsimp only); have z3 := HZ3.out; have z4 := HZ4.out; have z5 := HZ5.out; omega⟩)
          | exact ⟨_, _, _, _, _, _, _, _, _, _, _, rfl, DRow.new _ _ _ _ _, HU.out.below ((Below.refl _ _).alloc (Nat.le_refl _) _), hcb.alloc hcb.size _, by (try dsimp only); have z3 := HZ3.out; have z4 := HZ4.out; have z5 := HZ5.out; omega⟩
  case rest =>
    obtain ⟨w6, hw6⟩ : ∃ x, x = wc := ⟨_, rfl⟩
    subst hw6
    obtain ⟨B6, p0a0, p0n0, p0c0, p0a1, p0n1, p0c1, p0b2, p0a3, p0n3, p0c3, hp6, hr6, ha6, hh6, hl6⟩ := hcut
    subst hp6
    have HB6 : Hid (Below w.heap.size w w6) := HB2.out.trans (hh6.mono HB2.out.size)
    have c6_0_0 := (hh6.cell (p := ⟨(w.heap.size), 0, none⟩) hz2_0).trans c2_0_0
    have c6_0_1 := (hh6.cell (p := ⟨(w.heap.size), 1, none⟩) hz2_0).trans c2_0_1
    have hz6_0 : (w.heap.size) < w6.heap.size := Nat.lt_of_lt_of_le hz2_0 hh6.size
    have c6_1_0 := (hh6.cell (p := ⟨(w.heap.size + 1), 0, none⟩) hz2_1).trans c2_1_0
    have c6_1_1 := (hh6.cell (p := ⟨(w.heap.size + 1), 1, none⟩) hz2_1).trans c2_1_1
    have hz6_1 : (w.heap.size + 1) < w6.heap.size := Nat.lt_of_lt_of_le hz2_1 hh6.size
    have c6_2_0 := hr6.c0
    have c6_2_1 := hr6.c1
    have c6_2_2 := hr6.c2
    have c6_2_3 := hr6.c3
    have hz6_2 : B6 < w6.heap.size := World.rowIs.lt hr6
    have HZ6 : Hid (w2.heap.size ≤ w6.heap.size ∧ w2.heap.size ≤ B6 ∧ B6 < w6.heap.size) := ⟨hh6.size, hl6, hz6_2⟩
    have HU : Hid (DeltaAt w6 (.agg #[.slice p0a0 p0n0 p0c0, .slice p0a1 p0n1 p0c1, .bool p0b2, .slice p0a3 p0n3 p0c3]) L0) := ha6
    clear c2_0_0 c2_0_1 hz2_0 c2_1_0 c2_1_1 hz2_1 hh6 hr6 ha6 hl6
    go_wp2_with fail
    refine (toBook_u _ _ (xs0, es0) (HA0.out.below HB6.out) HN0.out).mono ?_
    rintro e w7 ⟨y0, rfl, hu7, hb7⟩
    obtain ⟨y0a0, y0n0, y0c0, y0a1, y0n1, y0c1, rfl⟩ := BookAt.form2 hu7.at
    have hh7 : Below w6.heap.size w6 w7 := hb7
    have HB7 : Hid (Below w.heap.size w w7) := HB6.out.trans (hh7.mono HB6.out.size)
    have BC7 : Hid (Below w6.heap.size w6 w7) := hh7
    have c7_0_0 := (hh7.cell (p := ⟨(w.heap.size), 0, none⟩) hz6_0).trans c6_0_0
    have c7_0_1 := (hh7.cell (p := ⟨(w.heap.size), 1, none⟩) hz6_0).trans c6_0_1
    have hz7_0 : (w.heap.size) < w7.heap.size := Nat.lt_of_lt_of_le hz6_0 hh7.size
    have c7_1_0 := (hh7.cell (p := ⟨(w.heap.size + 1), 0, none⟩) hz6_1).trans c6_1_0
    have c7_1_1 := (hh7.cell (p := ⟨(w.heap.size + 1), 1, none⟩) hz6_1).trans c6_1_1
    have hz7_1 : (w.heap.size + 1) < w7.heap.size := Nat.lt_of_lt_of_le hz6_1 hh7.size
    have c7_2_0 := (hh7.cell (p := ⟨B6, 0, none⟩) hz6_2).trans c6_2_0
    have c7_2_1 := (hh7.cell (p := ⟨B6, 1, none⟩) hz6_2).trans c6_2_1
    have c7_2_2 := (hh7.cell (p := ⟨B6, 2, none⟩) hz6_2).trans c6_2_2
    have c7_2_3 := (hh7.cell (p := ⟨B6, 3, none⟩) hz6_2).trans c6_2_3
    have hz7_2 : B6 < w7.heap.size := Nat.lt_of_lt_of_le hz6_2 hh7.size
    have HZ7 : Hid (w6.heap.size ≤ w7.heap.size) := hh7.size
    clear c6_0_0 c6_0_1 hz6_0 c6_1_0 c6_1_1 hz6_1 c6_2_0 c6_2_1 c6_2_2 c6_2_3 hz6_2 hb7 hh7
    have X0_7 : Hid (BookOwn (w6.heap.size) w7.heap.size w7 (.agg #[.slice y0a0 y0n0 y0c0, .slice y0a1 y0n1 y0c1]) (xs0, es0)) := hu7
    clear hu7
    go_wp2_with fail
    have HX7 : Hid (Below w7.heap.size w7 (w7.alloc (.cells #[.slice y0a0 y0n0 y0c0, .slice y0a1 y0n1 y0c1] 34))) := ((Below.refl _ _).alloc (Nat.le_refl _) _)
    refine (toBook_u _ _ (xs1, es1) (HA1.out.below (HB7.out.trans (Below.mono HX7.out HB7.out.size))) HN1.out).mono ?_
    rintro e w8 ⟨y1, rfl, hu8, hb8⟩
    obtain ⟨y1a0, y1n0, y1c0, y1a1, y1n1, y1c1, rfl⟩ := BookAt.form2 hu8.at
    simp only [World.size_alloc] at hu8
    have hh8 : Below w7.heap.size w7 w8 := Below.trans HX7.out (Below.mono hb8 (Below.size HX7.out))
    have HB8 : Hid (Below w.heap.size w w8) := HB7.out.trans (hh8.mono HB7.out.size)
    have BC8 : Hid (Below w6.heap.size w6 w8) := BC7.out.trans (hh8.mono BC7.out.size)
    have c8_0_0 := (hh8.cell (p := ⟨(w.heap.size), 0, none⟩) hz7_0).trans c7_0_0
    have c8_0_1 := (hh8.cell (p := ⟨(w.heap.size), 1, none⟩) hz7_0).trans c7_0_1
    have hz8_0 : (w.heap.size) < w8.heap.size := Nat.lt_of_lt_of_le hz7_0 hh8.size
    have c8_1_0 := (hh8.cell (p := ⟨(w.heap.size + 1), 0, none⟩) hz7_1).trans c7_1_0
    have c8_1_1 := (hh8.cell (p := ⟨(w.heap.size + 1), 1, none⟩) hz7_1).trans c7_1_1
    have hz8_1 : (w.heap.size + 1) < w8.heap.size := Nat.lt_of_lt_of_le hz7_1 hh8.size
    have c8_2_0 := (hh8.cell (p := ⟨B6, 0, none⟩) hz7_2).trans c7_2_0
    have c8_2_1 := (hh8.cell (p := ⟨B6, 1, none⟩) hz7_2).trans c7_2_1
    have c8_2_2 := (hh8.cell (p := ⟨B6, 2, none⟩) hz7_2).trans c7_2_2
    have c8_2_3 := (hh8.cell (p := ⟨B6, 3, none⟩) hz7_2).trans c7_2_3
    have hz8_2 : B6 < w8.heap.size := Nat.lt_of_lt_of_le hz7_2 hh8.size
    have X0_8 : Hid (BookOwn (w6.heap.size) w7.heap.size w8 (.agg #[.slice y0a0 y0n0 y0c0, .slice y0a1 y0n1 y0c1]) (xs0, es0)) := X0_7.out.below hh8
    have c8_3_0 : w8.cell? ⟨(w7.heap.size), 0, none⟩ = some (.slice y0a0 y0n0 y0c0) := (hb8.cell (p := ⟨(w7.heap.size), 0, none⟩) (by simp <;> omega)).trans (by simp [go_sem])
    have c8_3_1 : w8.cell? ⟨(w7.heap.size), 1, none⟩ = some (.slice y0a1 y0n1 y0c1) := (hb8.cell (p := ⟨(w7.heap.size), 1, none⟩) (by simp <;> omega)).trans (by simp [go_sem])
    have hz8_3 : (w7.heap.size) < w8.heap.size := by have := hb8.size; simp at this; omega
    have HZ8 : Hid (w7.heap.size + 1 ≤ w8.heap.size) := by have := hb8.size; simp at this; show _ ≤ _; omega
    clear c7_0_0 c7_0_1 hz7_0 c7_1_0 c7_1_1 hz7_1 c7_2_0 c7_2_1 c7_2_2 c7_2_3 hz7_2 X0_7 hb8 hh8
    have X1_8 : Hid (BookOwn (w7.heap.size + 1) w8.heap.size w8 (.agg #[.slice y1a0 y1n0 y1c0, .slice y1a1 y1n1 y1c1]) (xs1, es1)) := hu8
    clear hu8
    go_wp2_with fail
    have HX8 : Hid (Below w8.heap.size w8 (w8.alloc (.cells #[.slice y1a0 y1n0 y1c0, .slice y1a1 y1n1 y1c1] 34))) := ((Below.refl _ _).alloc (Nat.le_refl _) _)
    refine (HIM.out _ _ _ ((X0_8.out.below HX8.out)).at ((X1_8.out.below HX8.out)).at).mono ?_
    rintro e w9 ⟨g0a0, g0n0, g0c0, g0a1, g0n1, g0c1, g0b2, g0a3, g0n3, g0c3, rfl, hu9, hb9⟩
    simp only [World.size_alloc] at hu9
    have hh9 : Below w8.heap.size w8 w9 := Below.trans HX8.out (Below.mono hb9 (Below.size HX8.out))
    have HB9 : Hid (Below w.heap.size w w9) := HB8.out.trans (hh9.mono HB8.out.size)
    have BC9 : Hid (Below w6.heap.size w6 w9) := BC8.out.trans (hh9.mono BC8.out.size)
    have c9_0_0 := (hh9.cell (p := ⟨(w.heap.size), 0, none⟩) hz8_0).trans c8_0_0
    have c9_0_1 := (hh9.cell (p := ⟨(w.heap.size), 1, none⟩) hz8_0).trans c8_0_1
    have hz9_0 : (w.heap.size) < w9.heap.size := Nat.lt_of_lt_of_le hz8_0 hh9.size
    have c9_1_0 := (hh9.cell (p := ⟨(w.heap.size + 1), 0, none⟩) hz8_1).trans c8_1_0
    have c9_1_1 := (hh9.cell (p := ⟨(w.heap.size + 1), 1, none⟩) hz8_1).trans c8_1_1
    have hz9_1 : (w.heap.size + 1) < w9.heap.size := Nat.lt_of_lt_of_le hz8_1 hh9.size
    have c9_2_0 := (hh9.cell (p := ⟨B6, 0, none⟩) hz8_2).trans c8_2_0
    have c9_2_1 := (hh9.cell (p := ⟨B6, 1, none⟩) hz8_2).trans c8_2_1
    have c9_2_2 := (hh9.cell (p := ⟨B6, 2, none⟩) hz8_2).trans c8_2_2
    have c9_2_3 := (hh9.cell (p := ⟨B6, 3, none⟩) hz8_2).trans c8_2_3
    have hz9_2 : B6 < w9.heap.size := Nat.lt_of_lt_of_le hz8_2 hh9.size
    have c9_3_0 := (hh9.cell (p := ⟨(w7.heap.size), 0, none⟩) hz8_3).trans c8_3_0
    have c9_3_1 := (hh9.cell (p := ⟨(w7.heap.size), 1, none⟩) hz8_3).trans c8_3_1
    have hz9_3 : (w7.heap.size) < w9.heap.size := Nat.lt_of_lt_of_le hz8_3 hh9.size
    have X0_9 : Hid (BookOwn (w6.heap.size) w7.heap.size w9 (.agg #[.slice y0a0 y0n0 y0c0, .slice y0a1 y0n1 y0c1]) (xs0, es0)) := X0_8.out.below hh9
    have X1_9 : Hid (BookOwn (w7.heap.size + 1) w8.heap.size w9 (.agg #[.slice y1a0 y1n0 y1c0, .slice y1a1 y1n1 y1c1]) (xs1, es1)) := X1_8.out.below hh9
    have c9_4_0 : w9.cell? ⟨(w8.heap.size), 0, none⟩ = some (.slice y1a0 y1n0 y1c0) := (hb9.cell (p := ⟨(w8.heap.size), 0, none⟩) (by simp <;> omega)).trans (by simp [go_sem])
    have c9_4_1 : w9.cell? ⟨(w8.heap.size), 1, none⟩ = some (.slice y1a1 y1n1 y1c1) := (hb9.cell (p := ⟨(w8.heap.size), 1, none⟩) (by simp <;> omega)).trans (by simp [go_sem])
    have hz9_4 : (w8.heap.size) < w9.heap.size := by have := hb9.size; simp at this; omega
    have HZ9 : Hid (w8.heap.size + 1 ≤ w9.heap.size) := by have := hb9.size; simp at this; show _ ≤ _; omega
    clear c8_0_0 c8_0_1 hz8_0 c8_1_0 c8_1_1 hz8_1 c8_2_0 c8_2_1 c8_2_2 c8_2_3 hz8_2 c8_3_0 c8_3_1 hz8_3 X0_8 X1_8 hb9 hh9
    have G_9 : Hid (DeltaOwn (w8.heap.size + 1) w9.heap.size w9 (.agg #[.slice g0a0 g0n0 g0c0, .slice g0a1 g0n1 g0c1, .bool g0b2, .slice g0a3 g0n3 g0c3]) L0) := hu9
    clear hu9
    go_wp2_with fail
    have HX9 : Hid (Below w9.heap.size w9 (w9.alloc (.cells #[.slice g0a0 g0n0 g0c0, .slice g0a1 g0n1 g0c1, .bool g0b2, .slice g0a3 g0n3 g0c3] 31))) := ((Below.refl _ _).alloc (Nat.le_refl _) _)
    refine (eqDelta_u _ _ _ L0 ((G_9.out.below HX9.out)).at (HU.out.below (BC9.out.trans (Below.mono HX9.out BC9.out.size)))).mono ?_
    rintro e w10 ⟨rfl, hb10⟩
    have hh10 : Below w9.heap.size w9 w10 := Below.trans HX9.out (Below.mono hb10 (Below.size HX9.out))
    have HB10 : Hid (Below w.heap.size w w10) := HB9.out.trans (hh10.mono HB9.out.size)
    have BC10 : Hid (Below w6.heap.size w6 w10) := BC9.out.trans (hh10.mono BC9.out.size)
    have c10_0_0 := (hh10.cell (p := ⟨(w.heap.size), 0, none⟩) hz9_0).trans c9_0_0
    have c10_0_1 := (hh10.cell (p := ⟨(w.heap.size), 1, none⟩) hz9_0).trans c9_0_1
    have hz10_0 : (w.heap.size) < w10.heap.size := Nat.lt_of_lt_of_le hz9_0 hh10.size
    have c10_1_0 := (hh10.cell (p := ⟨(w.heap.size + 1), 0, none⟩) hz9_1).trans c9_1_0
    have c10_1_1 := (hh10.cell (p := ⟨(w.heap.size + 1), 1, none⟩) hz9_1).trans c9_1_1
    have hz10_1 : (w.heap.size + 1) < w10.heap.size := Nat.lt_of_lt_of_le hz9_1 hh10.size
    have c10_2_0 := (hh10.cell (p := ⟨B6, 0, none⟩) hz9_2).trans c9_2_0
    have c10_2_1 := (hh10.cell (p := ⟨B6, 1, none⟩) hz9_2).trans c9_2_1
    have c10_2_2 := (hh10.cell (p := ⟨B6, 2, none⟩) hz9_2).trans c9_2_2
    have c10_2_3 := (hh10.cell (p := ⟨B6, 3, none⟩) hz9_2).trans c9_2_3
    have hz10_2 : B6 < w10.heap.size := Nat.lt_of_lt_of_le hz9_2 hh10.size
    have c10_3_0 := (hh10.cell (p := ⟨(w7.heap.size), 0, none⟩) hz9_3).trans c9_3_0
    have c10_3_1 := (hh10.cell (p := ⟨(w7.heap.size), 1, none⟩) hz9_3).trans c9_3_1
    have hz10_3 : (w7.heap.size) < w10.heap.size := Nat.lt_of_lt_of_le hz9_3 hh10.size
    have c10_4_0 := (hh10.cell (p := ⟨(w8.heap.size), 0, none⟩) hz9_4).trans c9_4_0
    have c10_4_1 := (hh10.cell (p := ⟨(w8.heap.size), 1, none⟩) hz9_4).trans c9_4_1
    have hz10_4 : (w8.heap.size) < w10.heap.size := Nat.lt_of_lt_of_le hz9_4 hh10.size
    have X0_10 : Hid (BookOwn (w6.heap.size) w7.heap.size w10 (.agg #[.slice y0a0 y0n0 y0c0, .slice y0a1 y0n1 y0c1]) (xs0, es0)) := X0_9.out.below hh10
    have X1_10 : Hid (BookOwn (w7.heap.size + 1) w8.heap.size w10 (.agg #[.slice y1a0 y1n0 y1c0, .slice y1a1 y1n1 y1c1]) (xs1, es1)) := X1_9.out.below hh10
    have G_10 : Hid (DeltaOwn (w8.heap.size + 1) w9.heap.size w10 (.agg #[.slice g0a0 g0n0 g0c0, .slice g0a1 g0n1 g0c1, .bool g0b2, .slice g0a3 g0n3 g0c3]) L0) := G_9.out.below hh10
    have c10_5_0 : w10.cell? ⟨(w9.heap.size), 0, none⟩ = some (.slice g0a0 g0n0 g0c0) := (hb10.cell (p := ⟨(w9.heap.size), 0, none⟩) (by simp <;> omega)).trans (by simp [go_sem])
    have c10_5_1 : w10.cell? ⟨(w9.heap.size), 1, none⟩ = some (.slice g0a1 g0n1 g0c1) := (hb10.cell (p := ⟨(w9.heap.size), 1, none⟩) (by simp <;> omega)).trans (by simp [go_sem])
    have c10_5_2 : w10.cell? ⟨(w9.heap.size), 2, none⟩ = some (.bool g0b2) := (hb10.cell (p := ⟨(w9.heap.size), 2, none⟩) (by simp <;> omega)).trans (by simp [go_sem])
    have c10_5_3 : w10.cell? ⟨(w9.heap.size), 3, none⟩ = some (.slice g0a3 g0n3 g0c3) := (hb10.cell (p := ⟨(w9.heap.size), 3, none⟩) (by simp <;> omega)).trans (by simp [go_sem])
    have hz10_5 : (w9.heap.size) < w10.heap.size := by have := hb10.size; simp at this; omega
    have HZ10 : Hid (w9.heap.size + 1 ≤ w10.heap.size) := by have := hb10.size; simp at this; show _ ≤ _; omega
    clear c9_0_0 c9_0_1 hz9_0 c9_1_0 c9_1_1 hz9_1 c9_2_0 c9_2_1 c9_2_2 c9_2_3 hz9_2 c9_3_0 c9_3_1 hz9_3 c9_4_0 c9_4_1 hz9_4 X0_9 X1_9 G_9 hb10 hh10
    go_wp2_with fail
    go_region_held3 (fun w' => w'.cell? ⟨(w.heap.size), 0, none⟩ = some (va0) ∧ w'.cell? ⟨(w.heap.size), 1, none⟩ = some (ve0) ∧ w'.cell? ⟨(w.heap.size + 1), 0, none⟩ = some (va1) ∧ w'.cell? ⟨(w.heap.size + 1), 1, none⟩ = some (ve1) ∧ w'.cell? ⟨B6, 0, none⟩ = some (.slice p0a0 p0n0 p0c0) ∧ w'.cell? ⟨B6, 1, none⟩ = some (.slice p0a1 p0n1 p0c1) ∧ w'.cell? ⟨B6, 2, none⟩ = some (.bool p0b2) ∧ w'.cell? ⟨B6, 3, none⟩ = some (.slice p0a3 p0n3 p0c3) ∧ w'.cell? ⟨(w7.heap.size), 0, none⟩ = some (.slice y0a0 y0n0 y0c0) ∧ w'.cell? ⟨(w7.heap.size), 1, none⟩ = some (.slice y0a1 y0n1 y0c1) ∧ w'.cell? ⟨(w8.heap.size), 0, none⟩ = some (.slice y1a0 y1n0 y1c0) ∧ w'.cell? ⟨(w8.heap.size), 1, none⟩ = some (.slice y1a1 y1n1 y1c1) ∧ w'.cell? ⟨(w9.heap.size), 0, none⟩ = some (.slice g0a0 g0n0 g0c0) ∧ w'.cell? ⟨(w9.heap.size), 1, none⟩ = some (.slice g0a1 g0n1 g0c1) ∧ w'.cell? ⟨(w9.heap.size), 2, none⟩ = some (.bool g0b2) ∧ w'.cell? ⟨(w9.heap.size), 3, none⟩ = some (.slice g0a3 g0n3 g0c3)) (go_keep)
      (first
        | (have qm := HB11; clear qm; go_at_call 9; refine (eqBook_u _ _ _ (xs0, es0) (X0_11.out).at Ub0_11.out).mono ?_; rintro e w12 ⟨rfl, hb12⟩; have hh12 : Below w11.heap.size w11 w12 := hb12; have HB12 : Hid (Below w.heap.size w w12) := HB11.out.trans (hh12.mono HB11.out.size); have BC12 : Hid (Below w6.heap.size w6 w12) := BC11.out.trans (hh12.mono BC11.out.size); have c12_0_0 := (hh12.cell (p := ⟨(w.heap.size), 0, none⟩) hz11_0).trans c11_0_0; have c12_0_1 := (hh12.cell (p := ⟨(w.heap.size), 1, none⟩) hz11_0).trans c11_0_1; have hz12_0 : (w.heap.size) < w12.heap.size := Nat.lt_of_lt_of_le hz11_0 hh12.size; have c12_1_0 := (hh12.cell (p := ⟨(w.heap.size + 1), 0, none⟩) hz11_1).trans c11_1_0; have c12_1_1 := (hh12.cell (p := ⟨(w.heap.size + 1), 1, none⟩) hz11_1).trans c11_1_1; have hz12_1 : (w.heap.size + 1) < w12.heap.size := Nat.lt_of_lt_of_le hz11_1 hh12.size; have c12_2_0 := (hh12.cell (p := ⟨B6, 0, none⟩) hz11_2).trans c11_2_0; have c12_2_1 := (hh12.cell (p := ⟨B6, 1, none⟩) hz11_2).trans c11_2_1; have c12_2_2 := (hh12.cell (p := ⟨B6, 2, none⟩) hz11_2).trans c11_2_2; have c12_2_3 := (hh12.cell (p := ⟨B6, 3, none⟩) hz11_2).trans c11_2_3; have hz12_2 : B6 < w12.heap.size := Nat.lt_of_lt_of_le hz11_2 hh12.size; have c12_3_0 := (hh12.cell (p := ⟨(w7.heap.size), 0, none⟩) hz11_3).trans c11_3_0; have c12_3_1 := (hh12.cell (p := ⟨(w7.heap.size), 1, none⟩) hz11_3).trans c11_3_1; have hz12_3 : (w7.heap.size) < w12.heap.size := Nat.lt_of_lt_of_le hz11_3 hh12.size; have c12_4_0 := (hh12.cell (p := ⟨(w8.heap.size), 0, none⟩) hz11_4).trans c11_4_0; have c12_4_1 := (hh12.cell (p := ⟨(w8.heap.size), 1, none⟩) hz11_4).trans c11_4_1; have hz12_4 : (w8.heap.size) < w12.heap.size := Nat.lt_of_lt_of_le hz11_4 hh12.size; have c12_5_0 := (hh12.cell (p := ⟨(w9.heap.size), 0, none⟩) hz11_5).trans c11_5_0; have c12_5_1 := (hh12.cell (p := ⟨(w9.heap.size), 1, none⟩) hz11_5).trans c11_5_1; have c12_5_2 := (hh12.cell (p := ⟨(w9.heap.size), 2, none⟩) hz11_5).trans c11_5_2; have c12_5_3 := (hh12.cell (p := ⟨(w9.heap.size), 3, none⟩) hz11_5).trans c11_5_3; have hz12_5 : (w9.heap.size) < w12.heap.size := Nat.lt_of_lt_of_le hz11_5 hh12.size; have X0_12 : Hid (BookOwn (w6.heap.size) w7.heap.size w12 (.agg #[.slice y0a0 y0n0 y0c0, .slice y0a1 y0n1 y0c1]) (xs0, es0)) := X0_11.out.below hh12; have X1_12 : Hid (BookOwn (w7.heap.size + 1) w8.heap.size w12 (.agg #[.slice y1a0 y1n0 y1c0, .slice y1a1 y1n1 y1c1]) (xs1, es1)) := X1_11.out.below hh12; have G_12 : Hid (DeltaOwn (w8.heap.size + 1) w9.heap.size w12 (.agg #[.slice g0a0 g0n0 g0c0, .slice g0a1 g0n1 g0c1, .bool g0b2, .slice g0a3 g0n3 g0c3]) L0) := G_11.out.below hh12; have Ub0_12 : Hid (BookAt w12 (ub0) (xs0, es0)) := Ub0_11.out.below hh12; have HZ12 : Hid (w11.heap.size ≤ w12.heap.size) := hh12.size; clear c11_0_0 c11_0_1 hz11_0 c11_1_0 c11_1_1 hz11_1 c11_2_0 c11_2_1 c11_2_2 c11_2_3 hz11_2 c11_3_0 c11_3_1 hz11_3 c11_4_0 c11_4_1 hz11_4 c11_5_0 c11_5_1 c11_5_2 c11_5_3 hz11_5 X0_11 X1_11 G_11 Ub0_11 hb12 hh12)
        | (go_at_call 6; refine (toBook_u _ _ (xs0, es0) (HA0.out.below (HB10.out.trans (Below.mono (Below.drew (Below.refl w10.heap.size w10)) HB10.out.size))) HN0.out).mono ?_; rintro e w11 ⟨ub0, rfl, hu11, hb11⟩; have hh11 : Below w10.heap.size w10 w11 := Below.trans (Below.drew (Below.refl w10.heap.size w10)) (Below.mono hb11 (Below.size (Below.drew (Below.refl w10.heap.size w10)))); have HB11 : Hid (Below w.heap.size w w11) := HB10.out.trans (hh11.mono HB10.out.size); have BC11 : Hid (Below w6.heap.size w6 w11) := BC10.out.trans (hh11.mono BC10.out.size); have c11_0_0 := (hh11.cell (p := ⟨(w.heap.size), 0, none⟩) hz10_0).trans c10_0_0; have c11_0_1 := (hh11.cell (p := ⟨(w.heap.size), 1, none⟩) hz10_0).trans c10_0_1; have hz11_0 : (w.heap.size) < w11.heap.size := Nat.lt_of_lt_of_le hz10_0 hh11.size; have c11_1_0 := (hh11.cell (p := ⟨(w.heap.size + 1), 0, none⟩) hz10_1).trans c10_1_0; have c11_1_1 := (hh11.cell (p := ⟨(w.heap.size + 1), 1, none⟩) hz10_1).trans c10_1_1; have hz11_1 : (w.heap.size + 1) < w11.heap.size := Nat.lt_of_lt_of_le hz10_1 hh11.size; have c11_2_0 := (hh11.cell (p := ⟨B6, 0, none⟩) hz10_2).trans c10_2_0; have c11_2_1 := (hh11.cell (p := ⟨B6, 1, none⟩) hz10_2).trans c10_2_1; have c11_2_2 := (hh11.cell (p := ⟨B6, 2, none⟩) hz10_2).trans c10_2_2; have c11_2_3 := (hh11.cell (p := ⟨B6, 3, none⟩) hz10_2).trans c10_2_3; have hz11_2 : B6 < w11.heap.size := Nat.lt_of_lt_of_le hz10_2 hh11.size; have c11_3_0 := (hh11.cell (p := ⟨(w7.heap.size), 0, none⟩) hz10_3).trans c10_3_0; have c11_3_1 := (hh11.cell (p := ⟨(w7.heap.size), 1, none⟩) hz10_3).trans c10_3_1; have hz11_3 : (w7.heap.size) < w11.heap.size := Nat.lt_of_lt_of_le hz10_3 hh11.size; have c11_4_0 := (hh11.cell (p := ⟨(w8.heap.size), 0, none⟩) hz10_4).trans c10_4_0; have c11_4_1 := (hh11.cell (p := ⟨(w8.heap.size), 1, none⟩) hz10_4).trans c10_4_1; have hz11_4 : (w8.heap.size) < w11.heap.size := Nat.lt_of_lt_of_le hz10_4 hh11.size; have c11_5_0 := (hh11.cell (p := ⟨(w9.heap.size), 0, none⟩) hz10_5).trans c10_5_0; have c11_5_1 := (hh11.cell (p := ⟨(w9.heap.size), 1, none⟩) hz10_5).trans c10_5_1; have c11_5_2 := (hh11.cell (p := ⟨(w9.heap.size), 2, none⟩) hz10_5).trans c10_5_2; have c11_5_3 := (hh11.cell (p := ⟨(w9.heap.size), 3, none⟩) hz10_5).trans c10_5_3; have hz11_5 : (w9.heap.size) < w11.heap.size := Nat.lt_of_lt_of_le hz10_5 hh11.size; have X0_11 : Hid (BookOwn (w6.heap.size) w7.heap.size w11 (.agg #[.slice y0a0 y0n0 y0c0, .slice y0a1 y0n1 y0c1]) (xs0, es0)) := X0_10.out.below hh11; have X1_11 : Hid (BookOwn (w7.heap.size + 1) w8.heap.size w11 (.agg #[.slice y1a0 y1n0 y1c0, .slice y1a1 y1n1 y1c1]) (xs1, es1)) := X1_10.out.below hh11; have G_11 : Hid (DeltaOwn (w8.heap.size + 1) w9.heap.size w11 (.agg #[.slice g0a0 g0n0 g0c0, .slice g0a1 g0n1 g0c1, .bool g0b2, .slice g0a3 g0n3 g0c3]) L0) := G_10.out.below hh11; have HZ11 : Hid (w10.heap.size ≤ w11.heap.size) := hh11.size; clear c10_0_0 c10_0_1 hz10_0 c10_1_0 c10_1_1 hz10_1 c10_2_0 c10_2_1 c10_2_2 c10_2_3 hz10_2 c10_3_0 c10_3_1 hz10_3 c10_4_0 c10_4_1 hz10_4 c10_5_0 c10_5_1 c10_5_2 c10_5_3 hz10_5 X0_10 X1_10 G_10 hb11 hh11; have Ub0_11 : Hid (BookAt w11 (ub0) (xs0, es0)) := hu11.at; clear hu11))
    go_wp2_with fail
    go_region_held3 (fun w' => w'.cell? ⟨(w.heap.size), 0, none⟩ = some (va0) ∧ w'.cell? ⟨(w.heap.size), 1, none⟩ = some (ve0) ∧ w'.cell? ⟨(w.heap.size + 1), 0, none⟩ = some (va1) ∧ w'.cell? ⟨(w.heap.size + 1), 1, none⟩ = some (ve1) ∧ w'.cell? ⟨B6, 0, none⟩ = some (.slice p0a0 p0n0 p0c0) ∧ w'.cell? ⟨B6, 1, none⟩ = some (.slice p0a1 p0n1 p0c1) ∧ w'.cell? ⟨B6, 2, none⟩ = some (.bool p0b2) ∧ w'.cell? ⟨B6, 3, none⟩ = some (.slice p0a3 p0n3 p0c3) ∧ w'.cell? ⟨(w7.heap.size), 0, none⟩ = some (.slice y0a0 y0n0 y0c0) ∧ w'.cell? ⟨(w7.heap.size), 1, none⟩ = some (.slice y0a1 y0n1 y0c1) ∧ w'.cell? ⟨(w8.heap.size), 0, none⟩ = some (.slice y1a0 y1n0 y1c0) ∧ w'.cell? ⟨(w8.heap.size), 1, none⟩ = some (.slice y1a1 y1n1 y1c1) ∧ w'.cell? ⟨(w9.heap.size), 0, none⟩ = some (.slice g0a0 g0n0 g0c0) ∧ w'.cell? ⟨(w9.heap.size), 1, none⟩ = some (.slice g0a1 g0n1 g0c1) ∧ w'.cell? ⟨(w9.heap.size), 2, none⟩ = some (.bool g0b2) ∧ w'.cell? ⟨(w9.heap.size), 3, none⟩ = some (.slice g0a3 g0n3 g0c3)) (go_keep)
      (first
        | (have qm := HB13; clear qm; go_at_call 9; refine (eqBook_u _ _ _ (xs1, es1) (X1_13.out).at Ub1_13.out).mono ?_; rintro e w14 ⟨rfl, hb14⟩; have hh14 : Below w13.heap.size w13 w14 := hb14; have HB14 : Hid (Below w.heap.size w w14) := HB13.out.trans (hh14.mono HB13.out.size); have BC14 : Hid (Below w6.heap.size w6 w14) := BC13.out.trans (hh14.mono BC13.out.size); have c14_0_0 := (hh14.cell (p := ⟨(w.heap.size), 0, none⟩) hz13_0).trans c13_0_0; have c14_0_1 := (hh14.cell (p := ⟨(w.heap.size), 1, none⟩) hz13_0).trans c13_0_1; have hz14_0 : (w.heap.size) < w14.heap.size := Nat.lt_of_lt_of_le hz13_0 hh14.size; have c14_1_0 := (hh14.cell (p := ⟨(w.heap.size + 1), 0, none⟩) hz13_1).trans c13_1_0; have c14_1_1 := (hh14.cell (p := ⟨(w.heap.size + 1), 1, none⟩) hz13_1).trans c13_1_1; have hz14_1 : (w.heap.size + 1) < w14.heap.size := Nat.lt_of_lt_of_le hz13_1 hh14.size; have c14_2_0 := (hh14.cell (p := ⟨B6, 0, none⟩) hz13_2).trans c13_2_0; have c14_2_1 := (hh14.cell (p := ⟨B6, 1, none⟩) hz13_2).trans c13_2_1; have c14_2_2 := (hh14.cell (p := ⟨B6, 2, none⟩) hz13_2).trans c13_2_2; have c14_2_3 := (hh14.cell (p := ⟨B6, 3, none⟩) hz13_2).trans c13_2_3; have hz14_2 : B6 < w14.heap.size := Nat.lt_of_lt_of_le hz13_2 hh14.size; have c14_3_0 := (hh14.cell (p := ⟨(w7.heap.size), 0, none⟩) hz13_3).trans c13_3_0; have c14_3_1 := (hh14.cell (p := ⟨(w7.heap.size), 1, none⟩) hz13_3).trans c13_3_1; have hz14_3 : (w7.heap.size) < w14.heap.size := Nat.lt_of_lt_of_le hz13_3 hh14.size; have c14_4_0 := (hh14.cell (p := ⟨(w8.heap.size), 0, none⟩) hz13_4).trans c13_4_0; have c14_4_1 := (hh14.cell (p := ⟨(w8.heap.size), 1, none⟩) hz13_4).trans c13_4_1; have hz14_4 : (w8.heap.size) < w14.heap.size := Nat.lt_of_lt_of_le hz13_4 hh14.size; have c14_5_0 := (hh14.cell (p := ⟨(w9.heap.size), 0, none⟩) hz13_5).trans c13_5_0; have c14_5_1 := (hh14.cell (p := ⟨(w9.heap.size), 1, none⟩) hz13_5).trans c13_5_1; have c14_5_2 := (hh14.cell (p := ⟨(w9.heap.size), 2, none⟩) hz13_5).trans c13_5_2; have c14_5_3 := (hh14.cell (p := ⟨(w9.heap.size), 3, none⟩) hz13_5).trans c13_5_3; have hz14_5 : (w9.heap.size) < w14.heap.size := Nat.lt_of_lt_of_le hz13_5 hh14.size; have X0_14 : Hid (BookOwn (w6.heap.size) w7.heap.size w14 (.agg #[.slice y0a0 y0n0 y0c0, .slice y0a1 y0n1 y0c1]) (xs0, es0)) := X0_13.out.below hh14; have X1_14 : Hid (BookOwn (w7.heap.size + 1) w8.heap.size w14 (.agg #[.slice y1a0 y1n0 y1c0, .slice y1a1 y1n1 y1c1]) (xs1, es1)) := X1_13.out.below hh14; have G_14 : Hid (DeltaOwn (w8.heap.size + 1) w9.heap.size w14 (.agg #[.slice g0a0 g0n0 g0c0, .slice g0a1 g0n1 g0c1, .bool g0b2, .slice g0a3 g0n3 g0c3]) L0) := G_13.out.below hh14; have Ub1_14 : Hid (BookAt w14 (ub1) (xs1, es1)) := Ub1_13.out.below hh14; have HZ14 : Hid (w13.heap.size ≤ w14.heap.size) := hh14.size; clear c13_0_0 c13_0_1 hz13_0 c13_1_0 c13_1_1 hz13_1 c13_2_0 c13_2_1 c13_2_2 c13_2_3 hz13_2 c13_3_0 c13_3_1 hz13_3 c13_4_0 c13_4_1 hz13_4 c13_5_0 c13_5_1 c13_5_2 c13_5_3 hz13_5 X0_13 X1_13 G_13 Ub1_13 hb14 hh14)
        | (go_at_call 6; refine (toBook_u _ _ (xs1, es1) (HA1.out.below (HB12.out.trans (Below.mono (Below.drew (Below.refl w12.heap.size w12)) HB12.out.size))) HN1.out).mono ?_; rintro e w13 ⟨ub1, rfl, hu13, hb13⟩; have hh13 : Below w12.heap.size w12 w13 := Below.trans (Below.drew (Below.refl w12.heap.size w12)) (Below.mono hb13 (Below.size (Below.drew (Below.refl w12.heap.size w12)))); have HB13 : Hid (Below w.heap.size w w13) := HB12.out.trans (hh13.mono HB12.out.size); have BC13 : Hid (Below w6.heap.size w6 w13) := BC12.out.trans (hh13.mono BC12.out.size); have c13_0_0 := (hh13.cell (p := ⟨(w.heap.size), 0, none⟩) hz12_0).trans c12_0_0; have c13_0_1 := (hh13.cell (p := ⟨(w.heap.size), 1, none⟩) hz12_0).trans c12_0_1; have hz13_0 : (w.heap.size) < w13.heap.size := Nat.lt_of_lt_of_le hz12_0 hh13.size; have c13_1_0 := (hh13.cell (p := ⟨(w.heap.size + 1), 0, none⟩) hz12_1).trans c12_1_0; have c13_1_1 := (hh13.cell (p := ⟨(w.heap.size + 1), 1, none⟩) hz12_1).trans c12_1_1; have hz13_1 : (w.heap.size + 1) < w13.heap.size := Nat.lt_of_lt_of_le hz12_1 hh13.size; have c13_2_0 := (hh13.cell (p := ⟨B6, 0, none⟩) hz12_2).trans c12_2_0; have c13_2_1 := (hh13.cell (p := ⟨B6, 1, none⟩) hz12_2).trans c12_2_1; have c13_2_2 := (hh13.cell (p := ⟨B6, 2, none⟩) hz12_2).trans c12_2_2; have c13_2_3 := (hh13.cell (p := ⟨B6, 3, none⟩) hz12_2).trans c12_2_3; have hz13_2 : B6 < w13.heap.size := Nat.lt_of_lt_of_le hz12_2 hh13.size; have c13_3_0 := (hh13.cell (p := ⟨(w7.heap.size), 0, none⟩) hz12_3).trans c12_3_0; have c13_3_1 := (hh13.cell (p := ⟨(w7.heap.size), 1, none⟩) hz12_3).trans c12_3_1; have hz13_3 : (w7.heap.size) < w13.heap.size := Nat.lt_of_lt_of_le hz12_3 hh13.size; have c13_4_0 := (hh13.cell (p := ⟨(w8.heap.size), 0, none⟩) hz12_4).trans c12_4_0; have c13_4_1 := (hh13.cell (p := ⟨(w8.heap.size), 1, none⟩) hz12_4).trans c12_4_1; have hz13_4 : (w8.heap.size) < w13.heap.size := Nat.lt_of_lt_of_le hz12_4 hh13.size; have c13_5_0 := (hh13.cell (p := ⟨(w9.heap.size), 0, none⟩) hz12_5).trans c12_5_0; have c13_5_1 := (hh13.cell (p := ⟨(w9.heap.size), 1, none⟩) hz12_5).trans c12_5_1; have c13_5_2 := (hh13.cell (p := ⟨(w9.heap.size), 2, none⟩) hz12_5).trans c12_5_2; have c13_5_3 := (hh13.cell (p := ⟨(w9.heap.size), 3, none⟩) hz12_5).trans c12_5_3; have hz13_5 : (w9.heap.size) < w13.heap.size := Nat.lt_of_lt_of_le hz12_5 hh13.size; have X0_13 : Hid (BookOwn (w6.heap.size) w7.heap.size w13 (.agg #[.slice y0a0 y0n0 y0c0, .slice y0a1 y0n1 y0c1]) (xs0, es0)) := X0_12.out.below hh13; have X1_13 : Hid (BookOwn (w7.heap.size + 1) w8.heap.size w13 (.agg #[.slice y1a0 y1n0 y1c0, .slice y1a1 y1n1 y1c1]) (xs1, es1)) := X1_12.out.below hh13; have G_13 : Hid (DeltaOwn (w8.heap.size + 1) w9.heap.size w13 (.agg #[.slice g0a0 g0n0 g0c0, .slice g0a1 g0n1 g0c1, .bool g0b2, .slice g0a3 g0n3 g0c3]) L0) := G_12.out.below hh13; have HZ13 : Hid (w12.heap.size ≤ w13.heap.size) := hh13.size; clear c12_0_0 c12_0_1 hz12_0 c12_1_0 c12_1_1 hz12_1 c12_2_0 c12_2_1 c12_2_2 c12_2_3 hz12_2 c12_3_0 c12_3_1 hz12_3 c12_4_0 c12_4_1 hz12_4 c12_5_0 c12_5_1 c12_5_2 c12_5_3 hz12_5 X0_12 X1_12 G_12 hb13 hh13; have Ub1_13 : Hid (BookAt w13 (ub1) (xs1, es1)) := hu13.at; clear hu13))
    go_wp2_with fail
    have hk0 : (1 : Nat) ≤ 1 := Nat.le_refl _
    obtain ⟨k0, hk0⟩ : ∃ K : Nat, 1 + bookCnt (xs0, es0) = K := ⟨_, rfl⟩
    have sm0 := HN0.out
    have hc0 : bookCnt (xs0, es0) ≤ 40000000 := by unfold BookSm at sm0; unfold bookCnt; omega
    clear sm0
    refine (cK (markBook_u (w6.heap.size) w7.heap.size 1 _ _ (xs0, es0) X0_14.out HN0.out (by omega) (by have z1 := HZ1.out; have z2 := HZ2.out; have z6 := HZ6.out; have z7 := HZ7.out; have z8 := HZ8.out; have z9 := HZ9.out; have z10 := HZ10.out; have z11 := HZ11.out; have z12 := HZ12.out; have z13 := HZ13.out; have z14 := HZ14.out; omega) (by have z1 := HZ1.out; have z2 := HZ2.out; have z6 := HZ6.out; have z7 := HZ7.out; have z8 := HZ8.out; have z9 := HZ9.out; have z10 := HZ10.out; have z11 := HZ11.out; have z12 := HZ12.out; have z13 := HZ13.out; have z14 := HZ14.out; omega)) hk0).mono ?_
    rintro e w15 ⟨rfl, _, hw15⟩
    have HB15 : Hid (Below w.heap.size w w15) := HB14.out.trans (hw15.1.mono (show w.heap.size ≤ (w6.heap.size) from (by have z1 := HZ1.out; have z2 := HZ2.out; have z6 := HZ6.out; have z7 := HZ7.out; have z8 := HZ8.out; have z9 := HZ9.out; have z10 := HZ10.out; have z11 := HZ11.out; have z12 := HZ12.out; have z13 := HZ13.out; have z14 := HZ14.out; omega)))
    have BC15 : Hid (Below w6.heap.size w6 w15) := BC14.out.trans (hw15.1.mono (show w6.heap.size ≤ (w6.heap.size) from (by have z1 := HZ1.out; have z2 := HZ2.out; have z6 := HZ6.out; have z7 := HZ7.out; have z8 := HZ8.out; have z9 := HZ9.out; have z10 := HZ10.out; have z11 := HZ11.out; have z12 := HZ12.out; have z13 := HZ13.out; have z14 := HZ14.out; omega)))
    have c15_0_0 := (wr_cell hw15 (b := (w.heap.size)) 0 (by have z1 := HZ1.out; have z2 := HZ2.out; have z6 := HZ6.out; have z7 := HZ7.out; have z8 := HZ8.out; have z9 := HZ9.out; have z10 := HZ10.out; have z11 := HZ11.out; have z12 := HZ12.out; have z13 := HZ13.out; have z14 := HZ14.out; omega) hz14_0).trans c14_0_0
    have c15_0_1 := (wr_cell hw15 (b := (w.heap.size)) 1 (by have z1 := HZ1.out; have z2 := HZ2.out; have z6 := HZ6.out; have z7 := HZ7.out; have z8 := HZ8.out; have z9 := HZ9.out; have z10 := HZ10.out; have z11 := HZ11.out; have z12 := HZ12.out; have z13 := HZ13.out; have z14 := HZ14.out; omega) hz14_0).trans c14_0_1
    have hz15_0 : (w.heap.size) < w15.heap.size := Nat.lt_of_lt_of_le hz14_0 hw15.sz
    have c15_1_0 := (wr_cell hw15 (b := (w.heap.size + 1)) 0 (by have z1 := HZ1.out; have z2 := HZ2.out; have z6 := HZ6.out; have z7 := HZ7.out; have z8 := HZ8.out; have z9 := HZ9.out; have z10 := HZ10.out; have z11 := HZ11.out; have z12 := HZ12.out; have z13 := HZ13.out; have z14 := HZ14.out; omega) hz14_1).trans c14_1_0
    have c15_1_1 := (wr_cell hw15 (b := (w.heap.size + 1)) 1 (by have z1 := HZ1.out; have z2 := HZ2.out; have z6 := HZ6.out; have z7 := HZ7.out; have z8 := HZ8.out; have z9 := HZ9.out; have z10 := HZ10.out; have z11 := HZ11.out; have z12 := HZ12.out; have z13 := HZ13.out; have z14 := HZ14.out; omega) hz14_1).trans c14_1_1
    have hz15_1 : (w.heap.size + 1) < w15.heap.size := Nat.lt_of_lt_of_le hz14_1 hw15.sz
    have c15_2_0 := (wr_cell hw15 (b := B6) 0 (by have z1 := HZ1.out; have z2 := HZ2.out; have z6 := HZ6.out; have z7 := HZ7.out; have z8 := HZ8.out; have z9 := HZ9.out; have z10 := HZ10.out; have z11 := HZ11.out; have z12 := HZ12.out; have z13 := HZ13.out; have z14 := HZ14.out; omega) hz14_2).trans c14_2_0
    have c15_2_1 := (wr_cell hw15 (b := B6) 1 (by have z1 := HZ1.out; have z2 := HZ2.out; have z6 := HZ6.out; have z7 := HZ7.out; have z8 := HZ8.out; have z9 := HZ9.out; have z10 := HZ10.out; have z11 := HZ11.out; have z12 := HZ12.out; have z13 := HZ13.out; have z14 := HZ14.out; omega) hz14_2).trans c14_2_1
    have c15_2_2 := (wr_cell hw15 (b := B6) 2 (by have z1 := HZ1.out; have z2 := HZ2.out; have z6 := HZ6.out; have z7 := HZ7.out; have z8 := HZ8.out; have z9 := HZ9.out; have z10 := HZ10.out; have z11 := HZ11.out; have z12 := HZ12.out; have z13 := HZ13.out; have z14 := HZ14.out; omega) hz14_2).trans c14_2_2
    have c15_2_3 := (wr_cell hw15 (b := B6) 3 (by have z1 := HZ1.out; have z2 := HZ2.out; have z6 := HZ6.out; have z7 := HZ7.out; have z8 := HZ8.out; have z9 := HZ9.out; have z10 := HZ10.out; have z11 := HZ11.out; have z12 := HZ12.out; have z13 := HZ13.out; have z14 := HZ14.out; omega) hz14_2).trans c14_2_3
    have hz15_2 : B6 < w15.heap.size := Nat.lt_of_lt_of_le hz14_2 hw15.sz
    have c15_3_0 := (wr_cell hw15 (b := (w7.heap.size)) 0 (by have z1 := HZ1.out; have z2 := HZ2.out; have z6 := HZ6.out; have z7 := HZ7.out; have z8 := HZ8.out; have z9 := HZ9.out; have z10 := HZ10.out; have z11 := HZ11.out; have z12 := HZ12.out; have z13 := HZ13.out; have z14 := HZ14.out; omega) hz14_3).trans c14_3_0
    have c15_3_1 := (wr_cell hw15 (b := (w7.heap.size)) 1 (by have z1 := HZ1.out; have z2 := HZ2.out; have z6 := HZ6.out; have z7 := HZ7.out; have z8 := HZ8.out; have z9 := HZ9.out; have z10 := HZ10.out; have z11 := HZ11.out; have z12 := HZ12.out; have z13 := HZ13.out; have z14 := HZ14.out; omega) hz14_3).trans c14_3_1
    have hz15_3 : (w7.heap.size) < w15.heap.size := Nat.lt_of_lt_of_le hz14_3 hw15.sz
    have c15_4_0 := (wr_cell hw15 (b := (w8.heap.size)) 0 (by have z1 := HZ1.out; have z2 := HZ2.out; have z6 := HZ6.out; have z7 := HZ7.out; have z8 := HZ8.out; have z9 := HZ9.out; have z10 := HZ10.out; have z11 := HZ11.out; have z12 := HZ12.out; have z13 := HZ13.out; have z14 := HZ14.out; omega) hz14_4).trans c14_4_0
    have c15_4_1 := (wr_cell hw15 (b := (w8.heap.size)) 1 (by have z1 := HZ1.out; have z2 := HZ2.out; have z6 := HZ6.out; have z7 := HZ7.out; have z8 := HZ8.out; have z9 := HZ9.out; have z10 := HZ10.out; have z11 := HZ11.out; have z12 := HZ12.out; have z13 := HZ13.out; have z14 := HZ14.out; omega) hz14_4).trans c14_4_1
    have hz15_4 : (w8.heap.size) < w15.heap.size := Nat.lt_of_lt_of_le hz14_4 hw15.sz
    have c15_5_0 := (wr_cell hw15 (b := (w9.heap.size)) 0 (by have z1 := HZ1.out; have z2 := HZ2.out; have z6 := HZ6.out; have z7 := HZ7.out; have z8 := HZ8.out; have z9 := HZ9.out; have z10 := HZ10.out; have z11 := HZ11.out; have z12 := HZ12.out; have z13 := HZ13.out; have z14 := HZ14.out; omega) hz14_5).trans c14_5_0
    have c15_5_1 := (wr_cell hw15 (b := (w9.heap.size)) 1 (by have z1 := HZ1.out; have z2 := HZ2.out; have z6 := HZ6.out; have z7 := HZ7.out; have z8 := HZ8.out; have z9 := HZ9.out; have z10 := HZ10.out; have z11 := HZ11.out; have z12 := HZ12.out; have z13 := HZ13.out; have z14 := HZ14.out; omega) hz14_5).trans c14_5_1
    have c15_5_2 := (wr_cell hw15 (b := (w9.heap.size)) 2 (by have z1 := HZ1.out; have z2 := HZ2.out; have z6 := HZ6.out; have z7 := HZ7.out; have z8 := HZ8.out; have z9 := HZ9.out; have z10 := HZ10.out; have z11 := HZ11.out; have z12 := HZ12.out; have z13 := HZ13.out; have z14 := HZ14.out; omega) hz14_5).trans c14_5_2
    have c15_5_3 := (wr_cell hw15 (b := (w9.heap.size)) 3 (by have z1 := HZ1.out; have z2 := HZ2.out; have z6 := HZ6.out; have z7 := HZ7.out; have z8 := HZ8.out; have z9 := HZ9.out; have z10 := HZ10.out; have z11 := HZ11.out; have z12 := HZ12.out; have z13 := HZ13.out; have z14 := HZ14.out; omega) hz14_5).trans c14_5_3
    have hz15_5 : (w9.heap.size) < w15.heap.size := Nat.lt_of_lt_of_le hz14_5 hw15.sz
    have X1_15 : Hid (BookOwn (w7.heap.size + 1) w8.heap.size w15 (.agg #[.slice y1a0 y1n0 y1c0, .slice y1a1 y1n1 y1c1]) (xs1, es1)) := X1_14.out.wr hw15 (by have z1 := HZ1.out; have z2 := HZ2.out; have z6 := HZ6.out; have z7 := HZ7.out; have z8 := HZ8.out; have z9 := HZ9.out; have z10 := HZ10.out; have z11 := HZ11.out; have z12 := HZ12.out; have z13 := HZ13.out; have z14 := HZ14.out; omega)
    have G_15 : Hid (DeltaOwn (w8.heap.size + 1) w9.heap.size w15 (.agg #[.slice g0a0 g0n0 g0c0, .slice g0a1 g0n1 g0c1, .bool g0b2, .slice g0a3 g0n3 g0c3]) L0) := G_14.out.wr hw15 (by have z1 := HZ1.out; have z2 := HZ2.out; have z6 := HZ6.out; have z7 := HZ7.out; have z8 := HZ8.out; have z9 := HZ9.out; have z10 := HZ10.out; have z11 := HZ11.out; have z12 := HZ12.out; have z13 := HZ13.out; have z14 := HZ14.out; omega)
    have HZ15 : Hid (w14.heap.size ≤ w15.heap.size) := hw15.sz
    clear c14_0_0 c14_0_1 hz14_0 c14_1_0 c14_1_1 hz14_1 c14_2_0 c14_2_1 c14_2_2 c14_2_3 hz14_2 c14_3_0 c14_3_1 hz14_3 c14_4_0 c14_4_1 hz14_4 c14_5_0 c14_5_1 c14_5_2 c14_5_3 hz14_5 X1_14 G_14 hw15
    have hkn0 : ¬ ((k0 : Int) < 0) := by omega
    have hkb0 : k0 ≤ 40000001 := by omega
    clear hk0
    go_wp2_with fail
    obtain ⟨k1, hk1⟩ : ∃ K : Nat, k0 + bookCnt (xs1, es1) = K := ⟨_, rfl⟩
    have sm1 := HN1.out
    have hc1 : bookCnt (xs1, es1) ≤ 40000000 := by unfold BookSm at sm1; unfold bookCnt; omega
    clear sm1
    refine (cK (markBook_u (w7.heap.size + 1) w8.heap.size k0 _ _ (xs1, es1) X1_15.out HN1.out (by omega) (by have z1 := HZ1.out; have z2 := HZ2.out; have z6 := HZ6.out; have z7 := HZ7.out; have z8 := HZ8.out; have z9 := HZ9.out; have z10 := HZ10.out; have z11 := HZ11.out; have z12 := HZ12.out; have z13 := HZ13.out; have z14 := HZ14.out; have z15 := HZ15.out; omega) (by have z1 := HZ1.out; have z2 := HZ2.out; have z6 := HZ6.out; have z7 := HZ7.out; have z8 := HZ8.out; have z9 := HZ9.out; have z10 := HZ10.out; have z11 := HZ11.out; have z12 := HZ12.out; have z13 := HZ13.out; have z14 := HZ14.out; have z15 := HZ15.out; omega)) hk1).mono ?_
    rintro e w16 ⟨rfl, _, hw16⟩
    have HB16 : Hid (Below w.heap.size w w16) := HB15.out.trans (hw16.1.mono (show w.heap.size ≤ (w7.heap.size + 1) from (by have z1 := HZ1.out; have z2 := HZ2.out; have z6 := HZ6.out; have z7 := HZ7.out; have z8 := HZ8.out; have z9 := HZ9.out; have z10 := HZ10.out; have z11 := HZ11.out; have z12 := HZ12.out; have z13 := HZ13.out; have z14 := HZ14.out; have z15 := HZ15.out; omega)))
    have BC16 : Hid (Below w6.heap.size w6 w16) := BC15.out.trans (hw16.1.mono (show w6.heap.size ≤ (w7.heap.size + 1) from (by have z1 := HZ1.out; have z2 := HZ2.out; have z6 := HZ6.out; have z7 := HZ7.out; have z8 := HZ8.out; have z9 := HZ9.out; have z10 := HZ10.out; have z11 := HZ11.out; have z12 := HZ12.out; have z13 := HZ13.out; have z14 := HZ14.out; have z15 := HZ15.out; omega)))
    have c16_0_0 := (wr_cell hw16 (b := (w.heap.size)) 0 (by have z1 := HZ1.out; have z2 := HZ2.out; have z6 := HZ6.out; have z7 := HZ7.out; have z8 := HZ8.out; have z9 := HZ9.out; have z10 := HZ10.out; have z11 := HZ11.out; have z12 := HZ12.out; have z13 := HZ13.out; have z14 := HZ14.out; have z15 := HZ15.out; omega) hz15_0).trans c15_0_0
    have c16_0_1 := (wr_cell hw16 (b := (w.heap.size)) 1 (by have z1 := HZ1.out; have z2 := HZ2.out; have z6 := HZ6.out; have z7 := HZ7.out; have z8 := HZ8.out; have z9 := HZ9.out; have z10 := HZ10.out; have z11 := HZ11.out; have z12 := HZ12.out; have z13 := HZ13.out; have z14 := HZ14.out; have z15 := HZ15.out; omega) hz15_0).trans c15_0_1
    have hz16_0 : (w.heap.size) < w16.heap.size := Nat.lt_of_lt_of_le hz15_0 hw16.sz
    have c16_1_0 := (wr_cell hw16 (b := (w.heap.size + 1)) 0 (by have z1 := HZ1.out; have z2 := HZ2.out; have z6 := HZ6.out; have z7 := HZ7.out; have z8 := HZ8.out; have z9 := HZ9.out; have z10 := HZ10.out; have z11 := HZ11.out; have z12 := HZ12.out; have z13 := HZ13.out; have z14 := HZ14.out; have z15 := HZ15.out; omega) hz15_1).trans c15_1_0
    have c16_1_1 := (wr_cell hw16 (b := (w.heap.size + 1)) 1 (by have z1 := HZ1.out; have z2 := HZ2.out; have z6 := HZ6.out; have z7 := HZ7.out; have z8 := HZ8.out; have z9 := HZ9.out; have z10 := HZ10.out; have z11 := HZ11.out; have z12 := HZ12.out; have z13 := HZ13.out; have z14 := HZ14.out; have z15 := HZ15.out; omega) hz15_1).trans c15_1_1
    have hz16_1 : (w.heap.size + 1) < w16.heap.size := Nat.lt_of_lt_of_le hz15_1 hw16.sz
    have c16_2_0 := (wr_cell hw16 (b := B6) 0 (by have z1 := HZ1.out; have z2 := HZ2.out; have z6 := HZ6.out; have z7 := HZ7.out; have z8 := HZ8.out; have z9 := HZ9.out; have z10 := HZ10.out; have z11 := HZ11.out; have z12 := HZ12.out; have z13 := HZ13.out; have z14 := HZ14.out; have z15 := HZ15.out; omega) hz15_2).trans c15_2_0
    have c16_2_1 := (wr_cell hw16 (b := B6) 1 (by have z1 := HZ1.out; have z2 := HZ2.out; have z6 := HZ6.out; have z7 := HZ7.out; have z8 := HZ8.out; have z9 := HZ9.out; have z10 := HZ10.out; have z11 := HZ11.out; have z12 := HZ12.out; have z13 := HZ13.out; have z14 := HZ14.out; have z15 := HZ15.out; omega) hz15_2).trans c15_2_1
    have c16_2_2 := (wr_cell hw16 (b := B6) 2 (by have z1 := HZ1.out; have z2 := HZ2.out; have z6 := HZ6.out; have z7 := HZ7.out; have z8 := HZ8.out; have z9 := HZ9.out; have z10 := HZ10.out; have z11 := HZ11.out; have z12 := HZ12.out; have z13 := HZ13.out; have z14 := HZ14.out; have z15 := HZ15.out; omega) hz15_2).trans c15_2_2
    have c16_2_3 := (wr_cell hw16 (b := B6) 3 (by have z1 := HZ1.out; have z2 := HZ2.out; have z6 := HZ6.out; have z7 := HZ7.out; have z8 := HZ8.out; have z9 := HZ9.out; have z10 := HZ10.out; have z11 := HZ11.out; have z12 := HZ12.out; have z13 := HZ13.out; have z14 := HZ14.out; have z15 := HZ15.out; omega) hz15_2).trans c15_2_3
    have hz16_2 : B6 < w16.heap.size := Nat.lt_of_lt_of_le hz15_2 hw16.sz
    have c16_3_0 := (wr_cell hw16 (b := (w7.heap.size)) 0 (by have z1 := HZ1.out; have z2 := HZ2.out; have z6 := HZ6.out; have z7 := HZ7.out; have z8 := HZ8.out; have z9 := HZ9.out; have z10 := HZ10.out; have z11 := HZ11.out; have z12 := HZ12.out; have z13 := HZ13.out; have z14 := HZ14.out; have z15 := HZ15.out; omega) hz15_3).trans c15_3_0
    have c16_3_1 := (wr_cell hw16 (b := (w7.heap.size)) 1 (by have z1 := HZ1.out; have z2 := HZ2.out; have z6 := HZ6.out; have z7 := HZ7.out; have z8 := HZ8.out; have z9 := HZ9.out; have z10 := HZ10.out; have z11 := HZ11.out; have z12 := HZ12.out; have z13 := HZ13.out; have z14 := HZ14.out; have z15 := HZ15.out; omega) hz15_3).trans c15_3_1
    have hz16_3 : (w7.heap.size) < w16.heap.size := Nat.lt_of_lt_of_le hz15_3 hw16.sz
    have c16_4_0 := (wr_cell hw16 (b := (w8.heap.size)) 0 (by have z1 := HZ1.out; have z2 := HZ2.out; have z6 := HZ6.out; have z7 := HZ7.out; have z8 := HZ8.out; have z9 := HZ9.out; have z10 := HZ10.out; have z11 := HZ11.out; have z12 := HZ12.out; have z13 := HZ13.out; have z14 := HZ14.out; have z15 := HZ15.out; omega) hz15_4).trans c15_4_0
    have c16_4_1 := (wr_cell hw16 (b := (w8.heap.size)) 1 (by have z1 := HZ1.out; have z2 := HZ2.out; have z6 := HZ6.out; have z7 := HZ7.out; have z8 := HZ8.out; have z9 := HZ9.out; have z10 := HZ10.out; have z11 := HZ11.out; have z12 := HZ12.out; have z13 := HZ13.out; have z14 := HZ14.out; have z15 := HZ15.out; omega) hz15_4).trans c15_4_1
    have hz16_4 : (w8.heap.size) < w16.heap.size := Nat.lt_of_lt_of_le hz15_4 hw16.sz
    have c16_5_0 := (wr_cell hw16 (b := (w9.heap.size)) 0 (by have z1 := HZ1.out; have z2 := HZ2.out; have z6 := HZ6.out; have z7 := HZ7.out; have z8 := HZ8.out; have z9 := HZ9.out; have z10 := HZ10.out; have z11 := HZ11.out; have z12 := HZ12.out; have z13 := HZ13.out; have z14 := HZ14.out; have z15 := HZ15.out; omega) hz15_5).trans c15_5_0
    have c16_5_1 := (wr_cell hw16 (b := (w9.heap.size)) 1 (by have z1 := HZ1.out; have z2 := HZ2.out; have z6 := HZ6.out; have z7 := HZ7.out; have z8 := HZ8.out; have z9 := HZ9.out; have z10 := HZ10.out; have z11 := HZ11.out; have z12 := HZ12.out; have z13 := HZ13.out; have z14 := HZ14.out; have z15 := HZ15.out; omega) hz15_5).trans c15_5_1
    have c16_5_2 := (wr_cell hw16 (b := (w9.heap.size)) 2 (by have z1 := HZ1.out; have z2 := HZ2.out; have z6 := HZ6.out; have z7 := HZ7.out; have z8 := HZ8.out; have z9 := HZ9.out; have z10 := HZ10.out; have z11 := HZ11.out; have z12 := HZ12.out; have z13 := HZ13.out; have z14 := HZ14.out; have z15 := HZ15.out; omega) hz15_5).trans c15_5_2
    have c16_5_3 := (wr_cell hw16 (b := (w9.heap.size)) 3 (by have z1 := HZ1.out; have z2 := HZ2.out; have z6 := HZ6.out; have z7 := HZ7.out; have z8 := HZ8.out; have z9 := HZ9.out; have z10 := HZ10.out; have z11 := HZ11.out; have z12 := HZ12.out; have z13 := HZ13.out; have z14 := HZ14.out; have z15 := HZ15.out; omega) hz15_5).trans c15_5_3
    have hz16_5 : (w9.heap.size) < w16.heap.size := Nat.lt_of_lt_of_le hz15_5 hw16.sz
    have G_16 : Hid (DeltaOwn (w8.heap.size + 1) w9.heap.size w16 (.agg #[.slice g0a0 g0n0 g0c0, .slice g0a1 g0n1 g0c1, .bool g0b2, .slice g0a3 g0n3 g0c3]) L0) := G_15.out.wr hw16 (by have z1 := HZ1.out; have z2 := HZ2.out; have z6 := HZ6.out; have z7 := HZ7.out; have z8 := HZ8.out; have z9 := HZ9.out; have z10 := HZ10.out; have z11 := HZ11.out; have z12 := HZ12.out; have z13 := HZ13.out; have z14 := HZ14.out; have z15 := HZ15.out; omega)
    have HZ16 : Hid (w15.heap.size ≤ w16.heap.size) := hw16.sz
    clear c15_0_0 c15_0_1 hz15_0 c15_1_0 c15_1_1 hz15_1 c15_2_0 c15_2_1 c15_2_2 c15_2_3 hz15_2 c15_3_0 c15_3_1 hz15_3 c15_4_0 c15_4_1 hz15_4 c15_5_0 c15_5_1 c15_5_2 c15_5_3 hz15_5 G_15 hw16
    have hkn1 : ¬ ((k1 : Int) < 0) := by omega
    have hkb1 : k1 ≤ 80000001 := by omega
    clear hk1
    go_wp2_with fail
    refine (eqDelta_u _ _ _ L0 (G_16.out).at (HU.out.below BC16.out)).mono ?_
    rintro e w17 ⟨rfl, hb17⟩
    have hh17 : Below w16.heap.size w16 w17 := hb17
    have HB17 : Hid (Below w.heap.size w w17) := HB16.out.trans (hh17.mono HB16.out.size)
    have BC17 : Hid (Below w6.heap.size w6 w17) := BC16.out.trans (hh17.mono BC16.out.size)
    have c17_0_0 := (hh17.cell (p := ⟨(w.heap.size), 0, none⟩) hz16_0).trans c16_0_0
    have c17_0_1 := (hh17.cell (p := ⟨(w.heap.size), 1, none⟩) hz16_0).trans c16_0_1
    have hz17_0 : (w.heap.size) < w17.heap.size := Nat.lt_of_lt_of_le hz16_0 hh17.size
    have c17_1_0 := (hh17.cell (p := ⟨(w.heap.size + 1), 0, none⟩) hz16_1).trans c16_1_0
    have c17_1_1 := (hh17.cell (p := ⟨(w.heap.size + 1), 1, none⟩) hz16_1).trans c16_1_1
    have hz17_1 : (w.heap.size + 1) < w17.heap.size := Nat.lt_of_lt_of_le hz16_1 hh17.size
    have c17_2_0 := (hh17.cell (p := ⟨B6, 0, none⟩) hz16_2).trans c16_2_0
    have c17_2_1 := (hh17.cell (p := ⟨B6, 1, none⟩) hz16_2).trans c16_2_1
    have c17_2_2 := (hh17.cell (p := ⟨B6, 2, none⟩) hz16_2).trans c16_2_2
    have c17_2_3 := (hh17.cell (p := ⟨B6, 3, none⟩) hz16_2).trans c16_2_3
    have hz17_2 : B6 < w17.heap.size := Nat.lt_of_lt_of_le hz16_2 hh17.size
    have c17_3_0 := (hh17.cell (p := ⟨(w7.heap.size), 0, none⟩) hz16_3).trans c16_3_0
    have c17_3_1 := (hh17.cell (p := ⟨(w7.heap.size), 1, none⟩) hz16_3).trans c16_3_1
    have hz17_3 : (w7.heap.size) < w17.heap.size := Nat.lt_of_lt_of_le hz16_3 hh17.size
    have c17_4_0 := (hh17.cell (p := ⟨(w8.heap.size), 0, none⟩) hz16_4).trans c16_4_0
    have c17_4_1 := (hh17.cell (p := ⟨(w8.heap.size), 1, none⟩) hz16_4).trans c16_4_1
    have hz17_4 : (w8.heap.size) < w17.heap.size := Nat.lt_of_lt_of_le hz16_4 hh17.size
    have c17_5_0 := (hh17.cell (p := ⟨(w9.heap.size), 0, none⟩) hz16_5).trans c16_5_0
    have c17_5_1 := (hh17.cell (p := ⟨(w9.heap.size), 1, none⟩) hz16_5).trans c16_5_1
    have c17_5_2 := (hh17.cell (p := ⟨(w9.heap.size), 2, none⟩) hz16_5).trans c16_5_2
    have c17_5_3 := (hh17.cell (p := ⟨(w9.heap.size), 3, none⟩) hz16_5).trans c16_5_3
    have hz17_5 : (w9.heap.size) < w17.heap.size := Nat.lt_of_lt_of_le hz16_5 hh17.size
    have G_17 : Hid (DeltaOwn (w8.heap.size + 1) w9.heap.size w17 (.agg #[.slice g0a0 g0n0 g0c0, .slice g0a1 g0n1 g0c1, .bool g0b2, .slice g0a3 g0n3 g0c3]) L0) := G_16.out.below hh17
    have HZ17 : Hid (w16.heap.size ≤ w17.heap.size) := hh17.size
    clear c16_0_0 c16_0_1 hz16_0 c16_1_0 c16_1_1 hz16_1 c16_2_0 c16_2_1 c16_2_2 c16_2_3 hz16_2 c16_3_0 c16_3_1 hz16_3 c16_4_0 c16_4_1 hz16_4 c16_5_0 c16_5_1 c16_5_2 c16_5_3 hz16_5 G_16 hb17 hh17
    go_wp2_with fail
    obtain ⟨km, hkm⟩ : ∃ K : Nat, 1 + deltaCnt L0 = K := ⟨_, rfl⟩
    have smr := HSM.out
    have hcr : deltaCnt L0 ≤ 40000000 := by unfold DeltaSm at smr; unfold deltaCnt; omega
    clear smr
    have HKM : Hid (_ = km) := hkm
    refine (cK (markDelta_u (w8.heap.size + 1) w9.heap.size 1 _ _ L0 G_17.out HSM.out (by omega) (by have z1 := HZ1.out; have z2 := HZ2.out; have z6 := HZ6.out; have z7 := HZ7.out; have z8 := HZ8.out; have z9 := HZ9.out; have z10 := HZ10.out; have z11 := HZ11.out; have z12 := HZ12.out; have z13 := HZ13.out; have z14 := HZ14.out; have z15 := HZ15.out; have z16 := HZ16.out; have z17 := HZ17.out; omega) (by have z1 := HZ1.out; have z2 := HZ2.out; have z6 := HZ6.out; have z7 := HZ7.out; have z8 := HZ8.out; have z9 := HZ9.out; have z10 := HZ10.out; have z11 := HZ11.out; have z12 := HZ12.out; have z13 := HZ13.out; have z14 := HZ14.out; have z15 := HZ15.out; have z16 := HZ16.out; have z17 := HZ17.out; omega)) HKM.out).mono ?_
    rintro e w18 ⟨rfl, hu18, hw18⟩
    have HB18 : Hid (Below w.heap.size w w18) := HB17.out.trans (hw18.1.mono (show w.heap.size ≤ (w8.heap.size + 1) from (by have z1 := HZ1.out; have z2 := HZ2.out; have z6 := HZ6.out; have z7 := HZ7.out; have z8 := HZ8.out; have z9 := HZ9.out; have z10 := HZ10.out; have z11 := HZ11.out; have z12 := HZ12.out; have z13 := HZ13.out; have z14 := HZ14.out; have z15 := HZ15.out; have z16 := HZ16.out; have z17 := HZ17.out; omega)))
    have BC18 : Hid (Below w6.heap.size w6 w18) := BC17.out.trans (hw18.1.mono (show w6.heap.size ≤ (w8.heap.size + 1) from (by have z1 := HZ1.out; have z2 := HZ2.out; have z6 := HZ6.out; have z7 := HZ7.out; have z8 := HZ8.out; have z9 := HZ9.out; have z10 := HZ10.out; have z11 := HZ11.out; have z12 := HZ12.out; have z13 := HZ13.out; have z14 := HZ14.out; have z15 := HZ15.out; have z16 := HZ16.out; have z17 := HZ17.out; omega)))
    have c18_0_0 := (wr_cell hw18 (b := (w.heap.size)) 0 (by have z1 := HZ1.out; have z2 := HZ2.out; have z6 := HZ6.out; have z7 := HZ7.out; have z8 := HZ8.out; have z9 := HZ9.out; have z10 := HZ10.out; have z11 := HZ11.out; have z12 := HZ12.out; have z13 := HZ13.out; have z14 := HZ14.out; have z15 := HZ15.out; have z16 := HZ16.out; have z17 := HZ17.out; omega) hz17_0).trans c17_0_0
    have c18_0_1 := (wr_cell hw18 (b := (w.heap.size)) 1 (by have z1 := HZ1.out; have z2 := HZ2.out; have z6 := HZ6.out; have z7 := HZ7.out; have z8 := HZ8.out; have z9 := HZ9.out; have z10 := HZ10.out; have z11 := HZ11.out; have z12 := HZ12.out; have z13 := HZ13.out; have z14 := HZ14.out; have z15 := HZ15.out; have z16 := HZ16.out; have z17 := HZ17.out; omega) hz17_0).trans c17_0_1
    have hz18_0 : (w.heap.size) < w18.heap.size := Nat.lt_of_lt_of_le hz17_0 hw18.sz
    have c18_1_0 := (wr_cell hw18 (b := (w.heap.size + 1)) 0 (by have z1 := HZ1.out; have z2 := HZ2.out; have z6 := HZ6.out; have z7 := HZ7.out; have z8 := HZ8.out; have z9 := HZ9.out; have z10 := HZ10.out; have z11 := HZ11.out; have z12 := HZ12.out; have z13 := HZ13.out; have z14 := HZ14.out; have z15 := HZ15.out; have z16 := HZ16.out; have z17 := HZ17.out; omega) hz17_1).trans c17_1_0
    have c18_1_1 := (wr_cell hw18 (b := (w.heap.size + 1)) 1 (by have z1 := HZ1.out; have z2 := HZ2.out; have z6 := HZ6.out; have z7 := HZ7.out; have z8 := HZ8.out; have z9 := HZ9.out; have z10 := HZ10.out; have z11 := HZ11.out; have z12 := HZ12.out; have z13 := HZ13.out; have z14 := HZ14.out; have z15 := HZ15.out; have z16 := HZ16.out; have z17 := HZ17.out; omega) hz17_1).trans c17_1_1
    have hz18_1 : (w.heap.size + 1) < w18.heap.size := Nat.lt_of_lt_of_le hz17_1 hw18.sz
    have c18_2_0 := (wr_cell hw18 (b := B6) 0 (by have z1 := HZ1.out; have z2 := HZ2.out; have z6 := HZ6.out; have z7 := HZ7.out; have z8 := HZ8.out; have z9 := HZ9.out; have z10 := HZ10.out; have z11 := HZ11.out; have z12 := HZ12.out; have z13 := HZ13.out; have z14 := HZ14.out; have z15 := HZ15.out; have z16 := HZ16.out; have z17 := HZ17.out; omega) hz17_2).trans c17_2_0
    have c18_2_1 := (wr_cell hw18 (b := B6) 1 (by have z1 := HZ1.out; have z2 := HZ2.out; have z6 := HZ6.out; have z7 := HZ7.out; have z8 := HZ8.out; have z9 := HZ9.out; have z10 := HZ10.out; have z11 := HZ11.out; have z12 := HZ12.out; have z13 := HZ13.out; have z14 := HZ14.out; have z15 := HZ15.out; have z16 := HZ16.out; have z17 := HZ17.out; omega) hz17_2).trans c17_2_1
    have c18_2_2 := (wr_cell hw18 (b := B6) 2 (by have z1 := HZ1.out; have z2 := HZ2.out; have z6 := HZ6.out; have z7 := HZ7.out; have z8 := HZ8.out; have z9 := HZ9.out; have z10 := HZ10.out; have z11 := HZ11.out; have z12 := HZ12.out; have z13 := HZ13.out; have z14 := HZ14.out; have z15 := HZ15.out; have z16 := HZ16.out; have z17 := HZ17.out; omega) hz17_2).trans c17_2_2
    have c18_2_3 := (wr_cell hw18 (b := B6) 3 (by have z1 := HZ1.out; have z2 := HZ2.out; have z6 := HZ6.out; have z7 := HZ7.out; have z8 := HZ8.out; have z9 := HZ9.out; have z10 := HZ10.out; have z11 := HZ11.out; have z12 := HZ12.out; have z13 := HZ13.out; have z14 := HZ14.out; have z15 := HZ15.out; have z16 := HZ16.out; have z17 := HZ17.out; omega) hz17_2).trans c17_2_3
    have hz18_2 : B6 < w18.heap.size := Nat.lt_of_lt_of_le hz17_2 hw18.sz
    have c18_3_0 := (wr_cell hw18 (b := (w7.heap.size)) 0 (by have z1 := HZ1.out; have z2 := HZ2.out; have z6 := HZ6.out; have z7 := HZ7.out; have z8 := HZ8.out; have z9 := HZ9.out; have z10 := HZ10.out; have z11 := HZ11.out; have z12 := HZ12.out; have z13 := HZ13.out; have z14 := HZ14.out; have z15 := HZ15.out; have z16 := HZ16.out; have z17 := HZ17.out; omega) hz17_3).trans c17_3_0
    have c18_3_1 := (wr_cell hw18 (b := (w7.heap.size)) 1 (by have z1 := HZ1.out; have z2 := HZ2.out; have z6 := HZ6.out; have z7 := HZ7.out; have z8 := HZ8.out; have z9 := HZ9.out; have z10 := HZ10.out; have z11 := HZ11.out; have z12 := HZ12.out; have z13 := HZ13.out; have z14 := HZ14.out; have z15 := HZ15.out; have z16 := HZ16.out; have z17 := HZ17.out; omega) hz17_3).trans c17_3_1
    have hz18_3 : (w7.heap.size) < w18.heap.size := Nat.lt_of_lt_of_le hz17_3 hw18.sz
    have c18_4_0 := (wr_cell hw18 (b := (w8.heap.size)) 0 (by have z1 := HZ1.out; have z2 := HZ2.out; have z6 := HZ6.out; have z7 := HZ7.out; have z8 := HZ8.out; have z9 := HZ9.out; have z10 := HZ10.out; have z11 := HZ11.out; have z12 := HZ12.out; have z13 := HZ13.out; have z14 := HZ14.out; have z15 := HZ15.out; have z16 := HZ16.out; have z17 := HZ17.out; omega) hz17_4).trans c17_4_0
    have c18_4_1 := (wr_cell hw18 (b := (w8.heap.size)) 1 (by have z1 := HZ1.out; have z2 := HZ2.out; have z6 := HZ6.out; have z7 := HZ7.out; have z8 := HZ8.out; have z9 := HZ9.out; have z10 := HZ10.out; have z11 := HZ11.out; have z12 := HZ12.out; have z13 := HZ13.out; have z14 := HZ14.out; have z15 := HZ15.out; have z16 := HZ16.out; have z17 := HZ17.out; omega) hz17_4).trans c17_4_1
    have hz18_4 : (w8.heap.size) < w18.heap.size := Nat.lt_of_lt_of_le hz17_4 hw18.sz
    have c18_5_0 := (wr_cell hw18 (b := (w9.heap.size)) 0 (by have z1 := HZ1.out; have z2 := HZ2.out; have z6 := HZ6.out; have z7 := HZ7.out; have z8 := HZ8.out; have z9 := HZ9.out; have z10 := HZ10.out; have z11 := HZ11.out; have z12 := HZ12.out; have z13 := HZ13.out; have z14 := HZ14.out; have z15 := HZ15.out; have z16 := HZ16.out; have z17 := HZ17.out; omega) hz17_5).trans c17_5_0
    have c18_5_1 := (wr_cell hw18 (b := (w9.heap.size)) 1 (by have z1 := HZ1.out; have z2 := HZ2.out; have z6 := HZ6.out; have z7 := HZ7.out; have z8 := HZ8.out; have z9 := HZ9.out; have z10 := HZ10.out; have z11 := HZ11.out; have z12 := HZ12.out; have z13 := HZ13.out; have z14 := HZ14.out; have z15 := HZ15.out; have z16 := HZ16.out; have z17 := HZ17.out; omega) hz17_5).trans c17_5_1
    have c18_5_2 := (wr_cell hw18 (b := (w9.heap.size)) 2 (by have z1 := HZ1.out; have z2 := HZ2.out; have z6 := HZ6.out; have z7 := HZ7.out; have z8 := HZ8.out; have z9 := HZ9.out; have z10 := HZ10.out; have z11 := HZ11.out; have z12 := HZ12.out; have z13 := HZ13.out; have z14 := HZ14.out; have z15 := HZ15.out; have z16 := HZ16.out; have z17 := HZ17.out; omega) hz17_5).trans c17_5_2
    have c18_5_3 := (wr_cell hw18 (b := (w9.heap.size)) 3 (by have z1 := HZ1.out; have z2 := HZ2.out; have z6 := HZ6.out; have z7 := HZ7.out; have z8 := HZ8.out; have z9 := HZ9.out; have z10 := HZ10.out; have z11 := HZ11.out; have z12 := HZ12.out; have z13 := HZ13.out; have z14 := HZ14.out; have z15 := HZ15.out; have z16 := HZ16.out; have z17 := HZ17.out; omega) hz17_5).trans c17_5_3
    have hz18_5 : (w9.heap.size) < w18.heap.size := Nat.lt_of_lt_of_le hz17_5 hw18.sz
    have HZ18 : Hid (w17.heap.size ≤ w18.heap.size) := hw18.sz
    clear c17_0_0 c17_0_1 hz17_0 c17_1_0 c17_1_1 hz17_1 c17_2_0 c17_2_1 c17_2_2 c17_2_3 hz17_2 c17_3_0 c17_3_1 hz17_3 c17_4_0 c17_4_1 hz17_4 c17_5_0 c17_5_1 c17_5_2 c17_5_3 hz17_5 hw18
    have Q_18 : Hid (DeltaOwn (w8.heap.size + 1) w9.heap.size w18 (.agg #[.slice g0a0 g0n0 g0c0, .slice g0a1 g0n1 g0c1, .bool g0b2, .slice g0a3 g0n3 g0c3]) (deltaMk 1 L0)) := hu18
    clear hu18
    have hkmn : ¬ ((km : Int) < 0) := by omega
    clear hkm
    go_wp2_with fail
    refine (cK (heldDelta_u _ _ 1 L0 (Q_18.out).at HSM.out (by omega)) HKM.out).mono ?_
    rintro e w19 ⟨rfl, hb19⟩
    have hh19 : Below w18.heap.size w18 w19 := hb19
    have HB19 : Hid (Below w.heap.size w w19) := HB18.out.trans (hh19.mono HB18.out.size)
    have BC19 : Hid (Below w6.heap.size w6 w19) := BC18.out.trans (hh19.mono BC18.out.size)
    have c19_0_0 := (hh19.cell (p := ⟨(w.heap.size), 0, none⟩) hz18_0).trans c18_0_0
    have c19_0_1 := (hh19.cell (p := ⟨(w.heap.size), 1, none⟩) hz18_0).trans c18_0_1
    have hz19_0 : (w.heap.size) < w19.heap.size := Nat.lt_of_lt_of_le hz18_0 hh19.size
    have c19_1_0 := (hh19.cell (p := ⟨(w.heap.size + 1), 0, none⟩) hz18_1).trans c18_1_0
    have c19_1_1 := (hh19.cell (p := ⟨(w.heap.size + 1), 1, none⟩) hz18_1).trans c18_1_1
    have hz19_1 : (w.heap.size + 1) < w19.heap.size := Nat.lt_of_lt_of_le hz18_1 hh19.size
    have c19_2_0 := (hh19.cell (p := ⟨B6, 0, none⟩) hz18_2).trans c18_2_0
    have c19_2_1 := (hh19.cell (p := ⟨B6, 1, none⟩) hz18_2).trans c18_2_1
    have c19_2_2 := (hh19.cell (p := ⟨B6, 2, none⟩) hz18_2).trans c18_2_2
    have c19_2_3 := (hh19.cell (p := ⟨B6, 3, none⟩) hz18_2).trans c18_2_3
    have hz19_2 : B6 < w19.heap.size := Nat.lt_of_lt_of_le hz18_2 hh19.size
    have c19_3_0 := (hh19.cell (p := ⟨(w7.heap.size), 0, none⟩) hz18_3).trans c18_3_0
    have c19_3_1 := (hh19.cell (p := ⟨(w7.heap.size), 1, none⟩) hz18_3).trans c18_3_1
    have hz19_3 : (w7.heap.size) < w19.heap.size := Nat.lt_of_lt_of_le hz18_3 hh19.size
    have c19_4_0 := (hh19.cell (p := ⟨(w8.heap.size), 0, none⟩) hz18_4).trans c18_4_0
    have c19_4_1 := (hh19.cell (p := ⟨(w8.heap.size), 1, none⟩) hz18_4).trans c18_4_1
    have hz19_4 : (w8.heap.size) < w19.heap.size := Nat.lt_of_lt_of_le hz18_4 hh19.size
    have c19_5_0 := (hh19.cell (p := ⟨(w9.heap.size), 0, none⟩) hz18_5).trans c18_5_0
    have c19_5_1 := (hh19.cell (p := ⟨(w9.heap.size), 1, none⟩) hz18_5).trans c18_5_1
    have c19_5_2 := (hh19.cell (p := ⟨(w9.heap.size), 2, none⟩) hz18_5).trans c18_5_2
    have c19_5_3 := (hh19.cell (p := ⟨(w9.heap.size), 3, none⟩) hz18_5).trans c18_5_3
    have hz19_5 : (w9.heap.size) < w19.heap.size := Nat.lt_of_lt_of_le hz18_5 hh19.size
    have Q_19 : Hid (DeltaOwn (w8.heap.size + 1) w9.heap.size w19 (.agg #[.slice g0a0 g0n0 g0c0, .slice g0a1 g0n1 g0c1, .bool g0b2, .slice g0a3 g0n3 g0c3]) (deltaMk 1 L0)) := Q_18.out.below hh19
    have HZ19 : Hid (w18.heap.size ≤ w19.heap.size) := hh19.size
    clear c18_0_0 c18_0_1 hz18_0 c18_1_0 c18_1_1 hz18_1 c18_2_0 c18_2_1 c18_2_2 c18_2_3 hz18_2 c18_3_0 c18_3_1 hz18_3 c18_4_0 c18_4_1 hz18_4 c18_5_0 c18_5_1 c18_5_2 c18_5_3 hz18_5 Q_18 hb19 hh19
    go_wp2_with fail
    go_cut [13] (fun u wx => ∃ (B : Nat) (e0a0 : Option Addr) (e0n0 e0c0 : Nat) (e0a1 : Option Addr) (e0n1 e0c1 : Nat) (e0b2 : Bool) (e0a3 : Option Addr) (e0n3 e0c3 : Nat), u = .pointer (some ⟨B, 0, none⟩) ∧ DRow wx B (.slice e0a0 e0n0 e0c0) (.slice e0a1 e0n1 e0c1) e0b2 (.slice e0a3 e0n3 e0c3) ∧ DeltaAt wx (.agg #[.slice e0a0 e0n0 e0c0, .slice e0a1 e0n1 e0c1, .bool e0b2, .slice e0a3 e0n3 e0c3]) L0 ∧ Below w19.heap.size w19 wx ∧ w19.heap.size ≤ B)
    case first =>
      go_region_held3 (fun w' => w'.cell? ⟨(w.heap.size), 0, none⟩ = some (va0) ∧ w'.cell? ⟨(w.heap.size), 1, none⟩ = some (ve0) ∧ w'.cell? ⟨(w.heap.size + 1), 0, none⟩ = some (va1) ∧ w'.cell? ⟨(w.heap.size + 1), 1, none⟩ = some (ve1) ∧ w'.cell? ⟨B6, 0, none⟩ = some (.slice p0a0 p0n0 p0c0) ∧ w'.cell? ⟨B6, 1, none⟩ = some (.slice p0a1 p0n1 p0c1) ∧ w'.cell? ⟨B6, 2, none⟩ = some (.bool p0b2) ∧ w'.cell? ⟨B6, 3, none⟩ = some (.slice p0a3 p0n3 p0c3) ∧ w'.cell? ⟨(w7.heap.size), 0, none⟩ = some (.slice y0a0 y0n0 y0c0) ∧ w'.cell? ⟨(w7.heap.size), 1, none⟩ = some (.slice y0a1 y0n1 y0c1) ∧ w'.cell? ⟨(w8.heap.size), 0, none⟩ = some (.slice y1a0 y1n0 y1c0) ∧ w'.cell? ⟨(w8.heap.size), 1, none⟩ = some (.slice y1a1 y1n1 y1c1) ∧ w'.cell? ⟨(w9.heap.size), 0, none⟩ = some (.slice g0a0 g0n0 g0c0) ∧ w'.cell? ⟨(w9.heap.size), 1, none⟩ = some (.slice g0a1 g0n1 g0c1) ∧ w'.cell? ⟨(w9.heap.size), 2, none⟩ = some (.bool g0b2) ∧ w'.cell? ⟨(w9.heap.size), 3, none⟩ = some (.slice g0a3 g0n3 g0c3)) (first | go_keep | (refine ⟨?_, ?_, ?_, ?_, ?_, ?_, ?_, ?_, ?_, ?_, ?_, ?_, ?_, ?_, ?_, ?_⟩ <;> first | go_keep | (refine cell_set4 ?_ ?_ <;> first | assumption | omega)))
        (first
          | (have qm := HB21; clear qm; go_at_call 7; refine (HIM.out _ _ _ (Uc0_21.out.below (by first | exact Below.refl _ _ | exact (Below.refl _ _).drew | exact (Below.refl _ _).alloc (Nat.le_refl _) _ | exact ((Below.refl _ _).alloc (Nat.le_refl _) _).drew)) (Uc1_21.out.below (by first | exact Below.refl _ _ | exact (Below.refl _ _).drew | exact (Below.refl _ _).alloc (Nat.le_refl _) _ | exact ((Below.refl _ _).alloc (Nat.le_refl _) _).drew))).mono ?_; rintro e w22 ⟨e0a0, e0n0, e0c0, e0a1, e0n1, e0c1, e0b2, e0a3, e0n3, e0c3, rfl, hu22, hb22⟩; have hh22 : Below w21.heap.size w21 w22 := below_via hb22 (by first | exact Below.refl _ _ | exact (Below.refl _ _).drew | exact (Below.refl _ _).alloc (Nat.le_refl _) _ | exact ((Below.refl _ _).alloc (Nat.le_refl _) _).drew); (first | have hbx22 := DRow.below hbx21 hh22 | have hbx22 := DRow.below (DRow.new w21 (.slice none 0 0) (.slice none 0 0) false (.slice none 0 0)) hb22 | have hbx22 := DRow.below (DRow.drew (DRow.new w21 (.slice none 0 0) (.slice none 0 0) false (.slice none 0 0))) hb22 | skip); have HB22 : Hid (Below w.heap.size w w22) := HB21.out.trans (hh22.mono HB21.out.size); have HCB : Hid (Below w19.heap.size w19 w22) := HCB.out.trans (hh22.mono HCB.out.size); have BC22 : Hid (Below w6.heap.size w6 w22) := BC21.out.trans (hh22.mono BC21.out.size); have c22_0_0 := (hh22.cell (p := ⟨(w.heap.size), 0, none⟩) hz21_0).trans c21_0_0; have c22_0_1 := (hh22.cell (p := ⟨(w.heap.size), 1, none⟩) hz21_0).trans c21_0_1; have hz22_0 : (w.heap.size) < w22.heap.size := Nat.lt_of_lt_of_le hz21_0 hh22.size; have c22_1_0 := (hh22.cell (p := ⟨(w.heap.size + 1), 0, none⟩) hz21_1).trans c21_1_0; have c22_1_1 := (hh22.cell (p := ⟨(w.heap.size + 1), 1, none⟩) hz21_1).trans c21_1_1; have hz22_1 : (w.heap.size + 1) < w22.heap.size := Nat.lt_of_lt_of_le hz21_1 hh22.size; have c22_2_0 := (hh22.cell (p := ⟨B6, 0, none⟩) hz21_2).trans c21_2_0; have c22_2_1 := (hh22.cell (p := ⟨B6, 1, none⟩) hz21_2).trans c21_2_1; have c22_2_2 := (hh22.cell (p := ⟨B6, 2, none⟩) hz21_2).trans c21_2_2; have c22_2_3 := (hh22.cell (p := ⟨B6, 3, none⟩) hz21_2).trans c21_2_3; have hz22_2 : B6 < w22.heap.size := Nat.lt_of_lt_of_le hz21_2 hh22.size; have c22_3_0 := (hh22.cell (p := ⟨(w7.heap.size), 0, none⟩) hz21_3).trans c21_3_0; have c22_3_1 := (hh22.cell (p := ⟨(w7.heap.size), 1, none⟩) hz21_3).trans c21_3_1; have hz22_3 : (w7.heap.size) < w22.heap.size := Nat.lt_of_lt_of_le hz21_3 hh22.size; have c22_4_0 := (hh22.cell (p := ⟨(w8.heap.size), 0, none⟩) hz21_4).trans c21_4_0; have c22_4_1 := (hh22.cell (p := ⟨(w8.heap.size), 1, none⟩) hz21_4).trans c21_4_1; have hz22_4 : (w8.heap.size) < w22.heap.size := Nat.lt_of_lt_of_le hz21_4 hh22.size; have c22_5_0 := (hh22.cell (p := ⟨(w9.heap.size), 0, none⟩) hz21_5).trans c21_5_0; have c22_5_1 := (hh22.cell (p := ⟨(w9.heap.size), 1, none⟩) hz21_5).trans c21_5_1; have c22_5_2 := (hh22.cell (p := ⟨(w9.heap.size), 2, none⟩) hz21_5).trans c21_5_2; have c22_5_3 := (hh22.cell (p := ⟨(w9.heap.size), 3, none⟩) hz21_5).trans c21_5_3; have hz22_5 : (w9.heap.size) < w22.heap.size := Nat.lt_of_lt_of_le hz21_5 hh22.size; have Q_22 : Hid (DeltaOwn (w8.heap.size + 1) w9.heap.size w22 (.agg #[.slice g0a0 g0n0 g0c0, .slice g0a1 g0n1 g0c1, .bool g0b2, .slice g0a3 g0n3 g0c3]) (deltaMk 1 L0)) := Q_21.out.below hh22; have Uc0_22 : Hid (BookAt w22 (uc0) (xs0, es0)) := Uc0_21.out.below hh22; have Uc1_22 : Hid (BookAt w22 (uc1) (xs1, es1)) := Uc1_21.out.below hh22; have HZ22 : Hid (w21.heap.size ≤ w22.heap.size) := hh22.size; clear c21_0_0 c21_0_1 c21_1_0 c21_1_1 c21_2_0 c21_2_1 c21_2_2 c21_2_3 c21_3_0 c21_3_1 c21_4_0 c21_4_1 c21_5_0 c21_5_1 c21_5_2 c21_5_3 Q_21 Uc0_21 Uc1_21 hb22 hh22; have HW_22 : Hid (DeltaAt w22 (.agg #[.slice e0a0 e0n0 e0c0, .slice e0a1 e0n1 e0c1, .bool e0b2, .slice e0a3 e0n3 e0c3]) L0) := hu22.at; clear hu22; (first | (have zc0 := hbx22.c0; have zc1 := hbx22.c1; have zc2 := hbx22.c2; have zc3 := hbx22.c3; have zf0 := hbx22.fz 0; have zf1 := hbx22.fz 1; have zf2 := hbx22.fz 2; have zf3 := hbx22.fz 3) | skip))
          | (have qm := HB20; clear qm; go_at_call 6; refine (toBook_u _ _ (xs1, es1) (HA1.out.below (HB20.out.trans (Below.mono (by first | exact Below.refl _ _ | exact (Below.refl _ _).drew | exact (Below.refl _ _).alloc (Nat.le_refl _) _ | exact ((Below.refl _ _).alloc (Nat.le_refl _) _).drew) HB20.out.size))) HN1.out).mono ?_; rintro e w21 ⟨uc1, rfl, hu21, hb21⟩; have hh21 : Below w20.heap.size w20 w21 := below_via hb21 (by first | exact Below.refl _ _ | exact (Below.refl _ _).drew | exact (Below.refl _ _).alloc (Nat.le_refl _) _ | exact ((Below.refl _ _).alloc (Nat.le_refl _) _).drew); (first | have hbx21 := DRow.below hbx20 hh21 | have hbx21 := DRow.below (DRow.new w20 (.slice none 0 0) (.slice none 0 0) false (.slice none 0 0)) hb21 | have hbx21 := DRow.below (DRow.drew (DRow.new w20 (.slice none 0 0) (.slice none 0 0) false (.slice none 0 0))) hb21 | skip); have HB21 : Hid (Below w.heap.size w w21) := HB20.out.trans (hh21.mono HB20.out.size); have HCB : Hid (Below w19.heap.size w19 w21) := HCB.out.trans (hh21.mono HCB.out.size); have BC21 : Hid (Below w6.heap.size w6 w21) := BC20.out.trans (hh21.mono BC20.out.size); have c21_0_0 := (hh21.cell (p := ⟨(w.heap.size), 0, none⟩) hz20_0).trans c20_0_0; have c21_0_1 := (hh21.cell (p := ⟨(w.heap.size), 1, none⟩) hz20_0).trans c20_0_1; have hz21_0 : (w.heap.size) < w21.heap.size := Nat.lt_of_lt_of_le hz20_0 hh21.size; have c21_1_0 := (hh21.cell (p := ⟨(w.heap.size + 1), 0, none⟩) hz20_1).trans c20_1_0; have c21_1_1 := (hh21.cell (p := ⟨(w.heap.size + 1), 1, none⟩) hz20_1).trans c20_1_1; have hz21_1 : (w.heap.size + 1) < w21.heap.size := Nat.lt_of_lt_of_le hz20_1 hh21.size; have c21_2_0 := (hh21.cell (p := ⟨B6, 0, none⟩) hz20_2).trans c20_2_0; have c21_2_1 := (hh21.cell (p := ⟨B6, 1, none⟩) hz20_2).trans c20_2_1; have c21_2_2 := (hh21.cell (p := ⟨B6, 2, none⟩) hz20_2).trans c20_2_2; have c21_2_3 := (hh21.cell (p := ⟨B6, 3, none⟩) hz20_2).trans c20_2_3; have hz21_2 : B6 < w21.heap.size := Nat.lt_of_lt_of_le hz20_2 hh21.size; have c21_3_0 := (hh21.cell (p := ⟨(w7.heap.size), 0, none⟩) hz20_3).trans c20_3_0; have c21_3_1 := (hh21.cell (p := ⟨(w7.heap.size), 1, none⟩) hz20_3).trans c20_3_1; have hz21_3 : (w7.heap.size) < w21.heap.size := Nat.lt_of_lt_of_le hz20_3 hh21.size; have c21_4_0 := (hh21.cell (p := ⟨(w8.heap.size), 0, none⟩) hz20_4).trans c20_4_0; have c21_4_1 := (hh21.cell (p := ⟨(w8.heap.size), 1, none⟩) hz20_4).trans c20_4_1; have hz21_4 : (w8.heap.size) < w21.heap.size := Nat.lt_of_lt_of_le hz20_4 hh21.size; have c21_5_0 := (hh21.cell (p := ⟨(w9.heap.size), 0, none⟩) hz20_5).trans c20_5_0; have c21_5_1 := (hh21.cell (p := ⟨(w9.heap.size), 1, none⟩) hz20_5).trans c20_5_1; have c21_5_2 := (hh21.cell (p := ⟨(w9.heap.size), 2, none⟩) hz20_5).trans c20_5_2; have c21_5_3 := (hh21.cell (p := ⟨(w9.heap.size), 3, none⟩) hz20_5).trans c20_5_3; have hz21_5 : (w9.heap.size) < w21.heap.size := Nat.lt_of_lt_of_le hz20_5 hh21.size; have Q_21 : Hid (DeltaOwn (w8.heap.size + 1) w9.heap.size w21 (.agg #[.slice g0a0 g0n0 g0c0, .slice g0a1 g0n1 g0c1, .bool g0b2, .slice g0a3 g0n3 g0c3]) (deltaMk 1 L0)) := Q_20.out.below hh21; have Uc0_21 : Hid (BookAt w21 (uc0) (xs0, es0)) := Uc0_20.out.below hh21; have HZ21 : Hid (w20.heap.size ≤ w21.heap.size) := hh21.size; clear c20_0_0 c20_0_1 c20_1_0 c20_1_1 c20_2_0 c20_2_1 c20_2_2 c20_2_3 c20_3_0 c20_3_1 c20_4_0 c20_4_1 c20_5_0 c20_5_1 c20_5_2 c20_5_3 Q_20 Uc0_20 hb21 hh21; have Uc1_21 : Hid (BookAt w21 (uc1) (xs1, es1)) := hu21.at; clear hu21)
          | (go_at_call 6; refine (toBook_u _ _ (xs0, es0) (HA0.out.below (HB19.out.trans (Below.mono (by first | exact Below.refl _ _ | exact (Below.refl _ _).drew | exact (Below.refl _ _).alloc (Nat.le_refl _) _ | exact ((Below.refl _ _).alloc (Nat.le_refl _) _).drew) HB19.out.size))) HN0.out).mono ?_; rintro e w20 ⟨uc0, rfl, hu20, hb20⟩; have hh20 : Below w19.heap.size w19 w20 := below_via hb20 (by first | exact Below.refl _ _ | exact (Below.refl _ _).drew | exact (Below.refl _ _).alloc (Nat.le_refl _) _ | exact ((Below.refl _ _).alloc (Nat.le_refl _) _).drew); (first | have hbx20 := DRow.below hbx19 hh20 | have hbx20 := DRow.below (DRow.new w19 (.slice none 0 0) (.slice none 0 0) false (.slice none 0 0)) hb20 | have hbx20 := DRow.below (DRow.drew (DRow.new w19 (.slice none 0 0) (.slice none 0 0) false (.slice none 0 0))) hb20 | skip); have HB20 : Hid (Below w.heap.size w w20) := HB19.out.trans (hh20.mono HB19.out.size); have HCB : Hid (Below w19.heap.size w19 w20) := hh20; have BC20 : Hid (Below w6.heap.size w6 w20) := BC19.out.trans (hh20.mono BC19.out.size); have c20_0_0 := (hh20.cell (p := ⟨(w.heap.size), 0, none⟩) hz19_0).trans c19_0_0; have c20_0_1 := (hh20.cell (p := ⟨(w.heap.size), 1, none⟩) hz19_0).trans c19_0_1; have hz20_0 : (w.heap.size) < w20.heap.size := Nat.lt_of_lt_of_le hz19_0 hh20.size; have c20_1_0 := (hh20.cell (p := ⟨(w.heap.size + 1), 0, none⟩) hz19_1).trans c19_1_0; have c20_1_1 := (hh20.cell (p := ⟨(w.heap.size + 1), 1, none⟩) hz19_1).trans c19_1_1; have hz20_1 : (w.heap.size + 1) < w20.heap.size := Nat.lt_of_lt_of_le hz19_1 hh20.size; have c20_2_0 := (hh20.cell (p := ⟨B6, 0, none⟩) hz19_2).trans c19_2_0; have c20_2_1 := (hh20.cell (p := ⟨B6, 1, none⟩) hz19_2).trans c19_2_1; have c20_2_2 := (hh20.cell (p := ⟨B6, 2, none⟩) hz19_2).trans c19_2_2; have c20_2_3 := (hh20.cell (p := ⟨B6, 3, none⟩) hz19_2).trans c19_2_3; have hz20_2 : B6 < w20.heap.size := Nat.lt_of_lt_of_le hz19_2 hh20.size; have c20_3_0 := (hh20.cell (p := ⟨(w7.heap.size), 0, none⟩) hz19_3).trans c19_3_0; have c20_3_1 := (hh20.cell (p := ⟨(w7.heap.size), 1, none⟩) hz19_3).trans c19_3_1; have hz20_3 : (w7.heap.size) < w20.heap.size := Nat.lt_of_lt_of_le hz19_3 hh20.size; have c20_4_0 := (hh20.cell (p := ⟨(w8.heap.size), 0, none⟩) hz19_4).trans c19_4_0; have c20_4_1 := (hh20.cell (p := ⟨(w8.heap.size), 1, none⟩) hz19_4).trans c19_4_1; have hz20_4 : (w8.heap.size) < w20.heap.size := Nat.lt_of_lt_of_le hz19_4 hh20.size; have c20_5_0 := (hh20.cell (p := ⟨(w9.heap.size), 0, none⟩) hz19_5).trans c19_5_0; have c20_5_1 := (hh20.cell (p := ⟨(w9.heap.size), 1, none⟩) hz19_5).trans c19_5_1; have c20_5_2 := (hh20.cell (p := ⟨(w9.heap.size), 2, none⟩) hz19_5).trans c19_5_2; have c20_5_3 := (hh20.cell (p := ⟨(w9.heap.size), 3, none⟩) hz19_5).trans c19_5_3; have hz20_5 : (w9.heap.size) < w20.heap.size := Nat.lt_of_lt_of_le hz19_5 hh20.size; have Q_20 : Hid (DeltaOwn (w8.heap.size + 1) w9.heap.size w20 (.agg #[.slice g0a0 g0n0 g0c0, .slice g0a1 g0n1 g0c1, .bool g0b2, .slice g0a3 g0n3 g0c3]) (deltaMk 1 L0)) := Q_19.out.below hh20; have HZ20 : Hid (w19.heap.size ≤ w20.heap.size) := hh20.size; clear c19_0_0 c19_0_1 c19_1_0 c19_1_1 c19_2_0 c19_2_1 c19_2_2 c19_2_3 c19_3_0 c19_3_1 c19_4_0 c19_4_1 c19_5_0 c19_5_1 c19_5_2 c19_5_3 Q_19 hb20 hh20; have Uc0_20 : Hid (BookAt w20 (uc0) (xs0, es0)) := hu20.at; clear hu20))
      all_goals
        go_wp2
        go_meet
        case rel =>
          have hcb : Below w19.heap.size w19 w22 := HCB.out
          first
            | (have qn := hbx22; clear qn; exact ⟨_, _, _, _, _, _, _, _, _, _, _, rfl, DRow.set3 (DRow.set2 (DRow.set1 (DRow.set0 hbx22 _) _) _) _, drow_at HW_22.out hbx22 _ _ _ _, (((hcb.setCell (by (try dsimp only); have z20 := HZ20.out; have z21 := HZ21.out; have z22 := HZ22.out; omega) _).setCell (by (try dsimp only); have z20 := HZ20.out; have z21 := HZ21.out; have z22 := HZ22.out; omega) _).setCell (by (try dsimp only); have z20 := HZ20.out; have z21 := HZ21.out; have z22 := HZ22.out; omega) _).setCell (by (try dsimp only); have z20 := HZ20.out; have z21 := HZ21.out; have z22 := HZ22.out; omega) _, by (try dsimp only); have z20 := HZ20.out; have z21 := HZ21.out; have z22 := HZ22.out; omega⟩)
            | exact ⟨_, _, _, _, _, _, _, _, _, _, _, rfl, DRow.new _ _ _ _ _, HW_22.out.below ((Below.refl _ _).alloc (Nat.le_refl _) _), hcb.alloc hcb.size _, by (try dsimp only); have z20 := HZ20.out; have z21 := HZ21.out; have z22 := HZ22.out; omega⟩
    case rest =>
      obtain ⟨w23, hw23⟩ : ∃ x, x = wc := ⟨_, rfl⟩
      subst hw23
      obtain ⟨B23, e0a0, e0n0, e0c0, e0a1, e0n1, e0c1, e0b2, e0a3, e0n3, e0c3, hp23, hr23, ha23, hh23, hl23⟩ := hcut
      subst hp23
      have HB23 : Hid (Below w.heap.size w w23) := HB19.out.trans (hh23.mono HB19.out.size)
      have BC23 : Hid (Below w6.heap.size w6 w23) := BC19.out.trans (hh23.mono BC19.out.size)
      have c23_0_0 := (hh23.cell (p := ⟨(w.heap.size), 0, none⟩) hz19_0).trans c19_0_0
      have c23_0_1 := (hh23.cell (p := ⟨(w.heap.size), 1, none⟩) hz19_0).trans c19_0_1
      have hz23_0 : (w.heap.size) < w23.heap.size := Nat.lt_of_lt_of_le hz19_0 hh23.size
      have c23_1_0 := (hh23.cell (p := ⟨(w.heap.size + 1), 0, none⟩) hz19_1).trans c19_1_0
      have c23_1_1 := (hh23.cell (p := ⟨(w.heap.size + 1), 1, none⟩) hz19_1).trans c19_1_1
      have hz23_1 : (w.heap.size + 1) < w23.heap.size := Nat.lt_of_lt_of_le hz19_1 hh23.size
      have c23_2_0 := (hh23.cell (p := ⟨B6, 0, none⟩) hz19_2).trans c19_2_0
      have c23_2_1 := (hh23.cell (p := ⟨B6, 1, none⟩) hz19_2).trans c19_2_1
      have c23_2_2 := (hh23.cell (p := ⟨B6, 2, none⟩) hz19_2).trans c19_2_2
      have c23_2_3 := (hh23.cell (p := ⟨B6, 3, none⟩) hz19_2).trans c19_2_3
      have hz23_2 : B6 < w23.heap.size := Nat.lt_of_lt_of_le hz19_2 hh23.size
      have c23_3_0 := (hh23.cell (p := ⟨(w7.heap.size), 0, none⟩) hz19_3).trans c19_3_0
      have c23_3_1 := (hh23.cell (p := ⟨(w7.heap.size), 1, none⟩) hz19_3).trans c19_3_1
      have hz23_3 : (w7.heap.size) < w23.heap.size := Nat.lt_of_lt_of_le hz19_3 hh23.size
      have c23_4_0 := (hh23.cell (p := ⟨(w8.heap.size), 0, none⟩) hz19_4).trans c19_4_0
      have c23_4_1 := (hh23.cell (p := ⟨(w8.heap.size), 1, none⟩) hz19_4).trans c19_4_1
      have hz23_4 : (w8.heap.size) < w23.heap.size := Nat.lt_of_lt_of_le hz19_4 hh23.size
      have c23_5_0 := (hh23.cell (p := ⟨(w9.heap.size), 0, none⟩) hz19_5).trans c19_5_0
      have c23_5_1 := (hh23.cell (p := ⟨(w9.heap.size), 1, none⟩) hz19_5).trans c19_5_1
      have c23_5_2 := (hh23.cell (p := ⟨(w9.heap.size), 2, none⟩) hz19_5).trans c19_5_2
      have c23_5_3 := (hh23.cell (p := ⟨(w9.heap.size), 3, none⟩) hz19_5).trans c19_5_3
      have hz23_5 : (w9.heap.size) < w23.heap.size := Nat.lt_of_lt_of_le hz19_5 hh23.size
      have Q_23 : Hid (DeltaOwn (w8.heap.size + 1) w9.heap.size w23 (.agg #[.slice g0a0 g0n0 g0c0, .slice g0a1 g0n1 g0c1, .bool g0b2, .slice g0a3 g0n3 g0c3]) (deltaMk 1 L0)) := Q_19.out.below hh23
      have c23_6_0 := hr23.c0
      have c23_6_1 := hr23.c1
      have c23_6_2 := hr23.c2
      have c23_6_3 := hr23.c3
      have hz23_6 : B23 < w23.heap.size := World.rowIs.lt hr23
      have HZ23 : Hid (w19.heap.size ≤ w23.heap.size ∧ w19.heap.size ≤ B23 ∧ B23 < w23.heap.size) := ⟨hh23.size, hl23, hz23_6⟩
      have HW_23 : Hid (DeltaAt w23 (.agg #[.slice e0a0 e0n0 e0c0, .slice e0a1 e0n1 e0c1, .bool e0b2, .slice e0a3 e0n3 e0c3]) L0) := ha23
      clear c19_0_0 c19_0_1 hz19_0 c19_1_0 c19_1_1 hz19_1 c19_2_0 c19_2_1 c19_2_2 c19_2_3 hz19_2 c19_3_0 c19_3_1 hz19_3 c19_4_0 c19_4_1 hz19_4 c19_5_0 c19_5_1 c19_5_2 c19_5_3 hz19_5 Q_19 hh23 hr23 ha23 hl23
      go_wp2_with fail
      refine (eqDelta_u _ _ _ L0 HW_23.out (HU.out.below BC23.out)).mono ?_
      rintro e w24 ⟨rfl, hb24⟩
      have hh24 : Below w23.heap.size w23 w24 := hb24
      have HB24 : Hid (Below w.heap.size w w24) := HB23.out.trans (hh24.mono HB23.out.size)
      have BC24 : Hid (Below w6.heap.size w6 w24) := BC23.out.trans (hh24.mono BC23.out.size)
      have c24_0_0 := (hh24.cell (p := ⟨(w.heap.size), 0, none⟩) hz23_0).trans c23_0_0
      have c24_0_1 := (hh24.cell (p := ⟨(w.heap.size), 1, none⟩) hz23_0).trans c23_0_1
      have hz24_0 : (w.heap.size) < w24.heap.size := Nat.lt_of_lt_of_le hz23_0 hh24.size
      have c24_1_0 := (hh24.cell (p := ⟨(w.heap.size + 1), 0, none⟩) hz23_1).trans c23_1_0
      have c24_1_1 := (hh24.cell (p := ⟨(w.heap.size + 1), 1, none⟩) hz23_1).trans c23_1_1
      have hz24_1 : (w.heap.size + 1) < w24.heap.size := Nat.lt_of_lt_of_le hz23_1 hh24.size
      have c24_2_0 := (hh24.cell (p := ⟨B6, 0, none⟩) hz23_2).trans c23_2_0
      have c24_2_1 := (hh24.cell (p := ⟨B6, 1, none⟩) hz23_2).trans c23_2_1
      have c24_2_2 := (hh24.cell (p := ⟨B6, 2, none⟩) hz23_2).trans c23_2_2
      have c24_2_3 := (hh24.cell (p := ⟨B6, 3, none⟩) hz23_2).trans c23_2_3
      have hz24_2 : B6 < w24.heap.size := Nat.lt_of_lt_of_le hz23_2 hh24.size
      have c24_3_0 := (hh24.cell (p := ⟨(w7.heap.size), 0, none⟩) hz23_3).trans c23_3_0
      have c24_3_1 := (hh24.cell (p := ⟨(w7.heap.size), 1, none⟩) hz23_3).trans c23_3_1
      have hz24_3 : (w7.heap.size) < w24.heap.size := Nat.lt_of_lt_of_le hz23_3 hh24.size
      have c24_4_0 := (hh24.cell (p := ⟨(w8.heap.size), 0, none⟩) hz23_4).trans c23_4_0
      have c24_4_1 := (hh24.cell (p := ⟨(w8.heap.size), 1, none⟩) hz23_4).trans c23_4_1
      have hz24_4 : (w8.heap.size) < w24.heap.size := Nat.lt_of_lt_of_le hz23_4 hh24.size
      have c24_5_0 := (hh24.cell (p := ⟨(w9.heap.size), 0, none⟩) hz23_5).trans c23_5_0
      have c24_5_1 := (hh24.cell (p := ⟨(w9.heap.size), 1, none⟩) hz23_5).trans c23_5_1
      have c24_5_2 := (hh24.cell (p := ⟨(w9.heap.size), 2, none⟩) hz23_5).trans c23_5_2
      have c24_5_3 := (hh24.cell (p := ⟨(w9.heap.size), 3, none⟩) hz23_5).trans c23_5_3
      have hz24_5 : (w9.heap.size) < w24.heap.size := Nat.lt_of_lt_of_le hz23_5 hh24.size
      have c24_6_0 := (hh24.cell (p := ⟨B23, 0, none⟩) hz23_6).trans c23_6_0
      have c24_6_1 := (hh24.cell (p := ⟨B23, 1, none⟩) hz23_6).trans c23_6_1
      have c24_6_2 := (hh24.cell (p := ⟨B23, 2, none⟩) hz23_6).trans c23_6_2
      have c24_6_3 := (hh24.cell (p := ⟨B23, 3, none⟩) hz23_6).trans c23_6_3
      have hz24_6 : B23 < w24.heap.size := Nat.lt_of_lt_of_le hz23_6 hh24.size
      have Q_24 : Hid (DeltaOwn (w8.heap.size + 1) w9.heap.size w24 (.agg #[.slice g0a0 g0n0 g0c0, .slice g0a1 g0n1 g0c1, .bool g0b2, .slice g0a3 g0n3 g0c3]) (deltaMk 1 L0)) := Q_23.out.below hh24
      have HW_24 : Hid (DeltaAt w24 (.agg #[.slice e0a0 e0n0 e0c0, .slice e0a1 e0n1 e0c1, .bool e0b2, .slice e0a3 e0n3 e0c3]) L0) := HW_23.out.below hh24
      have HZ24 : Hid (w23.heap.size ≤ w24.heap.size) := hh24.size
      clear c23_0_0 c23_0_1 hz23_0 c23_1_0 c23_1_1 hz23_1 c23_2_0 c23_2_1 c23_2_2 c23_2_3 hz23_2 c23_3_0 c23_3_1 hz23_3 c23_4_0 c23_4_1 hz23_4 c23_5_0 c23_5_1 c23_5_2 c23_5_3 hz23_5 c23_6_0 c23_6_1 c23_6_2 c23_6_3 hz23_6 Q_23 HW_23 hb24 hh24
      go_wp2_with fail
      refine (cK (heldDelta_u _ _ 1 L0 (Q_24.out).at HSM.out (by omega)) HKM.out).mono ?_
      rintro e w25 ⟨rfl, hb25⟩
      have hh25 : Below w24.heap.size w24 w25 := hb25
      have HB25 : Hid (Below w.heap.size w w25) := HB24.out.trans (hh25.mono HB24.out.size)
      have BC25 : Hid (Below w6.heap.size w6 w25) := BC24.out.trans (hh25.mono BC24.out.size)
      have c25_0_0 := (hh25.cell (p := ⟨(w.heap.size), 0, none⟩) hz24_0).trans c24_0_0
      have c25_0_1 := (hh25.cell (p := ⟨(w.heap.size), 1, none⟩) hz24_0).trans c24_0_1
      have hz25_0 : (w.heap.size) < w25.heap.size := Nat.lt_of_lt_of_le hz24_0 hh25.size
      have c25_1_0 := (hh25.cell (p := ⟨(w.heap.size + 1), 0, none⟩) hz24_1).trans c24_1_0
      have c25_1_1 := (hh25.cell (p := ⟨(w.heap.size + 1), 1, none⟩) hz24_1).trans c24_1_1
      have hz25_1 : (w.heap.size + 1) < w25.heap.size := Nat.lt_of_lt_of_le hz24_1 hh25.size
      have c25_2_0 := (hh25.cell (p := ⟨B6, 0, none⟩) hz24_2).trans c24_2_0
      have c25_2_1 := (hh25.cell (p := ⟨B6, 1, none⟩) hz24_2).trans c24_2_1
      have c25_2_2 := (hh25.cell (p := ⟨B6, 2, none⟩) hz24_2).trans c24_2_2
      have c25_2_3 := (hh25.cell (p := ⟨B6, 3, none⟩) hz24_2).trans c24_2_3
      have hz25_2 : B6 < w25.heap.size := Nat.lt_of_lt_of_le hz24_2 hh25.size
      have c25_3_0 := (hh25.cell (p := ⟨(w7.heap.size), 0, none⟩) hz24_3).trans c24_3_0
      have c25_3_1 := (hh25.cell (p := ⟨(w7.heap.size), 1, none⟩) hz24_3).trans c24_3_1
      have hz25_3 : (w7.heap.size) < w25.heap.size := Nat.lt_of_lt_of_le hz24_3 hh25.size
      have c25_4_0 := (hh25.cell (p := ⟨(w8.heap.size), 0, none⟩) hz24_4).trans c24_4_0
      have c25_4_1 := (hh25.cell (p := ⟨(w8.heap.size), 1, none⟩) hz24_4).trans c24_4_1
      have hz25_4 : (w8.heap.size) < w25.heap.size := Nat.lt_of_lt_of_le hz24_4 hh25.size
      have c25_5_0 := (hh25.cell (p := ⟨(w9.heap.size), 0, none⟩) hz24_5).trans c24_5_0
      have c25_5_1 := (hh25.cell (p := ⟨(w9.heap.size), 1, none⟩) hz24_5).trans c24_5_1
      have c25_5_2 := (hh25.cell (p := ⟨(w9.heap.size), 2, none⟩) hz24_5).trans c24_5_2
      have c25_5_3 := (hh25.cell (p := ⟨(w9.heap.size), 3, none⟩) hz24_5).trans c24_5_3
      have hz25_5 : (w9.heap.size) < w25.heap.size := Nat.lt_of_lt_of_le hz24_5 hh25.size
      have c25_6_0 := (hh25.cell (p := ⟨B23, 0, none⟩) hz24_6).trans c24_6_0
      have c25_6_1 := (hh25.cell (p := ⟨B23, 1, none⟩) hz24_6).trans c24_6_1
      have c25_6_2 := (hh25.cell (p := ⟨B23, 2, none⟩) hz24_6).trans c24_6_2
      have c25_6_3 := (hh25.cell (p := ⟨B23, 3, none⟩) hz24_6).trans c24_6_3
      have hz25_6 : B23 < w25.heap.size := Nat.lt_of_lt_of_le hz24_6 hh25.size
      have Q_25 : Hid (DeltaOwn (w8.heap.size + 1) w9.heap.size w25 (.agg #[.slice g0a0 g0n0 g0c0, .slice g0a1 g0n1 g0c1, .bool g0b2, .slice g0a3 g0n3 g0c3]) (deltaMk 1 L0)) := Q_24.out.below hh25
      have HW_25 : Hid (DeltaAt w25 (.agg #[.slice e0a0 e0n0 e0c0, .slice e0a1 e0n1 e0c1, .bool e0b2, .slice e0a3 e0n3 e0c3]) L0) := HW_24.out.below hh25
      have HZ25 : Hid (w24.heap.size ≤ w25.heap.size) := hh25.size
      clear c24_0_0 c24_0_1 hz24_0 c24_1_0 c24_1_1 hz24_1 c24_2_0 c24_2_1 c24_2_2 c24_2_3 hz24_2 c24_3_0 c24_3_1 hz24_3 c24_4_0 c24_4_1 hz24_4 c24_5_0 c24_5_1 c24_5_2 c24_5_3 hz24_5 c24_6_0 c24_6_1 c24_6_2 c24_6_3 hz24_6 Q_24 HW_24 hb25 hh25
      go_wp2
      go_ret
      exact ⟨rfl, HB25.out⟩
end Go.Proofs.Ytbbepdmogkadeaa
