/-
  impl.DeltaOk.
-/
import Derived.Test.YtcfpbjhfhdcjoaaGreatDoorW113
import Derived.Test.YtcfpbjhfhdcjoaaGreatDoorW75
namespace Go.Proofs.YtcfpbjhfhdcjoaaGreatDoor
open Go.RowKit
set_option linter.unusedVariables false
/-- A change is ok. -/
def deltaT (gs : List ByteArray) (es : List (ByteArray × ByteArray)) (af : Bool) (xs : List Aff) : Bool :=
  goesT gs && (entsT es && (!anyT gs es && (affsT xs && (af || decide (xs.length = 0)))))
/-- A change in a box. -/
def DRow (w : World) (b : Nat) (v0 v1 : Value) (af : Bool) (v3 : Value) : Prop := w.rowIs b 34 4 (fun i => #[v0, v1, Value.bool af, v3][i]?.getD .nilFunc)
theorem DRow.new (w : World) (v0 v1 : Value) (af : Bool) (v3 : Value) : DRow (w.alloc (.cells #[v0, v1, .bool af, v3] 34)) w.heap.size v0 v1 af v3 := rowIs_new _ _
theorem DRow.below {w w' : World} {b : Nat} {v0 v1 v3 : Value} {af : Bool} (h : DRow w b v0 v1 af v3) (hb : Below w.heap.size w w') : DRow w' b v0 v1 af v3 := rowIs_below7 h hb
theorem DRow.c0 {w : World} {b : Nat} {v0 v1 v3 : Value} {af : Bool} (h : DRow w b v0 v1 af v3) : w.cell? ⟨b, 0, none⟩ = some v0 := World.rowIs.cell h (by decide)
theorem DRow.c1 {w : World} {b : Nat} {v0 v1 v3 : Value} {af : Bool} (h : DRow w b v0 v1 af v3) : w.cell? ⟨b, 1, none⟩ = some v1 := World.rowIs.cell h (by decide)
theorem DRow.c2 {w : World} {b : Nat} {v0 v1 v3 : Value} {af : Bool} (h : DRow w b v0 v1 af v3) : w.cell? ⟨b, 2, none⟩ = some (.bool af) := World.rowIs.cell h (by decide)
theorem DRow.c3 {w : World} {b : Nat} {v0 v1 v3 : Value} {af : Bool} (h : DRow w b v0 v1 af v3) : w.cell? ⟨b, 3, none⟩ = some v3 := World.rowIs.cell h (by decide)
set_option maxHeartbeats 2000000 in
theorem implDeltaOk_any (w : World) (vg vc vl : Value) (af : Bool) (gs : List ByteArray) (es : List (ByteArray × ByteArray)) (xs : List Aff) (hg : TextsAt w vg gs) (he : EntsAt w vc es) (ha : AffsAt w vl xs) :
    Calls Tryz.prog 28 #[.agg #[vg, vc, .bool af, vl]] w fun e w' => e = .returned (.bool (deltaT gs es af xs)) ∧ Below w.heap.size w w' := by
  obtain ⟨a, cap, rfl, hc, hm⟩ := hg.form
  obtain ⟨a', cap', rfl, hc', hm'⟩ := he.form
  obtain ⟨a2, cap2, rfl, hc2, hm2⟩ := ha.form
  have HG : Hid (TextsAt w (.slice a gs.length cap) gs) := hg
  have HE : Hid (EntsAt w (.slice a' es.length cap') es) := he
  have HA : Hid (AffsAt w (.slice a2 xs.length cap2) xs) := ha
  unfold maxLen at hm2
  clear hg he ha hm hm' hc hc'
  obtain ⟨W0, hW0⟩ : ∃ W0, w.alloc (.cells #[.slice a gs.length cap, .slice a' es.length cap', .bool af, .slice a2 xs.length cap2] 34) = W0 := ⟨_, rfl⟩
  have B0 : Below w.heap.size w W0 := by rw [← hW0]; exact (Below.refl _ _).alloc (Nat.le_refl _) _
  have R0 : DRow W0 w.heap.size (.slice a gs.length cap) (.slice a' es.length cap') af (.slice a2 xs.length cap2) := by rw [← hW0]; exact DRow.new _ _ _ _ _
  have c0 := R0.c0
  cases h1 : goesT gs with
  | false =>
    have HR : Hid (deltaT gs es af xs = false) := by show _ = _; simp [deltaT, h1]
    go_enter Tryz.func28, Tryz.ntmps28
    go_wp2_with fail
    refine (goesOk_any _ _ gs (HG.out.below B0)).mono ?_
    rw [h1]
    rintro e w1 ⟨rfl, hb1⟩
    have HB1 : Hid (Below w.heap.size w w1) := B0.trans (hb1.mono B0.size)
    clear hb1
    go_wp2
    go_ret
    exact ⟨(congrArg (fun b => Ending.returned (.bool b)) HR.out).symm, HB1.out⟩
  | true =>
  cases h2 : entsT es with
  | false =>
    have HR : Hid (deltaT gs es af xs = false) := by show _ = _; simp [deltaT, h2]
    go_enter Tryz.func28, Tryz.ntmps28
    go_wp2_with fail
    refine (goesOk_any _ _ gs (HG.out.below B0)).mono ?_
    rw [h1]
    rintro e w1 ⟨rfl, hb1⟩
    have HB1 : Hid (Below w.heap.size w w1) := B0.trans (hb1.mono B0.size)
    have d1 := (R0.below hb1).c1
    clear hb1
    go_wp2_with fail
    refine (entriesOk_any _ _ es (HE.out.below HB1.out)).mono ?_
    rw [h2]
    rintro e w2 ⟨rfl, hb2⟩
    have HB2 : Hid (Below w.heap.size w w2) := HB1.out.trans (hb2.mono HB1.out.size)
    clear hb2
    go_wp2
    go_ret
    exact ⟨(congrArg (fun b => Ending.returned (.bool b)) HR.out).symm, HB2.out⟩
  | true =>
  obtain ⟨hasc, h24⟩ := entsT_asc h2
  have HAS : Hid (AscE es) := hasc
  clear hasc
  go_enter Tryz.func28, Tryz.ntmps28
  go_wp2_with fail
  refine (goesOk_any _ _ gs (HG.out.below B0)).mono ?_
  rw [h1]
  rintro e w1 ⟨rfl, hb1⟩
  have HB1 : Hid (Below w.heap.size w w1) := B0.trans (hb1.mono B0.size)
  have R1 := R0.below hb1
  have d1 := R1.c1
  clear hb1 R0 c0 B0 hW0
  go_wp2_with fail
  refine (entriesOk_any _ _ es (HE.out.below HB1.out)).mono ?_
  rw [h2]
  rintro e w2 ⟨rfl, hb2⟩
  have HB2 : Hid (Below w.heap.size w w2) := HB1.out.trans (hb2.mono HB1.out.size)
  have R2 := R1.below hb2
  have d2 := R2.c0
  have d3 := R2.c1
  clear hb2 R1 d1
  go_wp2_with fail
  refine (anyIn_any _ _ _ gs es (HG.out.below HB2.out) (HE.out.below HB2.out) HAS.out (by omega)).mono ?_
  cases h3 : anyT gs es with
  | true =>
    have HR : Hid (deltaT gs es af xs = false) := by show _ = _; simp [deltaT, h3]
    rintro e w3 ⟨rfl, hb3⟩
    have HB3 : Hid (Below w.heap.size w w3) := HB2.out.trans (hb3.mono HB2.out.size)
    clear hb3
    go_wp2
    go_ret
    exact ⟨(congrArg (fun b => Ending.returned (.bool b)) HR.out).symm, HB3.out⟩
  | false =>
    rintro e w3 ⟨rfl, hb3⟩
    have HB3 : Hid (Below w.heap.size w w3) := HB2.out.trans (hb3.mono HB2.out.size)
    have R3 := R2.below hb3
    have d4 := R3.c3
    clear hb3 R2 d2 d3
    go_wp2_with fail
    refine (affixesOk_any _ _ xs (HA.out.below HB3.out)).mono ?_
    cases h4 : affsT xs with
    | false =>
      have HR : Hid (deltaT gs es af xs = false) := by show _ = _; simp [deltaT, h4]
      rintro e w4 ⟨rfl, hb4⟩
      have HB4 : Hid (Below w.heap.size w w4) := HB3.out.trans (hb4.mono HB3.out.size)
      clear hb4
      go_wp2
      go_ret
      exact ⟨(congrArg (fun b => Ending.returned (.bool b)) HR.out).symm, HB4.out⟩
    | true =>
      have HR : Hid (deltaT gs es af xs = (af || decide (xs.length = 0))) := by show _ = _; simp [deltaT, h1, h2, h3, h4]
      rintro e w4 ⟨rfl, hb4⟩
      have HB4 : Hid (Below w.heap.size w w4) := HB3.out.trans (hb4.mono HB3.out.size)
      have R4 := R3.below hb4
      have d5 := R4.c2
      have d6 := R4.c3
      clear hb4 R3 d4
      cases af with
      | true =>
        go_wp2
        go_ret
        exact ⟨(congrArg (fun b => Ending.returned (.bool b)) HR.out).symm, HB4.out⟩
      | false =>
        by_cases h5 : xs.length = 0
        · have HR2 : Hid (deltaT gs es false xs = true) := by show _ = _; rw [HR.out]; simp [h5]
          go_wp2
          go_ret
          exact ⟨(congrArg (fun b => Ending.returned (.bool b)) HR2.out).symm, HB4.out⟩
        · have HR2 : Hid (deltaT gs es false xs = false) := by show _ = _; rw [HR.out]; simp [h5]
          have h6 : ((xs.length : Int) == 0) = false := by rw [beq_eq_false_iff_ne]; omega
          go_wp2
          go_ret
          exact ⟨(congrArg (fun b => Ending.returned (.bool b)) HR2.out).symm, HB4.out⟩
end Go.Proofs.YtcfpbjhfhdcjoaaGreatDoor
