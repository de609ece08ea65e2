/-
  spec.DeltaOk.
-/
import Derived.Test.YtcfpbjhfhdcjoaaGreatDoorW114
import Derived.Test.YtcfpbjhfhdcjoaaGreatDoorW78
import Derived.BigQuiet
namespace Go.Proofs.YtcfpbjhfhdcjoaaGreatDoor
open Go.RowKit
set_option linter.unusedVariables false
set_option maxHeartbeats 1000000 in
theorem l5Entries_any (w : World) (v : Value) (es : List (ByteArray × ByteArray)) (h : EntsAt w v es) :
    Calls Tryz.prog 39 #[v] w fun e w' => e = .returned (.bool (entsT es)) ∧ Below w.heap.size w w' := by
  obtain ⟨a', cap', rfl, hc', hm'⟩ := h.form
  have HS : Hid (EntsAt w (.slice a' es.length cap') es) := h
  have HR : Hid (bookT [] es = entsT es) := by show _ = _; simp [bookT, affsT]
  have HN : Hid (AffsAt w (.slice none 0 0) []) := ⟨none, 0, rfl, Nat.le_refl _, Nat.zero_le _, fun i x hx => by simp at hx, fun hn => absurd rfl hn⟩
  clear h
  go_enter Tryz.func39, Tryz.ntmps39
  go_wp2_with fail
  refine (specBookOk_any _ _ _ [] es HN.out HS.out).mono ?_
  rintro e w' ⟨rfl, hb⟩
  have HB : Hid (Below w.heap.size w w') := hb
  clear hb
  rw [HR.out]
  go_wp2
  go_ret
  exact ⟨rfl, HB.out⟩
theorem l1Word_is {g : ByteArray} {b : Bool} (h : wok g = b) (hm : g.size ≤ maxLen) (w : World) : Calls Tryz.prog 38 #[.string g] w fun e w' => e = .returned (.bool b) ∧ w' = w := by
  rw [← h]
  exact l1Word_any g w hm
/-- No entry among the first so many has a stem. -/
def noneTo (es : List (ByteArray × ByteArray)) (g : ByteArray) (k : Nat) : Prop := ∀ (j : Nat) (e : ByteArray × ByteArray), j < k → es[j]? = some e → (e.1.toList == g.toList) = false
set_option maxRecDepth 100000 in
set_option maxHeartbeats 4000000 in
theorem specDeltaOk_any (w : World) (vg vc vl : Value) (af : Bool) (gs : List ByteArray) (es : List (ByteArray × ByteArray)) (xs : List Aff) (hg : TextsAt w vg gs) (he : EntsAt w vc es) (ha : AffsAt w vl xs) :
    Calls Tryz.prog 21 #[.agg #[vg, vc, .bool af, vl]] w fun e w' => e = .returned (.bool (deltaT gs es af xs)) ∧ Below w.heap.size w w' := by
  obtain ⟨a, cap, rfl, hc, hm⟩ := hg.form
  obtain ⟨a', cap', rfl, hc', hm'⟩ := he.form
  obtain ⟨a2, cap2, rfl, hc2, hm2⟩ := ha.form
  have HG : Hid (TextsAt w (.slice a gs.length cap) gs) := hg
  have HE : Hid (EntsAt w (.slice a' es.length cap') es) := he
  have HA : Hid (AffsAt w (.slice a2 xs.length cap2) xs) := ha
  unfold maxLen at hm hm' hm2
  clear hg he ha
  obtain ⟨W0, hW0⟩ : ∃ W0, w.alloc (.cells #[.slice a gs.length cap, .slice a' es.length cap', .bool af, .slice a2 xs.length cap2] 34) = W0 := ⟨_, rfl⟩
  have B0 : Hid (Below w.heap.size w W0) := by rw [← hW0]; exact (Below.refl _ _).alloc (Nat.le_refl _) _
  have R0 : Hid (DRow W0 w.heap.size (.slice a gs.length cap) (.slice a' es.length cap') af (.slice a2 xs.length cap2)) := by rw [← hW0]; exact DRow.new _ _ _ _ _
  go_enter Tryz.func21, Tryz.ntmps21
  go_wp2
  clear hW0
  go_loopw [3] (fun i wr => ∃ (k : Nat), k ≤ gs.length ∧ i = .int .i64 k ∧ (∀ j, j < k → goAt gs j = true) ∧ (∀ (j : Nat) (g : ByteArray), j < k → gs[j]? = some g → noneTo es g es.length) ∧ DRow wr w.heap.size (.slice a gs.length cap) (.slice a' es.length cap') af (.slice a2 xs.length cap2) ∧ Below w.heap.size w wr) (fun i _ => gs.length - (intOf i).toNat)
  case atStart => exact ⟨0, Nat.zero_le _, rfl, fun j hj => absurd hj (by omega), fun j g hj => absurd hj (by omega), R0.out, B0.out⟩
  case round =>
    obtain ⟨k, hk, rfl, hall, hnon, hR, hb⟩ := hrel
    have HAL : Hid (∀ j, j < k → goAt gs j = true) := hall
    have HNO : Hid (∀ (j : Nat) (g : ByteArray), j < k → gs[j]? = some g → noneTo es g es.length) := hnon
    have HR : Hid (DRow wr w.heap.size (.slice a gs.length cap) (.slice a' es.length cap') af (.slice a2 xs.length cap2)) := hR
    have HB : Hid (Below w.heap.size w wr) := hb
    have c0 := hR.c0
    clear hall hnon hR hb
    by_cases hlt : k < gs.length
    · obtain ⟨b, off, cap3, g, hv, hbl, hx, hxf, e0⟩ := (HG.out.below HB.out).at hlt
      cases hv
      have HX : Hid (gs[k]? = some g) := hx
      have HM : Hid (g.size ≤ maxLen) := hxf
      clear hx hxf
      cases hw : wok g with
      | false =>
        have HD : Hid (deltaT gs es af xs = false) := by show _ = _; simp [deltaT, goesT, goesAll_bad k hlt (goAt_no HX.out hw)]
        go_wp2_with fail
        go_quiet ((first | (go_at_call 38; refine (l1Word_is hw HM.out _).mono ?_; rintro e w'' ⟨rfl, rfl⟩; exact ⟨rfl, _, rfl⟩)))
        go_wp2
        go_ret
        exact ⟨(congrArg (fun b => Ending.returned (.bool b)) HD.out).symm, below_drewN70 HB.out _⟩
      | true =>
        have HRN : Hid (∀ n, DRow (wr.drewN n) w.heap.size (.slice (some ⟨b, off, none⟩) gs.length cap) (.slice a' es.length cap') af (.slice a2 xs.length cap2)) := fun n => HR.out
        cases k with
        | zero =>
          rw [Nat.add_zero] at e0
          have HAN : Hid (∀ j, j < 0 + 1 → goAt gs j = true) := fun j hj => by
            obtain rfl : j = 0 := by omega
            rw [goAt_zero HX.out, hw]
          go_wp2_with fail
          go_quiet ((first | (go_at_call 38; refine (l1Word_is hw HM.out _).mono ?_; rintro e w'' ⟨rfl, rfl⟩; exact ⟨rfl, _, rfl⟩)))
          go_wp2
          go_loopw [4] (fun i wr2 => ∃ (m : Nat), m ≤ es.length ∧ i = .int .i64 m ∧ noneTo es g m ∧ DRow wr2 w.heap.size (.slice (some ⟨b, off, none⟩) gs.length cap) (.slice a' es.length cap') af (.slice a2 xs.length cap2) ∧ Below w.heap.size w wr2) (fun i _ => es.length - (intOf i).toNat)
          case atStart => exact ⟨0, Nat.zero_le _, rfl, fun j e hj => absurd hj (by omega), HRN.out _, below_drewN70 HB.out _⟩
          case round =>
            rename World => wx
            obtain ⟨m2, hm2', rfl, hno, hR2, hb2⟩ := hrel
            have HR2 : Hid (DRow wx w.heap.size (.slice (some ⟨b, off, none⟩) gs.length cap) (.slice a' es.length cap') af (.slice a2 xs.length cap2)) := hR2
            have HB2 : Hid (Below w.heap.size w wx) := hb2
            have HN2 : Hid (noneTo es g m2) := hno
            have x0 := hR2.c0
            have x1 := hR2.c1
            clear hno hR2 hb2
            obtain ⟨b9, off9, cap9, g9, hv9, _, hx9, _, y0⟩ := (HG.out.below HB2.out).at hlt
            cases hv9
            rw [HX.out] at hx9
            cases hx9
            rw [Nat.add_zero] at y0
            by_cases hlt2 : m2 < es.length
            · obtain ⟨bb, ob, cb, x, hv2, hbl2, hx2, hxf2, y1, y2⟩ := (HE.out.below HB2.out).at hlt2
              cases hv2
              have HX2 : Hid (es[m2]? = some x) := hx2
              obtain ⟨st, fl⟩ := x
              simp only at y1 y2
              clear hx2 hxf2
              cases heq : (st.toList == g.toList) with
              | true =>
                have HD : Hid (deltaT gs es af xs = false) := by
                  show _ = _
                  have h1 : anyT gs es = true := List.any_eq_true.2 ⟨g, List.mem_of_getElem? HX.out, List.any_eq_true.2 ⟨(st, fl), List.mem_of_getElem? HX2.out, heq⟩⟩
                  simp [deltaT, h1]
                go_wp2_with fail
                go_quiet (fail)
                go_wp2
                go_ret
                exact ⟨(congrArg (fun b => Ending.returned (.bool b)) HD.out).symm, below_drewN70 HB2.out _⟩
              | false =>
                have HN3 : Hid (noneTo es g (m2 + 1)) := fun j e hj he => by
                  by_cases ej : j = m2
                  · rw [ej, HX2.out] at he
                    cases he
                    exact heq
                  · exact HN2.out j e (by omega) he
                go_wp2_with fail
                go_quiet (fail)
                go_wp2
                go_roundw
                case rel => exact ⟨m2 + 1, by omega, by go_num, HN3.out, HR2.out, below_drewN70 HB2.out _⟩
                case measure => simp [intOf]; omega
            · obtain rfl : m2 = es.length := by omega
              have HN4 : Hid (∀ (j : Nat) (g' : ByteArray), j < 0 + 1 → gs[j]? = some g' → noneTo es g' es.length) := fun j g' hj hg' => by
                by_cases ej : j = 0
                · rw [ej, HX.out] at hg'
                  cases hg'
                  exact HN2.out
                · exact HNO.out j g' (by omega) hg'
              go_wp2
              go_roundw
              case rel => exact ⟨0 + 1, by omega, by go_num, HAN.out, HN4.out, HR2.out, HB2.out⟩
              case measure => simp [intOf]; omega
        | succ m =>
          obtain ⟨b', off', cap4, p, hv', _, hp, _, e1⟩ := (HG.out.below HB.out).at (k := m) (by omega)
          cases hv'
          have HP : Hid (gs[m]? = some p) := hp
          clear hp
          cases hlx : Op.bytesLess p.toList g.toList with
          | false =>
            have HD : Hid (deltaT gs es af xs = false) := by show _ = _; simp [deltaT, goesT, goesAll_bad (m + 1) hlt (by rw [goAt_succ HP.out HX.out, hlx, Bool.and_false])]
            go_wp2_with fail
            go_quiet ((first | (go_at_call 38; refine (l1Word_is hw HM.out _).mono ?_; rintro e w'' ⟨rfl, rfl⟩; exact ⟨rfl, _, rfl⟩)))
            go_wp2
            go_ret
            exact ⟨(congrArg (fun b => Ending.returned (.bool b)) HD.out).symm, below_drewN70 HB.out _⟩
          | true =>
            have HAN : Hid (∀ j, j < m + 1 + 1 → goAt gs j = true) := fun j hj => by
              by_cases e : j = m + 1
              · rw [e, goAt_succ HP.out HX.out, hlx, hw]; rfl
              · exact HAL.out j (by omega)
            go_wp2_with fail
            go_quiet ((first | (go_at_call 38; refine (l1Word_is hw HM.out _).mono ?_; rintro e w'' ⟨rfl, rfl⟩; exact ⟨rfl, _, rfl⟩)))
            go_wp2
            go_loopw [4] (fun i wr2 => ∃ (m : Nat), m ≤ es.length ∧ i = .int .i64 m ∧ noneTo es g m ∧ DRow wr2 w.heap.size (.slice (some ⟨b, off, none⟩) gs.length cap) (.slice a' es.length cap') af (.slice a2 xs.length cap2) ∧ Below w.heap.size w wr2) (fun i _ => es.length - (intOf i).toNat)
            case atStart => exact ⟨0, Nat.zero_le _, rfl, fun j e hj => absurd hj (by omega), HRN.out _, below_drewN70 HB.out _⟩
            case round =>
              rename World => wx
              obtain ⟨m2, hm2', rfl, hno, hR2, hb2⟩ := hrel
              have HR2 : Hid (DRow wx w.heap.size (.slice (some ⟨b, off, none⟩) gs.length cap) (.slice a' es.length cap') af (.slice a2 xs.length cap2)) := hR2
              have HB2 : Hid (Below w.heap.size w wx) := hb2
              have HN2 : Hid (noneTo es g m2) := hno
              have x0 := hR2.c0
              have x1 := hR2.c1
              clear hno hR2 hb2
              obtain ⟨b9, off9, cap9, g9, hv9, _, hx9, _, y0⟩ := (HG.out.below HB2.out).at hlt
              cases hv9
              rw [HX.out] at hx9
              cases hx9
              by_cases hlt2 : m2 < es.length
              · obtain ⟨bb, ob, cb, x, hv2, hbl2, hx2, hxf2, y1, y2⟩ := (HE.out.below HB2.out).at hlt2
                cases hv2
                have HX2 : Hid (es[m2]? = some x) := hx2
                obtain ⟨st, fl⟩ := x
                simp only at y1 y2
                clear hx2 hxf2
                cases heq : (st.toList == g.toList) with
                | true =>
                  have HD : Hid (deltaT gs es af xs = false) := by
                    show _ = _
                    have h1 : anyT gs es = true := List.any_eq_true.2 ⟨g, List.mem_of_getElem? HX.out, List.any_eq_true.2 ⟨(st, fl), List.mem_of_getElem? HX2.out, heq⟩⟩
                    simp [deltaT, h1]
                  go_wp2_with fail
                  go_quiet (fail)
                  go_wp2
                  go_ret
                  exact ⟨(congrArg (fun b => Ending.returned (.bool b)) HD.out).symm, below_drewN70 HB2.out _⟩
                | false =>
                  have HN3 : Hid (noneTo es g (m2 + 1)) := fun j e hj he => by
                    by_cases ej : j = m2
                    · rw [ej, HX2.out] at he
                      cases he
                      exact heq
                    · exact HN2.out j e (by omega) he
                  go_wp2_with fail
                  go_quiet (fail)
                  go_wp2
                  go_roundw
                  case rel => exact ⟨m2 + 1, by omega, by go_num, HN3.out, HR2.out, below_drewN70 HB2.out _⟩
                  case measure => simp [intOf]; omega
              · obtain rfl : m2 = es.length := by omega
                have HN4 : Hid (∀ (j : Nat) (g' : ByteArray), j < m + 1 + 1 → gs[j]? = some g' → noneTo es g' es.length) := fun j g' hj hg' => by
                  by_cases ej : j = m + 1
                  · rw [ej, HX.out] at hg'
                    cases hg'
                    exact HN2.out
                  · exact HNO.out j g' (by omega) hg'
                go_wp2
                go_roundw
                case rel => exact ⟨m + 1 + 1, by omega, by go_num, HAN.out, HN4.out, HR2.out, HB2.out⟩
                case measure => simp [intOf]; omega
    · have HGA : Hid (goesT gs = decide (gs.length ≤ 24)) := by show _ = _; simp [goesT, goesAll_good fun i hi => HAL.out i (by omega)]
      have HAF : Hid (anyT gs es = false) := by
        show _ = _
        unfold anyT
        rw [List.any_eq_false]
        intro g hg
        obtain ⟨j, hj, ej⟩ := List.mem_iff_getElem.1 hg
        have h1 := HNO.out j g (by omega) (by rw [List.getElem?_eq_getElem hj, ej])
        rw [Bool.not_eq_true, List.any_eq_false]
        intro e he
        obtain ⟨i, hi, ei⟩ := List.mem_iff_getElem.1 he
        rw [h1 i e hi (by rw [List.getElem?_eq_getElem hi, ei])]
        simp
      have d0 := HR.out.c1
      by_cases h24 : gs.length ≤ 24
      · have hg1 : goesT gs = true := by rw [HGA.out]; simpa using h24
        go_wp2_with fail
        refine (l5Entries_any _ _ es (HE.out.below HB.out)).mono ?_
        cases h2 : entsT es with
        | false =>
          have HD : Hid (deltaT gs es af xs = false) := by show _ = _; simp [deltaT, h2]
          rintro e w2 ⟨rfl, hb2⟩
          have HB2 : Hid (Below w.heap.size w w2) := HB.out.trans (hb2.mono HB.out.size)
          clear hb2
          go_wp2
          go_ret
          exact ⟨(congrArg (fun b => Ending.returned (.bool b)) HD.out).symm, HB2.out⟩
        | true =>
          rintro e w2 ⟨rfl, hb2⟩
          have HB2 : Hid (Below w.heap.size w w2) := HB.out.trans (hb2.mono HB.out.size)
          have R2 := HR.out.below hb2
          have d4 := R2.c3
          clear hb2 d0
          go_wp2_with fail
          refine (l2Affixes_any _ _ xs (HA.out.below HB2.out)).mono ?_
          cases h4 : affsT xs with
          | false =>
            have HD : Hid (deltaT gs es af xs = false) := by show _ = _; simp [deltaT, h4]
            rintro e w4 ⟨rfl, hb4⟩
            have HB4 : Hid (Below w.heap.size w w4) := HB2.out.trans (hb4.mono HB2.out.size)
            clear hb4
            go_wp2
            go_ret
            exact ⟨(congrArg (fun b => Ending.returned (.bool b)) HD.out).symm, HB4.out⟩
          | true =>
            have HD : Hid (deltaT gs es af xs = (af || decide (xs.length = 0))) := by show _ = _; simp [deltaT, hg1, h2, HAF.out, h4]
            rintro e w4 ⟨rfl, hb4⟩
            have HB4 : Hid (Below w.heap.size w w4) := HB2.out.trans (hb4.mono HB2.out.size)
            have R4 := R2.below hb4
            have d5 := R4.c2
            have d6 := R4.c3
            clear hb4 R2 d4
            cases af with
            | true =>
              go_wp2
              go_ret
              exact ⟨(congrArg (fun b => Ending.returned (.bool b)) HD.out).symm, HB4.out⟩
            | false =>
              by_cases h5 : xs.length = 0
              · have HR2 : Hid (deltaT gs es false xs = true) := by show _ = _; rw [HD.out]; simp [h5]
                go_wp2
                go_ret
                exact ⟨(congrArg (fun b => Ending.returned (.bool b)) HR2.out).symm, HB4.out⟩
              · have HR2 : Hid (deltaT gs es false xs = false) := by show _ = _; rw [HD.out]; simp [h5]
                have h6 : ((xs.length : Int) == 0) = false := by rw [beq_eq_false_iff_ne]; omega
                go_wp2
                go_ret
                exact ⟨(congrArg (fun b => Ending.returned (.bool b)) HR2.out).symm, HB4.out⟩
      · have HD : Hid (deltaT gs es af xs = false) := by
          show _ = _
          have hg1 : goesT gs = false := by rw [HGA.out]; simpa using h24
          simp [deltaT, hg1]
        have h24' : ¬ (gs.length : Int) ≤ 24 := by omega
        go_wp2
        go_ret
        exact ⟨(congrArg (fun b => Ending.returned (.bool b)) HD.out).symm, HB.out⟩
end Go.Proofs.YtcfpbjhfhdcjoaaGreatDoor
