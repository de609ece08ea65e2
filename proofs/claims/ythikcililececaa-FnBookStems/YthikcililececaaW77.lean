/-
  spec.l2Affixes, spec.BookOk; the law FnExactBookOk.
-/
import Derived.Test.YthikcililececaaW76
namespace Go.Proofs.Ythikcililececaa
open Go.RowKit
set_option linter.unusedVariables false
theorem affEq_comm (x y : Aff) : affEq x y = affEq y x := by
  unfold affEq
  rw [Bool.eq_iff_iff]
  simp only [decide_eq_true_eq]
  constructor <;> (rintro ⟨h1, h2, h3, h4, h5⟩; exact ⟨h1.symm, h2.symm, h3.symm, h4.symm, h5.symm⟩)
theorem affIn_take_found {xs : List Aff} {x y : Aff} {j i : Nat} (hy : xs[j]? = some y) (hj : j < i) (h : affEq x y = true) : affIn (xs.take i) x = true :=
  affIn_found (k := j) (y := y) (by rw [List.getElem?_take_of_lt hj]; exact hy) h
set_option maxRecDepth 100000 in
set_option maxHeartbeats 2000000 in
theorem l2Affixes_any (w : World) (v : Value) (xs : List Aff) (h : AffsAt w v xs) :
    Calls Try.prog 32 #[v] w fun e w' => e = .returned (.bool (affsT xs)) ∧ Below w.heap.size w w' := by
  obtain ⟨a, cap, rfl, hc, hm⟩ := h.form
  have HS : Hid (AffsAt w (.slice a xs.length cap) xs) := h
  clear h
  unfold maxLen at hm
  have hgd := run_affGuard
  have heq := run_affEq5
  go_enter Try.func32, Try.ntmps32
  go_wp2
  go_loopw [3] (fun i wr => ∃ (k : Nat), k ≤ xs.length ∧ i = .int .i64 k ∧ (∀ j, j < k → affAt xs j = true) ∧ Below w.heap.size w wr) (fun i _ => xs.length - (intOf i).toNat)
  case atStart => exact ⟨0, Nat.zero_le _, rfl, fun j hj => absurd hj (by omega), Below.refl _ _⟩
  case round =>
    rename World => wo
    obtain ⟨k, hk, rfl, hall, hb⟩ := hrel
    have HA : Hid (∀ j, j < k → affAt xs j = true) := hall
    have HB : Hid (Below w.heap.size w wo) := hb
    clear hall hb
    by_cases hlt : k < xs.length
    · obtain ⟨b, off, cap', x, hv, hbl, hx, hxf, e0, e1, e2, e3, e4⟩ := (HS.out.below HB.out).at hlt
      cases hv
      have HX0 := affAt_at hx
      have HXX : Hid (xs[k]? = some x) := hx
      obtain ⟨f, fr, st, ad, wh⟩ := x
      simp only at e0 e1 e2 e3 e4
      have HF : Hid (Aff.fits ⟨f, fr, st, ad, wh⟩) := hxf
      have HX' : Hid (affAt xs k = (affOk ⟨f, fr, st, ad, wh⟩ && !affIn (xs.take k) ⟨f, fr, st, ad, wh⟩)) := HX0
      clear hx hxf HX0
      go_wp2_with fail
      refine (specAffixOk_any ⟨f, fr, st, ad, wh⟩ _ HF.out).mono ?_
      rintro e w1 ⟨rfl, hb1⟩
      have HB1 : Hid (Below w.heap.size w w1) := HB.out.trans (hb1.mono HB.out.size)
      clear hb1 e0 e1 e2 e3 e4
      cases hok : affOk ⟨f, fr, st, ad, wh⟩ with
      | false =>
        have HM : Hid (affsT xs = false) := affsT_bad k hlt (by rw [HX'.out, hok]; rfl)
        go_wp2
        go_ret
        rw [HM.out]
        exact ⟨rfl, HB1.out⟩
      | true =>
        go_wp2
        go_loopw [4] (fun i wr => ∃ (j : Nat), j ≤ k ∧ i = .int .i64 j ∧ affIn (xs.take j) ⟨f, fr, st, ad, wh⟩ = false ∧ Below w.heap.size w wr) (fun i _ => k - (intOf i).toNat)
        case atStart => exact ⟨0, Nat.zero_le _, rfl, rfl, HB1.out⟩
        case round =>
          obtain ⟨j, hj, rfl, hni, hb⟩ := hrel
          have HBj : Hid (Below w.heap.size w wr) := hb
          have HNI : Hid (affIn (xs.take j) ⟨f, fr, st, ad, wh⟩ = false) := hni
          clear hb hni
          by_cases hjk : j < k
          · obtain ⟨b1, off1, cap1, y, hv, hbl1, hy, _, d0, d1, d2, d3, d4⟩ := (HS.out.below HBj.out).at (k := j) (by omega)
            cases hv
            obtain ⟨b2, off2, cap2, y2, hv, _, hy2, _, c0, c1, c2, c3, c4⟩ := (HS.out.below HBj.out).at hlt
            cases hv
            rw [HXX.out] at hy2
            cases hy2
            have HY : Hid (xs[j]? = some y) := hy
            obtain ⟨f', fr', st', ad', wh'⟩ := y
            simp only at c0 c1 c2 c3 c4 d0 d1 d2 d3 d4
            clear hy
            have hjx : j < xs.length := by omega
            cases hq : affEq ⟨f', fr', st', ad', wh'⟩ ⟨f, fr, st, ad, wh⟩ with
            | true =>
              have HM : Hid (affsT xs = false) := affsT_bad k hlt (by rw [HX'.out, affIn_take_found HY.out hjk (by rw [affEq_comm]; exact hq)]; simp)
              go_wp2_with fail
              go_quiet (fail)
              go_wp2
              go_ret
              rw [HM.out]
              exact ⟨rfl, below_drewN70 HBj.out _⟩
            | false =>
              have HI : Hid (affIn (xs.take (j + 1)) ⟨f, fr, st, ad, wh⟩ = false) := by show affIn (xs.take (j + 1)) ⟨f, fr, st, ad, wh⟩ = false; rw [affIn_take HY.out, HNI.out, affEq_comm, hq]; rfl
              go_wp2_with fail
              go_quiet (fail)
              go_wp2
              go_roundw
              case rel => exact ⟨j + 1, by omega, by go_num, HI.out, below_drewN70 HBj.out _⟩
              case measure => simp [intOf]; omega
          · obtain rfl : j = k := by omega
            have HM : Hid (affAt xs j = true) := by show affAt xs j = true; rw [HX'.out, hok, HNI.out]; rfl
            go_wp2
            go_roundw
            case rel =>
              refine ⟨j + 1, by omega, by go_num, fun i hi => ?_, HBj.out⟩
              by_cases e : i = j
              · rw [e]; exact HM.out
              · exact HA.out i (by omega)
            case measure => simp [intOf]; omega
    · have HM : Hid (affsT xs = decide (xs.length ≤ 8)) := affsT_good (fun i hi => HA.out i (by omega))
      by_cases h8 : xs.length ≤ 8
      · have h8' : (xs.length : Int) ≤ 8 := by omega
        have HM' : Hid (affsT xs = true) := by show affsT xs = true; rw [HM.out]; simpa using h8
        go_wp2
        go_ret
        rw [HM'.out]
        exact ⟨rfl, HB.out⟩
      · have h8' : ¬ (xs.length : Int) ≤ 8 := by omega
        have HM' : Hid (affsT xs = false) := by show affsT xs = false; rw [HM.out]; simpa using h8
        go_wp2
        go_ret
        rw [HM'.out]
        exact ⟨rfl, HB.out⟩
end Go.Proofs.Ythikcililececaa
