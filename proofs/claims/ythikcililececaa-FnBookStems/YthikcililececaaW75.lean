/-
  impl.affixesOk.
-/
import Derived.Test.YthikcililececaaW74
import Derived.Test.YthikcililececaaW22
namespace Go.Proofs.Ythikcililececaa
open Go.RowKit
set_option linter.unusedVariables false
/-- An operation of a region that draws is taken first; the slot that it writes is told. -/
theorem wpAny_takeD {P : Program} {md : Region.Mode} {ops : Array Oper} {Q : Exit → Act → World → Prop} {i d : Nat} {oi : Oper} {v : Value} {fuel : Nat} {listed : Array Bool} {a : Act} {w : World} (hi : ops[i]? = some oi)
    (hs : Region.noSelect ops = true) (hf : Region.free md ops listed i = true) (hr : (Region.ready md ops listed).contains i = true)
    (hQ : ∀ c a w, Q (.panic c) (a.put oi.dst v) w → Q (.panic c) a w) (hy : Yields P ops oi v a) (hd : oi.dst = some d)
    (h : wpAny P md ops Q fuel (listed.setIfInBounds i true) (a.put (some d) v) w) : wpAny P md ops Q (fuel + 1) listed a w :=
  wpAny_take hi hs hf hr hQ hy (by rw [hd]; exact h)
/-- The affix at a place is ok, and none ahead is the same. -/
def affAt (xs : List Aff) (i : Nat) : Bool := match xs[i]? with | none => true | some x => affOk x && !affIn (xs.take i) x
def affsT (xs : List Aff) : Bool := decide (xs.length ≤ 8) && (List.range xs.length).all (affAt xs)
theorem affsT_long {xs : List Aff} (h : ¬ xs.length ≤ 8) : affsT xs = false := by simp [affsT, h]
theorem affsT_bad {xs : List Aff} (i : Nat) (hi : i < xs.length) (h : affAt xs i = false) : affsT xs = false := by
  have : (List.range xs.length).all (affAt xs) = false := by
    simp only [List.all_eq_false, List.mem_range]
    exact ⟨i, hi, by rw [h]; decide⟩
  simp [affsT, this]
theorem affsT_good {xs : List Aff} (h : ∀ i, i < xs.length → affAt xs i = true) : affsT xs = decide (xs.length ≤ 8) := by
  have : (List.range xs.length).all (affAt xs) = true := by
    simp only [List.all_eq_true, List.mem_range]
    exact h
  simp [affsT, this]
theorem affAt_at {xs : List Aff} {i : Nat} {x : Aff} (hx : xs[i]? = some x) : affAt xs i = (affOk x && !affIn (xs.take i) x) := by simp [affAt, hx]
set_option maxRecDepth 100000 in
set_option maxHeartbeats 2000000 in
theorem affixesOk_any (w : World) (v : Value) (xs : List Aff) (h : AffsAt w v xs) :
    Calls Try.prog 28 #[v] w fun e w' => e = .returned (.bool (affsT xs)) ∧ Below w.heap.size w w' := by
  obtain ⟨a, cap, rfl, hc, hm⟩ := h.form
  have HS : Hid (AffsAt w (.slice a xs.length cap) xs) := h
  clear h
  unfold maxLen at hm
  by_cases h8 : xs.length ≤ 8
  · have h8' : ¬ ((xs.length : Int) > 8) := by omega
    go_enter Try.func28, Try.ntmps28
    go_wp2
    go_loopw [10] (fun i wr => ∃ (k : Nat), k ≤ xs.length ∧ i = .int .i64 k ∧ (∀ j, j < k → affAt xs j = true) ∧ Below w.heap.size w wr) (fun i _ => xs.length - (intOf i).toNat)
    case atStart => exact ⟨0, Nat.zero_le _, rfl, fun j hj => absurd hj (by omega), Below.refl _ _⟩
    case round =>
      obtain ⟨k, hk, rfl, hall, hb⟩ := hrel
      have HA : Hid (∀ j, j < k → affAt xs j = true) := hall
      have HB : Hid (Below w.heap.size w wr) := hb
      clear hall hb
      by_cases hlt : k < xs.length
      · obtain ⟨b, off, cap', x, hv, hbl, hx, hxf, e0, e1, e2, e3, e4⟩ := (HS.out.below HB.out).at hlt
        cases hv
        have HX := affAt_at hx
        obtain ⟨f, fr, st, ad, wh⟩ := x
        simp only at e0 e1 e2 e3 e4
        have HF : Hid (Aff.fits ⟨f, fr, st, ad, wh⟩) := hxf
        have HX' : Hid (affAt xs k = (affOk ⟨f, fr, st, ad, wh⟩ && !affIn (xs.take k) ⟨f, fr, st, ad, wh⟩)) := HX
        have HST : Hid (∀ W : World, Below wr.heap.size wr W → AffsAt W (.slice (some ⟨b, off, none⟩) k cap) (xs.take k)) := fun W hW => ((HS.out.below HB.out).below hW).take hk
        have ek1 : (k : Int) ≤ (xs.length : Int) := by omega
        have ek2 : (xs.length : Int) ≤ (cap : Int) := by omega
        have ek3 : (k : Int) ≤ (cap : Int) := by omega
        have ek4 : k ≤ cap := by omega
        clear hx hxf HX
        cases hok : affOk ⟨f, fr, st, ad, wh⟩ with
        | false =>
          have HM : Hid (affsT xs = false) := affsT_bad k hlt (by rw [HX'.out, hok]; rfl)
          go_wp2_with fail
          first
            | (go_region_with (go_at_call 36; refine (implAffixOk_any ⟨f, fr, st, ad, wh⟩ _ HF.out).mono ?_; rintro e w1 ⟨rfl, hb1⟩; rw [hok]))
            | fail
          all_goals
            go_wp2
            go_ret
            rw [HM.out]
            exact ⟨rfl, (HB.out.alloc HB.out.size _).drew.trans (hb1.mono (by have := HB.out.size; simp; omega))⟩
        | true =>
          cases hin : affIn (xs.take k) ⟨f, fr, st, ad, wh⟩ with
          | true =>
            have HM : Hid (affsT xs = false) := affsT_bad k hlt (by rw [HX'.out, hok, hin]; rfl)
            go_wp2_with fail
            go_region_held3 (fun w' => w'.cell? ⟨wr.heap.size, 0, none⟩ = some (.string f) ∧ w'.cell? ⟨wr.heap.size, 1, none⟩ = some (.bool fr) ∧ w'.cell? ⟨wr.heap.size, 2, none⟩ = some (.string st) ∧ w'.cell? ⟨wr.heap.size, 3, none⟩ = some (.string ad) ∧ w'.cell? ⟨wr.heap.size, 4, none⟩ = some (.string wh)) (go_keep)
              (first | (go_at_call 36; refine (implAffixOk_any ⟨f, fr, st, ad, wh⟩ _ HF.out).mono ?_; rintro e w1 ⟨rfl, hb1⟩; rw [hok]; have hc1 := bcell hb1; have hz1 : wr.heap.size < w1.heap.size := (by have := hb1.size; simp at this; omega)) | (go_at_call 48; refine (sContains_any _ _ (xs.take k) ⟨f, fr, st, ad, wh⟩ (HST.out _ (((Below.refl _ _).alloc (Nat.le_refl _) _).drew.trans (hb1.mono (by simp))))).mono ?_; rintro e w2 ⟨rfl, hb2⟩; rw [hin]; have hc2 := bcell hb2))
            go_wp2
            go_ret
            rw [HM.out]
            exact ⟨rfl, ((HB.out.alloc HB.out.size _).drew.trans (hb1.mono (by have := HB.out.size; simp; omega))).trans (hb2.mono (by have := HB.out.size; omega))⟩
          | false =>
            have HM : Hid (affAt xs k = true) := by show affAt xs k = true; rw [HX'.out, hok, hin]; rfl
            go_wp2_with fail
            go_region_held3 (fun w' => w'.cell? ⟨wr.heap.size, 0, none⟩ = some (.string f) ∧ w'.cell? ⟨wr.heap.size, 1, none⟩ = some (.bool fr) ∧ w'.cell? ⟨wr.heap.size, 2, none⟩ = some (.string st) ∧ w'.cell? ⟨wr.heap.size, 3, none⟩ = some (.string ad) ∧ w'.cell? ⟨wr.heap.size, 4, none⟩ = some (.string wh)) (go_keep)
              (first | (go_at_call 36; refine (implAffixOk_any ⟨f, fr, st, ad, wh⟩ _ HF.out).mono ?_; rintro e w1 ⟨rfl, hb1⟩; rw [hok]; have hc1 := bcell hb1; have hz1 : wr.heap.size < w1.heap.size := (by have := hb1.size; simp at this; omega)) | (go_at_call 48; refine (sContains_any _ _ (xs.take k) ⟨f, fr, st, ad, wh⟩ (HST.out _ (((Below.refl _ _).alloc (Nat.le_refl _) _).drew.trans (hb1.mono (by simp))))).mono ?_; rintro e w2 ⟨rfl, hb2⟩; rw [hin]; have hc2 := bcell hb2))
            go_wp2
            go_roundw
            case rel =>
              refine ⟨k + 1, by omega, by go_num, fun j hj => ?_, ((HB.out.alloc HB.out.size _).drew.trans (hb1.mono (by have := HB.out.size; simp; omega))).trans (hb2.mono (by have := HB.out.size; omega))⟩
              by_cases e : j = k
              · rw [e]; exact HM.out
              · exact HA.out j (by omega)
            case measure => simp [intOf]; omega
      · have HM : Hid (affsT xs = true) := by
          show affsT xs = true
          rw [affsT_good (fun i hi => HA.out i (by omega))]
          simpa using h8
        go_wp2
        go_ret
        rw [HM.out]
        exact ⟨rfl, HB.out⟩
  · have HM : Hid (affsT xs = false) := affsT_long h8
    have h8' : (xs.length : Int) > 8 := by omega
    go_enter Try.func28, Try.ntmps28
    go_wp2
    go_ret
    rw [HM.out]
    exact ⟨rfl, Below.refl _ _⟩
end Go.Proofs.Ythikcililececaa
