/-
  An affix handed over: szAffix, toAffix; the law FnExactAffixOk.
-/
import Derived.Test.YtajhghjliegnfaaW22
namespace Go.Proofs.Ytajhghjliegnfaa
open Go.RowKit
set_option linter.unusedVariables false
/-- How much of a bound is left behind an affix's texts; -1 where they are more. -/
def szA (a : Aff) (left : Int) : Int :=
  if left - a.flag.size < 0 then -1 else if left - a.flag.size - a.strip.size < 0 then -1 else if left - a.flag.size - a.strip.size - a.add.size < 0 then -1
  else if left - a.flag.size - a.strip.size - a.add.size - a.wh.size < 0 then -1 else left - a.flag.size - a.strip.size - a.add.size - a.wh.size
set_option maxHeartbeats 1000000 in
theorem szAffix_any (a : Aff) (left : Int) (w : World) (h : a.fits) (h0 : 0 ≤ left) (h1 : left ≤ 1048576) :
    Calls Try.prog 30 #[.agg a.cells, .int .i64 left] w fun e w' => e = .returned (.int .i64 (szA a left)) ∧ Below w.heap.size w w' := by
  obtain ⟨f, fr, st, ad, wh⟩ := a
  obtain ⟨hf, hst, had, hwh⟩ := h
  simp only at hf hst had hwh
  unfold maxLen at hf hst had hwh
  unfold Aff.cells
  by_cases c1 : left - f.size < 0
  · have HS : Hid (szA ⟨f, fr, st, ad, wh⟩ left = -1) := show szA ⟨f, fr, st, ad, wh⟩ left = -1 by unfold szA; rw [if_pos c1]
    go_enter Try.func30, Try.ntmps30
    go_wp2
    go_ret
    rw [HS.out]
    exact ⟨rfl, (Below.refl _ _).alloc (Nat.le_refl _) _⟩
  by_cases c2 : left - f.size - st.size < 0
  · have HS : Hid (szA ⟨f, fr, st, ad, wh⟩ left = -1) := show szA ⟨f, fr, st, ad, wh⟩ left = -1 by unfold szA; rw [if_neg c1, if_pos c2]
    go_enter Try.func30, Try.ntmps30
    go_wp2
    go_ret
    rw [HS.out]
    exact ⟨rfl, (Below.refl _ _).alloc (Nat.le_refl _) _⟩
  by_cases c3 : left - f.size - st.size - ad.size < 0
  · have HS : Hid (szA ⟨f, fr, st, ad, wh⟩ left = -1) := show szA ⟨f, fr, st, ad, wh⟩ left = -1 by unfold szA; rw [if_neg c1, if_neg c2, if_pos c3]
    go_enter Try.func30, Try.ntmps30
    go_wp2
    go_ret
    rw [HS.out]
    exact ⟨rfl, (Below.refl _ _).alloc (Nat.le_refl _) _⟩
  by_cases c4 : left - f.size - st.size - ad.size - wh.size < 0
  · have HS : Hid (szA ⟨f, fr, st, ad, wh⟩ left = -1) := show szA ⟨f, fr, st, ad, wh⟩ left = -1 by unfold szA; rw [if_neg c1, if_neg c2, if_neg c3, if_pos c4]
    go_enter Try.func30, Try.ntmps30
    go_wp2
    go_ret
    rw [HS.out]
    exact ⟨rfl, (Below.refl _ _).alloc (Nat.le_refl _) _⟩
  · have HS : Hid (szA ⟨f, fr, st, ad, wh⟩ left = left - f.size - st.size - ad.size - wh.size) := show szA ⟨f, fr, st, ad, wh⟩ left = left - f.size - st.size - ad.size - wh.size by unfold szA; rw [if_neg c1, if_neg c2, if_neg c3, if_neg c4]
    go_enter Try.func30, Try.ntmps30
    go_wp2
    go_ret
    rw [HS.out]
    exact ⟨rfl, (Below.refl _ _).alloc (Nat.le_refl _) _⟩
set_option maxHeartbeats 1000000 in
theorem toAffix_any (a : Aff) (w : World) :
    Calls Try.prog 32 #[.agg a.cells] w fun e w' => e = .returned (.agg a.cells) ∧ Below w.heap.size w w' := by
  obtain ⟨f, fr, st, ad, wh⟩ := a
  unfold Aff.cells
  go_enter Try.func32, Try.ntmps32
  go_wp2
  refine bodyPost_ret (v := .agg #[.string f, .bool fr, .string st, .string ad, .string wh]) (by simp [results, Try.results32, go_sem]) rfl ⟨rfl, ?_⟩
  exact (((Below.refl _ _).alloc (Nat.le_refl _) _).alloc (by simp) _).alloc (by simp <;> omega) _
set_option maxHeartbeats 1000000 in
theorem fnExactAffixOk_walk (a : Aff) (w : World) (h : a.fits) :
    Calls Try.prog 8 #[.agg a.cells] w fun e w' => e = .returned (.bool true) ∧ Below w.heap.size w w' := by
  obtain ⟨f, fr, st, ad, wh⟩ := a
  have HF : Hid (Aff.fits ⟨f, fr, st, ad, wh⟩) := h
  unfold Aff.cells
  clear h
  go_enter Try.func8, Try.ntmps8
  go_wp2_with fail
  refine (szAffix_any ⟨f, fr, st, ad, wh⟩ _ _ HF.out (by omega) (by omega)).mono ?_
  rintro e w1 ⟨rfl, hb1⟩
  generalize szA ⟨f, fr, st, ad, wh⟩ 1048576 = r
  have hb1' : Below w.heap.size w w1 := ((Below.refl _ _).alloc (Nat.le_refl _) _).trans (hb1.mono (by simp))
  have hc1 := bcell hb1
  have hz1 : w.heap.size < w1.heap.size := by have := hb1.size; simp at this; omega
  clear hb1
  by_cases hr : r < 0
  · go_wp2
    go_ret
    exact ⟨rfl, hb1'⟩
  · go_wp2_with fail
    refine (toAffix_any ⟨f, fr, st, ad, wh⟩ _).mono ?_
    rintro e w2 ⟨rfl, hb2⟩
    have hb2' : Below w.heap.size w w2 := hb1'.trans (hb2.mono hb1'.size)
    have hc2 := bcell hb2
    have hz2 : w.heap.size < w2.heap.size := by have := hb2.size; omega
    clear hb2
    unfold Aff.cells
    go_wp2_with fail
    refine (specAffixOk_any ⟨f, fr, st, ad, wh⟩ _ HF.out).mono ?_
    rintro e w3 ⟨rfl, hb3⟩
    have hb3' : Below w.heap.size w w3 := hb2'.trans (hb3.mono hb2'.size)
    have hc3 := bcell hb3
    have hz3 : w.heap.size < w3.heap.size := by have := hb3.size; omega
    clear hb3
    go_wp2_with fail
    refine (toAffix_any ⟨f, fr, st, ad, wh⟩ _).mono ?_
    rintro e w4 ⟨rfl, hb4⟩
    have hb4' : Below w.heap.size w w4 := hb3'.trans (hb4.mono hb3'.size)
    clear hb4
    unfold Aff.cells
    go_wp2_with fail
    refine (implAffixOk_any ⟨f, fr, st, ad, wh⟩ _ HF.out).mono ?_
    rintro e w5 ⟨rfl, hb5⟩
    have hb5' : Below w.heap.size w w5 := hb4'.trans (hb5.mono hb4'.size)
    clear hb5
    go_wp2_with fail
    go_ret
    exact ⟨rfl, hb5'⟩
end Go.Proofs.Ytajhghjliegnfaa
