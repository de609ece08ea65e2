/-
  An affix handed over: szAffix, toAffix; the law FnExactAffixOk.
-/
import Derived.Test.YtcfpbjhfhdcjoaaGreatDoorW22
namespace Go.Proofs.YtcfpbjhfhdcjoaaGreatDoor
open Go.RowKit
set_option linter.unusedVariables false
/-- How much of a bound is left behind an affix's texts; -1 where they are more. -/
def szA (a : Aff) (left : Int) : Int :=
  if left - a.flag.size < 0 then -1 else if left - a.flag.size - a.strip.size < 0 then -1 else if left - a.flag.size - a.strip.size - a.add.size < 0 then -1
  else if left - a.flag.size - a.strip.size - a.add.size - a.wh.size < 0 then -1 else left - a.flag.size - a.strip.size - a.add.size - a.wh.size
set_option maxHeartbeats 1000000 in
theorem szAffix_any (a : Aff) (left : Int) (w : World) (h : a.fits) (h0 : 0 ≤ left) (h1 : left ≤ 1048576) :
    Calls Tryz.prog 37 #[.agg a.cells, .int .i64 left] w fun e w' => e = .returned (.int .i64 (szA a left)) ∧ Below w.heap.size w w' := by
  obtain ⟨f, fr, st, ad, wh⟩ := a
  obtain ⟨hf, hst, had, hwh⟩ := h
  simp only at hf hst had hwh
  unfold maxLen at hf hst had hwh
  unfold Aff.cells
  by_cases c1 : left - f.size < 0
  · have HS : Hid (szA ⟨f, fr, st, ad, wh⟩ left = -1) := show szA ⟨f, fr, st, ad, wh⟩ left = -1 by unfold szA; rw [if_pos c1]
    go_enter Tryz.func37, Tryz.ntmps37
    go_wp2
    go_ret
    rw [HS.out]
    exact ⟨rfl, (Below.refl _ _).alloc (Nat.le_refl _) _⟩
  by_cases c2 : left - f.size - st.size < 0
  · have HS : Hid (szA ⟨f, fr, st, ad, wh⟩ left = -1) := show szA ⟨f, fr, st, ad, wh⟩ left = -1 by unfold szA; rw [if_neg c1, if_pos c2]
    go_enter Tryz.func37, Tryz.ntmps37
    go_wp2
    go_ret
    rw [HS.out]
    exact ⟨rfl, (Below.refl _ _).alloc (Nat.le_refl _) _⟩
  by_cases c3 : left - f.size - st.size - ad.size < 0
  · have HS : Hid (szA ⟨f, fr, st, ad, wh⟩ left = -1) := show szA ⟨f, fr, st, ad, wh⟩ left = -1 by unfold szA; rw [if_neg c1, if_neg c2, if_pos c3]
    go_enter Tryz.func37, Tryz.ntmps37
    go_wp2
    go_ret
    rw [HS.out]
    exact ⟨rfl, (Below.refl _ _).alloc (Nat.le_refl _) _⟩
  by_cases c4 : left - f.size - st.size - ad.size - wh.size < 0
  · have HS : Hid (szA ⟨f, fr, st, ad, wh⟩ left = -1) := show szA ⟨f, fr, st, ad, wh⟩ left = -1 by unfold szA; rw [if_neg c1, if_neg c2, if_neg c3, if_pos c4]
    go_enter Tryz.func37, Tryz.ntmps37
    go_wp2
    go_ret
    rw [HS.out]
    exact ⟨rfl, (Below.refl _ _).alloc (Nat.le_refl _) _⟩
  · have HS : Hid (szA ⟨f, fr, st, ad, wh⟩ left = left - f.size - st.size - ad.size - wh.size) := show szA ⟨f, fr, st, ad, wh⟩ left = left - f.size - st.size - ad.size - wh.size by unfold szA; rw [if_neg c1, if_neg c2, if_neg c3, if_neg c4]
    go_enter Tryz.func37, Tryz.ntmps37
    go_wp2
    go_ret
    rw [HS.out]
    exact ⟨rfl, (Below.refl _ _).alloc (Nat.le_refl _) _⟩
set_option maxHeartbeats 1000000 in
theorem toAffix_any (a : Aff) (w : World) :
    Calls Tryz.prog 44 #[.agg a.cells] w fun e w' => e = .returned (.agg a.cells) ∧ Below w.heap.size w w' := by
  obtain ⟨f, fr, st, ad, wh⟩ := a
  unfold Aff.cells
  go_enter Tryz.func44, Tryz.ntmps44
  go_wp2
  refine bodyPost_ret (v := .agg #[.string f, .bool fr, .string st, .string ad, .string wh]) (by simp [results, Tryz.results44, go_sem]) rfl ⟨rfl, ?_⟩
  exact (((Below.refl _ _).alloc (Nat.le_refl _) _).alloc (by simp) _).alloc (by simp <;> omega) _
end Go.Proofs.YtcfpbjhfhdcjoaaGreatDoor
