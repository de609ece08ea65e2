/-
  spec.l2AffixPut, l2EntryPut, l2Put, BookPut; the law FnExactBookPut.
-/
import Derived.Test.YtcnnjbiambccdaaGreatDoorGW83
import Derived.Test.YtcnnjbiambccdaaGreatDoorW79
namespace Go.Proofs.YtcnnjbiambccdaaGreatDoor
open Go.RowKit
set_option linter.unusedVariables false
theorem mk_size (l : List UInt8) : (mkT l).size = l.length := by rw [← bl_length, bl_mk]
set_option maxHeartbeats 1000000 in
theorem l2AffixPut_any (a : Aff) (w : World) (h : ShortA a) :
    Calls Tryz.prog 41 #[.agg a.cells] w fun e w' => e = .returned (.string (mkT (accJ (affP a) 4))) ∧ Below w.heap.size w w' := by
  obtain ⟨f, fr, st, ad, wh⟩ := a
  obtain ⟨h1, h2, h3, h4⟩ := h
  simp only at h1 h2 h3 h4
  unfold Aff.cells
  cases fr with
  | true =>
    have HL : Hid ((⟨#[102, 114, 111, 110, 116]⟩ : ByteArray) ++ ⟨#[32]⟩ ++ f ++ ⟨#[32]⟩ ++ st ++ ⟨#[32]⟩ ++ ad ++ ⟨#[32]⟩ ++ wh = mkT (accJ (affP ⟨f, true, st, ad, wh⟩) 4)) := text_of (by simp only [bl_app, accJ, affP, if_true, List.append_assoc]; rfl)
    go_enter Tryz.func41, Tryz.ntmps41
    go_wp2
    go_ret
    refine ⟨?_, (Below.refl _ _).alloc (Nat.le_refl _) _⟩
    rw [← HL.out]
    rfl
  | false =>
    have HL : Hid ((⟨#[101, 110, 100]⟩ : ByteArray) ++ ⟨#[32]⟩ ++ f ++ ⟨#[32]⟩ ++ st ++ ⟨#[32]⟩ ++ ad ++ ⟨#[32]⟩ ++ wh = mkT (accJ (affP ⟨f, false, st, ad, wh⟩) 4)) := text_of (by simp only [bl_app, accJ, affP, Bool.false_eq_true, if_false, List.append_assoc]; rfl)
    go_enter Tryz.func41, Tryz.ntmps41
    go_wp2
    go_ret
    refine ⟨?_, (Below.refl _ _).alloc (Nat.le_refl _) _⟩
    rw [← HL.out]
    rfl
/-- An entry's line without its end. -/
def entL (s f : ByteArray) : List UInt8 := if f.size = 0 then bl s else bl s ++ [47] ++ bl f
theorem entL_line (s f : ByteArray) : entL s f ++ [10] = lineE s f := by
  unfold entL lineE
  split <;> simp
theorem entL_length {s f : ByteArray} (h1 : s.size ≤ 1000) (h2 : f.size ≤ 1000) : (entL s f).length ≤ 2001 := by
  have h := lineE_length h1 h2
  rw [← entL_line, List.length_append] at h
  simp at h
  omega
set_option maxHeartbeats 1000000 in
theorem l2EntryPut_any (s f : ByteArray) (w : World) (hs : s.size ≤ 1000) (hf : f.size ≤ 1000) :
    Calls Tryz.prog 42 #[.agg #[.string s, .string f]] w fun e w' => e = .returned (.string (mkT (entL s f))) ∧ Below w.heap.size w w' := by
  by_cases h0 : f.size = 0
  · have hfe : f = ⟨#[]⟩ := bl_nil_size h0
    subst hfe
    have HL : Hid (s = mkT (entL s ⟨#[]⟩)) := text_of rfl
    go_enter Tryz.func42, Tryz.ntmps42
    go_wp2
    go_ret
    refine ⟨?_, (Below.refl _ _).alloc (Nat.le_refl _) _⟩
    rw [← HL.out]
    rfl
  · have hfe : f.toList.isEmpty = false := by
      rw [ByteArray.toList_eq]
      cases hh : f.data.toList with
      | nil => exact absurd (show f.data.toList.length = 0 by rw [hh]; rfl) h0
      | cons => rfl
    have HL : Hid (s ++ ⟨#[47]⟩ ++ f = mkT (entL s f)) := text_of (by rw [bl_app, bl_app]; unfold entL; rw [if_neg h0]; rfl)
    go_enter Tryz.func42, Tryz.ntmps42
    go_wp2
    go_ret
    refine ⟨?_, (Below.refl _ _).alloc (Nat.le_refl _) _⟩
    rw [← HL.out]
    rfl
end Go.Proofs.YtcnnjbiambccdaaGreatDoor
