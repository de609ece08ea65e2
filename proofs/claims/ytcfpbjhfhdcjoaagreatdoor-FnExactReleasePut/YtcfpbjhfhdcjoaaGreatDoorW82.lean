/-
  impl.affixLine, impl.entryLine.
-/
import Derived.Test.YtcfpbjhfhdcjoaaGreatDoorW81
import Derived.Test.YtcfpbjhfhdcjoaaGreatDoorW22
namespace Go.Proofs.YtcfpbjhfhdcjoaaGreatDoor
open Go.RowKit
set_option linter.unusedVariables false
/-- A text of bytes. -/
def mkT (l : List UInt8) : ByteArray := ⟨l.toArray⟩
theorem bl_mk (l : List UInt8) : bl (mkT l) = l := by simp [bl, mkT]
theorem mk_bl (s : ByteArray) : mkT (bl s) = s := by
  obtain ⟨⟨l⟩⟩ := s
  rfl
theorem bl_app (a b : ByteArray) : bl (a ++ b) = bl a ++ bl b := by simp [bl, ByteArray.data_append]
theorem eq_of_bl {a b : ByteArray} (h : bl a = bl b) : a = b := by rw [← mk_bl a, h, mk_bl]
/-- The parts of an affix's line. -/
def affP (a : Aff) : Nat → ByteArray
  | 0 => if a.front then ⟨#[102, 114, 111, 110, 116]⟩ else ⟨#[101, 110, 100]⟩
  | 1 => a.flag
  | 2 => a.strip
  | 3 => a.add
  | _ => a.wh
/-- An affix's line, and an entry's. -/
def lineA (a : Aff) : List UInt8 := accJ (affP a) 4 ++ [10]
def lineE (s f : ByteArray) : List UInt8 := if f.size = 0 then bl s ++ [10] else bl s ++ [47] ++ bl f ++ [10]
theorem bl_nil_size {f : ByteArray} (h : f.size = 0) : f = ⟨#[]⟩ := by
  obtain ⟨⟨l⟩⟩ := f
  have : l = [] := List.eq_nil_of_length_eq_zero h
  subst this
  rfl
theorem text_of {s : ByteArray} {l : List UInt8} (h : bl s = l) : s = mkT l := by rw [← h, mk_bl]
theorem taEE (v : Value) (w : World) : (Instr.typeAssert (.iface 105 v) 102 105 true).run Tryz.prog w = .ok (.tuple #[v, .bool true]) w := by kernel_rfl
theorem taBE (v : Value) (w : World) : (Instr.typeAssert (.iface 106 v) 102 105 true).run Tryz.prog w = .ok (.tuple #[.agg #[.string ⟨#[]⟩, .bool false, .string ⟨#[]⟩, .string ⟨#[]⟩, .string ⟨#[]⟩], .bool false]) w := by kernel_rfl
theorem taBB (v : Value) (w : World) : (Instr.typeAssert (.iface 106 v) 102 106 true).run Tryz.prog w = .ok (.tuple #[v, .bool true]) w := by kernel_rfl
set_option maxRecDepth 100000 in
set_option maxHeartbeats 2000000 in
theorem affixLine_any (a : Aff) (w : World) (h : a.flag.size ≤ 1000 ∧ a.strip.size ≤ 1000 ∧ a.add.size ≤ 1000 ∧ a.wh.size ≤ 1000) :
    Calls Tryz.prog 54 #[.agg a.cells] w fun e w' => e = .returned (.string (mkT (lineA a))) ∧ Below w.heap.size w w' := by
  obtain ⟨f, fr, st, ad, wh⟩ := a
  obtain ⟨h1, h2, h3, h4⟩ := h
  simp only at h1 h2 h3 h4
  unfold Aff.cells
  cases fr with
  | true =>
    have HL : Hid ((⟨(accJ (affP ⟨f, true, st, ad, wh⟩) 4).toArray⟩ : ByteArray) ++ ⟨#[10]⟩ = mkT (lineA ⟨f, true, st, ad, wh⟩)) := text_of (by rw [bl_app]; rfl)
    have HSZ : Hid (∀ k, k < 5 → (affP ⟨f, true, st, ad, wh⟩ k).size ≤ 1000) := by
      intro k hk
      match k with
      | 0 => exact (by decide : (5 : Nat) ≤ 1000)
      | 1 => exact h1
      | 2 => exact h2
      | 3 => exact h3
      | 4 => exact h4
    have ht1 := taEE
    have ht2 := taBE
    have ht3 := taBB
    go_enter Tryz.func54, Tryz.ntmps54
    go_wp2_with fail
    refine (sideBeg_any f st ad wh _).mono ?_
    rintro e w1 ⟨rfl, hb1⟩
    have HB1 : Hid (Below w.heap.size w w1) := ((Below.refl _ _).alloc (Nat.le_refl _) _).trans (hb1.mono (by simp <;> omega))
    have s0 := (hb1.cell (p := ⟨w.heap.size, 0, none⟩) (by simp)).trans (show _ = some (Value.string f) by simp [go_sem])
    have s2 := (hb1.cell (p := ⟨w.heap.size, 2, none⟩) (by simp)).trans (show _ = some (Value.string st) by simp [go_sem])
    have s3 := (hb1.cell (p := ⟨w.heap.size, 3, none⟩) (by simp)).trans (show _ = some (Value.string ad) by simp [go_sem])
    have s4 := (hb1.cell (p := ⟨w.heap.size, 4, none⟩) (by simp)).trans (show _ = some (Value.string wh) by simp [go_sem])
    have hz1 : w.heap.size < w1.heap.size := by have := hb1.size; simp at this; omega
    clear hb1
    go_wp2_with fail
    refine (join5_any _ w1.heap.size (affP ⟨f, true, st, ad, wh⟩) HSZ.out (by simp) ?hcc).mono ?_
    case hcc =>
      intro k hk
      match k with
      | 0 => simp [go_sem, affP]
      | 1 => simp [go_sem, affP]
      | 2 => simp [go_sem, affP]
      | 3 => simp [go_sem, affP]
      | 4 => simp [go_sem, affP]
    rintro e w2 ⟨rfl, hb2⟩
    have HB2 : Hid (Below w.heap.size w w2) := (HB1.out.alloc HB1.out.size _).trans (hb2.mono (by have := HB1.out.size; simp; omega))
    clear hb2 s0 s2 s3 s4
    have hal := accJ_length HSZ.out 4 (by omega)
    go_wp2
    go_ret
    refine ⟨?_, HB2.out⟩
    rw [← HL.out]
    rfl
  | false =>
    have HL : Hid ((⟨(accJ (affP ⟨f, false, st, ad, wh⟩) 4).toArray⟩ : ByteArray) ++ ⟨#[10]⟩ = mkT (lineA ⟨f, false, st, ad, wh⟩)) := text_of (by rw [bl_app]; rfl)
    have HSZ : Hid (∀ k, k < 5 → (affP ⟨f, false, st, ad, wh⟩ k).size ≤ 1000) := by
      intro k hk
      match k with
      | 0 => exact (by decide : (3 : Nat) ≤ 1000)
      | 1 => exact h1
      | 2 => exact h2
      | 3 => exact h3
      | 4 => exact h4
    have ht1 := taEE
    have ht2 := taBE
    have ht3 := taBB
    go_enter Tryz.func54, Tryz.ntmps54
    go_wp2_with fail
    refine (sideEnd_any f st ad wh _).mono ?_
    rintro e w1 ⟨rfl, hb1⟩
    have HB1 : Hid (Below w.heap.size w w1) := ((Below.refl _ _).alloc (Nat.le_refl _) _).trans (hb1.mono (by simp <;> omega))
    have s0 := (hb1.cell (p := ⟨w.heap.size, 0, none⟩) (by simp)).trans (show _ = some (Value.string f) by simp [go_sem])
    have s2 := (hb1.cell (p := ⟨w.heap.size, 2, none⟩) (by simp)).trans (show _ = some (Value.string st) by simp [go_sem])
    have s3 := (hb1.cell (p := ⟨w.heap.size, 3, none⟩) (by simp)).trans (show _ = some (Value.string ad) by simp [go_sem])
    have s4 := (hb1.cell (p := ⟨w.heap.size, 4, none⟩) (by simp)).trans (show _ = some (Value.string wh) by simp [go_sem])
    have hz1 : w.heap.size < w1.heap.size := by have := hb1.size; simp at this; omega
    clear hb1
    go_wp2_with fail
    refine (join5_any _ w1.heap.size (affP ⟨f, false, st, ad, wh⟩) HSZ.out (by simp) ?hcc).mono ?_
    case hcc =>
      intro k hk
      match k with
      | 0 => simp [go_sem, affP]
      | 1 => simp [go_sem, affP]
      | 2 => simp [go_sem, affP]
      | 3 => simp [go_sem, affP]
      | 4 => simp [go_sem, affP]
    rintro e w2 ⟨rfl, hb2⟩
    have HB2 : Hid (Below w.heap.size w w2) := (HB1.out.alloc HB1.out.size _).trans (hb2.mono (by have := HB1.out.size; simp; omega))
    clear hb2 s0 s2 s3 s4
    have hal := accJ_length HSZ.out 4 (by omega)
    go_wp2
    go_ret
    refine ⟨?_, HB2.out⟩
    rw [← HL.out]
    rfl
set_option maxHeartbeats 1000000 in
theorem entryLine_any (s f : ByteArray) (w : World) (hs : s.size ≤ 1000) (hf : f.size ≤ 1000) :
    Calls Tryz.prog 55 #[.agg #[.string s, .string f]] w fun e w' => e = .returned (.string (mkT (lineE s f))) ∧ Below w.heap.size w w' := by
  by_cases h0 : f.size = 0
  · have hfe : f = ⟨#[]⟩ := bl_nil_size h0
    subst hfe
    have HL : Hid (s ++ ⟨#[10]⟩ = mkT (lineE s ⟨#[]⟩)) := text_of (by rw [bl_app]; rfl)
    go_enter Tryz.func55, Tryz.ntmps55
    go_wp2
    go_ret
    refine ⟨?_, (Below.refl _ _).alloc (Nat.le_refl _) _⟩
    rw [← HL.out]
    rfl
  · have hfe : f.toList.isEmpty = false := by
      rw [ByteArray.toList_eq]
      cases hh : f.data.toList with
      | nil => exact absurd (show f.data.toList.length = 0 by rw [hh]; rfl) h0
      | cons => rfl
    have HL : Hid (s ++ ⟨#[47]⟩ ++ f ++ ⟨#[10]⟩ = mkT (lineE s f)) := text_of (by rw [bl_app, bl_app, bl_app]; unfold lineE; rw [if_neg h0]; rfl)
    go_enter Tryz.func55, Tryz.ntmps55
    go_wp2
    go_ret
    refine ⟨?_, (Below.refl _ _).alloc (Nat.le_refl _) _⟩
    rw [← HL.out]
    rfl
end Go.Proofs.YtcfpbjhfhdcjoaaGreatDoor
