/-
  Parts at a side of a text: what an affix that is ok puts there, and takes back. No program in it.
-/
import Derived.Test.YthikcililececaaW22
namespace Go.Proofs.Ythikcililececaa
set_option linter.unusedVariables false
/-- A part stands at an affix's side of a text; one part in another one's place there. -/
def hasT (fr : Bool) (s p : ByteArray) : Bool := if fr then begT s p else endT s p
def swT (fr : Bool) (s p q : ByteArray) : ByteArray := if fr then q ++ s.extract p.size s.size else s.extract 0 (s.size - p.size) ++ q
theorem toList_beq (a b : ByteArray) : (a.toList == b.toList) = true ↔ a = b := by
  rw [beq_iff_eq, ByteArray.toList_eq, ByteArray.toList_eq]
  constructor
  · intro h
    exact ByteArray.ext (Array.toList_inj.1 h)
  · rintro rfl
    rfl
theorem begT_split {s p : ByteArray} (h : begT s p = true) : ∃ r, s = p ++ r := by
  unfold begT at h
  simp only [Bool.and_eq_true, decide_eq_true_eq, toList_beq] at h
  refine ⟨s.extract p.size s.size, ?_⟩
  conv => lhs; rw [← ByteArray.extract_zero_size (b := s), ByteArray.extract_eq_extract_append_extract p.size (by omega) h.1]
  rw [h.2]
theorem begT_app (p r : ByteArray) : begT (p ++ r) p = true := by
  unfold begT
  have : (p ++ r).extract 0 p.size = p := ByteArray.extract_append_eq_left rfl
  rw [this]
  simp
theorem endT_split {s p : ByteArray} (h : endT s p = true) : ∃ r, s = r ++ p := by
  unfold endT at h
  simp only [Bool.and_eq_true, decide_eq_true_eq, toList_beq] at h
  refine ⟨s.extract 0 (s.size - p.size), ?_⟩
  conv => lhs; rw [← ByteArray.extract_zero_size (b := s), ByteArray.extract_eq_extract_append_extract (s.size - p.size) (by omega) (by omega)]
  rw [h.2]
theorem endT_app (p r : ByteArray) : endT (r ++ p) p = true := by
  unfold endT
  have : (r ++ p).extract ((r ++ p).size - p.size) (r ++ p).size = p := ByteArray.extract_append_eq_right (by simp) (by simp)
  rw [this]
  simp
theorem swBeg (p r q : ByteArray) : swT true (p ++ r) p q = q ++ r := by
  unfold swT
  rw [if_pos rfl, ByteArray.extract_append_eq_right rfl (by simp)]
theorem swEnd (p r q : ByteArray) : swT false (r ++ p) p q = r ++ q := by
  unfold swT
  rw [if_neg (by simp), ByteArray.extract_append_eq_left (by simp)]
/-- Put there and taken back, a text is what it was. -/
theorem swT_back {fr : Bool} {s p q : ByteArray} (h : hasT fr s p = true) : swT fr (swT fr s p q) q p = s ∧ hasT fr (swT fr s p q) q = true ∧ (swT fr s p q).size + p.size = s.size + q.size := by
  cases fr with
  | true =>
    obtain ⟨r, rfl⟩ := begT_split (by simpa [hasT] using h)
    rw [swBeg, swBeg]
    exact ⟨rfl, by simpa [hasT] using begT_app q r, by simp; omega⟩
  | false =>
    obtain ⟨r, rfl⟩ := endT_split (by simpa [hasT] using h)
    rw [swEnd, swEnd]
    exact ⟨rfl, by simpa [hasT] using endT_app q r, by simp; omega⟩
theorem hasT_trans {fr : Bool} {s p q : ByteArray} (h : hasT fr s p = true) (k : hasT fr p q = true) : hasT fr s q = true := by
  cases fr with
  | true =>
    obtain ⟨r, rfl⟩ := begT_split (by simpa [hasT] using h)
    obtain ⟨t, rfl⟩ := begT_split (by simpa [hasT] using k)
    rw [ByteArray.append_assoc]
    simpa [hasT] using begT_app q (t ++ r)
  | false =>
    obtain ⟨r, rfl⟩ := endT_split (by simpa [hasT] using h)
    obtain ⟨t, rfl⟩ := endT_split (by simpa [hasT] using k)
    rw [← ByteArray.append_assoc]
    simpa [hasT] using endT_app q (r ++ t)
theorem hasT_size {fr : Bool} {s p : ByteArray} (h : hasT fr s p = true) : p.size ≤ s.size := by
  cases fr with
  | true =>
    obtain ⟨r, rfl⟩ := begT_split (by simpa [hasT] using h)
    simp
  | false =>
    obtain ⟨r, rfl⟩ := endT_split (by simpa [hasT] using h)
    simp
theorem affOk_parts {a : Aff} (h : affOk a = true) : a.strip.size ≤ 4 ∧ a.add.size ≤ 4 ∧ a.wh.size ≤ 4 ∧ hasT a.front a.wh a.strip = true := by
  unfold affOk partT at h
  simp only [Bool.and_eq_true, decide_eq_true_eq] at h
  obtain ⟨-, ⟨-, h2⟩, ⟨-, h3⟩, ⟨-, h4⟩, h5⟩ := h
  exact ⟨by omega, by omega, by omega, h5⟩
theorem wok_sz {s : ByteArray} (h : wok s = true) : 0 < s.size ∧ s.size ≤ 12 := by
  unfold wok at h
  simp only [Bool.and_eq_true, decide_eq_true_eq] at h
  omega
/-- What AffixDo and AffixBack answer. -/
def doT (a : Aff) (s : ByteArray) : ByteArray × Bool :=
  if affOk a && (wok s && (hasT a.front s a.wh && wok (swT a.front s a.strip a.add))) then (swT a.front s a.strip a.add, true) else (ByteArray.empty, false)
def backT (a : Aff) (s : ByteArray) : ByteArray × Bool :=
  if affOk a && (wok s && (hasT a.front s a.add && (wok (swT a.front s a.add a.strip) && hasT a.front (swT a.front s a.add a.strip) a.wh))) then (swT a.front s a.add a.strip, true) else (ByteArray.empty, false)
end Go.Proofs.Ythikcililececaa
