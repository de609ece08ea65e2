/-
  spec.l2AffixPut, l2EntryPut, l2Put, BookPut; the law FnExactBookPut.
-/
import Derived.Test.YtkepmjebnkcbgaaGreatDoorGW83
import Derived.Test.YtkepmjebnkcbgaaGreatDoorW79
namespace Go.Proofs.YtkepmjebnkcbgaaGreatDoor
open Go.RowKit
set_option linter.unusedVariables false
theorem mk_size (l : List UInt8) : (mkT l).size = l.length := by rw [← bl_length, bl_mk]
set_option maxHeartbeats 1000000 in
theorem l2AffixPut_any (a : Aff) (w : World) (h : ShortA a) :
    Calls Tryz.prog 76 #[.agg a.cells] w fun e w' => e = .returned (.string (mkT (accJ (affP a) 4))) ∧ Below w.heap.size w w' := by
  obtain ⟨f, fr, st, ad, wh⟩ := a
  obtain ⟨h1, h2, h3, h4⟩ := h
  simp only at h1 h2 h3 h4
  unfold Aff.cells
  cases fr with
  | true =>
    have HL : Hid ((⟨#[102, 114, 111, 110, 116]⟩ : ByteArray) ++ ⟨#[32]⟩ ++ f ++ ⟨#[32]⟩ ++ st ++ ⟨#[32]⟩ ++ ad ++ ⟨#[32]⟩ ++ wh = mkT (accJ (affP ⟨f, true, st, ad, wh⟩) 4)) := text_of (by simp only [bl_app, accJ, affP, if_true, List.append_assoc]; rfl)
    go_enter Tryz.func76, Tryz.ntmps76
    go_wp2
    go_ret
    refine ⟨?_, (Below.refl _ _).alloc (Nat.le_refl _) _⟩
    rw [← HL.out]
    rfl
  | false =>
    have HL : Hid ((⟨#[101, 110, 100]⟩ : ByteArray) ++ ⟨#[32]⟩ ++ f ++ ⟨#[32]⟩ ++ st ++ ⟨#[32]⟩ ++ ad ++ ⟨#[32]⟩ ++ wh = mkT (accJ (affP ⟨f, false, st, ad, wh⟩) 4)) := text_of (by simp only [bl_app, accJ, affP, Bool.false_eq_true, if_false, List.append_assoc]; rfl)
    go_enter Tryz.func76, Tryz.ntmps76
    go_wp2
    go_ret
    refine ⟨?_, (Below.refl _ _).alloc (Nat.le_refl _) _⟩
    rw [← HL.out]
    rfl
/-- An entry's line without its end. -/
def entL (s f : ByteArray) : List UInt8 := if f.size = 0 then bl s else bl s ++ [47] ++ bl f
theorem entL_line (s f : ByteArray) : entL s f ++ [10] = lineE s f := by
  unfold entL lineE
  split <;> simp
theorem entL_length {s f : ByteArray} (h1 : s.size ≤ 1000) (h2 : f.size ≤ 1000) : (entL s f).length ≤ 2001 := by
  have h := lineE_length h1 h2
  rw [← entL_line, List.length_append] at h
  simp at h
  omega
set_option maxHeartbeats 1000000 in
theorem l2EntryPut_any (s f : ByteArray) (w : World) (hs : s.size ≤ 1000) (hf : f.size ≤ 1000) :
    Calls Tryz.prog 77 #[.agg #[.string s, .string f]] w fun e w' => e = .returned (.string (mkT (entL s f))) ∧ Below w.heap.size w w' := by
  by_cases h0 : f.size = 0
  · have hfe : f = ⟨#[]⟩ := bl_nil_size h0
    subst hfe
    have HL : Hid (s = mkT (entL s ⟨#[]⟩)) := text_of rfl
    go_enter Tryz.func77, Tryz.ntmps77
    go_wp2
    go_ret
    refine ⟨?_, (Below.refl _ _).alloc (Nat.le_refl _) _⟩
    rw [← HL.out]
    rfl
  · have hfe : f.toList.isEmpty = false := by
      rw [ByteArray.toList_eq]
      cases hh : f.data.toList with
      | nil => exact absurd (show f.data.toList.length = 0 by rw [hh]; rfl) h0
      | cons => rfl
    have HL : Hid (s ++ ⟨#[47]⟩ ++ f = mkT (entL s f)) := text_of (by rw [bl_app, bl_app]; unfold entL; rw [if_neg h0]; rfl)
    go_enter Tryz.func77, Tryz.ntmps77
    go_wp2
    go_ret
    refine ⟨?_, (Below.refl _ _).alloc (Nat.le_refl _) _⟩
    rw [← HL.out]
    rfl
set_option maxRecDepth 100000 in
set_option maxHeartbeats 2000000 in
theorem l2Put_any (w : World) (va ve : Value) (xs : List Aff) (es : List (ByteArray × ByteArray)) (ha : AffsAt w va xs) (he : EntsAt w ve es) (hok : bookT xs es = true) :
    Calls Tryz.prog 47 #[.agg #[va, ve]] w fun e w' => e = .returned (.string (mkT (putA xs ++ putE es))) ∧ Below w.heap.size w w' := by
  obtain ⟨a, cap, rfl, hc, hm⟩ := ha.form
  obtain ⟨a', cap', rfl, hc', hm'⟩ := he.form
  have HA : Hid (AffsAt w (.slice a xs.length cap) xs) := ha
  have HE : Hid (EntsAt w (.slice a' es.length cap') es) := he
  obtain ⟨hl8, hl24, hsa, hse⟩ := book_parts hok
  have HSA : Hid (∀ (i : Nat) (x : Aff), xs[i]? = some x → ShortA x) := hsa
  have HSE : Hid (∀ (i : Nat) (x : ByteArray × ByteArray), es[i]? = some x → x.1.size ≤ 1000 ∧ x.2.size ≤ 1000) := hse
  clear ha he hsa hse hok
  unfold maxLen at hm hm'
  go_enter Tryz.func47, Tryz.ntmps47
  go_wp2
  go_loopw [3, 4] (fun o i wr => ∃ (k : Nat), k ≤ xs.length ∧ i = .int .i64 k ∧ o = .string (mkT (putA (xs.take k))) ∧ wr.cell? ⟨w.heap.size, 0, none⟩ = some (.slice a xs.length cap) ∧ wr.cell? ⟨w.heap.size, 1, none⟩ = some (.slice a' es.length cap') ∧ w.heap.size < wr.heap.size ∧ Below w.heap.size w wr) (fun _ i _ => xs.length - (intOf i).toNat)
  case atStart => exact ⟨0, Nat.zero_le _, rfl, rfl, by simp [go_sem], by simp [go_sem], by simp, (Below.refl _ _).alloc (Nat.le_refl _) _⟩
  case round =>
    obtain ⟨k, hk, rfl, rfl, m0, m1, m4, hb⟩ := hrel
    have HB : Hid (Below w.heap.size w wr) := hb
    clear hb
    by_cases hlt : k < xs.length
    · obtain ⟨b, off, cap2, x, hv, hbl, hx, hxf, e0, e1, e2, e3, e4⟩ := (HA.out.below HB.out).at hlt
      cases hv
      have HX : Hid (xs[k]? = some x) := hx
      have HSX : Hid (ShortA x) := HSA.out k x hx
      have hla := putA_length HSA.out k hk
      rw [← mk_size] at hla
      have hll := lineA_length HSX.out
      have hll2 : (mkT (accJ (affP x) 4)).size ≤ 5005 := by rw [mk_size]; unfold lineA at hll; simp at hll; omega
      have HN : Hid (mkT (putA (xs.take k)) ++ mkT (accJ (affP x) 4) ++ ⟨#[10]⟩ = mkT (putA (xs.take (k + 1)))) := text_of (by rw [bl_app, bl_app, bl_mk, bl_mk, putA_take hx, List.append_assoc]; rfl)
      obtain ⟨f, fr, st, ad, wh⟩ := x
      simp only at e0 e1 e2 e3 e4
      clear hx hxf hll
      go_wp2_with fail
      refine (l2AffixPut_any ⟨f, fr, st, ad, wh⟩ _ HSX.out).mono ?_
      rintro e w2 ⟨rfl, hb2⟩
      have HB2 : Hid (Below w.heap.size w w2) := HB.out.trans (hb2.mono HB.out.size)
      have n0 := (hb2.cell (p := ⟨w.heap.size, 0, none⟩) m4).trans m0
      have n1 := (hb2.cell (p := ⟨w.heap.size, 1, none⟩) m4).trans m1
      have n4 : w.heap.size < w2.heap.size := Nat.lt_of_lt_of_le m4 hb2.size
      clear hb2 e0 e1 e2 e3 e4 m0 m1
      generalize hg1 : mkT (putA (xs.take k)) = t1 at *
      generalize hg2 : mkT (accJ (affP ⟨f, fr, st, ad, wh⟩) 4) = t2 at *
      clear hg1 hg2
      go_wp2
      go_roundw
      case rel => exact ⟨k + 1, by omega, by go_num, by rw [← HN.out], n0, n1, n4, HB2.out⟩
      case measure => simp [intOf]; omega
    · obtain rfl : k = xs.length := by omega
      rw [List.take_length]
      have hla := putA_length HSA.out xs.length (Nat.le_refl _)
      rw [List.take_length] at hla
      have HLX : Hid ((putA xs).length ≤ 5006 * xs.length) := hla
      rename World => wo
      clear hla
      go_wp2
      go_loopw [3, 5] (fun o i wr => ∃ (k : Nat), k ≤ es.length ∧ i = .int .i64 k ∧ o = .string (mkT (putA xs ++ putE (es.take k))) ∧ wr.cell? ⟨w.heap.size, 1, none⟩ = some (.slice a' es.length cap') ∧ w.heap.size < wr.heap.size ∧ Below w.heap.size w wr) (fun _ i _ => es.length - (intOf i).toNat)
      case atStart => exact ⟨0, Nat.zero_le _, rfl, by simp [putE], m1, m4, HB.out⟩
      case round =>
        obtain ⟨k, hk, rfl, rfl, p1, p4, hb⟩ := hrel
        have HBe : Hid (Below w.heap.size w wr) := hb
        clear hb
        by_cases hlt : k < es.length
        · obtain ⟨b, off, cap2, x, hv, hbl, hx, _, e0, e1⟩ := (HE.out.below HBe.out).at hlt
          cases hv
          have HX : Hid (es[k]? = some x) := hx
          have HSX := HSE.out k x hx
          have hla := putE_length HSE.out k hk
          have hlt1 : (mkT (putA xs ++ putE (es.take k))).size ≤ 100000 := by rw [mk_size, List.length_append]; have := HLX.out; omega
          have hlt2 : (mkT (entL x.1 x.2)).size ≤ 2001 := by rw [mk_size]; exact entL_length HSX.1 HSX.2
          have HN : Hid (mkT (putA xs ++ putE (es.take k)) ++ mkT (entL x.1 x.2) ++ ⟨#[10]⟩ = mkT (putA xs ++ putE (es.take (k + 1)))) := text_of (by
            rw [bl_app, bl_app, bl_mk, bl_mk, putE_take hx, ← entL_line]
            simp only [List.append_assoc]
            rfl)
          obtain ⟨s, f⟩ := x
          simp only at e0 e1 HSX hlt2 HN
          have HS1 : Hid (s.size ≤ 1000) := HSX.1
          have HS2 : Hid (f.size ≤ 1000) := HSX.2
          clear hx hla HSX
          go_wp2_with fail
          refine (l2EntryPut_any s f _ HS1.out HS2.out).mono ?_
          rintro e w2 ⟨rfl, hb2⟩
          have HB2 : Hid (Below w.heap.size w w2) := HBe.out.trans (hb2.mono HBe.out.size)
          have n1 := (hb2.cell (p := ⟨w.heap.size, 1, none⟩) p4).trans p1
          have n4 : w.heap.size < w2.heap.size := Nat.lt_of_lt_of_le p4 hb2.size
          clear hb2 e0 e1 p1
          generalize hg1 : mkT (putA xs ++ putE (es.take k)) = t1 at *
          generalize hg2 : mkT (entL s f) = t2 at *
          clear hg1 hg2
          go_wp2
          go_roundw
          case rel => exact ⟨k + 1, by omega, by go_num, by rw [← HN.out], n1, n4, HB2.out⟩
          case measure => simp [intOf]; omega
        · obtain rfl : k = es.length := by omega
          rw [List.take_length]
          go_wp2
          go_ret
          exact ⟨rfl, HBe.out⟩
end Go.Proofs.YtkepmjebnkcbgaaGreatDoor
