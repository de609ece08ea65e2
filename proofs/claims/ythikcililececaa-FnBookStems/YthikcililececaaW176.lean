/-
  A word drawn, often of a book.
-/
import Derived.Test.YthikcililececaaW175
namespace Go.Proofs.Ythikcililececaa
open Go.RowKit
set_option linter.unusedVariables false
theorem wordsTo_size (xs : List Aff) (es : List (ByteArray × ByteArray)) : ∀ k, ∀ x ∈ wordsTo xs es k, x.size ≤ 12
  | 0 => fun x hx => by simp [wordsTo] at hx
  | k + 1 => fun x hx => by
    have ih := wordsTo_size xs es k x
    unfold wordsTo at hx
    rw [mem_puts] at hx
    rcases hx with hx | hx
    all_goals first
      | exact ih hx
      | (split at hx
         · exact (formsT_small xs _ _).2 x hx
         · cases hx)
set_option maxRecDepth 100000 in
set_option maxHeartbeats 1000000 in
theorem l13Of_any (w : World) (blk p lo : Nat) (b0 b1 : Option Addr) (c0 c1 : Nat) (xs : List Aff) (es : List (ByteArray × ByteArray)) (h : RdAt w blk p) (hp : p ≤ 500000) (hoa : w.ownsRow lo 34 5 (.slice b0 xs.length c0) xs.length (affCells xs)) (hoe : w.ownsRow lo 25 2 (.slice b1 es.length c1) es.length (entCells es)) (hlo : blk < lo) (hxs : ∀ a ∈ xs, a.small) (hes : ∀ e ∈ es, e.1.size ≤ 20 ∧ e.2.size ≤ 20) (he25 : es.length ≤ 25) :
    Calls Try.prog 61 #[.pointer (some ⟨blk, 0, none⟩), .agg #[.slice b0 xs.length c0, .slice b1 es.length c1]] w fun e w' => ∃ s, e = .returned (.string s) ∧ s.size ≤ 20 ∧ (∃ q, RdAt w' blk q ∧ q ≤ p + 15) ∧ Kept blk w w' := by
  have hlt := h.lt
  have HR : Hid (RdAt w blk p) := h
  have HOA : Hid (w.ownsRow lo 34 5 (.slice b0 xs.length c0) xs.length (affCells xs)) := hoa
  have HOE : Hid (w.ownsRow lo 25 2 (.slice b1 es.length c1) es.length (entCells es)) := hoe
  have HXS : Hid (∀ a ∈ xs, a.small) := hxs
  have HES : Hid (∀ e ∈ es, e.1.size ≤ 20 ∧ e.2.size ≤ 20) := hes
  clear h hoa hoe hxs hes
  go_enter Try.func61, Try.ntmps61
  go_wp2_with fail
  obtain ⟨w0, hw0⟩ : ∃ x, w.alloc (.cells #[.slice b0 xs.length c0, .slice b1 es.length c1] 40) = x := ⟨_, rfl⟩
  have HK0 : Hid (Kept blk w w0) := by rw [← hw0]; exact (Kept.refl blk w).alloc _
  have HR0 : Hid (RdAt w0 blk p) := by rw [← hw0]; exact HR.out.alloc _
  have HB0 : Hid (w0.heap[w.heap.size]? = some (.cells #[.slice b0 xs.length c0, .slice b1 es.length c1] 40 (0, 0))) := by show _ = _; rw [← hw0]; exact heap_alloc_last w _
  have hz0 : w.heap.size < w0.heap.size := by rw [← hw0]; simp
  rw [hw0]
  clear hw0
  refine (specBookOk_any w0 _ _ xs es (affsAt_of_small (owns_kept HOA.out HK0.out hlo) HXS.out) (entsAt_of_owns (owns_kept HOE.out HK0.out hlo) HES.out)).mono ?_
  rintro e w1 ⟨rfl, hb1⟩
  have HK1 : Hid (Kept blk w0 w1) := Kept.of_below hb1
  have HR1 : Hid (RdAt w1 blk p) := HR0.out.keep hb1
  clear hb1
  cases hbk : bookT xs es with
  | false =>
    go_wp2_with fail
    refine (l13AnyWord_any w1 blk p HR1.out (by omega)).mono ?_
    rintro e w2 ⟨s, rfl, hsd, ⟨q, hr2, hq⟩, hk2⟩
    have HR2 : Hid (RdAt w2 blk q) := hr2
    have HK2 : Hid (Kept blk w w2) := (HK0.out.trans HK1.out).trans hk2
    clear hr2 hk2
    go_wp2
    go_ret
    exact ⟨s, rfl, hsd, ⟨q, HR2.out, by omega⟩, HK2.out⟩
  | true =>
    go_wp2_with fail
    refine (pick_any w1 blk p 2 HR1.out (by omega) (by omega)).mono ?_
    rintro e w2 ⟨v, rfl, -, -, hr2, hk2⟩
    have HR2 : Hid (RdAt w2 blk (p + 1)) := hr2
    have HK2 : Hid (Kept blk w w2) := (HK0.out.trans HK1.out).trans hk2
    have HB2 : Hid (w2.heap[w.heap.size]? = some (.cells #[.slice b0 xs.length c0, .slice b1 es.length c1] 40 (0, 0))) := ((HK1.out.trans hk2).block _ hz0 (by omega)).trans HB0.out
    have x0 : w2.cell? ⟨w.heap.size, 0, none⟩ = some (.slice b0 xs.length c0) := by rw [cell_of_row _ _ 0 _ _ _ HB2.out]; rfl
    have x1 : w2.cell? ⟨w.heap.size, 1, none⟩ = some (.slice b1 es.length c1) := by rw [cell_of_row _ _ 1 _ _ _ HB2.out]; rfl
    clear hr2 hk2
    cases hv : (v == 0) with
    | false =>
      go_wp2_with fail
      refine (l13AnyWord_any w2 blk (p + 1) HR2.out (by omega)).mono ?_
      rintro e w3 ⟨s, rfl, hsd, ⟨q, hr3, hq⟩, hk3⟩
      have HR3 : Hid (RdAt w3 blk q) := hr3
      have HK3 : Hid (Kept blk w w3) := HK2.out.trans hk3
      clear hr3 hk3
      go_wp2
      go_ret
      exact ⟨s, rfl, hsd, ⟨q, HR3.out, by omega⟩, HK3.out⟩
    | true =>
      go_wp2_with fail
      refine (l2Words_any w2 _ _ xs es (affsAt_of_small (owns_kept HOA.out HK2.out hlo) HXS.out) (entsAt_of_owns (owns_kept HOE.out HK2.out hlo) HES.out) hbk).mono ?_
      rintro e w3 ⟨vw, rfl, ht3, hb3⟩
      obtain ⟨g, cp, hvw, -⟩ := id ht3
      subst hvw
      have hsl := wordsTo_len xs es es.length
      have hsz := wordsTo_size xs es es.length
      generalize wordsTo xs es es.length = ss at ht3 hsl hsz ⊢
      have HSZ : Hid (∀ x ∈ ss, x.size ≤ 12) := hsz
      clear hsz
      have HT3 : Hid (TextRow w3 (.slice (some ⟨g, 0, none⟩) ss.length cp) ss) := ht3
      have HR3 : Hid (RdAt w3 blk (p + 1)) := HR2.out.keep hb3
      have HK3 : Hid (Kept blk w w3) := HK2.out.trans (Kept.of_below hb3)
      clear ht3 hb3 x0 x1
      by_cases hl : (0 : Int) < (ss.length : Int)
      · go_wp2_with fail
        refine (pick_any w3 blk (p + 1) (ss.length : Int) HR3.out (by omega) (by omega)).mono ?_
        rintro e w4 ⟨i, rfl, hi0, hi1, hr4, hk4⟩
        obtain ⟨j, rfl⟩ := Int.eq_ofNat_of_zero_le hi0
        have hj : j < ss.length := by have := hi1 (by omega); omega
        obtain ⟨s, hs⟩ : ∃ s, ss[j]? = some s := ⟨_, List.getElem?_eq_getElem hj⟩
        have hs12 : s.size ≤ 20 := Nat.le_trans (HSZ.out s (List.mem_of_getElem? hs)) (by decide)
        have HR4 : Hid (RdAt w4 blk (p + 1 + 1)) := hr4
        have HK4 : Hid (Kept blk w w4) := HK3.out.trans hk4
        have d2 : w4.cell? ⟨g, 0 + j, none⟩ = some (.string s) := by
          obtain ⟨g', cp', hv', -, hcc, -⟩ := textRow_kept HT3.out HR3.out hk4
          simp only [Value.slice.injEq, Option.some.injEq, Addr.mk.injEq, and_true, true_and] at hv'
          obtain ⟨rfl, -⟩ := hv'
          rw [Nat.zero_add]
          exact hcc j s hs
        have d2' : w4.cell? ⟨g, j, none⟩ = some (.string s) := by rw [Nat.zero_add] at d2; exact d2
        have i0 : (0 : Int) ≤ (j : Int) := by omega
        have i1 : (j : Int) < (ss.length : Int) := by omega
        clear hr4 hk4 hi0 hi1 hs
        go_wp2
        go_ret
        exact ⟨s, rfl, hs12, ⟨_, HR4.out, by omega⟩, HK4.out⟩
      · go_wp2_with fail
        refine (l13AnyWord_any w3 blk (p + 1) HR3.out (by omega)).mono ?_
        rintro e w4 ⟨s, rfl, hsd, ⟨q, hr4, hq⟩, hk4⟩
        have HR4 : Hid (RdAt w4 blk q) := hr4
        have HK4 : Hid (Kept blk w w4) := HK3.out.trans hk4
        clear hr4 hk4
        go_wp2
        go_ret
        exact ⟨s, rfl, hsd, ⟨q, HR4.out, by omega⟩, HK4.out⟩
end Go.Proofs.Ythikcililececaa
