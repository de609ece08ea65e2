/-
  A book and a text drawn.
-/
import Derived.Test.YthikcililececaaW176
namespace Go.Proofs.Ythikcililececaa
open Go.RowKit
set_option linter.unusedVariables false
set_option maxRecDepth 100000 in
set_option maxHeartbeats 1000000 in
theorem drawBookKnows_any (w : World) (a : Option Addr) (len cap : Nat) (zs : List Int) (h : IsRow .u8 w a len cap zs) :
    Calls Try.prog 43 #[.slice a len cap] w fun e w' => ∃ (va ve : Value) (xs : List Aff) (es : List (ByteArray × ByteArray)) (s : ByteArray), e = .returned (.tuple #[.agg #[va, ve], .string s]) ∧ AffsAt w' va xs ∧ EntsAt w' ve es ∧ s.size ≤ 20 ∧ xs.length ≤ 5 ∧ es.length ≤ 25 ∧ (∀ a ∈ xs, a.small) ∧ (∀ e ∈ es, e.1.size ≤ 20 ∧ e.2.size ≤ 20) ∧ Below w.heap.size w w' := by
  have HI : Hid (IsRow .u8 w a len cap zs) := h
  clear h
  go_enter Try.func43, Try.ntmps43
  go_wp2_with fail
  obtain ⟨w0, hw0⟩ : ∃ x, w.alloc (.cells #[.slice none 0 0, .slice none 0 0] 40) = x := ⟨_, rfl⟩
  have HI0 : IsRow .u8 w0 a len cap zs := by rw [← hw0]; exact HI.out.keep ((Below.refl w.heap.size w).alloc (Nat.le_refl _) _)
  have HR0 : Hid (w0.heap[w.heap.size]? = some (.cells #[.slice none 0 0, .slice none 0 0] 40 (0, 0))) := by show _ = _; rw [← hw0]; exact heap_alloc_last w _
  have HB0 : Hid (Below w.heap.size w w0) := by rw [← hw0]; exact (Below.refl w.heap.size w).alloc (Nat.le_refl _) _
  have hz0 : w0.heap.size = w.heap.size + 1 := by rw [← hw0]; simp
  rw [hw0]
  clear hw0
  refine (open_any w0 a len cap zs HI0).mono ?_
  rintro e w1 ⟨rfl, hr1, hb1⟩
  have HR1 : Hid (RdAt w1 (w.heap.size + 1) 0) := by rw [← hz0]; exact hr1
  have HB1 : Hid (Below w0.heap.size w0 w1) := hb1
  clear hr1 hb1 HI0
  go_wp2_with fail
  refine (l13AnyBook_any w1 (w.heap.size + 1) 0 HR1.out (by omega)).mono ?_
  rintro e w2 ⟨va, ve, xs, es, rfl, hoa, hoe, hx, he, hxs, hes, ⟨q2, hr2, hq2⟩, hk2⟩
  have hz1 : w.heap.size + 1 < w1.heap.size := HR1.out.lt
  have hz2 : w1.heap.size ≤ w2.heap.size := hk2.size
  obtain ⟨b0, c0, rfl⟩ := owns_form hoa
  obtain ⟨b1, c1, rfl⟩ := owns_form hoe
  have HXS : Hid (∀ a ∈ xs, a.small) := hxs
  have HES : Hid (∀ e ∈ es, e.1.size ≤ 20 ∧ e.2.size ≤ 20) := hes
  obtain ⟨w3, hw3⟩ : ∃ x, w2.alloc (.cells #[.slice b0 xs.length c0, .slice b1 es.length c1] 40) = x := ⟨_, rfl⟩
  have HKK : Hid (Kept (w.heap.size + 1) w1 w3) := by rw [← hw3]; exact hk2.alloc _
  have HOA : Hid (w3.ownsRow w1.heap.size 34 5 (.slice b0 xs.length c0) xs.length (affCells xs)) := by rw [← hw3]; exact owns_past hoa
  have HOE : Hid (w3.ownsRow w1.heap.size 25 2 (.slice b1 es.length c1) es.length (entCells es)) := by rw [← hw3]; exact owns_past hoe
  have HR3 : Hid (RdAt w3 (w.heap.size + 1) q2) := by rw [← hw3]; exact hr2.alloc _
  have hBx : w3.heap[w2.heap.size]? = some (.cells #[.slice b0 xs.length c0, .slice b1 es.length c1] 40 (0, 0)) := by rw [← hw3]; exact heap_alloc_last w2 _
  have HBx : Hid (w3.heap[w2.heap.size]? = some (.cells #[.slice b0 xs.length c0, .slice b1 es.length c1] 40 (0, 0))) := hBx
  have hz3 : w2.heap.size < w3.heap.size := by rw [← hw3]; simp
  have HRb : Hid (w3.heap[w.heap.size]? = some (.cells #[.slice none 0 0, .slice none 0 0] 40 (0, 0))) := (HKK.out.block w.heap.size (by omega) (by omega)).trans ((HB1.out.block w.heap.size (by omega)).trans HR0.out)
  have x0 : w3.cell? ⟨w2.heap.size, 0, none⟩ = some (.slice b0 xs.length c0) := by rw [cell_of_row _ _ 0 _ _ _ hBx]; rfl
  have x1 : w3.cell? ⟨w2.heap.size, 1, none⟩ = some (.slice b1 es.length c1) := by rw [cell_of_row _ _ 1 _ _ _ hBx]; rfl
  clear hoa hoe hxs hes hr2 hk2 hBx
  go_wp2_with fail
  clear hw3
  go_region_law (go_simp; go_at_call 61; refine (l13Of_any _ (w.heap.size + 1) q2 w1.heap.size b0 b1 c0 c1 xs es (HR3.out.drewN 1) (by omega) (by exact owns_kept HOA.out ((Kept.refl (w.heap.size + 1) w3).drewN 1) (by omega)) (by exact owns_kept HOE.out ((Kept.refl (w.heap.size + 1) w3).drewN 1) (by omega)) (by omega) HXS.out HES.out he).mono ?_; rintro e w8 ⟨s, rfl, hsd, -, hk8⟩; have HK8 : Hid (Kept (w.heap.size + 1) w3 w8) := kept_drew hk8; have HB8 : Hid (w8.heap[w2.heap.size]? = some (.cells #[.slice b0 xs.length c0, .slice b1 es.length c1] 40 (0, 0))) := (HK8.out.block _ hz3 (by omega)).trans HBx.out; have HR8 : Hid (w8.heap[w.heap.size]? = some (.cells #[.slice none 0 0, .slice none 0 0] 40 (0, 0))) := (HK8.out.block _ (by omega) (by omega)).trans HRb.out; have y0 : w8.cell? ⟨w2.heap.size, 0, none⟩ = some (.slice b0 xs.length c0) := (by rw [cell_of_row _ _ 0 _ _ _ HB8.out]; rfl); have y1 : w8.cell? ⟨w2.heap.size, 1, none⟩ = some (.slice b1 es.length c1) := (by rw [cell_of_row _ _ 1 _ _ _ HB8.out]; rfl); have r0 : w8.cell? ⟨w.heap.size, 0, none⟩ = some (.slice none 0 0) := (by rw [cell_of_row _ _ 0 _ _ _ HR8.out]; rfl); have r1 : w8.cell? ⟨w.heap.size, 1, none⟩ = some (.slice none 0 0) := (by rw [cell_of_row _ _ 1 _ _ _ HR8.out]; rfl); have u0 := Go.Joins.unfrozen_of_block HR8.out 0; have u1 := Go.Joins.unfrozen_of_block HR8.out 1; clear hk8)
  all_goals
    go_wp2
    refine bodyPost_ret (v := .tuple #[.agg #[.slice b0 xs.length c0, .slice b1 es.length c1], .string s]) (by simp [results, Try.results43, go_sem, r0, r1]) rfl ⟨_, _, xs, es, s, rfl, ?_, ?_, hsd, hx, he, HXS.out, HES.out, ((HB0.out.trans ((((HKK.out.trans HK8.out).below HB1.out (by omega))).mono (by omega))).setCell (Nat.le_refl _) _).setCell (Nat.le_refl _) _⟩
    · exact affsAt_of_small (owns_set (owns_set (owns_kept HOA.out HK8.out (by omega)) _ _ _ (by omega)) _ _ _ (by omega)) HXS.out
    · exact entsAt_of_owns (owns_set (owns_set (owns_kept HOE.out HK8.out (by omega)) _ _ _ (by omega)) _ _ _ (by omega)) HES.out
end Go.Proofs.Ythikcililececaa
