/-
  Books and texts drawn for the laws.
-/
import Derived.Test.YtdhmefinbmkdaaaGW174
import Derived.Test.YtdhmefinbmkdaaaGW154
import Derived.Test.YtdhmefinbmkdaaaW31
namespace Go.Proofs.Ytdhmefinbmkdaaa
open Go.RowKit
set_option linter.unusedVariables false
theorem entsAt_of_owns {w : World} {lo : Nat} {e : TypeId} {v : Value} {ys : List (ByteArray × ByteArray)} (h : w.ownsRow lo e 2 v ys.length (entCells ys)) (hf : ∀ e ∈ ys, e.1.size ≤ 20 ∧ e.2.size ≤ 20) : EntsAt w v ys := by
  have hm : ∀ (i : Nat) (x : ByteArray × ByteArray), ys[i]? = some x → x.1.size ≤ maxLen ∧ x.2.size ≤ maxLen := fun i x hx => by
    have := hf x (List.mem_of_getElem? hx)
    unfold maxLen
    omega
  rcases h.2 with ⟨rfl, h0⟩ | ⟨g, cap, cur, rfl, hbase, hb, h1, h2, h3, h4⟩
  · have hz : ys = [] := List.length_eq_zero_iff.1 h0
    subst hz
    exact ⟨none, 0, rfl, Nat.le_refl _, Nat.zero_le _, hm, fun hn => absurd rfl hn⟩
  · have hg : g < w.heap.size := (Array.getElem?_eq_some_iff.1 hb).1
    refine ⟨some ⟨g, 0, none⟩, cap, rfl, h1, h2, hm, fun _ => ⟨g, 0, rfl, hg, fun i x hx => ?_⟩⟩
    have hi : i < ys.length := (List.getElem?_eq_some_iff.1 hx).1
    obtain ⟨e0, e1⟩ := entCells_at ys i x hx
    have key : ∀ j u, j < 2 → (entCells ys)[i * 2 + j]? = some u → w.cell? ⟨g, 0 + i * 2 + j, none⟩ = some u := fun j u hj hu => by
      rw [cell_of_row w g _ cur _ _ hb]
      have e1 : (cur.toList.take (ys.length * 2))[i * 2 + j]? = some u := by rw [h4]; exact hu
      rw [List.getElem?_take_of_lt (by omega), Array.getElem?_toList] at e1
      rw [Nat.zero_add]
      exact e1
    exact ⟨key 0 _ (by omega) e0, key 1 _ (by omega) e1⟩
theorem affsAt_of_small {w : World} {lo : Nat} {e : TypeId} {v : Value} {ys : List Aff} (h : w.ownsRow lo e 5 v ys.length (affCells ys)) (hf : ∀ a ∈ ys, a.small) : AffsAt w v ys :=
  affsAt_of_owns h (fun i x hx => (hf x (List.mem_of_getElem? hx)).fits)
end Go.Proofs.Ytdhmefinbmkdaaa
/-
  Affixes and an entry drawn.
-/
namespace Go.Proofs.Ytdhmefinbmkdaaa
open Go.RowKit
set_option linter.unusedVariables false
theorem box_set1 {w : World} {B : Nat} {t : TypeId} {a b : Value} (h : w.heap[B]? = some (.cells #[a, b] t (0, 0))) (v : Value) : (w.setCell ⟨B, 1, none⟩ v).heap[B]? = some (.cells #[a, v] t (0, 0)) := set_box h v
theorem heap_other (w : World) {B g o : Nat} (u : Value) (h : B ≠ g) : (w.setCell ⟨g, o, none⟩ u).heap[B]? = w.heap[B]? := by
  unfold World.setCell
  rw [Array.getElem?_modify]
  simp [show ¬ g = B from fun e => h e.symm]
set_option maxRecDepth 100000 in
set_option maxHeartbeats 1000000 in
theorem drawForms_any (w : World) (a : Option Addr) (len cap : Nat) (zs : List Int) (h : IsRow .u8 w a len cap zs) :
    Calls Try.prog 4 #[.slice a len cap] w fun e w' => ∃ (va : Value) (xs : List Aff) (st fl : ByteArray), e = .returned (.tuple #[va, .agg #[.string st, .string fl]]) ∧ AffsAt w' va xs ∧ st.size ≤ 20 ∧ fl.size ≤ 20 ∧ xs.length ≤ 5 ∧ (∀ a ∈ xs, a.small) ∧ Below w.heap.size w w' := by
  have HI : Hid (IsRow .u8 w a len cap zs) := h
  clear h
  go_enter Try.func4, Try.ntmps4
  go_wp2_with fail
  obtain ⟨w0, hw0⟩ : ∃ x, w.alloc (.cells #[.string ⟨#[]⟩, .string ⟨#[]⟩] 25) = x := ⟨_, rfl⟩
  have HI0 : IsRow .u8 w0 a len cap zs := by rw [← hw0]; exact HI.out.keep ((Below.refl w.heap.size w).alloc (Nat.le_refl _) _)
  have HR0 : Hid (w0.heap[w.heap.size]? = some (.cells #[.string ⟨#[]⟩, .string ⟨#[]⟩] 25 (0, 0))) := by show _ = _; rw [← hw0]; exact heap_alloc_last w _
  have HB0 : Hid (Below w.heap.size w w0) := by rw [← hw0]; exact (Below.refl w.heap.size w).alloc (Nat.le_refl _) _
  have hz0 : w0.heap.size = w.heap.size + 1 := by rw [← hw0]; simp
  rw [hw0]
  clear hw0
  refine (open_any w0 a len cap zs HI0).mono ?_
  rintro e w1 ⟨rfl, hr1, hb1⟩
  have HR1 : Hid (RdAt w1 (w.heap.size + 1) 0) := by rw [← hz0]; exact hr1
  have HB1 : Hid (Below w0.heap.size w0 w1) := hb1
  clear hr1 hb1 HI0
  go_wp2_with fail
  refine (l13AnyBook_any w1 (w.heap.size + 1) 0 HR1.out (by omega)).mono ?_
  rintro e w2 ⟨va, ve, xs, es, rfl, hoa, hoe, hx, he, hxs, -, ⟨q2, hr2, hq2⟩, hk2⟩
  have hz1 : w.heap.size + 1 < w1.heap.size := HR1.out.lt
  have hz2 : w1.heap.size ≤ w2.heap.size := hk2.size
  obtain ⟨b0, c0, rfl⟩ := owns_form hoa
  obtain ⟨b1, c1, rfl⟩ := owns_form hoe
  have HXS : Hid (∀ a ∈ xs, a.small) := hxs
  obtain ⟨w3, hw3⟩ : ∃ x, w2.alloc (.cells #[.slice b0 xs.length c0, .slice b1 es.length c1] 42) = x := ⟨_, rfl⟩
  have HK3 : Hid (Kept (w.heap.size + 1) w1 w3) := by rw [← hw3]; exact hk2.alloc _
  have HOA : Hid (w3.ownsRow w1.heap.size 34 5 (.slice b0 xs.length c0) xs.length (affCells xs)) := by rw [← hw3]; exact owns_past hoa
  have HR3 : Hid (RdAt w3 (w.heap.size + 1) q2) := by rw [← hw3]; exact hr2.alloc _
  have HBx : Hid (w3.heap[w2.heap.size]? = some (.cells #[.slice b0 xs.length c0, .slice b1 es.length c1] 42 (0, 0))) := by show _ = _; rw [← hw3]; exact heap_alloc_last w2 _
  have hz3 : w2.heap.size < w3.heap.size := by rw [← hw3]; simp
  clear hoa hoe hxs hr2 hk2
  go_wp2_with fail
  clear hw3
  refine (l13AnyWord_any w3 (w.heap.size + 1) q2 HR3.out (by omega)).mono ?_
  rintro e w4 ⟨st, rfl, hst, ⟨q4, hr4, hq4⟩, hk4⟩
  have HR4 : Hid (RdAt w4 (w.heap.size + 1) q4) := hr4
  have HK4 : Hid (Kept (w.heap.size + 1) w3 w4) := hk4
  clear hr4 hk4
  go_wp2_with fail
  refine (l13Entry_any w4 (w.heap.size + 1) q4 st HR4.out (by omega)).mono ?_
  rintro e w5 ⟨fl, rfl, hfl, hr5, hk5⟩
  obtain ⟨w6, hw6⟩ : ∃ x, w5.alloc (.cells #[.string st, .string fl] 25) = x := ⟨_, rfl⟩
  have HR6 : Hid (RdAt w6 (w.heap.size + 1) (q4 + 1)) := by rw [← hw6]; exact hr5.alloc _
  have HK6 : Hid (Kept (w.heap.size + 1) w3 w6) := by rw [← hw6]; exact (HK4.out.trans hk5).alloc _
  have HE6 : Hid (w6.heap[w5.heap.size]? = some (.cells #[.string st, .string fl] 25 (0, 0))) := by show _ = _; rw [← hw6]; exact heap_alloc_last w5 _
  have hz5 : w3.heap.size ≤ w5.heap.size := (HK4.out.trans hk5).size
  have hz6 : w5.heap.size < w6.heap.size := by rw [← hw6]; simp
  clear hr5 hk5
  go_wp2_with fail
  clear hw6
  refine (pick_any w6 (w.heap.size + 1) (q4 + 1) 12 HR6.out (by omega) (by omega)).mono ?_
  rintro e w7 ⟨v, rfl, -, -, hr7, hk7⟩
  have HR7 : Hid (RdAt w7 (w.heap.size + 1) (q4 + 1 + 1)) := hr7
  have HK7 : Hid (Kept (w.heap.size + 1) w6 w7) := hk7
  clear hr7 hk7
  have FIN : Hid (∀ w9, Kept (w.heap.size + 1) w6 w9 → w9.heap[w.heap.size]? = some (.cells #[.string ⟨#[]⟩, .string ⟨#[]⟩] 25 (0, 0)) ∧ w9.heap[w2.heap.size]? = some (.cells #[.slice b0 xs.length c0, .slice b1 es.length c1] 42 (0, 0)) ∧ w9.heap[w5.heap.size]? = some (.cells #[.string st, .string fl] 25 (0, 0)) ∧ w9.ownsRow w1.heap.size 34 5 (.slice b0 xs.length c0) xs.length (affCells xs) ∧ Below w.heap.size w w9) := fun w9 hk => by
    have h39 : Kept (w.heap.size + 1) w3 w9 := HK6.out.trans hk
    have h19 : Kept (w.heap.size + 1) w1 w9 := HK3.out.trans h39
    have h09 : Below w0.heap.size w0 w9 := h19.below HB1.out (by omega)
    exact ⟨(h09.block _ (by omega)).trans HR0.out, (h39.block _ hz3 (by omega)).trans HBx.out, (hk.block _ hz6 (by omega)).trans HE6.out, owns_kept HOA.out h39 (by omega), HB0.out.trans (h09.mono (by omega))⟩
  cases hv : (v == 0) with
  | true =>
    have HL : Hid (∀ i, i < 4 → ∃ s, (w7.alloc (.cells #[.string ⟨#[83, 83]⟩, .string ⟨#[83, 71]⟩, .string ⟨#[120]⟩, .string ⟨#[65, 66, 67, 68, 69]⟩] 9)).cell? ⟨w7.heap.size, i, none⟩ = some (.string s) ∧ s.size ≤ 20) := by
      intro i hi
      refine lit_texts 20 _ _ _ ?_ i hi
      decide +kernel
    go_wp2_with fail
    refine (of_any (fun s => s.size ≤ 20) _ (w.heap.size + 1) (q4 + 1 + 1) w7.heap.size 4 4 (HR7.out.alloc _) (by omega) (by omega) (by omega) HL.out (by have := HR7.out.lt; omega)).mono ?_
    rintro e w9 ⟨s, rfl, hs, -, hk9⟩
    obtain ⟨f0, f1, f2, f3, f4⟩ := FIN.out w9 (HK7.out.trans (((Kept.refl _ _).alloc _).trans hk9))
    have F4 : Hid (Below w.heap.size w w9) := f4
    have F3 : Hid (w9.ownsRow w1.heap.size 34 5 (.slice b0 xs.length c0) xs.length (affCells xs)) := f3
    obtain ⟨w10, hw10⟩ : ∃ x, w9.setCell ⟨w5.heap.size, 1, none⟩ (.string s) = x := ⟨_, rfl⟩
    have g0 : w10.heap[w.heap.size]? = some (.cells #[.string ⟨#[]⟩, .string ⟨#[]⟩] 25 (0, 0)) := by rw [← hw10, heap_other _ _ (by omega)]; exact f0
    have g1 : w10.heap[w2.heap.size]? = some (.cells #[.slice b0 xs.length c0, .slice b1 es.length c1] 42 (0, 0)) := by rw [← hw10, heap_other _ _ (by omega)]; exact f1
    have g2 : w10.heap[w5.heap.size]? = some (.cells #[.string st, .string s] 25 (0, 0)) := by rw [← hw10]; exact box_set1 f2 _
    have G3 : Hid (w10.ownsRow w1.heap.size 34 5 (.slice b0 xs.length c0) xs.length (affCells xs)) := by rw [← hw10]; exact owns_set2 f3 f2 (by decide) _ _
    have G4 : Hid (Below w.heap.size w w10) := by rw [← hw10]; exact f4.setCell (by show w.heap.size ≤ w5.heap.size; omega) _
    have d1 : w9.cell? ⟨w5.heap.size, 1, none⟩ = some (.string fl) := by rw [cell_of_row _ _ 1 _ _ _ f2]; rfl
    have ud := Go.Joins.unfrozen_of_block f2 1
    have r0 : w10.cell? ⟨w.heap.size, 0, none⟩ = some (.string ⟨#[]⟩) := by rw [cell_of_row _ _ 0 _ _ _ g0]; rfl
    have r1 : w10.cell? ⟨w.heap.size, 1, none⟩ = some (.string ⟨#[]⟩) := by rw [cell_of_row _ _ 1 _ _ _ g0]; rfl
    have u0 := Go.Joins.unfrozen_of_block g0 0
    have u1 := Go.Joins.unfrozen_of_block g0 1
    have x0 : w10.cell? ⟨w2.heap.size, 0, none⟩ = some (.slice b0 xs.length c0) := by rw [cell_of_row _ _ 0 _ _ _ g1]; rfl
    have y0 : w10.cell? ⟨w5.heap.size, 0, none⟩ = some (.string st) := by rw [cell_of_row _ _ 0 _ _ _ g2]; rfl
    have y1 : w10.cell? ⟨w5.heap.size, 1, none⟩ = some (.string s) := by rw [cell_of_row _ _ 1 _ _ _ g2]; rfl
    clear f0 f1 f2 f3 f4 g0 g1 g2 hk9
    go_wp2_with fail
    go_region
    all_goals
      go_wp2
      refine bodyPost_ret (v := .tuple #[.slice b0 xs.length c0, .agg #[.string st, .string s]]) (by simp [results, Try.results4, go_sem, r0, r1]) rfl ⟨_, xs, st, s, rfl, ?_, hst, hs, hx, HXS.out, ?_⟩
      · exact (affsAt_of_small (owns_set (owns_set G3.out _ _ _ (by omega)) _ _ _ (by omega)) HXS.out)
      · first | exact ((G4.out.setCell (p := ⟨w.heap.size, 0, none⟩) (Nat.le_refl _) _).setCell (p := ⟨w.heap.size, 1, none⟩) (Nat.le_refl _) _).drew | exact (G4.out.drew.setCell (p := ⟨w.heap.size, 0, none⟩) (Nat.le_refl _) _).setCell (p := ⟨w.heap.size, 1, none⟩) (Nat.le_refl _) _
  | false =>
    obtain ⟨f0, f1, f2, f3, f4⟩ := FIN.out w7 HK7.out
    have G4 : Hid (Below w.heap.size w w7) := f4
    have G3 : Hid (w7.ownsRow w1.heap.size 34 5 (.slice b0 xs.length c0) xs.length (affCells xs)) := f3
    have r0 : w7.cell? ⟨w.heap.size, 0, none⟩ = some (.string ⟨#[]⟩) := by rw [cell_of_row _ _ 0 _ _ _ f0]; rfl
    have r1 : w7.cell? ⟨w.heap.size, 1, none⟩ = some (.string ⟨#[]⟩) := by rw [cell_of_row _ _ 1 _ _ _ f0]; rfl
    have u0 := Go.Joins.unfrozen_of_block f0 0
    have u1 := Go.Joins.unfrozen_of_block f0 1
    have x0 : w7.cell? ⟨w2.heap.size, 0, none⟩ = some (.slice b0 xs.length c0) := by rw [cell_of_row _ _ 0 _ _ _ f1]; rfl
    have y0 : w7.cell? ⟨w5.heap.size, 0, none⟩ = some (.string st) := by rw [cell_of_row _ _ 0 _ _ _ f2]; rfl
    have y1 : w7.cell? ⟨w5.heap.size, 1, none⟩ = some (.string fl) := by rw [cell_of_row _ _ 1 _ _ _ f2]; rfl
    clear f0 f1 f2 f3 f4
    go_wp2_with fail
    go_region
    all_goals
      go_wp2
      refine bodyPost_ret (v := .tuple #[.slice b0 xs.length c0, .agg #[.string st, .string fl]]) (by simp [results, Try.results4, go_sem, r0, r1]) rfl ⟨_, xs, st, fl, rfl, ?_, hst, hfl, hx, HXS.out, ?_⟩
      · exact (affsAt_of_small (owns_set (owns_set G3.out _ _ _ (by omega)) _ _ _ (by omega)) HXS.out)
      · first | exact ((G4.out.setCell (p := ⟨w.heap.size, 0, none⟩) (Nat.le_refl _) _).setCell (p := ⟨w.heap.size, 1, none⟩) (Nat.le_refl _) _).drew | exact (G4.out.drew.setCell (p := ⟨w.heap.size, 0, none⟩) (Nat.le_refl _) _).setCell (p := ⟨w.heap.size, 1, none⟩) (Nat.le_refl _) _
end Go.Proofs.Ytdhmefinbmkdaaa
