/-
  Books and texts drawn for the laws.
-/
import Derived.Test.YthikcililececaaW174
import Derived.Test.YthikcililececaaW154
import Derived.Test.YthikcililececaaW31
namespace Go.Proofs.Ythikcililececaa
open Go.RowKit
set_option linter.unusedVariables false
theorem entsAt_of_owns {w : World} {lo : Nat} {e : TypeId} {v : Value} {ys : List (ByteArray × ByteArray)} (h : w.ownsRow lo e 2 v ys.length (entCells ys)) (hf : ∀ e ∈ ys, e.1.size ≤ 20 ∧ e.2.size ≤ 20) : EntsAt w v ys := by
  have hm : ∀ (i : Nat) (x : ByteArray × ByteArray), ys[i]? = some x → x.1.size ≤ maxLen ∧ x.2.size ≤ maxLen := fun i x hx => by
    have := hf x (List.mem_of_getElem? hx)
    unfold maxLen
    omega
  rcases h.2 with ⟨rfl, h0⟩ | ⟨g, cap, cur, rfl, hbase, hb, h1, h2, h3, h4⟩
  · have hz : ys = [] := List.length_eq_zero_iff.1 h0
    subst hz
    exact ⟨none, 0, rfl, Nat.le_refl _, Nat.zero_le _, hm, fun hn => absurd rfl hn⟩
  · have hg : g < w.heap.size := (Array.getElem?_eq_some_iff.1 hb).1
    refine ⟨some ⟨g, 0, none⟩, cap, rfl, h1, h2, hm, fun _ => ⟨g, 0, rfl, hg, fun i x hx => ?_⟩⟩
    have hi : i < ys.length := (List.getElem?_eq_some_iff.1 hx).1
    obtain ⟨e0, e1⟩ := entCells_at ys i x hx
    have key : ∀ j u, j < 2 → (entCells ys)[i * 2 + j]? = some u → w.cell? ⟨g, 0 + i * 2 + j, none⟩ = some u := fun j u hj hu => by
      rw [cell_of_row w g _ cur _ _ hb]
      have e1 : (cur.toList.take (ys.length * 2))[i * 2 + j]? = some u := by rw [h4]; exact hu
      rw [List.getElem?_take_of_lt (by omega), Array.getElem?_toList] at e1
      rw [Nat.zero_add]
      exact e1
    exact ⟨key 0 _ (by omega) e0, key 1 _ (by omega) e1⟩
theorem affsAt_of_small {w : World} {lo : Nat} {e : TypeId} {v : Value} {ys : List Aff} (h : w.ownsRow lo e 5 v ys.length (affCells ys)) (hf : ∀ a ∈ ys, a.small) : AffsAt w v ys :=
  affsAt_of_owns h (fun i x hx => (hf x (List.mem_of_getElem? hx)).fits)
set_option maxRecDepth 100000 in
set_option maxHeartbeats 1000000 in
theorem drawBookWords_any (w : World) (a : Option Addr) (len cap : Nat) (zs : List Int) (h : IsRow .u8 w a len cap zs) :
    Calls Try.prog 14 #[.slice a len cap] w fun e w' => ∃ (va ve : Value) (xs : List Aff) (es : List (ByteArray × ByteArray)), e = .returned (.agg #[va, ve]) ∧ AffsAt w' va xs ∧ EntsAt w' ve es ∧ xs.length ≤ 5 ∧ es.length ≤ 25 ∧ (∀ a ∈ xs, a.small) ∧ (∀ e ∈ es, e.1.size ≤ 20 ∧ e.2.size ≤ 20) ∧ Below w.heap.size w w' := by
  have HI : Hid (IsRow .u8 w a len cap zs) := h
  clear h
  go_enter Try.func14, Try.ntmps14
  go_wp2_with fail
  obtain ⟨w0, hw0⟩ : ∃ x, w.alloc (.cells #[.slice none 0 0, .slice none 0 0] 40) = x := ⟨_, rfl⟩
  have HI0 : IsRow .u8 w0 a len cap zs := by rw [← hw0]; exact HI.out.keep ((Below.refl w.heap.size w).alloc (Nat.le_refl _) _)
  have HR0 : Hid (w0.heap[w.heap.size]? = some (.cells #[.slice none 0 0, .slice none 0 0] 40 (0, 0))) := by show _ = _; rw [← hw0]; exact heap_alloc_last w _
  have HB0 : Hid (Below w.heap.size w w0) := by rw [← hw0]; exact (Below.refl w.heap.size w).alloc (Nat.le_refl _) _
  have hz0 : w0.heap.size = w.heap.size + 1 := by rw [← hw0]; simp
  rw [hw0]
  clear hw0
  refine (open_any w0 a len cap zs HI0).mono ?_
  rintro e w1 ⟨rfl, hr1, hb1⟩
  have HR1 : Hid (RdAt w1 (w.heap.size + 1) 0) := by rw [← hz0]; exact hr1
  have HB1 : Hid (Below w0.heap.size w0 w1) := hb1
  clear hr1 hb1 HI0
  go_wp2_with fail
  refine (l13AnyBook_any w1 (w.heap.size + 1) 0 HR1.out (by omega)).mono ?_
  rintro e w2 ⟨va, ve, xs, es, rfl, hoa, hoe, hx, he, hxs, hes, -, hk2⟩
  have hz1 : w.heap.size + 1 < w1.heap.size := HR1.out.lt
  have hRb : w2.heap[w.heap.size]? = some (.cells #[.slice none 0 0, .slice none 0 0] 40 (0, 0)) := (hk2.block w.heap.size (by omega) (by omega)).trans ((HB1.out.block w.heap.size (by omega)).trans HR0.out)
  have HB2 : Hid (Below w.heap.size w w2) := HB0.out.trans ((hk2.below HB1.out (by omega)).mono (by omega))
  have HOA : Hid (w2.ownsRow w1.heap.size 34 5 va xs.length (affCells xs)) := hoa
  have HOE : Hid (w2.ownsRow w1.heap.size 25 2 ve es.length (entCells es)) := hoe
  have HXS : Hid (∀ a ∈ xs, a.small) := hxs
  have HES : Hid (∀ e ∈ es, e.1.size ≤ 20 ∧ e.2.size ≤ 20) := hes
  have r0 : w2.cell? ⟨w.heap.size, 0, none⟩ = some (.slice none 0 0) := by rw [cell_of_row _ _ 0 _ _ _ hRb]; rfl
  have r1 : w2.cell? ⟨w.heap.size, 1, none⟩ = some (.slice none 0 0) := by rw [cell_of_row _ _ 1 _ _ _ hRb]; rfl
  have u0 := Go.Joins.unfrozen_of_block hRb 0
  have u1 := Go.Joins.unfrozen_of_block hRb 1
  clear hRb hk2 hoa hoe hxs hes
  obtain ⟨b0, c0, rfl⟩ := owns_form HOA.out
  obtain ⟨b1, c1, rfl⟩ := owns_form HOE.out
  go_wp2
  refine bodyPost_ret (v := .agg #[.slice b0 xs.length c0, .slice b1 es.length c1]) (by simp [results, Try.results14, go_sem, r0, r1]) rfl ⟨_, _, xs, es, rfl, ?_, ?_, hx, he, HXS.out, HES.out, (HB2.out.setCell (Nat.le_refl _) _).setCell (Nat.le_refl _) _⟩
  · exact affsAt_of_small (owns_set (owns_set HOA.out _ _ _ (by omega)) _ _ _ (by omega)) HXS.out
  · exact entsAt_of_owns (owns_set (owns_set HOE.out _ _ _ (by omega)) _ _ _ (by omega)) HES.out
end Go.Proofs.Ythikcililececaa
