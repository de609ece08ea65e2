/-
  Books and texts drawn for the laws.
-/
import Derived.Test.YthikcililececaaGW174
import Derived.Test.YthikcililececaaGW154
import Derived.Test.YthikcililececaaW31
namespace Go.Proofs.Ythikcililececaa
open Go.RowKit
set_option linter.unusedVariables false
theorem entsAt_of_owns {w : World} {lo : Nat} {e : TypeId} {v : Value} {ys : List (ByteArray × ByteArray)} (h : w.ownsRow lo e 2 v ys.length (entCells ys)) (hf : ∀ e ∈ ys, e.1.size ≤ 20 ∧ e.2.size ≤ 20) : EntsAt w v ys := by
  have hm : ∀ (i : Nat) (x : ByteArray × ByteArray), ys[i]? = some x → x.1.size ≤ maxLen ∧ x.2.size ≤ maxLen := fun i x hx => by
    have := hf x (List.mem_of_getElem? hx)
    unfold maxLen
    omega
  rcases h.2 with ⟨rfl, h0⟩ | ⟨g, cap, cur, rfl, hbase, hb, h1, h2, h3, h4⟩
  · have hz : ys = [] := List.length_eq_zero_iff.1 h0
    subst hz
    exact ⟨none, 0, rfl, Nat.le_refl _, Nat.zero_le _, hm, fun hn => absurd rfl hn⟩
  · have hg : g < w.heap.size := (Array.getElem?_eq_some_iff.1 hb).1
    refine ⟨some ⟨g, 0, none⟩, cap, rfl, h1, h2, hm, fun _ => ⟨g, 0, rfl, hg, fun i x hx => ?_⟩⟩
    have hi : i < ys.length := (List.getElem?_eq_some_iff.1 hx).1
    obtain ⟨e0, e1⟩ := entCells_at ys i x hx
    have key : ∀ j u, j < 2 → (entCells ys)[i * 2 + j]? = some u → w.cell? ⟨g, 0 + i * 2 + j, none⟩ = some u := fun j u hj hu => by
      rw [cell_of_row w g _ cur _ _ hb]
      have e1 : (cur.toList.take (ys.length * 2))[i * 2 + j]? = some u := by rw [h4]; exact hu
      rw [List.getElem?_take_of_lt (by omega), Array.getElem?_toList] at e1
      rw [Nat.zero_add]
      exact e1
    exact ⟨key 0 _ (by omega) e0, key 1 _ (by omega) e1⟩
theorem affsAt_of_small {w : World} {lo : Nat} {e : TypeId} {v : Value} {ys : List Aff} (h : w.ownsRow lo e 5 v ys.length (affCells ys)) (hf : ∀ a ∈ ys, a.small) : AffsAt w v ys :=
  affsAt_of_owns h (fun i x hx => (hf x (List.mem_of_getElem? hx)).fits)
set_option maxRecDepth 100000 in
set_option maxHeartbeats 1000000 in
theorem drawBookWords_any (w : World) (a : Option Addr) (len cap : Nat) (zs : List Int) (h : IsRow .u8 w a len cap zs) :
    Calls Try.prog 14 #[.slice a len cap] w fun e w' => ∃ (va ve : Value) (xs : List Aff) (es : List (ByteArray × ByteArray)), e = .returned (.agg #[va, ve]) ∧ AffsAt w' va xs ∧ EntsAt w' ve es ∧ xs.length ≤ 5 ∧ es.length ≤ 25 ∧ (∀ a ∈ xs, a.small) ∧ (∀ e ∈ es, e.1.size ≤ 20 ∧ e.2.size ≤ 20) ∧ Below w.heap.size w w' := by
  have HI : Hid (IsRow .u8 w a len cap zs) := h
  clear h
  go_enter Try.func14, Try.ntmps14
  go_wp2_with fail
  obtain ⟨w0, hw0⟩ : ∃ x, w.alloc (.cells #[.slice none 0 0, .slice none 0 0] 40) = x := ⟨_, rfl⟩
  have HI0 : IsRow .u8 w0 a len cap zs := by rw [← hw0]; exact HI.out.keep ((Below.refl w.heap.size w).alloc (Nat.le_refl _) _)
  have HR0 : Hid (w0.heap[w.heap.size]? = some (.cells #[.slice none 0 0, .slice none 0 0] 40 (0, 0))) := by show _ = _; rw [← hw0]; exact heap_alloc_last w _
  have HB0 : Hid (Below w.heap.size w w0) := by rw [← hw0]; exact (Below.refl w.heap.size w).alloc (Nat.le_refl _) _
  have hz0 : w0.heap.size = w.heap.size + 1 := by rw [← hw0]; simp
  rw [hw0]
  clear hw0
  refine (open_any w0 a len cap zs HI0).mono ?_
  rintro e w1 ⟨rfl, hr1, hb1⟩
  have HR1 : Hid (RdAt w1 (w.heap.size + 1) 0) := by rw [← hz0]; exact hr1
  have HB1 : Hid (Below w0.heap.size w0 w1) := hb1
  clear hr1 hb1 HI0
  go_wp2_with fail
  refine (l13AnyBook_any w1 (w.heap.size + 1) 0 HR1.out (by omega)).mono ?_
  rintro e w2 ⟨va, ve, xs, es, rfl, hoa, hoe, hx, he, hxs, hes, -, hk2⟩
  have hz1 : w.heap.size + 1 < w1.heap.size := HR1.out.lt
  have hRb : w2.heap[w.heap.size]? = some (.cells #[.slice none 0 0, .slice none 0 0] 40 (0, 0)) := (hk2.block w.heap.size (by omega) (by omega)).trans ((HB1.out.block w.heap.size (by omega)).trans HR0.out)
  have HB2 : Hid (Below w.heap.size w w2) := HB0.out.trans ((hk2.below HB1.out (by omega)).mono (by omega))
  have HOA : Hid (w2.ownsRow w1.heap.size 34 5 va xs.length (affCells xs)) := hoa
  have HOE : Hid (w2.ownsRow w1.heap.size 25 2 ve es.length (entCells es)) := hoe
  have HXS : Hid (∀ a ∈ xs, a.small) := hxs
  have HES : Hid (∀ e ∈ es, e.1.size ≤ 20 ∧ e.2.size ≤ 20) := hes
  have r0 : w2.cell? ⟨w.heap.size, 0, none⟩ = some (.slice none 0 0) := by rw [cell_of_row _ _ 0 _ _ _ hRb]; rfl
  have r1 : w2.cell? ⟨w.heap.size, 1, none⟩ = some (.slice none 0 0) := by rw [cell_of_row _ _ 1 _ _ _ hRb]; rfl
  have u0 := Go.Joins.unfrozen_of_block hRb 0
  have u1 := Go.Joins.unfrozen_of_block hRb 1
  clear hRb hk2 hoa hoe hxs hes
  obtain ⟨b0, c0, rfl⟩ := owns_form HOA.out
  obtain ⟨b1, c1, rfl⟩ := owns_form HOE.out
  go_wp2
  refine bodyPost_ret (v := .agg #[.slice b0 xs.length c0, .slice b1 es.length c1]) (by simp [results, Try.results14, go_sem, r0, r1]) rfl ⟨_, _, xs, es, rfl, ?_, ?_, hx, he, HXS.out, HES.out, (HB2.out.setCell (Nat.le_refl _) _).setCell (Nat.le_refl _) _⟩
  · exact affsAt_of_small (owns_set (owns_set HOA.out _ _ _ (by omega)) _ _ _ (by omega)) HXS.out
  · exact entsAt_of_owns (owns_set (owns_set HOE.out _ _ _ (by omega)) _ _ _ (by omega)) HES.out
end Go.Proofs.Ythikcililececaa
/-
  A word drawn, often of a book.
-/
namespace Go.Proofs.Ythikcililececaa
open Go.RowKit
set_option linter.unusedVariables false
theorem wordsTo_size (xs : List Aff) (es : List (ByteArray × ByteArray)) : ∀ k, ∀ x ∈ wordsTo xs es k, x.size ≤ 12
  | 0 => fun x hx => by simp [wordsTo] at hx
  | k + 1 => fun x hx => by
    have ih := wordsTo_size xs es k x
    unfold wordsTo at hx
    rw [mem_puts] at hx
    rcases hx with hx | hx
    all_goals first
      | exact ih hx
      | (split at hx
         · exact (formsT_small xs _ _).2 x hx
         · cases hx)
set_option maxRecDepth 100000 in
set_option maxHeartbeats 1000000 in
theorem l13Of_any (w : World) (blk p lo : Nat) (b0 b1 : Option Addr) (c0 c1 : Nat) (xs : List Aff) (es : List (ByteArray × ByteArray)) (h : RdAt w blk p) (hp : p ≤ 500000) (hoa : w.ownsRow lo 34 5 (.slice b0 xs.length c0) xs.length (affCells xs)) (hoe : w.ownsRow lo 25 2 (.slice b1 es.length c1) es.length (entCells es)) (hlo : blk < lo) (hxs : ∀ a ∈ xs, a.small) (hes : ∀ e ∈ es, e.1.size ≤ 20 ∧ e.2.size ≤ 20) (he25 : es.length ≤ 25) :
    Calls Try.prog 61 #[.pointer (some ⟨blk, 0, none⟩), .agg #[.slice b0 xs.length c0, .slice b1 es.length c1]] w fun e w' => ∃ s, e = .returned (.string s) ∧ s.size ≤ 20 ∧ (∃ q, RdAt w' blk q ∧ q ≤ p + 15) ∧ Kept blk w w' := by
  have hlt := h.lt
  have HR : Hid (RdAt w blk p) := h
  have HOA : Hid (w.ownsRow lo 34 5 (.slice b0 xs.length c0) xs.length (affCells xs)) := hoa
  have HOE : Hid (w.ownsRow lo 25 2 (.slice b1 es.length c1) es.length (entCells es)) := hoe
  have HXS : Hid (∀ a ∈ xs, a.small) := hxs
  have HES : Hid (∀ e ∈ es, e.1.size ≤ 20 ∧ e.2.size ≤ 20) := hes
  clear h hoa hoe hxs hes
  go_enter Try.func61, Try.ntmps61
  go_wp2_with fail
  obtain ⟨w0, hw0⟩ : ∃ x, w.alloc (.cells #[.slice b0 xs.length c0, .slice b1 es.length c1] 40) = x := ⟨_, rfl⟩
  have HK0 : Hid (Kept blk w w0) := by rw [← hw0]; exact (Kept.refl blk w).alloc _
  have HR0 : Hid (RdAt w0 blk p) := by rw [← hw0]; exact HR.out.alloc _
  have HB0 : Hid (w0.heap[w.heap.size]? = some (.cells #[.slice b0 xs.length c0, .slice b1 es.length c1] 40 (0, 0))) := by show _ = _; rw [← hw0]; exact heap_alloc_last w _
  have hz0 : w.heap.size < w0.heap.size := by rw [← hw0]; simp
  rw [hw0]
  clear hw0
  refine (specBookOk_any w0 _ _ xs es (affsAt_of_small (owns_kept HOA.out HK0.out hlo) HXS.out) (entsAt_of_owns (owns_kept HOE.out HK0.out hlo) HES.out)).mono ?_
  rintro e w1 ⟨rfl, hb1⟩
  have HK1 : Hid (Kept blk w0 w1) := Kept.of_below hb1
  have HR1 : Hid (RdAt w1 blk p) := HR0.out.keep hb1
  clear hb1
  cases hbk : bookT xs es with
  | false =>
    go_wp2_with fail
    refine (l13AnyWord_any w1 blk p HR1.out (by omega)).mono ?_
    rintro e w2 ⟨s, rfl, hsd, ⟨q, hr2, hq⟩, hk2⟩
    have HR2 : Hid (RdAt w2 blk q) := hr2
    have HK2 : Hid (Kept blk w w2) := (HK0.out.trans HK1.out).trans hk2
    clear hr2 hk2
    go_wp2
    go_ret
    exact ⟨s, rfl, hsd, ⟨q, HR2.out, by omega⟩, HK2.out⟩
  | true =>
    go_wp2_with fail
    refine (pick_any w1 blk p 2 HR1.out (by omega) (by omega)).mono ?_
    rintro e w2 ⟨v, rfl, -, -, hr2, hk2⟩
    have HR2 : Hid (RdAt w2 blk (p + 1)) := hr2
    have HK2 : Hid (Kept blk w w2) := (HK0.out.trans HK1.out).trans hk2
    have HB2 : Hid (w2.heap[w.heap.size]? = some (.cells #[.slice b0 xs.length c0, .slice b1 es.length c1] 40 (0, 0))) := ((HK1.out.trans hk2).block _ hz0 (by omega)).trans HB0.out
    have x0 : w2.cell? ⟨w.heap.size, 0, none⟩ = some (.slice b0 xs.length c0) := by rw [cell_of_row _ _ 0 _ _ _ HB2.out]; rfl
    have x1 : w2.cell? ⟨w.heap.size, 1, none⟩ = some (.slice b1 es.length c1) := by rw [cell_of_row _ _ 1 _ _ _ HB2.out]; rfl
    clear hr2 hk2
    cases hv : (v == 0) with
    | false =>
      go_wp2_with fail
      refine (l13AnyWord_any w2 blk (p + 1) HR2.out (by omega)).mono ?_
      rintro e w3 ⟨s, rfl, hsd, ⟨q, hr3, hq⟩, hk3⟩
      have HR3 : Hid (RdAt w3 blk q) := hr3
      have HK3 : Hid (Kept blk w w3) := HK2.out.trans hk3
      clear hr3 hk3
      go_wp2
      go_ret
      exact ⟨s, rfl, hsd, ⟨q, HR3.out, by omega⟩, HK3.out⟩
    | true =>
      go_wp2_with fail
      refine (l2Words_any w2 _ _ xs es (affsAt_of_small (owns_kept HOA.out HK2.out hlo) HXS.out) (entsAt_of_owns (owns_kept HOE.out HK2.out hlo) HES.out) hbk).mono ?_
      rintro e w3 ⟨vw, rfl, ht3, hb3⟩
      obtain ⟨g, cp, hvw, -⟩ := id ht3
      subst hvw
      have hsl := wordsTo_len xs es es.length
      have hsz := wordsTo_size xs es es.length
      generalize wordsTo xs es es.length = ss at ht3 hsl hsz ⊢
      have HSZ : Hid (∀ x ∈ ss, x.size ≤ 12) := hsz
      clear hsz
      have HT3 : Hid (TextRow w3 (.slice (some ⟨g, 0, none⟩) ss.length cp) ss) := ht3
      have HR3 : Hid (RdAt w3 blk (p + 1)) := HR2.out.keep hb3
      have HK3 : Hid (Kept blk w w3) := HK2.out.trans (Kept.of_below hb3)
      clear ht3 hb3 x0 x1
      by_cases hl : (0 : Int) < (ss.length : Int)
      · go_wp2_with fail
        refine (pick_any w3 blk (p + 1) (ss.length : Int) HR3.out (by omega) (by omega)).mono ?_
        rintro e w4 ⟨i, rfl, hi0, hi1, hr4, hk4⟩
        obtain ⟨j, rfl⟩ := Int.eq_ofNat_of_zero_le hi0
        have hj : j < ss.length := by have := hi1 (by omega); omega
        obtain ⟨s, hs⟩ : ∃ s, ss[j]? = some s := ⟨_, List.getElem?_eq_getElem hj⟩
        have hs12 : s.size ≤ 20 := Nat.le_trans (HSZ.out s (List.mem_of_getElem? hs)) (by decide)
        have HR4 : Hid (RdAt w4 blk (p + 1 + 1)) := hr4
        have HK4 : Hid (Kept blk w w4) := HK3.out.trans hk4
        have d2 : w4.cell? ⟨g, 0 + j, none⟩ = some (.string s) := by
          obtain ⟨g', cp', hv', -, hcc, -⟩ := textRow_kept HT3.out HR3.out hk4
          simp only [Value.slice.injEq, Option.some.injEq, Addr.mk.injEq, and_true, true_and] at hv'
          obtain ⟨rfl, -⟩ := hv'
          rw [Nat.zero_add]
          exact hcc j s hs
        have d2' : w4.cell? ⟨g, j, none⟩ = some (.string s) := by rw [Nat.zero_add] at d2; exact d2
        have i0 : (0 : Int) ≤ (j : Int) := by omega
        have i1 : (j : Int) < (ss.length : Int) := by omega
        clear hr4 hk4 hi0 hi1 hs
        go_wp2
        go_ret
        exact ⟨s, rfl, hs12, ⟨_, HR4.out, by omega⟩, HK4.out⟩
      · go_wp2_with fail
        refine (l13AnyWord_any w3 blk (p + 1) HR3.out (by omega)).mono ?_
        rintro e w4 ⟨s, rfl, hsd, ⟨q, hr4, hq⟩, hk4⟩
        have HR4 : Hid (RdAt w4 blk q) := hr4
        have HK4 : Hid (Kept blk w w4) := HK3.out.trans hk4
        clear hr4 hk4
        go_wp2
        go_ret
        exact ⟨s, rfl, hsd, ⟨q, HR4.out, by omega⟩, HK4.out⟩
end Go.Proofs.Ythikcililececaa
/-
  A book and a text drawn.
-/
namespace Go.Proofs.Ythikcililececaa
open Go.RowKit
set_option linter.unusedVariables false
set_option maxRecDepth 100000 in
set_option maxHeartbeats 1000000 in
theorem drawBookKnows_any (w : World) (a : Option Addr) (len cap : Nat) (zs : List Int) (h : IsRow .u8 w a len cap zs) :
    Calls Try.prog 43 #[.slice a len cap] w fun e w' => ∃ (va ve : Value) (xs : List Aff) (es : List (ByteArray × ByteArray)) (s : ByteArray), e = .returned (.tuple #[.agg #[va, ve], .string s]) ∧ AffsAt w' va xs ∧ EntsAt w' ve es ∧ s.size ≤ 20 ∧ xs.length ≤ 5 ∧ es.length ≤ 25 ∧ (∀ a ∈ xs, a.small) ∧ (∀ e ∈ es, e.1.size ≤ 20 ∧ e.2.size ≤ 20) ∧ Below w.heap.size w w' := by
  have HI : Hid (IsRow .u8 w a len cap zs) := h
  clear h
  go_enter Try.func43, Try.ntmps43
  go_wp2_with fail
  obtain ⟨w0, hw0⟩ : ∃ x, w.alloc (.cells #[.slice none 0 0, .slice none 0 0] 40) = x := ⟨_, rfl⟩
  have HI0 : IsRow .u8 w0 a len cap zs := by rw [← hw0]; exact HI.out.keep ((Below.refl w.heap.size w).alloc (Nat.le_refl _) _)
  have HR0 : Hid (w0.heap[w.heap.size]? = some (.cells #[.slice none 0 0, .slice none 0 0] 40 (0, 0))) := by show _ = _; rw [← hw0]; exact heap_alloc_last w _
  have HB0 : Hid (Below w.heap.size w w0) := by rw [← hw0]; exact (Below.refl w.heap.size w).alloc (Nat.le_refl _) _
  have hz0 : w0.heap.size = w.heap.size + 1 := by rw [← hw0]; simp
  rw [hw0]
  clear hw0
  refine (open_any w0 a len cap zs HI0).mono ?_
  rintro e w1 ⟨rfl, hr1, hb1⟩
  have HR1 : Hid (RdAt w1 (w.heap.size + 1) 0) := by rw [← hz0]; exact hr1
  have HB1 : Hid (Below w0.heap.size w0 w1) := hb1
  clear hr1 hb1 HI0
  go_wp2_with fail
  refine (l13AnyBook_any w1 (w.heap.size + 1) 0 HR1.out (by omega)).mono ?_
  rintro e w2 ⟨va, ve, xs, es, rfl, hoa, hoe, hx, he, hxs, hes, ⟨q2, hr2, hq2⟩, hk2⟩
  have hz1 : w.heap.size + 1 < w1.heap.size := HR1.out.lt
  have hz2 : w1.heap.size ≤ w2.heap.size := hk2.size
  obtain ⟨b0, c0, rfl⟩ := owns_form hoa
  obtain ⟨b1, c1, rfl⟩ := owns_form hoe
  have HXS : Hid (∀ a ∈ xs, a.small) := hxs
  have HES : Hid (∀ e ∈ es, e.1.size ≤ 20 ∧ e.2.size ≤ 20) := hes
  obtain ⟨w3, hw3⟩ : ∃ x, w2.alloc (.cells #[.slice b0 xs.length c0, .slice b1 es.length c1] 40) = x := ⟨_, rfl⟩
  have HKK : Hid (Kept (w.heap.size + 1) w1 w3) := by rw [← hw3]; exact hk2.alloc _
  have HOA : Hid (w3.ownsRow w1.heap.size 34 5 (.slice b0 xs.length c0) xs.length (affCells xs)) := by rw [← hw3]; exact owns_past hoa
  have HOE : Hid (w3.ownsRow w1.heap.size 25 2 (.slice b1 es.length c1) es.length (entCells es)) := by rw [← hw3]; exact owns_past hoe
  have HR3 : Hid (RdAt w3 (w.heap.size + 1) q2) := by rw [← hw3]; exact hr2.alloc _
  have hBx : w3.heap[w2.heap.size]? = some (.cells #[.slice b0 xs.length c0, .slice b1 es.length c1] 40 (0, 0)) := by rw [← hw3]; exact heap_alloc_last w2 _
  have HBx : Hid (w3.heap[w2.heap.size]? = some (.cells #[.slice b0 xs.length c0, .slice b1 es.length c1] 40 (0, 0))) := hBx
  have hz3 : w2.heap.size < w3.heap.size := by rw [← hw3]; simp
  have HRb : Hid (w3.heap[w.heap.size]? = some (.cells #[.slice none 0 0, .slice none 0 0] 40 (0, 0))) := (HKK.out.block w.heap.size (by omega) (by omega)).trans ((HB1.out.block w.heap.size (by omega)).trans HR0.out)
  have x0 : w3.cell? ⟨w2.heap.size, 0, none⟩ = some (.slice b0 xs.length c0) := by rw [cell_of_row _ _ 0 _ _ _ hBx]; rfl
  have x1 : w3.cell? ⟨w2.heap.size, 1, none⟩ = some (.slice b1 es.length c1) := by rw [cell_of_row _ _ 1 _ _ _ hBx]; rfl
  clear hoa hoe hxs hes hr2 hk2 hBx
  go_wp2_with fail
  clear hw3
  go_region_law (go_simp; go_at_call 61; refine (l13Of_any _ (w.heap.size + 1) q2 w1.heap.size b0 b1 c0 c1 xs es (HR3.out.drewN 1) (by omega) (by exact owns_kept HOA.out ((Kept.refl (w.heap.size + 1) w3).drewN 1) (by omega)) (by exact owns_kept HOE.out ((Kept.refl (w.heap.size + 1) w3).drewN 1) (by omega)) (by omega) HXS.out HES.out he).mono ?_; rintro e w8 ⟨s, rfl, hsd, -, hk8⟩; have HK8 : Hid (Kept (w.heap.size + 1) w3 w8) := kept_drew hk8; have HB8 : Hid (w8.heap[w2.heap.size]? = some (.cells #[.slice b0 xs.length c0, .slice b1 es.length c1] 40 (0, 0))) := (HK8.out.block _ hz3 (by omega)).trans HBx.out; have HR8 : Hid (w8.heap[w.heap.size]? = some (.cells #[.slice none 0 0, .slice none 0 0] 40 (0, 0))) := (HK8.out.block _ (by omega) (by omega)).trans HRb.out; have y0 : w8.cell? ⟨w2.heap.size, 0, none⟩ = some (.slice b0 xs.length c0) := (by rw [cell_of_row _ _ 0 _ _ _ HB8.out]; rfl); have y1 : w8.cell? ⟨w2.heap.size, 1, none⟩ = some (.slice b1 es.length c1) := (by rw [cell_of_row _ _ 1 _ _ _ HB8.out]; rfl); have r0 : w8.cell? ⟨w.heap.size, 0, none⟩ = some (.slice none 0 0) := (by rw [cell_of_row _ _ 0 _ _ _ HR8.out]; rfl); have r1 : w8.cell? ⟨w.heap.size, 1, none⟩ = some (.slice none 0 0) := (by rw [cell_of_row _ _ 1 _ _ _ HR8.out]; rfl); have u0 := Go.Joins.unfrozen_of_block HR8.out 0; have u1 := Go.Joins.unfrozen_of_block HR8.out 1; clear hk8)
  all_goals
    go_wp2
    refine bodyPost_ret (v := .tuple #[.agg #[.slice b0 xs.length c0, .slice b1 es.length c1], .string s]) (by simp [results, Try.results43, go_sem, r0, r1]) rfl ⟨_, _, xs, es, s, rfl, ?_, ?_, hsd, hx, he, HXS.out, HES.out, ((HB0.out.trans ((((HKK.out.trans HK8.out).below HB1.out (by omega))).mono (by omega))).setCell (Nat.le_refl _) _).setCell (Nat.le_refl _) _⟩
    · exact affsAt_of_small (owns_set (owns_set (owns_kept HOA.out HK8.out (by omega)) _ _ _ (by omega)) _ _ _ (by omega)) HXS.out
    · exact entsAt_of_owns (owns_set (owns_set (owns_kept HOE.out HK8.out (by omega)) _ _ _ (by omega)) _ _ _ (by omega)) HES.out
end Go.Proofs.Ythikcililececaa
